/- impl.OrderTopo -/
import Derived.Test.YtochgmbeomfkpaaTopI
import Derived.Test.YtochgmbeomfkpaaSafeI
namespace Go.Proofs.Ytochgmbeomfkpaa
open Go.RowKit

theorem nT_of {s : Sh} {ks : List Int} {D : Int → Bool} (h : NotP s.mdI (chL s) (fun _ => false) ks D) : D = nT s ks := by
  funext k
  rw [Bool.eq_iff_iff, h.all k, nT_iff]

theorem Topo.topS {N : Int → Bool} {ch : Int → List Int} {out res : List Int} (h : Topo N ch out res) : TopS N ch out → TopS N ch res := by
  induction h with
  | stop _ => exact id
  | step hk _ _ ih => exact fun hs => ih (hs.next hk)
theorem tpL_bd (s : Sh) (ks : List Int) : (∀ x ∈ tpL s ks, 0 ≤ x ∧ x < 10) ∧ (tpL s ks).length ≤ 160 := by
  unfold tpL
  split
  · rename_i h
    have hs := (h.2.choose_spec).topS TopS.start
    have hok : s.ok = true := by
      have h1 : (safeB s && (hkB s ks && s.ok)) = true := h.1
      rw [Bool.and_eq_true, Bool.and_eq_true] at h1
      exact h1.2.2
    have h10 := (Sh.ok_iff.1 hok).1
    refine ⟨fun x hx => ?_, ?_⟩
    · have := nT_bd (hs.inn x hx); omega
    · have := hs.len (fun _ hk => nT_bd hk); omega
  · exact ⟨(by intro x hx; cases hx), Nat.zero_le _⟩

set_option maxRecDepth 100000 in
set_option maxHeartbeats 4000000 in
theorem implTopo_any (s : Sh) (ks : List Int) (w : World) (S0 S2 : Nat → Prop) (a : Option Addr) (c : Nat) (a' : Option Addr) (c' : Nat) (ak : Option Addr) (ck : Nat) (h0 : ShAt w S0 s a c a' c') (hk0 : IntsAt w S2 ks ak ck) :
    Calls Try.prog 10 #[.agg #[.slice a s.m.length c, .slice a' s.t.length c'], .slice ak ks.length ck] w (OrP (tpB s ks) (tpL s ks) w) := by
  obtain ⟨S, hSd⟩ : ∃ S : Nat → Prop, S = fun b => S0 b ∧ b < w.heap.size := ⟨_, rfl⟩
  have hSl : ∀ b, S b → b < w.heap.size := by rw [hSd]; exact fun b h => h.2
  have h : ShAt w S s a c a' c' := by rw [hSd]; exact h0.lim
  have HSL := Lib.hid hSl
  have K0 := Lib.hid (Ks.start (ty := 32) h)
  have Q0 := Lib.hid ((hk0.lim.weaken (S' := fun y => y < w.heap.size) (fun y hy => hy.2)).alloc (.cells #[.slice a s.m.length c, .slice a' s.t.length c'] 32))
  have P0 := Lib.hid (Blk.new w 32 #[.slice a s.m.length c, .slice a' s.t.length c'])
  have hkl : ks.length ≤ 9223372036854775807 := by have := hk0.1; have := hk0.2.1; omega
  obtain ⟨KL, hKL⟩ : ∃ n, n = ks.length := ⟨_, rfl⟩
  have HKL := Lib.hid hKL
  rw [← hKL] at hkl ⊢
  obtain ⟨b, hb⟩ : ∃ b, b = tpB s ks := ⟨_, rfl⟩
  obtain ⟨L, hL⟩ : ∃ L, L = tpL s ks := ⟨_, rfl⟩
  have HTB := Lib.hid (show tpB s ks = (safeB s && (hkB s ks && s.ok)) from rfl)
  have HNO := Lib.hid (show ∀ (w' : World) (v : Value), tpB s ks = false → Below w.heap.size w w' → NumRow w' w.heap.size v [] → OrP b L w (.returned (.tuple #[v, .bool false])) w' from fun w' v h1 h2 h3 => by rw [hb, hL]; exact OrP.tp_no h1 h2 h3)
  have HYES := Lib.hid (show ∀ (w' : World) (v : Value) (o : List Int), tpB s ks = true → Topo (nT s ks) (chL s) [] o → Below w.heap.size w w' → NumRow w' w.heap.size v o → OrP b L w (.returned (.tuple #[v, .bool true])) w' from fun w' v o h1 h2 h3 h4 => by rw [hb, hL]; exact OrP.tp_yes h1 h2 h3 h4)
  rw [← hb, ← hL]
  have hmm := @run_makeMap Try.prog
  clear h h0 hk0 hSd hSl hKL hb hL
  obtain ⟨x0, x1⟩ := K0.out.box
  go_enter Try.func10, Try.ntmps10
  go_wp2_with fail
  refine (implSafe_any s _ S a c a' c' K0.out.2).mono ?_
  rintro e w1 ⟨rfl, hb⟩
  have K1 := Lib.hid (K0.out.step hb)
  have Q1 := Lib.hid (Q0.out.below hb)
  have P1 := Lib.hid (P0.out.below hb (by simp))
  clear hb x0 x1 K0 Q0 P0
  obtain ⟨x0, x1⟩ := K1.out.box
  cases hsf : safeB s
  · have HF := Lib.hid (show tpB s ks = false by rw [HTB.out, hsf]; rfl)
    clear hsf
    go_wp2_with fail
    go_ret2
    exact HNO.out _ _ HF.out K1.out.done (World.ownsRow_nil _ _ _ _)
  have HSF := Lib.hid hsf
  clear hsf
  go_wp2_with fail
  rw [HKL.out]
  refine (hasKeys_any s ks w1 S _ a c a' c' ak ck K1.out.2 Q1.out).mono ?_
  rw [← HKL.out]
  rintro e w2 ⟨rfl, hb⟩
  have K2 := Lib.hid (K1.out.step hb)
  have Q2 := Lib.hid (Q1.out.below hb)
  have P2 := Lib.hid (P1.out.below hb P1.out.lt)
  clear hb x0 x1 K1 Q1 P1
  cases hkb : hkB s ks
  · have HF := Lib.hid (show tpB s ks = false by rw [HTB.out, hkb]; simp)
    clear hkb
    go_wp2_with fail
    go_ret2
    exact HNO.out _ _ HF.out K2.out.done (World.ownsRow_nil _ _ _ _)
  have hok : s.ok = true := by have h := HSF.out; unfold safeB at h; rw [Bool.and_eq_true] at h; exact h.1
  have HOK := Lib.hid hok
  have HTT := Lib.hid (show tpB s ks = true by rw [HTB.out, HSF.out, hkb, hok]; rfl)
  have HKK := Lib.hid (show ∀ x ∈ ks, 0 ≤ x ∧ x < s.m.length from fun x hx => by
    have h := hkb
    unfold hkB at h
    rw [List.all_eq_true] at h
    have h := h x hx
    rwa [decide_eq_true_eq] at h)
  have hm10 : s.m.length ≤ 10 := (Sh.ok_iff.1 hok).1
  have hsz2 := K2.out.size
  have N3 := Lib.hid (NdG.start s w2)
  have T3 := Lib.hid (K2.out.2.alloc (.map #[] 0))
  have P3 := Lib.hid (P2.out.alloc (.map #[] 0))
  have Q3 := Lib.hid (Q2.out.alloc (.map #[] 0))
  have B3 := Lib.hid (K2.out.done.alloc K2.out.done.size (.map #[] 0))
  clear hkb hok K2 Q2 P2
  go_wp2_with fail
  go_loopw [21] (fun i wr => ∃ (q : Nat) (D : Int → Bool), q ≤ KL ∧ i = .int .i64 q ∧ NotP s.mdI (chL s) (fun _ => false) (ks.take q) D ∧ NdG wr w2.heap.size s D ∧ ShAt wr S s a c a' c' ∧ Blk wr w.heap.size 32 #[.slice a s.m.length c, .slice a' s.t.length c'] ∧ IntsAt wr (fun y => y < w.heap.size) ks ak ck ∧ Below w.heap.size w wr ∧ w2.heap.size < wr.heap.size) (fun i _ => KL - (intOf i).toNat)
  case atStart => exact ⟨0, _, by omega, rfl, NotP.nil, N3.out, T3.out, P3.out, Q3.out, B3.out, by simp⟩
  case round =>
    obtain ⟨q, D, hq, rfl, hnp, hnd, hsh, hbk, hia, hbl, hsz⟩ := hrel
    have HNP := Lib.hid hnp
    have HND := Lib.hid hnd
    have HSH := Lib.hid hsh
    have HBK := Lib.hid hbk
    have HIA := Lib.hid hia
    have HBL := Lib.hid hbl
    clear hnp hnd hsh hbk hbl N3 T3 P3 Q3 B3
    obtain ⟨x0, x1, -⟩ := HBK.out.two
    by_cases hlt : q < KL
    · have hlt2 : q < ks.length := by have := HKL.out; omega
      obtain ⟨bi, oi, hai, hbi, _, hx⟩ := hia.get (Below.refl _ _) hlt2
      have hxb := HKK.out ks[q] (List.getElem_mem hlt2)
      have HTK := Lib.hid (show ks.take (q + 1) = ks.take q ++ [ks[q]] from List.take_succ_eq_append_getElem hlt2)
      obtain ⟨xn, hxn⟩ : ∃ xn : Nat, ks[q] = (xn : Int) := ⟨ks[q].toNat, by omega⟩
      rw [hxn] at hx HTK
      have hxs : xn < s.m.length := by omega
      have HAI := Lib.hid hai
      have HCL := Lib.hid (note_all w2.heap.size s HOK.out (s.m.length - cntN D s.m.length) wr D xn S a c a' c' (Nat.le_refl _) HSH.out (fun y hy e => by have := HSL.out y hy; omega) hxs HND.out)
      clear hia hai hxb hxn hlt2
      obtain rfl := HAI.out
      go_wp2_with fail
      refine HCL.out.mono ?_
      rintro e w6 ⟨rfl, ⟨D2, hnp2, hnd2⟩, hf6⟩
      have hs6 := hf6.2.2.2.1
      have H6 := Lib.hid (show NotP s.mdI (chL s) (fun _ => false) (ks.take (q + 1)) D2 ∧ NdG w6 w2.heap.size s D2 ∧ ShAt w6 S s a c a' c' ∧ Blk w6 w.heap.size 32 #[.slice a s.m.length c, .slice a' s.t.length c'] ∧ IntsAt w6 (fun y => y < w.heap.size) ks (some ⟨bi, oi, none⟩) ck ∧ Below w.heap.size w w6 ∧ w2.heap.size < w6.heap.size from
        ⟨by rw [HTK.out]; exact HNP.out.snoc hnp2, hnd2, HSH.out.fr hf6 (fun y hy e => by have := HSL.out y hy; omega), HBK.out.fr hf6 (by omega), HIA.out.fr hf6 (fun y hy e => by omega), HBL.out.trans ⟨hf6.1, hf6.2.1, hf6.2.2.1, hs6, fun i hi => hf6.2.2.2.2 i (by have := HBL.out.size; omega) (by omega)⟩, by omega⟩)
      clear hnp2 hnd2 hf6 x0 x1 hx HCL
      go_wp2_with fail
      go_roundw
      case rel => exact ⟨q + 1, D2, by omega, by go_num, H6.out⟩
      case measure => simp [intOf]; omega
    · have hnt : D = nT s ks := nT_of (by have h := HNP.out; rwa [List.take_of_length_le (by have := HKL.out; omega)] at h)
      have HTO := Lib.hid (topoOrder_any s D wr w2.heap.size HND.out (by rw [hnt]; exact fun k hk => nT_bd hk) hm10)
      rw [hnt] at HTO
      clear hia hnt
      go_wp2_with fail
      refine HTO.out.mono ?_
      rintro e w6 ⟨v, o, rfl, ho, hr, hb⟩
      have HR6 := Lib.hid (show NumRow w6 w.heap.size v o from ownsRow_low hr HBL.out.size)
      have HB6 := Lib.hid (HBL.out.trans (hb.mono HBL.out.size))
      have HO6 := Lib.hid ho
      clear hr hb ho HTO x0 x1
      go_wp2_with fail
      go_ret2
      exact HYES.out _ _ _ HTT.out HO6.out HB6.out HR6.out
end Go.Proofs.Ytochgmbeomfkpaa
