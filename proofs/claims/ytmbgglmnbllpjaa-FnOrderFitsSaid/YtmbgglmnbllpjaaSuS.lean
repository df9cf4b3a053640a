/- spec.OrderSuspend -/
import Derived.Test.YtmbgglmnbllpjaaKoM
import Derived.Test.YtmbgglmnbllpjaaOrdI
import Derived.Deep.RegionLaw
namespace Go.Proofs.Ytmbgglmnbllpjaa
open Go.RowKit

theorem IntsAt.drew1 {w : World} {S : Nat → Prop} {l : List Int} {a : Option Addr} {c : Nat} (h : IntsAt w S l a c) : IntsAt w.drew S l a c := IntsAt.drew h

set_option maxRecDepth 100000 in
set_option maxHeartbeats 3000000 in
theorem specSuspend_any (s : Sh) (l ks : List Int) (w : World) (S0 S1 S2 : Nat → Prop) (a : Option Addr) (c : Nat) (a' : Option Addr) (c' : Nat) (ai : Option Addr) (ci : Nat) (ak : Option Addr) (ck : Nat) (h0 : ShAt w S0 s a c a' c') (hn : nodesL s.t ≤ 1048576) (hl : IntsAt w S1 l ai ci) (hk0 : IntsAt w S2 ks ak ck) (hkl : ks.length ≤ 1048576) :
    Calls Try.prog 94 #[.agg #[.slice a s.m.length c, .slice a' s.t.length c'], .slice ai l.length ci, .slice ak ks.length ck] w (OrP (suB s l ks) (suL s l ks) w) := by
  have K0 := Lib.hid (Ks.start (ty := 50) h0.lim)
  have L0 := Lib.hid (hl.alloc (.cells #[.slice a s.m.length c, .slice a' s.t.length c'] 50))
  have Q0 := Lib.hid (hk0.lim.alloc (.cells #[.slice a s.m.length c, .slice a' s.t.length c'] 50))
  have HNN := Lib.hid hn
  obtain ⟨KL, hKL⟩ : ∃ n, n = ks.length := ⟨_, rfl⟩
  have HKL := Lib.hid hKL
  rw [← hKL] at hkl ⊢
  obtain ⟨LL, hLL⟩ : ∃ n, n = l.length := ⟨_, rfl⟩
  have HLL := Lib.hid hLL
  rw [← hLL]
  obtain ⟨b, hb⟩ : ∃ b, b = suB s l ks := ⟨_, rfl⟩
  obtain ⟨L, hL⟩ : ∃ L, L = suL s l ks := ⟨_, rfl⟩
  have HNO := Lib.hid (show ∀ (w' : World) (v : Value), suB s l ks = false → Below w.heap.size w w' → NumRow w' w.heap.size v [] → OrP b L w (.returned (.tuple #[v, .bool false])) w' from fun w' v h1 h2 h3 => by rw [hb, hL]; exact OrP.su_no h1 h2 h3)
  have HYES := Lib.hid (show ∀ (w' : World) (v : Value) (o : List Int) (m : Nat), suB s l ks = true → Ends emS (chS s l) (d0S s) ks o m → Below w.heap.size w w' → NumRow w' w.heap.size v o → OrP b L w (.returned (.tuple #[v, .bool true])) w' from fun w' v o m h1 h2 h3 h4 => by rw [hb, hL]; exact OrP.su_yes h1 h2 h3 h4)
  rw [← hb, ← hL]
  clear h0 hl hk0 hKL hLL hb hL hn
  obtain ⟨x0, x1⟩ := K0.out.box
  cases hin : inOk s l
  · have HI := Lib.hid hin
    clear hin
    go_enter Try.func94, Try.ntmps94
    go_wp2_with fail
    have hc := specInputs_any s l _ _ _ a c a' c' ai ci K0.out.2 HNN.out L0.out
    rw [← HLL.out] at hc
    refine hc.mono ?_
    clear hc
    rintro e w1 ⟨rfl, hb⟩
    rw [HI.out]
    have K1 := Lib.hid (K0.out.step hb)
    clear hb x0 x1
    go_wp2_with fail
    go_ret2
    exact HNO.out _ _ (by unfold suB; rw [HI.out]; rfl) (K1.out.alloc _).done (ownsRow_low (rowN_new w1) (by have := K1.out.size; omega))
  cases hkb : kyB s ks
  · have HI := Lib.hid hin
    have HK := Lib.hid hkb
    clear hin hkb
    go_enter Try.func94, Try.ntmps94
    go_wp2_with fail
    have hc := specInputs_any s l _ _ _ a c a' c' ai ci K0.out.2 HNN.out L0.out
    rw [← HLL.out] at hc
    refine hc.mono ?_
    clear hc
    rintro e w1 ⟨rfl, hb⟩
    rw [HI.out]
    have K1 := Lib.hid (K0.out.step hb)
    have Q1 := Lib.hid (Q0.out.below hb)
    clear hb x0 x1
    obtain ⟨x0, x1⟩ := K1.out.box
    go_wp2_with fail
    have hc := l4Keys_any s ks w1 _ _ a c a' c' ak ck K1.out.2 HNN.out Q1.out
    rw [← HKL.out] at hc
    refine hc.mono ?_
    clear hc
    rintro e w2 ⟨rfl, hb⟩
    rw [HK.out]
    have K2 := Lib.hid (K1.out.step hb)
    clear hb x0 x1
    go_wp2_with fail
    go_ret2
    have hno : hkB s ks = false := by
      have h := HK.out
      unfold kyB at h
      rw [(inOk_of HI.out).1, Bool.and_true] at h
      exact h
    exact HNO.out _ _ (by unfold suB; rw [hno]; simp) (K2.out.alloc _).done (ownsRow_low (rowN_new w2) (by have := K2.out.size; omega))
  have hhk : hkB s ks = true := by
    unfold kyB at hkb
    rw [Bool.and_eq_true] at hkb
    exact hkb.1
  have hok := (inOk_of hin).1
  have h10 : s.m.length ≤ 10 := (Sh.ok_iff.1 hok).1
  have HLM := Lib.hid (show LL = s.m.length by rw [HLL.out]; exact (inOk_of hin).2.1)
  have hll10 : LL ≤ 10 := by have := HLM.out; omega
  have HI := Lib.hid hin
  have HK := Lib.hid hkb
  have HHK := Lib.hid hhk
  have HSO := Lib.hid hok
  clear hin hkb hhk hok
  go_enter Try.func94, Try.ntmps94
  go_wp2_with fail
  have hc := specInputs_any s l _ _ _ a c a' c' ai ci K0.out.2 HNN.out L0.out
  rw [← HLL.out] at hc
  refine hc.mono ?_
  clear hc
  rintro e w1 ⟨rfl, hb⟩
  rw [HI.out]
  have K1 := Lib.hid (K0.out.step hb)
  have L1 := Lib.hid (L0.out.below hb)
  have Q1 := Lib.hid (Q0.out.below hb)
  clear hb x0 x1 K0 L0 Q0
  obtain ⟨x0, x1⟩ := K1.out.box
  go_wp2_with fail
  have hc := l4Keys_any s ks w1 _ _ a c a' c' ak ck K1.out.2 HNN.out Q1.out
  rw [← HKL.out] at hc
  refine hc.mono ?_
  clear hc
  rintro e w2 ⟨rfl, hb⟩
  rw [HK.out]
  have K2 := Lib.hid (K1.out.step hb)
  have L2 := Lib.hid (L1.out.below hb)
  have Q2 := Lib.hid (Q1.out.below hb)
  have hs2 := (K1.out.step hb).size
  clear hb x0 x1 K1 L1 Q1
  obtain ⟨x0, x1⟩ := K2.out.box
  go_wp2_with fail
  have hwlt : w.heap.size < w2.heap.size := by omega
  have hwne : w.heap.size ≠ w2.heap.size := by omega
  obtain ⟨v0, v1⟩ := (K2.out.alloc (.cells #[] 3)).drew.box
  have HN1 := Lib.hid (NumRow.dr (rowN_new w2))
  have HN2 := Lib.hid (show NumRow (w2.drew.alloc (.cells #[] 3)) w2.heap.size (.slice (some ⟨w2.heap.size, 0, none⟩) 0 0) [] from rowN_new w2.drew)
  have HI1 := Lib.hid ((L2.out.alloc (.cells #[] 3)).drew)
  have HI2 := Lib.hid (L2.out.drew.alloc (.cells #[] 3))
  have HLN := Lib.hid (show ([] : List Int).length + l.length ≤ 10000000 by rw [← HLL.out]; simp; omega)
  have HS1 := Lib.hid (show w2.heap.size ≤ (w2.alloc (.cells #[] 3)).drew.heap.size by simp [World.drew])
  have HS2 := Lib.hid (show w2.heap.size ≤ (w2.drew.alloc (.cells #[] 3)).heap.size by rw [World.size_alloc]; exact Nat.le_succ _)
  have HB1 := Lib.hid (show Below w2.heap.size w2 (w2.alloc (.cells #[] 3)).drew from ((Below.refl _ _).alloc (Nat.le_refl _) _).drew)
  have HB2 := Lib.hid (show Below w2.heap.size w2 (w2.drew.alloc (.cells #[] 3)) from ((Below.refl _ _).drew).alloc (Nat.le_refl _) _)
  go_region_law (first
    | (refine step_append_ints rfl (.tmp 24) (.tmp 25) rfl w2.heap.size (Value.slice (some ⟨w2.heap.size, 0, none⟩) 0 0) [] rfl HN1.out S1 l LL ai ci HLL.out rfl HI1.out HLN.out HS1.out ?_
       intro vv w4 hr4 hgr4 hn4
       have hB4 := HB1.out.trans (below_grown hgr4 HS1.out (by intro k hk; simp [Value.ownBlock] at hk; omega))
       obtain ⟨av, cv, rfl, _⟩ := ElRow.at (f := Value.int .i64) (e := 3) hr4
       obtain ⟨z0, z1⟩ := (K2.out.step hB4).box)
    | (refine step_append_ints rfl (.tmp 24) (.tmp 25) rfl w2.heap.size (Value.slice (some ⟨w2.heap.size, 0, none⟩) 0 0) [] rfl HN2.out S1 l LL ai ci HLL.out rfl HI2.out HLN.out HS2.out ?_
       intro vv w4 hr4 hgr4 hn4
       have hB4 := HB2.out.trans (below_grown hgr4 HS2.out (by intro k hk; simp [Value.ownBlock] at hk; omega))
       obtain ⟨av, cv, rfl, _⟩ := ElRow.at (f := Value.int .i64) (e := 3) hr4
       obtain ⟨z0, z1⟩ := (K2.out.step hB4).box))
  all_goals
    have hv4 := World.ownsRow.lt hr4
    have hs4 := hB4.size
    have hst : OnSt (w4.alloc (.cells #[.slice a s.m.length c, .slice a' s.t.length c', .slice av l.length cv, .slice none 0 0, .slice none 0 0] 118)) w4.heap.size (w.heap.size + 1) s a c a' c' (.slice av l.length cv) (.slice none 0 0) (.slice none 0 0) l [] [] :=
      ⟨Blk.new w4 118 _, World.ownsRow.alloc (ownsRow_low (show NumRow w4 w2.heap.size (.slice av l.length cv) l from hr4) (by omega)) _, World.ownsRow_nil _ _ _ _, World.ownsRow_nil _ _ _ _, fun e => by have := (hv4 _ e).2; omega, fun e => by simp [Value.ownBlock] at e, fun e => by simp [Value.ownBlock] at e, fun b _ e => by simp [Value.ownBlock] at e, fun b _ e => by simp [Value.ownBlock] at e, fun b e _ => by simp [Value.ownBlock] at e⟩
    have hdok : DOk s l l [] := ⟨by simp, by simp, fun x hx => (gr_S HSO.out l).d0ok x (by rw [dnS_nil] at hx; exact hx), rfl, fun x _ => by
      rw [dnS_nil]
      unfold d0S
      cases hm : s.mdI x
      · rw [vsS_free HSO.out hm]; simp
      · simp⟩
    have H5 := Lib.hid (And.intro hst (And.intro hdok (And.intro ((K2.out.step hB4).alloc (.cells #[.slice a s.m.length c, .slice a' s.t.length c', .slice av l.length cv, .slice none 0 0, .slice none 0 0] 118)) ((Q2.out.below hB4).alloc (.cells #[.slice a s.m.length c, .slice a' s.t.length c', .slice av l.length cv, .slice none 0 0, .slice none 0 0] 118)))))
    have hq4 : w.heap.size + 1 ≤ w4.heap.size := by omega
    clear hv4 hst hdok hr4 hgr4 hn4 hB4 z0 z1 v0 v1 x0 x1 HN1 HN2 HI1 HI2 HLN HS1 HS2 HB1 HB2 hwlt hwne
    go_wp2_with fail
    go_loopw [9] (fun i wr => ∃ (k : Nat) (dv uv : Value) (vl D : List Int), k ≤ KL ∧ i = .int .i64 k ∧ OnSt wr w4.heap.size (w.heap.size + 1) s a c a' c' (.slice av l.length cv) dv uv vl D [] ∧ DOk s l vl D ∧ Ks (fun b => S0 b ∧ b < w.heap.size) s a c a' c' 50 w wr ∧ IntsAt wr (fun b => S2 b ∧ b < w.heap.size) ks ak ck ∧
      (∀ q o m, Ends emS (chS s l) (dnS s D) q o m → ∃ m', Ends emS (chS s l) (d0S s) (ks.take k ++ q) (D ++ o) m') ∧ (∀ x ∈ ks.take k, okS s l x = true)) (fun i _ => KL - (intOf i).toNat)
    case atStart => exact ⟨0, _, _, l, [], by omega, rfl, H5.out.1, H5.out.2.1, H5.out.2.2.1, H5.out.2.2.2, fun q o m h => ⟨m, by rw [dnS_nil] at h; exact h⟩, by simp⟩
    case round =>
      obtain ⟨k, dv, uv, vl, D, hk, rfl, hst, hdok, hKs, hki, hsim, hall⟩ := hrel
      have H6 := Lib.hid (And.intro hst (And.intro hdok (And.intro hKs (And.intro hki (And.intro hsim hall)))))
      have hws := hKs.size
      obtain ⟨y0, y1, y2, y3, y4, _⟩ := Blk.five hst.bd
      have hDl : D.length ≤ s.m.length := nodup_bound _ D hdok.nod (fun x hx => mdI_bd (hdok.md x hx))
      obtain ⟨ad, cd, rfl, hid⟩ := hst.d.at (fun x hx => by have := mdI_bd (hdok.md x hx); unfold i64ok; omega)
      have HID := Lib.hid hid
      clear H5 hst hdok hKs hki hsim hall hid
      by_cases hlt : k < KL
      · have hlt2 : k < ks.length := by have := HKL.out; omega
        obtain ⟨bk, ok, rfl, hbkl, _, hc⟩ := H6.out.2.2.2.1.get (Below.refl _ _) hlt2
        obtain ⟨key, hkey⟩ : ∃ key, key = ks[k] := ⟨_, rfl⟩
        have hkr : 0 ≤ key ∧ key < s.m.length := by
          have h := HHK.out
          unfold hkB at h
          rw [List.all_eq_true] at h
          have h := h ks[k] (List.getElem_mem _)
          rw [decide_eq_true_eq] at h
          rw [hkey]; exact h
        rw [← hkey] at hc
        have HKEY := Lib.hid hkey
        have HL2 := Lib.hid hlt2
        have hpre : KoPre (fun b => S0 b ∧ b < w.heap.size) s l w4.heap.size (w.heap.size + 1) a c a' c' (.slice av l.length cv) (.slice ad D.length cd) uv vl D [] key wr :=
          ⟨HI.out, H6.out.2.2.1.2, fun b hb => by have := hb.2; omega, hq4, H6.out.1, H6.out.2.1, hkr.1, by omega, Hyp.nil, by simp⟩
        have HCALL := Lib.hid (ko_all (s.m.length + 1) _ _ vl D [] key wr (by simp) hpre)
        have hge := H6.out.1.ge hq4
        have HGE := Lib.hid hge
        clear hkey hkr hpre hge HID
        go_wp2_with fail
        refine HCALL.out.mono ?_
        rintro e w6 ⟨dv2, uv2, vl2, D2, x, b2, rfl, hst2, hfr2, _, _, hor⟩
        have hK2 := H6.out.2.2.1.fr hfr2 HGE.out (fun _ h => h.2)
        have hk2 := H6.out.2.2.2.1.fr hfr2 (fun b hb h => by have := HGE.out b h; have := hb.2; omega)
        have H7 := Lib.hid (And.intro hst2 (And.intro hK2 hk2))
        clear hst2 hfr2 hK2 hk2 HCALL HGE y0 y1 y2 y3 y4
        rcases hor with ⟨rfl, hoky, _, hdok2, hdk2, X, hX, _, hvis⟩ | ⟨rfl, hnok⟩
        · have hsim2 := sim_step HL2.out H6.out.2.2.2.2.1 (by rw [← HKEY.out]; exact hvis)
          have hall2 : ∀ x ∈ ks.take (k + 1), okS s l x = true := fun x hx => by
            rw [List.take_succ_eq_append_getElem HL2.out, List.mem_append, List.mem_singleton] at hx
            rcases hx with hx | rfl
            · exact H6.out.2.2.2.2.2 x hx
            · rw [← HKEY.out]; exact hoky
          have H8 := Lib.hid (And.intro hdok2 (And.intro (show ∀ q o m, Ends emS (chS s l) (dnS s D2) q o m → ∃ m', Ends emS (chS s l) (d0S s) (ks.take (k + 1) ++ q) (D2 ++ o) m' from fun q o m h => by rw [hX]; exact hsim2 q o m h) hall2))
          clear hoky hdok2 hdk2 hX hvis hsim2 hall2
          go_wp2_with fail
          go_roundw
          case rel => exact ⟨k + 1, dv2, uv2, vl2, D2, by omega, by go_num, H7.out.1, H8.out.1, H7.out.2.1, H7.out.2.2, H8.out.2.1, H8.out.2.2⟩
          case measure => simp [intOf]; omega
        · have hno : suB s l ks = false := by
            unfold suB
            rw [all_fls HL2.out (by rw [← HKEY.out]; exact hnok), Bool.and_false]
          have HF := Lib.hid hno
          clear hnok hno
          go_wp2_with fail
          go_ret2
          exact HNO.out _ _ HF.out (H7.out.2.1.alloc _).done (ownsRow_low (rowN_new w6) (by have := H7.out.2.1.size; omega))
      · have hq : ks.take k = ks := List.take_of_length_le (by have := HKL.out; omega)
        have hyes : suB s l ks = true := by
          unfold suB
          rw [HI.out, HHK.out, Bool.true_and, Bool.true_and, List.all_eq_true]
          intro x hx
          exact H6.out.2.2.2.2.2 x (by rw [hq]; exact hx)
        have hends : ∃ m', Ends emS (chS s l) (d0S s) ks D m' := by
          obtain ⟨m', h⟩ := H6.out.2.2.2.2.1 [] [] 0 (.nil _)
          rw [hq, List.append_nil, List.append_nil] at h
          exact ⟨m', h⟩
        have HY := Lib.hid (And.intro hyes hends)
        have hqr : w4.heap.size < wr.heap.size := H6.out.1.bd.lt
        clear hq hyes hends
        go_wp2_with (at_builtin; refine wpList_append_ints _ rfl (.tmp 47) (.tmp 51) rfl wr.heap.size _ [] rfl (rowN_new wr) _ D D.length ad cd rfl rfl (HID.out.alloc _) ?d1 ?d2 ?_)
        case d1 => simp; omega
        case d2 => simp
        intro vr w7 hr7 hgr7 _
        have hB7 : Below wr.heap.size wr w7 := ((Below.refl wr.heap.size wr).alloc (Nat.le_refl _) (.cells #[] 3)).trans (below_grown hgr7 (by simp) (by intro k hk; simp [Value.ownBlock] at hk; omega))
        have H8 := Lib.hid (And.intro hr7 (H6.out.2.2.1.step hB7))
        clear hr7 hgr7 hB7
        go_wp2_with fail
        go_ret2
        obtain ⟨m', h⟩ := HY.out.2
        exact HYES.out _ _ _ _ HY.out.1 h H8.out.2.done (ownsRow_low H8.out.1 (by omega))
end Go.Proofs.Ytmbgglmnbllpjaa
