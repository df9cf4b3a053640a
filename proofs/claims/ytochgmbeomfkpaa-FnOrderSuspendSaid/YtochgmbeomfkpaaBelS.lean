/- spec.l4Below -/
import Derived.Test.YtochgmbeomfkpaaSafeS
import Derived.Test.YtochgmbeomfkpaaStepN
import Derived.Test.YtochgmbeomfkpaaRch
import Derived.Test.YtochgmbeomfkpaaOrdP
namespace Go.Proofs.Ytochgmbeomfkpaa
open Go.RowKit

/-- The made keys that a key may fetch, as the model lists them. -/
def chL (s : Sh) (k : Int) : List Int := l3L s k.toNat
theorem chL_nat (s : Sh) (k : Nat) : chL s (k : Int) = l3L s k := rfl
theorem chL_bd {s : Sh} {k j : Int} (h : j ∈ chL s k) : 0 ≤ j ∧ j < s.m.length := (l3_mem h).2
theorem chL_len (s : Sh) (k : Int) : (chL s k).length ≤ 10 := by
  unfold chL l3L
  have := List.length_filter_le (l3p s) (mayI (s.tk k.toNat) 10)
  have := mayI_len (s.tk k.toNat) 10
  omega
/-- The work list's bounds: M are the keys that were put. -/
structure WkB (n L : Nat) (out : Int → Bool) (row M : List Int) : Prop where
  nodup : M.Nodup
  bd : ∀ x ∈ M, 0 ≤ x ∧ x < n
  put : ∀ x ∈ M, out x = true
  len : row.length ≤ L + 10 * M.length
  rb : ∀ x ∈ row, 0 ≤ x ∧ x < n
theorem WkB.size {n L : Nat} {out : Int → Bool} {row M : List Int} (h : WkB n L out row M) : row.length ≤ L + 10 * n := by
  have := nodup_bound n M h.nodup h.bd
  have := h.len
  omega
theorem WkB.add {n L : Nat} {out : Int → Bool} {row M l : List Int} {k : Int} (h : WkB n L out row M) (hk : out k = false) (hb : 0 ≤ k ∧ k < n) (hl : l.length ≤ 10) (hlb : ∀ x ∈ l, 0 ≤ x ∧ x < n) : WkB n L (upd out k) (row ++ l) (k :: M) := by
  refine ⟨List.nodup_cons.2 ⟨fun hm => Bool.noConfusion ((h.put k hm).symm.trans hk), h.nodup⟩, fun x hx => ?_, fun x hx => ?_, ?_, fun x hx => ?_⟩
  · rcases List.mem_cons.1 hx with e | hx
    · rw [e]; exact hb
    · exact h.bd x hx
  · unfold upd
    rcases List.mem_cons.1 hx with e | hx
    · simp [e]
    · simp [h.put x hx]
  · have := h.len
    simp only [List.length_append, List.length_cons]
    omega
  · rcases List.mem_append.1 hx with hx | hx
    · exact h.rb x hx
    · exact hlb x hx

def BelPost (s : Sh) (ks : List Int) (w : World) (e : Ending) (w' : World) : Prop := ∃ (g : Nat) (D : Nat → Bool), e = .returned (.slice (some ⟨g, 0, none⟩) s.m.length s.m.length) ∧ TruN w' g s.m.length D ∧ w.heap.size ≤ g ∧ (∀ k : Nat, k < s.m.length → (D k = true ↔ Rch s.mdI (chL s) ks (k : Int))) ∧ Below w.heap.size w w'

set_option maxRecDepth 100000 in
set_option maxHeartbeats 1500000 in
theorem l4Below_any (s : Sh) (ks : List Int) (w : World) (S0 S1 : Nat → Prop) (a : Option Addr) (c : Nat) (a' : Option Addr) (c' : Nat) (ak : Option Addr) (ck : Nat) (h0 : ShAt w S0 s a c a' c') (hn : nodesL s.t ≤ 1048576) (hok : s.ok = true) (hks : IntsAt w S1 ks ak ck) (hkk : hkB s ks = true) (hkl : ks.length ≤ 1048576) :
    Calls Try.prog 28 #[.agg #[.slice a s.m.length c, .slice a' s.t.length c'], .slice ak ks.length ck] w (BelPost s ks w) := by
  obtain ⟨S, hSd⟩ : ∃ S : Nat → Prop, S = fun b => S0 b ∧ b < w.heap.size := ⟨_, rfl⟩
  have hSl : ∀ b, S b → b < w.heap.size := by rw [hSd]; exact fun b h => h.2
  have h : ShAt w S s a c a' c' := by rw [hSd]; exact h0.lim
  have HSL := Lib.hid hSl
  have K0 := Lib.hid (Ks.start (ty := 32) h)
  have HNN := Lib.hid hn
  have HO := Lib.hid hok
  have HI0 := Lib.hid (hks.alloc (.cells #[.slice a s.m.length c, .slice a' s.t.length c'] 32))
  have hkb : ∀ x ∈ ks, 0 ≤ x ∧ x < s.m.length := fun x hx => by
    unfold hkB at hkk
    rw [List.all_eq_true] at hkk
    have h := hkk x hx
    rwa [decide_eq_true_eq] at h
  have HKB := Lib.hid hkb
  have hm10 : s.m.length ≤ 10 := (Sh.ok_iff.1 hok).1
  obtain ⟨n, hnn⟩ : ∃ n, n = s.m.length := ⟨_, rfl⟩
  have HN := Lib.hid hnn
  have hn10 : n ≤ 10 := by omega
  obtain ⟨KL, hKL⟩ : ∃ n, n = ks.length := ⟨_, rfl⟩
  have HKL := Lib.hid hKL
  obtain ⟨i0, hi, hz0, hz1, hz2⟩ := info_parts infoBool
  have hmk := fun W => run_make_rowN (P := Try.prog) 22 4 i0 _ Try.underlying22 hi hz0 .i64 .i64 n n (Nat.le_refl _) (by rw [hz2]; omega) (by omega) W
  rw [hz1] at hmk
  rw [← hKL] at hkl ⊢
  obtain ⟨x0, x1⟩ := K0.out.box
  rw [← hnn] at x0 K0 HI0 ⊢
  have hr0 := rowN_new ((w.alloc (.cells #[.slice a n c, .slice a' s.t.length c'] 32)).alloc (.cells (madeCells #[.bool false] n) 4))
  simp only [World.size_alloc] at hr0
  have HR0 := Lib.hid hr0
  clear h h0 hSd hSl hn hok hks hkk hkb hm10 hnn hKL hr0
  have hT0 := truN_made (w.alloc (.cells #[.slice a n c, .slice a' s.t.length c'] 32)) n
  simp only [World.size_alloc] at hT0
  have HT0 := Lib.hid hT0
  clear hT0
  go_enter Try.func28, Try.ntmps28
  go_wp2_with (at_builtin; refine wpList_append_ints _ rfl (.tmp 13) (.tmp 14) rfl (w.heap.size + 1 + 1) _ [] rfl HR0.out S1 ks KL ak ck HKL.out rfl ((HI0.out.alloc _).alloc _) ?e3 ?e4 ?_)
  case e3 => rw [← HKL.out]; simp; omega
  case e4 => simp
  intro v6 w6 hr6 hgr6 hn6
  have hB6 : Below (w.heap.size + 1 + 1) ((w.alloc (.cells #[.slice a n c, .slice a' s.t.length c'] 32)).alloc (.cells (madeCells #[.bool false] n) 4)) w6 := ((Below.refl _ _).alloc (by simp) (.cells #[] 3)).trans (below_grown hgr6 (by simp) (by intro k hk; simp [Value.ownBlock] at hk; omega))
  have K6 := Lib.hid ((K0.out.alloc (.cells (madeCells #[.bool false] n) 4)).step (hB6.mono (by simp)))
  have T6 := Lib.hid (HT0.out.below (hB6.mono (by simp)))
  have R6 := Lib.hid (show NumRow w6 (w.heap.size + 1 + 1) v6 ks from hr6)
  have hs6 := hB6.size
  simp only [World.size_alloc] at hs6
  obtain ⟨a6, c6, rfl, _⟩ := ElRow.at (f := Value.int .i64) (e := 3) R6.out
  clear hr6 hgr6 hn6 hB6 K0 HT0 HR0 x0 x1 hmk
  go_wp2_with fail
  go_loopw [6, 7] (fun v i wr => ∃ (out : Int → Bool) (row M : List Int) (q : Nat), i = .int .i64 q ∧ q ≤ row.length ∧ Wk s.mdI (chL s) ks out row q ∧ WkB s.m.length KL out row M ∧ NumRow wr (w.heap.size + 1 + 1) v row ∧ TruN wr (w.heap.size + 1) n (fun k => out (k : Int)) ∧ Ks S s a c a' c' 32 w wr ∧ w.heap.size + 1 + 1 ≤ wr.heap.size) (fun _ i _ => KL + 10 * n + 1 - (intOf i).toNat)
  case atStart =>
    refine ⟨fun _ => false, ks, [], 0, rfl, by omega, Wk.start, ⟨List.nodup_nil, by simp, by simp, by rw [HKL.out]; simp, HKB.out⟩, R6.out, T6.out, K6.out, by omega⟩
  case round =>
    obtain ⟨out, row, M, q, rfl, hq, hwk, hwb, hrow, htr, hks, hsz⟩ := hrel
    have hrl := hwb.size
    rw [← HN.out] at hrl
    have HWK := Lib.hid hwk
    have HWB := Lib.hid hwb
    have HROW := Lib.hid hrow
    have HTR := Lib.hid htr
    have HKS := Lib.hid hks
    obtain ⟨av, cv, rfl, hat⟩ := NumRow.at hrow (fun x hx => by have := hwb.rb x hx; unfold i64ok; have := HN.out; omega)
    have HAT := Lib.hid hat
    obtain ⟨x0, x1⟩ := hks.box
    rw [← HN.out] at x0
    have hlr : row.length ≤ cv ∧ cv ≤ 9223372036854775807 := ⟨hat.1, hat.2.1⟩
    clear hwk hwb hrow htr hks hat K6 T6 R6
    by_cases hlt : q < row.length
    · obtain ⟨bi, oi, rfl, hbi, _, hx⟩ := HAT.out.get (Below.refl _ _) hlt
      have hxb := HWB.out.rb row[q] (List.getElem_mem _)
      obtain ⟨xn, hxn⟩ : ∃ xn : Nat, row[q] = (xn : Int) := ⟨row[q].toNat, by omega⟩
      rw [hxn] at hx
      have hxs : xn < s.m.length := by omega
      have hxm : xn < n := by have := HN.out; omega
      have HXN := Lib.hid hxn
      have HXS := Lib.hid hxs
      have HLT := Lib.hid hlt
      obtain ⟨hcd, hfd⟩ := HTR.out.cell hxm
      obtain ⟨dv, hdv⟩ : ∃ b, b = out (xn : Int) := ⟨_, rfl⟩
      rw [← hdv] at hcd
      have HDV := Lib.hid hdv
      obtain ⟨bm, om, ham, _, _, hcm0⟩ := ElAt.get HKS.out.2.1 (Below.refl _ _) hxs
      have hmd : s.mdI (xn : Int) = s.m[xn] := by rw [mdI_nat]; exact getD_len hxs
      obtain ⟨mv, hmv⟩ : ∃ v, v = s.m[xn] := ⟨_, rfl⟩
      have hcm : wr.cell? ⟨bm, om + xn, none⟩ = some (.bool mv) := by rw [hmv]; exact hcm0
      rw [← hmv] at hmd
      have HMD := Lib.hid hmd
      have HAM := Lib.hid ham
      clear hmd hmv ham hxb hxn hdv hcm0 hxs
      obtain rfl := HAM.out
      cases dv
      · cases mv
        · go_wp2_with fail
          go_roundw
          case rel => exact ⟨out, row, M, q + 1, by go_num, by omega, HWK.out.skip HLT.out (.inr (by rw [HXN.out]; exact HMD.out)), HWB.out, HROW.out, HTR.out, HKS.out, hsz⟩
          case measure => simp [intOf]; omega
        · go_wp2_with fail
          obtain ⟨w7, hw7⟩ : ∃ W, W = wr.setCell ⟨w.heap.size + 1, xn, none⟩ (.bool true) := ⟨_, rfl⟩
          rw [← hw7]
          have hs7 : w7.heap.size = wr.heap.size := by rw [hw7]; simp [World.setCell]
          have K7 := Lib.hid (show Ks S s (some ⟨bm, om, none⟩) c a' c' 32 w w7 by rw [hw7]; exact HKS.out.fr (D := fun b => b = w.heap.size + 1) (Fr.set' (D := fun b => b = w.heap.size + 1) (Fr.of_below (Below.refl _ _)) ⟨w.heap.size + 1, xn, none⟩ rfl _) (fun b hb => by omega) HSL.out)
          have T7 := Lib.hid (show TruN w7 (w.heap.size + 1) n (fun k => upd out (xn : Int) (k : Int)) by
            have h := HTR.out.set_ xn true
            have e : (fun i : Nat => if i = xn then true else out (i : Int)) = (fun k : Nat => upd out (xn : Int) (k : Int)) := by
              funext i
              unfold upd
              by_cases hi : i = xn
              · subst hi; simp
              · have : ¬ (i : Int) = (xn : Int) := by omega
                simp [hi, this]
            rw [e] at h
            rw [hw7]
            exact h)
          have R7 := Lib.hid (show NumRow w7 (w.heap.size + 1 + 1) (.slice (some ⟨bi, oi, none⟩) row.length cv) row by
            rw [hw7]
            exact ownsRow_setCell_other HROW.out (a := ⟨w.heap.size + 1, xn, none⟩) (fun e => by have h5 := own_ge HROW.out _ e; simp only [] at h5; omega) _)
          have HL3 := Lib.hid (l3May_any s xn w7 S (some ⟨bm, om, none⟩) c a' c' K7.out.2 HNN.out HO.out HXS.out)
          rw [← HN.out] at HL3
          clear hw7 x0 x1 hx hcd hfd hcm HAT HTR HKS HROW
          refine HL3.out.mono ?_
          rintro e w8 ⟨v, rfl, hr8, hb8⟩
          obtain ⟨L, hL⟩ : ∃ L, L = l3L s xn := ⟨_, rfl⟩
          rw [← hL] at hr8
          have hLb : ∀ x ∈ L, 0 ≤ x ∧ x < s.m.length := by rw [hL]; exact fun x hx => (l3_mem hx).2
          have hLl : L.length ≤ 10 := by rw [hL]; exact chL_len s (xn : Int)
          obtain ⟨a8, c8, rfl, hia⟩ := hr8.at (fun x hx => by have := hLb x hx; have := HN.out; unfold i64ok; omega)
          have K8 := Lib.hid (K7.out.step hb8)
          have T8 := Lib.hid (T7.out.below hb8)
          have R8 := Lib.hid (ElRow.below (f := Value.int .i64) (e := 3) R7.out hb8)
          have HI8 := Lib.hid hia
          have HLB := Lib.hid hLb
          have HL := Lib.hid hL
          have hs8 := hb8.size
          clear hr8 hb8 hia hLb hL HL3 K7 T7 R7
          go_wp2_with (at_builtin; refine wpList_append_ints _ rfl (.tmp 41) (.tmp 44) rfl (w.heap.size + 1 + 1) _ row rfl R8.out (fun b => w7.heap.size ≤ b) L L.length a8 c8 rfl rfl HI8.out ?f1 ?f2 ?_)
          case f1 => omega
          case f2 => omega
          intro v9 w9 hr9 hgr9 hn9
          have hge := own_ge R8.out
          have hs9 := hgr9.size
          have K9 := Lib.hid (K8.out.fr (D := fun b => (Value.slice (some ⟨bi, oi, none⟩) row.length cv).ownBlock = some b) ⟨hgr9.os, hgr9.tape, hgr9.output, hgr9.size, fun b hb hn => hgr9.block b hb (fun e => hn e.symm)⟩ (fun b hb => by have := hge b hb; omega) HSL.out)
          have T9 := Lib.hid (show TruN w9 (w.heap.size + 1) n (fun k => upd out (xn : Int) (k : Int)) by
            obtain ⟨cs, h1, h2⟩ := T8.out
            exact ⟨cs, (hgr9.block _ h1.lt (fun e => by have := hge _ e.symm; omega)).trans h1, h2⟩)
          have R9 := Lib.hid hr9
          clear hr9 hgr9 hn9 hge K8 T8 R8
          go_wp2_with fail
          go_roundw
          case rel => exact ⟨upd out (xn : Int), row ++ L, (xn : Int) :: M, q + 1, by go_num, by rw [List.length_append]; omega, by
            have h := HWK.out.put HLT.out (by rw [HXN.out]; exact HMD.out)
            rw [HXN.out, chL_nat, ← HL.out] at h
            exact h, HWB.out.add HDV.out.symm ⟨by omega, by have := HXS.out; omega⟩ hLl HLB.out, R9.out, T9.out, K9.out, by omega⟩
          case measure => simp [intOf]; omega
      · go_wp2_with fail
        go_roundw
        case rel => exact ⟨out, row, M, q + 1, by go_num, by omega, HWK.out.skip HLT.out (.inl (by rw [HXN.out]; exact HDV.out.symm)), HWB.out, HROW.out, HTR.out, HKS.out, hsz⟩
        case measure => simp [intOf]; omega
    · have hqe : q = row.length := by omega
      have HFIN := Lib.hid (fun k => HWK.out.done (show row.length ≤ q by omega) k)
      rw [hqe]
      go_wp2_with fail
      go_ret
      exact ⟨w.heap.size + 1, _, by rw [HN.out]; rfl, by rw [← HN.out]; exact HTR.out, by omega, fun k _ => HFIN.out _, HKS.out.done⟩
end Go.Proofs.Ytochgmbeomfkpaa
