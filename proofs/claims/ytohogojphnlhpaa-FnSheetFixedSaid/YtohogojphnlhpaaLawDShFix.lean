/- the walk of laws.FnSheetFixed -/
import Derived.Test.YtohogojphnlhpaaDrawSh
import Derived.Test.YtohogojphnlhpaaShFix
namespace Go.Proofs.Ytohogojphnlhpaa
open Go.RowKit

theorem fix_each {s : Sh} (h : s.fix = true) {i : Nat} (hi : i < s.t.length) : s.t[i].fix = true := by
  unfold Sh.fix at h
  rw [Bool.and_eq_true] at h
  unfold T.fix
  rw [Sh.task_ok h.1 hi]
  have key : ∀ (ps : List T) (i : Nat) (hi : i < ps.length), fixedL ps = true → ps[i].fixed = true := by
    intro ps
    induction ps with
    | nil => intro i hi; simp at hi
    | cons t r ih =>
      intro i hi hf
      simp only [fixedL, Bool.and_eq_true] at hf
      cases i with
      | zero => exact hf.1
      | succ i => exact ih i (by simpa using hi) hf.2
  rw [key _ _ hi h.2]; rfl

set_option maxRecDepth 100000 in
set_option maxHeartbeats 2000000 in
theorem walk_sheetFixed (w : World) (a : Option Addr) (n c : Nat) (h : CodeAt w a n c) :
    Calls Try.prog 7 #[.slice a n c] w fun e w' => e = .returned (.bool true) ∧ Below w.heap.size w w' := by
  have hn := h.1
  have hc := h.2.1
  have HC := Lib.hid h
  clear h
  by_cases hl : 1048576 < n
  · go_enter Try.func7, Try.ntmps7
    go_wp2_with fail
    go_ret
    exact ⟨rfl, Below.refl _ _⟩
  go_enter Try.func7, Try.ntmps7
  go_wp2_with fail
  refine (drawSheetFixed_any _ a n c HC.out).mono ?_
  rintro e w1 ⟨s, v, a', c', rfl, hsh, htl, hml, hnl, hb⟩
  obtain ⟨av, cv, rfl, hat⟩ := hsh.at
  have hsz1 := hb.size
  have HT1 := Lib.hid (hat.alloc (.cells #[.slice av s.m.length cv, .slice a' s.t.length c'] 26))
  have HB1 := Lib.hid (Blk.new w1 26 #[.slice av s.m.length cv, .slice a' s.t.length c'])
  have HX1 := Lib.hid (hb.alloc hsz1 (.cells #[.slice av s.m.length cv, .slice a' s.t.length c'] 26))
  have HTL := Lib.hid htl
  obtain ⟨x, hx⟩ : ∃ x, x = s.fix := ⟨_, rfl⟩
  have HXX := Lib.hid hx
  have hstl : s.t.length ≤ 8 := by omega
  clear hsh hat hb HC htl hx
  go_wp2_with fail
  refine (implShFix_any s _ _ av cv a' c' HT1.out).mono ?_
  rintro e w2 ⟨rfl, hb⟩
  rw [← HXX.out]
  have hsz2 := hb.size
  simp only [World.size_alloc] at hsz2
  have HT2 := Lib.hid (HT1.out.below hb)
  have HB2 := Lib.hid (HB1.out.below hb (by simp))
  have HX2 := Lib.hid (HX1.out.trans (hb.mono (by simp; omega)))
  clear hb HT1 HB1 HX1
  obtain ⟨x0, x1, f0, f1⟩ := HB2.out.two
  go_wp2_with fail
  refine (specShFix_any s _ _ av cv a' c' HT2.out (by omega)).mono ?_
  rintro e w3 ⟨rfl, hb⟩
  rw [← HXX.out]
  have hsz3 := hb.size
  have HT3 := Lib.hid (HT2.out.below hb)
  have HB3 := Lib.hid (HB2.out.below hb (by omega))
  have HX3 := Lib.hid (HX2.out.trans (hb.mono (by omega)))
  clear hb HT2 HB2 HX2 x0 x1 f0 f1
  have hne : (x != x) = false := by simp
  go_wp2_with fail
  clear hne
  go_loopw [6] (fun i wr => ∃ k : Nat, k ≤ s.t.length ∧ i = .int .i64 k ∧ Below w3.heap.size w3 wr) (fun i _ => s.t.length - (intOf i).toNat)
  case atStart => exact ⟨0, by omega, rfl, Below.refl _ _⟩
  case round =>
    obtain ⟨k, hk, rfl, hb⟩ := hrel
    have hszr := hb.size
    have hbk := HB3.out.below hb (by omega)
    have HTR := Lib.hid (HT3.out.below hb)
    have HXR := Lib.hid (HX3.out.trans (hb.mono (by omega)))
    have HBR := Lib.hid hb
    obtain ⟨x0, x1, f0, f1⟩ := hbk.two
    clear hbk hb
    by_cases hlt : k < s.t.length
    · cases x
      · go_wp2_with fail
        go_ret
        exact ⟨rfl, HXR.out⟩
      · obtain ⟨b, o, a2, c2, rfl, hbl, _, e0, e1, e2, hs, ok1, ok2⟩ := HTR.out.2.elem (Below.refl _ _) hlt
        have hfx := fix_each HXX.out.symm hlt
        obtain ⟨t, ht⟩ : ∃ t, t = s.t[k] := ⟨_, rfl⟩
        rw [← ht] at e0 e1 e2 hs hfx
        have HS := Lib.hid hs
        have HF := Lib.hid hfx
        clear ht hs hfx
        go_wp2_with fail
        refine (implFixed_any t _ _ a2 c2 HS.out).mono ?_
        rintro e w4 ⟨rfl, hb⟩
        rw [HF.out]
        have HB4 := Lib.hid (HBR.out.trans (hb.mono hszr))
        clear hb x0 x1 f0 f1 e0 e1 e2
        go_wp2_with fail
        go_roundw
        case rel => exact ⟨k + 1, by omega, by go_num, HB4.out⟩
        case measure => simp [intOf]; omega
    · obtain rfl : k = s.t.length := by omega
      cases x <;>
      · go_wp2_with fail
        go_ret
        exact ⟨rfl, HXR.out⟩
end Go.Proofs.Ytohogojphnlhpaa
