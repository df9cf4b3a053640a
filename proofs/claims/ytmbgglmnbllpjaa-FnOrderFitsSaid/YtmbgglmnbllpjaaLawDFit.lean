/- the walk of laws.FnOrderFits -/
import Derived.Test.YtmbgglmnbllpjaaDrawFit
import Derived.Test.YtmbgglmnbllpjaaFitI
import Derived.Test.YtmbgglmnbllpjaaFitS
import Derived.Deep.RegionWith
import Derived.BigQuiet
import Derived.StillTailTactics
namespace Go.Proofs.Ytmbgglmnbllpjaa
open Go.RowKit

/-- An order without its last keys is one. -/
theorem ofB_take {s : Sh} {l o : List Int} (m : Nat) (h : ofB s l o = true) : ofB s l (o.take m) = true := by
  unfold ofB at h ⊢
  rw [Bool.and_eq_true] at h ⊢
  refine ⟨h.1, ?_⟩
  have h2 := h.2
  unfold ofTo at h2 ⊢
  rw [List.all_eq_true] at h2 ⊢
  intro i hi
  rw [List.mem_range, List.length_take] at hi
  have h3 := h2 i (List.mem_range.2 (by omega))
  rw [List.take_take, Nat.min_eq_left (by omega)]
  rw [List.getD_eq_getElem?_getD] at h3 ⊢
  rw [List.getElem?_take, if_pos (by omega)]
  exact h3

set_option maxRecDepth 100000 in
set_option maxHeartbeats 1000000 in
theorem walk_orderFits (w : World) (a : Option Addr) (n c : Nat) (h : CodeAt w a n c) :
    Calls Try.prog 13 #[.slice a n c] w fun e w' => e = .returned (.bool true) ∧ Below w.heap.size w w' := by
  have hn := h.1
  have hc := h.2.1
  have HC := Lib.hid h
  clear h
  by_cases hl : 1048576 < n
  · go_enter Try.func13, Try.ntmps13
    go_wp2_with fail
    go_ret
    exact ⟨rfl, Below.refl _ _⟩
  go_enter Try.func13, Try.ntmps13
  go_wp2_with fail
  refine (drawFits_any _ a n c HC.out).mono ?_
  rintro e w1 ⟨s, av, cv, a', c', l, ai, ci, o, ao, co, rfl, hat, hin, hio, htl, hml, hnl, hll, hol, hb⟩
  have hsz1 := hb.size
  have HT1 := Lib.hid (hat.alloc (.cells #[.slice av s.m.length cv, .slice a' s.t.length c'] 50))
  have HI1 := Lib.hid (hin.alloc (.cells #[.slice av s.m.length cv, .slice a' s.t.length c'] 50))
  have HO1 := Lib.hid (hio.alloc (.cells #[.slice av s.m.length cv, .slice a' s.t.length c'] 50))
  have HB1 := Lib.hid (Blk.new w1 50 #[.slice av s.m.length cv, .slice a' s.t.length c'])
  have HX1 := Lib.hid (hb.alloc hsz1 (.cells #[.slice av s.m.length cv, .slice a' s.t.length c'] 50))
  have hoc : o.length ≤ co ∧ co ≤ 9223372036854775807 := ⟨hio.1, hio.2.1⟩
  obtain ⟨OL, hOL⟩ : ∃ n, n = o.length := ⟨_, rfl⟩
  have HOL := Lib.hid hOL
  rw [← hOL] at hoc hol
  obtain ⟨z, hz⟩ : ∃ z, z = ofB s l o := ⟨_, rfl⟩
  have HZ := Lib.hid hz
  clear hat hin hio hb HC htl hz hOL
  rw [← HOL.out]
  go_wp2_with fail
  have hcc := implFits_any s l o _ _ _ _ av cv a' c' ai ci ao co HT1.out HI1.out HO1.out
  rw [← HOL.out] at hcc
  refine hcc.mono ?_
  clear hcc
  rintro e w2 ⟨rfl, hb⟩
  rw [← HZ.out]
  have hsz2 := hb.size
  simp only [World.size_alloc] at hsz2
  have HT2 := Lib.hid (HT1.out.below hb)
  have HI2 := Lib.hid (HI1.out.below hb)
  have HO2 := Lib.hid (HO1.out.below hb)
  have HB2 := Lib.hid (HB1.out.below hb (by simp))
  have HX2 := Lib.hid (HX1.out.trans (hb.mono (by simp; omega)))
  clear hb HT1 HI1 HO1 HB1 HX1
  obtain ⟨x0, x1, f0, f1⟩ := HB2.out.two
  go_wp2_with fail
  have hcc := specFits_any s l o _ _ _ _ av cv a' c' ai ci ao co HT2.out (by omega) HI2.out HO2.out
  rw [← HOL.out] at hcc
  refine hcc.mono ?_
  clear hcc
  rintro e w3 ⟨rfl, hb⟩
  rw [← HZ.out]
  have hsz3 := hb.size
  have HT3 := Lib.hid (HT2.out.below hb)
  have HI3 := Lib.hid (HI2.out.below hb)
  have HO3 := Lib.hid (HO2.out.below hb)
  have HB3 := Lib.hid (HB2.out.below hb (by omega))
  have HX3 := Lib.hid (HX2.out.trans (hb.mono (by omega)))
  clear hb HT2 HI2 HO2 HB2 HX2 x0 x1 f0 f1
  have hnb : (z != z) = false := by simp
  obtain ⟨x0, x1, f0, f1⟩ := HB3.out.two
  cases z
  · go_wp2_with fail
    go_quiet (fail)
    revert nq
    intro n1
    go_wp2_with fail
    go_ret
    exact ⟨rfl, below_drewN HX3.out _⟩
  · by_cases h0 : OL = 0
    · have hz0 : ((OL : Int) == 0) = true := by simp [h0]
      subst h0
      go_wp2_with fail
      go_quiet (fail)
      revert nq
      intro n1
      go_wp2_with fail
      go_ret
      exact ⟨rfl, below_drewN HX3.out _⟩
    · have hz0 : ((OL : Int) == 0) = false := by
        cases hx : ((OL : Int) == 0)
        · rfl
        · rw [beq_iff_eq] at hx; omega
      have hz1 : (OL == 0) = false := by
        cases hx : (OL == 0)
        · rfl
        · rw [beq_iff_eq] at hx; omega
      have hwr : IntKind.i64.wrap ((OL : Int) - 1) = ((OL - 1 : Nat) : Int) := by rw [show ((OL : Int) - 1) = ((OL - 1 : Nat) : Int) by omega]; exact IntWalk.i64_in _ ⟨by omega, by omega⟩
      have htk : (o.take (OL - 1)).length = OL - 1 := by rw [List.length_take]; have := HOL.out; omega
      have hcc := implFits_any s l (o.take (OL - 1)) w3.drew _ _ _ av cv a' c' ai ci ao co (HT3.out.drewN 1) (HI3.out.drewN 1) ((HO3.out.upto (OL - 1)).drewN 1)
      rw [htk, ofB_take (OL - 1) HZ.out.symm] at hcc
      have HCC := Lib.hid hcc
      have hoc1 : OL - 1 ≤ co := by omega
      have hoc2 : ((OL - 1 : Nat) : Int) ≤ (co : Int) := by omega
      clear hcc htk
      go_wp2_with fail
      go_still_tail 15, (by kernel_rfl)
      go_wp2_with fail
      refine HCC.out.mono ?_
      rintro e w5 ⟨rfl, hb5⟩
      have HX5 := Lib.hid ((below_drewN HX3.out 1).trans (hb5.mono (show w.heap.size ≤ (w3.drewN 1).heap.size from HX3.out.size)))
      go_wp2_with fail
      go_ret
      exact ⟨rfl, HX5.out⟩
end Go.Proofs.Ytmbgglmnbllpjaa
