/- the walk of laws.FnSheetOk -/
import Derived.Test.YtklmpagpkeffjaaDrawSOk
import Derived.Test.YtklmpagpkeffjaaShOkS
import Derived.Deep.RegionWith
import Derived.BigQuiet
import Derived.StillTailTactics
namespace Go.Proofs.Ytklmpagpkeffjaa
open Go.RowKit

theorem ElAt.upto {α : Type} {f : α → Value} {w : World} {S : Nat → Prop} {l : List α} {a : Option Addr} {c : Nat} (h : ElAt f w S l a c) (i : Nat) : ElAt f w S (l.take i) a c := by
  obtain ⟨h1, h2, h4⟩ := h
  refine ⟨by rw [List.length_take]; omega, h2, ?_⟩
  rcases h4 with h4 | ⟨b, o, ha, hS, hc⟩
  · exact .inl (by rw [h4]; simp)
  · refine .inr ⟨b, o, ha, hS, fun j hj => ?_⟩
    rw [List.getElem_take]
    exact hc j (by rw [List.length_take] at hj; omega)
theorem AtL.upto {w : World} {S : Nat → Prop} : ∀ {ps : List T} {b o : Nat} (i : Nat), AtL w S ps b o → AtL w S (ps.take i) b o
  | [], _, _, _, _ => by simp [AtL]
  | t :: r, b, o, 0, _ => by simp [AtL]
  | t :: r, b, o, i + 1, h => by
    simp only [AtL, List.take_succ_cons] at h ⊢
    exact ⟨h.1, AtL.upto i h.2⟩
theorem AtS.upto {w : World} {S : Nat → Prop} {ps : List T} {a : Option Addr} {c : Nat} (h : AtS w S ps a c) (i : Nat) : AtS w S (ps.take i) a c := by
  obtain ⟨h1, h2, h4⟩ := h
  refine ⟨by rw [List.length_take]; omega, h2, ?_⟩
  rcases h4 with h4 | ⟨b, o, ha, hS, hl⟩
  · exact .inl (by rw [h4]; simp)
  · exact .inr ⟨b, o, ha, hS, hl.upto i⟩
/-- A sheet without its last keys is one. -/
theorem Sh.take_ok {s : Sh} (h : s.ok = true) (i : Nat) : (⟨s.m.take i, s.t.take i⟩ : Sh).ok = true := by
  rw [Sh.ok_iff] at h ⊢
  obtain ⟨h1, h2, h3⟩ := h
  simp only [List.length_take]
  refine ⟨by omega, by omega, fun j hj => ?_⟩
  have h4 := h3 j (by omega)
  unfold Sh.kok Sh.md Sh.tk at h4 ⊢
  simp only [List.getD_eq_getElem?_getD] at h4 ⊢
  rw [List.getElem?_take, if_pos (by omega), List.getElem?_take, if_pos (by omega)]
  exact h4

set_option maxRecDepth 100000 in
set_option maxHeartbeats 1000000 in
theorem walk_sheetOk (w : World) (a : Option Addr) (n c : Nat) (h : CodeAt w a n c) :
    Calls Try.prog 3 #[.slice a n c] w fun e w' => e = .returned (.bool true) ∧ Below w.heap.size w w' := by
  have hn := h.1
  have hc := h.2.1
  have HC := Lib.hid h
  clear h
  by_cases hl : 1048576 < n
  · go_enter Try.func3, Try.ntmps3
    go_wp2_with fail
    go_ret
    exact ⟨rfl, Below.refl _ _⟩
  go_enter Try.func3, Try.ntmps3
  go_wp2_with fail
  refine (drawSheetOk_any _ a n c HC.out).mono ?_
  rintro e w1 ⟨s, av, cv, a', c', rfl, hat, hml, hnl, hb⟩
  have hsz1 := hb.size
  have HT1 := Lib.hid (hat.alloc (.cells #[.slice av s.m.length cv, .slice a' s.t.length c'] 26))
  have HB1 := Lib.hid (Blk.new w1 26 #[.slice av s.m.length cv, .slice a' s.t.length c'])
  have HX1 := Lib.hid (hb.alloc hsz1 (.cells #[.slice av s.m.length cv, .slice a' s.t.length c'] 26))
  have hm1 : s.m.length ≤ cv ∧ cv ≤ 9223372036854775807 := ⟨hat.1.1, hat.1.2.1⟩
  have ht1 : s.t.length ≤ c' ∧ c' ≤ 9223372036854775807 := ⟨hat.2.1, hat.2.2.1⟩
  obtain ⟨z, hz⟩ : ∃ z, z = s.ok := ⟨_, rfl⟩
  have HZ := Lib.hid hz
  have HNL := Lib.hid hnl
  clear hat hb HC hz hnl
  go_wp2_with fail
  refine (implSheetOk_any s _ _ av cv a' c' HT1.out).mono ?_
  rintro e w2 ⟨rfl, hb⟩
  rw [← HZ.out]
  have hsz2 := hb.size
  simp only [World.size_alloc] at hsz2
  have HT2 := Lib.hid (HT1.out.below hb)
  have HB2 := Lib.hid (HB1.out.below hb (by simp))
  have HX2 := Lib.hid (HX1.out.trans (hb.mono (by simp; omega)))
  clear hb HT1 HB1 HX1
  obtain ⟨x0, x1, f0, f1⟩ := HB2.out.two
  go_wp2_with fail
  refine (specSheetOk_any s _ _ av cv a' c' HT2.out (by have := HNL.out; omega)).mono ?_
  rintro e w3 ⟨rfl, hb⟩
  rw [← HZ.out]
  have hsz3 := hb.size
  have HT3 := Lib.hid (HT2.out.below hb)
  have HB3 := Lib.hid (HB2.out.below hb (by omega))
  have HX3 := Lib.hid (HX2.out.trans (hb.mono (by omega)))
  clear hb HT2 HB2 HX2 x0 x1 f0 f1
  have hnb : (z != z) = false := by simp
  obtain ⟨x0, x1, f0, f1⟩ := HB3.out.two
  cases z
  · go_wp2_with fail
    go_quiet (fail)
    revert nq
    intro n1
    go_wp2_with fail
    go_ret
    exact ⟨rfl, below_drewN HX3.out _⟩
  · by_cases h0 : s.m.length = 0
    · have hz0 : ((s.m.length : Int) == 0) = true := by simp [h0]
      have hz1 : (s.m.length == 0) = true := by simp [h0]
      go_wp2_with fail
      go_quiet (fail)
      revert nq
      intro n1
      go_wp2_with fail
      go_ret
      exact ⟨rfl, below_drewN HX3.out _⟩
    · have htl : s.t.length = s.m.length := (Sh.ok_iff.1 HZ.out.symm).2.1
      have hz0 : ((s.m.length : Int) == 0) = false := by
        cases hx : ((s.m.length : Int) == 0)
        · rfl
        · rw [beq_iff_eq] at hx; omega
      have hz1 : (s.m.length == 0) = false := by
        cases hx : (s.m.length == 0)
        · rfl
        · rw [beq_iff_eq] at hx; omega
      have hwr : IntKind.i64.wrap ((s.m.length : Int) - 1) = ((s.m.length - 1 : Nat) : Int) := by rw [show ((s.m.length : Int) - 1) = ((s.m.length - 1 : Nat) : Int) by omega]; exact IntWalk.i64_in _ ⟨by omega, by omega⟩
      have hcc := implSheetOk_any ⟨s.m.take (s.m.length - 1), s.t.take (s.m.length - 1)⟩ w3.drew _ av cv a' c' ⟨(HT3.out.drewN 1).1.upto _, (HT3.out.drewN 1).2.upto _⟩
      rw [Sh.take_ok HZ.out.symm] at hcc
      simp only [List.length_take] at hcc
      rw [show min (s.m.length - 1) s.m.length = s.m.length - 1 by omega, show min (s.m.length - 1) s.t.length = s.m.length - 1 by omega] at hcc
      have HCC := Lib.hid hcc
      have ho1 : s.m.length - 1 ≤ cv := by omega
      have ho2 : ((s.m.length - 1 : Nat) : Int) ≤ (cv : Int) := by omega
      have ho3 : s.m.length - 1 ≤ c' := by omega
      have ho4 : ((s.m.length - 1 : Nat) : Int) ≤ (c' : Int) := by omega
      clear hcc htl HT3 HNL HZ
      generalize s.m.length = ML at *
      generalize s.t.length = TL at *
      go_wp2_with fail
      go_still_tail 18, (by kernel_rfl)
      go_wp2_with fail
      refine HCC.out.mono ?_
      rintro e w5 ⟨rfl, hb5⟩
      have HX5 := Lib.hid ((below_drewN HX3.out 1).trans (hb5.mono (show w.heap.size ≤ (w3.drewN 1).heap.size from HX3.out.size)))
      go_wp2_with fail
      go_ret
      exact ⟨rfl, HX5.out⟩
end Go.Proofs.Ytklmpagpkeffjaa
