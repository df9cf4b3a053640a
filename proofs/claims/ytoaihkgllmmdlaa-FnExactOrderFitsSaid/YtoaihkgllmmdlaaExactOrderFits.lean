/- For every sheet and every two lists of numbers (whatever memory they lie in) the law FnExactOrderFits answers true: the function answers as its model, and leaves its arguments alone. No condition. -/
import Derived.Test.YtoaihkgllmmdlaaRows
import Derived.Test.YtoaihkgllmmdlaaBs0
import Derived.Test.YtoaihkgllmmdlaaBs1
import Derived.Test.YtoaihkgllmmdlaaLawFits
import Derived.Test.YtoaihkgllmmdlaaBs2
import Derived.ProofKit
namespace Go.Proofs.Ytoaihkgllmmdlaa
open Go.ChangeShapes Go.WideShapes Go.ChangeAt Go.RowKit Go.Joins

set_option maxRecDepth 100000 in
theorem exactOrderFits_lifted (os : Os) (started : os.Started) (H : Type) (enc : TypeId × Value → H) :
    ReturnsInHanded {} Try.checked os 12 .any (Rows.fnExactOrderFitsSpec.pre6 enc Try.prog Try.f12 Rows.fnExactOrderFitsRow.domain false) (Rows.fnExactOrderFitsSpec.post enc Try.prog Try.f12 false true false false) := by
  refine returnsInHanded_of_change (C := Try.checked) own started (by kernel_rfl) Try.func12
    (ChangeSpec.witness6 (enc := enc) (C := Try.checked) false ⟨#[], #[.agg #[.slice none 0 0, .slice none 0 0], .slice none 0 0, .slice none 0 0], []⟩ 8 (by kernel_rfl) (by kernel_rfl) (by kernel_rfl) (by kernel_rfl)) ?_
  intro W base args ds gs before hval0 hW _ _
  have hval : ∀ (j : Nat) t v, Try.f12.params[j]? = some t → args[j]? = some v → Value.okWide Try.prog W .any base t v := hval0
  have hW' := hW
  obtain ⟨p, q, hA0, hV, rfl, _, _⟩ := hW
  have hA : DataW.TrodAll enc Try.prog W 0 (fun _ => true) true Try.f12.params.toList args.toList ds p := hA0
  rw [Try.params12] at hA hval
  obtain ⟨v0, v1, v2, d0, d1, d2, p0, p1, p2, rfl, rfl, rfl, h0, h1, h2⟩ := trodAll_three hA
  obtain ⟨rfl, rfl⟩ := trodVars_none hV
  obtain ⟨sh, a, c, a', c', rfl, hat⟩ := open_sh (hval 0 50 v0 rfl rfl) h0
  obtain ⟨ai, lv, ci, rfl, hl⟩ := open_nums Try.underlying25 Try.underlying3 cellsIntX (okWide_slice Try.underlying25 (hval 1 25 v1 rfl rfl)) h1
  obtain ⟨ao, ov, co, rfl, ho⟩ := open_nums Try.underlying25 Try.underlying3 cellsIntX (okWide_slice Try.underlying25 (hval 2 25 v2 rfl rfl)) h2
  refine (walk_exactOrderFits sh lv ov W _ _ _ a c a' c' ai ci ao co hat hl ho).mono fun e W' ⟨he, hb⟩ => ?_
  subst he
  exact ⟨_, rfl, law_post laidOut rfl rfl Try.underlying4 (by intro t ht; rw [Try.params12] at ht; simp at ht; rcases ht with rfl | rfl | rfl <;> exact ⟨by kernel_rfl, of_decide_eq_true (by kernel_rfl)⟩) rfl rfl rfl hW' hb⟩

theorem exactOrderFits_holds : Rows.FnExactOrderFitsSaid :=
  OpenClaim.holds_of_wide 12 Try.f12 rfl rfl rfl rfl rfl rfl rfl ⟨rfl, rfl, rfl, rfl, rfl⟩ rfl rfl rfl rfl rfl (by kernel_rfl) Try.func12 (by kernel_rfl)
    (of_decide_eq_true (by kernel_rfl)) (by unfold Func.isWrapper; first | (rw [if_pos (by decide +kernel)]; kernel_rfl) | (rw [if_neg (by decide +kernel)]; exact ⟨rfl, rfl⟩))
    (fun os started H enc _ => exactOrderFits_lifted os started H enc)
#print axioms exactOrderFits_holds
end Go.Proofs.Ytoaihkgllmmdlaa
