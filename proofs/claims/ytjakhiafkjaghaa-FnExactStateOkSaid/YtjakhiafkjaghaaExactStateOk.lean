/- For every sheet and every state (whatever memory they lie in) the law FnExactStateOk answers true: the function answers as its model, and leaves its arguments alone. No condition. -/
import Derived.Test.YtjakhiafkjaghaaRows
import Derived.Test.YtjakhiafkjaghaaBs0
import Derived.Test.YtjakhiafkjaghaaPrg
import Derived.Test.YtjakhiafkjaghaaLawStOk
import Derived.Test.YtjakhiafkjaghaaBs2
import Derived.Test.YtjakhiafkjaghaaOpenSt
import Derived.ProofKit
namespace Go.Proofs.Ytjakhiafkjaghaa
open Go.ChangeShapes Go.WideShapes Go.ChangeAt Go.RowKit Go.Joins

set_option maxRecDepth 100000 in
theorem exactStateOk_lifted (os : Os) (started : os.Started) (H : Type) (enc : TypeId × Value → H) :
    ReturnsInHanded {} Try.checked os 5 .any (Rows.fnExactStateOkSpec.pre6 enc Try.prog Try.f5 Rows.fnExactStateOkRow.domain false) (Rows.fnExactStateOkSpec.post enc Try.prog Try.f5 false true false false) := by
  refine returnsInHanded_of_change (C := Try.checked) own started (by kernel_rfl) Try.func5
    (ChangeSpec.witness6 (enc := enc) (C := Try.checked) false ⟨#[], #[.agg #[.slice none 0 0, .slice none 0 0], .agg #[.slice none 0 0, .slice none 0 0, .slice none 0 0, .slice none 0 0]], []⟩ 8 (by kernel_rfl) (by kernel_rfl) (by kernel_rfl) (by kernel_rfl)) ?_
  intro W base args ds gs before hval0 hW _ _
  have hval : ∀ (j : Nat) t v, Try.f5.params[j]? = some t → args[j]? = some v → Value.okWide Try.prog W .any base t v := hval0
  have hW' := hW
  obtain ⟨p, q, hA0, hV, rfl, _, _⟩ := hW
  have hA : DataW.TrodAll enc Try.prog W 0 (fun _ => true) true Try.f5.params.toList args.toList ds p := hA0
  rw [Try.params5] at hA hval
  obtain ⟨v0, v1, d0, d1, p0, p1, rfl, rfl, rfl, h0, h1⟩ := trodAll_two hA
  obtain ⟨rfl, rfl⟩ := trodVars_none hV
  obtain ⟨x0, a0, c0, b0, d'0, rfl, hl0⟩ := open_sh (hval 0 25 v0 rfl rfl) h0
  obtain ⟨x1, sa1, sc1, sb1, sd1, sf1, sg1, sp1, sq1, rfl, hl1⟩ := open_st (hval 1 49 v1 rfl rfl) h1
  refine (walk_exactStateOk x0 x1 W  _ a0 c0 b0 d'0 _ sa1 sc1 sb1 sd1 sf1 sg1 sp1 sq1 hl0 hl1).mono fun e W' ⟨he, hb⟩ => ?_
  subst he
  exact ⟨_, rfl, law_post laidOut rfl rfl Try.underlying4 (by intro t ht; rw [Try.params5] at ht; simp at ht; rcases ht with rfl | rfl <;> exact ⟨by kernel_rfl, of_decide_eq_true (by kernel_rfl)⟩) rfl rfl rfl hW' hb⟩

theorem exactStateOk_holds : Rows.FnExactStateOkSaid :=
  OpenClaim.holds_of_wide 5 Try.f5 rfl rfl rfl rfl rfl rfl rfl ⟨rfl, rfl, rfl, rfl, rfl⟩ rfl rfl rfl rfl rfl (by kernel_rfl) Try.func5 (joined_of (by kernel_rfl))
    (of_decide_eq_true (by kernel_rfl)) (by unfold Func.isWrapper; first | (rw [if_pos (by decide +kernel)]; kernel_rfl) | (rw [if_neg (by decide +kernel)]; exact ⟨rfl, rfl⟩))
    (fun os started H enc _ => exactStateOk_lifted os started H enc)
#print axioms exactStateOk_holds
end Go.Proofs.Ytjakhiafkjaghaa
