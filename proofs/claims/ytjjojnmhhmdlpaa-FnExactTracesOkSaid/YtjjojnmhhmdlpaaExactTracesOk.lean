/- For every list of traces (whatever memory they lie in) the law FnExactTracesOk answers true: the function answers as its model, and leaves its arguments alone. No condition. -/
import Derived.Test.YtjjojnmhhmdlpaaRows
import Derived.Test.YtjjojnmhhmdlpaaBs0
import Derived.Test.YtjjojnmhhmdlpaaPrg
import Derived.Test.YtjjojnmhhmdlpaaLawTOk
import Derived.Test.YtjjojnmhhmdlpaaTr1
import Derived.ProofKit
namespace Go.Proofs.Ytjjojnmhhmdlpaa
open Go.ChangeShapes Go.WideShapes Go.ChangeAt Go.RowKit Go.Joins

set_option maxRecDepth 100000 in
theorem exactTracesOk_lifted (os : Os) (started : os.Started) (H : Type) (enc : TypeId × Value → H) :
    ReturnsInHanded {} Try.checked os 9 .any (Rows.fnExactTracesOkSpec.pre6 enc Try.prog Try.f9 Rows.fnExactTracesOkRow.domain false) (Rows.fnExactTracesOkSpec.post enc Try.prog Try.f9 false true false false) := by
  refine returnsInHanded_of_change (C := Try.checked) own started (by kernel_rfl) Try.func9
    (ChangeSpec.witness6 (enc := enc) (C := Try.checked) false ⟨#[], #[.slice none 0 0], []⟩ 8 (by kernel_rfl) (by kernel_rfl) (by kernel_rfl) (by kernel_rfl)) ?_
  intro W base args ds gs before hval0 hW _ _
  have hval : ∀ (j : Nat) t v, Try.f9.params[j]? = some t → args[j]? = some v → Value.okWide Try.prog W .any base t v := hval0
  have hW' := hW
  obtain ⟨p, q, hA0, hV, rfl, _, _⟩ := hW
  have hA : DataW.TrodAll enc Try.prog W 0 (fun _ => true) true Try.f9.params.toList args.toList ds p := hA0
  rw [Try.params9] at hA hval
  obtain ⟨v0, d0, rfl, rfl, h0⟩ := trodAll_one hA
  obtain ⟨rfl, rfl⟩ := trodVars_none hV
  obtain ⟨a0, x0, c0, rfl, hl0⟩ := open_traces (okWide_slice Try.underlying74 (hval 0 74 v0 rfl rfl)) h0
  refine (walk_exactTracesOk x0 W  _ a0 c0 hl0).mono fun e W' ⟨he, hb⟩ => ?_
  subst he
  exact ⟨_, rfl, law_post laidOut rfl rfl Try.underlying4 (by intro t ht; rw [Try.params9] at ht; simp at ht; subst ht; exact ⟨by kernel_rfl, of_decide_eq_true (by kernel_rfl)⟩) rfl rfl rfl hW' hb⟩

theorem exactTracesOk_holds : Rows.FnExactTracesOkSaid :=
  OpenClaim.holds_of_wide 9 Try.f9 rfl rfl rfl rfl rfl rfl rfl ⟨rfl, rfl, rfl, rfl, rfl⟩ rfl rfl rfl rfl rfl (by kernel_rfl) Try.func9 (joined_of (by kernel_rfl))
    (of_decide_eq_true (by kernel_rfl)) (by unfold Func.isWrapper; first | (rw [if_pos (by decide +kernel)]; kernel_rfl) | (rw [if_neg (by decide +kernel)]; exact ⟨rfl, rfl⟩))
    (fun os started H enc _ => exactTracesOk_lifted os started H enc)
#print axioms exactTracesOk_holds
end Go.Proofs.Ytjjojnmhhmdlpaa
