/- For every number and every task and every list of numbers (whatever memory they lie in) the law FnExactTraceOf answers true: the function answers as its model, and leaves its arguments alone. No condition. -/
import Derived.Test.YtjjojnmhhmdlpaaRows
import Derived.Test.YtjjojnmhhmdlpaaBs0
import Derived.Test.YtjjojnmhhmdlpaaPrg
import Derived.Test.YtjjojnmhhmdlpaaLawTO
import Derived.Test.YtjjojnmhhmdlpaaBs1
import Derived.Test.YtjjojnmhhmdlpaaBs2
import Derived.Test.YtjjojnmhhmdlpaaOpenTk
import Derived.ProofKit
namespace Go.Proofs.Ytjjojnmhhmdlpaa
open Go.ChangeShapes Go.WideShapes Go.ChangeAt Go.RowKit Go.Joins

set_option maxRecDepth 100000 in
theorem exactTraceOf_lifted (os : Os) (started : os.Started) (H : Type) (enc : TypeId × Value → H) :
    ReturnsInHanded {} Try.checked os 7 .any (Rows.fnExactTraceOfSpec.pre6 enc Try.prog Try.f7 Rows.fnExactTraceOfRow.domain false) (Rows.fnExactTraceOfSpec.post enc Try.prog Try.f7 false true false false) := by
  refine returnsInHanded_of_change (C := Try.checked) own started (by kernel_rfl) Try.func7
    (ChangeSpec.witness6 (enc := enc) (C := Try.checked) false ⟨#[], #[.int .i64 0, .agg #[.int .i64 0, .int .i64 0, .slice none 0 0], .slice none 0 0], []⟩ 8 (by kernel_rfl) (by kernel_rfl) (by kernel_rfl) (by kernel_rfl)) ?_
  intro W base args ds gs before hval0 hW _ _
  have hval : ∀ (j : Nat) t v, Try.f7.params[j]? = some t → args[j]? = some v → Value.okWide Try.prog W .any base t v := hval0
  have hW' := hW
  obtain ⟨p, q, hA0, hV, rfl, _, _⟩ := hW
  have hA : DataW.TrodAll enc Try.prog W 0 (fun _ => true) true Try.f7.params.toList args.toList ds p := hA0
  rw [Try.params7] at hA hval
  obtain ⟨v0, v1, v2, d0, d1, d2, p0, p1, p2, rfl, rfl, rfl, h0, h1, h2⟩ := trodAll_three hA
  obtain ⟨rfl, rfl⟩ := trodVars_none hV
  obtain ⟨x0, rfl⟩ := okWide_int Try.underlying3 (hval 0 3 v0 rfl rfl)
  obtain ⟨x1, a1, c1, rfl, hl1⟩ := open_tk (hval 1 56 v1 rfl rfl) h1
  obtain ⟨a2, x2, c2, rfl, hl2⟩ := open_nums Try.underlying34 Try.underlying3 cellsIntX (okWide_slice Try.underlying34 (hval 2 34 v2 rfl rfl)) h2
  refine (walk_exactTraceOf x0 x1 x2 W  _ a1 c1 _ a2 c2 hl1 hl2).mono fun e W' ⟨he, hb⟩ => ?_
  subst he
  exact ⟨_, rfl, law_post laidOut rfl rfl Try.underlying4 (by intro t ht; rw [Try.params7] at ht; simp at ht; rcases ht with rfl | rfl | rfl <;> exact ⟨by kernel_rfl, of_decide_eq_true (by kernel_rfl)⟩) rfl rfl rfl hW' hb⟩

theorem exactTraceOf_holds : Rows.FnExactTraceOfSaid :=
  OpenClaim.holds_of_wide 7 Try.f7 rfl rfl rfl rfl rfl rfl rfl ⟨rfl, rfl, rfl, rfl, rfl⟩ rfl rfl rfl rfl rfl (by kernel_rfl) Try.func7 (joined_of (by kernel_rfl))
    (of_decide_eq_true (by kernel_rfl)) (by unfold Func.isWrapper; first | (rw [if_pos (by decide +kernel)]; kernel_rfl) | (rw [if_neg (by decide +kernel)]; exact ⟨rfl, rfl⟩))
    (fun os started H enc _ => exactTraceOf_lifted os started H enc)
#print axioms exactTraceOf_holds
end Go.Proofs.Ytjjojnmhhmdlpaa
