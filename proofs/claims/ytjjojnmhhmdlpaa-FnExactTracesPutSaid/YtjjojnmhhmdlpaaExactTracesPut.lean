/- For every list of traces and every trace (whatever memory they lie in) the law FnExactTracesPut answers true: the function answers as its model, and leaves its arguments alone. No condition. -/
import Derived.Test.YtjjojnmhhmdlpaaRows
import Derived.Test.YtjjojnmhhmdlpaaBs0
import Derived.Test.YtjjojnmhhmdlpaaPrg
import Derived.Test.YtjjojnmhhmdlpaaLawTP
import Derived.Test.YtjjojnmhhmdlpaaTr1
import Derived.Test.YtjjojnmhhmdlpaaOpenTr2
import Derived.ProofKit
namespace Go.Proofs.Ytjjojnmhhmdlpaa
open Go.ChangeShapes Go.WideShapes Go.ChangeAt Go.RowKit Go.Joins

set_option maxRecDepth 100000 in
theorem exactTracesPut_lifted (os : Os) (started : os.Started) (H : Type) (enc : TypeId × Value → H) :
    ReturnsInHanded {} Try.checked os 12 .any (Rows.fnExactTracesPutSpec.pre6 enc Try.prog Try.f12 Rows.fnExactTracesPutRow.domain false) (Rows.fnExactTracesPutSpec.post enc Try.prog Try.f12 false true false false) := by
  refine returnsInHanded_of_change (C := Try.checked) own started (by kernel_rfl) Try.func12
    (ChangeSpec.witness6 (enc := enc) (C := Try.checked) false ⟨#[], #[.slice none 0 0, .agg #[.int .i64 0, .slice none 0 0, .int .i64 0]], []⟩ 8 (by kernel_rfl) (by kernel_rfl) (by kernel_rfl) (by kernel_rfl)) ?_
  intro W base args ds gs before hval0 hW _ _
  have hval : ∀ (j : Nat) t v, Try.f12.params[j]? = some t → args[j]? = some v → Value.okWide Try.prog W .any base t v := hval0
  have hW' := hW
  obtain ⟨p, q, hA0, hV, rfl, _, _⟩ := hW
  have hA : DataW.TrodAll enc Try.prog W 0 (fun _ => true) true Try.f12.params.toList args.toList ds p := hA0
  rw [Try.params12] at hA hval
  obtain ⟨v0, v1, d0, d1, p0, p1, rfl, rfl, rfl, h0, h1⟩ := trodAll_two hA
  obtain ⟨rfl, rfl⟩ := trodVars_none hV
  obtain ⟨a0, x0, c0, rfl, hl0⟩ := open_traces (okWide_slice Try.underlying74 (hval 0 74 v0 rfl rfl)) h0
  obtain ⟨x1, a1, c1, rfl, hl1, hft⟩ := open_tr2 (hval 1 69 v1 rfl rfl) h1
  refine (walk_exactTracesPut x0 x1 W  _ a0 c0 _ a1 c1 hl0 hl1 hft).mono fun e W' ⟨he, hb⟩ => ?_
  subst he
  exact ⟨_, rfl, law_post laidOut rfl rfl Try.underlying4 (by intro t ht; rw [Try.params12] at ht; simp at ht; rcases ht with rfl | rfl <;> exact ⟨by kernel_rfl, of_decide_eq_true (by kernel_rfl)⟩) rfl rfl rfl hW' hb⟩

theorem exactTracesPut_holds : Rows.FnExactTracesPutSaid :=
  OpenClaim.holds_of_wide 12 Try.f12 rfl rfl rfl rfl rfl rfl rfl ⟨rfl, rfl, rfl, rfl, rfl⟩ rfl rfl rfl rfl rfl (by kernel_rfl) Try.func12 (joined_of (by kernel_rfl))
    (of_decide_eq_true (by kernel_rfl)) (by unfold Func.isWrapper; first | (rw [if_pos (by decide +kernel)]; kernel_rfl) | (rw [if_neg (by decide +kernel)]; exact ⟨rfl, rfl⟩))
    (fun os started H enc _ => exactTracesPut_lifted os started H enc)
#print axioms exactTracesPut_holds
end Go.Proofs.Ytjjojnmhhmdlpaa
