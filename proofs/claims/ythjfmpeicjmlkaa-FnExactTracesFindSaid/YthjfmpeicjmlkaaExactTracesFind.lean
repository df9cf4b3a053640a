/- For every list of traces and every number and every list of numbers (whatever memory they lie in) the law FnExactTracesFind answers true: the function answers as its model, and leaves its arguments alone. No condition. -/
import Derived.Test.YthjfmpeicjmlkaaRows
import Derived.Test.YthjfmpeicjmlkaaBs0
import Derived.Test.YthjfmpeicjmlkaaPrg
import Derived.Test.YthjfmpeicjmlkaaLawTF
import Derived.Test.YthjfmpeicjmlkaaBs1
import Derived.Test.YthjfmpeicjmlkaaBs2
import Derived.Test.YthjfmpeicjmlkaaTr1
import Derived.ProofKit
namespace Go.Proofs.Ythjfmpeicjmlkaa
open Go.ChangeShapes Go.WideShapes Go.ChangeAt Go.RowKit Go.Joins

set_option maxRecDepth 100000 in
theorem exactTracesFind_lifted (os : Os) (started : os.Started) (H : Type) (enc : TypeId × Value → H) :
    ReturnsInHanded {} Try.checked os 3 .any (Rows.fnExactTracesFindSpec.pre6 enc Try.prog Try.f3 Rows.fnExactTracesFindRow.domain false) (Rows.fnExactTracesFindSpec.post enc Try.prog Try.f3 false true false false) := by
  refine returnsInHanded_of_change (C := Try.checked) own started (by kernel_rfl) Try.func3
    (ChangeSpec.witness6 (enc := enc) (C := Try.checked) false ⟨#[], #[.slice none 0 0, .int .i64 0, .slice none 0 0], []⟩ 8 (by kernel_rfl) (by kernel_rfl) (by kernel_rfl) (by kernel_rfl)) ?_
  intro W base args ds gs before hval0 hW _ _
  have hval : ∀ (j : Nat) t v, Try.f3.params[j]? = some t → args[j]? = some v → Value.okWide Try.prog W .any base t v := hval0
  have hW' := hW
  obtain ⟨p, q, hA0, hV, rfl, _, _⟩ := hW
  have hA : DataW.TrodAll enc Try.prog W 0 (fun _ => true) true Try.f3.params.toList args.toList ds p := hA0
  rw [Try.params3] at hA hval
  obtain ⟨v0, v1, v2, d0, d1, d2, p0, p1, p2, rfl, rfl, rfl, h0, h1, h2⟩ := trodAll_three hA
  obtain ⟨rfl, rfl⟩ := trodVars_none hV
  obtain ⟨a0, x0, c0, rfl, hl0⟩ := open_traces (okWide_slice Try.underlying22 (hval 0 22 v0 rfl rfl)) h0
  obtain ⟨x1, rfl⟩ := okWide_int Try.underlying3 (hval 1 3 v1 rfl rfl)
  obtain ⟨a2, x2, c2, rfl, hl2⟩ := open_nums Try.underlying23 Try.underlying3 cellsIntX (okWide_slice Try.underlying23 (hval 2 23 v2 rfl rfl)) h2
  refine (walk_exactTracesFind x0 x1 x2 W  _ a0 c0 _ a2 c2 hl0 hl2).mono fun e W' ⟨he, hb⟩ => ?_
  subst he
  exact ⟨_, rfl, law_post laidOut rfl rfl Try.underlying4 (by intro t ht; rw [Try.params3] at ht; simp at ht; rcases ht with rfl | rfl | rfl <;> exact ⟨by kernel_rfl, of_decide_eq_true (by kernel_rfl)⟩) rfl rfl rfl hW' hb⟩

theorem exactTracesFind_holds : Rows.FnExactTracesFindSaid :=
  OpenClaim.holds_of_wide 3 Try.f3 rfl rfl rfl rfl rfl rfl rfl ⟨rfl, rfl, rfl, rfl, rfl⟩ rfl rfl rfl rfl rfl (by kernel_rfl) Try.func3 (joined_of (by kernel_rfl))
    (of_decide_eq_true (by kernel_rfl)) (by unfold Func.isWrapper; first | (rw [if_pos (by decide +kernel)]; kernel_rfl) | (rw [if_neg (by decide +kernel)]; exact ⟨rfl, rfl⟩))
    (fun os started H enc _ => exactTracesFind_lifted os started H enc)
#print axioms exactTracesFind_holds
end Go.Proofs.Ythjfmpeicjmlkaa
