/- For every sheet and every list of numbers (whatever memory they lie in) the law FnExactOrderTopo answers true: the function answers as its model, and leaves its arguments alone. No condition. -/
import Derived.Test.YtochgmbeomfkpaaRows
import Derived.Test.YtochgmbeomfkpaaBs0
import Derived.Test.YtochgmbeomfkpaaPrg
import Derived.Test.YtochgmbeomfkpaaLawTop
import Derived.Test.YtochgmbeomfkpaaBs1
import Derived.Test.YtochgmbeomfkpaaBs2
import Derived.ProofKit
namespace Go.Proofs.Ytochgmbeomfkpaa
open Go.ChangeShapes Go.WideShapes Go.ChangeAt Go.RowKit Go.Joins

set_option maxRecDepth 100000 in
theorem exactOrderTopo_lifted (os : Os) (started : os.Started) (H : Type) (enc : TypeId × Value → H) :
    ReturnsInHanded {} Try.checked os 3 .any (Rows.fnExactOrderTopoSpec.pre6 enc Try.prog Try.f3 Rows.fnExactOrderTopoRow.domain false) (Rows.fnExactOrderTopoSpec.post enc Try.prog Try.f3 false true false false) := by
  refine returnsInHanded_of_change (C := Try.checked) own started (by kernel_rfl) Try.func3
    (ChangeSpec.witness6 (enc := enc) (C := Try.checked) false ⟨#[], #[.agg #[.slice none 0 0, .slice none 0 0], .slice none 0 0], []⟩ 8 (by kernel_rfl) (by kernel_rfl) (by kernel_rfl) (by kernel_rfl)) ?_
  intro W base args ds gs before hval0 hW _ _
  have hval : ∀ (j : Nat) t v, Try.f3.params[j]? = some t → args[j]? = some v → Value.okWide Try.prog W .any base t v := hval0
  have hW' := hW
  obtain ⟨p, q, hA0, hV, rfl, _, _⟩ := hW
  have hA : DataW.TrodAll enc Try.prog W 0 (fun _ => true) true Try.f3.params.toList args.toList ds p := hA0
  rw [Try.params3] at hA hval
  obtain ⟨v0, v1, d0, d1, p0, p1, rfl, rfl, rfl, h0, h1⟩ := trodAll_two hA
  obtain ⟨rfl, rfl⟩ := trodVars_none hV
  obtain ⟨x0, a0, c0, b0, d'0, rfl, hl0⟩ := open_sh (hval 0 25 v0 rfl rfl) h0
  obtain ⟨a1, x1, c1, rfl, hl1⟩ := open_nums Try.underlying26 Try.underlying3 cellsIntX (okWide_slice Try.underlying26 (hval 1 26 v1 rfl rfl)) h1
  refine (walk_exactOrderTopo x0 x1 W  _ a0 c0 b0 d'0 _ a1 c1 hl0 hl1).mono fun e W' ⟨he, hb⟩ => ?_
  subst he
  exact ⟨_, rfl, law_post laidOut rfl rfl Try.underlying4 (by intro t ht; rw [Try.params3] at ht; simp at ht; rcases ht with rfl | rfl <;> exact ⟨by kernel_rfl, of_decide_eq_true (by kernel_rfl)⟩) rfl rfl rfl hW' hb⟩

theorem exactOrderTopo_holds : Rows.FnExactOrderTopoSaid :=
  OpenClaim.holds_of_wide 3 Try.f3 rfl rfl rfl rfl rfl rfl rfl ⟨rfl, rfl, rfl, rfl, rfl⟩ rfl rfl rfl rfl rfl (by kernel_rfl) Try.func3 (joined_of (by kernel_rfl))
    (of_decide_eq_true (by kernel_rfl)) (by unfold Func.isWrapper; first | (rw [if_pos (by decide +kernel)]; kernel_rfl) | (rw [if_neg (by decide +kernel)]; exact ⟨rfl, rfl⟩))
    (fun os started H enc _ => exactOrderTopo_lifted os started H enc)
#print axioms exactOrderTopo_holds
end Go.Proofs.Ytochgmbeomfkpaa
