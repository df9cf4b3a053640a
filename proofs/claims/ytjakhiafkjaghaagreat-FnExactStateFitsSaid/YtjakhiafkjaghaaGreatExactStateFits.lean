/- For every sheet and every number and every state (whatever memory they lie in) the law FnExactStateFits answers true: the function answers as its model, and leaves its arguments alone. No condition. -/
import Derived.Test.YtjakhiafkjaghaaGreatRows
import Derived.Test.YtjakhiafkjaghaaGreatBs0
import Derived.Test.YtjakhiafkjaghaaGreatPrg
import Derived.Test.YtjakhiafkjaghaaGreatLawFitsX
import Derived.Test.YtjakhiafkjaghaaGreatBs2
import Derived.Test.YtjakhiafkjaghaaGreatOpenSt
import Derived.ProofKit
namespace Go.Proofs.YtjakhiafkjaghaaGreat
open Go.ChangeShapes Go.WideShapes Go.ChangeAt Go.RowKit Go.Joins

set_option maxRecDepth 100000 in
theorem exactStateFits_lifted (os : Os) (started : os.Started) (H : Type) (enc : TypeId × Value → H) :
    ReturnsInHanded {} Tryz.checked os 3 .any (Rows.fnExactStateFitsSpec.pre6 enc Tryz.prog Tryz.f3 Rows.fnExactStateFitsRow.domain false) (Rows.fnExactStateFitsSpec.post enc Tryz.prog Tryz.f3 false true false false) := by
  refine returnsInHanded_of_change (C := Tryz.checked) own started (by kernel_rfl) Tryz.func3
    (ChangeSpec.witness6 (enc := enc) (C := Tryz.checked) false ⟨#[], #[.agg #[.slice none 0 0, .slice none 0 0], .int .i64 0, .agg #[.slice none 0 0, .slice none 0 0, .slice none 0 0, .slice none 0 0]], []⟩ 8 (by kernel_rfl) (by kernel_rfl) (by kernel_rfl) (by kernel_rfl)) ?_
  intro W base args ds gs before hval0 hW _ _
  have hval : ∀ (j : Nat) t v, Tryz.f3.params[j]? = some t → args[j]? = some v → Value.okWide Tryz.prog W .any base t v := hval0
  have hW' := hW
  obtain ⟨p, q, hA0, hV, rfl, _, _⟩ := hW
  have hA : DataW.TrodAll enc Tryz.prog W 0 (fun _ => true) true Tryz.f3.params.toList args.toList ds p := hA0
  rw [Tryz.params3] at hA hval
  obtain ⟨v0, v1, v2, d0, d1, d2, p0, p1, p2, rfl, rfl, rfl, h0, h1, h2⟩ := trodAll_three hA
  obtain ⟨rfl, rfl⟩ := trodVars_none hV
  obtain ⟨x0, a0, c0, b0, d'0, rfl, hl0⟩ := open_sh (hval 0 25 v0 rfl rfl) h0
  obtain ⟨x1, rfl⟩ := okWide_int Tryz.underlying3 (hval 1 3 v1 rfl rfl)
  obtain ⟨x2, sa2, sc2, sb2, sd2, sf2, sg2, sp2, sq2, rfl, hl2⟩ := open_st (hval 2 29 v2 rfl rfl) h2
  refine (walk_exactStateFits x0 x1 x2 W  _ a0 c0 b0 d'0 _ sa2 sc2 sb2 sd2 sf2 sg2 sp2 sq2 hl0 hl2).mono fun e W' ⟨he, hb⟩ => ?_
  subst he
  exact ⟨_, rfl, law_post laidOut rfl rfl Tryz.underlying4 (by intro t ht; rw [Tryz.params3] at ht; simp at ht; rcases ht with rfl | rfl | rfl <;> exact ⟨by kernel_rfl, of_decide_eq_true (by kernel_rfl)⟩) rfl rfl rfl hW' hb⟩

theorem exactStateFits_holds : Rows.FnExactStateFitsSaid :=
  OpenClaim.holds_of_wide 3 Tryz.f3 rfl rfl rfl rfl rfl rfl rfl ⟨rfl, rfl, rfl, rfl, rfl⟩ rfl rfl rfl rfl rfl (by kernel_rfl) Tryz.func3 (joined_of (by kernel_rfl))
    (of_decide_eq_true (by kernel_rfl)) (by unfold Func.isWrapper; first | (rw [if_pos (by decide +kernel)]; kernel_rfl) | (rw [if_neg (by decide +kernel)]; exact ⟨rfl, rfl⟩))
    (fun os started H enc _ => exactStateFits_lifted os started H enc)
#print axioms exactStateFits_holds
end Go.Proofs.YtjakhiafkjaghaaGreat
