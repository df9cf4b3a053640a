/- For every sheet and every state and every list of numbers (whatever memory they lie in) the law FnExactDirtyKeys answers true: the function answers as its model, and leaves its arguments alone. No condition. -/
import Derived.Test.YthjfmpeicjmlkaaRows
import Derived.Test.YthjfmpeicjmlkaaBs0
import Derived.Test.YthjfmpeicjmlkaaPrg
import Derived.Test.YthjfmpeicjmlkaaLawDk
import Derived.Test.YthjfmpeicjmlkaaBs1
import Derived.Test.YthjfmpeicjmlkaaBs2
import Derived.Test.YthjfmpeicjmlkaaOpenSt
import Derived.ProofKit
namespace Go.Proofs.Ythjfmpeicjmlkaa
open Go.ChangeShapes Go.WideShapes Go.ChangeAt Go.RowKit Go.Joins

set_option maxRecDepth 100000 in
theorem exactDirtyKeys_lifted (os : Os) (started : os.Started) (H : Type) (enc : TypeId × Value → H) :
    ReturnsInHanded {} Try.checked os 4 .any (Rows.fnExactDirtyKeysSpec.pre6 enc Try.prog Try.f4 Rows.fnExactDirtyKeysRow.domain false) (Rows.fnExactDirtyKeysSpec.post enc Try.prog Try.f4 false true false false) := by
  refine returnsInHanded_of_change (C := Try.checked) own started (by kernel_rfl) Try.func4
    (ChangeSpec.witness6 (enc := enc) (C := Try.checked) false ⟨#[], #[.agg #[.slice none 0 0, .slice none 0 0], .agg #[.slice none 0 0, .slice none 0 0, .slice none 0 0, .slice none 0 0], .slice none 0 0], []⟩ 8 (by kernel_rfl) (by kernel_rfl) (by kernel_rfl) (by kernel_rfl)) ?_
  intro W base args ds gs before hval0 hW _ _
  have hval : ∀ (j : Nat) t v, Try.f4.params[j]? = some t → args[j]? = some v → Value.okWide Try.prog W .any base t v := hval0
  have hW' := hW
  obtain ⟨p, q, hA0, hV, rfl, _, _⟩ := hW
  have hA : DataW.TrodAll enc Try.prog W 0 (fun _ => true) true Try.f4.params.toList args.toList ds p := hA0
  rw [Try.params4] at hA hval
  obtain ⟨v0, v1, v2, d0, d1, d2, p0, p1, p2, rfl, rfl, rfl, h0, h1, h2⟩ := trodAll_three hA
  obtain ⟨rfl, rfl⟩ := trodVars_none hV
  obtain ⟨x0, a0, c0, b0, d'0, rfl, hl0⟩ := open_sh (hval 0 43 v0 rfl rfl) h0
  obtain ⟨x1, sa1, sc1, sb1, sd1, sf1, sg1, sp1, sq1, rfl, hl1⟩ := open_st (hval 1 45 v1 rfl rfl) h1
  obtain ⟨a2, x2, c2, rfl, hl2⟩ := open_nums Try.underlying23 Try.underlying3 cellsIntX (okWide_slice Try.underlying23 (hval 2 23 v2 rfl rfl)) h2
  refine (walk_exactDirtyKeys x0 x1 x2 W  _ a0 c0 b0 d'0 _ sa1 sc1 sb1 sd1 sf1 sg1 sp1 sq1 _ a2 c2 hl0 hl1 hl2).mono fun e W' ⟨he, hb⟩ => ?_
  subst he
  exact ⟨_, rfl, law_post laidOut rfl rfl Try.underlying4 (by intro t ht; rw [Try.params4] at ht; simp at ht; rcases ht with rfl | rfl | rfl <;> exact ⟨by kernel_rfl, of_decide_eq_true (by kernel_rfl)⟩) rfl rfl rfl hW' hb⟩

theorem exactDirtyKeys_holds : Rows.FnExactDirtyKeysSaid :=
  OpenClaim.holds_of_wide 4 Try.f4 rfl rfl rfl rfl rfl rfl rfl ⟨rfl, rfl, rfl, rfl, rfl⟩ rfl rfl rfl rfl rfl (by kernel_rfl) Try.func4 (joined_of (by kernel_rfl))
    (of_decide_eq_true (by kernel_rfl)) (by unfold Func.isWrapper; first | (rw [if_pos (by decide +kernel)]; kernel_rfl) | (rw [if_neg (by decide +kernel)]; exact ⟨rfl, rfl⟩))
    (fun os started H enc _ => exactDirtyKeys_lifted os started H enc)
#print axioms exactDirtyKeys_holds
end Go.Proofs.Ythjfmpeicjmlkaa
