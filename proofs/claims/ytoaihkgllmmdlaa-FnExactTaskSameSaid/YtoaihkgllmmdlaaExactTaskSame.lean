/- For every task and any two lists of numbers (whatever memory they lie in) the law FnExactTaskSame answers true: TaskSame answers as its model, and leaves its arguments alone. No condition. -/
import Derived.Test.YtoaihkgllmmdlaaRows
import Derived.Test.YtoaihkgllmmdlaaBs0
import Derived.Test.YtoaihkgllmmdlaaBs1
import Derived.Test.YtoaihkgllmmdlaaLawSame
import Derived.ProofKit
namespace Go.Proofs.Ytoaihkgllmmdlaa
open Go.ChangeShapes Go.WideShapes Go.ChangeAt Go.RowKit Go.Joins

theorem cellsInt : Try.prog.cellsOf 3 = 1 := by kernel_rfl
theorem cellsTaskL : Try.prog.cellsOf 24 = 3 := by kernel_rfl
theorem cellsTaskSL : Try.prog.cellsOf 22 = 1 := by kernel_rfl

set_option maxRecDepth 100000 in
theorem exactTaskSame_lifted (os : Os) (started : os.Started) (H : Type) (enc : TypeId × Value → H) :
    ReturnsInHanded {} Try.checked os 6 .any (Rows.fnExactTaskSameSpec.pre6 enc Try.prog Try.f6 Rows.fnExactTaskSameRow.domain false) (Rows.fnExactTaskSameSpec.post enc Try.prog Try.f6 false true false false) := by
  refine returnsInHanded_of_change (C := Try.checked) own started (by kernel_rfl) Try.func6
    (ChangeSpec.witness6 (enc := enc) (C := Try.checked) false ⟨#[], #[.agg #[.int .i64 0, .int .i64 0, .slice none 0 0], .slice none 0 0, .slice none 0 0], []⟩ 8 (by kernel_rfl) (by kernel_rfl) (by kernel_rfl) (by kernel_rfl)) ?_
  intro W base args ds gs before hval0 hW _ _
  have hval : ∀ (j : Nat) t v, Try.f6.params[j]? = some t → args[j]? = some v → Value.okWide Try.prog W .any base t v := hval0
  have hW' := hW
  obtain ⟨p, q, hA0, hV, rfl, _, _⟩ := hW
  have hA : DataW.TrodAll enc Try.prog W 0 (fun _ => true) true Try.f6.params.toList args.toList ds p := hA0
  rw [Try.params6] at hA hval
  obtain ⟨v0, v1, v2, d0, d1, d2, p0, p1, p2, rfl, rfl, rfl, h0, h1, h2⟩ := trodAll_three hA
  obtain ⟨rfl, rfl⟩ := trodVars_none hV
  obtain ⟨c0, c1, c2, y0, y1, y2, m, rfl, rfl, _, hy0, hy1, hy2⟩ := open_agg3 Try.underlying24 (by kernel_rfl) cellsTaskL (hval 0 24 v0 rfl rfl) h0
  obtain ⟨k, e0, rfl, wk⟩ := DataW.trod_int Try.underlying3 hy0
  obtain ⟨n, e1, rfl, wn⟩ := DataW.trod_int Try.underlying3 hy1
  obtain ⟨ps, a, c, rfl, hat⟩ := open_tasks Try.underlying3 cellsInt Try.underlying22 cellsTaskSL Try.underlying24 cellsTaskL ⟨rfl, rfl⟩ ⟨rfl, rfl⟩ ⟨rfl, rfl⟩ _ _ _ hy2
  simp at e0 e1
  subst e0 e1
  obtain ⟨a', lv, c', rfl, hl⟩ := open_nums Try.underlying25 Try.underlying3 cellsInt (okWide_slice Try.underlying25 (hval 1 25 v1 rfl rfl)) h1
  obtain ⟨ay, ly, cy, rfl, hm⟩ := open_nums Try.underlying25 Try.underlying3 cellsInt (okWide_slice Try.underlying25 (hval 2 25 v2 rfl rfl)) h2
  refine (walk_exactTaskSame (.mk k n ps) lv ly W _ _ _ a a' ay c c' cy hat hl hm).mono fun e W' ⟨he, hb⟩ => ?_
  subst he
  exact ⟨_, rfl, law_post laidOut rfl rfl Try.underlying4 (by intro t ht; rw [Try.params6] at ht; simp at ht; rcases ht with rfl | rfl <;> exact ⟨by kernel_rfl, of_decide_eq_true (by kernel_rfl)⟩) rfl rfl rfl hW' hb⟩

theorem exactTaskSame_holds : Rows.FnExactTaskSameSaid :=
  OpenClaim.holds_of_wide 6 Try.f6 rfl rfl rfl rfl rfl rfl rfl ⟨rfl, rfl, rfl, rfl, rfl⟩ rfl rfl rfl rfl rfl (by kernel_rfl) Try.func6 (by kernel_rfl)
    (of_decide_eq_true (by kernel_rfl)) (by unfold Func.isWrapper; first | (rw [if_pos (by decide +kernel)]; kernel_rfl) | (rw [if_neg (by decide +kernel)]; exact ⟨rfl, rfl⟩))
    (fun os started H enc _ => exactTaskSame_lifted os started H enc)
#print axioms exactTaskSame_holds
end Go.Proofs.Ytoaihkgllmmdlaa
