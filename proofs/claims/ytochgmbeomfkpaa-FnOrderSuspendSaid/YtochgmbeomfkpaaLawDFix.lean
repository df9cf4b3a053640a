/- brInts; a fixed task fetches the same whatever values are; the walk of laws.FnTaskFixed -/
import Derived.Test.YtochgmbeomfkpaaBs2
import Derived.Test.YtochgmbeomfkpaaFixed
import Derived.Test.YtochgmbeomfkpaaDr1
namespace Go.Proofs.Ytochgmbeomfkpaa
open Go.RowKit

theorem kys_fixed (vs vs' : Int → Int) : ∀ t : T, t.fit = true → t.fixed = true → t.kys vs = t.kys vs' := T.ind fun k n ps ih hf => by
  generalize ht : T.mk k n ps = t at hf ⊢
  refine T.cases_fit (P := fun t => t.fixed = true → t.kys vs = t.kys vs') t hf ?_ ?_ ?_ ?_ ?_ ?_
  · rintro n a0 a1 rfl _; simp only [kys_0]
  · rintro n a0 a1 rfl h; simp only [kys_1]
  · rintro a b ha hb rfl h; injection ht with _ _ hps; subst hps
    simp [T.fixed, fixedL] at h
    simp only [kys_2, ih a (by simp) ha h.1, ih b (by simp) hb h.2]
  · rintro a b ha hb rfl h; injection ht with _ _ hps; subst hps
    simp [T.fixed, fixedL] at h
    simp only [kys_3, ih a (by simp) ha h.1, ih b (by simp) hb h.2]
  · rintro a b c ha hb hc rfl h; simp [T.fixed] at h
  · rintro n a a0 a1 ha rfl h; simp [T.fixed] at h

theorem fives (w : World) : IntsAt (w.alloc (.cells #[.int .i64 5, .int .i64 5, .int .i64 5, .int .i64 5, .int .i64 5, .int .i64 5, .int .i64 5, .int .i64 5, .int .i64 5, .int .i64 5] 3)) (fun b => b = w.heap.size) [5, 5, 5, 5, 5, 5, 5, 5, 5, 5] (some ⟨w.heap.size, 0, none⟩) 10 := by
  refine ⟨by decide, by decide, by simp [i64ok], .inr ⟨w.heap.size, 0, rfl, rfl, fun i hi => ?_⟩⟩
  rw [World.cell?_alloc_new]
  have hi' : i < 10 := hi
  rcases (show i = 0 ∨ i = 1 ∨ i = 2 ∨ i = 3 ∨ i = 4 ∨ i = 5 ∨ i = 6 ∨ i = 7 ∨ i = 8 ∨ i = 9 by omega) with rfl | rfl | rfl | rfl | rfl | rfl | rfl | rfl | rfl | rfl <;> rfl

end Go.Proofs.Ytochgmbeomfkpaa
