/- impl.BuildAll -/
import Derived.Test.YtjbggeeadodmpaaBuildI
import Derived.Test.YtjbggeeadodmpaaAllS
import Derived.Test.YtjbggeeadodmpaaBs1
namespace Go.Proofs.Ytjbggeeadodmpaa
open Go.RowKit

theorem irow_row {w : World} {g base : Nat} {l : List Int} (h : IRow w g l.length l) (hb : base ≤ g) (hl : l.length ≤ 9223372036854775807) : NumRow w base (.slice (some ⟨g, 0, none⟩) l.length l.length) l := by
  obtain ⟨cs, h1, h2, h3⟩ := h
  refine ElRow.of_blk (f := Value.int .i64) h1 hb (List.ext_getElem (by simp [h2]) fun i hi1 hi2 => ?_) hl
  have h := h3 i (by simpa using hi2)
  obtain ⟨_, h⟩ := Array.getElem?_eq_some_iff.1 h
  simp [h]
theorem IRow.set_snoc {w : World} {g n : Nat} {l : List Int} (h : IRow w g n l) (hl : l.length < n) (x : Int) : IRow (w.setCell ⟨g, l.length, none⟩ (.int .i64 x)) g n (l ++ [x]) := by
  obtain ⟨cs, h1, h2, h3⟩ := h
  refine ⟨_, h1.set_ _ _, by simp [h2], fun i hi => ?_⟩
  rw [List.length_append, List.length_singleton] at hi
  rw [Array.getElem?_setIfInBounds]
  by_cases hil : l.length = i
  · subst hil
    rw [if_pos rfl, if_pos (by omega)]; simp
  · rw [if_neg hil, List.getElem_append_left (by omega)]
    exact h3 i (by omega)
theorem IRow.fr {D : Nat → Prop} {w w' : World} {g n : Nat} {l : List Int} (h : IRow w g n l) (hf : Fr D w w') (hD : ¬ D g) : IRow w' g n l := by
  obtain ⟨cs, h1, h2, h3⟩ := h
  exact ⟨cs, h1.fr hf hD, h2, h3⟩
theorem IRow.below {w w' : World} {g n : Nat} {l : List Int} (h : IRow w g n l) (hb : Below w.heap.size w w') : IRow w' g n l := by
  obtain ⟨cs, h1, h2, h3⟩ := h
  exact ⟨cs, h1.below hb h1.lt, h2, h3⟩
theorem IRow.lt {w : World} {g n : Nat} {l : List Int} (h : IRow w g n l) : g < w.heap.size := by obtain ⟨_, h1, _⟩ := h; exact h1.lt

end Go.Proofs.Ytjbggeeadodmpaa
