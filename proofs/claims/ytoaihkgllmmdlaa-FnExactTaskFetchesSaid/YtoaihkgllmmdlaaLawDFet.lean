/- brFetches; the walks of laws.FnTaskFetches -/
import Derived.Test.YtoaihkgllmmdlaaDr1
import Derived.Test.YtoaihkgllmmdlaaBs2
import Derived.Test.YtoaihkgllmmdlaaBs0
import Derived.Laws.StructEq
namespace Go.Proofs.Ytoaihkgllmmdlaa
open Go.RowKit

/-- What is fetched, none if there is no value. -/
def fks (t : T) (lv : List Int) : List Int := if (t.ok && vok lv) = true then t.kys (vf lv) else []
theorem fks_bd (t : T) (lv : List Int) : (∀ k ∈ fks t lv, 0 ≤ k ∧ k ≤ 9) ∧ (fks t lv).length ≤ 15 := by
  unfold fks
  split
  · rename_i h
    simp only [Bool.and_eq_true] at h
    have hfn : t.fit = true ∧ t.nodes ≤ 15 := by simpa [T.ok] using h.1
    have := T.kys_bd (vf lv) t hfn.1
    exact ⟨this.1, by omega⟩
  · simp
theorem FetPost.split {t : T} {lv : List Int} {w0 w' : World} {e : Ending} (h : FetPost t lv w0 e w') : Below w0.heap.size w0 w' ∧ ∃ vo, e = .returned (.tuple #[vo, .bool (t.ok && vok lv)]) ∧ FeRow (vf lv) w' w0.heap.size vo (fks t lv) := by
  obtain ⟨h1, h2⟩ := h
  refine ⟨h1, ?_⟩
  unfold fks
  cases hb : (t.ok && vok lv)
  · rw [hb, if_neg (by decide)] at h2; rw [if_neg (by decide)]; exact h2
  · rw [hb, if_pos rfl] at h2; rw [if_pos rfl]; exact h2

end Go.Proofs.Ytoaihkgllmmdlaa
