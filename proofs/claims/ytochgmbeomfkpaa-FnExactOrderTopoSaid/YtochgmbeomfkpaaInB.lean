/- a slice of numbers within a block of the call's own, wherever it begins (as behind 'free = free[1:]') -/
import Derived.Test.YtochgmbeomfkpaaShelf
import Derived.Test.YtochgmbeomfkpaaStepN
import Derived.Test.YtochgmbeomfkpaaLower
import Derived.Test.YtochgmbeomfkpaaBs2
namespace Go.Proofs.Ytochgmbeomfkpaa
open Go.RowKit

theorem Blk.setCells {g : Nat} {t : TypeId} : ∀ (vs : List Value) (o : Nat) (w : World) (cs : Array Value), Blk w g t cs →
    ∃ cs', Blk (w.setCells g o vs) g t cs' ∧ cs'.size = cs.size ∧ (∀ j, j < vs.length → o + j < cs.size → cs'[o + j]? = vs[j]?) ∧ ∀ j, (j < o ∨ o + vs.length ≤ j) → cs'[j]? = cs[j]?
  | [], o, w, cs, h => ⟨cs, h, rfl, fun j hj => by simp at hj, fun _ _ => rfl⟩
  | v :: r, o, w, cs, h => by
    obtain ⟨cs', h1, h2, h3, h4⟩ := Blk.setCells r (o + 1) (w.setCell ⟨g, o, none⟩ v) (cs.setIfInBounds o v) (h.set_ o v)
    have hsz : (cs.setIfInBounds o v).size = cs.size := by simp
    refine ⟨cs', h1, h2.trans hsz, fun j hj hlt => ?_, fun j hj => ?_⟩
    · cases j with
      | zero =>
        rw [h4 (o + 0) (.inl (by omega))]
        simp only [Nat.add_zero, List.getElem?_cons_zero]
        rw [Array.getElem?_setIfInBounds]
        simp at hlt
        simp [hlt]
      | succ j =>
        rw [show o + (j + 1) = o + 1 + j by omega, h3 j (by simpa using hj) (by rw [hsz]; omega)]
        rfl
    · simp only [List.length_cons] at hj
      rw [h4 j (by omega), Array.getElem?_setIfInBounds, if_neg (by omega)]
theorem fr_setCells (g : Nat) : ∀ (vs : List Value) (o : Nat) (w : World), Fr (fun b => b = g) w (w.setCells g o vs)
  | [], _, w => Fr.of_below (Below.refl w.heap.size w)
  | v :: r, o, w => by
    have h1 : Fr (fun b => b = g) w (w.setCell ⟨g, o, none⟩ v) := Fr.set' (D := fun b => b = g) (Fr.of_below (Below.refl _ _)) ⟨g, o, none⟩ rfl v
    have h2 := fr_setCells g r (o + 1) (w.setCell ⟨g, o, none⟩ v)
    exact ⟨h2.1.trans h1.1, h2.2.1.trans h1.2.1, h2.2.2.1.trans h1.2.2.1, Nat.le_trans h1.2.2.2.1 h2.2.2.2.1, fun b hb hn => (h2.2.2.2.2 b (by simpa [World.setCell] using hb) hn).trans (h1.2.2.2.2 b hb hn)⟩
/-- The slice value v holds l: nil, or it lies somewhere in a block from base on. -/
def InB (w : World) (base : Nat) (v : Value) (l : List Int) : Prop :=
  (v = .slice none 0 0 ∧ l = []) ∨ ∃ (g o c : Nat) (cs : Array Value), v = .slice (some ⟨g, o, none⟩) l.length c ∧ base ≤ g ∧ Blk w g 3 cs ∧ o + c ≤ cs.size ∧ l.length ≤ c ∧ c ≤ 9223372036854775807 ∧ ∀ j (h : j < l.length), cs[o + j]? = some (.int .i64 l[j])
theorem InB.nil (w : World) (base : Nat) : InB w base (.slice none 0 0) [] := .inl ⟨rfl, rfl⟩
theorem InB.fr {D : Nat → Prop} {w w' : World} {base : Nat} {v : Value} {l : List Int} (h : InB w base v l) (hf : Fr D w w') (hD : ∀ a n c, v = .slice (some a) n c → ¬ D a.block) : InB w' base v l := by
  rcases h with h | ⟨g, o, c, cs, rfl, h2, h3, h4⟩
  · exact .inl h
  · exact .inr ⟨g, o, c, cs, rfl, h2, h3.fr' hf (hD _ _ _ rfl), h4⟩
theorem InB.below {w w' : World} {base : Nat} {v : Value} {l : List Int} (h : InB w base v l) (hb : Below w.heap.size w w') : InB w' base v l := h.fr (D := fun _ => False) (Fr.of_below hb) (fun _ _ _ _ h => h)
/-- Without its head. -/
theorem InB.tail {w : World} {base g o n c : Nat} {k : Int} {l : List Int} (h : InB w base (.slice (some ⟨g, o, none⟩) n c) (k :: l)) : InB w base (.slice (some ⟨g, o + 1, none⟩) (n - 1) (c - 1)) l := by
  rcases h with ⟨h, _⟩ | ⟨g', o', c', cs, hv, h2, h3, h4, h5, h6, h7⟩
  · cases h
  · simp only [Value.slice.injEq, Option.some.injEq, Addr.mk.injEq, and_true, List.length_cons] at hv
    obtain ⟨⟨rfl, rfl⟩, rfl, rfl⟩ := hv
    simp only [List.length_cons] at h5
    refine .inr ⟨g, o + 1, c - 1, cs, by simp, h2, h3, by omega, by omega, by omega, fun j hj => ?_⟩
    have := h7 (j + 1) (by simp; omega)
    rw [show o + 1 + j = o + (j + 1) by omega, this]
    rfl
end Go.Proofs.Ytochgmbeomfkpaa
