/- spec.l4Try -/
import Derived.Test.YtochgmbeomfkpaaOrdE
import Derived.Test.YtochgmbeomfkpaaKeyM
namespace Go.Proofs.Ytochgmbeomfkpaa
open Go.RowKit

/-- What is done: what is not made, and what is on the list. -/
def dnS (s : Sh) (D : List Int) : Int → Bool := fun k => !s.mdI k || decide (k ∈ D)
theorem dnS_nil (s : Sh) : dnS s [] = d0S s := by funext k; simp [dnS, d0S]
theorem dnS_snoc (s : Sh) (D : List Int) (k : Int) : dnS s (D ++ [k]) = upd (dnS s D) k := by
  funext x
  simp [dnS, upd, Bool.or_assoc]
theorem dnS_lo {s : Sh} {D : List Int} {x : Int} (h : d0S s x = true) : dnS s D x = true := by unfold dnS; unfold d0S at h; rw [h]; rfl

/-- What a try leaves. -/
def TryPost (s : Sh) (l D : List Int) (k : Nat) (w : World) (e : Ending) (w' : World) : Prop :=
  Below w.heap.size w w' ∧ ((∃ j, nxt (chS s l) (dnS s D) k = some j ∧ e = .returned (.tuple #[.int .i64 0, .int .i64 j, .bool false])) ∨ (nxt (chS s l) (dnS s D) k = none ∧ e = .returned (.tuple #[.int .i64 (vsS s l k), .int .i64 (-1), .bool true])))

/-- What l2Next gives, in two. -/
theorem NextPost.both {K : List Int} {m : Nat} {w : World} {v : Int} {e : Ending} {w' : World} (h : NextPost K m w v e w') : ∃ x y b, e = .returned (.tuple #[.int .i64 x, .int .i64 y, .bool b]) ∧ Below w.heap.size w w' ∧ ((b = true ∧ m = K.length ∧ x = v) ∨ (b = false ∧ m < K.length ∧ K[m]? = some y)) := by
  obtain ⟨hb, ⟨h1, lk, rfl⟩ | ⟨h1, u, key, hk, rfl⟩⟩ := h
  · exact ⟨_, _, _, rfl, hb, .inl ⟨rfl, h1, rfl⟩⟩
  · exact ⟨_, _, _, rfl, hb, .inr ⟨rfl, h1, hk⟩⟩

end Go.Proofs.Ytochgmbeomfkpaa
