/- impl.sameTrace, impl.hasTrace, spec.l5Same -/
import Derived.Test.YthjfmpeicjmlkaaTrQ
import Derived.BigQuiet
namespace Go.Proofs.Ythjfmpeicjmlkaa
open Go.RowKit

theorem trEq_false {a b : Tr} (h : a.k ≠ b.k ∨ a.v ≠ b.v ∨ a.u ≠ b.u) : trEq a b = false := by
  cases hx : trEq a b
  · rfl
  · have := (trEq_iff a b).1 hx
    subst this
    rcases h with h | h | h <;> exact absurd rfl h
theorem take_eq_snoc {α : Type} {l m : List α} {k : Nat} (h1 : k < l.length) (h2 : k < m.length) (h : l.take k = m.take k) (he : l[k] = m[k]) : l.take (k + 1) = m.take (k + 1) := by
  rw [List.take_succ_eq_append_getElem h1, List.take_succ_eq_append_getElem h2, h, he]
theorem ne_of_get {α : Type} {l m : List α} {k : Nat} (h1 : k < l.length) (h2 : k < m.length) (he : l[k] ≠ m[k]) : l ≠ m := by
  intro e; subst e; exact he rfl

end Go.Proofs.Ythjfmpeicjmlkaa
