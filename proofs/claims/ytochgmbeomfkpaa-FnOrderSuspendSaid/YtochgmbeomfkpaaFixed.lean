/- spec.TaskFixed, impl.TaskFixed -/
import Derived.Test.YtochgmbeomfkpaaBs0
namespace Go.Proofs.Ytochgmbeomfkpaa
open Go.RowKit

mutual
def T.fixed : T → Bool | .mk k _ ps => (decide (k ≠ 4) && decide (k ≠ 5)) && fixedL ps
def fixedL : List T → Bool | [] => true | t :: r => t.fixed && fixedL r
end
theorem fixedL_append : ∀ ps qs : List T, fixedL (ps ++ qs) = (fixedL ps && fixedL qs)
  | [], qs => by simp [fixedL]
  | t :: r, qs => by simp only [fixedL, List.cons_append, fixedL_append r qs, Bool.and_assoc]
theorem fixedL_snoc (ps : List T) (i : Nat) (h : i < ps.length) : fixedL (ps.take (i + 1)) = (fixedL (ps.take i) && ps[i].fixed) := by
  rw [List.take_succ_eq_append_getElem h, fixedL_append]; simp [fixedL]
theorem fixedL_false (ps : List T) (i : Nat) (h : i < ps.length) (hf : ps[i].fixed = false) : fixedL ps = false := by
  have h1 := fixedL_snoc ps i h
  have h2 := fixedL_append (ps.take (i + 1)) (ps.drop (i + 1))
  rw [List.take_append_drop] at h2
  rw [h2, h1, hf]; simp
theorem T.fixed_eq (t : T) : t.fixed = ((decide (t.k ≠ 4) && decide (t.k ≠ 5)) && fixedL t.ps) := by cases t; rfl

def T.fix (t : T) : Bool := t.ok && t.fixed

end Go.Proofs.Ytochgmbeomfkpaa
