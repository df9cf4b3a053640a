/- spec.BuildKey, spec.CircleOf -/
import Derived.Test.YtochgmbeomfkpaaKeyM
import Derived.Test.YtochgmbeomfkpaaBuildI
namespace Go.Proofs.Ytochgmbeomfkpaa
open Go.RowKit

section
variable {S S' : Nat → Prop} {s : Sh} {l : List Int} {q : Nat} {a : Option Addr} {c : Nat} {a' : Option Addr} {c' : Nat} {ai : Option Addr} {ci : Nat}
end

theorem specBuildKey_pre {s : Sh} {l : List Int} {key : Int} (h : (inOk s l && decide (0 ≤ key ∧ key < s.m.length)) = false) : bkOk s l key = false := by
  unfold bkOk
  rw [← Bool.and_assoc, h]; rfl

end Go.Proofs.Ytochgmbeomfkpaa
