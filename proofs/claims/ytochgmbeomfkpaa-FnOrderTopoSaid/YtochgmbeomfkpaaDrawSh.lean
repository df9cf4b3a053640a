/- DrawSheetFixed and its like -/
import Derived.Test.YtochgmbeomfkpaaSd1
import Derived.Test.YtochgmbeomfkpaaDr1
namespace Go.Proofs.Ytochgmbeomfkpaa
open Go.RowKit

/-- A sheet was drawn off a code. -/
def ShDr (w : World) (e : Ending) (w' : World) : Prop := ∃ (s : Sh) (v : Value) (a' : Option Addr) (c' : Nat), e = .returned (.agg #[v, .slice a' s.t.length c']) ∧ ShD w' w.heap.size w'.heap.size s v a' c' ∧ s.t.length = s.m.length ∧ s.m.length ≤ 8 ∧ nodesL s.t ≤ 120 ∧ Below w.heap.size w w'
end Go.Proofs.Ytochgmbeomfkpaa
