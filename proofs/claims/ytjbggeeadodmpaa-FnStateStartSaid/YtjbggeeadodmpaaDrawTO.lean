/- DrawTraceOf: a key, a task and values drawn off a code -/
import Derived.Test.YtjbggeeadodmpaaDr1
import Derived.Test.YtjbggeeadodmpaaBs2
namespace Go.Proofs.Ytjbggeeadodmpaa
open Go.RowKit

/-- A key, a task and values drawn off a code. -/
def DrawnKTV (w : World) (e : Ending) (w' : World) : Prop := ∃ (key : Int) (t : T) (a : Option Addr) (c : Nat) (l : List Int) (v : Value), e = .returned (.tuple #[.int .i64 key, .agg #[.int .i64 t.k, .int .i64 t.n, .slice a t.ps.length c], v]) ∧ i64ok key ∧ AtS w' (fun b => w.heap.size ≤ b ∧ b < w'.heap.size) t.ps a c ∧
  i64ok t.k ∧ i64ok t.n ∧ t.nodes ≤ 100 ∧ NumRow w' w.heap.size v l ∧ l.length ≤ 12 ∧ (∀ x ∈ l, 0 ≤ x ∧ x ≤ 97) ∧ Below w.heap.size w w'
end Go.Proofs.Ytjbggeeadodmpaa
