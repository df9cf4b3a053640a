/- the nodes of a sheet in memory -/
import Derived.Test.YthjfmpeicjmlkaaShOkS
import Derived.Test.YthjfmpeicjmlkaaBs0
import Derived.Test.YthjfmpeicjmlkaaBs2
import Derived.Deep.LoopGhost
namespace Go.Proofs.Ythjfmpeicjmlkaa
open Go.RowKit

/-- What the node of key i points to at j: the node of key j, if its task may fetch it, and it is there. -/
def mpv (s : Sh) (g n i j : Nat) : Value := .pointer (if ((s.tk i).may (j : Int) && decide (j < n)) = true then some ⟨g + j, 0, none⟩ else none)
/-- The cells of a node. -/
def ndc (i : Nat) (t : T) (a : Option Addr) (c : Nat) (m : Nat → Value) (v : Int) (d : Bool) : Array Value :=
  #[.int .i64 i, .int .i64 t.k, .int .i64 t.n, .slice a t.ps.length c, m 0, m 1, m 2, m 3, m 4, m 5, m 6, m 7, m 8, m 9, .int .i64 v, .bool d]

section
variable {w w' : World} {S : Nat → Prop} {s : Sh} {g n : Nat} {m m' : Nat → Nat → Value} {v v' : Int → Int} {d d' : Int → Bool}
end

/-- Blocks of the nodes. -/
def ndB (g n : Nat) : Nat → Prop := fun b => g ≤ b ∧ b < g + n
/-- A node, by its key. -/
def ndP (g : Nat) (k : Int) : Value := .pointer (some ⟨g + k.toNat, 0, none⟩)

end Go.Proofs.Ythjfmpeicjmlkaa
