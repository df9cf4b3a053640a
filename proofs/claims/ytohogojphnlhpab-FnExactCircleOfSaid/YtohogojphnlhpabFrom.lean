/- the closure of impl.fetchFrom fetches; impl.TaskValue, spec.TaskValue -/
import Derived.Test.YtohogojphnlhpabReck
import Derived.Test.YtohogojphnlhpabL2
import Derived.Test.YtohogojphnlhpabOkI
namespace Go.Proofs.Ytohogojphnlhpab
open Go.RowKit

/-- The values lie in memory, and the closure's block holds their slice; nothing turns. -/
def FromI (S : Nat → Prop) (lv : List Int) (a : Option Addr) (c g : Nat) (_ : List Int) (D : Nat → Prop) (w : World) : Prop :=
  (∀ b, ¬ D b) ∧ IntsAt w S lv a c ∧ Blk w g 26 #[.slice a lv.length c]

/-- The value of a task with values of keys, 0 if there is none. -/
def tvV (t : T) (lv : List Int) : Int := if (t.ok && vok lv) = true then t.val (vf lv) else 0
def TvPost (t : T) (lv : List Int) (w : World) (e : Ending) (w' : World) : Prop := e = .returned (.tuple #[.int .i64 (tvV t lv), .bool (t.ok && vok lv)]) ∧ Below w.heap.size w w'

theorem Fr.below {D : Nat → Prop} {w w' : World} (h : Fr D w w') (hD : ∀ b, ¬ D b) : Below w.heap.size w w' := ⟨h.1, h.2.1, h.2.2.1, h.2.2.2.1, fun b hb => h.2.2.2.2 b hb (hD b)⟩

end Go.Proofs.Ytohogojphnlhpab
