/- spec.l3Build.key -/
import Derived.Test.YtochgmbeomfkpaaShG
import Derived.Test.YtochgmbeomfkpaaBs1
namespace Go.Proofs.Ytochgmbeomfkpaa
open Go.RowKit

theorem Blk.five {w : World} {g : Nat} {t : TypeId} {x0 x1 x2 x3 x4 : Value} (h : Blk w g t #[x0, x1, x2, x3, x4]) : w.cell? ⟨g, 0, none⟩ = some x0 ∧ w.cell? ⟨g, 1, none⟩ = some x1 ∧ w.cell? ⟨g, 2, none⟩ = some x2 ∧ w.cell? ⟨g, 3, none⟩ = some x3 ∧ w.cell? ⟨g, 4, none⟩ = some x4 ∧
    ∀ j, w.frozen? ⟨g, j, none⟩ = false := ⟨h.cell 0, h.cell 1, h.cell 2, h.cell 3, h.cell 4, h.frozen⟩

section
variable {S S' : Nat → Prop} {s : Sh} {l : List Int} {q : Nat} {a : Option Addr} {c : Nat} {a' : Option Addr} {c' : Nat} {ai : Option Addr} {ci : Nat} {uv cv : Value} {U : List Int} {k : Int} {w : World}

end
end Go.Proofs.Ytochgmbeomfkpaa
