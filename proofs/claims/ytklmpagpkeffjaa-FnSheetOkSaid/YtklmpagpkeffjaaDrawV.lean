/- l91Values; DrawTaskValue and its like -/
import Derived.Test.YtklmpagpkeffjaaDraw4
import Derived.Test.YtklmpagpkeffjaaRow
namespace Go.Proofs.Ytklmpagpkeffjaa
open Go.RowKit

theorem only_grown {g : Nat} {w wr w2 : World} {row : Option Nat} (h : Only g w wr) (hg : wr.grownBy w2 row) (hr : ∀ k, row = some k → w.heap.size ≤ k) : Only g w w2 :=
  ⟨hg.os.trans h.os, hg.tape.trans h.tape, hg.output.trans h.output, Nat.le_trans h.size hg.size, fun i hi hne => (hg.block i (Nat.lt_of_lt_of_le hi h.size) (by intro e; have := hr i e.symm; omega)).trans (h.block i hi hne)⟩
theorem RdAt.grown {g p : Nat} {w w2 : World} {row : Option Nat} (h : RdAt w g p) (hg : w.grownBy w2 row) (hr : ∀ k, row = some k → g < k) : RdAt w2 g p :=
  h.keep fun k hk => hg.block k (by have := h.lt; omega) (by intro e; have := hr k e.symm; omega)
theorem NumRow.only {g base : Nat} {w w2 : World} {v : Value} {l : List Int} (h : NumRow w base v l) (ho : Only g w w2) (hg : g < base) : NumRow w2 base v l :=
  World.ownsRow.kept h ho (by
    cases hv : v.ownBlock with
    | none => exact .inl rfl
    | some k => refine .inr ?_; intro e; injection e with e; have := own_ge h k hv; omega)

/-- Values drawn off a code. -/
def ValsD (g p : Nat) (w : World) (e : Ending) (w' : World) : Prop :=
  ∃ (l : List Int) (v : Value) (p' : Nat), e = .returned v ∧ NumRow w' w.heap.size v l ∧ l.length ≤ 12 ∧ (∀ x ∈ l, 0 ≤ x ∧ x ≤ 97) ∧ p ≤ p' ∧ p' ≤ p + 100 ∧ RdAt w' g p' ∧ Only g w w'

/-- A task and values drawn off a code. -/
def DrawnTV (w : World) (e : Ending) (w' : World) : Prop := ∃ (t : T) (a : Option Addr) (c : Nat) (l : List Int) (v : Value), e = .returned (.tuple #[.agg #[.int .i64 t.k, .int .i64 t.n, .slice a t.ps.length c], v]) ∧ AtS w' (fun b => w.heap.size ≤ b ∧ b < w'.heap.size) t.ps a c ∧
  i64ok t.k ∧ i64ok t.n ∧ t.nodes ≤ 100 ∧ NumRow w' w.heap.size v l ∧ l.length ≤ 12 ∧ (∀ x ∈ l, 0 ≤ x ∧ x ≤ 97) ∧ Below w.heap.size w w'
end Go.Proofs.Ytklmpagpkeffjaa
