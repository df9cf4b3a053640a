/- arguments and results of an exact law: tasks -/
import Derived.Test.YtjbggeeadodmpaaBs2
import Derived.Test.YtjbggeeadodmpaaBs1
import Derived.Test.YtjbggeeadodmpaaBs0
namespace Go.Proofs.Ytjbggeeadodmpaa
open Go.RowKit

/-- A task in memory of its own, in blocks that meet D. -/
def TaskOw (w : World) (D : Nat → Prop) (t : T) (a : Option Addr) (c : Nat) : Prop := AtS w D t.ps a c ∧ Mk w D t a c ∧ ∀ b, D b → b < w.heap.size
section
variable {w w' : World} {D : Nat → Prop} {t : T} {a : Option Addr} {c : Nat}
theorem TaskOw.at (h : TaskOw w D t a c) : AtS w D t.ps a c := h.1
theorem TaskOw.fr {D' : Nat → Prop} (h : TaskOw w D t a c) (hf : Fr D' w w') (hD : ∀ b, D b → ¬ D' b) : TaskOw w' D t a c := by
  refine ⟨h.1.keep (fun _ h => h) (fun b hb hl => hf.2.2.2.2 b hl (hD b hb)), ⟨h.2.1.1.keep (fun _ h => h) (fun b o hF _ v hv => (World.cell?_of_block (w := w) (hf.2.2.2.2 b (h.2.2 b hF) (hD b hF))).trans hv), fun b hF => ?_⟩, fun b hF => Nat.lt_of_lt_of_le (h.2.2 b hF) hf.size⟩
  obtain ⟨cs, m, h1, h2⟩ := h.2.1.2 b hF
  exact ⟨cs, m, h1.fr hf (hD b hF), h2⟩
theorem TaskOw.below (h : TaskOw w D t a c) (hb : Below w.heap.size w w') : TaskOw w' D t a c := TaskOw.fr (D' := fun _ => False) h (Fr.of_below hb) (fun _ _ hf => hf)
end
def CopiedTO (t : T) (w : World) (e : Ending) (w' : World) : Prop := ∃ a c D, e = .returned (.agg #[.int .i64 t.k, .int .i64 t.n, .slice a t.ps.length c]) ∧ TaskOw w' D t a c ∧ (∀ b, D b → w.heap.size ≤ b ∧ b < w'.heap.size) ∧ Below w.heap.size w w'
end Go.Proofs.Ytjbggeeadodmpaa
