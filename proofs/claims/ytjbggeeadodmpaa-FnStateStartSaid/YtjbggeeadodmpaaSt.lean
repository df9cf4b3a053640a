/- a state in memory; szIntS, szState, eqState (written by wip/tools/gen_st.py) -/
import Derived.Test.YtjbggeeadodmpaaTrQ
import Derived.Test.YtjbggeeadodmpaaAdS
namespace Go.Proofs.Ytjbggeeadodmpaa
open Go.RowKit

/-- A state: values, what was built, inputs, traces. -/
structure St where
  v : List Int
  b : List Bool
  i : List Int
  t : List Tr

def StAt (w : World) (S : Nat → Prop) (s : St) (a1 : Option Addr) (c1 : Nat) (a2 : Option Addr) (c2 : Nat) (a3 : Option Addr) (c3 : Nat) (a4 : Option Addr) (c4 : Nat) : Prop := IntsAt w S s.v a1 c1 ∧ BoolsAt w S s.b a2 c2 ∧ IntsAt w S s.i a3 c3 ∧ TrsAt w S s.t a4 c4
section
variable {w w' : World} {S S' D : Nat → Prop} {s : St} {a1 a2 a3 a4 : Option Addr} {c1 c2 c3 c4 : Nat}
theorem StAt.keep (hS : ∀ b, S b → S' b) (hk : ∀ b, S b → b < w.heap.size → w'.heap[b]? = w.heap[b]?) (h : StAt w S s a1 c1 a2 c2 a3 c3 a4 c4) : StAt w' S' s a1 c1 a2 c2 a3 c3 a4 c4 :=
  ⟨h.1.keep hS hk, ElAt.keep hS hk h.2.1, h.2.2.1.keep hS hk, TrsAt.keep hS hk h.2.2.2⟩
theorem StAt.below (h : StAt w S s a1 c1 a2 c2 a3 c3 a4 c4) (hb : Below w.heap.size w w') : StAt w' S s a1 c1 a2 c2 a3 c3 a4 c4 := h.keep (fun _ h => h) (fun b _ hl => hb.block b hl)
theorem StAt.alloc (h : StAt w S s a1 c1 a2 c2 a3 c3 a4 c4) (o : Obj) : StAt (w.alloc o) S s a1 c1 a2 c2 a3 c3 a4 c4 := h.below ((Below.refl _ _).alloc (Nat.le_refl _) o)
theorem StAt.drew (h : StAt w S s a1 c1 a2 c2 a3 c3 a4 c4) : StAt w.drew S s a1 c1 a2 c2 a3 c3 a4 c4 := h.below (Below.refl _ _).drew
theorem StAt.drewN (h : StAt w S s a1 c1 a2 c2 a3 c3 a4 c4) (n : Nat) : StAt (w.drewN n) S s a1 c1 a2 c2 a3 c3 a4 c4 := h.below (below_drewN (Below.refl _ _) n)
theorem StAt.weaken (h : StAt w S s a1 c1 a2 c2 a3 c3 a4 c4) (hS : ∀ b, S b → S' b) : StAt w S' s a1 c1 a2 c2 a3 c3 a4 c4 := h.keep hS (fun _ _ _ => rfl)
theorem StAt.fr (h : StAt w S s a1 c1 a2 c2 a3 c3 a4 c4) (hf : Fr D w w') (hS : ∀ b, S b → ¬ D b) : StAt w' S s a1 c1 a2 c2 a3 c3 a4 c4 := h.keep (fun _ h => h) (fun b hb hl => hf.2.2.2.2 b hl (hS b hb))
theorem StAt.lim (h : StAt w S s a1 c1 a2 c2 a3 c3 a4 c4) : StAt w (fun b => S b ∧ b < w.heap.size) s a1 c1 a2 c2 a3 c3 a4 c4 := ⟨h.1.lim, ElAt.lim h.2.1, h.2.2.1.lim, TrsAt.lim h.2.2.2⟩
theorem StAt.lens (h : StAt w S s a1 c1 a2 c2 a3 c3 a4 c4) : (s.v.length ≤ 9223372036854775807 ∧ s.b.length ≤ 9223372036854775807) ∧ (s.i.length ≤ 9223372036854775807 ∧ s.t.length ≤ 9223372036854775807) := by
  obtain ⟨h1, h2, h3, h4⟩ := h
  have := h1.1; have := h1.2.1; have := h2.1; have := h2.2.1; have := h3.1; have := h3.2.1; have := RwAt.len h4
  refine ⟨⟨?_, ?_⟩, ?_, ?_⟩ <;> omega
theorem Blk.four {g : Nat} {t : TypeId} {x y z u : Value} (h : Blk w g t #[x, y, z, u]) : w.cell? ⟨g, 0, none⟩ = some x ∧ w.cell? ⟨g, 1, none⟩ = some y ∧ w.cell? ⟨g, 2, none⟩ = some z ∧ w.cell? ⟨g, 3, none⟩ = some u ∧
    w.frozen? ⟨g, 0, none⟩ = false ∧ w.frozen? ⟨g, 1, none⟩ = false ∧ w.frozen? ⟨g, 2, none⟩ = false ∧ w.frozen? ⟨g, 3, none⟩ = false :=
  ⟨by rw [h.cell 0]; rfl, by rw [h.cell 1]; rfl, by rw [h.cell 2]; rfl, by rw [h.cell 3]; rfl, h.frozen 0, h.frozen 1, h.frozen 2, h.frozen 3⟩
end
/-- What each state is: of numbers that fit, and traces that do. -/
def St.fine (s : St) : Prop := (∀ x ∈ s.v, i64ok x) ∧ (∀ x ∈ s.i, i64ok x) ∧ ∀ t ∈ s.t, trFine t
theorem StAt.fine {w : World} {S : Nat → Prop} {s : St} {a1 a2 a3 a4 : Option Addr} {c1 c2 c3 c4 : Nat} (h : StAt w S s a1 c1 a2 c2 a3 c3 a4 c4) : s.fine := ⟨h.1.2.2.1, h.2.2.1.2.2.1, TrsAt.fine h.2.2.2⟩
def St.n (s : St) : Nat := s.v.length + s.b.length + s.i.length + trN s.t

end Go.Proofs.Ytjbggeeadodmpaa
