/- toState (written by wip/tools/gen_st.py) -/
import Derived.Test.YtjbggeeadodmpaaSt
namespace Go.Proofs.Ytjbggeeadodmpaa
open Go.RowKit

/-- A list of truths in memory of its own, in a block that meets D. -/
def BoolsOw (w : World) (D : Nat → Prop) (l : List Bool) (a : Option Addr) (c : Nat) : Prop := BoolRow w 0 (.slice a l.length c) l ∧ ∀ b, (Value.slice a l.length c).ownBlock = some b → D b
section
variable {w w' : World} {D : Nat → Prop} {l : List Bool} {a : Option Addr} {c n k : Nat}
theorem BoolsOw.at (h : BoolsOw w D l a c) : BoolsAt w D l a c := by
  obtain ⟨h1, h2, h3⟩ := ownsRow_at h.1
  refine ⟨h1, h2, ?_⟩
  rcases h3 with h3 | ⟨g, ha, ho, hc⟩
  · exact .inl (List.length_eq_zero_iff.1 h3)
  · exact .inr ⟨g, 0, ha, h.2 g ho, fun i hi => hc i _ (by rw [List.getElem?_map, List.getElem?_eq_getElem hi]; rfl)⟩
theorem BoolsOw.fr {D' : Nat → Prop} (h : BoolsOw w D l a c) (hf : Fr D' w w') (hD : ∀ b, D b → ¬ D' b) : BoolsOw w' D l a c := ⟨ownsRow_fr h.1 hf (fun b hb => hD b (h.2 b hb)), h.2⟩
theorem BoolsOw.below (h : BoolsOw w D l a c) (hb : Below w.heap.size w w') : BoolsOw w' D l a c := BoolsOw.fr (D' := fun _ => False) h (Fr.of_below hb) (fun _ _ hf => hf)
theorem BoolRow.ow {base : Nat} {v : Value} (h : BoolRow w base v l) : ∃ a c D, v = .slice a l.length c ∧ BoolsOw w D l a c ∧ ∀ b, D b → base ≤ b ∧ b < w.heap.size := by
  obtain ⟨a, c, rfl, _⟩ := ElRow.at h
  exact ⟨a, c, fun b => (Value.slice a l.length c).ownBlock = some b, rfl, ⟨ownsRow_low h (Nat.zero_le _), fun _ h => h⟩, fun b hb => World.ownsRow.lt h b hb⟩
end
def CopiedBO (l : List Bool) (w : World) (e : Ending) (w' : World) : Prop := ∃ a c D, e = .returned (.slice a l.length c) ∧ BoolsOw w' D l a c ∧ (∀ b, D b → w.heap.size ≤ b ∧ b < w'.heap.size) ∧ Below w.heap.size w w'
/-- The parts of a state in memory of their own, each apart from the others. -/
structure StO (w : World) (D1 D2 D3 D4 : Nat → Prop) (s : St) (a1 : Option Addr) (c1 : Nat) (a2 : Option Addr) (c2 : Nat) (a3 : Option Addr) (c3 : Nat) (a4 : Option Addr) (c4 : Nat) : Prop where
  o1 : IntsOw w D1 s.v a1 c1
  o2 : BoolsOw w D2 s.b a2 c2
  o3 : IntsOw w D3 s.i a3 c3
  o4 : TracesOw w D4 s.t a4 c4
  lt : ∀ b, (D1 b ∨ D2 b ∨ D3 b ∨ D4 b) → b < w.heap.size
/-- Whatever is in one is in none of the others. -/
structure Apart (D1 D2 D3 D4 : Nat → Prop) : Prop where
  d12 : ∀ b, D1 b → ¬ D2 b
  d13 : ∀ b, D1 b → ¬ D3 b
  d14 : ∀ b, D1 b → ¬ D4 b
  d23 : ∀ b, D2 b → ¬ D3 b
  d24 : ∀ b, D2 b → ¬ D4 b
  d34 : ∀ b, D3 b → ¬ D4 b
/-- A state in memory of its own, in blocks that meet D. -/
def StOw (w : World) (D : Nat → Prop) (s : St) (a1 : Option Addr) (c1 : Nat) (a2 : Option Addr) (c2 : Nat) (a3 : Option Addr) (c3 : Nat) (a4 : Option Addr) (c4 : Nat) : Prop := ∃ D1 D2 D3 D4 : Nat → Prop, StO w D1 D2 D3 D4 s a1 c1 a2 c2 a3 c3 a4 c4 ∧ Apart D1 D2 D3 D4 ∧ ∀ b, (D1 b ∨ D2 b ∨ D3 b ∨ D4 b) → D b
section
variable {w w' : World} {D D1 D2 D3 D4 : Nat → Prop} {s : St} {a1 a2 a3 a4 : Option Addr} {c1 c2 c3 c4 : Nat}
theorem StOw.at (h : StOw w D s a1 c1 a2 c2 a3 c3 a4 c4) (hf : s.fine) : StAt w D s a1 c1 a2 c2 a3 c3 a4 c4 := by
  obtain ⟨D1, D2, D3, D4, h, -, hd⟩ := h
  exact ⟨(h.o1.at hf.1).weaken fun b hb => hd b (.inl hb), h.o2.at.weaken fun b hb => hd b (.inr (.inl hb)), (h.o3.at hf.2.1).weaken fun b hb => hd b (.inr (.inr (.inl hb))), (h.o4.at hf.2.2).weaken fun b hb => hd b (.inr (.inr (.inr hb)))⟩
theorem StOw.fr {D' : Nat → Prop} (h : StOw w D s a1 c1 a2 c2 a3 c3 a4 c4) (hf : Fr D' w w') (hD : ∀ b, D b → ¬ D' b) : StOw w' D s a1 c1 a2 c2 a3 c3 a4 c4 := by
  obtain ⟨D1, D2, D3, D4, h, ha, hd⟩ := h
  exact ⟨D1, D2, D3, D4, ⟨h.o1.fr hf fun b hb => hD b (hd b (.inl hb)), h.o2.fr hf fun b hb => hD b (hd b (.inr (.inl hb))), h.o3.fr hf fun b hb => hD b (hd b (.inr (.inr (.inl hb)))), h.o4.fr hf fun b hb => hD b (hd b (.inr (.inr (.inr hb)))), fun b hb => Nat.lt_of_lt_of_le (h.lt b hb) hf.size⟩, ha, hd⟩
theorem StOw.below (h : StOw w D s a1 c1 a2 c2 a3 c3 a4 c4) (hb : Below w.heap.size w w') : StOw w' D s a1 c1 a2 c2 a3 c3 a4 c4 := StOw.fr (D' := fun _ => False) h (Fr.of_below hb) (fun _ _ hf => hf)
end
def CopiedXO (s : St) (w : World) (e : Ending) (w' : World) : Prop := ∃ a1 c1 a2 c2 a3 c3 a4 c4, ∃ D, e = .returned (.agg #[.slice a1 s.v.length c1, .slice a2 s.b.length c2, .slice a3 s.i.length c3, .slice a4 s.t.length c4]) ∧ StOw w' D s a1 c1 a2 c2 a3 c3 a4 c4 ∧ (∀ b, D b → w.heap.size ≤ b ∧ b < w'.heap.size) ∧ Below w.heap.size w w'

theorem IntsOw.stay {w : World} {D : Nat → Prop} {l : List Int} {a : Option Addr} {c : Nat} (h : IntsOw w D l a c) {p : Addr} (hp : ¬ D p.block) (u : Value) : IntsOw (w.setCell p u) D l a c := h.fr (Fr.set' (D := fun b => b = p.block) (Fr.of_below (Below.refl _ _)) p rfl u) (fun _ hb e => hp (e ▸ hb))
theorem BoolsOw.stay {w : World} {D : Nat → Prop} {l : List Bool} {a : Option Addr} {c : Nat} (h : BoolsOw w D l a c) {p : Addr} (hp : ¬ D p.block) (u : Value) : BoolsOw (w.setCell p u) D l a c := h.fr (Fr.set' (D := fun b => b = p.block) (Fr.of_below (Below.refl _ _)) p rfl u) (fun _ hb e => hp (e ▸ hb))
theorem TracesOw.stay {w : World} {D : Nat → Prop} {l : List Tr} {a : Option Addr} {c : Nat} (h : TracesOw w D l a c) {p : Addr} (hp : ¬ D p.block) (u : Value) : TracesOw (w.setCell p u) D l a c := h.fr (Fr.set' (D := fun b => b = p.block) (Fr.of_below (Below.refl _ _)) p rfl u) (fun _ hb e => hp (e ▸ hb))

end Go.Proofs.Ytjbggeeadodmpaa
