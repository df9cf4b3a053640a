/- lists of one-cell elements in memory: truths, pointers -/
import Derived.Test.YtklmpagpkeffjaaReck
import Derived.Test.YtklmpagpkeffjaaRow
namespace Go.Proofs.Ytklmpagpkeffjaa
open Go.RowKit

/-- The slice value '.slice a l.length c' has the elements l, each told by f, in a block that meets S. -/
def ElAt {α : Type} (f : α → Value) (w : World) (S : Nat → Prop) (l : List α) (a : Option Addr) (c : Nat) : Prop :=
  l.length ≤ c ∧ c ≤ 9223372036854775807 ∧ (l = [] ∨ ∃ b o, a = some ⟨b, o, none⟩ ∧ S b ∧ ∀ i (h : i < l.length), w.cell? ⟨b, o + i, none⟩ = some (f l[i]))

section
variable {α : Type} {f : α → Value} {w w' : World} {S S' : Nat → Prop} {l : List α} {a : Option Addr} {c : Nat}
theorem ElAt.keep (hS : ∀ b, S b → S' b) (hk : ∀ b, S b → b < w.heap.size → w'.heap[b]? = w.heap[b]?) (h : ElAt f w S l a c) : ElAt f w' S' l a c := by
  obtain ⟨h1, h2, h4⟩ := h
  refine ⟨h1, h2, ?_⟩
  rcases h4 with h4 | ⟨b, o, ha, hb, hc⟩
  · exact .inl h4
  · refine .inr ⟨b, o, ha, hS b hb, fun i hi => ?_⟩
    have := hc i hi
    exact (World.cell?_of_block (w := w) (hk b hb (cell_lt this))).trans this
theorem ElAt.below (h : ElAt f w S l a c) (hb : Below w.heap.size w w') : ElAt f w' S l a c := h.keep (fun _ h => h) (fun b _ hl => hb.block b hl)
theorem ElAt.alloc (h : ElAt f w S l a c) (o : Obj) : ElAt f (w.alloc o) S l a c := h.below ((Below.refl _ _).alloc (Nat.le_refl _) o)
theorem ElAt.drew (h : ElAt f w S l a c) : ElAt f w.drew S l a c := ElAt.keep (w := w) (w' := w.drew) (fun _ h => h) (fun _ _ _ => rfl) h
theorem ElAt.drewN (h : ElAt f w S l a c) (n : Nat) : ElAt f (w.drewN n) S l a c := ElAt.keep (w := w) (w' := w.drewN n) (fun _ h => h) (fun _ _ _ => rfl) h
theorem ElAt.setCell (h : ElAt f w S l a c) {p : Addr} (hp : ∀ b, S b → b ≠ p.block) (v : Value) : ElAt f (w.setCell p v) S l a c := h.keep (fun _ h => h) (fun b hb _ => Below.heap_setCell _ _ _ _ (hp b hb))
theorem ElAt.weaken (h : ElAt f w S l a c) (hS : ∀ b, S b → S' b) : ElAt f w S' l a c := h.keep hS (fun _ _ _ => rfl)
theorem ElAt.fr {D : Nat → Prop} (h : ElAt f w S l a c) (hf : Fr D w w') (hS : ∀ b, S b → ¬ D b) : ElAt f w' S l a c := h.keep (fun _ h => h) (fun b hb hl => hf.2.2.2.2 b hl (hS b hb))
theorem ElAt.lim (h : ElAt f w S l a c) : ElAt f w (fun b => S b ∧ b < w.heap.size) l a c := by
  obtain ⟨h1, h2, h4⟩ := h
  refine ⟨h1, h2, ?_⟩
  rcases h4 with h4 | ⟨b, o, ha, hb, hc⟩
  · exact .inl h4
  · by_cases hl : l = []
    · exact .inl hl
    · exact .inr ⟨b, o, ha, ⟨hb, cell_lt (hc 0 (List.length_pos_iff.2 hl))⟩, hc⟩
theorem ElAt.get (h : ElAt f w S l a c) (hb : Below w.heap.size w w') {i : Nat} (hi : i < l.length) :
    ∃ b o, a = some ⟨b, o, none⟩ ∧ b < w.heap.size ∧ S b ∧ w'.cell? ⟨b, o + i, none⟩ = some (f l[i]) := by
  rcases h.2.2 with rfl | ⟨b, o, ha, hS, hc⟩
  · simp at hi
  · have := hc i hi
    have hlt := cell_lt this
    exact ⟨b, o, ha, hlt, hS, (hb.cell (p := ⟨b, o + i, none⟩) hlt).trans this⟩
theorem ElAt.nil (hc : c ≤ 9223372036854775807) : ElAt f w S [] a c := ⟨by simp, hc, .inl rfl⟩
theorem ElAt.take (h : ElAt f w S l a c) (n : Nat) : ElAt f w S (l.take n) a c := by
  obtain ⟨h1, h2, h4⟩ := h
  refine ⟨by rw [List.length_take]; omega, h2, ?_⟩
  rcases h4 with rfl | ⟨b, o, ha, hb, hc⟩
  · exact .inl (by simp)
  · refine .inr ⟨b, o, ha, hb, fun i hi => ?_⟩
    rw [List.length_take] at hi
    rw [List.getElem_take]
    exact hc i (by omega)
end

/-- A row of the call's own. -/
def ElRow {α : Type} (f : α → Value) (e : TypeId) (w : World) (base : Nat) (v : Value) (l : List α) : Prop := w.ownsRow base e 1 v l.length (l.map f)
section
variable {α : Type} {f : α → Value} {e : TypeId} {w w' : World} {base : Nat} {v : Value} {l : List α}
theorem ElRow.at (h : ElRow f e w base v l) : ∃ a c, v = .slice a l.length c ∧ ElAt f w (fun b => base ≤ b) l a c := by
  have h' := h
  obtain ⟨_, ⟨rfl, h0⟩ | ⟨g, cap, cur, rfl, hb, hh, hn, hc, hz, _⟩⟩ := h
  · obtain rfl : l = [] := List.length_eq_zero_iff.1 h0
    exact ⟨none, 0, rfl, ElAt.nil (by omega)⟩
  · refine ⟨_, _, rfl, hn, hc, .inr ⟨g, 0, rfl, hb, fun i hi => ?_⟩⟩
    have := h'.cells (g := g) rfl i (f l[i]) (by rw [List.getElem?_map, List.getElem?_eq_getElem hi]; rfl)
    have e : (⟨g, 0, none⟩ : Addr).add i = ⟨g, 0 + i, none⟩ := by unfold Addr.add; split <;> simp_all
    rw [e] at this
    exact this
theorem ElRow.below (h : ElRow f e w base v l) (hb : Below w.heap.size w w') : ElRow f e w' base v l :=
  World.ownsRow.kept (row := none) h ⟨hb.os, hb.tape, hb.output, hb.size, fun i hi _ => hb.block i hi⟩ (Classical.em _)
theorem ElRow.drew (h : ElRow f e w base v l) : ElRow f e w.drew base v l := h.below (Below.refl _ _).drew
theorem ElRow.alloc (h : ElRow f e w base v l) (o : Obj) : ElRow f e (w.alloc o) base v l := h.below ((Below.refl _ _).alloc (Nat.le_refl _) o)
theorem ElRow.frO {D : Nat → Prop} (h : ElRow f e w base v l) (hf : Fr D w w') (hD : ∀ b, v.ownBlock = some b → ¬ D b) : ElRow f e w' base v l := by
  have hlt := World.ownsRow.lt h
  refine ⟨h.1, ?_⟩
  rcases h.2 with hn | ⟨g, cap, cur, rfl, hb, hgg, rest⟩
  · exact .inl hn
  · exact .inr ⟨g, cap, cur, rfl, hb, (hf.2.2.2.2 g (hlt g rfl).2 (hD g rfl)).trans hgg, rest⟩
theorem ElRow.fr {D : Nat → Prop} (h : ElRow f e w base v l) (hf : Fr D w w') (hD : ∀ b, D b → b < base) : ElRow f e w' base v l :=
  h.frO hf (fun b hb hd => by have := (World.ownsRow.lt h b hb).1; have := hD b hd; omega)
/-- A whole block is a row. -/
theorem ElRow.of_blk {g : Nat} {cs : Array Value} (h : Blk w g e cs) (hb : base ≤ g) (hcs : cs.toList = l.map f) (hl : l.length ≤ 9223372036854775807) : ElRow f e w base (.slice (some ⟨g, 0, none⟩) l.length l.length) l := by
  have hs : cs.size = l.length := by rw [← Array.length_toList, hcs, List.length_map]
  exact ⟨by simp, .inr ⟨g, l.length, cs, rfl, hb, h, Nat.le_refl _, (by show l.length ≤ 9223372036854775807; omega), by omega, by rw [hcs, Nat.mul_one, List.take_of_length_le (by simp)]⟩⟩
end
end Go.Proofs.Ytklmpagpkeffjaa
