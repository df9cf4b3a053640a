/- what the exact laws that mark need: a task ready to be marked, a row held, an argument kept while others are marked -/
import Derived.Test.YtklmpagpkeffjaaMarkI
import Derived.Test.YtklmpagpkeffjaaNote
namespace Go.Proofs.Ytklmpagpkeffjaa
open Go.RowKit

/-- A task in memory of its own (blocks that meet F), ready to be marked. -/
def Mk (w : World) (F : Nat → Prop) (t : T) (a : Option Addr) (c : Nat) : Prop := ShS w F t.ps a c ∧ TWf w F
theorem Mk.below {w w' : World} {F : Nat → Prop} {t : T} {a : Option Addr} {c : Nat} (h : Mk w F t a c) (hb : Below w.heap.size w w') : Mk w' F t a c :=
  ⟨h.1.keep (fun _ h => h) (ThS.below h.2 hb).2.1, (ThS.below h.2 hb).2.2⟩
theorem Mk.alloc {w : World} {F : Nat → Prop} {t : T} {a : Option Addr} {c : Nat} (h : Mk w F t a c) (o : Obj) : Mk (w.alloc o) F t a c := h.below ((Below.refl _ _).alloc (Nat.le_refl _) o)
theorem Mk.drew {w : World} {F : Nat → Prop} {t : T} {a : Option Addr} {c : Nat} (h : Mk w F t a c) : Mk w.drew F t a c := h.below (Below.refl _ _).drew

theorem Kp.fr {S D : Nat → Prop} {t : T} {a : Option Addr} {c : Nat} {ty : TypeId} {w wi wj : World} (h : Kp S t a c ty w wi) (hf : Fr D wi wj) (hD : ∀ b, D b → w.heap.size + 1 ≤ b) (hS : ∀ b, S b → b < w.heap.size) : Kp S t a c ty w wj := by
  have hs := h.1.size
  simp only [World.size_alloc] at hs
  exact ⟨h.1.trans ⟨hf.1, hf.2.1, hf.2.2.1, hf.2.2.2.1, fun b hb => hf.2.2.2.2 b (by omega) (fun hd => by have := hD b hd; omega)⟩,
    h.2.fr hf (fun b hb hd => by have := hD b hd; have := hS b hb; omega)⟩

theorem ownsRow_fr {w w' : World} {D : Nat → Prop} {base : Nat} {e : TypeId} {s n : Nat} {v : Value} {l : List Value} (h : w.ownsRow base e s v n l) (hf : Fr D w w') (hD : ∀ b, v.ownBlock = some b → ¬ D b) : w'.ownsRow base e s v n l := by
  have hlt := h.lt
  refine ⟨h.1, ?_⟩
  rcases h.2 with hn | ⟨g, cap, cur, rfl, hb, hgg, rest⟩
  · exact .inl hn
  · exact .inr ⟨g, cap, cur, rfl, hb, (hf.2.2.2.2 g (hlt g rfl).2 (hD g rfl)).trans hgg, rest⟩
theorem NumRow.fr {w w' : World} {D : Nat → Prop} {base : Nat} {v : Value} {l : List Int} (h : NumRow w base v l) (hf : Fr D w w') (hD : ∀ b, D b → b < base) : NumRow w' base v l :=
  ownsRow_fr h hf (fun b hb hd => by have := (World.ownsRow.lt h b hb).1; have := hD b hd; omega)
theorem NumRow.below {w w' : World} {base : Nat} {v : Value} {l : List Int} (h : NumRow w base v l) (hb : Below w.heap.size w w') : NumRow w' base v l :=
  NumRow.fr (D := fun _ => False) h (Fr.of_below hb) (fun _ hf => hf.elim)
theorem NumRow.drew {w : World} {base : Nat} {v : Value} {l : List Int} (h : NumRow w base v l) : NumRow w.drew base v l := h.below (Below.refl _ _).drew
theorem NumRow.frM {w w' : World} {base : Nat} {v : Value} {k n : Nat} {l : List Int} {e : Ending} (h : NumRow w base v l) (hf : MarkedI w base v k n e w') : Fr (fun b => base ≤ b) w w' :=
  ⟨hf.2.2.os, hf.2.2.tape, hf.2.2.output, hf.2.2.size, fun b hb hn => hf.2.2.block b hb (by intro e; exact hn (own_ge h b e.symm))⟩
end Go.Proofs.Ytklmpagpkeffjaa
