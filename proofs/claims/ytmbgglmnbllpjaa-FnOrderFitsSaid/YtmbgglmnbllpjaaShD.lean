/- a sheet in memory of its own that grows by a key -/
import Derived.Test.YtmbgglmnbllpjaaBs2
import Derived.Test.YtmbgglmnbllpjaaLower
import Derived.Test.YtmbgglmnbllpjaaDr1
namespace Go.Proofs.Ytmbgglmnbllpjaa
open Go.RowKit

/-- A sheet in memory of its own: blocks from B on, below M. -/
structure ShD (w : World) (B M : Nat) (s : Sh) (v : Value) (a' : Option Addr) (c' : Nat) : Prop where
  row : BoolRow w B v s.m
  own : ∀ b, v.ownBlock = some b → b < M
  ow : OwS w 25 (fun b => B ≤ b ∧ b < M ∧ v.ownBlock ≠ some b) s.t a' c'
  le : M ≤ w.heap.size
section
variable {w w' : World} {B M : Nat} {s : Sh} {v : Value} {a' : Option Addr} {c' : Nat}
theorem ShD.fr {D : Nat → Prop} (h : ShD w B M s v a' c') (hf : Fr D w w') (hD : ∀ b, D b → b < B ∨ M ≤ b) : ShD w' B M s v a' c' :=
  ⟨ElRow.frO h.row hf (fun b hb hd => by have := (World.ownsRow.lt h.row b hb).1; have := h.own b hb; have := hD b hd; omega), h.own,
    h.ow.keep (fun _ h => h) (fun b hb hl => hf.2.2.2.2 b hl (fun hd => by have := hD b hd; omega)), Nat.le_trans h.le hf.size⟩
theorem ShD.only {g : Nat} (h : ShD w B M s v a' c') (ho : Only g w w') (hg : g < B) : ShD w' B M s v a' c' :=
  h.fr (D := fun b => b = g) ⟨ho.os, ho.tape, ho.output, ho.size, fun b hb hn => ho.block b hb (by intro e; injection e; contradiction)⟩ (fun b hb => by omega)
theorem ShD.below (h : ShD w B M s v a' c') (hb : Below w.heap.size w w') : ShD w' B M s v a' c' := h.fr (D := fun _ => False) (Fr.of_below hb) (fun _ h => h.elim)
theorem ShD.alloc (h : ShD w B M s v a' c') (o : Obj) : ShD (w.alloc o) B M s v a' c' := h.below ((Below.refl _ _).alloc (Nat.le_refl _) o)
theorem ShD.set_ (h : ShD w B M s v a' c') (p : Addr) (u : Value) (hp : p.block < B ∨ M ≤ p.block) : ShD (w.setCell p u) B M s v a' c' :=
  h.fr (D := fun b => p.block = b) (Fr.set' (D := fun b => p.block = b) (Fr.of_below (Below.refl w.heap.size w)) p rfl u) (fun b hb => by omega)
theorem ShD.up (h : ShD w B M s v a' c') {M' : Nat} (hM : M ≤ M') (hl : M' ≤ w.heap.size) : ShD w B M' s v a' c' :=
  ⟨h.row, fun b hb => Nat.lt_of_lt_of_le (h.own b hb) hM, h.ow.weaken (fun b hb => ⟨hb.1, by omega, hb.2.2⟩), hl⟩
theorem ShD.low {B' : Nat} (h : ShD w B M s v a' c') (hB : B' ≤ B) : ShD w B' M s v a' c' := ⟨ownsRow_low h.row hB, h.own, h.ow.weaken (fun b hb => ⟨by omega, hb.2⟩), h.le⟩
theorem ShD.bool (h : ShD w B M s v a' c') {v' : Value} {x : Bool} (hown : w'.ownsRow B 4 1 v' (s.m.length + 1) (s.m.map Value.bool ++ [.bool x])) (hgr : w.grownBy w' v.ownBlock) (hv : ∀ b, v'.ownBlock = some b → v.ownBlock = some b ∨ w.heap.size ≤ b) :
    ShD w' B w'.heap.size ⟨s.m ++ [x], s.t⟩ v' a' c' := by
  have hle := h.le
  have hsz := hgr.size
  refine ⟨?_, fun b hb => (World.ownsRow.lt hown b hb).2, ?_, Nat.le_refl _⟩
  · unfold BoolRow ElRow
    simp only [List.length_append, List.length_singleton, List.map_append, List.map_cons, List.map_nil]
    exact hown
  · refine h.ow.keep (fun b hb => ⟨hb.1, by omega, fun e => ?_⟩) (fun b hb hl => hgr.block b hl (fun e => hb.2.2 e.symm))
    rcases hv b e with h1 | h1
    · exact hb.2.2 h1
    · omega
theorem ShD.task (h : ShD w B M s v a' c') {F1 : Nat → Prop} {t : T} {v' : Value} (hF1 : ∀ b, F1 b → M ≤ b ∧ b < w.heap.size) (hB : B ≤ M) (hg : Grew w 25 (fun b => B ≤ b ∧ b < M ∧ v.ownBlock ≠ some b) F1 s.t a' t v' w') :
    ∃ a2 c2, v' = .slice a2 (s.t.length + 1) c2 ∧ ShD w' B w'.heap.size ⟨s.m, s.t ++ [t]⟩ v a2 c2 := by
  obtain ⟨a2, c2, rfl, how, hsz, hkeep, hos, htape, hout⟩ := hg
  have hle := h.le
  have hhead : ∀ x, a' = some x → B ≤ x.block ∧ x.block < M ∧ v.ownBlock ≠ some x.block := fun x hx => h.ow.head x hx
  refine ⟨a2, c2, rfl, ?_, fun b hb => by have := h.own b hb; omega, ?_, Nat.le_refl _⟩
  · exact ElRow.frO (D := fun b => ∃ x, a' = some x ∧ b = x.block) h.row ⟨hos, htape, hout, hsz, fun b hb hn => hkeep b hb (fun x hx e => hn ⟨x, hx, e⟩)⟩
      (fun b hb hd => by obtain ⟨x, hx, e⟩ := hd; exact (hhead x hx).2.2 (by rw [← e]; exact hb))
  · refine how.tight.weaken (fun b hb => ⟨?_, hb.2, fun e => ?_⟩)
    · rcases hb.1 with h1 | h1 | h1
      · exact h1.1
      · have := hF1 b h1; omega
      · omega
    · have := h.own b e
      rcases hb.1 with h1 | h1 | h1
      · exact h1.2.2 e
      · have := hF1 b h1; omega
      · omega
theorem Grew.fr {e : TypeId} {F F1 : Nat → Prop} {ps : List T} {av : Option Addr} {t : T} {v' : Value} (hg : Grew w e F F1 ps av t v' w') : Fr (fun b => ∃ x, av = some x ∧ b = x.block) w w' := by
  obtain ⟨a2, c2, rfl, how, hsz, hkeep, hos, htape, hout⟩ := hg
  exact ⟨hos, htape, hout, hsz, fun b hb hn => hkeep b hb (fun x hx e => hn ⟨x, hx, e⟩)⟩
theorem Only.fr {g : Nat} {w0 : World} {D : Nat → Prop} (h : Only g w0 w) (hf : Fr D w w') (hD : ∀ b, D b → w0.heap.size ≤ b) : Only g w0 w' :=
  ⟨hf.1.trans h.os, hf.2.1.trans h.tape, hf.2.2.1.trans h.output, Nat.le_trans h.size hf.size, fun b hb hn => (hf.2.2.2.2 b (Nat.lt_of_lt_of_le hb h.size) (fun hd => by have := hD b hd; omega)).trans (h.block b hb hn)⟩
theorem RdAt.fr {g p : Nat} {D : Nat → Prop} (h : RdAt w g p) (hf : Fr D w w') (hD : ∀ b, D b → g < b) : RdAt w' g p :=
  h.keep fun k hk => hf.2.2.2.2 k (by have := h.lt; omega) (fun hd => by have := hD k hd; omega)
theorem grownBy_fr {row : Option Nat} (h : w.grownBy w' row) : Fr (fun b => row = some b) w w' := ⟨h.os, h.tape, h.output, h.size, fun b hb hn => h.block b hb (fun e => hn e.symm)⟩
/-- What a sheet in memory of its own reads as. -/
theorem ShD.at (h : ShD w B M s v a' c') : ∃ a c, v = .slice a s.m.length c ∧ ShAt w (fun b => B ≤ b ∧ b < M) s a c a' c' := by
  obtain ⟨a, c, rfl, h2⟩ := ElRow.at h.row
  refine ⟨a, c, rfl, ?_, h.ow.at.weaken (fun b hb => ⟨hb.1, hb.2.1⟩)⟩
  refine ⟨h2.1, h2.2.1, ?_⟩
  rcases h2.2.2 with h0 | ⟨b, o, rfl, hb, hc⟩
  · exact .inl h0
  · by_cases h0 : s.m = []
    · exact .inl h0
    · have hp : 0 < s.m.length := List.length_pos_iff.2 h0
      obtain ⟨g, cap, hv⟩ := own_some h.row hp
      simp only [Value.slice.injEq, Option.some.injEq, Addr.mk.injEq, true_and, and_true] at hv
      have := h.own b (by rw [hv.1.1, hv.1.2]; rfl)
      exact .inr ⟨b, o, rfl, ⟨hb, this⟩, hc⟩
end
end Go.Proofs.Ytmbgglmnbllpjaa
