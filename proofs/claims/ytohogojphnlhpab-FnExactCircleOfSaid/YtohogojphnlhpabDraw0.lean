/- The reader of a code: l6Open, pick -/
import Derived.Test.YtohogojphnlhpabProg
import Derived.Test.YtohogojphnlhpabTree
import Derived.WalkKit
import Derived.Handy
import Derived.WalkSpells
import Derived.BigQuiet
import Derived.Deep.QuietTactic
import Derived.Laws.BitsAllLaws
import Derived.Laws.BitsLemmas
namespace Go.Proofs.Ytohogojphnlhpab
open Go.RowKit

/-- Block g holds a reader of a code, at place p. -/
def RdAt (w : World) (g : Nat) (p : Nat) : Prop := ∃ (a : Option Addr) (n c : Nat), n ≤ 2000 ∧ n ≤ c ∧ c ≤ 9223372036854775807 ∧ w.cell? ⟨g, 0, none⟩ = some (.slice a n c) ∧ w.cell? ⟨g, 1, none⟩ = some (.int .i64 p) ∧ w.frozen? ⟨g, 1, none⟩ = false ∧
  (n = 0 ∨ ∃ b o, a = some ⟨b, o, none⟩ ∧ b < g ∧ ∀ i, i < n → ∃ v : Int, 0 ≤ v ∧ v ≤ 255 ∧ w.cell? ⟨b, o + i, none⟩ = some (.int .u8 v))

/-- Only block g of what was there has turned. -/
def Only (g : Nat) (w w' : World) : Prop := w.grownBy w' (some g)

theorem Only.of_below {g : Nat} {w w' : World} (h : Below w.heap.size w w') : Only g w w' := ⟨h.os, h.tape, h.output, h.size, fun i hi _ => h.block i hi⟩
theorem Only.trans {g : Nat} {a b c : World} (h : Only g a b) (k : Only g b c) : Only g a c :=
  ⟨k.os.trans h.os, k.tape.trans h.tape, k.output.trans h.output, Nat.le_trans h.size k.size, fun i hi hne => (k.block i (Nat.lt_of_lt_of_le hi h.size) hne).trans (h.block i hi hne)⟩
theorem Only.refl (g : Nat) (w : World) : Only g w w := .of_below (Below.refl _ _)
theorem Only.drewN {g : Nat} {a w : World} (h : Only g a w) (n : Nat) : Only g a (w.drewN n) := ⟨h.os, h.tape, h.output, h.size, h.block⟩
theorem Only.alloc {g : Nat} {a w : World} (h : Only g a w) (o : Obj) : Only g a (w.alloc o) := h.trans (.of_below ((Below.refl _ _).alloc (Nat.le_refl _) o))
theorem Only.set {g : Nat} {a w : World} (h : Only g a w) {p : Addr} (hp : p.block = g ∨ a.heap.size ≤ p.block) (u : Value) : Only g a (w.setCell p u) :=
  ⟨h.os, h.tape, h.output, by simpa [World.setCell] using h.size, fun i hi hne => (Below.heap_setCell w p u i (by
    rintro rfl
    rcases hp with hp | hp
    · exact hne (by rw [hp])
    · omega)).trans (h.block i hi hne)⟩
theorem Only.below {g : Nat} {w w' : World} (h : Only g w w') (hg : w.heap.size ≤ g) : Below w.heap.size w w' := ⟨h.os, h.tape, h.output, h.size, fun i hi => h.block i hi (by intro e; injection e; omega)⟩

theorem RdAt.lt {w : World} {g p : Nat} (h : RdAt w g p) : g < w.heap.size := by
  obtain ⟨_, _, _, _, _, _, h0, _⟩ := h
  exact cell_lt h0
/-- The reader is kept by whatever leaves the blocks up to it as they were. -/
theorem RdAt.keep {w w' : World} {g p : Nat} (h : RdAt w g p) (hb : ∀ k, k ≤ g → w'.heap[k]? = w.heap[k]?) : RdAt w' g p := by
  obtain ⟨a, n, c, h1, h2, h3, h4, h5, h6, h7⟩ := h
  have e : ∀ k o, k ≤ g → w'.cell? ⟨k, o, none⟩ = w.cell? ⟨k, o, none⟩ := fun k o hk => World.cell?_of_block (w := w) (hb k hk)
  refine ⟨a, n, c, h1, h2, h3, (e _ _ (Nat.le_refl _)).trans h4, (e _ _ (Nat.le_refl _)).trans h5, (World.frozen?_of_block (w := w) (a := ⟨g, 1, none⟩) (hb g (Nat.le_refl _))).trans h6, ?_⟩
  rcases h7 with h7 | ⟨b, o, ha, hbg, hv⟩
  · exact .inl h7
  · refine .inr ⟨b, o, ha, hbg, fun i hi => ?_⟩
    obtain ⟨v, v0, v1, hc⟩ := hv i hi
    exact ⟨v, v0, v1, (e _ _ (by omega)).trans hc⟩
theorem RdAt.below {w w' : World} {g p : Nat} (h : RdAt w g p) (hb : Below w.heap.size w w') : RdAt w' g p := h.keep fun k hk => hb.block k (by have := h.lt; omega)
theorem RdAt.alloc {w : World} {g p : Nat} (h : RdAt w g p) (o : Obj) : RdAt (w.alloc o) g p := h.below ((Below.refl _ _).alloc (Nat.le_refl _) o)
theorem RdAt.drewN {w : World} {g p : Nat} (h : RdAt w g p) (n : Nat) : RdAt (w.drewN n) g p := h.keep fun _ _ => rfl
/-- One step of the reader. -/
theorem RdAt.next {w : World} {g p q : Nat} (h : RdAt w g p) : RdAt (w.setCell ⟨g, 1, none⟩ (.int .i64 q)) g q := by
  obtain ⟨a, n, c, h1, h2, h3, h4, h5, h6, h7⟩ := h
  have e : ∀ k o, (k ≠ g ∨ o ≠ 1) → (w.setCell ⟨g, 1, none⟩ (.int .i64 q)).cell? ⟨k, o, none⟩ = w.cell? ⟨k, o, none⟩ := fun k o hk =>
    World.cell?_setCell_other w ⟨g, 1, none⟩ ⟨k, o, none⟩ _ (by intro e; injection e with e1 e2; rcases hk with hk | hk <;> omega)
  refine ⟨a, n, c, h1, h2, h3, (e _ _ (.inr (by omega))).trans h4, ?_, ?_, ?_⟩
  · exact World.cell?_setCell_same w ⟨g, 1, none⟩ _ h5
  · simpa using h6
  · rcases h7 with h7 | ⟨b, o, ha, hbg, hv⟩
    · exact .inl h7
    · refine .inr ⟨b, o, ha, hbg, fun i hi => ?_⟩
      obtain ⟨v, v0, v1, hc⟩ := hv i hi
      exact ⟨v, v0, v1, (e _ _ (.inl (by omega))).trans hc⟩

theorem only_next {w : World} {g p q : Nat} (_h : RdAt w g p) : Only g w (w.setCell ⟨g, 1, none⟩ (.int .i64 q)) := (Only.refl g w).set (.inl rfl) _

/-- What pick hands back. -/
def Picked (g p : Nat) (n : Int) (w : World) (e : Ending) (w' : World) : Prop := ∃ r : Int, e = .returned (.int .i64 r) ∧ 0 ≤ r ∧ (1 ≤ n → r < n) ∧ RdAt w' g (p + 1) ∧ Only g w w'

theorem xor_nat (x : Nat) (h : x < 9223372036854775808) : ∃ y : Nat, bits .xor .i64 (x : Int) ((x : Int) / 64) = (y : Int) := by
  have h64 : ((x : Int) / 64) = ((x / 64 : Nat) : Int) := by omega
  rw [h64]
  have hx : x ^^^ (x / 64) < 2 ^ 63 := Nat.xor_lt_two_pow (by omega) (by omega)
  refine ⟨x ^^^ (x / 64), ?_⟩
  have of : ∀ a : Nat, a < 9223372036854775808 → (BitVec.ofInt 64 (a : Int)).toNat = a := fun a ha => by
    rw [BitVec.ofInt_natCast, BitVec.toNat_ofNat]; exact Nat.mod_eq_of_lt (by omega)
  show IntKind.i64.wrap ((BitVec.ofInt 64 (x : Int) ^^^ BitVec.ofInt 64 ((x / 64 : Nat) : Int)).toNat : Int) = _
  rw [BitVec.toNat_xor, of x h, of _ (by omega), IntKind.wrap_i64]
  omega

end Go.Proofs.Ytohogojphnlhpab
