/- spec.l1Rd.task: the loop over the parts of a group -/
import Derived.Test.YtgcjnhlppapfdaaDoorSrT
import Derived.Test.YtgcjnhlppapfdaaDoorStepOw
namespace Go.Proofs.YtgcjnhlppapfdaaDoor
open Go.RowKit Go.Lib

/-- Where the loop over the parts stands. -/
def GrI (w : World) (g B : Nat) (s : ByteArray) (p : Nat) (k n : Int) (parts j0 : Nat) (F : Nat → Option (T × Nat)) (i : Nat) (wr : World) : Prop :=
  ∃ (ps : List T) (a : Option Addr) (c : Nat), Blk wr B 25 #[.int .i64 k, .int .i64 n, .slice a ps.length c] ∧ Blk wr w.heap.size 25 #[.int .i64 0, .int .i64 0, .slice none 0 0] ∧
    OwS wr 25 (fun b => B < b ∧ b < wr.heap.size) ps a c ∧ Only g w wr ∧ ps.length ≤ i ∧
    ((∃ j, SrAt wr g s j false ∧ j ≤ s.size ∧ p < j ∧ ps.length = i ∧ partsS F s parts j0 = (partsS F s (parts - i) j).map (fun x => (ps ++ x.1, x.2))) ∨
     (∃ q, q ≤ s.size ∧ SrAt wr g s q true ∧ partsS F s parts j0 = none))

/-- The end of a group. -/
theorem groupEnd {w w1 : World} {g p B : Nat} {s : ByteArray} {k n : Nat} {ps : List T} {a : Option Addr} {c : Nat} {r : Option (T × Nat)} (hgl : g < w.heap.size) (hB : w.heap.size < B) (hk : k ≤ 5) (hn : n ≤ 999) (hl : ps.length ≤ 3) (ho : Only g w w1)
    (how : OwS w1 25 (fun b => B < b ∧ b < w1.heap.size) ps a c)
    (h : (∃ j, r = some (.mk k n ps, j) ∧ SrAt w1 g s j false ∧ j ≤ s.size ∧ p < j) ∨ (r = none ∧ ∃ q, q ≤ s.size ∧ SrAt w1 g s q true)) :
    TaskSPost w g s p r (.returned (.agg #[.int .i64 k, .int .i64 n, .slice a ps.length c])) (set3 w1 w.heap.size (.int .i64 k) (.int .i64 n) (.slice a ps.length c)) := by
  have hS : ∀ j b, SrAt w1 g s j b → SrAt (set3 w1 w.heap.size (.int .i64 k) (.int .i64 n) (.slice a ps.length c)) g s j b := fun j b h => (set3_heap _ _ _ _ _ _ (by omega)).trans h
  refine ⟨ho.set3 (Nat.le_refl _) _ _ _, .mk k n ps, a, c, rfl, (how.set3 (fun b hb => by omega) _ _ _).weaken (fun b hb => by rw [set3_size]; omega), by simp [T.k, i64ok]; omega, by simp [T.n, i64ok]; omega, hl, ?_⟩
  rcases h with ⟨j, rfl, h1, h2, h3⟩ | ⟨rfl, q, h1, h2⟩
  · exact ⟨rfl, hS _ _ h1, h2, h3⟩
  · exact ⟨q, h1, hS _ _ h2⟩

theorem partsS_step {F : Nat → Option (T × Nat)} {s : ByteArray} {m j j' : Nat} {t : T} (h : at_ s j = 32) (ht : F (j + 1) = some (t, j')) : partsS F s (m + 1) j = (partsS F s m j').map (fun x => (t :: x.1, x.2)) := by
  simp only [partsS]
  rw [if_pos h, ht]
  simp only
  cases partsS F s m j' <;> rfl
theorem partsS_bad {F : Nat → Option (T × Nat)} {s : ByteArray} {m j : Nat} (h : at_ s j = 32) (ht : F (j + 1) = none) : partsS F s (m + 1) j = none := by
  simp only [partsS]
  rw [if_pos h, ht]
theorem partsS_no {F : Nat → Option (T × Nat)} {s : ByteArray} {m j : Nat} (h : at_ s j ≠ 32) : partsS F s (m + 1) j = none := by
  simp only [partsS]
  rw [if_neg h]

/-- One more part has been read. -/
theorem GrI.next {w V w6 w7 : World} {g B p i parts j0 j : Nat} {s : ByteArray} {k n : Int} {F : Nat → Option (T × Nat)} {ps : List T} {t6 : T} {a a7 : Option Addr} {c c7 : Nat} (hgl : g < w.heap.size) (hBw : w.heap.size < B) (hi : i < parts) (hpl : ps.length = i) (h32 : at_ s j = 32)
    (hps : partsS F s parts j0 = (partsS F s (parts - i) j).map (fun x => (ps ++ x.1, x.2))) (hK5 : Blk V w.heap.size 25 #[.int .i64 0, .int .i64 0, .slice none 0 0]) (hBV : B < V.heap.size) (hO5 : Only g w V) (ho6 : Only g V.drew w6)
    (hcase : match F (j + 1) with | some (t0, j2) => t6 = t0 ∧ SrAt w6 g s j2 false ∧ j2 ≤ s.size ∧ j + 1 < j2 | none => ∃ q, q ≤ s.size ∧ SrAt w6 g s q true) (hpj : p < j) {o : Obj}
    (hhead : ∀ x, a = some x → B < x.block) (hs7 : w6.heap.size + 1 ≤ w7.heap.size) (hkeep : ∀ b, b < w6.heap.size + 1 → (∀ x, a = some x → b ≠ x.block) → w7.heap[b]? = (w6.alloc o).heap[b]?)
    (hos : w7.os = w6.os) (htape : w7.tape = w6.tape) (hout : w7.output = w6.output) (hB7 : Blk w7 B 25 #[.int .i64 k, .int .i64 n, .slice a ps.length c])
    (how7 : OwS w7 25 (fun b => (B < b ∧ b < V.heap.size) ∨ (V.heap.size ≤ b ∧ b < w6.heap.size) ∨ w6.heap.size + 1 ≤ b) (ps ++ [t6]) a7 c7) :
    GrI w g B s p k n parts j0 F (i + 1) (w7.setCell ⟨B, 2, none⟩ (.slice a7 (ps.length + 1) c7)) := by
  have hs6 := ho6.size
  simp only [World.size_drew] at hs6
  have hlow : ∀ b, b ≤ w.heap.size → w7.heap[b]? = w6.heap[b]? := fun b hb => (hkeep b (by omega) (fun x hx => by have := hhead x hx; omega)).trans (heap_alloc_old w6 o (by omega))
  have hS : ∀ q b, SrAt w6 g s q b → SrAt (w7.setCell ⟨B, 2, none⟩ (.slice a7 (ps.length + 1) c7)) g s q b := fun q b h => Blk.far (show SrAt w7 g s q b from (hlow g (by omega)).trans h) (by simp; omega) _
  refine ⟨ps ++ [t6], a7, c7, ?_, ?_, ?_, ?_, by simp; omega, ?_⟩
  · have h := hB7.set_ 2 (.slice a7 (ps.length + 1) c7)
    rw [show (ps ++ [t6]).length = ps.length + 1 by simp]
    simpa using h
  · exact Blk.far (show Blk w7 w.heap.size 25 _ from (hlow _ (Nat.le_refl _)).trans (Blk.only (w := V.drew) hK5 ho6 (by omega))) (by simp; omega) _
  · exact (how7.tight.setCell (by intro b hb; simp; omega) _).weaken (by intro b hb; simp [World.setCell]; omega)
  · have h3 : Only g w w6 := Only.trans (b := V.drew) (hO5.drewN 1) ho6
    have h7 : Only g w w7 := ⟨hos.trans h3.os, htape.trans h3.tape, hout.trans h3.output, by have := h3.size; omega, fun b hb hne => (hlow b (by omega)).trans (h3.block b hb hne)⟩
    exact h7.set (.inr (by simp; omega)) _
  · cases hr : F (j + 1) with
    | none =>
      rw [hr] at hcase
      obtain ⟨q, hq, h⟩ := hcase
      refine .inr ⟨q, hq, hS _ _ h, ?_⟩
      rw [hps, show parts - i = (parts - (i + 1)) + 1 by omega, partsS_bad h32 hr]; rfl
    | some x =>
      obtain ⟨t0, j2⟩ := x
      rw [hr] at hcase
      obtain ⟨rfl, h, hq, hlt⟩ := hcase
      refine .inl ⟨j2, hS _ _ h, hq, by omega, by simp; omega, ?_⟩
      rw [hps, show parts - i = (parts - (i + 1)) + 1 by omega, partsS_step h32 hr]
      cases partsS F s (parts - (i + 1)) j2 <;> simp

end Go.Proofs.YtgcjnhlppapfdaaDoor
