/- toTask, toTaskS: a task copied into new memory; eqTask, eqTaskS -/
import Derived.Test.YtgcjnhlppapfdaaDoorProg
import Derived.Test.YtgcjnhlppapfdaaDoorTree
import Derived.WalkKit
import Derived.Handy
import Derived.WalkSpells
import Derived.Laws.MakeOwn
import Derived.Deep.RegionWith
namespace Go.Proofs.YtgcjnhlppapfdaaDoor
open Go.RowKit

theorem infoTask : (Tryd.prog.info? 25).map (fun i => (i.zero, i.size, i.bytes)) = some (some (.agg #[.int .i64 0, .int .i64 0, .slice none 0 0]), 3, 40) := by kernel_rfl

theorem run_make_rowN {P : Program} (t e : TypeId) (i : TypeInfo) (z : Value) (ht : P.underlying t = some (.slice e)) (hi : P.info? e = some i) (hz : i.zero = some z)
    (kl kc : IntKind) (n c : Nat) (hnc : n ≤ c) (hbytes : i.bytes * c ≤ 281474976710656) (h63 : c ≤ 9223372036854775807) (w : World) :
    (Instr.makeSlice t (.int kl (n : Int)) (.int kc (c : Int))).run P w = .ok (.slice (some ⟨w.heap.size, 0, none⟩) n c) (w.alloc (.cells (madeCells z.cells (c * i.size)) e)) := by
  have hb : (i.bytes : Int) * (c : Int) ≤ 281474976710656 := by
    have h : ((i.bytes * c : Nat) : Int) ≤ 281474976710656 := by omega
    rwa [Int.natCast_mul] at h
  have hr := run_make (P := P) w t e i z ht hi hz kl kc n c (by omega) (by omega) hb (by omega)
  simp only [Int.toNat_natCast] at hr
  exact hr

/-- A slice of n tasks of the call's own, in block g, of which the first are ps by now. -/
def Part (w : World) (e : TypeId) (g n : Nat) (ps : List T) : Prop :=
  ps.length ≤ n ∧ (∃ cs : Array Value, w.heap[g]? = some (.cells cs e (0, 0)) ∧ cs.size = 3 * n) ∧ AtL w (fun b => g < b) ps g 0

theorem Part.cells {w : World} {e : TypeId} {g n : Nat} {ps : List T} (h : Part w e g n ps) (j : Nat) (hj : j < 3 * n) : (∃ v, w.cell? ⟨g, j, none⟩ = some v) ∧ w.frozen? ⟨g, j, none⟩ = false := by
  obtain ⟨_, ⟨cs, hh, hs⟩, _⟩ := h
  refine ⟨⟨cs[j]'(by omega), ?_⟩, ?_⟩
  · simp [World.cell?, hh]
  · simp [World.frozen?, hh]

theorem Part.below {w w' : World} {e : TypeId} {g n : Nat} {ps : List T} (h : Part w e g n ps) (hb : Below w.heap.size w w') : Part w' e g n ps := by
  obtain ⟨h1, ⟨cs, hh, hs⟩, h3⟩ := h
  have hg : g < w.heap.size := by
    rcases Nat.lt_or_ge g w.heap.size with h | h
    · exact h
    · rw [Array.getElem?_eq_none h] at hh; cases hh
  exact ⟨h1, ⟨cs, by rw [hb.block g hg]; exact hh, hs⟩, AtL.keep (fun _ h => h) (fun b _ hl => hb.block b hl) _ _ _ (fun _ => hb.block g hg) h3⟩

theorem Part.lt {w : World} {e : TypeId} {g n : Nat} {ps : List T} (h : Part w e g n ps) : g < w.heap.size := by
  obtain ⟨_, ⟨cs, hh, _⟩, _⟩ := h
  rcases Nat.lt_or_ge g w.heap.size with h | h
  · exact h
  · rw [Array.getElem?_eq_none h] at hh; cases hh

theorem heap_set3 (w : World) (g j : Nat) (x y z : Value) (cs : Array Value) (e : TypeId) (fz : Nat × Nat) (hh : w.heap[g]? = some (.cells cs e fz)) :
    (((w.setCell ⟨g, j, none⟩ x).setCell ⟨g, j + 1, none⟩ y).setCell ⟨g, j + 2, none⟩ z).heap[g]? = some (.cells (((cs.setIfInBounds j x).setIfInBounds (j + 1) y).setIfInBounds (j + 2) z) e fz) := by
  simp [World.setCell, Array.getElem?_modify, hh]

/-- One more element is stored. -/
theorem Part.snoc {w : World} {e : TypeId} {g n : Nat} {ps : List T} (h : Part w e g n ps) (hl : ps.length < n) (t : T) (a : Option Addr) (c : Nat) (h1 : i64ok t.k) (h2 : i64ok t.n) (hs : AtS w (fun b => g < b) t.ps a c) :
    Part (((w.setCell ⟨g, ps.length * 3, none⟩ (.int .i64 t.k)).setCell ⟨g, ps.length * 3 + 1, none⟩ (.int .i64 t.n)).setCell ⟨g, ps.length * 3 + 2, none⟩ (.slice a t.ps.length c)) e g n (ps ++ [t]) := by
  obtain ⟨_, ⟨cs, hh, hs3⟩, hat⟩ := h
  generalize hj : ps.length * 3 = j
  have hnew := heap_set3 w g j (.int .i64 t.k) (.int .i64 t.n) (.slice a t.ps.length c) cs e (0, 0) hh
  have hc : ∀ m, m < cs.size → ((((w.setCell ⟨g, j, none⟩ (.int .i64 t.k)).setCell ⟨g, j + 1, none⟩ (.int .i64 t.n)).setCell ⟨g, j + 2, none⟩ (.slice a t.ps.length c)).cell? ⟨g, m, none⟩) = (((cs.setIfInBounds j (.int .i64 t.k)).setIfInBounds (j + 1) (.int .i64 t.n)).setIfInBounds (j + 2) (.slice a t.ps.length c))[m]? := by
    intro m _
    generalize (((w.setCell ⟨g, j, none⟩ (.int .i64 t.k)).setCell ⟨g, j + 1, none⟩ (.int .i64 t.n)).setCell ⟨g, j + 2, none⟩ (.slice a t.ps.length c)) = w' at *
    simp [World.cell?, hnew]
  have ho : ∀ b, g < b → (((w.setCell ⟨g, j, none⟩ (.int .i64 t.k)).setCell ⟨g, j + 1, none⟩ (.int .i64 t.n)).setCell ⟨g, j + 2, none⟩ (.slice a t.ps.length c)).heap[b]? = w.heap[b]? := by
    intro b hb
    rw [Below.heap_setCell _ _ _ _ (by simp; omega), Below.heap_setCell _ _ _ _ (by simp; omega), Below.heap_setCell _ _ _ _ (by simp; omega)]
  have hold : ∀ m, w.cell? ⟨g, m, none⟩ = cs[m]? := by intro m; simp [World.cell?, hh]
  generalize (((w.setCell ⟨g, j, none⟩ (.int .i64 t.k)).setCell ⟨g, j + 1, none⟩ (.int .i64 t.n)).setCell ⟨g, j + 2, none⟩ (.slice a t.ps.length c)) = w' at *
  refine ⟨by simp; omega, ⟨_, hnew, by simp; omega⟩, ?_⟩
  refine AtL.snoc (AtL.keepC (fun _ h => h) (fun b hb _ => ho b hb) ps g 0 (fun m _ hm => ?_) hat) ?_
  · rw [hc m (by omega), hold m]
    simp [Array.getElem?_setIfInBounds]
    repeat' split
    all_goals first | rfl | omega
  · rw [show 0 + 3 * ps.length = j by omega]
    have hs' : AtS w' (fun b => g < b) t.ps a c := hs.keep (fun _ h => h) (fun b hb _ => ho b hb)
    refine AtC.mk h1 h2 ?_ ?_ ?_ hs'
    · rw [hc _ (by omega)]; simp [Array.getElem?_setIfInBounds]; omega
    · rw [hc _ (by omega)]; simp [Array.getElem?_setIfInBounds]; omega
    · rw [hc _ (by omega), Array.getElem?_setIfInBounds, if_pos rfl, if_pos (by simp; omega)]

end Go.Proofs.YtgcjnhlppapfdaaDoor
