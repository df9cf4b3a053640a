/- toTask, toTaskS: a task copied into new memory; eqTask, eqTaskS -/
import Derived.Test.YtklmpagpkeffjaaProg
import Derived.Test.YtklmpagpkeffjaaTree
import Derived.WalkKit
import Derived.Handy
import Derived.WalkSpells
import Derived.Laws.MakeOwn
import Derived.Deep.RegionWith
namespace Go.Proofs.Ytklmpagpkeffjaa
open Go.RowKit

theorem infoTask : (Try.prog.info? 42).map (fun i => (i.zero, i.size, i.bytes)) = some (some (.agg #[.int .i64 0, .int .i64 0, .slice none 0 0]), 3, 40) := by kernel_rfl

theorem run_make_rowN {P : Program} (t e : TypeId) (i : TypeInfo) (z : Value) (ht : P.underlying t = some (.slice e)) (hi : P.info? e = some i) (hz : i.zero = some z)
    (kl kc : IntKind) (n c : Nat) (hnc : n ≤ c) (hbytes : i.bytes * c ≤ 281474976710656) (h63 : c ≤ 9223372036854775807) (w : World) :
    (Instr.makeSlice t (.int kl (n : Int)) (.int kc (c : Int))).run P w = .ok (.slice (some ⟨w.heap.size, 0, none⟩) n c) (w.alloc (.cells (madeCells z.cells (c * i.size)) e)) := by
  have hb : (i.bytes : Int) * (c : Int) ≤ 281474976710656 := by
    have h : ((i.bytes * c : Nat) : Int) ≤ 281474976710656 := by omega
    rwa [Int.natCast_mul] at h
  have hr := run_make (P := P) w t e i z ht hi hz kl kc n c (by omega) (by omega) hb (by omega)
  simp only [Int.toNat_natCast] at hr
  exact hr

/-- A slice of n tasks of the call's own, in block g, of which the first are ps by now. -/
def Part (w : World) (e : TypeId) (g n : Nat) (ps : List T) : Prop :=
  ps.length ≤ n ∧ (∃ cs : Array Value, w.heap[g]? = some (.cells cs e (0, 0)) ∧ cs.size = 3 * n) ∧ AtL w (fun b => g < b) ps g 0

theorem Part.cells {w : World} {e : TypeId} {g n : Nat} {ps : List T} (h : Part w e g n ps) (j : Nat) (hj : j < 3 * n) : (∃ v, w.cell? ⟨g, j, none⟩ = some v) ∧ w.frozen? ⟨g, j, none⟩ = false := by
  obtain ⟨_, ⟨cs, hh, hs⟩, _⟩ := h
  refine ⟨⟨cs[j]'(by omega), ?_⟩, ?_⟩
  · simp [World.cell?, hh]
  · simp [World.frozen?, hh]

theorem Part.below {w w' : World} {e : TypeId} {g n : Nat} {ps : List T} (h : Part w e g n ps) (hb : Below w.heap.size w w') : Part w' e g n ps := by
  obtain ⟨h1, ⟨cs, hh, hs⟩, h3⟩ := h
  have hg : g < w.heap.size := by
    rcases Nat.lt_or_ge g w.heap.size with h | h
    · exact h
    · rw [Array.getElem?_eq_none h] at hh; cases hh
  exact ⟨h1, ⟨cs, by rw [hb.block g hg]; exact hh, hs⟩, AtL.keep (fun _ h => h) (fun b _ hl => hb.block b hl) _ _ _ (fun _ => hb.block g hg) h3⟩

theorem Part.lt {w : World} {e : TypeId} {g n : Nat} {ps : List T} (h : Part w e g n ps) : g < w.heap.size := by
  obtain ⟨_, ⟨cs, hh, _⟩, _⟩ := h
  rcases Nat.lt_or_ge g w.heap.size with h | h
  · exact h
  · rw [Array.getElem?_eq_none h] at hh; cases hh

theorem heap_set3 (w : World) (g j : Nat) (x y z : Value) (cs : Array Value) (e : TypeId) (fz : Nat × Nat) (hh : w.heap[g]? = some (.cells cs e fz)) :
    (((w.setCell ⟨g, j, none⟩ x).setCell ⟨g, j + 1, none⟩ y).setCell ⟨g, j + 2, none⟩ z).heap[g]? = some (.cells (((cs.setIfInBounds j x).setIfInBounds (j + 1) y).setIfInBounds (j + 2) z) e fz) := by
  simp [World.setCell, Array.getElem?_modify, hh]

/-- One more element is stored. -/
theorem Part.snoc {w : World} {e : TypeId} {g n : Nat} {ps : List T} (h : Part w e g n ps) (hl : ps.length < n) (t : T) (a : Option Addr) (c : Nat) (h1 : i64ok t.k) (h2 : i64ok t.n) (hs : AtS w (fun b => g < b) t.ps a c) :
    Part (((w.setCell ⟨g, ps.length * 3, none⟩ (.int .i64 t.k)).setCell ⟨g, ps.length * 3 + 1, none⟩ (.int .i64 t.n)).setCell ⟨g, ps.length * 3 + 2, none⟩ (.slice a t.ps.length c)) e g n (ps ++ [t]) := by
  obtain ⟨_, ⟨cs, hh, hs3⟩, hat⟩ := h
  generalize hj : ps.length * 3 = j
  have hnew := heap_set3 w g j (.int .i64 t.k) (.int .i64 t.n) (.slice a t.ps.length c) cs e (0, 0) hh
  have hc : ∀ m, m < cs.size → ((((w.setCell ⟨g, j, none⟩ (.int .i64 t.k)).setCell ⟨g, j + 1, none⟩ (.int .i64 t.n)).setCell ⟨g, j + 2, none⟩ (.slice a t.ps.length c)).cell? ⟨g, m, none⟩) = (((cs.setIfInBounds j (.int .i64 t.k)).setIfInBounds (j + 1) (.int .i64 t.n)).setIfInBounds (j + 2) (.slice a t.ps.length c))[m]? := by
    intro m _
    generalize (((w.setCell ⟨g, j, none⟩ (.int .i64 t.k)).setCell ⟨g, j + 1, none⟩ (.int .i64 t.n)).setCell ⟨g, j + 2, none⟩ (.slice a t.ps.length c)) = w' at *
    simp [World.cell?, hnew]
  have ho : ∀ b, g < b → (((w.setCell ⟨g, j, none⟩ (.int .i64 t.k)).setCell ⟨g, j + 1, none⟩ (.int .i64 t.n)).setCell ⟨g, j + 2, none⟩ (.slice a t.ps.length c)).heap[b]? = w.heap[b]? := by
    intro b hb
    rw [Below.heap_setCell _ _ _ _ (by simp; omega), Below.heap_setCell _ _ _ _ (by simp; omega), Below.heap_setCell _ _ _ _ (by simp; omega)]
  have hold : ∀ m, w.cell? ⟨g, m, none⟩ = cs[m]? := by intro m; simp [World.cell?, hh]
  generalize (((w.setCell ⟨g, j, none⟩ (.int .i64 t.k)).setCell ⟨g, j + 1, none⟩ (.int .i64 t.n)).setCell ⟨g, j + 2, none⟩ (.slice a t.ps.length c)) = w' at *
  refine ⟨by simp; omega, ⟨_, hnew, by simp; omega⟩, ?_⟩
  refine AtL.snoc (AtL.keepC (fun _ h => h) (fun b hb _ => ho b hb) ps g 0 (fun m _ hm => ?_) hat) ?_
  · rw [hc m (by omega), hold m]
    simp [Array.getElem?_setIfInBounds]
    repeat' split
    all_goals first | rfl | omega
  · rw [show 0 + 3 * ps.length = j by omega]
    have hs' : AtS w' (fun b => g < b) t.ps a c := hs.keep (fun _ h => h) (fun b hb _ => ho b hb)
    refine AtC.mk h1 h2 ?_ ?_ ?_ hs'
    · rw [hc _ (by omega)]; simp [Array.getElem?_setIfInBounds]; omega
    · rw [hc _ (by omega)]; simp [Array.getElem?_setIfInBounds]; omega
    · rw [hc _ (by omega), Array.getElem?_setIfInBounds, if_pos rfl, if_pos (by simp; omega)]

/-- What toTaskS hands back: the same tasks in memory of its own. -/
def CopiedS (ps : List T) (w : World) (e : Ending) (w' : World) : Prop := ∃ (a : Option Addr) (c : Nat), e = .returned (.slice a ps.length c) ∧ AtS w' (fun b => w.heap.size ≤ b) ps a c ∧ Below w.heap.size w w'
def CopiedT (t : T) (w : World) (e : Ending) (w' : World) : Prop := ∃ (a : Option Addr) (c : Nat), e = .returned (.agg #[.int .i64 t.k, .int .i64 t.n, .slice a t.ps.length c]) ∧ AtS w' (fun b => w.heap.size ≤ b) t.ps a c ∧ Below w.heap.size w w'

def CopyS (ps : List T) : Prop := ∀ (w : World) (S : Nat → Prop) (a : Option Addr) (c : Nat), AtS w S ps a c → nodesL ps ≤ 1048576 →
  Calls Try.prog 89 #[.slice a ps.length c] w (CopiedS ps w)
def CopyT (t : T) : Prop := ∀ (w : World) (S : Nat → Prop) (a : Option Addr) (c : Nat), AtS w S t.ps a c → nodesL t.ps ≤ 1048576 →
  Calls Try.prog 121 #[.agg #[.int .i64 t.k, .int .i64 t.n, .slice a t.ps.length c]] w (CopiedT t w)

theorem copyT_of (t : T) (hS : CopyS t.ps) : CopyT t := by
  intro w S a c hat hle
  have H := Lib.hid hS
  have HA := Lib.hid hat
  have HL := Lib.hid hle
  clear hS hat hle
  go_enter Try.func121, Try.ntmps121
  go_wp2_with fail
  refine (H.out _ S a c ?_ HL.out).mono ?_
  · exact ((HA.out.alloc _).alloc _).alloc _
  rintro e w1 ⟨a', c', rfl, hat, hb⟩
  obtain ⟨hc, hf⟩ := bcell hb
  have hz : w.heap.size + 1 + 1 < w1.heap.size := by have := hb.size; simp at this; omega
  have hz1 : w.heap.size + 1 < w1.heap.size := by omega
  have hz0 : w.heap.size < w1.heap.size := by omega
  simp only [World.size_alloc] at hc hf
  have HB := Lib.hid hb
  have HAT := Lib.hid hat
  clear hb hat
  go_wp2_with fail
  refine bodyPost_ret (v := .agg #[.int .i64 t.k, .int .i64 t.n, .slice a' t.ps.length c']) (by simp [results, Try.results121, go_sem, hc]) rfl ?_
  refine ⟨a', c', rfl, ?_, ?_⟩
  · have h := HAT.out
    simp only [World.size_alloc] at h
    exact ((((h.setCell (by intro b hb; simp; omega) _).setCell (by intro b hb; simp; omega) _).setCell (by intro b hb; simp; omega) _).setCell (by intro b hb; simp; omega) _).weaken (by intro b hb; omega)
  · exact (((((((((Below.refl _ _).alloc (Nat.le_refl _) _).alloc (by simp) _).alloc (by simp; omega) _).trans (HB.out.mono (by simp; omega))).setCell (by simp; omega) _).setCell (by simp) _).setCell (by simp) _).setCell (by simp) _)

theorem copyS_of (ps : List T) (hT : ∀ t ∈ ps, CopyT t) : CopyS ps := by
  intro w S a c hat hle
  have H := Lib.hid hT
  have HA := Lib.hid hat
  have HL := Lib.hid hle
  have hlen : ps.length ≤ 1048576 := by have := nodesL_ge ps; omega
  clear hT hat hle
  obtain ⟨i0, hi, hz0, hz1, hz2⟩ := info_parts infoTask
  have hmk := fun W => run_make_rowN (P := Try.prog) 24 42 i0 _ Try.underlying24 hi hz0 .i64 .i64 ps.length ps.length (Nat.le_refl _) (by rw [hz2]; omega) (by omega) W
  rw [hz1] at hmk
  go_enter Try.func89, Try.ntmps89
  go_wp2_with fail
  clear hmk
  have hp0 : Part (w.alloc (Obj.cells (madeCells #[Value.int IntKind.i64 0, Value.int IntKind.i64 0, Value.slice none 0 0] (ps.length * 3)) 42)) 42 w.heap.size ps.length [] :=
    ⟨by simp, ⟨_, heap_alloc_new w _, by rw [size_madeCells]; omega⟩, by simp [AtL]⟩
  have HP0 := Lib.hid hp0
  clear hp0
  go_loopw [4] (fun i wr => ∃ k : Nat, k ≤ ps.length ∧ i = .int .i64 k ∧ Part wr 42 w.heap.size ps.length (ps.take k) ∧ Below w.heap.size w wr) (fun i _ => ps.length - (intOf i).toNat)
  case atStart => exact ⟨0, by omega, rfl, by simpa using HP0.out, (Below.refl _ _).alloc (Nat.le_refl _) _⟩
  case round =>
    obtain ⟨k, hk, rfl, hp, hb⟩ := hrel
    have HB := Lib.hid hb
    have HP := Lib.hid hp
    clear hb hp HP0
    by_cases hlt : k < ps.length
    · obtain ⟨b, o, a', c', rfl, hbl, _, e0, e1, e2, hs, ok1, ok2⟩ := HA.out.elem HB.out hlt
      have HS' := Lib.hid hs
      have hnn := nodesL_snoc ps k hlt
      have hnr := nodesL_rest ps (k + 1)
      have hn1 := T.nodes_eq ps[k]
      have hle := HL.out
      have hpl : nodesL ps[k].ps ≤ 1048576 := by omega
      have HOK := Lib.hid (And.intro ok1 ok2)
      clear hs hnn hnr hn1 hle ok1 ok2
      go_wp2_with fail
      refine (H.out ps[k] (List.getElem_mem _) _ S a' c' HS'.out hpl).mono ?_
      rintro e w1 ⟨a2, c2, rfl, hat, hb⟩
      have hp1 := HP.out.below hb
      have hglt := HP.out.lt
      have hlk : (ps.take k).length = k := by simp; omega
      obtain ⟨⟨y0, hy0⟩, f0⟩ := hp1.cells (k * 3) (by omega)
      obtain ⟨⟨y1, hy1⟩, f1⟩ := hp1.cells (k * 3 + 1) (by omega)
      obtain ⟨⟨y2, hy2⟩, f2⟩ := hp1.cells (k * 3 + 2) (by omega)
      have hsn := hp1.snoc (by omega) ps[k] a2 c2 HOK.out.1 HOK.out.2 (hat.weaken (by intro b hb; omega))
      rw [hlk, ← List.take_succ_eq_append_getElem hlt] at hsn
      have HSN := Lib.hid hsn
      have HB' := Lib.hid (((((HB.out.trans (hb.mono HB.out.size)).setCell (p := ⟨w.heap.size, k * 3, none⟩) (Nat.le_refl _) (.int .i64 ps[k].k)).setCell (p := ⟨w.heap.size, k * 3 + 1, none⟩) (Nat.le_refl _) (.int .i64 ps[k].n)).setCell (p := ⟨w.heap.size, k * 3 + 2, none⟩) (Nat.le_refl _) (.slice a2 ps[k].ps.length c2)))
      clear hb hat hp1 hsn hglt hlk
      go_wp2_with fail
      go_roundw
      case rel => exact ⟨k + 1, by omega, by go_num, HSN.out, HB'.out⟩
      case measure => simp [intOf]; omega
    · have hk' : k = ps.length := by omega
      have hq := HP.out
      rw [hk', List.take_of_length_le (Nat.le_refl _)] at hq
      have HQ := Lib.hid hq
      clear hk' hq
      go_wp2_with fail
      go_ret
      refine ⟨_, _, rfl, ⟨Nat.le_refl _, by omega, .inr ⟨w.heap.size, 0, rfl, Nat.le_refl _, ?_⟩⟩, HB.out⟩
      exact AtL.keepC (fun b hb => by omega) (fun _ _ _ => rfl) _ _ _ (fun _ _ _ => rfl) HQ.out.2.2

theorem copyT_all : ∀ t, CopyT t := T.ind fun k n ps ih => copyT_of (.mk k n ps) (copyS_of ps ih)
theorem copyS_all (ps : List T) : CopyS ps := copyS_of ps fun t _ => copyT_all t

end Go.Proofs.Ytklmpagpkeffjaa
