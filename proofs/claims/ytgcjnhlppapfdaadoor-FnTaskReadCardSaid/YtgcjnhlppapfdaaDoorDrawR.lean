/- l6Rd.of, DrawTaskRead -/
import Derived.Test.YtgcjnhlppapfdaaDoorDraw4
import Derived.Test.YtgcjnhlppapfdaaDoorTextI
namespace Go.Proofs.YtgcjnhlppapfdaaDoor
open Go.RowKit

def strs4 : List ByteArray := [⟨#[32]⟩, ⟨#[41]⟩, ⟨#[48]⟩, ⟨#[107]⟩]
def strs10 : List ByteArray := [⟨#[]⟩, ⟨#[107]⟩, ⟨#[107, 49, 48]⟩, ⟨#[57, 55]⟩, ⟨#[48, 49]⟩, ⟨#[40, 43, 32, 49, 41]⟩, ⟨#[40, 64, 51, 32, 107, 49, 32, 107, 50, 41]⟩, ⟨#[40, 64, 32, 107, 49, 41]⟩, ⟨#[40, 63, 32, 49, 32, 50, 32, 51, 32, 41]⟩, ⟨#[40, 45, 32, 49, 32, 50, 41]⟩]

theorem of_str (w : World) (g p B c : Nat) (L : List ByteArray) (hr : RdAt w g p) (hp : p ≤ 990000) (hL : 0 < L.length) (hL2 : L.length ≤ 1000) (hgB : B ≠ g) (hc : ∀ i (h : i < L.length), w.cell? ⟨B, i, none⟩ = some (.string L[i])) :
    Calls Tryd.prog 21 #[.pointer (some ⟨g, 0, none⟩), .slice (some ⟨B, 0, none⟩) L.length c] w fun e w' => ∃ x, x ∈ L ∧ e = .returned (.string x) ∧ RdAt w' g (p + 1) ∧ Only g w w' := by
  have HC := Lib.hid hc
  have HR := Lib.hid hr
  clear hc hr
  go_enter Tryd.func21, Tryd.ntmps21
  go_wp2_with fail
  refine (pick_any _ g p L.length HR.out (by omega) (by omega) (by omega)).mono ?_
  rintro e w1 ⟨r, rfl, h0, h1, hrd, ho⟩
  have hrl := h1 (by omega)
  obtain ⟨i, rfl⟩ : ∃ i : Nat, r = i := ⟨r.toNat, by omega⟩
  have hi : i < L.length := by omega
  have hcell := HC.out i hi
  have hb : w1.heap[B]? = w.heap[B]? := ho.block B (World.block_lt_of_cell? w _ hcell) (by intro e; injection e with e; exact hgB e)
  have hc1 : w1.cell? ⟨B, i, none⟩ = some (.string L[i]) := (World.cell?_of_block (w := w) (a := ⟨B, i, none⟩) hb).trans hcell
  obtain ⟨x, hx⟩ : ∃ x, x = L[i] := ⟨_, rfl⟩
  have HM := Lib.hid (show x ∈ L by rw [hx]; exact List.getElem_mem hi)
  rw [← hx] at hc1
  have HX := Lib.hid (And.intro hrd ho)
  clear hrd ho hcell hb hx h1
  go_wp2_with fail
  go_ret
  exact ⟨x, HM.out, rfl, HX.out.1, HX.out.2⟩

theorem strs_cells (w : World) (L : List ByteArray) (t : TypeId) : ∀ i (h : i < L.length), (w.alloc (.cells (L.map Value.string).toArray t)).cell? ⟨w.heap.size, i, none⟩ = some (.string L[i]) := by
  intro i h
  rw [World.cell?_alloc_new]
  simp [h]

theorem strs4_size : ∀ x ∈ strs4, x.size ≤ 20 := by
  intro x hx
  simp [strs4] at hx
  rcases hx with rfl | rfl | rfl | rfl <;> decide
theorem strs10_size : ∀ x ∈ strs10, x.size ≤ 20 := by
  intro x hx
  simp [strs10] at hx
  rcases hx with rfl | rfl | rfl | rfl | rfl | rfl | rfl | rfl | rfl | rfl <;> decide

/-- Some text, and nothing else. -/
def DrawnS (w : World) (e : Ending) (w' : World) : Prop := ∃ s : ByteArray, e = .returned (.string s) ∧ s.size ≤ 1048576 ∧ Below w.heap.size w w'

set_option maxHeartbeats 2000000 in
theorem drawRead_any (w : World) (a : Option Addr) (n c : Nat) (h : CodeAt w a n c) : Calls Tryd.prog 11 #[.slice a n c] w (DrawnS w) := by
  have HC := Lib.hid h
  clear h
  go_enter Tryd.func11, Tryd.ntmps11
  go_wp2_with fail
  refine (open_any _ a n c HC.out).mono ?_
  rintro e w1 ⟨rfl, hrd, hb⟩
  have HB1 := Lib.hid hb
  have HR1 := Lib.hid hrd
  have hlt1 := hrd.lt
  have hs1 := hb.size
  clear hrd hb HC
  go_wp2_with fail
  refine (any_any _ w.heap.size 0 HR1.out (by omega)).mono ?_
  rintro e w2 ⟨t, a2, c2, p', rfl, hat, ok1, ok2, hm, hp0, hp1, hrd, ho⟩
  have hs2 := ho.size
  have HB2 := Lib.hid (HB1.out.trans (c := w2) ⟨ho.os, ho.tape, ho.output, ho.size, fun k hk => ho.block k (by omega) (by intro e; injection e; omega)⟩)
  have HT2 := Lib.hid hat.at
  have HR2 := Lib.hid hrd
  have hnl : nodesL t.ps ≤ 1048576 := by have := t.nodes_eq; omega
  clear hat ok1 ok2 hrd ho HB1 HR1
  go_wp2_with fail
  refine (specText_any t _ _ a2 c2 HT2.out hnl).mono ?_
  rintro e w3 ⟨rfl, hb⟩
  have hs3 := hb.size
  obtain ⟨s, hs⟩ : ∃ s : ByteArray, s = ⟨t.txt.toArray⟩ := ⟨_, rfl⟩
  have hsv : sv t.txt = .string s := by rw [hs]; rfl
  have hsz : s.size ≤ 1000 := by
    have h1 := text_len t
    have h2 : t.txt.length ≤ t.text.length := by unfold T.txt; split <;> simp
    rw [hs]; simp [ByteArray.size]; omega
  rw [hsv]
  have HB3 := Lib.hid (HB2.out.trans (hb.mono (by omega)))
  have HR3 := Lib.hid (HR2.out.below hb)
  clear hb hs hsv HB2 HT2 HR2
  go_wp2_with fail
  refine (pick_any _ w.heap.size p' 4 HR3.out (by omega) (by omega) (by omega)).mono ?_
  rintro e w4 ⟨r, rfl, _, _, hrd, ho⟩
  have hs4 := ho.size
  have HB4 := Lib.hid (HB3.out.trans (c := w4) ⟨ho.os, ho.tape, ho.output, ho.size, fun k hk => ho.block k (by omega) (by intro e; injection e; omega)⟩)
  have HR4 := Lib.hid hrd
  clear hrd ho HB3 HR3
  by_cases hr0 : r = 0
  · have hrb : (r == 0) = true := by simp [hr0]
    have HR4' := Lib.hid (HR4.out.alloc (.cells (strs4.map Value.string).toArray 9))
    have hC4 := strs_cells w4 strs4 9
    have HC4 := Lib.hid hC4
    clear hr0 HR4 hC4
    go_wp2_with fail
    refine (of_str _ w.heap.size (p' + 1) w4.heap.size 4 strs4 HR4'.out (by omega) (by decide) (by decide) (by omega) HC4.out).mono ?_
    rintro e w5 ⟨y, hy, rfl, hrd, ho⟩
    have hs5 : w4.heap.size ≤ w5.heap.size := by have := ho.size; simp at this; omega
    have HB5 := Lib.hid (HB4.out.trans (c := w5) ⟨ho.os, ho.tape, ho.output, hs5, fun k hk => (ho.block k (by simp; omega) (by intro e; injection e; omega)).trans (heap_alloc_old w4 _ (by omega))⟩)
    have HR5 := Lib.hid hrd
    have hyz := strs4_size y hy
    clear hy hrd ho HB4 HR4'
    go_wp2_with fail
    refine (pick_any _ w.heap.size (p' + 1 + 1) 8 HR5.out (by omega) (by omega) (by omega)).mono ?_
    rintro e w7 ⟨q, rfl, _, _, hrd, ho⟩
    have hs7 := ho.size
    have HB7 := Lib.hid (HB5.out.trans (c := w7) ⟨ho.os, ho.tape, ho.output, ho.size, fun k hk => ho.block k (by omega) (by intro e; injection e; omega)⟩)
    have HR7 := Lib.hid (hrd.alloc (.cells (strs10.map Value.string).toArray 9))
    have hC7 := strs_cells w7 strs10 9
    have HC7 := Lib.hid hC7
    clear hrd ho HB5 HR5 hC7
    by_cases hq : q = 0
    · have hqb : (q == 0) = true := by simp [hq]
      clear hq
      go_wp2_with fail
      refine (of_str _ w.heap.size (p' + 1 + 1 + 1) w7.heap.size 10 strs10 HR7.out (by omega) (by decide) (by decide) (by omega) HC7.out).mono ?_
      rintro e w8 ⟨x, hx, rfl, hrd, ho⟩
      have HX := Lib.hid (HB7.out.trans (c := w8) ⟨ho.os, ho.tape, ho.output, by have := ho.size; simp at this; omega, fun k hk => (ho.block k (by simp; omega) (by intro e; injection e; omega)).trans (heap_alloc_old w7 _ (by omega))⟩)
      have hxz := strs10_size x hx
      clear hx hrd ho
      go_wp2_with fail
      go_ret
      exact ⟨x, rfl, by omega, HX.out⟩
    · have hqb : (q == 0) = false := by simpa using hq
      clear hq
      go_wp2_with fail
      go_ret
      exact ⟨s ++ y, rfl, by rw [ByteArray.size_append]; omega, HB7.out⟩
  · have hrb : (r == 0) = false := by simpa using hr0
    clear hr0
    go_wp2_with fail
    refine (pick_any _ w.heap.size (p' + 1) 8 HR4.out (by omega) (by omega) (by omega)).mono ?_
    rintro e w7 ⟨q, rfl, _, _, hrd, ho⟩
    have hs7 := ho.size
    have HB7 := Lib.hid (HB4.out.trans (c := w7) ⟨ho.os, ho.tape, ho.output, ho.size, fun k hk => ho.block k (by omega) (by intro e; injection e; omega)⟩)
    have HR7 := Lib.hid (hrd.alloc (.cells (strs10.map Value.string).toArray 9))
    have hC7 := strs_cells w7 strs10 9
    have HC7 := Lib.hid hC7
    clear hrd ho HB4 HR4 hC7
    by_cases hq : q = 0
    · have hqb : (q == 0) = true := by simp [hq]
      clear hq
      go_wp2_with fail
      refine (of_str _ w.heap.size (p' + 1 + 1) w7.heap.size 10 strs10 HR7.out (by omega) (by decide) (by decide) (by omega) HC7.out).mono ?_
      rintro e w8 ⟨x, hx, rfl, hrd, ho⟩
      have HX := Lib.hid (HB7.out.trans (c := w8) ⟨ho.os, ho.tape, ho.output, by have := ho.size; simp at this; omega, fun k hk => (ho.block k (by simp; omega) (by intro e; injection e; omega)).trans (heap_alloc_old w7 _ (by omega))⟩)
      have hxz := strs10_size x hx
      clear hx hrd ho
      go_wp2_with fail
      go_ret
      exact ⟨x, rfl, by omega, HX.out⟩
    · have hqb : (q == 0) = false := by simpa using hq
      clear hq
      go_wp2_with fail
      go_ret
      exact ⟨s, rfl, by omega, HB7.out⟩
end Go.Proofs.YtgcjnhlppapfdaaDoor
