/- toIntS once more, as a row; what marking a row leaves alone -/
import Derived.Test.YtklmpagpkeffjaaHold
namespace Go.Proofs.Ytklmpagpkeffjaa
open Go.RowKit

theorem NumRow.frO {w w' : World} {base : Nat} {v : Value} {k n : Nat} {e : Ending} (hf : MarkedI w base v k n e w') : Fr (fun b => v.ownBlock = some b) w w' :=
  ⟨hf.2.2.os, hf.2.2.tape, hf.2.2.output, hf.2.2.size, fun b hb hn => hf.2.2.block b hb (fun e => hn e.symm)⟩

def CopiedI2 (l : List Int) (w : World) (e : Ending) (w' : World) : Prop := ∃ v, e = .returned v ∧ NumRow w' w.heap.size v l ∧ Below w.heap.size w w'
theorem copyI2_any (w : World) (S : Nat → Prop) (l : List Int) (a : Option Addr) (c : Nat) (h : IntsAt w S l a c) (hle : l.length ≤ 1048576) :
    Calls Try.prog 39 #[.slice a l.length c] w (CopiedI2 l w) := by
  have H := Lib.hid h
  obtain ⟨i0, hi, hz0, hz1, hz2⟩ := info_parts infoInt
  have hmk := fun W => run_make_rowN (P := Try.prog) 30 3 i0 _ Try.underlying30 hi hz0 .i64 .i64 l.length l.length (Nat.le_refl _) (by rw [hz2]; omega) (by omega) W
  rw [hz1] at hmk
  clear h
  go_enter Try.func39, Try.ntmps39
  go_wp2_with fail
  clear hmk
  have hm1 : (madeCells #[Value.int IntKind.i64 0] l.length).size = l.length := by rw [size_madeCells]
  have HI0 := Lib.hid (show IRow (w.alloc (.cells (madeCells #[Value.int IntKind.i64 0] l.length) 3)) w.heap.size l.length [] from ⟨_, heap_alloc_new w _, hm1, by simp⟩)
  clear hm1
  go_loopw [4] (fun i wr => ∃ k : Nat, k ≤ l.length ∧ i = .int .i64 k ∧ IRow wr w.heap.size l.length (l.take k) ∧ Below w.heap.size w wr) (fun i _ => l.length - (intOf i).toNat)
  case atStart => exact ⟨0, by omega, rfl, by simpa using HI0.out, (Below.refl _ _).alloc (Nat.le_refl _) _⟩
  case round =>
    obtain ⟨k, hk, rfl, hr, hb⟩ := hrel
    have HB := Lib.hid hb
    have HR := Lib.hid hr
    clear hb HI0
    by_cases hlt : k < l.length
    · obtain ⟨b, o, rfl, hbl, _, hc⟩ := H.out.get HB.out hlt
      obtain ⟨cs, hbk, hcs, hcl⟩ := hr
      have hf := hbk.frozen k
      have hx : wr.cell? ⟨w.heap.size, k, none⟩ = some (cs[k]'(by omega)) := by rw [hbk.cell k]; simp
      obtain ⟨y, hy⟩ : ∃ y, y = cs[k]'(by omega) := ⟨_, rfl⟩
      rw [← hy] at hx
      have hset := hbk.set_ k (.int .i64 l[k])
      have HN := Lib.hid (show IRow (wr.setCell ⟨w.heap.size, k, none⟩ (.int .i64 l[k])) w.heap.size l.length (l.take (k + 1)) from ⟨_, hset, by simp [hcs], fun i hi => by
        have hi' : i < k + 1 ∧ i < l.length := by rw [List.length_take] at hi; omega
        by_cases hik : i = k
        · subst hik
          simp [Array.getElem?_setIfInBounds, hcs]
          omega
        · have := hcl i (by simp; omega)
          simp only [List.getElem_take] at this ⊢
          simp [Array.getElem?_setIfInBounds, this]
          omega⟩)
      have HB' := Lib.hid (HB.out.setCell (p := ⟨w.heap.size, k, none⟩) (Nat.le_refl _) (.int .i64 l[k]))
      clear hset hcl hbk hcs hy
      obtain ⟨x, hxe⟩ : ∃ x, x = l[k] := ⟨_, rfl⟩
      rw [← hxe] at hc HN HB'
      clear hxe
      go_wp2_with fail
      go_roundw
      case rel => exact ⟨k + 1, by omega, by go_num, HN.out, HB'.out⟩
      case measure => simp [intOf]; omega
    · have hq : l.take k = l := List.take_of_length_le (by omega)
      rw [hq] at HR
      clear hq hr
      go_wp2_with fail
      go_ret
      obtain ⟨cs, hbk, hcs, hcl⟩ := HR.out
      exact ⟨_, rfl, ⟨by simp, .inr ⟨w.heap.size, l.length, cs, rfl, Nat.le_refl _, hbk, Nat.le_refl _, (by show l.length ≤ 9223372036854775807; omega), by omega, List.ext_getElem (by simp [hcs]) fun i h1 h2 => by
        have h := hcl i (by simpa using h2)
        obtain ⟨_, h⟩ := Array.getElem?_eq_some_iff.1 h
        simp [h]⟩⟩, HB.out⟩
end Go.Proofs.Ytklmpagpkeffjaa
