/- lists of truths: szBoolS, toBoolS, eqBoolS, markBoolS -/
import Derived.Test.YtklmpagpkeffjaaEl
import Derived.Test.YtklmpagpkeffjaaMayT
import Derived.Test.YtklmpagpkeffjaaHoldI
import Derived.Test.YtklmpagpkeffjaaSz
namespace Go.Proofs.Ytklmpagpkeffjaa
open Go.RowKit

def BoolsAt (w : World) (S : Nat → Prop) (l : List Bool) (a : Option Addr) (c : Nat) : Prop := ElAt Value.bool w S l a c
def BoolRow (w : World) (base : Nat) (v : Value) (l : List Bool) : Prop := ElRow Value.bool 4 w base v l

theorem szBools_any (w : World) (S : Nat → Prop) (l : List Bool) (a : Option Addr) (c left : Nat) (h : BoolsAt w S l a c) (hl : left ≤ 1048576) :
    Calls Try.prog 86 #[.slice a l.length c, .int .i64 left] w fun e w' => e = .returned (.int .i64 (szN l.length left)) ∧ w = w' := by
  have hlen : l.length ≤ 9223372036854775807 := by have := h.1; have := h.2.1; omega
  clear h
  by_cases hle : l.length ≤ left
  · have hv : szN l.length left = (left : Int) - l.length := by unfold szN; rw [if_pos hle]
    rw [hv]; clear hv
    go_enter Try.func86, Try.ntmps86
    go_wp2_with fail
    go_ret
    exact ⟨rfl, rfl⟩
  · have hv : szN l.length left = -1 := by unfold szN; rw [if_neg hle]
    rw [hv]; clear hv
    go_enter Try.func86, Try.ntmps86
    go_wp2_with fail
    go_ret
    exact ⟨rfl, rfl⟩

/-- A block with n truths, of which the first are those of l. -/
def BRow (w : World) (g n : Nat) (l : List Bool) : Prop := ∃ cs : Array Value, Blk w g 4 cs ∧ cs.size = n ∧ ∀ i (h : i < l.length), cs[i]? = some (.bool l[i])

theorem BRow.full {w : World} {g base : Nat} {l : List Bool} (h : BRow w g l.length l) (hb : base ≤ g) (hl : l.length ≤ 9223372036854775807) : BoolRow w base (.slice (some ⟨g, 0, none⟩) l.length l.length) l := by
  obtain ⟨cs, h1, h2, h3⟩ := h
  refine ElRow.of_blk h1 hb (List.ext_getElem (by simp [h2]) fun i hi1 hi2 => ?_) hl
  have h := h3 i (by simpa using hi2)
  obtain ⟨_, h⟩ := Array.getElem?_eq_some_iff.1 h
  simp [h]

def CopiedB (l : List Bool) (w : World) (e : Ending) (w' : World) : Prop := ∃ v, e = .returned v ∧ BoolRow w' w.heap.size v l ∧ Below w.heap.size w w'
set_option maxHeartbeats 1000000 in
theorem copyB_any (w : World) (S : Nat → Prop) (l : List Bool) (a : Option Addr) (c : Nat) (h : BoolsAt w S l a c) (hle : l.length ≤ 1048576) :
    Calls Try.prog 88 #[.slice a l.length c] w (CopiedB l w) := by
  have H := Lib.hid h
  obtain ⟨i0, hi, hz0, hz1, hz2⟩ := info_parts infoBool
  have hmk := fun W => run_make_rowN (P := Try.prog) 23 4 i0 _ Try.underlying23 hi hz0 .i64 .i64 l.length l.length (Nat.le_refl _) (by rw [hz2]; omega) (by omega) W
  rw [hz1] at hmk
  clear h
  go_enter Try.func88, Try.ntmps88
  go_wp2_with fail
  clear hmk
  have hm1 : (madeCells #[Value.bool false] l.length).size = l.length := by rw [size_madeCells]
  have HI0 := Lib.hid (show BRow (w.alloc (.cells (madeCells #[Value.bool false] l.length) 4)) w.heap.size l.length [] from ⟨_, heap_alloc_new w _, hm1, by simp⟩)
  clear hm1
  go_loopw [4] (fun i wr => ∃ k : Nat, k ≤ l.length ∧ i = .int .i64 k ∧ BRow wr w.heap.size l.length (l.take k) ∧ Below w.heap.size w wr) (fun i _ => l.length - (intOf i).toNat)
  case atStart => exact ⟨0, by omega, rfl, by simpa using HI0.out, (Below.refl _ _).alloc (Nat.le_refl _) _⟩
  case round =>
    obtain ⟨k, hk, rfl, hr, hb⟩ := hrel
    have HB := Lib.hid hb
    have HR := Lib.hid hr
    clear hb HI0
    by_cases hlt : k < l.length
    · obtain ⟨b, o, rfl, hbl, _, hc⟩ := ElAt.get H.out HB.out hlt
      obtain ⟨cs, hbk, hcs, hcl⟩ := hr
      have hf := hbk.frozen k
      have hx : wr.cell? ⟨w.heap.size, k, none⟩ = some (cs[k]'(by omega)) := by rw [hbk.cell k]; simp
      obtain ⟨y, hy⟩ : ∃ y, y = cs[k]'(by omega) := ⟨_, rfl⟩
      rw [← hy] at hx
      have hset := hbk.set_ k (.bool l[k])
      have HN := Lib.hid (show BRow (wr.setCell ⟨w.heap.size, k, none⟩ (.bool l[k])) w.heap.size l.length (l.take (k + 1)) from ⟨_, hset, by simp [hcs], fun i hi => by
        have hi' : i < k + 1 ∧ i < l.length := by rw [List.length_take] at hi; omega
        by_cases hik : i = k
        · subst hik
          simp [Array.getElem?_setIfInBounds, hcs]
          omega
        · have := hcl i (by simp; omega)
          simp only [List.getElem_take] at this ⊢
          simp [Array.getElem?_setIfInBounds, this]
          omega⟩)
      have HB' := Lib.hid (HB.out.setCell (p := ⟨w.heap.size, k, none⟩) (Nat.le_refl _) (.bool l[k]))
      clear hset hcl hbk hcs hy
      obtain ⟨x, hxe⟩ : ∃ x, x = l[k] := ⟨_, rfl⟩
      rw [← hxe] at hc HN HB'
      clear hxe
      go_wp2_with fail
      go_roundw
      case rel => exact ⟨k + 1, by omega, by go_num, HN.out, HB'.out⟩
      case measure => simp [intOf]; omega
    · have hq : l.take k = l := List.take_of_length_le (by omega)
      rw [hq] at HR
      clear hq hr
      go_wp2_with fail
      go_ret
      exact ⟨_, rfl, HR.out.full (Nat.le_refl _) (by omega), HB.out⟩

/-- eqBoolS of two readings of one list -/
theorem eqBools_any (w : World) (S S' : Nat → Prop) (l : List Bool) (a a' : Option Addr) (c c' : Nat) (h : BoolsAt w S l a c) (h' : BoolsAt w S' l a' c') :
    Calls Try.prog 90 #[.slice a l.length c, .slice a' l.length c'] w fun e w' => e = .returned (.bool true) ∧ Below w.heap.size w w' := by
  have hlen : l.length ≤ 9223372036854775807 := by have := h.1; have := h.2.1; omega
  have H := Lib.hid h
  have H' := Lib.hid h'
  clear h h'
  have hne : (((l.length : Nat) : Int) != ((l.length : Nat) : Int)) = false := by simp
  go_enter Try.func90, Try.ntmps90
  go_wp2_with fail
  clear hne
  go_loopw [5] (fun i wr => ∃ k : Nat, k ≤ l.length ∧ i = .int .i64 k ∧ Below w.heap.size w wr) (fun i _ => l.length - (intOf i).toNat)
  case atStart => exact ⟨0, by omega, rfl, Below.refl _ _⟩
  case round =>
    obtain ⟨k, hk, rfl, hb⟩ := hrel
    have HB := Lib.hid hb
    clear hb
    by_cases hlt : k < l.length
    · obtain ⟨b, o, rfl, hbl, _, hc⟩ := ElAt.get H.out HB.out hlt
      obtain ⟨b', o', rfl, hbl', _, hc'⟩ := ElAt.get H'.out HB.out hlt
      have hne : (l[k] != l[k]) = false := by simp
      obtain ⟨v, hv⟩ : ∃ v, v = l[k] := ⟨_, rfl⟩
      rw [← hv] at hc hc' hne
      clear hv
      go_wp2_with fail
      go_quiet (fail)
      go_wp2_with fail
      go_roundw
      case rel => exact ⟨k + 1, by omega, by go_num, below_drewN HB.out _⟩
      case measure => simp [intOf]; omega
    · go_wp2_with fail
      go_ret
      exact ⟨rfl, HB.out⟩

/-- markBoolS: of what was there only the row's own block turns. -/
def MarkedB (w : World) (v : Value) (k n : Nat) (e : Ending) (w' : World) : Prop := e = .returned (.int .i64 ((k + n : Nat) : Int)) ∧ Fr (fun b => v.ownBlock = some b) w w'
set_option maxHeartbeats 1000000 in
theorem markB_any (w : World) (base : Nat) (v : Value) (l : List Bool) (k : Nat) (h : BoolRow w base v l) (hl : l.length ≤ 2000000) (hk : k ≤ 100000000) :
    Calls Try.prog 91 #[v, .int .i64 k] w (MarkedB w v k l.length) := by
  have frr : ∀ (W : World) D, Fr D W W := fun W D => Fr.of_below (Below.refl _ _)
  have FRR := Lib.hid frr
  clear frr
  obtain ⟨_, ⟨rfl, h0⟩ | ⟨g, cap, cur, rfl, hb, hh, hn, hc, hz, _⟩⟩ := h
  · rw [h0]
    go_enter Try.func91, Try.ntmps91
    go_wp2_with fail
    go_loopw [1, 5] (fun q i wr => i = .int .i64 0 ∧ q = .int .i64 k ∧ wr = w) (fun _ _ _ => 0)
    case atStart => exact ⟨rfl, rfl, rfl⟩
    case round =>
      obtain ⟨rfl, rfl, rfl⟩ := hrel
      go_wp2_with fail
      go_ret
      exact ⟨rfl, FRR.out _ _⟩
  · have HZ := Lib.hid (show l.length ≤ cur.size by omega)
    have HH := Lib.hid (show Blk w g 4 cur from hh)
    have hcm : l.length ≤ 9223372036854775807 := by omega
    clear hb hh hn hc hz
    go_enter Try.func91, Try.ntmps91
    go_wp2_with fail
    go_loopw [1, 5] (fun q i wr => ∃ (j : Nat) (cs : Array Value), j ≤ l.length ∧ i = .int .i64 j ∧ q = .int .i64 ((k + j : Nat) : Int) ∧ Blk wr g 4 cs ∧ l.length ≤ cs.size ∧ Fr (fun b => g = b) w wr) (fun _ i _ => l.length - (intOf i).toNat)
    case atStart => exact ⟨0, cur, by omega, rfl, rfl, HH.out, HZ.out, FRR.out _ _⟩
    case round =>
      obtain ⟨j, cs, hj, rfl, rfl, hbk, hcs, hfr⟩ := hrel
      have HFR := Lib.hid hfr
      by_cases hlt : j < l.length
      · have hf := hbk.frozen j
        have hx : wr.cell? ⟨g, j, none⟩ = some (cs[j]'(by omega)) := by rw [hbk.cell j]; simp
        obtain ⟨y, hy⟩ : ∃ y, y = cs[j]'(by omega) := ⟨_, rfl⟩
        rw [← hy] at hx
        have hs := fun u => hbk.set_ j u
        have HS := Lib.hid hs
        have HC := Lib.hid hcs
        clear hbk hfr hs hy hcs
        go_wp2_with fail
        go_roundw
        case rel =>
          refine ⟨j + 1, _, by omega, by go_num, by go_num, HS.out _, by rw [Array.size_setIfInBounds]; exact HC.out, ?_⟩
          exact ⟨HFR.out.1, HFR.out.2.1, HFR.out.2.2.1, by have := HFR.out.2.2.2.1; simpa [World.setCell] using this, fun b hb hn => (Below.heap_setCell _ _ _ _ (by intro e; exact hn e.symm)).trans (HFR.out.2.2.2.2 b hb hn)⟩
        case measure => simp [intOf]; omega
      · obtain rfl : j = l.length := by omega
        clear hbk hfr hcs
        go_wp2_with fail
        go_ret
        exact ⟨rfl, HFR.out.weaken (fun b hb => by simp [Value.ownBlock, hb])⟩
end Go.Proofs.Ytklmpagpkeffjaa
