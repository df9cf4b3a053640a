/- brTask: two copies of one task are found equal -/
import Derived.Test.YtgcjnhlppapfdaaDoorTree
import Derived.Test.YtgcjnhlppapfdaaDoorBlk
import Derived.WalkKit
import Derived.Handy
import Derived.WalkSpells
import Derived.Deep.RegionWith
namespace Go.Proofs.YtgcjnhlppapfdaaDoor
open Go.RowKit

def BrT (t : T) : Prop := ∀ (w : World) (S S' : Nat → Prop) (a a' : Option Addr) (c c' : Nat), AtS w S t.ps a c → AtS w S' t.ps a' c' →
  Calls Tryd.prog 10 #[.agg #[.int .i64 t.k, .int .i64 t.n, .slice a t.ps.length c], .agg #[.int .i64 t.k, .int .i64 t.n, .slice a' t.ps.length c']] w fun e w' => e = .returned (.bool true) ∧ Below w.heap.size w w'

set_option maxHeartbeats 1000000 in
theorem brT_of (t : T) (hT : ∀ u ∈ t.ps, BrT u) : BrT t := by
  intro w S S' a a' c c' h h'
  have H := Lib.hid hT
  have hlen : t.ps.length ≤ 9223372036854775807 := by have := h.1; have := h.2.1; omega
  have HA := Lib.hid ((h.alloc (.cells #[.int .i64 t.k, .int .i64 t.n, .slice a t.ps.length c] 25)).alloc (.cells #[.int .i64 t.k, .int .i64 t.n, .slice a' t.ps.length c'] 25))
  have HA' := Lib.hid ((h'.alloc (.cells #[.int .i64 t.k, .int .i64 t.n, .slice a t.ps.length c] 25)).alloc (.cells #[.int .i64 t.k, .int .i64 t.n, .slice a' t.ps.length c'] 25))
  have HB0 := Lib.hid ((Blk.new w 25 #[.int .i64 t.k, .int .i64 t.n, .slice a t.ps.length c]).alloc (.cells #[.int .i64 t.k, .int .i64 t.n, .slice a' t.ps.length c'] 25))
  have hB1 := Blk.new (w.alloc (.cells #[.int .i64 t.k, .int .i64 t.n, .slice a t.ps.length c] 25)) 25 #[.int .i64 t.k, .int .i64 t.n, .slice a' t.ps.length c']
  rw [World.size_alloc] at hB1
  have HB1 := Lib.hid hB1
  have HX := Lib.hid (((Below.refl w.heap.size w).alloc (Nat.le_refl _) (.cells #[.int .i64 t.k, .int .i64 t.n, .slice a t.ps.length c] 25)).alloc (by simp) (.cells #[.int .i64 t.k, .int .i64 t.n, .slice a' t.ps.length c'] 25))
  clear hT h h' hB1
  have hne : (((t.ps.length : Nat) : Int) != ((t.ps.length : Nat) : Int)) = false := by simp
  have hne0 : (t.k != t.k) = false := by simp
  have hne1 : (t.n != t.n) = false := by simp
  go_enter Tryd.func10, Tryd.ntmps10
  go_wp2_with fail
  clear hne hne0 hne1
  obtain ⟨W, hW⟩ : ∃ W, W = (w.alloc (.cells #[.int .i64 t.k, .int .i64 t.n, .slice a t.ps.length c] 25)).alloc (.cells #[.int .i64 t.k, .int .i64 t.n, .slice a' t.ps.length c'] 25) := ⟨_, rfl⟩
  have hws : W.heap.size = w.heap.size + 2 := by rw [hW]; simp
  rw [← hW] at HA HA' HB0 HB1 HX ⊢
  clear hW
  go_loopw [5] (fun i wr => ∃ k : Nat, k ≤ t.ps.length ∧ i = .int .i64 k ∧ Below W.heap.size W wr) (fun i _ => t.ps.length - (intOf i).toNat)
  case atStart => exact ⟨0, by omega, rfl, Below.refl _ _⟩
  case round =>
    obtain ⟨k, hk, rfl, hb⟩ := hrel
    have HB := Lib.hid hb
    obtain ⟨x0, x1, x2, f0, f1, f2⟩ := (HB0.out.below hb (by omega)).three
    obtain ⟨y0, y1, y2, g0, g1, g2⟩ := (HB1.out.below hb (by omega)).three
    clear hb
    by_cases hlt : k < t.ps.length
    · obtain ⟨b, o, a2, c2, rfl, hbl, _, e0, e1, e2, hs, _, _⟩ := HA.out.elem HB.out hlt
      obtain ⟨b', o', a2', c2', rfl, hbl', _, e0', e1', e2', hs', _, _⟩ := HA'.out.elem HB.out hlt
      have HS := Lib.hid hs
      have HS' := Lib.hid hs'
      clear hs hs'
      go_wp2_with fail
      go_region_with (go_at_call 10; refine (H.out t.ps[k] (List.getElem_mem _) _ S S' a2 a2' c2 c2' ?_ ?_).mono ?_; exact HS.out.drew; exact HS'.out.drew; rintro e w1 ⟨rfl, hb⟩)
      all_goals
        have HB' := Lib.hid (HB.out.drew.trans (hb.mono HB.out.size))
        clear hb
        go_wp2_with fail
        go_roundw
        case rel => exact ⟨k + 1, by omega, by go_num, HB'.out⟩
        case measure => simp [intOf]; omega
    · go_wp2_with fail
      go_ret
      exact ⟨rfl, HX.out.trans (HB.out.mono (by omega))⟩

theorem brT_all : ∀ t, BrT t := T.ind fun k n ps ih => brT_of (.mk k n ps) ih
end Go.Proofs.YtgcjnhlppapfdaaDoor
