/- eqTask, eqTaskS: two copies of one task are found equal -/
import Derived.Test.YtklmpagpkeffjaaProg
import Derived.Test.YtklmpagpkeffjaaTree
import Derived.WalkKit
import Derived.Handy
import Derived.WalkSpells
import Derived.Deep.RegionWith
namespace Go.Proofs.Ytklmpagpkeffjaa
open Go.RowKit

def EqS (ps : List T) : Prop := ∀ (w : World) (S S' : Nat → Prop) (a a' : Option Addr) (c c' : Nat), AtS w S ps a c → AtS w S' ps a' c' →
  Calls Try.prog 83 #[.slice a ps.length c, .slice a' ps.length c'] w fun e w' => e = .returned (.bool true) ∧ Below w.heap.size w w'
def EqT (t : T) : Prop := ∀ (w : World) (S S' : Nat → Prop) (a a' : Option Addr) (c c' : Nat), AtS w S t.ps a c → AtS w S' t.ps a' c' →
  Calls Try.prog 34 #[.agg #[.int .i64 t.k, .int .i64 t.n, .slice a t.ps.length c], .agg #[.int .i64 t.k, .int .i64 t.n, .slice a' t.ps.length c']] w fun e w' => e = .returned (.bool true) ∧ Below w.heap.size w w'

theorem eqT_of (t : T) (hS : EqS t.ps) : EqT t := by
  intro w S S' a a' c c' h h'
  have H := Lib.hid hS
  have HA := Lib.hid h
  have HA' := Lib.hid h'
  clear hS h h'
  go_enter Try.func34, Try.ntmps34
  go_wp2_with fail
  refine (H.out _ S S' a a' c c' ((HA.out.alloc _).alloc _) ((HA'.out.alloc _).alloc _)).mono ?_
  rintro e w1 ⟨rfl, hb⟩
  have HB := Lib.hid (((((Below.refl w.heap.size w).alloc (Nat.le_refl _) _).alloc (by simp) _)).trans (hb.mono (by simp; omega)))
  clear hb
  go_wp2_with fail
  go_ret
  exact ⟨rfl, HB.out⟩

theorem eqS_of (ps : List T) (hT : ∀ t ∈ ps, EqT t) : EqS ps := by
  intro w S S' a a' c c' h h'
  have H := Lib.hid hT
  have HA := Lib.hid h
  have HA' := Lib.hid h'
  have hlen : ps.length ≤ 9223372036854775807 := by have := h.1; have := h.2.1; omega
  clear hT h h'
  have hne : (((ps.length : Nat) : Int) != ((ps.length : Nat) : Int)) = false := by simp
  go_enter Try.func83, Try.ntmps83
  go_wp2_with fail
  clear hne
  go_loopw [5] (fun i wr => ∃ k : Nat, k ≤ ps.length ∧ i = .int .i64 k ∧ Below w.heap.size w wr) (fun i _ => ps.length - (intOf i).toNat)
  case atStart => exact ⟨0, by omega, rfl, Below.refl _ _⟩
  case round =>
    obtain ⟨k, hk, rfl, hb⟩ := hrel
    have HB := Lib.hid hb
    clear hb
    by_cases hlt : k < ps.length
    · obtain ⟨b, o, a2, c2, rfl, hbl, _, e0, e1, e2, hs, _, _⟩ := HA.out.elem HB.out hlt
      obtain ⟨b', o', a2', c2', rfl, hbl', _, e0', e1', e2', hs', _, _⟩ := HA'.out.elem HB.out hlt
      have HS := Lib.hid hs
      have HS' := Lib.hid hs'
      clear hs hs'
      go_wp2_with fail
      go_region_with (go_at_call 34; refine (H.out ps[k] (List.getElem_mem _) _ S S' a2 a2' c2 c2' ?_ ?_).mono ?_; exact HS.out.drew; exact HS'.out.drew; rintro e w1 ⟨rfl, hb⟩)
      all_goals
        have HB' := Lib.hid (HB.out.drew.trans (hb.mono HB.out.size))
        clear hb
        go_wp2_with fail
        go_roundw
        case rel => exact ⟨k + 1, by omega, by go_num, HB'.out⟩
        case measure => simp [intOf]; omega
    · go_wp2_with fail
      go_ret
      exact ⟨rfl, HB.out⟩

theorem eqT_all : ∀ t, EqT t := T.ind fun k n ps ih => eqT_of (.mk k n ps) (eqS_of ps ih)
theorem eqS_all (ps : List T) : EqS ps := eqS_of ps fun t _ => eqT_all t

end Go.Proofs.Ytklmpagpkeffjaa
