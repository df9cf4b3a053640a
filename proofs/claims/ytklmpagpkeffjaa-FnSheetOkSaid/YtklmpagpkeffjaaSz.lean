/- szTask, szTaskS -/
import Derived.Test.YtklmpagpkeffjaaProg
import Derived.Test.YtklmpagpkeffjaaTree
import Derived.WalkKit
import Derived.Handy
import Derived.WalkSpells
namespace Go.Proofs.Ytklmpagpkeffjaa
open Go.RowKit

/-- What szTaskS and szTask come to. -/
def szN (m left : Nat) : Int := if m ≤ left then (left : Int) - m else -1

def SzS (ps : List T) : Prop := ∀ (w : World) (S : Nat → Prop) (a : Option Addr) (c : Nat) (left : Nat), AtS w S ps a c → left ≤ 1048576 →
  Calls Try.prog 87 #[.slice a ps.length c, .int .i64 left] w fun e w' => e = .returned (.int .i64 (szN (nodesL ps) left)) ∧ Below w.heap.size w w'

def SzT (t : T) : Prop := ∀ (w : World) (S : Nat → Prop) (a : Option Addr) (c : Nat) (left : Nat), AtS w S t.ps a c → left ≤ 1048576 →
  Calls Try.prog 120 #[.agg #[.int .i64 t.k, .int .i64 t.n, .slice a t.ps.length c], .int .i64 left] w fun e w' => e = .returned (.int .i64 (szN (nodesL t.ps) left)) ∧ Below w.heap.size w w'

theorem szT_of (t : T) (hS : SzS t.ps) : SzT t := by
  intro w S a c left hat hl
  have H := Lib.hid hS
  have HA := Lib.hid hat
  clear hS hat
  have key : ∀ v : Int, szN (nodesL t.ps) left = v → (0 ≤ v ∧ v ≤ 1048576 ∨ v = -1) → Calls Try.prog 120 #[.agg #[.int .i64 t.k, .int .i64 t.n, .slice a t.ps.length c], .int .i64 left] w fun e w' => e = .returned (.int .i64 v) ∧ Below w.heap.size w w' := by
    intro v hv hr
    have E1 := Lib.hid hv
    clear hv
    go_enter Try.func120, Try.ntmps120
    go_wp2_with fail
    refine (H.out _ S a c left (HA.out.alloc _) hl).mono ?_
    rintro e w1 ⟨rfl, hb⟩
    rw [E1.out]
    have hB : Below w.heap.size w w1 := ((Below.refl _ _).alloc (Nat.le_refl _) _).trans (hb.mono (by simp))
    have HB := Lib.hid hB
    clear hb hB E1
    rcases hr with hr | rfl
    · go_wp2_with fail
      go_ret
      exact ⟨rfl, HB.out⟩
    · go_wp2_with fail
      go_ret
      exact ⟨rfl, HB.out⟩
  exact key _ rfl (by unfold szN; split <;> omega)

theorem szS_of (ps : List T) (hT : ∀ t ∈ ps, SzT t) : SzS ps := by
  intro w S a c left hat hl
  have H := Lib.hid hT
  clear hT
  by_cases hn : left < ps.length
  · have hm : szN (nodesL ps) left = -1 := by have := nodesL_ge ps; unfold szN; rw [if_neg (by omega)]
    rw [hm]
    obtain ⟨hc, hc', hp⟩ := hat
    clear hm hp H
    go_enter Try.func87, Try.ntmps87
    go_wp2_with fail
    go_ret
    exact ⟨rfl, Below.refl _ _⟩
  · have HA := Lib.hid hat
    clear hat
    go_enter Try.func87, Try.ntmps87
    go_wp2_with fail
    go_loopw [1, 5] (fun l i wr => ∃ k q : Nat, k ≤ ps.length ∧ q + ps.length + nodesL (ps.take k) = left + k ∧ q ≤ left ∧ i = .int .i64 k ∧ l = .int .i64 q ∧ Below w.heap.size w wr) (fun _ i _ => ps.length - (intOf i).toNat)
    case atStart => exact ⟨0, left - ps.length, by omega, by simp [nodesL]; omega, by omega, rfl, by congr; omega, Below.refl _ _⟩
    case round =>
      obtain ⟨k, q, hk, hq, hql, rfl, rfl, hb⟩ := hrel
      have HB := Lib.hid hb
      have HQ := Lib.hid hq
      clear hb hq
      by_cases hlt : k < ps.length
      · obtain ⟨b, o, a', c', rfl, hbl, _, e0, e1, e2, hs, _, _⟩ := HA.out.elem HB.out hlt
        have HS := Lib.hid hs
        clear hs
        have hn := T.nodes_eq ps[k]
        have hsn := nodesL_snoc ps k hlt
        by_cases hm : nodesL ps[k].ps ≤ q
        · have hz : szN (nodesL ps[k].ps) q = ((q - nodesL ps[k].ps : Nat) : Int) := by unfold szN; rw [if_pos hm]; omega
          have HZ := Lib.hid hz
          have HN := Lib.hid hn
          have HSN := Lib.hid hsn
          clear hz hn hsn
          go_wp2_with fail
          refine (H.out ps[k] (List.getElem_mem _) _ S a' c' q HS.out (by omega)).mono ?_
          rintro e w1 ⟨rfl, hb⟩
          rw [HZ.out]
          have HB' := Lib.hid (HB.out.trans (hb.mono HB.out.size))
          clear hb HZ
          go_wp2_with fail
          go_roundw
          case rel => exact ⟨k + 1, q - nodesL ps[k].ps, by omega, by have := HQ.out; have := HN.out; have := HSN.out; omega, by omega, by go_num, rfl, HB'.out⟩
          case measure => simp [intOf]; omega
        · have hz : szN (nodesL ps[k].ps) q = -1 := by unfold szN; rw [if_neg hm]
          have hf : szN (nodesL ps) left = -1 := by have := nodesL_rest ps (k + 1); have := HQ.out; unfold szN; rw [if_neg (by omega)]
          have HF := Lib.hid hf
          have HZ := Lib.hid hz
          clear hz hn hsn hf
          go_wp2_with fail
          refine (H.out ps[k] (List.getElem_mem _) _ S a' c' q HS.out (by omega)).mono ?_
          rintro e w1 ⟨rfl, hb⟩
          rw [HZ.out]
          have HB' := Lib.hid (HB.out.trans (hb.mono HB.out.size))
          clear hb HZ
          go_wp2_with fail
          go_ret
          exact ⟨ret_i64 HF.out.symm, HB'.out⟩
      · have hk' : k = ps.length := by omega
        have hf : szN (nodesL ps) left = q := by
          have := HQ.out
          rw [hk', List.take_of_length_le (Nat.le_refl _)] at this
          unfold szN; rw [if_pos (by omega)]; omega
        have HF := Lib.hid hf
        clear hf hk' H HA
        go_wp2_with fail
        go_ret
        exact ⟨ret_i64 HF.out.symm, HB.out⟩

theorem szT_all : ∀ t, SzT t := T.ind fun k n ps ih => szT_of (.mk k n ps) (szS_of ps ih)
theorem szS_all (ps : List T) : SzS ps := szS_of ps fun t _ => szT_all t
end Go.Proofs.Ytklmpagpkeffjaa
