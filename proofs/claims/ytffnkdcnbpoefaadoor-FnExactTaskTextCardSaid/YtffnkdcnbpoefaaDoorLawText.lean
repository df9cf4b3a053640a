/- the walk of laws.FnExactTaskText -/
import Derived.Test.YtffnkdcnbpoefaaDoorSz
import Derived.Test.YtffnkdcnbpoefaaDoorTextI
import Derived.Test.YtffnkdcnbpoefaaDoorCopy
import Derived.Test.YtffnkdcnbpoefaaDoorEq
import Derived.WalkSpells
namespace Go.Proofs.YtffnkdcnbpoefaaDoor
open Go.RowKit

theorem bne_self (s : ByteArray) : (s != s) = false := by
  have : (s == s) = true := by
    cases s with | mk d =>
      show (d == d) = true
      simp
  simp [bne, this]

set_option maxHeartbeats 1000000 in
theorem walk_exactTaskText (t : T) (w : World) (S : Nat → Prop) (a : Option Addr) (c : Nat) (hat : AtS w S t.ps a c) :
    Calls Tryd.prog 6 #[.agg #[.int .i64 t.k, .int .i64 t.n, .slice a t.ps.length c]] w fun e w' => e = .returned (.bool true) ∧ Below w.heap.size w w' := by
  have K0 := Lib.hid (Kp.start (ty := 36) hat)
  clear hat
  by_cases hle : nodesL t.ps ≤ 1048576
  · have hz : szN (nodesL t.ps) 1048576 = ((1048576 - nodesL t.ps : Nat) : Int) := by unfold szN; rw [if_pos hle]; omega
    have HZ := Lib.hid hz
    have HL := Lib.hid hle
    clear hz hle
    obtain ⟨s, hs⟩ : ∃ s : ByteArray, (⟨t.txt.toArray⟩ : ByteArray) = s := ⟨_, rfl⟩
    have hsv : sv t.txt = .string s := by rw [← hs]; rfl
    have HSV := Lib.hid hsv
    have hne : (s != s) = false := bne_self s
    clear hs hsv
    have HNE := Lib.hid hne
    clear hne
    go_enter Tryd.func6, Tryd.ntmps6
    go_wp2_with fail
    refine (szT_all t _ S a c 1048576 K0.out.2 (by omega)).mono ?_
    rintro e w1 ⟨rfl, hb⟩
    rw [HZ.out]
    have K1 := Lib.hid (K0.out.step hb)
    clear hb HZ K0
    obtain ⟨x0, x1, x2⟩ := K1.out.box
    go_wp2_with fail
    refine (copyT_all t _ S a c K1.out.2 HL.out).mono ?_
    rintro e w2 ⟨a2, c2, rfl, hat, hb⟩
    have K2 := Lib.hid (K1.out.step hb)
    have HT2 := Lib.hid hat
    clear hb hat x0 x1 x2 K1
    obtain ⟨x0, x1, x2⟩ := K2.out.box
    go_wp2_with fail
    refine (specText_any t _ _ a2 c2 HT2.out HL.out).mono ?_
    rintro e w3 ⟨rfl, hb⟩
    rw [HSV.out]
    have K3 := Lib.hid (K2.out.step hb)
    clear hb x0 x1 x2 HT2 K2
    obtain ⟨x0, x1, x2⟩ := K3.out.box
    go_wp2_with fail
    refine (copyT_all t _ S a c K3.out.2 HL.out).mono ?_
    rintro e w4 ⟨a4, c4, rfl, hat, hb⟩
    have K4 := Lib.hid ((K3.out.step hb).alloc (.cells #[.int .i64 t.k, .int .i64 t.n, .slice a4 t.ps.length c4] 25))
    have HT4 := Lib.hid hat
    clear hb hat x0 x1 x2 K3
    go_wp2_with fail
    refine (implText_any t _ _ a4 c4 (HT4.out.alloc _)).mono ?_
    rintro e w5 ⟨rfl, hb⟩
    rw [HSV.out]
    have K5 := Lib.hid (K4.out.step hb)
    have HT5 := Lib.hid ((HT4.out.alloc _).below hb)
    have HY := Lib.hid (hb.mono (B' := w4.heap.size + 1) (by simp))
    have hys : w4.heap.size + 1 ≤ w5.heap.size := by have := hb.size; simpa using this
    obtain ⟨y0, y1, y2⟩ := box3 HY.out
    clear hb HT4 K4
    obtain ⟨x0, x1, x2⟩ := K5.out.box
    have hne := HNE.out
    go_wp2_with fail
    clear hne HNE
    go_region_with (first | (go_at_call 18; refine (copyT_all t _ S a c ?_ HL.out).mono ?_; exact K5.out.drew.2; rintro e w6 ⟨a6, c6, rfl, hat6, hb6⟩; obtain ⟨z0, z1, z2⟩ := box3 (HY.out.drew.trans (hb6.mono hys))) | (go_at_call 19; go_must (refine (eqT_all t _ _ _ a4 a6 c4 c6 (HT5.out.drew.below hb6) hat6).mono ?_; rintro e w7 ⟨rfl, hb7⟩)))
    all_goals
      have K7 := Lib.hid ((K5.out.drew.step hb6).step hb7)
      clear z0 z1 z2 hat6 hb6 hb7
      go_wp2_with fail
      go_ret
      exact ⟨rfl, K7.out.done⟩
  · have hz : szN (nodesL t.ps) 1048576 = -1 := by unfold szN; rw [if_neg hle]
    have HZ := Lib.hid hz
    clear hz hle
    go_enter Tryd.func6, Tryd.ntmps6
    go_wp2_with fail
    refine (szT_all t _ S a c 1048576 K0.out.2 (by omega)).mono ?_
    rintro e w1 ⟨rfl, hb⟩
    rw [HZ.out]
    have K1 := Lib.hid (K0.out.step hb)
    clear hb HZ K0
    go_wp2_with fail
    go_ret
    exact ⟨rfl, K1.out.done⟩

end Go.Proofs.YtffnkdcnbpoefaaDoor
