/- the walk of laws.FnExactTaskValue -/
import Derived.Test.YtoaihkgllmmdlaaBs0
import Derived.Test.YtoaihkgllmmdlaaBs1
import Derived.WalkSpells
namespace Go.Proofs.Ytoaihkgllmmdlaa
open Go.RowKit

set_option maxHeartbeats 2000000 in
theorem walk_exactTaskValue (t : T) (lv : List Int) (w : World) (S S' : Nat → Prop) (a a' : Option Addr) (c c' : Nat) (hat : AtS w S t.ps a c) (hl : IntsAt w S' lv a' c') :
    Calls Try.prog 3 #[.agg #[.int .i64 t.k, .int .i64 t.n, .slice a t.ps.length c], .slice a' lv.length c'] w fun e w' => e = .returned (.bool true) ∧ Below w.heap.size w w' := by
  have K0 := Lib.hid (Kp.start (ty := 24) hat)
  have L0 := Lib.hid (hl.alloc (.cells #[.int .i64 t.k, .int .i64 t.n, .slice a t.ps.length c] 24))
  have hlm : lv.length ≤ 9223372036854775807 := by have := hl.1; have := hl.2.1; omega
  clear hat hl
  by_cases hbig : 1048576 < lv.length
  · go_enter Try.func3, Try.ntmps3
    go_wp2_with fail
    go_ret
    exact ⟨rfl, K0.out.done⟩
  have hln : lv.length ≤ 1048576 := by omega
  by_cases hle : nodesL t.ps ≤ 1048576
  · have hz : szN (nodesL t.ps) 1048576 = ((1048576 - nodesL t.ps : Nat) : Int) := by unfold szN; rw [if_pos hle]; omega
    have HZ := Lib.hid hz
    have HL := Lib.hid hle
    obtain ⟨v, hv⟩ : ∃ v, v = tvV t lv := ⟨_, rfl⟩
    obtain ⟨b, hb⟩ : ∃ b, b = (t.ok && vok lv) := ⟨_, rfl⟩
    have HV := Lib.hid hv
    have HBB := Lib.hid hb
    have hne : (v != v) = false := by simp
    have hnb : (b != b) = false := by simp
    have HNE := Lib.hid (And.intro hne hnb)
    clear hz hle hv hb hne hnb
    go_enter Try.func3, Try.ntmps3
    go_wp2_with fail
    refine (szT_all t _ S a c 1048576 K0.out.2 (by omega)).mono ?_
    rintro e w1 ⟨rfl, hb⟩
    rw [HZ.out]
    have K1 := Lib.hid (K0.out.step hb)
    have L1 := Lib.hid (L0.out.below hb)
    clear hb HZ K0 L0
    obtain ⟨x0, x1, x2⟩ := K1.out.box
    go_wp2_with fail
    refine (copyT_all t _ S a c K1.out.2 HL.out).mono ?_
    rintro e w2 ⟨a2, c2, rfl, hat, hb⟩
    have K2 := Lib.hid (K1.out.step hb)
    have L2 := Lib.hid (L1.out.below hb)
    have HT2 := Lib.hid hat
    clear hb hat x0 x1 x2 K1 L1
    go_wp2_with fail
    refine (copyI_any w2 S' lv a' c' L2.out hln).mono ?_
    rintro e w3 ⟨a3, c3, rfl, hi3, hb⟩
    have K3 := Lib.hid (K2.out.step hb)
    have L3 := Lib.hid (L2.out.below hb)
    have HT3 := Lib.hid (HT2.out.below hb)
    have HI3 := Lib.hid hi3
    clear hb hi3 K2 L2 HT2
    go_wp2_with fail
    refine (specValue_any t lv w3 _ _ a2 a3 c2 c3 HT3.out HL.out HI3.out).mono ?_
    rintro e w4 ⟨rfl, hb⟩
    rw [← HV.out, ← HBB.out]
    have K4 := Lib.hid (K3.out.step hb)
    have L4 := Lib.hid (L3.out.below hb)
    clear hb K3 L3 HT3 HI3
    obtain ⟨x0, x1, x2⟩ := K4.out.box
    go_wp2_with fail
    refine (copyT_all t _ S a c K4.out.2 HL.out).mono ?_
    rintro e w5 ⟨a5, c5, rfl, hat, hb⟩
    have K5 := Lib.hid ((K4.out.step hb).alloc (.cells #[.int .i64 t.k, .int .i64 t.n, .slice a5 t.ps.length c5] 31))
    have L5 := Lib.hid ((L4.out.below hb).alloc (.cells #[.int .i64 t.k, .int .i64 t.n, .slice a5 t.ps.length c5] 31))
    have HT5 := Lib.hid (hat.alloc (.cells #[.int .i64 t.k, .int .i64 t.n, .slice a5 t.ps.length c5] 31))
    have HX5 := Lib.hid (Blk.new w5 31 #[.int .i64 t.k, .int .i64 t.n, .slice a5 t.ps.length c5])
    clear hb hat x0 x1 x2 K4 L4
    go_wp2_with fail
    refine (copyI_any _ S' lv a' c' L5.out hln).mono ?_
    rintro e w6 ⟨a6, c6, rfl, hi6, hb⟩
    have hs6 := hb.size
    simp only [World.size_alloc] at hs6
    have K6 := Lib.hid (K5.out.step hb)
    have L6 := Lib.hid (L5.out.below hb)
    have HT6 := Lib.hid (HT5.out.below hb)
    have hx6 := HX5.out.below hb (by simp)
    have HI6 := Lib.hid hi6
    have HX6 := Lib.hid hx6
    obtain ⟨y0, y1, y2, _, _, _⟩ := hx6.three
    clear hb hi6 hx6 K5 L5 HT5 HX5
    go_wp2_with fail
    refine (implValue_any t lv w6 _ _ a5 a6 c5 c6 HT6.out HI6.out).mono ?_
    rintro e w7 ⟨rfl, hb⟩
    rw [← HV.out, ← HBB.out]
    have hs7 := hb.size
    have K7 := Lib.hid (K6.out.step hb)
    have L7 := Lib.hid (L6.out.below hb)
    have HT7 := Lib.hid (HT6.out.below hb)
    have hx7 := HX6.out.below hb (by omega)
    have HI7 := Lib.hid (HI6.out.below hb)
    have HX7 := Lib.hid hx7
    clear hb y0 y1 y2 K6 L6 HT6 HX6 HI6
    obtain ⟨y0, y1, y2, _, _, _⟩ := hx7.three
    obtain ⟨x0, x1, x2⟩ := K7.out.box
    obtain ⟨hne, hnb⟩ := HNE.out
    clear hx7
    go_wp2_with fail
    clear hne hnb HNE
    go_region_with (first | (go_at_call 15; refine (copyT_all t _ S a c ?_ HL.out).mono ?_; exact K7.out.drew.2; rintro e w8 ⟨a8, c8, rfl, hat8, hb8⟩; obtain ⟨z0, z1, z2, _, _, _⟩ := (HX7.out.drew.below hb8 (by simp; omega)).three) | (go_at_call 18; go_must (refine (eqT_all t _ _ _ a5 a8 c5 c8 (HT7.out.drew.below hb8) hat8).mono ?_; rintro e w9 ⟨rfl, hb9⟩)))
    all_goals
      have K9 := Lib.hid ((K7.out.drew.step hb8).step hb9)
      have L9 := Lib.hid ((L7.out.drew.below hb8).below hb9)
      have HI9 := Lib.hid ((HI7.out.drew.below hb8).below hb9)
      clear z0 z1 z2 hat8 hb8 hb9 x0 x1 x2 y0 y1 y2
      go_wp2_with fail
      refine (copyI_any _ S' lv a' c' L9.out hln).mono ?_
      rintro e w10 ⟨a10, c10, rfl, hi10, hb⟩
      have K10 := Lib.hid (K9.out.step hb)
      have HI10 := Lib.hid (HI9.out.below hb)
      have HJ10 := Lib.hid hi10
      clear hb hi10
      go_wp2_with fail
      refine (eqInts_any _ _ _ lv a6 a10 c6 c10 HI10.out HJ10.out).mono ?_
      rintro e w11 ⟨rfl, hb⟩
      have K11 := Lib.hid (K10.out.step hb)
      clear hb
      go_wp2_with fail
      go_ret
      exact ⟨rfl, K11.out.done⟩
  · have hz : szN (nodesL t.ps) 1048576 = -1 := by unfold szN; rw [if_neg hle]
    have HZ := Lib.hid hz
    clear hz hle
    go_enter Try.func3, Try.ntmps3
    go_wp2_with fail
    refine (szT_all t _ S a c 1048576 K0.out.2 (by omega)).mono ?_
    rintro e w1 ⟨rfl, hb⟩
    rw [HZ.out]
    have K1 := Lib.hid (K0.out.step hb)
    clear hb HZ K0
    go_wp2_with fail
    go_ret
    exact ⟨rfl, K1.out.done⟩

end Go.Proofs.Ytoaihkgllmmdlaa
