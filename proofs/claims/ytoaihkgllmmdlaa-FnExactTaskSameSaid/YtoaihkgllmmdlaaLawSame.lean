/- the walk of laws.FnExactTaskSame -/
import Derived.Test.YtoaihkgllmmdlaaBs0
import Derived.Test.YtoaihkgllmmdlaaBs1
import Derived.Test.YtoaihkgllmmdlaaSameS
import Derived.WalkSpells
namespace Go.Proofs.Ytoaihkgllmmdlaa
open Go.RowKit

set_option maxHeartbeats 2000000 in
theorem walk_exactTaskSame (t : T) (x y : List Int) (w : World) (S S' S2 : Nat → Prop) (a a' ay : Option Addr) (c c' cy : Nat) (hat : AtS w S t.ps a c) (hl : IntsAt w S' x a' c') (hm : IntsAt w S2 y ay cy) :
    Calls Try.prog 6 #[.agg #[.int .i64 t.k, .int .i64 t.n, .slice a t.ps.length c], .slice a' x.length c', .slice ay y.length cy] w fun e w' => e = .returned (.bool true) ∧ Below w.heap.size w w' := by
  have K0 := Lib.hid (Kp.start (ty := 24) hat)
  have L0 := Lib.hid (hl.alloc (.cells #[.int .i64 t.k, .int .i64 t.n, .slice a t.ps.length c] 24))
  have M0 := Lib.hid (hm.alloc (.cells #[.int .i64 t.k, .int .i64 t.n, .slice a t.ps.length c] 24))
  have hlm : x.length ≤ 9223372036854775807 := by have := hl.1; have := hl.2.1; omega
  have hmm : y.length ≤ 9223372036854775807 := by have := hm.1; have := hm.2.1; omega
  clear hat hl hm
  by_cases hbig : 1048576 < x.length
  · go_enter Try.func6, Try.ntmps6
    go_wp2_with fail
    go_ret
    exact ⟨rfl, K0.out.done⟩
  have hln : x.length ≤ 1048576 := by omega
  by_cases hbig2 : 1048576 < y.length
  · go_enter Try.func6, Try.ntmps6
    go_wp2_with fail
    go_ret
    exact ⟨rfl, K0.out.done⟩
  have hmn : y.length ≤ 1048576 := by omega
  by_cases hle : nodesL t.ps ≤ 1048576
  · have hz : szN (nodesL t.ps) 1048576 = ((1048576 - nodesL t.ps : Nat) : Int) := by unfold szN; rw [if_pos hle]; omega
    have HZ := Lib.hid hz
    have HL := Lib.hid hle
    obtain ⟨b, hb⟩ : ∃ b, b = tSame t x y := ⟨_, rfl⟩
    have HBB := Lib.hid hb
    have hnb : (b != b) = false := by simp
    have HNE := Lib.hid hnb
    clear hz hle hb hnb
    go_enter Try.func6, Try.ntmps6
    go_wp2_with fail
    refine (szT_all t _ S a c 1048576 K0.out.2 (by omega)).mono ?_
    rintro e w1 ⟨rfl, hb⟩
    rw [HZ.out]
    have K1 := Lib.hid (K0.out.step hb)
    have L1 := Lib.hid (L0.out.below hb)
    have M1 := Lib.hid (M0.out.below hb)
    clear hb HZ K0 L0 M0
    obtain ⟨x0, x1, x2⟩ := K1.out.box
    go_wp2_with fail
    refine (copyT_all t _ S a c K1.out.2 HL.out).mono ?_
    rintro e w2 ⟨a2, c2, rfl, hat, hb⟩
    have K2 := Lib.hid (K1.out.step hb)
    have L2 := Lib.hid (L1.out.below hb)
    have M2 := Lib.hid (M1.out.below hb)
    have HT2 := Lib.hid hat
    clear hb hat x0 x1 x2 K1 L1 M1
    go_wp2_with fail
    refine (copyI_any w2 S' x a' c' L2.out hln).mono ?_
    rintro e w3 ⟨a3, c3, rfl, hi3, hb⟩
    have K3 := Lib.hid (K2.out.step hb)
    have L3 := Lib.hid (L2.out.below hb)
    have M3 := Lib.hid (M2.out.below hb)
    have HT3 := Lib.hid (HT2.out.below hb)
    have HI3 := Lib.hid hi3
    clear hb hi3 K2 L2 M2 HT2
    go_wp2_with fail
    refine (copyI_any w3 S2 y ay cy M3.out hmn).mono ?_
    rintro e w3' ⟨a3', c3', rfl, hi3, hb⟩
    have K3' := Lib.hid (K3.out.step hb)
    have L3' := Lib.hid (L3.out.below hb)
    have M3' := Lib.hid (M3.out.below hb)
    have HT3' := Lib.hid (HT3.out.below hb)
    have HI3' := Lib.hid (HI3.out.below hb)
    have HJ3' := Lib.hid hi3
    clear hb hi3 K3 L3 M3 HT3 HI3
    go_wp2_with fail
    refine (specSame_any t x y w3' _ _ _ a2 a3 a3' c2 c3 c3' HT3'.out HL.out HI3'.out HJ3'.out).mono ?_
    rintro e w4 ⟨rfl, hb⟩
    rw [← HBB.out]
    have K4 := Lib.hid (K3'.out.step hb)
    have L4 := Lib.hid (L3'.out.below hb)
    have M4 := Lib.hid (M3'.out.below hb)
    clear hb K3' L3' M3' HT3' HI3' HJ3'
    obtain ⟨x0, x1, x2⟩ := K4.out.box
    go_wp2_with fail
    refine (copyT_all t _ S a c K4.out.2 HL.out).mono ?_
    rintro e w5 ⟨a5, c5, rfl, hat, hb⟩
    have K5 := Lib.hid ((K4.out.step hb).alloc (.cells #[.int .i64 t.k, .int .i64 t.n, .slice a5 t.ps.length c5] 31))
    have L5 := Lib.hid ((L4.out.below hb).alloc (.cells #[.int .i64 t.k, .int .i64 t.n, .slice a5 t.ps.length c5] 31))
    have M5 := Lib.hid ((M4.out.below hb).alloc (.cells #[.int .i64 t.k, .int .i64 t.n, .slice a5 t.ps.length c5] 31))
    have HT5 := Lib.hid (hat.alloc (.cells #[.int .i64 t.k, .int .i64 t.n, .slice a5 t.ps.length c5] 31))
    have HX5 := Lib.hid (Blk.new w5 31 #[.int .i64 t.k, .int .i64 t.n, .slice a5 t.ps.length c5])
    clear hb hat x0 x1 x2 K4 L4 M4
    go_wp2_with fail
    refine (copyI_any _ S' x a' c' L5.out hln).mono ?_
    rintro e w6 ⟨a6, c6, rfl, hi6, hb⟩
    have hs6 := hb.size
    simp only [World.size_alloc] at hs6
    have K6 := Lib.hid (K5.out.step hb)
    have L6 := Lib.hid (L5.out.below hb)
    have M6 := Lib.hid (M5.out.below hb)
    have HT6 := Lib.hid (HT5.out.below hb)
    have HX6 := Lib.hid (HX5.out.below hb (by simp))
    have HI6 := Lib.hid hi6
    clear hb hi6 K5 L5 M5 HT5 HX5
    go_wp2_with fail
    refine (copyI_any _ S2 y ay cy M6.out hmn).mono ?_
    rintro e w6' ⟨a6', c6', rfl, hi6, hb⟩
    have hs6' := hb.size
    have K6' := Lib.hid (K6.out.step hb)
    have L6' := Lib.hid (L6.out.below hb)
    have M6' := Lib.hid (M6.out.below hb)
    have HT6' := Lib.hid (HT6.out.below hb)
    have hx6 := HX6.out.below hb (by omega)
    have HI6' := Lib.hid (HI6.out.below hb)
    have HJ6' := Lib.hid hi6
    have HX6' := Lib.hid hx6
    obtain ⟨y0, y1, y2, _, _, _⟩ := hx6.three
    clear hb hi6 hx6 K6 L6 M6 HT6 HX6 HI6
    go_wp2_with fail
    refine (implSame_any t x y w6' _ _ _ a5 a6 a6' c5 c6 c6' HT6'.out HI6'.out HJ6'.out).mono ?_
    rintro e w7 ⟨rfl, hb⟩
    rw [← HBB.out]
    have hs7 := hb.size
    have K7 := Lib.hid (K6'.out.step hb)
    have L7 := Lib.hid (L6'.out.below hb)
    have M7 := Lib.hid (M6'.out.below hb)
    have HT7 := Lib.hid (HT6'.out.below hb)
    have hx7 := HX6'.out.below hb (by omega)
    have HI7 := Lib.hid (HI6'.out.below hb)
    have HJ7 := Lib.hid (HJ6'.out.below hb)
    have HX7 := Lib.hid hx7
    clear hb y0 y1 y2 K6' L6' M6' HT6' HX6' HI6' HJ6'
    obtain ⟨y0, y1, y2, _, _, _⟩ := hx7.three
    obtain ⟨x0, x1, x2⟩ := K7.out.box
    have hnb := HNE.out
    clear hx7
    go_wp2_with fail
    clear hnb HNE
    go_region_with (first | (go_at_call 15; refine (copyT_all t _ S a c ?_ HL.out).mono ?_; exact K7.out.drew.2; rintro e w8 ⟨a8, c8, rfl, hat8, hb8⟩; obtain ⟨z0, z1, z2, _, _, _⟩ := (HX7.out.drew.below hb8 (by simp; omega)).three) | (go_at_call 18; go_must (refine (eqT_all t _ _ _ a5 a8 c5 c8 (HT7.out.drew.below hb8) hat8).mono ?_; rintro e w9 ⟨rfl, hb9⟩)))
    all_goals
      have K9 := Lib.hid ((K7.out.drew.step hb8).step hb9)
      have L9 := Lib.hid ((L7.out.drew.below hb8).below hb9)
      have M9 := Lib.hid ((M7.out.drew.below hb8).below hb9)
      have HI9 := Lib.hid ((HI7.out.drew.below hb8).below hb9)
      have HJ9 := Lib.hid ((HJ7.out.drew.below hb8).below hb9)
      clear z0 z1 z2 hat8 hb8 hb9 x0 x1 x2 y0 y1 y2
      go_wp2_with fail
      refine (copyI_any _ S' x a' c' L9.out hln).mono ?_
      rintro e w10 ⟨a10, c10, rfl, hi10, hb⟩
      have K10 := Lib.hid (K9.out.step hb)
      have M10 := Lib.hid (M9.out.below hb)
      have HI10 := Lib.hid (HI9.out.below hb)
      have HJ10 := Lib.hid (HJ9.out.below hb)
      have HC10 := Lib.hid hi10
      clear hb hi10
      go_wp2_with fail
      refine (eqInts_any _ _ _ x a6 a10 c6 c10 HI10.out HC10.out).mono ?_
      rintro e w11 ⟨rfl, hb⟩
      have K11 := Lib.hid (K10.out.step hb)
      have M11 := Lib.hid (M10.out.below hb)
      have HJ11 := Lib.hid (HJ10.out.below hb)
      clear hb
      go_wp2_with fail
      refine (copyI_any _ S2 y ay cy M11.out hmn).mono ?_
      rintro e w12 ⟨a12, c12, rfl, hi12, hb⟩
      have K12 := Lib.hid (K11.out.step hb)
      have HJ12 := Lib.hid (HJ11.out.below hb)
      have HC12 := Lib.hid hi12
      clear hb hi12
      go_wp2_with fail
      refine (eqInts_any _ _ _ y a6' a12 c6' c12 HJ12.out HC12.out).mono ?_
      rintro e w13 ⟨rfl, hb⟩
      have K13 := Lib.hid (K12.out.step hb)
      clear hb
      go_wp2_with fail
      go_ret
      exact ⟨rfl, K13.out.done⟩
  · have hz : szN (nodesL t.ps) 1048576 = -1 := by unfold szN; rw [if_neg hle]
    have HZ := Lib.hid hz
    clear hz hle
    go_enter Try.func6, Try.ntmps6
    go_wp2_with fail
    refine (szT_all t _ S a c 1048576 K0.out.2 (by omega)).mono ?_
    rintro e w1 ⟨rfl, hb⟩
    rw [HZ.out]
    have K1 := Lib.hid (K0.out.step hb)
    clear hb HZ K0
    go_wp2_with fail
    go_ret
    exact ⟨rfl, K1.out.done⟩

end Go.Proofs.Ytoaihkgllmmdlaa
