/- the walk of laws.FnExactTraceHolds (written by wip/tools/gen_law.py) -/
import Derived.Test.YtjjojnmhhmdlpaaTr1
import Derived.Test.YtjjojnmhhmdlpaaTr2
import Derived.WalkSpells
import Derived.Deep.RegionHeld3
namespace Go.Proofs.Ytjjojnmhhmdlpaa
open Go.RowKit

set_option maxRecDepth 100000 in
set_option maxHeartbeats 8000000 in
theorem walk_exactTraceHolds (t : Tr) (l : List Int) (w : World) (S00 : Nat → Prop) (a0 : Option Addr) (c0 : Nat) (S10 : Nat → Prop) (a1 : Option Addr) (c1 : Nat) (h00 : PrsAt w S00 t.u a0 c0) (h10 : IntsAt w S10 l a1 c1) :
    Calls Try.prog 8 #[.agg #[.int .i64 t.k, .slice a0 t.u.length c0, .int .i64 t.v], .slice a1 l.length c1] w fun e w' => e = .returned (.bool true) ∧ Below w.heap.size w w' := by
  obtain ⟨S0, hSd0⟩ : ∃ S : Nat → Prop, S = fun b => S00 b ∧ b < w.heap.size := ⟨_, rfl⟩
  have hS0 : ∀ b, S0 b → b < w.heap.size := by rw [hSd0]; exact fun b h => h.2
  have h0 : PrsAt w S0 t.u a0 c0 := by rw [hSd0]; exact h00.lim
  have HS0 := Lib.hid hS0
  obtain ⟨S1, hSd1⟩ : ∃ S : Nat → Prop, S = fun b => S10 b ∧ b < w.heap.size := ⟨_, rfl⟩
  have hS1 : ∀ b, S1 b → b < w.heap.size := by rw [hSd1]; exact fun b h => h.2
  have h1 : IntsAt w S1 l a1 c1 := by rw [hSd1]; exact h10.lim
  have HS1 := Lib.hid hS1
  have hlm1 : l.length ≤ 9223372036854775807 := by have := h1.1; have := h1.2.1; omega
  have HF0 := Lib.hid (PrsAt.fine h0)
  have HF1 := Lib.hid (h1.2.2.1)
  have B0_0 := Lib.hid (Blk.new w 69 #[.int .i64 t.k, .slice a0 t.u.length c0, .int .i64 t.v])
  have HW := Lib.hid (show Below w.heap.size w (w.alloc (.cells #[.int .i64 t.k, .slice a0 t.u.length c0, .int .i64 t.v] 69)) from (Below.refl _ _).alloc (by simp <;> omega) (.cells #[.int .i64 t.k, .slice a0 t.u.length c0, .int .i64 t.v] 69))
  have A0 := Lib.hid (h0.alloc (.cells #[.int .i64 t.k, .slice a0 t.u.length c0, .int .i64 t.v] 69))
  have A1 := Lib.hid (h1.alloc (.cells #[.int .i64 t.k, .slice a0 t.u.length c0, .int .i64 t.v] 69))
  have BX0 := Lib.hid (show Blk (w.alloc (.cells #[.int .i64 t.k, .slice a0 t.u.length c0, .int .i64 t.v] 69)) (w.heap.size) 69 #[.int .i64 t.k, .slice a0 t.u.length c0, .int .i64 t.v] by have := B0_0.out; simpa using this)
  clear hSd0 hS0 h00 hSd1 hS1 h10 h0 h1 B0_0
  by_cases hbig1 : 1048576 < l.length
  · go_enter Try.func8, Try.ntmps8
    go_wp2_with fail
    go_ret
    exact ⟨rfl, HW.out⟩
  have hn1 : l.length ≤ 1048576 := by omega
  by_cases hz0 : t.u.length ≤ 1048576
  · obtain ⟨q0, hq0⟩ : ∃ q : Nat, q = 1048576 - (t.u.length) := ⟨_, rfl⟩
    have HZ0 := Lib.hid (show szN (t.u.length) 1048576 = (q0 : Int) by unfold szN; rw [if_pos hz0, hq0]; omega)
    have hqb0 : q0 ≤ 1048576 := by omega
    have HL0 := Lib.hid (show t.u.length ≤ 1048576 by omega)
    obtain ⟨r, hr⟩ : ∃ r, r = trH t l := ⟨_, rfl⟩
    have HR := Lib.hid hr
    clear hr
    have HBE := Lib.hid (show (r != r) = false by simp)
    clear hz0 hq0
    obtain ⟨x0_0, x0_1, x0_2, -⟩ := BX0.out.three
    go_enter Try.func8, Try.ntmps8
    go_wp2_with fail
    clear x0_0 x0_1 x0_2
    refine (szTrace_any _ S0 t a0 c0 1048576 A0.out (by omega)).mono ?_
    rintro e w1 ⟨rfl, hb⟩
    rw [HZ0.out]
    have HW_1 := Lib.hid (HW.out.trans (hb.mono HW.out.size))
    have BX0_1 := Lib.hid (BX0.out.below hb BX0.out.lt)
    have A0_1 := Lib.hid (A0.out.below hb)
    have A1_1 := Lib.hid (A1.out.below hb)
    clear hb HZ0 HW BX0 A0 A1
    obtain ⟨x0_0, x0_1, x0_2, -⟩ := BX0_1.out.three
    go_wp2_with fail
    clear x0_0 x0_1 x0_2
    refine (copyR_ow _ S0 t a0 c0 A0_1.out HL0.out).mono ?_
    rintro e w2 ⟨a2, c2, D2, rfl, ho, hD, hb⟩
    have HW_2 := Lib.hid (HW_1.out.trans (hb.mono HW_1.out.size))
    have BX0_2 := Lib.hid (BX0_1.out.below hb BX0_1.out.lt)
    have A0_2 := Lib.hid (A0_1.out.below hb)
    have A1_2 := Lib.hid (A1_1.out.below hb)
    have C0_2 := Lib.hid (ho.at HF0.out)
    clear hb ho hD HW_1 BX0_1 A0_1 A1_1
    obtain ⟨x0_0, x0_1, x0_2, -⟩ := BX0_2.out.three
    go_wp2_with fail
    clear x0_0 x0_1 x0_2
    refine (copyI_ow _ S1 l a1 c1 A1_2.out hn1).mono ?_
    rintro e w3 ⟨a3, c3, D3, rfl, ho, hD, hb⟩
    have HW_3 := Lib.hid (HW_2.out.trans (hb.mono HW_2.out.size))
    have BX0_3 := Lib.hid (BX0_2.out.below hb BX0_2.out.lt)
    have A0_3 := Lib.hid (A0_2.out.below hb)
    have A1_3 := Lib.hid (A1_2.out.below hb)
    have C0_3 := Lib.hid (C0_2.out.below hb)
    have C1_3 := Lib.hid (ho.at HF1.out)
    clear hb ho hD HW_2 BX0_2 A0_2 A1_2 C0_2
    obtain ⟨x0_0, x0_1, x0_2, -⟩ := BX0_3.out.three
    go_wp2_with fail
    clear x0_0 x0_1 x0_2
    refine (specHolds_any _ _ _ t a2 a3 c2 c3 l C0_3.out C1_3.out).mono ?_
    rintro e w4 ⟨rfl, hb⟩
    have hsW : w.heap.size + 1 ≤ w4.heap.size := by have := hb.size; have := BX0_3.out.lt; omega
    rw [← HR.out]
    have HW_4 := Lib.hid (HW_3.out.trans (hb.mono HW_3.out.size))
    have BX0_4 := Lib.hid (BX0_3.out.below hb BX0_3.out.lt)
    have A0_4 := Lib.hid (A0_3.out.below hb)
    have A1_4 := Lib.hid (A1_3.out.below hb)
    clear hb HW_3 BX0_3 A0_3 A1_3 C0_3 C1_3
    obtain ⟨x0_0, x0_1, x0_2, -⟩ := BX0_4.out.three
    go_wp2_with fail
    clear x0_0 x0_1 x0_2
    refine (copyR_ow _ S0 t a0 c0 A0_4.out HL0.out).mono ?_
    rintro e w5 ⟨a5, c5, D5, rfl, ho, hD, hb⟩
    have hs5 := hb.size
    try simp only [World.size_alloc] at hD hs5
    have HW_5 := Lib.hid ((HW_4.out.trans (hb.mono HW_4.out.size)).alloc (Nat.le_trans HW_4.out.size hb.size) (.cells #[.int .i64 t.k, .slice a5 t.u.length c5, .int .i64 t.v] 60))
    have BX0_5 := Lib.hid ((BX0_4.out.below hb BX0_4.out.lt).alloc (.cells #[.int .i64 t.k, .slice a5 t.u.length c5, .int .i64 t.v] 60))
    have A0_5 := Lib.hid ((A0_4.out.below hb).alloc (.cells #[.int .i64 t.k, .slice a5 t.u.length c5, .int .i64 t.v] 60))
    have A1_5 := Lib.hid ((A1_4.out.below hb).alloc (.cells #[.int .i64 t.k, .slice a5 t.u.length c5, .int .i64 t.v] 60))
    have T0_5 := Lib.hid ((ho.at HF0.out).alloc (.cells #[.int .i64 t.k, .slice a5 t.u.length c5, .int .i64 t.v] 60))
    have O0_5 := Lib.hid (ho.below ((Below.refl _ _).alloc (Nat.le_refl _) (.cells #[.int .i64 t.k, .slice a5 t.u.length c5, .int .i64 t.v] 60)))
    have HD0 := Lib.hid hD
    have XB0_5 := Lib.hid (Blk.new w5 60 #[.int .i64 t.k, .slice a5 t.u.length c5, .int .i64 t.v])
    clear hb ho hD HW_4 BX0_4 A0_4 A1_4
    obtain ⟨x0_0, x0_1, x0_2, -⟩ := BX0_5.out.three
    obtain ⟨x1_0, x1_1, x1_2, -⟩ := XB0_5.out.three
    go_wp2_with fail
    clear x0_0 x0_1 x0_2 x1_0 x1_1 x1_2
    refine (copyI_ow _ S1 l a1 c1 A1_5.out hn1).mono ?_
    rintro e w6 ⟨a6, c6, D6, rfl, ho, hD, hb⟩
    have hs6 := hb.size
    try simp only [World.size_alloc] at hD hs6
    have HW_6 := Lib.hid (HW_5.out.trans (hb.mono HW_5.out.size))
    have BX0_6 := Lib.hid (BX0_5.out.below hb BX0_5.out.lt)
    have A0_6 := Lib.hid (A0_5.out.below hb)
    have A1_6 := Lib.hid (A1_5.out.below hb)
    have T0_6 := Lib.hid (T0_5.out.below hb)
    have O0_6 := Lib.hid (O0_5.out.below hb)
    have XB0_6 := Lib.hid (XB0_5.out.below hb XB0_5.out.lt)
    have T1_6 := Lib.hid (ho.at HF1.out)
    have O1_6 := Lib.hid (ho)
    have HD1 := Lib.hid hD
    clear hb ho hD HW_5 BX0_5 A0_5 A1_5 T0_5 O0_5 XB0_5
    obtain ⟨x0_0, x0_1, x0_2, -⟩ := BX0_6.out.three
    obtain ⟨x1_0, x1_1, x1_2, -⟩ := XB0_6.out.three
    go_wp2_with fail
    clear x0_0 x0_1 x0_2 x1_0 x1_1 x1_2
    refine (implHolds_any _ _ _ t a5 a6 c5 c6 l T0_6.out T1_6.out).mono ?_
    rintro e w7 ⟨rfl, hb⟩
    rw [← HR.out]
    have HW_7 := Lib.hid (HW_6.out.trans (hb.mono HW_6.out.size))
    have BX0_7 := Lib.hid (BX0_6.out.below hb BX0_6.out.lt)
    have A0_7 := Lib.hid (A0_6.out.below hb)
    have A1_7 := Lib.hid (A1_6.out.below hb)
    have T0_7 := Lib.hid (T0_6.out.below hb)
    have O0_7 := Lib.hid (O0_6.out.below hb)
    have XB0_7 := Lib.hid (XB0_6.out.below hb XB0_6.out.lt)
    have T1_7 := Lib.hid (T1_6.out.below hb)
    have O1_7 := Lib.hid (O1_6.out.below hb)
    clear hb HW_6 BX0_6 A0_6 A1_6 T0_6 O0_6 XB0_6 T1_6 O1_6
    have hbe := HBE.out
    obtain ⟨x0_0, x0_1, x0_2, -⟩ := BX0_7.out.three
    obtain ⟨x1_0, x1_1, x1_2, -⟩ := XB0_7.out.three
    go_wp2_with fail
    clear x0_0 x0_1 x0_2 x1_0 x1_1 x1_2
    clear hbe
    obtain ⟨y0, y1, y2, -⟩ := XB0_7.out.three
    obtain ⟨z0, z1, z2, -⟩ := BX0_7.out.three
    go_region_held3 (fun w' => w'.cell? ⟨w5.heap.size, 0, none⟩ = some (.int .i64 t.k) ∧ w'.cell? ⟨w5.heap.size, 1, none⟩ = some (.slice a5 t.u.length c5) ∧ w'.cell? ⟨w5.heap.size, 2, none⟩ = some (.int .i64 t.v) ∧ w'.cell? ⟨w.heap.size, 0, none⟩ = some (.int .i64 t.k) ∧ w'.cell? ⟨w.heap.size, 1, none⟩ = some (.slice a0 t.u.length c0) ∧ w'.cell? ⟨w.heap.size, 2, none⟩ = some (.int .i64 t.v)) (first | exact ⟨y0, y1, y2, z0, z1, z2⟩ | exact ⟨u0, u1, u2, v0, v1, v2⟩ | exact ⟨p0, p1, p2, q_0, q_1, q_2⟩) ((first | (go_at_call 50; refine (copyR_ow _ S0 t a0 c0 A0_7.out.drew HL0.out).mono ?_; rintro e w8 ⟨a8, c8, D8, rfl, hoq, hDq, hbq⟩; obtain ⟨u0, u1, u2, -⟩ := (XB0_7.out.drew.below hbq XB0_7.out.drew.lt).three; obtain ⟨v0, v1, v2, -⟩ := (BX0_7.out.drew.below hbq BX0_7.out.drew.lt).three) | (go_at_call 45; go_must (refine (eqTrace_any _ _ _ t a5 a8 c5 c8 (T0_7.out.drew.below hbq) (hoq.at HF0.out)).mono ?_; rintro e w9 ⟨rfl, hbr⟩; obtain ⟨p0, p1, p2, -⟩ := ((XB0_7.out.drew.below hbq XB0_7.out.drew.lt).below hbr (XB0_7.out.drew.below hbq XB0_7.out.drew.lt).lt).three; obtain ⟨q_0, q_1, q_2, -⟩ := ((BX0_7.out.drew.below hbq BX0_7.out.drew.lt).below hbr (BX0_7.out.drew.below hbq BX0_7.out.drew.lt).lt).three))))
    have HW_9 := Lib.hid ((HW_7.out.drew.trans (hbq.mono HW_7.out.size)).trans (hbr.mono (Nat.le_trans HW_7.out.size hbq.size)))
    have BX0_9 := Lib.hid ((BX0_7.out.drew.below hbq BX0_7.out.drew.lt).below hbr (BX0_7.out.drew.below hbq BX0_7.out.drew.lt).lt)
    have A0_9 := Lib.hid ((A0_7.out.drew.below hbq).below hbr)
    have A1_9 := Lib.hid ((A1_7.out.drew.below hbq).below hbr)
    have O0_9 := Lib.hid (((O0_7.out.below (Below.refl _ _).drew).below hbq).below hbr)
    have T1_9 := Lib.hid ((T1_7.out.drew.below hbq).below hbr)
    have O1_9 := Lib.hid (((O1_7.out.below (Below.refl _ _).drew).below hbq).below hbr)
    clear hbq hbr hoq hDq y0 y1 y2 z0 z1 z2 u0 u1 u2 v0 v1 v2 p0 p1 p2 q_0 q_1 q_2 HW_7 BX0_7 A0_7 A1_7 T0_7 O0_7 XB0_7 T1_7 O1_7
    obtain ⟨x0_0, x0_1, x0_2, -⟩ := BX0_9.out.three
    go_wp2_with fail
    clear x0_0 x0_1 x0_2
    refine (copyI_ow _ S1 l a1 c1 A1_9.out hn1).mono ?_
    rintro e w10 ⟨a10, c10, D10, rfl, ho, hD, hb⟩
    have HW_10 := Lib.hid (HW_9.out.trans (hb.mono HW_9.out.size))
    have BX0_10 := Lib.hid (BX0_9.out.below hb BX0_9.out.lt)
    have A0_10 := Lib.hid (A0_9.out.below hb)
    have A1_10 := Lib.hid (A1_9.out.below hb)
    have O0_10 := Lib.hid (O0_9.out.below hb)
    have T1_10 := Lib.hid (T1_9.out.below hb)
    have O1_10 := Lib.hid (O1_9.out.below hb)
    have E1_10 := Lib.hid (ho.at HF1.out)
    clear hb ho hD HW_9 BX0_9 A0_9 A1_9 O0_9 T1_9 O1_9
    obtain ⟨x0_0, x0_1, x0_2, -⟩ := BX0_10.out.three
    go_wp2_with fail
    clear x0_0 x0_1 x0_2
    refine (eqInts_any _ _ _ l a6 a10 c6 c10 T1_10.out E1_10.out).mono ?_
    rintro e w11 ⟨rfl, hb⟩
    have HW_11 := Lib.hid (HW_10.out.trans (hb.mono HW_10.out.size))
    have BX0_11 := Lib.hid (BX0_10.out.below hb BX0_10.out.lt)
    have A0_11 := Lib.hid (A0_10.out.below hb)
    have A1_11 := Lib.hid (A1_10.out.below hb)
    have O0_11 := Lib.hid (O0_10.out.below hb)
    have O1_11 := Lib.hid (O1_10.out.below hb)
    clear hb HW_10 BX0_10 A0_10 A1_10 O0_10 T1_10 O1_10 E1_10
    obtain ⟨x0_0, x0_1, x0_2, -⟩ := BX0_11.out.three
    go_wp2_with fail
    clear x0_0 x0_1 x0_2
    go_ret
    exact ⟨rfl, HW_11.out⟩
  · have HZ := Lib.hid (show szN (t.u.length) 1048576 = -1 by unfold szN; rw [if_neg hz0])
    clear hz0
    obtain ⟨x0_0, x0_1, x0_2, -⟩ := BX0.out.three
    go_enter Try.func8, Try.ntmps8
    go_wp2_with fail
    clear x0_0 x0_1 x0_2
    refine (szTrace_any _ S0 t a0 c0 1048576 A0.out (by omega)).mono ?_
    rintro e w12 ⟨rfl, hb⟩
    rw [HZ.out]
    have HW_12 := Lib.hid (HW.out.trans (hb.mono HW.out.size))
    have BX0_12 := Lib.hid (BX0.out.below hb BX0.out.lt)
    have A0_12 := Lib.hid (A0.out.below hb)
    have A1_12 := Lib.hid (A1.out.below hb)
    clear hb HW BX0 A0 A1
    go_wp2_with fail
    go_ret
    exact ⟨rfl, HW_12.out⟩
end Go.Proofs.Ytjjojnmhhmdlpaa
