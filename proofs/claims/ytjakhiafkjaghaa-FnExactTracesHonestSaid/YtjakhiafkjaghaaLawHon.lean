/- the walk of laws.FnExactTracesHonest (written by wip/tools/gen_law.py) -/
import Derived.Test.YtjakhiafkjaghaaAdS
import Derived.Test.YtjakhiafkjaghaaTrQ
import Derived.Test.YtjakhiafkjaghaaHonI
import Derived.Test.YtjakhiafkjaghaaHonS
import Derived.WalkSpells
import Derived.Deep.RegionHeld3
namespace Go.Proofs.Ytjakhiafkjaghaa
open Go.RowKit

set_option maxRecDepth 100000 in
set_option maxHeartbeats 8000000 in
theorem walk_exactTracesHonest (s : Sh) (l : List Tr) (w : World) (S00 : Nat → Prop) (a0 : Option Addr) (c0 : Nat) (b0 : Option Addr) (d0 : Nat) (S10 : Nat → Prop) (a1 : Option Addr) (c1 : Nat) (h00 : ShAt w S00 s a0 c0 b0 d0) (h10 : TrsAt w S10 l a1 c1) :
    Calls Try.prog 3 #[.agg #[.slice a0 s.m.length c0, .slice b0 s.t.length d0], .slice a1 l.length c1] w fun e w' => e = .returned (.bool true) ∧ Below w.heap.size w w' := by
  obtain ⟨S0, hSd0⟩ : ∃ S : Nat → Prop, S = fun b => S00 b ∧ b < w.heap.size := ⟨_, rfl⟩
  have hS0 : ∀ b, S0 b → b < w.heap.size := by rw [hSd0]; exact fun b h => h.2
  have h0 : ShAt w S0 s a0 c0 b0 d0 := by rw [hSd0]; exact h00.lim
  have HS0 := Lib.hid hS0
  obtain ⟨S1, hSd1⟩ : ∃ S : Nat → Prop, S = fun b => S10 b ∧ b < w.heap.size := ⟨_, rfl⟩
  have hS1 : ∀ b, S1 b → b < w.heap.size := by rw [hSd1]; exact fun b h => h.2
  have h1 : TrsAt w S1 l a1 c1 := by rw [hSd1]; exact h10.lim
  have HS1 := Lib.hid hS1
  have HF1 := Lib.hid (TrsAt.fine h1)
  have B0_0 := Lib.hid (Blk.new w 25 #[.slice a0 s.m.length c0, .slice b0 s.t.length d0])
  have HW := Lib.hid (show Below w.heap.size w (w.alloc (.cells #[.slice a0 s.m.length c0, .slice b0 s.t.length d0] 25)) from (Below.refl _ _).alloc (by simp <;> omega) (.cells #[.slice a0 s.m.length c0, .slice b0 s.t.length d0] 25))
  have A0 := Lib.hid (h0.alloc (.cells #[.slice a0 s.m.length c0, .slice b0 s.t.length d0] 25))
  have A1 := Lib.hid (h1.alloc (.cells #[.slice a0 s.m.length c0, .slice b0 s.t.length d0] 25))
  have BX0 := Lib.hid (show Blk (w.alloc (.cells #[.slice a0 s.m.length c0, .slice b0 s.t.length d0] 25)) (w.heap.size) 25 #[.slice a0 s.m.length c0, .slice b0 s.t.length d0] by have := B0_0.out; simpa using this)
  clear hSd0 hS0 h00 hSd1 hS1 h10 h0 h1 B0_0
  by_cases hz0 : s.m.length + nodesL s.t ≤ 1048576
  · obtain ⟨q0, hq0⟩ : ∃ q : Nat, q = 1048576 - (s.m.length + nodesL s.t) := ⟨_, rfl⟩
    have HZ0 := Lib.hid (show szN (s.m.length + nodesL s.t) 1048576 = (q0 : Int) by unfold szN; rw [if_pos hz0, hq0]; omega)
    have hqb0 : q0 ≤ 1048576 := by omega
    have HL0 := Lib.hid (show s.m.length + nodesL s.t ≤ 1048576 by omega)
    by_cases hz1 : trN l ≤ q0
    · obtain ⟨q1, hq1⟩ : ∃ q : Nat, q = q0 - (trN l) := ⟨_, rfl⟩
      have HZ1 := Lib.hid (show szN (trN l) q0 = (q1 : Int) by unfold szN; rw [if_pos hz1, hq1]; omega)
      have hqb1 : q1 ≤ 1048576 := by omega
      have HL1 := Lib.hid (show trN l ≤ 1048576 by omega)
      obtain ⟨r, hr⟩ : ∃ r, r = honest s l := ⟨_, rfl⟩
      have HR := Lib.hid hr
      clear hr
      have HBE := Lib.hid (show (r != r) = false by simp)
      clear hz0 hq0 hz1 hq1
      obtain ⟨x0_0, x0_1, -⟩ := BX0.out.two
      go_enter Try.func3, Try.ntmps3
      go_wp2_with fail
      clear x0_0 x0_1
      refine (szS_ow _ S0 s a0 c0 b0 d0 1048576 A0.out (by omega)).mono ?_
      rintro e w1 ⟨rfl, hb⟩
      rw [HZ0.out]
      have HW_1 := Lib.hid (HW.out.trans (hb.mono HW.out.size))
      have BX0_1 := Lib.hid (BX0.out.below hb BX0.out.lt)
      have A0_1 := Lib.hid (A0.out.below hb)
      have A1_1 := Lib.hid (A1.out.below hb)
      clear hb HZ0 HW BX0 A0 A1
      obtain ⟨x0_0, x0_1, -⟩ := BX0_1.out.two
      go_wp2_with fail
      clear x0_0 x0_1
      refine (szTraces_any _ S1 l a1 c1 q0 A1_1.out (by omega)).mono ?_
      rintro e w2 ⟨rfl, hb⟩
      rw [HZ1.out]
      have HW_2 := Lib.hid (HW_1.out.trans (hb.mono HW_1.out.size))
      have BX0_2 := Lib.hid (BX0_1.out.below hb BX0_1.out.lt)
      have A0_2 := Lib.hid (A0_1.out.below hb)
      have A1_2 := Lib.hid (A1_1.out.below hb)
      clear hb HZ1 HW_1 BX0_1 A0_1 A1_1
      obtain ⟨x0_0, x0_1, -⟩ := BX0_2.out.two
      go_wp2_with fail
      clear x0_0 x0_1
      refine (copyS_ow _ S0 s a0 c0 b0 d0 A0_2.out HL0.out).mono ?_
      rintro e w3 ⟨ra3, rc3, rb3, rd3, D3, rfl, ho, hD, hb⟩
      have HW_3 := Lib.hid (HW_2.out.trans (hb.mono HW_2.out.size))
      have BX0_3 := Lib.hid (BX0_2.out.below hb BX0_2.out.lt)
      have A0_3 := Lib.hid (A0_2.out.below hb)
      have A1_3 := Lib.hid (A1_2.out.below hb)
      have C0_3 := Lib.hid (ho.at)
      clear hb ho hD HW_2 BX0_2 A0_2 A1_2
      obtain ⟨x0_0, x0_1, -⟩ := BX0_3.out.two
      go_wp2_with fail
      clear x0_0 x0_1
      refine (copyQ_ow _ S1 l a1 c1 A1_3.out HL1.out).mono ?_
      rintro e w4 ⟨ra4, rc4, D4, rfl, ho, hD, hb⟩
      have HW_4 := Lib.hid (HW_3.out.trans (hb.mono HW_3.out.size))
      have BX0_4 := Lib.hid (BX0_3.out.below hb BX0_3.out.lt)
      have A0_4 := Lib.hid (A0_3.out.below hb)
      have A1_4 := Lib.hid (A1_3.out.below hb)
      have C0_4 := Lib.hid (C0_3.out.below hb)
      have C1_4 := Lib.hid (ho.at HF1.out)
      clear hb ho hD HW_3 BX0_3 A0_3 A1_3 C0_3
      obtain ⟨x0_0, x0_1, -⟩ := BX0_4.out.two
      go_wp2_with fail
      clear x0_0 x0_1
      refine (specHonest_any s l _ _ _ ra3 rc3 rb3 rd3 ra4 rc4 C0_4.out C1_4.out (Nat.le_trans (Nat.le_add_left _ _) HL0.out)).mono ?_
      rintro e w5 ⟨rfl, hb⟩
      have hsW : w.heap.size + 1 ≤ w5.heap.size := by have := hb.size; have := BX0_4.out.lt; omega
      rw [← HR.out]
      have HW_5 := Lib.hid (HW_4.out.trans (hb.mono HW_4.out.size))
      have BX0_5 := Lib.hid (BX0_4.out.below hb BX0_4.out.lt)
      have A0_5 := Lib.hid (A0_4.out.below hb)
      have A1_5 := Lib.hid (A1_4.out.below hb)
      clear hb HW_4 BX0_4 A0_4 A1_4 C0_4 C1_4
      obtain ⟨x0_0, x0_1, -⟩ := BX0_5.out.two
      go_wp2_with fail
      clear x0_0 x0_1
      refine (copyS_ow _ S0 s a0 c0 b0 d0 A0_5.out HL0.out).mono ?_
      rintro e w6 ⟨ra6, rc6, rb6, rd6, D6, rfl, ho, hD, hb⟩
      have hs6 := hb.size
      try simp only [World.size_alloc] at hD hs6
      have HW_6 := Lib.hid ((HW_5.out.trans (hb.mono HW_5.out.size)).alloc (Nat.le_trans HW_5.out.size hb.size) (.cells #[.slice ra6 s.m.length rc6, .slice rb6 s.t.length rd6] 32))
      have BX0_6 := Lib.hid ((BX0_5.out.below hb BX0_5.out.lt).alloc (.cells #[.slice ra6 s.m.length rc6, .slice rb6 s.t.length rd6] 32))
      have A0_6 := Lib.hid ((A0_5.out.below hb).alloc (.cells #[.slice ra6 s.m.length rc6, .slice rb6 s.t.length rd6] 32))
      have A1_6 := Lib.hid ((A1_5.out.below hb).alloc (.cells #[.slice ra6 s.m.length rc6, .slice rb6 s.t.length rd6] 32))
      have T0_6 := Lib.hid ((ho.at).alloc (.cells #[.slice ra6 s.m.length rc6, .slice rb6 s.t.length rd6] 32))
      have O0_6 := Lib.hid (ho.below ((Below.refl _ _).alloc (Nat.le_refl _) (.cells #[.slice ra6 s.m.length rc6, .slice rb6 s.t.length rd6] 32)))
      have HD0 := Lib.hid hD
      have XB0_6 := Lib.hid (Blk.new w6 32 #[.slice ra6 s.m.length rc6, .slice rb6 s.t.length rd6])
      clear hb ho hD HW_5 BX0_5 A0_5 A1_5
      obtain ⟨x0_0, x0_1, -⟩ := BX0_6.out.two
      obtain ⟨x1_0, x1_1, -⟩ := XB0_6.out.two
      go_wp2_with fail
      clear x0_0 x0_1 x1_0 x1_1
      refine (copyQ_ow _ S1 l a1 c1 A1_6.out HL1.out).mono ?_
      rintro e w7 ⟨ra7, rc7, D7, rfl, ho, hD, hb⟩
      have hs7 := hb.size
      try simp only [World.size_alloc] at hD hs7
      have HW_7 := Lib.hid (HW_6.out.trans (hb.mono HW_6.out.size))
      have BX0_7 := Lib.hid (BX0_6.out.below hb BX0_6.out.lt)
      have A0_7 := Lib.hid (A0_6.out.below hb)
      have A1_7 := Lib.hid (A1_6.out.below hb)
      have T0_7 := Lib.hid (T0_6.out.below hb)
      have O0_7 := Lib.hid (O0_6.out.below hb)
      have XB0_7 := Lib.hid (XB0_6.out.below hb XB0_6.out.lt)
      have T1_7 := Lib.hid (ho.at HF1.out)
      have O1_7 := Lib.hid (ho)
      have HD1 := Lib.hid hD
      clear hb ho hD HW_6 BX0_6 A0_6 A1_6 T0_6 O0_6 XB0_6
      obtain ⟨x0_0, x0_1, -⟩ := BX0_7.out.two
      obtain ⟨x1_0, x1_1, -⟩ := XB0_7.out.two
      go_wp2_with fail
      clear x0_0 x0_1 x1_0 x1_1
      refine (implHonest_any s l _ _ _ ra6 rc6 rb6 rd6 ra7 rc7 T0_7.out T1_7.out).mono ?_
      rintro e w8 ⟨rfl, hb⟩
      rw [← HR.out]
      have HW_8 := Lib.hid (HW_7.out.trans (hb.mono HW_7.out.size))
      have BX0_8 := Lib.hid (BX0_7.out.below hb BX0_7.out.lt)
      have A0_8 := Lib.hid (A0_7.out.below hb)
      have A1_8 := Lib.hid (A1_7.out.below hb)
      have T0_8 := Lib.hid (T0_7.out.below hb)
      have O0_8 := Lib.hid (O0_7.out.below hb)
      have XB0_8 := Lib.hid (XB0_7.out.below hb XB0_7.out.lt)
      have T1_8 := Lib.hid (T1_7.out.below hb)
      have O1_8 := Lib.hid (O1_7.out.below hb)
      clear hb HW_7 BX0_7 A0_7 A1_7 T0_7 O0_7 XB0_7 T1_7 O1_7
      have hbe := HBE.out
      obtain ⟨x0_0, x0_1, -⟩ := BX0_8.out.two
      obtain ⟨x1_0, x1_1, -⟩ := XB0_8.out.two
      go_wp2_with fail
      clear x0_0 x0_1 x1_0 x1_1
      clear hbe
      obtain ⟨y0, y1, -⟩ := XB0_8.out.two
      obtain ⟨z0, z1, -⟩ := BX0_8.out.two
      go_region_held3 (fun w' => w'.cell? ⟨w6.heap.size, 0, none⟩ = some (.slice ra6 s.m.length rc6) ∧ w'.cell? ⟨w6.heap.size, 1, none⟩ = some (.slice rb6 s.t.length rd6) ∧ w'.cell? ⟨w.heap.size, 0, none⟩ = some (.slice a0 s.m.length c0) ∧ w'.cell? ⟨w.heap.size, 1, none⟩ = some (.slice b0 s.t.length d0)) (first | exact ⟨y0, y1, z0, z1⟩ | exact ⟨u0, u1, v0, v1⟩ | exact ⟨p0, p1, q_0, q_1⟩) ((first | (go_at_call 11; refine (copyS_ow _ S0 s a0 c0 b0 d0 A0_8.out.drew HL0.out).mono ?_; rintro e w9 ⟨ra9, rc9, rb9, rd9, D9, rfl, hoq, hDq, hbq⟩; obtain ⟨u0, u1, -⟩ := (XB0_8.out.drew.below hbq XB0_8.out.drew.lt).two; obtain ⟨v0, v1, -⟩ := (BX0_8.out.drew.below hbq BX0_8.out.drew.lt).two) | (go_at_call 14; go_must (refine (eqSheet_any _ _ _ s ra6 rc6 rb6 rd6 ra9 rc9 rb9 rd9 (T0_8.out.drew.below hbq) (hoq.at)).mono ?_; rintro e w10 ⟨rfl, hbr⟩; obtain ⟨p0, p1, -⟩ := ((XB0_8.out.drew.below hbq XB0_8.out.drew.lt).below hbr (XB0_8.out.drew.below hbq XB0_8.out.drew.lt).lt).two; obtain ⟨q_0, q_1, -⟩ := ((BX0_8.out.drew.below hbq BX0_8.out.drew.lt).below hbr (BX0_8.out.drew.below hbq BX0_8.out.drew.lt).lt).two))))
      have HW_10 := Lib.hid ((HW_8.out.drew.trans (hbq.mono HW_8.out.size)).trans (hbr.mono (Nat.le_trans HW_8.out.size hbq.size)))
      have BX0_10 := Lib.hid ((BX0_8.out.drew.below hbq BX0_8.out.drew.lt).below hbr (BX0_8.out.drew.below hbq BX0_8.out.drew.lt).lt)
      have A0_10 := Lib.hid ((A0_8.out.drew.below hbq).below hbr)
      have A1_10 := Lib.hid ((A1_8.out.drew.below hbq).below hbr)
      have O0_10 := Lib.hid (((O0_8.out.below (Below.refl _ _).drew).below hbq).below hbr)
      have T1_10 := Lib.hid ((T1_8.out.drew.below hbq).below hbr)
      have O1_10 := Lib.hid (((O1_8.out.below (Below.refl _ _).drew).below hbq).below hbr)
      clear hbq hbr hoq hDq y0 y1 z0 z1 u0 u1 v0 v1 p0 p1 q_0 q_1 HW_8 BX0_8 A0_8 A1_8 T0_8 O0_8 XB0_8 T1_8 O1_8
      obtain ⟨x0_0, x0_1, -⟩ := BX0_10.out.two
      go_wp2_with fail
      clear x0_0 x0_1
      refine (copyQ_ow _ S1 l a1 c1 A1_10.out HL1.out).mono ?_
      rintro e w11 ⟨ra11, rc11, D11, rfl, ho, hD, hb⟩
      have HW_11 := Lib.hid (HW_10.out.trans (hb.mono HW_10.out.size))
      have BX0_11 := Lib.hid (BX0_10.out.below hb BX0_10.out.lt)
      have A0_11 := Lib.hid (A0_10.out.below hb)
      have A1_11 := Lib.hid (A1_10.out.below hb)
      have O0_11 := Lib.hid (O0_10.out.below hb)
      have T1_11 := Lib.hid (T1_10.out.below hb)
      have O1_11 := Lib.hid (O1_10.out.below hb)
      have E1_11 := Lib.hid (ho.at HF1.out)
      clear hb ho hD HW_10 BX0_10 A0_10 A1_10 O0_10 T1_10 O1_10
      obtain ⟨x0_0, x0_1, -⟩ := BX0_11.out.two
      go_wp2_with fail
      clear x0_0 x0_1
      refine (eqTraces_any _ _ _ l ra7 ra11 rc7 rc11 T1_11.out E1_11.out).mono ?_
      rintro e w12 ⟨rfl, hb⟩
      have HW_12 := Lib.hid (HW_11.out.trans (hb.mono HW_11.out.size))
      have BX0_12 := Lib.hid (BX0_11.out.below hb BX0_11.out.lt)
      have A0_12 := Lib.hid (A0_11.out.below hb)
      have A1_12 := Lib.hid (A1_11.out.below hb)
      have O0_12 := Lib.hid (O0_11.out.below hb)
      have O1_12 := Lib.hid (O1_11.out.below hb)
      clear hb HW_11 BX0_11 A0_11 A1_11 O0_11 T1_11 O1_11 E1_11
      obtain ⟨x0_0, x0_1, -⟩ := BX0_12.out.two
      go_wp2_with fail
      clear x0_0 x0_1
      go_ret
      exact ⟨rfl, HW_12.out⟩
    · have HZ := Lib.hid (show szN (trN l) q0 = -1 by unfold szN; rw [if_neg hz1])
      clear hz1
      clear hz0 hq0
      obtain ⟨x0_0, x0_1, -⟩ := BX0.out.two
      go_enter Try.func3, Try.ntmps3
      go_wp2_with fail
      clear x0_0 x0_1
      refine (szS_ow _ S0 s a0 c0 b0 d0 1048576 A0.out (by omega)).mono ?_
      rintro e w13 ⟨rfl, hb⟩
      rw [HZ0.out]
      have HW_13 := Lib.hid (HW.out.trans (hb.mono HW.out.size))
      have BX0_13 := Lib.hid (BX0.out.below hb BX0.out.lt)
      have A0_13 := Lib.hid (A0.out.below hb)
      have A1_13 := Lib.hid (A1.out.below hb)
      clear hb HW BX0 A0 A1
      obtain ⟨x0_0, x0_1, -⟩ := BX0_13.out.two
      go_wp2_with fail
      clear x0_0 x0_1
      refine (szTraces_any _ S1 l a1 c1 q0 A1_13.out (by omega)).mono ?_
      rintro e w14 ⟨rfl, hb⟩
      rw [HZ.out]
      have HW_14 := Lib.hid (HW_13.out.trans (hb.mono HW_13.out.size))
      have BX0_14 := Lib.hid (BX0_13.out.below hb BX0_13.out.lt)
      have A0_14 := Lib.hid (A0_13.out.below hb)
      have A1_14 := Lib.hid (A1_13.out.below hb)
      clear hb HW_13 BX0_13 A0_13 A1_13
      go_wp2_with fail
      go_ret
      exact ⟨rfl, HW_14.out⟩
  · have HZ := Lib.hid (show szN (s.m.length + nodesL s.t) 1048576 = -1 by unfold szN; rw [if_neg hz0])
    clear hz0
    obtain ⟨x0_0, x0_1, -⟩ := BX0.out.two
    go_enter Try.func3, Try.ntmps3
    go_wp2_with fail
    clear x0_0 x0_1
    refine (szS_ow _ S0 s a0 c0 b0 d0 1048576 A0.out (by omega)).mono ?_
    rintro e w15 ⟨rfl, hb⟩
    rw [HZ.out]
    have HW_15 := Lib.hid (HW.out.trans (hb.mono HW.out.size))
    have BX0_15 := Lib.hid (BX0.out.below hb BX0.out.lt)
    have A0_15 := Lib.hid (A0.out.below hb)
    have A1_15 := Lib.hid (A1.out.below hb)
    clear hb HW BX0 A0 A1
    go_wp2_with fail
    go_ret
    exact ⟨rfl, HW_15.out⟩
end Go.Proofs.Ytjakhiafkjaghaa
