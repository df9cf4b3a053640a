/- the walk of laws.FnExactStateOk (written by wip/tools/gen_law.py) -/
import Derived.Test.YtjakhiafkjaghaaAdS
import Derived.Test.YtjakhiafkjaghaaStC
import Derived.Test.YtjakhiafkjaghaaStOkI
import Derived.Test.YtjakhiafkjaghaaStOkS
import Derived.WalkSpells
import Derived.Deep.RegionHeld3
namespace Go.Proofs.Ytjakhiafkjaghaa
open Go.RowKit

set_option maxRecDepth 100000 in
set_option maxHeartbeats 8000000 in
theorem walk_exactStateOk (s : Sh) (x : St) (w : World) (S00 : Nat → Prop) (a0 : Option Addr) (c0 : Nat) (b0 : Option Addr) (d0 : Nat) (S10 : Nat → Prop) (sa1 : Option Addr) (sc1 : Nat) (sb1 : Option Addr) (sd1 : Nat) (sf1 : Option Addr) (sg1 : Nat) (sp1 : Option Addr) (sq1 : Nat) (h00 : ShAt w S00 s a0 c0 b0 d0) (h10 : StAt w S10 x sa1 sc1 sb1 sd1 sf1 sg1 sp1 sq1) :
    Calls Try.prog 5 #[.agg #[.slice a0 s.m.length c0, .slice b0 s.t.length d0], .agg #[.slice sa1 x.v.length sc1, .slice sb1 x.b.length sd1, .slice sf1 x.i.length sg1, .slice sp1 x.t.length sq1]] w fun e w' => e = .returned (.bool true) ∧ Below w.heap.size w w' := by
  obtain ⟨S0, hSd0⟩ : ∃ S : Nat → Prop, S = fun b => S00 b ∧ b < w.heap.size := ⟨_, rfl⟩
  have hS0 : ∀ b, S0 b → b < w.heap.size := by rw [hSd0]; exact fun b h => h.2
  have h0 : ShAt w S0 s a0 c0 b0 d0 := by rw [hSd0]; exact h00.lim
  have HS0 := Lib.hid hS0
  obtain ⟨S1, hSd1⟩ : ∃ S : Nat → Prop, S = fun b => S10 b ∧ b < w.heap.size := ⟨_, rfl⟩
  have hS1 : ∀ b, S1 b → b < w.heap.size := by rw [hSd1]; exact fun b h => h.2
  have h1 : StAt w S1 x sa1 sc1 sb1 sd1 sf1 sg1 sp1 sq1 := by rw [hSd1]; exact h10.lim
  have HS1 := Lib.hid hS1
  have HF1 := Lib.hid (StAt.fine h1)
  have B0_0 := Lib.hid (Blk.new w 25 #[.slice a0 s.m.length c0, .slice b0 s.t.length d0])
  have B1_0 := Lib.hid (Blk.new ((w.alloc (.cells #[.slice a0 s.m.length c0, .slice b0 s.t.length d0] 25))) 49 #[.slice sa1 x.v.length sc1, .slice sb1 x.b.length sd1, .slice sf1 x.i.length sg1, .slice sp1 x.t.length sq1])
  have B0_1 := Lib.hid (B0_0.out.alloc (.cells #[.slice sa1 x.v.length sc1, .slice sb1 x.b.length sd1, .slice sf1 x.i.length sg1, .slice sp1 x.t.length sq1] 49))
  have HW := Lib.hid (show Below w.heap.size w ((w.alloc (.cells #[.slice a0 s.m.length c0, .slice b0 s.t.length d0] 25)).alloc (.cells #[.slice sa1 x.v.length sc1, .slice sb1 x.b.length sd1, .slice sf1 x.i.length sg1, .slice sp1 x.t.length sq1] 49)) from ((Below.refl _ _).alloc (by simp <;> omega) (.cells #[.slice a0 s.m.length c0, .slice b0 s.t.length d0] 25)).alloc (by simp <;> omega) (.cells #[.slice sa1 x.v.length sc1, .slice sb1 x.b.length sd1, .slice sf1 x.i.length sg1, .slice sp1 x.t.length sq1] 49))
  have A0 := Lib.hid ((h0.alloc (.cells #[.slice a0 s.m.length c0, .slice b0 s.t.length d0] 25)).alloc (.cells #[.slice sa1 x.v.length sc1, .slice sb1 x.b.length sd1, .slice sf1 x.i.length sg1, .slice sp1 x.t.length sq1] 49))
  have A1 := Lib.hid ((h1.alloc (.cells #[.slice a0 s.m.length c0, .slice b0 s.t.length d0] 25)).alloc (.cells #[.slice sa1 x.v.length sc1, .slice sb1 x.b.length sd1, .slice sf1 x.i.length sg1, .slice sp1 x.t.length sq1] 49))
  have BX0 := Lib.hid (show Blk ((w.alloc (.cells #[.slice a0 s.m.length c0, .slice b0 s.t.length d0] 25)).alloc (.cells #[.slice sa1 x.v.length sc1, .slice sb1 x.b.length sd1, .slice sf1 x.i.length sg1, .slice sp1 x.t.length sq1] 49)) (w.heap.size) 25 #[.slice a0 s.m.length c0, .slice b0 s.t.length d0] by have := B0_1.out; simpa using this)
  have BX1 := Lib.hid (show Blk ((w.alloc (.cells #[.slice a0 s.m.length c0, .slice b0 s.t.length d0] 25)).alloc (.cells #[.slice sa1 x.v.length sc1, .slice sb1 x.b.length sd1, .slice sf1 x.i.length sg1, .slice sp1 x.t.length sq1] 49)) (w.heap.size + 1) 49 #[.slice sa1 x.v.length sc1, .slice sb1 x.b.length sd1, .slice sf1 x.i.length sg1, .slice sp1 x.t.length sq1] by have := B1_0.out; simpa using this)
  clear hSd0 hS0 h00 hSd1 hS1 h10 B0_0 h0 h1 B0_1 B1_0
  by_cases hz0 : s.m.length + nodesL s.t ≤ 1048576
  · obtain ⟨q0, hq0⟩ : ∃ q : Nat, q = 1048576 - (s.m.length + nodesL s.t) := ⟨_, rfl⟩
    have HZ0 := Lib.hid (show szN (s.m.length + nodesL s.t) 1048576 = (q0 : Int) by unfold szN; rw [if_pos hz0, hq0]; omega)
    have hqb0 : q0 ≤ 1048576 := by omega
    have HL0 := Lib.hid (show s.m.length + nodesL s.t ≤ 1048576 by omega)
    by_cases hz1 : x.n ≤ q0
    · obtain ⟨q1, hq1⟩ : ∃ q : Nat, q = q0 - (x.n) := ⟨_, rfl⟩
      have HZ1 := Lib.hid (show szN (x.n) q0 = (q1 : Int) by unfold szN; rw [if_pos hz1, hq1]; omega)
      have hqb1 : q1 ≤ 1048576 := by omega
      have HL1 := Lib.hid (show x.n ≤ 1048576 by omega)
      obtain ⟨r, hr⟩ : ∃ r, r = stOk s x := ⟨_, rfl⟩
      have HR := Lib.hid hr
      clear hr
      have HBE := Lib.hid (show (r != r) = false by simp)
      clear hz0 hq0 hz1 hq1
      obtain ⟨x0_0, x0_1, -⟩ := BX0.out.two
      obtain ⟨x1_0, x1_1, x1_2, x1_3, -⟩ := BX1.out.four
      go_enter Try.func5, Try.ntmps5
      go_wp2_with fail
      clear x0_0 x0_1 x1_0 x1_1 x1_2 x1_3
      refine (szS_ow _ S0 s a0 c0 b0 d0 1048576 A0.out (by omega)).mono ?_
      rintro e w1 ⟨rfl, hb⟩
      rw [HZ0.out]
      have HW_1 := Lib.hid (HW.out.trans (hb.mono HW.out.size))
      have BX0_1 := Lib.hid (BX0.out.below hb BX0.out.lt)
      have BX1_1 := Lib.hid (BX1.out.below hb BX1.out.lt)
      have A0_1 := Lib.hid (A0.out.below hb)
      have A1_1 := Lib.hid (A1.out.below hb)
      clear hb HZ0 HW BX0 BX1 A0 A1
      obtain ⟨x0_0, x0_1, -⟩ := BX0_1.out.two
      obtain ⟨x1_0, x1_1, x1_2, x1_3, -⟩ := BX1_1.out.four
      go_wp2_with fail
      clear x0_0 x0_1 x1_0 x1_1 x1_2 x1_3
      refine (szX_ow _ S1 x sa1 sc1 sb1 sd1 sf1 sg1 sp1 sq1 q0 A1_1.out (by omega)).mono ?_
      rintro e w2 ⟨rfl, hb⟩
      rw [HZ1.out]
      have HW_2 := Lib.hid (HW_1.out.trans (hb.mono HW_1.out.size))
      have BX0_2 := Lib.hid (BX0_1.out.below hb BX0_1.out.lt)
      have BX1_2 := Lib.hid (BX1_1.out.below hb BX1_1.out.lt)
      have A0_2 := Lib.hid (A0_1.out.below hb)
      have A1_2 := Lib.hid (A1_1.out.below hb)
      clear hb HZ1 HW_1 BX0_1 BX1_1 A0_1 A1_1
      obtain ⟨x0_0, x0_1, -⟩ := BX0_2.out.two
      obtain ⟨x1_0, x1_1, x1_2, x1_3, -⟩ := BX1_2.out.four
      go_wp2_with fail
      clear x0_0 x0_1 x1_0 x1_1 x1_2 x1_3
      obtain ⟨x0_0, x0_1, -⟩ := BX0_2.out.drew.two
      obtain ⟨x1_0, x1_1, x1_2, x1_3, -⟩ := BX1_2.out.drew.four
      go_wp2_with fail
      go_region_held3 (fun w' => w'.cell? ⟨w.heap.size, 0, none⟩ = some (.slice a0 s.m.length c0) ∧ w'.cell? ⟨w.heap.size, 1, none⟩ = some (.slice b0 s.t.length d0) ∧ w'.cell? ⟨w.heap.size + 1, 0, none⟩ = some (.slice sa1 x.v.length sc1) ∧ w'.cell? ⟨w.heap.size + 1, 1, none⟩ = some (.slice sb1 x.b.length sd1) ∧ w'.cell? ⟨w.heap.size + 1, 2, none⟩ = some (.slice sf1 x.i.length sg1) ∧ w'.cell? ⟨w.heap.size + 1, 3, none⟩ = some (.slice sp1 x.t.length sq1)) (first | exact ⟨x0_0, x0_1, x1_0, x1_1, x1_2, x1_3⟩ | exact ⟨v3_0_0, v3_0_1, v3_1_0, v3_1_1, v3_1_2, v3_1_3⟩ | exact ⟨v4_0_0, v4_0_1, v4_1_0, v4_1_1, v4_1_2, v4_1_3⟩ | exact ⟨v5_0_0, v5_0_1, v5_1_0, v5_1_1, v5_1_2, v5_1_3⟩ | go_keep) (first | (go_at_call 11; refine (copyS_ow _ S0 s a0 c0 b0 d0 (A0_2.out.drew) HL0.out).mono ?_; rintro e w3 ⟨ra3, rc3, rb3, rd3, D3, rfl, ho_3, hD_3, hb_3⟩; obtain ⟨v3_0_0, v3_0_1, -⟩ := ((BX0_2.out.drew).below hb_3 (BX0_2.out.lt)).two; obtain ⟨v3_1_0, v3_1_1, v3_1_2, v3_1_3, -⟩ := ((BX1_2.out.drew).below hb_3 (BX1_2.out.lt)).four) | (go_at_call 24; refine (copyX_ow _ S1 x sa1 sc1 sb1 sd1 sf1 sg1 sp1 sq1 ((A1_2.out.drew).below hb_3) HL1.out).mono ?_; rintro e w4 ⟨rsa4, rsc4, rsb4, rsd4, rsf4, rsg4, rsp4, rsq4, D4, rfl, ho_4, hD_4, hb_4⟩; obtain ⟨v4_0_0, v4_0_1, -⟩ := (((BX0_2.out.drew).below hb_3 (BX0_2.out.lt)).below hb_4 (Nat.lt_of_lt_of_le (BX0_2.out.lt) hb_3.size)).two; obtain ⟨v4_1_0, v4_1_1, v4_1_2, v4_1_3, -⟩ := (((BX1_2.out.drew).below hb_3 (BX1_2.out.lt)).below hb_4 (Nat.lt_of_lt_of_le (BX1_2.out.lt) hb_3.size)).four) | (go_at_call 23; refine (specStateOk_any s x _ _ _ ra3 rc3 rb3 rd3 rsa4 rsc4 rsb4 rsd4 rsf4 rsg4 rsp4 rsq4 ((ho_3.at).below hb_4) (ho_4.at HF1.out) (Nat.le_trans (Nat.le_add_left _ _) HL0.out)).mono ?_; rintro e w5 ⟨rfl, hb_5⟩; rw [← HR.out]; obtain ⟨v5_0_0, v5_0_1, -⟩ := ((((BX0_2.out.drew).below hb_3 (BX0_2.out.lt)).below hb_4 (Nat.lt_of_lt_of_le (BX0_2.out.lt) hb_3.size)).below hb_5 (Nat.lt_of_lt_of_le (Nat.lt_of_lt_of_le (BX0_2.out.lt) hb_3.size) hb_4.size)).two; obtain ⟨v5_1_0, v5_1_1, v5_1_2, v5_1_3, -⟩ := ((((BX1_2.out.drew).below hb_3 (BX1_2.out.lt)).below hb_4 (Nat.lt_of_lt_of_le (BX1_2.out.lt) hb_3.size)).below hb_5 (Nat.lt_of_lt_of_le (Nat.lt_of_lt_of_le (BX1_2.out.lt) hb_3.size) hb_4.size)).four))
      have hb := (((Below.refl _ _).drew.trans hb_3).trans (hb_4.mono (hb_3.size))).trans (hb_5.mono (Nat.le_trans (hb_3.size) hb_4.size))
      clear hb_3 hb_4 hb_5 ho_3 hD_3 ho_4 hD_4 x0_0 x0_1 x1_0 x1_1 x1_2 x1_3 v3_0_0 v3_0_1 v3_1_0 v3_1_1 v3_1_2 v3_1_3 v4_0_0 v4_0_1 v4_1_0 v4_1_1 v4_1_2 v4_1_3 v5_0_0 v5_0_1 v5_1_0 v5_1_1 v5_1_2 v5_1_3
      have hsW : w.heap.size + 2 ≤ w5.heap.size := by have := hb.size; have := BX1_2.out.lt; omega
      have HW_5 := Lib.hid (HW_2.out.trans (hb.mono HW_2.out.size))
      have BX0_5 := Lib.hid (BX0_2.out.below hb BX0_2.out.lt)
      have BX1_5 := Lib.hid (BX1_2.out.below hb BX1_2.out.lt)
      have A0_5 := Lib.hid (A0_2.out.below hb)
      have A1_5 := Lib.hid (A1_2.out.below hb)
      clear hb HW_2 BX0_2 BX1_2 A0_2 A1_2
      obtain ⟨x0_0, x0_1, -⟩ := BX0_5.out.two
      obtain ⟨x1_0, x1_1, x1_2, x1_3, -⟩ := BX1_5.out.four
      go_wp2_with fail
      clear x0_0 x0_1 x1_0 x1_1 x1_2 x1_3
      refine (copyS_ow _ S0 s a0 c0 b0 d0 A0_5.out HL0.out).mono ?_
      rintro e w6 ⟨ra6, rc6, rb6, rd6, D6, rfl, ho, hD, hb⟩
      have hs6 := hb.size
      try simp only [World.size_alloc] at hD hs6
      have HW_6 := Lib.hid ((HW_5.out.trans (hb.mono HW_5.out.size)).alloc (Nat.le_trans HW_5.out.size hb.size) (.cells #[.slice ra6 s.m.length rc6, .slice rb6 s.t.length rd6] 32))
      have BX0_6 := Lib.hid ((BX0_5.out.below hb BX0_5.out.lt).alloc (.cells #[.slice ra6 s.m.length rc6, .slice rb6 s.t.length rd6] 32))
      have BX1_6 := Lib.hid ((BX1_5.out.below hb BX1_5.out.lt).alloc (.cells #[.slice ra6 s.m.length rc6, .slice rb6 s.t.length rd6] 32))
      have A0_6 := Lib.hid ((A0_5.out.below hb).alloc (.cells #[.slice ra6 s.m.length rc6, .slice rb6 s.t.length rd6] 32))
      have A1_6 := Lib.hid ((A1_5.out.below hb).alloc (.cells #[.slice ra6 s.m.length rc6, .slice rb6 s.t.length rd6] 32))
      have T0_6 := Lib.hid ((ho.at).alloc (.cells #[.slice ra6 s.m.length rc6, .slice rb6 s.t.length rd6] 32))
      have O0_6 := Lib.hid (ho.below ((Below.refl _ _).alloc (Nat.le_refl _) (.cells #[.slice ra6 s.m.length rc6, .slice rb6 s.t.length rd6] 32)))
      have HD0 := Lib.hid hD
      have XB0_6 := Lib.hid (Blk.new w6 32 #[.slice ra6 s.m.length rc6, .slice rb6 s.t.length rd6])
      clear hb ho hD HW_5 BX0_5 BX1_5 A0_5 A1_5
      obtain ⟨x0_0, x0_1, -⟩ := BX0_6.out.two
      obtain ⟨x1_0, x1_1, x1_2, x1_3, -⟩ := BX1_6.out.four
      obtain ⟨x2_0, x2_1, -⟩ := XB0_6.out.two
      go_wp2_with fail
      clear x0_0 x0_1 x1_0 x1_1 x1_2 x1_3 x2_0 x2_1
      refine (copyX_ow _ S1 x sa1 sc1 sb1 sd1 sf1 sg1 sp1 sq1 A1_6.out HL1.out).mono ?_
      rintro e w7 ⟨rsa7, rsc7, rsb7, rsd7, rsf7, rsg7, rsp7, rsq7, D7, rfl, ho, hD, hb⟩
      have hs7 := hb.size
      try simp only [World.size_alloc] at hD hs7
      have HW_7 := Lib.hid ((HW_6.out.trans (hb.mono HW_6.out.size)).alloc (Nat.le_trans HW_6.out.size hb.size) (.cells #[.slice rsa7 x.v.length rsc7, .slice rsb7 x.b.length rsd7, .slice rsf7 x.i.length rsg7, .slice rsp7 x.t.length rsq7] 41))
      have BX0_7 := Lib.hid ((BX0_6.out.below hb BX0_6.out.lt).alloc (.cells #[.slice rsa7 x.v.length rsc7, .slice rsb7 x.b.length rsd7, .slice rsf7 x.i.length rsg7, .slice rsp7 x.t.length rsq7] 41))
      have BX1_7 := Lib.hid ((BX1_6.out.below hb BX1_6.out.lt).alloc (.cells #[.slice rsa7 x.v.length rsc7, .slice rsb7 x.b.length rsd7, .slice rsf7 x.i.length rsg7, .slice rsp7 x.t.length rsq7] 41))
      have A0_7 := Lib.hid ((A0_6.out.below hb).alloc (.cells #[.slice rsa7 x.v.length rsc7, .slice rsb7 x.b.length rsd7, .slice rsf7 x.i.length rsg7, .slice rsp7 x.t.length rsq7] 41))
      have A1_7 := Lib.hid ((A1_6.out.below hb).alloc (.cells #[.slice rsa7 x.v.length rsc7, .slice rsb7 x.b.length rsd7, .slice rsf7 x.i.length rsg7, .slice rsp7 x.t.length rsq7] 41))
      have T0_7 := Lib.hid ((T0_6.out.below hb).alloc (.cells #[.slice rsa7 x.v.length rsc7, .slice rsb7 x.b.length rsd7, .slice rsf7 x.i.length rsg7, .slice rsp7 x.t.length rsq7] 41))
      have O0_7 := Lib.hid ((O0_6.out.below hb).below ((Below.refl _ _).alloc (Nat.le_refl _) (.cells #[.slice rsa7 x.v.length rsc7, .slice rsb7 x.b.length rsd7, .slice rsf7 x.i.length rsg7, .slice rsp7 x.t.length rsq7] 41)))
      have XB0_7 := Lib.hid ((XB0_6.out.below hb XB0_6.out.lt).alloc (.cells #[.slice rsa7 x.v.length rsc7, .slice rsb7 x.b.length rsd7, .slice rsf7 x.i.length rsg7, .slice rsp7 x.t.length rsq7] 41))
      have T1_7 := Lib.hid ((ho.at HF1.out).alloc (.cells #[.slice rsa7 x.v.length rsc7, .slice rsb7 x.b.length rsd7, .slice rsf7 x.i.length rsg7, .slice rsp7 x.t.length rsq7] 41))
      have O1_7 := Lib.hid (ho.below ((Below.refl _ _).alloc (Nat.le_refl _) (.cells #[.slice rsa7 x.v.length rsc7, .slice rsb7 x.b.length rsd7, .slice rsf7 x.i.length rsg7, .slice rsp7 x.t.length rsq7] 41)))
      have HD1 := Lib.hid hD
      have XB1_7 := Lib.hid (Blk.new w7 41 #[.slice rsa7 x.v.length rsc7, .slice rsb7 x.b.length rsd7, .slice rsf7 x.i.length rsg7, .slice rsp7 x.t.length rsq7])
      clear hb ho hD HW_6 BX0_6 BX1_6 A0_6 A1_6 T0_6 O0_6 XB0_6
      obtain ⟨x0_0, x0_1, -⟩ := BX0_7.out.two
      obtain ⟨x1_0, x1_1, x1_2, x1_3, -⟩ := BX1_7.out.four
      obtain ⟨x2_0, x2_1, -⟩ := XB0_7.out.two
      obtain ⟨x3_0, x3_1, x3_2, x3_3, -⟩ := XB1_7.out.four
      go_wp2_with fail
      clear x0_0 x0_1 x1_0 x1_1 x1_2 x1_3 x2_0 x2_1 x3_0 x3_1 x3_2 x3_3
      refine (implStateOk_any s x _ _ _ ra6 rc6 rb6 rd6 rsa7 rsc7 rsb7 rsd7 rsf7 rsg7 rsp7 rsq7 T0_7.out T1_7.out).mono ?_
      rintro e w8 ⟨rfl, hb⟩
      rw [← HR.out]
      have HW_8 := Lib.hid (HW_7.out.trans (hb.mono HW_7.out.size))
      have BX0_8 := Lib.hid (BX0_7.out.below hb BX0_7.out.lt)
      have BX1_8 := Lib.hid (BX1_7.out.below hb BX1_7.out.lt)
      have A0_8 := Lib.hid (A0_7.out.below hb)
      have A1_8 := Lib.hid (A1_7.out.below hb)
      have T0_8 := Lib.hid (T0_7.out.below hb)
      have O0_8 := Lib.hid (O0_7.out.below hb)
      have XB0_8 := Lib.hid (XB0_7.out.below hb XB0_7.out.lt)
      have T1_8 := Lib.hid (T1_7.out.below hb)
      have O1_8 := Lib.hid (O1_7.out.below hb)
      have XB1_8 := Lib.hid (XB1_7.out.below hb XB1_7.out.lt)
      clear hb HW_7 BX0_7 BX1_7 A0_7 A1_7 T0_7 O0_7 XB0_7 T1_7 O1_7 XB1_7
      have hbe := HBE.out
      obtain ⟨x0_0, x0_1, -⟩ := BX0_8.out.two
      obtain ⟨x1_0, x1_1, x1_2, x1_3, -⟩ := BX1_8.out.four
      obtain ⟨x2_0, x2_1, -⟩ := XB0_8.out.two
      obtain ⟨x3_0, x3_1, x3_2, x3_3, -⟩ := XB1_8.out.four
      go_wp2_with fail
      clear x0_0 x0_1 x1_0 x1_1 x1_2 x1_3 x2_0 x2_1 x3_0 x3_1 x3_2 x3_3
      clear hbe
      obtain ⟨y0, y1, -⟩ := XB0_8.out.two
      obtain ⟨z0, z1, -⟩ := BX0_8.out.two
      go_region_held3 (fun w' => w'.cell? ⟨w6.heap.size, 0, none⟩ = some (.slice ra6 s.m.length rc6) ∧ w'.cell? ⟨w6.heap.size, 1, none⟩ = some (.slice rb6 s.t.length rd6) ∧ w'.cell? ⟨w.heap.size, 0, none⟩ = some (.slice a0 s.m.length c0) ∧ w'.cell? ⟨w.heap.size, 1, none⟩ = some (.slice b0 s.t.length d0)) (first | exact ⟨y0, y1, z0, z1⟩ | exact ⟨u0, u1, v0, v1⟩ | exact ⟨p0, p1, q_0, q_1⟩) ((first | (go_at_call 11; refine (copyS_ow _ S0 s a0 c0 b0 d0 A0_8.out.drew HL0.out).mono ?_; rintro e w9 ⟨ra9, rc9, rb9, rd9, D9, rfl, hoq, hDq, hbq⟩; obtain ⟨u0, u1, -⟩ := (XB0_8.out.drew.below hbq XB0_8.out.drew.lt).two; obtain ⟨v0, v1, -⟩ := (BX0_8.out.drew.below hbq BX0_8.out.drew.lt).two) | (go_at_call 14; go_must (refine (eqSheet_any _ _ _ s ra6 rc6 rb6 rd6 ra9 rc9 rb9 rd9 (T0_8.out.drew.below hbq) (hoq.at)).mono ?_; rintro e w10 ⟨rfl, hbr⟩; obtain ⟨p0, p1, -⟩ := ((XB0_8.out.drew.below hbq XB0_8.out.drew.lt).below hbr (XB0_8.out.drew.below hbq XB0_8.out.drew.lt).lt).two; obtain ⟨q_0, q_1, -⟩ := ((BX0_8.out.drew.below hbq BX0_8.out.drew.lt).below hbr (BX0_8.out.drew.below hbq BX0_8.out.drew.lt).lt).two))))
      have HW_10 := Lib.hid ((HW_8.out.drew.trans (hbq.mono HW_8.out.size)).trans (hbr.mono (Nat.le_trans HW_8.out.size hbq.size)))
      have BX0_10 := Lib.hid ((BX0_8.out.drew.below hbq BX0_8.out.drew.lt).below hbr (BX0_8.out.drew.below hbq BX0_8.out.drew.lt).lt)
      have BX1_10 := Lib.hid ((BX1_8.out.drew.below hbq BX1_8.out.drew.lt).below hbr (BX1_8.out.drew.below hbq BX1_8.out.drew.lt).lt)
      have A0_10 := Lib.hid ((A0_8.out.drew.below hbq).below hbr)
      have A1_10 := Lib.hid ((A1_8.out.drew.below hbq).below hbr)
      have O0_10 := Lib.hid (((O0_8.out.below (Below.refl _ _).drew).below hbq).below hbr)
      have T1_10 := Lib.hid ((T1_8.out.drew.below hbq).below hbr)
      have O1_10 := Lib.hid (((O1_8.out.below (Below.refl _ _).drew).below hbq).below hbr)
      have XB1_10 := Lib.hid ((XB1_8.out.drew.below hbq XB1_8.out.drew.lt).below hbr (XB1_8.out.drew.below hbq XB1_8.out.drew.lt).lt)
      clear hbq hbr hoq hDq y0 y1 z0 z1 u0 u1 v0 v1 p0 p1 q_0 q_1 HW_8 BX0_8 BX1_8 A0_8 A1_8 T0_8 O0_8 XB0_8 T1_8 O1_8 XB1_8
      obtain ⟨x0_0, x0_1, -⟩ := BX0_10.out.two
      obtain ⟨x1_0, x1_1, x1_2, x1_3, -⟩ := BX1_10.out.four
      obtain ⟨x2_0, x2_1, x2_2, x2_3, -⟩ := XB1_10.out.four
      go_wp2_with fail
      clear x0_0 x0_1 x1_0 x1_1 x1_2 x1_3 x2_0 x2_1 x2_2 x2_3
      obtain ⟨y0, y1, y2, y3, -⟩ := XB1_10.out.four
      obtain ⟨z0, z1, z2, z3, -⟩ := BX1_10.out.four
      go_region_held3 (fun w' => w'.cell? ⟨w7.heap.size, 0, none⟩ = some (.slice rsa7 x.v.length rsc7) ∧ w'.cell? ⟨w7.heap.size, 1, none⟩ = some (.slice rsb7 x.b.length rsd7) ∧ w'.cell? ⟨w7.heap.size, 2, none⟩ = some (.slice rsf7 x.i.length rsg7) ∧ w'.cell? ⟨w7.heap.size, 3, none⟩ = some (.slice rsp7 x.t.length rsq7) ∧ w'.cell? ⟨w.heap.size + 1, 0, none⟩ = some (.slice sa1 x.v.length sc1) ∧ w'.cell? ⟨w.heap.size + 1, 1, none⟩ = some (.slice sb1 x.b.length sd1) ∧ w'.cell? ⟨w.heap.size + 1, 2, none⟩ = some (.slice sf1 x.i.length sg1) ∧ w'.cell? ⟨w.heap.size + 1, 3, none⟩ = some (.slice sp1 x.t.length sq1)) (first | exact ⟨y0, y1, y2, y3, z0, z1, z2, z3⟩ | exact ⟨u0, u1, u2, u3, v0, v1, v2, v3⟩ | exact ⟨p0, p1, p2, p3, q_0, q_1, q_2, q_3⟩) ((first | (go_at_call 24; refine (copyX_ow _ S1 x sa1 sc1 sb1 sd1 sf1 sg1 sp1 sq1 A1_10.out.drew HL1.out).mono ?_; rintro e w11 ⟨rsa11, rsc11, rsb11, rsd11, rsf11, rsg11, rsp11, rsq11, D11, rfl, hoq, hDq, hbq⟩; obtain ⟨u0, u1, u2, u3, -⟩ := (XB1_10.out.drew.below hbq XB1_10.out.drew.lt).four; obtain ⟨v0, v1, v2, v3, -⟩ := (BX1_10.out.drew.below hbq BX1_10.out.drew.lt).four) | (go_at_call 18; go_must (refine (eqX_ow _ _ _ x rsa7 rsc7 rsb7 rsd7 rsf7 rsg7 rsp7 rsq7 rsa11 rsc11 rsb11 rsd11 rsf11 rsg11 rsp11 rsq11 (T1_10.out.drew.below hbq) (hoq.at HF1.out)).mono ?_; rintro e w12 ⟨rfl, hbr⟩; obtain ⟨p0, p1, p2, p3, -⟩ := ((XB1_10.out.drew.below hbq XB1_10.out.drew.lt).below hbr (XB1_10.out.drew.below hbq XB1_10.out.drew.lt).lt).four; obtain ⟨q_0, q_1, q_2, q_3, -⟩ := ((BX1_10.out.drew.below hbq BX1_10.out.drew.lt).below hbr (BX1_10.out.drew.below hbq BX1_10.out.drew.lt).lt).four))))
      have HW_12 := Lib.hid ((HW_10.out.drew.trans (hbq.mono HW_10.out.size)).trans (hbr.mono (Nat.le_trans HW_10.out.size hbq.size)))
      have BX0_12 := Lib.hid ((BX0_10.out.drew.below hbq BX0_10.out.drew.lt).below hbr (BX0_10.out.drew.below hbq BX0_10.out.drew.lt).lt)
      have BX1_12 := Lib.hid ((BX1_10.out.drew.below hbq BX1_10.out.drew.lt).below hbr (BX1_10.out.drew.below hbq BX1_10.out.drew.lt).lt)
      have A0_12 := Lib.hid ((A0_10.out.drew.below hbq).below hbr)
      have A1_12 := Lib.hid ((A1_10.out.drew.below hbq).below hbr)
      have O0_12 := Lib.hid (((O0_10.out.below (Below.refl _ _).drew).below hbq).below hbr)
      have O1_12 := Lib.hid (((O1_10.out.below (Below.refl _ _).drew).below hbq).below hbr)
      clear hbq hbr hoq hDq y0 y1 y2 y3 z0 z1 z2 z3 u0 u1 u2 u3 v0 v1 v2 v3 p0 p1 p2 p3 q_0 q_1 q_2 q_3 HW_10 BX0_10 BX1_10 A0_10 A1_10 O0_10 T1_10 O1_10 XB1_10
      obtain ⟨x0_0, x0_1, -⟩ := BX0_12.out.two
      obtain ⟨x1_0, x1_1, x1_2, x1_3, -⟩ := BX1_12.out.four
      go_wp2_with fail
      clear x0_0 x0_1 x1_0 x1_1 x1_2 x1_3
      go_ret
      exact ⟨rfl, HW_12.out⟩
    · have HZ := Lib.hid (show szN (x.n) q0 = -1 by unfold szN; rw [if_neg hz1])
      clear hz1
      clear hz0 hq0
      obtain ⟨x0_0, x0_1, -⟩ := BX0.out.two
      obtain ⟨x1_0, x1_1, x1_2, x1_3, -⟩ := BX1.out.four
      go_enter Try.func5, Try.ntmps5
      go_wp2_with fail
      clear x0_0 x0_1 x1_0 x1_1 x1_2 x1_3
      refine (szS_ow _ S0 s a0 c0 b0 d0 1048576 A0.out (by omega)).mono ?_
      rintro e w13 ⟨rfl, hb⟩
      rw [HZ0.out]
      have HW_13 := Lib.hid (HW.out.trans (hb.mono HW.out.size))
      have BX0_13 := Lib.hid (BX0.out.below hb BX0.out.lt)
      have BX1_13 := Lib.hid (BX1.out.below hb BX1.out.lt)
      have A0_13 := Lib.hid (A0.out.below hb)
      have A1_13 := Lib.hid (A1.out.below hb)
      clear hb HW BX0 BX1 A0 A1
      obtain ⟨x0_0, x0_1, -⟩ := BX0_13.out.two
      obtain ⟨x1_0, x1_1, x1_2, x1_3, -⟩ := BX1_13.out.four
      go_wp2_with fail
      clear x0_0 x0_1 x1_0 x1_1 x1_2 x1_3
      refine (szX_ow _ S1 x sa1 sc1 sb1 sd1 sf1 sg1 sp1 sq1 q0 A1_13.out (by omega)).mono ?_
      rintro e w14 ⟨rfl, hb⟩
      rw [HZ.out]
      have HW_14 := Lib.hid (HW_13.out.trans (hb.mono HW_13.out.size))
      have BX0_14 := Lib.hid (BX0_13.out.below hb BX0_13.out.lt)
      have BX1_14 := Lib.hid (BX1_13.out.below hb BX1_13.out.lt)
      have A0_14 := Lib.hid (A0_13.out.below hb)
      have A1_14 := Lib.hid (A1_13.out.below hb)
      clear hb HW_13 BX0_13 BX1_13 A0_13 A1_13
      go_wp2_with fail
      go_ret
      exact ⟨rfl, HW_14.out⟩
  · have HZ := Lib.hid (show szN (s.m.length + nodesL s.t) 1048576 = -1 by unfold szN; rw [if_neg hz0])
    clear hz0
    obtain ⟨x0_0, x0_1, -⟩ := BX0.out.two
    obtain ⟨x1_0, x1_1, x1_2, x1_3, -⟩ := BX1.out.four
    go_enter Try.func5, Try.ntmps5
    go_wp2_with fail
    clear x0_0 x0_1 x1_0 x1_1 x1_2 x1_3
    refine (szS_ow _ S0 s a0 c0 b0 d0 1048576 A0.out (by omega)).mono ?_
    rintro e w15 ⟨rfl, hb⟩
    rw [HZ.out]
    have HW_15 := Lib.hid (HW.out.trans (hb.mono HW.out.size))
    have BX0_15 := Lib.hid (BX0.out.below hb BX0.out.lt)
    have BX1_15 := Lib.hid (BX1.out.below hb BX1.out.lt)
    have A0_15 := Lib.hid (A0.out.below hb)
    have A1_15 := Lib.hid (A1.out.below hb)
    clear hb HW BX0 BX1 A0 A1
    go_wp2_with fail
    go_ret
    exact ⟨rfl, HW_15.out⟩
end Go.Proofs.Ytjakhiafkjaghaa
