/- the walk of laws.FnExactStateFits (written by wip/tools/gen_law.py) -/
import Derived.Test.YtjakhiafkjaghaaGreatAdS
import Derived.Test.YtjakhiafkjaghaaGreatStC
import Derived.Test.YtjakhiafkjaghaaGreatFitXI
import Derived.Test.YtjakhiafkjaghaaGreatFitXS
import Derived.WalkSpells
import Derived.Deep.RegionHeld3
namespace Go.Proofs.YtjakhiafkjaghaaGreat
open Go.RowKit

set_option maxRecDepth 100000 in
set_option maxHeartbeats 8000000 in
theorem walk_exactStateFits (s : Sh) (way : Int) (x : St) (w : World) (S00 : Nat → Prop) (a0 : Option Addr) (c0 : Nat) (b0 : Option Addr) (d0 : Nat) (S20 : Nat → Prop) (sa2 : Option Addr) (sc2 : Nat) (sb2 : Option Addr) (sd2 : Nat) (sf2 : Option Addr) (sg2 : Nat) (sp2 : Option Addr) (sq2 : Nat) (h00 : ShAt w S00 s a0 c0 b0 d0) (h20 : StAt w S20 x sa2 sc2 sb2 sd2 sf2 sg2 sp2 sq2) :
    Calls Tryz.prog 3 #[.agg #[.slice a0 s.m.length c0, .slice b0 s.t.length d0], .int .i64 way, .agg #[.slice sa2 x.v.length sc2, .slice sb2 x.b.length sd2, .slice sf2 x.i.length sg2, .slice sp2 x.t.length sq2]] w fun e w' => e = .returned (.bool true) ∧ Below w.heap.size w w' := by
  obtain ⟨S0, hSd0⟩ : ∃ S : Nat → Prop, S = fun b => S00 b ∧ b < w.heap.size := ⟨_, rfl⟩
  have hS0 : ∀ b, S0 b → b < w.heap.size := by rw [hSd0]; exact fun b h => h.2
  have h0 : ShAt w S0 s a0 c0 b0 d0 := by rw [hSd0]; exact h00.lim
  have HS0 := Lib.hid hS0
  obtain ⟨S2, hSd2⟩ : ∃ S : Nat → Prop, S = fun b => S20 b ∧ b < w.heap.size := ⟨_, rfl⟩
  have hS2 : ∀ b, S2 b → b < w.heap.size := by rw [hSd2]; exact fun b h => h.2
  have h2 : StAt w S2 x sa2 sc2 sb2 sd2 sf2 sg2 sp2 sq2 := by rw [hSd2]; exact h20.lim
  have HS2 := Lib.hid hS2
  have HF2 := Lib.hid (StAt.fine h2)
  have B0_0 := Lib.hid (Blk.new w 25 #[.slice a0 s.m.length c0, .slice b0 s.t.length d0])
  have B2_0 := Lib.hid (Blk.new ((w.alloc (.cells #[.slice a0 s.m.length c0, .slice b0 s.t.length d0] 25))) 29 #[.slice sa2 x.v.length sc2, .slice sb2 x.b.length sd2, .slice sf2 x.i.length sg2, .slice sp2 x.t.length sq2])
  have B0_1 := Lib.hid (B0_0.out.alloc (.cells #[.slice sa2 x.v.length sc2, .slice sb2 x.b.length sd2, .slice sf2 x.i.length sg2, .slice sp2 x.t.length sq2] 29))
  have HW := Lib.hid (show Below w.heap.size w ((w.alloc (.cells #[.slice a0 s.m.length c0, .slice b0 s.t.length d0] 25)).alloc (.cells #[.slice sa2 x.v.length sc2, .slice sb2 x.b.length sd2, .slice sf2 x.i.length sg2, .slice sp2 x.t.length sq2] 29)) from ((Below.refl _ _).alloc (by simp <;> omega) (.cells #[.slice a0 s.m.length c0, .slice b0 s.t.length d0] 25)).alloc (by simp <;> omega) (.cells #[.slice sa2 x.v.length sc2, .slice sb2 x.b.length sd2, .slice sf2 x.i.length sg2, .slice sp2 x.t.length sq2] 29))
  have A0 := Lib.hid ((h0.alloc (.cells #[.slice a0 s.m.length c0, .slice b0 s.t.length d0] 25)).alloc (.cells #[.slice sa2 x.v.length sc2, .slice sb2 x.b.length sd2, .slice sf2 x.i.length sg2, .slice sp2 x.t.length sq2] 29))
  have A2 := Lib.hid ((h2.alloc (.cells #[.slice a0 s.m.length c0, .slice b0 s.t.length d0] 25)).alloc (.cells #[.slice sa2 x.v.length sc2, .slice sb2 x.b.length sd2, .slice sf2 x.i.length sg2, .slice sp2 x.t.length sq2] 29))
  have BX0 := Lib.hid (show Blk ((w.alloc (.cells #[.slice a0 s.m.length c0, .slice b0 s.t.length d0] 25)).alloc (.cells #[.slice sa2 x.v.length sc2, .slice sb2 x.b.length sd2, .slice sf2 x.i.length sg2, .slice sp2 x.t.length sq2] 29)) (w.heap.size) 25 #[.slice a0 s.m.length c0, .slice b0 s.t.length d0] by have := B0_1.out; simpa using this)
  have BX2 := Lib.hid (show Blk ((w.alloc (.cells #[.slice a0 s.m.length c0, .slice b0 s.t.length d0] 25)).alloc (.cells #[.slice sa2 x.v.length sc2, .slice sb2 x.b.length sd2, .slice sf2 x.i.length sg2, .slice sp2 x.t.length sq2] 29)) (w.heap.size + 1) 29 #[.slice sa2 x.v.length sc2, .slice sb2 x.b.length sd2, .slice sf2 x.i.length sg2, .slice sp2 x.t.length sq2] by have := B2_0.out; simpa using this)
  clear hSd0 hS0 h00 hSd2 hS2 h20 B0_0 h0 h2 B0_1 B2_0
  by_cases hz0 : s.m.length + nodesL s.t ≤ 1048576
  · obtain ⟨q0, hq0⟩ : ∃ q : Nat, q = 1048576 - (s.m.length + nodesL s.t) := ⟨_, rfl⟩
    have HZ0 := Lib.hid (show szN (s.m.length + nodesL s.t) 1048576 = (q0 : Int) by unfold szN; rw [if_pos hz0, hq0]; omega)
    have hqb0 : q0 ≤ 1048576 := by omega
    have HL0 := Lib.hid (show s.m.length + nodesL s.t ≤ 1048576 by omega)
    by_cases hz2 : x.n ≤ q0
    · obtain ⟨q2, hq2⟩ : ∃ q : Nat, q = q0 - (x.n) := ⟨_, rfl⟩
      have HZ2 := Lib.hid (show szN (x.n) q0 = (q2 : Int) by unfold szN; rw [if_pos hz2, hq2]; omega)
      have hqb2 : q2 ≤ 1048576 := by omega
      have HL2 := Lib.hid (show x.n ≤ 1048576 by omega)
      obtain ⟨r, hr⟩ : ∃ r, r = stFits s x way := ⟨_, rfl⟩
      have HR := Lib.hid hr
      clear hr
      have HBE := Lib.hid (show (r != r) = false by simp)
      clear hz0 hq0 hz2 hq2
      obtain ⟨x0_0, x0_1, -⟩ := BX0.out.two
      obtain ⟨x1_0, x1_1, x1_2, x1_3, -⟩ := BX2.out.four
      go_enter Tryz.func3, Tryz.ntmps3
      go_wp2_with fail
      clear x0_0 x0_1 x1_0 x1_1 x1_2 x1_3
      refine (szS_ow _ S0 s a0 c0 b0 d0 1048576 A0.out (by omega)).mono ?_
      rintro e w1 ⟨rfl, hb⟩
      rw [HZ0.out]
      have HW_1 := Lib.hid (HW.out.trans (hb.mono HW.out.size))
      have BX0_1 := Lib.hid (BX0.out.below hb BX0.out.lt)
      have BX2_1 := Lib.hid (BX2.out.below hb BX2.out.lt)
      have A0_1 := Lib.hid (A0.out.below hb)
      have A2_1 := Lib.hid (A2.out.below hb)
      clear hb HZ0 HW BX0 BX2 A0 A2
      obtain ⟨x0_0, x0_1, -⟩ := BX0_1.out.two
      obtain ⟨x1_0, x1_1, x1_2, x1_3, -⟩ := BX2_1.out.four
      go_wp2_with fail
      clear x0_0 x0_1 x1_0 x1_1 x1_2 x1_3
      refine (szX_ow _ S2 x sa2 sc2 sb2 sd2 sf2 sg2 sp2 sq2 q0 A2_1.out (by omega)).mono ?_
      rintro e w2 ⟨rfl, hb⟩
      rw [HZ2.out]
      have HW_2 := Lib.hid (HW_1.out.trans (hb.mono HW_1.out.size))
      have BX0_2 := Lib.hid (BX0_1.out.below hb BX0_1.out.lt)
      have BX2_2 := Lib.hid (BX2_1.out.below hb BX2_1.out.lt)
      have A0_2 := Lib.hid (A0_1.out.below hb)
      have A2_2 := Lib.hid (A2_1.out.below hb)
      clear hb HZ2 HW_1 BX0_1 BX2_1 A0_1 A2_1
      obtain ⟨x0_0, x0_1, -⟩ := BX0_2.out.two
      obtain ⟨x1_0, x1_1, x1_2, x1_3, -⟩ := BX2_2.out.four
      go_wp2_with fail
      clear x0_0 x0_1 x1_0 x1_1 x1_2 x1_3
      obtain ⟨x0_0, x0_1, -⟩ := BX0_2.out.drew.two
      obtain ⟨x2_0, x2_1, x2_2, x2_3, -⟩ := BX2_2.out.drew.four
      go_wp2_with fail
      go_region_held3 (fun w' => w'.cell? ⟨w.heap.size, 0, none⟩ = some (.slice a0 s.m.length c0) ∧ w'.cell? ⟨w.heap.size, 1, none⟩ = some (.slice b0 s.t.length d0) ∧ w'.cell? ⟨w.heap.size + 1, 0, none⟩ = some (.slice sa2 x.v.length sc2) ∧ w'.cell? ⟨w.heap.size + 1, 1, none⟩ = some (.slice sb2 x.b.length sd2) ∧ w'.cell? ⟨w.heap.size + 1, 2, none⟩ = some (.slice sf2 x.i.length sg2) ∧ w'.cell? ⟨w.heap.size + 1, 3, none⟩ = some (.slice sp2 x.t.length sq2)) (first | exact ⟨x0_0, x0_1, x2_0, x2_1, x2_2, x2_3⟩ | exact ⟨v3_0_0, v3_0_1, v3_2_0, v3_2_1, v3_2_2, v3_2_3⟩ | exact ⟨v4_0_0, v4_0_1, v4_2_0, v4_2_1, v4_2_2, v4_2_3⟩ | exact ⟨v5_0_0, v5_0_1, v5_2_0, v5_2_1, v5_2_2, v5_2_3⟩ | go_keep) (first | (go_at_call 7; refine (copyS_ow _ S0 s a0 c0 b0 d0 (A0_2.out.drew) HL0.out).mono ?_; rintro e w3 ⟨ra3, rc3, rb3, rd3, D3, rfl, ho_3, hD_3, hb_3⟩; obtain ⟨v3_0_0, v3_0_1, -⟩ := ((BX0_2.out.drew).below hb_3 (BX0_2.out.lt)).two; obtain ⟨v3_2_0, v3_2_1, v3_2_2, v3_2_3, -⟩ := ((BX2_2.out.drew).below hb_3 (BX2_2.out.lt)).four) | (go_at_call 8; refine (copyX_ow _ S2 x sa2 sc2 sb2 sd2 sf2 sg2 sp2 sq2 ((A2_2.out.drew).below hb_3) HL2.out).mono ?_; rintro e w4 ⟨rsa4, rsc4, rsb4, rsd4, rsf4, rsg4, rsp4, rsq4, D4, rfl, ho_4, hD_4, hb_4⟩; obtain ⟨v4_0_0, v4_0_1, -⟩ := (((BX0_2.out.drew).below hb_3 (BX0_2.out.lt)).below hb_4 (Nat.lt_of_lt_of_le (BX0_2.out.lt) hb_3.size)).two; obtain ⟨v4_2_0, v4_2_1, v4_2_2, v4_2_3, -⟩ := (((BX2_2.out.drew).below hb_3 (BX2_2.out.lt)).below hb_4 (Nat.lt_of_lt_of_le (BX2_2.out.lt) hb_3.size)).four) | (go_at_call 6; refine (specStateFits_any s way x _ _ _ ra3 rc3 rb3 rd3 rsa4 rsc4 rsb4 rsd4 rsf4 rsg4 rsp4 rsq4 ((ho_3.at).below hb_4) (ho_4.at HF2.out) (Nat.le_trans (Nat.le_add_left _ _) HL0.out)).mono ?_; rintro e w5 ⟨rfl, hb_5⟩; rw [← HR.out]; obtain ⟨v5_0_0, v5_0_1, -⟩ := ((((BX0_2.out.drew).below hb_3 (BX0_2.out.lt)).below hb_4 (Nat.lt_of_lt_of_le (BX0_2.out.lt) hb_3.size)).below hb_5 (Nat.lt_of_lt_of_le (Nat.lt_of_lt_of_le (BX0_2.out.lt) hb_3.size) hb_4.size)).two; obtain ⟨v5_2_0, v5_2_1, v5_2_2, v5_2_3, -⟩ := ((((BX2_2.out.drew).below hb_3 (BX2_2.out.lt)).below hb_4 (Nat.lt_of_lt_of_le (BX2_2.out.lt) hb_3.size)).below hb_5 (Nat.lt_of_lt_of_le (Nat.lt_of_lt_of_le (BX2_2.out.lt) hb_3.size) hb_4.size)).four))
      have hb := (((Below.refl _ _).drew.trans hb_3).trans (hb_4.mono (hb_3.size))).trans (hb_5.mono (Nat.le_trans (hb_3.size) hb_4.size))
      clear hb_3 hb_4 hb_5 ho_3 hD_3 ho_4 hD_4 x0_0 x0_1 x2_0 x2_1 x2_2 x2_3 v3_0_0 v3_0_1 v3_2_0 v3_2_1 v3_2_2 v3_2_3 v4_0_0 v4_0_1 v4_2_0 v4_2_1 v4_2_2 v4_2_3 v5_0_0 v5_0_1 v5_2_0 v5_2_1 v5_2_2 v5_2_3
      have hsW : w.heap.size + 2 ≤ w5.heap.size := by have := hb.size; have := BX2_2.out.lt; omega
      have HW_5 := Lib.hid (HW_2.out.trans (hb.mono HW_2.out.size))
      have BX0_5 := Lib.hid (BX0_2.out.below hb BX0_2.out.lt)
      have BX2_5 := Lib.hid (BX2_2.out.below hb BX2_2.out.lt)
      have A0_5 := Lib.hid (A0_2.out.below hb)
      have A2_5 := Lib.hid (A2_2.out.below hb)
      clear hb HW_2 BX0_2 BX2_2 A0_2 A2_2
      obtain ⟨x0_0, x0_1, -⟩ := BX0_5.out.two
      obtain ⟨x1_0, x1_1, x1_2, x1_3, -⟩ := BX2_5.out.four
      go_wp2_with fail
      clear x0_0 x0_1 x1_0 x1_1 x1_2 x1_3
      refine (copyS_ow _ S0 s a0 c0 b0 d0 A0_5.out HL0.out).mono ?_
      rintro e w6 ⟨ra6, rc6, rb6, rd6, D6, rfl, ho, hD, hb⟩
      have hs6 := hb.size
      try simp only [World.size_alloc] at hD hs6
      have HW_6 := Lib.hid ((HW_5.out.trans (hb.mono HW_5.out.size)).alloc (Nat.le_trans HW_5.out.size hb.size) (.cells #[.slice ra6 s.m.length rc6, .slice rb6 s.t.length rd6] 35))
      have BX0_6 := Lib.hid ((BX0_5.out.below hb BX0_5.out.lt).alloc (.cells #[.slice ra6 s.m.length rc6, .slice rb6 s.t.length rd6] 35))
      have BX2_6 := Lib.hid ((BX2_5.out.below hb BX2_5.out.lt).alloc (.cells #[.slice ra6 s.m.length rc6, .slice rb6 s.t.length rd6] 35))
      have A0_6 := Lib.hid ((A0_5.out.below hb).alloc (.cells #[.slice ra6 s.m.length rc6, .slice rb6 s.t.length rd6] 35))
      have A2_6 := Lib.hid ((A2_5.out.below hb).alloc (.cells #[.slice ra6 s.m.length rc6, .slice rb6 s.t.length rd6] 35))
      have T0_6 := Lib.hid ((ho.at).alloc (.cells #[.slice ra6 s.m.length rc6, .slice rb6 s.t.length rd6] 35))
      have O0_6 := Lib.hid (ho.below ((Below.refl _ _).alloc (Nat.le_refl _) (.cells #[.slice ra6 s.m.length rc6, .slice rb6 s.t.length rd6] 35)))
      have HD0 := Lib.hid hD
      have XB0_6 := Lib.hid (Blk.new w6 35 #[.slice ra6 s.m.length rc6, .slice rb6 s.t.length rd6])
      clear hb ho hD HW_5 BX0_5 BX2_5 A0_5 A2_5
      obtain ⟨x0_0, x0_1, -⟩ := BX0_6.out.two
      obtain ⟨x1_0, x1_1, x1_2, x1_3, -⟩ := BX2_6.out.four
      obtain ⟨x2_0, x2_1, -⟩ := XB0_6.out.two
      go_wp2_with fail
      clear x0_0 x0_1 x1_0 x1_1 x1_2 x1_3 x2_0 x2_1
      refine (copyX_ow _ S2 x sa2 sc2 sb2 sd2 sf2 sg2 sp2 sq2 A2_6.out HL2.out).mono ?_
      rintro e w7 ⟨rsa7, rsc7, rsb7, rsd7, rsf7, rsg7, rsp7, rsq7, D7, rfl, ho, hD, hb⟩
      have hs7 := hb.size
      try simp only [World.size_alloc] at hD hs7
      have HW_7 := Lib.hid ((HW_6.out.trans (hb.mono HW_6.out.size)).alloc (Nat.le_trans HW_6.out.size hb.size) (.cells #[.slice rsa7 x.v.length rsc7, .slice rsb7 x.b.length rsd7, .slice rsf7 x.i.length rsg7, .slice rsp7 x.t.length rsq7] 39))
      have BX0_7 := Lib.hid ((BX0_6.out.below hb BX0_6.out.lt).alloc (.cells #[.slice rsa7 x.v.length rsc7, .slice rsb7 x.b.length rsd7, .slice rsf7 x.i.length rsg7, .slice rsp7 x.t.length rsq7] 39))
      have BX2_7 := Lib.hid ((BX2_6.out.below hb BX2_6.out.lt).alloc (.cells #[.slice rsa7 x.v.length rsc7, .slice rsb7 x.b.length rsd7, .slice rsf7 x.i.length rsg7, .slice rsp7 x.t.length rsq7] 39))
      have A0_7 := Lib.hid ((A0_6.out.below hb).alloc (.cells #[.slice rsa7 x.v.length rsc7, .slice rsb7 x.b.length rsd7, .slice rsf7 x.i.length rsg7, .slice rsp7 x.t.length rsq7] 39))
      have A2_7 := Lib.hid ((A2_6.out.below hb).alloc (.cells #[.slice rsa7 x.v.length rsc7, .slice rsb7 x.b.length rsd7, .slice rsf7 x.i.length rsg7, .slice rsp7 x.t.length rsq7] 39))
      have T0_7 := Lib.hid ((T0_6.out.below hb).alloc (.cells #[.slice rsa7 x.v.length rsc7, .slice rsb7 x.b.length rsd7, .slice rsf7 x.i.length rsg7, .slice rsp7 x.t.length rsq7] 39))
      have O0_7 := Lib.hid ((O0_6.out.below hb).below ((Below.refl _ _).alloc (Nat.le_refl _) (.cells #[.slice rsa7 x.v.length rsc7, .slice rsb7 x.b.length rsd7, .slice rsf7 x.i.length rsg7, .slice rsp7 x.t.length rsq7] 39)))
      have XB0_7 := Lib.hid ((XB0_6.out.below hb XB0_6.out.lt).alloc (.cells #[.slice rsa7 x.v.length rsc7, .slice rsb7 x.b.length rsd7, .slice rsf7 x.i.length rsg7, .slice rsp7 x.t.length rsq7] 39))
      have T2_7 := Lib.hid ((ho.at HF2.out).alloc (.cells #[.slice rsa7 x.v.length rsc7, .slice rsb7 x.b.length rsd7, .slice rsf7 x.i.length rsg7, .slice rsp7 x.t.length rsq7] 39))
      have O2_7 := Lib.hid (ho.below ((Below.refl _ _).alloc (Nat.le_refl _) (.cells #[.slice rsa7 x.v.length rsc7, .slice rsb7 x.b.length rsd7, .slice rsf7 x.i.length rsg7, .slice rsp7 x.t.length rsq7] 39)))
      have HD2 := Lib.hid hD
      have XB2_7 := Lib.hid (Blk.new w7 39 #[.slice rsa7 x.v.length rsc7, .slice rsb7 x.b.length rsd7, .slice rsf7 x.i.length rsg7, .slice rsp7 x.t.length rsq7])
      clear hb ho hD HW_6 BX0_6 BX2_6 A0_6 A2_6 T0_6 O0_6 XB0_6
      obtain ⟨x0_0, x0_1, -⟩ := BX0_7.out.two
      obtain ⟨x1_0, x1_1, x1_2, x1_3, -⟩ := BX2_7.out.four
      obtain ⟨x2_0, x2_1, -⟩ := XB0_7.out.two
      obtain ⟨x3_0, x3_1, x3_2, x3_3, -⟩ := XB2_7.out.four
      go_wp2_with fail
      clear x0_0 x0_1 x1_0 x1_1 x1_2 x1_3 x2_0 x2_1 x3_0 x3_1 x3_2 x3_3
      refine (implStateFits_any s way x _ _ _ ra6 rc6 rb6 rd6 rsa7 rsc7 rsb7 rsd7 rsf7 rsg7 rsp7 rsq7 T0_7.out T2_7.out).mono ?_
      rintro e w8 ⟨rfl, hb⟩
      rw [← HR.out]
      have HW_8 := Lib.hid (HW_7.out.trans (hb.mono HW_7.out.size))
      have BX0_8 := Lib.hid (BX0_7.out.below hb BX0_7.out.lt)
      have BX2_8 := Lib.hid (BX2_7.out.below hb BX2_7.out.lt)
      have A0_8 := Lib.hid (A0_7.out.below hb)
      have A2_8 := Lib.hid (A2_7.out.below hb)
      have T0_8 := Lib.hid (T0_7.out.below hb)
      have O0_8 := Lib.hid (O0_7.out.below hb)
      have XB0_8 := Lib.hid (XB0_7.out.below hb XB0_7.out.lt)
      have T2_8 := Lib.hid (T2_7.out.below hb)
      have O2_8 := Lib.hid (O2_7.out.below hb)
      have XB2_8 := Lib.hid (XB2_7.out.below hb XB2_7.out.lt)
      clear hb HW_7 BX0_7 BX2_7 A0_7 A2_7 T0_7 O0_7 XB0_7 T2_7 O2_7 XB2_7
      have hbe := HBE.out
      obtain ⟨x0_0, x0_1, -⟩ := BX0_8.out.two
      obtain ⟨x1_0, x1_1, x1_2, x1_3, -⟩ := BX2_8.out.four
      obtain ⟨x2_0, x2_1, -⟩ := XB0_8.out.two
      obtain ⟨x3_0, x3_1, x3_2, x3_3, -⟩ := XB2_8.out.four
      go_wp2_with fail
      clear x0_0 x0_1 x1_0 x1_1 x1_2 x1_3 x2_0 x2_1 x3_0 x3_1 x3_2 x3_3
      clear hbe
      obtain ⟨y0, y1, -⟩ := XB0_8.out.two
      obtain ⟨z0, z1, -⟩ := BX0_8.out.two
      go_region_held3 (fun w' => w'.cell? ⟨w6.heap.size, 0, none⟩ = some (.slice ra6 s.m.length rc6) ∧ w'.cell? ⟨w6.heap.size, 1, none⟩ = some (.slice rb6 s.t.length rd6) ∧ w'.cell? ⟨w.heap.size, 0, none⟩ = some (.slice a0 s.m.length c0) ∧ w'.cell? ⟨w.heap.size, 1, none⟩ = some (.slice b0 s.t.length d0)) (first | exact ⟨y0, y1, z0, z1⟩ | exact ⟨u0, u1, v0, v1⟩ | exact ⟨p0, p1, q_0, q_1⟩) ((first | (go_at_call 7; refine (copyS_ow _ S0 s a0 c0 b0 d0 A0_8.out.drew HL0.out).mono ?_; rintro e w9 ⟨ra9, rc9, rb9, rd9, D9, rfl, hoq, hDq, hbq⟩; obtain ⟨u0, u1, -⟩ := (XB0_8.out.drew.below hbq XB0_8.out.drew.lt).two; obtain ⟨v0, v1, -⟩ := (BX0_8.out.drew.below hbq BX0_8.out.drew.lt).two) | (go_at_call 10; go_must (refine (eqSheet_any _ _ _ s ra6 rc6 rb6 rd6 ra9 rc9 rb9 rd9 (T0_8.out.drew.below hbq) (hoq.at)).mono ?_; rintro e w10 ⟨rfl, hbr⟩; obtain ⟨p0, p1, -⟩ := ((XB0_8.out.drew.below hbq XB0_8.out.drew.lt).below hbr (XB0_8.out.drew.below hbq XB0_8.out.drew.lt).lt).two; obtain ⟨q_0, q_1, -⟩ := ((BX0_8.out.drew.below hbq BX0_8.out.drew.lt).below hbr (BX0_8.out.drew.below hbq BX0_8.out.drew.lt).lt).two))))
      have HW_10 := Lib.hid ((HW_8.out.drew.trans (hbq.mono HW_8.out.size)).trans (hbr.mono (Nat.le_trans HW_8.out.size hbq.size)))
      have BX0_10 := Lib.hid ((BX0_8.out.drew.below hbq BX0_8.out.drew.lt).below hbr (BX0_8.out.drew.below hbq BX0_8.out.drew.lt).lt)
      have BX2_10 := Lib.hid ((BX2_8.out.drew.below hbq BX2_8.out.drew.lt).below hbr (BX2_8.out.drew.below hbq BX2_8.out.drew.lt).lt)
      have A0_10 := Lib.hid ((A0_8.out.drew.below hbq).below hbr)
      have A2_10 := Lib.hid ((A2_8.out.drew.below hbq).below hbr)
      have O0_10 := Lib.hid (((O0_8.out.below (Below.refl _ _).drew).below hbq).below hbr)
      have T2_10 := Lib.hid ((T2_8.out.drew.below hbq).below hbr)
      have O2_10 := Lib.hid (((O2_8.out.below (Below.refl _ _).drew).below hbq).below hbr)
      have XB2_10 := Lib.hid ((XB2_8.out.drew.below hbq XB2_8.out.drew.lt).below hbr (XB2_8.out.drew.below hbq XB2_8.out.drew.lt).lt)
      clear hbq hbr hoq hDq y0 y1 z0 z1 u0 u1 v0 v1 p0 p1 q_0 q_1 HW_8 BX0_8 BX2_8 A0_8 A2_8 T0_8 O0_8 XB0_8 T2_8 O2_8 XB2_8
      obtain ⟨x0_0, x0_1, -⟩ := BX0_10.out.two
      obtain ⟨x1_0, x1_1, x1_2, x1_3, -⟩ := BX2_10.out.four
      obtain ⟨x2_0, x2_1, x2_2, x2_3, -⟩ := XB2_10.out.four
      go_wp2_with fail
      clear x0_0 x0_1 x1_0 x1_1 x1_2 x1_3 x2_0 x2_1 x2_2 x2_3
      obtain ⟨y0, y1, y2, y3, -⟩ := XB2_10.out.four
      obtain ⟨z0, z1, z2, z3, -⟩ := BX2_10.out.four
      go_region_held3 (fun w' => w'.cell? ⟨w7.heap.size, 0, none⟩ = some (.slice rsa7 x.v.length rsc7) ∧ w'.cell? ⟨w7.heap.size, 1, none⟩ = some (.slice rsb7 x.b.length rsd7) ∧ w'.cell? ⟨w7.heap.size, 2, none⟩ = some (.slice rsf7 x.i.length rsg7) ∧ w'.cell? ⟨w7.heap.size, 3, none⟩ = some (.slice rsp7 x.t.length rsq7) ∧ w'.cell? ⟨w.heap.size + 1, 0, none⟩ = some (.slice sa2 x.v.length sc2) ∧ w'.cell? ⟨w.heap.size + 1, 1, none⟩ = some (.slice sb2 x.b.length sd2) ∧ w'.cell? ⟨w.heap.size + 1, 2, none⟩ = some (.slice sf2 x.i.length sg2) ∧ w'.cell? ⟨w.heap.size + 1, 3, none⟩ = some (.slice sp2 x.t.length sq2)) (first | exact ⟨y0, y1, y2, y3, z0, z1, z2, z3⟩ | exact ⟨u0, u1, u2, u3, v0, v1, v2, v3⟩ | exact ⟨p0, p1, p2, p3, q_0, q_1, q_2, q_3⟩) ((first | (go_at_call 8; refine (copyX_ow _ S2 x sa2 sc2 sb2 sd2 sf2 sg2 sp2 sq2 A2_10.out.drew HL2.out).mono ?_; rintro e w11 ⟨rsa11, rsc11, rsb11, rsd11, rsf11, rsg11, rsp11, rsq11, D11, rfl, hoq, hDq, hbq⟩; obtain ⟨u0, u1, u2, u3, -⟩ := (XB2_10.out.drew.below hbq XB2_10.out.drew.lt).four; obtain ⟨v0, v1, v2, v3, -⟩ := (BX2_10.out.drew.below hbq BX2_10.out.drew.lt).four) | (go_at_call 11; go_must (refine (eqX_ow _ _ _ x rsa7 rsc7 rsb7 rsd7 rsf7 rsg7 rsp7 rsq7 rsa11 rsc11 rsb11 rsd11 rsf11 rsg11 rsp11 rsq11 (T2_10.out.drew.below hbq) (hoq.at HF2.out)).mono ?_; rintro e w12 ⟨rfl, hbr⟩; obtain ⟨p0, p1, p2, p3, -⟩ := ((XB2_10.out.drew.below hbq XB2_10.out.drew.lt).below hbr (XB2_10.out.drew.below hbq XB2_10.out.drew.lt).lt).four; obtain ⟨q_0, q_1, q_2, q_3, -⟩ := ((BX2_10.out.drew.below hbq BX2_10.out.drew.lt).below hbr (BX2_10.out.drew.below hbq BX2_10.out.drew.lt).lt).four))))
      have HW_12 := Lib.hid ((HW_10.out.drew.trans (hbq.mono HW_10.out.size)).trans (hbr.mono (Nat.le_trans HW_10.out.size hbq.size)))
      have BX0_12 := Lib.hid ((BX0_10.out.drew.below hbq BX0_10.out.drew.lt).below hbr (BX0_10.out.drew.below hbq BX0_10.out.drew.lt).lt)
      have BX2_12 := Lib.hid ((BX2_10.out.drew.below hbq BX2_10.out.drew.lt).below hbr (BX2_10.out.drew.below hbq BX2_10.out.drew.lt).lt)
      have A0_12 := Lib.hid ((A0_10.out.drew.below hbq).below hbr)
      have A2_12 := Lib.hid ((A2_10.out.drew.below hbq).below hbr)
      have O0_12 := Lib.hid (((O0_10.out.below (Below.refl _ _).drew).below hbq).below hbr)
      have O2_12 := Lib.hid (((O2_10.out.below (Below.refl _ _).drew).below hbq).below hbr)
      clear hbq hbr hoq hDq y0 y1 y2 y3 z0 z1 z2 z3 u0 u1 u2 u3 v0 v1 v2 v3 p0 p1 p2 p3 q_0 q_1 q_2 q_3 HW_10 BX0_10 BX2_10 A0_10 A2_10 O0_10 T2_10 O2_10 XB2_10
      obtain ⟨x0_0, x0_1, -⟩ := BX0_12.out.two
      obtain ⟨x1_0, x1_1, x1_2, x1_3, -⟩ := BX2_12.out.four
      go_wp2_with fail
      clear x0_0 x0_1 x1_0 x1_1 x1_2 x1_3
      go_ret
      exact ⟨rfl, HW_12.out⟩
    · have HZ := Lib.hid (show szN (x.n) q0 = -1 by unfold szN; rw [if_neg hz2])
      clear hz2
      clear hz0 hq0
      obtain ⟨x0_0, x0_1, -⟩ := BX0.out.two
      obtain ⟨x1_0, x1_1, x1_2, x1_3, -⟩ := BX2.out.four
      go_enter Tryz.func3, Tryz.ntmps3
      go_wp2_with fail
      clear x0_0 x0_1 x1_0 x1_1 x1_2 x1_3
      refine (szS_ow _ S0 s a0 c0 b0 d0 1048576 A0.out (by omega)).mono ?_
      rintro e w13 ⟨rfl, hb⟩
      rw [HZ0.out]
      have HW_13 := Lib.hid (HW.out.trans (hb.mono HW.out.size))
      have BX0_13 := Lib.hid (BX0.out.below hb BX0.out.lt)
      have BX2_13 := Lib.hid (BX2.out.below hb BX2.out.lt)
      have A0_13 := Lib.hid (A0.out.below hb)
      have A2_13 := Lib.hid (A2.out.below hb)
      clear hb HW BX0 BX2 A0 A2
      obtain ⟨x0_0, x0_1, -⟩ := BX0_13.out.two
      obtain ⟨x1_0, x1_1, x1_2, x1_3, -⟩ := BX2_13.out.four
      go_wp2_with fail
      clear x0_0 x0_1 x1_0 x1_1 x1_2 x1_3
      refine (szX_ow _ S2 x sa2 sc2 sb2 sd2 sf2 sg2 sp2 sq2 q0 A2_13.out (by omega)).mono ?_
      rintro e w14 ⟨rfl, hb⟩
      rw [HZ.out]
      have HW_14 := Lib.hid (HW_13.out.trans (hb.mono HW_13.out.size))
      have BX0_14 := Lib.hid (BX0_13.out.below hb BX0_13.out.lt)
      have BX2_14 := Lib.hid (BX2_13.out.below hb BX2_13.out.lt)
      have A0_14 := Lib.hid (A0_13.out.below hb)
      have A2_14 := Lib.hid (A2_13.out.below hb)
      clear hb HW_13 BX0_13 BX2_13 A0_13 A2_13
      go_wp2_with fail
      go_ret
      exact ⟨rfl, HW_14.out⟩
  · have HZ := Lib.hid (show szN (s.m.length + nodesL s.t) 1048576 = -1 by unfold szN; rw [if_neg hz0])
    clear hz0
    obtain ⟨x0_0, x0_1, -⟩ := BX0.out.two
    obtain ⟨x1_0, x1_1, x1_2, x1_3, -⟩ := BX2.out.four
    go_enter Tryz.func3, Tryz.ntmps3
    go_wp2_with fail
    clear x0_0 x0_1 x1_0 x1_1 x1_2 x1_3
    refine (szS_ow _ S0 s a0 c0 b0 d0 1048576 A0.out (by omega)).mono ?_
    rintro e w15 ⟨rfl, hb⟩
    rw [HZ.out]
    have HW_15 := Lib.hid (HW.out.trans (hb.mono HW.out.size))
    have BX0_15 := Lib.hid (BX0.out.below hb BX0.out.lt)
    have BX2_15 := Lib.hid (BX2.out.below hb BX2.out.lt)
    have A0_15 := Lib.hid (A0.out.below hb)
    have A2_15 := Lib.hid (A2.out.below hb)
    clear hb HW BX0 BX2 A0 A2
    go_wp2_with fail
    go_ret
    exact ⟨rfl, HW_15.out⟩
end Go.Proofs.YtjakhiafkjaghaaGreat
