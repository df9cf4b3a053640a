/- the walk of laws.FnExactOrderTopo (written by wip/tools/gen_law.py) -/
import Derived.Test.YtochgmbeomfkpaaAdS
import Derived.Test.YtochgmbeomfkpaaBs2
import Derived.Test.YtochgmbeomfkpaaTopJ
import Derived.Test.YtochgmbeomfkpaaTopS
import Derived.WalkSpells
import Derived.Deep.RegionHeld3
namespace Go.Proofs.Ytochgmbeomfkpaa
open Go.RowKit

set_option maxRecDepth 100000 in
set_option maxHeartbeats 8000000 in
theorem walk_exactOrderTopo (s : Sh) (l : List Int) (w : World) (S00 : Nat → Prop) (a0 : Option Addr) (c0 : Nat) (b0 : Option Addr) (d0 : Nat) (S10 : Nat → Prop) (a1 : Option Addr) (c1 : Nat) (h00 : ShAt w S00 s a0 c0 b0 d0) (h10 : IntsAt w S10 l a1 c1) :
    Calls Try.prog 3 #[.agg #[.slice a0 s.m.length c0, .slice b0 s.t.length d0], .slice a1 l.length c1] w fun e w' => e = .returned (.bool true) ∧ Below w.heap.size w w' := by
  obtain ⟨S0, hSd0⟩ : ∃ S : Nat → Prop, S = fun b => S00 b ∧ b < w.heap.size := ⟨_, rfl⟩
  have hS0 : ∀ b, S0 b → b < w.heap.size := by rw [hSd0]; exact fun b h => h.2
  have h0 : ShAt w S0 s a0 c0 b0 d0 := by rw [hSd0]; exact h00.lim
  have HS0 := Lib.hid hS0
  obtain ⟨S1, hSd1⟩ : ∃ S : Nat → Prop, S = fun b => S10 b ∧ b < w.heap.size := ⟨_, rfl⟩
  have hS1 : ∀ b, S1 b → b < w.heap.size := by rw [hSd1]; exact fun b h => h.2
  have h1 : IntsAt w S1 l a1 c1 := by rw [hSd1]; exact h10.lim
  have HS1 := Lib.hid hS1
  have hlm1 : l.length ≤ 9223372036854775807 := by have := h1.1; have := h1.2.1; omega
  have HF1 := Lib.hid (h1.2.2.1)
  have B0_0 := Lib.hid (Blk.new w 25 #[.slice a0 s.m.length c0, .slice b0 s.t.length d0])
  have HW := Lib.hid (show Below w.heap.size w (w.alloc (.cells #[.slice a0 s.m.length c0, .slice b0 s.t.length d0] 25)) from (Below.refl _ _).alloc (by simp <;> omega) (.cells #[.slice a0 s.m.length c0, .slice b0 s.t.length d0] 25))
  have A0 := Lib.hid (h0.alloc (.cells #[.slice a0 s.m.length c0, .slice b0 s.t.length d0] 25))
  have A1 := Lib.hid (h1.alloc (.cells #[.slice a0 s.m.length c0, .slice b0 s.t.length d0] 25))
  have BX0 := Lib.hid (show Blk (w.alloc (.cells #[.slice a0 s.m.length c0, .slice b0 s.t.length d0] 25)) (w.heap.size) 25 #[.slice a0 s.m.length c0, .slice b0 s.t.length d0] by have := B0_0.out; simpa using this)
  clear hSd0 hS0 h00 hSd1 hS1 h10 h0 h1 B0_0
  by_cases hbig1 : 1048576 < l.length
  · go_enter Try.func3, Try.ntmps3
    go_wp2_with fail
    go_ret
    exact ⟨rfl, HW.out⟩
  have hn1 : l.length ≤ 1048576 := by omega
  by_cases hz0 : s.m.length + nodesL s.t ≤ 1048576
  · obtain ⟨q0, hq0⟩ : ∃ q : Nat, q = 1048576 - (s.m.length + nodesL s.t) := ⟨_, rfl⟩
    have HZ0 := Lib.hid (show szN (s.m.length + nodesL s.t) 1048576 = (q0 : Int) by unfold szN; rw [if_pos hz0, hq0]; omega)
    have hqb0 : q0 ≤ 1048576 := by omega
    have HL0 := Lib.hid (show s.m.length + nodesL s.t ≤ 1048576 by omega)
    obtain ⟨r, hr⟩ : ∃ r, r = tpL s l := ⟨_, rfl⟩
    obtain ⟨b, hbb⟩ : ∃ b, b = tpB s l := ⟨_, rfl⟩
    have HFR := Lib.hid (show ∀ v ∈ r, i64ok v by rw [hr]; exact fun v hv => by have := (tpL_bd s l).1 v hv; unfold i64ok; omega)
    have hrn : r.length ≤ 160 := by rw [hr]; exact (tpL_bd s l).2
    have HSP := Lib.hid (show ∀ w e w', OrP (tpB s l) (tpL s l) w e w' → Below w.heap.size w w' ∧ ∃ a c S, e = .returned (.tuple #[.slice a r.length c, .bool b]) ∧ IntsAt w' S r a c by rw [← hr, ← hbb]; exact fun w e w' ⟨hb, v, he, hv⟩ => by obtain ⟨a, c, hv, hi⟩ := hv.at HFR.out; exact ⟨hb, a, c, _, by rw [he, hv], hi⟩)
    have HIP := Lib.hid (show ∀ w e w', OrP (tpB s l) (tpL s l) w e w' → Below w.heap.size w w' ∧ ∃ a c D, e = .returned (.tuple #[.slice a r.length c, .bool b]) ∧ IntsOw w' D r a c ∧ ∀ z, D z → w.heap.size ≤ z ∧ z < w'.heap.size by rw [← hr, ← hbb]; exact fun w e w' ⟨hb, v, he, hv⟩ => by obtain ⟨a, c, D, hv, hi, hD⟩ := hv.ow; exact ⟨hb, a, c, D, by rw [he, hv], hi, hD⟩)
    clear hr hbb
    obtain ⟨k0, hk0⟩ : ∃ k : Nat, k = 1 + (s.m.length + 2 * nodesL s.t) := ⟨_, rfl⟩
    have HK0 := Lib.hid hk0
    obtain ⟨k1, hk1⟩ : ∃ k : Nat, k = k0 + l.length := ⟨_, rfl⟩
    have HK1 := Lib.hid hk1
    have hkb0 : k0 ≤ 20000000 := by have := HL0.out; omega
    have hkb1 : k1 ≤ 20000000 := by have := HL0.out; omega
    clear hk0 hk1
    obtain ⟨n, hn⟩ : ∃ n : Nat, n = 1 + r.length := ⟨_, rfl⟩
    have HNN := Lib.hid hn
    have hnb : n ≤ 1000000 := by  omega
    have HNE := Lib.hid (show ((n : Int) != (n : Int)) = false by simp)
    clear hn
    have HBE := Lib.hid (show (b != b) = false by simp)
    clear hz0 hq0
    obtain ⟨x0_0, x0_1, -⟩ := BX0.out.two
    go_enter Try.func3, Try.ntmps3
    go_wp2_with fail
    clear x0_0 x0_1
    refine (szS_ow _ S0 s a0 c0 b0 d0 1048576 A0.out (by omega)).mono ?_
    rintro e w1 ⟨rfl, hb⟩
    rw [HZ0.out]
    have HW_1 := Lib.hid (HW.out.trans (hb.mono HW.out.size))
    have BX0_1 := Lib.hid (BX0.out.below hb BX0.out.lt)
    have A0_1 := Lib.hid (A0.out.below hb)
    have A1_1 := Lib.hid (A1.out.below hb)
    clear hb HZ0 HW BX0 A0 A1
    obtain ⟨x0_0, x0_1, -⟩ := BX0_1.out.two
    go_wp2_with fail
    clear x0_0 x0_1
    refine (copyS_ow _ S0 s a0 c0 b0 d0 A0_1.out HL0.out).mono ?_
    rintro e w2 ⟨ra2, rc2, rb2, rd2, D2, rfl, ho, hD, hb⟩
    have HW_2 := Lib.hid (HW_1.out.trans (hb.mono HW_1.out.size))
    have BX0_2 := Lib.hid (BX0_1.out.below hb BX0_1.out.lt)
    have A0_2 := Lib.hid (A0_1.out.below hb)
    have A1_2 := Lib.hid (A1_1.out.below hb)
    have C0_2 := Lib.hid (ho.at)
    clear hb ho hD HW_1 BX0_1 A0_1 A1_1
    obtain ⟨x0_0, x0_1, -⟩ := BX0_2.out.two
    go_wp2_with fail
    clear x0_0 x0_1
    refine (copyI_ow _ S1 l a1 c1 A1_2.out hn1).mono ?_
    rintro e w3 ⟨ra3, rc3, D3, rfl, ho, hD, hb⟩
    have HW_3 := Lib.hid (HW_2.out.trans (hb.mono HW_2.out.size))
    have BX0_3 := Lib.hid (BX0_2.out.below hb BX0_2.out.lt)
    have A0_3 := Lib.hid (A0_2.out.below hb)
    have A1_3 := Lib.hid (A1_2.out.below hb)
    have C0_3 := Lib.hid (C0_2.out.below hb)
    have C1_3 := Lib.hid (ho.at HF1.out)
    clear hb ho hD HW_2 BX0_2 A0_2 A1_2 C0_2
    obtain ⟨x0_0, x0_1, -⟩ := BX0_3.out.two
    go_wp2_with fail
    clear x0_0 x0_1
    refine (specTopo_any s l _ _ _ ra2 rc2 rb2 rd2 ra3 rc3 C0_3.out (Nat.le_trans (Nat.le_add_left _ _) HL0.out) C1_3.out hn1).mono ?_
    intro e w4 hp
    obtain ⟨hb, ra4, rc4, SW, rfl, hat⟩ := HSP.out _ _ _ hp
    clear hp
    have hsW : w.heap.size + 1 ≤ w4.heap.size := by have := hb.size; have := BX0_3.out.lt; omega
    have HW_4 := Lib.hid (HW_3.out.trans (hb.mono HW_3.out.size))
    have BX0_4 := Lib.hid (BX0_3.out.below hb BX0_3.out.lt)
    have A0_4 := Lib.hid (A0_3.out.below hb)
    have A1_4 := Lib.hid (A1_3.out.below hb)
    have WR_4 := Lib.hid (hat.lim.weaken (S' := fun b => b < w4.heap.size) (fun _ h => h.2))
    clear hb hat HW_3 BX0_3 A0_3 A1_3 C0_3 C1_3
    obtain ⟨x0_0, x0_1, -⟩ := BX0_4.out.two
    go_wp2_with fail
    clear x0_0 x0_1
    refine (copyS_ow _ S0 s a0 c0 b0 d0 A0_4.out HL0.out).mono ?_
    rintro e w5 ⟨ra5, rc5, rb5, rd5, D5, rfl, ho, hD, hb⟩
    have hs5 := hb.size
    try simp only [World.size_alloc] at hD hs5
    have HW_5 := Lib.hid ((HW_4.out.trans (hb.mono HW_4.out.size)).alloc (Nat.le_trans HW_4.out.size hb.size) (.cells #[.slice ra5 s.m.length rc5, .slice rb5 s.t.length rd5] 32))
    have BX0_5 := Lib.hid ((BX0_4.out.below hb BX0_4.out.lt).alloc (.cells #[.slice ra5 s.m.length rc5, .slice rb5 s.t.length rd5] 32))
    have A0_5 := Lib.hid ((A0_4.out.below hb).alloc (.cells #[.slice ra5 s.m.length rc5, .slice rb5 s.t.length rd5] 32))
    have A1_5 := Lib.hid ((A1_4.out.below hb).alloc (.cells #[.slice ra5 s.m.length rc5, .slice rb5 s.t.length rd5] 32))
    have WR_5 := Lib.hid ((WR_4.out.below hb).alloc (.cells #[.slice ra5 s.m.length rc5, .slice rb5 s.t.length rd5] 32))
    have T0_5 := Lib.hid ((ho.at).alloc (.cells #[.slice ra5 s.m.length rc5, .slice rb5 s.t.length rd5] 32))
    have O0_5 := Lib.hid (ho.below ((Below.refl _ _).alloc (Nat.le_refl _) (.cells #[.slice ra5 s.m.length rc5, .slice rb5 s.t.length rd5] 32)))
    have HD0 := Lib.hid hD
    have XB0_5 := Lib.hid (Blk.new w5 32 #[.slice ra5 s.m.length rc5, .slice rb5 s.t.length rd5])
    clear hb ho hD HW_4 BX0_4 A0_4 A1_4 WR_4
    obtain ⟨x0_0, x0_1, -⟩ := BX0_5.out.two
    obtain ⟨x1_0, x1_1, -⟩ := XB0_5.out.two
    go_wp2_with fail
    clear x0_0 x0_1 x1_0 x1_1
    refine (copyI_ow _ S1 l a1 c1 A1_5.out hn1).mono ?_
    rintro e w6 ⟨ra6, rc6, D6, rfl, ho, hD, hb⟩
    have hs6 := hb.size
    try simp only [World.size_alloc] at hD hs6
    have HW_6 := Lib.hid (HW_5.out.trans (hb.mono HW_5.out.size))
    have BX0_6 := Lib.hid (BX0_5.out.below hb BX0_5.out.lt)
    have A0_6 := Lib.hid (A0_5.out.below hb)
    have A1_6 := Lib.hid (A1_5.out.below hb)
    have WR_6 := Lib.hid (WR_5.out.below hb)
    have T0_6 := Lib.hid (T0_5.out.below hb)
    have O0_6 := Lib.hid (O0_5.out.below hb)
    have XB0_6 := Lib.hid (XB0_5.out.below hb XB0_5.out.lt)
    have T1_6 := Lib.hid (ho.at HF1.out)
    have O1_6 := Lib.hid (ho)
    have HD1 := Lib.hid hD
    clear hb ho hD HW_5 BX0_5 A0_5 A1_5 WR_5 T0_5 O0_5 XB0_5
    obtain ⟨x0_0, x0_1, -⟩ := BX0_6.out.two
    obtain ⟨x1_0, x1_1, -⟩ := XB0_6.out.two
    go_wp2_with fail
    clear x0_0 x0_1 x1_0 x1_1
    refine (implTopo_any s l _ _ _ ra5 rc5 rb5 rd5 ra6 rc6 T0_6.out T1_6.out).mono ?_
    intro e w7 hp
    obtain ⟨hb, ra7, rc7, DG, rfl, hg, hDG⟩ := HIP.out _ _ _ hp
    clear hp
    have hs7 := hb.size
    try simp only [World.size_alloc] at hDG hs7
    have HW_7 := Lib.hid (HW_6.out.trans (hb.mono HW_6.out.size))
    have BX0_7 := Lib.hid (BX0_6.out.below hb BX0_6.out.lt)
    have A0_7 := Lib.hid (A0_6.out.below hb)
    have A1_7 := Lib.hid (A1_6.out.below hb)
    have WR_7 := Lib.hid (WR_6.out.below hb)
    have T0_7 := Lib.hid (T0_6.out.below hb)
    have O0_7 := Lib.hid (O0_6.out.below hb)
    have XB0_7 := Lib.hid (XB0_6.out.below hb XB0_6.out.lt)
    have T1_7 := Lib.hid (T1_6.out.below hb)
    have O1_7 := Lib.hid (O1_6.out.below hb)
    have G_7 := Lib.hid (hg)
    have HDG := Lib.hid hDG
    clear hb hg hDG HW_6 BX0_6 A0_6 A1_6 WR_6 T0_6 O0_6 XB0_6 T1_6 O1_6
    obtain ⟨x0_0, x0_1, -⟩ := BX0_7.out.two
    obtain ⟨x1_0, x1_1, -⟩ := XB0_7.out.two
    go_wp2_with fail
    clear x0_0 x0_1 x1_0 x1_1
    refine (eqInts_any _ _ _ r ra7 ra4 rc7 rc4 (G_7.out.at HFR.out) WR_7.out).mono ?_
    rintro e w8 ⟨rfl, hb⟩
    have HW_8 := Lib.hid (HW_7.out.trans (hb.mono HW_7.out.size))
    have BX0_8 := Lib.hid (BX0_7.out.below hb BX0_7.out.lt)
    have A0_8 := Lib.hid (A0_7.out.below hb)
    have A1_8 := Lib.hid (A1_7.out.below hb)
    have WR_8 := Lib.hid (WR_7.out.below hb)
    have T0_8 := Lib.hid (T0_7.out.below hb)
    have O0_8 := Lib.hid (O0_7.out.below hb)
    have XB0_8 := Lib.hid (XB0_7.out.below hb XB0_7.out.lt)
    have T1_8 := Lib.hid (T1_7.out.below hb)
    have O1_8 := Lib.hid (O1_7.out.below hb)
    have G_8 := Lib.hid (G_7.out.below hb)
    clear hb HW_7 BX0_7 A0_7 A1_7 WR_7 T0_7 O0_7 XB0_7 T1_7 O1_7 G_7
    have hbe := HBE.out
    obtain ⟨x0_0, x0_1, -⟩ := BX0_8.out.two
    obtain ⟨x1_0, x1_1, -⟩ := XB0_8.out.two
    go_wp2_with fail
    clear x0_0 x0_1 x1_0 x1_1
    clear hbe
    obtain ⟨y0, y1, -⟩ := XB0_8.out.two
    obtain ⟨z0, z1, -⟩ := BX0_8.out.two
    go_region_held3 (fun w' => w'.cell? ⟨w5.heap.size, 0, none⟩ = some (.slice ra5 s.m.length rc5) ∧ w'.cell? ⟨w5.heap.size, 1, none⟩ = some (.slice rb5 s.t.length rd5) ∧ w'.cell? ⟨w.heap.size, 0, none⟩ = some (.slice a0 s.m.length c0) ∧ w'.cell? ⟨w.heap.size, 1, none⟩ = some (.slice b0 s.t.length d0)) (first | exact ⟨y0, y1, z0, z1⟩ | exact ⟨u0, u1, v0, v1⟩ | exact ⟨p0, p1, q_0, q_1⟩) ((first | (go_at_call 8; refine (copyS_ow _ S0 s a0 c0 b0 d0 A0_8.out.drew HL0.out).mono ?_; rintro e w9 ⟨ra9, rc9, rb9, rd9, D9, rfl, hoq, hDq, hbq⟩; obtain ⟨u0, u1, -⟩ := (XB0_8.out.drew.below hbq XB0_8.out.drew.lt).two; obtain ⟨v0, v1, -⟩ := (BX0_8.out.drew.below hbq BX0_8.out.drew.lt).two) | (go_at_call 12; go_must (refine (eqSheet_any _ _ _ s ra5 rc5 rb5 rd5 ra9 rc9 rb9 rd9 (T0_8.out.drew.below hbq) (hoq.at)).mono ?_; rintro e w10 ⟨rfl, hbr⟩; obtain ⟨p0, p1, -⟩ := ((XB0_8.out.drew.below hbq XB0_8.out.drew.lt).below hbr (XB0_8.out.drew.below hbq XB0_8.out.drew.lt).lt).two; obtain ⟨q_0, q_1, -⟩ := ((BX0_8.out.drew.below hbq BX0_8.out.drew.lt).below hbr (BX0_8.out.drew.below hbq BX0_8.out.drew.lt).lt).two))))
    have HW_10 := Lib.hid ((HW_8.out.drew.trans (hbq.mono HW_8.out.size)).trans (hbr.mono (Nat.le_trans HW_8.out.size hbq.size)))
    have BX0_10 := Lib.hid ((BX0_8.out.drew.below hbq BX0_8.out.drew.lt).below hbr (BX0_8.out.drew.below hbq BX0_8.out.drew.lt).lt)
    have A0_10 := Lib.hid ((A0_8.out.drew.below hbq).below hbr)
    have A1_10 := Lib.hid ((A1_8.out.drew.below hbq).below hbr)
    have WR_10 := Lib.hid ((WR_8.out.drew.below hbq).below hbr)
    have O0_10 := Lib.hid (((O0_8.out.below (Below.refl _ _).drew).below hbq).below hbr)
    have XB0_10 := Lib.hid ((XB0_8.out.drew.below hbq XB0_8.out.drew.lt).below hbr (XB0_8.out.drew.below hbq XB0_8.out.drew.lt).lt)
    have T1_10 := Lib.hid ((T1_8.out.drew.below hbq).below hbr)
    have O1_10 := Lib.hid (((O1_8.out.below (Below.refl _ _).drew).below hbq).below hbr)
    have G_10 := Lib.hid (((G_8.out.below (Below.refl _ _).drew).below hbq).below hbr)
    clear hbq hbr hoq hDq y0 y1 z0 z1 u0 u1 v0 v1 p0 p1 q_0 q_1 HW_8 BX0_8 A0_8 A1_8 WR_8 T0_8 O0_8 XB0_8 T1_8 O1_8 G_8
    obtain ⟨x0_0, x0_1, -⟩ := BX0_10.out.two
    obtain ⟨x1_0, x1_1, -⟩ := XB0_10.out.two
    go_wp2_with fail
    clear x0_0 x0_1 x1_0 x1_1
    refine (copyI_ow _ S1 l a1 c1 A1_10.out hn1).mono ?_
    rintro e w11 ⟨ra11, rc11, D11, rfl, ho, hD, hb⟩
    have HW_11 := Lib.hid (HW_10.out.trans (hb.mono HW_10.out.size))
    have BX0_11 := Lib.hid (BX0_10.out.below hb BX0_10.out.lt)
    have A0_11 := Lib.hid (A0_10.out.below hb)
    have A1_11 := Lib.hid (A1_10.out.below hb)
    have WR_11 := Lib.hid (WR_10.out.below hb)
    have O0_11 := Lib.hid (O0_10.out.below hb)
    have XB0_11 := Lib.hid (XB0_10.out.below hb XB0_10.out.lt)
    have T1_11 := Lib.hid (T1_10.out.below hb)
    have O1_11 := Lib.hid (O1_10.out.below hb)
    have G_11 := Lib.hid (G_10.out.below hb)
    have E1_11 := Lib.hid (ho.at HF1.out)
    clear hb ho hD HW_10 BX0_10 A0_10 A1_10 WR_10 O0_10 XB0_10 T1_10 O1_10 G_10
    obtain ⟨x0_0, x0_1, -⟩ := BX0_11.out.two
    obtain ⟨x1_0, x1_1, -⟩ := XB0_11.out.two
    go_wp2_with fail
    clear x0_0 x0_1 x1_0 x1_1
    refine (eqInts_any _ _ _ l ra6 ra11 rc6 rc11 T1_11.out E1_11.out).mono ?_
    rintro e w12 ⟨rfl, hb⟩
    have HW_12 := Lib.hid (HW_11.out.trans (hb.mono HW_11.out.size))
    have BX0_12 := Lib.hid (BX0_11.out.below hb BX0_11.out.lt)
    have A0_12 := Lib.hid (A0_11.out.below hb)
    have A1_12 := Lib.hid (A1_11.out.below hb)
    have WR_12 := Lib.hid (WR_11.out.below hb)
    have O0_12 := Lib.hid (O0_11.out.below hb)
    have XB0_12 := Lib.hid (XB0_11.out.below hb XB0_11.out.lt)
    have O1_12 := Lib.hid (O1_11.out.below hb)
    have G_12 := Lib.hid (G_11.out.below hb)
    clear hb HW_11 BX0_11 A0_11 A1_11 WR_11 O0_11 XB0_11 T1_11 O1_11 G_11 E1_11
    obtain ⟨x0_0, x0_1, -⟩ := BX0_12.out.two
    obtain ⟨x1_0, x1_1, -⟩ := XB0_12.out.two
    go_wp2_with fail
    clear x0_0 x0_1 x1_0 x1_1
    refine (markS_ow _ D5 s ra5 rc5 rb5 rd5 1 O0_12.out HL0.out (by omega)).mono ?_
    rintro e w13 hm
    obtain ⟨rfl, hfr⟩ := hm
    rw [← HK0.out]
    have HW_13 := Lib.hid (Below.frD HW_12.out hfr (fun b hb => by have := HD0.out _ hb; omega))
    have BX0_13 := Lib.hid (BX0_12.out.fr hfr (fun hb => by have := HD0.out _ hb; omega))
    have A0_13 := Lib.hid (A0_12.out.fr hfr (fun b hs hb => by have := HD0.out _ hb; have := HS0.out b hs; omega))
    have A1_13 := Lib.hid (A1_12.out.fr hfr (fun b hs hb => by have := HD0.out _ hb; have := HS1.out b hs; omega))
    have WR_13 := Lib.hid (WR_12.out.fr hfr (fun b hs hb => by have := HD0.out _ hb; omega))
    have O1_13 := Lib.hid (O1_12.out.fr hfr (fun b hs hb => by have := HD0.out _ hb; have := HD1.out b hs; omega))
    have G_13 := Lib.hid (G_12.out.fr hfr (fun b hs hb => by have := HD0.out _ hb; have := HDG.out b hs; omega))
    clear hfr HW_12 BX0_12 A0_12 A1_12 WR_12 O0_12 XB0_12 O1_12 G_12
    obtain ⟨x0_0, x0_1, -⟩ := BX0_13.out.two
    go_wp2_with fail
    clear x0_0 x0_1
    refine (markI_ow _ D6 l ra6 rc6 k0 O1_13.out (by omega) (by omega)).mono ?_
    rintro e w14 hm
    obtain ⟨rfl, hfr, _⟩ := hm
    rw [← HK1.out]
    have HW_14 := Lib.hid (Below.frD HW_13.out hfr (fun b hb => by have := HD1.out _ hb; omega))
    have BX0_14 := Lib.hid (BX0_13.out.fr hfr (fun hb => by have := HD1.out _ hb; omega))
    have A0_14 := Lib.hid (A0_13.out.fr hfr (fun b hs hb => by have := HD1.out _ hb; have := HS0.out b hs; omega))
    have A1_14 := Lib.hid (A1_13.out.fr hfr (fun b hs hb => by have := HD1.out _ hb; have := HS1.out b hs; omega))
    have WR_14 := Lib.hid (WR_13.out.fr hfr (fun b hs hb => by have := HD1.out _ hb; omega))
    have G_14 := Lib.hid (G_13.out.fr hfr (fun b hs hb => by have := HD1.out _ hb; have := HDG.out b hs; omega))
    clear hfr HW_13 BX0_13 A0_13 A1_13 WR_13 O1_13 G_13
    obtain ⟨x0_0, x0_1, -⟩ := BX0_14.out.two
    go_wp2_with fail
    clear x0_0 x0_1
    refine (eqInts_any _ _ _ r ra7 ra4 rc7 rc4 (G_14.out.at HFR.out) WR_14.out).mono ?_
    rintro e w15 ⟨rfl, hb⟩
    have HW_15 := Lib.hid (HW_14.out.trans (hb.mono HW_14.out.size))
    have BX0_15 := Lib.hid (BX0_14.out.below hb BX0_14.out.lt)
    have A0_15 := Lib.hid (A0_14.out.below hb)
    have A1_15 := Lib.hid (A1_14.out.below hb)
    have WR_15 := Lib.hid (WR_14.out.below hb)
    have G_15 := Lib.hid (G_14.out.below hb)
    clear hb HW_14 BX0_14 A0_14 A1_14 WR_14 G_14
    have hbe := HBE.out
    obtain ⟨x0_0, x0_1, -⟩ := BX0_15.out.two
    go_wp2_with fail
    clear x0_0 x0_1
    clear hbe
    refine (markI_ow _ DG r ra7 rc7 1 G_15.out (by omega) (by omega)).mono ?_
    rintro e w16 hm
    obtain ⟨rfl, hfr, hmk⟩ := hm
    rw [← HNN.out]
    have HW_16 := Lib.hid (Below.frD HW_15.out hfr (fun b hb => by have := HDG.out _ hb; omega))
    have BX0_16 := Lib.hid (BX0_15.out.fr hfr (fun hb => by have := HDG.out _ hb; omega))
    have A0_16 := Lib.hid (A0_15.out.fr hfr (fun b hs hb => by have := HDG.out _ hb; have := HS0.out b hs; omega))
    have A1_16 := Lib.hid (A1_15.out.fr hfr (fun b hs hb => by have := HDG.out _ hb; have := HS1.out b hs; omega))
    have WR_16 := Lib.hid (WR_15.out.fr hfr (fun b hs hb => by have := HDG.out _ hb; omega))
    have M_16 := Lib.hid hmk
    clear hfr hmk HW_15 BX0_15 A0_15 A1_15 WR_15 G_15
    obtain ⟨x0_0, x0_1, -⟩ := BX0_16.out.two
    go_wp2_with fail
    clear x0_0 x0_1
    refine (heldI_ow _ DG r.length 1 ra7 rc7  M_16.out (by omega) (by omega)).mono ?_
    rintro e w17 ⟨rfl, rfl⟩
    rw [← HNN.out]
    have hne := HNE.out
    obtain ⟨x0_0, x0_1, -⟩ := BX0_16.out.two
    go_wp2_with fail
    clear x0_0 x0_1
    clear hne
    refine (copyS_ow _ S0 s a0 c0 b0 d0 A0_16.out HL0.out).mono ?_
    rintro e w18 ⟨ra18, rc18, rb18, rd18, D18, rfl, ho, hD, hb⟩
    have HW_18 := Lib.hid (HW_16.out.trans (hb.mono HW_16.out.size))
    have BX0_18 := Lib.hid (BX0_16.out.below hb BX0_16.out.lt)
    have A0_18 := Lib.hid (A0_16.out.below hb)
    have A1_18 := Lib.hid (A1_16.out.below hb)
    have WR_18 := Lib.hid (WR_16.out.below hb)
    have M_18 := Lib.hid (M_16.out.below hb)
    have H0_18 := Lib.hid (ho.at)
    clear hb ho hD HW_16 BX0_16 A0_16 A1_16 WR_16 M_16
    obtain ⟨x0_0, x0_1, -⟩ := BX0_18.out.two
    go_wp2_with fail
    clear x0_0 x0_1
    refine (copyI_ow _ S1 l a1 c1 A1_18.out hn1).mono ?_
    rintro e w19 ⟨ra19, rc19, D19, rfl, ho, hD, hb⟩
    have HW_19 := Lib.hid (HW_18.out.trans (hb.mono HW_18.out.size))
    have BX0_19 := Lib.hid (BX0_18.out.below hb BX0_18.out.lt)
    have A0_19 := Lib.hid (A0_18.out.below hb)
    have A1_19 := Lib.hid (A1_18.out.below hb)
    have WR_19 := Lib.hid (WR_18.out.below hb)
    have M_19 := Lib.hid (M_18.out.below hb)
    have H0_19 := Lib.hid (H0_18.out.below hb)
    have H1_19 := Lib.hid (ho.at HF1.out)
    clear hb ho hD HW_18 BX0_18 A0_18 A1_18 WR_18 M_18 H0_18
    obtain ⟨x0_0, x0_1, -⟩ := BX0_19.out.two
    go_wp2_with fail
    clear x0_0 x0_1
    refine (implTopo_any s l _ _ _ ra18 rc18 rb18 rd18 ra19 rc19 H0_19.out H1_19.out).mono ?_
    intro e w20 hp
    obtain ⟨hb, ra20, rc20, DH, rfl, hg, hDG⟩ := HIP.out _ _ _ hp
    clear hp
    have HW_20 := Lib.hid (HW_19.out.trans (hb.mono HW_19.out.size))
    have BX0_20 := Lib.hid (BX0_19.out.below hb BX0_19.out.lt)
    have WR_20 := Lib.hid (WR_19.out.below hb)
    have M_20 := Lib.hid (M_19.out.below hb)
    have HG_20 := Lib.hid (hg.at HFR.out)
    clear hb hg hDG HW_19 BX0_19 A0_19 A1_19 WR_19 M_19 H0_19 H1_19
    obtain ⟨x0_0, x0_1, -⟩ := BX0_20.out.two
    go_wp2_with fail
    clear x0_0 x0_1
    refine (eqInts_any _ _ _ r ra20 ra4 rc20 rc4 HG_20.out WR_20.out).mono ?_
    rintro e w21 ⟨rfl, hb⟩
    have HW_21 := Lib.hid (HW_20.out.trans (hb.mono HW_20.out.size))
    have BX0_21 := Lib.hid (BX0_20.out.below hb BX0_20.out.lt)
    have WR_21 := Lib.hid (WR_20.out.below hb)
    have M_21 := Lib.hid (M_20.out.below hb)
    clear hb HW_20 BX0_20 WR_20 M_20 HG_20
    have hbe := HBE.out
    obtain ⟨x0_0, x0_1, -⟩ := BX0_21.out.two
    go_wp2_with fail
    clear x0_0 x0_1
    clear hbe
    refine (heldI_ow _ DG r.length 1 ra7 rc7  M_21.out (by omega) (by omega)).mono ?_
    rintro e w22 ⟨rfl, rfl⟩
    rw [← HNN.out]
    have hne := HNE.out
    obtain ⟨x0_0, x0_1, -⟩ := BX0_21.out.two
    go_wp2_with fail
    clear x0_0 x0_1
    clear hne
    go_ret
    exact ⟨rfl, HW_21.out⟩
  · have HZ := Lib.hid (show szN (s.m.length + nodesL s.t) 1048576 = -1 by unfold szN; rw [if_neg hz0])
    clear hz0
    obtain ⟨x0_0, x0_1, -⟩ := BX0.out.two
    go_enter Try.func3, Try.ntmps3
    go_wp2_with fail
    clear x0_0 x0_1
    refine (szS_ow _ S0 s a0 c0 b0 d0 1048576 A0.out (by omega)).mono ?_
    rintro e w23 ⟨rfl, hb⟩
    rw [HZ.out]
    have HW_23 := Lib.hid (HW.out.trans (hb.mono HW.out.size))
    have BX0_23 := Lib.hid (BX0.out.below hb BX0.out.lt)
    have A0_23 := Lib.hid (A0.out.below hb)
    have A1_23 := Lib.hid (A1.out.below hb)
    clear hb HW BX0 A0 A1
    go_wp2_with fail
    go_ret
    exact ⟨rfl, HW_23.out⟩
end Go.Proofs.Ytochgmbeomfkpaa
