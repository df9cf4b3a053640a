/- the walk of laws.FnExactStateStart (written by wip/tools/gen_law.py) -/
import Derived.Test.YtjakhiafkjaghaaAdS
import Derived.Test.YtjakhiafkjaghaaStM
import Derived.Test.YtjakhiafkjaghaaSsI
import Derived.Test.YtjakhiafkjaghaaSsS
import Derived.WalkSpells
import Derived.Deep.RegionHeld3
namespace Go.Proofs.Ytjakhiafkjaghaa
open Go.RowKit

set_option maxRecDepth 100000 in
set_option maxHeartbeats 8000000 in
theorem walk_exactStateStart (s : Sh) (w : World) (S00 : Nat → Prop) (a0 : Option Addr) (c0 : Nat) (b0 : Option Addr) (d0 : Nat) (h00 : ShAt w S00 s a0 c0 b0 d0) :
    Calls Try.prog 4 #[.agg #[.slice a0 s.m.length c0, .slice b0 s.t.length d0]] w fun e w' => e = .returned (.bool true) ∧ Below w.heap.size w w' := by
  obtain ⟨S0, hSd0⟩ : ∃ S : Nat → Prop, S = fun b => S00 b ∧ b < w.heap.size := ⟨_, rfl⟩
  have hS0 : ∀ b, S0 b → b < w.heap.size := by rw [hSd0]; exact fun b h => h.2
  have h0 : ShAt w S0 s a0 c0 b0 d0 := by rw [hSd0]; exact h00.lim
  have HS0 := Lib.hid hS0
  have B0_0 := Lib.hid (Blk.new w 25 #[.slice a0 s.m.length c0, .slice b0 s.t.length d0])
  have HW := Lib.hid (show Below w.heap.size w (w.alloc (.cells #[.slice a0 s.m.length c0, .slice b0 s.t.length d0] 25)) from (Below.refl _ _).alloc (by simp <;> omega) (.cells #[.slice a0 s.m.length c0, .slice b0 s.t.length d0] 25))
  have A0 := Lib.hid (h0.alloc (.cells #[.slice a0 s.m.length c0, .slice b0 s.t.length d0] 25))
  have BX0 := Lib.hid (show Blk (w.alloc (.cells #[.slice a0 s.m.length c0, .slice b0 s.t.length d0] 25)) (w.heap.size) 25 #[.slice a0 s.m.length c0, .slice b0 s.t.length d0] by have := B0_0.out; simpa using this)
  clear hSd0 hS0 h00 h0 B0_0
  by_cases hz0 : s.m.length + nodesL s.t ≤ 1048576
  · obtain ⟨q0, hq0⟩ : ∃ q : Nat, q = 1048576 - (s.m.length + nodesL s.t) := ⟨_, rfl⟩
    have HZ0 := Lib.hid (show szN (s.m.length + nodesL s.t) 1048576 = (q0 : Int) by unfold szN; rw [if_pos hz0, hq0]; omega)
    have hqb0 : q0 ≤ 1048576 := by omega
    have HL0 := Lib.hid (show s.m.length + nodesL s.t ≤ 1048576 by omega)
    obtain ⟨r, hr⟩ : ∃ r, r = stS s := ⟨_, rfl⟩
    obtain ⟨b, hbb⟩ : ∃ b, b = s.ok := ⟨_, rfl⟩
    have HFR := Lib.hid (show r.fine by rw [hr]; exact stS_fine s)
    have hrn : r.n ≤ 1000000 := by rw [hr]; exact Nat.le_trans (stS_n s) (by decide)
    have hrm : stM r ≤ 60 := by rw [hr]; exact stS_m s
    have HSP := Lib.hid (show ∀ w e w', SxPost (stS s) s.ok w e w' → Below w.heap.size w w' ∧ ∃ a1 c1 a2 c2 a3 c3 a4 c4 S, e = .returned (.tuple #[.agg #[.slice a1 r.v.length c1, .slice a2 r.b.length c2, .slice a3 r.i.length c3, .slice a4 r.t.length c4], .bool b]) ∧ StAt w' S r a1 c1 a2 c2 a3 c3 a4 c4 by rw [← hr, ← hbb]; exact fun w e w' h => h.at HFR.out)
    have HIP := Lib.hid (show ∀ w e w', SxPost (stS s) s.ok w e w' → Below w.heap.size w w' ∧ ∃ a1 c1 a2 c2 a3 c3 a4 c4 D, e = .returned (.tuple #[.agg #[.slice a1 r.v.length c1, .slice a2 r.b.length c2, .slice a3 r.i.length c3, .slice a4 r.t.length c4], .bool b]) ∧ StOw w' D r a1 c1 a2 c2 a3 c3 a4 c4 ∧ ∀ x, D x → w.heap.size ≤ x ∧ x < w'.heap.size by rw [← hr, ← hbb]; exact fun w e w' h => h)
    clear hr hbb
    obtain ⟨k0, hk0⟩ : ∃ k : Nat, k = 1 + (s.m.length + 2 * nodesL s.t) := ⟨_, rfl⟩
    have HK0 := Lib.hid hk0
    have hkb0 : k0 ≤ 20000000 := by have := HL0.out; omega
    clear hk0
    obtain ⟨n, hn⟩ : ∃ n : Nat, n = 1 + stM r := ⟨_, rfl⟩
    have HNN := Lib.hid hn
    have hnb : n ≤ 1000000 := by  omega
    have HNE := Lib.hid (show ((n : Int) != (n : Int)) = false by simp)
    clear hn
    have HBE := Lib.hid (show (b != b) = false by simp)
    clear hz0 hq0
    obtain ⟨x0_0, x0_1, -⟩ := BX0.out.two
    go_enter Try.func4, Try.ntmps4
    go_wp2_with fail
    clear x0_0 x0_1
    refine (szS_ow _ S0 s a0 c0 b0 d0 1048576 A0.out (by omega)).mono ?_
    rintro e w1 ⟨rfl, hb⟩
    rw [HZ0.out]
    have HW_1 := Lib.hid (HW.out.trans (hb.mono HW.out.size))
    have BX0_1 := Lib.hid (BX0.out.below hb BX0.out.lt)
    have A0_1 := Lib.hid (A0.out.below hb)
    clear hb HZ0 HW BX0 A0
    obtain ⟨x0_0, x0_1, -⟩ := BX0_1.out.two
    go_wp2_with fail
    clear x0_0 x0_1
    refine (copyS_ow _ S0 s a0 c0 b0 d0 A0_1.out HL0.out).mono ?_
    rintro e w2 ⟨ra2, rc2, rb2, rd2, D2, rfl, ho, hD, hb⟩
    have HW_2 := Lib.hid (HW_1.out.trans (hb.mono HW_1.out.size))
    have BX0_2 := Lib.hid (BX0_1.out.below hb BX0_1.out.lt)
    have A0_2 := Lib.hid (A0_1.out.below hb)
    have C0_2 := Lib.hid (ho.at)
    clear hb ho hD HW_1 BX0_1 A0_1
    obtain ⟨x0_0, x0_1, -⟩ := BX0_2.out.two
    go_wp2_with fail
    clear x0_0 x0_1
    refine (specStart_any s _ _ ra2 rc2 rb2 rd2 C0_2.out (Nat.le_trans (Nat.le_add_left _ _) HL0.out)).mono ?_
    intro e w3 hp
    obtain ⟨hb, rsa3, rsc3, rsb3, rsd3, rsf3, rsg3, rsp3, rsq3, SW, rfl, hat⟩ := HSP.out _ _ _ hp
    clear hp
    have hsW : w.heap.size + 1 ≤ w3.heap.size := by have := hb.size; have := BX0_2.out.lt; omega
    have HW_3 := Lib.hid ((HW_2.out.trans (hb.mono HW_2.out.size)).alloc (Nat.le_trans HW_2.out.size hb.size) (.cells #[.slice rsa3 r.v.length rsc3, .slice rsb3 r.b.length rsd3, .slice rsf3 r.i.length rsg3, .slice rsp3 r.t.length rsq3] 41))
    have BX0_3 := Lib.hid ((BX0_2.out.below hb BX0_2.out.lt).alloc (.cells #[.slice rsa3 r.v.length rsc3, .slice rsb3 r.b.length rsd3, .slice rsf3 r.i.length rsg3, .slice rsp3 r.t.length rsq3] 41))
    have A0_3 := Lib.hid ((A0_2.out.below hb).alloc (.cells #[.slice rsa3 r.v.length rsc3, .slice rsb3 r.b.length rsd3, .slice rsf3 r.i.length rsg3, .slice rsp3 r.t.length rsq3] 41))
    have WR_3 := Lib.hid ((hat.lim.weaken (S' := fun b => b < w3.heap.size) (fun _ h => h.2)).alloc (.cells #[.slice rsa3 r.v.length rsc3, .slice rsb3 r.b.length rsd3, .slice rsf3 r.i.length rsg3, .slice rsp3 r.t.length rsq3] 41))
    have WB_3 := Lib.hid (Blk.new w3 41 #[.slice rsa3 r.v.length rsc3, .slice rsb3 r.b.length rsd3, .slice rsf3 r.i.length rsg3, .slice rsp3 r.t.length rsq3])
    clear hb hat HW_2 BX0_2 A0_2 C0_2
    obtain ⟨x0_0, x0_1, -⟩ := BX0_3.out.two
    obtain ⟨x1_0, x1_1, x1_2, x1_3, -⟩ := WB_3.out.four
    go_wp2_with fail
    clear x0_0 x0_1 x1_0 x1_1 x1_2 x1_3
    refine (copyS_ow _ S0 s a0 c0 b0 d0 A0_3.out HL0.out).mono ?_
    rintro e w4 ⟨ra4, rc4, rb4, rd4, D4, rfl, ho, hD, hb⟩
    have hs4 := hb.size
    try simp only [World.size_alloc] at hD hs4
    have HW_4 := Lib.hid ((HW_3.out.trans (hb.mono HW_3.out.size)).alloc (Nat.le_trans HW_3.out.size hb.size) (.cells #[.slice ra4 s.m.length rc4, .slice rb4 s.t.length rd4] 32))
    have BX0_4 := Lib.hid ((BX0_3.out.below hb BX0_3.out.lt).alloc (.cells #[.slice ra4 s.m.length rc4, .slice rb4 s.t.length rd4] 32))
    have A0_4 := Lib.hid ((A0_3.out.below hb).alloc (.cells #[.slice ra4 s.m.length rc4, .slice rb4 s.t.length rd4] 32))
    have WR_4 := Lib.hid ((WR_3.out.below hb).alloc (.cells #[.slice ra4 s.m.length rc4, .slice rb4 s.t.length rd4] 32))
    have WB_4 := Lib.hid ((WB_3.out.below hb WB_3.out.lt).alloc (.cells #[.slice ra4 s.m.length rc4, .slice rb4 s.t.length rd4] 32))
    have T0_4 := Lib.hid ((ho.at).alloc (.cells #[.slice ra4 s.m.length rc4, .slice rb4 s.t.length rd4] 32))
    have O0_4 := Lib.hid (ho.below ((Below.refl _ _).alloc (Nat.le_refl _) (.cells #[.slice ra4 s.m.length rc4, .slice rb4 s.t.length rd4] 32)))
    have HD0 := Lib.hid hD
    have XB0_4 := Lib.hid (Blk.new w4 32 #[.slice ra4 s.m.length rc4, .slice rb4 s.t.length rd4])
    clear hb ho hD HW_3 BX0_3 A0_3 WR_3 WB_3
    obtain ⟨x0_0, x0_1, -⟩ := BX0_4.out.two
    obtain ⟨x1_0, x1_1, x1_2, x1_3, -⟩ := WB_4.out.four
    obtain ⟨x2_0, x2_1, -⟩ := XB0_4.out.two
    go_wp2_with fail
    clear x0_0 x0_1 x1_0 x1_1 x1_2 x1_3 x2_0 x2_1
    refine (implStart_any s _ _ ra4 rc4 rb4 rd4 T0_4.out).mono ?_
    intro e w5 hp
    obtain ⟨hb, rsa5, rsc5, rsb5, rsd5, rsf5, rsg5, rsp5, rsq5, DG, rfl, hg, hDG⟩ := HIP.out _ _ _ hp
    clear hp
    have hs5 := hb.size
    try simp only [World.size_alloc] at hDG hs5
    have HW_5 := Lib.hid ((HW_4.out.trans (hb.mono HW_4.out.size)).alloc (Nat.le_trans HW_4.out.size hb.size) (.cells #[.slice rsa5 r.v.length rsc5, .slice rsb5 r.b.length rsd5, .slice rsf5 r.i.length rsg5, .slice rsp5 r.t.length rsq5] 41))
    have BX0_5 := Lib.hid ((BX0_4.out.below hb BX0_4.out.lt).alloc (.cells #[.slice rsa5 r.v.length rsc5, .slice rsb5 r.b.length rsd5, .slice rsf5 r.i.length rsg5, .slice rsp5 r.t.length rsq5] 41))
    have A0_5 := Lib.hid ((A0_4.out.below hb).alloc (.cells #[.slice rsa5 r.v.length rsc5, .slice rsb5 r.b.length rsd5, .slice rsf5 r.i.length rsg5, .slice rsp5 r.t.length rsq5] 41))
    have WR_5 := Lib.hid ((WR_4.out.below hb).alloc (.cells #[.slice rsa5 r.v.length rsc5, .slice rsb5 r.b.length rsd5, .slice rsf5 r.i.length rsg5, .slice rsp5 r.t.length rsq5] 41))
    have WB_5 := Lib.hid ((WB_4.out.below hb WB_4.out.lt).alloc (.cells #[.slice rsa5 r.v.length rsc5, .slice rsb5 r.b.length rsd5, .slice rsf5 r.i.length rsg5, .slice rsp5 r.t.length rsq5] 41))
    have T0_5 := Lib.hid ((T0_4.out.below hb).alloc (.cells #[.slice rsa5 r.v.length rsc5, .slice rsb5 r.b.length rsd5, .slice rsf5 r.i.length rsg5, .slice rsp5 r.t.length rsq5] 41))
    have O0_5 := Lib.hid ((O0_4.out.below hb).below ((Below.refl _ _).alloc (Nat.le_refl _) (.cells #[.slice rsa5 r.v.length rsc5, .slice rsb5 r.b.length rsd5, .slice rsf5 r.i.length rsg5, .slice rsp5 r.t.length rsq5] 41)))
    have XB0_5 := Lib.hid ((XB0_4.out.below hb XB0_4.out.lt).alloc (.cells #[.slice rsa5 r.v.length rsc5, .slice rsb5 r.b.length rsd5, .slice rsf5 r.i.length rsg5, .slice rsp5 r.t.length rsq5] 41))
    have G_5 := Lib.hid (hg.below ((Below.refl _ _).alloc (Nat.le_refl _) (.cells #[.slice rsa5 r.v.length rsc5, .slice rsb5 r.b.length rsd5, .slice rsf5 r.i.length rsg5, .slice rsp5 r.t.length rsq5] 41)))
    have HDG := Lib.hid hDG
    have GB_5 := Lib.hid (Blk.new w5 41 #[.slice rsa5 r.v.length rsc5, .slice rsb5 r.b.length rsd5, .slice rsf5 r.i.length rsg5, .slice rsp5 r.t.length rsq5])
    clear hb hg hDG HW_4 BX0_4 A0_4 WR_4 WB_4 T0_4 O0_4 XB0_4
    obtain ⟨x0_0, x0_1, -⟩ := BX0_5.out.two
    obtain ⟨x1_0, x1_1, x1_2, x1_3, -⟩ := WB_5.out.four
    obtain ⟨x2_0, x2_1, -⟩ := XB0_5.out.two
    obtain ⟨x3_0, x3_1, x3_2, x3_3, -⟩ := GB_5.out.four
    go_wp2_with fail
    clear x0_0 x0_1 x1_0 x1_1 x1_2 x1_3 x2_0 x2_1 x3_0 x3_1 x3_2 x3_3
    refine (eqX_ow _ _ _ r rsa5 rsc5 rsb5 rsd5 rsf5 rsg5 rsp5 rsq5 rsa3 rsc3 rsb3 rsd3 rsf3 rsg3 rsp3 rsq3 (G_5.out.at HFR.out) WR_5.out).mono ?_
    rintro e w6 ⟨rfl, hb⟩
    have HW_6 := Lib.hid (HW_5.out.trans (hb.mono HW_5.out.size))
    have BX0_6 := Lib.hid (BX0_5.out.below hb BX0_5.out.lt)
    have A0_6 := Lib.hid (A0_5.out.below hb)
    have WR_6 := Lib.hid (WR_5.out.below hb)
    have WB_6 := Lib.hid (WB_5.out.below hb WB_5.out.lt)
    have T0_6 := Lib.hid (T0_5.out.below hb)
    have O0_6 := Lib.hid (O0_5.out.below hb)
    have XB0_6 := Lib.hid (XB0_5.out.below hb XB0_5.out.lt)
    have G_6 := Lib.hid (G_5.out.below hb)
    have GB_6 := Lib.hid (GB_5.out.below hb GB_5.out.lt)
    clear hb HW_5 BX0_5 A0_5 WR_5 WB_5 T0_5 O0_5 XB0_5 G_5 GB_5
    have hbe := HBE.out
    obtain ⟨x0_0, x0_1, -⟩ := BX0_6.out.two
    obtain ⟨x1_0, x1_1, x1_2, x1_3, -⟩ := WB_6.out.four
    obtain ⟨x2_0, x2_1, -⟩ := XB0_6.out.two
    obtain ⟨x3_0, x3_1, x3_2, x3_3, -⟩ := GB_6.out.four
    go_wp2_with fail
    clear x0_0 x0_1 x1_0 x1_1 x1_2 x1_3 x2_0 x2_1 x3_0 x3_1 x3_2 x3_3
    clear hbe
    obtain ⟨y0, y1, -⟩ := XB0_6.out.two
    obtain ⟨z0, z1, -⟩ := BX0_6.out.two
    go_region_held3 (fun w' => w'.cell? ⟨w4.heap.size, 0, none⟩ = some (.slice ra4 s.m.length rc4) ∧ w'.cell? ⟨w4.heap.size, 1, none⟩ = some (.slice rb4 s.t.length rd4) ∧ w'.cell? ⟨w.heap.size, 0, none⟩ = some (.slice a0 s.m.length c0) ∧ w'.cell? ⟨w.heap.size, 1, none⟩ = some (.slice b0 s.t.length d0)) (first | exact ⟨y0, y1, z0, z1⟩ | exact ⟨u0, u1, v0, v1⟩ | exact ⟨p0, p1, q_0, q_1⟩) ((first | (go_at_call 11; refine (copyS_ow _ S0 s a0 c0 b0 d0 A0_6.out.drew HL0.out).mono ?_; rintro e w7 ⟨ra7, rc7, rb7, rd7, D7, rfl, hoq, hDq, hbq⟩; obtain ⟨u0, u1, -⟩ := (XB0_6.out.drew.below hbq XB0_6.out.drew.lt).two; obtain ⟨v0, v1, -⟩ := (BX0_6.out.drew.below hbq BX0_6.out.drew.lt).two) | (go_at_call 14; go_must (refine (eqSheet_any _ _ _ s ra4 rc4 rb4 rd4 ra7 rc7 rb7 rd7 (T0_6.out.drew.below hbq) (hoq.at)).mono ?_; rintro e w8 ⟨rfl, hbr⟩; obtain ⟨p0, p1, -⟩ := ((XB0_6.out.drew.below hbq XB0_6.out.drew.lt).below hbr (XB0_6.out.drew.below hbq XB0_6.out.drew.lt).lt).two; obtain ⟨q_0, q_1, -⟩ := ((BX0_6.out.drew.below hbq BX0_6.out.drew.lt).below hbr (BX0_6.out.drew.below hbq BX0_6.out.drew.lt).lt).two))))
    have HW_8 := Lib.hid ((HW_6.out.drew.trans (hbq.mono HW_6.out.size)).trans (hbr.mono (Nat.le_trans HW_6.out.size hbq.size)))
    have BX0_8 := Lib.hid ((BX0_6.out.drew.below hbq BX0_6.out.drew.lt).below hbr (BX0_6.out.drew.below hbq BX0_6.out.drew.lt).lt)
    have A0_8 := Lib.hid ((A0_6.out.drew.below hbq).below hbr)
    have WR_8 := Lib.hid ((WR_6.out.drew.below hbq).below hbr)
    have WB_8 := Lib.hid ((WB_6.out.drew.below hbq WB_6.out.drew.lt).below hbr (WB_6.out.drew.below hbq WB_6.out.drew.lt).lt)
    have O0_8 := Lib.hid (((O0_6.out.below (Below.refl _ _).drew).below hbq).below hbr)
    have XB0_8 := Lib.hid ((XB0_6.out.drew.below hbq XB0_6.out.drew.lt).below hbr (XB0_6.out.drew.below hbq XB0_6.out.drew.lt).lt)
    have G_8 := Lib.hid (((G_6.out.below (Below.refl _ _).drew).below hbq).below hbr)
    have GB_8 := Lib.hid ((GB_6.out.drew.below hbq GB_6.out.drew.lt).below hbr (GB_6.out.drew.below hbq GB_6.out.drew.lt).lt)
    clear hbq hbr hoq hDq y0 y1 z0 z1 u0 u1 v0 v1 p0 p1 q_0 q_1 HW_6 BX0_6 A0_6 WR_6 WB_6 T0_6 O0_6 XB0_6 G_6 GB_6
    obtain ⟨x0_0, x0_1, -⟩ := BX0_8.out.two
    obtain ⟨x1_0, x1_1, x1_2, x1_3, -⟩ := WB_8.out.four
    obtain ⟨x2_0, x2_1, -⟩ := XB0_8.out.two
    obtain ⟨x3_0, x3_1, x3_2, x3_3, -⟩ := GB_8.out.four
    go_wp2_with fail
    clear x0_0 x0_1 x1_0 x1_1 x1_2 x1_3 x2_0 x2_1 x3_0 x3_1 x3_2 x3_3
    refine (markS_ow _ D4 s ra4 rc4 rb4 rd4 1 O0_8.out HL0.out (by omega)).mono ?_
    rintro e w9 hm
    obtain ⟨rfl, hfr⟩ := hm
    rw [← HK0.out]
    have HW_9 := Lib.hid (Below.frD HW_8.out hfr (fun b hb => by have := HD0.out _ hb; omega))
    have BX0_9 := Lib.hid (BX0_8.out.fr hfr (fun hb => by have := HD0.out _ hb; omega))
    have A0_9 := Lib.hid (A0_8.out.fr hfr (fun b hs hb => by have := HD0.out _ hb; have := HS0.out b hs; omega))
    have WR_9 := Lib.hid (WR_8.out.fr hfr (fun b hs hb => by have := HD0.out _ hb; omega))
    have WB_9 := Lib.hid (WB_8.out.fr hfr (fun hb => by have := HD0.out _ hb; omega))
    have G_9 := Lib.hid (G_8.out.fr hfr (fun b hs hb => by have := HD0.out _ hb; have := HDG.out b hs; omega))
    have GB_9 := Lib.hid (GB_8.out.fr hfr (fun hb => by have := HD0.out _ hb; omega))
    clear hfr HW_8 BX0_8 A0_8 WR_8 WB_8 O0_8 XB0_8 G_8 GB_8
    obtain ⟨x0_0, x0_1, -⟩ := BX0_9.out.two
    obtain ⟨x1_0, x1_1, x1_2, x1_3, -⟩ := WB_9.out.four
    obtain ⟨x2_0, x2_1, x2_2, x2_3, -⟩ := GB_9.out.four
    go_wp2_with fail
    clear x0_0 x0_1 x1_0 x1_1 x1_2 x1_3 x2_0 x2_1 x2_2 x2_3
    refine (eqX_ow _ _ _ r rsa5 rsc5 rsb5 rsd5 rsf5 rsg5 rsp5 rsq5 rsa3 rsc3 rsb3 rsd3 rsf3 rsg3 rsp3 rsq3 (G_9.out.at HFR.out) WR_9.out).mono ?_
    rintro e w10 ⟨rfl, hb⟩
    have HW_10 := Lib.hid (HW_9.out.trans (hb.mono HW_9.out.size))
    have BX0_10 := Lib.hid (BX0_9.out.below hb BX0_9.out.lt)
    have A0_10 := Lib.hid (A0_9.out.below hb)
    have WR_10 := Lib.hid (WR_9.out.below hb)
    have WB_10 := Lib.hid (WB_9.out.below hb WB_9.out.lt)
    have G_10 := Lib.hid (G_9.out.below hb)
    have GB_10 := Lib.hid (GB_9.out.below hb GB_9.out.lt)
    clear hb HW_9 BX0_9 A0_9 WR_9 WB_9 G_9 GB_9
    have hbe := HBE.out
    obtain ⟨x0_0, x0_1, -⟩ := BX0_10.out.two
    obtain ⟨x1_0, x1_1, x1_2, x1_3, -⟩ := WB_10.out.four
    obtain ⟨x2_0, x2_1, x2_2, x2_3, -⟩ := GB_10.out.four
    go_wp2_with fail
    clear x0_0 x0_1 x1_0 x1_1 x1_2 x1_3 x2_0 x2_1 x2_2 x2_3
    clear hbe
    refine (markX_ow _ DG r rsa5 rsc5 rsb5 rsd5 rsf5 rsg5 rsp5 rsq5 1 G_10.out (by omega) (by omega)).mono ?_
    rintro e w11 hm
    obtain ⟨rfl, hfr, hmk⟩ := hm
    rw [← HNN.out]
    have HW_11 := Lib.hid (Below.frD HW_10.out hfr (fun b hb => by have := HDG.out _ hb; omega))
    have BX0_11 := Lib.hid (BX0_10.out.fr hfr (fun hb => by have := HDG.out _ hb; omega))
    have A0_11 := Lib.hid (A0_10.out.fr hfr (fun b hs hb => by have := HDG.out _ hb; have := HS0.out b hs; omega))
    have WR_11 := Lib.hid (WR_10.out.fr hfr (fun b hs hb => by have := HDG.out _ hb; omega))
    have WB_11 := Lib.hid (WB_10.out.fr hfr (fun hb => by have := HDG.out _ hb; omega))
    have GB_11 := Lib.hid (GB_10.out.fr hfr (fun hb => by have := HDG.out _ hb; omega))
    have M_11 := Lib.hid hmk
    clear hfr hmk HW_10 BX0_10 A0_10 WR_10 WB_10 G_10 GB_10
    obtain ⟨x0_0, x0_1, -⟩ := BX0_11.out.two
    obtain ⟨x1_0, x1_1, x1_2, x1_3, -⟩ := WB_11.out.four
    obtain ⟨x2_0, x2_1, x2_2, x2_3, -⟩ := GB_11.out.four
    go_wp2_with fail
    clear x0_0 x0_1 x1_0 x1_1 x1_2 x1_3 x2_0 x2_1 x2_2 x2_3
    refine (heldX_ow _ DG r 1 rsa5 rsc5 rsb5 rsd5 rsf5 rsg5 rsp5 rsq5  M_11.out (by omega) (by omega)).mono ?_
    rintro e w12 ⟨rfl, hb⟩
    rw [← HNN.out]
    have HW_12 := Lib.hid (HW_11.out.trans (hb.mono HW_11.out.size))
    have BX0_12 := Lib.hid (BX0_11.out.below hb BX0_11.out.lt)
    have A0_12 := Lib.hid (A0_11.out.below hb)
    have WR_12 := Lib.hid (WR_11.out.below hb)
    have WB_12 := Lib.hid (WB_11.out.below hb WB_11.out.lt)
    have GB_12 := Lib.hid (GB_11.out.below hb GB_11.out.lt)
    have M_12 := Lib.hid (M_11.out.below hb)
    clear hb HW_11 BX0_11 A0_11 WR_11 WB_11 GB_11 M_11
    have hne := HNE.out
    obtain ⟨x0_0, x0_1, -⟩ := BX0_12.out.two
    obtain ⟨x1_0, x1_1, x1_2, x1_3, -⟩ := WB_12.out.four
    obtain ⟨x2_0, x2_1, x2_2, x2_3, -⟩ := GB_12.out.four
    go_wp2_with fail
    clear x0_0 x0_1 x1_0 x1_1 x1_2 x1_3 x2_0 x2_1 x2_2 x2_3
    clear hne
    refine (copyS_ow _ S0 s a0 c0 b0 d0 A0_12.out HL0.out).mono ?_
    rintro e w13 ⟨ra13, rc13, rb13, rd13, D13, rfl, ho, hD, hb⟩
    have HW_13 := Lib.hid (HW_12.out.trans (hb.mono HW_12.out.size))
    have BX0_13 := Lib.hid (BX0_12.out.below hb BX0_12.out.lt)
    have A0_13 := Lib.hid (A0_12.out.below hb)
    have WR_13 := Lib.hid (WR_12.out.below hb)
    have WB_13 := Lib.hid (WB_12.out.below hb WB_12.out.lt)
    have GB_13 := Lib.hid (GB_12.out.below hb GB_12.out.lt)
    have M_13 := Lib.hid (M_12.out.below hb)
    have H0_13 := Lib.hid (ho.at)
    clear hb ho hD HW_12 BX0_12 A0_12 WR_12 WB_12 GB_12 M_12
    obtain ⟨x0_0, x0_1, -⟩ := BX0_13.out.two
    obtain ⟨x1_0, x1_1, x1_2, x1_3, -⟩ := WB_13.out.four
    obtain ⟨x2_0, x2_1, x2_2, x2_3, -⟩ := GB_13.out.four
    go_wp2_with fail
    clear x0_0 x0_1 x1_0 x1_1 x1_2 x1_3 x2_0 x2_1 x2_2 x2_3
    refine (implStart_any s _ _ ra13 rc13 rb13 rd13 H0_13.out).mono ?_
    intro e w14 hp
    obtain ⟨hb, rsa14, rsc14, rsb14, rsd14, rsf14, rsg14, rsp14, rsq14, DH, rfl, hg, hDG⟩ := HIP.out _ _ _ hp
    clear hp
    have HW_14 := Lib.hid ((HW_13.out.trans (hb.mono HW_13.out.size)).alloc (Nat.le_trans HW_13.out.size hb.size) (.cells #[.slice rsa14 r.v.length rsc14, .slice rsb14 r.b.length rsd14, .slice rsf14 r.i.length rsg14, .slice rsp14 r.t.length rsq14] 41))
    have BX0_14 := Lib.hid ((BX0_13.out.below hb BX0_13.out.lt).alloc (.cells #[.slice rsa14 r.v.length rsc14, .slice rsb14 r.b.length rsd14, .slice rsf14 r.i.length rsg14, .slice rsp14 r.t.length rsq14] 41))
    have WR_14 := Lib.hid ((WR_13.out.below hb).alloc (.cells #[.slice rsa14 r.v.length rsc14, .slice rsb14 r.b.length rsd14, .slice rsf14 r.i.length rsg14, .slice rsp14 r.t.length rsq14] 41))
    have WB_14 := Lib.hid ((WB_13.out.below hb WB_13.out.lt).alloc (.cells #[.slice rsa14 r.v.length rsc14, .slice rsb14 r.b.length rsd14, .slice rsf14 r.i.length rsg14, .slice rsp14 r.t.length rsq14] 41))
    have GB_14 := Lib.hid ((GB_13.out.below hb GB_13.out.lt).alloc (.cells #[.slice rsa14 r.v.length rsc14, .slice rsb14 r.b.length rsd14, .slice rsf14 r.i.length rsg14, .slice rsp14 r.t.length rsq14] 41))
    have M_14 := Lib.hid ((M_13.out.below hb).below ((Below.refl _ _).alloc (Nat.le_refl _) (.cells #[.slice rsa14 r.v.length rsc14, .slice rsb14 r.b.length rsd14, .slice rsf14 r.i.length rsg14, .slice rsp14 r.t.length rsq14] 41)))
    have HG_14 := Lib.hid ((hg.at HFR.out).alloc (.cells #[.slice rsa14 r.v.length rsc14, .slice rsb14 r.b.length rsd14, .slice rsf14 r.i.length rsg14, .slice rsp14 r.t.length rsq14] 41))
    have HB_14 := Lib.hid (Blk.new w14 41 #[.slice rsa14 r.v.length rsc14, .slice rsb14 r.b.length rsd14, .slice rsf14 r.i.length rsg14, .slice rsp14 r.t.length rsq14])
    clear hb hg hDG HW_13 BX0_13 A0_13 WR_13 WB_13 GB_13 M_13 H0_13
    obtain ⟨x0_0, x0_1, -⟩ := BX0_14.out.two
    obtain ⟨x1_0, x1_1, x1_2, x1_3, -⟩ := WB_14.out.four
    obtain ⟨x2_0, x2_1, x2_2, x2_3, -⟩ := GB_14.out.four
    obtain ⟨x3_0, x3_1, x3_2, x3_3, -⟩ := HB_14.out.four
    go_wp2_with fail
    clear x0_0 x0_1 x1_0 x1_1 x1_2 x1_3 x2_0 x2_1 x2_2 x2_3 x3_0 x3_1 x3_2 x3_3
    refine (eqX_ow _ _ _ r rsa14 rsc14 rsb14 rsd14 rsf14 rsg14 rsp14 rsq14 rsa3 rsc3 rsb3 rsd3 rsf3 rsg3 rsp3 rsq3 HG_14.out WR_14.out).mono ?_
    rintro e w15 ⟨rfl, hb⟩
    have HW_15 := Lib.hid (HW_14.out.trans (hb.mono HW_14.out.size))
    have BX0_15 := Lib.hid (BX0_14.out.below hb BX0_14.out.lt)
    have WR_15 := Lib.hid (WR_14.out.below hb)
    have WB_15 := Lib.hid (WB_14.out.below hb WB_14.out.lt)
    have GB_15 := Lib.hid (GB_14.out.below hb GB_14.out.lt)
    have M_15 := Lib.hid (M_14.out.below hb)
    have HB_15 := Lib.hid (HB_14.out.below hb HB_14.out.lt)
    clear hb HW_14 BX0_14 WR_14 WB_14 GB_14 M_14 HG_14 HB_14
    have hbe := HBE.out
    obtain ⟨x0_0, x0_1, -⟩ := BX0_15.out.two
    obtain ⟨x1_0, x1_1, x1_2, x1_3, -⟩ := WB_15.out.four
    obtain ⟨x2_0, x2_1, x2_2, x2_3, -⟩ := GB_15.out.four
    obtain ⟨x3_0, x3_1, x3_2, x3_3, -⟩ := HB_15.out.four
    go_wp2_with fail
    clear x0_0 x0_1 x1_0 x1_1 x1_2 x1_3 x2_0 x2_1 x2_2 x2_3 x3_0 x3_1 x3_2 x3_3
    clear hbe
    refine (heldX_ow _ DG r 1 rsa5 rsc5 rsb5 rsd5 rsf5 rsg5 rsp5 rsq5  M_15.out (by omega) (by omega)).mono ?_
    rintro e w16 ⟨rfl, hb⟩
    rw [← HNN.out]
    have HW_16 := Lib.hid (HW_15.out.trans (hb.mono HW_15.out.size))
    have BX0_16 := Lib.hid (BX0_15.out.below hb BX0_15.out.lt)
    have WR_16 := Lib.hid (WR_15.out.below hb)
    have WB_16 := Lib.hid (WB_15.out.below hb WB_15.out.lt)
    have GB_16 := Lib.hid (GB_15.out.below hb GB_15.out.lt)
    have M_16 := Lib.hid (M_15.out.below hb)
    have HB_16 := Lib.hid (HB_15.out.below hb HB_15.out.lt)
    clear hb HW_15 BX0_15 WR_15 WB_15 GB_15 M_15 HB_15
    have hne := HNE.out
    obtain ⟨x0_0, x0_1, -⟩ := BX0_16.out.two
    obtain ⟨x1_0, x1_1, x1_2, x1_3, -⟩ := WB_16.out.four
    obtain ⟨x2_0, x2_1, x2_2, x2_3, -⟩ := GB_16.out.four
    obtain ⟨x3_0, x3_1, x3_2, x3_3, -⟩ := HB_16.out.four
    go_wp2_with fail
    clear x0_0 x0_1 x1_0 x1_1 x1_2 x1_3 x2_0 x2_1 x2_2 x2_3 x3_0 x3_1 x3_2 x3_3
    clear hne
    go_ret
    exact ⟨rfl, HW_16.out⟩
  · have HZ := Lib.hid (show szN (s.m.length + nodesL s.t) 1048576 = -1 by unfold szN; rw [if_neg hz0])
    clear hz0
    obtain ⟨x0_0, x0_1, -⟩ := BX0.out.two
    go_enter Try.func4, Try.ntmps4
    go_wp2_with fail
    clear x0_0 x0_1
    refine (szS_ow _ S0 s a0 c0 b0 d0 1048576 A0.out (by omega)).mono ?_
    rintro e w17 ⟨rfl, hb⟩
    rw [HZ.out]
    have HW_17 := Lib.hid (HW.out.trans (hb.mono HW.out.size))
    have BX0_17 := Lib.hid (BX0.out.below hb BX0.out.lt)
    have A0_17 := Lib.hid (A0.out.below hb)
    clear hb HW BX0 A0
    go_wp2_with fail
    go_ret
    exact ⟨rfl, HW_17.out⟩
end Go.Proofs.Ytjakhiafkjaghaa
