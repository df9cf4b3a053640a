/- the walk of laws.FnExactDirtyKeys (written by wip/tools/gen_law.py) -/
import Derived.Test.YthjfmpeicjmlkaaAdS
import Derived.Test.YthjfmpeicjmlkaaStC
import Derived.Test.YthjfmpeicjmlkaaStM
import Derived.Test.YthjfmpeicjmlkaaDkS
import Derived.WalkSpells
import Derived.Deep.RegionHeld3
namespace Go.Proofs.Ythjfmpeicjmlkaa
open Go.RowKit

theorem dkO_bd (s : Sh) (x : St) (y : List Int) : (∀ v ∈ dkO s x y, i64ok v) ∧ (dkO s x y).length ≤ 10 := by
  unfold dkO
  split
  · rename_i h
    rw [Bool.and_eq_true] at h
    have h10 := (Sh.ok_iff.1 (stOk_of h.1).1).1
    have hl : (dkL s x y s.m.length).length ≤ s.m.length := fl_len _ _
    exact ⟨fun v hv => by have : 0 ≤ v ∧ v < s.m.length := fl_bd v hv; unfold i64ok; omega, by omega⟩
  · exact ⟨(by intro _ h; cases h), Nat.zero_le _⟩

set_option maxRecDepth 100000 in
set_option maxHeartbeats 8000000 in
theorem walk_exactDirtyKeys (s : Sh) (x : St) (y : List Int) (w : World) (S00 : Nat → Prop) (a0 : Option Addr) (c0 : Nat) (b0 : Option Addr) (d0 : Nat) (S10 : Nat → Prop) (sa1 : Option Addr) (sc1 : Nat) (sb1 : Option Addr) (sd1 : Nat) (sf1 : Option Addr) (sg1 : Nat) (sp1 : Option Addr) (sq1 : Nat) (S20 : Nat → Prop) (a2 : Option Addr) (c2 : Nat) (h00 : ShAt w S00 s a0 c0 b0 d0) (h10 : StAt w S10 x sa1 sc1 sb1 sd1 sf1 sg1 sp1 sq1) (h20 : IntsAt w S20 y a2 c2) :
    Calls Try.prog 4 #[.agg #[.slice a0 s.m.length c0, .slice b0 s.t.length d0], .agg #[.slice sa1 x.v.length sc1, .slice sb1 x.b.length sd1, .slice sf1 x.i.length sg1, .slice sp1 x.t.length sq1], .slice a2 y.length c2] w fun e w' => e = .returned (.bool true) ∧ Below w.heap.size w w' := by
  obtain ⟨S0, hSd0⟩ : ∃ S : Nat → Prop, S = fun b => S00 b ∧ b < w.heap.size := ⟨_, rfl⟩
  have hS0 : ∀ b, S0 b → b < w.heap.size := by rw [hSd0]; exact fun b h => h.2
  have h0 : ShAt w S0 s a0 c0 b0 d0 := by rw [hSd0]; exact h00.lim
  have HS0 := Lib.hid hS0
  obtain ⟨S1, hSd1⟩ : ∃ S : Nat → Prop, S = fun b => S10 b ∧ b < w.heap.size := ⟨_, rfl⟩
  have hS1 : ∀ b, S1 b → b < w.heap.size := by rw [hSd1]; exact fun b h => h.2
  have h1 : StAt w S1 x sa1 sc1 sb1 sd1 sf1 sg1 sp1 sq1 := by rw [hSd1]; exact h10.lim
  have HS1 := Lib.hid hS1
  obtain ⟨S2, hSd2⟩ : ∃ S : Nat → Prop, S = fun b => S20 b ∧ b < w.heap.size := ⟨_, rfl⟩
  have hS2 : ∀ b, S2 b → b < w.heap.size := by rw [hSd2]; exact fun b h => h.2
  have h2 : IntsAt w S2 y a2 c2 := by rw [hSd2]; exact h20.lim
  have HS2 := Lib.hid hS2
  have hlm2 : y.length ≤ 9223372036854775807 := by have := h2.1; have := h2.2.1; omega
  have HF1 := Lib.hid (StAt.fine h1)
  have HF2 := Lib.hid (h2.2.2.1)
  have B0_0 := Lib.hid (Blk.new w 43 #[.slice a0 s.m.length c0, .slice b0 s.t.length d0])
  have B1_0 := Lib.hid (Blk.new ((w.alloc (.cells #[.slice a0 s.m.length c0, .slice b0 s.t.length d0] 43))) 45 #[.slice sa1 x.v.length sc1, .slice sb1 x.b.length sd1, .slice sf1 x.i.length sg1, .slice sp1 x.t.length sq1])
  have B0_1 := Lib.hid (B0_0.out.alloc (.cells #[.slice sa1 x.v.length sc1, .slice sb1 x.b.length sd1, .slice sf1 x.i.length sg1, .slice sp1 x.t.length sq1] 45))
  have HW := Lib.hid (show Below w.heap.size w ((w.alloc (.cells #[.slice a0 s.m.length c0, .slice b0 s.t.length d0] 43)).alloc (.cells #[.slice sa1 x.v.length sc1, .slice sb1 x.b.length sd1, .slice sf1 x.i.length sg1, .slice sp1 x.t.length sq1] 45)) from ((Below.refl _ _).alloc (by simp <;> omega) (.cells #[.slice a0 s.m.length c0, .slice b0 s.t.length d0] 43)).alloc (by simp <;> omega) (.cells #[.slice sa1 x.v.length sc1, .slice sb1 x.b.length sd1, .slice sf1 x.i.length sg1, .slice sp1 x.t.length sq1] 45))
  have A0 := Lib.hid ((h0.alloc (.cells #[.slice a0 s.m.length c0, .slice b0 s.t.length d0] 43)).alloc (.cells #[.slice sa1 x.v.length sc1, .slice sb1 x.b.length sd1, .slice sf1 x.i.length sg1, .slice sp1 x.t.length sq1] 45))
  have A1 := Lib.hid ((h1.alloc (.cells #[.slice a0 s.m.length c0, .slice b0 s.t.length d0] 43)).alloc (.cells #[.slice sa1 x.v.length sc1, .slice sb1 x.b.length sd1, .slice sf1 x.i.length sg1, .slice sp1 x.t.length sq1] 45))
  have A2 := Lib.hid ((h2.alloc (.cells #[.slice a0 s.m.length c0, .slice b0 s.t.length d0] 43)).alloc (.cells #[.slice sa1 x.v.length sc1, .slice sb1 x.b.length sd1, .slice sf1 x.i.length sg1, .slice sp1 x.t.length sq1] 45))
  have BX0 := Lib.hid (show Blk ((w.alloc (.cells #[.slice a0 s.m.length c0, .slice b0 s.t.length d0] 43)).alloc (.cells #[.slice sa1 x.v.length sc1, .slice sb1 x.b.length sd1, .slice sf1 x.i.length sg1, .slice sp1 x.t.length sq1] 45)) (w.heap.size) 43 #[.slice a0 s.m.length c0, .slice b0 s.t.length d0] by have := B0_1.out; simpa using this)
  have BX1 := Lib.hid (show Blk ((w.alloc (.cells #[.slice a0 s.m.length c0, .slice b0 s.t.length d0] 43)).alloc (.cells #[.slice sa1 x.v.length sc1, .slice sb1 x.b.length sd1, .slice sf1 x.i.length sg1, .slice sp1 x.t.length sq1] 45)) (w.heap.size + 1) 45 #[.slice sa1 x.v.length sc1, .slice sb1 x.b.length sd1, .slice sf1 x.i.length sg1, .slice sp1 x.t.length sq1] by have := B1_0.out; simpa using this)
  clear hSd0 hS0 h00 hSd1 hS1 h10 hSd2 hS2 h20 B0_0 h0 h1 h2 B0_1 B1_0
  by_cases hbig2 : 1048576 < y.length
  · go_enter Try.func4, Try.ntmps4
    go_wp2_with fail
    go_ret
    exact ⟨rfl, HW.out⟩
  have hn2 : y.length ≤ 1048576 := by omega
  by_cases hz0 : s.m.length + nodesL s.t ≤ 1048576
  · obtain ⟨q0, hq0⟩ : ∃ q : Nat, q = 1048576 - (s.m.length + nodesL s.t) := ⟨_, rfl⟩
    have HZ0 := Lib.hid (show szN (s.m.length + nodesL s.t) 1048576 = (q0 : Int) by unfold szN; rw [if_pos hz0, hq0]; omega)
    have hqb0 : q0 ≤ 1048576 := by omega
    have HL0 := Lib.hid (show s.m.length + nodesL s.t ≤ 1048576 by omega)
    by_cases hz1 : x.n ≤ q0
    · obtain ⟨q1, hq1⟩ : ∃ q : Nat, q = q0 - (x.n) := ⟨_, rfl⟩
      have HZ1 := Lib.hid (show szN (x.n) q0 = (q1 : Int) by unfold szN; rw [if_pos hz1, hq1]; omega)
      have hqb1 : q1 ≤ 1048576 := by omega
      have HL1 := Lib.hid (show x.n ≤ 1048576 by omega)
      obtain ⟨r, hr⟩ : ∃ r, r = dkO s x y := ⟨_, rfl⟩
      have HFR := Lib.hid (show ∀ v ∈ r, i64ok v by rw [hr]; exact (dkO_bd s x y).1)
      have hrn : r.length ≤ 10 := by rw [hr]; exact (dkO_bd s x y).2
      have hxm : stM x ≤ 2 * x.n := by unfold stM St.n; have := mN_le x.t x.t.length; unfold trM; omega
      have HSP := Lib.hid (show ∀ w e w', DkPost s x y w e w' → Below w.heap.size w w' ∧ ∃ a c S, e = .returned (.slice a r.length c) ∧ IntsAt w' S r a c by rw [hr]; exact fun w e w' ⟨v, he, hr, hb⟩ => by obtain ⟨a, c, hv, hi⟩ := hr.at (dkO_bd s x y).1; exact ⟨hb, a, c, _, by rw [he, hv], hi⟩)
      have HIP := Lib.hid (show ∀ w e w', DkPost s x y w e w' → Below w.heap.size w w' ∧ ∃ a c D, e = .returned (.slice a r.length c) ∧ IntsOw w' D r a c ∧ ∀ z, D z → w.heap.size ≤ z ∧ z < w'.heap.size by rw [hr]; exact fun w e w' ⟨v, he, hr, hb⟩ => by obtain ⟨a, c, D, hv, hi, hD⟩ := hr.ow; exact ⟨hb, a, c, D, by rw [he, hv], hi, hD⟩)
      clear hr
      obtain ⟨k0, hk0⟩ : ∃ k : Nat, k = 1 + (s.m.length + 2 * nodesL s.t) := ⟨_, rfl⟩
      have HK0 := Lib.hid hk0
      obtain ⟨k1, hk1⟩ : ∃ k : Nat, k = k0 + stM x := ⟨_, rfl⟩
      have HK1 := Lib.hid hk1
      obtain ⟨k2, hk2⟩ : ∃ k : Nat, k = k1 + y.length := ⟨_, rfl⟩
      have HK2 := Lib.hid hk2
      have hkb0 : k0 ≤ 20000000 := by have := HL0.out; have := HL1.out; omega
      have hkb1 : k1 ≤ 20000000 := by have := HL0.out; have := HL1.out; omega
      have hkb2 : k2 ≤ 20000000 := by have := HL0.out; have := HL1.out; omega
      clear hk0 hk1 hk2
      obtain ⟨n, hn⟩ : ∃ n : Nat, n = 1 + r.length := ⟨_, rfl⟩
      have HNN := Lib.hid hn
      have hnb : n ≤ 1000000 := by  omega
      have HNE := Lib.hid (show ((n : Int) != (n : Int)) = false by simp)
      clear hn
      clear hz0 hq0 hz1 hq1
      obtain ⟨x0_0, x0_1, -⟩ := BX0.out.two
      obtain ⟨x1_0, x1_1, x1_2, x1_3, -⟩ := BX1.out.four
      go_enter Try.func4, Try.ntmps4
      go_wp2_with fail
      clear x0_0 x0_1 x1_0 x1_1 x1_2 x1_3
      refine (szS_ow _ S0 s a0 c0 b0 d0 1048576 A0.out (by omega)).mono ?_
      rintro e w1 ⟨rfl, hb⟩
      rw [HZ0.out]
      have HW_1 := Lib.hid (HW.out.trans (hb.mono HW.out.size))
      have BX0_1 := Lib.hid (BX0.out.below hb BX0.out.lt)
      have BX1_1 := Lib.hid (BX1.out.below hb BX1.out.lt)
      have A0_1 := Lib.hid (A0.out.below hb)
      have A1_1 := Lib.hid (A1.out.below hb)
      have A2_1 := Lib.hid (A2.out.below hb)
      clear hb HZ0 HW BX0 BX1 A0 A1 A2
      obtain ⟨x0_0, x0_1, -⟩ := BX0_1.out.two
      obtain ⟨x1_0, x1_1, x1_2, x1_3, -⟩ := BX1_1.out.four
      go_wp2_with fail
      clear x0_0 x0_1 x1_0 x1_1 x1_2 x1_3
      refine (szX_ow _ S1 x sa1 sc1 sb1 sd1 sf1 sg1 sp1 sq1 q0 A1_1.out (by omega)).mono ?_
      rintro e w2 ⟨rfl, hb⟩
      rw [HZ1.out]
      have HW_2 := Lib.hid (HW_1.out.trans (hb.mono HW_1.out.size))
      have BX0_2 := Lib.hid (BX0_1.out.below hb BX0_1.out.lt)
      have BX1_2 := Lib.hid (BX1_1.out.below hb BX1_1.out.lt)
      have A0_2 := Lib.hid (A0_1.out.below hb)
      have A1_2 := Lib.hid (A1_1.out.below hb)
      have A2_2 := Lib.hid (A2_1.out.below hb)
      clear hb HZ1 HW_1 BX0_1 BX1_1 A0_1 A1_1 A2_1
      obtain ⟨x0_0, x0_1, -⟩ := BX0_2.out.two
      obtain ⟨x1_0, x1_1, x1_2, x1_3, -⟩ := BX1_2.out.four
      go_wp2_with fail
      clear x0_0 x0_1 x1_0 x1_1 x1_2 x1_3
      obtain ⟨x0_0, x0_1, -⟩ := BX0_2.out.drew.two
      obtain ⟨x1_0, x1_1, x1_2, x1_3, -⟩ := BX1_2.out.drew.four
      go_wp2_with fail
      go_region_held3 (fun w' => w'.cell? ⟨w.heap.size, 0, none⟩ = some (.slice a0 s.m.length c0) ∧ w'.cell? ⟨w.heap.size, 1, none⟩ = some (.slice b0 s.t.length d0) ∧ w'.cell? ⟨w.heap.size + 1, 0, none⟩ = some (.slice sa1 x.v.length sc1) ∧ w'.cell? ⟨w.heap.size + 1, 1, none⟩ = some (.slice sb1 x.b.length sd1) ∧ w'.cell? ⟨w.heap.size + 1, 2, none⟩ = some (.slice sf1 x.i.length sg1) ∧ w'.cell? ⟨w.heap.size + 1, 3, none⟩ = some (.slice sp1 x.t.length sq1)) (first | exact ⟨x0_0, x0_1, x1_0, x1_1, x1_2, x1_3⟩ | exact ⟨v3_0_0, v3_0_1, v3_1_0, v3_1_1, v3_1_2, v3_1_3⟩ | exact ⟨v4_0_0, v4_0_1, v4_1_0, v4_1_1, v4_1_2, v4_1_3⟩ | exact ⟨v5_0_0, v5_0_1, v5_1_0, v5_1_1, v5_1_2, v5_1_3⟩ | exact ⟨v6_0_0, v6_0_1, v6_1_0, v6_1_1, v6_1_2, v6_1_3⟩ | go_keep) (first | (go_at_call 20; refine (copyS_ow _ S0 s a0 c0 b0 d0 (A0_2.out.drew) HL0.out).mono ?_; rintro e w3 ⟨ra3, rc3, rb3, rd3, D3, rfl, ho_3, hD_3, hb_3⟩; obtain ⟨v3_0_0, v3_0_1, -⟩ := ((BX0_2.out.drew).below hb_3 (BX0_2.out.lt)).two; obtain ⟨v3_1_0, v3_1_1, v3_1_2, v3_1_3, -⟩ := ((BX1_2.out.drew).below hb_3 (BX1_2.out.lt)).four) | (go_at_call 21; refine (copyX_ow _ S1 x sa1 sc1 sb1 sd1 sf1 sg1 sp1 sq1 ((A1_2.out.drew).below hb_3) HL1.out).mono ?_; rintro e w4 ⟨rsa4, rsc4, rsb4, rsd4, rsf4, rsg4, rsp4, rsq4, D4, rfl, ho_4, hD_4, hb_4⟩; obtain ⟨v4_0_0, v4_0_1, -⟩ := (((BX0_2.out.drew).below hb_3 (BX0_2.out.lt)).below hb_4 (Nat.lt_of_lt_of_le (BX0_2.out.lt) hb_3.size)).two; obtain ⟨v4_1_0, v4_1_1, v4_1_2, v4_1_3, -⟩ := (((BX1_2.out.drew).below hb_3 (BX1_2.out.lt)).below hb_4 (Nat.lt_of_lt_of_le (BX1_2.out.lt) hb_3.size)).four) | (go_at_call 8; refine (copyI_ow _ S2 y a2 c2 (((A2_2.out.drew).below hb_3).below hb_4) hn2).mono ?_; rintro e w5 ⟨ra5, rc5, D5, rfl, ho_5, hD_5, hb_5⟩; obtain ⟨v5_0_0, v5_0_1, -⟩ := ((((BX0_2.out.drew).below hb_3 (BX0_2.out.lt)).below hb_4 (Nat.lt_of_lt_of_le (BX0_2.out.lt) hb_3.size)).below hb_5 (Nat.lt_of_lt_of_le (Nat.lt_of_lt_of_le (BX0_2.out.lt) hb_3.size) hb_4.size)).two; obtain ⟨v5_1_0, v5_1_1, v5_1_2, v5_1_3, -⟩ := ((((BX1_2.out.drew).below hb_3 (BX1_2.out.lt)).below hb_4 (Nat.lt_of_lt_of_le (BX1_2.out.lt) hb_3.size)).below hb_5 (Nat.lt_of_lt_of_le (Nat.lt_of_lt_of_le (BX1_2.out.lt) hb_3.size) hb_4.size)).four) | (go_at_call 19; refine (specDirty_any s x y _ _ _ _ ra3 rc3 rb3 rd3 rsa4 rsc4 rsb4 rsd4 rsf4 rsg4 rsp4 rsq4 ra5 rc5 (((ho_3.at).below hb_4).below hb_5) ((ho_4.at HF1.out).below hb_5) (ho_5.at HF2.out) (Nat.le_trans (Nat.le_add_left _ _) HL0.out)).mono ?_; intro e w6 hp; obtain ⟨hb_6, ra6, rc6, SW, rfl, hat⟩ := HSP.out _ _ _ hp; clear hp; obtain ⟨v6_0_0, v6_0_1, -⟩ := (((((BX0_2.out.drew).below hb_3 (BX0_2.out.lt)).below hb_4 (Nat.lt_of_lt_of_le (BX0_2.out.lt) hb_3.size)).below hb_5 (Nat.lt_of_lt_of_le (Nat.lt_of_lt_of_le (BX0_2.out.lt) hb_3.size) hb_4.size)).below hb_6 (Nat.lt_of_lt_of_le (Nat.lt_of_lt_of_le (Nat.lt_of_lt_of_le (BX0_2.out.lt) hb_3.size) hb_4.size) hb_5.size)).two; obtain ⟨v6_1_0, v6_1_1, v6_1_2, v6_1_3, -⟩ := (((((BX1_2.out.drew).below hb_3 (BX1_2.out.lt)).below hb_4 (Nat.lt_of_lt_of_le (BX1_2.out.lt) hb_3.size)).below hb_5 (Nat.lt_of_lt_of_le (Nat.lt_of_lt_of_le (BX1_2.out.lt) hb_3.size) hb_4.size)).below hb_6 (Nat.lt_of_lt_of_le (Nat.lt_of_lt_of_le (Nat.lt_of_lt_of_le (BX1_2.out.lt) hb_3.size) hb_4.size) hb_5.size)).four))
      have hb := ((((Below.refl _ _).drew.trans hb_3).trans (hb_4.mono (hb_3.size))).trans (hb_5.mono (Nat.le_trans (hb_3.size) hb_4.size))).trans (hb_6.mono (Nat.le_trans (Nat.le_trans (hb_3.size) hb_4.size) hb_5.size))
      clear hb_3 hb_4 hb_5 hb_6 ho_3 hD_3 ho_4 hD_4 ho_5 hD_5 x0_0 x0_1 x1_0 x1_1 x1_2 x1_3 v3_0_0 v3_0_1 v3_1_0 v3_1_1 v3_1_2 v3_1_3 v4_0_0 v4_0_1 v4_1_0 v4_1_1 v4_1_2 v4_1_3 v5_0_0 v5_0_1 v5_1_0 v5_1_1 v5_1_2 v5_1_3 v6_0_0 v6_0_1 v6_1_0 v6_1_1 v6_1_2 v6_1_3
      have hsW : w.heap.size + 2 ≤ w6.heap.size := by have := hb.size; have := BX1_2.out.lt; omega
      have HW_6 := Lib.hid (HW_2.out.trans (hb.mono HW_2.out.size))
      have BX0_6 := Lib.hid (BX0_2.out.below hb BX0_2.out.lt)
      have BX1_6 := Lib.hid (BX1_2.out.below hb BX1_2.out.lt)
      have A0_6 := Lib.hid (A0_2.out.below hb)
      have A1_6 := Lib.hid (A1_2.out.below hb)
      have A2_6 := Lib.hid (A2_2.out.below hb)
      have WR_6 := Lib.hid (hat.lim.weaken (S' := fun b => b < w6.heap.size) (fun _ h => h.2))
      clear hb hat HW_2 BX0_2 BX1_2 A0_2 A1_2 A2_2
      obtain ⟨x0_0, x0_1, -⟩ := BX0_6.out.two
      obtain ⟨x1_0, x1_1, x1_2, x1_3, -⟩ := BX1_6.out.four
      go_wp2_with fail
      clear x0_0 x0_1 x1_0 x1_1 x1_2 x1_3
      refine (copyS_ow _ S0 s a0 c0 b0 d0 A0_6.out HL0.out).mono ?_
      rintro e w7 ⟨ra7, rc7, rb7, rd7, D7, rfl, ho, hD, hb⟩
      have hs7 := hb.size
      try simp only [World.size_alloc] at hD hs7
      have HW_7 := Lib.hid ((HW_6.out.trans (hb.mono HW_6.out.size)).alloc (Nat.le_trans HW_6.out.size hb.size) (.cells #[.slice ra7 s.m.length rc7, .slice rb7 s.t.length rd7] 51))
      have BX0_7 := Lib.hid ((BX0_6.out.below hb BX0_6.out.lt).alloc (.cells #[.slice ra7 s.m.length rc7, .slice rb7 s.t.length rd7] 51))
      have BX1_7 := Lib.hid ((BX1_6.out.below hb BX1_6.out.lt).alloc (.cells #[.slice ra7 s.m.length rc7, .slice rb7 s.t.length rd7] 51))
      have A0_7 := Lib.hid ((A0_6.out.below hb).alloc (.cells #[.slice ra7 s.m.length rc7, .slice rb7 s.t.length rd7] 51))
      have A1_7 := Lib.hid ((A1_6.out.below hb).alloc (.cells #[.slice ra7 s.m.length rc7, .slice rb7 s.t.length rd7] 51))
      have A2_7 := Lib.hid ((A2_6.out.below hb).alloc (.cells #[.slice ra7 s.m.length rc7, .slice rb7 s.t.length rd7] 51))
      have WR_7 := Lib.hid ((WR_6.out.below hb).alloc (.cells #[.slice ra7 s.m.length rc7, .slice rb7 s.t.length rd7] 51))
      have T0_7 := Lib.hid ((ho.at).alloc (.cells #[.slice ra7 s.m.length rc7, .slice rb7 s.t.length rd7] 51))
      have O0_7 := Lib.hid (ho.below ((Below.refl _ _).alloc (Nat.le_refl _) (.cells #[.slice ra7 s.m.length rc7, .slice rb7 s.t.length rd7] 51)))
      have HD0 := Lib.hid hD
      have XB0_7 := Lib.hid (Blk.new w7 51 #[.slice ra7 s.m.length rc7, .slice rb7 s.t.length rd7])
      clear hb ho hD HW_6 BX0_6 BX1_6 A0_6 A1_6 A2_6 WR_6
      obtain ⟨x0_0, x0_1, -⟩ := BX0_7.out.two
      obtain ⟨x1_0, x1_1, x1_2, x1_3, -⟩ := BX1_7.out.four
      obtain ⟨x2_0, x2_1, -⟩ := XB0_7.out.two
      go_wp2_with fail
      clear x0_0 x0_1 x1_0 x1_1 x1_2 x1_3 x2_0 x2_1
      refine (copyX_ow _ S1 x sa1 sc1 sb1 sd1 sf1 sg1 sp1 sq1 A1_7.out HL1.out).mono ?_
      rintro e w8 ⟨rsa8, rsc8, rsb8, rsd8, rsf8, rsg8, rsp8, rsq8, D8, rfl, ho, hD, hb⟩
      have hs8 := hb.size
      try simp only [World.size_alloc] at hD hs8
      have HW_8 := Lib.hid ((HW_7.out.trans (hb.mono HW_7.out.size)).alloc (Nat.le_trans HW_7.out.size hb.size) (.cells #[.slice rsa8 x.v.length rsc8, .slice rsb8 x.b.length rsd8, .slice rsf8 x.i.length rsg8, .slice rsp8 x.t.length rsq8] 54))
      have BX0_8 := Lib.hid ((BX0_7.out.below hb BX0_7.out.lt).alloc (.cells #[.slice rsa8 x.v.length rsc8, .slice rsb8 x.b.length rsd8, .slice rsf8 x.i.length rsg8, .slice rsp8 x.t.length rsq8] 54))
      have BX1_8 := Lib.hid ((BX1_7.out.below hb BX1_7.out.lt).alloc (.cells #[.slice rsa8 x.v.length rsc8, .slice rsb8 x.b.length rsd8, .slice rsf8 x.i.length rsg8, .slice rsp8 x.t.length rsq8] 54))
      have A0_8 := Lib.hid ((A0_7.out.below hb).alloc (.cells #[.slice rsa8 x.v.length rsc8, .slice rsb8 x.b.length rsd8, .slice rsf8 x.i.length rsg8, .slice rsp8 x.t.length rsq8] 54))
      have A1_8 := Lib.hid ((A1_7.out.below hb).alloc (.cells #[.slice rsa8 x.v.length rsc8, .slice rsb8 x.b.length rsd8, .slice rsf8 x.i.length rsg8, .slice rsp8 x.t.length rsq8] 54))
      have A2_8 := Lib.hid ((A2_7.out.below hb).alloc (.cells #[.slice rsa8 x.v.length rsc8, .slice rsb8 x.b.length rsd8, .slice rsf8 x.i.length rsg8, .slice rsp8 x.t.length rsq8] 54))
      have WR_8 := Lib.hid ((WR_7.out.below hb).alloc (.cells #[.slice rsa8 x.v.length rsc8, .slice rsb8 x.b.length rsd8, .slice rsf8 x.i.length rsg8, .slice rsp8 x.t.length rsq8] 54))
      have T0_8 := Lib.hid ((T0_7.out.below hb).alloc (.cells #[.slice rsa8 x.v.length rsc8, .slice rsb8 x.b.length rsd8, .slice rsf8 x.i.length rsg8, .slice rsp8 x.t.length rsq8] 54))
      have O0_8 := Lib.hid ((O0_7.out.below hb).below ((Below.refl _ _).alloc (Nat.le_refl _) (.cells #[.slice rsa8 x.v.length rsc8, .slice rsb8 x.b.length rsd8, .slice rsf8 x.i.length rsg8, .slice rsp8 x.t.length rsq8] 54)))
      have XB0_8 := Lib.hid ((XB0_7.out.below hb XB0_7.out.lt).alloc (.cells #[.slice rsa8 x.v.length rsc8, .slice rsb8 x.b.length rsd8, .slice rsf8 x.i.length rsg8, .slice rsp8 x.t.length rsq8] 54))
      have T1_8 := Lib.hid ((ho.at HF1.out).alloc (.cells #[.slice rsa8 x.v.length rsc8, .slice rsb8 x.b.length rsd8, .slice rsf8 x.i.length rsg8, .slice rsp8 x.t.length rsq8] 54))
      have O1_8 := Lib.hid (ho.below ((Below.refl _ _).alloc (Nat.le_refl _) (.cells #[.slice rsa8 x.v.length rsc8, .slice rsb8 x.b.length rsd8, .slice rsf8 x.i.length rsg8, .slice rsp8 x.t.length rsq8] 54)))
      have HD1 := Lib.hid hD
      have XB1_8 := Lib.hid (Blk.new w8 54 #[.slice rsa8 x.v.length rsc8, .slice rsb8 x.b.length rsd8, .slice rsf8 x.i.length rsg8, .slice rsp8 x.t.length rsq8])
      clear hb ho hD HW_7 BX0_7 BX1_7 A0_7 A1_7 A2_7 WR_7 T0_7 O0_7 XB0_7
      obtain ⟨x0_0, x0_1, -⟩ := BX0_8.out.two
      obtain ⟨x1_0, x1_1, x1_2, x1_3, -⟩ := BX1_8.out.four
      obtain ⟨x2_0, x2_1, -⟩ := XB0_8.out.two
      obtain ⟨x3_0, x3_1, x3_2, x3_3, -⟩ := XB1_8.out.four
      go_wp2_with fail
      clear x0_0 x0_1 x1_0 x1_1 x1_2 x1_3 x2_0 x2_1 x3_0 x3_1 x3_2 x3_3
      refine (copyI_ow _ S2 y a2 c2 A2_8.out hn2).mono ?_
      rintro e w9 ⟨ra9, rc9, D9, rfl, ho, hD, hb⟩
      have hs9 := hb.size
      try simp only [World.size_alloc] at hD hs9
      have HW_9 := Lib.hid (HW_8.out.trans (hb.mono HW_8.out.size))
      have BX0_9 := Lib.hid (BX0_8.out.below hb BX0_8.out.lt)
      have BX1_9 := Lib.hid (BX1_8.out.below hb BX1_8.out.lt)
      have A0_9 := Lib.hid (A0_8.out.below hb)
      have A1_9 := Lib.hid (A1_8.out.below hb)
      have A2_9 := Lib.hid (A2_8.out.below hb)
      have WR_9 := Lib.hid (WR_8.out.below hb)
      have T0_9 := Lib.hid (T0_8.out.below hb)
      have O0_9 := Lib.hid (O0_8.out.below hb)
      have XB0_9 := Lib.hid (XB0_8.out.below hb XB0_8.out.lt)
      have T1_9 := Lib.hid (T1_8.out.below hb)
      have O1_9 := Lib.hid (O1_8.out.below hb)
      have XB1_9 := Lib.hid (XB1_8.out.below hb XB1_8.out.lt)
      have T2_9 := Lib.hid (ho.at HF2.out)
      have O2_9 := Lib.hid (ho)
      have HD2 := Lib.hid hD
      clear hb ho hD HW_8 BX0_8 BX1_8 A0_8 A1_8 A2_8 WR_8 T0_8 O0_8 XB0_8 T1_8 O1_8 XB1_8
      obtain ⟨x0_0, x0_1, -⟩ := BX0_9.out.two
      obtain ⟨x1_0, x1_1, x1_2, x1_3, -⟩ := BX1_9.out.four
      obtain ⟨x2_0, x2_1, -⟩ := XB0_9.out.two
      obtain ⟨x3_0, x3_1, x3_2, x3_3, -⟩ := XB1_9.out.four
      go_wp2_with fail
      clear x0_0 x0_1 x1_0 x1_1 x1_2 x1_3 x2_0 x2_1 x3_0 x3_1 x3_2 x3_3
      refine (implDirty_any s x y _ _ _ _ ra7 rc7 rb7 rd7 rsa8 rsc8 rsb8 rsd8 rsf8 rsg8 rsp8 rsq8 ra9 rc9 T0_9.out T1_9.out T2_9.out).mono ?_
      intro e w10 hp
      obtain ⟨hb, ra10, rc10, DG, rfl, hg, hDG⟩ := HIP.out _ _ _ hp
      clear hp
      have hs10 := hb.size
      try simp only [World.size_alloc] at hDG hs10
      have HW_10 := Lib.hid (HW_9.out.trans (hb.mono HW_9.out.size))
      have BX0_10 := Lib.hid (BX0_9.out.below hb BX0_9.out.lt)
      have BX1_10 := Lib.hid (BX1_9.out.below hb BX1_9.out.lt)
      have A0_10 := Lib.hid (A0_9.out.below hb)
      have A1_10 := Lib.hid (A1_9.out.below hb)
      have A2_10 := Lib.hid (A2_9.out.below hb)
      have WR_10 := Lib.hid (WR_9.out.below hb)
      have T0_10 := Lib.hid (T0_9.out.below hb)
      have O0_10 := Lib.hid (O0_9.out.below hb)
      have XB0_10 := Lib.hid (XB0_9.out.below hb XB0_9.out.lt)
      have T1_10 := Lib.hid (T1_9.out.below hb)
      have O1_10 := Lib.hid (O1_9.out.below hb)
      have XB1_10 := Lib.hid (XB1_9.out.below hb XB1_9.out.lt)
      have T2_10 := Lib.hid (T2_9.out.below hb)
      have O2_10 := Lib.hid (O2_9.out.below hb)
      have G_10 := Lib.hid (hg)
      have HDG := Lib.hid hDG
      clear hb hg hDG HW_9 BX0_9 BX1_9 A0_9 A1_9 A2_9 WR_9 T0_9 O0_9 XB0_9 T1_9 O1_9 XB1_9 T2_9 O2_9
      obtain ⟨x0_0, x0_1, -⟩ := BX0_10.out.two
      obtain ⟨x1_0, x1_1, x1_2, x1_3, -⟩ := BX1_10.out.four
      obtain ⟨x2_0, x2_1, -⟩ := XB0_10.out.two
      obtain ⟨x3_0, x3_1, x3_2, x3_3, -⟩ := XB1_10.out.four
      go_wp2_with fail
      clear x0_0 x0_1 x1_0 x1_1 x1_2 x1_3 x2_0 x2_1 x3_0 x3_1 x3_2 x3_3
      refine (eqInts_any _ _ _ r ra10 ra6 rc10 rc6 (G_10.out.at HFR.out) WR_10.out).mono ?_
      rintro e w11 ⟨rfl, hb⟩
      have HW_11 := Lib.hid (HW_10.out.trans (hb.mono HW_10.out.size))
      have BX0_11 := Lib.hid (BX0_10.out.below hb BX0_10.out.lt)
      have BX1_11 := Lib.hid (BX1_10.out.below hb BX1_10.out.lt)
      have A0_11 := Lib.hid (A0_10.out.below hb)
      have A1_11 := Lib.hid (A1_10.out.below hb)
      have A2_11 := Lib.hid (A2_10.out.below hb)
      have WR_11 := Lib.hid (WR_10.out.below hb)
      have T0_11 := Lib.hid (T0_10.out.below hb)
      have O0_11 := Lib.hid (O0_10.out.below hb)
      have XB0_11 := Lib.hid (XB0_10.out.below hb XB0_10.out.lt)
      have T1_11 := Lib.hid (T1_10.out.below hb)
      have O1_11 := Lib.hid (O1_10.out.below hb)
      have XB1_11 := Lib.hid (XB1_10.out.below hb XB1_10.out.lt)
      have T2_11 := Lib.hid (T2_10.out.below hb)
      have O2_11 := Lib.hid (O2_10.out.below hb)
      have G_11 := Lib.hid (G_10.out.below hb)
      clear hb HW_10 BX0_10 BX1_10 A0_10 A1_10 A2_10 WR_10 T0_10 O0_10 XB0_10 T1_10 O1_10 XB1_10 T2_10 O2_10 G_10
      obtain ⟨x0_0, x0_1, -⟩ := BX0_11.out.two
      obtain ⟨x1_0, x1_1, x1_2, x1_3, -⟩ := BX1_11.out.four
      obtain ⟨x2_0, x2_1, -⟩ := XB0_11.out.two
      obtain ⟨x3_0, x3_1, x3_2, x3_3, -⟩ := XB1_11.out.four
      go_wp2_with fail
      clear x0_0 x0_1 x1_0 x1_1 x1_2 x1_3 x2_0 x2_1 x3_0 x3_1 x3_2 x3_3
      obtain ⟨y0, y1, -⟩ := XB0_11.out.two
      obtain ⟨z0, z1, -⟩ := BX0_11.out.two
      go_region_held3 (fun w' => w'.cell? ⟨w7.heap.size, 0, none⟩ = some (.slice ra7 s.m.length rc7) ∧ w'.cell? ⟨w7.heap.size, 1, none⟩ = some (.slice rb7 s.t.length rd7) ∧ w'.cell? ⟨w.heap.size, 0, none⟩ = some (.slice a0 s.m.length c0) ∧ w'.cell? ⟨w.heap.size, 1, none⟩ = some (.slice b0 s.t.length d0)) (first | exact ⟨y0, y1, z0, z1⟩ | exact ⟨u0, u1, v0, v1⟩ | exact ⟨p0, p1, q_0, q_1⟩) ((first | (go_at_call 20; refine (copyS_ow _ S0 s a0 c0 b0 d0 A0_11.out.drew HL0.out).mono ?_; rintro e w12 ⟨ra12, rc12, rb12, rd12, D12, rfl, hoq, hDq, hbq⟩; obtain ⟨u0, u1, -⟩ := (XB0_11.out.drew.below hbq XB0_11.out.drew.lt).two; obtain ⟨v0, v1, -⟩ := (BX0_11.out.drew.below hbq BX0_11.out.drew.lt).two) | (go_at_call 23; go_must (refine (eqSheet_any _ _ _ s ra7 rc7 rb7 rd7 ra12 rc12 rb12 rd12 (T0_11.out.drew.below hbq) (hoq.at)).mono ?_; rintro e w13 ⟨rfl, hbr⟩; obtain ⟨p0, p1, -⟩ := ((XB0_11.out.drew.below hbq XB0_11.out.drew.lt).below hbr (XB0_11.out.drew.below hbq XB0_11.out.drew.lt).lt).two; obtain ⟨q_0, q_1, -⟩ := ((BX0_11.out.drew.below hbq BX0_11.out.drew.lt).below hbr (BX0_11.out.drew.below hbq BX0_11.out.drew.lt).lt).two))))
      have HW_13 := Lib.hid ((HW_11.out.drew.trans (hbq.mono HW_11.out.size)).trans (hbr.mono (Nat.le_trans HW_11.out.size hbq.size)))
      have BX0_13 := Lib.hid ((BX0_11.out.drew.below hbq BX0_11.out.drew.lt).below hbr (BX0_11.out.drew.below hbq BX0_11.out.drew.lt).lt)
      have BX1_13 := Lib.hid ((BX1_11.out.drew.below hbq BX1_11.out.drew.lt).below hbr (BX1_11.out.drew.below hbq BX1_11.out.drew.lt).lt)
      have A0_13 := Lib.hid ((A0_11.out.drew.below hbq).below hbr)
      have A1_13 := Lib.hid ((A1_11.out.drew.below hbq).below hbr)
      have A2_13 := Lib.hid ((A2_11.out.drew.below hbq).below hbr)
      have WR_13 := Lib.hid ((WR_11.out.drew.below hbq).below hbr)
      have O0_13 := Lib.hid (((O0_11.out.below (Below.refl _ _).drew).below hbq).below hbr)
      have XB0_13 := Lib.hid ((XB0_11.out.drew.below hbq XB0_11.out.drew.lt).below hbr (XB0_11.out.drew.below hbq XB0_11.out.drew.lt).lt)
      have T1_13 := Lib.hid ((T1_11.out.drew.below hbq).below hbr)
      have O1_13 := Lib.hid (((O1_11.out.below (Below.refl _ _).drew).below hbq).below hbr)
      have XB1_13 := Lib.hid ((XB1_11.out.drew.below hbq XB1_11.out.drew.lt).below hbr (XB1_11.out.drew.below hbq XB1_11.out.drew.lt).lt)
      have T2_13 := Lib.hid ((T2_11.out.drew.below hbq).below hbr)
      have O2_13 := Lib.hid (((O2_11.out.below (Below.refl _ _).drew).below hbq).below hbr)
      have G_13 := Lib.hid (((G_11.out.below (Below.refl _ _).drew).below hbq).below hbr)
      clear hbq hbr hoq hDq y0 y1 z0 z1 u0 u1 v0 v1 p0 p1 q_0 q_1 HW_11 BX0_11 BX1_11 A0_11 A1_11 A2_11 WR_11 T0_11 O0_11 XB0_11 T1_11 O1_11 XB1_11 T2_11 O2_11 G_11
      obtain ⟨x0_0, x0_1, -⟩ := BX0_13.out.two
      obtain ⟨x1_0, x1_1, x1_2, x1_3, -⟩ := BX1_13.out.four
      obtain ⟨x2_0, x2_1, -⟩ := XB0_13.out.two
      obtain ⟨x3_0, x3_1, x3_2, x3_3, -⟩ := XB1_13.out.four
      go_wp2_with fail
      clear x0_0 x0_1 x1_0 x1_1 x1_2 x1_3 x2_0 x2_1 x3_0 x3_1 x3_2 x3_3
      obtain ⟨y0, y1, y2, y3, -⟩ := XB1_13.out.four
      obtain ⟨z0, z1, z2, z3, -⟩ := BX1_13.out.four
      go_region_held3 (fun w' => w'.cell? ⟨w8.heap.size, 0, none⟩ = some (.slice rsa8 x.v.length rsc8) ∧ w'.cell? ⟨w8.heap.size, 1, none⟩ = some (.slice rsb8 x.b.length rsd8) ∧ w'.cell? ⟨w8.heap.size, 2, none⟩ = some (.slice rsf8 x.i.length rsg8) ∧ w'.cell? ⟨w8.heap.size, 3, none⟩ = some (.slice rsp8 x.t.length rsq8) ∧ w'.cell? ⟨w.heap.size + 1, 0, none⟩ = some (.slice sa1 x.v.length sc1) ∧ w'.cell? ⟨w.heap.size + 1, 1, none⟩ = some (.slice sb1 x.b.length sd1) ∧ w'.cell? ⟨w.heap.size + 1, 2, none⟩ = some (.slice sf1 x.i.length sg1) ∧ w'.cell? ⟨w.heap.size + 1, 3, none⟩ = some (.slice sp1 x.t.length sq1)) (first | exact ⟨y0, y1, y2, y3, z0, z1, z2, z3⟩ | exact ⟨u0, u1, u2, u3, v0, v1, v2, v3⟩ | exact ⟨p0, p1, p2, p3, q_0, q_1, q_2, q_3⟩) ((first | (go_at_call 21; refine (copyX_ow _ S1 x sa1 sc1 sb1 sd1 sf1 sg1 sp1 sq1 A1_13.out.drew HL1.out).mono ?_; rintro e w14 ⟨rsa14, rsc14, rsb14, rsd14, rsf14, rsg14, rsp14, rsq14, D14, rfl, hoq, hDq, hbq⟩; obtain ⟨u0, u1, u2, u3, -⟩ := (XB1_13.out.drew.below hbq XB1_13.out.drew.lt).four; obtain ⟨v0, v1, v2, v3, -⟩ := (BX1_13.out.drew.below hbq BX1_13.out.drew.lt).four) | (go_at_call 24; go_must (refine (eqX_ow _ _ _ x rsa8 rsc8 rsb8 rsd8 rsf8 rsg8 rsp8 rsq8 rsa14 rsc14 rsb14 rsd14 rsf14 rsg14 rsp14 rsq14 (T1_13.out.drew.below hbq) (hoq.at HF1.out)).mono ?_; rintro e w15 ⟨rfl, hbr⟩; obtain ⟨p0, p1, p2, p3, -⟩ := ((XB1_13.out.drew.below hbq XB1_13.out.drew.lt).below hbr (XB1_13.out.drew.below hbq XB1_13.out.drew.lt).lt).four; obtain ⟨q_0, q_1, q_2, q_3, -⟩ := ((BX1_13.out.drew.below hbq BX1_13.out.drew.lt).below hbr (BX1_13.out.drew.below hbq BX1_13.out.drew.lt).lt).four))))
      have HW_15 := Lib.hid ((HW_13.out.drew.trans (hbq.mono HW_13.out.size)).trans (hbr.mono (Nat.le_trans HW_13.out.size hbq.size)))
      have BX0_15 := Lib.hid ((BX0_13.out.drew.below hbq BX0_13.out.drew.lt).below hbr (BX0_13.out.drew.below hbq BX0_13.out.drew.lt).lt)
      have BX1_15 := Lib.hid ((BX1_13.out.drew.below hbq BX1_13.out.drew.lt).below hbr (BX1_13.out.drew.below hbq BX1_13.out.drew.lt).lt)
      have A0_15 := Lib.hid ((A0_13.out.drew.below hbq).below hbr)
      have A1_15 := Lib.hid ((A1_13.out.drew.below hbq).below hbr)
      have A2_15 := Lib.hid ((A2_13.out.drew.below hbq).below hbr)
      have WR_15 := Lib.hid ((WR_13.out.drew.below hbq).below hbr)
      have O0_15 := Lib.hid (((O0_13.out.below (Below.refl _ _).drew).below hbq).below hbr)
      have XB0_15 := Lib.hid ((XB0_13.out.drew.below hbq XB0_13.out.drew.lt).below hbr (XB0_13.out.drew.below hbq XB0_13.out.drew.lt).lt)
      have O1_15 := Lib.hid (((O1_13.out.below (Below.refl _ _).drew).below hbq).below hbr)
      have XB1_15 := Lib.hid ((XB1_13.out.drew.below hbq XB1_13.out.drew.lt).below hbr (XB1_13.out.drew.below hbq XB1_13.out.drew.lt).lt)
      have T2_15 := Lib.hid ((T2_13.out.drew.below hbq).below hbr)
      have O2_15 := Lib.hid (((O2_13.out.below (Below.refl _ _).drew).below hbq).below hbr)
      have G_15 := Lib.hid (((G_13.out.below (Below.refl _ _).drew).below hbq).below hbr)
      clear hbq hbr hoq hDq y0 y1 y2 y3 z0 z1 z2 z3 u0 u1 u2 u3 v0 v1 v2 v3 p0 p1 p2 p3 q_0 q_1 q_2 q_3 HW_13 BX0_13 BX1_13 A0_13 A1_13 A2_13 WR_13 O0_13 XB0_13 T1_13 O1_13 XB1_13 T2_13 O2_13 G_13
      obtain ⟨x0_0, x0_1, -⟩ := BX0_15.out.two
      obtain ⟨x1_0, x1_1, x1_2, x1_3, -⟩ := BX1_15.out.four
      obtain ⟨x2_0, x2_1, -⟩ := XB0_15.out.two
      obtain ⟨x3_0, x3_1, x3_2, x3_3, -⟩ := XB1_15.out.four
      go_wp2_with fail
      clear x0_0 x0_1 x1_0 x1_1 x1_2 x1_3 x2_0 x2_1 x3_0 x3_1 x3_2 x3_3
      refine (copyI_ow _ S2 y a2 c2 A2_15.out hn2).mono ?_
      rintro e w16 ⟨ra16, rc16, D16, rfl, ho, hD, hb⟩
      have HW_16 := Lib.hid (HW_15.out.trans (hb.mono HW_15.out.size))
      have BX0_16 := Lib.hid (BX0_15.out.below hb BX0_15.out.lt)
      have BX1_16 := Lib.hid (BX1_15.out.below hb BX1_15.out.lt)
      have A0_16 := Lib.hid (A0_15.out.below hb)
      have A1_16 := Lib.hid (A1_15.out.below hb)
      have A2_16 := Lib.hid (A2_15.out.below hb)
      have WR_16 := Lib.hid (WR_15.out.below hb)
      have O0_16 := Lib.hid (O0_15.out.below hb)
      have XB0_16 := Lib.hid (XB0_15.out.below hb XB0_15.out.lt)
      have O1_16 := Lib.hid (O1_15.out.below hb)
      have XB1_16 := Lib.hid (XB1_15.out.below hb XB1_15.out.lt)
      have T2_16 := Lib.hid (T2_15.out.below hb)
      have O2_16 := Lib.hid (O2_15.out.below hb)
      have G_16 := Lib.hid (G_15.out.below hb)
      have E2_16 := Lib.hid (ho.at HF2.out)
      clear hb ho hD HW_15 BX0_15 BX1_15 A0_15 A1_15 A2_15 WR_15 O0_15 XB0_15 O1_15 XB1_15 T2_15 O2_15 G_15
      obtain ⟨x0_0, x0_1, -⟩ := BX0_16.out.two
      obtain ⟨x1_0, x1_1, x1_2, x1_3, -⟩ := BX1_16.out.four
      obtain ⟨x2_0, x2_1, -⟩ := XB0_16.out.two
      obtain ⟨x3_0, x3_1, x3_2, x3_3, -⟩ := XB1_16.out.four
      go_wp2_with fail
      clear x0_0 x0_1 x1_0 x1_1 x1_2 x1_3 x2_0 x2_1 x3_0 x3_1 x3_2 x3_3
      refine (eqInts_any _ _ _ y ra9 ra16 rc9 rc16 T2_16.out E2_16.out).mono ?_
      rintro e w17 ⟨rfl, hb⟩
      have HW_17 := Lib.hid (HW_16.out.trans (hb.mono HW_16.out.size))
      have BX0_17 := Lib.hid (BX0_16.out.below hb BX0_16.out.lt)
      have BX1_17 := Lib.hid (BX1_16.out.below hb BX1_16.out.lt)
      have A0_17 := Lib.hid (A0_16.out.below hb)
      have A1_17 := Lib.hid (A1_16.out.below hb)
      have A2_17 := Lib.hid (A2_16.out.below hb)
      have WR_17 := Lib.hid (WR_16.out.below hb)
      have O0_17 := Lib.hid (O0_16.out.below hb)
      have XB0_17 := Lib.hid (XB0_16.out.below hb XB0_16.out.lt)
      have O1_17 := Lib.hid (O1_16.out.below hb)
      have XB1_17 := Lib.hid (XB1_16.out.below hb XB1_16.out.lt)
      have O2_17 := Lib.hid (O2_16.out.below hb)
      have G_17 := Lib.hid (G_16.out.below hb)
      clear hb HW_16 BX0_16 BX1_16 A0_16 A1_16 A2_16 WR_16 O0_16 XB0_16 O1_16 XB1_16 T2_16 O2_16 G_16 E2_16
      obtain ⟨x0_0, x0_1, -⟩ := BX0_17.out.two
      obtain ⟨x1_0, x1_1, x1_2, x1_3, -⟩ := BX1_17.out.four
      obtain ⟨x2_0, x2_1, -⟩ := XB0_17.out.two
      obtain ⟨x3_0, x3_1, x3_2, x3_3, -⟩ := XB1_17.out.four
      go_wp2_with fail
      clear x0_0 x0_1 x1_0 x1_1 x1_2 x1_3 x2_0 x2_1 x3_0 x3_1 x3_2 x3_3
      refine (markS_ow _ D7 s ra7 rc7 rb7 rd7 1 O0_17.out HL0.out (by omega)).mono ?_
      rintro e w18 hm
      obtain ⟨rfl, hfr⟩ := hm
      rw [← HK0.out]
      have HW_18 := Lib.hid (Below.frD HW_17.out hfr (fun b hb => by have := HD0.out _ hb; omega))
      have BX0_18 := Lib.hid (BX0_17.out.fr hfr (fun hb => by have := HD0.out _ hb; omega))
      have BX1_18 := Lib.hid (BX1_17.out.fr hfr (fun hb => by have := HD0.out _ hb; omega))
      have A0_18 := Lib.hid (A0_17.out.fr hfr (fun b hs hb => by have := HD0.out _ hb; have := HS0.out b hs; omega))
      have A1_18 := Lib.hid (A1_17.out.fr hfr (fun b hs hb => by have := HD0.out _ hb; have := HS1.out b hs; omega))
      have A2_18 := Lib.hid (A2_17.out.fr hfr (fun b hs hb => by have := HD0.out _ hb; have := HS2.out b hs; omega))
      have WR_18 := Lib.hid (WR_17.out.fr hfr (fun b hs hb => by have := HD0.out _ hb; omega))
      have O1_18 := Lib.hid (O1_17.out.fr hfr (fun b hs hb => by have := HD0.out _ hb; have := HD1.out b hs; omega))
      have XB1_18 := Lib.hid (XB1_17.out.fr hfr (fun hb => by have := HD0.out _ hb; omega))
      have O2_18 := Lib.hid (O2_17.out.fr hfr (fun b hs hb => by have := HD0.out _ hb; have := HD2.out b hs; omega))
      have G_18 := Lib.hid (G_17.out.fr hfr (fun b hs hb => by have := HD0.out _ hb; have := HDG.out b hs; omega))
      clear hfr HW_17 BX0_17 BX1_17 A0_17 A1_17 A2_17 WR_17 O0_17 XB0_17 O1_17 XB1_17 O2_17 G_17
      obtain ⟨x0_0, x0_1, -⟩ := BX0_18.out.two
      obtain ⟨x1_0, x1_1, x1_2, x1_3, -⟩ := BX1_18.out.four
      obtain ⟨x2_0, x2_1, x2_2, x2_3, -⟩ := XB1_18.out.four
      go_wp2_with fail
      clear x0_0 x0_1 x1_0 x1_1 x1_2 x1_3 x2_0 x2_1 x2_2 x2_3
      refine (markX_ow _ D8 x rsa8 rsc8 rsb8 rsd8 rsf8 rsg8 rsp8 rsq8 k0 O1_18.out HL1.out (by omega)).mono ?_
      rintro e w19 hm
      obtain ⟨rfl, hfr, _⟩ := hm
      rw [← HK1.out]
      have HW_19 := Lib.hid (Below.frD HW_18.out hfr (fun b hb => by have := HD1.out _ hb; omega))
      have BX0_19 := Lib.hid (BX0_18.out.fr hfr (fun hb => by have := HD1.out _ hb; omega))
      have BX1_19 := Lib.hid (BX1_18.out.fr hfr (fun hb => by have := HD1.out _ hb; omega))
      have A0_19 := Lib.hid (A0_18.out.fr hfr (fun b hs hb => by have := HD1.out _ hb; have := HS0.out b hs; omega))
      have A1_19 := Lib.hid (A1_18.out.fr hfr (fun b hs hb => by have := HD1.out _ hb; have := HS1.out b hs; omega))
      have A2_19 := Lib.hid (A2_18.out.fr hfr (fun b hs hb => by have := HD1.out _ hb; have := HS2.out b hs; omega))
      have WR_19 := Lib.hid (WR_18.out.fr hfr (fun b hs hb => by have := HD1.out _ hb; omega))
      have O2_19 := Lib.hid (O2_18.out.fr hfr (fun b hs hb => by have := HD1.out _ hb; have := HD2.out b hs; omega))
      have G_19 := Lib.hid (G_18.out.fr hfr (fun b hs hb => by have := HD1.out _ hb; have := HDG.out b hs; omega))
      clear hfr HW_18 BX0_18 BX1_18 A0_18 A1_18 A2_18 WR_18 O1_18 XB1_18 O2_18 G_18
      obtain ⟨x0_0, x0_1, -⟩ := BX0_19.out.two
      obtain ⟨x1_0, x1_1, x1_2, x1_3, -⟩ := BX1_19.out.four
      go_wp2_with fail
      clear x0_0 x0_1 x1_0 x1_1 x1_2 x1_3
      refine (markI_ow _ D9 y ra9 rc9 k1 O2_19.out (by omega) (by omega)).mono ?_
      rintro e w20 hm
      obtain ⟨rfl, hfr, _⟩ := hm
      rw [← HK2.out]
      have HW_20 := Lib.hid (Below.frD HW_19.out hfr (fun b hb => by have := HD2.out _ hb; omega))
      have BX0_20 := Lib.hid (BX0_19.out.fr hfr (fun hb => by have := HD2.out _ hb; omega))
      have BX1_20 := Lib.hid (BX1_19.out.fr hfr (fun hb => by have := HD2.out _ hb; omega))
      have A0_20 := Lib.hid (A0_19.out.fr hfr (fun b hs hb => by have := HD2.out _ hb; have := HS0.out b hs; omega))
      have A1_20 := Lib.hid (A1_19.out.fr hfr (fun b hs hb => by have := HD2.out _ hb; have := HS1.out b hs; omega))
      have A2_20 := Lib.hid (A2_19.out.fr hfr (fun b hs hb => by have := HD2.out _ hb; have := HS2.out b hs; omega))
      have WR_20 := Lib.hid (WR_19.out.fr hfr (fun b hs hb => by have := HD2.out _ hb; omega))
      have G_20 := Lib.hid (G_19.out.fr hfr (fun b hs hb => by have := HD2.out _ hb; have := HDG.out b hs; omega))
      clear hfr HW_19 BX0_19 BX1_19 A0_19 A1_19 A2_19 WR_19 O2_19 G_19
      obtain ⟨x0_0, x0_1, -⟩ := BX0_20.out.two
      obtain ⟨x1_0, x1_1, x1_2, x1_3, -⟩ := BX1_20.out.four
      go_wp2_with fail
      clear x0_0 x0_1 x1_0 x1_1 x1_2 x1_3
      refine (eqInts_any _ _ _ r ra10 ra6 rc10 rc6 (G_20.out.at HFR.out) WR_20.out).mono ?_
      rintro e w21 ⟨rfl, hb⟩
      have HW_21 := Lib.hid (HW_20.out.trans (hb.mono HW_20.out.size))
      have BX0_21 := Lib.hid (BX0_20.out.below hb BX0_20.out.lt)
      have BX1_21 := Lib.hid (BX1_20.out.below hb BX1_20.out.lt)
      have A0_21 := Lib.hid (A0_20.out.below hb)
      have A1_21 := Lib.hid (A1_20.out.below hb)
      have A2_21 := Lib.hid (A2_20.out.below hb)
      have WR_21 := Lib.hid (WR_20.out.below hb)
      have G_21 := Lib.hid (G_20.out.below hb)
      clear hb HW_20 BX0_20 BX1_20 A0_20 A1_20 A2_20 WR_20 G_20
      obtain ⟨x0_0, x0_1, -⟩ := BX0_21.out.two
      obtain ⟨x1_0, x1_1, x1_2, x1_3, -⟩ := BX1_21.out.four
      go_wp2_with fail
      clear x0_0 x0_1 x1_0 x1_1 x1_2 x1_3
      refine (markI_ow _ DG r ra10 rc10 1 G_21.out (by omega) (by omega)).mono ?_
      rintro e w22 hm
      obtain ⟨rfl, hfr, hmk⟩ := hm
      rw [← HNN.out]
      have HW_22 := Lib.hid (Below.frD HW_21.out hfr (fun b hb => by have := HDG.out _ hb; omega))
      have BX0_22 := Lib.hid (BX0_21.out.fr hfr (fun hb => by have := HDG.out _ hb; omega))
      have BX1_22 := Lib.hid (BX1_21.out.fr hfr (fun hb => by have := HDG.out _ hb; omega))
      have A0_22 := Lib.hid (A0_21.out.fr hfr (fun b hs hb => by have := HDG.out _ hb; have := HS0.out b hs; omega))
      have A1_22 := Lib.hid (A1_21.out.fr hfr (fun b hs hb => by have := HDG.out _ hb; have := HS1.out b hs; omega))
      have A2_22 := Lib.hid (A2_21.out.fr hfr (fun b hs hb => by have := HDG.out _ hb; have := HS2.out b hs; omega))
      have WR_22 := Lib.hid (WR_21.out.fr hfr (fun b hs hb => by have := HDG.out _ hb; omega))
      have M_22 := Lib.hid hmk
      clear hfr hmk HW_21 BX0_21 BX1_21 A0_21 A1_21 A2_21 WR_21 G_21
      obtain ⟨x0_0, x0_1, -⟩ := BX0_22.out.two
      obtain ⟨x1_0, x1_1, x1_2, x1_3, -⟩ := BX1_22.out.four
      go_wp2_with fail
      clear x0_0 x0_1 x1_0 x1_1 x1_2 x1_3
      refine (heldI_ow _ DG r.length 1 ra10 rc10  M_22.out (by omega) (by omega)).mono ?_
      rintro e w23 ⟨rfl, rfl⟩
      rw [← HNN.out]
      have hne := HNE.out
      obtain ⟨x0_0, x0_1, -⟩ := BX0_22.out.two
      obtain ⟨x1_0, x1_1, x1_2, x1_3, -⟩ := BX1_22.out.four
      go_wp2_with fail
      clear x0_0 x0_1 x1_0 x1_1 x1_2 x1_3
      clear hne
      obtain ⟨x0_0, x0_1, -⟩ := BX0_22.out.drew.two
      obtain ⟨x1_0, x1_1, x1_2, x1_3, -⟩ := BX1_22.out.drew.four
      go_wp2_with fail
      go_region_held3 (fun w' => w'.cell? ⟨w.heap.size, 0, none⟩ = some (.slice a0 s.m.length c0) ∧ w'.cell? ⟨w.heap.size, 1, none⟩ = some (.slice b0 s.t.length d0) ∧ w'.cell? ⟨w.heap.size + 1, 0, none⟩ = some (.slice sa1 x.v.length sc1) ∧ w'.cell? ⟨w.heap.size + 1, 1, none⟩ = some (.slice sb1 x.b.length sd1) ∧ w'.cell? ⟨w.heap.size + 1, 2, none⟩ = some (.slice sf1 x.i.length sg1) ∧ w'.cell? ⟨w.heap.size + 1, 3, none⟩ = some (.slice sp1 x.t.length sq1)) (first | exact ⟨x0_0, x0_1, x1_0, x1_1, x1_2, x1_3⟩ | exact ⟨v24_0_0, v24_0_1, v24_1_0, v24_1_1, v24_1_2, v24_1_3⟩ | exact ⟨v25_0_0, v25_0_1, v25_1_0, v25_1_1, v25_1_2, v25_1_3⟩ | exact ⟨v26_0_0, v26_0_1, v26_1_0, v26_1_1, v26_1_2, v26_1_3⟩ | exact ⟨v27_0_0, v27_0_1, v27_1_0, v27_1_1, v27_1_2, v27_1_3⟩ | go_keep) (first | (go_at_call 20; refine (copyS_ow _ S0 s a0 c0 b0 d0 (A0_22.out.drew) HL0.out).mono ?_; rintro e w24 ⟨ra24, rc24, rb24, rd24, D24, rfl, ho_24, hD_24, hb_24⟩; obtain ⟨v24_0_0, v24_0_1, -⟩ := ((BX0_22.out.drew).below hb_24 (BX0_22.out.lt)).two; obtain ⟨v24_1_0, v24_1_1, v24_1_2, v24_1_3, -⟩ := ((BX1_22.out.drew).below hb_24 (BX1_22.out.lt)).four) | (go_at_call 21; refine (copyX_ow _ S1 x sa1 sc1 sb1 sd1 sf1 sg1 sp1 sq1 ((A1_22.out.drew).below hb_24) HL1.out).mono ?_; rintro e w25 ⟨rsa25, rsc25, rsb25, rsd25, rsf25, rsg25, rsp25, rsq25, D25, rfl, ho_25, hD_25, hb_25⟩; obtain ⟨v25_0_0, v25_0_1, -⟩ := (((BX0_22.out.drew).below hb_24 (BX0_22.out.lt)).below hb_25 (Nat.lt_of_lt_of_le (BX0_22.out.lt) hb_24.size)).two; obtain ⟨v25_1_0, v25_1_1, v25_1_2, v25_1_3, -⟩ := (((BX1_22.out.drew).below hb_24 (BX1_22.out.lt)).below hb_25 (Nat.lt_of_lt_of_le (BX1_22.out.lt) hb_24.size)).four) | (go_at_call 8; refine (copyI_ow _ S2 y a2 c2 (((A2_22.out.drew).below hb_24).below hb_25) hn2).mono ?_; rintro e w26 ⟨ra26, rc26, D26, rfl, ho_26, hD_26, hb_26⟩; obtain ⟨v26_0_0, v26_0_1, -⟩ := ((((BX0_22.out.drew).below hb_24 (BX0_22.out.lt)).below hb_25 (Nat.lt_of_lt_of_le (BX0_22.out.lt) hb_24.size)).below hb_26 (Nat.lt_of_lt_of_le (Nat.lt_of_lt_of_le (BX0_22.out.lt) hb_24.size) hb_25.size)).two; obtain ⟨v26_1_0, v26_1_1, v26_1_2, v26_1_3, -⟩ := ((((BX1_22.out.drew).below hb_24 (BX1_22.out.lt)).below hb_25 (Nat.lt_of_lt_of_le (BX1_22.out.lt) hb_24.size)).below hb_26 (Nat.lt_of_lt_of_le (Nat.lt_of_lt_of_le (BX1_22.out.lt) hb_24.size) hb_25.size)).four) | (go_at_call 22; refine (implDirty_any s x y _ _ _ _ ra24 rc24 rb24 rd24 rsa25 rsc25 rsb25 rsd25 rsf25 rsg25 rsp25 rsq25 ra26 rc26 (((ho_24.at).below hb_25).below hb_26) ((ho_25.at HF1.out).below hb_26) (ho_26.at HF2.out)).mono ?_; intro e w27 hp; obtain ⟨hb_27, ra27, rc27, DH, rfl, hg, hDG⟩ := HIP.out _ _ _ hp; clear hp; obtain ⟨v27_0_0, v27_0_1, -⟩ := (((((BX0_22.out.drew).below hb_24 (BX0_22.out.lt)).below hb_25 (Nat.lt_of_lt_of_le (BX0_22.out.lt) hb_24.size)).below hb_26 (Nat.lt_of_lt_of_le (Nat.lt_of_lt_of_le (BX0_22.out.lt) hb_24.size) hb_25.size)).below hb_27 (Nat.lt_of_lt_of_le (Nat.lt_of_lt_of_le (Nat.lt_of_lt_of_le (BX0_22.out.lt) hb_24.size) hb_25.size) hb_26.size)).two; obtain ⟨v27_1_0, v27_1_1, v27_1_2, v27_1_3, -⟩ := (((((BX1_22.out.drew).below hb_24 (BX1_22.out.lt)).below hb_25 (Nat.lt_of_lt_of_le (BX1_22.out.lt) hb_24.size)).below hb_26 (Nat.lt_of_lt_of_le (Nat.lt_of_lt_of_le (BX1_22.out.lt) hb_24.size) hb_25.size)).below hb_27 (Nat.lt_of_lt_of_le (Nat.lt_of_lt_of_le (Nat.lt_of_lt_of_le (BX1_22.out.lt) hb_24.size) hb_25.size) hb_26.size)).four))
      have hb := ((((Below.refl _ _).drew.trans hb_24).trans (hb_25.mono (hb_24.size))).trans (hb_26.mono (Nat.le_trans (hb_24.size) hb_25.size))).trans (hb_27.mono (Nat.le_trans (Nat.le_trans (hb_24.size) hb_25.size) hb_26.size))
      clear hb_24 hb_25 hb_26 hb_27 ho_24 hD_24 ho_25 hD_25 ho_26 hD_26 x0_0 x0_1 x1_0 x1_1 x1_2 x1_3 v24_0_0 v24_0_1 v24_1_0 v24_1_1 v24_1_2 v24_1_3 v25_0_0 v25_0_1 v25_1_0 v25_1_1 v25_1_2 v25_1_3 v26_0_0 v26_0_1 v26_1_0 v26_1_1 v26_1_2 v26_1_3 v27_0_0 v27_0_1 v27_1_0 v27_1_1 v27_1_2 v27_1_3
      have HW_27 := Lib.hid (HW_22.out.trans (hb.mono HW_22.out.size))
      have BX0_27 := Lib.hid (BX0_22.out.below hb BX0_22.out.lt)
      have BX1_27 := Lib.hid (BX1_22.out.below hb BX1_22.out.lt)
      have WR_27 := Lib.hid (WR_22.out.below hb)
      have M_27 := Lib.hid (M_22.out.below hb)
      have HG_27 := Lib.hid (hg.at HFR.out)
      clear hb hg hDG HW_22 BX0_22 BX1_22 A0_22 A1_22 A2_22 WR_22 M_22
      obtain ⟨x0_0, x0_1, -⟩ := BX0_27.out.two
      obtain ⟨x1_0, x1_1, x1_2, x1_3, -⟩ := BX1_27.out.four
      go_wp2_with fail
      clear x0_0 x0_1 x1_0 x1_1 x1_2 x1_3
      refine (eqInts_any _ _ _ r ra27 ra6 rc27 rc6 HG_27.out WR_27.out).mono ?_
      rintro e w28 ⟨rfl, hb⟩
      have HW_28 := Lib.hid (HW_27.out.trans (hb.mono HW_27.out.size))
      have BX0_28 := Lib.hid (BX0_27.out.below hb BX0_27.out.lt)
      have BX1_28 := Lib.hid (BX1_27.out.below hb BX1_27.out.lt)
      have WR_28 := Lib.hid (WR_27.out.below hb)
      have M_28 := Lib.hid (M_27.out.below hb)
      clear hb HW_27 BX0_27 BX1_27 WR_27 M_27 HG_27
      obtain ⟨x0_0, x0_1, -⟩ := BX0_28.out.two
      obtain ⟨x1_0, x1_1, x1_2, x1_3, -⟩ := BX1_28.out.four
      go_wp2_with fail
      clear x0_0 x0_1 x1_0 x1_1 x1_2 x1_3
      refine (heldI_ow _ DG r.length 1 ra10 rc10  M_28.out (by omega) (by omega)).mono ?_
      rintro e w29 ⟨rfl, rfl⟩
      rw [← HNN.out]
      have hne := HNE.out
      obtain ⟨x0_0, x0_1, -⟩ := BX0_28.out.two
      obtain ⟨x1_0, x1_1, x1_2, x1_3, -⟩ := BX1_28.out.four
      go_wp2_with fail
      clear x0_0 x0_1 x1_0 x1_1 x1_2 x1_3
      clear hne
      go_ret
      exact ⟨rfl, HW_28.out⟩
    · have HZ := Lib.hid (show szN (x.n) q0 = -1 by unfold szN; rw [if_neg hz1])
      clear hz1
      clear hz0 hq0
      obtain ⟨x0_0, x0_1, -⟩ := BX0.out.two
      obtain ⟨x1_0, x1_1, x1_2, x1_3, -⟩ := BX1.out.four
      go_enter Try.func4, Try.ntmps4
      go_wp2_with fail
      clear x0_0 x0_1 x1_0 x1_1 x1_2 x1_3
      refine (szS_ow _ S0 s a0 c0 b0 d0 1048576 A0.out (by omega)).mono ?_
      rintro e w30 ⟨rfl, hb⟩
      rw [HZ0.out]
      have HW_30 := Lib.hid (HW.out.trans (hb.mono HW.out.size))
      have BX0_30 := Lib.hid (BX0.out.below hb BX0.out.lt)
      have BX1_30 := Lib.hid (BX1.out.below hb BX1.out.lt)
      have A0_30 := Lib.hid (A0.out.below hb)
      have A1_30 := Lib.hid (A1.out.below hb)
      have A2_30 := Lib.hid (A2.out.below hb)
      clear hb HW BX0 BX1 A0 A1 A2
      obtain ⟨x0_0, x0_1, -⟩ := BX0_30.out.two
      obtain ⟨x1_0, x1_1, x1_2, x1_3, -⟩ := BX1_30.out.four
      go_wp2_with fail
      clear x0_0 x0_1 x1_0 x1_1 x1_2 x1_3
      refine (szX_ow _ S1 x sa1 sc1 sb1 sd1 sf1 sg1 sp1 sq1 q0 A1_30.out (by omega)).mono ?_
      rintro e w31 ⟨rfl, hb⟩
      rw [HZ.out]
      have HW_31 := Lib.hid (HW_30.out.trans (hb.mono HW_30.out.size))
      have BX0_31 := Lib.hid (BX0_30.out.below hb BX0_30.out.lt)
      have BX1_31 := Lib.hid (BX1_30.out.below hb BX1_30.out.lt)
      have A0_31 := Lib.hid (A0_30.out.below hb)
      have A1_31 := Lib.hid (A1_30.out.below hb)
      have A2_31 := Lib.hid (A2_30.out.below hb)
      clear hb HW_30 BX0_30 BX1_30 A0_30 A1_30 A2_30
      go_wp2_with fail
      go_ret
      exact ⟨rfl, HW_31.out⟩
  · have HZ := Lib.hid (show szN (s.m.length + nodesL s.t) 1048576 = -1 by unfold szN; rw [if_neg hz0])
    clear hz0
    obtain ⟨x0_0, x0_1, -⟩ := BX0.out.two
    obtain ⟨x1_0, x1_1, x1_2, x1_3, -⟩ := BX1.out.four
    go_enter Try.func4, Try.ntmps4
    go_wp2_with fail
    clear x0_0 x0_1 x1_0 x1_1 x1_2 x1_3
    refine (szS_ow _ S0 s a0 c0 b0 d0 1048576 A0.out (by omega)).mono ?_
    rintro e w32 ⟨rfl, hb⟩
    rw [HZ.out]
    have HW_32 := Lib.hid (HW.out.trans (hb.mono HW.out.size))
    have BX0_32 := Lib.hid (BX0.out.below hb BX0.out.lt)
    have BX1_32 := Lib.hid (BX1.out.below hb BX1.out.lt)
    have A0_32 := Lib.hid (A0.out.below hb)
    have A1_32 := Lib.hid (A1.out.below hb)
    have A2_32 := Lib.hid (A2.out.below hb)
    clear hb HW BX0 BX1 A0 A1 A2
    go_wp2_with fail
    go_ret
    exact ⟨rfl, HW_32.out⟩
end Go.Proofs.Ythjfmpeicjmlkaa
