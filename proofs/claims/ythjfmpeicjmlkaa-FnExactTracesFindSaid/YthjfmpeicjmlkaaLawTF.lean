/- the walk of laws.FnExactTracesFind (written by wip/tools/gen_law.py) -/
import Derived.Test.YthjfmpeicjmlkaaTrFd
import Derived.Test.YthjfmpeicjmlkaaTrT
import Derived.WalkSpells
import Derived.Deep.RegionHeld3
namespace Go.Proofs.Ythjfmpeicjmlkaa
open Go.RowKit

set_option maxRecDepth 100000 in
set_option maxHeartbeats 8000000 in
theorem walk_exactTracesFind (l : List Tr) (key : Int) (y : List Int) (w : World) (S00 : Nat → Prop) (a0 : Option Addr) (c0 : Nat) (S20 : Nat → Prop) (a2 : Option Addr) (c2 : Nat) (h00 : TrsAt w S00 l a0 c0) (h20 : IntsAt w S20 y a2 c2) :
    Calls Try.prog 3 #[.slice a0 l.length c0, .int .i64 key, .slice a2 y.length c2] w fun e w' => e = .returned (.bool true) ∧ Below w.heap.size w w' := by
  obtain ⟨S0, hSd0⟩ : ∃ S : Nat → Prop, S = fun b => S00 b ∧ b < w.heap.size := ⟨_, rfl⟩
  have hS0 : ∀ b, S0 b → b < w.heap.size := by rw [hSd0]; exact fun b h => h.2
  have h0 : TrsAt w S0 l a0 c0 := by rw [hSd0]; exact h00.lim
  have HS0 := Lib.hid hS0
  obtain ⟨S2, hSd2⟩ : ∃ S : Nat → Prop, S = fun b => S20 b ∧ b < w.heap.size := ⟨_, rfl⟩
  have hS2 : ∀ b, S2 b → b < w.heap.size := by rw [hSd2]; exact fun b h => h.2
  have h2 : IntsAt w S2 y a2 c2 := by rw [hSd2]; exact h20.lim
  have HS2 := Lib.hid hS2
  have hlm2 : y.length ≤ 9223372036854775807 := by have := h2.1; have := h2.2.1; omega
  have HF0 := Lib.hid (TrsAt.fine h0)
  have HF2 := Lib.hid (h2.2.2.1)
  have HW := Lib.hid (show Below w.heap.size w w from Below.refl _ _)
  have A0 := Lib.hid h0
  have A2 := Lib.hid h2
  clear hSd0 hS0 h00 hSd2 hS2 h20 h0 h2
  by_cases hbig2 : 1048576 < y.length
  · go_enter Try.func3, Try.ntmps3
    go_wp2_with fail
    go_ret
    exact ⟨rfl, HW.out⟩
  have hn2 : y.length ≤ 1048576 := by omega
  by_cases hz0 : trN l ≤ 1048576
  · obtain ⟨q0, hq0⟩ : ∃ q : Nat, q = 1048576 - (trN l) := ⟨_, rfl⟩
    have HZ0 := Lib.hid (show szN (trN l) 1048576 = (q0 : Int) by unfold szN; rw [if_pos hz0, hq0]; omega)
    have hqb0 : q0 ≤ 1048576 := by omega
    have HL0 := Lib.hid (show trN l ≤ 1048576 by omega)
    obtain ⟨r, hr⟩ : ∃ r, r = fdO l key y := ⟨_, rfl⟩
    obtain ⟨b, hbb⟩ : ∃ b, b = fdB l key y := ⟨_, rfl⟩
    have HFR := Lib.hid (show ∀ p ∈ r.u, i64ok p.1 ∧ i64ok p.2 by rw [hr]; exact (fdO_bd l key y).1)
    have hrn : r.u.length ≤ 15 := by rw [hr]; exact (fdO_bd l key y).2
    have hml : trM l ≤ 2 * trN l := mN_le _ _
    have HSP := Lib.hid (show ∀ w e w', TrPost (fdO l key y) (fdB l key y) w e w' → Below w.heap.size w w' ∧ ∃ a c S, e = .returned (.tuple #[.agg #[.int .i64 r.k, .slice a r.u.length c, .int .i64 r.v], .bool b]) ∧ PrsAt w' S r.u a c by rw [← hr, ← hbb]; exact fun w e w' h => h.at HFR.out)
    have HIP := Lib.hid (show ∀ w e w', TrPost (fdO l key y) (fdB l key y) w e w' → Below w.heap.size w w' ∧ ∃ a c D, e = .returned (.tuple #[.agg #[.int .i64 r.k, .slice a r.u.length c, .int .i64 r.v], .bool b]) ∧ TrOw w' D r a c ∧ ∀ x, D x → w.heap.size ≤ x ∧ x < w'.heap.size by rw [← hr, ← hbb]; exact fun w e w' h => h.ow)
    clear hr hbb
    obtain ⟨k0, hk0⟩ : ∃ k : Nat, k = 1 + trM l := ⟨_, rfl⟩
    have HK0 := Lib.hid hk0
    obtain ⟨k2, hk2⟩ : ∃ k : Nat, k = k0 + y.length := ⟨_, rfl⟩
    have HK2 := Lib.hid hk2
    have hkb0 : k0 ≤ 20000000 := by have := HL0.out; omega
    have hkb2 : k2 ≤ 20000000 := by have := HL0.out; omega
    clear hk0 hk2
    obtain ⟨n, hn⟩ : ∃ n : Nat, n = 1 + r.u.length * 2 := ⟨_, rfl⟩
    have HNN := Lib.hid hn
    have hnb : n ≤ 1000000 := by  omega
    have HNE := Lib.hid (show ((n : Int) != (n : Int)) = false by simp)
    clear hn
    have HBE := Lib.hid (show (b != b) = false by simp)
    clear hz0 hq0
    go_enter Try.func3, Try.ntmps3
    go_wp2_with fail
    refine (szTraces_any _ S0 l a0 c0 1048576 A0.out (by omega)).mono ?_
    rintro e w1 ⟨rfl, hb⟩
    rw [HZ0.out]
    have HW_1 := Lib.hid (HW.out.trans (hb.mono HW.out.size))
    have A0_1 := Lib.hid (A0.out.below hb)
    have A2_1 := Lib.hid (A2.out.below hb)
    clear hb HZ0 HW A0 A2
    go_wp2_with fail
    refine (copyQ_ow _ S0 l a0 c0 A0_1.out HL0.out).mono ?_
    rintro e w2 ⟨ra2, rc2, D2, rfl, ho, hD, hb⟩
    have HW_2 := Lib.hid (HW_1.out.trans (hb.mono HW_1.out.size))
    have A0_2 := Lib.hid (A0_1.out.below hb)
    have A2_2 := Lib.hid (A2_1.out.below hb)
    have C0_2 := Lib.hid (ho.at HF0.out)
    clear hb ho hD HW_1 A0_1 A2_1
    go_wp2_with fail
    refine (copyI_ow _ S2 y a2 c2 A2_2.out hn2).mono ?_
    rintro e w3 ⟨ra3, rc3, D3, rfl, ho, hD, hb⟩
    have HW_3 := Lib.hid (HW_2.out.trans (hb.mono HW_2.out.size))
    have A0_3 := Lib.hid (A0_2.out.below hb)
    have A2_3 := Lib.hid (A2_2.out.below hb)
    have C0_3 := Lib.hid (C0_2.out.below hb)
    have C2_3 := Lib.hid (ho.at HF2.out)
    clear hb ho hD HW_2 A0_2 A2_2 C0_2
    go_wp2_with fail
    refine (specFind_any _ _ _ l key y ra2 ra3 rc2 rc3 C0_3.out C2_3.out).mono ?_
    intro e w4 hp
    obtain ⟨hb, ra4, rc4, SW, rfl, hat⟩ := HSP.out _ _ _ hp
    clear hp
    have hsW : w.heap.size + 0 ≤ w4.heap.size := by have := hb.size; have := HW_3.out.size; omega
    have HW_4 := Lib.hid ((HW_3.out.trans (hb.mono HW_3.out.size)).alloc (Nat.le_trans HW_3.out.size hb.size) (.cells #[.int .i64 r.k, .slice ra4 r.u.length rc4, .int .i64 r.v] 27))
    have A0_4 := Lib.hid ((A0_3.out.below hb).alloc (.cells #[.int .i64 r.k, .slice ra4 r.u.length rc4, .int .i64 r.v] 27))
    have A2_4 := Lib.hid ((A2_3.out.below hb).alloc (.cells #[.int .i64 r.k, .slice ra4 r.u.length rc4, .int .i64 r.v] 27))
    have WR_4 := Lib.hid ((hat.lim.weaken (S' := fun b => b < w4.heap.size) (fun _ h => h.2)).alloc (.cells #[.int .i64 r.k, .slice ra4 r.u.length rc4, .int .i64 r.v] 27))
    have WB_4 := Lib.hid (Blk.new w4 27 #[.int .i64 r.k, .slice ra4 r.u.length rc4, .int .i64 r.v])
    clear hb hat HW_3 A0_3 A2_3 C0_3 C2_3
    obtain ⟨x0_0, x0_1, x0_2, -⟩ := WB_4.out.three
    go_wp2_with fail
    clear x0_0 x0_1 x0_2
    refine (copyQ_ow _ S0 l a0 c0 A0_4.out HL0.out).mono ?_
    rintro e w5 ⟨ra5, rc5, D5, rfl, ho, hD, hb⟩
    have hs5 := hb.size
    try simp only [World.size_alloc] at hD hs5
    have HW_5 := Lib.hid (HW_4.out.trans (hb.mono HW_4.out.size))
    have A0_5 := Lib.hid (A0_4.out.below hb)
    have A2_5 := Lib.hid (A2_4.out.below hb)
    have WR_5 := Lib.hid (WR_4.out.below hb)
    have WB_5 := Lib.hid (WB_4.out.below hb WB_4.out.lt)
    have T0_5 := Lib.hid (ho.at HF0.out)
    have O0_5 := Lib.hid (ho)
    have HD0 := Lib.hid hD
    clear hb ho hD HW_4 A0_4 A2_4 WR_4 WB_4
    obtain ⟨x0_0, x0_1, x0_2, -⟩ := WB_5.out.three
    go_wp2_with fail
    clear x0_0 x0_1 x0_2
    refine (copyI_ow _ S2 y a2 c2 A2_5.out hn2).mono ?_
    rintro e w6 ⟨ra6, rc6, D6, rfl, ho, hD, hb⟩
    have hs6 := hb.size
    try simp only [World.size_alloc] at hD hs6
    have HW_6 := Lib.hid (HW_5.out.trans (hb.mono HW_5.out.size))
    have A0_6 := Lib.hid (A0_5.out.below hb)
    have A2_6 := Lib.hid (A2_5.out.below hb)
    have WR_6 := Lib.hid (WR_5.out.below hb)
    have WB_6 := Lib.hid (WB_5.out.below hb WB_5.out.lt)
    have T0_6 := Lib.hid (T0_5.out.below hb)
    have O0_6 := Lib.hid (O0_5.out.below hb)
    have T2_6 := Lib.hid (ho.at HF2.out)
    have O2_6 := Lib.hid (ho)
    have HD2 := Lib.hid hD
    clear hb ho hD HW_5 A0_5 A2_5 WR_5 WB_5 T0_5 O0_5
    obtain ⟨x0_0, x0_1, x0_2, -⟩ := WB_6.out.three
    go_wp2_with fail
    clear x0_0 x0_1 x0_2
    refine (implFind_any _ _ _ l key y ra5 ra6 rc5 rc6 T0_6.out T2_6.out).mono ?_
    intro e w7 hp
    obtain ⟨hb, ra7, rc7, DG, rfl, hg, hDG⟩ := HIP.out _ _ _ hp
    clear hp
    have hs7 := hb.size
    try simp only [World.size_alloc] at hDG hs7
    have HW_7 := Lib.hid ((HW_6.out.trans (hb.mono HW_6.out.size)).alloc (Nat.le_trans HW_6.out.size hb.size) (.cells #[.int .i64 r.k, .slice ra7 r.u.length rc7, .int .i64 r.v] 27))
    have A0_7 := Lib.hid ((A0_6.out.below hb).alloc (.cells #[.int .i64 r.k, .slice ra7 r.u.length rc7, .int .i64 r.v] 27))
    have A2_7 := Lib.hid ((A2_6.out.below hb).alloc (.cells #[.int .i64 r.k, .slice ra7 r.u.length rc7, .int .i64 r.v] 27))
    have WR_7 := Lib.hid ((WR_6.out.below hb).alloc (.cells #[.int .i64 r.k, .slice ra7 r.u.length rc7, .int .i64 r.v] 27))
    have WB_7 := Lib.hid ((WB_6.out.below hb WB_6.out.lt).alloc (.cells #[.int .i64 r.k, .slice ra7 r.u.length rc7, .int .i64 r.v] 27))
    have T0_7 := Lib.hid ((T0_6.out.below hb).alloc (.cells #[.int .i64 r.k, .slice ra7 r.u.length rc7, .int .i64 r.v] 27))
    have O0_7 := Lib.hid ((O0_6.out.below hb).below ((Below.refl _ _).alloc (Nat.le_refl _) (.cells #[.int .i64 r.k, .slice ra7 r.u.length rc7, .int .i64 r.v] 27)))
    have T2_7 := Lib.hid ((T2_6.out.below hb).alloc (.cells #[.int .i64 r.k, .slice ra7 r.u.length rc7, .int .i64 r.v] 27))
    have O2_7 := Lib.hid ((O2_6.out.below hb).below ((Below.refl _ _).alloc (Nat.le_refl _) (.cells #[.int .i64 r.k, .slice ra7 r.u.length rc7, .int .i64 r.v] 27)))
    have G_7 := Lib.hid (hg.below ((Below.refl _ _).alloc (Nat.le_refl _) (.cells #[.int .i64 r.k, .slice ra7 r.u.length rc7, .int .i64 r.v] 27)))
    have HDG := Lib.hid hDG
    have GB_7 := Lib.hid (Blk.new w7 27 #[.int .i64 r.k, .slice ra7 r.u.length rc7, .int .i64 r.v])
    clear hb hg hDG HW_6 A0_6 A2_6 WR_6 WB_6 T0_6 O0_6 T2_6 O2_6
    obtain ⟨x0_0, x0_1, x0_2, -⟩ := WB_7.out.three
    obtain ⟨x1_0, x1_1, x1_2, -⟩ := GB_7.out.three
    go_wp2_with fail
    clear x0_0 x0_1 x0_2 x1_0 x1_1 x1_2
    refine (eqTrace_any _ _ _ r ra7 ra4 rc7 rc4 (G_7.out.at HFR.out) WR_7.out).mono ?_
    rintro e w8 ⟨rfl, hb⟩
    have HW_8 := Lib.hid (HW_7.out.trans (hb.mono HW_7.out.size))
    have A0_8 := Lib.hid (A0_7.out.below hb)
    have A2_8 := Lib.hid (A2_7.out.below hb)
    have WR_8 := Lib.hid (WR_7.out.below hb)
    have WB_8 := Lib.hid (WB_7.out.below hb WB_7.out.lt)
    have T0_8 := Lib.hid (T0_7.out.below hb)
    have O0_8 := Lib.hid (O0_7.out.below hb)
    have T2_8 := Lib.hid (T2_7.out.below hb)
    have O2_8 := Lib.hid (O2_7.out.below hb)
    have G_8 := Lib.hid (G_7.out.below hb)
    have GB_8 := Lib.hid (GB_7.out.below hb GB_7.out.lt)
    clear hb HW_7 A0_7 A2_7 WR_7 WB_7 T0_7 O0_7 T2_7 O2_7 G_7 GB_7
    have hbe := HBE.out
    obtain ⟨x0_0, x0_1, x0_2, -⟩ := WB_8.out.three
    obtain ⟨x1_0, x1_1, x1_2, -⟩ := GB_8.out.three
    go_wp2_with fail
    clear x0_0 x0_1 x0_2 x1_0 x1_1 x1_2
    clear hbe
    refine (copyQ_ow _ S0 l a0 c0 A0_8.out HL0.out).mono ?_
    rintro e w9 ⟨ra9, rc9, D9, rfl, ho, hD, hb⟩
    have HW_9 := Lib.hid (HW_8.out.trans (hb.mono HW_8.out.size))
    have A0_9 := Lib.hid (A0_8.out.below hb)
    have A2_9 := Lib.hid (A2_8.out.below hb)
    have WR_9 := Lib.hid (WR_8.out.below hb)
    have WB_9 := Lib.hid (WB_8.out.below hb WB_8.out.lt)
    have T0_9 := Lib.hid (T0_8.out.below hb)
    have O0_9 := Lib.hid (O0_8.out.below hb)
    have T2_9 := Lib.hid (T2_8.out.below hb)
    have O2_9 := Lib.hid (O2_8.out.below hb)
    have G_9 := Lib.hid (G_8.out.below hb)
    have GB_9 := Lib.hid (GB_8.out.below hb GB_8.out.lt)
    have E0_9 := Lib.hid (ho.at HF0.out)
    clear hb ho hD HW_8 A0_8 A2_8 WR_8 WB_8 T0_8 O0_8 T2_8 O2_8 G_8 GB_8
    obtain ⟨x0_0, x0_1, x0_2, -⟩ := WB_9.out.three
    obtain ⟨x1_0, x1_1, x1_2, -⟩ := GB_9.out.three
    go_wp2_with fail
    clear x0_0 x0_1 x0_2 x1_0 x1_1 x1_2
    refine (eqTraces_any _ _ _ l ra5 ra9 rc5 rc9 T0_9.out E0_9.out).mono ?_
    rintro e w10 ⟨rfl, hb⟩
    have HW_10 := Lib.hid (HW_9.out.trans (hb.mono HW_9.out.size))
    have A0_10 := Lib.hid (A0_9.out.below hb)
    have A2_10 := Lib.hid (A2_9.out.below hb)
    have WR_10 := Lib.hid (WR_9.out.below hb)
    have WB_10 := Lib.hid (WB_9.out.below hb WB_9.out.lt)
    have O0_10 := Lib.hid (O0_9.out.below hb)
    have T2_10 := Lib.hid (T2_9.out.below hb)
    have O2_10 := Lib.hid (O2_9.out.below hb)
    have G_10 := Lib.hid (G_9.out.below hb)
    have GB_10 := Lib.hid (GB_9.out.below hb GB_9.out.lt)
    clear hb HW_9 A0_9 A2_9 WR_9 WB_9 T0_9 O0_9 T2_9 O2_9 G_9 GB_9 E0_9
    obtain ⟨x0_0, x0_1, x0_2, -⟩ := WB_10.out.three
    obtain ⟨x1_0, x1_1, x1_2, -⟩ := GB_10.out.three
    go_wp2_with fail
    clear x0_0 x0_1 x0_2 x1_0 x1_1 x1_2
    refine (copyI_ow _ S2 y a2 c2 A2_10.out hn2).mono ?_
    rintro e w11 ⟨ra11, rc11, D11, rfl, ho, hD, hb⟩
    have HW_11 := Lib.hid (HW_10.out.trans (hb.mono HW_10.out.size))
    have A0_11 := Lib.hid (A0_10.out.below hb)
    have A2_11 := Lib.hid (A2_10.out.below hb)
    have WR_11 := Lib.hid (WR_10.out.below hb)
    have WB_11 := Lib.hid (WB_10.out.below hb WB_10.out.lt)
    have O0_11 := Lib.hid (O0_10.out.below hb)
    have T2_11 := Lib.hid (T2_10.out.below hb)
    have O2_11 := Lib.hid (O2_10.out.below hb)
    have G_11 := Lib.hid (G_10.out.below hb)
    have GB_11 := Lib.hid (GB_10.out.below hb GB_10.out.lt)
    have E2_11 := Lib.hid (ho.at HF2.out)
    clear hb ho hD HW_10 A0_10 A2_10 WR_10 WB_10 O0_10 T2_10 O2_10 G_10 GB_10
    obtain ⟨x0_0, x0_1, x0_2, -⟩ := WB_11.out.three
    obtain ⟨x1_0, x1_1, x1_2, -⟩ := GB_11.out.three
    go_wp2_with fail
    clear x0_0 x0_1 x0_2 x1_0 x1_1 x1_2
    refine (eqInts_any _ _ _ y ra6 ra11 rc6 rc11 T2_11.out E2_11.out).mono ?_
    rintro e w12 ⟨rfl, hb⟩
    have HW_12 := Lib.hid (HW_11.out.trans (hb.mono HW_11.out.size))
    have A0_12 := Lib.hid (A0_11.out.below hb)
    have A2_12 := Lib.hid (A2_11.out.below hb)
    have WR_12 := Lib.hid (WR_11.out.below hb)
    have WB_12 := Lib.hid (WB_11.out.below hb WB_11.out.lt)
    have O0_12 := Lib.hid (O0_11.out.below hb)
    have O2_12 := Lib.hid (O2_11.out.below hb)
    have G_12 := Lib.hid (G_11.out.below hb)
    have GB_12 := Lib.hid (GB_11.out.below hb GB_11.out.lt)
    clear hb HW_11 A0_11 A2_11 WR_11 WB_11 O0_11 T2_11 O2_11 G_11 GB_11 E2_11
    obtain ⟨x0_0, x0_1, x0_2, -⟩ := WB_12.out.three
    obtain ⟨x1_0, x1_1, x1_2, -⟩ := GB_12.out.three
    go_wp2_with fail
    clear x0_0 x0_1 x0_2 x1_0 x1_1 x1_2
    refine (markQ_ow _ D5 l ra5 rc5 1 O0_12.out HL0.out (by omega)).mono ?_
    rintro e w13 hm
    obtain ⟨rfl, hfr, _⟩ := hm
    rw [← HK0.out]
    have HW_13 := Lib.hid (Below.frD HW_12.out hfr (fun b hb => by have := HD0.out _ hb; omega))
    have A0_13 := Lib.hid (A0_12.out.fr hfr (fun b hs hb => by have := HD0.out _ hb; have := HS0.out b hs; omega))
    have A2_13 := Lib.hid (A2_12.out.fr hfr (fun b hs hb => by have := HD0.out _ hb; have := HS2.out b hs; omega))
    have WR_13 := Lib.hid (WR_12.out.fr hfr (fun b hs hb => by have := HD0.out _ hb; omega))
    have WB_13 := Lib.hid (WB_12.out.fr hfr (fun hb => by have := HD0.out _ hb; omega))
    have O2_13 := Lib.hid (O2_12.out.fr hfr (fun b hs hb => by have := HD0.out _ hb; have := HD2.out b hs; omega))
    have G_13 := Lib.hid (G_12.out.fr hfr (fun b hs hb => by have := HD0.out _ hb; have := HDG.out b hs; omega))
    have GB_13 := Lib.hid (GB_12.out.fr hfr (fun hb => by have := HD0.out _ hb; omega))
    clear hfr HW_12 A0_12 A2_12 WR_12 WB_12 O0_12 O2_12 G_12 GB_12
    obtain ⟨x0_0, x0_1, x0_2, -⟩ := WB_13.out.three
    obtain ⟨x1_0, x1_1, x1_2, -⟩ := GB_13.out.three
    go_wp2_with fail
    clear x0_0 x0_1 x0_2 x1_0 x1_1 x1_2
    refine (markI_ow _ D6 y ra6 rc6 k0 O2_13.out (by omega) (by omega)).mono ?_
    rintro e w14 hm
    obtain ⟨rfl, hfr, _⟩ := hm
    rw [← HK2.out]
    have HW_14 := Lib.hid (Below.frD HW_13.out hfr (fun b hb => by have := HD2.out _ hb; omega))
    have A0_14 := Lib.hid (A0_13.out.fr hfr (fun b hs hb => by have := HD2.out _ hb; have := HS0.out b hs; omega))
    have A2_14 := Lib.hid (A2_13.out.fr hfr (fun b hs hb => by have := HD2.out _ hb; have := HS2.out b hs; omega))
    have WR_14 := Lib.hid (WR_13.out.fr hfr (fun b hs hb => by have := HD2.out _ hb; omega))
    have WB_14 := Lib.hid (WB_13.out.fr hfr (fun hb => by have := HD2.out _ hb; omega))
    have G_14 := Lib.hid (G_13.out.fr hfr (fun b hs hb => by have := HD2.out _ hb; have := HDG.out b hs; omega))
    have GB_14 := Lib.hid (GB_13.out.fr hfr (fun hb => by have := HD2.out _ hb; omega))
    clear hfr HW_13 A0_13 A2_13 WR_13 WB_13 O2_13 G_13 GB_13
    obtain ⟨x0_0, x0_1, x0_2, -⟩ := WB_14.out.three
    obtain ⟨x1_0, x1_1, x1_2, -⟩ := GB_14.out.three
    go_wp2_with fail
    clear x0_0 x0_1 x0_2 x1_0 x1_1 x1_2
    refine (eqTrace_any _ _ _ r ra7 ra4 rc7 rc4 (G_14.out.at HFR.out) WR_14.out).mono ?_
    rintro e w15 ⟨rfl, hb⟩
    have HW_15 := Lib.hid (HW_14.out.trans (hb.mono HW_14.out.size))
    have A0_15 := Lib.hid (A0_14.out.below hb)
    have A2_15 := Lib.hid (A2_14.out.below hb)
    have WR_15 := Lib.hid (WR_14.out.below hb)
    have WB_15 := Lib.hid (WB_14.out.below hb WB_14.out.lt)
    have G_15 := Lib.hid (G_14.out.below hb)
    have GB_15 := Lib.hid (GB_14.out.below hb GB_14.out.lt)
    clear hb HW_14 A0_14 A2_14 WR_14 WB_14 G_14 GB_14
    have hbe := HBE.out
    obtain ⟨x0_0, x0_1, x0_2, -⟩ := WB_15.out.three
    obtain ⟨x1_0, x1_1, x1_2, -⟩ := GB_15.out.three
    go_wp2_with fail
    clear x0_0 x0_1 x0_2 x1_0 x1_1 x1_2
    clear hbe
    refine (markR_ow _ DG r ra7 rc7 1 G_15.out (by omega) (by omega)).mono ?_
    rintro e w16 hm
    obtain ⟨rfl, hfr, hmk⟩ := hm
    rw [← HNN.out]
    have HW_16 := Lib.hid (Below.frD HW_15.out hfr (fun b hb => by have := HDG.out _ hb; omega))
    have A0_16 := Lib.hid (A0_15.out.fr hfr (fun b hs hb => by have := HDG.out _ hb; have := HS0.out b hs; omega))
    have A2_16 := Lib.hid (A2_15.out.fr hfr (fun b hs hb => by have := HDG.out _ hb; have := HS2.out b hs; omega))
    have WR_16 := Lib.hid (WR_15.out.fr hfr (fun b hs hb => by have := HDG.out _ hb; omega))
    have WB_16 := Lib.hid (WB_15.out.fr hfr (fun hb => by have := HDG.out _ hb; omega))
    have GB_16 := Lib.hid (GB_15.out.fr hfr (fun hb => by have := HDG.out _ hb; omega))
    have M_16 := Lib.hid hmk
    clear hfr hmk HW_15 A0_15 A2_15 WR_15 WB_15 G_15 GB_15
    obtain ⟨x0_0, x0_1, x0_2, -⟩ := WB_16.out.three
    obtain ⟨x1_0, x1_1, x1_2, -⟩ := GB_16.out.three
    go_wp2_with fail
    clear x0_0 x0_1 x0_2 x1_0 x1_1 x1_2
    refine (heldR_ow _ DG r.u.length 1 ra7 rc7 _ _ M_16.out (by omega) (by omega)).mono ?_
    rintro e w17 ⟨rfl, hb⟩
    rw [← HNN.out]
    have HW_17 := Lib.hid (HW_16.out.trans (hb.mono HW_16.out.size))
    have A0_17 := Lib.hid (A0_16.out.below hb)
    have A2_17 := Lib.hid (A2_16.out.below hb)
    have WR_17 := Lib.hid (WR_16.out.below hb)
    have WB_17 := Lib.hid (WB_16.out.below hb WB_16.out.lt)
    have GB_17 := Lib.hid (GB_16.out.below hb GB_16.out.lt)
    have M_17 := Lib.hid (M_16.out.below hb)
    clear hb HW_16 A0_16 A2_16 WR_16 WB_16 GB_16 M_16
    have hne := HNE.out
    obtain ⟨x0_0, x0_1, x0_2, -⟩ := WB_17.out.three
    obtain ⟨x1_0, x1_1, x1_2, -⟩ := GB_17.out.three
    go_wp2_with fail
    clear x0_0 x0_1 x0_2 x1_0 x1_1 x1_2
    clear hne
    refine (copyQ_ow _ S0 l a0 c0 A0_17.out HL0.out).mono ?_
    rintro e w18 ⟨ra18, rc18, D18, rfl, ho, hD, hb⟩
    have HW_18 := Lib.hid (HW_17.out.trans (hb.mono HW_17.out.size))
    have A0_18 := Lib.hid (A0_17.out.below hb)
    have A2_18 := Lib.hid (A2_17.out.below hb)
    have WR_18 := Lib.hid (WR_17.out.below hb)
    have WB_18 := Lib.hid (WB_17.out.below hb WB_17.out.lt)
    have GB_18 := Lib.hid (GB_17.out.below hb GB_17.out.lt)
    have M_18 := Lib.hid (M_17.out.below hb)
    have H0_18 := Lib.hid (ho.at HF0.out)
    clear hb ho hD HW_17 A0_17 A2_17 WR_17 WB_17 GB_17 M_17
    obtain ⟨x0_0, x0_1, x0_2, -⟩ := WB_18.out.three
    obtain ⟨x1_0, x1_1, x1_2, -⟩ := GB_18.out.three
    go_wp2_with fail
    clear x0_0 x0_1 x0_2 x1_0 x1_1 x1_2
    refine (copyI_ow _ S2 y a2 c2 A2_18.out hn2).mono ?_
    rintro e w19 ⟨ra19, rc19, D19, rfl, ho, hD, hb⟩
    have HW_19 := Lib.hid (HW_18.out.trans (hb.mono HW_18.out.size))
    have A0_19 := Lib.hid (A0_18.out.below hb)
    have A2_19 := Lib.hid (A2_18.out.below hb)
    have WR_19 := Lib.hid (WR_18.out.below hb)
    have WB_19 := Lib.hid (WB_18.out.below hb WB_18.out.lt)
    have GB_19 := Lib.hid (GB_18.out.below hb GB_18.out.lt)
    have M_19 := Lib.hid (M_18.out.below hb)
    have H0_19 := Lib.hid (H0_18.out.below hb)
    have H2_19 := Lib.hid (ho.at HF2.out)
    clear hb ho hD HW_18 A0_18 A2_18 WR_18 WB_18 GB_18 M_18 H0_18
    obtain ⟨x0_0, x0_1, x0_2, -⟩ := WB_19.out.three
    obtain ⟨x1_0, x1_1, x1_2, -⟩ := GB_19.out.three
    go_wp2_with fail
    clear x0_0 x0_1 x0_2 x1_0 x1_1 x1_2
    refine (implFind_any _ _ _ l key y ra18 ra19 rc18 rc19 H0_19.out H2_19.out).mono ?_
    intro e w20 hp
    obtain ⟨hb, ra20, rc20, DH, rfl, hg, hDG⟩ := HIP.out _ _ _ hp
    clear hp
    have HW_20 := Lib.hid ((HW_19.out.trans (hb.mono HW_19.out.size)).alloc (Nat.le_trans HW_19.out.size hb.size) (.cells #[.int .i64 r.k, .slice ra20 r.u.length rc20, .int .i64 r.v] 27))
    have WR_20 := Lib.hid ((WR_19.out.below hb).alloc (.cells #[.int .i64 r.k, .slice ra20 r.u.length rc20, .int .i64 r.v] 27))
    have WB_20 := Lib.hid ((WB_19.out.below hb WB_19.out.lt).alloc (.cells #[.int .i64 r.k, .slice ra20 r.u.length rc20, .int .i64 r.v] 27))
    have GB_20 := Lib.hid ((GB_19.out.below hb GB_19.out.lt).alloc (.cells #[.int .i64 r.k, .slice ra20 r.u.length rc20, .int .i64 r.v] 27))
    have M_20 := Lib.hid ((M_19.out.below hb).below ((Below.refl _ _).alloc (Nat.le_refl _) (.cells #[.int .i64 r.k, .slice ra20 r.u.length rc20, .int .i64 r.v] 27)))
    have HG_20 := Lib.hid ((hg.at HFR.out).alloc (.cells #[.int .i64 r.k, .slice ra20 r.u.length rc20, .int .i64 r.v] 27))
    have HB_20 := Lib.hid (Blk.new w20 27 #[.int .i64 r.k, .slice ra20 r.u.length rc20, .int .i64 r.v])
    clear hb hg hDG HW_19 A0_19 A2_19 WR_19 WB_19 GB_19 M_19 H0_19 H2_19
    obtain ⟨x0_0, x0_1, x0_2, -⟩ := WB_20.out.three
    obtain ⟨x1_0, x1_1, x1_2, -⟩ := GB_20.out.three
    obtain ⟨x2_0, x2_1, x2_2, -⟩ := HB_20.out.three
    go_wp2_with fail
    clear x0_0 x0_1 x0_2 x1_0 x1_1 x1_2 x2_0 x2_1 x2_2
    refine (eqTrace_any _ _ _ r ra20 ra4 rc20 rc4 HG_20.out WR_20.out).mono ?_
    rintro e w21 ⟨rfl, hb⟩
    have HW_21 := Lib.hid (HW_20.out.trans (hb.mono HW_20.out.size))
    have WR_21 := Lib.hid (WR_20.out.below hb)
    have WB_21 := Lib.hid (WB_20.out.below hb WB_20.out.lt)
    have GB_21 := Lib.hid (GB_20.out.below hb GB_20.out.lt)
    have M_21 := Lib.hid (M_20.out.below hb)
    have HB_21 := Lib.hid (HB_20.out.below hb HB_20.out.lt)
    clear hb HW_20 WR_20 WB_20 GB_20 M_20 HG_20 HB_20
    have hbe := HBE.out
    obtain ⟨x0_0, x0_1, x0_2, -⟩ := WB_21.out.three
    obtain ⟨x1_0, x1_1, x1_2, -⟩ := GB_21.out.three
    obtain ⟨x2_0, x2_1, x2_2, -⟩ := HB_21.out.three
    go_wp2_with fail
    clear x0_0 x0_1 x0_2 x1_0 x1_1 x1_2 x2_0 x2_1 x2_2
    clear hbe
    refine (heldR_ow _ DG r.u.length 1 ra7 rc7 _ _ M_21.out (by omega) (by omega)).mono ?_
    rintro e w22 ⟨rfl, hb⟩
    rw [← HNN.out]
    have HW_22 := Lib.hid (HW_21.out.trans (hb.mono HW_21.out.size))
    have WR_22 := Lib.hid (WR_21.out.below hb)
    have WB_22 := Lib.hid (WB_21.out.below hb WB_21.out.lt)
    have GB_22 := Lib.hid (GB_21.out.below hb GB_21.out.lt)
    have M_22 := Lib.hid (M_21.out.below hb)
    have HB_22 := Lib.hid (HB_21.out.below hb HB_21.out.lt)
    clear hb HW_21 WR_21 WB_21 GB_21 M_21 HB_21
    have hne := HNE.out
    obtain ⟨x0_0, x0_1, x0_2, -⟩ := WB_22.out.three
    obtain ⟨x1_0, x1_1, x1_2, -⟩ := GB_22.out.three
    obtain ⟨x2_0, x2_1, x2_2, -⟩ := HB_22.out.three
    go_wp2_with fail
    clear x0_0 x0_1 x0_2 x1_0 x1_1 x1_2 x2_0 x2_1 x2_2
    clear hne
    go_ret
    exact ⟨rfl, HW_22.out⟩
  · have HZ := Lib.hid (show szN (trN l) 1048576 = -1 by unfold szN; rw [if_neg hz0])
    clear hz0
    go_enter Try.func3, Try.ntmps3
    go_wp2_with fail
    refine (szTraces_any _ S0 l a0 c0 1048576 A0.out (by omega)).mono ?_
    rintro e w23 ⟨rfl, hb⟩
    rw [HZ.out]
    have HW_23 := Lib.hid (HW.out.trans (hb.mono HW.out.size))
    have A0_23 := Lib.hid (A0.out.below hb)
    have A2_23 := Lib.hid (A2.out.below hb)
    clear hb HW A0 A2
    go_wp2_with fail
    go_ret
    exact ⟨rfl, HW_23.out⟩
end Go.Proofs.Ythjfmpeicjmlkaa
