/- the walk of laws.FnExactTracesPut (written by wip/tools/gen_law.py) -/
import Derived.Test.YtjjojnmhhmdlpaaTrFp
import Derived.Test.YtjjojnmhhmdlpaaTr1
import Derived.WalkSpells
import Derived.Deep.RegionHeld3
namespace Go.Proofs.Ytjjojnmhhmdlpaa
open Go.RowKit

set_option maxRecDepth 100000 in
set_option maxHeartbeats 8000000 in
theorem walk_exactTracesPut (l : List Tr) (t : Tr) (w : World) (S00 : Nat → Prop) (a0 : Option Addr) (c0 : Nat) (S10 : Nat → Prop) (a1 : Option Addr) (c1 : Nat) (h00 : TrsAt w S00 l a0 c0) (h10 : PrsAt w S10 t.u a1 c1) (hft : i64ok t.k ∧ i64ok t.v) :
    Calls Try.prog 12 #[.slice a0 l.length c0, .agg #[.int .i64 t.k, .slice a1 t.u.length c1, .int .i64 t.v]] w fun e w' => e = .returned (.bool true) ∧ Below w.heap.size w w' := by
  obtain ⟨S0, hSd0⟩ : ∃ S : Nat → Prop, S = fun b => S00 b ∧ b < w.heap.size := ⟨_, rfl⟩
  have hS0 : ∀ b, S0 b → b < w.heap.size := by rw [hSd0]; exact fun b h => h.2
  have h0 : TrsAt w S0 l a0 c0 := by rw [hSd0]; exact h00.lim
  have HS0 := Lib.hid hS0
  obtain ⟨S1, hSd1⟩ : ∃ S : Nat → Prop, S = fun b => S10 b ∧ b < w.heap.size := ⟨_, rfl⟩
  have hS1 : ∀ b, S1 b → b < w.heap.size := by rw [hSd1]; exact fun b h => h.2
  have h1 : PrsAt w S1 t.u a1 c1 := by rw [hSd1]; exact h10.lim
  have HS1 := Lib.hid hS1
  have HF0 := Lib.hid (TrsAt.fine h0)
  have HF1 := Lib.hid (PrsAt.fine h1)
  have B1_0 := Lib.hid (Blk.new w 69 #[.int .i64 t.k, .slice a1 t.u.length c1, .int .i64 t.v])
  have HW := Lib.hid (show Below w.heap.size w (w.alloc (.cells #[.int .i64 t.k, .slice a1 t.u.length c1, .int .i64 t.v] 69)) from (Below.refl _ _).alloc (by simp <;> omega) (.cells #[.int .i64 t.k, .slice a1 t.u.length c1, .int .i64 t.v] 69))
  have A0 := Lib.hid (h0.alloc (.cells #[.int .i64 t.k, .slice a1 t.u.length c1, .int .i64 t.v] 69))
  have A1 := Lib.hid (h1.alloc (.cells #[.int .i64 t.k, .slice a1 t.u.length c1, .int .i64 t.v] 69))
  have BX1 := Lib.hid (show Blk (w.alloc (.cells #[.int .i64 t.k, .slice a1 t.u.length c1, .int .i64 t.v] 69)) (w.heap.size) 69 #[.int .i64 t.k, .slice a1 t.u.length c1, .int .i64 t.v] by have := B1_0.out; simpa using this)
  clear hSd0 hS0 h00 hSd1 hS1 h10 h0 h1 B1_0
  by_cases hz0 : trN l ≤ 1048576
  · obtain ⟨q0, hq0⟩ : ∃ q : Nat, q = 1048576 - (trN l) := ⟨_, rfl⟩
    have HZ0 := Lib.hid (show szN (trN l) 1048576 = (q0 : Int) by unfold szN; rw [if_pos hz0, hq0]; omega)
    have hqb0 : q0 ≤ 1048576 := by omega
    have HL0 := Lib.hid (show trN l ≤ 1048576 by omega)
    by_cases hz1 : t.u.length ≤ q0
    · obtain ⟨q1, hq1⟩ : ∃ q : Nat, q = q0 - (t.u.length) := ⟨_, rfl⟩
      have HZ1 := Lib.hid (show szN (t.u.length) q0 = (q1 : Int) by unfold szN; rw [if_pos hz1, hq1]; omega)
      have hqb1 : q1 ≤ 1048576 := by omega
      have HL1 := Lib.hid (show t.u.length ≤ 1048576 by omega)
      obtain ⟨r, hr⟩ : ∃ r, r = ptO l t := ⟨_, rfl⟩
      obtain ⟨b, hbb⟩ : ∃ b, b = ptB l t := ⟨_, rfl⟩
      have HFT := Lib.hid hft
      have HFR := Lib.hid (show ∀ x ∈ r, trFine x by rw [hr]; exact ptO_fine l t)
      have hrn : trN r ≤ 700 := by rw [hr]; exact ptO_trN l t
      have hrm : trM r ≤ 2 * trN r := mN_le _ _
      have hml : trM l ≤ 2 * trN l := mN_le _ _
      have HSP := Lib.hid (show ∀ w e w', TrsPost (ptO l t) (ptB l t) w e w' → Below w.heap.size w w' ∧ ∃ a c S, e = .returned (.tuple #[.slice a r.length c, .bool b]) ∧ TrsAt w' S r a c by rw [← hr, ← hbb]; exact fun w e w' h => h.at HFR.out)
      have HIP := Lib.hid (show ∀ w e w', TrsPost (ptO l t) (ptB l t) w e w' → Below w.heap.size w w' ∧ ∃ a c D, e = .returned (.tuple #[.slice a r.length c, .bool b]) ∧ TracesOw w' D r a c ∧ ∀ x, D x → w.heap.size ≤ x ∧ x < w'.heap.size by rw [← hr, ← hbb]; exact fun w e w' h => h.ow)
      clear hr hbb hft
      obtain ⟨k0, hk0⟩ : ∃ k : Nat, k = 1 + trM l := ⟨_, rfl⟩
      have HK0 := Lib.hid hk0
      obtain ⟨k1, hk1⟩ : ∃ k : Nat, k = k0 + t.u.length * 2 := ⟨_, rfl⟩
      have HK1 := Lib.hid hk1
      have hkb0 : k0 ≤ 20000000 := by have := HL0.out; have := HL1.out; omega
      have hkb1 : k1 ≤ 20000000 := by have := HL0.out; have := HL1.out; omega
      clear hk0 hk1
      obtain ⟨n, hn⟩ : ∃ n : Nat, n = 1 + trM r := ⟨_, rfl⟩
      have HNN := Lib.hid hn
      have hnb : n ≤ 1000000 := by  omega
      have HNE := Lib.hid (show ((n : Int) != (n : Int)) = false by simp)
      clear hn
      have HBE := Lib.hid (show (b != b) = false by simp)
      clear hz0 hq0 hz1 hq1
      obtain ⟨x0_0, x0_1, x0_2, -⟩ := BX1.out.three
      go_enter Try.func12, Try.ntmps12
      go_wp2_with fail
      clear x0_0 x0_1 x0_2
      refine (szTraces_any _ S0 l a0 c0 1048576 A0.out (by omega)).mono ?_
      rintro e w1 ⟨rfl, hb⟩
      rw [HZ0.out]
      have HW_1 := Lib.hid (HW.out.trans (hb.mono HW.out.size))
      have BX1_1 := Lib.hid (BX1.out.below hb BX1.out.lt)
      have A0_1 := Lib.hid (A0.out.below hb)
      have A1_1 := Lib.hid (A1.out.below hb)
      clear hb HZ0 HW BX1 A0 A1
      obtain ⟨x0_0, x0_1, x0_2, -⟩ := BX1_1.out.three
      go_wp2_with fail
      clear x0_0 x0_1 x0_2
      refine (szTrace_any _ S1 t a1 c1 q0 A1_1.out (by omega)).mono ?_
      rintro e w2 ⟨rfl, hb⟩
      rw [HZ1.out]
      have HW_2 := Lib.hid (HW_1.out.trans (hb.mono HW_1.out.size))
      have BX1_2 := Lib.hid (BX1_1.out.below hb BX1_1.out.lt)
      have A0_2 := Lib.hid (A0_1.out.below hb)
      have A1_2 := Lib.hid (A1_1.out.below hb)
      clear hb HZ1 HW_1 BX1_1 A0_1 A1_1
      obtain ⟨x0_0, x0_1, x0_2, -⟩ := BX1_2.out.drew.three
      go_wp2_with fail
      go_region_held3 (fun w' => w'.cell? ⟨w.heap.size, 0, none⟩ = some (.int .i64 t.k) ∧ w'.cell? ⟨w.heap.size, 1, none⟩ = some (.slice a1 t.u.length c1) ∧ w'.cell? ⟨w.heap.size, 2, none⟩ = some (.int .i64 t.v)) (first | exact ⟨x0_0, x0_1, x0_2⟩ | exact ⟨y0, y1, y2⟩ | exact ⟨z0, z1, z2⟩ | exact ⟨v0, v1, v2⟩ | go_keep) (first | (go_at_call 54; refine (copyQ_ow _ S0 l a0 c0 A0_2.out.drew HL0.out).mono ?_; rintro e w3 ⟨ra3, rc3, D3, rfl, ho3, hD3, hb3⟩; obtain ⟨y0, y1, y2, -⟩ := (BX1_2.out.drew.below hb3 BX1_2.out.lt).three) | (go_at_call 50; refine (copyR_ow _ S1 t a1 c1 (A1_2.out.drew.below hb3) HL1.out).mono ?_; rintro e w4 ⟨ra4, rc4, D4, rfl, ho4, hD4, hb4⟩; obtain ⟨z0, z1, z2, -⟩ := ((BX1_2.out.drew.below hb3 BX1_2.out.lt).below hb4 (Nat.lt_of_lt_of_le BX1_2.out.lt hb3.size)).three) | (go_at_call 62; refine (specPut_any _ _ _ l t ra3 ra4 rc3 rc4 ((ho3.at HF0.out).below hb4) (ho4.at HF1.out) HFT.out).mono ?_; intro e w5 hp; obtain ⟨hb5, ra5, rc5, SW, rfl, hat⟩ := HSP.out _ _ _ hp; clear hp; obtain ⟨v0, v1, v2, -⟩ := (((BX1_2.out.drew.below hb3 BX1_2.out.lt).below hb4 (Nat.lt_of_lt_of_le BX1_2.out.lt hb3.size)).below hb5 (Nat.lt_of_lt_of_le BX1_2.out.lt (Nat.le_trans hb3.size hb4.size))).three))
      have hb : Below w2.heap.size w2 w5 := ((Below.refl w2.heap.size w2).drew.trans hb3).trans ((hb4.mono hb3.size).trans (hb5.mono (Nat.le_trans hb3.size hb4.size)))
      clear hb3 hb4 hb5 ho3 hD3 ho4 hD4 x0_0 x0_1 x0_2 y0 y1 y2 z0 z1 z2 v0 v1 v2
      have hsW : w.heap.size + 1 ≤ w5.heap.size := by have := hb.size; have := BX1_2.out.lt; omega
      have HW_5 := Lib.hid (HW_2.out.trans (hb.mono HW_2.out.size))
      have BX1_5 := Lib.hid (BX1_2.out.below hb BX1_2.out.lt)
      have A0_5 := Lib.hid (A0_2.out.below hb)
      have A1_5 := Lib.hid (A1_2.out.below hb)
      have WR_5 := Lib.hid (hat.lim.weaken (S' := fun b => b < w5.heap.size) (fun _ h => h.2))
      clear hb hat HW_2 BX1_2 A0_2 A1_2
      obtain ⟨x0_0, x0_1, x0_2, -⟩ := BX1_5.out.three
      go_wp2_with fail
      clear x0_0 x0_1 x0_2
      refine (copyQ_ow _ S0 l a0 c0 A0_5.out HL0.out).mono ?_
      rintro e w6 ⟨ra6, rc6, D6, rfl, ho, hD, hb⟩
      have hs6 := hb.size
      try simp only [World.size_alloc] at hD hs6
      have HW_6 := Lib.hid (HW_5.out.trans (hb.mono HW_5.out.size))
      have BX1_6 := Lib.hid (BX1_5.out.below hb BX1_5.out.lt)
      have A0_6 := Lib.hid (A0_5.out.below hb)
      have A1_6 := Lib.hid (A1_5.out.below hb)
      have WR_6 := Lib.hid (WR_5.out.below hb)
      have T0_6 := Lib.hid (ho.at HF0.out)
      have O0_6 := Lib.hid (ho)
      have HD0 := Lib.hid hD
      clear hb ho hD HW_5 BX1_5 A0_5 A1_5 WR_5
      obtain ⟨x0_0, x0_1, x0_2, -⟩ := BX1_6.out.three
      go_wp2_with fail
      clear x0_0 x0_1 x0_2
      refine (copyR_ow _ S1 t a1 c1 A1_6.out HL1.out).mono ?_
      rintro e w7 ⟨ra7, rc7, D7, rfl, ho, hD, hb⟩
      have hs7 := hb.size
      try simp only [World.size_alloc] at hD hs7
      have HW_7 := Lib.hid ((HW_6.out.trans (hb.mono HW_6.out.size)).alloc (Nat.le_trans HW_6.out.size hb.size) (.cells #[.int .i64 t.k, .slice ra7 t.u.length rc7, .int .i64 t.v] 60))
      have BX1_7 := Lib.hid ((BX1_6.out.below hb BX1_6.out.lt).alloc (.cells #[.int .i64 t.k, .slice ra7 t.u.length rc7, .int .i64 t.v] 60))
      have A0_7 := Lib.hid ((A0_6.out.below hb).alloc (.cells #[.int .i64 t.k, .slice ra7 t.u.length rc7, .int .i64 t.v] 60))
      have A1_7 := Lib.hid ((A1_6.out.below hb).alloc (.cells #[.int .i64 t.k, .slice ra7 t.u.length rc7, .int .i64 t.v] 60))
      have WR_7 := Lib.hid ((WR_6.out.below hb).alloc (.cells #[.int .i64 t.k, .slice ra7 t.u.length rc7, .int .i64 t.v] 60))
      have T0_7 := Lib.hid ((T0_6.out.below hb).alloc (.cells #[.int .i64 t.k, .slice ra7 t.u.length rc7, .int .i64 t.v] 60))
      have O0_7 := Lib.hid ((O0_6.out.below hb).below ((Below.refl _ _).alloc (Nat.le_refl _) (.cells #[.int .i64 t.k, .slice ra7 t.u.length rc7, .int .i64 t.v] 60)))
      have T1_7 := Lib.hid ((ho.at HF1.out).alloc (.cells #[.int .i64 t.k, .slice ra7 t.u.length rc7, .int .i64 t.v] 60))
      have O1_7 := Lib.hid (ho.below ((Below.refl _ _).alloc (Nat.le_refl _) (.cells #[.int .i64 t.k, .slice ra7 t.u.length rc7, .int .i64 t.v] 60)))
      have HD1 := Lib.hid hD
      have XB1_7 := Lib.hid (Blk.new w7 60 #[.int .i64 t.k, .slice ra7 t.u.length rc7, .int .i64 t.v])
      clear hb ho hD HW_6 BX1_6 A0_6 A1_6 WR_6 T0_6 O0_6
      obtain ⟨x0_0, x0_1, x0_2, -⟩ := BX1_7.out.three
      obtain ⟨x1_0, x1_1, x1_2, -⟩ := XB1_7.out.three
      go_wp2_with fail
      clear x0_0 x0_1 x0_2 x1_0 x1_1 x1_2
      refine (implPut_any _ _ _ l t ra6 ra7 rc6 rc7 T0_7.out T1_7.out).mono ?_
      intro e w8 hp
      obtain ⟨hb, ra8, rc8, DG, rfl, hg, hDG⟩ := HIP.out _ _ _ hp
      clear hp
      have hs8 := hb.size
      try simp only [World.size_alloc] at hDG hs8
      have HW_8 := Lib.hid (HW_7.out.trans (hb.mono HW_7.out.size))
      have BX1_8 := Lib.hid (BX1_7.out.below hb BX1_7.out.lt)
      have A0_8 := Lib.hid (A0_7.out.below hb)
      have A1_8 := Lib.hid (A1_7.out.below hb)
      have WR_8 := Lib.hid (WR_7.out.below hb)
      have T0_8 := Lib.hid (T0_7.out.below hb)
      have O0_8 := Lib.hid (O0_7.out.below hb)
      have T1_8 := Lib.hid (T1_7.out.below hb)
      have O1_8 := Lib.hid (O1_7.out.below hb)
      have XB1_8 := Lib.hid (XB1_7.out.below hb XB1_7.out.lt)
      have G_8 := Lib.hid (hg)
      have HDG := Lib.hid hDG
      clear hb hg hDG HW_7 BX1_7 A0_7 A1_7 WR_7 T0_7 O0_7 T1_7 O1_7 XB1_7
      obtain ⟨x0_0, x0_1, x0_2, -⟩ := BX1_8.out.three
      obtain ⟨x1_0, x1_1, x1_2, -⟩ := XB1_8.out.three
      go_wp2_with fail
      clear x0_0 x0_1 x0_2 x1_0 x1_1 x1_2
      refine (eqTraces_any _ _ _ r ra8 ra5 rc8 rc5 (G_8.out.at HFR.out) WR_8.out).mono ?_
      rintro e w9 ⟨rfl, hb⟩
      have HW_9 := Lib.hid (HW_8.out.trans (hb.mono HW_8.out.size))
      have BX1_9 := Lib.hid (BX1_8.out.below hb BX1_8.out.lt)
      have A0_9 := Lib.hid (A0_8.out.below hb)
      have A1_9 := Lib.hid (A1_8.out.below hb)
      have WR_9 := Lib.hid (WR_8.out.below hb)
      have T0_9 := Lib.hid (T0_8.out.below hb)
      have O0_9 := Lib.hid (O0_8.out.below hb)
      have T1_9 := Lib.hid (T1_8.out.below hb)
      have O1_9 := Lib.hid (O1_8.out.below hb)
      have XB1_9 := Lib.hid (XB1_8.out.below hb XB1_8.out.lt)
      have G_9 := Lib.hid (G_8.out.below hb)
      clear hb HW_8 BX1_8 A0_8 A1_8 WR_8 T0_8 O0_8 T1_8 O1_8 XB1_8 G_8
      have hbe := HBE.out
      obtain ⟨x0_0, x0_1, x0_2, -⟩ := BX1_9.out.three
      obtain ⟨x1_0, x1_1, x1_2, -⟩ := XB1_9.out.three
      go_wp2_with fail
      clear x0_0 x0_1 x0_2 x1_0 x1_1 x1_2
      clear hbe
      refine (copyQ_ow _ S0 l a0 c0 A0_9.out HL0.out).mono ?_
      rintro e w10 ⟨ra10, rc10, D10, rfl, ho, hD, hb⟩
      have HW_10 := Lib.hid (HW_9.out.trans (hb.mono HW_9.out.size))
      have BX1_10 := Lib.hid (BX1_9.out.below hb BX1_9.out.lt)
      have A0_10 := Lib.hid (A0_9.out.below hb)
      have A1_10 := Lib.hid (A1_9.out.below hb)
      have WR_10 := Lib.hid (WR_9.out.below hb)
      have T0_10 := Lib.hid (T0_9.out.below hb)
      have O0_10 := Lib.hid (O0_9.out.below hb)
      have T1_10 := Lib.hid (T1_9.out.below hb)
      have O1_10 := Lib.hid (O1_9.out.below hb)
      have XB1_10 := Lib.hid (XB1_9.out.below hb XB1_9.out.lt)
      have G_10 := Lib.hid (G_9.out.below hb)
      have E0_10 := Lib.hid (ho.at HF0.out)
      clear hb ho hD HW_9 BX1_9 A0_9 A1_9 WR_9 T0_9 O0_9 T1_9 O1_9 XB1_9 G_9
      obtain ⟨x0_0, x0_1, x0_2, -⟩ := BX1_10.out.three
      obtain ⟨x1_0, x1_1, x1_2, -⟩ := XB1_10.out.three
      go_wp2_with fail
      clear x0_0 x0_1 x0_2 x1_0 x1_1 x1_2
      refine (eqTraces_any _ _ _ l ra6 ra10 rc6 rc10 T0_10.out E0_10.out).mono ?_
      rintro e w11 ⟨rfl, hb⟩
      have HW_11 := Lib.hid (HW_10.out.trans (hb.mono HW_10.out.size))
      have BX1_11 := Lib.hid (BX1_10.out.below hb BX1_10.out.lt)
      have A0_11 := Lib.hid (A0_10.out.below hb)
      have A1_11 := Lib.hid (A1_10.out.below hb)
      have WR_11 := Lib.hid (WR_10.out.below hb)
      have O0_11 := Lib.hid (O0_10.out.below hb)
      have T1_11 := Lib.hid (T1_10.out.below hb)
      have O1_11 := Lib.hid (O1_10.out.below hb)
      have XB1_11 := Lib.hid (XB1_10.out.below hb XB1_10.out.lt)
      have G_11 := Lib.hid (G_10.out.below hb)
      clear hb HW_10 BX1_10 A0_10 A1_10 WR_10 T0_10 O0_10 T1_10 O1_10 XB1_10 G_10 E0_10
      obtain ⟨x0_0, x0_1, x0_2, -⟩ := BX1_11.out.three
      obtain ⟨x1_0, x1_1, x1_2, -⟩ := XB1_11.out.three
      go_wp2_with fail
      clear x0_0 x0_1 x0_2 x1_0 x1_1 x1_2
      obtain ⟨y0, y1, y2, -⟩ := XB1_11.out.three
      obtain ⟨z0, z1, z2, -⟩ := BX1_11.out.three
      go_region_held3 (fun w' => w'.cell? ⟨w7.heap.size, 0, none⟩ = some (.int .i64 t.k) ∧ w'.cell? ⟨w7.heap.size, 1, none⟩ = some (.slice ra7 t.u.length rc7) ∧ w'.cell? ⟨w7.heap.size, 2, none⟩ = some (.int .i64 t.v) ∧ w'.cell? ⟨w.heap.size, 0, none⟩ = some (.int .i64 t.k) ∧ w'.cell? ⟨w.heap.size, 1, none⟩ = some (.slice a1 t.u.length c1) ∧ w'.cell? ⟨w.heap.size, 2, none⟩ = some (.int .i64 t.v)) (first | exact ⟨y0, y1, y2, z0, z1, z2⟩ | exact ⟨u0, u1, u2, v0, v1, v2⟩ | exact ⟨p0, p1, p2, q_0, q_1, q_2⟩) ((first | (go_at_call 50; refine (copyR_ow _ S1 t a1 c1 A1_11.out.drew HL1.out).mono ?_; rintro e w12 ⟨ra12, rc12, D12, rfl, hoq, hDq, hbq⟩; obtain ⟨u0, u1, u2, -⟩ := (XB1_11.out.drew.below hbq XB1_11.out.drew.lt).three; obtain ⟨v0, v1, v2, -⟩ := (BX1_11.out.drew.below hbq BX1_11.out.drew.lt).three) | (go_at_call 45; go_must (refine (eqTrace_any _ _ _ t ra7 ra12 rc7 rc12 (T1_11.out.drew.below hbq) (hoq.at HF1.out)).mono ?_; rintro e w13 ⟨rfl, hbr⟩; obtain ⟨p0, p1, p2, -⟩ := ((XB1_11.out.drew.below hbq XB1_11.out.drew.lt).below hbr (XB1_11.out.drew.below hbq XB1_11.out.drew.lt).lt).three; obtain ⟨q_0, q_1, q_2, -⟩ := ((BX1_11.out.drew.below hbq BX1_11.out.drew.lt).below hbr (BX1_11.out.drew.below hbq BX1_11.out.drew.lt).lt).three))))
      have HW_13 := Lib.hid ((HW_11.out.drew.trans (hbq.mono HW_11.out.size)).trans (hbr.mono (Nat.le_trans HW_11.out.size hbq.size)))
      have BX1_13 := Lib.hid ((BX1_11.out.drew.below hbq BX1_11.out.drew.lt).below hbr (BX1_11.out.drew.below hbq BX1_11.out.drew.lt).lt)
      have A0_13 := Lib.hid ((A0_11.out.drew.below hbq).below hbr)
      have A1_13 := Lib.hid ((A1_11.out.drew.below hbq).below hbr)
      have WR_13 := Lib.hid ((WR_11.out.drew.below hbq).below hbr)
      have O0_13 := Lib.hid (((O0_11.out.below (Below.refl _ _).drew).below hbq).below hbr)
      have O1_13 := Lib.hid (((O1_11.out.below (Below.refl _ _).drew).below hbq).below hbr)
      have XB1_13 := Lib.hid ((XB1_11.out.drew.below hbq XB1_11.out.drew.lt).below hbr (XB1_11.out.drew.below hbq XB1_11.out.drew.lt).lt)
      have G_13 := Lib.hid (((G_11.out.below (Below.refl _ _).drew).below hbq).below hbr)
      clear hbq hbr hoq hDq y0 y1 y2 z0 z1 z2 u0 u1 u2 v0 v1 v2 p0 p1 p2 q_0 q_1 q_2 HW_11 BX1_11 A0_11 A1_11 WR_11 O0_11 T1_11 O1_11 XB1_11 G_11
      obtain ⟨x0_0, x0_1, x0_2, -⟩ := BX1_13.out.three
      obtain ⟨x1_0, x1_1, x1_2, -⟩ := XB1_13.out.three
      go_wp2_with fail
      clear x0_0 x0_1 x0_2 x1_0 x1_1 x1_2
      refine (markQ_ow _ D6 l ra6 rc6 1 O0_13.out HL0.out (by omega)).mono ?_
      rintro e w14 hm
      obtain ⟨rfl, hfr, _⟩ := hm
      rw [← HK0.out]
      have HW_14 := Lib.hid (Below.frD HW_13.out hfr (fun b hb => by have := HD0.out _ hb; omega))
      have BX1_14 := Lib.hid (BX1_13.out.fr hfr (fun hb => by have := HD0.out _ hb; omega))
      have A0_14 := Lib.hid (A0_13.out.fr hfr (fun b hs hb => by have := HD0.out _ hb; have := HS0.out b hs; omega))
      have A1_14 := Lib.hid (A1_13.out.fr hfr (fun b hs hb => by have := HD0.out _ hb; have := HS1.out b hs; omega))
      have WR_14 := Lib.hid (WR_13.out.fr hfr (fun b hs hb => by have := HD0.out _ hb; omega))
      have O1_14 := Lib.hid (O1_13.out.fr hfr (fun b hs hb => by have := HD0.out _ hb; have := HD1.out b hs; omega))
      have XB1_14 := Lib.hid (XB1_13.out.fr hfr (fun hb => by have := HD0.out _ hb; omega))
      have G_14 := Lib.hid (G_13.out.fr hfr (fun b hs hb => by have := HD0.out _ hb; have := HDG.out b hs; omega))
      clear hfr HW_13 BX1_13 A0_13 A1_13 WR_13 O0_13 O1_13 XB1_13 G_13
      obtain ⟨x0_0, x0_1, x0_2, -⟩ := BX1_14.out.three
      obtain ⟨x1_0, x1_1, x1_2, -⟩ := XB1_14.out.three
      go_wp2_with fail
      clear x0_0 x0_1 x0_2 x1_0 x1_1 x1_2
      refine (markR_ow _ D7 t ra7 rc7 k0 O1_14.out (Nat.le_trans HL1.out (by decide)) (by omega)).mono ?_
      rintro e w15 hm
      obtain ⟨rfl, hfr, _⟩ := hm
      rw [← HK1.out]
      have HW_15 := Lib.hid (Below.frD HW_14.out hfr (fun b hb => by have := HD1.out _ hb; omega))
      have BX1_15 := Lib.hid (BX1_14.out.fr hfr (fun hb => by have := HD1.out _ hb; omega))
      have A0_15 := Lib.hid (A0_14.out.fr hfr (fun b hs hb => by have := HD1.out _ hb; have := HS0.out b hs; omega))
      have A1_15 := Lib.hid (A1_14.out.fr hfr (fun b hs hb => by have := HD1.out _ hb; have := HS1.out b hs; omega))
      have WR_15 := Lib.hid (WR_14.out.fr hfr (fun b hs hb => by have := HD1.out _ hb; omega))
      have G_15 := Lib.hid (G_14.out.fr hfr (fun b hs hb => by have := HD1.out _ hb; have := HDG.out b hs; omega))
      clear hfr HW_14 BX1_14 A0_14 A1_14 WR_14 O1_14 XB1_14 G_14
      obtain ⟨x0_0, x0_1, x0_2, -⟩ := BX1_15.out.three
      go_wp2_with fail
      clear x0_0 x0_1 x0_2
      refine (eqTraces_any _ _ _ r ra8 ra5 rc8 rc5 (G_15.out.at HFR.out) WR_15.out).mono ?_
      rintro e w16 ⟨rfl, hb⟩
      have HW_16 := Lib.hid (HW_15.out.trans (hb.mono HW_15.out.size))
      have BX1_16 := Lib.hid (BX1_15.out.below hb BX1_15.out.lt)
      have A0_16 := Lib.hid (A0_15.out.below hb)
      have A1_16 := Lib.hid (A1_15.out.below hb)
      have WR_16 := Lib.hid (WR_15.out.below hb)
      have G_16 := Lib.hid (G_15.out.below hb)
      clear hb HW_15 BX1_15 A0_15 A1_15 WR_15 G_15
      have hbe := HBE.out
      obtain ⟨x0_0, x0_1, x0_2, -⟩ := BX1_16.out.three
      go_wp2_with fail
      clear x0_0 x0_1 x0_2
      clear hbe
      refine (markQ_ow _ DG r ra8 rc8 1 G_16.out (by omega) (by omega)).mono ?_
      rintro e w17 hm
      obtain ⟨rfl, hfr, hmk⟩ := hm
      rw [← HNN.out]
      have HW_17 := Lib.hid (Below.frD HW_16.out hfr (fun b hb => by have := HDG.out _ hb; omega))
      have BX1_17 := Lib.hid (BX1_16.out.fr hfr (fun hb => by have := HDG.out _ hb; omega))
      have A0_17 := Lib.hid (A0_16.out.fr hfr (fun b hs hb => by have := HDG.out _ hb; have := HS0.out b hs; omega))
      have A1_17 := Lib.hid (A1_16.out.fr hfr (fun b hs hb => by have := HDG.out _ hb; have := HS1.out b hs; omega))
      have WR_17 := Lib.hid (WR_16.out.fr hfr (fun b hs hb => by have := HDG.out _ hb; omega))
      have M_17 := Lib.hid hmk
      clear hfr hmk HW_16 BX1_16 A0_16 A1_16 WR_16 G_16
      obtain ⟨x0_0, x0_1, x0_2, -⟩ := BX1_17.out.three
      go_wp2_with fail
      clear x0_0 x0_1 x0_2
      refine (heldQ_ow _ DG r 1 ra8 rc8  M_17.out (by omega) (by omega)).mono ?_
      rintro e w18 ⟨rfl, rfl⟩
      rw [← HNN.out]
      have hne := HNE.out
      obtain ⟨x0_0, x0_1, x0_2, -⟩ := BX1_17.out.drew.three
      go_wp2_with fail
      go_region_held3 (fun w' => w'.cell? ⟨w.heap.size, 0, none⟩ = some (.int .i64 t.k) ∧ w'.cell? ⟨w.heap.size, 1, none⟩ = some (.slice a1 t.u.length c1) ∧ w'.cell? ⟨w.heap.size, 2, none⟩ = some (.int .i64 t.v)) (first | exact ⟨x0_0, x0_1, x0_2⟩ | exact ⟨y0, y1, y2⟩ | exact ⟨z0, z1, z2⟩ | exact ⟨v0, v1, v2⟩ | go_keep) (first | (go_at_call 54; refine (copyQ_ow _ S0 l a0 c0 A0_17.out.drew HL0.out).mono ?_; rintro e w19 ⟨ra19, rc19, D19, rfl, ho3, hD3, hb3⟩; obtain ⟨y0, y1, y2, -⟩ := (BX1_17.out.drew.below hb3 BX1_17.out.lt).three) | (go_at_call 50; refine (copyR_ow _ S1 t a1 c1 (A1_17.out.drew.below hb3) HL1.out).mono ?_; rintro e w20 ⟨ra20, rc20, D20, rfl, ho4, hD4, hb4⟩; obtain ⟨z0, z1, z2, -⟩ := ((BX1_17.out.drew.below hb3 BX1_17.out.lt).below hb4 (Nat.lt_of_lt_of_le BX1_17.out.lt hb3.size)).three) | (go_at_call 63; refine (implPut_any _ _ _ l t ra19 ra20 rc19 rc20 ((ho3.at HF0.out).below hb4) (ho4.at HF1.out)).mono ?_; intro e w21 hp; obtain ⟨hb5, ra21, rc21, DH, rfl, hg, hDG⟩ := HIP.out _ _ _ hp; clear hp; obtain ⟨v0, v1, v2, -⟩ := (((BX1_17.out.drew.below hb3 BX1_17.out.lt).below hb4 (Nat.lt_of_lt_of_le BX1_17.out.lt hb3.size)).below hb5 (Nat.lt_of_lt_of_le BX1_17.out.lt (Nat.le_trans hb3.size hb4.size))).three))
      have hb : Below w17.heap.size w17 w21 := ((Below.refl w17.heap.size w17).drew.trans hb3).trans ((hb4.mono hb3.size).trans (hb5.mono (Nat.le_trans hb3.size hb4.size)))
      clear hb3 hb4 hb5 ho3 hD3 ho4 hD4 x0_0 x0_1 x0_2 y0 y1 y2 z0 z1 z2 v0 v1 v2
      have HW_21 := Lib.hid (HW_17.out.trans (hb.mono HW_17.out.size))
      have BX1_21 := Lib.hid (BX1_17.out.below hb BX1_17.out.lt)
      have WR_21 := Lib.hid (WR_17.out.below hb)
      have M_21 := Lib.hid (M_17.out.below hb)
      have HG_21 := Lib.hid (hg.at HFR.out)
      clear hb hg hDG HW_17 BX1_17 A0_17 A1_17 WR_17 M_17
      obtain ⟨x0_0, x0_1, x0_2, -⟩ := BX1_21.out.three
      go_wp2_with fail
      clear x0_0 x0_1 x0_2
      refine (eqTraces_any _ _ _ r ra21 ra5 rc21 rc5 HG_21.out WR_21.out).mono ?_
      rintro e w22 ⟨rfl, hb⟩
      have HW_22 := Lib.hid (HW_21.out.trans (hb.mono HW_21.out.size))
      have BX1_22 := Lib.hid (BX1_21.out.below hb BX1_21.out.lt)
      have WR_22 := Lib.hid (WR_21.out.below hb)
      have M_22 := Lib.hid (M_21.out.below hb)
      clear hb HW_21 BX1_21 WR_21 M_21 HG_21
      have hbe := HBE.out
      obtain ⟨x0_0, x0_1, x0_2, -⟩ := BX1_22.out.three
      go_wp2_with fail
      clear x0_0 x0_1 x0_2
      clear hbe
      refine (heldQ_ow _ DG r 1 ra8 rc8  M_22.out (by omega) (by omega)).mono ?_
      rintro e w23 ⟨rfl, rfl⟩
      rw [← HNN.out]
      have hne := HNE.out
      obtain ⟨x0_0, x0_1, x0_2, -⟩ := BX1_22.out.three
      go_wp2_with fail
      clear x0_0 x0_1 x0_2
      clear hne
      go_ret
      exact ⟨rfl, HW_22.out⟩
    · have HZ := Lib.hid (show szN (t.u.length) q0 = -1 by unfold szN; rw [if_neg hz1])
      clear hz1
      clear hz0 hq0
      obtain ⟨x0_0, x0_1, x0_2, -⟩ := BX1.out.three
      go_enter Try.func12, Try.ntmps12
      go_wp2_with fail
      clear x0_0 x0_1 x0_2
      refine (szTraces_any _ S0 l a0 c0 1048576 A0.out (by omega)).mono ?_
      rintro e w24 ⟨rfl, hb⟩
      rw [HZ0.out]
      have HW_24 := Lib.hid (HW.out.trans (hb.mono HW.out.size))
      have BX1_24 := Lib.hid (BX1.out.below hb BX1.out.lt)
      have A0_24 := Lib.hid (A0.out.below hb)
      have A1_24 := Lib.hid (A1.out.below hb)
      clear hb HW BX1 A0 A1
      obtain ⟨x0_0, x0_1, x0_2, -⟩ := BX1_24.out.three
      go_wp2_with fail
      clear x0_0 x0_1 x0_2
      refine (szTrace_any _ S1 t a1 c1 q0 A1_24.out (by omega)).mono ?_
      rintro e w25 ⟨rfl, hb⟩
      rw [HZ.out]
      have HW_25 := Lib.hid (HW_24.out.trans (hb.mono HW_24.out.size))
      have BX1_25 := Lib.hid (BX1_24.out.below hb BX1_24.out.lt)
      have A0_25 := Lib.hid (A0_24.out.below hb)
      have A1_25 := Lib.hid (A1_24.out.below hb)
      clear hb HW_24 BX1_24 A0_24 A1_24
      go_wp2_with fail
      go_ret
      exact ⟨rfl, HW_25.out⟩
  · have HZ := Lib.hid (show szN (trN l) 1048576 = -1 by unfold szN; rw [if_neg hz0])
    clear hz0
    obtain ⟨x0_0, x0_1, x0_2, -⟩ := BX1.out.three
    go_enter Try.func12, Try.ntmps12
    go_wp2_with fail
    clear x0_0 x0_1 x0_2
    refine (szTraces_any _ S0 l a0 c0 1048576 A0.out (by omega)).mono ?_
    rintro e w26 ⟨rfl, hb⟩
    rw [HZ.out]
    have HW_26 := Lib.hid (HW.out.trans (hb.mono HW.out.size))
    have BX1_26 := Lib.hid (BX1.out.below hb BX1.out.lt)
    have A0_26 := Lib.hid (A0.out.below hb)
    have A1_26 := Lib.hid (A1.out.below hb)
    clear hb HW BX1 A0 A1
    go_wp2_with fail
    go_ret
    exact ⟨rfl, HW_26.out⟩
end Go.Proofs.Ytjjojnmhhmdlpaa
