/- the walk of laws.FnExactTracesOk (written by wip/tools/gen_law.py) -/
import Derived.Test.YtjjojnmhhmdlpaaTrQ
import Derived.Test.YtjjojnmhhmdlpaaTr2
import Derived.WalkSpells
import Derived.Deep.RegionHeld3
namespace Go.Proofs.Ytjjojnmhhmdlpaa
open Go.RowKit

set_option maxRecDepth 100000 in
set_option maxHeartbeats 8000000 in
theorem walk_exactTracesOk (l : List Tr) (w : World) (S00 : Nat → Prop) (a0 : Option Addr) (c0 : Nat) (h00 : TrsAt w S00 l a0 c0) :
    Calls Try.prog 9 #[.slice a0 l.length c0] w fun e w' => e = .returned (.bool true) ∧ Below w.heap.size w w' := by
  obtain ⟨S0, hSd0⟩ : ∃ S : Nat → Prop, S = fun b => S00 b ∧ b < w.heap.size := ⟨_, rfl⟩
  have hS0 : ∀ b, S0 b → b < w.heap.size := by rw [hSd0]; exact fun b h => h.2
  have h0 : TrsAt w S0 l a0 c0 := by rw [hSd0]; exact h00.lim
  have HS0 := Lib.hid hS0
  have HF0 := Lib.hid (TrsAt.fine h0)
  have HW := Lib.hid (show Below w.heap.size w w from Below.refl _ _)
  have A0 := Lib.hid h0
  clear hSd0 hS0 h00 h0
  by_cases hz0 : trN l ≤ 1048576
  · obtain ⟨q0, hq0⟩ : ∃ q : Nat, q = 1048576 - (trN l) := ⟨_, rfl⟩
    have HZ0 := Lib.hid (show szN (trN l) 1048576 = (q0 : Int) by unfold szN; rw [if_pos hz0, hq0]; omega)
    have hqb0 : q0 ≤ 1048576 := by omega
    have HL0 := Lib.hid (show trN l ≤ 1048576 by omega)
    obtain ⟨r, hr⟩ : ∃ r, r = trsOk l := ⟨_, rfl⟩
    have HR := Lib.hid hr
    clear hr
    have HBE := Lib.hid (show (r != r) = false by simp)
    clear hz0 hq0
    go_enter Try.func9, Try.ntmps9
    go_wp2_with fail
    refine (szTraces_any _ S0 l a0 c0 1048576 A0.out (by omega)).mono ?_
    rintro e w1 ⟨rfl, hb⟩
    rw [HZ0.out]
    have HW_1 := Lib.hid (HW.out.trans (hb.mono HW.out.size))
    have A0_1 := Lib.hid (A0.out.below hb)
    clear hb HZ0 HW A0
    go_wp2_with fail
    refine (copyQ_ow _ S0 l a0 c0 A0_1.out HL0.out).mono ?_
    rintro e w2 ⟨a2, c2, D2, rfl, ho, hD, hb⟩
    have HW_2 := Lib.hid (HW_1.out.trans (hb.mono HW_1.out.size))
    have A0_2 := Lib.hid (A0_1.out.below hb)
    have C0_2 := Lib.hid (ho.at HF0.out)
    clear hb ho hD HW_1 A0_1
    go_wp2_with fail
    refine (specTrsOk_any _ _ l a2 c2 C0_2.out).mono ?_
    rintro e w3 ⟨rfl, hb⟩
    have hsW : w.heap.size + 0 ≤ w3.heap.size := by have := hb.size; have := HW_2.out.size; omega
    rw [← HR.out]
    have HW_3 := Lib.hid (HW_2.out.trans (hb.mono HW_2.out.size))
    have A0_3 := Lib.hid (A0_2.out.below hb)
    clear hb HW_2 A0_2 C0_2
    go_wp2_with fail
    refine (copyQ_ow _ S0 l a0 c0 A0_3.out HL0.out).mono ?_
    rintro e w4 ⟨a4, c4, D4, rfl, ho, hD, hb⟩
    have hs4 := hb.size
    try simp only [World.size_alloc] at hD hs4
    have HW_4 := Lib.hid (HW_3.out.trans (hb.mono HW_3.out.size))
    have A0_4 := Lib.hid (A0_3.out.below hb)
    have T0_4 := Lib.hid (ho.at HF0.out)
    have O0_4 := Lib.hid (ho)
    have HD0 := Lib.hid hD
    clear hb ho hD HW_3 A0_3
    go_wp2_with fail
    refine (tracesOk_any _ _ l a4 c4 T0_4.out).mono ?_
    rintro e w5 ⟨rfl, hb⟩
    rw [← HR.out]
    have HW_5 := Lib.hid (HW_4.out.trans (hb.mono HW_4.out.size))
    have A0_5 := Lib.hid (A0_4.out.below hb)
    have T0_5 := Lib.hid (T0_4.out.below hb)
    have O0_5 := Lib.hid (O0_4.out.below hb)
    clear hb HW_4 A0_4 T0_4 O0_4
    have hbe := HBE.out
    go_wp2_with fail
    clear hbe
    refine (copyQ_ow _ S0 l a0 c0 A0_5.out HL0.out).mono ?_
    rintro e w6 ⟨a6, c6, D6, rfl, ho, hD, hb⟩
    have HW_6 := Lib.hid (HW_5.out.trans (hb.mono HW_5.out.size))
    have A0_6 := Lib.hid (A0_5.out.below hb)
    have T0_6 := Lib.hid (T0_5.out.below hb)
    have O0_6 := Lib.hid (O0_5.out.below hb)
    have E0_6 := Lib.hid (ho.at HF0.out)
    clear hb ho hD HW_5 A0_5 T0_5 O0_5
    go_wp2_with fail
    refine (eqTraces_any _ _ _ l a4 a6 c4 c6 T0_6.out E0_6.out).mono ?_
    rintro e w7 ⟨rfl, hb⟩
    have HW_7 := Lib.hid (HW_6.out.trans (hb.mono HW_6.out.size))
    have A0_7 := Lib.hid (A0_6.out.below hb)
    have O0_7 := Lib.hid (O0_6.out.below hb)
    clear hb HW_6 A0_6 T0_6 O0_6 E0_6
    go_wp2_with fail
    go_ret
    exact ⟨rfl, HW_7.out⟩
  · have HZ := Lib.hid (show szN (trN l) 1048576 = -1 by unfold szN; rw [if_neg hz0])
    clear hz0
    go_enter Try.func9, Try.ntmps9
    go_wp2_with fail
    refine (szTraces_any _ S0 l a0 c0 1048576 A0.out (by omega)).mono ?_
    rintro e w8 ⟨rfl, hb⟩
    rw [HZ.out]
    have HW_8 := Lib.hid (HW.out.trans (hb.mono HW.out.size))
    have A0_8 := Lib.hid (A0.out.below hb)
    clear hb HW A0
    go_wp2_with fail
    go_ret
    exact ⟨rfl, HW_8.out⟩
end Go.Proofs.Ytjjojnmhhmdlpaa
