/- the walk of laws.FnExactSheetSafe -/
import Derived.Test.YtohogojphnlhpabSafeI
import Derived.WalkSpells
import Derived.Deep.RegionWith
namespace Go.Proofs.Ytohogojphnlhpab
open Go.RowKit

set_option maxHeartbeats 2000000 in
theorem walk_exactSheetSafe (s : Sh) (w : World) (S0 : Nat → Prop) (a : Option Addr) (c : Nat) (a' : Option Addr) (c' : Nat) (h0 : ShAt w S0 s a c a' c') :
    Calls Try.prog 5 #[.agg #[.slice a s.m.length c, .slice a' s.t.length c']] w fun e w' => e = .returned (.bool true) ∧ Below w.heap.size w w' := by
  obtain ⟨S, hSd⟩ : ∃ S : Nat → Prop, S = fun b => S0 b ∧ b < w.heap.size := ⟨_, rfl⟩
  have h : ShAt w S s a c a' c' := by rw [hSd]; exact h0.lim
  have K0 := Lib.hid (Ks.start (ty := 25) h)
  clear h h0 hSd
  by_cases hle : s.m.length + nodesL s.t ≤ 1048576
  · have hz : szSh s 1048576 = ((1048576 - s.m.length - nodesL s.t : Nat) : Int) := by unfold szSh; rw [if_pos hle]; omega
    have HZ := Lib.hid hz
    have hlm : s.m.length ≤ 1048576 := by omega
    have HLM := Lib.hid hlm
    have HL := Lib.hid (show nodesL s.t ≤ 1048576 by omega)
    have hne : (safeB s != safeB s) = false := by simp
    have HNE := Lib.hid hne
    clear hz hne hle hlm
    obtain ⟨x0, x1⟩ := K0.out.box
    go_enter Try.func5, Try.ntmps5
    go_wp2_with fail
    refine (szSheet_any _ S s a c a' c' 1048576 K0.out.2 (by omega)).mono ?_
    rintro e w1 ⟨rfl, hb⟩
    rw [HZ.out]
    have K1 := Lib.hid (K0.out.step hb)
    clear hb HZ K0 x0 x1
    obtain ⟨x0, x1⟩ := K1.out.box
    go_wp2_with fail
    refine (copySh_any _ S s a c a' c' K1.out.2 HLM.out HL.out).mono ?_
    rintro e w2 ⟨v2, a2', c2', F2, rfl, hsm, hb⟩
    obtain ⟨a2, c2, rfl, hat⟩ := hsm.at
    have K2 := Lib.hid (K1.out.step hb)
    have HT2 := Lib.hid hat
    clear hb hat hsm x0 x1 K1
    obtain ⟨x0, x1⟩ := K2.out.box
    go_wp2_with fail
    refine (specSafe_any s _ _ a2 c2 a2' c2' HT2.out HL.out).mono ?_
    rintro e w3 ⟨rfl, hb⟩
    have K3 := Lib.hid (K2.out.step hb)
    clear hb x0 x1 HT2 K2
    obtain ⟨x0, x1⟩ := K3.out.box
    go_wp2_with fail
    refine (copySh_any _ S s a c a' c' K3.out.2 HLM.out HL.out).mono ?_
    rintro e w4 ⟨v4, a4', c4', F4, rfl, hsm, hb⟩
    obtain ⟨a4, c4, rfl, hat⟩ := hsm.at
    have K4 := Lib.hid ((K3.out.step hb).alloc (.cells #[.slice a4 s.m.length c4, .slice a4' s.t.length c4'] 32))
    have HT4 := Lib.hid (hat.alloc (.cells #[.slice a4 s.m.length c4, .slice a4' s.t.length c4'] 32))
    have HX4 := Lib.hid (Blk.new w4 32 #[.slice a4 s.m.length c4, .slice a4' s.t.length c4'])
    clear hb hat hsm x0 x1 K3
    go_wp2_with fail
    refine (implSafe_any s _ _ a4 c4 a4' c4' HT4.out).mono ?_
    rintro e w5 ⟨rfl, hb⟩
    have K5 := Lib.hid (K4.out.step hb)
    have HT5 := Lib.hid (HT4.out.below hb)
    have hx5 := HX4.out.below hb (by simp)
    have HX5 := Lib.hid hx5
    obtain ⟨y0, y1, _, _⟩ := hx5.two
    have hs5 := hb.size
    simp only [World.size_alloc] at hs5
    clear hb HT4 K4 HX4 hx5
    obtain ⟨x0, x1⟩ := K5.out.box
    have hne := HNE.out
    go_wp2_with fail
    clear hne HNE
    go_region_with (first | (go_at_call 8; refine (copySh_any _ S s a c a' c' ?_ HLM.out HL.out).mono ?_; exact K5.out.drew.2; rintro e w6 ⟨v6, a6', c6', F6, rfl, hsm6, hb6⟩; obtain ⟨a6, c6, rfl, hat6⟩ := hsm6.at; obtain ⟨z0, z1, _, _⟩ := (HX5.out.drew.below hb6 (by simp; omega)).two) | (go_at_call 12; go_must (refine (eqSheet_any _ _ _ s a4 c4 a4' c4' a6 c6 a6' c6' (HT5.out.drew.below hb6) hat6).mono ?_; rintro e w7 ⟨rfl, hb7⟩)))
    all_goals
      have K7 := Lib.hid ((K5.out.drew.step hb6).step hb7)
      clear z0 z1 hat6 hb6 hb7 hsm6
      go_wp2_with fail
      go_ret
      exact ⟨rfl, K7.out.done⟩
  · have hz : szSh s 1048576 = -1 := by unfold szSh; rw [if_neg (by omega)]
    have HZ := Lib.hid hz
    clear hz hle
    obtain ⟨x0, x1⟩ := K0.out.box
    go_enter Try.func5, Try.ntmps5
    go_wp2_with fail
    refine (szSheet_any _ S s a c a' c' 1048576 K0.out.2 (by omega)).mono ?_
    rintro e w1 ⟨rfl, hb⟩
    rw [HZ.out]
    have K1 := Lib.hid (K0.out.step hb)
    clear hb HZ K0
    go_wp2_with fail
    go_ret
    exact ⟨rfl, K1.out.done⟩
end Go.Proofs.Ytohogojphnlhpab
