/- the walk of laws.FnExactBuildKey -/
import Derived.Test.YtoaihkgllmmdlaaBuildI
import Derived.Test.YtoaihkgllmmdlaaBuildS
import Derived.Test.YtoaihkgllmmdlaaBs1
import Derived.WalkSpells
import Derived.Deep.RegionWith
namespace Go.Proofs.Ytoaihkgllmmdlaa
open Go.RowKit

set_option maxHeartbeats 2000000 in
theorem walk_exactBuildKey (s : Sh) (l : List Int) (key : Int) (w : World) (S0 S0' : Nat → Prop) (a : Option Addr) (c : Nat) (a' : Option Addr) (c' : Nat) (ai : Option Addr) (ci : Nat) (h0 : ShAt w S0 s a c a' c') (hl0 : IntsAt w S0' l ai ci) :
    Calls Try.prog 7 #[.agg #[.slice a s.m.length c, .slice a' s.t.length c'], .slice ai l.length ci, .int .i64 key] w fun e w' => e = .returned (.bool true) ∧ Below w.heap.size w w' := by
  obtain ⟨S, hSd⟩ : ∃ S : Nat → Prop, S = fun b => S0 b ∧ b < w.heap.size := ⟨_, rfl⟩
  have h : ShAt w S s a c a' c' := by rw [hSd]; exact h0.lim
  obtain ⟨S', hSd'⟩ : ∃ S : Nat → Prop, S = fun b => S0' b ∧ b < w.heap.size := ⟨_, rfl⟩
  have hl : IntsAt w S' l ai ci := by rw [hSd']; exact hl0.lim
  have K0 := Lib.hid (Ks.start (ty := 50) h)
  have L0 := Lib.hid (hl.alloc (.cells #[.slice a s.m.length c, .slice a' s.t.length c'] 50))
  have hlm : l.length ≤ 9223372036854775807 := by have := hl.1; have := hl.2.1; omega
  clear h h0 hSd hl hl0 hSd'
  by_cases hbig : 1048576 < l.length
  · go_enter Try.func7, Try.ntmps7
    go_wp2_with fail
    go_ret
    exact ⟨rfl, K0.out.done⟩
  have hln : l.length ≤ 1048576 := by omega
  by_cases hle : s.m.length + nodesL s.t ≤ 1048576
  · have hz : szSh s 1048576 = ((1048576 - s.m.length - nodesL s.t : Nat) : Int) := by unfold szSh; rw [if_pos hle]; omega
    have HZ := Lib.hid hz
    have hlmm : s.m.length ≤ 1048576 := by omega
    have HLM := Lib.hid hlmm
    have HL := Lib.hid (show nodesL s.t ≤ 1048576 by omega)
    obtain ⟨v, hv⟩ : ∃ v, v = bkV s l key := ⟨_, rfl⟩
    obtain ⟨b, hb⟩ : ∃ b, b = bkOk s l key := ⟨_, rfl⟩
    have HV := Lib.hid hv
    have HBB := Lib.hid hb
    have hne : (v != v) = false := by simp
    have hnb : (b != b) = false := by simp
    have HNE := Lib.hid (And.intro hne hnb)
    clear hz hle hlmm hv hb hne hnb
    obtain ⟨x0, x1⟩ := K0.out.box
    go_enter Try.func7, Try.ntmps7
    go_wp2_with fail
    refine (szSheet_any _ S s a c a' c' 1048576 K0.out.2 (by omega)).mono ?_
    rintro e w1 ⟨rfl, hb⟩
    rw [HZ.out]
    have K1 := Lib.hid (K0.out.step hb)
    have L1 := Lib.hid (L0.out.below hb)
    clear hb HZ K0 L0 x0 x1
    obtain ⟨x0, x1⟩ := K1.out.box
    go_wp2_with fail
    refine (copySh_any _ S s a c a' c' K1.out.2 HLM.out HL.out).mono ?_
    rintro e w2 ⟨v2, a2', c2', F2, rfl, hsm, hb⟩
    obtain ⟨a2, c2, rfl, hat⟩ := hsm.at
    have K2 := Lib.hid (K1.out.step hb)
    have L2 := Lib.hid (L1.out.below hb)
    have HT2 := Lib.hid hat
    clear hb hat hsm x0 x1 K1 L1
    go_wp2_with fail
    refine (copyI_any w2 S' l ai ci L2.out hln).mono ?_
    rintro e w3 ⟨a3, c3, rfl, hi3, hb⟩
    have K3 := Lib.hid (K2.out.step hb)
    have L3 := Lib.hid (L2.out.below hb)
    have HT3 := Lib.hid (HT2.out.below hb)
    have HI3 := Lib.hid hi3
    clear hb hi3 K2 L2 HT2
    go_wp2_with fail
    refine (specBuildKey_any s l key _ _ _ a2 c2 a2' c2' a3 c3 HT3.out HL.out HI3.out).mono ?_
    rintro e w4 ⟨rfl, hb⟩
    rw [← HV.out, ← HBB.out]
    have K4 := Lib.hid (K3.out.step hb)
    have L4 := Lib.hid (L3.out.below hb)
    clear hb K3 L3 HT3 HI3
    obtain ⟨x0, x1⟩ := K4.out.box
    go_wp2_with fail
    refine (copySh_any _ S s a c a' c' K4.out.2 HLM.out HL.out).mono ?_
    rintro e w5 ⟨v5, a5', c5', F5, rfl, hsm, hb⟩
    obtain ⟨a5, c5, rfl, hat⟩ := hsm.at
    have K5 := Lib.hid ((K4.out.step hb).alloc (.cells #[.slice a5 s.m.length c5, .slice a5' s.t.length c5'] 54))
    have L5 := Lib.hid ((L4.out.below hb).alloc (.cells #[.slice a5 s.m.length c5, .slice a5' s.t.length c5'] 54))
    have HT5 := Lib.hid (hat.alloc (.cells #[.slice a5 s.m.length c5, .slice a5' s.t.length c5'] 54))
    have HX5 := Lib.hid (Blk.new w5 54 #[.slice a5 s.m.length c5, .slice a5' s.t.length c5'])
    clear hb hat hsm x0 x1 K4 L4
    go_wp2_with fail
    refine (copyI_any _ S' l ai ci L5.out hln).mono ?_
    rintro e w6 ⟨a6, c6, rfl, hi6, hb⟩
    have hs6 := hb.size
    simp only [World.size_alloc] at hs6
    have K6 := Lib.hid (K5.out.step hb)
    have L6 := Lib.hid (L5.out.below hb)
    have HT6 := Lib.hid (HT5.out.below hb)
    have hx6 := HX5.out.below hb (by simp)
    have HI6 := Lib.hid hi6
    have HX6 := Lib.hid hx6
    obtain ⟨y0, y1, _, _⟩ := hx6.two
    clear hb hi6 hx6 K5 L5 HT5 HX5
    go_wp2_with fail
    refine (implBuildKey_any s l key w6 _ _ a5 c5 a5' c5' a6 c6 HT6.out HI6.out).mono ?_
    rintro e w7 ⟨rfl, hb⟩
    rw [← HV.out, ← HBB.out]
    have hs7 := hb.size
    have K7 := Lib.hid (K6.out.step hb)
    have L7 := Lib.hid (L6.out.below hb)
    have HT7 := Lib.hid (HT6.out.below hb)
    have hx7 := HX6.out.below hb (by omega)
    have HI7 := Lib.hid (HI6.out.below hb)
    have HX7 := Lib.hid hx7
    clear hb y0 y1 K6 L6 HT6 HX6 HI6
    obtain ⟨y0, y1, _, _⟩ := hx7.two
    obtain ⟨x0, x1⟩ := K7.out.box
    obtain ⟨hne, hnb⟩ := HNE.out
    clear hx7
    go_wp2_with fail
    clear hne hnb HNE
    go_region_with (first | (go_at_call 34; refine (copySh_any _ S s a c a' c' ?_ HLM.out HL.out).mono ?_; exact K7.out.drew.2; rintro e w8 ⟨v8, a8', c8', F8, rfl, hsm8, hb8⟩; obtain ⟨a8, c8, rfl, hat8⟩ := hsm8.at; obtain ⟨z0, z1, _, _⟩ := (HX7.out.drew.below hb8 (by simp; omega)).two) | (go_at_call 36; go_must (refine (eqSheet_any _ _ _ s a5 c5 a5' c5' a8 c8 a8' c8' (HT7.out.drew.below hb8) hat8).mono ?_; rintro e w9 ⟨rfl, hb9⟩)))
    all_goals
      have K9 := Lib.hid ((K7.out.drew.step hb8).step hb9)
      have L9 := Lib.hid ((L7.out.drew.below hb8).below hb9)
      have HI9 := Lib.hid ((HI7.out.drew.below hb8).below hb9)
      clear z0 z1 hat8 hb8 hb9 x0 x1 y0 y1 hsm8
      go_wp2_with fail
      refine (copyI_any _ S' l ai ci L9.out hln).mono ?_
      rintro e w10 ⟨a10, c10, rfl, hi10, hb⟩
      have K10 := Lib.hid (K9.out.step hb)
      have HI10 := Lib.hid (HI9.out.below hb)
      have HJ10 := Lib.hid hi10
      clear hb hi10
      go_wp2_with fail
      refine (eqInts_any _ _ _ l a6 a10 c6 c10 HI10.out HJ10.out).mono ?_
      rintro e w11 ⟨rfl, hb⟩
      have K11 := Lib.hid (K10.out.step hb)
      clear hb
      go_wp2_with fail
      go_ret
      exact ⟨rfl, K11.out.done⟩
  · have hz : szSh s 1048576 = -1 := by unfold szSh; rw [if_neg (by omega)]
    have HZ := Lib.hid hz
    clear hz hle
    obtain ⟨x0, x1⟩ := K0.out.box
    go_enter Try.func7, Try.ntmps7
    go_wp2_with fail
    refine (szSheet_any _ S s a c a' c' 1048576 K0.out.2 (by omega)).mono ?_
    rintro e w1 ⟨rfl, hb⟩
    rw [HZ.out]
    have K1 := Lib.hid (K0.out.step hb)
    clear hb HZ K0
    go_wp2_with fail
    go_ret
    exact ⟨rfl, K1.out.done⟩
end Go.Proofs.Ytoaihkgllmmdlaa
