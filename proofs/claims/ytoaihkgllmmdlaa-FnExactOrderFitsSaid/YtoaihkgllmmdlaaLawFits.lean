/- the walk of laws.FnExactOrderFits -/
import Derived.Test.YtoaihkgllmmdlaaFitI
import Derived.Test.YtoaihkgllmmdlaaFitS
import Derived.Test.YtoaihkgllmmdlaaBs1
import Derived.WalkSpells
import Derived.Deep.RegionWith
namespace Go.Proofs.Ytoaihkgllmmdlaa
open Go.RowKit

set_option maxHeartbeats 4000000 in
theorem walk_exactOrderFits (s : Sh) (l o : List Int) (w : World) (S0 S0' S0'' : Nat → Prop) (a : Option Addr) (c : Nat) (a' : Option Addr) (c' : Nat) (ai : Option Addr) (ci : Nat) (ao : Option Addr) (co : Nat) (h0 : ShAt w S0 s a c a' c') (hl0 : IntsAt w S0' l ai ci) (ho0 : IntsAt w S0'' o ao co) :
    Calls Try.prog 12 #[.agg #[.slice a s.m.length c, .slice a' s.t.length c'], .slice ai l.length ci, .slice ao o.length co] w fun e w' => e = .returned (.bool true) ∧ Below w.heap.size w w' := by
  obtain ⟨S, hSd⟩ : ∃ S : Nat → Prop, S = fun b => S0 b ∧ b < w.heap.size := ⟨_, rfl⟩
  have h : ShAt w S s a c a' c' := by rw [hSd]; exact h0.lim
  obtain ⟨S', hSd'⟩ : ∃ S : Nat → Prop, S = fun b => S0' b ∧ b < w.heap.size := ⟨_, rfl⟩
  have hl : IntsAt w S' l ai ci := by rw [hSd']; exact hl0.lim
  obtain ⟨S'', hSd''⟩ : ∃ S : Nat → Prop, S = fun b => S0'' b ∧ b < w.heap.size := ⟨_, rfl⟩
  have ho : IntsAt w S'' o ao co := by rw [hSd'']; exact ho0.lim
  have K0 := Lib.hid (Ks.start (ty := 50) h)
  have L0 := Lib.hid (hl.alloc (.cells #[.slice a s.m.length c, .slice a' s.t.length c'] 50))
  have O0 := Lib.hid (ho.alloc (.cells #[.slice a s.m.length c, .slice a' s.t.length c'] 50))
  have hlm : l.length ≤ 9223372036854775807 := by have := hl.1; have := hl.2.1; omega
  have hom : o.length ≤ 9223372036854775807 := by have := ho.1; have := ho.2.1; omega
  clear h h0 hSd hl hl0 hSd' ho ho0 hSd''
  by_cases hbig : 1048576 < l.length
  · go_enter Try.func12, Try.ntmps12
    go_wp2_with fail
    go_ret
    exact ⟨rfl, K0.out.done⟩
  have hln : l.length ≤ 1048576 := by omega
  by_cases hbig2 : 1048576 < o.length
  · go_enter Try.func12, Try.ntmps12
    go_wp2_with fail
    go_ret
    exact ⟨rfl, K0.out.done⟩
  have hon : o.length ≤ 1048576 := by omega
  by_cases hle : s.m.length + nodesL s.t ≤ 1048576
  · have hz : szSh s 1048576 = ((1048576 - s.m.length - nodesL s.t : Nat) : Int) := by unfold szSh; rw [if_pos hle]; omega
    have HZ := Lib.hid hz
    have hlmm : s.m.length ≤ 1048576 := by omega
    have HLM := Lib.hid hlmm
    have HL := Lib.hid (show nodesL s.t ≤ 1048576 by omega)
    obtain ⟨b, hb⟩ : ∃ b, b = ofB s l o := ⟨_, rfl⟩
    have HBB := Lib.hid hb
    have hnb : (b != b) = false := by simp
    have HNE := Lib.hid hnb
    clear hz hle hlmm hb hnb
    obtain ⟨x0, x1⟩ := K0.out.box
    go_enter Try.func12, Try.ntmps12
    go_wp2_with fail
    refine (szSheet_any _ S s a c a' c' 1048576 K0.out.2 (by omega)).mono ?_
    rintro e w1 ⟨rfl, hb⟩
    rw [HZ.out]
    have K1 := Lib.hid (K0.out.step hb)
    have L1 := Lib.hid (L0.out.below hb)
    have O1 := Lib.hid (O0.out.below hb)
    clear hb HZ K0 L0 O0 x0 x1
    obtain ⟨x0, x1⟩ := K1.out.box
    go_wp2_with fail
    refine (copySh_any _ S s a c a' c' K1.out.2 HLM.out HL.out).mono ?_
    rintro e w2 ⟨v2, a2', c2', F2, rfl, hsm, hb⟩
    obtain ⟨a2, c2, rfl, hat⟩ := hsm.at
    have K2 := Lib.hid (K1.out.step hb)
    have L2 := Lib.hid (L1.out.below hb)
    have O2 := Lib.hid (O1.out.below hb)
    have HT2 := Lib.hid hat
    clear hb hat hsm x0 x1 K1 L1 O1
    go_wp2_with fail
    refine (copyI_any w2 S' l ai ci L2.out hln).mono ?_
    rintro e w3 ⟨a3, c3, rfl, hi3, hb⟩
    have K3 := Lib.hid (K2.out.step hb)
    have L3 := Lib.hid (L2.out.below hb)
    have O3 := Lib.hid (O2.out.below hb)
    have HT3 := Lib.hid (HT2.out.below hb)
    have HI3 := Lib.hid hi3
    clear hb hi3 K2 L2 HT2 O2
    go_wp2_with fail
    refine (copyI_any w3 S'' o ao co O3.out hon).mono ?_
    rintro e w3b ⟨a3b, c3b, rfl, hi3b, hb⟩
    have K3b := Lib.hid (K3.out.step hb)
    have L3b := Lib.hid (L3.out.below hb)
    have O3b := Lib.hid (O3.out.below hb)
    have HT3b := Lib.hid (HT3.out.below hb)
    have HI3b := Lib.hid (HI3.out.below hb)
    have HJ3b := Lib.hid hi3b
    clear hb hi3b K3 L3 HT3 O3 HI3
    go_wp2_with fail
    refine (specFits_any s l o _ _ _ _ a2 c2 a2' c2' a3 c3 a3b c3b HT3b.out HL.out HI3b.out HJ3b.out).mono ?_
    rintro e w4 ⟨rfl, hb⟩
    rw [← HBB.out]
    have K4 := Lib.hid (K3b.out.step hb)
    have L4 := Lib.hid (L3b.out.below hb)
    have O4 := Lib.hid (O3b.out.below hb)
    clear hb K3b L3b O3b HT3b HI3b HJ3b
    obtain ⟨x0, x1⟩ := K4.out.box
    go_wp2_with fail
    refine (copySh_any _ S s a c a' c' K4.out.2 HLM.out HL.out).mono ?_
    rintro e w5 ⟨v5, a5', c5', F5, rfl, hsm, hb⟩
    obtain ⟨a5, c5, rfl, hat⟩ := hsm.at
    have K5 := Lib.hid ((K4.out.step hb).alloc (.cells #[.slice a5 s.m.length c5, .slice a5' s.t.length c5'] 54))
    have L5 := Lib.hid ((L4.out.below hb).alloc (.cells #[.slice a5 s.m.length c5, .slice a5' s.t.length c5'] 54))
    have O5 := Lib.hid ((O4.out.below hb).alloc (.cells #[.slice a5 s.m.length c5, .slice a5' s.t.length c5'] 54))
    have HT5 := Lib.hid (hat.alloc (.cells #[.slice a5 s.m.length c5, .slice a5' s.t.length c5'] 54))
    have HX5 := Lib.hid (Blk.new w5 54 #[.slice a5 s.m.length c5, .slice a5' s.t.length c5'])
    clear hb hat hsm x0 x1 K4 L4 O4
    go_wp2_with fail
    refine (copyI_any _ S' l ai ci L5.out hln).mono ?_
    rintro e w6 ⟨a6, c6, rfl, hi6, hb⟩
    have hs6 := hb.size
    simp only [World.size_alloc] at hs6
    have K6 := Lib.hid (K5.out.step hb)
    have L6 := Lib.hid (L5.out.below hb)
    have O6 := Lib.hid (O5.out.below hb)
    have HT6 := Lib.hid (HT5.out.below hb)
    have hx6 := HX5.out.below hb (by simp)
    have HI6 := Lib.hid hi6
    have HX6 := Lib.hid hx6
    clear hb hi6 hx6 K5 L5 O5 HT5 HX5
    go_wp2_with fail
    refine (copyI_any _ S'' o ao co O6.out hon).mono ?_
    rintro e w6b ⟨a6b, c6b, rfl, hi6b, hb⟩
    have hs6b := hb.size
    have K6b := Lib.hid (K6.out.step hb)
    have L6b := Lib.hid (L6.out.below hb)
    have O6b := Lib.hid (O6.out.below hb)
    have HT6b := Lib.hid (HT6.out.below hb)
    have hx6b := HX6.out.below hb (by omega)
    have HI6b := Lib.hid (HI6.out.below hb)
    have HJ6b := Lib.hid hi6b
    have HX6b := Lib.hid hx6b
    obtain ⟨y0, y1, _, _⟩ := hx6b.two
    clear hb hi6b hx6b K6 L6 O6 HT6 HX6 HI6
    go_wp2_with fail
    refine (implFits_any s l o w6b _ _ _ a5 c5 a5' c5' a6 c6 a6b c6b HT6b.out HI6b.out HJ6b.out).mono ?_
    rintro e w7 ⟨rfl, hb⟩
    rw [← HBB.out]
    have hs7 := hb.size
    have K7 := Lib.hid (K6b.out.step hb)
    have L7 := Lib.hid (L6b.out.below hb)
    have O7 := Lib.hid (O6b.out.below hb)
    have HT7 := Lib.hid (HT6b.out.below hb)
    have hx7 := HX6b.out.below hb (by omega)
    have HI7 := Lib.hid (HI6b.out.below hb)
    have HJ7 := Lib.hid (HJ6b.out.below hb)
    have HX7 := Lib.hid hx7
    clear hb y0 y1 K6b L6b O6b HT6b HX6b HI6b HJ6b
    obtain ⟨y0, y1, _, _⟩ := hx7.two
    obtain ⟨x0, x1⟩ := K7.out.box
    have hnb := HNE.out
    clear hx7
    go_wp2_with fail
    clear hnb HNE
    go_region_with (first | (go_at_call 34; refine (copySh_any _ S s a c a' c' ?_ HLM.out HL.out).mono ?_; exact K7.out.drew.2; rintro e w8 ⟨v8, a8', c8', F8, rfl, hsm8, hb8⟩; obtain ⟨a8, c8, rfl, hat8⟩ := hsm8.at; obtain ⟨z0, z1, _, _⟩ := (HX7.out.drew.below hb8 (by simp; omega)).two) | (go_at_call 36; go_must (refine (eqSheet_any _ _ _ s a5 c5 a5' c5' a8 c8 a8' c8' (HT7.out.drew.below hb8) hat8).mono ?_; rintro e w9 ⟨rfl, hb9⟩)))
    all_goals
      have K9 := Lib.hid ((K7.out.drew.step hb8).step hb9)
      have L9 := Lib.hid ((L7.out.drew.below hb8).below hb9)
      have O9 := Lib.hid ((O7.out.drew.below hb8).below hb9)
      have HI9 := Lib.hid ((HI7.out.drew.below hb8).below hb9)
      have HJ9 := Lib.hid ((HJ7.out.drew.below hb8).below hb9)
      clear z0 z1 hat8 hb8 hb9 x0 x1 y0 y1 hsm8
      go_wp2_with fail
      refine (copyI_any _ S' l ai ci L9.out hln).mono ?_
      rintro e w10 ⟨a10, c10, rfl, hi10, hb⟩
      have K10 := Lib.hid (K9.out.step hb)
      have O10 := Lib.hid (O9.out.below hb)
      have HI10 := Lib.hid (HI9.out.below hb)
      have HJ10 := Lib.hid (HJ9.out.below hb)
      have HC10 := Lib.hid hi10
      clear hb hi10
      go_wp2_with fail
      refine (eqInts_any _ _ _ l a6 a10 c6 c10 HI10.out HC10.out).mono ?_
      rintro e w11 ⟨rfl, hb⟩
      have K11 := Lib.hid (K10.out.step hb)
      have O11 := Lib.hid (O10.out.below hb)
      have HJ11 := Lib.hid (HJ10.out.below hb)
      clear hb
      go_wp2_with fail
      refine (copyI_any _ S'' o ao co O11.out hon).mono ?_
      rintro e w12 ⟨a12, c12, rfl, hi12, hb⟩
      have K12 := Lib.hid (K11.out.step hb)
      have HJ12 := Lib.hid (HJ11.out.below hb)
      have HC12 := Lib.hid hi12
      clear hb hi12
      go_wp2_with fail
      refine (eqInts_any _ _ _ o a6b a12 c6b c12 HJ12.out HC12.out).mono ?_
      rintro e w13 ⟨rfl, hb⟩
      have K13 := Lib.hid (K12.out.step hb)
      clear hb
      go_wp2_with fail
      go_ret
      exact ⟨rfl, K13.out.done⟩
  · have hz : szSh s 1048576 = -1 := by unfold szSh; rw [if_neg (by omega)]
    have HZ := Lib.hid hz
    clear hz hle
    obtain ⟨x0, x1⟩ := K0.out.box
    go_enter Try.func12, Try.ntmps12
    go_wp2_with fail
    refine (szSheet_any _ S s a c a' c' 1048576 K0.out.2 (by omega)).mono ?_
    rintro e w1 ⟨rfl, hb⟩
    rw [HZ.out]
    have K1 := Lib.hid (K0.out.step hb)
    clear hb HZ K0
    go_wp2_with fail
    go_ret
    exact ⟨rfl, K1.out.done⟩
end Go.Proofs.Ytoaihkgllmmdlaa
