/- the walk of laws.FnExactTaskMay -/
import Derived.Test.YtgcjnhlppapfdaaSz
import Derived.Test.YtgcjnhlppapfdaaOkI
import Derived.Test.YtgcjnhlppapfdaaHold
import Derived.Test.YtgcjnhlppapfdaaEq
import Derived.Test.YtgcjnhlppapfdaaLawDMay
import Derived.WalkSpells
namespace Go.Proofs.Ytgcjnhlppapfdaa
open Go.RowKit

set_option maxHeartbeats 2000000 in
theorem walk_exactTaskMay (t : T) (w : World) (S' : Nat → Prop) (a : Option Addr) (c : Nat) (hat' : AtS w S' t.ps a c) :
    Calls Try.prog 13 #[.agg #[.int .i64 t.k, .int .i64 t.n, .slice a t.ps.length c]] w fun e w' => e = .returned (.bool true) ∧ Below w.heap.size w w' := by
  obtain ⟨S, hSd⟩ : ∃ S : Nat → Prop, S = fun b => S' b ∧ b < w.heap.size := ⟨_, rfl⟩
  have hSl : ∀ b, S b → b < w.heap.size := by rw [hSd]; exact fun b h => h.2
  have hat : AtS w S t.ps a c := by rw [hSd]; exact hat'.lim
  have HSL := Lib.hid hSl
  have K0 := Lib.hid (Kp.start (ty := 55) hat)
  clear hat hat' hSd hSl
  by_cases hle : nodesL t.ps ≤ 1048576
  · have hz : szN (nodesL t.ps) 1048576 = ((1048576 - nodesL t.ps : Nat) : Int) := by unfold szN; rw [if_pos hle]; omega
    have HZ := Lib.hid hz
    have HL := Lib.hid hle
    have hln : (mayO t).length ≤ 10 := (mayO_bd t).2
    have hok : ∀ x ∈ mayO t, i64ok x := fun x hx => by have := (mayO_bd t).1 x hx; unfold i64ok; omega
    obtain ⟨l, hl⟩ : ∃ l, l = mayO t := ⟨_, rfl⟩
    rw [← hl] at hln hok
    have HLL := Lib.hid hl
    have HOK := Lib.hid hok
    obtain ⟨k, hk⟩ : ∃ k : Nat, k = 1 + 2 * nodesL t.ps := ⟨_, rfl⟩
    have HKK := Lib.hid hk
    have hkb : k ≤ 100000000 := by omega
    obtain ⟨n, hn⟩ : ∃ n : Nat, n = 1 + l.length := ⟨_, rfl⟩
    have HNN := Lib.hid hn
    have hnb : n ≤ 1000 := by omega
    have hne : ((n : Int) != (n : Int)) = false := by simp
    have HNE := Lib.hid hne
    clear hz hle hl hok hk hn hne
    go_enter Try.func13, Try.ntmps13
    go_wp2_with fail
    refine (szT_all t _ S a c 1048576 K0.out.2 (by omega)).mono ?_
    rintro e w1 ⟨rfl, hb⟩
    rw [HZ.out]
    have K1 := Lib.hid (K0.out.step hb)
    clear hb HZ K0
    obtain ⟨x0, x1, x2⟩ := K1.out.box
    go_wp2_with fail
    refine (copyT_all t _ S a c K1.out.2 HL.out).mono ?_
    rintro e w2 ⟨a2, c2, rfl, hat, hb⟩
    have K2 := Lib.hid (K1.out.step hb)
    have HT2 := Lib.hid hat
    clear hb hat x0 x1 x2 K1
    obtain ⟨x0, x1, x2⟩ := K2.out.box
    go_wp2_with fail
    refine (specMay_any t _ _ a2 c2 HT2.out HL.out).mono ?_
    rintro e w3 ⟨hb, v, rfl, hr⟩
    rw [← HLL.out] at hr
    obtain ⟨a3, c3, rfl, hi⟩ := hr.at HOK.out
    have W3 := Lib.hid (hi.lim.weaken (S' := fun b => b < w3.heap.size) (fun _ h => h.2))
    have K3 := Lib.hid (K2.out.step hb)
    clear hb x0 x1 x2 HT2 K2 hr hi
    obtain ⟨x0, x1, x2⟩ := K3.out.box
    go_wp2_with fail
    refine (copyT2_all t _ S a c K3.out.2 HL.out).mono ?_
    rintro e w4 ⟨a4, c4, F, rfl, hat, hsh, hwf, hF, hb⟩
    have hs34 := hb.size
    have hs3 := K3.out.1.size
    simp only [World.size_alloc] at hs3
    have HS34 := Lib.hid (And.intro hs3 hs34)
    have HF := Lib.hid hF
    have K4 := Lib.hid ((K3.out.step hb).alloc (.cells #[.int .i64 t.k, .int .i64 t.n, .slice a4 t.ps.length c4] 25))
    have W4 := Lib.hid ((W3.out.below hb).alloc (.cells #[.int .i64 t.k, .int .i64 t.n, .slice a4 t.ps.length c4] 25))
    have HT4 := Lib.hid (hat.alloc (.cells #[.int .i64 t.k, .int .i64 t.n, .slice a4 t.ps.length c4] 25))
    have M4 := Lib.hid ((show Mk w4 F t a4 c4 from ⟨hsh, hwf⟩).alloc (.cells #[.int .i64 t.k, .int .i64 t.n, .slice a4 t.ps.length c4] 25))
    have HX4 := Lib.hid (Blk.new w4 25 #[.int .i64 t.k, .int .i64 t.n, .slice a4 t.ps.length c4])
    clear hb hat hsh hwf hF x0 x1 x2 K3 W3 hs34 hs3
    go_wp2_with fail
    refine (implMay_any t _ _ a4 c4 HT4.out).mono ?_
    rintro e w5 ⟨hb, v, rfl, hr⟩
    rw [← HLL.out, World.size_alloc] at hr
    obtain ⟨a5, c5, rfl, hi⟩ := hr.at HOK.out
    have hs5 := hb.size
    simp only [World.size_alloc] at hs5
    have K5 := Lib.hid (K4.out.step hb)
    have W5 := Lib.hid (W4.out.below hb)
    have HT5 := Lib.hid (HT4.out.below hb)
    have M5 := Lib.hid (M4.out.below hb)
    have G5 := Lib.hid hr
    have I5 := Lib.hid hi
    have HX5 := Lib.hid (HX4.out.below hb (by simp))
    clear hb hr hi K4 W4 HT4 M4 HX4
    go_wp2_with fail
    refine (eqInts_any _ _ _ l a5 a3 c5 c3 I5.out W5.out).mono ?_
    rintro e w6 ⟨rfl, hb⟩
    have hs6 := hb.size
    have K6 := Lib.hid (K5.out.step hb)
    have W6 := Lib.hid (W5.out.below hb)
    have HT6 := Lib.hid (HT5.out.below hb)
    have M6 := Lib.hid (M5.out.below hb)
    have G6 := Lib.hid (G5.out.below hb)
    have hx6 := HX5.out.below hb (by omega)
    have HX6 := Lib.hid hx6
    clear hb K5 W5 HT5 M5 G5 I5 HX5
    obtain ⟨y0, y1, y2, _, _, _⟩ := hx6.three
    obtain ⟨x0, x1, x2⟩ := K6.out.box
    clear hx6
    go_wp2_with fail
    go_region_with (first | (go_at_call 44; refine (copyT_all t _ S a c ?_ HL.out).mono ?_; exact K6.out.drew.2; rintro e w8 ⟨a8, c8, rfl, hat8, hb8⟩; obtain ⟨z0, z1, z2, _, _, _⟩ := (HX6.out.drew.below hb8 (by simp; omega)).three) | (go_at_call 40; go_must (refine (eqT_all t _ _ _ a4 a8 c4 c8 (HT6.out.drew.below hb8) hat8).mono ?_; rintro e w9 ⟨rfl, hb9⟩)))
    all_goals
      have hs9 : w6.heap.size ≤ w9.heap.size := by have := hb8.size; have := hb9.size; simp at *; omega
      have K9 := Lib.hid ((K6.out.drew.step hb8).step hb9)
      have W9 := Lib.hid ((W6.out.drew.below hb8).below hb9)
      have M9 := Lib.hid ((M6.out.drew.below hb8).below hb9)
      have G9 := Lib.hid ((G6.out.drew.below hb8).below hb9)
      have HX9 := Lib.hid ((HX6.out.drew.below hb8 (by simp; omega)).below hb9 (by have := hb8.size; simp at this; omega))
      clear z0 z1 z2 hat8 hb8 hb9 x0 x1 x2 y0 y1 y2 K6 W6 HT6 M6 G6 HX6
      obtain ⟨y0, y1, y2, _, _, _⟩ := HX9.out.three
      go_wp2_with fail
      refine (mark_any t _ F a4 c4 1 M9.out.1 M9.out.2 (by have := HL.out; omega)).mono ?_
      rw [← HKK.out]
      rintro e w10 ⟨rfl, hth⟩
      have hfr := hth.1
      have hs10 := hfr.size
      have K10 := Lib.hid (K9.out.fr hfr (fun b hb => by have := HF.out b hb; have := HS34.out; omega) HSL.out)
      have W10 := Lib.hid (W9.out.fr hfr (fun b hb hf => by have := HF.out b hf; omega))
      have G10 := Lib.hid (G9.out.fr hfr (fun b hf => by have := HF.out b hf; omega))
      obtain ⟨_, _, hg, hi⟩ := G10.out.at HOK.out
      obtain ⟨rfl, rfl⟩ : _ ∧ _ := by simpa using hg
      have I10 := Lib.hid hi
      clear hfr hth K9 W9 M9 G9 HX9 y0 y1 y2 hi hg
      go_wp2_with fail
      refine (eqInts_any _ _ _ l a5 a3 c5 c3 I10.out W10.out).mono ?_
      rintro e w11 ⟨rfl, hb⟩
      have hs11 := hb.size
      have K11 := Lib.hid (K10.out.step hb)
      have W11 := Lib.hid (W10.out.below hb)
      have G11 := Lib.hid (G10.out.below hb)
      clear hb K10 W10 G10 I10
      go_wp2_with fail
      refine (markI_any w11 _ _ l 1 G11.out (by omega) (by omega)).mono ?_
      rintro e w12 hm
      have hfr := G11.out.frM hm
      obtain ⟨rfl, hg, _⟩ := hm
      rw [← HNN.out]
      have hs12 := hfr.size
      have K12 := Lib.hid (K11.out.fr hfr (fun b hb => by have := HS34.out; omega) HSL.out)
      have W12 := Lib.hid (W11.out.fr hfr (fun b hb hf => by have := HS34.out; omega))
      have G12 := Lib.hid hg
      clear hfr hg K11 W11 G11
      go_wp2_with fail
      refine (heldI_any w12 _ _ 1 l.length G12.out (by omega) (by omega)).mono ?_
      rintro e _ ⟨rfl, rfl⟩
      rw [← HNN.out]
      have hne := HNE.out
      obtain ⟨x0, x1, x2⟩ := K12.out.box
      go_wp2_with fail
      refine (copyT_all t _ S a c K12.out.2 HL.out).mono ?_
      rintro e w13 ⟨a13, c13, rfl, hat, hb⟩
      have K13 := Lib.hid (K12.out.step hb)
      have W13 := Lib.hid (W12.out.below hb)
      have G13 := Lib.hid (G12.out.below hb)
      have HT13 := Lib.hid hat
      clear hb hat x0 x1 x2 K12 W12 G12 hne
      go_wp2_with fail
      refine (implMay_any t _ _ a13 c13 HT13.out).mono ?_
      rintro e w14 ⟨hb, v, rfl, hr⟩
      rw [← HLL.out] at hr
      obtain ⟨a14, c14, rfl, hi⟩ := hr.at HOK.out
      have K14 := Lib.hid (K13.out.step hb)
      have W14 := Lib.hid (W13.out.below hb)
      have G14 := Lib.hid (G13.out.below hb)
      have I14 := Lib.hid hi
      clear hb hr hi K13 W13 G13 HT13
      go_wp2_with fail
      refine (eqInts_any _ _ _ l a14 a3 c14 c3 I14.out W14.out).mono ?_
      rintro e w15 ⟨rfl, hb⟩
      have K15 := Lib.hid (K14.out.step hb)
      have G15 := Lib.hid (G14.out.below hb)
      clear hb K14 W14 G14 I14
      go_wp2_with fail
      refine (heldI_any w15 _ _ 1 l.length G15.out (by omega) (by omega)).mono ?_
      rintro e _ ⟨rfl, rfl⟩
      rw [← HNN.out]
      have hne := HNE.out
      go_wp2_with fail
      go_ret
      exact ⟨rfl, K15.out.done⟩
  · have hz : szN (nodesL t.ps) 1048576 = -1 := by unfold szN; rw [if_neg hle]
    have HZ := Lib.hid hz
    clear hz hle
    go_enter Try.func13, Try.ntmps13
    go_wp2_with fail
    refine (szT_all t _ S a c 1048576 K0.out.2 (by omega)).mono ?_
    rintro e w1 ⟨rfl, hb⟩
    rw [HZ.out]
    have K1 := Lib.hid (K0.out.step hb)
    clear hb HZ K0
    go_wp2_with fail
    go_ret
    exact ⟨rfl, K1.out.done⟩

end Go.Proofs.Ytgcjnhlppapfdaa
