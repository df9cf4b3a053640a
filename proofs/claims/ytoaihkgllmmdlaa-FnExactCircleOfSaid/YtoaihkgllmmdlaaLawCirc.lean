/- the walk of laws.FnExactCircleOf -/
import Derived.Test.YtoaihkgllmmdlaaBnds
import Derived.Test.YtoaihkgllmmdlaaCircI
import Derived.Test.YtoaihkgllmmdlaaBs1
import Derived.Test.YtoaihkgllmmdlaaBs2
import Derived.WalkSpells
import Derived.Deep.RegionWith
namespace Go.Proofs.Ytoaihkgllmmdlaa
open Go.RowKit

set_option maxHeartbeats 4000000 in
theorem walk_exactCircleOf (s : Sh) (lv : List Int) (key : Int) (w : World) (S0 L' : Nat → Prop) (a : Option Addr) (c : Nat) (a' : Option Addr) (c' : Nat) (ai : Option Addr) (ci : Nat) (h0 : ShAt w S0 s a c a' c') (hl' : IntsAt w L' lv ai ci) :
    Calls Try.prog 9 #[.agg #[.slice a s.m.length c, .slice a' s.t.length c'], .slice ai lv.length ci, .int .i64 key] w fun e w' => e = .returned (.bool true) ∧ Below w.heap.size w w' := by
  obtain ⟨S, hSd⟩ : ∃ S : Nat → Prop, S = fun b => S0 b ∧ b < w.heap.size := ⟨_, rfl⟩
  have hSl : ∀ b, S b → b < w.heap.size := by rw [hSd]; exact fun b h => h.2
  have hat : ShAt w S s a c a' c' := by rw [hSd]; exact h0.lim
  obtain ⟨SI, hId⟩ : ∃ S : Nat → Prop, S = fun b => L' b ∧ b < w.heap.size := ⟨_, rfl⟩
  have hIl : ∀ b, SI b → b < w.heap.size := by rw [hId]; exact fun b h => h.2
  have hl : IntsAt w SI lv ai ci := by rw [hId]; exact hl'.lim
  have HSL := Lib.hid hSl
  have HIL := Lib.hid hIl
  have K0 := Lib.hid (Ks.start (ty := 50) hat)
  have L0 := Lib.hid (hl.alloc (.cells #[.slice a s.m.length c, .slice a' s.t.length c'] 50))
  have hlm : lv.length ≤ 9223372036854775807 := by have := hl.1; have := hl.2.1; omega
  clear hat h0 hSd hSl hl hl' hId hIl
  by_cases hbig : 1048576 < lv.length
  · go_enter Try.func9, Try.ntmps9
    go_wp2_with fail
    go_ret
    exact ⟨rfl, K0.out.done⟩
  have hln : lv.length ≤ 1048576 := by omega
  by_cases hle : s.m.length + nodesL s.t ≤ 1048576
  · have hz : szSh s 1048576 = ((1048576 - s.m.length - nodesL s.t : Nat) : Int) := by unfold szSh; rw [if_pos hle]; omega
    have HZ := Lib.hid hz
    have hlmm : s.m.length ≤ 1048576 := by omega
    have HLM := Lib.hid hlmm
    have HL := Lib.hid (show nodesL s.t ≤ 1048576 by omega)
    have hrn : (coL s lv key).length ≤ 15 := by have := (coL_bd s lv key).2; omega
    have hok : ∀ x ∈ coL s lv key, i64ok x := fun x hx => by have := (coL_bd s lv key).1 x hx; unfold i64ok; omega
    obtain ⟨l, hl⟩ : ∃ l, l = coL s lv key := ⟨_, rfl⟩
    rw [← hl] at hrn hok
    obtain ⟨b, hbb⟩ : ∃ b, b = coB s lv key := ⟨_, rfl⟩
    have hup : ∀ w e w', CoPost s lv key w e w' → Below w.heap.size w w' ∧ ∃ v, e = .returned (.tuple #[v, .bool b]) ∧ NumRow w' w.heap.size v l := by
      intro w e w' h; rw [hbb, hl]; exact h
    have HUP := Lib.hid hup
    have HOK := Lib.hid hok
    obtain ⟨k1, hk1⟩ : ∃ k : Nat, k = 1 + (s.m.length + 2 * nodesL s.t) := ⟨_, rfl⟩
    have HK1 := Lib.hid hk1
    have hk1b : k1 ≤ 3000000 := by omega
    obtain ⟨k, hk⟩ : ∃ k : Nat, k = k1 + lv.length := ⟨_, rfl⟩
    have HKK := Lib.hid hk
    have hkb : k ≤ 100000000 := by omega
    obtain ⟨n, hn⟩ : ∃ n : Nat, n = 1 + l.length := ⟨_, rfl⟩
    have HNN := Lib.hid hn
    have hnb : n ≤ 1000 := by omega
    have hne : ((n : Int) != (n : Int)) = false := by simp
    have hbe : (b != b) = false := by simp
    have HNE := Lib.hid hne
    have HBE := Lib.hid hbe
    clear hz hle hl hok hk1 hk hn hne hbe hbb hup hlmm
    obtain ⟨x0, x1⟩ := K0.out.box
    go_enter Try.func9, Try.ntmps9
    go_wp2_with fail
    refine (szSheet_any _ S s a c a' c' 1048576 K0.out.2 (by omega)).mono ?_
    rintro e w1 ⟨rfl, hb⟩
    rw [HZ.out]
    have K1 := Lib.hid (K0.out.step hb)
    have L1 := Lib.hid (L0.out.below hb)
    clear hb HZ K0 L0 x0 x1
    obtain ⟨x0, x1⟩ := K1.out.box
    go_wp2_with fail
    refine (copySh_any _ S s a c a' c' K1.out.2 HLM.out HL.out).mono ?_
    rintro e w2 ⟨v2, a2', c2', F2, rfl, hsm, hb⟩
    obtain ⟨a2, c2, rfl, hat⟩ := hsm.at
    have K2 := Lib.hid (K1.out.step hb)
    have L2 := Lib.hid (L1.out.below hb)
    have HT2 := Lib.hid hat
    clear hb hat hsm x0 x1 K1 L1
    go_wp2_with fail
    refine (copyI_any w2 SI lv ai ci L2.out hln).mono ?_
    rintro e w3 ⟨a3, c3, rfl, hi, hb⟩
    have K3 := Lib.hid (K2.out.step hb)
    have L3 := Lib.hid (L2.out.below hb)
    have HT3 := Lib.hid (HT2.out.below hb)
    have HI3 := Lib.hid hi
    clear hb hi K2 L2 HT2
    go_wp2_with fail
    refine (specCircle_any s lv key w3 _ _ a2 c2 a2' c2' a3 c3 HT3.out HL.out HI3.out).mono ?_
    intro e w4 hp
    obtain ⟨hb, v, rfl, hr⟩ := HUP.out _ _ _ hp
    obtain ⟨a4, c4, rfl, hi⟩ := hr.at HOK.out
    have W4 := Lib.hid (hi.lim.weaken (S' := fun b => b < w4.heap.size) (fun _ h => h.2))
    have K4 := Lib.hid (K3.out.step hb)
    have L4 := Lib.hid (L3.out.below hb)
    clear hb HT3 HI3 K3 L3 hr hi hp
    obtain ⟨x0, x1⟩ := K4.out.box
    go_wp2_with fail
    refine (copySh_any _ S s a c a' c' K4.out.2 HLM.out HL.out).mono ?_
    rintro e w5 ⟨v5, a5', c5', F, rfl, hsm, hb⟩
    obtain ⟨a5, c5, rfl, hat⟩ := hsm.at
    have hs45 := hb.size
    have hs4 := K4.out.1.size
    simp only [World.size_alloc] at hs4
    have HS := Lib.hid (And.intro hs4 hs45)
    obtain ⟨D, hD⟩ : ∃ D : Nat → Prop, D = fun b => F b ∨ (Value.slice a5 s.m.length c5).ownBlock = some b := ⟨_, rfl⟩
    have HD := Lib.hid hD
    have hF : ∀ b, D b → w4.heap.size ≤ b ∧ b < w5.heap.size := by
      intro b h
      rw [hD] at h
      rcases h with h | h
      · exact ⟨hsm.ge b h, hsm.lt b h⟩
      · exact World.ownsRow.lt hsm.row b h
    have HF := Lib.hid hF
    have K5 := Lib.hid ((K4.out.step hb).alloc (.cells #[.slice a5 s.m.length c5, .slice a5' s.t.length c5'] 54))
    have L5 := Lib.hid ((L4.out.below hb).alloc (.cells #[.slice a5 s.m.length c5, .slice a5' s.t.length c5'] 54))
    have W5 := Lib.hid ((W4.out.below hb).alloc (.cells #[.slice a5 s.m.length c5, .slice a5' s.t.length c5'] 54))
    have HT5 := Lib.hid (hat.alloc (.cells #[.slice a5 s.m.length c5, .slice a5' s.t.length c5'] 54))
    have M5 := Lib.hid (hsm.alloc (.cells #[.slice a5 s.m.length c5, .slice a5' s.t.length c5'] 54))
    have HX5 := Lib.hid (Blk.new w5 54 #[.slice a5 s.m.length c5, .slice a5' s.t.length c5'])
    clear hb hat hsm hF hD x0 x1 K4 L4 W4 hs45 hs4
    go_wp2_with fail
    refine (copyI2_any _ SI lv ai ci L5.out hln).mono ?_
    rintro e w6 ⟨v6, rfl, hr, hb⟩
    have hs6 := hb.size
    simp only [World.size_alloc] at hs6 hr
    obtain ⟨a6, c6, rfl, hi⟩ := hr.at L5.out.2.2.1
    have hOB := World.ownsRow.lt hr
    have HOB := Lib.hid hOB
    have K6 := Lib.hid (K5.out.step hb)
    have L6 := Lib.hid (L5.out.below hb)
    have W6 := Lib.hid (W5.out.below hb)
    have HT6 := Lib.hid (HT5.out.below hb)
    have M6 := Lib.hid (M5.out.below hb)
    have X6 := Lib.hid hr
    have XI6 := Lib.hid hi
    have hx6 := HX5.out.below hb (by simp)
    have HX6 := Lib.hid hx6
    obtain ⟨y0, y1, _, _⟩ := hx6.two
    clear hb hr hi hx6 hOB K5 L5 W5 HT5 M5 HX5
    go_wp2_with fail
    refine (implCircle_any s lv key w6 _ _ a5 c5 a5' c5' a6 c6 HT6.out XI6.out).mono ?_
    intro e w7 hp
    obtain ⟨hb, v, rfl, hr⟩ := HUP.out _ _ _ hp
    obtain ⟨a7, c7, rfl, hi⟩ := hr.at HOK.out
    have hs7 := hb.size
    have K7 := Lib.hid (K6.out.step hb)
    have L7 := Lib.hid (L6.out.below hb)
    have W7 := Lib.hid (W6.out.below hb)
    have HT7 := Lib.hid (HT6.out.below hb)
    have M7 := Lib.hid (M6.out.below hb)
    have X7 := Lib.hid (X6.out.below hb)
    have XI7 := Lib.hid (XI6.out.below hb)
    have G7 := Lib.hid hr
    have I7 := Lib.hid hi
    have HX7 := Lib.hid (HX6.out.below hb (by omega))
    clear hb hr hi hp K6 L6 W6 HT6 M6 X6 XI6 HX6 y0 y1
    go_wp2_with fail
    refine (eqInts_any _ _ _ l a7 a4 c7 c4 I7.out W7.out).mono ?_
    rintro e w8 ⟨rfl, hb⟩
    have hs8 := hb.size
    have K8 := Lib.hid (K7.out.step hb)
    have L8 := Lib.hid (L7.out.below hb)
    have W8 := Lib.hid (W7.out.below hb)
    have HT8 := Lib.hid (HT7.out.below hb)
    have M8 := Lib.hid (M7.out.below hb)
    have X8 := Lib.hid (X7.out.below hb)
    have XI8 := Lib.hid (XI7.out.below hb)
    have G8 := Lib.hid (G7.out.below hb)
    have hx8 := HX7.out.below hb (by omega)
    have HX8 := Lib.hid hx8
    clear hb K7 L7 W7 HT7 M7 X7 XI7 G7 I7 HX7
    obtain ⟨y0, y1, _, _⟩ := hx8.two
    obtain ⟨x0, x1⟩ := K8.out.box
    have hbe := HBE.out
    clear hx8
    go_wp2_with fail
    clear hbe
    go_region_with (first | (go_at_call 34; refine (copySh_any _ S s a c a' c' ?_ HLM.out HL.out).mono ?_; exact K8.out.drew.2; rintro e w9 ⟨v9, a9', c9', F9, rfl, hsm9, hb9⟩; obtain ⟨a9, c9, rfl, hat9⟩ := hsm9.at; obtain ⟨z0, z1, _, _⟩ := (HX8.out.drew.below hb9 (by simp; omega)).two) | (go_at_call 36; go_must (refine (eqSheet_any _ _ _ s a5 c5 a5' c5' a9 c9 a9' c9' (HT8.out.drew.below hb9) hat9).mono ?_; rintro e w10 ⟨rfl, hb10⟩)))
    all_goals
      have hs10 : w8.heap.size ≤ w10.heap.size := by have := hb9.size; have := hb10.size; simp at *; omega
      have K10 := Lib.hid ((K8.out.drew.step hb9).step hb10)
      have L10 := Lib.hid ((L8.out.drew.below hb9).below hb10)
      have W10 := Lib.hid ((W8.out.drew.below hb9).below hb10)
      have M10 := Lib.hid ((M8.out.drew.below hb9).below hb10)
      have X10 := Lib.hid ((X8.out.drew.below hb9).below hb10)
      have XI10 := Lib.hid ((XI8.out.drew.below hb9).below hb10)
      have G10 := Lib.hid ((G8.out.drew.below hb9).below hb10)
      have HX10 := Lib.hid ((HX8.out.drew.below hb9 (by simp; omega)).below hb10 (by have := hb9.size; simp at this; omega))
      clear z0 z1 hat9 hsm9 hb9 hb10 x0 x1 y0 y1 K8 L8 W8 HT8 M8 X8 XI8 G8 HX8
      go_wp2_with fail
      refine (copyI_any _ SI lv ai ci L10.out hln).mono ?_
      rintro e w11 ⟨a11, c11, rfl, hi, hb⟩
      have hs11 := hb.size
      have K11 := Lib.hid (K10.out.step hb)
      have L11 := Lib.hid (L10.out.below hb)
      have W11 := Lib.hid (W10.out.below hb)
      have M11 := Lib.hid (M10.out.below hb)
      have X11 := Lib.hid (X10.out.below hb)
      have XI11 := Lib.hid (XI10.out.below hb)
      have G11 := Lib.hid (G10.out.below hb)
      have HX11 := Lib.hid (HX10.out.below hb (by omega))
      have J11 := Lib.hid hi
      clear hb hi K10 L10 W10 M10 X10 XI10 G10 HX10
      go_wp2_with fail
      refine (eqInts_any _ _ _ lv a6 a11 c6 c11 XI11.out J11.out).mono ?_
      rintro e w12 ⟨rfl, hb⟩
      have hs12 := hb.size
      have K12 := Lib.hid (K11.out.step hb)
      have L12 := Lib.hid (L11.out.below hb)
      have W12 := Lib.hid (W11.out.below hb)
      have M12 := Lib.hid (M11.out.below hb)
      have X12 := Lib.hid (X11.out.below hb)
      have G12 := Lib.hid (G11.out.below hb)
      have hx12 := HX11.out.below hb (by omega)
      have HX12 := Lib.hid hx12
      clear hb K11 L11 W11 M11 X11 XI11 G11 HX11 J11
      obtain ⟨y0, y1, _, _⟩ := hx12.two
      clear hx12
      go_wp2_with fail
      refine (markSh_any _ _ F s _ a5' c5' 1 M12.out HLM.out HL.out (by omega)).mono ?_
      rintro e w13 ⟨rfl, hfr0⟩
      have hfr : Fr D w12 w13 := by rw [HD.out]; exact hfr0
      rw [← HK1.out]
      have hs13 := hfr.size
      have K13 := Lib.hid (K12.out.fr hfr (fun b hb => by have := HF.out b hb; have := HS.out; omega) HSL.out)
      have L13 := Lib.hid (L12.out.fr hfr (fun b hb hf => by have := HF.out b hf; have := HS.out; have := HIL.out b hb; omega))
      have W13 := Lib.hid (W12.out.fr hfr (fun b hb hf => by have := HF.out b hf; omega))
      have X13 := Lib.hid (X12.out.fr hfr (fun b hf => by have := HF.out b hf; omega))
      have G13 := Lib.hid (G12.out.fr hfr (fun b hf => by have := HF.out b hf; omega))
      clear hfr hfr0 K12 L12 W12 M12 X12 G12 HX12 y0 y1
      go_wp2_with fail
      refine (markI_any w13 _ _ lv k1 X13.out (by omega) (by omega)).mono ?_
      rintro e w14 hm
      have hfr := NumRow.frO hm
      obtain ⟨rfl, _, _⟩ := hm
      rw [← HKK.out]
      have hs14 := hfr.size
      have K14 := Lib.hid (K13.out.fr hfr (fun b hb => by have := HOB.out b hb; have := HS.out; omega) HSL.out)
      have L14 := Lib.hid (L13.out.fr hfr (fun b hb hf => by have := HOB.out b hf; have := HS.out; have := HIL.out b hb; omega))
      have W14 := Lib.hid (W13.out.fr hfr (fun b hb hf => by have := HOB.out b hf; have := HS.out; omega))
      have G14 := Lib.hid (G13.out.fr hfr (fun b hf => by have := HOB.out b hf; omega))
      obtain ⟨_, _, hg, hi⟩ := G14.out.at HOK.out
      obtain ⟨rfl, rfl⟩ : _ ∧ _ := by simpa using hg
      have I14 := Lib.hid hi
      clear hfr K13 L13 W13 X13 G13 hi hg
      go_wp2_with fail
      refine (eqInts_any _ _ _ l a7 a4 c7 c4 I14.out W14.out).mono ?_
      rintro e w15 ⟨rfl, hb⟩
      have hs15 := hb.size
      have K15 := Lib.hid (K14.out.step hb)
      have L15 := Lib.hid (L14.out.below hb)
      have W15 := Lib.hid (W14.out.below hb)
      have G15 := Lib.hid (G14.out.below hb)
      have hbe := HBE.out
      clear hb K14 L14 W14 G14 I14
      go_wp2_with fail
      clear hbe
      refine (markI_any w15 _ _ l 1 G15.out (by omega) (by omega)).mono ?_
      rintro e w16 hm
      have hfr := G15.out.frM hm
      obtain ⟨rfl, hg, _⟩ := hm
      rw [← HNN.out]
      have hs16 := hfr.size
      have K16 := Lib.hid (K15.out.fr hfr (fun b hb => by have := HS.out; omega) HSL.out)
      have L16 := Lib.hid (L15.out.fr hfr (fun b hb hf => by have := HS.out; have := HIL.out b hb; omega))
      have W16 := Lib.hid (W15.out.fr hfr (fun b hb hf => by have := HS.out; omega))
      have G16 := Lib.hid hg
      clear hfr hg K15 L15 W15 G15
      go_wp2_with fail
      refine (heldI_any w16 _ _ 1 l.length G16.out (by omega) (by omega)).mono ?_
      rintro e _ ⟨rfl, rfl⟩
      rw [← HNN.out]
      have hne := HNE.out
      obtain ⟨x0, x1⟩ := K16.out.box
      go_wp2_with fail
      refine (copySh_any _ S s a c a' c' K16.out.2 HLM.out HL.out).mono ?_
      rintro e w17 ⟨v17, a17', c17', F17, rfl, hsm, hb⟩
      obtain ⟨a17, c17, rfl, hat⟩ := hsm.at
      have K17 := Lib.hid (K16.out.step hb)
      have L17 := Lib.hid (L16.out.below hb)
      have W17 := Lib.hid (W16.out.below hb)
      have G17 := Lib.hid (G16.out.below hb)
      have HT17 := Lib.hid hat
      clear hb hat hsm x0 x1 K16 L16 W16 G16 hne
      go_wp2_with fail
      refine (copyI_any _ SI lv ai ci L17.out hln).mono ?_
      rintro e w18 ⟨a18, c18, rfl, hi, hb⟩
      have K18 := Lib.hid (K17.out.step hb)
      have W18 := Lib.hid (W17.out.below hb)
      have G18 := Lib.hid (G17.out.below hb)
      have HT18 := Lib.hid (HT17.out.below hb)
      have J18 := Lib.hid hi
      clear hb hi K17 L17 W17 G17 HT17
      go_wp2_with fail
      refine (implCircle_any s lv key w18 _ _ a17 c17 a17' c17' a18 c18 HT18.out J18.out).mono ?_
      intro e w19 hp
      obtain ⟨hb, v, rfl, hr⟩ := HUP.out _ _ _ hp
      obtain ⟨a19, c19, rfl, hi⟩ := hr.at HOK.out
      have K19 := Lib.hid (K18.out.step hb)
      have W19 := Lib.hid (W18.out.below hb)
      have G19 := Lib.hid (G18.out.below hb)
      have I19 := Lib.hid hi
      clear hb hr hi hp K18 W18 G18 HT18 J18
      go_wp2_with fail
      refine (eqInts_any _ _ _ l a19 a4 c19 c4 I19.out W19.out).mono ?_
      rintro e w20 ⟨rfl, hb⟩
      have K20 := Lib.hid (K19.out.step hb)
      have G20 := Lib.hid (G19.out.below hb)
      have hbe := HBE.out
      clear hb K19 W19 G19 I19
      go_wp2_with fail
      clear hbe
      refine (heldI_any w20 _ _ 1 l.length G20.out (by omega) (by omega)).mono ?_
      rintro e _ ⟨rfl, rfl⟩
      rw [← HNN.out]
      have hne := HNE.out
      go_wp2_with fail
      go_ret
      exact ⟨rfl, K20.out.done⟩
  · have hz : szSh s 1048576 = -1 := by unfold szSh; rw [if_neg (by omega)]
    have HZ := Lib.hid hz
    clear hz hle
    obtain ⟨x0, x1⟩ := K0.out.box
    go_enter Try.func9, Try.ntmps9
    go_wp2_with fail
    refine (szSheet_any _ S s a c a' c' 1048576 K0.out.2 (by omega)).mono ?_
    rintro e w1 ⟨rfl, hb⟩
    rw [HZ.out]
    have K1 := Lib.hid (K0.out.step hb)
    clear hb HZ K0
    go_wp2_with fail
    go_ret
    exact ⟨rfl, K1.out.done⟩
end Go.Proofs.Ytoaihkgllmmdlaa
