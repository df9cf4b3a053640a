/- the walk of laws.FnExactOrderRestart (written by wip/tools/gen_exact.py) -/
import Derived.Test.YtoaihkgllmmdlaaRsS
import Derived.Test.YtoaihkgllmmdlaaOrdI
import Derived.Test.YtoaihkgllmmdlaaBs1
import Derived.Test.YtoaihkgllmmdlaaBs2
import Derived.WalkSpells
import Derived.Deep.RegionWith
namespace Go.Proofs.Ytoaihkgllmmdlaa
open Go.RowKit

set_option maxRecDepth 100000 in
set_option maxHeartbeats 8000000 in
theorem walk_exactOrderRestart (s : Sh) (l o : List Int) (w : World) (S0 Sl0 So0 : Nat → Prop) (a : Option Addr) (c : Nat) (a' : Option Addr) (c' : Nat) (al : Option Addr) (cl : Nat) (ao : Option Addr) (co : Nat) (h0 : ShAt w S0 s a c a' c') (hl0 : IntsAt w Sl0 l al cl) (ho0 : IntsAt w So0 o ao co) :
    Calls Try.prog 11 #[.agg #[.slice a s.m.length c, .slice a' s.t.length c'], .slice al l.length cl, .slice ao o.length co] w fun e w' => e = .returned (.bool true) ∧ Below w.heap.size w w' := by
  obtain ⟨S, hSd⟩ : ∃ S : Nat → Prop, S = fun b => S0 b ∧ b < w.heap.size := ⟨_, rfl⟩
  have hSl : ∀ b, S b → b < w.heap.size := by rw [hSd]; exact fun b h => h.2
  have hat : ShAt w S s a c a' c' := by rw [hSd]; exact h0.lim
  have HSL := Lib.hid hSl
  have K0 := Lib.hid (Ks.start (ty := 50) hat)
  obtain ⟨Sl, hld⟩ : ∃ S : Nat → Prop, S = fun b => Sl0 b ∧ b < w.heap.size := ⟨_, rfl⟩
  have hll : ∀ b, Sl b → b < w.heap.size := by rw [hld]; exact fun b h => h.2
  have hl : IntsAt w Sl l al cl := by rw [hld]; exact hl0.lim
  have HLl := Lib.hid hll
  have Al0 := Lib.hid (hl.alloc (.cells #[.slice a s.m.length c, .slice a' s.t.length c'] 50))
  have hlm : l.length ≤ 9223372036854775807 := by have := hl.1; have := hl.2.1; omega
  obtain ⟨So, hod⟩ : ∃ S : Nat → Prop, S = fun b => So0 b ∧ b < w.heap.size := ⟨_, rfl⟩
  have hol : ∀ b, So b → b < w.heap.size := by rw [hod]; exact fun b h => h.2
  have ho : IntsAt w So o ao co := by rw [hod]; exact ho0.lim
  have HLo := Lib.hid hol
  have Ao0 := Lib.hid (ho.alloc (.cells #[.slice a s.m.length c, .slice a' s.t.length c'] 50))
  have hom : o.length ≤ 9223372036854775807 := by have := ho.1; have := ho.2.1; omega
  clear hat h0 hSd hSl hl0 hld hll hl ho0 hod hol ho
  by_cases hbigl : 1048576 < l.length
  · go_enter Try.func11, Try.ntmps11
    go_wp2_with fail
    go_ret
    exact ⟨rfl, K0.out.done⟩
  have hln : l.length ≤ 1048576 := by omega
  by_cases hbigo : 1048576 < o.length
  · go_enter Try.func11, Try.ntmps11
    go_wp2_with fail
    go_ret
    exact ⟨rfl, K0.out.done⟩
  have hon : o.length ≤ 1048576 := by omega
  by_cases hle : s.m.length + nodesL s.t ≤ 1048576
  · have hz : szSh s 1048576 = ((1048576 - s.m.length - nodesL s.t : Nat) : Int) := by unfold szSh; rw [if_pos hle]; omega
    have HZ := Lib.hid hz
    have hlmm : s.m.length ≤ 1048576 := by omega
    have HLM := Lib.hid hlmm
    have HLN := Lib.hid (show nodesL s.t ≤ 1048576 by omega)
    have hbd := rsL_bd s l o
    have hrn : (rsL s l o).length ≤ 1000 := by have := hbd.2; omega
    have hok : ∀ x ∈ rsL s l o, i64ok x := fun x hx => by have := hbd.1 x hx; unfold i64ok; omega
    obtain ⟨r, hr⟩ : ∃ r, r = rsL s l o := ⟨_, rfl⟩
    rw [← hr] at hrn hok
    obtain ⟨b, hbb⟩ : ∃ b, b = rsB s l o := ⟨_, rfl⟩
    have hup : ∀ w e w', OrP (rsB s l o) (rsL s l o) w e w' → Below w.heap.size w w' ∧ ∃ v, e = .returned (.tuple #[v, .bool b]) ∧ NumRow w' w.heap.size v r := by
      intro w e w' h; rw [hbb, hr]; exact h
    have HUP := Lib.hid hup
    have HOK := Lib.hid hok
    obtain ⟨k0, hk0⟩ : ∃ k : Nat, k = 1 + (s.m.length + 2 * nodesL s.t) := ⟨_, rfl⟩
    have HK0 := Lib.hid hk0
    have hk0b : k0 ≤ 3200000 := by omega
    obtain ⟨k1, hk1⟩ : ∃ k : Nat, k = k0 + l.length := ⟨_, rfl⟩
    have HK1 := Lib.hid hk1
    have hk1b : k1 ≤ 4248576 := by omega
    obtain ⟨k2, hk2⟩ : ∃ k : Nat, k = k1 + o.length := ⟨_, rfl⟩
    have HK2 := Lib.hid hk2
    have hk2b : k2 ≤ 5297152 := by omega
    obtain ⟨n, hn⟩ : ∃ n : Nat, n = 1 + r.length := ⟨_, rfl⟩
    have HNN := Lib.hid hn
    have hnb : n ≤ 2000 := by omega
    have hne : ((n : Int) != (n : Int)) = false := by simp
    have hbe : (b != b) = false := by simp
    have HNE := Lib.hid hne
    have HBE := Lib.hid hbe
    clear hz hle hr hok hn hne hbe hbb hup hlmm hbd hk0 hk1 hk2
    obtain ⟨x0, x1⟩ := K0.out.box
    go_enter Try.func11, Try.ntmps11
    go_wp2_with fail
    refine (szSheet_any _ S s a c a' c' 1048576 K0.out.2 (by omega)).mono ?_
    rintro e w1 ⟨rfl, hb⟩
    rw [HZ.out]
    have K1 := Lib.hid (K0.out.step hb)
    have Al1 := Lib.hid (Al0.out.below hb)
    have Ao1 := Lib.hid (Ao0.out.below hb)
    clear hb HZ x0 x1 K0 Al0 Ao0
    obtain ⟨x0, x1⟩ := K1.out.box
    go_wp2_with fail
    refine (copySh_any _ S s a c a' c' K1.out.2 HLM.out HLN.out).mono ?_
    rintro e w2 ⟨v2, a2', c2', F2, rfl, hsm, hb⟩
    obtain ⟨a2, c2, rfl, hat⟩ := hsm.at
    have K2 := Lib.hid (K1.out.step hb)
    have Al2 := Lib.hid (Al1.out.below hb)
    have Ao2 := Lib.hid (Ao1.out.below hb)
    have T2 := Lib.hid (hat)
    clear hb hat hsm x0 x1 K1 Al1 Ao1
    go_wp2_with fail
    refine (copyI_any _ Sl l al cl Al2.out hln).mono ?_
    rintro e w3 ⟨a3, c3, rfl, hi, hb⟩
    have K3 := Lib.hid (K2.out.step hb)
    have Al3 := Lib.hid (Al2.out.below hb)
    have Ao3 := Lib.hid (Ao2.out.below hb)
    have T3 := Lib.hid (T2.out.below hb)
    have Cl3 := Lib.hid (hi)
    clear hb hi K2 Al2 Ao2 T2
    go_wp2_with fail
    refine (copyI_any _ So o ao co Ao3.out hon).mono ?_
    rintro e w4 ⟨a4, c4, rfl, hi, hb⟩
    have K4 := Lib.hid (K3.out.step hb)
    have Al4 := Lib.hid (Al3.out.below hb)
    have Ao4 := Lib.hid (Ao3.out.below hb)
    have T4 := Lib.hid (T3.out.below hb)
    have Cl4 := Lib.hid (Cl3.out.below hb)
    have Co4 := Lib.hid (hi)
    clear hb hi K3 Al3 Ao3 T3 Cl3
    go_wp2_with fail
    refine (specRestart_any s l o _ _ _ _ a2 c2 a2' c2' a3 c3 a4 c4 T4.out HLN.out Cl4.out Co4.out hon).mono ?_
    intro e w5 hp
    obtain ⟨hb, v, rfl, hr⟩ := HUP.out _ _ _ hp
    obtain ⟨a5, c5, rfl, hi⟩ := hr.at HOK.out
    have K5 := Lib.hid (K4.out.step hb)
    have Al5 := Lib.hid (Al4.out.below hb)
    have Ao5 := Lib.hid (Ao4.out.below hb)
    have W5 := Lib.hid (hi.lim.weaken (S' := fun b => b < w5.heap.size) (fun _ h => h.2))
    clear hb hr hi hp K4 Al4 Ao4 T4 Cl4 Co4
    obtain ⟨x0, x1⟩ := K5.out.box
    go_wp2_with fail
    refine (copySh_any _ S s a c a' c' K5.out.2 HLM.out HLN.out).mono ?_
    rintro e w6 ⟨v6, a6', c6', F6, rfl, hsm, hb⟩
    obtain ⟨a6, c6, rfl, hat⟩ := hsm.at
    have hs45 := hb.size
    have hs4 := K5.out.1.size
    simp only [World.size_alloc] at hs4
    have HS := Lib.hid (And.intro hs4 hs45)
    obtain ⟨D, hD⟩ : ∃ D : Nat → Prop, D = fun b => F6 b ∨ (Value.slice a6 s.m.length c6).ownBlock = some b := ⟨_, rfl⟩
    have HD := Lib.hid hD
    have hF : ∀ b, D b → w5.heap.size ≤ b ∧ b < w6.heap.size := by
      intro b h
      rw [hD] at h
      rcases h with h | h
      · exact ⟨hsm.ge b h, hsm.lt b h⟩
      · exact World.ownsRow.lt hsm.row b h
    have HF := Lib.hid hF
    have K6 := Lib.hid ((K5.out.step hb).alloc (.cells #[.slice a6 s.m.length c6, .slice a6' s.t.length c6'] 54))
    have Al6 := Lib.hid ((Al5.out.below hb).alloc (.cells #[.slice a6 s.m.length c6, .slice a6' s.t.length c6'] 54))
    have Ao6 := Lib.hid ((Ao5.out.below hb).alloc (.cells #[.slice a6 s.m.length c6, .slice a6' s.t.length c6'] 54))
    have W6 := Lib.hid ((W5.out.below hb).alloc (.cells #[.slice a6 s.m.length c6, .slice a6' s.t.length c6'] 54))
    have T6 := Lib.hid (hat.alloc (.cells #[.slice a6 s.m.length c6, .slice a6' s.t.length c6'] 54))
    have M6 := Lib.hid (hsm.alloc (.cells #[.slice a6 s.m.length c6, .slice a6' s.t.length c6'] 54))
    have X6 := Lib.hid (Blk.new w6 54 #[.slice a6 s.m.length c6, .slice a6' s.t.length c6'])
    clear hb hat hsm hF hD x0 x1 hs45 hs4 K5 Al5 Ao5 W5
    go_wp2_with fail
    refine (copyI2_any _ Sl l al cl Al6.out hln).mono ?_
    rintro e w7 ⟨v7, rfl, hr, hb⟩
    have hs7 := hb.size
    simp only [World.size_alloc] at hs7 hr
    obtain ⟨a7, c7, rfl, hi⟩ := hr.at Al6.out.2.2.1
    have HOl := Lib.hid (World.ownsRow.lt hr)
    have K7 := Lib.hid (K6.out.step hb)
    have Al7 := Lib.hid (Al6.out.below hb)
    have Ao7 := Lib.hid (Ao6.out.below hb)
    have W7 := Lib.hid (W6.out.below hb)
    have T7 := Lib.hid (T6.out.below hb)
    have M7 := Lib.hid (M6.out.below hb)
    have X7 := Lib.hid (X6.out.below hb (by simp))
    have Rl7 := Lib.hid (hr)
    have Il7 := Lib.hid (hi)
    clear hb hr hi K6 Al6 Ao6 W6 T6 M6 X6
    go_wp2_with fail
    refine (copyI2_any _ So o ao co Ao7.out hon).mono ?_
    rintro e w8 ⟨v8, rfl, hr, hb⟩
    have hs8 := hb.size
    obtain ⟨a8, c8, rfl, hi⟩ := hr.at Ao7.out.2.2.1
    have HOo := Lib.hid (World.ownsRow.lt hr)
    have K8 := Lib.hid (K7.out.step hb)
    have Al8 := Lib.hid (Al7.out.below hb)
    have Ao8 := Lib.hid (Ao7.out.below hb)
    have W8 := Lib.hid (W7.out.below hb)
    have T8 := Lib.hid (T7.out.below hb)
    have M8 := Lib.hid (M7.out.below hb)
    have X8 := Lib.hid (X7.out.below hb (by omega))
    have Rl8 := Lib.hid (Rl7.out.below hb)
    have Il8 := Lib.hid (Il7.out.below hb)
    have Ro8 := Lib.hid (hr)
    have Io8 := Lib.hid (hi)
    clear hb hr hi K7 Al7 Ao7 W7 T7 M7 X7 Rl7 Il7
    obtain ⟨y0, y1, _, _⟩ := X8.out.two
    go_wp2_with fail
    refine (implRestart_any s l o _ _ _ _ a6 c6 a6' c6' a7 c7 a8 c8 T8.out Il8.out Io8.out).mono ?_
    intro e w9 hp
    obtain ⟨hb, v, rfl, hr⟩ := HUP.out _ _ _ hp
    obtain ⟨a9, c9, rfl, hi⟩ := hr.at HOK.out
    have hs9 := hb.size
    have K9 := Lib.hid (K8.out.step hb)
    have Al9 := Lib.hid (Al8.out.below hb)
    have Ao9 := Lib.hid (Ao8.out.below hb)
    have W9 := Lib.hid (W8.out.below hb)
    have T9 := Lib.hid (T8.out.below hb)
    have M9 := Lib.hid (M8.out.below hb)
    have X9 := Lib.hid (X8.out.below hb (by omega))
    have Rl9 := Lib.hid (Rl8.out.below hb)
    have Il9 := Lib.hid (Il8.out.below hb)
    have Ro9 := Lib.hid (Ro8.out.below hb)
    have Io9 := Lib.hid (Io8.out.below hb)
    have G9 := Lib.hid (hr)
    have J9 := Lib.hid (hi)
    clear hb hr hi hp y0 y1 K8 Al8 Ao8 W8 T8 M8 X8 Rl8 Il8 Ro8 Io8
    go_wp2_with fail
    refine (eqInts_any _ _ _ r a9 a5 c9 c5 J9.out W9.out).mono ?_
    rintro e w10 ⟨rfl, hb⟩
    have hs10 := hb.size
    have K10 := Lib.hid (K9.out.step hb)
    have Al10 := Lib.hid (Al9.out.below hb)
    have Ao10 := Lib.hid (Ao9.out.below hb)
    have W10 := Lib.hid (W9.out.below hb)
    have T10 := Lib.hid (T9.out.below hb)
    have M10 := Lib.hid (M9.out.below hb)
    have X10 := Lib.hid (X9.out.below hb (by omega))
    have Rl10 := Lib.hid (Rl9.out.below hb)
    have Il10 := Lib.hid (Il9.out.below hb)
    have Ro10 := Lib.hid (Ro9.out.below hb)
    have Io10 := Lib.hid (Io9.out.below hb)
    have G10 := Lib.hid (G9.out.below hb)
    have hbe := HBE.out
    clear hb K9 Al9 Ao9 W9 T9 M9 X9 Rl9 Il9 Ro9 Io9 G9 J9
    obtain ⟨y0, y1, _, _⟩ := X10.out.two
    obtain ⟨x0, x1⟩ := K10.out.box
    go_wp2_with fail
    clear hbe
    go_region_with (first | (go_at_call 34; refine (copySh_any _ S s a c a' c' ?_ HLM.out HLN.out).mono ?_; exact K10.out.drew.2; rintro e w11 ⟨v11, a11', c11', F11, rfl, hsmq, hbq⟩; obtain ⟨a11, c11, rfl, hatq⟩ := hsmq.at; obtain ⟨z0, z1, _, _⟩ := (X10.out.drew.below hbq (by simp; omega)).two) | (go_at_call 36; go_must (refine (eqSheet_any _ _ _ s a6 c6 a6' c6' a11 c11 a11' c11' (T10.out.drew.below hbq) hatq).mono ?_; rintro e w12 ⟨rfl, hbr⟩)))
    all_goals
      have hs12 : w10.heap.size ≤ w12.heap.size := by have := hbq.size; have := hbr.size; simp at *; omega
      have K12 := Lib.hid ((K10.out.drew.step hbq).step hbr)
      have Al12 := Lib.hid ((Al10.out.drew.below hbq).below hbr)
      have Ao12 := Lib.hid ((Ao10.out.drew.below hbq).below hbr)
      have W12 := Lib.hid ((W10.out.drew.below hbq).below hbr)
      have M12 := Lib.hid ((M10.out.drew.below hbq).below hbr)
      have X12 := Lib.hid ((X10.out.drew.below hbq (by simp; omega)).below hbr (by have := hbq.size; simp at this; omega))
      have Rl12 := Lib.hid ((Rl10.out.drew.below hbq).below hbr)
      have Il12 := Lib.hid ((Il10.out.drew.below hbq).below hbr)
      have Ro12 := Lib.hid ((Ro10.out.drew.below hbq).below hbr)
      have Io12 := Lib.hid ((Io10.out.drew.below hbq).below hbr)
      have G12 := Lib.hid ((G10.out.drew.below hbq).below hbr)
      clear z0 z1 hatq hsmq hbq hbr x0 x1 y0 y1 T10 K10 Al10 Ao10 W10 M10 X10 Rl10 Il10 Ro10 Io10 G10
      go_wp2_with fail
      refine (copyI_any _ Sl l al cl Al12.out hln).mono ?_
      rintro e w13 ⟨a13, c13, rfl, hi, hb⟩
      have hs13 := hb.size
      have K13 := Lib.hid (K12.out.step hb)
      have Al13 := Lib.hid (Al12.out.below hb)
      have Ao13 := Lib.hid (Ao12.out.below hb)
      have W13 := Lib.hid (W12.out.below hb)
      have M13 := Lib.hid (M12.out.below hb)
      have X13 := Lib.hid (X12.out.below hb (by omega))
      have Rl13 := Lib.hid (Rl12.out.below hb)
      have Il13 := Lib.hid (Il12.out.below hb)
      have Ro13 := Lib.hid (Ro12.out.below hb)
      have Io13 := Lib.hid (Io12.out.below hb)
      have G13 := Lib.hid (G12.out.below hb)
      have Cl13 := Lib.hid (hi)
      clear hb hi K12 Al12 Ao12 W12 M12 X12 Rl12 Il12 Ro12 Io12 G12
      go_wp2_with fail
      refine (eqInts_any _ _ _ l a7 a13 c7 c13 Il13.out Cl13.out).mono ?_
      rintro e w14 ⟨rfl, hb⟩
      have hs14 := hb.size
      have K14 := Lib.hid (K13.out.step hb)
      have Al14 := Lib.hid (Al13.out.below hb)
      have Ao14 := Lib.hid (Ao13.out.below hb)
      have W14 := Lib.hid (W13.out.below hb)
      have M14 := Lib.hid (M13.out.below hb)
      have X14 := Lib.hid (X13.out.below hb (by omega))
      have Rl14 := Lib.hid (Rl13.out.below hb)
      have Ro14 := Lib.hid (Ro13.out.below hb)
      have Io14 := Lib.hid (Io13.out.below hb)
      have G14 := Lib.hid (G13.out.below hb)
      clear hb K13 Al13 Ao13 W13 M13 X13 Rl13 Il13 Ro13 Io13 G13 Cl13
      go_wp2_with fail
      refine (copyI_any _ So o ao co Ao14.out hon).mono ?_
      rintro e w15 ⟨a15, c15, rfl, hi, hb⟩
      have hs15 := hb.size
      have K15 := Lib.hid (K14.out.step hb)
      have Al15 := Lib.hid (Al14.out.below hb)
      have Ao15 := Lib.hid (Ao14.out.below hb)
      have W15 := Lib.hid (W14.out.below hb)
      have M15 := Lib.hid (M14.out.below hb)
      have X15 := Lib.hid (X14.out.below hb (by omega))
      have Rl15 := Lib.hid (Rl14.out.below hb)
      have Ro15 := Lib.hid (Ro14.out.below hb)
      have Io15 := Lib.hid (Io14.out.below hb)
      have G15 := Lib.hid (G14.out.below hb)
      have Co15 := Lib.hid (hi)
      clear hb hi K14 Al14 Ao14 W14 M14 X14 Rl14 Ro14 Io14 G14
      go_wp2_with fail
      refine (eqInts_any _ _ _ o a8 a15 c8 c15 Io15.out Co15.out).mono ?_
      rintro e w16 ⟨rfl, hb⟩
      have hs16 := hb.size
      have K16 := Lib.hid (K15.out.step hb)
      have Al16 := Lib.hid (Al15.out.below hb)
      have Ao16 := Lib.hid (Ao15.out.below hb)
      have W16 := Lib.hid (W15.out.below hb)
      have M16 := Lib.hid (M15.out.below hb)
      have X16 := Lib.hid (X15.out.below hb (by omega))
      have Rl16 := Lib.hid (Rl15.out.below hb)
      have Ro16 := Lib.hid (Ro15.out.below hb)
      have G16 := Lib.hid (G15.out.below hb)
      clear hb K15 Al15 Ao15 W15 M15 X15 Rl15 Ro15 Io15 G15 Co15
      obtain ⟨y0, y1, _, _⟩ := X16.out.two
      go_wp2_with fail
      refine (markSh_any _ _ F6 s _ a6' c6' 1 M16.out HLM.out HLN.out (by omega)).mono ?_
      rintro e w17 ⟨rfl, hfr0⟩
      have hfr : Fr D w16 w17 := by rw [HD.out]; exact hfr0
      rw [← HK0.out]
      have hs17 := hfr.size
      have K17 := Lib.hid (K16.out.fr hfr (fun b hb => by have := HF.out b hb; have := HS.out; omega) HSL.out)
      have Al17 := Lib.hid (Al16.out.fr hfr (fun b hb hf => by have := HF.out b hf; have := HS.out; have := HLl.out b hb; omega))
      have Ao17 := Lib.hid (Ao16.out.fr hfr (fun b hb hf => by have := HF.out b hf; have := HS.out; have := HLo.out b hb; omega))
      have W17 := Lib.hid (W16.out.fr hfr (fun b hb hf => by have := HF.out b hf; have := HS.out; omega))
      have Rl17 := Lib.hid (Rl16.out.fr hfr (fun b hf => by have := HF.out b hf; omega))
      have Ro17 := Lib.hid (Ro16.out.fr hfr (fun b hf => by have := HF.out b hf; omega))
      have G17 := Lib.hid (G16.out.fr hfr (fun b hf => by have := HF.out b hf; omega))
      clear hfr hfr0 y0 y1 K16 Al16 Ao16 W16 M16 X16 Rl16 Ro16 G16
      go_wp2_with fail
      refine (markI_any w17 _ _ l k0 Rl17.out (by omega) (by omega)).mono ?_
      rintro e w18 hm
      have hfr := NumRow.frO hm
      obtain ⟨rfl, _, _⟩ := hm
      rw [← HK1.out]
      have hs18 := hfr.size
      have K18 := Lib.hid (K17.out.fr hfr (fun b hb => by have := HOl.out b hb; have := HS.out; omega) HSL.out)
      have Al18 := Lib.hid (Al17.out.fr hfr (fun b hb hf => by have := HOl.out b hf; have := HS.out; have := HLl.out b hb; omega))
      have Ao18 := Lib.hid (Ao17.out.fr hfr (fun b hb hf => by have := HOl.out b hf; have := HS.out; have := HLo.out b hb; omega))
      have W18 := Lib.hid (W17.out.fr hfr (fun b hb hf => by have := HOl.out b hf; have := HS.out; omega))
      have Ro18 := Lib.hid (Ro17.out.fr hfr (fun b hf => by have := HOl.out b hf; omega))
      have G18 := Lib.hid (G17.out.fr hfr (fun b hf => by have := HOl.out b hf; omega))
      clear hfr K17 Al17 Ao17 W17 Rl17 Ro17 G17
      go_wp2_with fail
      refine (markI_any w18 _ _ o k1 Ro18.out (by omega) (by omega)).mono ?_
      rintro e w19 hm
      have hfr := NumRow.frO hm
      obtain ⟨rfl, _, _⟩ := hm
      rw [← HK2.out]
      have hs19 := hfr.size
      have K19 := Lib.hid (K18.out.fr hfr (fun b hb => by have := HOo.out b hb; have := HS.out; omega) HSL.out)
      have Al19 := Lib.hid (Al18.out.fr hfr (fun b hb hf => by have := HOo.out b hf; have := HS.out; have := HLl.out b hb; omega))
      have Ao19 := Lib.hid (Ao18.out.fr hfr (fun b hb hf => by have := HOo.out b hf; have := HS.out; have := HLo.out b hb; omega))
      have W19 := Lib.hid (W18.out.fr hfr (fun b hb hf => by have := HOo.out b hf; have := HS.out; omega))
      have G19 := Lib.hid (G18.out.fr hfr (fun b hf => by have := HOo.out b hf; omega))
      clear hfr K18 Al18 Ao18 W18 Ro18 G18
      obtain ⟨_, _, hg, hi⟩ := G19.out.at HOK.out
      obtain ⟨rfl, rfl⟩ : _ ∧ _ := by simpa using hg
      have J19 := Lib.hid (hi)
      clear hi hg
      go_wp2_with fail
      refine (eqInts_any _ _ _ r a9 a5 c9 c5 J19.out W19.out).mono ?_
      rintro e w20 ⟨rfl, hb⟩
      have hs20 := hb.size
      have K20 := Lib.hid (K19.out.step hb)
      have Al20 := Lib.hid (Al19.out.below hb)
      have Ao20 := Lib.hid (Ao19.out.below hb)
      have W20 := Lib.hid (W19.out.below hb)
      have G20 := Lib.hid (G19.out.below hb)
      have hbe := HBE.out
      clear hb K19 Al19 Ao19 W19 G19 J19
      go_wp2_with fail
      clear hbe
      refine (markI_any w20 _ _ r 1 G20.out (by omega) (by omega)).mono ?_
      rintro e w21 hm
      have hfr := G20.out.frM hm
      obtain ⟨rfl, hg, _⟩ := hm
      rw [← HNN.out]
      have hs21 := hfr.size
      have K21 := Lib.hid (K20.out.fr hfr (fun b hb => by have := HS.out; omega) HSL.out)
      have Al21 := Lib.hid (Al20.out.fr hfr (fun b hb hf => by have := HS.out; have := HLl.out b hb; omega))
      have Ao21 := Lib.hid (Ao20.out.fr hfr (fun b hb hf => by have := HS.out; have := HLo.out b hb; omega))
      have W21 := Lib.hid (W20.out.fr hfr (fun b hb hf => by have := HS.out; omega))
      have G21 := Lib.hid (hg)
      clear hfr hg K20 Al20 Ao20 W20 G20
      go_wp2_with fail
      refine (heldI_any w21 _ _ 1 r.length G21.out (by omega) (by omega)).mono ?_
      rintro e _ ⟨rfl, rfl⟩
      rw [← HNN.out]
      have hne := HNE.out
      obtain ⟨x0, x1⟩ := K21.out.box
      go_wp2_with fail
      refine (copySh_any _ S s a c a' c' K21.out.2 HLM.out HLN.out).mono ?_
      rintro e w22 ⟨v22, a22', c22', F22, rfl, hsm, hb⟩
      obtain ⟨a22, c22, rfl, hat⟩ := hsm.at
      have K22 := Lib.hid (K21.out.step hb)
      have Al22 := Lib.hid (Al21.out.below hb)
      have Ao22 := Lib.hid (Ao21.out.below hb)
      have W22 := Lib.hid (W21.out.below hb)
      have G22 := Lib.hid (G21.out.below hb)
      have T22 := Lib.hid (hat)
      clear hb hat hsm x0 x1 hne K21 Al21 Ao21 W21 G21
      go_wp2_with fail
      refine (copyI_any _ Sl l al cl Al22.out hln).mono ?_
      rintro e w23 ⟨a23, c23, rfl, hi, hb⟩
      have K23 := Lib.hid (K22.out.step hb)
      have Al23 := Lib.hid (Al22.out.below hb)
      have Ao23 := Lib.hid (Ao22.out.below hb)
      have W23 := Lib.hid (W22.out.below hb)
      have G23 := Lib.hid (G22.out.below hb)
      have T23 := Lib.hid (T22.out.below hb)
      have Cl23 := Lib.hid (hi)
      clear hb hi K22 Al22 Ao22 W22 G22 T22
      go_wp2_with fail
      refine (copyI_any _ So o ao co Ao23.out hon).mono ?_
      rintro e w24 ⟨a24, c24, rfl, hi, hb⟩
      have K24 := Lib.hid (K23.out.step hb)
      have Al24 := Lib.hid (Al23.out.below hb)
      have Ao24 := Lib.hid (Ao23.out.below hb)
      have W24 := Lib.hid (W23.out.below hb)
      have G24 := Lib.hid (G23.out.below hb)
      have T24 := Lib.hid (T23.out.below hb)
      have Cl24 := Lib.hid (Cl23.out.below hb)
      have Co24 := Lib.hid (hi)
      clear hb hi K23 Al23 Ao23 W23 G23 T23 Cl23
      go_wp2_with fail
      refine (implRestart_any s l o _ _ _ _ a22 c22 a22' c22' a23 c23 a24 c24 T24.out Cl24.out Co24.out).mono ?_
      intro e w25 hp
      obtain ⟨hb, v, rfl, hr⟩ := HUP.out _ _ _ hp
      obtain ⟨a25, c25, rfl, hi⟩ := hr.at HOK.out
      have K25 := Lib.hid (K24.out.step hb)
      have W25 := Lib.hid (W24.out.below hb)
      have G25 := Lib.hid (G24.out.below hb)
      have J25 := Lib.hid (hi)
      clear hb hr hi hp K24 Al24 Ao24 W24 G24 T24 Cl24 Co24
      go_wp2_with fail
      refine (eqInts_any _ _ _ r a25 a5 c25 c5 J25.out W25.out).mono ?_
      rintro e w26 ⟨rfl, hb⟩
      have K26 := Lib.hid (K25.out.step hb)
      have G26 := Lib.hid (G25.out.below hb)
      have hbe := HBE.out
      clear hb J25 K25 W25 G25
      go_wp2_with fail
      clear hbe
      refine (heldI_any w26 _ _ 1 r.length G26.out (by omega) (by omega)).mono ?_
      rintro e _ ⟨rfl, rfl⟩
      rw [← HNN.out]
      have hne := HNE.out
      go_wp2_with fail
      go_ret
      exact ⟨rfl, K26.out.done⟩
  · have hz : szSh s 1048576 = -1 := by unfold szSh; rw [if_neg (by omega)]
    have HZ := Lib.hid hz
    clear hz hle
    obtain ⟨x0, x1⟩ := K0.out.box
    go_enter Try.func11, Try.ntmps11
    go_wp2_with fail
    refine (szSheet_any _ S s a c a' c' 1048576 K0.out.2 (by omega)).mono ?_
    rintro e w1 ⟨rfl, hb⟩
    rw [HZ.out]
    have K1 := Lib.hid (K0.out.step hb)
    clear hb HZ K0
    go_wp2_with fail
    go_ret
    exact ⟨rfl, K1.out.done⟩
end Go.Proofs.Ytoaihkgllmmdlaa
