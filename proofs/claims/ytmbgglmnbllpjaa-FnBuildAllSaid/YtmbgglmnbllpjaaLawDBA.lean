/- the walk of laws.FnBuildAll -/
import Derived.Test.YtmbgglmnbllpjaaLawDBK
import Derived.Test.YtmbgglmnbllpjaaAllS
import Derived.Test.YtmbgglmnbllpjaaBs2
namespace Go.Proofs.Ytmbgglmnbllpjaa
open Go.RowKit

/-- An input has the value that it was given. -/
theorem ba_free {s : Sh} {l : List Int} (h : baB s l = true) {k : Nat} (hm : s.mdI (k : Int) = false) (hk : k < l.length) : vsS s l (k : Int) = l[k] := by
  unfold baB at h
  rw [Bool.and_eq_true] at h
  rw [vsS_free (inOk_of h.1).1 hm, vf_in hk]
theorem ba_some {s : Sh} {l : List Int} (h : 0 < (baL s l).length) : baB s l = true := by
  cases hb : baB s l
  · unfold baL at h; rw [if_neg (by rw [hb]; simp)] at h; simp at h
  · rfl

set_option maxRecDepth 100000 in
set_option maxHeartbeats 4000000 in
theorem walk_buildAll (w : World) (a : Option Addr) (n c : Nat) (h : CodeAt w a n c) :
    Calls Try.prog 9 #[.slice a n c] w fun e w' => e = .returned (.bool true) ∧ Below w.heap.size w w' := by
  have hn := h.1
  have hc := h.2.1
  have HC := Lib.hid h
  clear h
  by_cases hl : 1048576 < n
  · go_enter Try.func9, Try.ntmps9
    go_wp2_with fail
    go_ret
    exact ⟨rfl, Below.refl _ _⟩
  go_enter Try.func9, Try.ntmps9
  go_wp2_with fail
  refine (drawBuildAll_any _ a n c HC.out).mono ?_
  rintro e w1 ⟨s, av, cv, a', c', l, ai, ci, rfl, hat, hin, htl, hml, hnl, hll, hb⟩
  have hsz1 := hb.size
  have HT1 := Lib.hid (hat.alloc (.cells #[.slice av s.m.length cv, .slice a' s.t.length c'] 50))
  have HI1 := Lib.hid (hin.alloc (.cells #[.slice av s.m.length cv, .slice a' s.t.length c'] 50))
  have HB1 := Lib.hid (Blk.new w1 50 #[.slice av s.m.length cv, .slice a' s.t.length c'])
  have HX1 := Lib.hid (hb.alloc hsz1 (.cells #[.slice av s.m.length cv, .slice a' s.t.length c'] 50))
  have HTL := Lib.hid htl
  have hbd := baL_bd s l
  obtain ⟨L, hL⟩ : ∃ L, L = baL s l := ⟨_, rfl⟩
  obtain ⟨z, hz⟩ : ∃ z, z = baB s l := ⟨_, rfl⟩
  rw [← hL] at hbd
  have hup : ∀ w e w', BaPost s l w e w' → Below w.heap.size w w' ∧ ∃ (a : Option Addr) (c : Nat), e = .returned (.tuple #[.slice a L.length c, .bool z]) ∧ IntsAt w' (fun b => w.heap.size ≤ b) L a c := by
    rintro w e w' ⟨hb, v, rfl, hr⟩
    rw [← hL] at hr
    obtain ⟨a, c, rfl, hi⟩ := hr.at (fun x hx => by have := hbd.1 x hx; unfold i64ok; omega)
    exact ⟨hb, a, c, by rw [hz], hi⟩
  have HUP := Lib.hid hup
  have HLL := Lib.hid hL
  have hL10 : L.length ≤ 10 := hbd.2
  clear hat hin hb HC htl hup hL hz hbd
  go_wp2_with fail
  refine (implAll_any s l _ _ _ av cv a' c' ai ci HT1.out HI1.out).mono ?_
  intro e w2 hp
  obtain ⟨hb, a2, c2, rfl, hi2⟩ := HUP.out _ _ _ hp
  have hsz2 := hb.size
  simp only [World.size_alloc] at hsz2
  have HT2 := Lib.hid (HT1.out.below hb)
  have HI2 := Lib.hid (HI1.out.below hb)
  have HB2 := Lib.hid (HB1.out.below hb (by simp))
  have HX2 := Lib.hid (HX1.out.trans (hb.mono (by simp; omega)))
  have HL2 := Lib.hid hi2
  clear hb hp hi2 HT1 HI1 HB1 HX1
  obtain ⟨x0, x1, f0, f1⟩ := HB2.out.two
  go_wp2_with fail
  refine (specAll_any s l _ _ _ av cv a' c' ai ci HT2.out (by omega) HI2.out).mono ?_
  intro e w3 hp
  obtain ⟨hb, a3, c3, rfl, hi3⟩ := HUP.out _ _ _ hp
  have hsz3 := hb.size
  have HT3 := Lib.hid (HT2.out.below hb)
  have HI3 := Lib.hid (HI2.out.below hb)
  have HB3 := Lib.hid (HB2.out.below hb (by omega))
  have HX3 := Lib.hid (HX2.out.trans (hb.mono (by omega)))
  have HL3 := Lib.hid (HL2.out.below hb)
  have HM3 := Lib.hid hi3
  clear hb hp hi3 HT2 HI2 HB2 HX2 HL2 x0 x1 f0 f1
  have hnb : (z != z) = false := by simp
  go_wp2_with fail
  refine (brInts_any _ _ _ L a2 a3 c2 c3 HL3.out HM3.out).mono ?_
  rintro e w4 ⟨rfl, hb⟩
  have hsz4 := hb.size
  have HT4 := Lib.hid (HT3.out.below hb)
  have HI4 := Lib.hid (HI3.out.below hb)
  have HB4 := Lib.hid (HB3.out.below hb (by omega))
  have HX4 := Lib.hid (HX3.out.trans (hb.mono (by omega)))
  have HL4 := Lib.hid (HL3.out.below hb)
  clear hb HT3 HI3 HB3 HX3 HL3 HM3
  go_wp2_with fail
  clear hnb
  go_loopw [9, 10, 11] (fun i _ _ wr => ∃ k : Nat, k ≤ L.length ∧ i = .int .i64 k ∧ Below w4.heap.size w4 wr) (fun i _ _ _ => L.length - (intOf i).toNat)
  case atStart => exact ⟨0, by omega, rfl, Below.refl _ _⟩
  case round =>
    obtain ⟨k, hk, rfl, hb⟩ := hrel
    have hszr := hb.size
    have HXR := Lib.hid (HX4.out.trans (hb.mono (by omega)))
    have HBW := Lib.hid hb
    have hbk := HB4.out.below hb (by omega)
    have HTR := Lib.hid (HT4.out.below hb)
    have HBR := Lib.hid hbk
    have HIR := Lib.hid (HI4.out.below hb)
    have HLR := Lib.hid (HL4.out.below hb)
    clear hb
    by_cases hlt : k < L.length
    · have hz : baB s l = true := ba_some (by rw [← HLL.out]; omega)
      have hlen : L.length = s.m.length := by rw [HLL.out]; exact ba_len hz
      have hkm : k < s.m.length := by omega
      have hkt : k < s.t.length := by have := HTL.out; omega
      have hkl : k < l.length := by
        have h' := hz
        unfold baB at h'
        rw [Bool.and_eq_true] at h'
        have := (inOk_of h'.1).2.1
        omega
      obtain ⟨x, hx⟩ : ∃ x, x = vsS s l (k : Int) := ⟨_, rfl⟩
      have hLk : L[k] = x := by
        rw [hx]
        have e := HLL.out
        subst e
        exact ba_get hz hkm hlt
      have htk : s.tk k = s.t[k] := getD_len hkt
      have hmm : s.mdI (k : Int) = s.m[k] := by rw [mdI_nat]; unfold Sh.md; rw [getD_len hkm]
      have hmd : s.m[k] = true → tvV s.t[k] L = x := fun hm => by
        rw [hx, HLL.out, ← htk]
        exact ba_task hz (hmm.trans hm) hkm
      have hfr : s.m[k] = false → l[k] = x := fun hm => by
        rw [hx]
        exact (ba_free hz (hmm.trans hm) hkl).symm
      obtain ⟨bt, ot, at_, ct, rfl, _, _, e0, e1, e2, hs, ok1, ok2⟩ := HTR.out.2.elem (Below.refl _ _) hkt
      obtain ⟨t, ht⟩ : ∃ t, t = s.t[k] := ⟨_, rfl⟩
      rw [← ht] at e0 e1 e2 hs hmd
      obtain ⟨mk, hmk⟩ : ∃ m, m = s.m[k] := ⟨_, rfl⟩
      rw [← hmk] at hmd hfr
      have HMD := Lib.hid hmd
      have HFD := Lib.hid hfr
      have HMK := Lib.hid hmk
      have HLK := Lib.hid hLk
      have HS := Lib.hid hs
      obtain ⟨x0, x1, f0, f1⟩ := hbk.two
      clear hmd hfr hmk hLk hs hlen htk hmm ht hz hx hbk
      go_wp2_with fail
      refine (implValue_any t L _ _ _ at_ a2 ct c2 HS.out HLR.out).mono ?_
      rintro e w5 ⟨rfl, hb⟩
      obtain ⟨u, hu⟩ : ∃ u, u = tvV t L := ⟨_, rfl⟩
      obtain ⟨o, ho⟩ : ∃ u, u = (t.ok && vok L) := ⟨_, rfl⟩
      rw [← hu, ← ho]
      have HU := Lib.hid hu
      have hbk := HBR.out.below hb HBR.out.lt
      obtain ⟨bi, oi, rfl, _, _, hci⟩ := HLR.out.get hb hlt
      obtain ⟨bm, om, rfl, _, _, hcm⟩ := HTR.out.1.get hb hkm
      obtain ⟨bl, ol, rfl, _, _, hcl⟩ := HIR.out.get hb hkl
      rw [HLK.out] at hci
      rw [← HMK.out] at hcm
      have HB5 := Lib.hid (HBW.out.trans (hb.mono hszr))
      clear hb x0 x1 f0 f1 e0 e1 e2 hu ho
      obtain ⟨x0, x1, f0, f1⟩ := hbk.two
      clear hbk
      have hxx : (x != x) = false := by simp
      cases mk
      · rw [HFD.out rfl] at hcl
        go_wp2_with fail
        go_quiet (fail)
        go_wp2_with fail
        go_roundw
        case rel => exact ⟨k + 1, by omega, by go_num, below_drewN HB5.out _⟩
        case measure => simp [intOf]; omega
      · have hux : u = x := by rw [HU.out]; exact HMD.out rfl
        subst hux
        clear hcl
        go_wp2_with fail
        go_quiet (fail)
        go_wp2_with fail
        go_roundw
        case rel => exact ⟨k + 1, by omega, by go_num, below_drewN HB5.out _⟩
        case measure => simp [intOf]; omega
    · have HLE := Lib.hid (show k = L.length by omega)
      clear hbk
      go_wp2_with fail
      go_ret
      exact ⟨rfl, HXR.out⟩
end Go.Proofs.Ytmbgglmnbllpjaa
