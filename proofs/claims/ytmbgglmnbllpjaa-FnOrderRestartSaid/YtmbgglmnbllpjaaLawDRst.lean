/- the walk of laws.FnOrderRestart -/
import Derived.Test.YtmbgglmnbllpjaaDrawOrd
import Derived.Test.YtmbgglmnbllpjaaRsS
import Derived.Test.YtmbgglmnbllpjaaOrdI
import Derived.Test.YtmbgglmnbllpjaaRstP
import Derived.Test.YtmbgglmnbllpjaaLawDMay
import Derived.Test.YtmbgglmnbllpjaaBs2
import Derived.BigQuiet
import Derived.StillTailTactics
namespace Go.Proofs.Ytmbgglmnbllpjaa
open Go.RowKit

theorem count_snoc {l : List Int} {k : Nat} (h : k < l.length) (x : Int) : (l.take (k + 1)).count x = (l.take k).count x + (if l[k] = x then 1 else 0) := by
  rw [List.take_succ_eq_append_getElem h, List.count_append, List.count_singleton]
  congr 1
  by_cases he : l[k] = x
  · rw [if_pos he]; simp [he]
  · rw [if_neg he]; simp [he]
theorem count_le_len (l : List Int) (x : Int) : l.count x ≤ l.length := List.count_le_length

set_option maxRecDepth 100000 in
set_option maxHeartbeats 2000000 in
theorem walk_orderRestart (w : World) (a : Option Addr) (n c : Nat) (h : CodeAt w a n c) :
    Calls Try.prog 12 #[.slice a n c] w fun e w' => e = .returned (.bool true) ∧ Below w.heap.size w w' := by
  have hn := h.1
  have hc := h.2.1
  have HC := Lib.hid h
  clear h
  by_cases hl : 1048576 < n
  · go_enter Try.func12, Try.ntmps12
    go_wp2_with fail
    go_ret
    exact ⟨rfl, Below.refl _ _⟩
  go_enter Try.func12, Try.ntmps12
  go_wp2_with fail
  refine (drawRestart_any _ a n c HC.out).mono ?_
  rintro e w1 ⟨s, av, cv, a', c', l, ai, ci, ks, ak, ck, rfl, hat, hin, hik, htl, hml, hnl, hll, hkl, hb⟩
  have hsz1 := hb.size
  have HT1 := Lib.hid (hat.alloc (.cells #[.slice av s.m.length cv, .slice a' s.t.length c'] 50))
  have HI1 := Lib.hid (hin.alloc (.cells #[.slice av s.m.length cv, .slice a' s.t.length c'] 50))
  have HQ1 := Lib.hid (hik.alloc (.cells #[.slice av s.m.length cv, .slice a' s.t.length c'] 50))
  have HB1 := Lib.hid (Blk.new w1 50 #[.slice av s.m.length cv, .slice a' s.t.length c'])
  have HX1 := Lib.hid (hb.alloc hsz1 (.cells #[.slice av s.m.length cv, .slice a' s.t.length c'] 50))
  have HTL := Lib.hid htl
  obtain ⟨R, hR⟩ : ∃ R, R = rsL s l ks := ⟨_, rfl⟩
  obtain ⟨z, hz⟩ : ∃ z, z = rsB s l ks := ⟨_, rfl⟩
  obtain ⟨U, hU⟩ : ∃ U, U = suL s l ks := ⟨_, rfl⟩
  obtain ⟨u, hu⟩ : ∃ u, u = suB s l ks := ⟨_, rfl⟩
  obtain ⟨V, hV⟩ : ∃ V, V = baL s l := ⟨_, rfl⟩
  obtain ⟨y, hy⟩ : ∃ y, y = baB s l := ⟨_, rfl⟩
  have hRb := rsL_bd s l ks
  have hUb := suL_bd s l ks
  have hVb := baL_bd s l
  rw [← hR] at hRb
  rw [← hU] at hUb
  rw [← hV] at hVb
  have HUR := Lib.hid (show ∀ w e w', OrP (rsB s l ks) (rsL s l ks) w e w' → Below w.heap.size w w' ∧ ∃ (a : Option Addr) (c : Nat), e = .returned (.tuple #[.slice a R.length c, .bool z]) ∧ IntsAt w' (fun b => w.heap.size ≤ b) R a c from by
    rintro w e w' ⟨hb, v, rfl, hr⟩
    rw [← hR] at hr
    obtain ⟨a, c, rfl, hi⟩ := hr.at (fun x hx => by have := hRb.1 x hx; unfold i64ok; omega)
    exact ⟨hb, a, c, by rw [hz], hi⟩)
  have HUS := Lib.hid (show ∀ w e w', OrP (suB s l ks) (suL s l ks) w e w' → Below w.heap.size w w' ∧ ∃ (a : Option Addr) (c : Nat), e = .returned (.tuple #[.slice a U.length c, .bool u]) ∧ IntsAt w' (fun b => w.heap.size ≤ b) U a c from by
    rintro w e w' ⟨hb, v, rfl, hr⟩
    rw [← hU] at hr
    obtain ⟨a, c, rfl, hi⟩ := hr.at (fun x hx => by have := hUb.1 x hx; unfold i64ok; omega)
    exact ⟨hb, a, c, by rw [hu], hi⟩)
  have HUV := Lib.hid (show ∀ w e w', BaPost s l w e w' → Below w.heap.size w w' ∧ ∃ (a : Option Addr) (c : Nat), e = .returned (.tuple #[.slice a V.length c, .bool y]) ∧ IntsAt w' (fun b => w.heap.size ≤ b) V a c from by
    rintro w e w' ⟨hb, v, rfl, hr⟩
    rw [← hV] at hr
    obtain ⟨a, c, rfl, hi⟩ := hr.at (fun x hx => by have := hVb.1 x hx; unfold i64ok; omega)
    exact ⟨hb, a, c, by rw [hy], hi⟩)
  have HR := Lib.hid (And.intro hR hz)
  have HU := Lib.hid (And.intro hU hu)
  have HV := Lib.hid (And.intro hV hy)
  have hRl : R.length ≤ 160 := hRb.2
  have hVl : V.length ≤ 10 := hVb.2
  have HRB := Lib.hid hRb.1
  clear hat hin hik hb HC htl hR hz hU hu hV hy hRb hUb hVb
  go_wp2_with fail
  refine (implRestart_any s l ks _ _ _ _ av cv a' c' ai ci ak ck HT1.out HI1.out HQ1.out).mono ?_
  intro e w2 hp
  obtain ⟨hb, a2, c2, rfl, hi2⟩ := HUR.out _ _ _ hp
  have hsz2 := hb.size
  simp only [World.size_alloc] at hsz2
  have HT2 := Lib.hid (HT1.out.below hb)
  have HI2 := Lib.hid (HI1.out.below hb)
  have HQ2 := Lib.hid (HQ1.out.below hb)
  have HB2 := Lib.hid (HB1.out.below hb (by simp))
  have HX2 := Lib.hid (HX1.out.trans (hb.mono (by simp; omega)))
  have HL2 := Lib.hid hi2
  clear hb hp hi2 HT1 HI1 HQ1 HB1 HX1
  obtain ⟨x0, x1, f0, f1⟩ := HB2.out.two
  go_wp2_with fail
  refine (specRestart_any s l ks _ _ _ _ av cv a' c' ai ci ak ck HT2.out (by omega) HI2.out HQ2.out (by omega)).mono ?_
  intro e w3 hp
  obtain ⟨hb, a3, c3, rfl, hi3⟩ := HUR.out _ _ _ hp
  have hsz3 := hb.size
  have HT3 := Lib.hid (HT2.out.below hb)
  have HI3 := Lib.hid (HI2.out.below hb)
  have HQ3 := Lib.hid (HQ2.out.below hb)
  have HB3 := Lib.hid (HB2.out.below hb (by omega))
  have HX3 := Lib.hid (HX2.out.trans (hb.mono (by omega)))
  have HL3 := Lib.hid (HL2.out.below hb)
  have HM3 := Lib.hid hi3
  clear hb hp hi3 HT2 HI2 HQ2 HB2 HX2 HL2 x0 x1 f0 f1
  have hnb : (z != z) = false := by simp
  go_wp2_with fail
  refine (brInts_any _ _ _ R a2 a3 c2 c3 HL3.out HM3.out).mono ?_
  rintro e w4 ⟨rfl, hb⟩
  have hsz4 := hb.size
  have HT4 := Lib.hid (HT3.out.below hb)
  have HI4 := Lib.hid (HI3.out.below hb)
  have HQ4 := Lib.hid (HQ3.out.below hb)
  have HB4 := Lib.hid (HB3.out.below hb (by omega))
  have HX4 := Lib.hid (HX3.out.trans (hb.mono (by omega)))
  have HL4 := Lib.hid (HL3.out.below hb)
  clear hb HT3 HI3 HQ3 HB3 HX3 HL3 HM3
  obtain ⟨x0, x1, f0, f1⟩ := HB4.out.two
  go_wp2_with fail
  clear hnb
  refine (implSuspend_any s l ks _ _ _ _ av cv a' c' ai ci ak ck HT4.out HI4.out HQ4.out).mono ?_
  intro e w5 hp
  obtain ⟨hb, a5, c5, rfl, hi5⟩ := HUS.out _ _ _ hp
  have hsz5 := hb.size
  have HT5 := Lib.hid (HT4.out.below hb)
  have HI5 := Lib.hid (HI4.out.below hb)
  have HB5 := Lib.hid (HB4.out.below hb (by omega))
  have HX5 := Lib.hid (HX4.out.trans (hb.mono (by omega)))
  have HL5 := Lib.hid (HL4.out.below hb)
  have HS5 := Lib.hid hi5
  clear hb hp hi5 HT4 HI4 HQ4 HB4 HX4 HL4 x0 x1 f0 f1
  obtain ⟨x0, x1, f0, f1⟩ := HB5.out.two
  go_wp2_with fail
  refine (implAll_any s l _ _ _ av cv a' c' ai ci HT5.out HI5.out).mono ?_
  intro e w6 hp
  obtain ⟨hb, a6, c6, rfl, hi6⟩ := HUV.out _ _ _ hp
  have hsz6 := hb.size
  have HT6 := Lib.hid (HT5.out.below hb)
  have HB6 := Lib.hid (HB5.out.below hb (by omega))
  have HX6 := Lib.hid (HX5.out.trans (hb.mono (by omega)))
  have HL6 := Lib.hid (HL5.out.below hb)
  have HS6 := Lib.hid (HS5.out.below hb)
  have HV6 := Lib.hid hi6
  clear hb hp hi6 HT5 HI5 HB5 HX5 HL5 HS5 x0 x1 f0 f1
  go_wp2_with fail
  go_loopw [14, 15, 16, 17, 18] (fun i _ _ _ _ wr => ∃ k : Nat, k ≤ R.length ∧ i = .int .i64 k ∧ Below w6.heap.size w6 wr) (fun i _ _ _ _ _ => R.length - (intOf i).toNat)
  case atStart => exact ⟨0, by omega, rfl, Below.refl _ _⟩
  case round =>
    obtain ⟨k, hk, rfl, hb⟩ := hrel
    obtain ⟨wo, hwo⟩ : ∃ x, x = wr := ⟨_, rfl⟩
    subst hwo
    have hszr := hb.size
    have HXR := Lib.hid (HX6.out.trans (hb.mono (by omega)))
    have HBW := Lib.hid hb
    have HTR := Lib.hid (HT6.out.below hb)
    have HBR := Lib.hid (HB6.out.below hb (by omega))
    have HLR := Lib.hid (HL6.out.below hb)
    have HSR := Lib.hid (HS6.out.below hb)
    have HVR := Lib.hid (HV6.out.below hb)
    obtain ⟨RL, hRL⟩ : ∃ n, n = R.length := ⟨_, rfl⟩
    have HRL := Lib.hid hRL
    rw [← hRL] at hk ⊢
    have hRL160 : RL ≤ 160 := by omega
    clear hb hRL
    obtain ⟨x0, x1, f0, f1⟩ := HBR.out.two
    by_cases hlt : k < RL
    · have hlt2 : k < R.length := by have := HRL.out; omega
      have hzt : z = true := by
        cases hz : z
        · exfalso
          have h1 := rs_md (s := s) (l := l) (ks := ks)
          have h2 := h1.2 (by rw [← HR.out.2, hz])
          rw [← HR.out.1] at h2
          rw [h2] at hlt2; simp at hlt2
        · rfl
      subst hzt
      have hrs : rsB s l ks = true := HR.out.2.symm
      obtain ⟨_, hba, _⟩ := rs_su hrs
      obtain ⟨x, hx⟩ : ∃ x, x = R[k] := ⟨_, rfl⟩
      have hxm : s.mdI x = true := rs_md.1 x (by rw [← HR.out.1, hx]; exact List.getElem_mem _)
      have hxb := mdI_bd hxm
      obtain ⟨xn, rfl⟩ : ∃ xn : Nat, x = xn := ⟨x.toNat, by omega⟩
      have hxn : xn < s.m.length := by omega
      have hcnt := rs_cnt hrs (xn : Int)
      rw [← HR.out.1, ← HV.out.1] at hcnt
      have HCNT := Lib.hid hcnt
      have HBA := Lib.hid hba
      have hcell : ∀ w', Below wo.heap.size wo w' → ∃ b o, a2 = some ⟨b, o, none⟩ ∧ b < w'.heap.size ∧ w'.cell? ⟨b, o + k, none⟩ = some (.int .i64 (xn : Int)) := fun w' hb => by
        obtain ⟨b, o, h1, h2, _, h3⟩ := HLR.out.get hb hlt2
        exact ⟨b, o, h1, Nat.lt_of_lt_of_le h2 hb.size, by rw [hx]; exact h3⟩
      have HCL := Lib.hid hcell
      obtain ⟨bR, oR, haR, hbR, hcR⟩ := hcell wo (Below.refl _ _)
      have HAR := Lib.hid haR
      have HL2 := Lib.hid hlt2
      clear hrs hba hxm hxb hcnt hx hcell haR hlt2
      obtain rfl := HAR.out
      clear hcR
      go_wp2_with fail
      go_loopw [15, 16] (fun nv j wq => ∃ q : Nat, q ≤ RL ∧ j = .int .i64 q ∧ nv = .int .i64 (((R.take q).count (xn : Int) : Nat) : Int) ∧ Below wo.heap.size wo wq) (fun _ j _ => RL - (intOf j).toNat)
      case atStart => exact ⟨0, by omega, rfl, by simp, Below.refl _ _⟩
      case round =>
        obtain ⟨q, hq, rfl, rfl, hbq⟩ := hrel
        have HBQ := Lib.hid hbq
        obtain ⟨b1, o1, ha1, hb1, hc1⟩ := HCL.out wr hbq
        obtain ⟨rfl, rfl⟩ : bR = b1 ∧ oR = o1 := by injection ha1 with h; injection h with h1 h2; exact ⟨h1, h2⟩
        have hszq := hbq.size
        obtain ⟨C, hC⟩ : ∃ C, C = (R.take q).count (xn : Int) := ⟨_, rfl⟩
        have HCC := Lib.hid hC
        rw [← hC]
        have hCl : C ≤ 160 := by
          rw [hC]
          have h1 := count_le_len (R.take q) (xn : Int)
          rw [List.length_take] at h1
          have := HRL.out
          omega
        clear hbq ha1 hC
        by_cases hlq : q < RL
        · have hlq2 : q < R.length := by have := HRL.out; omega
          obtain ⟨b2, o2, ha2, hb2, _, hc2⟩ := (HLR.out.below HBQ.out).get (Below.refl _ _) hlq2
          obtain ⟨rfl, rfl⟩ : bR = b2 ∧ oR = o2 := by injection ha2 with h; injection h with h1 h2; exact ⟨h1, h2⟩
          have HSN := Lib.hid (count_snoc hlq2 (xn : Int))
          obtain ⟨xq, hxq⟩ : ∃ xq, xq = R[q] := ⟨_, rfl⟩
          rw [← hxq] at hc2
          have HXQ := Lib.hid hxq
          clear ha2 hxq
          by_cases he : xq = (xn : Int)
          · subst he
            have hd : ((xn : Int) == (xn : Int)) = true := by simp
            have hsn : (R.take (q + 1)).count (xn : Int) = C + 1 := by rw [HSN.out, ← HXQ.out, if_pos rfl, HCC.out]
            have HS2 := Lib.hid hsn
            clear hsn
            go_wp2_with fail
            go_quiet (fail)
            revert nq
            intro n1
            go_wp2_with fail
            go_roundw
            case rel => exact ⟨q + 1, by omega, by go_num, by rw [HS2.out]; go_num, below_drewN HBQ.out _⟩
            case measure => simp [intOf]; omega
          · have hd : (xq == (xn : Int)) = false := by simpa using he
            have hsn : (R.take (q + 1)).count (xn : Int) = C := by rw [HSN.out, ← HXQ.out, if_neg he, HCC.out]; omega
            have HS2 := Lib.hid hsn
            clear hsn he
            go_wp2_with fail
            go_quiet (fail)
            revert nq
            intro n1
            go_wp2_with fail
            go_roundw
            case rel => exact ⟨q + 1, by omega, by go_num, by rw [HS2.out], below_drewN HBQ.out _⟩
            case measure => simp [intOf]; omega
        · have hCR : C = R.count (xn : Int) := by rw [HCC.out, List.take_of_length_le (by have := HRL.out; omega)]
          have HCR := Lib.hid hCR
          have hkt : xn < s.t.length := by have := HTL.out; omega
          obtain ⟨b', o', a7, c7, rfl, hbl', hSb', e0, e1, e2, hatt, _, _⟩ := (HTR.out.below HBQ.out).2.elem (Below.refl _ _) hkt
          have htk : s.t[xn] = s.tkI (xn : Int) := by unfold Sh.tkI; rw [Int.toNat_natCast]; exact (getD_len hkt).symm
          rw [htk] at hatt e0 e1 e2
          obtain ⟨x0, x1, f0, f1⟩ := (HBR.out.below HBQ.out HBR.out.lt).two
          have hun := implUses_any (s.tkI (xn : Int)) V wr.drew _ _ a7 a6 c7 c6 (hatt.below (show Below wr.heap.size wr wr.drew from (Below.refl _ _).drew)) ((HVR.out.below HBQ.out).drewN 1)
          have HUN := Lib.hid hun
          clear hCR hatt htk hun hSb'
          go_wp2_with fail
          go_region_with (go_at_call 17; refine HUN.out.mono ?_; rintro e w8 ⟨hb8, v8, rfl, hr8⟩)
          all_goals
            have htok := tkI_ok HBA.out (xn : Int)
            rw [← HV.out.1] at htok
            rw [if_pos htok] at hr8
            have hkys := kys_ok htok
            obtain ⟨us, hus⟩ : ∃ us, us = usesL ((s.tkI (xn : Int)).kys (vf V)) := ⟨_, rfl⟩
            have hul : us.length ≤ 15 := by
              rw [hus]
              have := usesL_len ((s.tkI (xn : Int)).kys (vf V))
              omega
            rw [← hus] at hr8
            obtain ⟨au, cu, rfl, hiu⟩ := ElRow.at (f := Value.int .i64) (e := 3) hr8
            have hlen : C ≤ us.length + 1 := by rw [HCR.out, hus]; exact HCNT.out
            have HB8 := Lib.hid (show Below w6.heap.size w6 w8 from (HBW.out.trans (HBQ.out.mono hszr)).trans ((show Below wr.heap.size wr wr.drew from (Below.refl _ _).drew).trans (hb8.mono (Nat.le_refl _)) |>.mono (by omega)))
            have hw : IntKind.i64.wrap ((us.length : Int) + 1) = (us.length : Int) + 1 := IntWalk.i64_in _ ⟨by omega, by omega⟩
            have hd1 : decide ((us.length : Int) + 1 < (C : Int)) = false := decide_eq_false (by omega)
            have hd2 : decide (us.length + 1 < C) = false := decide_eq_false (by omega)
            clear hb8 htok hkys hus hr8 hiu e0 e1 e2 HUN
            go_wp2_with fail
            go_roundw
            case rel => exact ⟨k + 1, by omega, by go_num, HB8.out⟩
            case measure => simp [intOf]; omega
    · have hkR : k = RL := by omega
      cases hz : z
      · subst hz
        go_wp2_with fail
        go_ret
        exact ⟨rfl, HXR.out⟩
      · have hrs : rsB s l ks = true := by rw [← HR.out.2]; exact hz
        obtain ⟨_, _, hmem⟩ := rs_su hrs
        rw [← HR.out.1, ← HU.out.1] at hmem
        have hm1 := brAll_any wo _ _ R U a2 a5 c2 c5 HLR.out HSR.out (fun x hx => (hmem x).1 hx)
        have hm2 := brAll_any wo _ _ U R a5 a2 c5 c2 HSR.out HLR.out (fun x hx => (hmem x).2 hx)
        rw [← HRL.out] at hm1 hm2
        have HM1 := Lib.hid hm1
        have HM2 := Lib.hid hm2
        subst hz
        clear hmem hrs hkR hm1 hm2
        go_wp2_with fail
        refine HM1.out.mono ?_
        rintro e w8 ⟨rfl, rfl⟩
        go_wp2_with fail
        refine HM2.out.mono ?_
        rintro e w8 ⟨rfl, rfl⟩
        go_wp2_with fail
        go_ret
        exact ⟨rfl, HXR.out⟩
end Go.Proofs.Ytmbgglmnbllpjaa
