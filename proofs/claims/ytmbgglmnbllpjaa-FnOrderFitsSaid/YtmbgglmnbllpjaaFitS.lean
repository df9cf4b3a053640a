/- spec.l4Keys, spec.OrderFits -/
import Derived.Test.YtmbgglmnbllpjaaFitP
import Derived.Deep.RegionWith
import Derived.BigQuiet
namespace Go.Proofs.Ytmbgglmnbllpjaa
open Go.RowKit

theorem IntsAt.upto {w : World} {S : Nat → Prop} {l : List Int} {a : Option Addr} {c : Nat} (h : IntsAt w S l a c) (i : Nat) : IntsAt w S (l.take i) a c := by
  obtain ⟨h1, h2, h3, h4⟩ := h
  refine ⟨by rw [List.length_take]; omega, h2, fun v hv => h3 v (List.mem_of_mem_take hv), ?_⟩
  rcases h4 with h4 | ⟨b, o, ha, hS, hc⟩
  · exact .inl (by rw [h4]; simp)
  · refine .inr ⟨b, o, ha, hS, fun j hj => ?_⟩
    rw [List.getElem_take]
    exact hc j (by rw [List.length_take] at hj; omega)

/-- They are keys of a sheet. -/
def kyB (s : Sh) (ks : List Int) : Bool := hkB s ks && s.ok

set_option maxRecDepth 100000 in
set_option maxHeartbeats 2000000 in
theorem l4Keys_any (s : Sh) (ks : List Int) (w : World) (S S' : Nat → Prop) (a : Option Addr) (c : Nat) (a' : Option Addr) (c' : Nat) (ak : Option Addr) (ck : Nat) (h : ShAt w S s a c a' c') (hn : nodesL s.t ≤ 1048576) (hks : IntsAt w S' ks ak ck) :
    Calls Try.prog 90 #[.agg #[.slice a s.m.length c, .slice a' s.t.length c'], .slice ak ks.length ck] w fun e w' => e = .returned (.bool (kyB s ks)) ∧ Below w.heap.size w w' := by
  have K0 := Lib.hid (Ks.start (ty := 50) h)
  have HI := Lib.hid (hks.alloc (.cells #[.slice a s.m.length c, .slice a' s.t.length c'] 50))
  have hkl : ks.length ≤ 9223372036854775807 := by have := hks.1; have := hks.2.1; omega
  have hlm : s.m.length ≤ 9223372036854775807 := by have := h.1.1; have := h.1.2.1; omega
  have HN := Lib.hid hn
  obtain ⟨KL, hKL⟩ : ∃ n, n = ks.length := ⟨_, rfl⟩
  have HKL := Lib.hid hKL
  rw [← hKL] at hkl ⊢
  obtain ⟨r, hr⟩ : ∃ r, r = kyB s ks := ⟨_, rfl⟩
  have HR := Lib.hid hr
  rw [← hr]
  clear h hks hKL hr hn
  go_enter Try.func90, Try.ntmps90
  go_wp2_with fail
  go_loopw [5] (fun i wr => ∃ k : Nat, k ≤ KL ∧ i = .int .i64 k ∧ (ks.take k).all (fun k => decide (0 ≤ k ∧ k < s.m.length)) = true ∧ Ks S s a c a' c' 50 w wr ∧ IntsAt wr S' ks ak ck) (fun i _ => KL - (intOf i).toNat)
  case atStart => exact ⟨0, by omega, rfl, by simp, K0.out, HI.out⟩
  case round =>
    obtain ⟨k, hk, rfl, hall, hK, hI⟩ := hrel
    have HA := Lib.hid hall
    have HK := Lib.hid (And.intro hK hI)
    obtain ⟨x0, x1⟩ := hK.box
    clear hall hK hI K0 HI
    by_cases hlt : k < KL
    · have hlt2 : k < ks.length := by have := HKL.out; omega
      obtain ⟨b, o, rfl, hbl, _, hc⟩ := HK.out.2.get (Below.refl _ _) hlt2
      obtain ⟨key, hkey⟩ : ∃ key, key = ks[k] := ⟨_, rfl⟩
      rw [← hkey] at hc
      have HKEY := Lib.hid hkey
      obtain ⟨p, hp⟩ : ∃ p, p = decide (0 ≤ key ∧ key < s.m.length) := ⟨_, rfl⟩
      have hdk : decide ((0 : Int) ≤ key ∧ key ≤ (s.m.length : Int) - 1) = p := by
        rw [hp]
        by_cases h : 0 ≤ key ∧ key < s.m.length
        · rw [decide_eq_true h, decide_eq_true (by omega)]
        · rw [decide_eq_false h, decide_eq_false (by omega)]
      have hwr : IntKind.i64.wrap ((s.m.length : Int) - 1) = (s.m.length : Int) - 1 := IntWalk.i64_in _ ⟨by omega, by omega⟩
      rw [← hwr] at hdk
      have HD := Lib.hid hdk
      have HP := Lib.hid hp
      have HL2 := Lib.hid hlt2
      clear hkey hp hdk hwr
      go_wp2_with fail
      go_region_with (go_at_call 81; refine (in_any _ _ _ _).mono ?_; rw [HD.out]; rintro e w9 ⟨rfl, rfl⟩)
      all_goals
        have K1 := Lib.hid (And.intro (HK.out.1.drewN 1) (HK.out.2.drewN 1))
        cases p
        · go_wp2_with fail
          go_ret
          exact ⟨ret_bool (by rw [HR.out]; unfold kyB hkB; rw [all_fls HL2.out (by rw [← HKEY.out]; exact HP.out.symm)]; rfl), below_drewN HK.out.1.done _⟩
        · go_wp2_with fail
          go_roundw
          case rel => exact ⟨k + 1, by omega, by go_num, by rw [all_tk HL2.out, HA.out, ← HKEY.out, ← HP.out]; rfl, HK.out.1.drewN _, HK.out.2.drewN _⟩
          case measure => simp [intOf]; omega
    · have hall : hkB s ks = true := by
        have := HA.out
        rwa [List.take_of_length_le (by have := HKL.out; omega)] at this
      have hrk : s.ok = r := by rw [HR.out]; unfold kyB; rw [hall]; rfl
      have HALL := Lib.hid hrk
      clear hall hrk
      go_wp2_with fail
      refine (specSheetOk_any s _ S a c a' c' HK.out.1.2 HN.out).mono ?_
      rintro e w1 ⟨rfl, hb⟩
      rw [HALL.out]
      have K1 := Lib.hid (HK.out.1.step hb)
      clear hb x0 x1
      go_wp2_with fail
      go_ret
      exact ⟨rfl, K1.out.done⟩

set_option maxRecDepth 100000 in
set_option maxHeartbeats 4000000 in
theorem specFits_any (s : Sh) (l o : List Int) (w : World) (S0 S1 S2 : Nat → Prop) (a : Option Addr) (c : Nat) (a' : Option Addr) (c' : Nat) (ai : Option Addr) (ci : Nat) (ao : Option Addr) (co : Nat) (h0 : ShAt w S0 s a c a' c') (hn : nodesL s.t ≤ 1048576) (hl : IntsAt w S1 l ai ci) (ho : IntsAt w S2 o ao co) :
    Calls Try.prog 52 #[.agg #[.slice a s.m.length c, .slice a' s.t.length c'], .slice ai l.length ci, .slice ao o.length co] w fun e w' => e = .returned (.bool (ofB s l o)) ∧ Below w.heap.size w w' := by
  have K0 := Lib.hid (Ks.start (ty := 50) h0)
  have L0 := Lib.hid (hl.alloc (.cells #[.slice a s.m.length c, .slice a' s.t.length c'] 50))
  have O0 := Lib.hid (ho.alloc (.cells #[.slice a s.m.length c, .slice a' s.t.length c'] 50))
  have hol : o.length ≤ 9223372036854775807 := by have := ho.1; have := ho.2.1; omega
  have hoc : o.length ≤ co ∧ co ≤ 9223372036854775807 := ⟨ho.1, ho.2.1⟩
  have HN := Lib.hid hn
  obtain ⟨OL, hOL⟩ : ∃ n, n = o.length := ⟨_, rfl⟩
  have HOL := Lib.hid hOL
  rw [← hOL] at hol hoc ⊢
  obtain ⟨r, hr⟩ : ∃ r, r = ofB s l o := ⟨_, rfl⟩
  have HR := Lib.hid hr
  rw [← hr]
  clear h0 hl ho hOL hr hn
  obtain ⟨x0, x1⟩ := K0.out.box
  cases hba : baB s l
  · have HB := Lib.hid hba
    clear hba
    go_enter Try.func52, Try.ntmps52
    go_wp2_with fail
    refine (specAll_any s l _ S0 _ a c a' c' ai ci K0.out.2 HN.out L0.out).mono ?_
    rintro e w1 ⟨hb, v, rfl, _⟩
    rw [HB.out]
    have K1 := Lib.hid (K0.out.step hb)
    clear hb x0 x1
    go_wp2_with fail
    go_ret
    exact ⟨ret_bool (by rw [HR.out]; unfold ofB; rw [HB.out]; rfl), K1.out.done⟩
  · have HB := Lib.hid hba
    have hrr : r = ofTo s (vf (baL s l)) o o.length := by rw [HR.out]; unfold ofB; rw [hba]; rfl
    have HRR := Lib.hid hrr
    have hkk : kyB s o = hkB s o := by unfold kyB; rw [ok_of_ba hba, Bool.and_true]
    have HKK := Lib.hid hkk
    clear hba hrr hkk
    go_enter Try.func52, Try.ntmps52
    go_wp2_with fail
    refine (specAll_any s l _ S0 _ a c a' c' ai ci K0.out.2 HN.out L0.out).mono ?_
    rintro e w1 ⟨hb, v, rfl, hrow⟩
    rw [HB.out]
    obtain ⟨av, cv, rfl, hia⟩ := hrow.at (fun x hx => by have := (baL_bd s l).1 x hx; unfold i64ok; omega)
    have K1 := Lib.hid (K0.out.step hb)
    have O1 := Lib.hid (O0.out.below hb)
    have V1 := Lib.hid hia
    clear hb hrow hia x0 x1 K0 L0 O0
    obtain ⟨x0, x1⟩ := K1.out.box
    go_wp2_with fail
    have hkc := l4Keys_any s o w1 _ _ a c a' c' ao co K1.out.2 HN.out O1.out
    rw [← HOL.out] at hkc
    refine hkc.mono ?_
    clear hkc
    rintro e w2 ⟨rfl, hb⟩
    rw [HKK.out]
    have K2 := Lib.hid (K1.out.step hb)
    have O2 := Lib.hid (O1.out.below hb)
    have V2 := Lib.hid (V1.out.below hb)
    clear hb x0 x1 K1 O1 V1
    cases hkb : hkB s o
    · have hrf : r = false := by
        rw [HRR.out]
        cases hx : ofTo s (vf (baL s l)) o o.length
        · rfl
        · rw [ofTo_hk hx] at hkb; cases hkb
      have HRF := Lib.hid hrf
      clear hkb hrf
      go_wp2_with fail
      go_ret
      exact ⟨ret_bool HRF.out.symm, K2.out.done⟩
    · have HKB := Lib.hid hkb
      clear hkb
      go_wp2_with fail
      go_loopw [9] (fun i wr => ∃ k : Nat, k ≤ OL ∧ i = .int .i64 k ∧ ofTo s (vf (baL s l)) o k = true ∧ Ks S0 s a c a' c' 50 w wr ∧ IntsAt wr S2 o ao co ∧ IntsAt wr (fun b => w.heap.size + 1 ≤ b) (baL s l) av cv) (fun i _ => OL - (intOf i).toNat)
      case atStart => exact ⟨0, by omega, rfl, ofTo_zero _ _ _, K2.out, O2.out, V2.out.weaken (fun b hb => by simpa using hb)⟩
      case round =>
        obtain ⟨k, hk, rfl, hall, hK, hO, hV⟩ := hrel
        have H3 := Lib.hid (And.intro hK (And.intro hO hV))
        have HA := Lib.hid hall
        obtain ⟨x0, x1⟩ := hK.box
        clear hall hK hO hV K2 O2 V2
        by_cases hlt : k < OL
        · have hlt2 : k < o.length := by have := HOL.out; omega
          obtain ⟨b, ob, rfl, hbl, _, hc⟩ := H3.out.2.1.get (Below.refl _ _) hlt2
          obtain ⟨key, hkey⟩ : ∃ key, key = o[k] := ⟨_, rfl⟩
          have hkr : 0 ≤ key ∧ key < s.m.length := by
            have h := HKB.out
            unfold hkB at h
            rw [List.all_eq_true] at h
            have h := h o[k] (List.getElem_mem _)
            rw [decide_eq_true_eq] at h
            rw [hkey]; exact h
          obtain ⟨kn, rfl⟩ : ∃ kn : Nat, key = kn := ⟨key.toNat, by omega⟩
          have hkn : kn < s.m.length := by omega
          rw [← hkey] at hc
          have HKEY := Lib.hid hkey
          have HL2 := Lib.hid hlt2
          have HSUC := Lib.hid (ofTo_succ s (vf (baL s l)) o hlt2)
          have HNO := Lib.hid (show ofOne s (vf (baL s l)) (o.take k) (kn : Int) = false → r = false from fun h => by
            rw [HRR.out]
            exact ofTo_false hlt2 (Nat.le_refl _) (by rw [← hkey]; exact h))
          have HTL := Lib.hid (show s.t.length = s.m.length from (Sh.ok_iff.1 (ok_of_ba HB.out)).2.1)
          have h10 : s.m.length ≤ 10 := (Sh.ok_iff.1 (ok_of_ba HB.out)).1
          clear hkey hkr
          obtain ⟨bm, om, ha, hbml, hcm⟩ := md_cell H3.out.1.2 hkn
          have HAA := Lib.hid ha
          clear ha
          obtain ⟨mk, hmk⟩ : ∃ mk, mk = s.mdI (kn : Int) := ⟨_, rfl⟩
          rw [← hmk] at hcm
          have HMK := Lib.hid hmk
          clear hmk
          obtain rfl := HAA.out
          have htake : (o.take k).length = k := by rw [List.length_take]; omega
          have HTK := Lib.hid htake
          clear htake
          cases mk
          · go_wp2_with fail
            go_ret
            exact ⟨ret_bool (HNO.out (by unfold ofOne; rw [← HMK.out]; rfl)).symm, H3.out.1.done⟩
          · obtain ⟨p, hp⟩ : ∃ p, p = decide ((kn : Int) ∈ o.take k) := ⟨_, rfl⟩
            have HP := Lib.hid hp
            clear hp
            have hhas : ∀ (n : Int) (w' : World), IntsAt w' S2 o (some ⟨b, ob, none⟩) co → Calls Try.prog 91 #[.slice (some ⟨b, ob, none⟩) k co, .int .i64 n] w' fun e w'' => e = .returned (.bool (decide (n ∈ o.take k))) ∧ w' = w'' := fun n w' h => by
              have h2 := has_any w' S2 (o.take k) (some ⟨b, ob, none⟩) co n (h.upto k)
              rw [HTK.out] at h2
              exact h2
            have HHAS := Lib.hid hhas
            clear hhas
            go_wp2_with fail
            refine (HHAS.out (kn : Int) wr H3.out.2.1).mono ?_
            rintro e w4 ⟨rfl, rfl⟩
            rw [← HP.out]
            cases p
            · have hkt : kn < s.t.length := by have := HTL.out; omega
              obtain ⟨b', o', a2, c2, rfl, hbl', hSb', e0, e1, e2, hat, _, _⟩ := H3.out.1.2.2.elem (Below.refl _ _) hkt
              have htk : s.t[kn] = s.tkI (kn : Int) := by unfold Sh.tkI; rw [Int.toNat_natCast]; exact (getD_len hkt).symm
              rw [htk] at hat e0 e1 e2
              have HAT := Lib.hid hat
              clear hat htk
              have hvk := tkI_ok HB.out (kn : Int)
              rw [Bool.and_eq_true] at hvk
              have hfn : (s.tkI (kn : Int)).fit = true ∧ (s.tkI (kn : Int)).nodes ≤ 15 := by simpa [T.ok] using hvk.1
              have HVK := Lib.hid (And.intro hvk.2 hfn)
              have hks := (kys_ok (tkI_ok HB.out (kn : Int)))
              obtain ⟨ks, hkss⟩ : ∃ ks, ks = (s.tkI (kn : Int)).kys (vf (baL s l)) := ⟨_, rfl⟩
              rw [← hkss] at hks
              have HKS := Lib.hid (And.intro hkss hks)
              clear hvk hfn hkss hks
              go_wp2_with fail
              refine (run_any (baL s l) HVK.out.1 (s.tkI (kn : Int)) HVK.out.2.1 (by have := HVK.out.2.2; omega) wr _ _ a2 av c2 cv HAT.out H3.out.2.2).mono ?_
              rintro e w5 ⟨vo, rfl, hrow, hb⟩
              rw [← HKS.out.1] at hrow
              obtain ⟨af, cf, rfl, hfe⟩ := hrow.at
              have H5 := Lib.hid (And.intro (H3.out.1.step hb) (And.intro (H3.out.2.1.below hb) (H3.out.2.2.below hb)))
              have HF := Lib.hid hfe
              clear hb hrow hfe x0 x1 e0 e1 e2 hc hcm HAT
              go_wp2_with fail
              refine (uses_any (vf (baL s l)) w5 _ ks af cf HF.out HKS.out.2.1 (by have := HKS.out.2.2; omega)).mono ?_
              rintro e w6 ⟨v, rfl, hrow, hb⟩
              obtain ⟨us, hus⟩ : ∃ us, us = usesL ks := ⟨_, rfl⟩
              rw [← hus] at hrow
              have hul : us.length ≤ 15 := by
                rw [hus]
                have := usesL_len ks
                have := HKS.out.2.2
                omega
              have hub : ∀ x ∈ us, 0 ≤ x ∧ x ≤ 9 := fun x hx => by
                rw [hus] at hx
                exact HKS.out.2.1 x (usesL_mem.1 hx)
              obtain ⟨au, cu, rfl, hiu⟩ := hrow.at (fun x hx => by have := hub x hx; unfold i64ok; omega)
              have hone : ofOne s (vf (baL s l)) (o.take k) (kn : Int) = (us.filter s.mdI).all (fun u => decide (u ∈ o.take k)) := by
                unfold ofOne
                rw [← HMK.out, ← HP.out, ← HKS.out.1, ← hus]
                rfl
              have HONE := Lib.hid hone
              have HUB := Lib.hid hub
              have H6 := Lib.hid (And.intro (H5.out.1.step hb) (And.intro (H5.out.2.1.below hb) (And.intro (H5.out.2.2.below hb) hiu)))
              obtain ⟨UL, hUL⟩ : ∃ n, n = us.length := ⟨_, rfl⟩
              have HUL := Lib.hid hUL
              rw [← hUL] at hul ⊢
              clear hb hrow hus hub hiu hone hUL H5 H3 HF
              go_wp2_with fail
              go_loopw [14] (fun i wq => ∃ q : Nat, q ≤ UL ∧ i = .int .i64 q ∧ (us.take q).all (fun u => !s.mdI u || decide (u ∈ o.take k)) = true ∧ Ks S0 s (some ⟨bm, om, none⟩) c (some ⟨b', o', none⟩) c' 50 w wq ∧ IntsAt wq S2 o (some ⟨b, ob, none⟩) co ∧ IntsAt wq (fun b => w.heap.size + 1 ≤ b) (baL s l) av cv ∧ IntsAt wq (fun b => w5.heap.size ≤ b) us au cu) (fun i _ => UL - (intOf i).toNat)
              case atStart => exact ⟨0, by omega, rfl, by simp, H6.out.1, H6.out.2.1, H6.out.2.2.1, H6.out.2.2.2⟩
              case round =>
                obtain ⟨q, hq, rfl, hqa, hK, hO, hV, hU⟩ := hrel
                have H7 := Lib.hid (And.intro hK (And.intro hO (And.intro hV hU)))
                have HQA := Lib.hid hqa
                obtain ⟨x0, x1⟩ := hK.box
                clear hqa hK hO hV hU H6
                by_cases hlq : q < UL
                · have hlq2 : q < us.length := by have := HUL.out; omega
                  obtain ⟨bu, ou, hau, hbul, _, hcu⟩ := H7.out.2.2.2.get (Below.refl _ _) hlq2
                  have HAU := Lib.hid hau
                  clear hau
                  obtain rfl := HAU.out
                  have hxb := HUB.out us[q] (List.getElem_mem _)
                  obtain ⟨x, hx⟩ : ∃ x : Nat, us[q] = (x : Int) := ⟨us[q].toNat, by omega⟩
                  rw [hx] at hcu hxb
                  have HX := Lib.hid hx
                  have HQS := Lib.hid (all_tk (p := fun u => !s.mdI u || decide (u ∈ o.take k)) hlq2)
                  clear hx
                  cases hxm : decide ((x : Int) < (s.m.length : Int))
                  · have hmx : s.mdI (x : Int) = false := by
                      cases hy : s.mdI (x : Int)
                      · rfl
                      · have := mdI_bd hy
                        rw [decide_eq_true this.2] at hxm; cases hxm
                    have hqa : (us.take (q + 1)).all (fun u => !s.mdI u || decide (u ∈ o.take k)) = true := by
                      rw [HQS.out, HQA.out, HX.out, hmx]; rfl
                    have HQ2 := Lib.hid hqa
                    have hx3 : ¬ x < s.m.length := by rw [decide_eq_false_iff_not] at hxm; omega
                    have hx4 : decide (x < s.m.length) = false := decide_eq_false hx3
                    clear hmx hqa
                    go_wp2_with fail
                    go_quiet (fail)
                    revert nq
                    intro n1
                    go_wp2_with fail
                    go_roundw
                    case rel => exact ⟨q + 1, by omega, by go_num, HQ2.out, H7.out.1.drewN _, H7.out.2.1.drewN _, H7.out.2.2.1.drewN _, H7.out.2.2.2.drewN _⟩
                    case measure => simp [intOf]; omega
                  · have hxm2 : x < s.m.length := by
                      rw [decide_eq_true_eq] at hxm; omega
                    have hx4 : decide (x < s.m.length) = true := decide_eq_true hxm2
                    have hkc : k ≤ co := by omega
                    have hkci : (k : Int) ≤ (co : Int) := by omega
                    obtain ⟨bx, ox, hax, hbxl, hcx⟩ := md_cell H7.out.1.2 hxm2
                    obtain ⟨rfl, rfl⟩ : bm = bx ∧ om = ox := by injection hax with hax; injection hax with h1 h2; exact ⟨h1, h2⟩
                    clear hax
                    obtain ⟨mx, hmx⟩ : ∃ mx, mx = s.mdI (x : Int) := ⟨_, rfl⟩
                    rw [← hmx] at hcx
                    have HMX := Lib.hid hmx
                    clear hmx
                    cases mx
                    · have hqa : (us.take (q + 1)).all (fun u => !s.mdI u || decide (u ∈ o.take k)) = true := by
                        rw [HQS.out, HQA.out, HX.out, ← HMX.out]; rfl
                      have HQ2 := Lib.hid hqa
                      clear hqa
                      go_wp2_with fail
                      go_quiet (fail)
                      revert nq
                      intro n1
                      go_wp2_with fail
                      go_roundw
                      case rel => exact ⟨q + 1, by omega, by go_num, HQ2.out, H7.out.1.drewN _, H7.out.2.1.drewN _, H7.out.2.2.1.drewN _, H7.out.2.2.2.drewN _⟩
                      case measure => simp [intOf]; omega
                    · obtain ⟨p2, hp2⟩ : ∃ p2, p2 = decide ((x : Int) ∈ o.take k) := ⟨_, rfl⟩
                      have HP2 := Lib.hid hp2
                      clear hp2
                      have hq : ∀ n, Calls Try.prog 91 #[.slice (some ⟨b, ob, none⟩) k co, .int .i64 (x : Int)] (wr.drewN n) fun e w' => e = .returned (.bool p2) ∧ w' = wr.drewN n := fun n => by
                        rw [HP2.out]
                        exact (HHAS.out (x : Int) _ (H7.out.2.1.drewN n)).mono fun e w' h => ⟨h.1, h.2.symm⟩
                      have HQQ := Lib.hid hq
                      clear hq
                      cases p2
                      · go_wp2_with fail
                        go_quiet ((go_at_call 91; exact Calls.quiet_of_same (HQQ.out _)))
                        revert nq
                        intro n1
                        go_wp2_with fail
                        go_ret
                        have hf : ofOne s (vf (baL s l)) (o.take k) (kn : Int) = false := by
                          rw [HONE.out]
                          cases hy : (us.filter s.mdI).all (fun u => decide (u ∈ o.take k))
                          · rfl
                          · rw [List.all_eq_true] at hy
                            have := hy (x : Int) (List.mem_filter.2 ⟨by rw [← HX.out]; exact List.getElem_mem _, HMX.out.symm⟩)
                            rw [← HP2.out] at this
                            cases this
                        exact ⟨ret_bool (HNO.out hf).symm, below_drewN H7.out.1.done _⟩
                      · have hqa : (us.take (q + 1)).all (fun u => !s.mdI u || decide (u ∈ o.take k)) = true := by
                          rw [HQS.out, HQA.out, HX.out, ← HMX.out, ← HP2.out]; rfl
                        have HQ2 := Lib.hid hqa
                        clear hqa
                        go_wp2_with fail
                        go_quiet ((go_at_call 91; exact Calls.quiet_of_same (HQQ.out _)))
                        revert nq
                        intro n1
                        go_wp2_with fail
                        go_roundw
                        case rel => exact ⟨q + 1, by omega, by go_num, HQ2.out, H7.out.1.drewN _, H7.out.2.1.drewN _, H7.out.2.2.1.drewN _, H7.out.2.2.2.drewN _⟩
                        case measure => simp [intOf]; omega
                · have hall : ofTo s (vf (baL s l)) o (k + 1) = true := by
                    have h := HQA.out
                    rw [List.take_of_length_le (by have := HUL.out; omega)] at h
                    rw [HSUC.out, HA.out, ← HKEY.out, HONE.out, Bool.true_and, List.all_eq_true]
                    intro u hu
                    rw [List.mem_filter] at hu
                    rw [List.all_eq_true] at h
                    have := h u hu.1
                    rw [hu.2] at this
                    simpa using this
                  have HALL := Lib.hid hall
                  clear hall
                  go_wp2_with fail
                  go_roundw
                  case rel => exact ⟨k + 1, by omega, by go_num, HALL.out, H7.out.1, H7.out.2.1, H7.out.2.2.1⟩
                  case measure => simp [intOf]; omega
            · go_wp2_with fail
              go_ret
              exact ⟨ret_bool (HNO.out (by unfold ofOne; rw [← HMK.out, ← HP.out]; rfl)).symm, H3.out.1.done⟩
        · have hall : r = true := by
            have := HA.out
            rw [HRR.out, ← HOL.out]
            obtain rfl : k = OL := by omega
            exact this
          have HALL := Lib.hid hall
          clear hall
          go_wp2_with fail
          go_ret
          exact ⟨ret_bool HALL.out.symm, H3.out.1.done⟩
end Go.Proofs.Ytmbgglmnbllpjaa
