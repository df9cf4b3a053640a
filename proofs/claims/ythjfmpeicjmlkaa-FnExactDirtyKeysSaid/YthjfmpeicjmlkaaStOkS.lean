/- spec.StateOk (written by wip/tools/gen_stok.py) -/
import Derived.Test.YthjfmpeicjmlkaaKeptS
import Derived.Test.YthjfmpeicjmlkaaStOkI
import Derived.Test.YthjfmpeicjmlkaaTr2
import Derived.BigQuiet
namespace Go.Proofs.Ythjfmpeicjmlkaa
open Go.RowKit

set_option maxRecDepth 100000 in
set_option maxHeartbeats 8000000 in
theorem specStateOk_any (s : Sh) (x : St) (w : World) (S S' : Nat → Prop) (a : Option Addr) (c : Nat) (a' : Option Addr) (c' : Nat) (a1 : Option Addr) (c1 : Nat) (a2 : Option Addr) (c2 : Nat) (a3 : Option Addr) (c3 : Nat) (a4 : Option Addr) (c4 : Nat) (h : ShAt w S s a c a' c') (hx : StAt w S' x a1 c1 a2 c2 a3 c3 a4 c4) (hn : nodesL s.t ≤ 1048576) :
    Calls Try.prog 45 #[.agg #[.slice a s.m.length c, .slice a' s.t.length c'], .agg #[.slice a1 x.v.length c1, .slice a2 x.b.length c2, .slice a3 x.i.length c3, .slice a4 x.t.length c4]] w fun e w' => e = .returned (.bool (stOk s x)) ∧ Below w.heap.size w w' := by
  have hnl : s.m.length ≤ 9223372036854775807 := by have := h.1.1; have := h.1.2.1; omega
  obtain ⟨⟨hl1, hl2⟩, hl3, hl4⟩ := hx.lens
  obtain ⟨W, hW⟩ : ∃ W, W = (w.alloc (.cells #[.slice a s.m.length c, .slice a' s.t.length c'] 51)).alloc (.cells #[.slice a1 x.v.length c1, .slice a2 x.b.length c2, .slice a3 x.i.length c3, .slice a4 x.t.length c4] 54) := ⟨_, rfl⟩
  have HWW := Lib.hid hW
  have S0 := Lib.hid (show ShAt W S s a c a' c' by rw [hW]; exact (h.alloc _).alloc _)
  have X0 := Lib.hid (show StAt W S' x a1 c1 a2 c2 a3 c3 a4 c4 by rw [hW]; exact (hx.alloc _).alloc _)
  have B0 := Lib.hid (show Below w.heap.size w W by rw [hW]; exact ((Below.refl w.heap.size w).alloc (Nat.le_refl _) _).alloc (by simp) _)
  have P0 := Lib.hid (show Blk W w.heap.size 51 #[.slice a s.m.length c, .slice a' s.t.length c'] by rw [hW]; exact (Blk.new w 51 #[.slice a s.m.length c, .slice a' s.t.length c']).alloc _)
  have Q0 := Lib.hid (show Blk W (w.heap.size + 1) 54 #[.slice a1 x.v.length c1, .slice a2 x.b.length c2, .slice a3 x.i.length c3, .slice a4 x.t.length c4] by rw [hW]; have := Blk.new (w.alloc (.cells #[.slice a s.m.length c, .slice a' s.t.length c'] 51)) 54 #[.slice a1 x.v.length c1, .slice a2 x.b.length c2, .slice a3 x.i.length c3, .slice a4 x.t.length c4]; simpa using this)
  obtain ⟨p0, p1, -⟩ := P0.out.two
  obtain ⟨q0, q1, q2, q3, -⟩ := Q0.out.four
  rw [hW] at p0 p1 q0 q1 q2 q3
  obtain ⟨r, hr⟩ : ∃ r, r = stOk s x := ⟨_, rfl⟩
  have HR := Lib.hid (show r = (stA s x && (stL s x && ((List.range s.m.length).all (keepK s x) && stT s x))) from hr)
  have HA := Lib.hid (show stA s x = ((s.ok && (decide (x.i.length = s.m.length) && vok x.i)) && (vok x.v && trsOk x.t)) from rfl)
  have HL := Lib.hid (show stL s x = (decide (x.v.length = s.m.length) && decide (x.b.length = s.m.length)) from rfl)
  have HN := Lib.hid hn
  rw [← hr]
  clear h hx hr hW hn
  go_enter Try.func45, Try.ntmps45
  go_wp2_with fail
  rw [← HWW.out]
  clear p0 p1 q0 q1 q2 q3
  refine (specSheetOk_any s _ S a c a' c' S0.out HN.out).mono ?_
  rintro e w1 ⟨rfl, hb⟩
  have S1 := Lib.hid (S0.out.below hb)
  have X1 := Lib.hid (X0.out.below hb)
  have B1 := Lib.hid (B0.out.trans (hb.mono B0.out.size))
  have P1 := Lib.hid (P0.out.below hb P0.out.lt)
  have Q1 := Lib.hid (Q0.out.below hb Q0.out.lt)
  clear hb S0 X0 B0 P0 Q0
  cases hA1 : s.ok
  · have HF := Lib.hid (show r = false by rw [HR.out, HA.out, hA1]; rfl)
    clear hA1
    go_wp2_with fail
    go_ret
    exact ⟨ret_bool HF.out.symm, B1.out⟩
  have HA1 := Lib.hid hA1
  clear hA1
  by_cases hv : x.v.length = s.m.length
  case neg =>
    have HF := Lib.hid (show r = false by rw [HR.out, HL.out, decide_eq_false hv]; simp)
    have hnev : (((x.v.length : Nat) : Int) != ((s.m.length : Nat) : Int)) = true := by simp; omega
    clear hv
    obtain ⟨p0, p1, -⟩ := P1.out.two
    obtain ⟨q0, q1, q2, q3, -⟩ := Q1.out.four
    go_wp2_with fail
    go_ret
    exact ⟨ret_bool HF.out.symm, B1.out⟩
  by_cases hbl : x.b.length = s.m.length
  case neg =>
    have HF := Lib.hid (show r = false by rw [HR.out, HL.out, decide_eq_false hbl]; simp)
    have hnev : (((x.v.length : Nat) : Int) != ((s.m.length : Nat) : Int)) = false := by simp; omega
    have hneb : (((x.b.length : Nat) : Int) != ((s.m.length : Nat) : Int)) = true := by simp; omega
    clear hv hbl
    obtain ⟨p0, p1, -⟩ := P1.out.two
    obtain ⟨q0, q1, q2, q3, -⟩ := Q1.out.four
    go_wp2_with fail
    go_ret
    exact ⟨ret_bool HF.out.symm, B1.out⟩
  by_cases hil : x.i.length = s.m.length
  case neg =>
    have HF := Lib.hid (show r = false by rw [HR.out, HA.out, decide_eq_false hil]; simp)
    have hnev : (((x.v.length : Nat) : Int) != ((s.m.length : Nat) : Int)) = false := by simp; omega
    have hneb : (((x.b.length : Nat) : Int) != ((s.m.length : Nat) : Int)) = false := by simp; omega
    have hnei : (((x.i.length : Nat) : Int) != ((s.m.length : Nat) : Int)) = true := by simp; omega
    clear hv hbl hil
    obtain ⟨p0, p1, -⟩ := P1.out.two
    obtain ⟨q0, q1, q2, q3, -⟩ := Q1.out.four
    go_wp2_with fail
    go_ret
    exact ⟨ret_bool HF.out.symm, B1.out⟩
  have hnev : (((x.v.length : Nat) : Int) != ((s.m.length : Nat) : Int)) = false := by simp; omega
  have hneb : (((x.b.length : Nat) : Int) != ((s.m.length : Nat) : Int)) = false := by simp; omega
  have hnei : (((x.i.length : Nat) : Int) != ((s.m.length : Nat) : Int)) = false := by simp; omega
  have HLL := Lib.hid (show stL s x = true by rw [HL.out, decide_eq_true hv, decide_eq_true hbl]; rfl)
  have HFN := Lib.hid (show x.fitN s.m.length from ⟨⟨hv, hbl⟩, hil⟩)
  have HIL := Lib.hid (decide_eq_true hil)
  clear hv hbl hil
  obtain ⟨p0, p1, -⟩ := P1.out.two
  obtain ⟨q0, q1, q2, q3, -⟩ := Q1.out.four
  go_wp2_with fail
  clear p0 p1 q0 q1 q2 q3
  clear hnev hneb hnei
  refine (specVals_any _ S' x.v a1 c1 X1.out.1).mono ?_
  rintro e _ ⟨rfl, rfl⟩
  cases hA2 : vok x.v
  · have HF := Lib.hid (show r = false by rw [HR.out, HA.out, hA2]; simp)
    clear hA2
    go_wp2_with fail
    go_ret
    exact ⟨ret_bool HF.out.symm, B1.out⟩
  have HA2 := Lib.hid hA2
  clear hA2
  obtain ⟨p0, p1, -⟩ := P1.out.two
  obtain ⟨q0, q1, q2, q3, -⟩ := Q1.out.four
  go_wp2_with fail
  clear p0 p1 q0 q1 q2 q3
  refine (specVals_any _ S' x.i a3 c3 X1.out.2.2.1).mono ?_
  rintro e _ ⟨rfl, rfl⟩
  cases hA4 : vok x.i
  · have HF := Lib.hid (show r = false by rw [HR.out, HA.out, hA4]; simp)
    clear hA4
    go_wp2_with fail
    go_ret
    exact ⟨ret_bool HF.out.symm, B1.out⟩
  have HA4 := Lib.hid hA4
  clear hA4
  obtain ⟨p0, p1, -⟩ := P1.out.two
  obtain ⟨q0, q1, q2, q3, -⟩ := Q1.out.four
  go_wp2_with fail
  clear p0 p1 q0 q1 q2 q3
  refine (specTrsOk_any _ S' x.t a4 c4 X1.out.2.2.2).mono ?_
  rintro e w2 ⟨rfl, hb⟩
  have S2 := Lib.hid (S1.out.below hb)
  have X2 := Lib.hid (X1.out.below hb)
  have B2 := Lib.hid (B1.out.trans (hb.mono B1.out.size))
  have P2 := Lib.hid (P1.out.below hb P1.out.lt)
  have Q2 := Lib.hid (Q1.out.below hb Q1.out.lt)
  clear hb S1 X1 B1 P1 Q1
  cases hA3 : trsOk x.t
  · have HF := Lib.hid (show r = false by rw [HR.out, HA.out, hA3]; simp)
    clear hA3
    go_wp2_with fail
    go_ret
    exact ⟨ret_bool HF.out.symm, B2.out⟩
  have HV := Lib.hid (show r = ((List.range s.m.length).all (keepK s x) && stT s x) by rw [HR.out, HA.out, HA1.out, HA2.out, HA4.out, hA3, HLL.out, HIL.out]; rfl)
  have HTO := Lib.hid (trsOk_mem hA3).2
  clear hA3
  go_wp2_with fail
  go_loopw [6] (fun i wr => ∃ k : Nat, k ≤ s.m.length ∧ i = .int .i64 k ∧ (List.range k).all (keepK s x) = true ∧ Below w2.heap.size w2 wr) (fun i _ => s.m.length - (intOf i).toNat)
  case atStart => exact ⟨0, by omega, rfl, rfl, Below.refl _ _⟩
  case round =>
    obtain ⟨k, hk, rfl, hq, hb⟩ := hrel
    have HQ := Lib.hid hq
    have S3 := Lib.hid (S2.out.below hb)
    have X3 := Lib.hid (X2.out.below hb)
    have B3 := Lib.hid (B2.out.trans (hb.mono B2.out.size))
    have P3 := Lib.hid (P2.out.below hb P2.out.lt)
    have Q3 := Lib.hid (Q2.out.below hb Q2.out.lt)
    have HB := Lib.hid hb
    clear hq hb
    obtain ⟨p0, p1, -⟩ := P3.out.two
    obtain ⟨q0, q1, q2, q3, -⟩ := Q3.out.four
    by_cases hlt : k < s.m.length
    · obtain ⟨v, hv⟩ : ∃ v, v = keepK s x k := ⟨_, rfl⟩
      have HVK := Lib.hid hv
      have HLT := Lib.hid hlt
      have HCK := Lib.hid (l6Kept_any s x k wr S S' a c a' c' a1 c1 a2 c2 a3 c3 a4 c4 S3.out X3.out hlt HFN.out)
      rw [← hv] at HCK
      clear hv
      go_wp2_with fail
      refine HCK.out.mono ?_
      rintro e w4 ⟨rfl, hb⟩
      have HB4 := Lib.hid (HB.out.trans (hb.mono HB.out.size))
      have B4 := Lib.hid (B3.out.trans (hb.mono B3.out.size))
      clear hb p0 p1 q0 q1 q2 q3
      cases v
      · have HF := Lib.hid (show r = false by rw [HV.out, all_rng_false HLT.out HVK.out.symm]; rfl)
        go_wp2_with fail
        go_ret
        exact ⟨ret_bool HF.out.symm, B4.out⟩
      · go_wp2_with fail
        go_roundw
        case rel => exact ⟨k + 1, by omega, by go_num, by rw [all_rng, HQ.out, ← HVK.out]; rfl, HB4.out⟩
        case measure => simp [intOf]; omega
    · have HV2 := Lib.hid (show r = x.t.all (fun t => s.mdI t.k) by rw [HV.out, show s.m.length = k by omega, HQ.out]; rfl)
      rename World => w3
      go_wp2_with fail
      clear p0 p1 q0 q1 q2 q3
      go_loopw [7] (fun i wr => ∃ m : Nat, m ≤ x.t.length ∧ i = .int .i64 m ∧ (x.t.take m).all (fun t => s.mdI t.k) = true ∧ Below w3.heap.size w3 wr) (fun i _ => x.t.length - (intOf i).toNat)
      case atStart => exact ⟨0, by omega, rfl, rfl, Below.refl _ _⟩
      case round =>
        obtain ⟨m, hm, rfl, hq, hb⟩ := hrel
        have HQ2 := Lib.hid hq
        have S4 := Lib.hid (S3.out.below hb)
        have X4 := Lib.hid (X3.out.below hb)
        have B4 := Lib.hid (B3.out.trans (hb.mono B3.out.size))
        have P4 := Lib.hid (P3.out.below hb P3.out.lt)
        have Q4 := Lib.hid (Q3.out.below hb Q3.out.lt)
        have HB2 := Lib.hid hb
        clear hq hb
        by_cases hlt2 : m < x.t.length
        · obtain ⟨b, o, at_, ct, hta, hbl, _, e0, e1, e2, _, _, _⟩ := X4.out.2.2.2.get (Below.refl _ _) hlt2
          subst hta
          have HQS := Lib.hid (all_snocp (fun t => s.mdI t.k) x.t m hlt2)
          have HQF := Lib.hid (all_falsep (fun t => s.mdI t.k) x.t m hlt2)
          have htok := HTO.out x.t[m] (List.getElem_mem hlt2)
          obtain ⟨t, ht⟩ : ∃ t, t = x.t[m] := ⟨_, rfl⟩
          rw [← ht] at e0 HQS HQF htok
          have hkb := Tr.ok_k htok
          obtain ⟨kn, hkn⟩ : ∃ kn : Nat, t.k = kn := ⟨t.k.toNat, by omega⟩
          rw [hkn] at e0 HQS HQF
          have hk0 : (0 : Int) ≤ kn := by omega
          obtain ⟨p0, p1, -⟩ := P4.out.two
          obtain ⟨q0, q1, q2, q3, -⟩ := Q4.out.four
          clear ht htok hkb hkn e1 e2
          by_cases hkl : kn < s.m.length
          · have hge : decide (s.m.length ≤ kn) = false := decide_eq_false (by omega)
            have hki : (kn : Int) < s.m.length := by omega
            obtain ⟨bm, om, hma, hbm, hcm⟩ := md_cell S4.out hkl
            subst hma
            obtain ⟨v, hv⟩ : ∃ v, v = s.mdI (kn : Int) := ⟨_, rfl⟩
            rw [← hv] at hcm HQS HQF
            clear hv
            cases v
            · have HF := Lib.hid (show r = false by rw [HV2.out, HQF.out rfl])
              go_wp2_with fail
              go_quiet (fail)
              go_wp2_with fail
              go_ret
              exact ⟨ret_bool HF.out.symm, below_drewN B4.out _⟩
            · go_wp2_with fail
              go_quiet (fail)
              go_wp2_with fail
              go_roundw
              case rel => exact ⟨m + 1, by omega, by go_num, by rw [HQS.out, HQ2.out]; rfl, below_drewN HB2.out _⟩
              case measure => simp [intOf]; omega
          · have hge : decide (s.m.length ≤ kn) = true := decide_eq_true (by omega)
            have hmd : s.mdI (kn : Int) = false := by
              cases hx : s.mdI (kn : Int)
              · rfl
              · have := mdI_bd hx; omega
            have HF := Lib.hid (show r = false by rw [HV2.out, HQF.out hmd])
            clear hmd
            go_wp2_with fail
            go_quiet (fail)
            go_wp2_with fail
            go_ret
            exact ⟨ret_bool HF.out.symm, below_drewN B4.out _⟩
        · have HF := Lib.hid (show r = true by have := HQ2.out; rw [List.take_of_length_le (by omega)] at this; rw [HV2.out, this])
          obtain ⟨p0, p1, -⟩ := P4.out.two
          obtain ⟨q0, q1, q2, q3, -⟩ := Q4.out.four
          go_wp2_with fail
          go_ret
          exact ⟨ret_bool HF.out.symm, B4.out⟩
end Go.Proofs.Ythjfmpeicjmlkaa
