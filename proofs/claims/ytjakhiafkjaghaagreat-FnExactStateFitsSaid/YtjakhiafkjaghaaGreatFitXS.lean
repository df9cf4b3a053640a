/- spec.StateFits (written by wip/tools/gen_fitx.py) -/
import Derived.Test.YtjakhiafkjaghaaGreatFitXD
namespace Go.Proofs.YtjakhiafkjaghaaGreat
open Go.RowKit

set_option maxRecDepth 100000 in
set_option maxHeartbeats 8000000 in
theorem specStateFits_any (s : Sh) (way : Int) (x : St) (w : World) (S S' : Nat → Prop) (a : Option Addr) (c : Nat) (a' : Option Addr) (c' : Nat) (a1 : Option Addr) (c1 : Nat) (a2 : Option Addr) (c2 : Nat) (a3 : Option Addr) (c3 : Nat) (a4 : Option Addr) (c4 : Nat) (h : ShAt w S s a c a' c') (hx : StAt w S' x a1 c1 a2 c2 a3 c3 a4 c4) (hns : nodesL s.t ≤ 1048576) :
    Calls Tryz.prog 6 #[.agg #[.slice a s.m.length c, .slice a' s.t.length c'], .int .i64 way, .agg #[.slice a1 x.v.length c1, .slice a2 x.b.length c2, .slice a3 x.i.length c3, .slice a4 x.t.length c4]] w fun e w' => e = .returned (.bool (stFits s x way)) ∧ Below w.heap.size w w' := by
  obtain ⟨⟨hl1, hl2⟩, hl3, hl4⟩ := hx.lens
  obtain ⟨W, hW⟩ : ∃ W, W = (w.alloc (.cells #[.slice a s.m.length c, .slice a' s.t.length c'] 35)).alloc (.cells #[.slice a1 x.v.length c1, .slice a2 x.b.length c2, .slice a3 x.i.length c3, .slice a4 x.t.length c4] 39) := ⟨_, rfl⟩
  have HWW := Lib.hid hW
  have S0 := Lib.hid (show ShAt W S s a c a' c' by rw [hW]; exact (h.alloc _).alloc _)
  have X0 := Lib.hid (show StAt W S' x a1 c1 a2 c2 a3 c3 a4 c4 by rw [hW]; exact (hx.alloc _).alloc _)
  have B0 := Lib.hid (show Below w.heap.size w W by rw [hW]; exact ((Below.refl w.heap.size w).alloc (Nat.le_refl _) _).alloc (by simp) _)
  have P0 := Lib.hid (show Blk W w.heap.size 35 #[.slice a s.m.length c, .slice a' s.t.length c'] by rw [hW]; exact (Blk.new w 35 #[.slice a s.m.length c, .slice a' s.t.length c']).alloc _)
  have Q0 := Lib.hid (show Blk W (w.heap.size + 1) 39 #[.slice a1 x.v.length c1, .slice a2 x.b.length c2, .slice a3 x.i.length c3, .slice a4 x.t.length c4] by rw [hW]; have := Blk.new (w.alloc (.cells #[.slice a s.m.length c, .slice a' s.t.length c'] 35)) 39 #[.slice a1 x.v.length c1, .slice a2 x.b.length c2, .slice a3 x.i.length c3, .slice a4 x.t.length c4]; simpa using this)
  obtain ⟨p0, p1, -⟩ := P0.out.two
  obtain ⟨q0, q1, q2, q3, -⟩ := Q0.out.four
  rw [hW] at p0 p1 q0 q1 q2 q3
  obtain ⟨r, hr⟩ : ∃ r, r = stFits s x way := ⟨_, rfl⟩
  have HR := Lib.hid (show r = (stOk s x && fitB s x way) from hr)
  have HSO := Lib.hid (@stOk_of s x)
  have HNS := Lib.hid hns
  rw [← hr]
  clear h hx hr hW hns
  go_enter Tryz.func6, Tryz.ntmps6
  go_wp2_with fail
  rw [← HWW.out]
  clear p0 p1 q0 q1 q2 q3
  refine (specStateOk_any s x W S S' a c a' c' a1 c1 a2 c2 a3 c3 a4 c4 S0.out X0.out HNS.out).mono ?_
  rintro e w1 ⟨rfl, hb⟩
  have S1 := Lib.hid (S0.out.below hb)
  have X1 := Lib.hid (X0.out.below hb)
  have B1 := Lib.hid (B0.out.trans (hb.mono B0.out.size))
  have P1 := Lib.hid (P0.out.below hb P0.out.lt)
  have Q1 := Lib.hid (Q0.out.below hb Q0.out.lt)
  clear hb
  cases hok : stOk s x
  · have HF := Lib.hid (show r = false by rw [HR.out, hok]; rfl)
    clear hok
    go_wp2_with fail
    go_ret
    exact ⟨ret_bool HF.out.symm, B1.out⟩
  obtain ⟨k1, k2, k3, k4⟩ := HSO.out hok
  have HS := Lib.hid k1
  have HFN := Lib.hid k2
  have HTO := Lib.hid k3
  have HTR := Lib.hid (traced_eq k4)
  have HV := Lib.hid (show r = fitB s x way by rw [HR.out, hok]; rfl)
  clear hok k1 k2 k3 k4
  by_cases hw0 : way = 0
  · subst hw0
    rw [fitB_0] at HV
    by_cases hl0 : x.t.length = 0
    · have HV2 := Lib.hid (show r = (!safeB s || cleanB s x) by rw [HV.out, decide_eq_true hl0]; rfl)
      obtain ⟨⟨⟨t1, t2⟩, t3⟩, t4⟩ := tst hl0
      clear hl0
      obtain ⟨p0, p1, -⟩ := P1.out.two
      obtain ⟨q0, q1, q2, q3, -⟩ := Q1.out.four
      go_wp2_with fail
      clear t1 t2 t3 t4
      clear p0 p1 q0 q1 q2 q3
      refine (specSafe_any s w1 S a c a' c' S1.out HNS.out).mono ?_
      rintro e w3 ⟨rfl, hb⟩
      have S3 := Lib.hid (S1.out.below hb)
      have X3 := Lib.hid (X1.out.below hb)
      have B3 := Lib.hid (B1.out.trans (hb.mono B1.out.size))
      have P3 := Lib.hid (P1.out.below hb P1.out.lt)
      have Q3 := Lib.hid (Q1.out.below hb Q1.out.lt)
      clear hb
      cases hsf : safeB s
      · have HF := Lib.hid (show r = true by rw [HV2.out, hsf]; rfl)
        clear hsf
        go_wp2_with fail
        go_ret
        exact ⟨ret_bool HF.out.symm, B3.out⟩
      · have HL := Lib.hid (show r = cleanB s x by rw [HV2.out, hsf]; rfl)
        clear hsf
        obtain ⟨p0, p1, -⟩ := P3.out.two
        obtain ⟨q0, q1, q2, q3, -⟩ := Q3.out.four
        go_wp2_with fail
        clear p0 p1 q0 q1 q2 q3
        refine (l6Clean_any s x w3 S S' a c a' c' a1 c1 a2 c2 a3 c3 a4 c4 S3.out X3.out HFN.out HNS.out).mono ?_
        rintro e w9 ⟨rfl, hb⟩
        have B9 := Lib.hid (B3.out.trans (hb.mono B3.out.size))
        clear hb
        obtain ⟨v, hv⟩ : ∃ v, v = cleanB s x := ⟨_, rfl⟩
        have HF := Lib.hid (show r = v by rw [HL.out, hv])
        rw [← hv]
        clear hv
        go_wp2_with fail
        go_ret
        exact ⟨ret_bool HF.out.symm, B9.out⟩
    · have HF := Lib.hid (show r = false by rw [HV.out, decide_eq_false hl0]; rfl)
      obtain ⟨⟨⟨t1, t2⟩, t3⟩, t4⟩ := tsf hl0
      clear hl0
      obtain ⟨p0, p1, -⟩ := P1.out.two
      obtain ⟨q0, q1, q2, q3, -⟩ := Q1.out.four
      go_wp2_with fail
      go_ret
      exact ⟨ret_bool HF.out.symm, B1.out⟩
  obtain ⟨n0, n0'⟩ := wne hw0
  by_cases hw1 : way = 1
  · subst hw1
    rw [fitB_1, HTR.out] at HV
    obtain ⟨p0, p1, -⟩ := P1.out.two
    obtain ⟨q0, q1, q2, q3, -⟩ := Q1.out.four
    go_wp2_with fail
    clear p0 p1 q0 q1 q2 q3
    refine (l6Verified_any x w1 S' a1 c1 a2 c2 a3 c3 a4 c4 X1.out s.m.length HFN.out HTO.out).mono ?_
    rintro e w3 ⟨rfl, hb⟩
    have S3 := Lib.hid (S1.out.below hb)
    have X3 := Lib.hid (X1.out.below hb)
    have B3 := Lib.hid (B1.out.trans (hb.mono B1.out.size))
    have P3 := Lib.hid (P1.out.below hb P1.out.lt)
    have Q3 := Lib.hid (Q1.out.below hb Q1.out.lt)
    clear hb
    cases hh : verB x s.m.length
    · have HF := Lib.hid (show r = false by rw [HV.out, hh]; simp)
      clear hh
      go_wp2_with fail
      go_ret
      exact ⟨ret_bool HF.out.symm, B3.out⟩
    · have HL := Lib.hid (show r = honest s x.t by rw [HV.out, hh]; simp)
      clear hh
      obtain ⟨p0, p1, -⟩ := P3.out.two
      obtain ⟨q0, q1, q2, q3, -⟩ := Q3.out.four
      go_wp2_with fail
      clear p0 p1 q0 q1 q2 q3
      refine (specHonest_any s x.t w3 S S' a c a' c' a4 c4 S3.out X3.out.2.2.2 HNS.out).mono ?_
      rintro e w9 ⟨rfl, hb⟩
      have B9 := Lib.hid (B3.out.trans (hb.mono B3.out.size))
      clear hb
      obtain ⟨v, hv⟩ : ∃ v, v = honest s x.t := ⟨_, rfl⟩
      have HF := Lib.hid (show r = v by rw [HL.out, hv])
      rw [← hv]
      clear hv
      go_wp2_with fail
      go_ret
      exact ⟨ret_bool HF.out.symm, B9.out⟩
  obtain ⟨n1, n1'⟩ := wne hw1
  by_cases hw2 : way = 2
  · subst hw2
    rw [fitB_2] at HV
    have HL := Lib.hid HV.out
    obtain ⟨p0, p1, -⟩ := P1.out.two
    obtain ⟨q0, q1, q2, q3, -⟩ := Q1.out.four
    go_wp2_with fail
    clear p0 p1 q0 q1 q2 q3
    refine (specHonest_any s x.t w1 S S' a c a' c' a4 c4 S1.out X1.out.2.2.2 HNS.out).mono ?_
    rintro e w9 ⟨rfl, hb⟩
    have B9 := Lib.hid (B1.out.trans (hb.mono B1.out.size))
    clear hb
    obtain ⟨v, hv⟩ : ∃ v, v = honest s x.t := ⟨_, rfl⟩
    have HF := Lib.hid (show r = v by rw [HL.out, hv])
    rw [← hv]
    clear hv
    go_wp2_with fail
    go_ret
    exact ⟨ret_bool HF.out.symm, B9.out⟩
  obtain ⟨n2, n2'⟩ := wne hw2
  by_cases hw3 : way = 3
  · subst hw3
    rw [fitB_3] at HV
    have HL := Lib.hid HV.out
    obtain ⟨p0, p1, -⟩ := P1.out.two
    obtain ⟨q0, q1, q2, q3, -⟩ := Q1.out.four
    go_wp2_with fail
    clear p0 p1 q0 q1 q2 q3
    go_loopw [7] (fun i wr => ∃ k : Nat, k ≤ x.t.length ∧ i = .int .i64 k ∧ (x.t.take k).all (deepT s) = true ∧ Below w1.heap.size w1 wr) (fun i _ => x.t.length - (intOf i).toNat)
    case atStart => exact ⟨0, by omega, rfl, rfl, Below.refl _ _⟩
    case round =>
      obtain ⟨k, hk, rfl, hq, hb⟩ := hrel
      have HQ := Lib.hid hq
      have HB := Lib.hid hb
      clear hq
      have S2 := Lib.hid (S1.out.below hb)
      have X2 := Lib.hid (X1.out.below hb)
      have B2 := Lib.hid (B1.out.trans (hb.mono B1.out.size))
      have P2 := Lib.hid (P1.out.below hb P1.out.lt)
      have Q2 := Lib.hid (Q1.out.below hb Q1.out.lt)
      clear hb
      by_cases hlt : k < x.t.length
      · obtain ⟨b, o, at_, ct, hta, hbl, _, e0, e1, e2, hs, _, _⟩ := X2.out.2.2.2.get (Below.refl _ _) hlt
        subst hta
        have HQS := Lib.hid (all_snocp (deepT s) x.t k hlt)
        have HQF := Lib.hid (all_falsep (deepT s) x.t k hlt)
        have HTK := Lib.hid ((trsOk_mem HTO.out).2 x.t[k] (List.getElem_mem hlt))
        obtain ⟨t, ht⟩ : ∃ t, t = x.t[k] := ⟨_, rfl⟩
        rw [← ht] at e0 e1 e2 hs HQS HQF HTK
        have HSS := Lib.hid hs
        have hki : (k : Int) < x.t.length := by omega
        have hk0 : (0 : Int) ≤ k := by omega
        have HCC := Lib.hid (show ∀ w' : World, Below wr.heap.size wr w' → (w'.cell? ⟨w.heap.size, 0, none⟩ = some (.slice a s.m.length c) ∧ w'.cell? ⟨w.heap.size, 1, none⟩ = some (.slice a' s.t.length c') ∧ w'.cell? ⟨w.heap.size + 1, 3, none⟩ = some (.slice (some ⟨b, o, none⟩) x.t.length c4) ∧ w'.cell? ⟨b, o + k * 3, none⟩ = some (.int .i64 t.k) ∧ w'.cell? ⟨b, o + k * 3 + 1, none⟩ = some (.slice at_ t.u.length ct) ∧ w'.cell? ⟨b, o + k * 3 + 2, none⟩ = some (.int .i64 t.v)) from fun w' hb =>
          ⟨(P2.out.below hb P2.out.lt).two.1, (P2.out.below hb P2.out.lt).two.2.1, (Q2.out.below hb Q2.out.lt).four.2.2.2.1, (hb.cell (p := ⟨b, o + k * 3, none⟩) hbl).trans e0, (hb.cell (p := ⟨b, o + k * 3 + 1, none⟩) hbl).trans e1, (hb.cell (p := ⟨b, o + k * 3 + 2, none⟩) hbl).trans e2⟩)
        obtain ⟨v, hv⟩ : ∃ v, v = deepT s t := ⟨_, rfl⟩
        have HVV := Lib.hid hv
        obtain ⟨p0, p1, -⟩ := P2.out.two
        obtain ⟨q0, q1, q2, q3, -⟩ := Q2.out.four
        obtain ⟨x0, x1, x2, x3, x4, x5⟩ := HCC.out wr.drew (Below.refl _ _).drew
        clear hv ht hs e0 e1 e2 hbl
        go_wp2_with fail
        go_region_held3 (fun w' => w'.cell? ⟨w.heap.size, 0, none⟩ = some (.slice a s.m.length c) ∧ w'.cell? ⟨w.heap.size, 1, none⟩ = some (.slice a' s.t.length c') ∧ w'.cell? ⟨w.heap.size + 1, 3, none⟩ = some (.slice (some ⟨b, o, none⟩) x.t.length c4) ∧ w'.cell? ⟨b, o + k * 3, none⟩ = some (.int .i64 t.k) ∧ w'.cell? ⟨b, o + k * 3 + 1, none⟩ = some (.slice at_ t.u.length ct) ∧ w'.cell? ⟨b, o + k * 3 + 2, none⟩ = some (.int .i64 t.v)) (first | exact ⟨x0, x1, x2, x3, x4, x5⟩ | exact ⟨z0, z1, z2, z3, z4, z5⟩ | go_keep) (first | (go_at_call 21; refine (l6Deep_any s t wr.drew S S' a c a' c' at_ ct S2.out.drew HSS.out.drew HTK.out HS.out HNS.out).mono ?_; rw [← HVV.out]; rintro e w5 ⟨rfl, hb⟩; obtain ⟨z0, z1, z2, z3, z4, z5⟩ := HCC.out w5 ((Below.refl _ _).drew.trans hb)))
        have HB3 := Lib.hid (HB.out.drew.trans (hb.mono HB.out.size))
        have B3 := Lib.hid (B2.out.drew.trans (hb.mono B2.out.size))
        clear hb p0 p1 q0 q1 q2 q3 x0 x1 x2 x3 x4 x5 z0 z1 z2 z3 z4 z5
        cases v
        · have HF := Lib.hid (show r = false by rw [HL.out]; exact HQF.out HVV.out.symm)
          go_wp2_with fail
          go_ret
          exact ⟨ret_bool HF.out.symm, B3.out⟩
        · go_wp2_with fail
          go_roundw
          case rel => exact ⟨k + 1, by omega, by go_num, by rw [HQS.out, HQ.out, ← HVV.out]; rfl, HB3.out⟩
          case measure => simp [intOf]; omega
      · have HF := Lib.hid (show r = true by have := HQ.out; rw [List.take_of_length_le (by omega)] at this; rw [HL.out, this])
        obtain ⟨p0, p1, -⟩ := P2.out.two
        obtain ⟨q0, q1, q2, q3, -⟩ := Q2.out.four
        go_wp2_with fail
        go_ret
        exact ⟨ret_bool HF.out.symm, B2.out⟩
  obtain ⟨n3, n3'⟩ := wne hw3
  have HF := Lib.hid (show r = false by rw [HV.out, fitB_n hw0 hw1 hw2 hw3])
  clear hw0 hw1 hw2 hw3
  obtain ⟨p0, p1, -⟩ := P1.out.two
  obtain ⟨q0, q1, q2, q3, -⟩ := Q1.out.four
  go_wp2_with fail
  go_ret
  exact ⟨ret_bool HF.out.symm, B1.out⟩
end Go.Proofs.YtjakhiafkjaghaaGreat
