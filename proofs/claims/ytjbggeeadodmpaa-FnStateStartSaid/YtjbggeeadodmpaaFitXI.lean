/- impl.StateFits (written by wip/tools/gen_fitx.py) -/
import Derived.Test.YtjbggeeadodmpaaFt1
import Derived.Test.YtjbggeeadodmpaaHonI
namespace Go.Proofs.Ytjbggeeadodmpaa
open Go.RowKit

theorem fitB_0 (s : Sh) (x : St) : fitB s x 0 = (decide (x.t.length = 0) && (!safeB s || cleanB s x)) := rfl
theorem fitB_1 (s : Sh) (x : St) : fitB s x 1 = (honest s x.t && traced s x) := rfl
theorem fitB_2 (s : Sh) (x : St) : fitB s x 2 = honest s x.t := rfl
theorem fitB_3 (s : Sh) (x : St) : fitB s x 3 = x.t.all (deepT s) := rfl
theorem fitB_n {s : Sh} {x : St} {way : Int} (h0 : way ≠ 0) (h1 : way ≠ 1) (h2 : way ≠ 2) (h3 : way ≠ 3) : fitB s x way = false := by
  unfold fitB; rw [if_neg h0, if_neg h1, if_neg h2, if_neg h3]
theorem tst {n : Nat} (h : n = 0) : ((((n : Int) == 0) = true ∧ decide ((n : Int) = 0) = true) ∧ decide (n = 0) = true) ∧ (n == 0) = true := by subst h; exact ⟨⟨⟨rfl, rfl⟩, rfl⟩, rfl⟩
theorem tsf {n : Nat} (h : ¬ n = 0) : ((((n : Int) == 0) = false ∧ decide ((n : Int) = 0) = false) ∧ decide (n = 0) = false) ∧ (n == 0) = false := by
  have h2 : ¬ (n : Int) = 0 := by omega
  refine ⟨⟨⟨?_, decide_eq_false h2⟩, decide_eq_false h⟩, ?_⟩
  · rw [eq_dec]; exact decide_eq_false h2
  · cases hx : (n == 0)
    · rfl
    · exact absurd (by simpa using hx) h
theorem wne {a b : Int} (h : a ≠ b) : (a == b) = false ∧ decide (a = b) = false := ⟨by rw [eq_dec]; exact decide_eq_false h, decide_eq_false h⟩

set_option maxRecDepth 100000 in
set_option maxHeartbeats 8000000 in
theorem implStateFits_any (s : Sh) (way : Int) (x : St) (w : World) (S S' : Nat → Prop) (a : Option Addr) (c : Nat) (a' : Option Addr) (c' : Nat) (a1 : Option Addr) (c1 : Nat) (a2 : Option Addr) (c2 : Nat) (a3 : Option Addr) (c3 : Nat) (a4 : Option Addr) (c4 : Nat) (h : ShAt w S s a c a' c') (hx : StAt w S' x a1 c1 a2 c2 a3 c3 a4 c4) :
    Calls Try.prog 26 #[.agg #[.slice a s.m.length c, .slice a' s.t.length c'], .int .i64 way, .agg #[.slice a1 x.v.length c1, .slice a2 x.b.length c2, .slice a3 x.i.length c3, .slice a4 x.t.length c4]] w fun e w' => e = .returned (.bool (stFits s x way)) ∧ Below w.heap.size w w' := by
  have hnl : s.m.length ≤ 9223372036854775807 := by have := h.1.1; have := h.1.2.1; omega
  obtain ⟨⟨hl1, hl2⟩, hl3, hl4⟩ := hx.lens
  obtain ⟨W, hW⟩ : ∃ W, W = (w.alloc (.cells #[.slice a s.m.length c, .slice a' s.t.length c'] 47)).alloc (.cells #[.slice a1 x.v.length c1, .slice a2 x.b.length c2, .slice a3 x.i.length c3, .slice a4 x.t.length c4] 50) := ⟨_, rfl⟩
  have HWW := Lib.hid hW
  have S0 := Lib.hid (show ShAt W S s a c a' c' by rw [hW]; exact (h.alloc _).alloc _)
  have X0 := Lib.hid (show StAt W S' x a1 c1 a2 c2 a3 c3 a4 c4 by rw [hW]; exact (hx.alloc _).alloc _)
  have B0 := Lib.hid (show Below w.heap.size w W by rw [hW]; exact ((Below.refl w.heap.size w).alloc (Nat.le_refl _) _).alloc (by simp) _)
  have P0 := Lib.hid (show Blk W w.heap.size 47 #[.slice a s.m.length c, .slice a' s.t.length c'] by rw [hW]; exact (Blk.new w 47 #[.slice a s.m.length c, .slice a' s.t.length c']).alloc _)
  have Q0 := Lib.hid (show Blk W (w.heap.size + 1) 50 #[.slice a1 x.v.length c1, .slice a2 x.b.length c2, .slice a3 x.i.length c3, .slice a4 x.t.length c4] by rw [hW]; have := Blk.new (w.alloc (.cells #[.slice a s.m.length c, .slice a' s.t.length c'] 47)) 50 #[.slice a1 x.v.length c1, .slice a2 x.b.length c2, .slice a3 x.i.length c3, .slice a4 x.t.length c4]; simpa using this)
  obtain ⟨p0, p1, -⟩ := P0.out.two
  obtain ⟨q0, q1, q2, q3, -⟩ := Q0.out.four
  rw [hW] at p0 p1 q0 q1 q2 q3
  obtain ⟨r, hr⟩ : ∃ r, r = stFits s x way := ⟨_, rfl⟩
  have HR := Lib.hid (show r = (stOk s x && fitB s x way) from hr)
  have HSO := Lib.hid (@stOk_of s x)
  rw [← hr]
  clear h hx hr hW
  go_enter Try.func26, Try.ntmps26
  go_wp2_with fail
  rw [← HWW.out]
  clear p0 p1 q0 q1 q2 q3
  refine (implStateOk_any s x W S S' a c a' c' a1 c1 a2 c2 a3 c3 a4 c4 S0.out X0.out).mono ?_
  rintro e w1 ⟨rfl, hb⟩
  have S1 := Lib.hid (S0.out.below hb)
  have X1 := Lib.hid (X0.out.below hb)
  have B1 := Lib.hid (B0.out.trans (hb.mono B0.out.size))
  have P1 := Lib.hid (P0.out.below hb P0.out.lt)
  have Q1 := Lib.hid (Q0.out.below hb Q0.out.lt)
  clear hb S0 X0 B0 P0 Q0
  cases hok : stOk s x
  · have HF := Lib.hid (show r = false by rw [HR.out, hok]; rfl)
    clear hok
    go_wp2_with fail
    go_ret
    exact ⟨ret_bool HF.out.symm, B1.out⟩
  obtain ⟨k1, k2, k3, k4⟩ := HSO.out hok
  have HS := Lib.hid k1
  have HFN := Lib.hid k2
  have HTO := Lib.hid k3
  have HMD := Lib.hid k4
  have HV := Lib.hid (show r = fitB s x way by rw [HR.out, hok]; rfl)
  clear hok k1 k2 k3 k4
  have hmf : ∀ (fn : Fn) (first cap : Array Value) (w : World), (Instr.makeFunc fn first cap).run Try.prog w = .ok (.func fn first cap) w := fun _ _ _ _ => rfl
  have S2 := Lib.hid (S1.out.alloc (.cells #[.slice a s.m.length c, .slice a' s.t.length c', .slice a1 x.v.length c1, .slice a2 x.b.length c2, .slice a3 x.i.length c3, .slice a4 x.t.length c4] 83))
  have X2 := Lib.hid (X1.out.alloc (.cells #[.slice a s.m.length c, .slice a' s.t.length c', .slice a1 x.v.length c1, .slice a2 x.b.length c2, .slice a3 x.i.length c3, .slice a4 x.t.length c4] 83))
  have B2 := Lib.hid (B1.out.alloc B1.out.size (.cells #[.slice a s.m.length c, .slice a' s.t.length c', .slice a1 x.v.length c1, .slice a2 x.b.length c2, .slice a3 x.i.length c3, .slice a4 x.t.length c4] 83))
  have K2 := Lib.hid (Blk.new w1 83 #[.slice a s.m.length c, .slice a' s.t.length c', .slice a1 x.v.length c1, .slice a2 x.b.length c2, .slice a3 x.i.length c3, .slice a4 x.t.length c4])
  have P2 := Lib.hid (P1.out.alloc (.cells #[.slice a s.m.length c, .slice a' s.t.length c', .slice a1 x.v.length c1, .slice a2 x.b.length c2, .slice a3 x.i.length c3, .slice a4 x.t.length c4] 83))
  have Q2 := Lib.hid (Q1.out.alloc (.cells #[.slice a s.m.length c, .slice a' s.t.length c', .slice a1 x.v.length c1, .slice a2 x.b.length c2, .slice a3 x.i.length c3, .slice a4 x.t.length c4] 83))
  obtain ⟨W2, hW2⟩ : ∃ W2, W2 = w1.alloc (.cells #[.slice a s.m.length c, .slice a' s.t.length c', .slice a1 x.v.length c1, .slice a2 x.b.length c2, .slice a3 x.i.length c3, .slice a4 x.t.length c4] 83) := ⟨_, rfl⟩
  have HW2 := Lib.hid hW2
  have HG := Lib.hid (show w1.heap.size < W2.heap.size by rw [hW2]; simp)
  rw [← hW2] at S2 X2 B2 K2 P2 Q2
  clear hW2
  by_cases hw0 : way = 0
  · subst hw0
    rw [fitB_0] at HV
    by_cases hl0 : x.t.length = 0
    · have HV2 := Lib.hid (show r = (!safeB s || cleanB s x) by rw [HV.out, decide_eq_true hl0]; rfl)
      obtain ⟨⟨⟨t1, t2⟩, t3⟩, t4⟩ := tst hl0
      clear hl0
      obtain ⟨p0, p1, -⟩ := P1.out.two
      obtain ⟨q0, q1, q2, q3, -⟩ := Q1.out.four
      have g0 := P2.out.two
      have g1 := Q2.out.four
      have g2 := K2.out.six
      rw [HW2.out] at g0 g1 g2
      obtain ⟨g00, g01, -⟩ := g0
      obtain ⟨g10, g11, g12, g13, -⟩ := g1
      obtain ⟨g20, g21, g22, g23, g24, g25⟩ := g2
      have hz1 := P1.out.lt
      have hz2 := Q1.out.lt
      go_wp2_with fail
      rw [← HW2.out]
      clear p0 p1 q0 q1 q2 q3 g00 g01 g10 g11 g12 g13 g20 g21 g22 g23 g24 g25 hz1 hz2
      clear t1 t2 t3 t4
      refine (implSafe_any s W2 S a c a' c' S2.out).mono ?_
      rintro e w3 ⟨rfl, hb⟩
      have S3 := Lib.hid (S2.out.below hb)
      have X3 := Lib.hid (X2.out.below hb)
      have B3 := Lib.hid (B2.out.trans (hb.mono B2.out.size))
      have P3 := Lib.hid (P2.out.below hb P2.out.lt)
      have Q3 := Lib.hid (Q2.out.below hb Q2.out.lt)
      have K3 := Lib.hid (K2.out.below hb K2.out.lt)
      clear hb
      cases hsf : safeB s
      · have HF := Lib.hid (show r = true by rw [HV2.out, hsf]; rfl)
        clear hsf
        go_wp2_with fail
        go_ret
        exact ⟨ret_bool HF.out.symm, B3.out⟩
      · have HL := Lib.hid (show r = cleanB s x by rw [HV2.out, hsf]; rfl)
        clear hsf
        obtain ⟨p0, p1, -⟩ := P3.out.two
        obtain ⟨q0, q1, q2, q3, -⟩ := Q3.out.four
        obtain ⟨m0, m1, m2, m3, m4, m5⟩ := K3.out.six
        go_wp2_with fail
        clear p0 p1 q0 q1 q2 q3 m0 m1 m2 m3 m4 m5
        refine (eachKey_any (f := 58) (p := clnK s x) s x w3 a c a' c' a1 c1 a2 c2 a3 c3 a4 c4 hnl (fun _ _ => rfl) (fun wr k hk hb => isNew_any s x k wr S S' a c a' c' a1 c1 a2 c2 a3 c3 a4 c4 (S3.out.below hb) (X3.out.below hb) hk HFN.out)).mono ?_
        rintro e w9 ⟨rfl, hb⟩
        have B9 := Lib.hid (B3.out.trans (hb.mono B3.out.size))
        clear hb
        obtain ⟨v, hv⟩ : ∃ v, v = (List.range s.m.length).all (clnK s x) := ⟨_, rfl⟩
        have HF := Lib.hid (show r = v by rw [HL.out, hv]; rfl)
        rw [← hv]
        clear hv
        go_wp2_with fail
        go_ret
        exact ⟨ret_bool HF.out.symm, B9.out⟩
    · have HF := Lib.hid (show r = false by rw [HV.out, decide_eq_false hl0]; rfl)
      obtain ⟨⟨⟨t1, t2⟩, t3⟩, t4⟩ := tsf hl0
      clear hl0
      obtain ⟨p0, p1, -⟩ := P1.out.two
      obtain ⟨q0, q1, q2, q3, -⟩ := Q1.out.four
      have g0 := P2.out.two
      have g1 := Q2.out.four
      have g2 := K2.out.six
      rw [HW2.out] at g0 g1 g2
      obtain ⟨g00, g01, -⟩ := g0
      obtain ⟨g10, g11, g12, g13, -⟩ := g1
      obtain ⟨g20, g21, g22, g23, g24, g25⟩ := g2
      have hz1 := P1.out.lt
      have hz2 := Q1.out.lt
      go_wp2_with fail
      go_ret
      rw [← HW2.out]
      exact ⟨ret_bool HF.out.symm, B2.out⟩
  obtain ⟨n0, n0'⟩ := wne hw0
  by_cases hw1 : way = 1
  · subst hw1
    rw [fitB_1] at HV
    obtain ⟨p0, p1, -⟩ := P1.out.two
    obtain ⟨q0, q1, q2, q3, -⟩ := Q1.out.four
    have g0 := P2.out.two
    have g1 := Q2.out.four
    have g2 := K2.out.six
    rw [HW2.out] at g0 g1 g2
    obtain ⟨g00, g01, -⟩ := g0
    obtain ⟨g10, g11, g12, g13, -⟩ := g1
    obtain ⟨g20, g21, g22, g23, g24, g25⟩ := g2
    have hz1 := P1.out.lt
    have hz2 := Q1.out.lt
    go_wp2_with fail
    rw [← HW2.out]
    clear p0 p1 q0 q1 q2 q3 g00 g01 g10 g11 g12 g13 g20 g21 g22 g23 g24 g25 hz1 hz2
    refine (implHonest_any s x.t W2 S S' a c a' c' a4 c4 S2.out X2.out.2.2.2).mono ?_
    rintro e w3 ⟨rfl, hb⟩
    have S3 := Lib.hid (S2.out.below hb)
    have X3 := Lib.hid (X2.out.below hb)
    have B3 := Lib.hid (B2.out.trans (hb.mono B2.out.size))
    have P3 := Lib.hid (P2.out.below hb P2.out.lt)
    have Q3 := Lib.hid (Q2.out.below hb Q2.out.lt)
    have K3 := Lib.hid (K2.out.below hb K2.out.lt)
    clear hb
    cases hh : honest s x.t
    · have HF := Lib.hid (show r = false by rw [HV.out, hh]; rfl)
      clear hh
      go_wp2_with fail
      go_ret
      exact ⟨ret_bool HF.out.symm, B3.out⟩
    · have HL := Lib.hid (show r = traced s x by rw [HV.out, hh]; rfl)
      clear hh
      obtain ⟨p0, p1, -⟩ := P3.out.two
      obtain ⟨q0, q1, q2, q3, -⟩ := Q3.out.four
      obtain ⟨m0, m1, m2, m3, m4, m5⟩ := K3.out.six
      go_wp2_with fail
      clear p0 p1 q0 q1 q2 q3 m0 m1 m2 m3 m4 m5
      refine (eachKey_any (f := 60) (p := trcK x) s x w3 a c a' c' a1 c1 a2 c2 a3 c3 a4 c4 hnl (fun _ _ => rfl) (fun wr k hk hb => isTraced_any s x k wr S' a c a' c' a1 c1 a2 c2 a3 c3 a4 c4 (X3.out.below hb) hk HFN.out HTO.out)).mono ?_
      rintro e w9 ⟨rfl, hb⟩
      have B9 := Lib.hid (B3.out.trans (hb.mono B3.out.size))
      clear hb
      obtain ⟨v, hv⟩ : ∃ v, v = (List.range s.m.length).all (trcK x) := ⟨_, rfl⟩
      have HF := Lib.hid (show r = v by rw [HL.out, hv]; rfl)
      rw [← hv]
      clear hv
      go_wp2_with fail
      go_ret
      exact ⟨ret_bool HF.out.symm, B9.out⟩
  obtain ⟨n1, n1'⟩ := wne hw1
  by_cases hw2 : way = 2
  · subst hw2
    rw [fitB_2] at HV
    have HL := Lib.hid HV.out
    obtain ⟨p0, p1, -⟩ := P1.out.two
    obtain ⟨q0, q1, q2, q3, -⟩ := Q1.out.four
    have g0 := P2.out.two
    have g1 := Q2.out.four
    have g2 := K2.out.six
    rw [HW2.out] at g0 g1 g2
    obtain ⟨g00, g01, -⟩ := g0
    obtain ⟨g10, g11, g12, g13, -⟩ := g1
    obtain ⟨g20, g21, g22, g23, g24, g25⟩ := g2
    have hz1 := P1.out.lt
    have hz2 := Q1.out.lt
    go_wp2_with fail
    rw [← HW2.out]
    clear p0 p1 q0 q1 q2 q3 g00 g01 g10 g11 g12 g13 g20 g21 g22 g23 g24 g25 hz1 hz2
    refine (implHonest_any s x.t W2 S S' a c a' c' a4 c4 S2.out X2.out.2.2.2).mono ?_
    rintro e w9 ⟨rfl, hb⟩
    have B9 := Lib.hid (B2.out.trans (hb.mono B2.out.size))
    clear hb
    obtain ⟨v, hv⟩ : ∃ v, v = honest s x.t := ⟨_, rfl⟩
    have HF := Lib.hid (show r = v by rw [HL.out, hv])
    rw [← hv]
    clear hv
    go_wp2_with fail
    go_ret
    exact ⟨ret_bool HF.out.symm, B9.out⟩
  obtain ⟨n2, n2'⟩ := wne hw2
  by_cases hw3 : way = 3
  · subst hw3
    rw [fitB_3] at HV
    have HL := Lib.hid HV.out
    obtain ⟨p0, p1, -⟩ := P1.out.two
    obtain ⟨q0, q1, q2, q3, -⟩ := Q1.out.four
    have g0 := P2.out.two
    have g1 := Q2.out.four
    have g2 := K2.out.six
    rw [HW2.out] at g0 g1 g2
    obtain ⟨g00, g01, -⟩ := g0
    obtain ⟨g10, g11, g12, g13, -⟩ := g1
    obtain ⟨g20, g21, g22, g23, g24, g25⟩ := g2
    have hz1 := P1.out.lt
    have hz2 := Q1.out.lt
    go_wp2_with fail
    rw [← HW2.out]
    clear p0 p1 q0 q1 q2 q3 g00 g01 g10 g11 g12 g13 g20 g21 g22 g23 g24 g25 hz1 hz2
    refine (eachTrace_any (f := 62) (p := deepT s) s x W2 S' a c a' c' a1 c1 a2 c2 a3 c3 a4 c4 X2.out.2.2.2 (fun _ _ => rfl) (fun wr t au cu ht hp hb => isByInputs_any s x t wr S S' a c a' c' a1 c1 a2 c2 a3 c3 a4 c4 au cu (S2.out.below hb) hp ((trsOk_mem HTO.out).2 t ht) HS.out)).mono ?_
    rintro e w9 ⟨rfl, hb⟩
    have B9 := Lib.hid (B2.out.trans (hb.mono B2.out.size))
    clear hb
    obtain ⟨v, hv⟩ : ∃ v, v = x.t.all (deepT s) := ⟨_, rfl⟩
    have HF := Lib.hid (show r = v by rw [HL.out, hv])
    rw [← hv]
    clear hv
    go_wp2_with fail
    go_ret
    exact ⟨ret_bool HF.out.symm, B9.out⟩
  obtain ⟨n3, n3'⟩ := wne hw3
  have HF := Lib.hid (show r = false by rw [HV.out, fitB_n hw0 hw1 hw2 hw3])
  clear hw0 hw1 hw2 hw3
  obtain ⟨p0, p1, -⟩ := P1.out.two
  obtain ⟨q0, q1, q2, q3, -⟩ := Q1.out.four
  have g0 := P2.out.two
  have g1 := Q2.out.four
  have g2 := K2.out.six
  rw [HW2.out] at g0 g1 g2
  obtain ⟨g00, g01, -⟩ := g0
  obtain ⟨g10, g11, g12, g13, -⟩ := g1
  obtain ⟨g20, g21, g22, g23, g24, g25⟩ := g2
  have hz1 := P1.out.lt
  have hz2 := Q1.out.lt
  go_wp2_with fail
  go_ret
  rw [← HW2.out]
  exact ⟨ret_bool HF.out.symm, B2.out⟩
end Go.Proofs.Ytjbggeeadodmpaa
