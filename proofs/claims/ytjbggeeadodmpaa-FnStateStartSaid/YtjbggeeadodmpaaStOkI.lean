/- impl.StateOk (written by wip/tools/gen_stok.py) -/
import Derived.Test.YtjbggeeadodmpaaKept
import Derived.Test.YtjbggeeadodmpaaShOkS
namespace Go.Proofs.Ytjbggeeadodmpaa
open Go.RowKit

theorem stA_of {s : Sh} {x : St} (h : stA s x = true) : s.ok = true ∧ x.i.length = s.m.length ∧ vok x.i = true ∧ vok x.v = true ∧ trsOk x.t = true := by
  unfold stA at h
  rw [Bool.and_eq_true, Bool.and_eq_true] at h
  obtain ⟨h1, h2, h3⟩ := h
  obtain ⟨h4, h5, h6⟩ := inOk_of h1
  exact ⟨h4, h5, h6, h2, h3⟩

set_option maxRecDepth 100000 in
set_option maxHeartbeats 4000000 in
theorem implStateOk_any (s : Sh) (x : St) (w : World) (S S' : Nat → Prop) (a : Option Addr) (c : Nat) (a' : Option Addr) (c' : Nat) (a1 : Option Addr) (c1 : Nat) (a2 : Option Addr) (c2 : Nat) (a3 : Option Addr) (c3 : Nat) (a4 : Option Addr) (c4 : Nat) (h : ShAt w S s a c a' c') (hx : StAt w S' x a1 c1 a2 c2 a3 c3 a4 c4) :
    Calls Try.prog 55 #[.agg #[.slice a s.m.length c, .slice a' s.t.length c'], .agg #[.slice a1 x.v.length c1, .slice a2 x.b.length c2, .slice a3 x.i.length c3, .slice a4 x.t.length c4]] w fun e w' => e = .returned (.bool (stOk s x)) ∧ Below w.heap.size w w' := by
  have hnl : s.m.length ≤ 9223372036854775807 := by have := h.1.1; have := h.1.2.1; omega
  obtain ⟨⟨hl1, hl2⟩, hl3, hl4⟩ := hx.lens
  obtain ⟨W, hW⟩ : ∃ W, W = (w.alloc (.cells #[.slice a s.m.length c, .slice a' s.t.length c'] 47)).alloc (.cells #[.slice a1 x.v.length c1, .slice a2 x.b.length c2, .slice a3 x.i.length c3, .slice a4 x.t.length c4] 50) := ⟨_, rfl⟩
  have HWW := Lib.hid hW
  have S0 := Lib.hid (show ShAt W S s a c a' c' by rw [hW]; exact (h.alloc _).alloc _)
  have X0 := Lib.hid (show StAt W S' x a1 c1 a2 c2 a3 c3 a4 c4 by rw [hW]; exact (hx.alloc _).alloc _)
  have B0 := Lib.hid (show Below w.heap.size w W by rw [hW]; exact ((Below.refl w.heap.size w).alloc (Nat.le_refl _) _).alloc (by simp) _)
  have P0 := Lib.hid (show Blk W w.heap.size 47 #[.slice a s.m.length c, .slice a' s.t.length c'] by rw [hW]; exact (Blk.new w 47 #[.slice a s.m.length c, .slice a' s.t.length c']).alloc _)
  have Q0 := Lib.hid (show Blk W (w.heap.size + 1) 50 #[.slice a1 x.v.length c1, .slice a2 x.b.length c2, .slice a3 x.i.length c3, .slice a4 x.t.length c4] by rw [hW]; have := Blk.new (w.alloc (.cells #[.slice a s.m.length c, .slice a' s.t.length c'] 47)) 50 #[.slice a1 x.v.length c1, .slice a2 x.b.length c2, .slice a3 x.i.length c3, .slice a4 x.t.length c4]; simpa using this)
  obtain ⟨p0, p1, -⟩ := P0.out.two
  obtain ⟨q0, q1, q2, q3, -⟩ := Q0.out.four
  rw [hW] at p0 p1 q0 q1 q2 q3
  obtain ⟨r, hr⟩ : ∃ r, r = stOk s x := ⟨_, rfl⟩
  have HR := Lib.hid (show r = (stA s x && (stL s x && ((List.range s.m.length).all (keepK s x) && stT s x))) from hr)
  have HA := Lib.hid (show stA s x = (inOk s x.i && (vok x.v && trsOk x.t)) from rfl)
  have HL := Lib.hid (show stL s x = (decide (x.v.length = s.m.length) && decide (x.b.length = s.m.length)) from rfl)
  have HAO := Lib.hid (@stA_of s x)
  rw [← hr]
  clear h hx hr hW
  go_enter Try.func55, Try.ntmps55
  go_wp2_with fail
  rw [← HWW.out]
  clear p0 p1 q0 q1 q2 q3
  refine (implInputs_any s x.i _ S S' a c a' c' a3 c3 S0.out X0.out.2.2.1).mono ?_
  rintro e w1 ⟨rfl, hb⟩
  have S1 := Lib.hid (S0.out.below hb)
  have X1 := Lib.hid (X0.out.below hb)
  have B1 := Lib.hid (B0.out.trans (hb.mono B0.out.size))
  have P1 := Lib.hid (P0.out.below hb P0.out.lt)
  have Q1 := Lib.hid (Q0.out.below hb Q0.out.lt)
  clear hb S0 X0 B0 P0 Q0
  cases hA1 : inOk s x.i
  · have HF := Lib.hid (show r = false by rw [HR.out, HA.out, hA1]; rfl)
    clear hA1
    go_wp2_with fail
    go_ret
    exact ⟨ret_bool HF.out.symm, B1.out⟩
  have HA1 := Lib.hid hA1
  clear hA1
  obtain ⟨p0, p1, -⟩ := P1.out.two
  obtain ⟨q0, q1, q2, q3, -⟩ := Q1.out.four
  go_wp2_with fail
  clear p0 p1 q0 q1 q2 q3
  refine (implVals_any _ S' x.v a1 c1 X1.out.1).mono ?_
  rintro e _ ⟨rfl, rfl⟩
  cases hA2 : vok x.v
  · have HF := Lib.hid (show r = false by rw [HR.out, HA.out, hA2]; simp)
    clear hA2
    go_wp2_with fail
    go_ret
    exact ⟨ret_bool HF.out.symm, B1.out⟩
  have HA2 := Lib.hid hA2
  clear hA2
  obtain ⟨p0, p1, -⟩ := P1.out.two
  obtain ⟨q0, q1, q2, q3, -⟩ := Q1.out.four
  go_wp2_with fail
  clear p0 p1 q0 q1 q2 q3
  refine (tracesOk_any _ S' x.t a4 c4 X1.out.2.2.2).mono ?_
  rintro e w2 ⟨rfl, hb⟩
  have S2 := Lib.hid (S1.out.below hb)
  have X2 := Lib.hid (X1.out.below hb)
  have B2 := Lib.hid (B1.out.trans (hb.mono B1.out.size))
  have P2 := Lib.hid (P1.out.below hb P1.out.lt)
  have Q2 := Lib.hid (Q1.out.below hb Q1.out.lt)
  clear hb S1 X1 B1 P1 Q1
  cases hA3 : trsOk x.t
  · have HF := Lib.hid (show r = false by rw [HR.out, HA.out, hA3]; simp)
    clear hA3
    go_wp2_with fail
    go_ret
    exact ⟨ret_bool HF.out.symm, B2.out⟩
  have HAA := Lib.hid (show stA s x = true by rw [HA.out, HA1.out, HA2.out, hA3]; rfl)
  clear hA3
  by_cases hv : x.v.length = s.m.length
  case neg =>
    have HF := Lib.hid (show r = false by rw [HR.out, HL.out, decide_eq_false hv]; simp)
    have hne : (((x.v.length : Nat) : Int) != ((s.m.length : Nat) : Int)) = true := by simp; omega
    clear hv
    obtain ⟨p0, p1, -⟩ := P2.out.two
    obtain ⟨q0, q1, q2, q3, -⟩ := Q2.out.four
    go_wp2_with fail
    go_ret
    exact ⟨ret_bool HF.out.symm, B2.out⟩
  by_cases hbl : x.b.length = s.m.length
  case neg =>
    have HF := Lib.hid (show r = false by rw [HR.out, HL.out, decide_eq_false hbl]; simp)
    have hne : (((x.v.length : Nat) : Int) != ((s.m.length : Nat) : Int)) = false := by simp; omega
    have hne2 : (((x.b.length : Nat) : Int) != ((s.m.length : Nat) : Int)) = true := by simp; omega
    clear hv hbl
    obtain ⟨p0, p1, -⟩ := P2.out.two
    obtain ⟨q0, q1, q2, q3, -⟩ := Q2.out.four
    go_wp2_with fail
    go_ret
    exact ⟨ret_bool HF.out.symm, B2.out⟩
  have hne : (((x.v.length : Nat) : Int) != ((s.m.length : Nat) : Int)) = false := by simp; omega
  have hne2 : (((x.b.length : Nat) : Int) != ((s.m.length : Nat) : Int)) = false := by simp; omega
  have HLL := Lib.hid (show stL s x = true by rw [HL.out, decide_eq_true hv, decide_eq_true hbl]; rfl)
  have HFN := Lib.hid (show x.fitN s.m.length from ⟨⟨hv, hbl⟩, (HAO.out HAA.out).2.1⟩)
  have HV := Lib.hid (show r = ((List.range s.m.length).all (keepK s x) && stT s x) by rw [HR.out, HAA.out, HLL.out]; rfl)
  clear hv hbl
  have hmf : ∀ (fn : Fn) (first cap : Array Value) (w : World), (Instr.makeFunc fn first cap).run Try.prog w = .ok (.func fn first cap) w := fun _ _ _ _ => rfl
  obtain ⟨p0, p1, -⟩ := P2.out.two
  obtain ⟨q0, q1, q2, q3, -⟩ := Q2.out.four
  have S3 := Lib.hid (S2.out.alloc (.cells #[.slice a s.m.length c, .slice a' s.t.length c', .slice a1 x.v.length c1, .slice a2 x.b.length c2, .slice a3 x.i.length c3, .slice a4 x.t.length c4] 83))
  have X3 := Lib.hid (X2.out.alloc (.cells #[.slice a s.m.length c, .slice a' s.t.length c', .slice a1 x.v.length c1, .slice a2 x.b.length c2, .slice a3 x.i.length c3, .slice a4 x.t.length c4] 83))
  have B3 := Lib.hid (B2.out.alloc B2.out.size (.cells #[.slice a s.m.length c, .slice a' s.t.length c', .slice a1 x.v.length c1, .slice a2 x.b.length c2, .slice a3 x.i.length c3, .slice a4 x.t.length c4] 83))
  have K3 := Lib.hid (Blk.new w2 83 #[.slice a s.m.length c, .slice a' s.t.length c', .slice a1 x.v.length c1, .slice a2 x.b.length c2, .slice a3 x.i.length c3, .slice a4 x.t.length c4])
  go_wp2_with fail
  clear p0 p1 q0 q1 q2 q3 hne hne2
  have HEK := Lib.hid (eachKey_any (f := 79) (p := keepK s x) s x (w2.alloc (.cells #[.slice a s.m.length c, .slice a' s.t.length c', .slice a1 x.v.length c1, .slice a2 x.b.length c2, .slice a3 x.i.length c3, .slice a4 x.t.length c4] 83)) a c a' c' a1 c1 a2 c2 a3 c3 a4 c4 hnl (fun _ _ => rfl) (fun wr k hk hb => keyOk_any s x k wr S S' a c a' c' a1 c1 a2 c2 a3 c3 a4 c4 (S3.out.below hb) (X3.out.below hb) hk HFN.out))
  refine HEK.out.mono ?_
  rintro e w4 ⟨rfl, hb⟩
  have S4 := Lib.hid (S3.out.below hb)
  have X4 := Lib.hid (X3.out.below hb)
  have B4 := Lib.hid (B3.out.trans (hb.mono B3.out.size))
  have K4 := Lib.hid (K3.out.below hb K3.out.lt)
  clear hb HEK S3 X3 B3 K3
  cases hk1 : (List.range s.m.length).all (keepK s x)
  · have HF := Lib.hid (show r = false by rw [HV.out, hk1]; rfl)
    clear hk1
    go_wp2_with fail
    go_ret
    exact ⟨ret_bool HF.out.symm, B4.out⟩
  have HV2 := Lib.hid (show r = stT s x by rw [HV.out, hk1]; rfl)
  clear hk1
  obtain ⟨p0, p1, p2, p3, p4, p5⟩ := K4.out.six
  go_wp2_with fail
  refine (eachTrace_any (f := 80) (p := fun t => s.mdI t.k) s x w4 S' a c a' c' a1 c1 a2 c2 a3 c3 a4 c4 X4.out.2.2.2 (fun _ _ => rfl) (fun wr t au cu ht hp hb => isOfMade_any s x t wr S a c a' c' a1 c1 a2 c2 a3 c3 a4 c4 au cu (S4.out.below hb))).mono ?_
  rintro e w5 ⟨rfl, hb⟩
  have B5 := Lib.hid (B4.out.trans (hb.mono B4.out.size))
  clear hb p0 p1 p2 p3 p4 p5
  obtain ⟨v, hv⟩ : ∃ v, v = x.t.all (fun t => s.mdI t.k) := ⟨_, rfl⟩
  have HF := Lib.hid (show r = v by rw [HV2.out, hv]; rfl)
  rw [← hv]
  clear hv
  go_wp2_with fail
  go_ret
  exact ⟨ret_bool HF.out.symm, B5.out⟩
end Go.Proofs.Ytjbggeeadodmpaa
