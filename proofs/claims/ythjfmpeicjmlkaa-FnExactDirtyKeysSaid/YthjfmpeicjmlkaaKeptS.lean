/- spec.l6Kept (written by wip/tools/gen_kept.py) -/
import Derived.Test.YthjfmpeicjmlkaaKept
namespace Go.Proofs.Ythjfmpeicjmlkaa
open Go.RowKit

set_option maxRecDepth 100000 in
set_option maxHeartbeats 2000000 in
theorem l6Kept_any (s : Sh) (x : St) (k : Nat) (w : World) (S S' : Nat → Prop) (a : Option Addr) (c : Nat) (a' : Option Addr) (c' : Nat) (a1 : Option Addr) (c1 : Nat) (a2 : Option Addr) (c2 : Nat) (a3 : Option Addr) (c3 : Nat) (a4 : Option Addr) (c4 : Nat) (h : ShAt w S s a c a' c') (hx : StAt w S' x a1 c1 a2 c2 a3 c3 a4 c4) (hk : k < s.m.length) (hf : x.fitN s.m.length) :
    Calls Try.prog 69 #[.agg #[.slice a s.m.length c, .slice a' s.t.length c'], .agg #[.slice a1 x.v.length c1, .slice a2 x.b.length c2, .slice a3 x.i.length c3, .slice a4 x.t.length c4], .int .i64 k] w fun e w' => e = .returned (.bool (keepK s x k)) ∧ Below w.heap.size w w' := by
  have hnl : s.m.length ≤ 9223372036854775807 := by have := h.1.1; have := h.1.2.1; omega
  obtain ⟨⟨n1, n2⟩, n3⟩ := hf
  obtain ⟨bm, om, rfl, hbm, cm⟩ := md_cell h hk
  obtain ⟨bv, ov, rfl, hbv, cv⟩ := ints_cell hx.1 (show k < x.v.length by omega)
  obtain ⟨bb, ob, rfl, hbb, cb⟩ := bools_cell hx.2.1 (show k < x.b.length by omega)
  obtain ⟨bi, oi, rfl, hbi, ci⟩ := ints_cell hx.2.2.1 (show k < x.i.length by omega)
  have hki : (k : Int) < s.m.length := by omega
  have hkv : (k : Int) < x.v.length := by omega
  have hkb : (k : Int) < x.b.length := by omega
  have hkx : (k : Int) < x.i.length := by omega
  have hk0 : (0 : Int) ≤ k := by omega
  obtain ⟨W, hW⟩ : ∃ W, W = ((w.alloc (.cells #[.slice (some ⟨bm, om, none⟩) s.m.length c, .slice a' s.t.length c'] 51)).alloc (.cells #[.slice (some ⟨bv, ov, none⟩) x.v.length c1, .slice (some ⟨bb, ob, none⟩) x.b.length c2, .slice (some ⟨bi, oi, none⟩) x.i.length c3, .slice a4 x.t.length c4] 54)) := ⟨_, rfl⟩
  have HWW := Lib.hid hW
  have hb : Below w.heap.size w W := by rw [hW]; exact ((Below.refl w.heap.size w).alloc (by simp) (.cells #[.slice (some ⟨bm, om, none⟩) s.m.length c, .slice a' s.t.length c'] 51)).alloc (by simp) (.cells #[.slice (some ⟨bv, ov, none⟩) x.v.length c1, .slice (some ⟨bb, ob, none⟩) x.b.length c2, .slice (some ⟨bi, oi, none⟩) x.i.length c3, .slice a4 x.t.length c4] 54)
  have HB := Lib.hid hb
  have HP := Lib.hid (show Blk W w.heap.size 51 #[.slice (some ⟨bm, om, none⟩) s.m.length c, .slice a' s.t.length c'] by rw [hW]; exact (Blk.new w 51 #[.slice (some ⟨bm, om, none⟩) s.m.length c, .slice a' s.t.length c']).alloc _)
  have HQ := Lib.hid (show Blk W (w.heap.size + 1) 54 #[.slice (some ⟨bv, ov, none⟩) x.v.length c1, .slice (some ⟨bb, ob, none⟩) x.b.length c2, .slice (some ⟨bi, oi, none⟩) x.i.length c3, .slice a4 x.t.length c4] by rw [hW]; have := Blk.new (w.alloc (.cells #[.slice (some ⟨bm, om, none⟩) s.m.length c, .slice a' s.t.length c'] 51)) 54 #[.slice (some ⟨bv, ov, none⟩) x.v.length c1, .slice (some ⟨bb, ob, none⟩) x.b.length c2, .slice (some ⟨bi, oi, none⟩) x.i.length c3, .slice a4 x.t.length c4]; simpa using this)
  obtain ⟨p0, p1, -⟩ := HP.out.two
  obtain ⟨q0, q1, q2, q3, -⟩ := HQ.out.four
  have d0 := (hb.cell (p := ⟨bm, om + k, none⟩) hbm).trans cm
  have d1 := (hb.cell (p := ⟨bv, ov + k, none⟩) hbv).trans cv
  have d2 := (hb.cell (p := ⟨bb, ob + k, none⟩) hbb).trans cb
  have d3 := (hb.cell (p := ⟨bi, oi + k, none⟩) hbi).trans ci
  obtain ⟨yv, hyv⟩ : ∃ y, y = x.v.getD k 0 := ⟨_, rfl⟩
  obtain ⟨yb, hyb⟩ : ∃ y, y = x.b.getD k false := ⟨_, rfl⟩
  obtain ⟨yi, hyi⟩ : ∃ y, y = x.i.getD k 0 := ⟨_, rfl⟩
  rw [← hyv] at d1
  rw [← hyb] at d2
  rw [← hyi] at d3
  have HKK := Lib.hid (show keepK s x k = if s.md k = true then decide (yi = 0) else !yb && decide (yi = yv) by rw [hyv, hyb, hyi]; rfl)
  obtain ⟨r, hr⟩ : ∃ r, r = keepK s x k := ⟨_, rfl⟩
  have HR := Lib.hid hr
  rw [← hr]
  rw [mdI_nat] at d0
  have HD := Lib.hid (And.intro d0 (And.intro d1 (And.intro d2 d3)))
  have HO := Lib.hid hW
  clear h hx hb cm cv cb ci hyv hyb hyi hr hbm hbv hbb hbi n1 n2 n3 d0 d1 d2 d3
  obtain ⟨d0, d1, d2, d3⟩ := HD.out
  rw [hW] at d0 d1 d2 d3 p0 p1 q0 q1 q2 q3
  clear hW
  cases hmd : s.md k
  · rw [hmd] at d0
    cases yb
    · have HF := Lib.hid (show r = decide (yi = yv) by rw [HR.out, HKK.out, hmd]; rfl)
      clear hmd
      go_enter Try.func69, Try.ntmps69
      go_wp2_with fail
      go_quiet (fail)
      go_wp2_with fail
      go_ret
      rw [← HWW.out]
      exact ⟨ret_bool (by rw [HF.out, Bool.eq_iff_iff]; simp only [beq_iff_eq, decide_eq_true_eq] <;> exact eq_comm), below_drewN HB.out _⟩
    · have HF := Lib.hid (show r = false by rw [HR.out, HKK.out, hmd]; rfl)
      clear hmd
      go_enter Try.func69, Try.ntmps69
      go_wp2_with fail
      go_quiet (fail)
      go_wp2_with fail
      go_ret
      rw [← HWW.out]
      exact ⟨ret_bool HF.out.symm, below_drewN HB.out _⟩
  · rw [hmd] at d0
    have HF := Lib.hid (show r = decide (yi = 0) by rw [HR.out, HKK.out, hmd]; rfl)
    clear hmd
    go_enter Try.func69, Try.ntmps69
    go_wp2_with fail
    go_ret
    rw [← HWW.out]
    exact ⟨ret_bool HF.out.symm, HB.out⟩

end Go.Proofs.Ythjfmpeicjmlkaa
