/- impl.kept: eachKey, eachTrace with whatever predicate; keyOk, isOfMade (written by wip/tools/gen_kept.py) -/
import Derived.Test.YtjbggeeadodmpaaStP
import Derived.Test.YtjbggeeadodmpaaOrdP
import Derived.BigQuiet
namespace Go.Proofs.Ytjbggeeadodmpaa
open Go.RowKit

theorem Blk.six {w : World} {g : Nat} {t : TypeId} {x0 x1 x2 x3 x4 x5 : Value} (h : Blk w g t #[x0, x1, x2, x3, x4, x5]) : w.cell? ⟨g, 0, none⟩ = some x0 ∧ w.cell? ⟨g, 1, none⟩ = some x1 ∧ w.cell? ⟨g, 2, none⟩ = some x2 ∧ w.cell? ⟨g, 3, none⟩ = some x3 ∧ w.cell? ⟨g, 4, none⟩ = some x4 ∧ w.cell? ⟨g, 5, none⟩ = some x5 :=
  ⟨by rw [h.cell 0]; rfl, by rw [h.cell 1]; rfl, by rw [h.cell 2]; rfl, by rw [h.cell 3]; rfl, by rw [h.cell 4]; rfl, by rw [h.cell 5]; rfl⟩

set_option maxRecDepth 100000 in
set_option maxHeartbeats 1000000 in
/-- Whether something holds of each key, by whatever function says it of one. -/
theorem eachKey_any {f : FuncId} {p : Nat → Bool} (s : Sh) (x : St) (w : World) (a : Option Addr) (c : Nat) (a' : Option Addr) (c' : Nat) (a1 : Option Addr) (c1 : Nat) (a2 : Option Addr) (c2 : Nat) (a3 : Option Addr) (c3 : Nat) (a4 : Option Addr) (c4 : Nat) (hn : s.m.length ≤ 9223372036854775807) (he : ∀ args w, (callFunc f args).run Try.prog w = .ok (.enter f args) w)
    (hc : ∀ (wr : World) (k : Nat), k < s.m.length → Below w.heap.size w wr → Calls Try.prog f #[.agg #[.slice a s.m.length c, .slice a' s.t.length c', .slice a1 x.v.length c1, .slice a2 x.b.length c2, .slice a3 x.i.length c3, .slice a4 x.t.length c4], .int .i64 k] wr fun e w' => e = .returned (.bool (p k)) ∧ Below wr.heap.size wr w') :
    Calls Try.prog 57 #[.agg #[.slice a s.m.length c, .slice a' s.t.length c', .slice a1 x.v.length c1, .slice a2 x.b.length c2, .slice a3 x.i.length c3, .slice a4 x.t.length c4], .func (.func f) #[.agg #[.slice a s.m.length c, .slice a' s.t.length c', .slice a1 x.v.length c1, .slice a2 x.b.length c2, .slice a3 x.i.length c3, .slice a4 x.t.length c4]] #[]] w fun e w' => e = .returned (.bool ((List.range s.m.length).all p)) ∧ Below w.heap.size w w' := by
  have eg := he
  have HC := Lib.hid hc
  have HB0 := Lib.hid ((Below.refl w.heap.size w).alloc (Nat.le_refl _) (.cells #[.slice a s.m.length c, .slice a' s.t.length c', .slice a1 x.v.length c1, .slice a2 x.b.length c2, .slice a3 x.i.length c3, .slice a4 x.t.length c4] 83))
  obtain ⟨x0, x1, x2, x3, x4, x5⟩ := (Blk.new w 83 #[.slice a s.m.length c, .slice a' s.t.length c', .slice a1 x.v.length c1, .slice a2 x.b.length c2, .slice a3 x.i.length c3, .slice a4 x.t.length c4]).six
  obtain ⟨r, hr⟩ : ∃ r, r = (List.range s.m.length).all p := ⟨_, rfl⟩
  have HR := Lib.hid hr
  rw [← hr]
  clear he hc hr
  go_enter Try.func57, Try.ntmps57
  go_wp2_with fail
  go_loopw [10] (fun i wr => ∃ k : Nat, k ≤ s.m.length ∧ i = .int .i64 k ∧ (List.range k).all p = true ∧ Below w.heap.size w wr) (fun i _ => s.m.length - (intOf i).toNat)
  case atStart => exact ⟨0, by omega, rfl, rfl, HB0.out⟩
  case round =>
    obtain ⟨k, hk, rfl, hq, hb⟩ := hrel
    have HQ := Lib.hid hq
    have HB := Lib.hid hb
    clear hq hb x0 x1 x2 x3 x4 x5
    by_cases hlt : k < s.m.length
    · obtain ⟨v, hv⟩ : ∃ v, v = p k := ⟨_, rfl⟩
      have HV := Lib.hid hv
      have HCK := Lib.hid (HC.out wr k hlt HB.out)
      rw [← hv] at HCK
      have HLT := Lib.hid hlt
      clear hv
      go_wp2_with fail
      refine HCK.out.mono ?_
      rintro e w1 ⟨rfl, hb⟩
      have HB1 := Lib.hid (HB.out.trans (hb.mono HB.out.size))
      clear hb
      cases v
      · have HF := Lib.hid (show r = false by rw [HR.out]; exact all_rng_false HLT.out HV.out.symm)
        go_wp2_with fail
        go_ret
        exact ⟨ret_bool HF.out.symm, HB1.out⟩
      · go_wp2_with fail
        go_roundw
        case rel => exact ⟨k + 1, by omega, by go_num, by rw [all_rng, HQ.out, ← HV.out]; rfl, HB1.out⟩
        case measure => simp [intOf]; omega
    · have HF := Lib.hid (show r = true by rw [HR.out, show s.m.length = k by omega]; exact HQ.out)
      go_wp2_with fail
      go_ret
      exact ⟨ret_bool HF.out.symm, HB.out⟩

set_option maxRecDepth 100000 in
set_option maxHeartbeats 1000000 in
/-- Whether something holds of each trace. -/
theorem eachTrace_any {f : FuncId} {p : Tr → Bool} (s : Sh) (x : St) (w : World) (S : Nat → Prop) (a : Option Addr) (c : Nat) (a' : Option Addr) (c' : Nat) (a1 : Option Addr) (c1 : Nat) (a2 : Option Addr) (c2 : Nat) (a3 : Option Addr) (c3 : Nat) (a4 : Option Addr) (c4 : Nat) (ht : TrsAt w S x.t a4 c4) (he : ∀ args w, (callFunc f args).run Try.prog w = .ok (.enter f args) w)
    (hc : ∀ (wr : World) (t : Tr) (au : Option Addr) (cu : Nat), t ∈ x.t → PrsAt wr S t.u au cu → Below w.heap.size w wr → Calls Try.prog f #[.agg #[.slice a s.m.length c, .slice a' s.t.length c', .slice a1 x.v.length c1, .slice a2 x.b.length c2, .slice a3 x.i.length c3, .slice a4 x.t.length c4], .agg #[.int .i64 t.k, .slice au t.u.length cu, .int .i64 t.v]] wr fun e w' => e = .returned (.bool (p t)) ∧ Below wr.heap.size wr w') :
    Calls Try.prog 61 #[.agg #[.slice a s.m.length c, .slice a' s.t.length c', .slice a1 x.v.length c1, .slice a2 x.b.length c2, .slice a3 x.i.length c3, .slice a4 x.t.length c4], .func (.func f) #[.agg #[.slice a s.m.length c, .slice a' s.t.length c', .slice a1 x.v.length c1, .slice a2 x.b.length c2, .slice a3 x.i.length c3, .slice a4 x.t.length c4]] #[]] w fun e w' => e = .returned (.bool (x.t.all p)) ∧ Below w.heap.size w w' := by
  have eg := he
  have HC := Lib.hid hc
  have hll : x.t.length ≤ 9223372036854775807 := RwAt.len ht
  have HB0 := Lib.hid ((Below.refl w.heap.size w).alloc (Nat.le_refl _) (.cells #[.slice a s.m.length c, .slice a' s.t.length c', .slice a1 x.v.length c1, .slice a2 x.b.length c2, .slice a3 x.i.length c3, .slice a4 x.t.length c4] 83))
  have HT0 := Lib.hid ht
  obtain ⟨x0, x1, x2, x3, x4, x5⟩ := (Blk.new w 83 #[.slice a s.m.length c, .slice a' s.t.length c', .slice a1 x.v.length c1, .slice a2 x.b.length c2, .slice a3 x.i.length c3, .slice a4 x.t.length c4]).six
  obtain ⟨r, hr⟩ : ∃ r, r = x.t.all p := ⟨_, rfl⟩
  have HR := Lib.hid hr
  rw [← hr]
  clear he hc hr ht
  go_enter Try.func61, Try.ntmps61
  go_wp2_with fail
  go_loopw [11] (fun i wr => ∃ k : Nat, k ≤ x.t.length ∧ i = .int .i64 k ∧ (x.t.take k).all p = true ∧ Below w.heap.size w wr) (fun i _ => x.t.length - (intOf i).toNat)
  case atStart => exact ⟨0, by omega, rfl, rfl, HB0.out⟩
  case round =>
    obtain ⟨k, hk, rfl, hq, hb⟩ := hrel
    have HQ := Lib.hid hq
    have HB := Lib.hid hb
    clear hq hb x0 x1 x2 x3 x4 x5
    by_cases hlt : k < x.t.length
    · obtain ⟨b, o, au, cu, rfl, hbl, _, e0, e1, e2, hs, _, _⟩ := HT0.out.get HB.out hlt
      have HQS := Lib.hid (all_snocp p x.t k hlt)
      have HQF := Lib.hid (all_falsep p x.t k hlt)
      have HM := Lib.hid (List.getElem_mem hlt)
      obtain ⟨t, ht⟩ : ∃ t, t = x.t[k] := ⟨_, rfl⟩
      rw [← ht] at e0 e1 e2 hs HQS HQF HM
      have hbw := HB.out.size
      have HBA := Lib.hid (HB.out.alloc hbw (.cells #[.int .i64 t.k, .slice au t.u.length cu, .int .i64 t.v] 25))
      obtain ⟨v, hv⟩ : ∃ v, v = p t := ⟨_, rfl⟩
      have HV := Lib.hid hv
      have HCK := Lib.hid (HC.out (wr.alloc (.cells #[.int .i64 t.k, .slice au t.u.length cu, .int .i64 t.v] 25)) t au cu HM.out (hs.alloc _) HBA.out)
      rw [← hv] at HCK
      clear hv ht hs
      go_wp2_with fail
      refine HCK.out.mono ?_
      rintro e w1 ⟨rfl, hb⟩
      have HB1 := Lib.hid (HBA.out.trans (hb.mono HBA.out.size))
      clear hb
      cases v
      · have HF := Lib.hid (show r = false by rw [HR.out]; exact HQF.out HV.out.symm)
        go_wp2_with fail
        go_ret
        exact ⟨ret_bool HF.out.symm, HB1.out⟩
      · go_wp2_with fail
        go_roundw
        case rel => exact ⟨k + 1, by omega, by go_num, by rw [HQS.out, HQ.out, ← HV.out]; rfl, HB1.out⟩
        case measure => simp [intOf]; omega
    · have HF := Lib.hid (show r = true by have := HQ.out; rw [List.take_of_length_le (by omega)] at this; rw [HR.out, this])
      go_wp2_with fail
      go_ret
      exact ⟨ret_bool HF.out.symm, HB.out⟩

theorem getI {l : List Int} {k : Nat} (h : k < l.length) : l.getD k 0 = l[k] := by rw [List.getD_eq_getElem?_getD, List.getElem?_eq_getElem h]; rfl
theorem getB {l : List Bool} {k : Nat} (h : k < l.length) : l.getD k false = l[k] := by rw [List.getD_eq_getElem?_getD, List.getElem?_eq_getElem h]; rfl
theorem ints_cell {w : World} {S : Nat → Prop} {l : List Int} {a : Option Addr} {c : Nat} (h : IntsAt w S l a c) {k : Nat} (hk : k < l.length) : ∃ b o, a = some ⟨b, o, none⟩ ∧ b < w.heap.size ∧ w.cell? ⟨b, o + k, none⟩ = some (.int .i64 (l.getD k 0)) := by
  obtain ⟨b, o, ha, hb, _, hc⟩ := h.get (Below.refl _ _) hk
  exact ⟨b, o, ha, hb, by rw [getI hk]; exact hc⟩
theorem bools_cell {w : World} {S : Nat → Prop} {l : List Bool} {a : Option Addr} {c : Nat} (h : BoolsAt w S l a c) {k : Nat} (hk : k < l.length) : ∃ b o, a = some ⟨b, o, none⟩ ∧ b < w.heap.size ∧ w.cell? ⟨b, o + k, none⟩ = some (.bool (l.getD k false)) := by
  obtain ⟨b, o, ha, hb, _, hc⟩ := ElAt.get h (Below.refl _ _) hk
  exact ⟨b, o, ha, hb, by rw [getB hk]; exact hc⟩
/-- The lists of a state are as long as its sheet. -/
def St.fitN (x : St) (n : Nat) : Prop := (x.v.length = n ∧ x.b.length = n) ∧ x.i.length = n

set_option maxRecDepth 100000 in
set_option maxHeartbeats 2000000 in
theorem keyOk_any (s : Sh) (x : St) (k : Nat) (w : World) (S S' : Nat → Prop) (a : Option Addr) (c : Nat) (a' : Option Addr) (c' : Nat) (a1 : Option Addr) (c1 : Nat) (a2 : Option Addr) (c2 : Nat) (a3 : Option Addr) (c3 : Nat) (a4 : Option Addr) (c4 : Nat) (h : ShAt w S s a c a' c') (hx : StAt w S' x a1 c1 a2 c2 a3 c3 a4 c4) (hk : k < s.m.length) (hf : x.fitN s.m.length) :
    Calls Try.prog 79 #[.agg #[.slice a s.m.length c, .slice a' s.t.length c', .slice a1 x.v.length c1, .slice a2 x.b.length c2, .slice a3 x.i.length c3, .slice a4 x.t.length c4], .int .i64 k] w fun e w' => e = .returned (.bool (keepK s x k)) ∧ Below w.heap.size w w' := by
  have hnl : s.m.length ≤ 9223372036854775807 := by have := h.1.1; have := h.1.2.1; omega
  obtain ⟨⟨n1, n2⟩, n3⟩ := hf
  obtain ⟨bm, om, rfl, hbm, cm⟩ := md_cell h hk
  obtain ⟨bv, ov, rfl, hbv, cv⟩ := ints_cell hx.1 (show k < x.v.length by omega)
  obtain ⟨bb, ob, rfl, hbb, cb⟩ := bools_cell hx.2.1 (show k < x.b.length by omega)
  obtain ⟨bi, oi, rfl, hbi, ci⟩ := ints_cell hx.2.2.1 (show k < x.i.length by omega)
  have hki : (k : Int) < s.m.length := by omega
  have hkv : (k : Int) < x.v.length := by omega
  have hkb : (k : Int) < x.b.length := by omega
  have hkx : (k : Int) < x.i.length := by omega
  have hk0 : (0 : Int) ≤ k := by omega
  obtain ⟨W, hW⟩ : ∃ W, W = (w.alloc (.cells #[.slice (some ⟨bm, om, none⟩) s.m.length c, .slice a' s.t.length c', .slice (some ⟨bv, ov, none⟩) x.v.length c1, .slice (some ⟨bb, ob, none⟩) x.b.length c2, .slice (some ⟨bi, oi, none⟩) x.i.length c3, .slice a4 x.t.length c4] 83)) := ⟨_, rfl⟩
  have HWW := Lib.hid hW
  have hb : Below w.heap.size w W := by rw [hW]; exact (Below.refl w.heap.size w).alloc (by simp) (.cells #[.slice (some ⟨bm, om, none⟩) s.m.length c, .slice a' s.t.length c', .slice (some ⟨bv, ov, none⟩) x.v.length c1, .slice (some ⟨bb, ob, none⟩) x.b.length c2, .slice (some ⟨bi, oi, none⟩) x.i.length c3, .slice a4 x.t.length c4] 83)
  have HB := Lib.hid hb
  have HP := Lib.hid (show Blk W w.heap.size 83 #[.slice (some ⟨bm, om, none⟩) s.m.length c, .slice a' s.t.length c', .slice (some ⟨bv, ov, none⟩) x.v.length c1, .slice (some ⟨bb, ob, none⟩) x.b.length c2, .slice (some ⟨bi, oi, none⟩) x.i.length c3, .slice a4 x.t.length c4] by rw [hW]; exact Blk.new w 83 #[.slice (some ⟨bm, om, none⟩) s.m.length c, .slice a' s.t.length c', .slice (some ⟨bv, ov, none⟩) x.v.length c1, .slice (some ⟨bb, ob, none⟩) x.b.length c2, .slice (some ⟨bi, oi, none⟩) x.i.length c3, .slice a4 x.t.length c4])
  obtain ⟨p0, p1, p2, p3, p4, p5⟩ := HP.out.six
  have d0 := (hb.cell (p := ⟨bm, om + k, none⟩) hbm).trans cm
  have d1 := (hb.cell (p := ⟨bv, ov + k, none⟩) hbv).trans cv
  have d2 := (hb.cell (p := ⟨bb, ob + k, none⟩) hbb).trans cb
  have d3 := (hb.cell (p := ⟨bi, oi + k, none⟩) hbi).trans ci
  obtain ⟨yv, hyv⟩ : ∃ y, y = x.v.getD k 0 := ⟨_, rfl⟩
  obtain ⟨yb, hyb⟩ : ∃ y, y = x.b.getD k false := ⟨_, rfl⟩
  obtain ⟨yi, hyi⟩ : ∃ y, y = x.i.getD k 0 := ⟨_, rfl⟩
  rw [← hyv] at d1
  rw [← hyb] at d2
  rw [← hyi] at d3
  have HKK := Lib.hid (show keepK s x k = if s.md k = true then decide (yi = 0) else !yb && decide (yi = yv) by rw [hyv, hyb, hyi]; rfl)
  obtain ⟨r, hr⟩ : ∃ r, r = keepK s x k := ⟨_, rfl⟩
  have HR := Lib.hid hr
  rw [← hr]
  rw [mdI_nat] at d0
  have HD := Lib.hid (And.intro d0 (And.intro d1 (And.intro d2 d3)))
  have HO := Lib.hid hW
  clear h hx hb cm cv cb ci hyv hyb hyi hr hbm hbv hbb hbi n1 n2 n3 d0 d1 d2 d3
  obtain ⟨d0, d1, d2, d3⟩ := HD.out
  rw [hW] at d0 d1 d2 d3 p0 p1 p2 p3 p4 p5
  clear hW
  cases hmd : s.md k
  · rw [hmd] at d0
    cases yb
    · have HF := Lib.hid (show r = decide (yi = yv) by rw [HR.out, HKK.out, hmd]; rfl)
      clear hmd
      go_enter Try.func79, Try.ntmps79
      go_wp2_with fail
      go_quiet (fail)
      go_wp2_with fail
      go_ret
      rw [← HWW.out]
      exact ⟨ret_bool (by rw [HF.out, Bool.eq_iff_iff]; simp only [beq_iff_eq, decide_eq_true_eq] <;> exact eq_comm), below_drewN HB.out _⟩
    · have HF := Lib.hid (show r = false by rw [HR.out, HKK.out, hmd]; rfl)
      clear hmd
      go_enter Try.func79, Try.ntmps79
      go_wp2_with fail
      go_quiet (fail)
      go_wp2_with fail
      go_ret
      rw [← HWW.out]
      exact ⟨ret_bool HF.out.symm, below_drewN HB.out _⟩
  · rw [hmd] at d0
    have HF := Lib.hid (show r = decide (yi = 0) by rw [HR.out, HKK.out, hmd]; rfl)
    clear hmd
    go_enter Try.func79, Try.ntmps79
    go_wp2_with fail
    go_ret
    rw [← HWW.out]
    exact ⟨ret_bool HF.out.symm, HB.out⟩

set_option maxRecDepth 100000 in
set_option maxHeartbeats 1000000 in
theorem isOfMade_any (s : Sh) (x : St) (t : Tr) (w : World) (S : Nat → Prop) (a : Option Addr) (c : Nat) (a' : Option Addr) (c' : Nat) (a1 : Option Addr) (c1 : Nat) (a2 : Option Addr) (c2 : Nat) (a3 : Option Addr) (c3 : Nat) (a4 : Option Addr) (c4 : Nat) (au : Option Addr) (cu : Nat) (h : ShAt w S s a c a' c') :
    Calls Try.prog 80 #[.agg #[.slice a s.m.length c, .slice a' s.t.length c', .slice a1 x.v.length c1, .slice a2 x.b.length c2, .slice a3 x.i.length c3, .slice a4 x.t.length c4], .agg #[.int .i64 t.k, .slice au t.u.length cu, .int .i64 t.v]] w fun e w' => e = .returned (.bool (s.mdI t.k)) ∧ Below w.heap.size w w' := by
  have HH := Lib.hid ((h.alloc (.cells #[.slice a s.m.length c, .slice a' s.t.length c', .slice a1 x.v.length c1, .slice a2 x.b.length c2, .slice a3 x.i.length c3, .slice a4 x.t.length c4] 83)).alloc (.cells #[.int .i64 t.k, .slice au t.u.length cu, .int .i64 t.v] 25))
  have HB := Lib.hid (((Below.refl w.heap.size w).alloc (Nat.le_refl _) (.cells #[.slice a s.m.length c, .slice a' s.t.length c', .slice a1 x.v.length c1, .slice a2 x.b.length c2, .slice a3 x.i.length c3, .slice a4 x.t.length c4] 83)).alloc (by simp) (.cells #[.int .i64 t.k, .slice au t.u.length cu, .int .i64 t.v] 25))
  obtain ⟨p0, p1, p2, p3, p4, p5⟩ := ((Blk.new w 83 #[.slice a s.m.length c, .slice a' s.t.length c', .slice a1 x.v.length c1, .slice a2 x.b.length c2, .slice a3 x.i.length c3, .slice a4 x.t.length c4]).alloc (.cells #[.int .i64 t.k, .slice au t.u.length cu, .int .i64 t.v] 25)).six
  obtain ⟨q0, q1, q2, -⟩ := (Blk.new (w.alloc (.cells #[.slice a s.m.length c, .slice a' s.t.length c', .slice a1 x.v.length c1, .slice a2 x.b.length c2, .slice a3 x.i.length c3, .slice a4 x.t.length c4] 83)) 25 #[.int .i64 t.k, .slice au t.u.length cu, .int .i64 t.v]).three
  rw [World.size_alloc] at q0 q1 q2
  clear h
  go_enter Try.func80, Try.ntmps80
  go_wp2_with fail
  refine (isMade_any s _ S a c a' c' t.k HH.out).mono ?_
  rintro e w1 ⟨rfl, hb⟩
  have HB1 := Lib.hid (HB.out.trans (hb.mono HB.out.size))
  clear hb
  go_wp2_with fail
  go_ret
  exact ⟨rfl, HB1.out⟩
end Go.Proofs.Ytjbggeeadodmpaa
