/- spec.l6Clean, l6Own, l6Verified (written by wip/tools/gen_fitx.py) -/
import Derived.Test.YtjakhiafkjaghaaGreatFitXT
import Derived.Test.YtjakhiafkjaghaaGreatBuildS
namespace Go.Proofs.YtjakhiafkjaghaaGreat
open Go.RowKit

set_option maxRecDepth 100000 in
set_option maxHeartbeats 4000000 in
theorem l6Clean_any (s : Sh) (x : St) (w : World) (S S' : Nat → Prop) (a : Option Addr) (c : Nat) (a' : Option Addr) (c' : Nat) (a1 : Option Addr) (c1 : Nat) (a2 : Option Addr) (c2 : Nat) (a3 : Option Addr) (c3 : Nat) (a4 : Option Addr) (c4 : Nat) (h : ShAt w S s a c a' c') (hx : StAt w S' x a1 c1 a2 c2 a3 c3 a4 c4) (hf : x.fitN s.m.length) (hns : nodesL s.t ≤ 1048576) :
    Calls Tryz.prog 18 #[.agg #[.slice a s.m.length c, .slice a' s.t.length c'], .agg #[.slice a1 x.v.length c1, .slice a2 x.b.length c2, .slice a3 x.i.length c3, .slice a4 x.t.length c4]] w fun e w' => e = .returned (.bool (cleanB s x)) ∧ Below w.heap.size w w' := by
  obtain ⟨⟨n1, n2⟩, n3⟩ := hf
  have hbl : x.b.length ≤ 9223372036854775807 := hx.lens.1.2
  have hvl0 : x.v.length ≤ 9223372036854775807 := hx.lens.1.1
  obtain ⟨W, hW⟩ : ∃ W, W = (w.alloc (.cells #[.slice a s.m.length c, .slice a' s.t.length c'] 35)).alloc (.cells #[.slice a1 x.v.length c1, .slice a2 x.b.length c2, .slice a3 x.i.length c3, .slice a4 x.t.length c4] 39) := ⟨_, rfl⟩
  have HWW := Lib.hid hW
  have S0 := Lib.hid (show ShAt W S s a c a' c' by rw [hW]; exact (h.alloc _).alloc _)
  have X0 := Lib.hid (show StAt W S' x a1 c1 a2 c2 a3 c3 a4 c4 by rw [hW]; exact (hx.alloc _).alloc _)
  have B0 := Lib.hid (show Below w.heap.size w W by rw [hW]; exact ((Below.refl w.heap.size w).alloc (Nat.le_refl _) _).alloc (by simp) _)
  have P0 := Lib.hid (show Blk W w.heap.size 35 #[.slice a s.m.length c, .slice a' s.t.length c'] by rw [hW]; exact (Blk.new w 35 #[.slice a s.m.length c, .slice a' s.t.length c']).alloc _)
  have Q0 := Lib.hid (show Blk W (w.heap.size + 1) 39 #[.slice a1 x.v.length c1, .slice a2 x.b.length c2, .slice a3 x.i.length c3, .slice a4 x.t.length c4] by rw [hW]; have := Blk.new (w.alloc (.cells #[.slice a s.m.length c, .slice a' s.t.length c'] 35)) 39 #[.slice a1 x.v.length c1, .slice a2 x.b.length c2, .slice a3 x.i.length c3, .slice a4 x.t.length c4]; simpa using this)
  obtain ⟨r, hr⟩ : ∃ r, r = cleanB s x := ⟨_, rfl⟩
  have HR := Lib.hid (show r = (List.range s.m.length).all (clnK s x) from hr)
  have HNS := Lib.hid hns
  have HN := Lib.hid (And.intro n1 n2)
  rw [← hr]
  clear h hx hr hW hns n1 n2 n3
  go_enter Tryz.func18, Tryz.ntmps18
  go_wp2_with fail
  rw [← HWW.out]
  go_loopw [5] (fun i wr => ∃ k : Nat, k ≤ x.b.length ∧ i = .int .i64 k ∧ (List.range k).all (clnK s x) = true ∧ Below W.heap.size W wr) (fun i _ => x.b.length - (intOf i).toNat)
  case atStart => exact ⟨0, by omega, rfl, rfl, Below.refl _ _⟩
  case round =>
    obtain ⟨k, hk, rfl, hq, hb⟩ := hrel
    have HQ := Lib.hid hq
    have HB := Lib.hid hb
    have S1 := Lib.hid (S0.out.below hb)
    have X1 := Lib.hid (X0.out.below hb)
    have B1 := Lib.hid (B0.out.trans (hb.mono B0.out.size))
    have P1 := Lib.hid (P0.out.below hb P0.out.lt)
    have Q1 := Lib.hid (Q0.out.below hb Q0.out.lt)
    clear hq hb
    obtain ⟨p0, p1, -⟩ := P1.out.two
    obtain ⟨q0, q1, q2, q3, -⟩ := Q1.out.four
    by_cases hlt : k < x.b.length
    · have hkv : k < x.v.length := by have := HN.out; omega
      obtain ⟨bv, ov, hav, hbv, cv⟩ := ints_cell X1.out.1 hkv
      obtain ⟨bb, ob, hab, hbb, cb⟩ := bools_cell X1.out.2.1 hlt
      subst hav hab
      have hkvi : (k : Int) < x.v.length := by omega
      have hkbi : (k : Int) < x.b.length := by omega
      have hk0 : (0 : Int) ≤ k := by omega
      have HLT := Lib.hid (show k < s.m.length by have := HN.out; omega)
      obtain ⟨yv, hyv⟩ : ∃ y, y = x.v.getD k 0 := ⟨_, rfl⟩
      obtain ⟨yb, hyb⟩ : ∃ y, y = x.b.getD k false := ⟨_, rfl⟩
      rw [← hyv] at cv
      rw [← hyb] at cb
      have HD := Lib.hid (And.intro cv cb)
      have HBB := Lib.hid (And.intro hbv hbb)
      obtain ⟨ok, hok⟩ : ∃ ok, ok = bkOk s x.i k := ⟨_, rfl⟩
      obtain ⟨vl, hvl⟩ : ∃ vl, vl = bkV s x.i k := ⟨_, rfl⟩
      have HKK := Lib.hid (show clnK s x k = (!yb || (ok && decide (vl = yv))) by rw [hyv, hyb, hok, hvl]; rfl)
      have hcall := specBuildKey_any s x.i k wr S S' a c a' c' a3 c3 S1.out HNS.out X1.out.2.2.1
      unfold BkPost at hcall
      rw [← hok, ← hvl] at hcall
      have HC := Lib.hid hcall
      clear hyv hyb hok hvl hcall cv cb hbv hbb hkv
      go_wp2_with fail
      refine HC.out.mono ?_
      rintro e w3 ⟨rfl, hb⟩
      have HB3 := Lib.hid (HB.out.trans (hb.mono HB.out.size))
      have B3 := Lib.hid (B1.out.trans (hb.mono B1.out.size))
      have c1 := (hb.cell (p := ⟨bv, ov + k, none⟩) HBB.out.1).trans HD.out.1
      have c2 := (hb.cell (p := ⟨bb, ob + k, none⟩) HBB.out.2).trans HD.out.2
      have Q3 := Lib.hid (Q1.out.below hb Q1.out.lt)
      clear hb p0 p1 q0 q1 q2 q3
      obtain ⟨q0, q1, q2, q3, -⟩ := Q3.out.four
      cases yb
      · have HT := Lib.hid (show clnK s x k = true by rw [HKK.out]; rfl)
        go_wp2_with fail
        go_roundw
        case rel => exact ⟨k + 1, by omega, by go_num, by rw [all_rng, HQ.out, HT.out]; rfl, HB3.out⟩
        case measure => simp [intOf]; omega
      · cases ok
        · have HF := Lib.hid (show r = false by rw [HR.out]; exact all_rng_false HLT.out (by rw [HKK.out]; rfl))
          go_wp2_with fail
          go_ret
          exact ⟨ret_bool HF.out.symm, B3.out⟩
        · by_cases hv : vl = yv
          · have HT := Lib.hid (show clnK s x k = true by rw [HKK.out, decide_eq_true hv]; rfl)
            have hne : ((vl != yv) : Bool) = false := by rw [hv]; simp
            clear hv
            go_wp2_with fail
            go_roundw
            case rel => exact ⟨k + 1, by omega, by go_num, by rw [all_rng, HQ.out, HT.out]; rfl, HB3.out⟩
            case measure => simp [intOf]; omega
          · have HF := Lib.hid (show r = false by rw [HR.out]; exact all_rng_false HLT.out (by rw [HKK.out, decide_eq_false hv]; rfl))
            have hne : ((vl != yv) : Bool) = true := by simp [hv]
            clear hv
            go_wp2_with fail
            go_ret
            exact ⟨ret_bool HF.out.symm, B3.out⟩
    · have HF := Lib.hid (show r = true by rw [HR.out, show s.m.length = k by have := HN.out; omega]; exact HQ.out)
      go_wp2_with fail
      go_ret
      exact ⟨ret_bool HF.out.symm, B1.out⟩

theorem wneX {a b : Int} (h : a ≠ b) : (a == b) = false ∧ decide (a = b) = false := ⟨by rw [eq_dec]; exact decide_eq_false h, decide_eq_false h⟩
/-- Where the first trace of a key stands, or -1. -/
def OwnI (l : List Tr) (k : Nat) (r : Int) : Prop := (r = -1 ∧ hasK l k = false) ∨ ∃ i : Nat, ∃ h : i < l.length, r = i ∧ hasK l k = true ∧ firstV l k = l[i].v
theorem hasK_take {l : List Tr} {i : Nat} (h : i < l.length) (k : Nat) : hasK (l.take (i + 1)) k = (hasK (l.take i) k || decide (l[i].k = (k : Int))) := by
  unfold hasK; rw [List.take_succ_eq_append_getElem h, List.any_append]; simp
theorem own_at {l : List Tr} {i k : Nat} (h : i < l.length) (hn : hasK (l.take i) k = false) (hk : l[i].k = (k : Int)) : OwnI l k i := by
  refine .inr ⟨i, h, rfl, ?_, ?_⟩
  · unfold hasK; rw [List.any_eq_true]; exact ⟨_, List.getElem_mem h, decide_eq_true hk⟩
  · have e : l = l.take i ++ l[i] :: l.drop (i + 1) := by rw [List.getElem_cons_drop, List.take_append_drop]
    have hnf : (l.take i).find? (fun t => decide (t.k = (k : Int))) = none := by
      rw [List.find?_eq_none]
      intro t ht hx
      have : hasK (l.take i) k = true := by unfold hasK; rw [List.any_eq_true]; exact ⟨t, ht, hx⟩
      rw [hn] at this; cases this
    have hf : (l.take i ++ l[i] :: l.drop (i + 1)).find? (fun t => decide (t.k = (k : Int))) = some l[i] := by
      rw [List.find?_append, hnf, List.find?_cons, decide_eq_true hk]
      simp
    rw [← e] at hf
    unfold firstV
    rw [hf]

def OwnPost (l : List Tr) (k : Nat) (w : World) (e : Ending) (w' : World) : Prop := (∃ r : Int, e = .returned (.int .i64 r) ∧ OwnI l k r) ∧ w = w'
set_option maxHeartbeats 2000000 in
theorem l6Own_any (l : List Tr) (k : Nat) (w : World) (S : Nat → Prop) (a : Option Addr) (c : Nat) (h : TrsAt w S l a c) (h60 : l.length ≤ 60) :
    Calls Tryz.prog 46 #[.slice a l.length c, .int .i64 k] w (OwnPost l k w) := by
  have H := Lib.hid h
  clear h
  go_enter Tryz.func46, Tryz.ntmps46
  go_wp2_with fail
  go_loopw [5] (fun i wr => ∃ j : Nat, j ≤ l.length ∧ i = .int .i64 j ∧ hasK (l.take j) k = false ∧ w = wr) (fun i _ => l.length - (intOf i).toNat)
  case atStart => exact ⟨0, by omega, rfl, rfl, rfl⟩
  case round =>
    obtain ⟨j, hj, rfl, hq, rfl⟩ := hrel
    have HQ := Lib.hid hq
    clear hq
    by_cases hlt : j < l.length
    · obtain ⟨b, o, at_, ct, rfl, hbl, _, e0, _, _, _, _, _⟩ := H.out.get (Below.refl _ _) hlt
      have HKT := Lib.hid (hasK_take hlt k)
      have HOW := Lib.hid (own_at hlt HQ.out)
      obtain ⟨tk, htk⟩ : ∃ tk, tk = l[j].k := ⟨_, rfl⟩
      rw [← htk] at e0 HKT HOW
      clear htk
      by_cases hk : tk = (k : Int)
      · subst hk
        have hbe : ((k : Int) == (k : Int)) = true := by simp
        go_wp2_with fail
        go_ret
        exact ⟨⟨_, rfl, HOW.out (by first | trivial | rfl)⟩, (by first | trivial | rfl)⟩
      · have hbe := (wneX hk).1
        have hbe2 := (wneX hk).2
        have HT := Lib.hid (show hasK (l.take (j + 1)) k = false by rw [HKT.out, HQ.out, hbe2]; rfl)
        clear hk
        go_wp2_with fail
        go_roundw
        case rel => exact ⟨j + 1, by omega, by go_num, HT.out, (by first | trivial | rfl)⟩
        case measure => simp [intOf]; omega
    · have hq := HQ.out
      rw [List.take_of_length_le (by omega)] at hq
      have HF := Lib.hid hq
      clear hq
      go_wp2_with fail
      go_ret
      exact ⟨⟨_, rfl, .inl ⟨rfl, HF.out⟩⟩, rfl⟩

set_option maxRecDepth 100000 in
set_option maxHeartbeats 4000000 in
theorem l6Verified_any (x : St) (w : World) (S' : Nat → Prop) (a1 : Option Addr) (c1 : Nat) (a2 : Option Addr) (c2 : Nat) (a3 : Option Addr) (c3 : Nat) (a4 : Option Addr) (c4 : Nat) (hx : StAt w S' x a1 c1 a2 c2 a3 c3 a4 c4) (n : Nat) (hf : x.fitN n) (hto : trsOk x.t = true) :
    Calls Tryz.prog 19 #[.agg #[.slice a1 x.v.length c1, .slice a2 x.b.length c2, .slice a3 x.i.length c3, .slice a4 x.t.length c4]] w fun e w' => e = .returned (.bool (verB x n)) ∧ Below w.heap.size w w' := by
  obtain ⟨⟨n1, n2⟩, n3⟩ := hf
  have hl60 := (trsOk_mem hto).1
  have hbl : x.b.length ≤ 9223372036854775807 := hx.lens.1.2
  have hvl0 : x.v.length ≤ 9223372036854775807 := hx.lens.1.1
  have hn10 : n ≤ 9223372036854775807 := by omega
  obtain ⟨W, hW⟩ : ∃ W, W = w.alloc (.cells #[.slice a1 x.v.length c1, .slice a2 x.b.length c2, .slice a3 x.i.length c3, .slice a4 x.t.length c4] 39) := ⟨_, rfl⟩
  have HWW := Lib.hid hW
  have X0 := Lib.hid (show StAt W S' x a1 c1 a2 c2 a3 c3 a4 c4 by rw [hW]; exact hx.alloc _)
  have B0 := Lib.hid (show Below w.heap.size w W by rw [hW]; exact (Below.refl w.heap.size w).alloc (Nat.le_refl _) _)
  have Q0 := Lib.hid (show Blk W w.heap.size 39 #[.slice a1 x.v.length c1, .slice a2 x.b.length c2, .slice a3 x.i.length c3, .slice a4 x.t.length c4] by rw [hW]; exact Blk.new w 39 #[.slice a1 x.v.length c1, .slice a2 x.b.length c2, .slice a3 x.i.length c3, .slice a4 x.t.length c4])
  obtain ⟨r, hr⟩ : ∃ r, r = verB x n := ⟨_, rfl⟩
  have HR := Lib.hid (show r = ((List.range n).all (verK x) && decide (verN x n = x.t.length)) from hr)
  have HN := Lib.hid (And.intro n1 n2)
  rw [← hr]
  clear hx hr hW n1 n2 n3 hto
  go_enter Tryz.func19, Tryz.ntmps19
  go_wp2_with fail
  rw [← HWW.out]
  go_loopw [4, 3] (fun i q wr => ∃ k : Nat, k ≤ x.b.length ∧ i = .int .i64 k ∧ q = .int .i64 (verN x k : Nat) ∧ (List.range k).all (verK x) = true ∧ Below W.heap.size W wr) (fun i _ _ => x.b.length - (intOf i).toNat)
  case atStart => exact ⟨0, by omega, rfl, rfl, rfl, Below.refl _ _⟩
  case round =>
    obtain ⟨k, hk, rfl, rfl, hq, hb⟩ := hrel
    have HQ := Lib.hid hq
    have HB := Lib.hid hb
    have X1 := Lib.hid (X0.out.below hb)
    have B1 := Lib.hid (B0.out.trans (hb.mono B0.out.size))
    have Q1 := Lib.hid (Q0.out.below hb Q0.out.lt)
    have hvn : verN x k ≤ k := by unfold verN; have := List.length_filter_le (hasK x.t) (List.range k); rw [List.length_range] at this; exact this
    have HVS := Lib.hid (verN_succ x k)
    obtain ⟨cn, hcn⟩ : ∃ cn, cn = verN x k := ⟨_, rfl⟩
    have HCN := Lib.hid hcn
    rw [← hcn] at hvn ⊢
    clear hq hb hcn
    obtain ⟨q0, q1, q2, q3, -⟩ := Q1.out.four
    by_cases hkb : k < x.b.length
    · have hlt : k < n := by have := HN.out; omega
      have hkv : k < x.v.length := by have := HN.out; omega
      obtain ⟨bv, ov, hav, hbv, cv⟩ := ints_cell X1.out.1 hkv
      obtain ⟨bb, ob, hab, hbb, cb⟩ := bools_cell X1.out.2.1 hkb
      subst hav hab
      have hkvi : (k : Int) < x.v.length := by omega
      have hkbi : (k : Int) < x.b.length := by omega
      have hk0 : (0 : Int) ≤ k := by omega
      have HLT := Lib.hid hlt
      obtain ⟨yv, hyv⟩ : ∃ y, y = x.v.getD k 0 := ⟨_, rfl⟩
      obtain ⟨yb, hyb⟩ : ∃ y, y = x.b.getD k false := ⟨_, rfl⟩
      rw [← hyv] at cv
      rw [← hyb] at cb
      have HKK := Lib.hid (show verK x k = (decide (yb = hasK x.t k) && (!hasK x.t k || decide (firstV x.t k = yv))) by rw [hyv, hyb]; rfl)
      have HOW := Lib.hid (l6Own_any x.t k wr S' a4 c4 X1.out.2.2.2 hl60)
      clear hyv hyb hbv hbb hkv
      go_wp2_with fail
      refine HOW.out.mono ?_
      rintro e _ ⟨⟨o, rfl, ho⟩, rfl⟩
      rcases ho with ⟨rfl, hh⟩ | ⟨i, hi, rfl, hh, hfv⟩
      · cases yb
        · have HT := Lib.hid (show verK x k = true by rw [HKK.out, hh]; rfl)
          have HVN := Lib.hid (show verN x (k + 1) = cn by rw [HVS.out, hh, HCN.out]; rfl)
          clear hh
          go_wp2_with fail
          go_quiet (fail)
          go_wp2_with fail
          go_roundw
          case rel => exact ⟨k + 1, by omega, by go_num, by rw [HVN.out], by rw [all_rng, HQ.out, HT.out]; rfl, below_drewN HB.out _⟩
          case measure => simp [intOf]; omega
        · have HF := Lib.hid (show r = false by rw [HR.out, all_rng_false HLT.out (by rw [HKK.out, hh]; rfl)]; rfl)
          clear hh
          go_wp2_with fail
          go_quiet (fail)
          go_wp2_with fail
          go_ret
          exact ⟨ret_bool HF.out.symm, below_drewN B1.out _⟩
      · obtain ⟨b, o, at_, ct, hta, hbl2, _, e0, e1, e2, _, _, _⟩ := X1.out.2.2.2.get (Below.refl _ _) hi
        subst hta
        have hii : (i : Int) < x.t.length := by omega
        have hi0 : (0 : Int) ≤ i := by omega
        have hge : decide ((0 : Int) ≤ i) = true := decide_eq_true hi0
        rw [← hfv] at e2
        obtain ⟨fv, hfvv⟩ : ∃ fv, fv = firstV x.t k := ⟨_, rfl⟩
        rw [← hfvv] at e2 HKK
        have HVN := Lib.hid (show verN x (k + 1) = cn + 1 by rw [HVS.out, hh, HCN.out]; rfl)
        cases yb
        · have HF := Lib.hid (show r = false by rw [HR.out, all_rng_false HLT.out (by rw [HKK.out, hh]; rfl)]; rfl)
          clear hh hfv hfvv
          go_wp2_with fail
          go_quiet (fail)
          go_wp2_with fail
          go_ret
          exact ⟨ret_bool HF.out.symm, below_drewN B1.out _⟩
        · by_cases hv : fv = yv
          · have HT := Lib.hid (show verK x k = true by rw [HKK.out, hh, decide_eq_true hv]; rfl)
            have hne : ((fv != yv) : Bool) = false := by rw [hv]; simp
            clear hh hfv hfvv hv
            go_wp2_with fail
            go_quiet (fail)
            go_wp2_with fail
            go_roundw
            case rel => exact ⟨k + 1, by omega, by go_num, by rw [HVN.out]; go_num, by rw [all_rng, HQ.out, HT.out]; rfl, below_drewN HB.out _⟩
            case measure => simp [intOf]; omega
          · have HF := Lib.hid (show r = false by rw [HR.out, all_rng_false HLT.out (by rw [HKK.out, hh, decide_eq_false hv]; rfl)]; rfl)
            have hne : ((fv != yv) : Bool) = true := by simp [hv]
            clear hh hfv hfvv hv
            go_wp2_with fail
            go_quiet (fail)
            go_wp2_with fail
            go_ret
            exact ⟨ret_bool HF.out.symm, below_drewN B1.out _⟩
    · have hkn : n = k := by have := HN.out; omega
      have HE := Lib.hid (show r = decide (cn = x.t.length) by rw [HR.out, hkn, HQ.out, ← HCN.out]; rfl)
      clear hkn
      by_cases hc : cn = x.t.length
      · have hbe : (((cn : Nat) : Int) == ((x.t.length : Nat) : Int)) = true := by rw [hc]; simp
        have hbe2 : decide (cn = x.t.length) = true := decide_eq_true hc
        have hbe3 : (cn == x.t.length) = true := by simp [hc]
        have hbe4 : decide (((cn : Nat) : Int) = ((x.t.length : Nat) : Int)) = true := decide_eq_true (by omega)
        have HF := Lib.hid (show r = true by rw [HE.out, hbe2])
        clear hc
        go_wp2_with fail
        go_ret
        exact ⟨ret_bool HF.out.symm, B1.out⟩
      · have hbe : (((cn : Nat) : Int) == ((x.t.length : Nat) : Int)) = false := by rw [eq_dec]; exact decide_eq_false (by omega)
        have hbe2 : decide (cn = x.t.length) = false := decide_eq_false hc
        have hbe3 : (cn == x.t.length) = false := by simp [hc]
        have hbe4 : decide (((cn : Nat) : Int) = ((x.t.length : Nat) : Int)) = false := decide_eq_false (by omega)
        have HF := Lib.hid (show r = false by rw [HE.out, hbe2])
        clear hc
        go_wp2_with fail
        go_ret
        exact ⟨ret_bool HF.out.symm, B1.out⟩
end Go.Proofs.YtjakhiafkjaghaaGreat
