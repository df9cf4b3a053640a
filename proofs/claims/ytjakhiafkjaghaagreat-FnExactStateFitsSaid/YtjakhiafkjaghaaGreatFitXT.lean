/- impl.kept: isNewOrUnbuilt, isTraced, isByInputs (written by wip/tools/gen_fitx.py) -/
import Derived.Test.YtjakhiafkjaghaaGreatFitQ
import Derived.BigQuiet
namespace Go.Proofs.YtjakhiafkjaghaaGreat
open Go.RowKit

theorem eq_dec (a b : Int) : (a == b) = decide (a = b) := by rw [Bool.eq_iff_iff, beq_iff_eq, decide_eq_true_eq]
theorem num_madeN (w : World) (n : Nat) (hn : n ≤ 1000) : NumRow (w.alloc (.cells (madeCells #[.int .i64 0] n) 3)) w.heap.size (.slice (some ⟨w.heap.size, 0, none⟩) n n) (List.replicate n 0) := by
  have e : (madeCells #[Value.int .i64 0] n).toList = List.replicate n (.int .i64 0) := by
    refine List.ext_getElem (by simp [size_madeCells]) fun i h1 h2 => ?_
    have h2' : i < n := by simpa using h2
    have key : (madeCells #[Value.int .i64 0] n)[i]? = some (.int .i64 0) := by
      have hm := Nat.mod_one i
      simp [madeCells, h2', hm]
    obtain ⟨hx, he⟩ := Array.getElem?_eq_some_iff.1 key
    rw [List.getElem_replicate, Array.getElem_toList, he]
  have h := ElRow.of_blk (f := Value.int .i64) (base := w.heap.size) (l := List.replicate n (0 : Int)) (Blk.new w 3 (madeCells #[.int .i64 0] n)) (Nat.le_refl _) (by rw [e, List.map_replicate]) (by rw [List.length_replicate]; omega)
  simpa [ElRow, NumRow] using h

set_option maxRecDepth 100000 in
set_option maxHeartbeats 2000000 in
theorem isNew_any (s : Sh) (x : St) (k : Nat) (w : World) (S S' : Nat → Prop) (a : Option Addr) (c : Nat) (a' : Option Addr) (c' : Nat) (a1 : Option Addr) (c1 : Nat) (a2 : Option Addr) (c2 : Nat) (a3 : Option Addr) (c3 : Nat) (a4 : Option Addr) (c4 : Nat) (h : ShAt w S s a c a' c') (hx : StAt w S' x a1 c1 a2 c2 a3 c3 a4 c4) (hk : k < s.m.length) (hf : x.fitN s.m.length) :
    Calls Tryz.prog 29 #[.agg #[.slice a s.m.length c, .slice a' s.t.length c', .slice a1 x.v.length c1, .slice a2 x.b.length c2, .slice a3 x.i.length c3, .slice a4 x.t.length c4], .int .i64 k] w fun e w' => e = .returned (.bool (clnK s x k)) ∧ Below w.heap.size w w' := by
  obtain ⟨⟨n1, n2⟩, n3⟩ := hf
  have hl := hx.lens
  obtain ⟨bv, ov, hav, hbv, cv⟩ := ints_cell hx.1 (show k < x.v.length by omega)
  obtain ⟨bb, ob, hab, hbb, cb⟩ := bools_cell hx.2.1 (show k < x.b.length by omega)
  subst hav hab
  have hkv : (k : Int) < x.v.length := by omega
  have hkb : (k : Int) < x.b.length := by omega
  have hk0 : (0 : Int) ≤ k := by omega
  obtain ⟨W, hW⟩ : ∃ W, W = w.alloc (.cells #[.slice a s.m.length c, .slice a' s.t.length c', .slice (some ⟨bv, ov, none⟩) x.v.length c1, .slice (some ⟨bb, ob, none⟩) x.b.length c2, .slice a3 x.i.length c3, .slice a4 x.t.length c4] 61) := ⟨_, rfl⟩
  have HWW := Lib.hid hW
  have hb : Below w.heap.size w W := by rw [hW]; exact (Below.refl w.heap.size w).alloc (Nat.le_refl _) _
  have HB := Lib.hid hb
  have HP := Lib.hid (show Blk W w.heap.size 61 #[.slice a s.m.length c, .slice a' s.t.length c', .slice (some ⟨bv, ov, none⟩) x.v.length c1, .slice (some ⟨bb, ob, none⟩) x.b.length c2, .slice a3 x.i.length c3, .slice a4 x.t.length c4] by rw [hW]; exact Blk.new w 61 #[.slice a s.m.length c, .slice a' s.t.length c', .slice (some ⟨bv, ov, none⟩) x.v.length c1, .slice (some ⟨bb, ob, none⟩) x.b.length c2, .slice a3 x.i.length c3, .slice a4 x.t.length c4])
  have S0 := Lib.hid (show ShAt W S s a c a' c' by rw [hW]; exact h.alloc _)
  have I0 := Lib.hid (show IntsAt W S' x.i a3 c3 by rw [hW]; exact hx.2.2.1.alloc _)
  obtain ⟨p0, p1, p2, p3, p4, p5⟩ := HP.out.six
  have d1 := (hb.cell (p := ⟨bv, ov + k, none⟩) hbv).trans cv
  have d2 := (hb.cell (p := ⟨bb, ob + k, none⟩) hbb).trans cb
  have hbvW : bv < W.heap.size := Nat.lt_of_lt_of_le hbv hb.size
  obtain ⟨yv, hyv⟩ : ∃ y, y = x.v.getD k 0 := ⟨_, rfl⟩
  obtain ⟨yb, hyb⟩ : ∃ y, y = x.b.getD k false := ⟨_, rfl⟩
  rw [← hyv] at d1
  rw [← hyb] at d2
  have HKK := Lib.hid (show clnK s x k = (!yb || (bkOk s x.i k && decide (bkV s x.i k = yv))) by rw [hyv, hyb]; rfl)
  obtain ⟨r, hr⟩ : ∃ r, r = clnK s x k := ⟨_, rfl⟩
  have HR := Lib.hid hr
  have HD1 := Lib.hid d1
  have HBV := Lib.hid hbvW
  rw [← hr]
  rw [hW] at d2 p0 p1 p2 p3 p4 p5
  clear h hx hb cv cb hyv hyb hr hbv hbb n1 n2 n3 d1 hW hbvW
  cases yb
  · have HF := Lib.hid (show r = true by rw [HR.out, HKK.out]; rfl)
    go_enter Tryz.func29, Tryz.ntmps29
    go_wp2_with fail
    go_ret
    rw [← HWW.out]
    exact ⟨ret_bool HF.out.symm, HB.out⟩
  · obtain ⟨ok, hok⟩ : ∃ ok, ok = bkOk s x.i k := ⟨_, rfl⟩
    obtain ⟨vl, hvl⟩ : ∃ vl, vl = bkV s x.i k := ⟨_, rfl⟩
    have hcall := implBuildKey_any s x.i k W S S' a c a' c' a3 c3 S0.out I0.out
    unfold BkPost at hcall
    rw [← hok, ← hvl] at hcall
    have HC := Lib.hid hcall
    have HF := Lib.hid (show r = (ok && decide (vl = yv)) by rw [HR.out, HKK.out, hok, hvl]; rfl)
    clear hok hvl hcall
    go_enter Tryz.func29, Tryz.ntmps29
    go_wp2_with fail
    rw [← HWW.out]
    clear p0 p1 p2 p3 p4 p5 d2
    refine HC.out.mono ?_
    rintro e w1 ⟨rfl, hb⟩
    have HB1 := Lib.hid (HB.out.trans (hb.mono HB.out.size))
    have d1 := (hb.cell (p := ⟨bv, ov + k, none⟩) HBV.out).trans HD1.out
    obtain ⟨p0, p1, p2, p3, p4, p5⟩ := (HP.out.below hb HP.out.lt).six
    clear hb
    cases ok
    · go_wp2_with fail
      go_ret
      exact ⟨ret_bool HF.out.symm, HB1.out⟩
    · go_wp2_with fail
      go_ret
      exact ⟨ret_bool (by rw [HF.out]; simp only [eq_dec, Bool.true_and]), HB1.out⟩

theorem cntL_snoc {l : List Tr} {i : Nat} (h : i < l.length) (k : Nat) : cntL (l.take (i + 1)) k = cntL (l.take i) k + (if l[i].k = (k : Int) then 1 else 0) := by
  unfold cntL
  rw [List.take_succ_eq_append_getElem h, List.filter_append, List.length_append]
  congr 1
  rw [List.filter_cons]
  by_cases hk : l[i].k = (k : Int)
  · rw [if_pos (by simpa using hk), if_pos hk]; rfl
  · rw [if_neg (by simpa using hk), if_neg hk]; rfl
theorem cntL_le (l : List Tr) (k : Nat) : cntL l k ≤ l.length := List.length_filter_le _ _

set_option maxRecDepth 100000 in
set_option maxHeartbeats 4000000 in
theorem isTraced_any (s : Sh) (x : St) (k : Nat) (w : World) (S' : Nat → Prop) (a : Option Addr) (c : Nat) (a' : Option Addr) (c' : Nat) (a1 : Option Addr) (c1 : Nat) (a2 : Option Addr) (c2 : Nat) (a3 : Option Addr) (c3 : Nat) (a4 : Option Addr) (c4 : Nat) (hx : StAt w S' x a1 c1 a2 c2 a3 c3 a4 c4) (hk : k < s.m.length) (hf : x.fitN s.m.length) (hto : trsOk x.t = true) :
    Calls Tryz.prog 31 #[.agg #[.slice a s.m.length c, .slice a' s.t.length c', .slice a1 x.v.length c1, .slice a2 x.b.length c2, .slice a3 x.i.length c3, .slice a4 x.t.length c4], .int .i64 k] w fun e w' => e = .returned (.bool (trcK x k)) ∧ Below w.heap.size w w' := by
  obtain ⟨⟨n1, n2⟩, n3⟩ := hf
  have hl60 := (trsOk_mem hto).1
  obtain ⟨bv, ov, hav, hbv, cv⟩ := ints_cell hx.1 (show k < x.v.length by omega)
  obtain ⟨bb, ob, hab, hbb, cb⟩ := bools_cell hx.2.1 (show k < x.b.length by omega)
  subst hav hab
  have hkv : (k : Int) < x.v.length := by omega
  have hkb : (k : Int) < x.b.length := by omega
  have hk0 : (0 : Int) ≤ k := by omega
  have hvl : x.v.length ≤ 9223372036854775807 := hx.lens.1.1
  have hbl : x.b.length ≤ 9223372036854775807 := hx.lens.1.2
  obtain ⟨W, hW⟩ : ∃ W, W = w.alloc (.cells #[.slice a s.m.length c, .slice a' s.t.length c', .slice (some ⟨bv, ov, none⟩) x.v.length c1, .slice (some ⟨bb, ob, none⟩) x.b.length c2, .slice a3 x.i.length c3, .slice a4 x.t.length c4] 61) := ⟨_, rfl⟩
  have HWW := Lib.hid hW
  have hb : Below w.heap.size w W := by rw [hW]; exact (Below.refl w.heap.size w).alloc (Nat.le_refl _) _
  have HB := Lib.hid hb
  have HP := Lib.hid (show Blk W w.heap.size 61 #[.slice a s.m.length c, .slice a' s.t.length c', .slice (some ⟨bv, ov, none⟩) x.v.length c1, .slice (some ⟨bb, ob, none⟩) x.b.length c2, .slice a3 x.i.length c3, .slice a4 x.t.length c4] by rw [hW]; exact Blk.new w 61 #[.slice a s.m.length c, .slice a' s.t.length c', .slice (some ⟨bv, ov, none⟩) x.v.length c1, .slice (some ⟨bb, ob, none⟩) x.b.length c2, .slice a3 x.i.length c3, .slice a4 x.t.length c4])
  have T0 := Lib.hid (show TrsAt W S' x.t a4 c4 by rw [hW]; exact hx.2.2.2.alloc _)
  obtain ⟨p0, p1, p2, p3, p4, p5⟩ := HP.out.six
  rw [hW] at p0 p1 p2 p3 p4 p5
  obtain ⟨yv, hyv⟩ : ∃ y, y = x.v.getD k 0 := ⟨_, rfl⟩
  obtain ⟨yb, hyb⟩ : ∃ y, y = x.b.getD k false := ⟨_, rfl⟩
  rw [← hyv] at cv
  rw [← hyb] at cb
  have HD1 := Lib.hid ((hb.cell (p := ⟨bv, ov + k, none⟩) hbv).trans cv)
  have HD2 := Lib.hid ((hb.cell (p := ⟨bb, ob + k, none⟩) hbb).trans cb)
  have HBV := Lib.hid (Nat.lt_of_lt_of_le hbv hb.size)
  have HBB := Lib.hid (Nat.lt_of_lt_of_le hbb hb.size)
  have HT := Lib.hid (show ∀ t, trcT x k t = (!decide (t.k = (k : Int)) || (yb && decide (t.v = yv))) by rw [hyv, hyb]; exact fun _ => rfl)
  obtain ⟨r, hr⟩ : ∃ r, r = trcK x k := ⟨_, rfl⟩
  have HR := Lib.hid (show r = (x.t.all (trcT x k) && (decide (cntL x.t k = 1) || !yb)) by rw [hr, hyb]; rfl)
  rw [← hr]
  clear hx hb cv cb hyv hyb hr hbv hbb n1 n2 n3 hW hto
  go_enter Tryz.func31, Tryz.ntmps31
  go_wp2_with fail
  rw [← HWW.out]
  clear p0 p1 p2 p3 p4 p5
  go_loopw [12, 5] (fun i q wr => ∃ j : Nat, j ≤ x.t.length ∧ i = .int .i64 j ∧ q = .int .i64 (cntL (x.t.take j) k : Nat) ∧ (x.t.take j).all (trcT x k) = true ∧ Below W.heap.size W wr) (fun i _ _ => x.t.length - (intOf i).toNat)
  case atStart => exact ⟨0, by omega, rfl, rfl, rfl, Below.refl _ _⟩
  case round =>
    obtain ⟨j, hj, rfl, rfl, hq, hb⟩ := hrel
    have HQ := Lib.hid hq
    have HB2 := Lib.hid hb
    have P1 := Lib.hid (HP.out.below hb HP.out.lt)
    have d1 := (hb.cell (p := ⟨bv, ov + k, none⟩) HBV.out).trans HD1.out
    have d2 := (hb.cell (p := ⟨bb, ob + k, none⟩) HBB.out).trans HD2.out
    have hcl := cntL_le (x.t.take j) k
    have hcl2 : (x.t.take j).length ≤ 60 := by rw [List.length_take]; omega
    obtain ⟨cn, hcn⟩ : ∃ cn, cn = cntL (x.t.take j) k := ⟨_, rfl⟩
    have HCN := Lib.hid hcn
    rw [← hcn] at hcl ⊢
    clear hq hcn
    by_cases hlt : j < x.t.length
    · obtain ⟨b, o, at_, ct, rfl, hbl2, _, e0, e1, e2, _, _, _⟩ := T0.out.get hb hlt
      have HQS := Lib.hid (all_snocp (trcT x k) x.t j hlt)
      have HQF := Lib.hid (all_falsep (trcT x k) x.t j hlt)
      have HCS := Lib.hid (cntL_snoc hlt k)
      obtain ⟨t, ht⟩ : ∃ t, t = x.t[j] := ⟨_, rfl⟩
      rw [← ht] at e0 e1 e2 HQS HQF HCS
      have HTT := Lib.hid (HT.out t)
      have HBA := Lib.hid (HB2.out.alloc hb.size (.cells #[.int .i64 t.k, .slice at_ t.u.length ct, .int .i64 t.v] 55))
      have hoW : W.heap.size ≤ wr.heap.size := hb.size
      have PA := Lib.hid (P1.out.alloc (.cells #[.int .i64 t.k, .slice at_ t.u.length ct, .int .i64 t.v] 55))
      have BA := Lib.hid (Blk.new wr 55 #[.int .i64 t.k, .slice at_ t.u.length ct, .int .i64 t.v])
      have DA1 := Lib.hid ((HBA.out.cell (p := ⟨bv, ov + k, none⟩) HBV.out).trans HD1.out)
      have DA2 := Lib.hid ((HBA.out.cell (p := ⟨bb, ob + k, none⟩) HBB.out).trans HD2.out)
      clear ht hb d1 d2
      by_cases htk : t.k = (k : Int)
      · have hne : ((t.k != (k : Int)) : Bool) = false := by rw [htk]; simp
        have HCS1 := Lib.hid (show cntL (x.t.take (j + 1)) k = cn + 1 by rw [HCS.out, if_pos htk, HCN.out])
        have HT1 := Lib.hid (show trcT x k t = (yb && decide (t.v = yv)) by rw [HTT.out, decide_eq_true htk]; rfl)
        clear htk
        have d1 := DA1.out
        have d2 := DA2.out
        obtain ⟨p0, p1, p2, p3, p4, p5⟩ := PA.out.six
        obtain ⟨z0, z1, z2, -⟩ := BA.out.three
        cases yb
        · have HF := Lib.hid (show r = false by rw [HR.out, HQF.out (by rw [HT1.out]; rfl)]; rfl)
          go_wp2_with fail
          go_quiet (fail)
          go_wp2_with fail
          go_ret
          exact ⟨ret_bool HF.out.symm, HB.out.trans ((below_drewN HBA.out _).mono HB.out.size)⟩
        · by_cases hv : t.v = yv
          · have hne2 : ((t.v != yv) : Bool) = false := by rw [hv]; simp
            have HT2 := Lib.hid (show trcT x k t = true by rw [HT1.out, decide_eq_true hv]; rfl)
            clear hv
            go_wp2_with fail
            go_quiet (fail)
            go_wp2_with fail
            go_roundw
            case rel => exact ⟨j + 1, by omega, by go_num, by rw [HCS1.out]; go_num, by rw [HQS.out, HQ.out, HT2.out]; rfl, below_drewN HBA.out _⟩
            case measure => simp [intOf]; omega
          · have hne2 : ((t.v != yv) : Bool) = true := by simp [hv]
            have HF := Lib.hid (show r = false by rw [HR.out, HQF.out (by rw [HT1.out, decide_eq_false hv]; rfl)]; rfl)
            clear hv
            go_wp2_with fail
            go_quiet (fail)
            go_wp2_with fail
            go_ret
            exact ⟨ret_bool HF.out.symm, HB.out.trans ((below_drewN HBA.out _).mono HB.out.size)⟩
      · have hne : ((t.k != (k : Int)) : Bool) = true := by simp [htk]
        have HCS1 := Lib.hid (show cntL (x.t.take (j + 1)) k = cn by rw [HCS.out, if_neg htk, HCN.out]; rfl)
        have HT1 := Lib.hid (show trcT x k t = true by rw [HTT.out, decide_eq_false htk]; rfl)
        clear htk
        go_wp2_with fail
        go_roundw
        case rel => exact ⟨j + 1, by omega, by go_num, by rw [HCS1.out], by rw [HQS.out, HQ.out, HT1.out]; rfl, HBA.out⟩
        case measure => simp [intOf]; omega
    · have hq := HQ.out
      rw [List.take_of_length_le (by omega)] at hq
      have hc := HCN.out
      rw [List.take_of_length_le (by omega)] at hc
      have HF := Lib.hid (show r = (decide (cn = 1) || !yb) by rw [HR.out, hq, hc]; rfl)
      have HBE := Lib.hid (HB.out.trans (hb.mono HB.out.size))
      obtain ⟨p0, p1, p2, p3, p4, p5⟩ := P1.out.six
      clear hq hc hb
      by_cases h1 : cn = 1
      · subst h1
        go_wp2_with fail
        go_ret
        exact ⟨ret_bool (by rw [HF.out]; rfl), HBE.out⟩
      · have h2 : decide (cn = 1) = false := decide_eq_false h1
        have h3 : ((cn : Int) == 1) = false := by rw [eq_dec]; exact decide_eq_false (by omega)
        have h4 : decide ((cn : Int) = 1) = false := decide_eq_false (by omega)
        clear h1
        go_wp2_with fail
        go_ret
        exact ⟨ret_bool (by rw [HF.out, h2]; rfl), HBE.out⟩

end Go.Proofs.YtjakhiafkjaghaaGreat
