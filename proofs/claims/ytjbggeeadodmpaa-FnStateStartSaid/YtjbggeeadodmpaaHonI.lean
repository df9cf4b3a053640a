/- impl.isTraceOf, impl.TracesHonest -/
import Derived.Test.YtjbggeeadodmpaaHonP
import Derived.Test.YtjbggeeadodmpaaOrdP
import Derived.Test.YtjbggeeadodmpaaShOk
import Derived.Test.YtjbggeeadodmpaaTrA
import Derived.Deep.RegionWith
import Derived.Deep.RegionHeld3
import Derived.BigQuiet
namespace Go.Proofs.Ytjbggeeadodmpaa
open Go.RowKit

theorem trO_yes {key : Int} {t : T} {lv : List Int} (h1 : t.ok = true) (h2 : vok lv = true) (h3 : kin key = true) : trB key t lv = true ∧ trO key t lv = trOf key t (vf lv) := by
  have hb : trB key t lv = true := by unfold trB; rw [h1, h2, h3]; rfl
  exact ⟨hb, by unfold trO; rw [if_pos hb]⟩
theorem trOf_fine (key : Int) (t : T) (lv : List Int) (h1 : t.ok = true) (h2 : vok lv = true) (h3 : kin key = true) : ∀ p ∈ (trOf key t (vf lv)).u, i64ok p.1 ∧ i64ok p.2 := by
  rw [← (trO_yes h1 h2 h3).2]; exact trO_fine key t lv

set_option maxRecDepth 100000 in
set_option maxHeartbeats 4000000 in
theorem isTraceOf_any (w : World) (S S' : Nat → Prop) (t : Tr) (x : T) (a a' : Option Addr) (c c' : Nat) (h : PrsAt w S t.u a c) (hok : t.ok = true) (hx : AtS w S' x.ps a' c') (hxo : x.ok = true) :
    Calls Try.prog 86 #[.agg #[.int .i64 t.k, .slice a t.u.length c, .int .i64 t.v], .agg #[.int .i64 x.k, .int .i64 x.n, .slice a' x.ps.length c']] w fun e w' => e = .returned (.bool (isTr t x)) ∧ Below w.heap.size w w' := by
  have hkn : kin t.k = true := decide_eq_true (Tr.ok_k hok)
  have hu := Tr.ok_u hok
  obtain ⟨r, hr⟩ : ∃ r, r = isTr t x := ⟨_, rfl⟩
  have HR := Lib.hid hr
  rw [← hr]
  clear hr hok
  obtain ⟨tk, l, tv⟩ := t
  simp only at *
  have hll : l.length ≤ 9223372036854775807 := RwAt.len h
  have HOK := Lib.hid hu
  have hvk : vok (backF l) = true := backF_vok fun p hp => (hu p hp).2
  have HVK := Lib.hid hvk
  obtain ⟨ty1, ty2⟩ := trO_yes (key := tk) hxo hvk hkn
  have HTB := Lib.hid (And.intro ty1 ty2)
  have HTF := Lib.hid (trOf_fine tk x (backF l) hxo hvk hkn)
  have HBI := Lib.hid (ok_mem (backF_mem fun p hp => (hu p hp).2))
  have HBL := Lib.hid (backF_len l)
  obtain ⟨i0, hi, hz0, hz1, hz2⟩ := info_parts infoInt
  have hmk : ∀ W : World, (Instr.makeSlice 26 (.int .i64 10) (.int .i64 10)).run Try.prog W = .ok (.slice (some ⟨W.heap.size, 0, none⟩) 10 10) (W.alloc (.cells (madeCells #[.int .i64 0] 10) 3)) := fun W => by
    have h := run_make_rowN (P := Try.prog) 26 3 i0 _ Try.underlying26 hi hz0 .i64 .i64 10 10 (Nat.le_refl _) (by rw [hz2]; omega) (by omega) W
    rw [hz1] at h
    exact h
  have P0 := Lib.hid (((h.lim.alloc (.cells #[.int .i64 tk, .slice a l.length c, .int .i64 tv] 25)).alloc (.cells #[.int .i64 x.k, .int .i64 x.n, .slice a' x.ps.length c'] 90)).alloc (.cells (madeCells #[.int .i64 0] 10) 3))
  have X0 := Lib.hid (((hx.lim.alloc (.cells #[.int .i64 tk, .slice a l.length c, .int .i64 tv] 25)).alloc (.cells #[.int .i64 x.k, .int .i64 x.n, .slice a' x.ps.length c'] 90)).alloc (.cells (madeCells #[.int .i64 0] 10) 3))
  have BT0 := Lib.hid (((Blk.new w 25 #[.int .i64 tk, .slice a l.length c, .int .i64 tv]).alloc (.cells #[.int .i64 x.k, .int .i64 x.n, .slice a' x.ps.length c'] 90)).alloc (.cells (madeCells #[.int .i64 0] 10) 3))
  have BX0 := Lib.hid (show Blk (((w.alloc (.cells #[.int .i64 tk, .slice a l.length c, .int .i64 tv] 25)).alloc (.cells #[.int .i64 x.k, .int .i64 x.n, .slice a' x.ps.length c'] 90)).alloc (.cells (madeCells #[.int .i64 0] 10) 3)) (w.heap.size + 1) 90 #[.int .i64 x.k, .int .i64 x.n, .slice a' x.ps.length c'] by
    have := (Blk.new (w.alloc (.cells #[.int .i64 tk, .slice a l.length c, .int .i64 tv] 25)) 90 #[.int .i64 x.k, .int .i64 x.n, .slice a' x.ps.length c']).alloc (.cells (madeCells #[.int .i64 0] 10) 3); simpa using this)
  have HB0 := Lib.hid ((((Below.refl w.heap.size w).alloc (Nat.le_refl _) (.cells #[.int .i64 tk, .slice a l.length c, .int .i64 tv] 25)).alloc (by simp) (.cells #[.int .i64 x.k, .int .i64 x.n, .slice a' x.ps.length c'] 90)).alloc (by simp <;> omega) (.cells (madeCells #[.int .i64 0] 10) 3))
  obtain ⟨W, hW⟩ : ∃ W, W = ((w.alloc (.cells #[.int .i64 tk, .slice a l.length c, .int .i64 tv] 25)).alloc (.cells #[.int .i64 x.k, .int .i64 x.n, .slice a' x.ps.length c'] 90)).alloc (.cells (madeCells #[.int .i64 0] 10) 3) := ⟨_, rfl⟩
  have N1 := Lib.hid (show NumRow W (w.heap.size + 1 + 1) (.slice (some ⟨w.heap.size + 1 + 1, 0, none⟩) 10 10) (backF (l.take 0)) by
    have := num_made ((w.alloc (.cells #[.int .i64 tk, .slice a l.length c, .int .i64 tv] 25)).alloc (.cells #[.int .i64 x.k, .int .i64 x.n, .slice a' x.ps.length c'] 90))
    rw [show backF (l.take 0) = List.replicate 10 0 from rfl, hW]; simpa using this)
  have HWW := Lib.hid hW
  obtain ⟨x0, x1, x2, -⟩ := BT0.out.three
  rw [← hW] at P0 X0 BT0 BX0 HB0
  have HWS := Lib.hid (show W.heap.size = w.heap.size + 1 + 1 + 1 by rw [hW]; simp)
  clear h hx hu hW hvk ty1 ty2 hkn hxo
  go_enter Try.func86, Try.ntmps86
  go_wp2_with fail
  clear hmk
  rw [← HWW.out]
  clear x0 x1 x2
  go_loopw [14] (fun i wr => ∃ k : Nat, k ≤ l.length ∧ i = .int .i64 k ∧ NumRow wr (w.heap.size + 1 + 1) (.slice (some ⟨w.heap.size + 1 + 1, 0, none⟩) 10 10) (backF (l.take k)) ∧ Fr (fun b => b = w.heap.size + 1 + 1) W wr) (fun i _ => l.length - (intOf i).toNat)
  case atStart => exact ⟨0, by omega, rfl, N1.out, Fr.of_below (Below.refl _ _)⟩
  case round =>
    obtain ⟨k, hk, rfl, hn, hf⟩ := hrel
    have HN := Lib.hid hn
    have HF := Lib.hid hf
    have HPR := Lib.hid (show PrsAt wr (fun b => S b ∧ b < w.heap.size) l a c from P0.out.fr hf (fun b hb e => by omega))
    have hwr := hf.size
    clear hn hf
    by_cases hlt : k < l.length
    · obtain ⟨b, o, rfl, hbl, hSb, e0, e1, _, _⟩ := PrsAt.get (l := l) HPR.out (Below.refl _ _) hlt
      have hpk := HOK.out l[k] (List.getElem_mem hlt)
      have HBS := Lib.hid (backF_snoc hlt)
      obtain ⟨p, hp⟩ : ∃ p, p = l[k] := ⟨_, rfl⟩
      rw [← hp] at e0 e1 HBS hpk
      obtain ⟨p1, p2⟩ := p
      simp only at e0 e1 HBS hpk
      obtain ⟨⟨h0, h9⟩, _, _⟩ := hpk
      obtain ⟨q, rfl⟩ : ∃ q : Nat, p1 = q := ⟨p1.toNat, by omega⟩
      rw [Int.toNat_natCast] at HBS
      have hq : q < 10 := by omega
      have hqi : (q : Int) < 10 := by omega
      have hbl10 := backF_len (l.take k)
      have HNA := Lib.hid (show NumRow (wr.alloc (.cells #[.int .i64 q, .int .i64 p2] 63)) (w.heap.size + 1 + 1) (.slice (some ⟨w.heap.size + 1 + 1, 0, none⟩) 10 10) (backF (l.take k)) from World.ownsRow.alloc HN.out _)
      obtain ⟨c0, f0⟩ := HNA.out.cellX q (by rw [hbl10]; exact hq)
      obtain ⟨y, hy⟩ : ∃ y, y = (backF (l.take k))[q]'(by rw [hbl10]; exact hq) := ⟨_, rfl⟩
      rw [← hy] at c0
      have HS := Lib.hid (show NumRow ((wr.setCell ⟨w.heap.size + 1 + 1, q, none⟩ (.int .i64 p2)).alloc (.cells #[.int .i64 q, .int .i64 p2] 63)) (w.heap.size + 1 + 1) (.slice (some ⟨w.heap.size + 1 + 1, 0, none⟩) 10 10) (backF (l.take (k + 1))) by
        have := NumRow.set_ (g := w.heap.size + 1 + 1) (n := 10) (cap := 10) (by have := HN.out; exact this) q p2
        rw [← HBS.out] at this
        exact World.ownsRow.alloc this _)
      have HF2 := Lib.hid (show Fr (fun b => b = w.heap.size + 1 + 1) W ((wr.setCell ⟨w.heap.size + 1 + 1, q, none⟩ (.int .i64 p2)).alloc (.cells #[.int .i64 q, .int .i64 p2] 63)) from
        ((HF.out.set' ⟨w.heap.size + 1 + 1, q, none⟩ rfl _).trans (Fr.of_below (D := fun b => b = w.heap.size + 1 + 1) ((Below.refl _ _).alloc (Nat.le_refl _) _)) (fun b hb => .inl hb)))
      have hgw : w.heap.size + 1 + 1 < wr.heap.size := by have := HWS.out; omega
      clear hp hbl10 hy h0 h9
      go_wp2_with fail
      go_roundw
      case rel => exact ⟨k + 1, by omega, by go_num, HS.out, HF2.out⟩
      case measure => simp [intOf]; omega
    · have hq := HN.out
      rw [List.take_of_length_le (by omega)] at hq
      obtain ⟨av, cv, he, hia⟩ := hq.at HBI.out
      rw [HBL.out] at he
      simp only [Value.slice.injEq] at he
      obtain ⟨rfl, -, rfl⟩ := he
      have HIA := Lib.hid hia
      have HX := Lib.hid (X0.out.fr HF.out (fun b hb e => by omega))
      have bt := BT0.out.fr HF.out (by omega)
      have bx := BX0.out.fr HF.out (by omega)
      have BT := Lib.hid bt
      have HB := Lib.hid (show Below w.heap.size w wr from HB0.out.trans ⟨HF.out.1, HF.out.2.1, HF.out.2.2.1, HF.out.2.2.2.1, fun b hb => HF.out.2.2.2.2 b (by have := HWS.out; omega) (by omega)⟩)
      obtain ⟨x0, x1, x2, -⟩ := bt.three
      obtain ⟨y0, y1, y2, -⟩ := bx.three
      clear hq hia bt bx
      go_wp2_with fail
      have hcall := implTraceOf_any tk x (backF l) wr _ _ a' (some ⟨w.heap.size + 1 + 1, 0, none⟩) c' 10 HX.out HIA.out
      rw [HBL.out, HTB.out.1, HTB.out.2] at hcall
      refine hcall.mono ?_
      rintro e w1 ⟨hb, v, rfl, hfr⟩
      obtain ⟨au, cu, rfl, hpu⟩ := hfr.prs HTF.out
      have HPU := Lib.hid hpu
      have bt1 := BT.out.below hb BT.out.lt
      have HB1 := Lib.hid (HB.out.trans (hb.mono HB.out.size))
      have HP1 := Lib.hid (HPR.out.below hb)
      have BT1 := Lib.hid bt1
      clear hb hfr hpu hcall x0 x1 x2 y0 y1 y2 bt1
      obtain ⟨ur, hur⟩ : ∃ ur, ur = trOf tk x (vf (backF l)) := ⟨_, rfl⟩
      have HUR := Lib.hid (show r = trEq ⟨tk, l, tv⟩ ur by rw [HR.out, hur]; rfl)
      rw [← hur] at HPU ⊢
      clear hur
      have HB2 := Lib.hid (HB1.out.alloc HB1.out.size (.cells #[.int .i64 ur.k, .slice au ur.u.length cu, .int .i64 ur.v] 25))
      obtain ⟨z0, z1, z2, -⟩ := BT1.out.three
      obtain ⟨v0, v1, v2, -⟩ := (BT1.out.alloc (.cells #[.int .i64 ur.k, .slice au ur.u.length cu, .int .i64 ur.v] 25)).three
      have hlt1 := BT1.out.lt
      go_wp2_with fail
      refine (sameTrace_any _ _ _ ⟨tk, l, tv⟩ ur a au c cu (HP1.out.alloc (.cells #[.int .i64 ur.k, .slice au ur.u.length cu, .int .i64 ur.v] 25)) (HPU.out.alloc _)).mono ?_
      rintro e w2 ⟨rfl, hb⟩
      have HB3 := Lib.hid (HB2.out.trans (hb.mono HB2.out.size))
      rw [← HUR.out]
      clear hb
      go_wp2_with fail
      go_ret
      exact ⟨rfl, HB3.out⟩

theorem tk_get {s : Sh} {k : Nat} (h : k < s.t.length) : s.tk k = s.t[k] := by unfold Sh.tk; rw [List.getD_eq_getElem?_getD, List.getElem?_eq_getElem h]; rfl

set_option maxRecDepth 100000 in
set_option maxHeartbeats 4000000 in
theorem implHonest_any (s : Sh) (l : List Tr) (w : World) (S S' : Nat → Prop) (a : Option Addr) (c : Nat) (a' : Option Addr) (c' : Nat) (al : Option Addr) (cl : Nat) (h : ShAt w S s a c a' c') (hl : TrsAt w S' l al cl) :
    Calls Try.prog 59 #[.agg #[.slice a s.m.length c, .slice a' s.t.length c'], .slice al l.length cl] w fun e w' => e = .returned (.bool (honest s l)) ∧ Below w.heap.size w w' := by
  have hll : l.length ≤ 9223372036854775807 := RwAt.len hl
  have hlt : s.t.length ≤ 9223372036854775807 := by have := h.2.1; have := h.2.2.1; omega
  have K0 := Lib.hid (Ks.start (ty := 47) h)
  have L0 := Lib.hid (hl.alloc (.cells #[.slice a s.m.length c, .slice a' s.t.length c'] 47))
  obtain ⟨r, hr⟩ : ∃ r, r = honest s l := ⟨_, rfl⟩
  have HR := Lib.hid (show r = ((s.ok && trsOk l) && l.all (honT s)) from hr)
  rw [← hr]
  clear h hl hr
  obtain ⟨x0, x1⟩ := K0.out.box
  go_enter Try.func59, Try.ntmps59
  go_wp2_with fail
  refine (implSheetOk_any s _ S a c a' c' K0.out.2).mono ?_
  rintro e w1 ⟨rfl, hb⟩
  have K1 := Lib.hid (K0.out.step hb)
  have L1 := Lib.hid (L0.out.below hb)
  clear hb K0 L0 x0 x1
  cases hok : s.ok
  · have HF := Lib.hid (show r = false by rw [HR.out, hok]; rfl)
    clear hok
    go_wp2_with fail
    go_ret
    exact ⟨ret_bool HF.out.symm, K1.out.done⟩
  have HOK := Lib.hid hok
  clear hok
  go_wp2_with fail
  refine (tracesOk_any _ S' l al cl L1.out).mono ?_
  rintro e w2 ⟨rfl, hb⟩
  have K2 := Lib.hid (K1.out.step hb)
  have L2 := Lib.hid (L1.out.below hb)
  clear hb K1 L1
  cases hto : trsOk l
  · have HF := Lib.hid (show r = false by rw [HR.out, hto]; simp)
    clear hto
    go_wp2_with fail
    go_ret
    exact ⟨ret_bool HF.out.symm, K2.out.done⟩
  have HTO := Lib.hid (trsOk_mem hto).2
  have HV := Lib.hid (show r = l.all (honT s) by rw [HR.out, hto, HOK.out]; rfl)
  clear hto
  go_wp2_with fail
  go_loopw [17] (fun i wr => ∃ k : Nat, k ≤ l.length ∧ i = .int .i64 k ∧ (l.take k).all (honT s) = true ∧ Ks S s a c a' c' 47 w wr ∧ TrsAt wr S' l al cl) (fun i _ => l.length - (intOf i).toNat)
  case atStart => exact ⟨0, by omega, rfl, rfl, K2.out, L2.out⟩
  case round =>
    obtain ⟨k, hk, rfl, hq, hK, hL⟩ := hrel
    have HQ := Lib.hid hq
    have K3 := Lib.hid hK
    have L3 := Lib.hid hL
    have hwr := hK.size
    clear hq hK hL K2 L2
    by_cases hlt2 : k < l.length
    · obtain ⟨b, o, at_, ct, rfl, hbl, _, e0, e1, e2, hs, _, _⟩ := L3.out.get (Below.refl _ _) hlt2
      have HQS := Lib.hid (all_snocp (honT s) l k hlt2)
      have HQF := Lib.hid (all_falsep (honT s) l k hlt2)
      have htok := HTO.out l[k] (List.getElem_mem hlt2)
      obtain ⟨t, ht⟩ : ∃ t, t = l[k] := ⟨_, rfl⟩
      rw [← ht] at e0 e1 e2 hs HQS HQF htok
      have hkb := Tr.ok_k htok
      obtain ⟨kn, hkn⟩ : ∃ kn : Nat, t.k = kn := ⟨t.k.toNat, by omega⟩
      obtain ⟨tu, htu⟩ : ∃ u, u = t.u := ⟨_, rfl⟩
      obtain ⟨tv, htv⟩ : ∃ v, v = t.v := ⟨_, rfl⟩
      have hte : t = ⟨kn, tu, tv⟩ := by rw [htu, htv, ← hkn]
      rw [hkn] at e0
      rw [← htu] at e1 hs
      rw [← htv] at e2
      have HTK := Lib.hid (show Tr.ok ⟨kn, tu, tv⟩ = true by rw [← hte]; exact htok)
      have HHT := Lib.hid (show honT s t = (s.mdI kn && isTr ⟨kn, tu, tv⟩ (s.tk kn)) by rw [hte]; rfl)
      have HPA := Lib.hid (hs.alloc (.cells #[.int .i64 kn, .slice at_ tu.length ct, .int .i64 tv] 25))
      have KA := Lib.hid (K3.out.alloc (.cells #[.int .i64 kn, .slice at_ tu.length ct, .int .i64 tv] 25))
      have LA := Lib.hid (L3.out.alloc (.cells #[.int .i64 kn, .slice at_ tu.length ct, .int .i64 tv] 25))
      have BA := Lib.hid (Blk.new wr 25 #[.int .i64 kn, .slice at_ tu.length ct, .int .i64 tv])
      clear hs ht htok hkb hkn htu htv hte
      cases hmd : s.mdI (kn : Int)
      · have HMD := Lib.hid hmd
        have HF := Lib.hid (show r = false by rw [HV.out, HQF.out (by rw [HHT.out, hmd]; rfl)])
        clear hmd
        obtain ⟨x0, x1⟩ := KA.out.box
        go_wp2_with fail
        first | go_region_with (go_at_call 85; refine (isMade_any s _ S a c a' c' kn KA.out.drew.2).mono ?_; rw [HMD.out]; rintro e w3 ⟨rfl, hb⟩) | fail
        all_goals
          have K4 := Lib.hid (KA.out.drew.step hb)
          clear hb
          go_wp2_with fail
          go_ret
          exact ⟨ret_bool HF.out.symm, K4.out.done⟩
      · have HMD := Lib.hid hmd
        obtain ⟨hk1, hk2, hk3⟩ := made_ok HOK.out hmd
        obtain ⟨bt, ot, atk, ctk, hta, hbt, _, t0, t1, t2, hts, _, _⟩ := AtS.elem KA.out.2.2 (Below.refl _ _) hk2
        subst hta
        rw [← tk_get hk2] at t0 t1 t2 hts
        have HK3 := Lib.hid hk3
        have HTS := Lib.hid hts
        obtain ⟨v, hv⟩ : ∃ v, v = isTr ⟨kn, tu, tv⟩ (s.tk kn) := ⟨_, rfl⟩
        have HVV := Lib.hid (show honT s t = v by rw [HHT.out, HMD.out, hv]; rfl)
        have HV1 := Lib.hid hv
        have HCC := Lib.hid (show ∀ w' : World, Below (wr.alloc (.cells #[.int .i64 kn, .slice at_ tu.length ct, .int .i64 tv] 25)).heap.size (wr.alloc (.cells #[.int .i64 kn, .slice at_ tu.length ct, .int .i64 tv] 25)) w' → (w'.cell? ⟨w.heap.size, 0, none⟩ = some (.slice a s.m.length c) ∧ w'.cell? ⟨w.heap.size, 1, none⟩ = some (.slice (some ⟨bt, ot, none⟩) s.t.length c') ∧ w'.cell? ⟨bt, ot + kn * 3, none⟩ = some (.int .i64 (s.tk kn).k) ∧ w'.cell? ⟨bt, ot + kn * 3 + 1, none⟩ = some (.int .i64 (s.tk kn).n) ∧ w'.cell? ⟨bt, ot + kn * 3 + 2, none⟩ = some (.slice atk (s.tk kn).ps.length ctk) ∧ w'.cell? ⟨wr.heap.size, 0, none⟩ = some (.int .i64 kn) ∧ w'.cell? ⟨wr.heap.size, 1, none⟩ = some (.slice at_ tu.length ct) ∧ w'.cell? ⟨wr.heap.size, 2, none⟩ = some (.int .i64 tv)) from fun w' hb =>
          ⟨(KA.out.step hb).box.1, (KA.out.step hb).box.2, (hb.cell (p := ⟨bt, ot + kn * 3, none⟩) hbt).trans t0, (hb.cell (p := ⟨bt, ot + kn * 3 + 1, none⟩) hbt).trans t1, (hb.cell (p := ⟨bt, ot + kn * 3 + 2, none⟩) hbt).trans t2,
            (BA.out.below hb BA.out.lt).three.1, (BA.out.below hb BA.out.lt).three.2.1, (BA.out.below hb BA.out.lt).three.2.2.1⟩)
        have hi1 : (kn : Int) < s.t.length := by omega
        have hi0 : (0 : Int) ≤ kn := by omega
        obtain ⟨x0, x1, t0', t1', t2', b0, b1, b2⟩ := HCC.out (wr.alloc (.cells #[.int .i64 kn, .slice at_ tu.length ct, .int .i64 tv] 25)).drew (Below.refl _ _).drew
        clear hmd hts hv hk3 t0 t1 t2 hbt
        go_wp2_with fail
        go_region_held3 (fun w' => w'.cell? ⟨w.heap.size, 0, none⟩ = some (.slice a s.m.length c) ∧ w'.cell? ⟨w.heap.size, 1, none⟩ = some (.slice (some ⟨bt, ot, none⟩) s.t.length c') ∧ w'.cell? ⟨bt, ot + kn * 3, none⟩ = some (.int .i64 (s.tk kn).k) ∧ w'.cell? ⟨bt, ot + kn * 3 + 1, none⟩ = some (.int .i64 (s.tk kn).n) ∧ w'.cell? ⟨bt, ot + kn * 3 + 2, none⟩ = some (.slice atk (s.tk kn).ps.length ctk) ∧ w'.cell? ⟨wr.heap.size, 0, none⟩ = some (.int .i64 kn) ∧ w'.cell? ⟨wr.heap.size, 1, none⟩ = some (.slice at_ tu.length ct) ∧ w'.cell? ⟨wr.heap.size, 2, none⟩ = some (.int .i64 tv)) (first | exact ⟨x0, x1, t0', t1', t2', b0, b1, b2⟩ | exact ⟨y0, y1, y2, y3, y4, y5, y6, y7⟩ | exact ⟨z0, z1, z2, z3, z4, z5, z6, z7⟩ | go_keep) (first | (go_at_call 85; refine (isMade_any s _ S a c (some ⟨bt, ot, none⟩) c' kn KA.out.drew.2).mono ?_; rw [HMD.out]; rintro e w3 ⟨rfl, hb⟩; obtain ⟨y0, y1, y2, y3, y4, y5, y6, y7⟩ := HCC.out w3 ((Below.refl _ _).drew.trans hb)) | (go_at_call 86; refine (isTraceOf_any _ S' S ⟨kn, tu, tv⟩ (s.tk kn) at_ atk ct ctk (HPA.out.drew.below hb) HTK.out (HTS.out.drew.below hb) HK3.out).mono ?_; rw [← HV1.out]; rintro e w4 ⟨rfl, hb4⟩; obtain ⟨z0, z1, z2, z3, z4, z5, z6, z7⟩ := HCC.out w4 (((Below.refl _ _).drew.trans hb).trans (hb4.mono hb.size))))
        have K4 := Lib.hid ((KA.out.drew.step hb).step hb4)
        have L4 := Lib.hid (((LA.out.drew).below hb).below hb4)
        clear hb hb4 x0 x1 t0' t1' t2' b0 b1 b2 y0 y1 y2 y3 y4 y5 y6 y7 z0 z1 z2 z3 z4 z5 z6 z7
        cases v
        · have HF := Lib.hid (show r = false by rw [HV.out, HQF.out HVV.out])
          go_wp2_with fail
          go_ret
          exact ⟨ret_bool HF.out.symm, K4.out.done⟩
        · go_wp2_with fail
          go_roundw
          case rel => exact ⟨k + 1, by omega, by go_num, by rw [HQS.out, HQ.out, HVV.out]; rfl, K4.out, L4.out⟩
          case measure => simp [intOf]; omega
    · have hf : r = true := by have := HQ.out; rw [List.take_of_length_le (by omega)] at this; rw [HV.out, this]
      have HF := Lib.hid hf
      clear hf
      go_wp2_with fail
      go_ret
      exact ⟨ret_bool HF.out.symm, K3.out.done⟩
end Go.Proofs.Ytjbggeeadodmpaa
