/- spec.TracesHonest -/
import Derived.Test.YtjakhiafkjaghaaGreatHonI
import Derived.Test.YtjakhiafkjaghaaGreatShOkS
import Derived.Deep.RegionHeld3
import Derived.BigQuiet
namespace Go.Proofs.YtjakhiafkjaghaaGreat
open Go.RowKit

set_option maxRecDepth 100000 in
set_option maxHeartbeats 4000000 in
theorem specHonest_any (s : Sh) (l : List Tr) (w : World) (S S' : Nat → Prop) (a : Option Addr) (c : Nat) (a' : Option Addr) (c' : Nat) (al : Option Addr) (cl : Nat) (h : ShAt w S s a c a' c') (hl : TrsAt w S' l al cl) (hn : nodesL s.t ≤ 1048576) :
    Calls Tryz.prog 20 #[.agg #[.slice a s.m.length c, .slice a' s.t.length c'], .slice al l.length cl] w fun e w' => e = .returned (.bool (honest s l)) ∧ Below w.heap.size w w' := by
  have hll : l.length ≤ 9223372036854775807 := RwAt.len hl
  have hlm : s.m.length ≤ 9223372036854775807 := by have := h.1.1; have := h.1.2.1; omega
  have hlt : s.t.length ≤ 9223372036854775807 := by have := h.2.1; have := h.2.2.1; omega
  have K0 := Lib.hid (Ks.start (ty := 35) h)
  have L0 := Lib.hid (hl.alloc (.cells #[.slice a s.m.length c, .slice a' s.t.length c'] 35))
  obtain ⟨r, hr⟩ : ∃ r, r = honest s l := ⟨_, rfl⟩
  have HR := Lib.hid (show r = ((s.ok && trsOk l) && l.all (honT s)) from hr)
  have HN := Lib.hid hn
  rw [← hr]
  clear h hl hr hn
  obtain ⟨x0, x1⟩ := K0.out.box
  go_enter Tryz.func20, Tryz.ntmps20
  go_wp2_with fail
  refine (specSheetOk_any s _ S a c a' c' K0.out.2 HN.out).mono ?_
  rintro e w1 ⟨rfl, hb⟩
  have K1 := Lib.hid (K0.out.step hb)
  have L1 := Lib.hid (L0.out.below hb)
  clear hb K0 L0 x0 x1
  cases hok : s.ok
  · have HF := Lib.hid (show r = false by rw [HR.out, hok]; rfl)
    clear hok
    go_wp2_with fail
    go_ret
    exact ⟨ret_bool HF.out.symm, K1.out.done⟩
  have HOK := Lib.hid hok
  clear hok
  go_wp2_with fail
  refine (specTrsOk_any _ S' l al cl L1.out).mono ?_
  rintro e w2 ⟨rfl, hb⟩
  have K2 := Lib.hid (K1.out.step hb)
  have L2 := Lib.hid (L1.out.below hb)
  clear hb K1 L1
  cases hto : trsOk l
  · have HF := Lib.hid (show r = false by rw [HR.out, hto]; simp)
    clear hto
    go_wp2_with fail
    go_ret
    exact ⟨ret_bool HF.out.symm, K2.out.done⟩
  have HTO := Lib.hid (trsOk_mem hto).2
  have HV := Lib.hid (show r = l.all (honT s) by rw [HR.out, hto, HOK.out]; rfl)
  clear hto
  go_wp2_with fail
  go_loopw [5] (fun i wr => ∃ k : Nat, k ≤ l.length ∧ i = .int .i64 k ∧ (l.take k).all (honT s) = true ∧ Ks S s a c a' c' 35 w wr ∧ TrsAt wr S' l al cl) (fun i _ => l.length - (intOf i).toNat)
  case atStart => exact ⟨0, by omega, rfl, rfl, K2.out, L2.out⟩
  case round =>
    obtain ⟨k, hk, rfl, hq, hK, hL⟩ := hrel
    have HQ := Lib.hid hq
    have K3 := Lib.hid hK
    have L3 := Lib.hid hL
    clear hq hK hL K2 L2
    by_cases hlt2 : k < l.length
    · obtain ⟨b, o, at_, ct, rfl, hbl, _, e0, e1, e2, hs, _, _⟩ := L3.out.get (Below.refl _ _) hlt2
      have HQS := Lib.hid (all_snocp (honT s) l k hlt2)
      have HQF := Lib.hid (all_falsep (honT s) l k hlt2)
      have htok := HTO.out l[k] (List.getElem_mem hlt2)
      obtain ⟨t, ht⟩ : ∃ t, t = l[k] := ⟨_, rfl⟩
      rw [← ht] at e0 e1 e2 hs HQS HQF htok
      have HTK := Lib.hid htok
      have HPA := Lib.hid hs
      have hkb := Tr.ok_k htok
      have HHT := Lib.hid (show honT s t = (s.mdI t.k && isTr t (s.tkI t.k)) from rfl)
      obtain ⟨kn, hkn⟩ : ∃ kn : Nat, t.k = kn := ⟨t.k.toNat, by omega⟩
      have HKN := Lib.hid hkn
      rw [hkn] at e0
      have hki : (0 : Int) ≤ kn := by omega
      have hkm : kn ≤ 9 := by omega
      clear hs ht htok hkb
      by_cases hkl : kn < s.m.length
      · have hge : decide (s.m.length ≤ kn) = false := decide_eq_false (by omega)
        obtain ⟨bm, om, hma, hbm, hcm⟩ := md_cell K3.out.2 hkl
        subst hma
        have hi2 : (kn : Int) < s.m.length := by omega
        cases hmd : s.mdI (kn : Int)
        · have HF := Lib.hid (show r = false by rw [HV.out, HQF.out (by rw [HHT.out, hkn, hmd]; rfl)])
          rw [hmd] at hcm
          obtain ⟨x0, x1⟩ := K3.out.box
          clear hmd hkn
          go_wp2_with fail
          go_quiet (fail)
          go_wp2_with fail
          go_ret
          exact ⟨ret_bool HF.out.symm, (K3.out.drewN _).done⟩
        · have HMD := Lib.hid hmd
          obtain ⟨hk1, hk2, hk3⟩ := made_ok HOK.out hmd
          obtain ⟨bt, ot, atk, ctk, hta, hbt, _, t0, t1, t2, hts, _, _⟩ := AtS.elem K3.out.2.2 (Below.refl _ _) hk2
          subst hta
          rw [← tk_get hk2] at t0 t1 t2 hts
          have HK3 := Lib.hid hk3
          have HTS := Lib.hid hts
          obtain ⟨v, hv⟩ : ∃ v, v = isTr t (s.tk kn) := ⟨_, rfl⟩
          have HVV := Lib.hid (show honT s t = v by rw [HHT.out, hkn, hmd, tkI_nat, hv]; rfl)
          have hu := Tr.ok_u HTK.out
          have hvk : vok (backF t.u) = true := backF_vok fun p hp => (hu p hp).2
          have HVK := Lib.hid (show ((s.tk kn).ok && vok (backF t.u)) = true by rw [hk3, hvk]; rfl)
          have HTF := Lib.hid (trOf_fine kn (s.tk kn) (backF t.u) hk3 hvk (decide_eq_true (by omega)))
          have HBI := Lib.hid (ok_mem (backF_mem fun p hp => (hu p hp).2))
          have HBL := Lib.hid (backF_len t.u)
          have HU := Lib.hid hu
          obtain ⟨ur, hur⟩ : ∃ ur, ur = trOf kn (s.tk kn) (vf (backF t.u)) := ⟨_, rfl⟩
          have HV1 := Lib.hid (show trEq ur t = v by rw [hv, hur, trEq_comm]; unfold isTr; rw [hkn])
          have HUR := Lib.hid hur
          rw [hmd] at hcm
          have HCC := Lib.hid (show ∀ w' : World, Below wr.heap.size wr w' → (w'.cell? ⟨w.heap.size, 0, none⟩ = some (.slice (some ⟨bm, om, none⟩) s.m.length c) ∧ w'.cell? ⟨w.heap.size, 1, none⟩ = some (.slice (some ⟨bt, ot, none⟩) s.t.length c') ∧ w'.cell? ⟨bm, om + kn, none⟩ = some (.bool true) ∧ w'.cell? ⟨bt, ot + kn * 3, none⟩ = some (.int .i64 (s.tk kn).k) ∧ w'.cell? ⟨bt, ot + kn * 3 + 1, none⟩ = some (.int .i64 (s.tk kn).n) ∧ w'.cell? ⟨bt, ot + kn * 3 + 2, none⟩ = some (.slice atk (s.tk kn).ps.length ctk) ∧ w'.cell? ⟨b, o + k * 3, none⟩ = some (.int .i64 kn) ∧ w'.cell? ⟨b, o + k * 3 + 1, none⟩ = some (.slice at_ t.u.length ct) ∧ w'.cell? ⟨b, o + k * 3 + 2, none⟩ = some (.int .i64 t.v)) from fun w' hb =>
            ⟨(K3.out.step hb).box.1, (K3.out.step hb).box.2, (hb.cell (p := ⟨bm, om + kn, none⟩) hbm).trans hcm, (hb.cell (p := ⟨bt, ot + kn * 3, none⟩) hbt).trans t0, (hb.cell (p := ⟨bt, ot + kn * 3 + 1, none⟩) hbt).trans t1, (hb.cell (p := ⟨bt, ot + kn * 3 + 2, none⟩) hbt).trans t2,
              (hb.cell (p := ⟨b, o + k * 3, none⟩) hbl).trans e0, (hb.cell (p := ⟨b, o + k * 3 + 1, none⟩) hbl).trans e1, (hb.cell (p := ⟨b, o + k * 3 + 2, none⟩) hbl).trans e2⟩)
          have HTE := Lib.hid (show t = ⟨kn, t.u, t.v⟩ by obtain ⟨q1, q2, q3⟩ := t; simp only at hkn; rw [hkn])
          have hi1 : (kn : Int) < s.t.length := by omega
          obtain ⟨x0, x1, c0, c1, c2, c3, c4, c5, c6⟩ := HCC.out wr.drew (Below.refl _ _).drew
          rw [HTE.out] at HV1
          rw [← hur] at HTF
          clear hmd hts hv hu hvk hur hk3 hkn hcm t0 t1 t2 e1 e2
          go_wp2_with fail
          go_region_held3 (fun w' => w'.cell? ⟨w.heap.size, 0, none⟩ = some (.slice (some ⟨bm, om, none⟩) s.m.length c) ∧ w'.cell? ⟨w.heap.size, 1, none⟩ = some (.slice (some ⟨bt, ot, none⟩) s.t.length c') ∧ w'.cell? ⟨bm, om + kn, none⟩ = some (.bool true) ∧ w'.cell? ⟨bt, ot + kn * 3, none⟩ = some (.int .i64 (s.tk kn).k) ∧ w'.cell? ⟨bt, ot + kn * 3 + 1, none⟩ = some (.int .i64 (s.tk kn).n) ∧ w'.cell? ⟨bt, ot + kn * 3 + 2, none⟩ = some (.slice atk (s.tk kn).ps.length ctk) ∧ w'.cell? ⟨b, o + k * 3, none⟩ = some (.int .i64 kn) ∧ w'.cell? ⟨b, o + k * 3 + 1, none⟩ = some (.slice at_ t.u.length ct) ∧ w'.cell? ⟨b, o + k * 3 + 2, none⟩ = some (.int .i64 t.v)) (first | exact ⟨x0, x1, c0, c1, c2, c3, c4, c5, c6⟩ | exact ⟨y0, y1, y2, y3, y4, y5, y6, y7, y8⟩ | exact ⟨z0, z1, z2, z3, z4, z5, z6, z7, z8⟩ | exact ⟨v0, v1, v2, v3, v4, v5, v6, v7, v8⟩ | go_keep) (first | (go_at_call 49; refine (l5Back_any _ S' ⟨kn, t.u, t.v⟩ at_ ct HPA.out.drew HU.out).mono ?_; rintro e w3 ⟨bv, rfl, hn3, hb3⟩; obtain ⟨av, cv, rfl, hia⟩ := hn3.at HBI.out; obtain ⟨y0, y1, y2, y3, y4, y5, y6, y7, y8⟩ := HCC.out w3 ((Below.refl _ _).drew.trans hb3)) | (go_at_call 48; refine (l5Of_any kn (s.tk kn) (backF t.u) w3 S _ atk av ctk cv (HTS.out.drew.below hb3) hia HVK.out).mono ?_; rw [← HUR.out]; rintro e w4 ⟨hb4, v4, rfl, hf4⟩; obtain ⟨au, cu, rfl, hpu⟩ := FRow.prs hf4 HTF.out; obtain ⟨z0, z1, z2, z3, z4, z5, z6, z7, z8⟩ := HCC.out w4 (((Below.refl _ _).drew.trans hb3).trans (hb4.mono hb3.size))) | (go_at_call 47; refine (l5Same_any w4 _ S' ur ⟨kn, t.u, t.v⟩ au at_ cu ct hpu ((HPA.out.drew.below hb3).below hb4)).mono ?_; rw [HV1.out]; rintro e w5 ⟨rfl, hb5⟩; obtain ⟨v0, v1, v2, v3, v4, v5, v6, v7, v8⟩ := HCC.out w5 ((((Below.refl _ _).drew.trans hb3).trans (hb4.mono hb3.size)).trans (hb5.mono (Nat.le_trans hb3.size hb4.size)))))
          have K4 := Lib.hid (((K3.out.drew.step hb3).step hb4).step hb5)
          have L4 := Lib.hid (((L3.out.drew.below hb3).below hb4).below hb5)
          clear hb3 hb4 hb5 hn3 hia hf4 hpu x0 x1 c0 c1 c2 c3 c4 c5 c6 y0 y1 y2 y3 y4 y5 y6 y7 y8 z0 z1 z2 z3 z4 z5 z6 z7 z8 v0 v1 v2 v3 v4 v5 v6 v7 v8
          cases v
          · have HF := Lib.hid (show r = false by rw [HV.out, HQF.out HVV.out])
            go_wp2_with fail
            go_ret
            exact ⟨ret_bool HF.out.symm, K4.out.done⟩
          · go_wp2_with fail
            go_roundw
            case rel => exact ⟨k + 1, by omega, by go_num, by rw [HQS.out, HQ.out, HVV.out]; rfl, K4.out, L4.out⟩
            case measure => simp [intOf]; omega
      · have hge : decide (s.m.length ≤ kn) = true := decide_eq_true (by omega)
        have hmd : s.mdI (kn : Int) = false := by
          cases hx : s.mdI (kn : Int)
          · rfl
          · have := mdI_bd hx; omega
        have HF := Lib.hid (show r = false by rw [HV.out, HQF.out (by rw [HHT.out, hkn, hmd]; rfl)])
        obtain ⟨x0, x1⟩ := K3.out.box
        clear hmd hkn
        go_wp2_with fail
        go_quiet (fail)
        go_wp2_with fail
        go_ret
        exact ⟨ret_bool HF.out.symm, (K3.out.drewN _).done⟩
    · have hf : r = true := by have := HQ.out; rw [List.take_of_length_le (by omega)] at this; rw [HV.out, this]
      have HF := Lib.hid hf
      clear hf
      go_wp2_with fail
      go_ret
      exact ⟨ret_bool HF.out.symm, K3.out.done⟩
end Go.Proofs.YtjakhiafkjaghaaGreat
