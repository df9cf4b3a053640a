/- several texts in one: TrI, TrH, TrS2 -/
import Derived.Test.YtjbggeeadodmpaaTr1
import Derived.Test.YtjbggeeadodmpaaBs2
import Derived.Test.YtjbggeeadodmpaaBs1
import Derived.BigQuiet
import Derived.Deep.RegionWith
import Derived.Deep.RegionLaw
/- impl.isKey, impl.traceOk, impl.TracesOk -/
namespace Go.Proofs.Ytjbggeeadodmpaa
open Go.RowKit

theorem isKey_any (w : World) (n : Int) : Calls Try.prog 68 #[.int .i64 n] w fun e w' => e = .returned (.bool (kin n)) ∧ w = w' := by
  by_cases h0 : 0 ≤ n
  · have d0 : decide ((0 : Int) ≤ n) = true := decide_eq_true h0
    have hv : kin n = decide (n < 10) := by unfold kin; rw [Bool.eq_iff_iff, decide_eq_true_eq, decide_eq_true_eq]; omega
    rw [hv]
    clear hv
    go_enter Try.func68, Try.ntmps68
    go_wp2_with fail
    go_ret
    exact ⟨rfl, rfl⟩
  · have d0 : decide ((0 : Int) ≤ n) = false := decide_eq_false h0
    have hv : kin n = false := by unfold kin; exact decide_eq_false (by omega)
    rw [hv]
    clear hv
    go_enter Try.func68, Try.ntmps68
    go_wp2_with fail
    go_ret
    exact ⟨rfl, rfl⟩

theorem tru_new (w : World) : TruAt (w.alloc (.cells #[.bool false, .bool false, .bool false, .bool false, .bool false, .bool false, .bool false, .bool false, .bool false, .bool false] 96)) w.heap.size 96 (fun _ => false) :=
  ⟨_, Blk.new w _ _, rfl, fun i hi => by
    match i, hi with
    | 0, _ => rfl
    | 1, _ => rfl
    | 2, _ => rfl
    | 3, _ => rfl
    | 4, _ => rfl
    | 5, _ => rfl
    | 6, _ => rfl
    | 7, _ => rfl
    | 8, _ => rfl
    | 9, _ => rfl⟩

set_option maxRecDepth 100000 in
set_option maxHeartbeats 2000000 in
theorem traceOk_any (w : World) (S : Nat → Prop) (t : Tr) (a : Option Addr) (c : Nat) (h : PrsAt w S t.u a c) :
    Calls Try.prog 33 #[.agg #[.int .i64 t.k, .slice a t.u.length c, .int .i64 t.v]] w fun e w' => e = .returned (.bool t.ok) ∧ Below w.heap.size w w' := by
  have hlen : t.u.length ≤ 9223372036854775807 := RwAt.len h
  have K0 := Lib.hid (Kt.start (ty := 25) h.lim)
  clear h
  obtain ⟨x0, x1, x2⟩ := K0.out.box
  cases hk : kin t.k
  · have HK := Lib.hid hk
    have hr : t.ok = false := by unfold Tr.ok; rw [hk]; rfl
    rw [hr]
    clear hr hk
    go_enter Try.func33, Try.ntmps33
    go_wp2_with (go_at_call 68; refine (isKey_any _ _).mono ?_; rw [HK.out]; rintro e w' ⟨rfl, rfl⟩)
    go_ret
    exact ⟨rfl, K0.out.done⟩
  cases hv : vin t.v
  · have HK := Lib.hid hk
    have HV := Lib.hid hv
    have hr : t.ok = false := by unfold Tr.ok; rw [hv]; simp
    rw [hr]
    clear hr hk hv
    go_enter Try.func33, Try.ntmps33
    go_wp2_with (first | (go_at_call 68; refine (isKey_any _ _).mono ?_; rw [HK.out]; rintro e w' ⟨rfl, rfl⟩) | (go_at_call 69; refine (isValue_any _ _).mono ?_; rw [HV.out]; rintro e w' ⟨rfl, rfl⟩))
    go_ret
    exact ⟨rfl, K0.out.done⟩
  · have HK := Lib.hid hk
    have HV := Lib.hid hv
    have hr : t.ok = (t.u.all pin && nd (keysOf t.u)) := by unfold Tr.ok; rw [hk, hv]; rfl
    have HR := Lib.hid hr
    obtain ⟨l, hl⟩ : ∃ l, l = t.u := ⟨_, rfl⟩
    have HL := Lib.hid hl
    rw [← hl] at HR
    have hll : l.length ≤ 9223372036854775807 := by rw [hl]; exact hlen
    clear hr hk hv hlen
    have HT0 := Lib.hid (tru_new (w.alloc (.cells #[.int .i64 t.k, .slice a t.u.length c, .int .i64 t.v] 25)))
    have K1 := Lib.hid (K0.out.alloc (.cells #[.bool false, .bool false, .bool false, .bool false, .bool false, .bool false, .bool false, .bool false, .bool false, .bool false] 96))
    obtain ⟨W, hW⟩ : ∃ W, W = (w.alloc (.cells #[.int .i64 t.k, .slice a t.u.length c, .int .i64 t.v] 25)).alloc (.cells #[.bool false, .bool false, .bool false, .bool false, .bool false, .bool false, .bool false, .bool false, .bool false, .bool false] 96) := ⟨_, rfl⟩
    have HWW := Lib.hid hW
    rw [← hW] at HT0 K1
    have hWs : W.heap.size = w.heap.size + 2 := by rw [hW]; simp
    clear hW
    go_enter Try.func33, Try.ntmps33
    go_wp2_with (first | (go_at_call 68; refine (isKey_any _ _).mono ?_; rw [HK.out]; rintro e w' ⟨rfl, rfl⟩) | (go_at_call 69; refine (isValue_any _ _).mono ?_; rw [HV.out]; rintro e w' ⟨rfl, rfl⟩))
    rw [← HWW.out]
    have HTW := Lib.hid (show TruAt W (w.heap.size + 1) 96 (fun _ => false) by have := HT0.out; simpa using this)
    have hpl : PrsAt W (fun b => S b ∧ b < w.heap.size) l a c := by rw [HL.out]; exact K1.out.2
    have HP := Lib.hid hpl
    rw [← hl]
    clear K0 x0 x1 x2 HT0 hl hpl
    go_loopw [19] (fun i wr => ∃ k : Nat, k ≤ l.length ∧ i = .int .i64 k ∧ (l.take k).all pin = true ∧ nd (keysOf (l.take k)) = true ∧ TruAt wr (w.heap.size + 1) 96 (fun i => decide ((i : Int) ∈ keysOf (l.take k))) ∧ Only (w.heap.size + 1) W wr) (fun i _ => l.length - (intOf i).toNat)
    case atStart => exact ⟨0, by omega, rfl, rfl, rfl, HTW.out.congr (fun i _ => by simp [keysOf]), Only.refl _ _⟩
    case round =>
      obtain ⟨k, hk, rfl, hq, hn, htr, ho⟩ := hrel
      have HQ := Lib.hid hq
      have HN := Lib.hid hn
      have HTR := Lib.hid htr
      have HO := Lib.hid ho
      have hwr := ho.size
      clear hq hn htr ho
      by_cases hlt : k < l.length
      · have hpw : PrsAt wr (fun b => S b ∧ b < w.heap.size) l a c := HP.out.keep (fun _ h => h) (fun b hb hl => HO.out.block b hl (by intro e; injection e with e; omega))
        obtain ⟨b, o, rfl, hbl, _, e0, e1, _, _⟩ := hpw.get (Below.refl _ _) hlt
        have HQS := Lib.hid (all_snocp pin l k hlt)
        have HQF := Lib.hid (all_falsep pin l k hlt)
        have HNS := Lib.hid (keysOf_snoc hlt)
        have HND := Lib.hid (nd_snoc (keysOf (l.take k)) l[k].1)
        have hnf : l[k].1 ∈ keysOf (l.take k) → nd (keysOf l) = false := fun hm => by
          have hkl : k < (keysOf l).length := by simpa [keysOf] using hlt
          refine nd_false hkl ?_
          simpa [keysOf, List.map_take] using hm
        have HNF := Lib.hid hnf
        obtain ⟨p, hp⟩ : ∃ p, p = l[k] := ⟨_, rfl⟩
        rw [← hp] at e0 e1 HQS HQF HNS HND HNF
        obtain ⟨p1, p2⟩ := p
        simp only at e0 e1 HNS HND HNF
        clear hp hpw hnf
        have HPI := Lib.hid (show pin (p1, p2) = (kin p1 && vin p2) from rfl)
        have HBN := Lib.hid (Blk.new wr 63 #[.int .i64 p1, .int .i64 p2])
        have HOA := Lib.hid (HO.out.alloc (.cells #[.int .i64 p1, .int .i64 p2] 63))
        have HTA := Lib.hid (HTR.out.alloc (.cells #[.int .i64 p1, .int .i64 p2] 63))
        have HBE := Lib.hid (show Below w.heap.size w (wr.alloc (.cells #[.int .i64 p1, .int .i64 p2] 63)) from K1.out.done.trans ⟨HOA.out.os, HOA.out.tape, HOA.out.output, HOA.out.size, fun b hb => HOA.out.block b (by omega) (by intro e; injection e with e; omega)⟩)
        cases hki : kin p1
        · have HKI := Lib.hid hki
          have hf : t.ok = false := by rw [HR.out, HQF.out (by rw [HPI.out, hki]; rfl)]; rfl
          have HF := Lib.hid hf
          clear hki hf
          go_wp2_with (go_at_call 68; refine (isKey_any _ _).mono ?_; rw [HKI.out]; rintro e w' ⟨rfl, rfl⟩)
          go_ret
          exact ⟨ret_bool HF.out.symm, HBE.out⟩
        cases hvi : vin p2
        · have HKI := Lib.hid hki
          have HVI := Lib.hid hvi
          have hf : t.ok = false := by rw [HR.out, HQF.out (by rw [HPI.out, hvi]; simp)]; rfl
          have HF := Lib.hid hf
          clear hki hvi hf
          go_wp2_with (first | (go_at_call 68; refine (isKey_any _ _).mono ?_; rw [HKI.out]; rintro e w' ⟨rfl, rfl⟩) | (go_at_call 69; refine (isValue_any _ _).mono ?_; rw [HVI.out]; rintro e w' ⟨rfl, rfl⟩))
          go_ret
          exact ⟨ret_bool HF.out.symm, HBE.out⟩
        · have HKI := Lib.hid hki
          have HVI := Lib.hid hvi
          have hpr : 0 ≤ p1 ∧ p1 ≤ 9 := by unfold kin at hki; exact of_decide_eq_true hki
          obtain ⟨q, rfl⟩ : ∃ q : Nat, p1 = q := ⟨p1.toNat, by omega⟩
          have hq10 : q < 10 := by omega
          have hq10i : (q : Int) < 10 := by omega
          have hq0i : (0 : Int) ≤ (q : Int) := by omega
          obtain ⟨hcell, hfz⟩ := HTA.out.cell hq10
          clear hki hvi
          by_cases hm : (q : Int) ∈ keysOf (l.take k)
          · have hf : t.ok = false := by rw [HR.out, HNF.out hm]; simp
            have HF := Lib.hid hf
            rw [decide_eq_true hm] at hcell
            clear hf hm
            go_wp2_with (first | (go_at_call 68; refine (isKey_any _ _).mono ?_; rw [HKI.out]; rintro e w' ⟨rfl, rfl⟩) | (go_at_call 69; refine (isValue_any _ _).mono ?_; rw [HVI.out]; rintro e w' ⟨rfl, rfl⟩))
            go_ret
            exact ⟨ret_bool HF.out.symm, HBE.out⟩
          · have HM := Lib.hid hm
            rw [decide_eq_false hm] at hcell
            have HS2 := Lib.hid ((HTA.out.set_ q).congr (m' := fun i => decide ((i : Int) ∈ keysOf (l.take (k + 1)))) (fun i _ => by
              rw [HNS.out, Bool.eq_iff_iff]
              simp only [Bool.or_eq_true, decide_eq_true_eq, List.mem_append, List.mem_singleton]
              constructor
              · rintro (h | h)
                · exact .inl h
                · exact .inr (by omega)
              · rintro (h | h)
                · exact .inl h
                · exact .inr (by omega)))
            have HO2 := Lib.hid (HOA.out.set (p := ⟨w.heap.size + 1, q, none⟩) (.inl rfl) (.bool true))
            clear hm
            go_wp2_with (first | (go_at_call 68; refine (isKey_any _ _).mono ?_; rw [HKI.out]; rintro e w' ⟨rfl, rfl⟩) | (go_at_call 69; refine (isValue_any _ _).mono ?_; rw [HVI.out]; rintro e w' ⟨rfl, rfl⟩))
            go_roundw
            case rel => exact ⟨k + 1, by omega, by go_num, by rw [HQS.out, HQ.out, HPI.out, HKI.out, HVI.out]; rfl, by rw [HNS.out, HND.out, HN.out, decide_eq_false HM.out]; rfl, HS2.out, HO2.out⟩
            case measure => simp [intOf]; omega
      · have hf : t.ok = true := by
          have h1 := HQ.out
          have h2 := HN.out
          rw [List.take_of_length_le (by omega)] at h1 h2
          rw [HR.out, h1, h2]; rfl
        have HF := Lib.hid hf
        have HBE := Lib.hid (show Below w.heap.size w wr from K1.out.done.trans ⟨HO.out.os, HO.out.tape, HO.out.output, HO.out.size, fun b hb => HO.out.block b (by omega) (by intro e; injection e with e; omega)⟩)
        clear hf
        go_wp2_with fail
        go_ret
        exact ⟨ret_bool HF.out.symm, HBE.out⟩

set_option maxHeartbeats 1000000 in
theorem tracesOk_any (w : World) (S : Nat → Prop) (l : List Tr) (a : Option Addr) (c : Nat) (h : TrsAt w S l a c) :
    Calls Try.prog 12 #[.slice a l.length c] w fun e w' => e = .returned (.bool (trsOk l)) ∧ Below w.heap.size w w' := by
  have hlen : l.length ≤ 9223372036854775807 := RwAt.len h
  have H := Lib.hid h
  clear h
  by_cases h60 : 60 < l.length
  · have hv : trsOk l = false := by unfold trsOk; rw [decide_eq_false (by omega)]; rfl
    rw [hv]; clear hv
    go_enter Try.func12, Try.ntmps12
    go_wp2_with fail
    go_ret
    exact ⟨rfl, Below.refl _ _⟩
  · have hv : trsOk l = l.all Tr.ok := by unfold trsOk; rw [decide_eq_true (by omega)]; rfl
    have HV := Lib.hid hv
    clear hv
    go_enter Try.func12, Try.ntmps12
    go_wp2_with fail
    go_loopw [10] (fun i wr => ∃ k : Nat, k ≤ l.length ∧ i = .int .i64 k ∧ (l.take k).all Tr.ok = true ∧ Below w.heap.size w wr) (fun i _ => l.length - (intOf i).toNat)
    case atStart => exact ⟨0, by omega, rfl, rfl, Below.refl _ _⟩
    case round =>
      obtain ⟨k, hk, rfl, hq, hb⟩ := hrel
      have HQ := Lib.hid hq
      have HB := Lib.hid hb
      clear hq hb
      by_cases hlt : k < l.length
      · obtain ⟨b, o, a', c', rfl, hbl, _, e0, e1, e2, hs, _, _⟩ := H.out.get HB.out hlt
        have HQS := Lib.hid (all_snocp Tr.ok l k hlt)
        have HQF := Lib.hid (all_falsep Tr.ok l k hlt)
        obtain ⟨t, ht⟩ : ∃ t, t = l[k] := ⟨_, rfl⟩
        rw [← ht] at e0 e1 e2 hs HQS HQF
        have HS := Lib.hid hs
        clear hs ht
        have HA := Lib.hid (HS.out.alloc (.cells #[.int .i64 t.k, .slice a' t.u.length c', .int .i64 t.v] 25))
        have HBA := Lib.hid (HB.out.alloc HB.out.size (.cells #[.int .i64 t.k, .slice a' t.u.length c', .int .i64 t.v] 25))
        have hwr := HB.out.size
        go_wp2_with fail
        refine (traceOk_any _ S t a' c' HA.out).mono ?_
        rintro e w1 ⟨rfl, hb⟩
        have HB1 := Lib.hid (HBA.out.trans (hb.mono (by simp; omega)))
        clear hb
        cases hok : t.ok
        · have hf : trsOk l = false := by rw [HV.out, HQF.out hok]
          have HF := Lib.hid hf
          clear hf hok
          go_wp2_with fail
          go_ret
          exact ⟨ret_bool HF.out.symm, HB1.out⟩
        · have HOK := Lib.hid hok
          clear hok
          go_wp2_with fail
          go_roundw
          case rel => exact ⟨k + 1, by omega, by go_num, by rw [HQS.out, HQ.out, HOK.out]; rfl, HB1.out⟩
          case measure => simp [intOf]; omega
      · have hf : trsOk l = true := by have := HQ.out; rw [List.take_of_length_le (by omega)] at this; rw [HV.out, this]
        have HF := Lib.hid hf
        clear hf
        go_wp2_with fail
        go_ret
        exact ⟨ret_bool HF.out.symm, HB.out⟩
end Go.Proofs.Ytjbggeeadodmpaa
/- impl.holdsFor with values of keys; impl.TraceHolds -/
namespace Go.Proofs.Ytjbggeeadodmpaa
open Go.RowKit

set_option maxHeartbeats 2000000 in
theorem holdsFrom_any (w : World) (S S2 : Nat → Prop) (t : Tr) (a a2 : Option Addr) (c c2 g : Nat) (y : List Int) (h : PrsAt w S t.u a c) (hok : t.ok = true) (hy : IntsAt w S2 y a2 c2) (hg : Blk w g 26 #[.slice a2 y.length c2]) :
    Calls Try.prog 35 #[.agg #[.int .i64 t.k, .slice a t.u.length c, .int .i64 t.v], .func (.func 70) #[] #[.pointer (some ⟨g, 0, none⟩)]] w fun e w' => e = .returned (.bool (t.holds (vf y))) ∧ Below w.heap.size w w' := by
  obtain ⟨tk, l, tv⟩ := t
  simp only at *
  have hll : l.length ≤ 9223372036854775807 := RwAt.len h
  have hkb : ∀ p ∈ l, 0 ≤ p.1 ∧ p.1 ≤ 9 := fun p hp => (((Tr.ok_iff _).1 hok).2.2.1 p hp).1
  have HKB := Lib.hid hkb
  have K0 := Lib.hid (Kt.start (t := ⟨tk, l, tv⟩) (ty := 25) h.lim)
  have HG := Lib.hid (hg.alloc (.cells #[.int .i64 tk, .slice a l.length c, .int .i64 tv] 25))
  have HM := Lib.hid (hy.alloc (.cells #[.int .i64 tk, .slice a l.length c, .int .i64 tv] 25))
  have hgl := hg.lt
  clear h hok hkb hy hg
  obtain ⟨x0, x1, x2⟩ := K0.out.box
  have HR := Lib.hid (show Tr.holds (vf y) ⟨tk, l, tv⟩ = l.all (fun p => decide (vf y p.1 = p.2)) from rfl)
  have HP := Lib.hid (show PrsAt _ (fun b => S b ∧ b < w.heap.size) l a c from K0.out.2)
  have hne0 : w.heap.size + 1 ≤ (w.alloc (.cells #[.int .i64 tk, .slice a l.length c, .int .i64 tv] 25)).heap.size := by simp
  have HBE := Lib.hid (K0.out.done)
  go_enter Try.func35, Try.ntmps35
  go_wp2_with fail
  obtain ⟨W, hW⟩ : ∃ W, W = w.alloc (.cells #[.int .i64 tk, .slice a l.length c, .int .i64 tv] 25) := ⟨_, rfl⟩
  have hgW : g < W.heap.size := by rw [hW]; simp; omega
  rw [← hW] at HG HM HP HBE hne0 x0 x1 x2 ⊢
  clear K0 hW x0 x1 x2
  go_loopw [10] (fun i wr => ∃ k : Nat, k ≤ l.length ∧ i = .int .i64 k ∧ (l.take k).all (fun p => decide (vf y p.1 = p.2)) = true ∧ Below W.heap.size W wr) (fun i _ => l.length - (intOf i).toNat)
  case atStart => exact ⟨0, by omega, rfl, rfl, Below.refl _ _⟩
  case round =>
    obtain ⟨k, hk, rfl, hq, hb⟩ := hrel
    have HB := Lib.hid hb
    have HQ := Lib.hid hq
    clear hb hq
    by_cases hlt : k < l.length
    · obtain ⟨b, o, rfl, hbl, _, e0, e1, _, _⟩ := HP.out.get HB.out hlt
      have hkk := HKB.out l[k] (List.getElem_mem hlt)
      have HSN := Lib.hid (all_snocp (fun p => decide (vf y p.1 = p.2)) l k hlt)
      have HFA := Lib.hid (all_falsep (fun p => decide (vf y p.1 = p.2)) l k hlt)
      obtain ⟨p, hp⟩ : ∃ p, p = l[k] := ⟨_, rfl⟩
      rw [← hp] at e0 e1 hkk HSN HFA
      obtain ⟨key, v⟩ := p
      simp only at e0 e1 hkk HSN HFA
      obtain ⟨u, hu⟩ : ∃ u, u = vf y key := ⟨_, rfl⟩
      have HUU := Lib.hid hu
      rw [← hu] at HSN HFA
      clear hp hu
      have HG' := Lib.hid ((HG.out.below HB.out hgW).alloc (.cells #[.int .i64 key, .int .i64 v] 63))
      have HM' := Lib.hid ((HM.out.below HB.out).alloc (.cells #[.int .i64 key, .int .i64 v] 63))
      have HB' := Lib.hid (HB.out.alloc HB.out.size (.cells #[.int .i64 key, .int .i64 v] 63))
      have HQU := Lib.hid (show ∀ n, Calls Try.prog 70 #[.int .i64 key, .pointer (some ⟨g, 0, none⟩)] ((wr.alloc (.cells #[.int .i64 key, .int .i64 v] 63)).drewN n) fun e w' => e = .returned (.int .i64 u) ∧ w' = (wr.alloc (.cells #[.int .i64 key, .int .i64 v] 63)).drewN n from
        fun n => by
          have h := fetch_any _ _ y a2 c2 g (HM'.out.drewN n) (HG'.out.drewN n) key hkk.1 (by omega)
          rw [← HUU.out] at h
          exact h.mono fun _ _ ⟨he, hw⟩ => ⟨he, hw.symm⟩)
      by_cases huv : u = v
      · have hne : (u != v) = false := by simpa using huv
        have hdt : decide (u = v) = true := decide_eq_true huv
        have HDT := Lib.hid hdt
        clear hdt huv
        go_wp2_with fail
        go_quiet ((go_at_call 70; exact Calls.quiet_of_same (HQU.out _)))
        go_wp2_with fail
        go_roundw
        case rel => exact ⟨k + 1, by omega, by go_num, by rw [HSN.out, HQ.out, HDT.out]; rfl, below_drewN HB'.out _⟩
        case measure => simp [intOf]; omega
      · have hne : (u != v) = true := by simpa using huv
        have hdt : decide (u = v) = false := decide_eq_false huv
        have HDT := Lib.hid hdt
        clear hdt huv
        go_wp2_with fail
        go_quiet ((go_at_call 70; exact Calls.quiet_of_same (HQU.out _)))
        go_wp2_with fail
        go_ret
        exact ⟨ret_bool (by rw [HR.out, HFA.out HDT.out]), HBE.out.trans ((below_drewN HB'.out _).mono (by omega))⟩
    · have hf : l.all (fun p => decide (vf y p.1 = p.2)) = true := by have := HQ.out; rwa [List.take_of_length_le (by omega)] at this
      have HF' := Lib.hid hf
      clear hf
      go_wp2_with fail
      go_ret
      exact ⟨ret_bool (by rw [HR.out, HF'.out]), HBE.out.trans (HB.out.mono (by omega))⟩

set_option maxHeartbeats 2000000 in
theorem implHolds_any (w : World) (S S2 : Nat → Prop) (t : Tr) (a a2 : Option Addr) (c c2 : Nat) (y : List Int) (h : PrsAt w S t.u a c) (hy : IntsAt w S2 y a2 c2) :
    Calls Try.prog 9 #[.agg #[.int .i64 t.k, .slice a t.u.length c, .int .i64 t.v], .slice a2 y.length c2] w fun e w' => e = .returned (.bool (trH t y)) ∧ Below w.heap.size w w' := by
  have hll : t.u.length ≤ 9223372036854775807 := RwAt.len h
  have K0 := Lib.hid (Kt.start (ty := 25) h)
  have L0 := Lib.hid (hy.alloc (.cells #[.int .i64 t.k, .slice a t.u.length c, .int .i64 t.v] 25))
  clear h hy
  obtain ⟨x0, x1, x2⟩ := K0.out.box
  cases hk : t.ok
  · have HK := Lib.hid hk
    have hr : trH t y = false := by unfold trH; rw [hk]; rfl
    rw [hr]
    clear hr hk
    go_enter Try.func9, Try.ntmps9
    go_wp2_with fail
    first | go_region_with (go_at_call 33; refine (traceOk_any _ S t a c ?_).mono ?_; exact K0.out.drew.2; rw [HK.out]; rintro e w1 ⟨rfl, hb⟩) | fail
    all_goals
      have K1 := Lib.hid (K0.out.drew.step hb)
      clear hb
      go_wp2_with fail
      go_ret
      exact ⟨rfl, K1.out.done⟩
  cases hv : vok y
  · have HK := Lib.hid hk
    have HV := Lib.hid hv
    have hr : trH t y = false := by unfold trH; rw [hk, hv]; rfl
    rw [hr]
    clear hr hk hv
    go_enter Try.func9, Try.ntmps9
    go_wp2_with fail
    first | go_region_with (first | (go_at_call 33; refine (traceOk_any _ S t a c ?_).mono ?_; exact K0.out.drew.2; rw [HK.out]; rintro e w1 ⟨rfl, hb⟩) | (go_at_call 34; refine (implVals_any _ S2 y a2 c2 (L0.out.drew.below hb)).mono ?_; rw [HV.out]; rintro e w2 ⟨rfl, rfl⟩)) | fail
    all_goals
      have K1 := Lib.hid (K0.out.drew.step hb)
      clear hb
      go_wp2_with fail
      go_ret
      exact ⟨rfl, K1.out.done⟩
  · have HK := Lib.hid hk
    have HV := Lib.hid hv
    have hr : trH t y = t.holds (vf y) := by unfold trH; rw [hk, hv]; rfl
    obtain ⟨r, hrr⟩ : ∃ r, r = t.holds (vf y) := ⟨_, rfl⟩
    have HR := Lib.hid hrr
    rw [hr, ← hrr]
    clear hr hk hv hrr
    go_enter Try.func9, Try.ntmps9
    go_wp2_with fail
    first | go_region_with (first | (go_at_call 33; refine (traceOk_any _ S t a c ?_).mono ?_; exact K0.out.drew.2; rw [HK.out]; rintro e w1 ⟨rfl, hb⟩; obtain ⟨z0, z1, z2⟩ := (K0.out.drew.step hb).box) | (go_at_call 34; refine (implVals_any _ S2 y a2 c2 (L0.out.drew.below hb)).mono ?_; rw [HV.out]; rintro e w2 ⟨rfl, rfl⟩) | (go_at_call 36; refine (fetchFrom_any _ _ _ _).mono ?_; rintro e w3 ⟨rfl, rfl⟩; obtain ⟨y0, y1, y2⟩ := ((K0.out.drew.step hb).alloc (.cells #[.slice a2 y.length c2] 26)).box) | (go_at_call 35; refine (holdsFrom_any _ S S2 t a a2 c c2 _ y ((K0.out.drew.step hb).alloc _).2 HK.out ((L0.out.drew.below hb).alloc _) (Blk.new _ _ _)).mono ?_; rw [← HR.out]; rintro e w4 ⟨rfl, hb4⟩)) | fail
    all_goals
      have K1 := Lib.hid (((K0.out.drew.step hb).alloc (.cells #[.slice a2 y.length c2] 26)).step hb4)
      clear hb hb4
      go_wp2_with fail
      go_ret
      exact ⟨rfl, K1.out.done⟩
end Go.Proofs.Ytjbggeeadodmpaa
/- spec.l5Holds, spec.l5One, spec.TraceHolds, spec.TracesOk -/
namespace Go.Proofs.Ytjbggeeadodmpaa
open Go.RowKit

theorem own_shape {w : World} {base sz n : Nat} {e : TypeId} {v : Value} {xs : List Value} (h : w.ownsRow base e sz v n xs) : ∃ a c, v = .slice a n c := by
  obtain ⟨_, ⟨rfl, rfl⟩ | ⟨g, cap, cur, rfl, _⟩⟩ := h
  · exact ⟨none, 0, rfl⟩
  · exact ⟨_, cap, rfl⟩

set_option maxHeartbeats 2000000 in
theorem l5Holds_any (w : World) (S S2 : Nat → Prop) (t : Tr) (a a2 : Option Addr) (c c2 : Nat) (y : List Int) (h : PrsAt w S t.u a c) (hok : t.ok = true) (hy : IntsAt w S2 y a2 c2) :
    Calls Try.prog 39 #[.agg #[.int .i64 t.k, .slice a t.u.length c, .int .i64 t.v], .slice a2 y.length c2] w fun e w' => e = .returned (.bool (t.holds (vf y))) ∧ Below w.heap.size w w' := by
  obtain ⟨tk, l, tv⟩ := t
  simp only at *
  have hll : l.length ≤ 9223372036854775807 := RwAt.len h
  have hkb : ∀ p ∈ l, 0 ≤ p.1 ∧ p.1 ≤ 9 := fun p hp => (((Tr.ok_iff _).1 hok).2.2.1 p hp).1
  have HKB := Lib.hid hkb
  have K0 := Lib.hid (Kt.start (t := ⟨tk, l, tv⟩) (ty := 25) h)
  have L0 := Lib.hid (hy.alloc (.cells #[.int .i64 tk, .slice a l.length c, .int .i64 tv] 25))
  have HR := Lib.hid (show Tr.holds (vf y) ⟨tk, l, tv⟩ = l.all (fun p => decide (vf y p.1 = p.2)) from rfl)
  have HSZ := Lib.hid K0.out.size
  clear h hok hkb hy
  obtain ⟨W, hW⟩ : ∃ W, W = w.alloc (.cells #[.int .i64 tk, .slice a l.length c, .int .i64 tv] 25) := ⟨_, rfl⟩
  have HWW := Lib.hid hW
  rw [← hW] at K0 L0 HSZ
  clear hW
  go_enter Try.func39, Try.ntmps39
  go_wp2_with fail
  rw [← HWW.out]
  go_loopw [5] (fun i wr => ∃ k : Nat, k ≤ l.length ∧ i = .int .i64 k ∧ (l.take k).all (fun p => decide (vf y p.1 = p.2)) = true ∧ Below W.heap.size W wr) (fun i _ => l.length - (intOf i).toNat)
  case atStart => exact ⟨0, by omega, rfl, rfl, Below.refl _ _⟩
  case round =>
    obtain ⟨k, hk, rfl, hq, hb⟩ := hrel
    have HB := Lib.hid hb
    have HQ := Lib.hid hq
    have hK1 := K0.out.step hb
    obtain ⟨x0, x1, x2⟩ := hK1.box
    have HD := Lib.hid hK1.done
    simp only at x0 x1 x2
    clear hb hq hK1
    by_cases hlt : k < l.length
    · obtain ⟨b, o, rfl, hbl, _, e0, e1, _, _⟩ := PrsAt.get (l := l) K0.out.2 HB.out hlt
      have hkk := HKB.out l[k] (List.getElem_mem hlt)
      have HSN := Lib.hid (all_snocp (fun p => decide (vf y p.1 = p.2)) l k hlt)
      have HFA := Lib.hid (all_falsep (fun p => decide (vf y p.1 = p.2)) l k hlt)
      obtain ⟨p, hp⟩ : ∃ p, p = l[k] := ⟨_, rfl⟩
      rw [← hp] at e0 e1 hkk HSN HFA
      obtain ⟨key, v⟩ := p
      simp only at e0 e1 hkk HSN HFA
      obtain ⟨u, hu⟩ : ∃ u, u = vf y key := ⟨_, rfl⟩
      have HUU := Lib.hid hu
      rw [← hu] at HSN HFA
      clear hp hu
      have HQU := Lib.hid (show ∀ n, Calls Try.prog 73 #[.slice a2 y.length c2, .int .i64 key] (wr.drewN n) fun e w' => e = .returned (.int .i64 u) ∧ w' = wr.drewN n from
        fun n => by
          have h := of_any _ _ y a2 c2 ((L0.out.below HB.out).drewN n) key hkk.1 (by omega)
          rw [← HUU.out] at h
          exact h.mono fun _ _ ⟨he, hw⟩ => ⟨he, hw.symm⟩)
      by_cases huv : u = v
      · have hne : (u != v) = false := by simpa using huv
        have HDT := Lib.hid (decide_eq_true huv)
        clear huv
        go_wp2_with fail
        go_quiet ((go_at_call 73; exact Calls.quiet_of_same (HQU.out _)))
        go_wp2_with fail
        go_roundw
        case rel => exact ⟨k + 1, by omega, by go_num, by rw [HSN.out, HQ.out, HDT.out]; rfl, below_drewN HB.out _⟩
        case measure => simp [intOf]; omega
      · have hne : (u != v) = true := by simpa using huv
        have HDT := Lib.hid (decide_eq_false huv)
        clear huv
        go_wp2_with fail
        go_quiet ((go_at_call 73; exact Calls.quiet_of_same (HQU.out _)))
        go_wp2_with fail
        go_ret
        exact ⟨ret_bool (by rw [HR.out, HFA.out HDT.out]), below_drewN HD.out _⟩
    · have hf : l.all (fun p => decide (vf y p.1 = p.2)) = true := by have := HQ.out; rwa [List.take_of_length_le (by omega)] at this
      have HF' := Lib.hid hf
      clear hf
      go_wp2_with fail
      go_ret
      exact ⟨ret_bool (by rw [HR.out, HF'.out]), HD.out⟩

set_option maxRecDepth 100000 in
set_option maxHeartbeats 4000000 in
theorem l5One_any (w : World) (S : Nat → Prop) (t : Tr) (a : Option Addr) (c : Nat) (h : PrsAt w S t.u a c) :
    Calls Try.prog 37 #[.agg #[.int .i64 t.k, .slice a t.u.length c, .int .i64 t.v]] w fun e w' => e = .returned (.bool t.ok) ∧ Below w.heap.size w w' := by
  obtain ⟨tk, l, tv⟩ := t
  simp only at *
  have hll : l.length ≤ 9223372036854775807 := RwAt.len h
  have K0 := Lib.hid (Kt.start (t := ⟨tk, l, tv⟩) (ty := 25) h)
  clear h
  obtain ⟨x0, x1, x2⟩ := K0.out.box
  simp only at x0 x1 x2
  by_cases h10 : 10 < l.length
  · have hr : Tr.ok ⟨tk, l, tv⟩ = false := by
      cases hx : Tr.ok ⟨tk, l, tv⟩
      · rfl
      · have := Tr.ok_len hx; simp only at this; omega
    rw [hr]
    clear hr
    go_enter Try.func37, Try.ntmps37
    go_wp2_with fail
    go_ret
    exact ⟨rfl, K0.out.done⟩
  cases hk : kin tk
  · have HK := Lib.hid (show decide (0 ≤ tk ∧ tk ≤ 9) = false from hk)
    have hr : Tr.ok ⟨tk, l, tv⟩ = false := by unfold Tr.ok; simp only; rw [hk]; rfl
    rw [hr]
    clear hr hk
    go_enter Try.func37, Try.ntmps37
    go_wp2_with (go_at_call 71; refine (in_any _ _ _ _).mono ?_; rw [HK.out]; rintro e w' ⟨rfl, rfl⟩)
    go_ret
    exact ⟨rfl, K0.out.done⟩
  cases hv : vin tv
  · have HK := Lib.hid (show decide (0 ≤ tk ∧ tk ≤ 9) = true from hk)
    have HV := Lib.hid (show decide (0 ≤ tv ∧ tv ≤ 96) = false from hv)
    have hr : Tr.ok ⟨tk, l, tv⟩ = false := by unfold Tr.ok; simp only; rw [hv]; simp
    rw [hr]
    clear hr hk hv
    go_enter Try.func37, Try.ntmps37
    go_wp2_with (go_at_call 71; refine (in_any _ _ _ _).mono ?_; (first | rw [HK.out] | rw [HV.out]); rintro e w' ⟨rfl, rfl⟩)
    go_ret
    exact ⟨rfl, K0.out.done⟩
  · have HK := Lib.hid (show decide (0 ≤ tk ∧ tk ≤ 9) = true from hk)
    have HV := Lib.hid (show decide (0 ≤ tv ∧ tv ≤ 96) = true from hv)
    have hr : Tr.ok ⟨tk, l, tv⟩ = (l.all pin && nd (keysOf l)) := by unfold Tr.ok; simp only; rw [hk, hv]; rfl
    have HR := Lib.hid hr
    have HSZ := Lib.hid K0.out.size
    obtain ⟨W, hW⟩ : ∃ W, W = w.alloc (.cells #[.int .i64 tk, .slice a l.length c, .int .i64 tv] 25) := ⟨_, rfl⟩
    have HWW := Lib.hid hW
    rw [← hW] at K0 HSZ
    clear hr hk hv hW
    go_enter Try.func37, Try.ntmps37
    go_wp2_with (go_at_call 71; refine (in_any _ _ _ _).mono ?_; (first | rw [HK.out] | rw [HV.out]); rintro e w' ⟨rfl, rfl⟩)
    rw [← HWW.out]
    clear x0 x1 x2
    go_loopw [3] (fun i wr => ∃ k : Nat, k ≤ l.length ∧ i = .int .i64 k ∧ (l.take k).all pin = true ∧ wr = W) (fun i _ => l.length - (intOf i).toNat)
    case atStart => exact ⟨0, by omega, rfl, rfl, rfl⟩
    case round =>
      obtain ⟨k, hk, rfl, hq, rfl⟩ := hrel
      have HQ := Lib.hid hq
      obtain ⟨x0, x1, x2⟩ := K0.out.box
      simp only at x0 x1 x2
      clear hq
      by_cases hlt : k < l.length
      · obtain ⟨b, o, rfl, hbl, _, e0, e1, _, _⟩ := PrsAt.get (l := l) K0.out.2 (Below.refl _ _) hlt
        have HQS := Lib.hid (all_snocp pin l k hlt)
        have HQF := Lib.hid (all_falsep pin l k hlt)
        obtain ⟨p, hp⟩ : ∃ p, p = l[k] := ⟨_, rfl⟩
        rw [← hp] at e0 e1 HQS HQF
        obtain ⟨p1, p2⟩ := p
        simp only at e0 e1
        have HPI := Lib.hid (show pin (p1, p2) = (kin p1 && vin p2) from rfl)
        clear hp
        cases hki : kin p1
        · have HKI := Lib.hid (show decide (0 ≤ p1 ∧ p1 ≤ 9) = false from hki)
          have hf : Tr.ok ⟨tk, l, tv⟩ = false := by rw [HR.out, HQF.out (by rw [HPI.out, hki]; rfl)]; rfl
          have HF := Lib.hid hf
          clear hki hf
          go_wp2_with (go_at_call 71; refine (in_any _ _ _ _).mono ?_; rw [HKI.out]; rintro e w' ⟨rfl, rfl⟩)
          go_ret
          exact ⟨ret_bool HF.out.symm, K0.out.done⟩
        cases hvi : vin p2
        · have HKI := Lib.hid (show decide (0 ≤ p1 ∧ p1 ≤ 9) = true from hki)
          have HVI := Lib.hid (show decide (0 ≤ p2 ∧ p2 ≤ 96) = false from hvi)
          have hf : Tr.ok ⟨tk, l, tv⟩ = false := by rw [HR.out, HQF.out (by rw [HPI.out, hvi]; simp)]; rfl
          have HF := Lib.hid hf
          clear hki hvi hf
          go_wp2_with (go_at_call 71; refine (in_any _ _ _ _).mono ?_; (first | rw [HKI.out] | rw [HVI.out]); rintro e w' ⟨rfl, rfl⟩)
          go_ret
          exact ⟨ret_bool HF.out.symm, K0.out.done⟩
        · have HKI := Lib.hid (show decide (0 ≤ p1 ∧ p1 ≤ 9) = true from hki)
          have HVI := Lib.hid (show decide (0 ≤ p2 ∧ p2 ≤ 96) = true from hvi)
          have HPT := Lib.hid (show pin (p1, p2) = true by rw [HPI.out, hki, hvi]; rfl)
          clear hki hvi
          go_wp2_with (go_at_call 71; refine (in_any _ _ _ _).mono ?_; (first | rw [HKI.out] | rw [HVI.out]); rintro e w' ⟨rfl, rfl⟩)
          go_roundw
          case rel => exact ⟨k + 1, by omega, by go_num, by rw [HQS.out, HQ.out, HPT.out]; rfl, by first | rfl | trivial⟩
          case measure => simp [intOf]; omega
      · have hf : l.all pin = true := by have := HQ.out; rwa [List.take_of_length_le (by omega)] at this
        have hn := onceP_nd l
        have hol := onceP_len l
        have HF := Lib.hid (show Tr.ok ⟨tk, l, tv⟩ = decide ((onceP l).length = l.length) by rw [HR.out, hf, hn]; rfl)
        obtain ⟨m, hm⟩ : ∃ m, m = (onceP l).length := ⟨_, rfl⟩
        rw [← hm] at HF hol
        have HM := Lib.hid hm
        have hie : decide ((m : Int) = (l.length : Int)) = decide (m = l.length) := by rw [Bool.eq_iff_iff, decide_eq_true_eq, decide_eq_true_eq]; omega
        have HIE := Lib.hid (show ((m : Int) == (l.length : Int)) = decide (m = l.length) by rw [Bool.eq_iff_iff, beq_iff_eq, decide_eq_true_eq]; omega)
        have hl6 : l.length ≤ 1000000 := by omega
        obtain ⟨r, hr⟩ : ∃ r, r = ((m : Int) == (l.length : Int)) := ⟨_, rfl⟩
        have HRR := Lib.hid hr
        have hr' : ((m : Int) == (l.length : Int)) = r := hr.symm
        clear hf hn hm hie hr
        go_wp2_with fail
        go_region_with (go_at_call 72; refine (once_any _ S l a c ?_ hl6).mono ?_; exact K0.out.2.drew; rintro e w1 ⟨v1, rfl, hrow, hb⟩; rw [← HM.out] at hrow; obtain ⟨av, cv, rfl⟩ := own_shape hrow; obtain ⟨z0, z1, z2⟩ := (K0.out.drew.step hb).box; simp only at z0 z1 z2)
        all_goals
          have K1 := Lib.hid (K0.out.drew.step hb)
          go_wp2_with fail
          go_ret
          exact ⟨ret_bool (by rw [HF.out, ← HIE.out, HRR.out]), K1.out.done⟩

set_option maxHeartbeats 1000000 in
theorem specTrsOk_any (w : World) (S : Nat → Prop) (l : List Tr) (a : Option Addr) (c : Nat) (h : TrsAt w S l a c) :
    Calls Try.prog 13 #[.slice a l.length c] w fun e w' => e = .returned (.bool (trsOk l)) ∧ Below w.heap.size w w' := by
  have hlen : l.length ≤ 9223372036854775807 := RwAt.len h
  have H := Lib.hid h
  clear h
  by_cases h60 : 60 < l.length
  · have hv : trsOk l = false := by unfold trsOk; rw [decide_eq_false (by omega)]; rfl
    rw [hv]; clear hv
    go_enter Try.func13, Try.ntmps13
    go_wp2_with fail
    go_ret
    exact ⟨rfl, Below.refl _ _⟩
  · have hv : trsOk l = l.all Tr.ok := by unfold trsOk; rw [decide_eq_true (by omega)]; rfl
    have HV := Lib.hid hv
    clear hv
    go_enter Try.func13, Try.ntmps13
    go_wp2_with fail
    go_loopw [3] (fun i wr => ∃ k : Nat, k ≤ l.length ∧ i = .int .i64 k ∧ (l.take k).all Tr.ok = true ∧ Below w.heap.size w wr) (fun i _ => l.length - (intOf i).toNat)
    case atStart => exact ⟨0, by omega, rfl, rfl, Below.refl _ _⟩
    case round =>
      obtain ⟨k, hk, rfl, hq, hb⟩ := hrel
      have HQ := Lib.hid hq
      have HB := Lib.hid hb
      clear hq hb
      by_cases hlt : k < l.length
      · obtain ⟨b, o, a', c', rfl, hbl, _, e0, e1, e2, hs, _, _⟩ := H.out.get HB.out hlt
        have HQS := Lib.hid (all_snocp Tr.ok l k hlt)
        have HQF := Lib.hid (all_falsep Tr.ok l k hlt)
        obtain ⟨t, ht⟩ : ∃ t, t = l[k] := ⟨_, rfl⟩
        rw [← ht] at e0 e1 e2 hs HQS HQF
        have HS := Lib.hid hs
        have hwr := HB.out.size
        clear hs ht
        go_wp2_with fail
        refine (l5One_any _ S t a' c' HS.out).mono ?_
        rintro e w1 ⟨rfl, hb⟩
        have HB1 := Lib.hid (HB.out.trans (hb.mono hwr))
        clear hb
        cases hok : t.ok
        · have hf : trsOk l = false := by rw [HV.out, HQF.out hok]
          have HF := Lib.hid hf
          clear hf hok
          go_wp2_with fail
          go_ret
          exact ⟨ret_bool HF.out.symm, HB1.out⟩
        · have HOK := Lib.hid hok
          clear hok
          go_wp2_with fail
          go_roundw
          case rel => exact ⟨k + 1, by omega, by go_num, by rw [HQS.out, HQ.out, HOK.out]; rfl, HB1.out⟩
          case measure => simp [intOf]; omega
      · have hf : trsOk l = true := by have := HQ.out; rw [List.take_of_length_le (by omega)] at this; rw [HV.out, this]
        have HF := Lib.hid hf
        clear hf
        go_wp2_with fail
        go_ret
        exact ⟨ret_bool HF.out.symm, HB.out⟩

set_option maxHeartbeats 2000000 in
theorem specHolds_any (w : World) (S S2 : Nat → Prop) (t : Tr) (a a2 : Option Addr) (c c2 : Nat) (y : List Int) (h : PrsAt w S t.u a c) (hy : IntsAt w S2 y a2 c2) :
    Calls Try.prog 10 #[.agg #[.int .i64 t.k, .slice a t.u.length c, .int .i64 t.v], .slice a2 y.length c2] w fun e w' => e = .returned (.bool (trH t y)) ∧ Below w.heap.size w w' := by
  have hll : t.u.length ≤ 9223372036854775807 := RwAt.len h
  have K0 := Lib.hid (Kt.start (ty := 25) h)
  have L0 := Lib.hid (hy.alloc (.cells #[.int .i64 t.k, .slice a t.u.length c, .int .i64 t.v] 25))
  clear h hy
  obtain ⟨x0, x1, x2⟩ := K0.out.box
  cases hk : t.ok
  · have HK := Lib.hid hk
    have hr : trH t y = false := by unfold trH; rw [hk]; rfl
    rw [hr]
    clear hr hk
    go_enter Try.func10, Try.ntmps10
    go_wp2_with (go_at_call 37; refine (l5One_any _ S t a c K0.out.2).mono ?_; rw [HK.out]; rintro e w1 ⟨rfl, hb⟩)
    have K1 := Lib.hid (K0.out.step hb)
    go_ret
    exact ⟨rfl, K1.out.done⟩
  cases hv : vok y
  · have HK := Lib.hid hk
    have HV := Lib.hid hv
    have hr : trH t y = false := by unfold trH; rw [hk, hv]; rfl
    rw [hr]
    clear hr hk hv
    go_enter Try.func10, Try.ntmps10
    go_wp2_with (first | (go_at_call 37; refine (l5One_any _ S t a c K0.out.2).mono ?_; rw [HK.out]; rintro e w1 ⟨rfl, hb⟩) | (go_at_call 38; refine (specVals_any _ S2 y a2 c2 (L0.out.below hb)).mono ?_; rw [HV.out]; rintro e w2 ⟨rfl, rfl⟩))
    have K1 := Lib.hid (K0.out.step hb)
    go_ret
    exact ⟨rfl, K1.out.done⟩
  · have HK := Lib.hid hk
    have HV := Lib.hid hv
    have hr : trH t y = t.holds (vf y) := by unfold trH; rw [hk, hv]; rfl
    obtain ⟨r, hrr⟩ : ∃ r, r = t.holds (vf y) := ⟨_, rfl⟩
    have HR := Lib.hid hrr
    rw [hr, ← hrr]
    clear hr hk hv hrr
    go_enter Try.func10, Try.ntmps10
    go_wp2_with fail
    refine (l5One_any _ S t a c K0.out.2).mono ?_
    rw [HK.out]
    rintro e w1 ⟨rfl, hb⟩
    have K1 := Lib.hid (K0.out.step hb)
    have L1 := Lib.hid (L0.out.below hb)
    obtain ⟨z0, z1, z2⟩ := K1.out.box
    clear hb x0 x1 x2 K0 L0
    go_wp2_with (first | (go_at_call 38; refine (specVals_any _ S2 y a2 c2 L1.out).mono ?_; rw [HV.out]; rintro e w2 ⟨rfl, rfl⟩) | (go_at_call 39; refine (l5Holds_any _ S S2 t a a2 c c2 y K1.out.2 HK.out L1.out).mono ?_; rw [← HR.out]; rintro e w4 ⟨rfl, hb4⟩))
    have K4 := Lib.hid (K1.out.step hb4)
    go_ret
    exact ⟨rfl, K4.out.done⟩
end Go.Proofs.Ytjbggeeadodmpaa
