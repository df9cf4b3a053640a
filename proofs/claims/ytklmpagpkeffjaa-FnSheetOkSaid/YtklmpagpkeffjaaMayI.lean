/- impl.markMay -/
import Derived.Test.YtklmpagpkeffjaaMay
import Derived.StillTailTactics
namespace Go.Proofs.Ytklmpagpkeffjaa
open Go.RowKit

def MarkT (e : TypeId) (t : T) : Prop := ∀ (w : World) (S : Nat → Prop) (a : Option Addr) (c g : Nat) (m : Nat → Bool), AtS w S t.ps a c → (∀ b, S b → b ≠ g) → t.fit = true → TruAt w g e m →
  Calls Try.prog 124 #[.agg #[.int .i64 t.k, .int .i64 t.n, .slice a t.ps.length c], .pointer (some ⟨g, 0, none⟩)] w (MayPost e g w (fun i => m i || t.may (i : Int)))

set_option maxRecDepth 100000 in
set_option maxHeartbeats 1000000 in
theorem mark_1 (e : TypeId) (n : Int) (h0 : 0 ≤ n) (h9 : n ≤ 9) : MarkT e (.mk 1 n []) := by
  intro w S a c g m hat hS hf htr
  simp only [T.k, T.n, T.ps, List.length_nil] at *
  obtain ⟨nn, rfl⟩ : ∃ nn : Nat, n = nn := ⟨n.toNat, by omega⟩
  have hgl := htr.lt
  have hgn : w.heap.size ≠ g := by omega
  have hn10 : nn < 10 := by omega
  have hn10i : (nn : Int) < 10 := by omega
  have hn0i : (0 : Int) ≤ (nn : Int) := by omega
  obtain ⟨W, hW⟩ : ∃ W, W = w.alloc (.cells #[.int .i64 1, .int .i64 nn, .slice a 0 c] 42) := ⟨_, rfl⟩
  have HB := Lib.hid (show Blk W w.heap.size 42 #[.int .i64 1, .int .i64 nn, .slice a 0 c] by rw [hW]; exact Blk.new w _ _)
  have HM := Lib.hid (show TruAt W g e m by rw [hW]; exact htr.alloc _)
  have HO := Lib.hid (show Only g w W by rw [hW]; exact (Only.refl g w).alloc _)
  obtain ⟨hcell, hfz⟩ := HM.out.cell hn10
  obtain ⟨x0, x1, x2, f0, f1, f2⟩ := HB.out.three
  have HWW := Lib.hid hW
  have HSET := Lib.hid ((HM.out.drew.set_ nn).congr (fun i _ => may_one nn i m))
  have HOS := Lib.hid ((HO.out.drewN 1).set (p := ⟨g, nn, none⟩) (.inl rfl) (.bool true))
  have HBS := Lib.hid ((HB.out.drew).far (p := ⟨g, nn, none⟩) (by simpa using hgn) (.bool true))
  clear hat htr hf hW
  go_enter Try.func124, Try.ntmps124
  go_wp2_with fail
  rw [← HWW.out]
  go_still_tail 5, (by kernel_rfl)
  go_wp2_with fail
  clear hcell hfz x0 x1 x2 f0 f1 f2
  obtain ⟨V, hV⟩ : ∃ V, V = (W.setCell ⟨g, nn, none⟩ (.bool true)).drew := ⟨_, rfl⟩
  have HST := Lib.hid (show TruAt V g e (fun i => m i || (T.mk 1 (nn : Int) []).may (i : Int)) by rw [hV]; exact HSET.out)
  have HOV := Lib.hid (show Only g w V by rw [hV]; exact HOS.out)
  rw [← hV]
  clear hV HOS HSET HBS
  go_loopw [29] (fun i wr => i = .int .i64 0 ∧ wr = V) (fun _ _ => 0)
  case atStart => exact ⟨rfl, rfl⟩
  case round =>
    obtain ⟨rfl, rfl⟩ := hrel
    go_wp2_with fail
    go_end0
    exact ⟨rfl, HST.out, HOV.out⟩

set_option maxRecDepth 100000 in
set_option maxHeartbeats 2000000 in
theorem mark_n (e : TypeId) (t : T) (hk1 : t.k ≠ 1) (hT : ∀ u ∈ t.ps, MarkT e u) : MarkT e t := by
  intro w S a c g m hat hS hf htr
  have hgl := htr.lt
  have hgn : w.heap.size ≠ g := by omega
  have HT := Lib.hid hT
  have HS := Lib.hid hS
  have HA := Lib.hid (hat.lim.alloc (.cells #[.int .i64 t.k, .int .i64 t.n, .slice a t.ps.length c] 42))
  have HB := Lib.hid (Blk.new w 42 #[.int .i64 t.k, .int .i64 t.n, .slice a t.ps.length c])
  have HO := Lib.hid ((Only.refl g w).alloc (.cells #[.int .i64 t.k, .int .i64 t.n, .slice a t.ps.length c] 42))
  have HM := Lib.hid (htr.alloc (.cells #[.int .i64 t.k, .int .i64 t.n, .slice a t.ps.length c] 42))
  have hlen : t.ps.length ≤ 9223372036854775807 := by have := hat.1; have := hat.2.1; omega
  have hfe := T.fit_eq t
  rw [hf] at hfe
  have hfe' := hfe.symm
  simp only [Bool.and_eq_true] at hfe'
  have hpf : ∀ i (h : i < t.ps.length), t.ps[i].fit = true := by
    intro i hi
    cases hx : t.ps[i].fit
    · have := fitL_false t.ps i hi hx; rw [hfe'.2] at this; cases this
    · rfl
  have HPF := Lib.hid hpf
  have hk1b : (t.k == 1) = false := by simpa using hk1
  have HMAY := Lib.hid (show ∀ i : Nat, t.may (i : Int) = (decide (t.k = 5) || mayL (i : Int) t.ps) from fun i => by rw [T.may_eq, decide_eq_false hk1]; simp)
  obtain ⟨W, hW⟩ : ∃ W, W = w.alloc (.cells #[.int .i64 t.k, .int .i64 t.n, .slice a t.ps.length c] 42) := ⟨_, rfl⟩
  have hws : W.heap.size = w.heap.size + 1 := by rw [hW]; simp
  have HWW := Lib.hid hW
  rw [← hW] at HA HB HO HM
  have hsz := hws
  clear hT hS hat htr hfe hfe' hpf hf hW hws
  by_cases hk5 : t.k = 5
  · have hk5b : (t.k == 5) = true := by simpa using hk5
    have HK5 := Lib.hid hk5
    clear hk5
    go_enter Try.func124, Try.ntmps124
    go_wp2_with fail
    clear hk1b hk5b
    rw [← HWW.out]
    go_loopw [18] (fun i wr => ∃ j : Nat, j ≤ 10 ∧ i = .int .i64 j ∧ TruAt wr g e (fun i => m i || decide (i < j)) ∧ Only g W wr) (fun i _ => 10 - (intOf i).toNat)
    case atStart => exact ⟨0, by omega, rfl, HM.out.congr (fun i _ => by simp), Only.refl _ _⟩
    case round =>
      obtain ⟨j, hj, rfl, htr, ho⟩ := hrel
      have HTR := Lib.hid htr
      have HOW := Lib.hid ho
      obtain ⟨x0, x1, x2, f0, f1, f2⟩ := (HB.out.only ho hgn).three
      have hwr := ho.size
      clear htr ho
      by_cases hj10 : j < 10
      · obtain ⟨hcell, hfz⟩ := HTR.out.cell hj10
        have HS2 := Lib.hid ((HTR.out.set_ j).congr (m' := fun i => m i || decide (i < j + 1)) (fun i hi => by
          show ((m i || decide (i < j)) || decide (i = j)) = _
          rw [Bool.or_assoc]
          congr 1
          rw [Bool.eq_iff_iff, Bool.or_eq_true, decide_eq_true_eq, decide_eq_true_eq, decide_eq_true_eq]
          omega))
        have HO2 := Lib.hid (HOW.out.set (p := ⟨g, j, none⟩) (.inl rfl) (.bool true))
        go_wp2_with fail
        go_roundw
        case rel => exact ⟨j + 1, by omega, by go_num, HS2.out, HO2.out⟩
        case measure => simp [intOf]; omega
      · have HT2 := Lib.hid (HTR.out.congr (m' := fun i => m i || decide (t.k = 5)) (fun i hi => by
          show (m i || decide (i < j)) = _
          rw [decide_eq_true HK5.out, decide_eq_true (show i < j by omega)]))
        have HA2 := Lib.hid (HA.out.only' HOW.out (fun b hb => HS.out b hb.1))
        have HB2 := Lib.hid (HB.out.only HOW.out hgn)
        clear HTR
        go_wp2_with fail
        go_loopw [29] (fun i wr2 => ∃ k : Nat, k ≤ t.ps.length ∧ i = .int .i64 k ∧ TruAt wr2 g e (fun i => m i || (decide (t.k = 5) || mayL (i : Int) (t.ps.take k))) ∧ Only g wr wr2) (fun i _ => t.ps.length - (intOf i).toNat)
        case atStart => exact ⟨0, by omega, rfl, HT2.out.congr (fun i _ => by simp [mayL]), Only.refl _ _⟩
        case round =>
          obtain ⟨k, hk, rfl, htr2, ho2⟩ := hrel
          have HTR2 := Lib.hid htr2
          have HO2 := Lib.hid ho2
          have hwr2 := ho2.size
          clear htr2 ho2
          by_cases hlt : k < t.ps.length
          · obtain ⟨bb, o, a', c', rfl, hbl, hbS, e0, e1, e2, hs, _, _⟩ := (HA2.out.only' HO2.out (fun b hb => HS.out b hb.1)).elem (Below.refl _ _) hlt
            have HS' := Lib.hid (hs.alloc (.cells #[.int .i64 t.ps[k].k, .int .i64 t.ps[k].n, .slice a' t.ps[k].ps.length c'] 42))
            have HSN := Lib.hid (fun q : Int => mayL_snoc q t.ps k hlt)
            have HPFK := Lib.hid (HPF.out k hlt)
            have HTA := Lib.hid (HTR2.out.alloc (.cells #[.int .i64 t.ps[k].k, .int .i64 t.ps[k].n, .slice a' t.ps[k].ps.length c'] 42))
            have HOA := Lib.hid (HO2.out.alloc (.cells #[.int .i64 t.ps[k].k, .int .i64 t.ps[k].n, .slice a' t.ps[k].ps.length c'] 42))
            clear hs
            go_wp2_with fail
            refine (HT.out t.ps[k] (List.getElem_mem _) _ _ a' c' g _ HS'.out (fun b hb => HS.out b hb.1) HPFK.out HTA.out).mono ?_
            rintro en w5 ⟨rfl, htr5, ho5⟩
            have H5 := Lib.hid (And.intro (htr5.congr (m' := fun i => m i || (decide (t.k = 5) || mayL (i : Int) (t.ps.take (k + 1)))) (fun i _ => by
              show ((m i || (decide (t.k = 5) || mayL (i : Int) (t.ps.take k))) || t.ps[k].may (i : Int)) = (m i || (decide (t.k = 5) || mayL (i : Int) (t.ps.take (k + 1))))
              rw [HSN.out, Bool.or_assoc, Bool.or_assoc])) (HOA.out.trans ho5))
            clear htr5 ho5
            go_wp2_with fail
            go_roundw
            case rel => exact ⟨k + 1, by omega, by go_num, H5.out.1, H5.out.2⟩
            case measure => simp [intOf]; omega
          · have hq : t.ps.take k = t.ps := List.take_of_length_le (by omega)
            have HT9 := Lib.hid (HTR2.out.congr (m' := fun i => m i || t.may (i : Int)) (fun i _ => by
              show (m i || (decide (t.k = 5) || mayL (i : Int) (t.ps.take k))) = _
              rw [hq, HMAY.out]))
            clear hq
            go_wp2_with fail
            go_end0
            exact ⟨rfl, HT9.out, HO.out.trans (HOW.out.trans HO2.out)⟩
  · have hk5b : (t.k == 5) = false := by simpa using hk5
    have HT2 := Lib.hid (HM.out.congr (m' := fun i => m i || decide (t.k = 5)) (fun i hi => by rw [decide_eq_false hk5]; simp))
    clear hk5
    go_enter Try.func124, Try.ntmps124
    go_wp2_with fail
    clear hk1b hk5b
    rw [← HWW.out]
    obtain ⟨wr, hwr'⟩ : ∃ wr, wr = W := ⟨_, rfl⟩
    have HOW := Lib.hid (show Only g W wr by rw [hwr']; exact Only.refl _ _)
    rw [← hwr'] at HT2
    have HA2 := Lib.hid (HA.out.only' HOW.out (fun b hb => HS.out b hb.1))
    have HB2 := Lib.hid (HB.out.only HOW.out hgn)
    have hwr := HOW.out.size
    rw [← hwr']
    clear hwr'
    go_loopw [29] (fun i wr2 => ∃ k : Nat, k ≤ t.ps.length ∧ i = .int .i64 k ∧ TruAt wr2 g e (fun i => m i || (decide (t.k = 5) || mayL (i : Int) (t.ps.take k))) ∧ Only g wr wr2) (fun i _ => t.ps.length - (intOf i).toNat)
    case atStart => exact ⟨0, by omega, rfl, HT2.out.congr (fun i _ => by simp [mayL]), Only.refl _ _⟩
    case round =>
      obtain ⟨k, hk, rfl, htr2, ho2⟩ := hrel
      have HTR2 := Lib.hid htr2
      have HO2 := Lib.hid ho2
      have hwr2 := ho2.size
      clear htr2 ho2
      by_cases hlt : k < t.ps.length
      · obtain ⟨bb, o, a', c', rfl, hbl, hbS, e0, e1, e2, hs, _, _⟩ := (HA2.out.only' HO2.out (fun b hb => HS.out b hb.1)).elem (Below.refl _ _) hlt
        have HS' := Lib.hid (hs.alloc (.cells #[.int .i64 t.ps[k].k, .int .i64 t.ps[k].n, .slice a' t.ps[k].ps.length c'] 42))
        have HSN := Lib.hid (fun q : Int => mayL_snoc q t.ps k hlt)
        have HPFK := Lib.hid (HPF.out k hlt)
        have HTA := Lib.hid (HTR2.out.alloc (.cells #[.int .i64 t.ps[k].k, .int .i64 t.ps[k].n, .slice a' t.ps[k].ps.length c'] 42))
        have HOA := Lib.hid (HO2.out.alloc (.cells #[.int .i64 t.ps[k].k, .int .i64 t.ps[k].n, .slice a' t.ps[k].ps.length c'] 42))
        clear hs
        go_wp2_with fail
        refine (HT.out t.ps[k] (List.getElem_mem _) _ _ a' c' g _ HS'.out (fun b hb => HS.out b hb.1) HPFK.out HTA.out).mono ?_
        rintro en w5 ⟨rfl, htr5, ho5⟩
        have H5 := Lib.hid (And.intro (htr5.congr (m' := fun i => m i || (decide (t.k = 5) || mayL (i : Int) (t.ps.take (k + 1)))) (fun i _ => by
          show ((m i || (decide (t.k = 5) || mayL (i : Int) (t.ps.take k))) || t.ps[k].may (i : Int)) = (m i || (decide (t.k = 5) || mayL (i : Int) (t.ps.take (k + 1))))
          rw [HSN.out, Bool.or_assoc, Bool.or_assoc])) (HOA.out.trans ho5))
        clear htr5 ho5
        go_wp2_with fail
        go_roundw
        case rel => exact ⟨k + 1, by omega, by go_num, H5.out.1, H5.out.2⟩
        case measure => simp [intOf]; omega
      · have hq : t.ps.take k = t.ps := List.take_of_length_le (by omega)
        have HT9 := Lib.hid (HTR2.out.congr (m' := fun i => m i || t.may (i : Int)) (fun i _ => by
          show (m i || (decide (t.k = 5) || mayL (i : Int) (t.ps.take k))) = _
          rw [hq, HMAY.out]))
        clear hq
        go_wp2_with fail
        go_end0
        exact ⟨rfl, HT9.out, HO.out.trans (HOW.out.trans HO2.out)⟩
theorem mark_all (e : TypeId) : ∀ t, MarkT e t := T.ind fun k n ps ih => by
  intro w S a c g m hat hS hf htr
  by_cases h1 : k = 1
  · subst h1
    have h := hf
    rw [T.fit_eq] at h
    simp only [T.k, T.n, T.ps, Bool.and_eq_true] at h
    have hk := kinds h.1
    have hps : ps = [] := List.length_eq_zero_iff.1 (by omega)
    subst hps
    exact mark_1 e n (by omega) (by omega) w S a c g m hat hS hf htr
  · exact mark_n e (.mk k n ps) h1 ih w S a c g m hat hS hf htr
end Go.Proofs.Ytklmpagpkeffjaa
