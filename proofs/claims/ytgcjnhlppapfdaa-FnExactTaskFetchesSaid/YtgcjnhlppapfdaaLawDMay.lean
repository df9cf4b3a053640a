/- brHas, brAll; the walk of laws.FnTaskMay -/
import Derived.Test.YtgcjnhlppapfdaaUsesS
import Derived.Test.YtgcjnhlppapfdaaMayU
import Derived.Test.YtgcjnhlppapfdaaLawDFix
namespace Go.Proofs.Ytgcjnhlppapfdaa
open Go.RowKit

/-- brHas -/
theorem brHas_any (w : World) (S : Nat → Prop) (l : List Int) (a : Option Addr) (c : Nat) (n : Int) (h : IntsAt w S l a c) :
    Calls Try.prog 29 #[.slice a l.length c, .int .i64 n] w fun e w' => e = .returned (.bool (decide (n ∈ l))) ∧ w = w' := by
  have hlen : l.length ≤ 9223372036854775807 := by have := h.1; have := h.2.1; omega
  have H := Lib.hid h
  obtain ⟨r, hr⟩ : ∃ r, r = decide (n ∈ l) := ⟨_, rfl⟩
  have HR := Lib.hid hr
  rw [← hr]
  clear h hr
  go_enter Try.func29, Try.ntmps29
  go_wp2_with fail
  go_loop [5] (fun i => ∃ k : Nat, k ≤ l.length ∧ i = .int .i64 k ∧ ¬ n ∈ l.take k) (fun i => l.length - (intOf i).toNat)
  case atStart => exact ⟨0, by omega, rfl, by simp⟩
  case round =>
    obtain ⟨k, hk, rfl, hq⟩ := hrel
    have HQ := Lib.hid hq
    clear hq
    by_cases hlt : k < l.length
    · obtain ⟨b, o, rfl, hbl, _, hc⟩ := H.out.get (Below.refl _ _) hlt
      have HM := Lib.hid (mem_take_succ hlt n)
      have HE := Lib.hid (List.getElem_mem hlt)
      obtain ⟨v, hv⟩ : ∃ v, v = l[k] := ⟨_, rfl⟩
      rw [← hv] at hc
      have HVV := Lib.hid hv
      clear hv
      by_cases hvn : v = n
      · have hd : (v == n) = true := by simpa using hvn
        have hrt : r = true := by rw [HR.out, decide_eq_true_eq, ← hvn, HVV.out]; exact HE.out
        have HRT := Lib.hid hrt
        clear hrt hvn
        go_wp2_with fail
        go_ret
        exact ⟨ret_bool HRT.out.symm, rfl⟩
      · have hd : (v == n) = false := by simpa using hvn
        have HVN := Lib.hid hvn
        clear hvn
        go_wp2_with fail
        go_round
        case rel => exact ⟨k + 1, by omega, by go_num, fun h => by
          rcases HM.out.1 h with h | h
          · exact HQ.out h
          · exact HVN.out (by rw [HVV.out, h])⟩
        case measure => simp [intOf]; omega
    · have hrf : r = false := by
        have := HQ.out
        rw [List.take_of_length_le (by omega)] at this
        rw [HR.out]; exact decide_eq_false this
      have HRF := Lib.hid hrf
      clear hrf
      go_wp2_with fail
      go_ret
      exact ⟨ret_bool HRF.out.symm, rfl⟩

/-- brAll, where all are in -/
theorem brAll_any (w : World) (S S' : Nat → Prop) (l L : List Int) (a a' : Option Addr) (c c' : Nat) (h : IntsAt w S l a c) (h' : IntsAt w S' L a' c') (hin : ∀ x ∈ l, x ∈ L) :
    Calls Try.prog 30 #[.slice a l.length c, .slice a' L.length c'] w fun e w' => e = .returned (.bool true) ∧ w = w' := by
  have hlen : l.length ≤ 9223372036854775807 := by have := h.1; have := h.2.1; omega
  have H := Lib.hid h
  have H' := Lib.hid h'
  have HIN := Lib.hid hin
  clear h h' hin
  go_enter Try.func30, Try.ntmps30
  go_wp2_with fail
  go_loop [5] (fun i => ∃ k : Nat, k ≤ l.length ∧ i = .int .i64 k) (fun i => l.length - (intOf i).toNat)
  case atStart => exact ⟨0, by omega, rfl⟩
  case round =>
    obtain ⟨k, hk, rfl⟩ := hrel
    by_cases hlt : k < l.length
    · obtain ⟨b, o, rfl, hbl, _, hc⟩ := H.out.get (Below.refl _ _) hlt
      have hd : decide (l[k] ∈ L) = true := decide_eq_true (HIN.out _ (List.getElem_mem hlt))
      obtain ⟨v, hv⟩ : ∃ v, v = l[k] := ⟨_, rfl⟩
      rw [← hv] at hc hd
      have HD := Lib.hid hd
      clear hv hd
      go_wp2_with fail
      refine (brHas_any w S' L a' c' v H'.out).mono ?_
      rintro e w' ⟨rfl, rfl⟩
      rw [HD.out]
      go_wp2_with fail
      go_round
      case rel => exact ⟨k + 1, by omega, by go_num⟩
      case measure => simp [intOf]; omega
    · go_wp2_with fail
      go_ret
      exact ⟨rfl, rfl⟩

theorem mayL_get {q : Int} {ps : List T} {i : Nat} (h : i < ps.length) (hm : ps[i].may q = true) : mayL q ps = true := by
  have h1 := mayL_snoc q ps i h
  have h2 := mayL_append q (ps.take (i + 1)) (ps.drop (i + 1))
  rw [List.take_append_drop] at h2
  rw [h2, h1, hm]; simp
theorem mayO_mem {t : T} {q : Int} (h : t.ok = true) : q ∈ mayO t ↔ 0 ≤ q ∧ q < 10 ∧ t.may q = true := by
  unfold mayO
  rw [if_pos h, mayI_mem]
  exact Iff.rfl
theorem ok_part {t : T} (h : t.ok = true) {i : Nat} (hi : i < t.ps.length) : t.ps[i].ok = true := by
  simp only [T.ok, Bool.and_eq_true, decide_eq_true_eq] at h ⊢
  obtain ⟨h1, h2⟩ := h
  rw [T.fit_eq] at h1
  simp only [Bool.and_eq_true] at h1
  refine ⟨?_, ?_⟩
  · cases hf : t.ps[i].fit
    · have := fitL_false t.ps i hi hf; rw [h1.2] at this; cases this
    · rfl
  · have := T.nodes_le hi; have := t.nodes_eq; omega
theorem mayO_part {t : T} (h : t.ok = true) {i : Nat} (hi : i < t.ps.length) : ∀ x ∈ mayO t.ps[i], x ∈ mayO t := by
  intro x hx
  rw [mayO_mem (ok_part h hi)] at hx
  rw [mayO_mem h, T.may_eq]
  exact ⟨hx.1, hx.2.1, by rw [mayL_get hi hx.2.2]; simp⟩
theorem mayO_bd (t : T) : (∀ x ∈ mayO t, 0 ≤ x ∧ x < 10) ∧ (mayO t).length ≤ 10 := by
  unfold mayO
  split
  · exact ⟨fun x hx => by have := mayI_mem.1 hx; omega, mayI_len t 10⟩
  · simp
theorem mayO_asc (t : T) (i : Nat) (h : i + 1 < (mayO t).length) : (mayO t)[i] < (mayO t)[i + 1] := by
  have hp : (mayO t).Pairwise (· < ·) := by
    unfold mayO
    split
    · unfold mayI
      rw [List.pairwise_map]
      refine List.Pairwise.imp (R := fun a b : Nat => a < b) (fun h => by omega) ?_
      exact List.Pairwise.filter _ List.pairwise_lt_range
    · exact List.Pairwise.nil
  exact List.pairwise_iff_getElem.1 hp i (i + 1) (by omega) h (by omega)

set_option maxRecDepth 100000 in
set_option maxHeartbeats 2000000 in
theorem walk_taskMay (w : World) (a : Option Addr) (n c : Nat) (h : CodeAt w a n c) :
    Calls Try.prog 7 #[.slice a n c] w fun e w' => e = .returned (.bool true) ∧ Below w.heap.size w w' := by
  have hn := h.1
  have hc := h.2.1
  have HC := Lib.hid h
  clear h
  by_cases hl : 1048576 < n
  · go_enter Try.func7, Try.ntmps7
    go_wp2_with fail
    go_ret
    exact ⟨rfl, Below.refl _ _⟩
  go_enter Try.func7, Try.ntmps7
  go_wp2_with fail
  refine (drawTaskMay_any _ a n c HC.out).mono ?_
  rintro e w1 ⟨t, a1, c1, rfl, hat, ok1, ok2, hm, hb⟩
  have hsz1 := hb.size
  have HT1 := Lib.hid (hat.at.alloc (.cells #[.int .i64 t.k, .int .i64 t.n, .slice a1 t.ps.length c1] 25))
  have HB1 := Lib.hid (Blk.new w1 25 #[.int .i64 t.k, .int .i64 t.n, .slice a1 t.ps.length c1])
  have HX1 := Lib.hid (hb.alloc hsz1 (.cells #[.int .i64 t.k, .int .i64 t.n, .slice a1 t.ps.length c1] 25))
  have hnl : nodesL t.ps ≤ 1048576 := by have := t.nodes_eq; omega
  have hpl : t.ps.length ≤ 1048576 := by have := nodesL_ge t.ps; omega
  obtain ⟨K, hK⟩ : ∃ K, K = mayO t := ⟨_, rfl⟩
  have hkb := mayO_bd t
  have hasc := mayO_asc t
  have hpart : t.ok = true → ∀ i (h : i < t.ps.length), ∀ x ∈ mayO t.ps[i], x ∈ K := by
    intro ho i hi
    rw [hK]
    exact mayO_part ho hi
  have HPART := Lib.hid hpart
  have HASC := Lib.hid (show ∀ i (h : i + 1 < K.length), K[i] < K[i + 1] by subst hK; exact hasc)
  rw [← hK] at hkb
  have hkl := hkb.2
  have HKB := Lib.hid hkb.1
  have HK := Lib.hid hK
  clear hat hb HC ok1 ok2 hK hkb hasc hpart
  go_wp2_with fail
  refine (implMay_any t _ _ a1 c1 HT1.out).mono ?_
  rintro e w2 ⟨hb, v, rfl, hn2⟩
  rw [← HK.out] at hn2
  obtain ⟨a2, c2, rfl, hi2⟩ := hn2.at (fun x hx => by have := HKB.out x hx; unfold i64ok; omega)
  have hsz2 := hb.size
  simp only [World.size_alloc] at hsz2
  have HT2 := Lib.hid (HT1.out.below hb)
  have HB2 := Lib.hid (HB1.out.below hb (by simp))
  have HX2 := Lib.hid (HX1.out.trans (hb.mono (by simp; omega)))
  have HI2 := Lib.hid hi2
  clear hb HT1 HB1 HX1 hn2 hi2
  obtain ⟨x0, x1, x2, f0, f1, f2⟩ := HB2.out.three
  go_wp2_with fail
  refine (specMay_any t _ _ a1 c1 HT2.out hnl).mono ?_
  rintro e w3 ⟨hb, v, rfl, hn3⟩
  rw [← HK.out] at hn3
  obtain ⟨a3, c3, rfl, hi3⟩ := hn3.at (fun x hx => by have := HKB.out x hx; unfold i64ok; omega)
  have hsz3 := hb.size
  have HT3 := Lib.hid (HT2.out.below hb)
  have HB3 := Lib.hid (HB2.out.below hb (by omega))
  have HX3 := Lib.hid (HX2.out.trans (hb.mono (by omega)))
  have HI3 := Lib.hid (HI2.out.below hb)
  have HJ3 := Lib.hid hi3
  clear hb HT2 HB2 HX2 HI2 hn3 hi3 x0 x1 x2 f0 f1 f2
  go_wp2_with fail
  refine (brInts_any _ _ _ K a2 a3 c2 c3 HI3.out HJ3.out).mono ?_
  rintro e w4 ⟨rfl, hb⟩
  have hsz4 := hb.size
  have HT4 := Lib.hid (HT3.out.below hb)
  have HB4 := Lib.hid (HB3.out.below hb (by omega))
  have HX4 := Lib.hid (HX3.out.trans (hb.mono (by omega)))
  have HI4 := Lib.hid (HI3.out.below hb)
  clear hb HT3 HB3 HX3 HI3 HJ3
  go_wp2_with fail
  go_loopw [6] (fun i wr => ∃ j : Nat, j ≤ 10 ∧ i = .int .i64 ((j : Int) + 1) ∧ Below w4.heap.size w4 wr) (fun i _ => 20 - (intOf i).toNat)
  case atStart => exact ⟨0, by omega, rfl, Below.refl _ _⟩
  case round =>
    obtain ⟨j, hj, rfl, hbr⟩ := hrel
    have HBR := Lib.hid hbr
    have hwr := hbr.size
    clear hbr
    by_cases hlt : j + 1 < K.length
    · obtain ⟨bb, o, ha, hbl, _, e0⟩ := HI4.out.get HBR.out (show j < K.length by omega)
      obtain ⟨bb', o', ha', hbl', _, e1⟩ := HI4.out.get HBR.out hlt
      subst ha
      injection ha' with ha'
      injection ha' with hb1 hb2
      subst hb1 hb2
      have hxy := HASC.out j hlt
      obtain ⟨x, hx⟩ : ∃ x, x = K[j] := ⟨_, rfl⟩
      obtain ⟨y, hy⟩ : ∃ y, y = K[j + 1] := ⟨_, rfl⟩
      rw [← hx] at e0 hxy
      rw [← hy] at e1 hxy
      have hd : decide (y ≤ x) = false := by simp; omega
      have W1 : IntKind.i64.wrap ((j : Int) + 1 - 1) = (j : Int) := by rw [show (j : Int) + 1 - 1 = (j : Int) by omega]; exact IntWalk.i64_in _ ⟨by omega, by omega⟩
      have T1 : ((j : Int) + 1).toNat = j + 1 := by omega
      have hj1 : (j : Int) + 1 < (K.length : Int) := by omega
      have hj0 : (j : Int) < (K.length : Int) := by omega
      clear hx hy
      go_wp2_with fail
      go_quiet (fail)
      clear W1 T1
      go_wp2_with fail
      go_roundw
      case rel => exact ⟨j + 1, by omega, by go_num, below_drewN HBR.out _⟩
      case measure => simp [intOf]; omega
    · have HTR := Lib.hid (HT4.out.below HBR.out)
      have HBB := Lib.hid (HB4.out.below HBR.out (by omega))
      have HIR := Lib.hid (HI4.out.below HBR.out)
      have HXR := Lib.hid (HX4.out.trans (HBR.out.mono (by omega)))
      have hj1 : ¬ (j : Int) + 1 < (K.length : Int) := by omega
      go_wp2_with fail
      go_loopw [7] (fun i wr2 => ∃ k : Nat, k ≤ t.ps.length ∧ (t.ok = false → k = 0) ∧ i = .int .i64 k ∧ Below wr.heap.size wr wr2) (fun i _ => t.ps.length - (intOf i).toNat)
      case atStart => exact ⟨0, by omega, fun _ => rfl, rfl, Below.refl _ _⟩
      case round =>
        obtain ⟨k, hk, hk0, rfl, hb2⟩ := hrel
        have HB2 := Lib.hid hb2
        have hwr2 := hb2.size
        obtain ⟨x0, x1, x2, f0, f1, f2⟩ := (HBB.out.below hb2 (by omega)).three
        have HXE := Lib.hid (HXR.out.trans (hb2.mono (by omega)))
        clear hb2
        by_cases hlt : k < t.ps.length
        · have HTK := Lib.hid (HTR.out.below HB2.out)
          cases hok : t.ok
          · have HOK := Lib.hid hok
            clear hk0 hok
            go_wp2_with fail
            refine (implOk_any t _ _ a1 c1 HTK.out).mono ?_
            rintro e w6 ⟨rfl, hb⟩
            rw [HOK.out]
            have HX6 := Lib.hid (HXE.out.trans (hb.mono (by omega)))
            clear hb
            go_wp2_with fail
            go_ret
            exact ⟨rfl, HX6.out⟩
          · have HOK := Lib.hid hok
            clear hk0 hok
            go_wp2_with fail
            refine (implOk_any t _ _ a1 c1 HTK.out).mono ?_
            rintro e w6 ⟨rfl, hb⟩
            rw [HOK.out]
            have HT6 := Lib.hid (HTK.out.below hb)
            have HB6 := Lib.hid (HB2.out.trans (hb.mono (by omega)))
            have HI6 := Lib.hid ((HIR.out.below HB2.out).below hb)
            have hs6 := hb.size
            obtain ⟨z0, z1, z2, _, _, _⟩ := (HBB.out.below HB6.out (by omega)).three
            clear hb x0 x1 x2 f0 f1 f2
            obtain ⟨bb, o, a', c', rfl, hbl, _, e0, e1, e2, hs, _, _⟩ := HT6.out.elem (Below.refl _ _) hlt
            have HSP := Lib.hid hs
            have hpb := mayO_bd t.ps[k]
            have HPB := Lib.hid hpb
            have HPI := Lib.hid (HPART.out HOK.out k hlt)
            clear hs hpb
            go_wp2_with fail
            refine (implMay_any t.ps[k] _ _ a' c' HSP.out).mono ?_
            rintro e w7 ⟨hb, v, rfl, hn7⟩
            obtain ⟨a7, c7, rfl, hi7⟩ := hn7.at (fun x hx => by have := HPB.out.1 x hx; unfold i64ok; omega)
            have hs7 := hb.size
            have HB7 := Lib.hid (HB6.out.trans (hb.mono (by omega)))
            have HI7 := Lib.hid (HI6.out.below hb)
            have HJ7 := Lib.hid hi7
            clear hb hn7 hi7 z0 z1 z2 e0 e1 e2
            go_wp2_with fail
            refine (brAll_any _ _ _ (mayO t.ps[k]) K a7 a2 c7 c2 HJ7.out HI7.out HPI.out).mono ?_
            rintro e w8 ⟨rfl, rfl⟩
            go_wp2_with fail
            go_roundw
            case rel => exact ⟨k + 1, by omega, by simp, by go_num, HB7.out⟩
            case measure => simp [intOf]; omega
        · go_wp2_with fail
          go_ret
          exact ⟨rfl, HXE.out⟩
end Go.Proofs.Ytgcjnhlppapfdaa
