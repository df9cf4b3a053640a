/- spec.l1Text, spec.TaskText -/
import Derived.Test.YtgcjnhlppapfdaaDoorDec
import Derived.Test.YtgcjnhlppapfdaaDoorOk
import Derived.WalkLawsBesides
namespace Go.Proofs.YtgcjnhlppapfdaaDoor
open Go.RowKit

def headB (k : Int) (n : Nat) : List UInt8 := if k = 2 then [40, 43] else if k = 3 then [40, 42] else if k = 4 then [40, 63] else 40 :: 64 :: dec n
mutual
def T.text : T → List UInt8 | .mk k n ps => if k = 0 then dec n.toNat else if k = 1 then 107 :: dec n.toNat else headB k n.toNat ++ textL ps ++ [41]
def textL : List T → List UInt8 | [] => [] | t :: r => 32 :: t.text ++ textL r
end
theorem textL_append : ∀ ps qs : List T, textL (ps ++ qs) = textL ps ++ textL qs
  | [], qs => by simp [textL]
  | t :: r, qs => by simp only [textL, List.cons_append, textL_append r qs, List.append_assoc]
theorem textL_snoc (ps : List T) (i : Nat) (h : i < ps.length) : textL (ps.take (i + 1)) = textL (ps.take i) ++ 32 :: ps[i].text := by
  rw [List.take_succ_eq_append_getElem h, textL_append]; simp [textL]

theorem fit_n {t : T} (h : t.fit = true) : 0 ≤ t.k ∧ t.k ≤ 5 ∧ 0 ≤ t.n ∧ t.n ≤ 96 := by
  rw [T.fit_eq] at h
  unfold fit1 shp at h
  simp only [Bool.and_eq_true, decide_eq_true_eq] at h
  obtain ⟨⟨⟨h1, _⟩, h3⟩, _⟩ := h
  repeat' split at h1
  all_goals first | (simp at h1; done) | (simp_all <;> omega)
theorem fit_part {t : T} (h : t.fit = true) {i : Nat} (hi : i < t.ps.length) : t.ps[i].fit = true := by
  rw [T.fit_eq] at h
  simp only [Bool.and_eq_true] at h
  cases hf : t.ps[i].fit
  · have := fitL_false t.ps i hi hf; rw [h.2] at this; cases this
  · rfl

theorem headB_len (k : Int) (n : Nat) : (headB k n).length ≤ 4 := by
  have : (dec n).length ≤ 2 := by unfold dec; split <;> simp
  unfold headB; repeat' split
  all_goals simp
  omega
mutual
theorem text_len : ∀ t : T, t.text.length + 1 ≤ 7 * t.nodes
  | .mk k n ps => by
    have h1 := textL_len ps
    have h2 := headB_len k n.toNat
    have h3 : (dec n.toNat).length ≤ 2 := by unfold dec; split <;> simp
    simp only [T.text, T.nodes]
    repeat' split
    all_goals simp
    all_goals omega
theorem textL_len : ∀ ps : List T, (textL ps).length ≤ 7 * nodesL ps
  | [] => by simp [textL]
  | t :: r => by
    have h1 := text_len t
    have h2 := textL_len r
    simp [textL, nodesL]
    omega
end

/-- A string by name: its bytes, its size. -/
theorem named (l : List UInt8) (m : Nat) (h : l.length ≤ m) : ∃ s : ByteArray, (⟨l.toArray⟩ : ByteArray) = s ∧ s.size ≤ m := ⟨_, rfl, by simpa [ByteArray.size] using h⟩

/-- Bytes as a string. -/
def sv (l : List UInt8) : Value := .string ⟨l.toArray⟩

def TextT (t : T) : Prop := ∀ (w : World) (S : Nat → Prop) (a : Option Addr) (c : Nat), AtS w S t.ps a c → t.fit = true → t.nodes ≤ 1000 →
  Calls Tryd.prog 17 #[.agg #[.int .i64 t.k, .int .i64 t.n, .slice a t.ps.length c]] w fun e w' => e = .returned (sv t.text) ∧ Below w.heap.size w w'

set_option maxHeartbeats 1000000 in
theorem text_of (t : T) (hF : ∀ u ∈ t.ps, TextT u) : TextT t := by
  intro w S a c hat hfit hnodes
  obtain ⟨hk0, hk5, hn0, hn1⟩ := fit_n hfit
  have K0 := Lib.hid (Kp.start (ty := 25) hat)
  have HF := Lib.hid hF
  have HFIT := Lib.hid hfit
  have hlen : t.ps.length ≤ 9223372036854775807 := by have := hat.1; have := hat.2.1; omega
  have HA := Lib.hid hat
  clear hat hF hfit
  obtain ⟨n, hn⟩ : ∃ n : Nat, t.n = n := ⟨t.n.toNat, by omega⟩
  have hn96 : n ≤ 96 := by omega
  have htx : t.text = if t.k = 0 then dec n else if t.k = 1 then 107 :: dec n else headB t.k n ++ textL t.ps ++ [41] := by
    cases t; simp only [T.text, T.k, T.n, T.ps] at hn ⊢; rw [hn]; rfl
  rw [hn]
  have hdl' : (dec n).length ≤ 2 := by unfold dec; split <;> simp
  obtain ⟨s, hs, hss⟩ := named (dec n) 2 hdl'
  have HN := Lib.hid hn
  have HT := Lib.hid htx
  clear htx hn hn0 hn1
  rcases (show t.k = 0 ∨ t.k = 1 ∨ (2 ≤ t.k) by omega) with hk | hk | hk
  · have HTX := Lib.hid (show t.text = dec n by rw [HT.out]; simp [hk])
    have HK := Lib.hid hk
    rw [hk]
    clear hk hk0 hk5
    go_enter Tryd.func17, Tryd.ntmps17
    go_wp2_with fail
    refine (dec_any n (by omega) _).mono ?_
    rintro e w1 ⟨rfl, hb⟩
    rw [hs]
    have HS := Lib.hid hs
    have K1 := Lib.hid (K0.out.step (by rw [HK.out, HN.out]; exact hb))
    clear hb hs
    obtain ⟨x0, x1, x2⟩ := K1.out.box
    rw [HK.out] at x0
    rw [HN.out] at x1
    go_wp2_with fail
    go_ret
    exact ⟨by rw [HTX.out]; unfold sv; rw [HS.out]; rfl, K1.out.done⟩
  · have HTX := Lib.hid (show t.text = 107 :: dec n by rw [HT.out]; simp [hk])
    have HK := Lib.hid hk
    rw [hk]
    clear hk hk0 hk5
    go_enter Tryd.func17, Tryd.ntmps17
    go_wp2_with fail
    refine (dec_any n (by omega) _).mono ?_
    rintro e w1 ⟨rfl, hb⟩
    rw [hs]
    have HS := Lib.hid hs
    have K1 := Lib.hid (K0.out.step (by rw [HK.out, HN.out]; exact hb))
    clear hb hs
    obtain ⟨x0, x1, x2⟩ := K1.out.box
    rw [HK.out] at x0
    rw [HN.out] at x1
    go_wp2_with fail
    go_ret
    exact ⟨by rw [HTX.out]; unfold sv; rw [show (⟨(107 :: dec n).toArray⟩ : ByteArray) = ⟨#[107]⟩ ++ s by rw [← HS.out, ByteArray.mk_append_mk]; simp]; rfl, K1.out.done⟩
  · rcases (show t.k = 2 ∨ t.k = 3 ∨ t.k = 4 ∨ t.k = 5 by omega) with hk' | hk' | hk' | hk'
    · have hk := hk'
      clear hk'
      have HTX := Lib.hid (show t.text = headB 2 n ++ textL t.ps ++ [41] by rw [HT.out]; simp [hk])
      have HK := Lib.hid hk
      rw [hk]
      have HHL := Lib.hid (headB_len 2 n)
      have hnl : 7 * nodesL t.ps ≤ 7000 := by have := t.nodes_eq; omega
      have HNL := Lib.hid hnl
      clear hk hk0 hk5 hnl
      go_enter Tryd.func17, Tryd.ntmps17
      go_wp2_with fail
      refine (dec_any n (by omega) _).mono ?_
      rintro e w1 ⟨rfl, hb⟩
      rw [hs]
      have HS := Lib.hid hs
      have K1 := Lib.hid (K0.out.step (by rw [HK.out, HN.out]; exact hb))
      clear hb hs
      obtain ⟨x0, x1, x2⟩ := K1.out.box
      rw [HK.out] at x0
      rw [HN.out] at x1
      go_wp2_with fail
      clear x0 x1 x2
      go_loopw [4, 5] (fun o i wr => ∃ (q : Nat) (z : ByteArray), q ≤ t.ps.length ∧ i = .int .i64 q ∧ o = .string z ∧ z = ⟨(headB 2 n ++ textL (t.ps.take q)).toArray⟩ ∧ Kp S t a c 25 w wr) (fun _ i _ => t.ps.length - (intOf i).toNat)
      case atStart => exact ⟨0, ⟨#[40, 43]⟩, by omega, rfl, rfl, by simp [headB, textL], K1.out⟩
      case round =>
        obtain ⟨q, z, hq, rfl, rfl, hz, hkp⟩ := hrel
        obtain ⟨x0, x1, x2⟩ := hkp.box
        rw [HK.out] at x0
        rw [HN.out] at x1
        have hzs : z.size ≤ 4 + 7 * nodesL (t.ps.take q) := by rw [hz]; have h1 := textL_len (t.ps.take q); have h2 := HHL.out; simp [ByteArray.size]; omega
        have HR := Lib.hid (And.intro hz hkp)
        clear hz hkp
        by_cases hlt : q < t.ps.length
        · obtain ⟨b, o, a', c', rfl, hbl, _, e0, e1, e2, hs', _, _⟩ := HA.out.elem HR.out.2.done hlt
          have HS' := Lib.hid hs'
          have hfp := fit_part HFIT.out hlt
          have hnn := nodesL_snoc t.ps q hlt
          have hnr := nodesL_rest t.ps (q + 1)
          have hnl := HNL.out
          have hpn : t.ps[q].nodes ≤ 1000 := by omega
          have htl := text_len t.ps[q]
          obtain ⟨s2, hs2, hs2s⟩ := named t.ps[q].text (7 * t.ps[q].nodes) (by omega)
          have hz2 : z.size ≤ 8000 := by omega
          have hs2b : s2.size ≤ 7000 := by omega
          have HFP := Lib.hid hfp
          have HX := Lib.hid (And.intro hs2 (textL_snoc t.ps q hlt))
          have HSV := Lib.hid (show sv t.ps[q].text = .string s2 by unfold sv; rw [hs2])
          clear hs' hfp hnn hnr hnl htl hs2 hs2s hzs
          go_wp2_with fail
          refine (HF.out t.ps[q] (List.getElem_mem _) _ S a' c' HS'.out HFP.out hpn).mono ?_
          rintro e w2 ⟨rfl, hb⟩
          rw [HSV.out]
          have K2 := Lib.hid (HR.out.2.step hb)
          clear hb
          go_wp2_with fail
          go_roundw
          case rel => exact ⟨q + 1, z ++ ⟨#[32]⟩ ++ s2, by omega, by go_num, rfl, by rw [HR.out.1, HX.out.2, ← HX.out.1, ByteArray.mk_append_mk, ByteArray.mk_append_mk]; simp, K2.out⟩
          case measure => simp [intOf]; omega
        · have hfin : sv t.text = .string (z ++ ⟨#[41]⟩) := by
            rw [HTX.out, HR.out.1, show q = t.ps.length by omega, List.take_of_length_le (Nat.le_refl _), ByteArray.mk_append_mk]; simp [sv]
          have HFN := Lib.hid hfin
          have hz2 : z.size ≤ 8000 := by have := HNL.out; have := nodesL_rest t.ps q; omega
          clear hfin hzs
          go_wp2_with fail
          go_ret
          exact ⟨by rw [HFN.out]; rfl, HR.out.2.done⟩
    · have hk := hk'
      clear hk'
      have HTX := Lib.hid (show t.text = headB 3 n ++ textL t.ps ++ [41] by rw [HT.out]; simp [hk])
      have HK := Lib.hid hk
      rw [hk]
      have HHL := Lib.hid (headB_len 3 n)
      have hnl : 7 * nodesL t.ps ≤ 7000 := by have := t.nodes_eq; omega
      have HNL := Lib.hid hnl
      clear hk hk0 hk5 hnl
      go_enter Tryd.func17, Tryd.ntmps17
      go_wp2_with fail
      refine (dec_any n (by omega) _).mono ?_
      rintro e w1 ⟨rfl, hb⟩
      rw [hs]
      have HS := Lib.hid hs
      have K1 := Lib.hid (K0.out.step (by rw [HK.out, HN.out]; exact hb))
      clear hb hs
      obtain ⟨x0, x1, x2⟩ := K1.out.box
      rw [HK.out] at x0
      rw [HN.out] at x1
      go_wp2_with fail
      clear x0 x1 x2
      go_loopw [4, 5] (fun o i wr => ∃ (q : Nat) (z : ByteArray), q ≤ t.ps.length ∧ i = .int .i64 q ∧ o = .string z ∧ z = ⟨(headB 3 n ++ textL (t.ps.take q)).toArray⟩ ∧ Kp S t a c 25 w wr) (fun _ i _ => t.ps.length - (intOf i).toNat)
      case atStart => exact ⟨0, ⟨#[40, 42]⟩, by omega, rfl, rfl, by simp [headB, textL], K1.out⟩
      case round =>
        obtain ⟨q, z, hq, rfl, rfl, hz, hkp⟩ := hrel
        obtain ⟨x0, x1, x2⟩ := hkp.box
        rw [HK.out] at x0
        rw [HN.out] at x1
        have hzs : z.size ≤ 4 + 7 * nodesL (t.ps.take q) := by rw [hz]; have h1 := textL_len (t.ps.take q); have h2 := HHL.out; simp [ByteArray.size]; omega
        have HR := Lib.hid (And.intro hz hkp)
        clear hz hkp
        by_cases hlt : q < t.ps.length
        · obtain ⟨b, o, a', c', rfl, hbl, _, e0, e1, e2, hs', _, _⟩ := HA.out.elem HR.out.2.done hlt
          have HS' := Lib.hid hs'
          have hfp := fit_part HFIT.out hlt
          have hnn := nodesL_snoc t.ps q hlt
          have hnr := nodesL_rest t.ps (q + 1)
          have hnl := HNL.out
          have hpn : t.ps[q].nodes ≤ 1000 := by omega
          have htl := text_len t.ps[q]
          obtain ⟨s2, hs2, hs2s⟩ := named t.ps[q].text (7 * t.ps[q].nodes) (by omega)
          have hz2 : z.size ≤ 8000 := by omega
          have hs2b : s2.size ≤ 7000 := by omega
          have HFP := Lib.hid hfp
          have HX := Lib.hid (And.intro hs2 (textL_snoc t.ps q hlt))
          have HSV := Lib.hid (show sv t.ps[q].text = .string s2 by unfold sv; rw [hs2])
          clear hs' hfp hnn hnr hnl htl hs2 hs2s hzs
          go_wp2_with fail
          refine (HF.out t.ps[q] (List.getElem_mem _) _ S a' c' HS'.out HFP.out hpn).mono ?_
          rintro e w2 ⟨rfl, hb⟩
          rw [HSV.out]
          have K2 := Lib.hid (HR.out.2.step hb)
          clear hb
          go_wp2_with fail
          go_roundw
          case rel => exact ⟨q + 1, z ++ ⟨#[32]⟩ ++ s2, by omega, by go_num, rfl, by rw [HR.out.1, HX.out.2, ← HX.out.1, ByteArray.mk_append_mk, ByteArray.mk_append_mk]; simp, K2.out⟩
          case measure => simp [intOf]; omega
        · have hfin : sv t.text = .string (z ++ ⟨#[41]⟩) := by
            rw [HTX.out, HR.out.1, show q = t.ps.length by omega, List.take_of_length_le (Nat.le_refl _), ByteArray.mk_append_mk]; simp [sv]
          have HFN := Lib.hid hfin
          have hz2 : z.size ≤ 8000 := by have := HNL.out; have := nodesL_rest t.ps q; omega
          clear hfin hzs
          go_wp2_with fail
          go_ret
          exact ⟨by rw [HFN.out]; rfl, HR.out.2.done⟩
    · have hk := hk'
      clear hk'
      have HTX := Lib.hid (show t.text = headB 4 n ++ textL t.ps ++ [41] by rw [HT.out]; simp [hk])
      have HK := Lib.hid hk
      rw [hk]
      have HHL := Lib.hid (headB_len 4 n)
      have hnl : 7 * nodesL t.ps ≤ 7000 := by have := t.nodes_eq; omega
      have HNL := Lib.hid hnl
      clear hk hk0 hk5 hnl
      go_enter Tryd.func17, Tryd.ntmps17
      go_wp2_with fail
      refine (dec_any n (by omega) _).mono ?_
      rintro e w1 ⟨rfl, hb⟩
      rw [hs]
      have HS := Lib.hid hs
      have K1 := Lib.hid (K0.out.step (by rw [HK.out, HN.out]; exact hb))
      clear hb hs
      obtain ⟨x0, x1, x2⟩ := K1.out.box
      rw [HK.out] at x0
      rw [HN.out] at x1
      go_wp2_with fail
      clear x0 x1 x2
      go_loopw [4, 5] (fun o i wr => ∃ (q : Nat) (z : ByteArray), q ≤ t.ps.length ∧ i = .int .i64 q ∧ o = .string z ∧ z = ⟨(headB 4 n ++ textL (t.ps.take q)).toArray⟩ ∧ Kp S t a c 25 w wr) (fun _ i _ => t.ps.length - (intOf i).toNat)
      case atStart => exact ⟨0, ⟨#[40, 63]⟩, by omega, rfl, rfl, by simp [headB, textL], K1.out⟩
      case round =>
        obtain ⟨q, z, hq, rfl, rfl, hz, hkp⟩ := hrel
        obtain ⟨x0, x1, x2⟩ := hkp.box
        rw [HK.out] at x0
        rw [HN.out] at x1
        have hzs : z.size ≤ 4 + 7 * nodesL (t.ps.take q) := by rw [hz]; have h1 := textL_len (t.ps.take q); have h2 := HHL.out; simp [ByteArray.size]; omega
        have HR := Lib.hid (And.intro hz hkp)
        clear hz hkp
        by_cases hlt : q < t.ps.length
        · obtain ⟨b, o, a', c', rfl, hbl, _, e0, e1, e2, hs', _, _⟩ := HA.out.elem HR.out.2.done hlt
          have HS' := Lib.hid hs'
          have hfp := fit_part HFIT.out hlt
          have hnn := nodesL_snoc t.ps q hlt
          have hnr := nodesL_rest t.ps (q + 1)
          have hnl := HNL.out
          have hpn : t.ps[q].nodes ≤ 1000 := by omega
          have htl := text_len t.ps[q]
          obtain ⟨s2, hs2, hs2s⟩ := named t.ps[q].text (7 * t.ps[q].nodes) (by omega)
          have hz2 : z.size ≤ 8000 := by omega
          have hs2b : s2.size ≤ 7000 := by omega
          have HFP := Lib.hid hfp
          have HX := Lib.hid (And.intro hs2 (textL_snoc t.ps q hlt))
          have HSV := Lib.hid (show sv t.ps[q].text = .string s2 by unfold sv; rw [hs2])
          clear hs' hfp hnn hnr hnl htl hs2 hs2s hzs
          go_wp2_with fail
          refine (HF.out t.ps[q] (List.getElem_mem _) _ S a' c' HS'.out HFP.out hpn).mono ?_
          rintro e w2 ⟨rfl, hb⟩
          rw [HSV.out]
          have K2 := Lib.hid (HR.out.2.step hb)
          clear hb
          go_wp2_with fail
          go_roundw
          case rel => exact ⟨q + 1, z ++ ⟨#[32]⟩ ++ s2, by omega, by go_num, rfl, by rw [HR.out.1, HX.out.2, ← HX.out.1, ByteArray.mk_append_mk, ByteArray.mk_append_mk]; simp, K2.out⟩
          case measure => simp [intOf]; omega
        · have hfin : sv t.text = .string (z ++ ⟨#[41]⟩) := by
            rw [HTX.out, HR.out.1, show q = t.ps.length by omega, List.take_of_length_le (Nat.le_refl _), ByteArray.mk_append_mk]; simp [sv]
          have HFN := Lib.hid hfin
          have hz2 : z.size ≤ 8000 := by have := HNL.out; have := nodesL_rest t.ps q; omega
          clear hfin hzs
          go_wp2_with fail
          go_ret
          exact ⟨by rw [HFN.out]; rfl, HR.out.2.done⟩
    · have hk := hk'
      clear hk'
      have HTX := Lib.hid (show t.text = headB 5 n ++ textL t.ps ++ [41] by rw [HT.out]; simp [hk])
      have HK := Lib.hid hk
      rw [hk]
      have HHL := Lib.hid (headB_len 5 n)
      have hnl : 7 * nodesL t.ps ≤ 7000 := by have := t.nodes_eq; omega
      have HNL := Lib.hid hnl
      clear hk hk0 hk5 hnl
      go_enter Tryd.func17, Tryd.ntmps17
      go_wp2_with fail
      refine (dec_any n (by omega) _).mono ?_
      rintro e w1 ⟨rfl, hb⟩
      rw [hs]
      have HS := Lib.hid hs
      have K1 := Lib.hid (K0.out.step (by rw [HK.out, HN.out]; exact hb))
      clear hb hs
      obtain ⟨x0, x1, x2⟩ := K1.out.box
      rw [HK.out] at x0
      rw [HN.out] at x1
      go_wp2_with fail
      clear x0 x1 x2
      go_loopw [4, 5] (fun o i wr => ∃ (q : Nat) (z : ByteArray), q ≤ t.ps.length ∧ i = .int .i64 q ∧ o = .string z ∧ z = ⟨(headB 5 n ++ textL (t.ps.take q)).toArray⟩ ∧ Kp S t a c 25 w wr) (fun _ i _ => t.ps.length - (intOf i).toNat)
      case atStart => exact ⟨0, ⟨#[40, 64]⟩ ++ s, by omega, rfl, rfl, by rw [← HS.out, ByteArray.mk_append_mk]; simp [headB, textL], K1.out⟩
      case round =>
        obtain ⟨q, z, hq, rfl, rfl, hz, hkp⟩ := hrel
        obtain ⟨x0, x1, x2⟩ := hkp.box
        rw [HK.out] at x0
        rw [HN.out] at x1
        have hzs : z.size ≤ 4 + 7 * nodesL (t.ps.take q) := by rw [hz]; have h1 := textL_len (t.ps.take q); have h2 := HHL.out; simp [ByteArray.size]; omega
        have HR := Lib.hid (And.intro hz hkp)
        clear hz hkp
        by_cases hlt : q < t.ps.length
        · obtain ⟨b, o, a', c', rfl, hbl, _, e0, e1, e2, hs', _, _⟩ := HA.out.elem HR.out.2.done hlt
          have HS' := Lib.hid hs'
          have hfp := fit_part HFIT.out hlt
          have hnn := nodesL_snoc t.ps q hlt
          have hnr := nodesL_rest t.ps (q + 1)
          have hnl := HNL.out
          have hpn : t.ps[q].nodes ≤ 1000 := by omega
          have htl := text_len t.ps[q]
          obtain ⟨s2, hs2, hs2s⟩ := named t.ps[q].text (7 * t.ps[q].nodes) (by omega)
          have hz2 : z.size ≤ 8000 := by omega
          have hs2b : s2.size ≤ 7000 := by omega
          have HFP := Lib.hid hfp
          have HX := Lib.hid (And.intro hs2 (textL_snoc t.ps q hlt))
          have HSV := Lib.hid (show sv t.ps[q].text = .string s2 by unfold sv; rw [hs2])
          clear hs' hfp hnn hnr hnl htl hs2 hs2s hzs
          go_wp2_with fail
          refine (HF.out t.ps[q] (List.getElem_mem _) _ S a' c' HS'.out HFP.out hpn).mono ?_
          rintro e w2 ⟨rfl, hb⟩
          rw [HSV.out]
          have K2 := Lib.hid (HR.out.2.step hb)
          clear hb
          go_wp2_with fail
          go_roundw
          case rel => exact ⟨q + 1, z ++ ⟨#[32]⟩ ++ s2, by omega, by go_num, rfl, by rw [HR.out.1, HX.out.2, ← HX.out.1, ByteArray.mk_append_mk, ByteArray.mk_append_mk]; simp, K2.out⟩
          case measure => simp [intOf]; omega
        · have hfin : sv t.text = .string (z ++ ⟨#[41]⟩) := by
            rw [HTX.out, HR.out.1, show q = t.ps.length by omega, List.take_of_length_le (Nat.le_refl _), ByteArray.mk_append_mk]; simp [sv]
          have HFN := Lib.hid hfin
          have hz2 : z.size ≤ 8000 := by have := HNL.out; have := nodesL_rest t.ps q; omega
          clear hfin hzs
          go_wp2_with fail
          go_ret
          exact ⟨by rw [HFN.out]; rfl, HR.out.2.done⟩
theorem text_all : ∀ t, TextT t := T.ind fun k n ps ih => text_of (.mk k n ps) ih

end Go.Proofs.YtgcjnhlppapfdaaDoor
