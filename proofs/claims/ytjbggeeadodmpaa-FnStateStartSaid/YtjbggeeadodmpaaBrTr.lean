/- laws.brFetches, brTrace of whatever traces; brTraces of equal ones -/
import Derived.Test.YtjbggeeadodmpaaLawDTO
import Derived.Test.YtjbggeeadodmpaaTrJ
namespace Go.Proofs.Ytjbggeeadodmpaa
open Go.RowKit

set_option maxRecDepth 100000 in
set_option maxHeartbeats 2000000 in
theorem brPrs2_any (w : World) (S S' : Nat → Prop) (l m : List (Int × Int)) (a a' : Option Addr) (c c' : Nat) (h : PrsAt w S l a c) (h' : PrsAt w S' m a' c') :
    Calls Try.prog 46 #[.slice a l.length c, .slice a' m.length c'] w fun e w' => e = .returned (.bool (decide (l = m))) ∧ Below w.heap.size w w' := by
  have hl1 : l.length ≤ 9223372036854775807 := RwAt.len h
  have hl2 : m.length ≤ 9223372036854775807 := RwAt.len h'
  have H := Lib.hid h
  have H' := Lib.hid h'
  obtain ⟨r, hr⟩ : ∃ r, r = decide (l = m) := ⟨_, rfl⟩
  have HR := Lib.hid hr
  rw [← hr]
  clear h h' hr
  by_cases hn : l.length = m.length
  case neg =>
    have hne : (((l.length : Nat) : Int) != ((m.length : Nat) : Int)) = true := by simp; omega
    have HF := Lib.hid (show r = false by rw [HR.out]; exact decide_eq_false (fun e => hn (by rw [e])))
    clear hn
    go_enter Try.func46, Try.ntmps46
    go_wp2_with fail
    go_ret
    exact ⟨ret_bool HF.out.symm, Below.refl _ _⟩
  have hne : (((l.length : Nat) : Int) != ((m.length : Nat) : Int)) = false := by simp; omega
  have HN := Lib.hid hn
  clear hn
  go_enter Try.func46, Try.ntmps46
  go_wp2_with fail
  clear hne
  go_loopw [5] (fun i wr => ∃ k : Nat, k ≤ l.length ∧ i = .int .i64 k ∧ l.take k = m.take k ∧ Below w.heap.size w wr) (fun i _ => l.length - (intOf i).toNat)
  case atStart => exact ⟨0, by omega, rfl, by simp, Below.refl _ _⟩
  case round =>
    obtain ⟨k, hk, rfl, hq, hb⟩ := hrel
    have HQ := Lib.hid hq
    have HB := Lib.hid hb
    clear hb hq
    by_cases hlt : k < l.length
    · have hlt2 : k < m.length := by have := HN.out; omega
      obtain ⟨b, o, rfl, hbl, _, e0, e1, _, _⟩ := H.out.get HB.out hlt
      obtain ⟨b', o', rfl, hbl', _, e0', e1', _, _⟩ := H'.out.get HB.out hlt2
      have HSN := Lib.hid (take_eq_snoc hlt hlt2 HQ.out)
      have HNE := Lib.hid (ne_of_get hlt hlt2)
      obtain ⟨p, hp⟩ : ∃ p, p = l[k] := ⟨_, rfl⟩
      rw [← hp] at e0 e1 HSN HNE
      obtain ⟨q, hq⟩ : ∃ q, q = m[k] := ⟨_, rfl⟩
      rw [← hq] at e0' e1' HSN HNE
      obtain ⟨p1, p2⟩ := p
      obtain ⟨q1, q2⟩ := q
      simp only at e0 e1 e0' e1'
      clear hp hq
      by_cases h1 : p1 = q1
      · by_cases h2 : p2 = q2
        · subst h1 h2
          have hu1 : (p1 == p1) = true := by simp
          have hv1 : (p2 == p2) = true := by simp
          have hu2 : (p1 != p1) = false := by simp
          have hv2 : (p2 != p2) = false := by simp
          have HT := Lib.hid (HSN.out rfl)
          go_wp2_with fail
          go_quiet (fail)
          go_wp2_with fail
          go_roundw
          case rel => exact ⟨k + 1, by omega, by go_num, HT.out, below_drewN HB.out _⟩
          case measure => simp [intOf]; omega
        · subst h1
          have hu1 : (p1 == p1) = true := by simp
          have hv1 : (p2 == q2) = false := by simpa using h2
          have hu2 : (p1 != p1) = false := by simp
          have hv2 : (p2 != q2) = true := by simpa using h2
          have HF := Lib.hid (show r = false by rw [HR.out]; exact decide_eq_false (HNE.out (by simpa using h2)))
          clear h2
          go_wp2_with fail
          go_quiet (fail)
          go_wp2_with fail
          go_ret
          exact ⟨ret_bool HF.out.symm, below_drewN HB.out _⟩
      · have hu1 : (p1 == q1) = false := by simpa using h1
        have hu2 : (p1 != q1) = true := by simpa using h1
        have HF := Lib.hid (show r = false by rw [HR.out]; exact decide_eq_false (HNE.out (by simp [h1])))
        clear h1
        go_wp2_with fail
        go_quiet (fail)
        go_wp2_with fail
        go_ret
        exact ⟨ret_bool HF.out.symm, below_drewN HB.out _⟩
    · have HT := Lib.hid (show r = true by have h := HQ.out; rw [List.take_of_length_le (by omega), List.take_of_length_le (by have := HN.out; omega)] at h; rw [HR.out]; exact decide_eq_true h)
      go_wp2_with fail
      go_ret
      exact ⟨ret_bool HT.out.symm, HB.out⟩

set_option maxRecDepth 100000 in
set_option maxHeartbeats 4000000 in
theorem brTrace2_any (w : World) (S S' : Nat → Prop) (t t' : Tr) (a a' : Option Addr) (c c' : Nat) (h : PrsAt w S t.u a c) (h' : PrsAt w S' t'.u a' c') :
    Calls Try.prog 17 #[.agg #[.int .i64 t.k, .slice a t.u.length c, .int .i64 t.v], .agg #[.int .i64 t'.k, .slice a' t'.u.length c', .int .i64 t'.v]] w fun e w' => e = .returned (.bool (trEq t t')) ∧ Below w.heap.size w w' := by
  obtain ⟨k1, l, v1⟩ := t
  obtain ⟨k2, m, v2⟩ := t'
  simp only at *
  obtain ⟨W, hW⟩ : ∃ W, W = (w.alloc (.cells #[.int .i64 k1, .slice a l.length c, .int .i64 v1] 25)).alloc (.cells #[.int .i64 k2, .slice a' m.length c', .int .i64 v2] 25) := ⟨_, rfl⟩
  have B0 := Lib.hid ((Blk.new w 25 #[.int .i64 k1, .slice a l.length c, .int .i64 v1]).alloc (.cells #[.int .i64 k2, .slice a' m.length c', .int .i64 v2] 25))
  have B1 := Lib.hid (show Blk ((w.alloc (.cells #[.int .i64 k1, .slice a l.length c, .int .i64 v1] 25)).alloc (.cells #[.int .i64 k2, .slice a' m.length c', .int .i64 v2] 25)) (w.heap.size + 1) 25 #[.int .i64 k2, .slice a' m.length c', .int .i64 v2] by
    have := Blk.new (w.alloc (.cells #[.int .i64 k1, .slice a l.length c, .int .i64 v1] 25)) 25 #[.int .i64 k2, .slice a' m.length c', .int .i64 v2]; simpa using this)
  have H := Lib.hid ((h.alloc (.cells #[.int .i64 k1, .slice a l.length c, .int .i64 v1] 25)).alloc (.cells #[.int .i64 k2, .slice a' m.length c', .int .i64 v2] 25))
  have H' := Lib.hid ((h'.alloc (.cells #[.int .i64 k1, .slice a l.length c, .int .i64 v1] 25)).alloc (.cells #[.int .i64 k2, .slice a' m.length c', .int .i64 v2] 25))
  have HB0 := Lib.hid (show Below w.heap.size w ((w.alloc (.cells #[.int .i64 k1, .slice a l.length c, .int .i64 v1] 25)).alloc (.cells #[.int .i64 k2, .slice a' m.length c', .int .i64 v2] 25)) from ((Below.refl _ _).alloc (Nat.le_refl _) _).alloc (by simp) _)
  have HE := Lib.hid (show trEq ⟨k1, l, v1⟩ ⟨k2, m, v2⟩ = ((decide (k1 = k2) && decide (v1 = v2)) && decide (l = m)) from rfl)
  have HWW := Lib.hid hW
  clear h h' hW
  obtain ⟨x0, x1, x2, -⟩ := B0.out.three
  obtain ⟨y0, y1, y2, -⟩ := B1.out.three
  rw [← HWW.out] at H H' HB0
  rw [HE.out]
  by_cases hk : k1 = k2
  · by_cases hv : v1 = v2
    · subst hk hv
      have t0 : (k1 == k1) = true := by simp
      have t1 : (v1 == v1) = true := by simp
      obtain ⟨r, hr⟩ : ∃ r, r = decide (l = m) := ⟨_, rfl⟩
      have HC := Lib.hid (brPrs2_any W S S' l m a a' c c' H.out H'.out)
      have HR := Lib.hid (show ((decide (k1 = k1) && decide (v1 = v1)) && decide (l = m)) = r by rw [hr]; simp)
      rw [← hr] at HC
      rw [HR.out]
      clear hr
      go_enter Try.func17, Try.ntmps17
      go_wp2_with fail
      rw [← HWW.out]
      refine HC.out.mono ?_
      rintro e w1 ⟨rfl, hb⟩
      have HX := Lib.hid (HB0.out.trans (hb.mono HB0.out.size))
      clear hb x0 x1 x2 y0 y1 y2 t0 t1 HC
      go_wp2_with fail
      go_ret
      exact ⟨ret_bool rfl, HX.out⟩
    · subst hk
      have t0 : (k1 == k1) = true := by simp
      have t1 : (v1 == v2) = false := by simpa using hv
      have HR := Lib.hid (show ((decide (k1 = k1) && decide (v1 = v2)) && decide (l = m)) = false by rw [decide_eq_false hv]; simp)
      rw [HR.out]
      rw [HWW.out] at HB0
      clear hv
      go_enter Try.func17, Try.ntmps17
      go_wp2_with fail
      go_ret
      exact ⟨ret_bool rfl, HB0.out⟩
  · have t0 : (k1 == k2) = false := by simpa using hk
    have HR := Lib.hid (show ((decide (k1 = k2) && decide (v1 = v2)) && decide (l = m)) = false by rw [decide_eq_false hk]; simp)
    rw [HR.out]
    rw [HWW.out] at HB0
    clear hk
    go_enter Try.func17, Try.ntmps17
    go_wp2_with fail
    go_ret
    exact ⟨ret_bool rfl, HB0.out⟩

set_option maxRecDepth 100000 in
set_option maxHeartbeats 2000000 in
theorem brTraces_any (w : World) (S S' : Nat → Prop) (l : List Tr) (a a' : Option Addr) (c c' : Nat) (h : TrsAt w S l a c) (h' : TrsAt w S' l a' c') :
    Calls Try.prog 21 #[.slice a l.length c, .slice a' l.length c'] w fun e w' => e = .returned (.bool true) ∧ Below w.heap.size w w' := by
  have hlen : l.length ≤ 9223372036854775807 := RwAt.len h
  have H := Lib.hid h
  have H' := Lib.hid h'
  clear h h'
  have hne : (((l.length : Nat) : Int) != ((l.length : Nat) : Int)) = false := by simp
  go_enter Try.func21, Try.ntmps21
  go_wp2_with fail
  clear hne
  go_loopw [5] (fun i wr => ∃ k : Nat, k ≤ l.length ∧ i = .int .i64 k ∧ Below w.heap.size w wr) (fun i _ => l.length - (intOf i).toNat)
  case atStart => exact ⟨0, by omega, rfl, Below.refl _ _⟩
  case round =>
    obtain ⟨k, hk, rfl, hb⟩ := hrel
    have HB := Lib.hid hb
    clear hb
    by_cases hlt : k < l.length
    · obtain ⟨b, o, a2, c2, rfl, hbl, _, e0, e1, e2, hs, _, _⟩ := H.out.get HB.out hlt
      obtain ⟨b', o', a2', c2', rfl, hbl', _, e0', e1', e2', hs', _, _⟩ := H'.out.get HB.out hlt
      obtain ⟨t, ht⟩ : ∃ t, t = l[k] := ⟨_, rfl⟩
      rw [← ht] at e0 e1 e2 hs e0' e1' e2' hs'
      have HS := Lib.hid hs.drew
      have HS' := Lib.hid hs'.drew
      clear hs hs' ht
      go_wp2_with fail
      go_region_with (go_at_call 17; refine (brTrace_any _ S S' t.k t.v t.u a2 a2' c2 c2' HS.out HS'.out).mono ?_; rintro e w1 ⟨rfl, hb⟩)
      all_goals
        have HB' := Lib.hid (HB.out.drew.trans (hb.mono HB.out.size))
        clear hb
        go_wp2_with fail
        go_roundw
        case rel => exact ⟨k + 1, by omega, by go_num, HB'.out⟩
        case measure => simp [intOf]; omega
    · go_wp2_with fail
      go_ret
      exact ⟨rfl, HB.out⟩
end Go.Proofs.Ytjbggeeadodmpaa
