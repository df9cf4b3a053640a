/- what a sheet is: impl.hasKey, impl.inputsOk, spec.SheetOk, spec.l3Inputs -/
import Derived.Test.YtochgmbeomfkpaaShOk
namespace Go.Proofs.Ytochgmbeomfkpaa
open Go.RowKit

theorem ok_zt {t : T} (h : t.ok = true) (hk : t.k = 0) (hn : t.n = 0) : t.zt = true := by
  have hf : t.fit = true := by unfold T.ok at h; rw [Bool.and_eq_true] at h; exact h.1
  rw [T.fit_eq, Bool.and_eq_true] at hf
  have h1 := kinds hf.1
  unfold T.zt
  simp only [hk, hn]
  have : t.ps.length = 0 := by omega
  simp [this]
theorem kOk_not {b : Bool} {t : T} (h : t.ok = false) : kOk b t = false := by
  unfold kOk
  split
  · exact h
  · cases hz : t.zt
    · rfl
    · rw [zt_ok hz] at h; cases h

set_option maxHeartbeats 2000000 in
/-- spec.SheetOk -/
theorem specSheetOk_any (s : Sh) (w : World) (S : Nat → Prop) (a : Option Addr) (c : Nat) (a' : Option Addr) (c' : Nat) (h : ShAt w S s a c a' c') (hn : nodesL s.t ≤ 1048576) :
    Calls Try.prog 59 #[.agg #[.slice a s.m.length c, .slice a' s.t.length c']] w fun e w' => e = .returned (.bool s.ok) ∧ Below w.heap.size w w' := by
  have hlm : s.m.length ≤ 9223372036854775807 := by have := h.1.1; have := h.1.2.1; omega
  have hlt : s.t.length ≤ 9223372036854775807 := by have := h.2.1; have := h.2.2.1; omega
  have K0 := Lib.hid (Ks.start (ty := 32) h)
  have HN := Lib.hid hn
  clear h hn
  by_cases hle : s.t.length = s.m.length
  · have hne : (((s.m.length : Nat) : Int) != ((s.t.length : Nat) : Int)) = false := by simp [hle]
    by_cases h10 : 10 < s.m.length
    · have hv : s.ok = false := by unfold Sh.ok; rw [decide_eq_false (by omega)]; rfl
      rw [hv]; clear hv hle
      go_enter Try.func59, Try.ntmps59
      go_wp2_with fail
      go_ret
      exact ⟨rfl, K0.out.done⟩
    have hv : s.ok = s.okTo s.m.length := by unfold Sh.ok; rw [decide_eq_true (by omega), decide_eq_true hle]; rfl
    have HV := Lib.hid hv
    have HLE := Lib.hid hle
    clear hv hle
    go_enter Try.func59, Try.ntmps59
    go_wp2_with fail
    clear hne
    go_loopw [3] (fun i wr => ∃ k : Nat, k ≤ s.m.length ∧ i = .int .i64 k ∧ s.okTo k = true ∧ Ks S s a c a' c' 32 w wr) (fun i _ => s.m.length - (intOf i).toNat)
    case atStart => exact ⟨0, by omega, rfl, rfl, K0.out⟩
    case round =>
      obtain ⟨k, hk, rfl, hq, hks⟩ := hrel
      have HQ := Lib.hid hq
      have K1 := Lib.hid hks
      clear hq hks K0
      obtain ⟨x0, x1⟩ := K1.out.box
      by_cases hlt2 : k < s.m.length
      · have hkt : k < s.t.length := by have := HLE.out; omega
        obtain ⟨b, o, ha, _, _, hc⟩ := ElAt.get K1.out.2.1 (Below.refl _ _) hlt2
        obtain ⟨b', o', a2, c2, ha', _, _, e0, e1, e2, hs, _, _⟩ := K1.out.2.2.elem (Below.refl _ _) hkt
        have htk : s.tk k = s.t[k] := getD_len hkt
        have hmk : s.md k = s.m[k] := getD_len hlt2
        have hko : s.kok k = kOk s.m[k] s.t[k] := by unfold Sh.kok; rw [htk, hmk]
        obtain ⟨bv, hbv⟩ : ∃ bv, bv = s.m[k] := ⟨_, rfl⟩
        rw [← hbv] at hc hko
        have HS := Lib.hid hs
        have HA := Lib.hid (And.intro ha ha')
        have HKO := Lib.hid hko
        have hsuc := okTo_succ s k
        rw [HQ.out, Bool.true_and] at hsuc
        have hfal := @okTo_false s k s.m.length hlt2
        have HSU := Lib.hid hsuc
        have HFA := Lib.hid hfal
        have hnk : nodesL s.t[k].ps ≤ 1048576 := by have := T.nodes_le hkt; have := s.t[k].nodes_eq; have := HN.out; omega
        have HNK := Lib.hid hnk
        clear hs htk hmk hko hbv hsuc hfal ha ha' hnk
        obtain ⟨rfl, rfl⟩ := HA.out
        cases hz : s.t[k].ok
        · have HZ := Lib.hid hz
          have HX := Lib.hid (show s.okTo s.m.length = false from HFA.out (by rw [HKO.out]; exact kOk_not hz))
          clear hz
          go_wp2_with fail
          refine (specOk_any s.t[k] _ S a2 c2 HS.out HNK.out).mono ?_
          rintro e w1 ⟨rfl, hb⟩
          rw [HZ.out]
          have K2 := Lib.hid (K1.out.step hb)
          clear hb
          go_wp2_with fail
          go_ret
          exact ⟨ret_bool (by rw [HV.out, HX.out]), K2.out.done⟩
        · have HZ := Lib.hid hz
          clear hz
          go_wp2_with fail
          refine (specOk_any s.t[k] _ S a2 c2 HS.out HNK.out).mono ?_
          rintro e w1 ⟨rfl, hb⟩
          rw [HZ.out]
          have K2 := Lib.hid (K1.out.step hb)
          have hc4 := (hb.cell (p := ⟨b, o + k, none⟩) (cell_lt hc)).trans hc
          have f0 := (hb.cell (p := ⟨b', o' + k * 3, none⟩) (cell_lt e0)).trans e0
          have f1 := (hb.cell (p := ⟨b', o' + k * 3 + 1, none⟩) (cell_lt e1)).trans e1
          clear x0 x1 hb hc e0 e1 e2
          obtain ⟨x0, x1⟩ := K2.out.box
          cases bv
          · by_cases hk0 : s.t[k].k = 0
            · by_cases hn0 : s.t[k].n = 0
              · have HX := Lib.hid (show s.okTo (k + 1) = true by rw [HSU.out, HKO.out]; exact ok_zt HZ.out hk0 hn0)
                have ek : (s.t[k].k != 0) = false := by simpa using hk0
                have en : (s.t[k].n != 0) = false := by simpa using hn0
                clear hk0 hn0
                go_wp2_with fail
                go_roundw
                case rel => exact ⟨k + 1, by omega, by go_num, HX.out, K2.out⟩
                case measure => simp [intOf]; omega
              · have HX := Lib.hid (show s.okTo s.m.length = false from HFA.out (by rw [HKO.out]; unfold kOk T.zt; simp [hn0]))
                have ek : (s.t[k].k != 0) = false := by simpa using hk0
                have en : (s.t[k].n != 0) = true := by simpa using hn0
                clear hk0 hn0
                go_wp2_with fail
                go_ret
                exact ⟨ret_bool (by rw [HV.out, HX.out]), K2.out.done⟩
            · have HX := Lib.hid (show s.okTo s.m.length = false from HFA.out (by rw [HKO.out]; unfold kOk T.zt; simp [hk0]))
              have ek : (s.t[k].k != 0) = true := by simpa using hk0
              clear hk0
              go_wp2_with fail
              go_ret
              exact ⟨ret_bool (by rw [HV.out, HX.out]), K2.out.done⟩
          · have HX := Lib.hid (show s.okTo (k + 1) = true by rw [HSU.out, HKO.out]; exact HZ.out)
            go_wp2_with fail
            go_roundw
            case rel => exact ⟨k + 1, by omega, by go_num, HX.out, K2.out⟩
            case measure => simp [intOf]; omega
      · have hf : s.okTo s.m.length = true := by have := HQ.out; rwa [show k = s.m.length by omega] at this
        have HF := Lib.hid hf
        clear hf
        go_wp2_with fail
        go_ret
        exact ⟨ret_bool (by rw [HV.out, HF.out]), K1.out.done⟩
  · have hv : s.ok = false := by unfold Sh.ok; rw [decide_eq_false hle]; simp
    have hne : (((s.m.length : Nat) : Int) != ((s.t.length : Nat) : Int)) = true := by simp; omega
    rw [hv]; clear hv hle
    go_enter Try.func59, Try.ntmps59
    go_wp2_with fail
    go_ret
    exact ⟨rfl, K0.out.done⟩

/-- impl.hasKey -/
theorem hasKey_any (s : Sh) (w : World) (S : Nat → Prop) (a : Option Addr) (c : Nat) (a' : Option Addr) (c' : Nat) (key : Int) (h : ShAt w S s a c a' c') :
    Calls Try.prog 65 #[.agg #[.slice a s.m.length c, .slice a' s.t.length c'], .int .i64 key] w fun e w' => e = .returned (.bool (decide (0 ≤ key ∧ key < s.m.length))) ∧ Below w.heap.size w w' := by
  have K0 := Lib.hid (Ks.start (ty := 32) h)
  clear h
  by_cases h0 : 0 ≤ key
  · by_cases h1 : key < s.m.length
    · have hv : decide (0 ≤ key ∧ key < s.m.length) = true := by simp; omega
      have d0 : decide (0 ≤ key) = true := by simpa using h0
      have d1 : decide (key < (s.m.length : Int)) = true := by simpa using h1
      rw [hv]; clear hv h0 h1
      go_enter Try.func65, Try.ntmps65
      go_wp2_with fail
      go_ret
      exact ⟨rfl, K0.out.done⟩
    · have hv : decide (0 ≤ key ∧ key < s.m.length) = false := by simp; omega
      have d0 : decide (0 ≤ key) = true := by simpa using h0
      have d1 : decide (key < (s.m.length : Int)) = false := by simp; omega
      rw [hv]; clear hv h0 h1
      go_enter Try.func65, Try.ntmps65
      go_wp2_with fail
      go_ret
      exact ⟨rfl, K0.out.done⟩
  · have hv : decide (0 ≤ key ∧ key < s.m.length) = false := by simp; omega
    have d0 : decide (0 ≤ key) = false := by simp; omega
    rw [hv]; clear hv h0
    go_enter Try.func65, Try.ntmps65
    go_wp2_with fail
    go_ret
    exact ⟨rfl, K0.out.done⟩

/-- They are inputs of a sheet. -/
def inOk (s : Sh) (l : List Int) : Bool := s.ok && (decide (l.length = s.m.length) && vok l)

set_option maxHeartbeats 1000000 in
/-- impl.inputsOk -/
theorem implInputs_any (s : Sh) (l : List Int) (w : World) (S S' : Nat → Prop) (a : Option Addr) (c : Nat) (a' : Option Addr) (c' : Nat) (ai : Option Addr) (ci : Nat) (h : ShAt w S s a c a' c') (hl : IntsAt w S' l ai ci) :
    Calls Try.prog 50 #[.agg #[.slice a s.m.length c, .slice a' s.t.length c'], .slice ai l.length ci] w fun e w' => e = .returned (.bool (inOk s l)) ∧ Below w.heap.size w w' := by
  have K0 := Lib.hid (Ks.start (ty := 32) h)
  have L0 := Lib.hid (hl.alloc (.cells #[.slice a s.m.length c, .slice a' s.t.length c'] 32))
  have hlm : s.m.length ≤ 9223372036854775807 := by have := h.1.1; have := h.1.2.1; omega
  have hll : l.length ≤ 9223372036854775807 := by have := hl.1; have := hl.2.1; omega
  clear h hl
  obtain ⟨x0, x1⟩ := K0.out.box
  cases hok : s.ok
  · have hv : inOk s l = false := by unfold inOk; rw [hok]; rfl
    have HO := Lib.hid hok
    rw [hv]; clear hv hok
    go_enter Try.func50, Try.ntmps50
    go_wp2_with fail
    refine (implSheetOk_any s _ S a c a' c' K0.out.2).mono ?_
    rintro e w1 ⟨rfl, hb⟩
    rw [HO.out]
    have K1 := Lib.hid (K0.out.step hb)
    clear hb
    go_wp2_with fail
    go_ret
    exact ⟨rfl, K1.out.done⟩
  · have HO := Lib.hid hok
    by_cases hle : l.length = s.m.length
    · have hv : inOk s l = vok l := by unfold inOk; rw [hok, decide_eq_true hle]; rfl
      have he : (((l.length : Nat) : Int) == ((s.m.length : Nat) : Int)) = true := by simp [hle]
      obtain ⟨bv, hbv⟩ : ∃ bv, vok l = bv := ⟨_, rfl⟩
      have HVK := Lib.hid hbv
      rw [hv, hbv]; clear hv hok hle hbv
      go_enter Try.func50, Try.ntmps50
      go_wp2_with fail
      refine (implSheetOk_any s _ S a c a' c' K0.out.2).mono ?_
      rintro e w1 ⟨rfl, hb⟩
      rw [HO.out]
      have K1 := Lib.hid (K0.out.step hb)
      have L1 := Lib.hid (L0.out.below hb)
      clear hb x0 x1
      obtain ⟨x0, x1⟩ := K1.out.box
      go_wp2_with fail
      refine (implVals_any _ S' l ai ci L1.out).mono ?_
      rintro e w2 ⟨rfl, rfl⟩
      rw [HVK.out]
      clear he
      cases bv
      · go_wp2_with fail
        go_ret
        exact ⟨rfl, K1.out.done⟩
      · go_wp2_with fail
        go_ret
        exact ⟨rfl, K1.out.done⟩
    · have hv : inOk s l = false := by unfold inOk; rw [decide_eq_false hle]; simp
      have he : (((l.length : Nat) : Int) == ((s.m.length : Nat) : Int)) = false := by
        cases hx : (((l.length : Nat) : Int) == ((s.m.length : Nat) : Int))
        · rfl
        · rw [beq_iff_eq] at hx; omega
      rw [hv]; clear hv hok hle
      go_enter Try.func50, Try.ntmps50
      go_wp2_with fail
      refine (implSheetOk_any s _ S a c a' c' K0.out.2).mono ?_
      rintro e w1 ⟨rfl, hb⟩
      rw [HO.out]
      have K1 := Lib.hid (K0.out.step hb)
      clear hb x0 x1
      obtain ⟨x0, x1⟩ := K1.out.box
      go_wp2_with fail
      go_ret
      exact ⟨rfl, K1.out.done⟩

set_option maxHeartbeats 1000000 in
/-- spec.l3Inputs -/
theorem specInputs_any (s : Sh) (l : List Int) (w : World) (S S' : Nat → Prop) (a : Option Addr) (c : Nat) (a' : Option Addr) (c' : Nat) (ai : Option Addr) (ci : Nat) (h : ShAt w S s a c a' c') (hn : nodesL s.t ≤ 1048576) (hl : IntsAt w S' l ai ci) :
    Calls Try.prog 55 #[.agg #[.slice a s.m.length c, .slice a' s.t.length c'], .slice ai l.length ci] w fun e w' => e = .returned (.bool (inOk s l)) ∧ Below w.heap.size w w' := by
  have K0 := Lib.hid (Ks.start (ty := 32) h)
  have L0 := Lib.hid (hl.alloc (.cells #[.slice a s.m.length c, .slice a' s.t.length c'] 32))
  have hlm : s.m.length ≤ 9223372036854775807 := by have := h.1.1; have := h.1.2.1; omega
  have hll : l.length ≤ 9223372036854775807 := by have := hl.1; have := hl.2.1; omega
  have HN := Lib.hid hn
  clear h hl hn
  obtain ⟨x0, x1⟩ := K0.out.box
  cases hok : s.ok
  · have hv : inOk s l = false := by unfold inOk; rw [hok]; rfl
    have HO := Lib.hid hok
    rw [hv]; clear hv hok
    go_enter Try.func55, Try.ntmps55
    go_wp2_with fail
    refine (specSheetOk_any s _ S a c a' c' K0.out.2 HN.out).mono ?_
    rintro e w1 ⟨rfl, hb⟩
    rw [HO.out]
    have K1 := Lib.hid (K0.out.step hb)
    clear hb
    go_wp2_with fail
    go_ret
    exact ⟨rfl, K1.out.done⟩
  · have HO := Lib.hid hok
    by_cases hle : l.length = s.m.length
    · have hv : inOk s l = vok l := by unfold inOk; rw [hok, decide_eq_true hle]; rfl
      have he : (((l.length : Nat) : Int) == ((s.m.length : Nat) : Int)) = true := by simp [hle]
      obtain ⟨bv, hbv⟩ : ∃ bv, vok l = bv := ⟨_, rfl⟩
      have HVK := Lib.hid hbv
      rw [hv, hbv]; clear hv hok hle hbv
      go_enter Try.func55, Try.ntmps55
      go_wp2_with fail
      refine (specSheetOk_any s _ S a c a' c' K0.out.2 HN.out).mono ?_
      rintro e w1 ⟨rfl, hb⟩
      rw [HO.out]
      have K1 := Lib.hid (K0.out.step hb)
      have L1 := Lib.hid (L0.out.below hb)
      clear hb x0 x1
      obtain ⟨x0, x1⟩ := K1.out.box
      go_wp2_with fail
      refine (specVals_any _ S' l ai ci L1.out).mono ?_
      rintro e w2 ⟨rfl, rfl⟩
      rw [HVK.out]
      clear he
      cases bv
      · go_wp2_with fail
        go_ret
        exact ⟨rfl, K1.out.done⟩
      · go_wp2_with fail
        go_ret
        exact ⟨rfl, K1.out.done⟩
    · have hv : inOk s l = false := by unfold inOk; rw [decide_eq_false hle]; simp
      have he : (((l.length : Nat) : Int) == ((s.m.length : Nat) : Int)) = false := by
        cases hx : (((l.length : Nat) : Int) == ((s.m.length : Nat) : Int))
        · rfl
        · rw [beq_iff_eq] at hx; omega
      rw [hv]; clear hv hok hle
      go_enter Try.func55, Try.ntmps55
      go_wp2_with fail
      refine (specSheetOk_any s _ S a c a' c' K0.out.2 HN.out).mono ?_
      rintro e w1 ⟨rfl, hb⟩
      rw [HO.out]
      have K1 := Lib.hid (K0.out.step hb)
      clear hb x0 x1
      obtain ⟨x0, x1⟩ := K1.out.box
      go_wp2_with fail
      go_ret
      exact ⟨rfl, K1.out.done⟩
end Go.Proofs.Ytochgmbeomfkpaa
