/- impl.SheetFixed, spec.SheetFixed -/
import Derived.Test.YtohogojphnlhpaaShOkS
import Derived.Test.YtohogojphnlhpaaFixed
namespace Go.Proofs.Ytohogojphnlhpaa
open Go.RowKit

def Sh.fix (s : Sh) : Bool := s.ok && fixedL s.t

theorem Sh.task_ok {s : Sh} (h : s.ok = true) {i : Nat} (hi : i < s.t.length) : s.t[i].ok = true := by
  obtain ⟨_, h2, h3⟩ := Sh.ok_iff.1 h
  have hk := h3 i (by omega)
  unfold Sh.kok kOk at hk
  have e : s.tk i = s.t[i] := getD_len hi
  rw [e] at hk
  split at hk
  · exact hk
  · exact zt_ok hk

set_option maxHeartbeats 1000000 in
/-- impl.SheetFixed -/
theorem implShFix_any (s : Sh) (w : World) (S : Nat → Prop) (a : Option Addr) (c : Nat) (a' : Option Addr) (c' : Nat) (h : ShAt w S s a c a' c') :
    Calls Try.prog 30 #[.agg #[.slice a s.m.length c, .slice a' s.t.length c']] w fun e w' => e = .returned (.bool s.fix) ∧ Below w.heap.size w w' := by
  have hlt : s.t.length ≤ 9223372036854775807 := by have := h.2.1; have := h.2.2.1; omega
  have K0 := Lib.hid (Ks.start (ty := 26) h)
  clear h
  obtain ⟨x0, x1⟩ := K0.out.box
  cases hok : s.ok
  · have hv : s.fix = false := by unfold Sh.fix; rw [hok]; rfl
    have HO := Lib.hid hok
    rw [hv]; clear hv hok
    go_enter Try.func30, Try.ntmps30
    go_wp2_with fail
    refine (implSheetOk_any s _ S a c a' c' K0.out.2).mono ?_
    rintro e w1 ⟨rfl, hb⟩
    rw [HO.out]
    have K1 := Lib.hid (K0.out.step hb)
    clear hb
    go_wp2_with fail
    go_ret
    exact ⟨rfl, K1.out.done⟩
  · have hv : s.fix = fixedL s.t := by unfold Sh.fix; rw [hok]; rfl
    have HO := Lib.hid hok
    have HV := Lib.hid hv
    have HT := Lib.hid (fun i (hi : i < s.t.length) => Sh.task_ok hok hi)
    clear hv hok
    go_enter Try.func30, Try.ntmps30
    go_wp2_with fail
    refine (implSheetOk_any s _ S a c a' c' K0.out.2).mono ?_
    rintro e w1 ⟨rfl, hb⟩
    rw [HO.out]
    have K1 := Lib.hid (K0.out.step hb)
    clear hb x0 x1 K0
    obtain ⟨x0, x1⟩ := K1.out.box
    go_wp2_with fail
    go_loopw [11] (fun i wr => ∃ k : Nat, k ≤ s.t.length ∧ i = .int .i64 k ∧ fixedL (s.t.take k) = true ∧ Ks S s a c a' c' 26 w wr) (fun i _ => s.t.length - (intOf i).toNat)
    case atStart => exact ⟨0, by omega, rfl, by simp [fixedL], K1.out⟩
    case round =>
      obtain ⟨k, hk, rfl, hq, hks⟩ := hrel
      have HQ := Lib.hid hq
      have K2 := Lib.hid hks
      clear hq hks K1 x0 x1
      by_cases hlt2 : k < s.t.length
      · obtain ⟨b', o', a2, c2, rfl, hbl, _, e0, e1, e2, hs, _, _⟩ := K2.out.2.2.elem (Below.refl _ _) hlt2
        have HS := Lib.hid hs
        have hfe : s.t[k].fix = s.t[k].fixed := by unfold T.fix; rw [HT.out k hlt2]; rfl
        have hsn := fixedL_snoc s.t k hlt2
        rw [HQ.out, Bool.true_and] at hsn
        have hfl := fixedL_false s.t k hlt2
        have HFE := Lib.hid hfe
        have HSN := Lib.hid hsn
        have HFL := Lib.hid hfl
        clear hs hfe hsn hfl
        cases hf : s.t[k].fixed
        · have HF := Lib.hid hf
          have HX := Lib.hid (HFL.out hf)
          clear hf
          go_wp2_with fail
          refine (implFixed_any s.t[k] _ S a2 c2 (HS.out.alloc _)).mono ?_
          rintro e w2 ⟨rfl, hb⟩
          rw [HFE.out, HF.out]
          have K3 := Lib.hid ((K2.out.alloc _).step hb)
          clear hb
          go_wp2_with fail
          go_ret
          exact ⟨ret_bool (by rw [HV.out, HX.out]), K3.out.done⟩
        · have HF := Lib.hid hf
          have HX := Lib.hid (show fixedL (s.t.take (k + 1)) = true by rw [HSN.out, hf])
          clear hf
          go_wp2_with fail
          refine (implFixed_any s.t[k] _ S a2 c2 (HS.out.alloc _)).mono ?_
          rintro e w2 ⟨rfl, hb⟩
          rw [HFE.out, HF.out]
          have K3 := Lib.hid ((K2.out.alloc _).step hb)
          clear hb
          go_wp2_with fail
          go_roundw
          case rel => exact ⟨k + 1, by omega, by go_num, HX.out, K3.out⟩
          case measure => simp [intOf]; omega
      · have hf : fixedL s.t = true := by have := HQ.out; rwa [List.take_of_length_le (by omega)] at this
        have HF := Lib.hid hf
        clear hf
        go_wp2_with fail
        go_ret
        exact ⟨ret_bool (by rw [HV.out, HF.out]), K2.out.done⟩

set_option maxHeartbeats 1000000 in
/-- spec.SheetFixed -/
theorem specShFix_any (s : Sh) (w : World) (S : Nat → Prop) (a : Option Addr) (c : Nat) (a' : Option Addr) (c' : Nat) (h : ShAt w S s a c a' c') (hn : nodesL s.t ≤ 1048576) :
    Calls Try.prog 31 #[.agg #[.slice a s.m.length c, .slice a' s.t.length c']] w fun e w' => e = .returned (.bool s.fix) ∧ Below w.heap.size w w' := by
  have hlt : s.t.length ≤ 9223372036854775807 := by have := h.2.1; have := h.2.2.1; omega
  have K0 := Lib.hid (Ks.start (ty := 26) h)
  have HN := Lib.hid hn
  clear h hn
  cases hok : s.ok
  · have hv : s.fix = false := by unfold Sh.fix; rw [hok]; rfl
    have HO := Lib.hid hok
    rw [hv]; clear hv hok
    go_enter Try.func31, Try.ntmps31
    go_wp2_with fail
    go_loopw [3] (fun i wr => i = .int .i64 0 ∧ Ks S s a c a' c' 26 w wr) (fun _ _ => 0)
    case atStart => exact ⟨rfl, K0.out⟩
    case round =>
      obtain ⟨rfl, hks⟩ := hrel
      have K1 := Lib.hid hks
      clear hks K0
      obtain ⟨x0, x1⟩ := K1.out.box
      by_cases h0 : 0 < s.t.length
      · have hd : decide ((0 : Int) < ((s.t.length : Nat) : Int)) = true := by simp; omega
        go_wp2_with fail
        refine (specSheetOk_any s _ S a c a' c' K1.out.2 HN.out).mono ?_
        rintro e w1 ⟨rfl, hb⟩
        rw [HO.out]
        have K2 := Lib.hid (K1.out.step hb)
        clear hb x0 x1
        obtain ⟨x0, x1⟩ := K2.out.box
        go_wp2_with fail
        refine (specSheetOk_any s _ S a c a' c' K2.out.2 HN.out).mono ?_
        rintro e w1 ⟨rfl, hb⟩
        rw [HO.out]
        have K3 := Lib.hid (K2.out.step hb)
        clear hb x0 x1
        go_wp2_with fail
        go_ret
        exact ⟨rfl, K3.out.done⟩
      · have hd : decide ((0 : Int) < ((s.t.length : Nat) : Int)) = false := decide_eq_false (by omega)
        go_wp2_with fail
        refine (specSheetOk_any s _ S a c a' c' K1.out.2 HN.out).mono ?_
        rintro e w1 ⟨rfl, hb⟩
        rw [HO.out]
        have K3 := Lib.hid (K1.out.step hb)
        clear hb x0 x1
        go_wp2_with fail
        go_ret
        exact ⟨rfl, K3.out.done⟩
  · have hv : s.fix = fixedL s.t := by unfold Sh.fix; rw [hok]; rfl
    have HO := Lib.hid hok
    have HV := Lib.hid hv
    clear hv hok
    go_enter Try.func31, Try.ntmps31
    go_wp2_with fail
    go_loopw [3] (fun i wr => ∃ k : Nat, k ≤ s.t.length ∧ i = .int .i64 k ∧ fixedL (s.t.take k) = true ∧ Ks S s a c a' c' 26 w wr) (fun i _ => s.t.length - (intOf i).toNat)
    case atStart => exact ⟨0, by omega, rfl, by simp [fixedL], K0.out⟩
    case round =>
      obtain ⟨k, hk, rfl, hq, hks⟩ := hrel
      have HQ := Lib.hid hq
      have K1 := Lib.hid hks
      clear hq hks K0
      obtain ⟨x0, x1⟩ := K1.out.box
      by_cases hlt2 : k < s.t.length
      · have hd : decide ((k : Int) < ((s.t.length : Nat) : Int)) = true := by simp; omega
        go_wp2_with fail
        refine (specSheetOk_any s _ S a c a' c' K1.out.2 HN.out).mono ?_
        rintro e w1 ⟨rfl, hb⟩
        rw [HO.out]
        have K2 := Lib.hid (K1.out.step hb)
        clear hb x0 x1 K1
        obtain ⟨x0, x1⟩ := K2.out.box
        obtain ⟨b', o', a2, c2, rfl, hbl, _, e0, e1, e2, hs, _, _⟩ := K2.out.2.2.elem (Below.refl _ _) hlt2
        have HS := Lib.hid hs
        have hsn := fixedL_snoc s.t k hlt2
        rw [HQ.out, Bool.true_and] at hsn
        have hfl := fixedL_false s.t k hlt2
        have HSN := Lib.hid hsn
        have HFL := Lib.hid hfl
        clear hs hsn hfl hd
        cases hf : s.t[k].fixed
        · have HF := Lib.hid hf
          have HX := Lib.hid (HFL.out hf)
          clear hf
          go_wp2_with fail
          refine (sfix_all s.t[k] _ S a2 c2 HS.out).mono ?_
          rintro e w2 ⟨rfl, hb⟩
          rw [HF.out]
          have K3 := Lib.hid (K2.out.step hb)
          clear hb
          go_wp2_with fail
          go_ret
          exact ⟨ret_bool (by rw [HV.out, HX.out]), K3.out.done⟩
        · have HF := Lib.hid hf
          have HX := Lib.hid (show fixedL (s.t.take (k + 1)) = true by rw [HSN.out, hf])
          clear hf
          go_wp2_with fail
          refine (sfix_all s.t[k] _ S a2 c2 HS.out).mono ?_
          rintro e w2 ⟨rfl, hb⟩
          rw [HF.out]
          have K3 := Lib.hid (K2.out.step hb)
          clear hb
          go_wp2_with fail
          go_roundw
          case rel => exact ⟨k + 1, by omega, by go_num, HX.out, K3.out⟩
          case measure => simp [intOf]; omega
      · have hf : fixedL s.t = true := by have := HQ.out; rwa [List.take_of_length_le (by omega)] at this
        have hd : decide ((k : Int) < ((s.t.length : Nat) : Int)) = false := by simp; omega
        have HF := Lib.hid hf
        clear hf
        go_wp2_with fail
        refine (specSheetOk_any s _ S a c a' c' K1.out.2 HN.out).mono ?_
        rintro e w1 ⟨rfl, hb⟩
        rw [HO.out]
        have K3 := Lib.hid (K1.out.step hb)
        clear hb x0 x1
        go_wp2_with fail
        go_ret
        exact ⟨ret_bool (by rw [HV.out, HF.out]), K3.out.done⟩
end Go.Proofs.Ytohogojphnlhpaa
