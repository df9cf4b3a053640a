/- spec.TaskFixed, impl.TaskFixed -/
import Derived.Test.YtmbgglmnbllpjaaBs0
namespace Go.Proofs.Ytmbgglmnbllpjaa
open Go.RowKit

mutual
def T.fixed : T → Bool | .mk k _ ps => (decide (k ≠ 4) && decide (k ≠ 5)) && fixedL ps
def fixedL : List T → Bool | [] => true | t :: r => t.fixed && fixedL r
end
theorem fixedL_append : ∀ ps qs : List T, fixedL (ps ++ qs) = (fixedL ps && fixedL qs)
  | [], qs => by simp [fixedL]
  | t :: r, qs => by simp only [fixedL, List.cons_append, fixedL_append r qs, Bool.and_assoc]
theorem fixedL_snoc (ps : List T) (i : Nat) (h : i < ps.length) : fixedL (ps.take (i + 1)) = (fixedL (ps.take i) && ps[i].fixed) := by
  rw [List.take_succ_eq_append_getElem h, fixedL_append]; simp [fixedL]
theorem fixedL_false (ps : List T) (i : Nat) (h : i < ps.length) (hf : ps[i].fixed = false) : fixedL ps = false := by
  have h1 := fixedL_snoc ps i h
  have h2 := fixedL_append (ps.take (i + 1)) (ps.drop (i + 1))
  rw [List.take_append_drop] at h2
  rw [h2, h1, hf]; simp
theorem T.fixed_eq (t : T) : t.fixed = ((decide (t.k ≠ 4) && decide (t.k ≠ 5)) && fixedL t.ps) := by cases t; rfl

def SFixT (t : T) : Prop := ∀ (w : World) (S : Nat → Prop) (a : Option Addr) (c : Nat), AtS w S t.ps a c →
  Calls Try.prog 58 #[.agg #[.int .i64 t.k, .int .i64 t.n, .slice a t.ps.length c]] w fun e w' => e = .returned (.bool t.fixed) ∧ Below w.heap.size w w'

set_option maxHeartbeats 400000 in
theorem sfix_of (t : T) (hF : ∀ u ∈ t.ps, SFixT u) : SFixT t := by
  intro w S a c hat
  have K0 := Lib.hid (Kp.start (ty := 25) hat)
  have HF := Lib.hid hF
  have hlen : t.ps.length ≤ 9223372036854775807 := by have := hat.1; have := hat.2.1; omega
  have hfe := T.fixed_eq t
  have HFE := Lib.hid hfe
  have HA := Lib.hid hat
  clear hat hF hfe
  go_enter Try.func58, Try.ntmps58
  go_wp2_with fail
  go_loopw [3] (fun i wr => ∃ k : Nat, k ≤ t.ps.length ∧ i = .int .i64 k ∧ fixedL (t.ps.take k) = true ∧ Kp S t a c 25 w wr) (fun i _ => t.ps.length - (intOf i).toNat)
  case atStart => exact ⟨0, by omega, rfl, by simp [fixedL], K0.out⟩
  case round =>
    obtain ⟨k, hk, rfl, hq, hb⟩ := hrel
    obtain ⟨x0, x1, x2⟩ := hb.box
    have HB := Lib.hid hb
    have HQ := Lib.hid hq
    clear hb hq K0
    by_cases hlt : k < t.ps.length
    · obtain ⟨b, o, a', c', rfl, hbl, _, e0, e1, e2, hs, _, _⟩ := HA.out.elem HB.out.done hlt
      have HS' := Lib.hid hs
      have hsn := fixedL_snoc t.ps k hlt
      rw [HQ.out, Bool.true_and] at hsn
      clear hs
      cases hf : t.ps[k].fixed
      · have hff : t.fixed = false := by rw [HFE.out, fixedL_false t.ps k hlt hf]; simp
        have HF1 := Lib.hid hf
        have HF2 := Lib.hid hff
        clear hf hff hsn
        go_wp2_with fail
        refine (HF.out t.ps[k] (List.getElem_mem _) _ S a' c' HS'.out).mono ?_
        rintro e w1 ⟨rfl, hb⟩
        rw [HF1.out]
        have HB' := Lib.hid (HB.out.step hb)
        clear hb HF1
        go_wp2_with fail
        go_ret
        exact ⟨ret_bool HF2.out.symm, HB'.out.done⟩
      · have HF1 := Lib.hid hf
        rw [hf] at hsn
        have HF2 := Lib.hid hsn
        clear hf hsn
        go_wp2_with fail
        refine (HF.out t.ps[k] (List.getElem_mem _) _ S a' c' HS'.out).mono ?_
        rintro e w1 ⟨rfl, hb⟩
        rw [HF1.out]
        have HB' := Lib.hid (HB.out.step hb)
        clear hb HF1
        go_wp2_with fail
        go_roundw
        case rel => exact ⟨k + 1, by omega, by go_num, HF2.out, HB'.out⟩
        case measure => simp [intOf]; omega
    · have hk' : k = t.ps.length := by omega
      have hf : fixedL t.ps = true := by have := HQ.out; rwa [hk', List.take_of_length_le (Nat.le_refl _)] at this
      have hv : t.fixed = (decide (t.k ≠ 4) && decide (t.k ≠ 5)) := by rw [HFE.out, hf]; simp
      have HV := Lib.hid hv
      clear hf hk' hv
      by_cases h4 : t.k = 4
      · have h4b : (t.k != 4) = false := by simp [h4]
        have H4 := Lib.hid h4
        clear h4
        go_wp2_with fail
        go_ret
        exact ⟨ret_bool (by rw [HV.out, H4.out]; rfl), HB.out.done⟩
      · have h4b : (t.k != 4) = true := by simpa using h4
        by_cases h5 : t.k = 5
        · have h5b : (t.k != 5) = false := by simp [h5]
          have H5 := Lib.hid h5
          clear h4 h5
          go_wp2_with fail
          go_ret
          exact ⟨ret_bool (by rw [HV.out, H5.out]; rfl), HB.out.done⟩
        · have h5b : (t.k != 5) = true := by simpa using h5
          have HX := Lib.hid (And.intro h4 h5)
          clear h4 h5
          go_wp2_with fail
          go_ret
          exact ⟨ret_bool (by rw [HV.out]; simp [HX.out]), HB.out.done⟩
theorem sfix_all : ∀ t, SFixT t := T.ind fun k n ps ih => sfix_of (.mk k n ps) ih

def IFixT (t : T) : Prop := ∀ (w : World) (S : Nat → Prop) (a : Option Addr) (c : Nat), AtS w S t.ps a c →
  Calls Try.prog 56 #[.agg #[.int .i64 t.k, .int .i64 t.n, .slice a t.ps.length c]] w fun e w' => e = .returned (.bool t.fixed) ∧ Below w.heap.size w w'

set_option maxHeartbeats 400000 in
theorem ifix_of (t : T) (hF : ∀ u ∈ t.ps, IFixT u) : IFixT t := by
  intro w S a c hat
  have K0 := Lib.hid (Kp.start (ty := 25) hat)
  have HF := Lib.hid hF
  have hlen : t.ps.length ≤ 9223372036854775807 := by have := hat.1; have := hat.2.1; omega
  have hfe := T.fixed_eq t
  have HFE := Lib.hid hfe
  have HA := Lib.hid hat
  clear hat hF hfe
  by_cases h4 : t.k = 4
  · have h4b : (t.k == 4) = true := by simp [h4]
    have H4 := Lib.hid h4
    clear h4
    go_enter Try.func56, Try.ntmps56
    go_wp2_with fail
    go_ret
    exact ⟨ret_bool (by rw [HFE.out, H4.out]; rfl), K0.out.done⟩
  by_cases h5 : t.k = 5
  · have h4b : (t.k == 4) = false := by simpa using h4
    have h5b : (t.k == 5) = true := by simp [h5]
    have H5 := Lib.hid h5
    clear h4 h5
    go_enter Try.func56, Try.ntmps56
    go_wp2_with fail
    go_ret
    exact ⟨ret_bool (by rw [HFE.out, H5.out]; rfl), K0.out.done⟩
  have h4b : (t.k == 4) = false := by simpa using h4
  have h5b : (t.k == 5) = false := by simpa using h5
  have hv : t.fixed = fixedL t.ps := by rw [HFE.out]; simp [h4, h5]
  have HV := Lib.hid hv
  clear h4 h5 hv
  go_enter Try.func56, Try.ntmps56
  go_wp2_with fail
  clear h4b h5b
  go_loopw [16] (fun i wr => ∃ k : Nat, k ≤ t.ps.length ∧ i = .int .i64 k ∧ fixedL (t.ps.take k) = true ∧ Kp S t a c 25 w wr) (fun i _ => t.ps.length - (intOf i).toNat)
  case atStart => exact ⟨0, by omega, rfl, by simp [fixedL], K0.out⟩
  case round =>
    obtain ⟨k, hk, rfl, hq, hb⟩ := hrel
    have HB := Lib.hid hb
    have HQ := Lib.hid hq
    clear hb hq K0
    by_cases hlt : k < t.ps.length
    · obtain ⟨b, o, a', c', rfl, hbl, _, e0, e1, e2, hs, _, _⟩ := HA.out.elem HB.out.done hlt
      have hblt : b < wr.heap.size := cell_lt e0
      have HS' := Lib.hid hs
      have hsn := fixedL_snoc t.ps k hlt
      rw [HQ.out, Bool.true_and] at hsn
      clear hs
      cases hf : t.ps[k].fixed
      · have hff : t.fixed = false := by rw [HV.out, fixedL_false t.ps k hlt hf]
        have HF1 := Lib.hid hf
        have HF2 := Lib.hid hff
        clear hf hff hsn
        go_wp2_with fail
        refine (HF.out t.ps[k] (List.getElem_mem _) _ S a' c' (HS'.out.alloc _)).mono ?_
        rintro e w1 ⟨rfl, hb⟩
        rw [HF1.out]
        have HB' := Lib.hid ((HB.out.alloc _).step hb)
        clear hb HF1
        go_wp2_with fail
        go_ret
        exact ⟨ret_bool HF2.out.symm, HB'.out.done⟩
      · have HF1 := Lib.hid hf
        rw [hf] at hsn
        have HF2 := Lib.hid hsn
        clear hf hsn
        go_wp2_with fail
        refine (HF.out t.ps[k] (List.getElem_mem _) _ S a' c' (HS'.out.alloc _)).mono ?_
        rintro e w1 ⟨rfl, hb⟩
        rw [HF1.out]
        have HB' := Lib.hid ((HB.out.alloc _).step hb)
        clear hb HF1
        go_wp2_with fail
        go_roundw
        case rel => exact ⟨k + 1, by omega, by go_num, HF2.out, HB'.out⟩
        case measure => simp [intOf]; omega
    · have hk' : k = t.ps.length := by omega
      have hf : t.fixed = true := by have := HQ.out; rw [hk', List.take_of_length_le (Nat.le_refl _)] at this; rw [HV.out, this]
      have HF2 := Lib.hid hf
      clear hf hk'
      go_wp2_with fail
      go_ret
      exact ⟨ret_bool HF2.out.symm, HB.out.done⟩
theorem ifix_all : ∀ t, IFixT t := T.ind fun k n ps ih => ifix_of (.mk k n ps) ih

def T.fix (t : T) : Bool := t.ok && t.fixed

/-- spec.TaskFixed -/
theorem specFixed_any (t : T) (w : World) (S : Nat → Prop) (a : Option Addr) (c : Nat) (hat : AtS w S t.ps a c) (hle : nodesL t.ps ≤ 1048576) :
    Calls Try.prog 16 #[.agg #[.int .i64 t.k, .int .i64 t.n, .slice a t.ps.length c]] w fun e w' => e = .returned (.bool t.fix) ∧ Below w.heap.size w w' := by
  have K0 := Lib.hid (Kp.start (ty := 25) hat)
  have HL := Lib.hid hle
  clear hat hle
  cases hf : t.ok
  · have hv : t.fix = false := by simp [T.fix, hf]
    have HF := Lib.hid hf
    have HV := Lib.hid hv
    clear hf hv
    go_enter Try.func16, Try.ntmps16
    go_wp2_with fail
    refine (specOk_any t _ S a c K0.out.2 HL.out).mono ?_
    rintro e w1 ⟨rfl, hb⟩
    rw [HF.out]
    have K1 := Lib.hid (K0.out.step hb)
    clear hb
    go_wp2_with fail
    go_ret
    exact ⟨ret_bool HV.out.symm, K1.out.done⟩
  · have hv : t.fix = t.fixed := by simp [T.fix, hf]
    have HF := Lib.hid hf
    have HV := Lib.hid hv
    clear hf hv
    go_enter Try.func16, Try.ntmps16
    go_wp2_with fail
    refine (specOk_any t _ S a c K0.out.2 HL.out).mono ?_
    rintro e w1 ⟨rfl, hb⟩
    rw [HF.out]
    have K1 := Lib.hid (K0.out.step hb)
    obtain ⟨x0, x1, x2⟩ := K1.out.box
    clear hb
    go_wp2_with fail
    refine (sfix_all t _ S a c K1.out.2).mono ?_
    rintro e w2 ⟨rfl, hb⟩
    have K2 := Lib.hid (K1.out.step hb)
    clear hb
    go_wp2_with fail
    go_ret
    exact ⟨ret_bool HV.out.symm, K2.out.done⟩

/-- impl.TaskFixed -/
theorem implFixed_any (t : T) (w : World) (S : Nat → Prop) (a : Option Addr) (c : Nat) (hat : AtS w S t.ps a c) :
    Calls Try.prog 15 #[.agg #[.int .i64 t.k, .int .i64 t.n, .slice a t.ps.length c]] w fun e w' => e = .returned (.bool t.fix) ∧ Below w.heap.size w w' := by
  have K0 := Lib.hid (Kp.start (ty := 25) hat)
  clear hat
  cases hf : t.ok
  · have hv : t.fix = false := by simp [T.fix, hf]
    have HF := Lib.hid hf
    have HV := Lib.hid hv
    clear hf hv
    go_enter Try.func15, Try.ntmps15
    go_wp2_with fail
    refine (implOk_any t _ S a c K0.out.2).mono ?_
    rintro e w1 ⟨rfl, hb⟩
    rw [HF.out]
    have K1 := Lib.hid (K0.out.step hb)
    clear hb
    go_wp2_with fail
    go_ret
    exact ⟨ret_bool HV.out.symm, K1.out.done⟩
  · have hv : t.fix = t.fixed := by simp [T.fix, hf]
    have HF := Lib.hid hf
    have HV := Lib.hid hv
    clear hf hv
    go_enter Try.func15, Try.ntmps15
    go_wp2_with fail
    refine (implOk_any t _ S a c K0.out.2).mono ?_
    rintro e w1 ⟨rfl, hb⟩
    rw [HF.out]
    have K1 := Lib.hid (K0.out.step hb)
    obtain ⟨x0, x1, x2⟩ := K1.out.box
    clear hb
    go_wp2_with fail
    refine (ifix_all t _ S a c K1.out.2).mono ?_
    rintro e w2 ⟨rfl, hb⟩
    have K2 := Lib.hid (K1.out.step hb)
    clear hb
    go_wp2_with fail
    go_ret
    exact ⟨ret_bool HV.out.symm, K2.out.done⟩

end Go.Proofs.Ytmbgglmnbllpjaa
