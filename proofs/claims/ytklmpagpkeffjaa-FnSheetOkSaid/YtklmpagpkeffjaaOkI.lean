/- impl.countNodes, impl.TaskNodes, impl.TaskOk -/
import Derived.Test.YtklmpagpkeffjaaOk
namespace Go.Proofs.Ytklmpagpkeffjaa
open Go.RowKit

/-- What countNodes comes to. -/
def cntB (t : T) (most : Nat) : Bool := t.fit && decide (t.nodes ≤ most)

def cntV (t : T) (most : Nat) : Value := .tuple #[.int .i64 (if cntB t most = true then (t.nodes : Int) else 0), .bool (cntB t most)]

def CntT (t : T) : Prop := ∀ (w : World) (S : Nat → Prop) (a : Option Addr) (c most : Nat), AtS w S t.ps a c → most ≤ 15 →
  Calls Try.prog 123 #[.agg #[.int .i64 t.k, .int .i64 t.n, .slice a t.ps.length c], .int .i64 most] w fun e w' =>
    e = .returned (cntV t most) ∧ Below w.heap.size w w'

theorem cnt_of (t : T) (hF : ∀ u ∈ t.ps, CntT u) : CntT t := by
  intro w S a c most hat hmost
  obtain ⟨p, tp, b, hs⟩ : ∃ p tp b, shp t.k = (p, tp, b) := ⟨_, _, _, rfl⟩
  have hbd := shp_bd t.k
  have hfe := T.fit_eq t
  unfold fit1 at hfe
  rw [hs] at hbd hfe
  simp only at hbd hfe
  obtain ⟨hb1, hb2, hb3, hb4⟩ := hbd
  have HS := Lib.hid hs
  have HA := Lib.hid hat
  have HF := Lib.hid hF
  have hlen : t.ps.length ≤ 9223372036854775807 := by have := hat.1; have := hat.2.1; omega
  have hno := T.nodes_eq t
  clear hs hat hF
  have fin : ∀ v : Bool, cntB t most = v → ∀ w1 : World, Below w.heap.size w w1 → v = false → (Ending.returned (.tuple #[.int .i64 0, .bool false]) = .returned (cntV t most) ∧ Below w.heap.size w w1) := by
    rintro v hv w1 hw rfl
    unfold cntV
    rw [hv]
    exact ⟨rfl, hw⟩
  have FIN := Lib.hid fin
  clear fin
  cases b
  · have hv : cntB t most = false := by unfold cntB; rw [hfe]; simp
    have HV := Lib.hid hv
    clear hfe hv hno
    go_enter Try.func123, Try.ntmps123
    go_wp2_with (go_at_call 133; refine (implShape_any _ _).mono ?_; rw [HS.out]; rintro e w' ⟨rfl, rfl⟩)
    go_ret2
    exact FIN.out _ HV.out _ ((Below.refl _ _).alloc (Nat.le_refl _) _) rfl
  by_cases h0 : most < 1
  · have hv : cntB t most = false := by unfold cntB; simp; intro _; omega
    have HV := Lib.hid hv
    clear hfe hv hno
    go_enter Try.func123, Try.ntmps123
    go_wp2_with (go_at_call 133; refine (implShape_any _ _).mono ?_; rw [HS.out]; rintro e w' ⟨rfl, rfl⟩)
    go_ret2
    exact FIN.out _ HV.out _ ((Below.refl _ _).alloc (Nat.le_refl _) _) rfl
  by_cases h2 : t.n < 0
  · have hv : cntB t most = false := by unfold cntB; rw [hfe]; simp; omega
    have HV := Lib.hid hv
    clear hfe hv hno
    go_enter Try.func123, Try.ntmps123
    go_wp2_with (go_at_call 133; refine (implShape_any _ _).mono ?_; rw [HS.out]; rintro e w' ⟨rfl, rfl⟩)
    go_ret2
    exact FIN.out _ HV.out _ ((Below.refl _ _).alloc (Nat.le_refl _) _) rfl
  by_cases h3 : tp < t.n
  · have hv : cntB t most = false := by unfold cntB; rw [hfe]; simp; omega
    have HV := Lib.hid hv
    clear hfe hv hno
    go_enter Try.func123, Try.ntmps123
    go_wp2_with (go_at_call 133; refine (implShape_any _ _).mono ?_; rw [HS.out]; rintro e w' ⟨rfl, rfl⟩)
    go_ret2
    exact FIN.out _ HV.out _ ((Below.refl _ _).alloc (Nat.le_refl _) _) rfl
  by_cases h1 : (t.ps.length : Int) = p
  · have hlen3 : t.ps.length ≤ 3 := by omega
    have hv : cntB t most = (fitL t.ps && decide (t.nodes ≤ most)) := by
      have e : decide (0 ≤ t.n ∧ t.n ≤ tp) = true := by simp; omega
      unfold cntB; rw [hfe, e]; simp [h1]
    have HV := Lib.hid hv
    have HNO := Lib.hid hno
    have h1b : (((t.ps.length : Nat) : Int) != p) = false := by simp [h1]
    clear hfe hv hno h1
    go_enter Try.func123, Try.ntmps123
    go_wp2_with (go_at_call 133; refine (implShape_any _ _).mono ?_; rw [HS.out]; rintro e w' ⟨rfl, rfl⟩)
    go_loopw [9, 48] (fun n i wr => ∃ k m : Nat, k ≤ t.ps.length ∧ i = .int .i64 k ∧ n = .int .i64 m ∧ m ≤ most ∧ m = 1 + nodesL (t.ps.take k) ∧ fitL (t.ps.take k) = true ∧ Below (w.heap.size + 1) (w.alloc (.cells #[.int .i64 t.k, .int .i64 t.n, .slice a t.ps.length c] 42)) wr) (fun _ i _ => t.ps.length - (intOf i).toNat)
    case atStart => exact ⟨0, 1, by omega, rfl, rfl, by omega, by simp [nodesL], by simp [fitL], Below.refl _ _⟩
    case round =>
      obtain ⟨k, m, hk, rfl, rfl, hm, hme, hq, hb⟩ := hrel
      have HB := Lib.hid hb
      have HQ := Lib.hid hq
      have HM := Lib.hid hme
      clear hb hq hme
      by_cases hlt : k < t.ps.length
      · obtain ⟨b, o, a', c', rfl, hbl, _, e0, e1, e2, hs, _, _⟩ := HA.out.elem (below_of_box HB.out) hlt
        have hblt : b < wr.heap.size := by have := cell_lt e0; exact this
        have HS' := Lib.hid hs
        have hsn := fitL_snoc t.ps k hlt
        have hnn := nodesL_snoc t.ps k hlt
        have hnr := nodesL_rest t.ps (k + 1)
        rw [HQ.out, Bool.true_and] at hsn
        clear hs
        cases hf : cntB t.ps[k] (most - m)
        · have hff : cntB t most = false := by
            rw [HV.out]
            have h1 := HNO.out
            have h2 := HM.out
            by_cases hg : t.ps[k].fit = true
            · have : ¬ t.ps[k].nodes ≤ most - m := by intro h; simp [cntB, hg, h] at hf
              have : ¬ t.nodes ≤ most := by omega
              simp [this]
            · rw [fitL_false t.ps k hlt (by simpa using hg)]; rfl
          have hcv : cntV t.ps[k] (most - m) = .tuple #[.int .i64 0, .bool false] := by unfold cntV; rw [hf]; rfl
          have HF1 := Lib.hid hcv
          have HF2 := Lib.hid hff
          clear hf hff hsn hcv hnn hnr
          go_wp2_with fail
          rw [show (most : Int) - (m : Int) = ((most - m : Nat) : Int) by omega]
          refine (HF.out t.ps[k] (List.getElem_mem _) _ S a' c' (most - m) (HS'.out.alloc _) (by omega)).mono ?_
          rintro e w1 ⟨rfl, hb⟩
          rw [HF1.out]
          have HB' := Lib.hid ((HB.out.alloc (by simpa using HB.out.size) _).trans (hb.mono (by have := HB.out.size; simp at this; simp; omega)))
          clear hb HF1
          go_wp2_with fail
          go_ret2
          exact FIN.out _ HF2.out _ (below_of_box HB'.out) rfl
        · have hff : t.ps[k].fit = true ∧ t.ps[k].nodes ≤ most - m := by simpa [cntB] using hf
          have hcv : cntV t.ps[k] (most - m) = .tuple #[.int .i64 (t.ps[k].nodes : Nat), .bool true] := by unfold cntV; rw [hf]; rfl
          obtain ⟨m', hm'⟩ : ∃ m' : Nat, m' = t.ps[k].nodes := ⟨_, rfl⟩
          rw [← hm'] at hcv
          have hmb : m' ≤ most - m := by omega
          have hend : m + m' = 1 + nodesL (t.ps.take (k + 1)) := by have := HM.out; omega
          rw [hff.1] at hsn
          have HF1 := Lib.hid hcv
          have HF2 := Lib.hid hsn
          have HE := Lib.hid hend
          clear hf hff hsn hcv hnn hnr hm' hend
          go_wp2_with fail
          rw [show (most : Int) - (m : Int) = ((most - m : Nat) : Int) by omega]
          refine (HF.out t.ps[k] (List.getElem_mem _) _ S a' c' (most - m) (HS'.out.alloc _) (by omega)).mono ?_
          rintro e w1 ⟨rfl, hb⟩
          rw [HF1.out]
          have HB' := Lib.hid ((HB.out.alloc (by simpa using HB.out.size) _).trans (hb.mono (by have := HB.out.size; simp at this; simp; omega)))
          clear hb HF1
          go_wp2_with fail
          go_roundw
          case rel => exact ⟨k + 1, m + m', by omega, by go_num, by go_num, by omega, HE.out, HF2.out, HB'.out⟩
          case measure => simp [intOf]; omega
      · have hk' : k = t.ps.length := by omega
        have hf : fitL t.ps = true := by have := HQ.out; rwa [hk', List.take_of_length_le (Nat.le_refl _)] at this
        have hno : t.nodes = m := by have := HM.out; rw [hk', List.take_of_length_le (Nat.le_refl _)] at this; have := HNO.out; omega
        have hcv : cntV t most = .tuple #[.int .i64 m, .bool true] := by
          have : cntB t most = true := by rw [HV.out, hf, hno]; simp [hm]
          unfold cntV; rw [this, hno]; rfl
        have HF1 := Lib.hid hcv
        clear hf hk' hno hcv
        go_wp2_with fail
        go_ret2
        exact ⟨by rw [HF1.out]; rfl, below_of_box HB.out⟩
  · have hv : cntB t most = false := by unfold cntB; rw [hfe]; simp [h1]
    have HV := Lib.hid hv
    have h1b : (((t.ps.length : Nat) : Int) != p) = true := by simpa using h1
    clear hfe hv hno h1
    go_enter Try.func123, Try.ntmps123
    go_wp2_with (go_at_call 133; refine (implShape_any _ _).mono ?_; rw [HS.out]; rintro e w' ⟨rfl, rfl⟩)
    go_ret2
    exact FIN.out _ HV.out _ ((Below.refl _ _).alloc (Nat.le_refl _) _) rfl

theorem cnt_all : ∀ t, CntT t := T.ind fun k n ps ih => cnt_of (.mk k n ps) ih

theorem cntB_15 (t : T) : cntB t 15 = t.ok := rfl

/-- impl.TaskNodes -/
theorem implNodes_any (t : T) (w : World) (S : Nat → Prop) (a : Option Addr) (c : Nat) (hat : AtS w S t.ps a c) :
    Calls Try.prog 94 #[.agg #[.int .i64 t.k, .int .i64 t.n, .slice a t.ps.length c]] w fun e w' => e = .returned (.int .i64 (if t.ok = true then (t.nodes : Int) else -1)) ∧ Below w.heap.size w w' := by
  have HA := Lib.hid hat
  clear hat
  cases hf : t.ok
  · have hcv : cntV t 15 = .tuple #[.int .i64 0, .bool false] := by unfold cntV; rw [cntB_15, hf]; rfl
    have HF := Lib.hid hcv
    clear hcv
    go_enter Try.func94, Try.ntmps94
    go_wp2_with fail
    refine (cnt_all t _ S a c 15 (HA.out.alloc _) (by omega)).mono ?_
    rintro e w1 ⟨rfl, hb⟩
    rw [HF.out]
    have HB := Lib.hid (below_of_box (hb.mono (by simp)))
    clear hb
    go_wp2_with fail
    go_ret
    exact ⟨rfl, HB.out⟩
  · have hcv : cntV t 15 = .tuple #[.int .i64 t.nodes, .bool true] := by unfold cntV; rw [cntB_15, hf]; rfl
    have HF := Lib.hid hcv
    clear hcv
    go_enter Try.func94, Try.ntmps94
    go_wp2_with fail
    refine (cnt_all t _ S a c 15 (HA.out.alloc _) (by omega)).mono ?_
    rintro e w1 ⟨rfl, hb⟩
    rw [HF.out]
    have HB := Lib.hid (below_of_box (hb.mono (by simp)))
    clear hb
    go_wp2_with fail
    go_ret
    exact ⟨rfl, HB.out⟩

/-- impl.TaskOk -/
theorem implOk_any (t : T) (w : World) (S : Nat → Prop) (a : Option Addr) (c : Nat) (hat : AtS w S t.ps a c) :
    Calls Try.prog 48 #[.agg #[.int .i64 t.k, .int .i64 t.n, .slice a t.ps.length c]] w fun e w' => e = .returned (.bool t.ok) ∧ Below w.heap.size w w' := by
  have HA := Lib.hid hat
  clear hat
  have hpos := t.nodes_pos
  obtain ⟨v, hv⟩ : ∃ v : Int, v = (if t.ok = true then (t.nodes : Int) else -1) := ⟨_, rfl⟩
  have hd : decide (0 < v) = t.ok := by cases h : t.ok <;> simp [h, hv] <;> omega
  have HD := Lib.hid hd
  have HV := Lib.hid hv
  clear hd hv
  go_enter Try.func48, Try.ntmps48
  go_wp2_with fail
  refine (implNodes_any t _ S a c (HA.out.alloc _)).mono ?_
  rintro e w1 ⟨rfl, hb⟩
  rw [← HV.out]
  have HB := Lib.hid (below_of_box (hb.mono (by simp)))
  clear hb
  go_wp2_with fail
  go_ret
  exact ⟨ret_bool HD.out, HB.out⟩


/-- How many nodes, or -1. -/
def T.cnt (t : T) : Int := if t.ok = true then (t.nodes : Int) else -1
theorem implCnt_any (t : T) (w : World) (S : Nat → Prop) (a : Option Addr) (c : Nat) (hat : AtS w S t.ps a c) :
    Calls Try.prog 94 #[.agg #[.int .i64 t.k, .int .i64 t.n, .slice a t.ps.length c]] w fun e w' => e = .returned (.int .i64 t.cnt) ∧ Below w.heap.size w w' := implNodes_any t w S a c hat

end Go.Proofs.Ytklmpagpkeffjaa
