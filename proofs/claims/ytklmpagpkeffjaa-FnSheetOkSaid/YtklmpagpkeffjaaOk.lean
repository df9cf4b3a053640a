/- spec.TaskOk, spec.TaskNodes, impl.TaskOk, impl.TaskNodes and what they call -/
import Derived.Test.YtklmpagpkeffjaaProg
import Derived.Test.YtklmpagpkeffjaaTree
import Derived.WalkKit
import Derived.Handy
import Derived.WalkSpells
import Derived.BigQuiet
namespace Go.Proofs.Ytklmpagpkeffjaa
open Go.RowKit

theorem specShape_any (k : Int) (w : World) : Calls Try.prog 117 #[.int .i64 k] w fun e w' => e = .returned (.tuple #[.int .i64 (shp k).1, .int .i64 (shp k).2.1, .bool (shp k).2.2]) ∧ w = w' := by
  have key : ∀ p : Int × Int × Bool, shp k = p → Calls Try.prog 117 #[.int .i64 k] w fun e w' => e = .returned (.tuple #[.int .i64 p.1, .int .i64 p.2.1, .bool p.2.2]) ∧ w = w' := by
    unfold shp
    rintro p rfl
    by_cases h0 : k = 0
    · subst h0; go_enter Try.func117, Try.ntmps117; go_wp2_with fail; go_ret3; exact ⟨rfl, rfl⟩
    by_cases h1 : k = 1
    · subst h1; go_enter Try.func117, Try.ntmps117; go_wp2_with fail; go_ret3; exact ⟨rfl, rfl⟩
    by_cases h2 : k = 2
    · subst h2; go_enter Try.func117, Try.ntmps117; go_wp2_with fail; go_ret3; exact ⟨rfl, rfl⟩
    by_cases h3 : k = 3
    · subst h3; go_enter Try.func117, Try.ntmps117; go_wp2_with fail; go_ret3; exact ⟨rfl, rfl⟩
    by_cases h4 : k = 4
    · subst h4; go_enter Try.func117, Try.ntmps117; go_wp2_with fail; go_ret3; exact ⟨rfl, rfl⟩
    by_cases h5 : k = 5
    · subst h5; go_enter Try.func117, Try.ntmps117; go_wp2_with fail; go_ret3; exact ⟨rfl, rfl⟩
    rw [if_neg h0, if_neg h1, if_neg h2, if_neg h3, if_neg h4, if_neg h5]
    go_enter Try.func117, Try.ntmps117; go_wp2_with fail; go_ret3; exact ⟨rfl, rfl⟩
  exact key _ rfl

theorem implShape_any (k : Int) (w : World) : Calls Try.prog 133 #[.int .i64 k] w fun e w' => e = .returned (.tuple #[.int .i64 (shp k).1, .int .i64 (shp k).2.1, .bool (shp k).2.2]) ∧ w = w' := by
  have key : ∀ p : Int × Int × Bool, shp k = p → Calls Try.prog 133 #[.int .i64 k] w fun e w' => e = .returned (.tuple #[.int .i64 p.1, .int .i64 p.2.1, .bool p.2.2]) ∧ w = w' := by
    unfold shp
    rintro p rfl
    by_cases h0 : k = 0
    · subst h0; go_enter Try.func133, Try.ntmps133; go_wp2_with fail; go_ret3; exact ⟨rfl, rfl⟩
    by_cases h1 : k = 1
    · subst h1; go_enter Try.func133, Try.ntmps133; go_wp2_with fail; go_ret3; exact ⟨rfl, rfl⟩
    by_cases h2 : k = 2
    · subst h2; go_enter Try.func133, Try.ntmps133; go_wp2_with fail; go_ret3; exact ⟨rfl, rfl⟩
    by_cases h3 : k = 3
    · subst h3; go_enter Try.func133, Try.ntmps133; go_wp2_with fail; go_ret3; exact ⟨rfl, rfl⟩
    by_cases h4 : k = 4
    · subst h4; go_enter Try.func133, Try.ntmps133; go_wp2_with fail; go_ret3; exact ⟨rfl, rfl⟩
    by_cases h5 : k = 5
    · subst h5; go_enter Try.func133, Try.ntmps133; go_wp2_with fail; go_ret3; exact ⟨rfl, rfl⟩
    rw [if_neg h0, if_neg h1, if_neg h2, if_neg h3, if_neg h4, if_neg h5]
    go_enter Try.func133, Try.ntmps133; go_wp2_with fail; go_ret3; exact ⟨rfl, rfl⟩
  exact key _ rfl

theorem in_any (n lo hi : Int) (w : World) : Calls Try.prog 102 #[.int .i64 n, .int .i64 lo, .int .i64 hi] w fun e w' => e = .returned (.bool (decide (lo ≤ n ∧ n ≤ hi))) ∧ w = w' := by
  by_cases h1 : lo ≤ n
  · by_cases h2 : n ≤ hi
    · have e : decide (lo ≤ n ∧ n ≤ hi) = true := by simp [h1, h2]
      rw [e]; clear e
      go_enter Try.func102, Try.ntmps102; go_wp2_with fail; go_ret; exact ⟨rfl, rfl⟩
    · have e : decide (lo ≤ n ∧ n ≤ hi) = false := by simp [h2]
      rw [e]; clear e
      go_enter Try.func102, Try.ntmps102; go_wp2_with fail; go_ret; exact ⟨rfl, rfl⟩
  · have e : decide (lo ≤ n ∧ n ≤ hi) = false := by simp [h1]
    rw [e]; clear e
    go_enter Try.func102, Try.ntmps102; go_wp2_with fail; go_ret; exact ⟨rfl, rfl⟩

def FitT (t : T) : Prop := ∀ (w : World) (S : Nat → Prop) (a : Option Addr) (c : Nat), AtS w S t.ps a c →
  Calls Try.prog 95 #[.agg #[.int .i64 t.k, .int .i64 t.n, .slice a t.ps.length c]] w fun e w' => e = .returned (.bool t.fit) ∧ Below w.heap.size w w'

theorem fit_of (t : T) (hF : ∀ u ∈ t.ps, FitT u) : FitT t := by
  intro w S a c hat
  obtain ⟨p, tp, b, hs⟩ : ∃ p tp b, shp t.k = (p, tp, b) := ⟨_, _, _, rfl⟩
  have hbd := shp_bd t.k
  have hfe := T.fit_eq t
  unfold fit1 at hfe
  rw [hs] at hbd hfe
  simp only at hbd hfe
  obtain ⟨hb1, hb2, hb3, hb4⟩ := hbd
  have HS := Lib.hid hs
  have HA := Lib.hid hat
  have HF := Lib.hid hF
  have hlen : t.ps.length ≤ 9223372036854775807 := by have := hat.1; have := hat.2.1; omega
  clear hs hat hF
  cases b
  · have hv : t.fit = false := by rw [hfe]; simp
    rw [hv]
    clear hfe hv
    go_enter Try.func95, Try.ntmps95
    go_wp2_with (go_at_call 117; refine (specShape_any _ _).mono ?_; rw [HS.out]; rintro e w' ⟨rfl, rfl⟩)
    go_ret
    exact ⟨rfl, (Below.refl _ _).alloc (Nat.le_refl _) _⟩
  by_cases h1 : (t.ps.length : Int) = p
  · by_cases h2 : 0 ≤ t.n ∧ t.n ≤ tp
    · have hv : t.fit = fitL t.ps := by rw [hfe]; simp [h1, h2]
      have HV := Lib.hid hv
      have hd : decide (0 ≤ t.n ∧ t.n ≤ tp) = true := by simp [h2]
      have HD := Lib.hid hd
      have h1b : (((t.ps.length : Nat) : Int) != p) = false := by simp [h1]
      clear hfe hv hd h1 h2
      go_enter Try.func95, Try.ntmps95
      go_wp2_with (first | (go_at_call 117; refine (specShape_any _ _).mono ?_; rw [HS.out]; rintro e w' ⟨rfl, rfl⟩) | (go_at_call 102; refine (in_any _ _ _ _).mono ?_; rw [HD.out]; rintro e w' ⟨rfl, rfl⟩))
      go_loopw [6] (fun i wr => ∃ k : Nat, k ≤ t.ps.length ∧ i = .int .i64 k ∧ fitL (t.ps.take k) = true ∧ Below (w.heap.size + 1) (w.alloc (.cells #[.int .i64 t.k, .int .i64 t.n, .slice a t.ps.length c] 42)) wr) (fun i _ => t.ps.length - (intOf i).toNat)
      case atStart => exact ⟨0, by omega, rfl, by simp [fitL], Below.refl _ _⟩
      case round =>
        obtain ⟨k, hk, rfl, hq, hb⟩ := hrel
        obtain ⟨x0, x1, x2⟩ := box3 hb
        have HB := Lib.hid hb
        have HQ := Lib.hid hq
        clear hb hq
        by_cases hlt : k < t.ps.length
        · obtain ⟨b, o, a', c', rfl, hbl, _, e0, e1, e2, hs, _, _⟩ := HA.out.elem (below_of_box HB.out) hlt
          have HS' := Lib.hid hs
          have hsn := fitL_snoc t.ps k hlt
          rw [HQ.out, Bool.true_and] at hsn
          clear hs
          cases hf : t.ps[k].fit
          · have hff := fitL_false t.ps k hlt hf
            have HF1 := Lib.hid hf
            have HF2 := Lib.hid hff
            clear hf hff hsn
            go_wp2_with fail
            refine (HF.out t.ps[k] (List.getElem_mem _) _ S a' c' HS'.out).mono ?_
            rintro e w1 ⟨rfl, hb⟩
            rw [HF1.out]
            have HB' := Lib.hid (HB.out.trans (hb.mono (by simpa using HB.out.size)))
            clear hb HF1
            go_wp2_with fail
            go_ret
            exact ⟨ret_bool (by rw [HV.out, HF2.out]), below_of_box HB'.out⟩
          · have HF1 := Lib.hid hf
            rw [hf] at hsn
            have HF2 := Lib.hid hsn
            clear hf hsn
            go_wp2_with fail
            refine (HF.out t.ps[k] (List.getElem_mem _) _ S a' c' HS'.out).mono ?_
            rintro e w1 ⟨rfl, hb⟩
            rw [HF1.out]
            have HB' := Lib.hid (HB.out.trans (hb.mono (by simpa using HB.out.size)))
            clear hb HF1
            go_wp2_with fail
            go_roundw
            case rel => exact ⟨k + 1, by omega, by go_num, HF2.out, HB'.out⟩
            case measure => simp [intOf]; omega
        · have hk' : k = t.ps.length := by omega
          have hf : fitL t.ps = true := by have := HQ.out; rwa [hk', List.take_of_length_le (Nat.le_refl _)] at this
          have HF1 := Lib.hid hf
          clear hf hk'
          go_wp2_with fail
          go_ret
          exact ⟨ret_bool (by rw [HV.out, HF1.out]), below_of_box HB.out⟩
    · have hv : t.fit = false := by rw [hfe]; simp [h2]
      have HV := Lib.hid hv
      have hd : decide (0 ≤ t.n ∧ t.n ≤ tp) = false := by simpa using h2
      have HD := Lib.hid hd
      have h1b : (((t.ps.length : Nat) : Int) != p) = false := by simp [h1]
      clear hfe hv hd h1 h2
      go_enter Try.func95, Try.ntmps95
      go_wp2_with (first | (go_at_call 117; refine (specShape_any _ _).mono ?_; rw [HS.out]; rintro e w' ⟨rfl, rfl⟩) | (go_at_call 102; refine (in_any _ _ _ _).mono ?_; rw [HD.out]; rintro e w' ⟨rfl, rfl⟩))
      go_ret
      exact ⟨ret_bool HV.out.symm, (Below.refl _ _).alloc (Nat.le_refl _) _⟩
  · have hv : t.fit = false := by rw [hfe]; simp [h1]
    have HV := Lib.hid hv
    have h1b : (((t.ps.length : Nat) : Int) != p) = true := by simpa using h1
    clear hfe hv h1
    go_enter Try.func95, Try.ntmps95
    go_wp2_with (go_at_call 117; refine (specShape_any _ _).mono ?_; rw [HS.out]; rintro e w' ⟨rfl, rfl⟩)
    go_ret
    exact ⟨ret_bool HV.out.symm, (Below.refl _ _).alloc (Nat.le_refl _) _⟩
theorem fit_all : ∀ t, FitT t := T.ind fun k n ps ih => fit_of (.mk k n ps) ih

def NodesT (t : T) : Prop := ∀ (w : World) (S : Nat → Prop) (a : Option Addr) (c : Nat), AtS w S t.ps a c → nodesL t.ps ≤ 1048576 →
  Calls Try.prog 96 #[.agg #[.int .i64 t.k, .int .i64 t.n, .slice a t.ps.length c]] w fun e w' => e = .returned (.int .i64 (t.nodes : Nat)) ∧ Below w.heap.size w w'

theorem nodes_of (t : T) (hF : ∀ u ∈ t.ps, NodesT u) : NodesT t := by
  intro w S a c hat hle
  have HA := Lib.hid hat
  have HF := Lib.hid hF
  have HL := Lib.hid hle
  have hlen : t.ps.length ≤ 1048576 := by have := nodesL_ge t.ps; omega
  clear hat hF hle
  go_enter Try.func96, Try.ntmps96
  go_wp2_with fail
  go_loopw [3, 4] (fun n i wr => ∃ k : Nat, k ≤ t.ps.length ∧ i = .int .i64 k ∧ n = .int .i64 (1 + nodesL (t.ps.take k) : Nat) ∧ Below (w.heap.size + 1) (w.alloc (.cells #[.int .i64 t.k, .int .i64 t.n, .slice a t.ps.length c] 42)) wr) (fun _ i _ => t.ps.length - (intOf i).toNat)
  case atStart => exact ⟨0, by omega, rfl, by simp [nodesL], Below.refl _ _⟩
  case round =>
    obtain ⟨k, hk, rfl, rfl, hb⟩ := hrel
    obtain ⟨x0, x1, x2⟩ := box3 hb
    have HB := Lib.hid hb
    clear hb
    by_cases hlt : k < t.ps.length
    · obtain ⟨b, o, a', c', rfl, hbl, _, e0, e1, e2, hs, _, _⟩ := HA.out.elem (below_of_box HB.out) hlt
      have HS' := Lib.hid hs
      have hsn := nodesL_snoc t.ps k hlt
      have hr := nodesL_rest t.ps (k + 1)
      have hn1 := T.nodes_eq t.ps[k]
      have hle := HL.out
      obtain ⟨m, hm⟩ : ∃ m : Nat, m = 1 + nodesL (t.ps.take k) := ⟨_, rfl⟩
      obtain ⟨m', hm'⟩ : ∃ m' : Nat, m' = t.ps[k].nodes := ⟨_, rfl⟩
      have hmb : m ≤ 1048577 := by omega
      have hmb' : m' ≤ 1048577 := by omega
      have hpl : nodesL t.ps[k].ps ≤ 1048576 := by omega
      have hend : 1 + nodesL (t.ps.take (k + 1)) = m + m' := by omega
      rw [← hm]
      have HE := Lib.hid hend
      have HM' := Lib.hid hm'
      clear hs hsn hr hn1 hle hm hm' hend
      go_wp2_with fail
      refine (HF.out t.ps[k] (List.getElem_mem _) _ S a' c' HS'.out hpl).mono ?_
      rintro e w1 ⟨rfl, hb⟩
      rw [← HM'.out]
      have HB' := Lib.hid (HB.out.trans (hb.mono (by simpa using HB.out.size)))
      clear hb
      go_wp2_with fail
      go_roundw
      case rel => exact ⟨k + 1, by omega, by go_num, by rw [HE.out]; go_num, HB'.out⟩
      case measure => simp [intOf]; omega
    · have hk' : k = t.ps.length := by omega
      have hf : 1 + nodesL (t.ps.take k) = t.nodes := by rw [hk', List.take_of_length_le (Nat.le_refl _), T.nodes_eq]
      have HF1 := Lib.hid hf
      clear hf hk'
      go_wp2_with fail
      go_ret
      exact ⟨ret_i64 (by rw [HF1.out]), below_of_box HB.out⟩
theorem nodes_all : ∀ t, NodesT t := T.ind fun k n ps ih => nodes_of (.mk k n ps) ih

/-- spec.TaskOk -/
theorem specOk_any (t : T) (w : World) (S : Nat → Prop) (a : Option Addr) (c : Nat) (hat : AtS w S t.ps a c) (hle : nodesL t.ps ≤ 1048576) :
    Calls Try.prog 50 #[.agg #[.int .i64 t.k, .int .i64 t.n, .slice a t.ps.length c]] w fun e w' => e = .returned (.bool t.ok) ∧ Below w.heap.size w w' := by
  have hlt : t.nodes ≤ 1048577 := by have := t.nodes_eq; omega
  have HA := Lib.hid hat
  have HL := Lib.hid hle
  clear hat hle
  cases hf : t.fit
  · have hv : t.ok = false := by simp [T.ok, hf]
    have HV := Lib.hid hv
    have HF := Lib.hid hf
    clear hv hf
    go_enter Try.func50, Try.ntmps50
    go_wp2_with fail
    refine (fit_all t _ S a c (HA.out.alloc _)).mono ?_
    rintro e w1 ⟨rfl, hb⟩
    rw [HF.out]
    have HB := Lib.hid (below_of_box (hb.mono (by simp)))
    clear hb
    go_wp2_with fail
    go_ret
    exact ⟨ret_bool HV.out.symm, HB.out⟩
  · have hv : t.ok = decide (t.nodes ≤ 15) := by simp [T.ok, hf]
    have HV := Lib.hid hv
    have HF := Lib.hid hf
    clear hv hf
    go_enter Try.func50, Try.ntmps50
    go_wp2_with fail
    refine (fit_all t _ S a c (HA.out.alloc _)).mono ?_
    rintro e w1 ⟨rfl, hb⟩
    rw [HF.out]
    obtain ⟨x0, x1, x2⟩ := box3 (hb.mono (by simp))
    have HB := Lib.hid hb
    clear hb
    go_wp2_with fail
    refine (nodes_all t _ S a c ((HA.out.alloc _).below HB.out) HL.out).mono ?_
    rintro e w2 ⟨rfl, hb⟩
    have HB' := Lib.hid (below_of_box ((HB.out.trans (hb.mono (by simpa using HB.out.size))).mono (by simp)))
    clear hb
    go_wp2_with fail
    go_ret
    exact ⟨ret_bool (by rw [HV.out]; simp; omega), HB'.out⟩


end Go.Proofs.Ytklmpagpkeffjaa
