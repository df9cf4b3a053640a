/- the walk of laws.FnTaskNodes -/
import Derived.Test.YtffnkdcnbpoefaaDraw4
import Derived.Test.YtffnkdcnbpoefaaOkI
namespace Go.Proofs.Ytffnkdcnbpoefaa
open Go.RowKit

theorem nodesL_of_ok {t : T} (h : t.ok = true) {i : Nat} (hi : i < t.ps.length) : t.ps[i].ok = true := by
  simp only [T.ok, Bool.and_eq_true, decide_eq_true_eq] at h ⊢
  obtain ⟨h1, h2⟩ := h
  rw [T.fit_eq] at h1
  simp only [Bool.and_eq_true] at h1
  refine ⟨?_, ?_⟩
  · cases hf : t.ps[i].fit
    · have := fitL_false t.ps i hi hf; rw [h1.2] at this; cases this
    · rfl
  · have := T.nodes_le hi; have := t.nodes_eq; omega

set_option maxHeartbeats 1000000 in
theorem walk_taskNodes (w : World) (a : Option Addr) (n c : Nat) (h : CodeAt w a n c) :
    Calls Try.prog 3 #[.slice a n c] w fun e w' => e = .returned (.bool true) ∧ Below w.heap.size w w' := by
  have hn := h.1
  have hc := h.2.1
  have HC := Lib.hid h
  clear h
  by_cases hl : 1048576 < n
  · go_enter Try.func3, Try.ntmps3
    go_wp2_with fail
    go_ret
    exact ⟨rfl, Below.refl _ _⟩
  go_enter Try.func3, Try.ntmps3
  go_wp2_with fail
  refine (drawTaskNodes_any _ a n c HC.out).mono ?_
  rintro e w1 ⟨t, a1, c1, rfl, hat, ok1, ok2, hm, hb⟩
  have hsz1 := hb.size
  have HT1 := Lib.hid (hat.at.alloc (.cells #[.int .i64 t.k, .int .i64 t.n, .slice a1 t.ps.length c1] 25))
  have HB1 := Lib.hid (Blk.new w1 25 #[.int .i64 t.k, .int .i64 t.n, .slice a1 t.ps.length c1])
  have HX1 := Lib.hid (hb.alloc hsz1 (.cells #[.int .i64 t.k, .int .i64 t.n, .slice a1 t.ps.length c1] 25))
  have hnl : nodesL t.ps ≤ 1048576 := by have := t.nodes_eq; omega
  have hlen : t.ps.length ≤ 1048576 := by have := nodesL_ge t.ps; omega
  clear hat hb HC ok1 ok2
  go_wp2_with fail
  refine (implCnt_any t _ _ a1 c1 HT1.out).mono ?_
  rintro e w2 ⟨rfl, hb⟩
  have hsz2 := hb.size
  simp only [World.size_alloc] at hsz2
  have HT2 := Lib.hid (HT1.out.below hb)
  have HB2 := Lib.hid (HB1.out.below hb (by simp))
  have HX2 := Lib.hid (HX1.out.trans (hb.mono (by simp; omega)))
  clear hb HT1 HB1 HX1
  obtain ⟨x0, x1, x2, f0, f1, f2⟩ := HB2.out.three
  go_wp2_with fail
  refine (specCnt_any t _ _ a1 c1 HT2.out hnl).mono ?_
  rintro e w3 ⟨rfl, hb⟩
  have hsz3 := hb.size
  have HT3 := Lib.hid (HT2.out.below hb)
  have HB3 := Lib.hid (HB2.out.below hb (by omega))
  have HX3 := Lib.hid (HX2.out.trans (hb.mono (by omega)))
  clear hb HT2 HB2 HX2 x0 x1 x2 f0 f1 f2
  have hne : (t.cnt != t.cnt) = false := by simp
  cases hok : t.ok
  · have hv : t.cnt = -1 := by unfold T.cnt; rw [hok]; rfl
    rw [hv] at hne ⊢
    have HOK := Lib.hid hok
    clear hok hv
    go_wp2_with fail
    clear hne
    go_loopw [6, 7] (fun m i wr => i = .int .i64 0 ∧ wr = w3) (fun _ _ _ => 0)
    case atStart => exact ⟨rfl, rfl⟩
    case round =>
      obtain ⟨rfl, rfl⟩ := hrel
      obtain ⟨x0, x1, x2, f0, f1, f2⟩ := HB3.out.three
      have HOKW := HOK
      by_cases hpos : 0 < t.ps.length
      all_goals
        go_wp2_with fail
        refine (implOk_any t _ _ a1 c1 HT3.out).mono ?_
        rintro e w4 ⟨rfl, hb⟩
        rw [HOKW.out]
        have HX4 := Lib.hid (HX3.out.trans (hb.mono (by omega)))
        clear hb
        go_wp2_with fail
        go_ret
        exact ⟨rfl, HX4.out⟩
  · have hv : t.cnt = t.nodes := by unfold T.cnt; rw [hok]; rfl
    have hn15 : t.nodes ≤ 15 := by have : t.ok = true := hok; simp [T.ok] at this; exact this.2
    obtain ⟨m, hme⟩ : ∃ m : Nat, m = t.nodes := ⟨_, rfl⟩
    have hm15 : m ≤ 15 := by omega
    rw [hv, ← hme] at hne ⊢
    have HOK := Lib.hid hok
    have HM := Lib.hid hme
    clear hok hv hme hn15
    go_wp2_with fail
    clear hne
    go_loopw [6, 7] (fun q i wr => ∃ k s : Nat, k ≤ t.ps.length ∧ i = .int .i64 k ∧ q = .int .i64 s ∧ s = 1 + nodesL (t.ps.take k) ∧ Below w3.heap.size w3 wr) (fun _ i _ => t.ps.length - (intOf i).toNat)
    case atStart => exact ⟨0, 1, by omega, rfl, rfl, by simp [nodesL], Below.refl _ _⟩
    case round =>
      obtain ⟨k, s, hk, rfl, rfl, hs, hbl⟩ := hrel
      obtain ⟨x0, x1, x2, f0, f1, f2⟩ := (HB3.out.below hbl (by omega)).three
      have HR := Lib.hid hbl
      have HS := Lib.hid hs
      clear hs hbl
      by_cases hlt : k < t.ps.length
      · obtain ⟨b, o, a', c', rfl, hbl, _, e0, e1, e2, hs, _, _⟩ := HT3.out.elem HR.out hlt
        have HS' := Lib.hid hs
        have hpok := nodesL_of_ok HOK.out hlt
        have hcnt : t.ps[k].cnt = t.ps[k].nodes := by unfold T.cnt; rw [hpok]; rfl
        have hsn := nodesL_snoc t.ps k hlt
        have hnr := nodesL_rest t.ps (k + 1)
        have hne := t.nodes_eq
        have hM := HM.out
        have hS := HS.out
        obtain ⟨m', hm'⟩ : ∃ m' : Nat, m' = t.ps[k].nodes := ⟨_, rfl⟩
        rw [← hm'] at hcnt
        have hmb : m' ≤ 15 := by omega
        have hsb : s ≤ 15 := by omega
        have hend : s + m' = 1 + nodesL (t.ps.take (k + 1)) := by omega
        have HCN := Lib.hid hcnt
        have HE := Lib.hid hend
        clear hs hpok hcnt hsn hnr hne hM hS hm' hend
        go_wp2_with fail
        refine (implCnt_any t.ps[k] _ _ a' c' HS'.out).mono ?_
        rintro e w4 ⟨rfl, hb⟩
        rw [HCN.out]
        have HR' := Lib.hid (HR.out.trans (hb.mono HR.out.size))
        clear hb
        go_wp2_with fail
        go_roundw
        case rel => exact ⟨k + 1, s + m', by omega, by go_num, by go_num, HE.out, HR'.out⟩
        case measure => simp [intOf]; omega
      · have hsm : s = m := by
          have h1 := HS.out
          rw [show k = t.ps.length by omega, List.take_of_length_le (Nat.le_refl _)] at h1
          have h2 := HM.out
          have h3 := t.nodes_eq
          omega
        subst hsm
        go_wp2_with fail
        go_ret
        exact ⟨by simp, HX3.out.trans (HR.out.mono (by omega))⟩

end Go.Proofs.Ytffnkdcnbpoefaa
