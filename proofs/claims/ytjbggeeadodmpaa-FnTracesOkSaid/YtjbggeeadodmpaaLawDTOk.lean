/- the walk of laws.FnTracesOk -/
import Derived.Test.YtjbggeeadodmpaaTrsD
import Derived.Test.YtjbggeeadodmpaaTr2
namespace Go.Proofs.Ytjbggeeadodmpaa
open Go.RowKit

theorem trsOk_tail {t : Tr} {l : List Tr} (h : trsOk (t :: l) = true) : trsOk l = true := by
  unfold trsOk at h ⊢
  rw [Bool.and_eq_true, decide_eq_true_eq] at h ⊢
  rw [List.all_cons, Bool.and_eq_true, List.length_cons] at h
  exact ⟨by omega, h.2.2⟩

set_option maxRecDepth 100000 in
set_option maxHeartbeats 2000000 in
theorem walk_tracesOk (w : World) (a : Option Addr) (n c : Nat) (h : CodeAt w a n c) :
    Calls Try.prog 4 #[.slice a n c] w fun e w' => e = .returned (.bool true) ∧ Below w.heap.size w w' := by
  have hn := h.1
  have hc := h.2.1
  have HC := Lib.hid h
  clear h
  by_cases hl : 1048576 < n
  · go_enter Try.func4, Try.ntmps4
    go_wp2_with fail
    go_ret
    exact ⟨rfl, Below.refl _ _⟩
  go_enter Try.func4, Try.ntmps4
  go_wp2_with fail
  refine (drawTracesOk_any _ a n c HC.out).mono ?_
  rintro e w1 ⟨ts, v, us, rfl, ht, hd, hll, hb⟩
  obtain ⟨a1, c1, rfl, hat⟩ := ht.at (fun t h => (hd t h).fine)
  have HT1 := Lib.hid hat
  have HB1 := Lib.hid hb
  clear ht hd hat hb HC
  go_wp2_with fail
  refine (tracesOk_any _ _ ts a1 c1 HT1.out).mono ?_
  rintro e w2 ⟨rfl, hb⟩
  have HT2 := Lib.hid (HT1.out.below hb)
  have HB2 := Lib.hid (HB1.out.trans (hb.mono HB1.out.size))
  clear hb HT1 HB1
  go_wp2_with fail
  refine (specTrsOk_any _ _ ts a1 c1 HT2.out).mono ?_
  rintro e w3 ⟨rfl, hb⟩
  have HT3 := Lib.hid (HT2.out.below hb)
  have HB3 := Lib.hid (HB2.out.trans (hb.mono HB2.out.size))
  clear hb HT2 HB2
  obtain ⟨r, hr⟩ : ∃ r, r = trsOk ts := ⟨_, rfl⟩
  have HR := Lib.hid hr
  rw [← hr]
  have hrr : (r != r) = false := by simp
  clear hr
  cases r
  · go_wp2_with fail
    go_ret
    exact ⟨rfl, HB3.out⟩
  · cases ts with
    | nil =>
      clear hrr
      simp only [List.length_nil] at *
      go_wp2_with fail
      go_ret
      exact ⟨rfl, HB3.out⟩
    | cons t l =>
      have HTL := Lib.hid (trsOk_tail HR.out.symm)
      obtain ⟨b, o, rfl, htl⟩ := HT3.out.tail
      have HT4 := Lib.hid htl
      have hcap := HT3.out.1
      have hcap2 := HT3.out.2.1
      obtain ⟨m, hm⟩ : ∃ m, m = l.length := ⟨_, rfl⟩
      have HM := Lib.hid hm
      rw [List.length_cons, ← hm] at hcap ⊢
      have hne : (((m + 1 : Nat) : Int) == 0) = false := by simp; omega
      clear hrr htl hm HR
      by_cases hc1 : c1 = 1
      · subst hc1
        obtain rfl : m = 0 := by omega
        obtain rfl : l = [] := List.length_eq_zero_iff.1 HM.out.symm
        clear HT4 HT3
        go_wp2_with fail
        refine (tracesOk_any _ (fun _ => True) [] (some ⟨b, o, none⟩) 0 (RwAt.nil (by decide))).mono ?_
        rintro e w4 ⟨rfl, hb⟩
        rw [HTL.out]
        have HB4 := Lib.hid (HB3.out.trans (hb.mono HB3.out.size))
        clear hb
        go_wp2_with fail
        go_ret
        exact ⟨rfl, HB4.out⟩
      · obtain ⟨c2, rfl⟩ : ∃ c2, c1 = c2 + 1 + 1 := ⟨c1 - 2, by omega⟩
        rw [show c2 + 1 + 1 - 1 = c2 + 1 by omega] at HT4
        clear HT3 hc1
        go_wp2_with fail
        rw [HM.out]
        refine (tracesOk_any _ _ l (some ⟨b, o + 3, none⟩) (c2 + 1) HT4.out).mono ?_
        rintro e w4 ⟨rfl, hb⟩
        rw [HTL.out]
        have HB4 := Lib.hid (HB3.out.trans (hb.mono HB3.out.size))
        clear hb HT4
        go_wp2_with fail
        go_ret
        exact ⟨rfl, HB4.out⟩
end Go.Proofs.Ytjbggeeadodmpaa
