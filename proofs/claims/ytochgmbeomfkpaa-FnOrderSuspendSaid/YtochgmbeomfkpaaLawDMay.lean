/- brHas, brAll; the walk of laws.FnTaskMay -/
import Derived.Test.YtochgmbeomfkpaaBs2
import Derived.Test.YtochgmbeomfkpaaLawDFix
namespace Go.Proofs.Ytochgmbeomfkpaa
open Go.RowKit

/-- brHas -/
theorem brHas_any (w : World) (S : Nat → Prop) (l : List Int) (a : Option Addr) (c : Nat) (n : Int) (h : IntsAt w S l a c) :
    Calls Try.prog 57 #[.slice a l.length c, .int .i64 n] w fun e w' => e = .returned (.bool (decide (n ∈ l))) ∧ w = w' := by
  have hlen : l.length ≤ 9223372036854775807 := by have := h.1; have := h.2.1; omega
  have H := Lib.hid h
  obtain ⟨r, hr⟩ : ∃ r, r = decide (n ∈ l) := ⟨_, rfl⟩
  have HR := Lib.hid hr
  rw [← hr]
  clear h hr
  go_enter Try.func57, Try.ntmps57
  go_wp2_with fail
  go_loop [5] (fun i => ∃ k : Nat, k ≤ l.length ∧ i = .int .i64 k ∧ ¬ n ∈ l.take k) (fun i => l.length - (intOf i).toNat)
  case atStart => exact ⟨0, by omega, rfl, by simp⟩
  case round =>
    obtain ⟨k, hk, rfl, hq⟩ := hrel
    have HQ := Lib.hid hq
    clear hq
    by_cases hlt : k < l.length
    · obtain ⟨b, o, rfl, hbl, _, hc⟩ := H.out.get (Below.refl _ _) hlt
      have HM := Lib.hid (mem_take_succ hlt n)
      have HE := Lib.hid (List.getElem_mem hlt)
      obtain ⟨v, hv⟩ : ∃ v, v = l[k] := ⟨_, rfl⟩
      rw [← hv] at hc
      have HVV := Lib.hid hv
      clear hv
      by_cases hvn : v = n
      · have hd : (v == n) = true := by simpa using hvn
        have hrt : r = true := by rw [HR.out, decide_eq_true_eq, ← hvn, HVV.out]; exact HE.out
        have HRT := Lib.hid hrt
        clear hrt hvn
        go_wp2_with fail
        go_ret
        exact ⟨ret_bool HRT.out.symm, rfl⟩
      · have hd : (v == n) = false := by simpa using hvn
        have HVN := Lib.hid hvn
        clear hvn
        go_wp2_with fail
        go_round
        case rel => exact ⟨k + 1, by omega, by go_num, fun h => by
          rcases HM.out.1 h with h | h
          · exact HQ.out h
          · exact HVN.out (by rw [HVV.out, h])⟩
        case measure => simp [intOf]; omega
    · have hrf : r = false := by
        have := HQ.out
        rw [List.take_of_length_le (by omega)] at this
        rw [HR.out]; exact decide_eq_false this
      have HRF := Lib.hid hrf
      clear hrf
      go_wp2_with fail
      go_ret
      exact ⟨ret_bool HRF.out.symm, rfl⟩

/-- brAll, where all are in -/
theorem brAll_any (w : World) (S S' : Nat → Prop) (l L : List Int) (a a' : Option Addr) (c c' : Nat) (h : IntsAt w S l a c) (h' : IntsAt w S' L a' c') (hin : ∀ x ∈ l, x ∈ L) :
    Calls Try.prog 23 #[.slice a l.length c, .slice a' L.length c'] w fun e w' => e = .returned (.bool true) ∧ w = w' := by
  have hlen : l.length ≤ 9223372036854775807 := by have := h.1; have := h.2.1; omega
  have H := Lib.hid h
  have H' := Lib.hid h'
  have HIN := Lib.hid hin
  clear h h' hin
  go_enter Try.func23, Try.ntmps23
  go_wp2_with fail
  go_loop [5] (fun i => ∃ k : Nat, k ≤ l.length ∧ i = .int .i64 k) (fun i => l.length - (intOf i).toNat)
  case atStart => exact ⟨0, by omega, rfl⟩
  case round =>
    obtain ⟨k, hk, rfl⟩ := hrel
    by_cases hlt : k < l.length
    · obtain ⟨b, o, rfl, hbl, _, hc⟩ := H.out.get (Below.refl _ _) hlt
      have hd : decide (l[k] ∈ L) = true := decide_eq_true (HIN.out _ (List.getElem_mem hlt))
      obtain ⟨v, hv⟩ : ∃ v, v = l[k] := ⟨_, rfl⟩
      rw [← hv] at hc hd
      have HD := Lib.hid hd
      clear hv hd
      go_wp2_with fail
      refine (brHas_any w S' L a' c' v H'.out).mono ?_
      rintro e w' ⟨rfl, rfl⟩
      rw [HD.out]
      go_wp2_with fail
      go_round
      case rel => exact ⟨k + 1, by omega, by go_num⟩
      case measure => simp [intOf]; omega
    · go_wp2_with fail
      go_ret
      exact ⟨rfl, rfl⟩

theorem mayL_get {q : Int} {ps : List T} {i : Nat} (h : i < ps.length) (hm : ps[i].may q = true) : mayL q ps = true := by
  have h1 := mayL_snoc q ps i h
  have h2 := mayL_append q (ps.take (i + 1)) (ps.drop (i + 1))
  rw [List.take_append_drop] at h2
  rw [h2, h1, hm]; simp
theorem mayO_mem {t : T} {q : Int} (h : t.ok = true) : q ∈ mayO t ↔ 0 ≤ q ∧ q < 10 ∧ t.may q = true := by
  unfold mayO
  rw [if_pos h, mayI_mem]
  exact Iff.rfl
theorem ok_part {t : T} (h : t.ok = true) {i : Nat} (hi : i < t.ps.length) : t.ps[i].ok = true := by
  simp only [T.ok, Bool.and_eq_true, decide_eq_true_eq] at h ⊢
  obtain ⟨h1, h2⟩ := h
  rw [T.fit_eq] at h1
  simp only [Bool.and_eq_true] at h1
  refine ⟨?_, ?_⟩
  · cases hf : t.ps[i].fit
    · have := fitL_false t.ps i hi hf; rw [h1.2] at this; cases this
    · rfl
  · have := T.nodes_le hi; have := t.nodes_eq; omega
theorem mayO_part {t : T} (h : t.ok = true) {i : Nat} (hi : i < t.ps.length) : ∀ x ∈ mayO t.ps[i], x ∈ mayO t := by
  intro x hx
  rw [mayO_mem (ok_part h hi)] at hx
  rw [mayO_mem h, T.may_eq]
  exact ⟨hx.1, hx.2.1, by rw [mayL_get hi hx.2.2]; simp⟩
theorem mayO_bd (t : T) : (∀ x ∈ mayO t, 0 ≤ x ∧ x < 10) ∧ (mayO t).length ≤ 10 := by
  unfold mayO
  split
  · exact ⟨fun x hx => by have := mayI_mem.1 hx; omega, mayI_len t 10⟩
  · simp
theorem mayO_asc (t : T) (i : Nat) (h : i + 1 < (mayO t).length) : (mayO t)[i] < (mayO t)[i + 1] := by
  have hp : (mayO t).Pairwise (· < ·) := by
    unfold mayO
    split
    · unfold mayI
      rw [List.pairwise_map]
      refine List.Pairwise.imp (R := fun a b : Nat => a < b) (fun h => by omega) ?_
      exact List.Pairwise.filter _ List.pairwise_lt_range
    · exact List.Pairwise.nil
  exact List.pairwise_iff_getElem.1 hp i (i + 1) (by omega) h (by omega)

end Go.Proofs.Ytochgmbeomfkpaa
