/- spec.l4Free -/
import Derived.Test.YtochgmbeomfkpaaBs2
import Derived.Test.YtochgmbeomfkpaaOrdP
import Derived.Test.YtochgmbeomfkpaaTopP
namespace Go.Proofs.Ytochgmbeomfkpaa
open Go.RowKit

set_option maxHeartbeats 1000000 in
/-- spec.l4Free -/
theorem l4Free_any (w : World) (S S' : Nat → Prop) (D L : List Int) (ad : Option Addr) (cd : Nat) (a : Option Addr) (c : Nat) (hD : IntsAt w S D ad cd) (h : IntsAt w S' L a c) :
    Calls Try.prog 30 #[.slice ad D.length cd, .slice a L.length c] w fun e w' => e = .returned (.bool (L.all (fun c => D.contains c))) ∧ w = w' := by
  have hlen : L.length ≤ 9223372036854775807 := by have := h.1; have := h.2.1; omega
  have H := Lib.hid h
  have HD := Lib.hid hD
  obtain ⟨r, hr⟩ : ∃ r, r = L.all (fun c => D.contains c) := ⟨_, rfl⟩
  have HR := Lib.hid hr
  rw [← hr]
  obtain ⟨DL, hDL⟩ : ∃ n, n = D.length := ⟨_, rfl⟩
  have HDL := Lib.hid hDL
  rw [← hDL]
  clear h hr hD hDL
  go_enter Try.func30, Try.ntmps30
  go_wp2_with fail
  go_loop [5] (fun i => ∃ k : Nat, k ≤ L.length ∧ i = .int .i64 k ∧ (L.take k).all (fun c => D.contains c) = true) (fun i => L.length - (intOf i).toNat)
  case atStart => exact ⟨0, by omega, rfl, by simp⟩
  case round =>
    obtain ⟨k, hk, rfl, hq⟩ := hrel
    have HQ := Lib.hid hq
    clear hq
    by_cases hlt : k < L.length
    · obtain ⟨b, o, rfl, hbl, _, hc⟩ := H.out.get (Below.refl _ _) hlt
      obtain ⟨v, hv⟩ : ∃ v, v = L[k] := ⟨_, rfl⟩
      rw [← hv] at hc
      have HVV := Lib.hid hv
      have HLT := Lib.hid hlt
      obtain ⟨p, hp⟩ : ∃ p, p = D.contains v := ⟨_, rfl⟩
      have HP := Lib.hid hp
      clear hv hp
      go_wp2_with fail
      have hcc := has_any w S D ad cd v HD.out
      rw [← HDL.out, show decide (v ∈ D) = p by rw [HP.out]; exact (List.contains_eq_mem v D).symm] at hcc
      refine hcc.mono ?_
      clear hcc
      rintro e w' ⟨rfl, rfl⟩
      cases p
      · go_wp2_with fail
        go_ret
        exact ⟨ret_bool (by rw [HR.out]; exact (all_fls HLT.out (by rw [← HVV.out]; exact HP.out.symm)).symm), rfl⟩
      · go_wp2_with fail
        go_round
        case rel => exact ⟨k + 1, by omega, by go_num, by rw [all_tk HLT.out, HQ.out, ← HVV.out, ← HP.out]; rfl⟩
        case measure => simp [intOf]; omega
    · have hke : k = L.length := by omega
      have hrt : r = true := by
        rw [HR.out]
        have := HQ.out
        rw [hke, List.take_length] at this
        exact this
      have HRT := Lib.hid hrt
      clear hrt hke
      go_wp2_with fail
      go_ret
      exact ⟨ret_bool HRT.out.symm, rfl⟩
end Go.Proofs.Ytochgmbeomfkpaa
