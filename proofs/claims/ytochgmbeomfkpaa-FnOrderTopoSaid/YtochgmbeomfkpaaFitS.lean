/- spec.l4Keys, spec.OrderFits -/
import Derived.Test.YtochgmbeomfkpaaFitP
import Derived.Deep.RegionWith
import Derived.BigQuiet
namespace Go.Proofs.Ytochgmbeomfkpaa
open Go.RowKit

theorem IntsAt.upto {w : World} {S : Nat → Prop} {l : List Int} {a : Option Addr} {c : Nat} (h : IntsAt w S l a c) (i : Nat) : IntsAt w S (l.take i) a c := by
  obtain ⟨h1, h2, h3, h4⟩ := h
  refine ⟨by rw [List.length_take]; omega, h2, fun v hv => h3 v (List.mem_of_mem_take hv), ?_⟩
  rcases h4 with h4 | ⟨b, o, ha, hS, hc⟩
  · exact .inl (by rw [h4]; simp)
  · refine .inr ⟨b, o, ha, hS, fun j hj => ?_⟩
    rw [List.getElem_take]
    exact hc j (by rw [List.length_take] at hj; omega)

/-- They are keys of a sheet. -/
def kyB (s : Sh) (ks : List Int) : Bool := hkB s ks && s.ok

set_option maxRecDepth 100000 in
set_option maxHeartbeats 2000000 in
theorem l4Keys_any (s : Sh) (ks : List Int) (w : World) (S S' : Nat → Prop) (a : Option Addr) (c : Nat) (a' : Option Addr) (c' : Nat) (ak : Option Addr) (ck : Nat) (h : ShAt w S s a c a' c') (hn : nodesL s.t ≤ 1048576) (hks : IntsAt w S' ks ak ck) :
    Calls Try.prog 27 #[.agg #[.slice a s.m.length c, .slice a' s.t.length c'], .slice ak ks.length ck] w fun e w' => e = .returned (.bool (kyB s ks)) ∧ Below w.heap.size w w' := by
  have K0 := Lib.hid (Ks.start (ty := 32) h)
  have HI := Lib.hid (hks.alloc (.cells #[.slice a s.m.length c, .slice a' s.t.length c'] 32))
  have hkl : ks.length ≤ 9223372036854775807 := by have := hks.1; have := hks.2.1; omega
  have hlm : s.m.length ≤ 9223372036854775807 := by have := h.1.1; have := h.1.2.1; omega
  have HN := Lib.hid hn
  obtain ⟨KL, hKL⟩ : ∃ n, n = ks.length := ⟨_, rfl⟩
  have HKL := Lib.hid hKL
  rw [← hKL] at hkl ⊢
  obtain ⟨r, hr⟩ : ∃ r, r = kyB s ks := ⟨_, rfl⟩
  have HR := Lib.hid hr
  rw [← hr]
  clear h hks hKL hr hn
  go_enter Try.func27, Try.ntmps27
  go_wp2_with fail
  go_loopw [5] (fun i wr => ∃ k : Nat, k ≤ KL ∧ i = .int .i64 k ∧ (ks.take k).all (fun k => decide (0 ≤ k ∧ k < s.m.length)) = true ∧ Ks S s a c a' c' 32 w wr ∧ IntsAt wr S' ks ak ck) (fun i _ => KL - (intOf i).toNat)
  case atStart => exact ⟨0, by omega, rfl, by simp, K0.out, HI.out⟩
  case round =>
    obtain ⟨k, hk, rfl, hall, hK, hI⟩ := hrel
    have HA := Lib.hid hall
    have HK := Lib.hid (And.intro hK hI)
    obtain ⟨x0, x1⟩ := hK.box
    clear hall hK hI K0 HI
    by_cases hlt : k < KL
    · have hlt2 : k < ks.length := by have := HKL.out; omega
      obtain ⟨b, o, rfl, hbl, _, hc⟩ := HK.out.2.get (Below.refl _ _) hlt2
      obtain ⟨key, hkey⟩ : ∃ key, key = ks[k] := ⟨_, rfl⟩
      rw [← hkey] at hc
      have HKEY := Lib.hid hkey
      obtain ⟨p, hp⟩ : ∃ p, p = decide (0 ≤ key ∧ key < s.m.length) := ⟨_, rfl⟩
      have hdk : decide ((0 : Int) ≤ key ∧ key ≤ (s.m.length : Int) - 1) = p := by
        rw [hp]
        by_cases h : 0 ≤ key ∧ key < s.m.length
        · rw [decide_eq_true h, decide_eq_true (by omega)]
        · rw [decide_eq_false h, decide_eq_false (by omega)]
      have hwr : IntKind.i64.wrap ((s.m.length : Int) - 1) = (s.m.length : Int) - 1 := IntWalk.i64_in _ ⟨by omega, by omega⟩
      rw [← hwr] at hdk
      have HD := Lib.hid hdk
      have HP := Lib.hid hp
      have HL2 := Lib.hid hlt2
      clear hkey hp hdk hwr
      go_wp2_with fail
      go_region_with (go_at_call 60; refine (in_any _ _ _ _).mono ?_; rw [HD.out]; rintro e w9 ⟨rfl, rfl⟩)
      all_goals
        have K1 := Lib.hid (And.intro (HK.out.1.drewN 1) (HK.out.2.drewN 1))
        cases p
        · go_wp2_with fail
          go_ret
          exact ⟨ret_bool (by rw [HR.out]; unfold kyB hkB; rw [all_fls HL2.out (by rw [← HKEY.out]; exact HP.out.symm)]; rfl), below_drewN HK.out.1.done _⟩
        · go_wp2_with fail
          go_roundw
          case rel => exact ⟨k + 1, by omega, by go_num, by rw [all_tk HL2.out, HA.out, ← HKEY.out, ← HP.out]; rfl, HK.out.1.drewN _, HK.out.2.drewN _⟩
          case measure => simp [intOf]; omega
    · have hall : hkB s ks = true := by
        have := HA.out
        rwa [List.take_of_length_le (by have := HKL.out; omega)] at this
      have hrk : s.ok = r := by rw [HR.out]; unfold kyB; rw [hall]; rfl
      have HALL := Lib.hid hrk
      clear hall hrk
      go_wp2_with fail
      refine (specSheetOk_any s _ S a c a' c' HK.out.1.2 HN.out).mono ?_
      rintro e w1 ⟨rfl, hb⟩
      rw [HALL.out]
      have K1 := Lib.hid (HK.out.1.step hb)
      clear hb x0 x1
      go_wp2_with fail
      go_ret
      exact ⟨rfl, K1.out.done⟩

end Go.Proofs.Ytochgmbeomfkpaa
