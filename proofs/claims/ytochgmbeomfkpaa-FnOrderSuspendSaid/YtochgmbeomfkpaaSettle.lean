/- (*keyNode).settle -/
import Derived.Test.YtochgmbeomfkpaaNds
namespace Go.Proofs.Ytochgmbeomfkpaa
open Go.RowKit

theorem run_idxP (cs : Array Value) (k : Nat) (hk : k < 10) (x : Option Addr) (hx : cs[k]? = some (.pointer x)) (w : World) : (Instr.index 76 (.agg cs) (.int .i64 k)).run Try.prog w = .ok (.pointer x) w := by
  have h1 : (0 : Int) ≤ (k : Int) ∧ (k : Int) < 10 := by omega
  have h2 : (Go.sizeOf 74).run Try.prog w = .ok 1 w := by kernel_rfl
  simp [Instr.index, run_underlying Try.underlying76, asIntOf, h1, h2, part, hx, go_sem]
  intro h
  omega

/-- What the task of a key may fetch. -/
def chM (s : Sh) : Int → List Int := fun k => mayI (s.tk k.toNat) 10
theorem mayI_split (t : T) (k : Nat) : ∀ e, ∃ r, mayI t (k + e) = mayI t k ++ r
  | 0 => ⟨[], by simp⟩
  | e + 1 => by
    obtain ⟨r, hr⟩ := mayI_split t k e
    cases hm : t.may ((k + e : Nat) : Int)
    · exact ⟨r, by rw [← Nat.add_assoc, mayI_no hm, hr]⟩
    · exact ⟨r ++ [((k + e : Nat) : Int)], by rw [← Nat.add_assoc, mayI_yes hm, hr, List.append_assoc]⟩
theorem find_hit {t : T} {d : Int → Bool} {k : Nat} (hk : k < 10) (h : (mayI t k).find? (fun j => !d j) = none) (hm : t.may (k : Int) = true) (hd : d k = false) : (mayI t 10).find? (fun j => !d j) = some (k : Int) := by
  obtain ⟨r, hr⟩ := mayI_split t (k + 1) (10 - (k + 1))
  rw [show k + 1 + (10 - (k + 1)) = 10 by omega] at hr
  rw [hr, mayI_yes hm, List.find?_append, List.find?_append, h]
  simp [hd]
theorem find_more {t : T} {d : Int → Bool} {k : Nat} (h : (mayI t k).find? (fun j => !d j) = none) (hd : t.may (k : Int) = true → d k = true) : (mayI t (k + 1)).find? (fun j => !d j) = none := by
  cases hm : t.may (k : Int)
  · rw [mayI_no hm]; exact h
  · rw [mayI_yes hm, List.find?_append, h]
    simp [hd hm]

set_option maxRecDepth 100000 in
set_option maxHeartbeats 2000000 in
theorem settle_any (S : Nat → Prop) (s : Sh) (g n : Nat) (v : Int → Int) (d : Int → Bool) (w : World) (i : Nat) (hi : i < n) (hS : ∀ b, S b → b < g) (hout : ∀ j : Nat, n ≤ j → d j = true) (h : Nds w S s g n (mpv s g n) v d) :
    Calls Try.prog 64 #[.pointer (some ⟨g + i, 0, none⟩)] w (StPost S s g n (fun _ => v) (chM s) d i w) := by
  obtain ⟨a, c, hgi, _, _, _, _, _, _, c15, fz, _⟩ := h.node hi
  obtain ⟨p0, p1, p2, p3, p4, p5, p6, p7, p8, p9⟩ := h.points hi
  have f15 := fz 15
  have H := Lib.hid h
  have HS := Lib.hid hS
  have HO := Lib.hid hout
  have hm : ∀ k, k < 10 → (#[mpv s g n i 0, mpv s g n i 1, mpv s g n i 2, mpv s g n i 3, mpv s g n i 4, mpv s g n i 5, mpv s g n i 6, mpv s g n i 7, mpv s g n i 8, mpv s g n i 9] : Array Value)[k]? = some (mpv s g n i k) := by
    intro k hk
    match k, hk with
    | 0, _ => rfl
    | 1, _ => rfl
    | 2, _ => rfl
    | 3, _ => rfl
    | 4, _ => rfl
    | 5, _ => rfl
    | 6, _ => rfl
    | 7, _ => rfl
    | 8, _ => rfl
    | 9, _ => rfl
  have HM := Lib.hid hm
  obtain ⟨m0, hm0⟩ : ∃ m, m = mpv s g n i 0 := ⟨_, rfl⟩
  obtain ⟨m1, hm1⟩ : ∃ m, m = mpv s g n i 1 := ⟨_, rfl⟩
  obtain ⟨m2, hm2⟩ : ∃ m, m = mpv s g n i 2 := ⟨_, rfl⟩
  obtain ⟨m3, hm3⟩ : ∃ m, m = mpv s g n i 3 := ⟨_, rfl⟩
  obtain ⟨m4, hm4⟩ : ∃ m, m = mpv s g n i 4 := ⟨_, rfl⟩
  obtain ⟨m5, hm5⟩ : ∃ m, m = mpv s g n i 5 := ⟨_, rfl⟩
  obtain ⟨m6, hm6⟩ : ∃ m, m = mpv s g n i 6 := ⟨_, rfl⟩
  obtain ⟨m7, hm7⟩ : ∃ m, m = mpv s g n i 7 := ⟨_, rfl⟩
  obtain ⟨m8, hm8⟩ : ∃ m, m = mpv s g n i 8 := ⟨_, rfl⟩
  obtain ⟨m9, hm9⟩ : ∃ m, m = mpv s g n i 9 := ⟨_, rfl⟩
  rw [← hm0, ← hm1, ← hm2, ← hm3, ← hm4, ← hm5, ← hm6, ← hm7, ← hm8, ← hm9] at HM
  rw [← hm0] at p0
  rw [← hm1] at p1
  rw [← hm2] at p2
  rw [← hm3] at p3
  rw [← hm4] at p4
  rw [← hm5] at p5
  rw [← hm6] at p6
  rw [← hm7] at p7
  rw [← hm8] at p8
  rw [← hm9] at p9
  clear h hS hout hm fz hm0 hm1 hm2 hm3 hm4 hm5 hm6 hm7 hm8 hm9
  go_enter Try.func64, Try.ntmps64
  go_wp2_with fail
  obtain ⟨cs, hcs⟩ : ∃ cs, cs = #[m0, m1, m2, m3, m4, m5, m6, m7, m8, m9] := ⟨_, rfl⟩
  rw [← hcs] at HM ⊢
  clear hcs p0 p1 p2 p3 p4 p5 p6 p7 p8 p9
  go_loop [9] (fun q => ∃ k : Nat, k ≤ 10 ∧ q = .int .i64 k ∧ (mayI (s.tk i) k).find? (fun j => !d j) = none) (fun q => 10 - (intOf q).toNat)
  case atStart => exact ⟨0, by omega, rfl, rfl⟩
  case round =>
    obtain ⟨k, hk, rfl, hq⟩ := hrel
    have HQ := Lib.hid hq
    clear hq
    by_cases hlt : k < 10
    · have hx := HM.out k hlt
      by_cases hc : ((s.tk i).may (k : Int) && decide (k < n)) = true
      · have hkn : (s.tk i).may (k : Int) = true ∧ k < n := by simpa using hc
        have hp : mpv s g n i k = .pointer (some ⟨g + k, 0, none⟩) := by unfold mpv; rw [if_pos hc]
        rw [hp] at hx
        have hidx := run_idxP cs k hlt _ hx
        obtain ⟨_, _, hgk, _, _, _, _, _, _, e15, _, _⟩ := H.out.node hkn.2
        obtain ⟨dk, hdk⟩ : ∃ b, b = d k := ⟨_, rfl⟩
        rw [← hdk] at e15
        have HDK := Lib.hid hdk
        have HKN := Lib.hid hkn
        clear hx hc hp hdk hkn
        cases dk
        · have HF := Lib.hid (show nxt (chM s) d i = some (k : Int) from find_hit hlt HQ.out HKN.out.1 HDK.out.symm)
          go_wp2_with fail
          go_ret
          exact ⟨Fr.of_below (Below.refl _ _), .inl ⟨k, HF.out, rfl, H.out⟩⟩
        · have HF := Lib.hid (find_more (k := k) HQ.out (fun _ => HDK.out.symm))
          go_wp2_with fail
          go_round
          case rel => exact ⟨k + 1, by omega, by go_num, HF.out⟩
          case measure => simp [intOf]; omega
      · have hp : mpv s g n i k = .pointer none := by unfold mpv; rw [if_neg hc]
        rw [hp] at hx
        have hidx := run_idxP cs k hlt _ hx
        have HF := Lib.hid (find_more (k := k) HQ.out (fun hm => HO.out k (by
          rcases Nat.lt_or_ge k n with h | h
          · exact absurd (by rw [hm, decide_eq_true h]; rfl) hc
          · exact h)))
        clear hx hc hp
        go_wp2_with fail
        go_round
        case rel => exact ⟨k + 1, by omega, by go_num, HF.out⟩
        case measure => simp [intOf]; omega
    · have HF := Lib.hid (show nxt (chM s) d i = none by have := HQ.out; rwa [show k = 10 by omega] at this)
      go_wp2_with fail
      go_ret
      exact ⟨(Fr.of_below (Below.refl _ _)).set' _ ⟨by simp, by simp; omega⟩ _, .inr ⟨HF.out, rfl, H.out.set_done' HS.out⟩⟩
end Go.Proofs.Ytochgmbeomfkpaa
