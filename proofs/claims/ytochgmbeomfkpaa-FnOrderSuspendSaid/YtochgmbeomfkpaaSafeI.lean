/- impl.SheetSafe -/
import Derived.Test.YtochgmbeomfkpaaAllI
import Derived.Test.YtochgmbeomfkpaaSafeS
import Derived.Deep.RegionWith
namespace Go.Proofs.Ytochgmbeomfkpaa
open Go.RowKit

def nought (n : Nat) : List Int := List.replicate n 0
theorem nought_ok {n : Nat} (h : n ≤ 10) : vok (nought n) = true := by
  unfold vok nought
  rw [List.length_replicate, decide_eq_true h, Bool.true_and, List.all_eq_true]
  intro x hx
  rw [List.eq_of_mem_replicate hx]
  rfl
theorem nought_in {s : Sh} (h : s.ok = true) : inOk s (nought s.m.length) = true := by
  unfold inOk
  rw [h, nought_ok (Sh.ok_iff.1 h).1]
  simp [nought]
theorem nought_at (w : World) (n : Nat) (hn : n ≤ 9223372036854775807) : IntsAt (w.alloc (.cells (madeCells #[.int .i64 0] n) 3)) (fun _ => True) (nought n) (some ⟨w.heap.size, 0, none⟩) n := by
  have hl : (nought n).length = n := by simp [nought]
  refine ⟨by rw [hl]; omega, hn, fun v hv => by rw [List.eq_of_mem_replicate hv]; unfold i64ok; omega, .inr ⟨w.heap.size, 0, rfl, trivial, fun i hi => ?_⟩⟩
  rw [hl] at hi
  rw [Nat.zero_add, World.cell?_alloc_new, ← Array.getElem?_toList, toList_madeCells_one, List.getElem?_replicate, if_pos hi]
  simp [nought]

set_option maxRecDepth 100000 in
set_option maxHeartbeats 4000000 in
theorem implSafe_any (s : Sh) (w : World) (S0 : Nat → Prop) (a : Option Addr) (c : Nat) (a' : Option Addr) (c' : Nat) (h0 : ShAt w S0 s a c a' c') :
    Calls Try.prog 34 #[.agg #[.slice a s.m.length c, .slice a' s.t.length c']] w fun e w' => e = .returned (.bool (safeB s)) ∧ Below w.heap.size w w' := by
  obtain ⟨S, hSd⟩ : ∃ S : Nat → Prop, S = fun b => S0 b ∧ b < w.heap.size := ⟨_, rfl⟩
  have hSl : ∀ b, S b → b < w.heap.size := by rw [hSd]; exact fun b h => h.2
  have h : ShAt w S s a c a' c' := by rw [hSd]; exact h0.lim
  have HSL := Lib.hid hSl
  have K0 := Lib.hid (Ks.start (ty := 32) h)
  clear h h0 hSd hSl
  obtain ⟨x0, x1⟩ := K0.out.box
  cases hok : s.ok
  · have HV := Lib.hid (show safeB s = false by unfold safeB; rw [hok]; rfl)
    have HO := Lib.hid hok
    clear hok
    go_enter Try.func34, Try.ntmps34
    go_wp2_with fail
    refine (implSheetOk_any s _ S a c a' c' K0.out.2).mono ?_
    rintro e w1 ⟨rfl, hb⟩
    rw [HO.out]
    have K1 := Lib.hid (K0.out.step hb)
    clear hb x0 x1
    go_wp2_with fail
    go_ret
    exact ⟨ret_bool HV.out.symm, K1.out.done⟩
  · have hm10 : s.m.length ≤ 10 := (Sh.ok_iff.1 hok).1
    have HO := Lib.hid hok
    have HI := Lib.hid (nought_in hok)
    obtain ⟨n, hnn⟩ : ∃ n, n = s.m.length := ⟨_, rfl⟩
    have HN := Lib.hid hnn
    have hn10 : n ≤ 10 := by omega
    obtain ⟨i0, hi, hz0, hz1, hz2⟩ := info_parts infoInt
    have hmk := fun W => run_make_rowN (P := Try.prog) 26 3 i0 _ Try.underlying26 hi hz0 .i64 .i64 n n (Nat.le_refl _) (by rw [hz2]; omega) (by omega) W
    rw [hz1] at hmk
    clear hok hm10
    go_enter Try.func34, Try.ntmps34
    go_wp2_with fail
    refine (implSheetOk_any s _ S a c a' c' K0.out.2).mono ?_
    rintro e w1 ⟨rfl, hb⟩
    rw [HO.out]
    have K1 := Lib.hid (K0.out.step hb)
    clear hb x0 x1
    obtain ⟨x0, x1⟩ := K1.out.box
    rw [← hnn] at x0 ⊢
    have hwl : w.heap.size < w1.heap.size := by have := K1.out.size; omega
    clear hnn
    go_wp2_with fail
    have hc2 : Calls Try.prog 53 #[.agg #[.slice a n c, .slice a' s.t.length c'], .slice (some ⟨w1.heap.size, 0, none⟩) n n] (w1.alloc (.cells (madeCells #[.int .i64 0] n) 3)).drew (NodesPost (fun b => S b ∧ b < (w1.alloc (.cells (madeCells #[.int .i64 0] n) 3)).drew.heap.size) s (nought n) (w1.alloc (.cells (madeCells #[.int .i64 0] n) 3)).drew) := by
      have h := nodes_any' s (nought s.m.length) (w1.alloc (.cells (madeCells #[.int .i64 0] s.m.length) 3)).drew S (fun _ => True) a c a' c' (some ⟨w1.heap.size, 0, none⟩) s.m.length (K1.out.2.alloc _).drew (nought_at w1 s.m.length (by have := HN.out; omega)).drew HI.out
      rw [show (nought s.m.length).length = s.m.length by simp [nought], ← HN.out] at h
      exact h
    have HC2 := Lib.hid hc2
    have K2 := Lib.hid ((K1.out.alloc (.cells (madeCells #[.int .i64 0] n) 3)).drew)
    have hsd : (w1.alloc (.cells (madeCells #[.int .i64 0] n) 3)).drew.heap.size = w1.heap.size + 1 := by simp [World.drew]
    have HSD := Lib.hid hsd
    clear hc2 hsd
    go_region_with (go_at_call 53; refine HC2.out.mono ?_; rintro e w3 ⟨g, b, rfl, hb1, hg1, hnb, hp, hnd, hb⟩; rw [← HN.out] at hp hnd hnb ⊢)
    all_goals
      clear hmk
      have hS : ∀ b, (fun b => S b ∧ b < (w1.alloc (.cells (madeCells #[.int .i64 0] n) 3)).drew.heap.size) b → b < g := fun b hb => by have := hb.2; omega
      have HS := Lib.hid hS
      have HP3 := Lib.hid (And.intro hp (And.intro hnd (K2.out.step hb).done))
      have HNB := Lib.hid hnb
      have HG := Lib.hid (show w.heap.size ≤ g by have := HSD.out; omega)
      clear HC2 hb hp hnd hS hnb K2 x0 x1 hb1 hg1
      go_wp2_with fail
      go_loopw [15] (fun i wr => ∃ (k : Nat) (d : Int → Bool), k ≤ n ∧ i = .int .i64 k ∧ (∀ i, i < k → okM s (i : Int) = true) ∧ (∀ q, (!s.mdI q) = true → d q = true) ∧ (∀ q, d q = true → okM s q = true) ∧ PRow wr b g n n ∧
        Nds wr (fun b => S b ∧ b < (w1.alloc (.cells (madeCells #[.int .i64 0] n) 3)).drew.heap.size) s g n (mpv s g n) (vf (nought n)) d ∧ Below w.heap.size w wr) (fun i _ => n - (intOf i).toNat)
      case atStart => exact ⟨0, fun k => !s.mdI k, by omega, rfl, fun i hi => by omega, fun _ h => h, fun k h => (gr_M s).d0ok k h, HP3.out.1, HP3.out.2.1, HP3.out.2.2⟩
      case round =>
        obtain ⟨k, d, hk, rfl, hall, hlo, hhi, hp, hnd, hb⟩ := hrel
        have H4 := Lib.hid (And.intro hall (And.intro hlo (And.intro hhi (And.intro hp (And.intro hnd hb)))))
        clear HP3 hall hlo hhi hnd hb
        by_cases hlt : k < n
        · have hcell := hp.cell hlt
          clear hp
          go_wp2_with fail
          have hg := gr_M s
          have hst := settle_step (S := fun b => S b ∧ b < (w1.alloc (.cells (madeCells #[.int .i64 0] n) 3)).drew.heap.size) (s := s) (g := g) (vf (nought n)) HS.out
          rw [← HN.out] at hg hst
          refine (finish_any hg hst hn10 HS.out wr d k hlt H4.out.2.1 H4.out.2.2.1 H4.out.2.2.2.2.1).mono ?_
          rintro e w4 ⟨d2, L, a4, c4, rfl, hat, hnd2, hdd, hdo, hfr, _, ⟨rfl, hdf⟩ | ⟨hne, hnok, hLc⟩⟩
          · have hp4 := H4.out.2.2.2.1.fr hfr HNB.out
            have hb4 : Below w.heap.size w w4 := below_nd H4.out.2.2.2.2.2 hfr HG.out H4.out.2.2.2.2.2.size
            have hok2 : ∀ i, i < k + 1 → okM s (i : Int) = true := fun i hi => by
              by_cases hik : i = k
              · subst hik; exact hdo _ hdf
              · exact H4.out.1 i (by omega)
            have H5 := Lib.hid (And.intro hok2 (And.intro (fun q hq => hdd q (H4.out.2.1 q hq)) (And.intro hdo (And.intro hp4 (And.intro hnd2 hb4)))))
            clear hat hnd2 hdd hdo hfr hdf hp4 hb4 hok2 hg hst hcell
            go_wp2_with fail
            go_roundw
            case rel => exact ⟨k + 1, d2, by omega, by go_num, H5.out.1, H5.out.2.1, H5.out.2.2.1, H5.out.2.2.2.1, H5.out.2.2.2.2.1, H5.out.2.2.2.2.2⟩
            case measure => simp [intOf]; omega
          · have hb4 : Below w.heap.size w w4 := below_nd H4.out.2.2.2.2.2 hfr HG.out H4.out.2.2.2.2.2.size
            have HB4 := Lib.hid hb4
            have HV := Lib.hid (show safeB s = false by
              unfold safeB
              cases hx : (List.range s.m.length).all fun (i : Nat) => okM s (i : Int)
              · rw [Bool.and_false]
              · rw [List.all_eq_true] at hx
                rw [hx k (List.mem_range.2 (by rw [← HN.out]; exact hlt))] at hnok
                cases hnok)
            have hlp2 : 0 < L.length := List.length_pos_iff.2 hne
            have hlp : decide ((0 : Int) < (L.length : Int)) = true := decide_eq_true (by omega)
            have hlp3 : decide (0 < L.length) = true := decide_eq_true hlp2
            have hLm : L.length ≤ 9223372036854775807 := by have := hat.1; have := hat.2.1; omega
            clear hat hnd2 hdd hdo hfr hnok hLc hb4 hg hst hcell hne
            go_wp2_with fail
            go_ret
            exact ⟨ret_bool HV.out.symm, HB4.out⟩
        · obtain rfl : n = k := by omega
          have HV := Lib.hid (show safeB s = true by
            unfold safeB
            rw [HO.out, Bool.true_and, List.all_eq_true]
            intro i hi
            rw [List.mem_range, ← HN.out] at hi
            exact H4.out.1 i hi)
          clear hp
          go_wp2_with fail
          go_ret
          exact ⟨ret_bool HV.out.symm, H4.out.2.2.2.2.2⟩
end Go.Proofs.Ytochgmbeomfkpaa
