/- brInts; a fixed task fetches the same whatever values are; the walk of laws.FnTaskFixed -/
import Derived.Test.YtmbgglmnbllpjaaBs2
import Derived.Test.YtmbgglmnbllpjaaFixed
import Derived.Test.YtmbgglmnbllpjaaDr1
namespace Go.Proofs.Ytmbgglmnbllpjaa
open Go.RowKit

theorem kys_fixed (vs vs' : Int → Int) : ∀ t : T, t.fit = true → t.fixed = true → t.kys vs = t.kys vs' := T.ind fun k n ps ih hf => by
  generalize ht : T.mk k n ps = t at hf ⊢
  refine T.cases_fit (P := fun t => t.fixed = true → t.kys vs = t.kys vs') t hf ?_ ?_ ?_ ?_ ?_ ?_
  · rintro n a0 a1 rfl _; simp only [kys_0]
  · rintro n a0 a1 rfl h; simp only [kys_1]
  · rintro a b ha hb rfl h; injection ht with _ _ hps; subst hps
    simp [T.fixed, fixedL] at h
    simp only [kys_2, ih a (by simp) ha h.1, ih b (by simp) hb h.2]
  · rintro a b ha hb rfl h; injection ht with _ _ hps; subst hps
    simp [T.fixed, fixedL] at h
    simp only [kys_3, ih a (by simp) ha h.1, ih b (by simp) hb h.2]
  · rintro a b c ha hb hc rfl h; simp [T.fixed] at h
  · rintro n a a0 a1 ha rfl h; simp [T.fixed] at h

theorem fives (w : World) : IntsAt (w.alloc (.cells #[.int .i64 5, .int .i64 5, .int .i64 5, .int .i64 5, .int .i64 5, .int .i64 5, .int .i64 5, .int .i64 5, .int .i64 5, .int .i64 5] 3)) (fun b => b = w.heap.size) [5, 5, 5, 5, 5, 5, 5, 5, 5, 5] (some ⟨w.heap.size, 0, none⟩) 10 := by
  refine ⟨by decide, by decide, by simp [i64ok], .inr ⟨w.heap.size, 0, rfl, rfl, fun i hi => ?_⟩⟩
  rw [World.cell?_alloc_new]
  have hi' : i < 10 := hi
  rcases (show i = 0 ∨ i = 1 ∨ i = 2 ∨ i = 3 ∨ i = 4 ∨ i = 5 ∨ i = 6 ∨ i = 7 ∨ i = 8 ∨ i = 9 by omega) with rfl | rfl | rfl | rfl | rfl | rfl | rfl | rfl | rfl | rfl <;> rfl

set_option maxRecDepth 100000 in
set_option maxHeartbeats 2000000 in
theorem walk_taskFixed (w : World) (a : Option Addr) (n c : Nat) (h : CodeAt w a n c) :
    Calls Try.prog 3 #[.slice a n c] w fun e w' => e = .returned (.bool true) ∧ Below w.heap.size w w' := by
  have hn := h.1
  have hc := h.2.1
  have HC := Lib.hid h
  clear h
  by_cases hl : 1048576 < n
  · go_enter Try.func3, Try.ntmps3
    go_wp2_with fail
    go_ret
    exact ⟨rfl, Below.refl _ _⟩
  go_enter Try.func3, Try.ntmps3
  go_wp2_with fail
  refine (drawTaskFixed_any _ a n c HC.out).mono ?_
  rintro e w1 ⟨t, a1, c1, rfl, hat, ok1, ok2, hm, hb⟩
  have hsz1 := hb.size
  have HT1 := Lib.hid (hat.at.alloc (.cells #[.int .i64 t.k, .int .i64 t.n, .slice a1 t.ps.length c1] 25))
  have HB1 := Lib.hid (Blk.new w1 25 #[.int .i64 t.k, .int .i64 t.n, .slice a1 t.ps.length c1])
  have HX1 := Lib.hid (hb.alloc hsz1 (.cells #[.int .i64 t.k, .int .i64 t.n, .slice a1 t.ps.length c1] 25))
  have hnl : nodesL t.ps ≤ 1048576 := by have := t.nodes_eq; omega
  obtain ⟨L, hL⟩ : ∃ L : List Int, L = [5, 5, 5, 5, 5, 5, 5, 5, 5, 5] := ⟨_, rfl⟩
  obtain ⟨K, hK⟩ : ∃ K, K = (if (t.ok && vok []) = true then usesL (t.kys (vf [])) else []) := ⟨_, rfl⟩
  obtain ⟨K', hK'⟩ : ∃ K', K' = (if (t.ok && vok L) = true then usesL (t.kys (vf L)) else []) := ⟨_, rfl⟩
  have hkk : t.fix = true → K' = K := by
    intro h
    have h' := h
    unfold T.fix at h'
    simp only [Bool.and_eq_true] at h'
    have hfn : t.fit = true ∧ t.nodes ≤ 15 := by simpa [T.ok] using h'.1
    rw [hK, hK', kys_fixed (vf []) (vf L) t hfn.1 h'.2, h'.1, hL]
    rfl
  have hkb : ∀ k ∈ K, i64ok k := by
    intro k hk
    rw [hK] at hk
    split at hk
    · rename_i h
      have := (kys_ok h).1 k (usesL_mem.1 hk)
      unfold i64ok; omega
    · simp at hk
  have hkb' : ∀ k ∈ K', i64ok k := by
    intro k hk
    rw [hK'] at hk
    split at hk
    · rename_i h
      have := (kys_ok h).1 k (usesL_mem.1 hk)
      unfold i64ok; omega
    · simp at hk
  have HK := Lib.hid (And.intro hK (And.intro hK' (And.intro hL (And.intro hkk (And.intro hkb hkb')))))
  have hLl : L.length = 10 := by rw [hL]; rfl
  have HLL := Lib.hid hLl
  obtain ⟨x, hx⟩ : ∃ x, x = t.fix := ⟨_, rfl⟩
  have HXX := Lib.hid hx
  clear hat hb HC ok1 ok2 hL hK hK' hkk hkb hkb' hLl hx
  go_wp2_with fail
  refine (implFixed_any t _ _ a1 c1 HT1.out).mono ?_
  rintro e w2 ⟨rfl, hb⟩
  rw [← HXX.out]
  have hsz2 := hb.size
  simp only [World.size_alloc] at hsz2
  have HT2 := Lib.hid (HT1.out.below hb)
  have HB2 := Lib.hid (HB1.out.below hb (by simp))
  have HX2 := Lib.hid (HX1.out.trans (hb.mono (by simp; omega)))
  clear hb HT1 HB1 HX1
  obtain ⟨x0, x1, x2, f0, f1, f2⟩ := HB2.out.three
  go_wp2_with fail
  refine (specFixed_any t _ _ a1 c1 HT2.out hnl).mono ?_
  rintro e w3 ⟨rfl, hb⟩
  rw [← HXX.out]
  have hsz3 := hb.size
  have HT3 := Lib.hid (HT2.out.below hb)
  have HB3 := Lib.hid (HB2.out.below hb (by omega))
  have HX3 := Lib.hid (HX2.out.trans (hb.mono (by omega)))
  clear hb HT2 HB2 HX2 x0 x1 x2 f0 f1 f2
  obtain ⟨x0, x1, x2, f0, f1, f2⟩ := HB3.out.three
  have hne : (x != x) = false := by simp
  go_wp2_with fail
  clear hne
  refine (implUses_any t [] _ _ (fun _ => True) a1 none c1 0 HT3.out (IntsAt.nil (by omega))).mono ?_
  rintro e w4 ⟨hb, v, rfl, hn4⟩
  rw [← HK.out.1] at hn4
  obtain ⟨a4, c4, rfl, hi4⟩ := hn4.at HK.out.2.2.2.2.1
  have hsz4 := hb.size
  have HT4 := Lib.hid ((HT3.out.below hb).alloc (.cells #[.int .i64 5, .int .i64 5, .int .i64 5, .int .i64 5, .int .i64 5, .int .i64 5, .int .i64 5, .int .i64 5, .int .i64 5, .int .i64 5] 3))
  have HX4 := Lib.hid ((HX3.out.trans (hb.mono (by omega))).alloc (by omega) (.cells #[.int .i64 5, .int .i64 5, .int .i64 5, .int .i64 5, .int .i64 5, .int .i64 5, .int .i64 5, .int .i64 5, .int .i64 5, .int .i64 5] 3))
  have hbk := HB3.out.below hb (by omega)
  have HI4 := Lib.hid (hi4.alloc (.cells #[.int .i64 5, .int .i64 5, .int .i64 5, .int .i64 5, .int .i64 5, .int .i64 5, .int .i64 5, .int .i64 5, .int .i64 5, .int .i64 5] 3))
  have hfv := fives w4
  rw [← HK.out.2.2.1] at hfv
  have hcall := implUses_any t L _ _ _ a1 (some ⟨w4.heap.size, 0, none⟩) c1 10 HT4.out hfv
  rw [HLL.out] at hcall
  have HCA := Lib.hid hcall
  clear hb HT3 HB3 HX3 hn4 hi4 hfv hcall x0 x1 x2 f0 f1 f2
  obtain ⟨x0, x1, x2, f0, f1, f2⟩ := hbk.three
  clear hbk
  go_wp2_with fail
  refine HCA.out.mono ?_
  rintro e w5 ⟨hb, v, rfl, hn5⟩
  rw [← HK.out.2.1] at hn5
  obtain ⟨a5, c5, rfl, hi5⟩ := hn5.at HK.out.2.2.2.2.2
  have hsz5 := hb.size
  simp only [World.size_alloc] at hsz5
  have HX5 := Lib.hid (HX4.out.trans (hb.mono (by simp; omega)))
  have HI5 := Lib.hid (HI4.out.below hb)
  have HJ5 := Lib.hid hi5
  clear hb HT4 HX4 HI4 hn5 hi5 x0 x1 x2 f0 f1 f2 HCA
  cases x
  · go_wp2_with fail
    go_ret
    exact ⟨rfl, HX5.out⟩
  · have hkk : K' = K := HK.out.2.2.2.1 HXX.out.symm
    have HJ6 := Lib.hid (show IntsAt w5 _ K a5 c5 by rw [← hkk]; exact HJ5.out)
    rw [hkk]
    clear hkk HJ5
    go_wp2_with fail
    refine (brInts_any _ _ _ K a4 a5 c4 c5 HI5.out HJ6.out).mono ?_
    rintro e w6 ⟨rfl, hb⟩
    have HX6 := Lib.hid (HX5.out.trans (hb.mono (by omega)))
    clear hb
    go_wp2_with fail
    go_ret
    exact ⟨rfl, HX6.out⟩
end Go.Proofs.Ytmbgglmnbllpjaa
