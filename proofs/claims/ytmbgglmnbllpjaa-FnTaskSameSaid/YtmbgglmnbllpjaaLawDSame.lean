/- the walk of laws.FnTaskSame -/
import Derived.Test.YtmbgglmnbllpjaaDrawM
import Derived.Test.YtmbgglmnbllpjaaSameS
import Derived.Test.YtmbgglmnbllpjaaLawDVal
namespace Go.Proofs.Ytmbgglmnbllpjaa
open Go.RowKit

/-- What follows when the values agree in what is fetched. -/
theorem tSame_yes {t : T} {x y : List Int} (h : tSame t x y = true) :
    (t.ok && vok x) = true ∧ (t.ok && vok y) = true ∧ tvV t y = tvV t x ∧ fks t y = fks t x ∧ fc (vf y) (fks t x) = fc (vf x) (fks t x) := by
  unfold tSame at h
  simp only [Bool.and_eq_true] at h
  obtain ⟨⟨ht, hx⟩, hy, ha⟩ := h
  have h1 : (t.ok && vok x) = true := by rw [ht, hx]; rfl
  have h2 : (t.ok && vok y) = true := by rw [ht, hy]; rfl
  have hfn : t.fit = true ∧ t.nodes ≤ 15 := by simpa [T.ok] using ht
  have hk : ∀ k ∈ t.kys (vf x), vf y k = vf x k := by
    intro k hk
    unfold agree at ha
    rw [List.all_eq_true] at ha
    simpa using ha k hk
  have hv := val_agree (vf x) (vf y) t hfn.1 hk
  have hf : fks t x = t.kys (vf x) := by unfold fks; rw [if_pos h1]
  have hg : fks t y = t.kys (vf y) := by unfold fks; rw [if_pos h2]
  refine ⟨h1, h2, ?_, by rw [hf, hg]; exact hv.2, ?_⟩
  · unfold tvV; rw [if_pos h1, if_pos h2]; exact hv.1
  · rw [hf]
    have : ∀ l : List Int, (∀ k ∈ l, vf y k = vf x k) → fc (vf y) l = fc (vf x) l := by
      intro l
      induction l with
      | nil => intro _; rfl
      | cons k r ih => intro h; simp only [fc]; rw [h k (by simp), ih (fun k hk => h k (by simp [hk]))]
    exact this _ hk

set_option maxRecDepth 100000 in
set_option maxHeartbeats 2000000 in
theorem walk_taskSame (w : World) (a : Option Addr) (n c : Nat) (h : CodeAt w a n c) :
    Calls Try.prog 7 #[.slice a n c] w fun e w' => e = .returned (.bool true) ∧ Below w.heap.size w w' := by
  have hn := h.1
  have hc := h.2.1
  have HC := Lib.hid h
  clear h
  by_cases hl : 1048576 < n
  · go_enter Try.func7, Try.ntmps7
    go_wp2_with fail
    go_ret
    exact ⟨rfl, Below.refl _ _⟩
  go_enter Try.func7, Try.ntmps7
  go_wp2_with fail
  refine (drawTaskSame_any _ a n c HC.out).mono ?_
  rintro e w1 ⟨t, a1, c1, x, y, v, vy, rfl, hat, ok1, ok2, hm, hnr, hll, hlb, hny, hyl, hyb, hb⟩
  obtain ⟨av, cv, rfl, hia⟩ := hnr.at (by intro x hx; have := hlb x hx; unfold i64ok; omega)
  obtain ⟨ay, cy, rfl, hiy⟩ := hny.at (by intro x hx; have := hyb x hx; unfold i64ok; omega)
  have hsz1 := hb.size
  have HT1 := Lib.hid (hat.alloc (.cells #[.int .i64 t.k, .int .i64 t.n, .slice a1 t.ps.length c1] 25))
  have HI1 := Lib.hid (hia.alloc (.cells #[.int .i64 t.k, .int .i64 t.n, .slice a1 t.ps.length c1] 25))
  have HJ1 := Lib.hid (hiy.alloc (.cells #[.int .i64 t.k, .int .i64 t.n, .slice a1 t.ps.length c1] 25))
  have HB1 := Lib.hid (Blk.new w1 25 #[.int .i64 t.k, .int .i64 t.n, .slice a1 t.ps.length c1])
  have HX1 := Lib.hid (hb.alloc hsz1 (.cells #[.int .i64 t.k, .int .i64 t.n, .slice a1 t.ps.length c1] 25))
  have hnl : nodesL t.ps ≤ 1048576 := by have := t.nodes_eq; omega
  obtain ⟨s, hs⟩ : ∃ s, s = tSame t x y := ⟨_, rfl⟩
  have HS := Lib.hid hs
  clear hat hb HC ok1 ok2 hnr hny hia hiy hlb hyb hs
  go_wp2_with fail
  refine (implSame_any t x y _ _ _ _ a1 av ay c1 cv cy HT1.out HI1.out HJ1.out).mono ?_
  rintro e w2 ⟨rfl, hb⟩
  rw [← HS.out]
  have hsz2 := hb.size
  simp only [World.size_alloc] at hsz2
  have HT2 := Lib.hid (HT1.out.below hb)
  have HI2 := Lib.hid (HI1.out.below hb)
  have HJ2 := Lib.hid (HJ1.out.below hb)
  have HB2 := Lib.hid (HB1.out.below hb (by simp))
  have HX2 := Lib.hid (HX1.out.trans (hb.mono (by simp; omega)))
  clear hb HT1 HI1 HJ1 HB1 HX1
  obtain ⟨x0, x1, x2, f0, f1, f2⟩ := HB2.out.three
  go_wp2_with fail
  refine (specSame_any t x y _ _ _ _ a1 av ay c1 cv cy HT2.out hnl HI2.out HJ2.out).mono ?_
  rintro e w3 ⟨rfl, hb⟩
  rw [← HS.out]
  have hsz3 := hb.size
  have HT3 := Lib.hid (HT2.out.below hb)
  have HI3 := Lib.hid (HI2.out.below hb)
  have HJ3 := Lib.hid (HJ2.out.below hb)
  have HB3 := Lib.hid (HB2.out.below hb (by omega))
  have HX3 := Lib.hid (HX2.out.trans (hb.mono (by omega)))
  clear hb HT2 HI2 HJ2 HB2 HX2 x0 x1 x2 f0 f1 f2
  obtain ⟨x0, x1, x2, f0, f1, f2⟩ := HB3.out.three
  have hnb : (s != s) = false := by simp
  go_wp2_with fail
  clear hnb
  obtain ⟨b1, hb1⟩ : ∃ b, b = (t.ok && vok x) := ⟨_, rfl⟩
  obtain ⟨b2, hb2⟩ : ∃ b, b = (t.ok && vok y) := ⟨_, rfl⟩
  obtain ⟨u1, hu1⟩ : ∃ u, u = tvV t x := ⟨_, rfl⟩
  obtain ⟨u2, hu2⟩ : ∃ u, u = tvV t y := ⟨_, rfl⟩
  have HN := Lib.hid (And.intro hb1 (And.intro hb2 (And.intro hu1 hu2)))
  clear hb1 hb2 hu1 hu2
  refine (implValue_any t x _ _ _ a1 av c1 cv HT3.out HI3.out).mono ?_
  rintro e w4 ⟨rfl, hb⟩
  rw [← HN.out.1, ← HN.out.2.2.1]
  have hsz4 := hb.size
  have HT4 := Lib.hid (HT3.out.below hb)
  have HI4 := Lib.hid (HI3.out.below hb)
  have HJ4 := Lib.hid (HJ3.out.below hb)
  have HB4 := Lib.hid (HB3.out.below hb (by omega))
  have HX4 := Lib.hid (HX3.out.trans (hb.mono (by omega)))
  clear hb HT3 HI3 HJ3 HB3 HX3 x0 x1 x2 f0 f1 f2
  obtain ⟨x0, x1, x2, f0, f1, f2⟩ := HB4.out.three
  go_wp2_with fail
  refine (implValue_any t y _ _ _ a1 ay c1 cy HT4.out HJ4.out).mono ?_
  rintro e w5 ⟨rfl, hb⟩
  rw [← HN.out.2.1, ← HN.out.2.2.2]
  have hsz5 := hb.size
  have HT5 := Lib.hid (HT4.out.below hb)
  have HI5 := Lib.hid (HI4.out.below hb)
  have HJ5 := Lib.hid (HJ4.out.below hb)
  have HB5 := Lib.hid (HB4.out.below hb (by omega))
  have HX5 := Lib.hid (HX4.out.trans (hb.mono (by omega)))
  clear hb HT4 HI4 HJ4 HB4 HX4 x0 x1 x2 f0 f1 f2
  obtain ⟨x0, x1, x2, f0, f1, f2⟩ := HB5.out.three
  go_wp2_with fail
  refine (implFetches_any t x _ _ _ a1 av c1 cv HT5.out HI5.out).mono ?_
  rintro e w6 hp
  obtain ⟨hb, vo, rfl, hrow⟩ := hp.split
  rw [← HN.out.1]
  obtain ⟨K, hK⟩ : ∃ K, K = fks t x := ⟨_, rfl⟩
  rw [← hK] at hrow
  have HK := Lib.hid hK
  obtain ⟨ao, co, rfl, hfe⟩ := hrow.at
  have hsz6 := hb.size
  have HT6 := Lib.hid (HT5.out.below hb)
  have HJ6 := Lib.hid (HJ5.out.below hb)
  have HB6 := Lib.hid (HB5.out.below hb (by omega))
  have HX6 := Lib.hid (HX5.out.trans (hb.mono (by omega)))
  have HF6 := Lib.hid hfe
  clear hp hb hrow hfe hK HT5 HI5 HJ5 HB5 HX5 x0 x1 x2 f0 f1 f2
  obtain ⟨x0, x1, x2, f0, f1, f2⟩ := HB6.out.three
  go_wp2_with fail
  refine (implFetches_any t y _ _ _ a1 ay c1 cy HT6.out HJ6.out).mono ?_
  rintro e w7 hp
  obtain ⟨hb, vo, rfl, hrow⟩ := hp.split
  rw [← HN.out.2.1]
  obtain ⟨ap, cp, hvo, _⟩ := hrow.at
  have hsz7 := hb.size
  have HX7 := Lib.hid (HX6.out.trans (hb.mono (by omega)))
  have HF7 := Lib.hid (HF6.out.below hb)
  have HRW := Lib.hid hrow
  have HVO := Lib.hid hvo
  clear hp hb hrow hvo HT6 HJ6 HB6 HX6 HF6 x0 x1 x2 f0 f1 f2
  cases s
  · go_wp2_with fail
    go_ret
    exact ⟨rfl, HX7.out⟩
  · obtain ⟨h1, h2, h3, h4, h5⟩ := tSame_yes HS.out.symm
    obtain rfl : u2 = u1 := by rw [HN.out.2.2.2, HN.out.2.2.1, h3]
    obtain rfl : b2 = true := by rw [HN.out.2.1, h2]
    have hrow : FeRow (vf x) w7 w6.heap.size vo K := by
      have h := HRW.out
      unfold FeRow at h ⊢
      rw [h4, h5, ← HK.out] at h
      exact h
    obtain ⟨ap, cp, rfl, hfe⟩ := hrow.at
    have HF := Lib.hid hfe
    have huu : (u2 == u2) = true := by simp
    clear h1 h2 h3 h4 h5 hrow hfe HRW HVO
    go_wp2_with fail
    refine (brFet_any (vf x) _ _ _ K ao ap co cp HF7.out HF.out).mono ?_
    rintro e w8 ⟨rfl, hb⟩
    have HX8 := Lib.hid (HX7.out.trans (hb.mono (by omega)))
    clear hb
    go_wp2_with fail
    go_ret
    exact ⟨rfl, HX8.out⟩
end Go.Proofs.Ytmbgglmnbllpjaa
