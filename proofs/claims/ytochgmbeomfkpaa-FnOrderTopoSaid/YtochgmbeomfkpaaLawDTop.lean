/- the walk of laws.FnOrderTopo -/
import Derived.Test.YtochgmbeomfkpaaDrawTop
import Derived.Test.YtochgmbeomfkpaaTp1
import Derived.Test.YtochgmbeomfkpaaLawDSafe
import Derived.Test.YtochgmbeomfkpaaBs2
import Derived.BigQuiet
import Derived.StillTailTactics
import Derived.Deep.RegionHeld3
namespace Go.Proofs.Ytochgmbeomfkpaa
open Go.RowKit

theorem rep_in (m : Nat) (x : Int) (h : 0 ≤ x ∧ x ≤ 96) : ∀ y ∈ List.replicate m x, i64ok y := fun y hy => by
  rw [List.eq_of_mem_replicate hy]; unfold i64ok; omega
theorem fits_rep {s : Sh} {m : Nat} (hm : m = s.m.length) (x : Int) (R : List Int) (W : World) (S S' S'' : Nat → Prop) (av : Option Addr) (cv : Nat) (a' : Option Addr) (c' : Nat) (g : Nat) (ao : Option Addr) (co : Nat) (h : ShAt W S s av cv a' c') (hi : IntsAt W S' (List.replicate m x) (some ⟨g, 0, none⟩) m) (ho : IntsAt W S'' R ao co) (hf : ofB s (List.replicate m x) R = true) :
    Calls Try.prog 18 #[.agg #[.slice av m cv, .slice a' s.t.length c'], .slice (some ⟨g, 0, none⟩) m m, .slice ao R.length co] W fun e w' => e = .returned (.bool true) ∧ Below W.heap.size W w' := by
  have := implFits_any s (List.replicate m x) R W S S' S'' av cv a' c' (some ⟨g, 0, none⟩) m ao co h hi ho
  rw [List.length_replicate, ← hm, hf] at this
  exact this

set_option maxRecDepth 100000 in
set_option maxHeartbeats 4000000 in
theorem walk_orderTopo (w : World) (a : Option Addr) (n c : Nat) (h : CodeAt w a n c) :
    Calls Try.prog 4 #[.slice a n c] w fun e w' => e = .returned (.bool true) ∧ Below w.heap.size w w' := by
  have hn := h.1
  have hc := h.2.1
  have HC := Lib.hid h
  clear h
  by_cases hl : 1048576 < n
  · go_enter Try.func4, Try.ntmps4
    go_wp2_with fail
    go_ret
    exact ⟨rfl, Below.refl _ _⟩
  go_enter Try.func4, Try.ntmps4
  go_wp2_with fail
  refine (drawTopo_any _ a n c HC.out).mono ?_
  rintro e w1 ⟨s, av, cv, a', c', ks, ak, ck, rfl, hat, hik, htl, hml, hnl, hkl, hb⟩
  have hsz1 := hb.size
  have HT1 := Lib.hid (hat.lim.alloc (.cells #[.slice av s.m.length cv, .slice a' s.t.length c'] 32))
  have HQ1 := Lib.hid (hik.alloc (.cells #[.slice av s.m.length cv, .slice a' s.t.length c'] 32))
  have HB1 := Lib.hid (Blk.new w1 32 #[.slice av s.m.length cv, .slice a' s.t.length c'])
  have HX1 := Lib.hid (hb.alloc hsz1 (.cells #[.slice av s.m.length cv, .slice a' s.t.length c'] 32))
  obtain ⟨R, hR⟩ : ∃ R, R = tpL s ks := ⟨_, rfl⟩
  obtain ⟨z, hz⟩ : ∃ z, z = tpB s ks := ⟨_, rfl⟩
  have hRb := tpL_bd s ks
  rw [← hR] at hRb
  have HUR := Lib.hid (show ∀ w e w', OrP (tpB s ks) (tpL s ks) w e w' → Below w.heap.size w w' ∧ ∃ (a : Option Addr) (c : Nat), e = .returned (.tuple #[.slice a R.length c, .bool z]) ∧ IntsAt w' (fun b => w.heap.size ≤ b) R a c from by
    rintro w e w' ⟨hb, v, rfl, hr⟩
    rw [← hR] at hr
    obtain ⟨a, c, rfl, hi⟩ := hr.at (fun x hx => by have := hRb.1 x hx; unfold i64ok; omega)
    exact ⟨hb, a, c, by rw [hz], hi⟩)
  have hRl : R.length ≤ 160 := hRb.2
  obtain ⟨m, hm⟩ : ∃ m, m = s.m.length := ⟨_, rfl⟩
  have HM := Lib.hid hm
  have hm8 : m ≤ 8 := by omega
  have HFT := Lib.hid (show ∀ x : Int, 0 ≤ x ∧ x ≤ 96 → z = true → ofB s (List.replicate m x) R = true from fun x hx h => by
    rw [hR]
    exact tp_fits (by rw [← hz]; exact h) (by rw [List.length_replicate]; exact hm) (vok_rep m x (by omega) hx.1 hx.2))
  clear hat hik hb HC htl hR hz hRb hm
  go_wp2_with fail
  refine (implTopo_any s ks _ _ _ av cv a' c' ak ck HT1.out HQ1.out).mono ?_
  intro e w2 hp
  obtain ⟨hb, a2, c2, rfl, hi2⟩ := HUR.out _ _ _ hp
  have hsz2 := hb.size
  simp only [World.size_alloc] at hsz2
  have HT2 := Lib.hid (HT1.out.below hb)
  have HQ2 := Lib.hid (HQ1.out.below hb)
  have HB2 := Lib.hid (HB1.out.below hb (by simp))
  have HX2 := Lib.hid (HX1.out.trans (hb.mono (by simp; omega)))
  have HL2 := Lib.hid (hi2.lim)
  clear hb hp hi2 HT1 HQ1 HB1 HX1
  obtain ⟨x0, x1, f0, f1⟩ := HB2.out.two
  go_wp2_with fail
  refine (specTopo_any s ks _ _ _ av cv a' c' ak ck HT2.out (by omega) HQ2.out (by omega)).mono ?_
  intro e w3 hp
  obtain ⟨hb, a3, c3, rfl, hi3⟩ := HUR.out _ _ _ hp
  have hsz3 := hb.size
  have HT3 := Lib.hid (HT2.out.below hb)
  have HB3 := Lib.hid (HB2.out.below hb (by omega))
  have HX3 := Lib.hid (HX2.out.trans (hb.mono (by omega)))
  have HL3 := Lib.hid (HL2.out.below hb)
  have HM3 := Lib.hid hi3
  clear hb hp hi3 HT2 HQ2 HB2 HX2 HL2 HUR x0 x1 f0 f1
  have hnb : (z != z) = false := by simp
  go_wp2_with fail
  refine (brInts_any _ _ _ R a2 a3 c2 c3 HL3.out HM3.out).mono ?_
  rintro e w4 ⟨rfl, hb⟩
  have hsz4 := hb.size
  have HT4 := Lib.hid (HT3.out.below hb)
  have hb4 := HB3.out.below hb (by omega)
  have HB4 := Lib.hid hb4
  have HX4 := Lib.hid (HX3.out.trans (hb.mono (by omega)))
  have HL4 := Lib.hid (HL3.out.below hb)
  clear hb HT3 HB3 HX3 HL3 HM3
  obtain ⟨i0, hi, hz0, hz1, hz2⟩ := info_parts infoInt
  have hmk := fun W => run_make_rowN (P := Try.prog) 26 3 i0 _ Try.underlying26 hi hz0 .i64 .i64 m m (Nat.le_refl _) (by rw [hz2]; omega) (by omega) W
  rw [hz1] at hmk
  have HMK := Lib.hid hmk
  clear hi hz0 hz1 hz2
  obtain ⟨x0, x1, f0, f1⟩ := hb4.two
  rw [← HM.out] at x0
  clear hb4
  go_wp2_with fail
  clear hnb hmk x0 x1 f0 f1
  have H5 := Lib.hid (irow_made w4 m)
  have HT5 := Lib.hid (HT4.out.alloc (.cells (madeCells #[.int .i64 0] m) 3))
  have HB5 := Lib.hid (HB4.out.alloc (.cells (madeCells #[.int .i64 0] m) 3))
  have HX5 := Lib.hid (HX4.out.alloc (by omega) (.cells (madeCells #[.int .i64 0] m) 3))
  have HL5 := Lib.hid (HL4.out.lim.alloc (.cells (madeCells #[.int .i64 0] m) 3))
  go_loopw [11] (fun i wr => ∃ k : Nat, k ≤ m ∧ i = .int .i64 k ∧ IRow wr w4.heap.size m (List.replicate k 2) ∧ Fr (fun b => b = w4.heap.size) (w4.alloc (.cells (madeCells #[.int .i64 0] m) 3)) wr) (fun i _ => m - (intOf i).toNat)
  case atStart => exact ⟨0, by omega, rfl, (by obtain ⟨cs, h1, h2, h3⟩ := H5.out; exact ⟨cs, h1, h2, by simp⟩), Fr.of_below (Below.refl _ _)⟩
  case round =>
    obtain ⟨k, hk, rfl, hir, hfr⟩ := hrel
    have HI := Lib.hid hir
    have HFR := Lib.hid hfr
    have hszr := hfr.size
    simp only [World.size_alloc] at hszr
    by_cases hlt : k < m
    · have hset := hir.set_snoc (by simpa using hlt) 2
      rw [List.length_replicate, ← List.replicate_succ'] at hset
      have HSET := Lib.hid hset
      have HF2 := Lib.hid (hfr.set' ⟨w4.heap.size, k, none⟩ rfl (.int .i64 2))
      obtain ⟨y0, f0⟩ : (∃ u, wr.cell? ⟨w4.heap.size, k, none⟩ = some u) ∧ wr.frozen? ⟨w4.heap.size, k, none⟩ = false := by
        obtain ⟨cs, h1, h2, _⟩ := hir
        exact ⟨⟨cs[k]'(by omega), by rw [Blk.cell (w := wr) h1]; exact Array.getElem?_eq_getElem _⟩, Blk.frozen (w := wr) h1 k⟩
      obtain ⟨u, y0⟩ := y0
      clear hir hfr hset
      go_wp2_with fail
      go_roundw
      case rel => exact ⟨k + 1, by omega, by go_num, HSET.out, HF2.out⟩
      case measure => simp [intOf]; omega
    · obtain rfl : m = k := by omega
      have hd : ∀ b, b = w4.heap.size → w.heap.size ≤ b := fun b h => by omega
      have HXR := Lib.hid (below_fr HX5.out hfr hd)
      have hbr := HB5.out.fr' hfr (by omega)
      have HBR := Lib.hid hbr
      have HTR := Lib.hid (HT5.out.keep (fun _ h => h) (fun b hb hl => hfr.2.2.2.2 b hl (by have := hb.2; omega)))
      have HLR := Lib.hid (HL5.out.fr hfr (fun b hb e => by omega))
      have HIR := Lib.hid (irow_ints hir (by simp) (by omega) (rep_in m 2 (by omega)))
      clear hir hfr hd
      cases hz : z
      · obtain ⟨x0, x1, f0, f1⟩ := hbr.two
        rw [← HM.out] at x0
        clear hbr
        subst hz
        go_wp2_with fail
        go_quiet (fail)
        revert nq
        intro n1
        go_wp2_with fail
        go_ret
        exact ⟨rfl, below_drewN HXR.out _⟩
      · have HF0 := Lib.hid (HFT.out 0 (by omega) hz)
        have HF2 := Lib.hid (HFT.out 2 (by omega) hz)
        have hz0 : IntsAt (wr.alloc (.cells (madeCells #[.int .i64 0] m) 3)).drew (fun b => b = wr.heap.size) (List.replicate m 0) (some ⟨wr.heap.size, 0, none⟩) m := (irow_ints (irow_made wr m) (by simp) (by omega) (rep_in m 0 (by omega))).below (Below.refl _ _).drew
        have hbA : Below wr.heap.size wr (wr.alloc (.cells (madeCells #[.int .i64 0] m) 3)).drew := ((Below.refl wr.heap.size wr).alloc (Nat.le_refl _) _).drew
        have HC := Lib.hid (fun (W : World) (g : Nat) (hb : Below wr.heap.size wr W) (hi : ∃ x : Int, ofB s (List.replicate m x) R = true ∧ ∃ S : Nat → Prop, IntsAt W S (List.replicate m x) (some ⟨g, 0, none⟩) m) => (show Calls Try.prog 18 #[.agg #[.slice av m cv, .slice a' s.t.length c'], .slice (some ⟨g, 0, none⟩) m m, .slice a2 R.length c2] W fun e w' => e = .returned (.bool true) ∧ Below W.heap.size W w' from by
          obtain ⟨x, hf, S, hi⟩ := hi
          exact fits_rep HM.out x R W _ _ _ av cv a' c' g a2 c2 (HTR.out.below hb) hi (HLR.out.below hb) hf))
        have HI0 := Lib.hid (show ∃ x : Int, ofB s (List.replicate m x) R = true ∧ ∃ S : Nat → Prop, IntsAt (wr.alloc (.cells (madeCells #[.int .i64 0] m) 3)).drew S (List.replicate m x) (some ⟨wr.heap.size, 0, none⟩) m from ⟨0, HF0.out, _, hz0⟩)
        have HI2 := Lib.hid (fun (W : World) (hb : Below wr.heap.size wr W) => (show ∃ x : Int, ofB s (List.replicate m x) R = true ∧ ∃ S : Nat → Prop, IntsAt W S (List.replicate m x) (some ⟨w4.heap.size, 0, none⟩) m from ⟨2, HF2.out, _, HIR.out.below hb⟩))
        have HBc := Lib.hid hbA
        have HBX := Lib.hid (fun (w6 : World) (hb : Below wr.heap.size wr w6) => (show w6.cell? ⟨w1.heap.size, 0, none⟩ = some (.slice av m cv) ∧ w6.cell? ⟨w1.heap.size, 1, none⟩ = some (.slice a' s.t.length c') by
          obtain ⟨y0, y1, _, _⟩ := (HBR.out.below hb HBR.out.lt).two
          rw [← HM.out] at y0
          exact ⟨y0, y1⟩))
        subst hz
        clear hz0 hbA hbr
        obtain ⟨x0, x1⟩ := HBX.out wr (Below.refl _ _)
        obtain ⟨p0, p1⟩ := HBX.out (wr.alloc (.cells (madeCells #[.int .i64 0] m) 3)) ((Below.refl wr.heap.size wr).alloc (Nat.le_refl _) _)
        have q1 : w1.heap.size < wr.heap.size := by omega
        have q2 : w1.heap.size ≠ wr.heap.size := by omega
        have q3 : wr.heap.size ≠ w1.heap.size := by omega
        have hmk := HMK.out
        go_wp2_with fail
        go_region_with (go_at_call 18; refine (HC.out _ _ HBc.out (by first | exact HI2.out _ HBc.out | exact HI0.out)).mono ?_; rintro e w5 ⟨rfl, hb5⟩; replace HBc := Lib.hid (HBc.out.trans (hb5.mono HBc.out.size)); clear hb5; obtain ⟨u0, u1⟩ := HBX.out w5 HBc.out)
        all_goals
          have HX6 := Lib.hid (HXR.out.trans (HBc.out.mono (by omega)))
          go_wp2_with fail
          go_ret
          exact ⟨rfl, HX6.out⟩
end Go.Proofs.Ytochgmbeomfkpaa
