/- the walk of laws.FnSheetSafe -/
import Derived.Test.YtmbgglmnbllpjaaDrawSh
import Derived.Test.YtmbgglmnbllpjaaSafeI
import Derived.Test.YtmbgglmnbllpjaaSafeA
import Derived.Test.YtmbgglmnbllpjaaAllI
import Derived.Test.YtmbgglmnbllpjaaBnds
import Derived.Deep.RegionWith
import Derived.Laws.OwnMore
namespace Go.Proofs.Ytmbgglmnbllpjaa
open Go.RowKit

theorem vok_rep (n : Nat) (x : Int) (hn : n ≤ 10) (h0 : 0 ≤ x) (h1 : x ≤ 96) : vok (List.replicate n x) = true := by
  unfold vok
  simp only [List.length_replicate, Bool.and_eq_true, decide_eq_true_eq, List.all_eq_true]
  refine ⟨hn, fun v hv => ?_⟩
  rw [List.eq_of_mem_replicate hv]
  simp [vin]; omega

theorem irow_ints {w : World} {g n : Nat} {l : List Int} (h : IRow w g n l) (hl : l.length = n) (hn : n ≤ 9223372036854775807) (hok : ∀ x ∈ l, i64ok x) : IntsAt w (fun b => b = g) l (some ⟨g, 0, none⟩) n := by
  obtain ⟨cs, h1, h2, h3⟩ := h
  refine ⟨by omega, hn, hok, .inr ⟨g, 0, rfl, rfl, fun i hi => ?_⟩⟩
  rw [Nat.zero_add]
  exact (Blk.cell h1 i).trans (h3 i hi)
theorem ba_any {s : Sh} {l : List Int} {z : Bool} (hz : z = baB s l) {W W' : World} {e : Ending} (h : BaPost s l W e W') : Below W.heap.size W W' ∧ ∃ (a : Option Addr) (n c : Nat), e = .returned (.tuple #[.slice a n c, .bool z]) := by
  obtain ⟨hb, v, rfl, hr⟩ := h
  obtain ⟨a, c, rfl, _⟩ := hr.at (fun x hx => by have := (baL_bd s l).1 x hx; unfold i64ok; omega)
  exact ⟨hb, a, _, c, by rw [hz]⟩
theorem all_rep {s : Sh} {m : Nat} (hm : m = s.m.length) (x : Int) (W : World) (S S' : Nat → Prop) (av : Option Addr) (cv : Nat) (a' : Option Addr) (c' : Nat) (g : Nat) (h : ShAt W S s av cv a' c') (hi : IntsAt W S' (List.replicate m x) (some ⟨g, 0, none⟩) m) :
    Calls Try.prog 37 #[.agg #[.slice av m cv, .slice a' s.t.length c'], .slice (some ⟨g, 0, none⟩) m m] W (BaPost s (List.replicate m x) W) := by
  have := implAll_any s (List.replicate m x) W S S' av cv a' c' (some ⟨g, 0, none⟩) m h hi
  rw [List.length_replicate, ← hm] at this
  exact this
theorem below_fr {w w4 wr : World} {D : Nat → Prop} (h : Below w.heap.size w w4) (hf : Fr D w4 wr) (hD : ∀ b, D b → w.heap.size ≤ b) : Below w.heap.size w wr :=
  ⟨hf.1.trans h.os, hf.2.1.trans h.tape, hf.2.2.1.trans h.output, Nat.le_trans h.size hf.size, fun b hb => (hf.2.2.2.2 b (Nat.lt_of_lt_of_le hb h.size) (fun hd => by have := hD b hd; omega)).trans (h.block b hb)⟩
theorem rep_ok (m : Nat) (x : Int) (h : x = 0 ∨ x = 1) : ∀ y ∈ List.replicate m x, i64ok y := fun y hy => by
  rw [List.eq_of_mem_replicate hy]; unfold i64ok; omega
theorem irow_made (w : World) (n : Nat) : IRow (w.alloc (.cells (madeCells #[.int .i64 0] n) 3)) w.heap.size n (List.replicate n 0) := by
  refine ⟨_, heap_alloc_new w _, by rw [size_madeCells], fun i hi => ?_⟩
  have hi' : i < n := by simpa using hi
  have : (madeCells #[Value.int .i64 0] n).toList[i]? = some (.int .i64 0) := by rw [toList_madeCells_one]; simp [hi']
  simpa using this

set_option maxRecDepth 100000 in
set_option maxHeartbeats 4000000 in
theorem walk_sheetSafe (w : World) (a : Option Addr) (n c : Nat) (h : CodeAt w a n c) :
    Calls Try.prog 11 #[.slice a n c] w fun e w' => e = .returned (.bool true) ∧ Below w.heap.size w w' := by
  have hn := h.1
  have hc := h.2.1
  have HC := Lib.hid h
  clear h
  by_cases hl : 1048576 < n
  · go_enter Try.func11, Try.ntmps11
    go_wp2_with fail
    go_ret
    exact ⟨rfl, Below.refl _ _⟩
  go_enter Try.func11, Try.ntmps11
  go_wp2_with fail
  refine (drawSheetSafe_any _ a n c HC.out).mono ?_
  rintro e w1 ⟨s, v, a', c', rfl, hsh, htl, hml, hnl, hb⟩
  obtain ⟨av, cv, rfl, hat⟩ := hsh.at
  have hsz1 := hb.size
  have HT1 := Lib.hid (hat.alloc (.cells #[.slice av s.m.length cv, .slice a' s.t.length c'] 50))
  have HB1 := Lib.hid (Blk.new w1 50 #[.slice av s.m.length cv, .slice a' s.t.length c'])
  have HX1 := Lib.hid (hb.alloc hsz1 (.cells #[.slice av s.m.length cv, .slice a' s.t.length c'] 50))
  obtain ⟨x, hx⟩ : ∃ x, x = safeB s := ⟨_, rfl⟩
  have HXX := Lib.hid hx
  obtain ⟨m, hm⟩ : ∃ m, m = s.m.length := ⟨_, rfl⟩
  have HM := Lib.hid hm
  have hm8 : m ≤ 8 := by omega
  clear hsh hat hb HC hx htl hm
  go_wp2_with fail
  refine (implSafe_any s _ _ av cv a' c' HT1.out).mono ?_
  rintro e w2 ⟨rfl, hb⟩
  rw [← HXX.out]
  have hsz2 := hb.size
  simp only [World.size_alloc] at hsz2
  have HT2 := Lib.hid (HT1.out.below hb)
  have HB2 := Lib.hid (HB1.out.below hb (by simp))
  have HX2 := Lib.hid (HX1.out.trans (hb.mono (by simp; omega)))
  clear hb HT1 HB1 HX1
  obtain ⟨x0, x1, f0, f1⟩ := HB2.out.two
  go_wp2_with fail
  refine (specSafe_any s _ _ av cv a' c' HT2.out (by omega)).mono ?_
  rintro e w3 ⟨rfl, hb⟩
  rw [← HXX.out]
  have hsz3 := hb.size
  have HT3 := Lib.hid (HT2.out.below hb)
  have hb3 := HB2.out.below hb (by omega)
  have HB3 := Lib.hid hb3
  have HX3 := Lib.hid (HX2.out.trans (hb.mono (by omega)))
  clear hb HT2 HB2 HX2 x0 x1 f0 f1
  have hne : (x != x) = false := by simp
  obtain ⟨i0, hi, hz0, hz1, hz2⟩ := info_parts infoInt
  have hmk := fun W => run_make_rowN (P := Try.prog) 28 3 i0 _ Try.underlying28 hi hz0 .i64 .i64 m m (Nat.le_refl _) (by rw [hz2]; omega) (by omega) W
  rw [hz1] at hmk
  have HMK := Lib.hid hmk
  obtain ⟨x0, x1, f0, f1⟩ := hb3.two
  rw [← HM.out] at x0
  clear hb3
  go_wp2_with fail
  clear hne hmk x0 x1 f0 f1
  have H4 := Lib.hid (irow_made w3 m)
  have HT4 := Lib.hid (HT3.out.alloc (.cells (madeCells #[.int .i64 0] m) 3))
  have HB4 := Lib.hid (HB3.out.alloc (.cells (madeCells #[.int .i64 0] m) 3))
  have HX4 := Lib.hid (HX3.out.alloc (by omega) (.cells (madeCells #[.int .i64 0] m) 3))
  go_loopw [8] (fun i wr => ∃ k : Nat, k ≤ m ∧ i = .int .i64 k ∧ IRow wr w3.heap.size m (List.replicate k 1) ∧ Fr (fun b => b = w3.heap.size) (w3.alloc (.cells (madeCells #[.int .i64 0] m) 3)) wr) (fun i _ => m - (intOf i).toNat)
  case atStart => exact ⟨0, by omega, rfl, (by obtain ⟨cs, h1, h2, h3⟩ := H4.out; exact ⟨cs, h1, h2, by simp⟩), Fr.of_below (Below.refl _ _)⟩
  case round =>
    obtain ⟨k, hk, rfl, hir, hfr⟩ := hrel
    have HI := Lib.hid hir
    have HFR := Lib.hid hfr
    have hszr := hfr.size
    simp only [World.size_alloc] at hszr
    by_cases hlt : k < m
    · have hset := hir.set_snoc (by simpa using hlt) 1
      rw [List.length_replicate, ← List.replicate_succ'] at hset
      have HSET := Lib.hid hset
      have HF2 := Lib.hid (hfr.set' ⟨w3.heap.size, k, none⟩ rfl (.int .i64 1))
      obtain ⟨y0, f0⟩ : (∃ u, wr.cell? ⟨w3.heap.size, k, none⟩ = some u) ∧ wr.frozen? ⟨w3.heap.size, k, none⟩ = false := by
        obtain ⟨cs, h1, h2, _⟩ := hir
        exact ⟨⟨cs[k]'(by omega), by rw [Blk.cell (w := wr) h1]; exact Array.getElem?_eq_getElem _⟩, Blk.frozen (w := wr) h1 k⟩
      obtain ⟨u, y0⟩ := y0
      clear hir hfr hset
      go_wp2_with fail
      go_roundw
      case rel => exact ⟨k + 1, by omega, by go_num, HSET.out, HF2.out⟩
      case measure => simp [intOf]; omega
    · obtain rfl : m = k := by omega
      have hd : ∀ b, b = w3.heap.size → w.heap.size ≤ b := fun b h => by omega
      have HXR := Lib.hid (below_fr HX4.out hfr hd)
      have hbr := HB4.out.fr' hfr (by omega)
      have HBR := Lib.hid hbr
      have HTR := Lib.hid (HT4.out.keep (fun _ h => h) (fun b hb hl => hfr.2.2.2.2 b hl (by omega)))
      have HIR := Lib.hid (irow_ints hir (by simp) (by omega) (rep_ok m 1 (.inr rfl)))
      obtain ⟨z, hz⟩ : ∃ z, z = baB s (List.replicate m 0) := ⟨_, rfl⟩
      obtain ⟨o, ho⟩ : ∃ z, z = baB s (List.replicate m 1) := ⟨_, rfl⟩
      have HZ := Lib.hid hz
      have HO := Lib.hid ho
      have hzo : x = true → z = true ∧ o = true := fun h => ⟨by rw [hz]; exact safe_all (by rw [← HXX.out]; exact h) (by rw [List.length_replicate]; exact HM.out) (vok_rep m 0 (by omega) (by omega) (by omega)),
        by rw [ho]; exact safe_all (by rw [← HXX.out]; exact h) (by rw [List.length_replicate]; exact HM.out) (vok_rep m 1 (by omega) (by omega) (by omega))⟩
      have HZO := Lib.hid hzo
      clear hir hfr hz ho hzo hd
      obtain ⟨x0, x1, f0, f1⟩ := hbr.two
      rw [← HM.out] at x0
      clear hbr
      have hz0 : IntsAt (wr.alloc (.cells (madeCells #[.int .i64 0] m) 3)) (fun b => b = wr.heap.size) (List.replicate m 0) (some ⟨wr.heap.size, 0, none⟩) m := irow_ints (irow_made wr m) (by simp) (by omega) (rep_ok m 0 (.inl rfl))
      have hz1 : IntsAt (wr.alloc (.cells (madeCells #[.int .i64 0] m) 3)).drew (fun b => b = wr.heap.size) (List.replicate m 0) (some ⟨wr.heap.size, 0, none⟩) m := hz0.below (Below.refl _ _).drew
      have HC14 := Lib.hid (all_rep HM.out 0 _ _ _ av cv a' c' wr.heap.size ((HTR.out.alloc (.cells (madeCells #[.int .i64 0] m) 3)).drew) hz1)
      clear hz0 hz1
      have q1 : w1.heap.size < wr.heap.size := by omega
      have q2 : w1.heap.size ≠ wr.heap.size := by omega
      have q3 : wr.heap.size ≠ w1.heap.size := by omega
      obtain ⟨p0, p1, _, _⟩ := (HBR.out.alloc (.cells (madeCells #[.int .i64 0] m) 3)).two
      rw [← HM.out] at p0
      have hmk := HMK.out
      go_wp2_with fail
      go_region_with (go_at_call 37; refine HC14.out.mono ?_; intro e w5 hp; obtain ⟨hb5, a5, n5, c5, rfl⟩ := ba_any HZ.out hp)
      all_goals
        have hs5 := hb5.size
        simp only [World.size_alloc, World.size_drew] at hs5
        have hbl : Below wr.heap.size wr w5 := ((Below.refl wr.heap.size wr).alloc (Nat.le_refl _) (.cells (madeCells #[.int .i64 0] m) 3)).drew.trans (hb5.mono (by simp))
        have HT5 := Lib.hid (HTR.out.below hbl)
        have HI5 := Lib.hid (HIR.out.below hbl)
        have HX5 := Lib.hid (HXR.out.trans (hbl.mono (by omega)))
        have hbk5 := HBR.out.below hbl HBR.out.lt
        clear x0 x1 f0 f1 p0 p1 hb5 hbl hmk
        obtain ⟨x0, x1, f0, f1⟩ := hbk5.two
        rw [← HM.out] at x0
        clear hbk5
        go_wp2_with fail
        refine (all_rep HM.out 1 _ _ _ av cv a' c' _ HT5.out HI5.out).mono ?_
        intro e w6 hp
        obtain ⟨hb6, a6, n6, c6, rfl⟩ := ba_any HO.out hp
        have HX6 := Lib.hid (HX5.out.trans (hb6.mono (by omega)))
        clear hb6 hp
        cases x
        · go_wp2_with fail
          go_ret
          exact ⟨rfl, HX6.out⟩
        · obtain ⟨rfl, rfl⟩ := HZO.out rfl
          go_wp2_with fail
          go_ret
          exact ⟨rfl, HX6.out⟩
end Go.Proofs.Ytmbgglmnbllpjaa
