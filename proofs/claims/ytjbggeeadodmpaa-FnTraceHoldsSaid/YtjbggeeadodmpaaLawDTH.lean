/- the walk of laws.FnTraceHolds -/
import Derived.Test.YtjbggeeadodmpaaDrawTH
import Derived.Test.YtjbggeeadodmpaaTr2
namespace Go.Proofs.Ytjbggeeadodmpaa
open Go.RowKit

theorem trH_take {r : Tr} {y : List Int} (n : Nat) (h : trH r y = true) : trH ⟨r.k, r.u.take n, r.v⟩ y = true := by
  unfold trH at h ⊢
  rw [Bool.and_eq_true, Bool.and_eq_true] at h ⊢
  obtain ⟨h1, h2, h3⟩ := h
  refine ⟨?_, h2, ?_⟩
  · obtain ⟨a1, a2, a3, a4⟩ := (Tr.ok_iff _).1 h1
    refine (Tr.ok_iff _).2 ⟨a1, a2, fun p hp => a3 p (List.mem_of_mem_take hp), ?_⟩
    have e : keysOf (r.u.take n) = (keysOf r.u).take n := by unfold keysOf; rw [List.map_take]
    show (keysOf (r.u.take n)).Nodup
    rw [e]
    exact List.Nodup.sublist (List.take_sublist _ _) a4
  · unfold Tr.holds at h3 ⊢
    rw [List.all_eq_true] at h3 ⊢
    exact fun p hp => h3 p (List.mem_of_mem_take hp)

set_option maxRecDepth 100000 in
set_option maxHeartbeats 2000000 in
theorem walk_traceHolds (w : World) (a : Option Addr) (n c : Nat) (h : CodeAt w a n c) :
    Calls Try.prog 3 #[.slice a n c] w fun e w' => e = .returned (.bool true) ∧ Below w.heap.size w w' := by
  have hn := h.1
  have hc := h.2.1
  have HC := Lib.hid h
  clear h
  by_cases hl : 1048576 < n
  · go_enter Try.func3, Try.ntmps3
    go_wp2_with fail
    go_ret
    exact ⟨rfl, Below.refl _ _⟩
  go_enter Try.func3, Try.ntmps3
  go_wp2_with fail
  refine (drawTraceHolds_any _ a n c HC.out).mono ?_
  rintro e w1 ⟨r, v, y, vy, rfl, hfr, hd, hn1, hyl, hyb, hb⟩
  obtain ⟨au, cu, rfl, hpr⟩ := FRow.prs hfr hd.fine.2.2
  obtain ⟨ay, cy, rfl, hia⟩ := NumRow.at (show NumRow _ _ _ y from hn1) (fun x hx => by have := hyb x hx; unfold i64ok; omega)
  have hul : r.u.length ≤ 16 := hd.2.2.2
  have hcu : r.u.length ≤ cu ∧ cu ≤ 9223372036854775807 := ⟨hpr.1, hpr.2.1⟩
  have hs1 := hb.size
  obtain ⟨W1, hW1⟩ : ∃ W, W = w1.alloc (.cells #[.int .i64 r.k, .slice au r.u.length cu, .int .i64 r.v] 25) := ⟨_, rfl⟩
  have HWE := Lib.hid hW1
  have HP1 := Lib.hid (show PrsAt W1 _ r.u au cu by rw [hW1]; exact hpr.alloc _)
  have HI1 := Lib.hid (show IntsAt W1 _ y ay cy by rw [hW1]; exact hia.alloc _)
  have HX1 := Lib.hid (show Below w.heap.size w W1 by rw [hW1]; exact hb.alloc hs1 _)
  have HT1 := Lib.hid (show Blk W1 w1.heap.size 25 #[.int .i64 r.k, .slice au r.u.length cu, .int .i64 r.v] by rw [hW1]; exact Blk.new w1 _ _)
  obtain ⟨x0, x1, x2, -⟩ := HT1.out.three
  rw [hW1] at x0 x1 x2
  clear hfr hn1 hpr hia hb hd hyb hyl HC hW1
  go_wp2_with fail
  rw [← HWE.out]
  clear x0 x1 x2
  refine (implHolds_any _ _ _ r au ay cu cy y HP1.out HI1.out).mono ?_
  rintro e w2 ⟨rfl, hb⟩
  have HP2 := Lib.hid (HP1.out.below hb)
  have HI2 := Lib.hid (HI1.out.below hb)
  have HX2 := Lib.hid (HX1.out.trans (hb.mono HX1.out.size))
  have HT2 := Lib.hid (HT1.out.below hb HT1.out.lt)
  clear hb HP1 HI1 HX1 HT1
  obtain ⟨x0, x1, x2, -⟩ := HT2.out.three
  go_wp2_with fail
  clear x0 x1 x2
  refine (specHolds_any _ _ _ r au ay cu cy y HP2.out HI2.out).mono ?_
  rintro e w3 ⟨rfl, hb⟩
  have HP3 := Lib.hid (HP2.out.below hb)
  have HI3 := Lib.hid (HI2.out.below hb)
  have HX3 := Lib.hid (HX2.out.trans (hb.mono HX2.out.size))
  have HT3 := Lib.hid (HT2.out.below hb HT2.out.lt)
  clear hb HP2 HI2 HX2 HT2
  have hlt3 := HT3.out.lt
  obtain ⟨q, hq⟩ : ∃ q, q = trH r y := ⟨_, rfl⟩
  have HQ := Lib.hid hq
  rw [← hq]
  have hqq : (q != q) = false := by simp
  clear hq
  obtain ⟨W3, hW3⟩ : ∃ W, W = w3.alloc (.cells #[.int .i64 r.k, .slice au r.u.length cu, .int .i64 r.v] 25) := ⟨_, rfl⟩
  have HWE3 := Lib.hid hW3
  have HT4 := Lib.hid (show Blk W3 w1.heap.size 25 #[.int .i64 r.k, .slice au r.u.length cu, .int .i64 r.v] by rw [hW3]; exact HT3.out.alloc _)
  have HL4 := Lib.hid (show Blk W3 w3.heap.size 25 #[.int .i64 r.k, .slice au r.u.length cu, .int .i64 r.v] by rw [hW3]; exact Blk.new w3 _ _)
  have HP4 := Lib.hid (show PrsAt W3 _ r.u au cu by rw [hW3]; exact HP3.out.alloc _)
  have HI4 := Lib.hid (show IntsAt W3 _ y ay cy by rw [hW3]; exact HI3.out.alloc _)
  have HX4 := Lib.hid (show Below w.heap.size w W3 by rw [hW3]; exact HX3.out.alloc HX3.out.size _)
  have hsW : W3.heap.size = w3.heap.size + 1 := by rw [hW3]; simp
  have HSW := Lib.hid hsW
  obtain ⟨x0, x1, x2, -⟩ := HT3.out.three
  obtain ⟨y0, y1, y2, -⟩ := HT4.out.three
  obtain ⟨z0, z1, z2, -⟩ := HL4.out.three
  rw [hW3] at y0 y1 y2 z0 z1 z2
  clear hW3 hsW
  have HBL := Lib.hid (show ∀ cs : Array Value, Below w.heap.size w (w3.alloc (.cells cs 25)) ∧ Below w3.heap.size w3 (w3.alloc (.cells cs 25)) from fun cs => ⟨HX3.out.alloc HX3.out.size _, (Below.refl _ _).alloc (Nat.le_refl _) _⟩)
  have HBS := Lib.hid (show ∀ (cs : Array Value) (k : Nat) (u : Value), Below w.heap.size w ((w3.alloc (.cells cs 25)).setCell ⟨w3.heap.size, k, none⟩ u) ∧ Below w3.heap.size w3 ((w3.alloc (.cells cs 25)).setCell ⟨w3.heap.size, k, none⟩ u) from fun cs k u => ⟨(HBL.out cs).1.setCell HX3.out.size _, (HBL.out cs).2.setCell (by simp) _⟩)
  cases q
  · by_cases hu0 : r.u.length = 0
    · have hu0' : ¬ (0 : Int) < (r.u.length : Int) := by omega
      clear HT4 HL4 HP4 HI4 HX4 HSW HWE3
      go_wp2_with fail
      go_ret
      exact ⟨rfl, (HBL.out _).1⟩
    · obtain ⟨m, hm⟩ : ∃ m, r.u.length = m + 1 := ⟨r.u.length - 1, by omega⟩
      rw [hm] at x1 y0 y1 y2 z0 z1 z2 hcu hul ⊢
      clear hm HT4 HL4 HP4 HI4 HX4 HSW HWE3 hu0
      go_wp2_with fail
      go_ret
      refine ⟨rfl, ?_⟩
      first | exact (HBL.out _).1 | exact (HBS.out _ _ _).1
  · have HQT := Lib.hid (fun k => trH_take k HQ.out.symm)
    by_cases hu0 : r.u.length = 0
    · have HCL := Lib.hid (show ∀ W', Below w3.heap.size w3 W' → Calls Try.prog 9 #[.agg #[.int .i64 r.k, .slice au 0 cu, .int .i64 r.v], .slice ay y.length cy] W' (fun e w' => e = .returned (.bool true) ∧ Below W'.heap.size W' w') from fun W' hb => by
        have h := implHolds_any W' _ _ r au ay cu cy y (HP3.out.below hb) (HI3.out.below hb)
        rw [← HQ.out, hu0] at h
        exact h)
      have hu0' : ¬ (0 : Int) < (r.u.length : Int) := by omega
      clear HT4 HL4 HP4 HI4 HX4 HSW HWE3
      go_wp2_with fail
      refine (HCL.out _ (HBL.out _).2).mono ?_
      rintro e w4 ⟨rfl, hb⟩
      have HX5 := Lib.hid ((HBL.out _).1.trans (hb.mono (HBL.out _).1.size))
      clear hb x0 x1 x2 y0 y1 y2 z0 z1 z2
      go_wp2_with fail
      go_ret
      exact ⟨rfl, HX5.out⟩
    · obtain ⟨m, hm⟩ : ∃ m, r.u.length = m + 1 := ⟨r.u.length - 1, by omega⟩
      have HCL := Lib.hid (show ∀ W', Below w3.heap.size w3 W' → Calls Try.prog 9 #[.agg #[.int .i64 r.k, .slice au m cu, .int .i64 r.v], .slice ay y.length cy] W' (fun e w' => e = .returned (.bool true) ∧ Below W'.heap.size W' w') from fun W' hb => by
        have h := implHolds_any W' _ _ ⟨r.k, r.u.take m, r.v⟩ au ay cu cy y (RwAt.take (HP3.out.below hb) m) (HI3.out.below hb)
        have hl : (r.u.take m).length = m := by rw [List.length_take]; omega
        simp only [hl] at h
        rw [HQT.out m] at h
        exact h)
      rw [hm] at x1 y0 y1 y2 z0 z1 z2 hcu hul ⊢
      clear hm HT4 HL4 HP4 HI4 HX4 HSW HWE3 hu0
      go_wp2_with fail
      refine (HCL.out _ (HBL.out _).2).mono ?_
      rintro e w4 ⟨rfl, hb⟩
      have HX5 := Lib.hid ((HBL.out _).1.trans (hb.mono (HBL.out _).1.size))
      clear hb x0 x1 x2 y0 y1 y2 z0 z1 z2
      go_wp2_with fail
      go_ret
      exact ⟨rfl, HX5.out⟩
end Go.Proofs.Ytjbggeeadodmpaa
