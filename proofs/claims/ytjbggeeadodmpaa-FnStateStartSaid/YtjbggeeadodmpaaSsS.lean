/- spec.StateStart -/
import Derived.Test.YtjbggeeadodmpaaSsI
import Derived.Test.YtjbggeeadodmpaaShOkS
namespace Go.Proofs.Ytjbggeeadodmpaa
open Go.RowKit

set_option maxRecDepth 100000 in
set_option maxHeartbeats 8000000 in
theorem specStart_any (s : Sh) (w : World) (S : Nat → Prop) (a : Option Addr) (c : Nat) (a' : Option Addr) (c' : Nat) (h : ShAt w S s a c a' c') (hns : nodesL s.t ≤ 1048576) :
    Calls Try.prog 24 #[.agg #[.slice a s.m.length c, .slice a' s.t.length c']] w (SxPost (stS s) s.ok w) := by
  have hnl : s.m.length ≤ 9223372036854775807 := by have := h.1.1; have := h.1.2.1; omega
  obtain ⟨W, hW⟩ : ∃ W, W = (w.alloc (.cells #[.slice a s.m.length c, .slice a' s.t.length c'] 47)).alloc (.cells #[.slice none 0 0, .slice none 0 0, .slice none 0 0, .slice none 0 0] 50) := ⟨_, rfl⟩
  have HWW := Lib.hid hW
  have S0 := Lib.hid (show ShAt W S s a c a' c' by rw [hW]; exact (h.alloc _).alloc _)
  have B0 := Lib.hid (show Below w.heap.size w W by rw [hW]; exact ((Below.refl w.heap.size w).alloc (Nat.le_refl _) _).alloc (by simp) _)
  have P0 := Lib.hid (show Blk W w.heap.size 47 #[.slice a s.m.length c, .slice a' s.t.length c'] by rw [hW]; exact (Blk.new w 47 _).alloc _)
  have Q0 := Lib.hid (show Blk W (w.heap.size + 1) 50 #[.slice none 0 0, .slice none 0 0, .slice none 0 0, .slice none 0 0] by rw [hW]; have := Blk.new (w.alloc (.cells #[.slice a s.m.length c, .slice a' s.t.length c'] 47)) 50 #[.slice none 0 0, .slice none 0 0, .slice none 0 0, .slice none 0 0]; simpa using this)
  obtain ⟨p0, p1, -⟩ := P0.out.two
  rw [hW] at p0 p1
  have HNS := Lib.hid hns
  clear h hW hns
  go_enter Try.func24, Try.ntmps24
  go_wp2_with fail
  rw [← HWW.out]
  clear p0 p1
  refine (specSheetOk_any s _ S a c a' c' S0.out HNS.out).mono ?_
  rintro e w1 ⟨rfl, hb⟩
  have B1 := Lib.hid (B0.out.trans (hb.mono B0.out.size))
  have P1 := Lib.hid (P0.out.below hb P0.out.lt)
  have Q1 := Lib.hid (Q0.out.below hb Q0.out.lt)
  obtain ⟨p0, p1, -⟩ := P1.out.two
  obtain ⟨q0, q1, q2, q3, f0, f1, f2, f3⟩ := Q1.out.four
  have hltQ := Q1.out.lt
  clear hb S0 B0 P0 Q0
  cases hok : s.ok
  · have HO := Lib.hid hok
    have HR := Lib.hid (show stS s = ⟨[], [], [], []⟩ by unfold stS; rw [hok]; rfl)
    clear hok
    go_wp2_with fail
    refine bodyPost_ret (v := .tuple #[.agg #[.slice none 0 0, .slice none 0 0, .slice none 0 0, .slice none 0 0], .bool false]) (by simp [results, Try.results24, go_sem, q0, q1, q2, q3]) rfl ?_
    rw [HR.out, HO.out]
    exact ⟨(((B1.out.setCell (by simp) _).setCell (by simp) _).setCell (by simp) _).setCell (by simp) _, none, 0, none, 0, none, 0, none, 0, fun _ => False, rfl, st_none _, fun _ h => h.elim⟩
  · have hn10 := (Sh.ok_iff.1 hok).1
    have HR := Lib.hid (show stS s = st0 s.m.length by unfold stS; rw [hok]; rfl)
    obtain ⟨n, hn⟩ : ∃ n, n = s.m.length := ⟨_, rfl⟩
    rw [← hn] at HR hn10 p0
    obtain ⟨i0, hi, hz0, hz1, hz2⟩ := info_parts infoInt
    have hmk := fun W => run_make_rowN (P := Try.prog) 26 3 i0 _ Try.underlying26 hi hz0 .i64 .i64 n n (Nat.le_refl _) (by rw [hz2]; omega) (by omega) W
    rw [hz1] at hmk
    obtain ⟨j0, hj, hy0, hy1, hy2⟩ := info_parts infoBool
    have hmb := fun W => run_make_rowN (P := Try.prog) 44 4 j0 _ Try.underlying44 hj hy0 .i64 .i64 n n (Nat.le_refl _) (by rw [hy2]; omega) (by omega) W
    rw [hy1] at hmb
    have HO := Lib.hid hok
    have k0 : ∀ o1 o2 o3 : Obj, (((w1.alloc o1).alloc o2).alloc o3).cell? ⟨w.heap.size + 1, 0, none⟩ = some (.slice none 0 0) := fun o1 o2 o3 => (((Q1.out.alloc o1).alloc o2).alloc o3).four.1
    have k1 : ∀ o1 o2 o3 : Obj, (((w1.alloc o1).alloc o2).alloc o3).cell? ⟨w.heap.size + 1, 1, none⟩ = some (.slice none 0 0) := fun o1 o2 o3 => (((Q1.out.alloc o1).alloc o2).alloc o3).four.2.1
    have k2 : ∀ o1 o2 o3 : Obj, (((w1.alloc o1).alloc o2).alloc o3).cell? ⟨w.heap.size + 1, 2, none⟩ = some (.slice none 0 0) := fun o1 o2 o3 => (((Q1.out.alloc o1).alloc o2).alloc o3).four.2.2.1
    have k3 : ∀ o1 o2 o3 : Obj, (((w1.alloc o1).alloc o2).alloc o3).cell? ⟨w.heap.size + 1, 3, none⟩ = some (.slice none 0 0) := fun o1 o2 o3 => (((Q1.out.alloc o1).alloc o2).alloc o3).four.2.2.2.1
    have m0 : ∀ o1 o2 o3 : Obj, (((w1.alloc o1).alloc o2).alloc o3).frozen? ⟨w.heap.size + 1, 0, none⟩ = false := fun o1 o2 o3 => (((Q1.out.alloc o1).alloc o2).alloc o3).four.2.2.2.2.1
    have m1 : ∀ o1 o2 o3 : Obj, (((w1.alloc o1).alloc o2).alloc o3).frozen? ⟨w.heap.size + 1, 1, none⟩ = false := fun o1 o2 o3 => (((Q1.out.alloc o1).alloc o2).alloc o3).four.2.2.2.2.2.1
    have m2 : ∀ o1 o2 o3 : Obj, (((w1.alloc o1).alloc o2).alloc o3).frozen? ⟨w.heap.size + 1, 2, none⟩ = false := fun o1 o2 o3 => (((Q1.out.alloc o1).alloc o2).alloc o3).four.2.2.2.2.2.2.1
    have m3 : ∀ o1 o2 o3 : Obj, (((w1.alloc o1).alloc o2).alloc o3).frozen? ⟨w.heap.size + 1, 3, none⟩ = false := fun o1 o2 o3 => (((Q1.out.alloc o1).alloc o2).alloc o3).four.2.2.2.2.2.2.2
    have l0 : w.heap.size + 1 ≠ w1.heap.size := by omega
    have l1 : w.heap.size + 1 < w1.heap.size + 1 := by omega
    have l2 : w.heap.size + 1 < w1.heap.size + 1 + 1 := by omega
    have l3 : w.heap.size + 1 ≠ w1.heap.size + 1 := by omega
    have l4 : w.heap.size + 1 ≠ w1.heap.size + 1 + 1 := by omega
    clear hok hn
    go_wp2_with fail
    have hB1 := B1.out.size
    go_region
    all_goals go_wp2_with fail
    all_goals
      first
      | (with_reducible show bodyPost Try.prog Try.f24 _ _ _ (((((((w1.setCell ⟨w.heap.size + 1, 0, none⟩ (.slice (some ⟨w1.heap.size, 0, none⟩) n n)).setCell ⟨w.heap.size + 1, 1, none⟩ (.slice (some ⟨w1.heap.size + 1, 0, none⟩) n n)).setCell ⟨w.heap.size + 1, 2, none⟩ (.slice (some ⟨w1.heap.size + 1 + 1, 0, none⟩) n n)).setCell ⟨w.heap.size + 1, 3, none⟩ (.slice none 0 0)).alloc (.cells (madeCells #[.int .i64 0] n) 3)).alloc (.cells (madeCells #[.bool false] n) 4)).alloc (.cells (madeCells #[.int .i64 0] n) 3)).drew; obtain ⟨⟨hbW, b0⟩, ⟨b1, b2⟩, e0, e1, e2, e3⟩ := sx_fin (.slice (some ⟨w1.heap.size, 0, none⟩) n n) (.slice (some ⟨w1.heap.size + 1, 0, none⟩) n n) (.slice (some ⟨w1.heap.size + 1 + 1, 0, none⟩) n n) (.slice none 0 0) _ _ _ _ _ _ B1.out Q1.out; obtain ⟨W', hW'⟩ : ∃ W', W' = (((((((w1.setCell ⟨w.heap.size + 1, 0, none⟩ (.slice (some ⟨w1.heap.size, 0, none⟩) n n)).setCell ⟨w.heap.size + 1, 1, none⟩ (.slice (some ⟨w1.heap.size + 1, 0, none⟩) n n)).setCell ⟨w.heap.size + 1, 2, none⟩ (.slice (some ⟨w1.heap.size + 1 + 1, 0, none⟩) n n)).setCell ⟨w.heap.size + 1, 3, none⟩ (.slice none 0 0)).alloc (.cells (madeCells #[.int .i64 0] n) 3)).alloc (.cells (madeCells #[.bool false] n) 4)).alloc (.cells (madeCells #[.int .i64 0] n) 3)).drew := ⟨_, rfl⟩; rw [← hW'] at hbW b0 b1 b2 e0 e1 e2 e3 ⊢; clear hW'; refine bodyPost_ret (v := .tuple #[.agg #[.slice (some ⟨w1.heap.size, 0, none⟩) n n, .slice (some ⟨w1.heap.size + 1, 0, none⟩) n n, .slice (some ⟨w1.heap.size + 1 + 1, 0, none⟩) n n, .slice none 0 0], .bool true]) (by simp [results, Try.results24, go_sem, e0, e1, e2, e3]) rfl ?_; rw [HR.out, HO.out]; exact sx_end hbW (by omega) b0 b1 b2 (by omega) (by omega) (by omega) (by omega) (by omega) (by omega))
      | (with_reducible show bodyPost Try.prog Try.f24 _ _ _ (((((((w1.setCell ⟨w.heap.size + 1, 0, none⟩ (.slice (some ⟨w1.heap.size, 0, none⟩) n n)).setCell ⟨w.heap.size + 1, 1, none⟩ (.slice (some ⟨w1.heap.size + 1 + 1, 0, none⟩) n n)).setCell ⟨w.heap.size + 1, 2, none⟩ (.slice (some ⟨w1.heap.size + 1, 0, none⟩) n n)).setCell ⟨w.heap.size + 1, 3, none⟩ (.slice none 0 0)).alloc (.cells (madeCells #[.int .i64 0] n) 3)).alloc (.cells (madeCells #[.int .i64 0] n) 3)).alloc (.cells (madeCells #[.bool false] n) 4)).drew; obtain ⟨⟨hbW, b0⟩, ⟨b1, b2⟩, e0, e1, e2, e3⟩ := sx_fin (.slice (some ⟨w1.heap.size, 0, none⟩) n n) (.slice (some ⟨w1.heap.size + 1 + 1, 0, none⟩) n n) (.slice (some ⟨w1.heap.size + 1, 0, none⟩) n n) (.slice none 0 0) _ _ _ _ _ _ B1.out Q1.out; obtain ⟨W', hW'⟩ : ∃ W', W' = (((((((w1.setCell ⟨w.heap.size + 1, 0, none⟩ (.slice (some ⟨w1.heap.size, 0, none⟩) n n)).setCell ⟨w.heap.size + 1, 1, none⟩ (.slice (some ⟨w1.heap.size + 1 + 1, 0, none⟩) n n)).setCell ⟨w.heap.size + 1, 2, none⟩ (.slice (some ⟨w1.heap.size + 1, 0, none⟩) n n)).setCell ⟨w.heap.size + 1, 3, none⟩ (.slice none 0 0)).alloc (.cells (madeCells #[.int .i64 0] n) 3)).alloc (.cells (madeCells #[.int .i64 0] n) 3)).alloc (.cells (madeCells #[.bool false] n) 4)).drew := ⟨_, rfl⟩; rw [← hW'] at hbW b0 b1 b2 e0 e1 e2 e3 ⊢; clear hW'; refine bodyPost_ret (v := .tuple #[.agg #[.slice (some ⟨w1.heap.size, 0, none⟩) n n, .slice (some ⟨w1.heap.size + 1 + 1, 0, none⟩) n n, .slice (some ⟨w1.heap.size + 1, 0, none⟩) n n, .slice none 0 0], .bool true]) (by simp [results, Try.results24, go_sem, e0, e1, e2, e3]) rfl ?_; rw [HR.out, HO.out]; exact sx_end hbW (by omega) b0 b2 b1 (by omega) (by omega) (by omega) (by omega) (by omega) (by omega))
      | (with_reducible show bodyPost Try.prog Try.f24 _ _ _ (((((((w1.setCell ⟨w.heap.size + 1, 0, none⟩ (.slice (some ⟨w1.heap.size + 1, 0, none⟩) n n)).setCell ⟨w.heap.size + 1, 1, none⟩ (.slice (some ⟨w1.heap.size, 0, none⟩) n n)).setCell ⟨w.heap.size + 1, 2, none⟩ (.slice (some ⟨w1.heap.size + 1 + 1, 0, none⟩) n n)).setCell ⟨w.heap.size + 1, 3, none⟩ (.slice none 0 0)).alloc (.cells (madeCells #[.bool false] n) 4)).alloc (.cells (madeCells #[.int .i64 0] n) 3)).alloc (.cells (madeCells #[.int .i64 0] n) 3)).drew; obtain ⟨⟨hbW, b0⟩, ⟨b1, b2⟩, e0, e1, e2, e3⟩ := sx_fin (.slice (some ⟨w1.heap.size + 1, 0, none⟩) n n) (.slice (some ⟨w1.heap.size, 0, none⟩) n n) (.slice (some ⟨w1.heap.size + 1 + 1, 0, none⟩) n n) (.slice none 0 0) _ _ _ _ _ _ B1.out Q1.out; obtain ⟨W', hW'⟩ : ∃ W', W' = (((((((w1.setCell ⟨w.heap.size + 1, 0, none⟩ (.slice (some ⟨w1.heap.size + 1, 0, none⟩) n n)).setCell ⟨w.heap.size + 1, 1, none⟩ (.slice (some ⟨w1.heap.size, 0, none⟩) n n)).setCell ⟨w.heap.size + 1, 2, none⟩ (.slice (some ⟨w1.heap.size + 1 + 1, 0, none⟩) n n)).setCell ⟨w.heap.size + 1, 3, none⟩ (.slice none 0 0)).alloc (.cells (madeCells #[.bool false] n) 4)).alloc (.cells (madeCells #[.int .i64 0] n) 3)).alloc (.cells (madeCells #[.int .i64 0] n) 3)).drew := ⟨_, rfl⟩; rw [← hW'] at hbW b0 b1 b2 e0 e1 e2 e3 ⊢; clear hW'; refine bodyPost_ret (v := .tuple #[.agg #[.slice (some ⟨w1.heap.size + 1, 0, none⟩) n n, .slice (some ⟨w1.heap.size, 0, none⟩) n n, .slice (some ⟨w1.heap.size + 1 + 1, 0, none⟩) n n, .slice none 0 0], .bool true]) (by simp [results, Try.results24, go_sem, e0, e1, e2, e3]) rfl ?_; rw [HR.out, HO.out]; exact sx_end hbW (by omega) b1 b0 b2 (by omega) (by omega) (by omega) (by omega) (by omega) (by omega))
      | (with_reducible show bodyPost Try.prog Try.f24 _ _ _ (((((((w1.setCell ⟨w.heap.size + 1, 0, none⟩ (.slice (some ⟨w1.heap.size + 1, 0, none⟩) n n)).setCell ⟨w.heap.size + 1, 1, none⟩ (.slice (some ⟨w1.heap.size + 1 + 1, 0, none⟩) n n)).setCell ⟨w.heap.size + 1, 2, none⟩ (.slice (some ⟨w1.heap.size, 0, none⟩) n n)).setCell ⟨w.heap.size + 1, 3, none⟩ (.slice none 0 0)).alloc (.cells (madeCells #[.int .i64 0] n) 3)).alloc (.cells (madeCells #[.int .i64 0] n) 3)).alloc (.cells (madeCells #[.bool false] n) 4)).drew; obtain ⟨⟨hbW, b0⟩, ⟨b1, b2⟩, e0, e1, e2, e3⟩ := sx_fin (.slice (some ⟨w1.heap.size + 1, 0, none⟩) n n) (.slice (some ⟨w1.heap.size + 1 + 1, 0, none⟩) n n) (.slice (some ⟨w1.heap.size, 0, none⟩) n n) (.slice none 0 0) _ _ _ _ _ _ B1.out Q1.out; obtain ⟨W', hW'⟩ : ∃ W', W' = (((((((w1.setCell ⟨w.heap.size + 1, 0, none⟩ (.slice (some ⟨w1.heap.size + 1, 0, none⟩) n n)).setCell ⟨w.heap.size + 1, 1, none⟩ (.slice (some ⟨w1.heap.size + 1 + 1, 0, none⟩) n n)).setCell ⟨w.heap.size + 1, 2, none⟩ (.slice (some ⟨w1.heap.size, 0, none⟩) n n)).setCell ⟨w.heap.size + 1, 3, none⟩ (.slice none 0 0)).alloc (.cells (madeCells #[.int .i64 0] n) 3)).alloc (.cells (madeCells #[.int .i64 0] n) 3)).alloc (.cells (madeCells #[.bool false] n) 4)).drew := ⟨_, rfl⟩; rw [← hW'] at hbW b0 b1 b2 e0 e1 e2 e3 ⊢; clear hW'; refine bodyPost_ret (v := .tuple #[.agg #[.slice (some ⟨w1.heap.size + 1, 0, none⟩) n n, .slice (some ⟨w1.heap.size + 1 + 1, 0, none⟩) n n, .slice (some ⟨w1.heap.size, 0, none⟩) n n, .slice none 0 0], .bool true]) (by simp [results, Try.results24, go_sem, e0, e1, e2, e3]) rfl ?_; rw [HR.out, HO.out]; exact sx_end hbW (by omega) b1 b2 b0 (by omega) (by omega) (by omega) (by omega) (by omega) (by omega))
      | (with_reducible show bodyPost Try.prog Try.f24 _ _ _ (((((((w1.setCell ⟨w.heap.size + 1, 0, none⟩ (.slice (some ⟨w1.heap.size + 1 + 1, 0, none⟩) n n)).setCell ⟨w.heap.size + 1, 1, none⟩ (.slice (some ⟨w1.heap.size, 0, none⟩) n n)).setCell ⟨w.heap.size + 1, 2, none⟩ (.slice (some ⟨w1.heap.size + 1, 0, none⟩) n n)).setCell ⟨w.heap.size + 1, 3, none⟩ (.slice none 0 0)).alloc (.cells (madeCells #[.bool false] n) 4)).alloc (.cells (madeCells #[.int .i64 0] n) 3)).alloc (.cells (madeCells #[.int .i64 0] n) 3)).drew; obtain ⟨⟨hbW, b0⟩, ⟨b1, b2⟩, e0, e1, e2, e3⟩ := sx_fin (.slice (some ⟨w1.heap.size + 1 + 1, 0, none⟩) n n) (.slice (some ⟨w1.heap.size, 0, none⟩) n n) (.slice (some ⟨w1.heap.size + 1, 0, none⟩) n n) (.slice none 0 0) _ _ _ _ _ _ B1.out Q1.out; obtain ⟨W', hW'⟩ : ∃ W', W' = (((((((w1.setCell ⟨w.heap.size + 1, 0, none⟩ (.slice (some ⟨w1.heap.size + 1 + 1, 0, none⟩) n n)).setCell ⟨w.heap.size + 1, 1, none⟩ (.slice (some ⟨w1.heap.size, 0, none⟩) n n)).setCell ⟨w.heap.size + 1, 2, none⟩ (.slice (some ⟨w1.heap.size + 1, 0, none⟩) n n)).setCell ⟨w.heap.size + 1, 3, none⟩ (.slice none 0 0)).alloc (.cells (madeCells #[.bool false] n) 4)).alloc (.cells (madeCells #[.int .i64 0] n) 3)).alloc (.cells (madeCells #[.int .i64 0] n) 3)).drew := ⟨_, rfl⟩; rw [← hW'] at hbW b0 b1 b2 e0 e1 e2 e3 ⊢; clear hW'; refine bodyPost_ret (v := .tuple #[.agg #[.slice (some ⟨w1.heap.size + 1 + 1, 0, none⟩) n n, .slice (some ⟨w1.heap.size, 0, none⟩) n n, .slice (some ⟨w1.heap.size + 1, 0, none⟩) n n, .slice none 0 0], .bool true]) (by simp [results, Try.results24, go_sem, e0, e1, e2, e3]) rfl ?_; rw [HR.out, HO.out]; exact sx_end hbW (by omega) b2 b0 b1 (by omega) (by omega) (by omega) (by omega) (by omega) (by omega))
      | (with_reducible show bodyPost Try.prog Try.f24 _ _ _ (((((((w1.setCell ⟨w.heap.size + 1, 0, none⟩ (.slice (some ⟨w1.heap.size + 1 + 1, 0, none⟩) n n)).setCell ⟨w.heap.size + 1, 1, none⟩ (.slice (some ⟨w1.heap.size + 1, 0, none⟩) n n)).setCell ⟨w.heap.size + 1, 2, none⟩ (.slice (some ⟨w1.heap.size, 0, none⟩) n n)).setCell ⟨w.heap.size + 1, 3, none⟩ (.slice none 0 0)).alloc (.cells (madeCells #[.int .i64 0] n) 3)).alloc (.cells (madeCells #[.bool false] n) 4)).alloc (.cells (madeCells #[.int .i64 0] n) 3)).drew; obtain ⟨⟨hbW, b0⟩, ⟨b1, b2⟩, e0, e1, e2, e3⟩ := sx_fin (.slice (some ⟨w1.heap.size + 1 + 1, 0, none⟩) n n) (.slice (some ⟨w1.heap.size + 1, 0, none⟩) n n) (.slice (some ⟨w1.heap.size, 0, none⟩) n n) (.slice none 0 0) _ _ _ _ _ _ B1.out Q1.out; obtain ⟨W', hW'⟩ : ∃ W', W' = (((((((w1.setCell ⟨w.heap.size + 1, 0, none⟩ (.slice (some ⟨w1.heap.size + 1 + 1, 0, none⟩) n n)).setCell ⟨w.heap.size + 1, 1, none⟩ (.slice (some ⟨w1.heap.size + 1, 0, none⟩) n n)).setCell ⟨w.heap.size + 1, 2, none⟩ (.slice (some ⟨w1.heap.size, 0, none⟩) n n)).setCell ⟨w.heap.size + 1, 3, none⟩ (.slice none 0 0)).alloc (.cells (madeCells #[.int .i64 0] n) 3)).alloc (.cells (madeCells #[.bool false] n) 4)).alloc (.cells (madeCells #[.int .i64 0] n) 3)).drew := ⟨_, rfl⟩; rw [← hW'] at hbW b0 b1 b2 e0 e1 e2 e3 ⊢; clear hW'; refine bodyPost_ret (v := .tuple #[.agg #[.slice (some ⟨w1.heap.size + 1 + 1, 0, none⟩) n n, .slice (some ⟨w1.heap.size + 1, 0, none⟩) n n, .slice (some ⟨w1.heap.size, 0, none⟩) n n, .slice none 0 0], .bool true]) (by simp [results, Try.results24, go_sem, e0, e1, e2, e3]) rfl ?_; rw [HR.out, HO.out]; exact sx_end hbW (by omega) b2 b1 b0 (by omega) (by omega) (by omega) (by omega) (by omega) (by omega))
end Go.Proofs.Ytjbggeeadodmpaa
