/- spec.TaskRead -/
import Derived.Test.YtgcjnhlppapfdaaDoorSrA
namespace Go.Proofs.YtgcjnhlppapfdaaDoor
open Go.RowKit Go.Lib

theorem partsS_nodes {G : Nat → Option (T × Nat)} {s : ByteArray} (hG : ∀ i t j, G i = some (t, j) → i + t.nodes ≤ j) : ∀ (m i : Nat) (ps : List T) (j : Nat), partsS G s m i = some (ps, j) → i + nodesL ps ≤ j
  | 0, i, ps, j, h => by
    simp only [partsS, Option.some.injEq, Prod.mk.injEq] at h
    obtain ⟨rfl, rfl⟩ := h
    simp [nodesL]
  | m + 1, i, ps, j, h => by
    simp only [partsS] at h
    split at h
    · split at h
      · rename_i t j1 h1
        split at h
        · rename_i ps1 j2 h2
          simp only [Option.some.injEq, Prod.mk.injEq] at h
          obtain ⟨rfl, rfl⟩ := h
          have e1 := hG _ _ _ h1
          have e2 := partsS_nodes hG m _ _ _ h2
          simp only [nodesL]
          omega
        · cases h
      · cases h
    · cases h
theorem headS_le {s : ByteArray} {i k n m j : Nat} (h : headS s i = some (k, n, m, j)) : i < j := by
  unfold headS at h
  repeat' split at h
  all_goals first
    | (cases h; done)
    | (simp only [Option.some.injEq, Prod.mk.injEq] at h; omega)
theorem taskS_nodes (s : ByteArray) : ∀ (f i : Nat) (t : T) (j : Nat), taskS f s i = some (t, j) → i + t.nodes ≤ j
  | 0, i, t, j, h => by simp [taskS] at h
  | f + 1, i, t, j, h => by
    simp only [taskS] at h
    split at h
    · split at h
      · rename_i v d hn
        simp only [Option.some.injEq, Prod.mk.injEq] at h
        obtain ⟨rfl, rfl⟩ := h
        simp only [T.nodes, nodesL]; omega
      · cases h
    · split at h
      · unfold groupS at h
        split at h
        · rename_i k n m j1 hh
          split at h
          · rename_i ps j2 hp
            split at h
            · simp only [Option.some.injEq, Prod.mk.injEq] at h
              obtain ⟨rfl, rfl⟩ := h
              have e1 := headS_le hh
              have e2 := partsS_nodes (G := fun j => taskS f s j) (fun i t j h => taskS_nodes s f i t j h) _ _ _ _ hp
              simp only [T.nodes]; omega
            · cases h
          · cases h
        · cases h
      · split at h
        · rename_i v d hn
          have := numS_pos hn
          simp only [Option.some.injEq, Prod.mk.injEq] at h
          obtain ⟨rfl, rfl⟩ := h
          simp only [T.nodes, nodesL]; omega
        · cases h

set_option maxRecDepth 100000 in
set_option maxHeartbeats 2000000 in
theorem specRead_any (w : World) (s : ByteArray) (hs : s.size ≤ 1048576) : Calls Tryd.prog 12 #[.string s] w (ReadPost w (readS s)) := by
  have HR0 := Lib.hid ((Blk.new w 25 #[.int .i64 0, .int .i64 0, .slice none 0 0]).alloc (.cells #[.string s, .int .i64 0, .bool false] 47))
  have hB := Blk.new (w.alloc (.cells #[.int .i64 0, .int .i64 0, .slice none 0 0] 25)) 47 #[.string s, .int .i64 0, .bool false]
  rw [World.size_alloc] at hB
  have HG0 := Lib.hid (show SrAt _ (w.heap.size + 1) s 0 false from hB)
  obtain ⟨r, hr⟩ : ∃ r, r = readS s := ⟨_, rfl⟩
  have HRR := Lib.hid hr
  rw [← hr]
  clear hB hr
  go_enter Tryd.func12, Tryd.ntmps12
  go_wp2_with fail
  refine (tskS_all (s.size + 15) _ (w.heap.size + 1) 0 s HG0.out (by omega) hs (by omega)).mono ?_
  rintro e w1 ⟨ho1, t, a, c, rfl, how, ok1, ok2, hl3, hcase⟩
  have hsz1 := ho1.size
  simp only [World.size_alloc] at hsz1
  have hlt1 : w.heap.size + 1 < w1.heap.size := by omega
  have hlt0 : w.heap.size < w1.heap.size := by omega
  have hlt0' : w.heap.size ≠ w1.heap.size := by omega
  have hb1 : Below w.heap.size w w1 := (((Below.refl w.heap.size w).alloc (Nat.le_refl _) (.cells #[.int .i64 0, .int .i64 0, .slice none 0 0] 25)).alloc (by simp) (.cells #[.string s, .int .i64 0, .bool false] 47)).trans ⟨ho1.os, ho1.tape, ho1.output, ho1.size, fun k hk => ho1.block k (by simp; omega) (by intro e; injection e; omega)⟩
  have hr0 := HR0.out.only ho1 (by omega)
  have hlt1' : w.heap.size + 1 ≠ w1.heap.size := by omega
  have HR1 := Lib.hid (hr0.alloc (.cells #[.int .i64 t.k, .int .i64 t.n, .slice a t.ps.length c] 25))
  have HT1 := Lib.hid (Blk.new w1 25 #[.int .i64 t.k, .int .i64 t.n, .slice a t.ps.length c])
  have HA1 := Lib.hid ((how.at.weaken (S' := fun b => w.heap.size + 2 ≤ b ∧ b < w1.heap.size) (fun b hb => by simpa using hb)).alloc (.cells #[.int .i64 t.k, .int .i64 t.n, .slice a t.ps.length c] 25))
  have HB1 := Lib.hid (hb1.alloc (by omega) (.cells #[.int .i64 t.k, .int .i64 t.n, .slice a t.ps.length c] 25))
  obtain ⟨y0, y1, y2, g0, g1, g2⟩ := hr0.three
  have fin : ∀ wr : World, Below w.heap.size w wr → r = none → ReadPost w r (.returned (.tuple #[.agg #[.int .i64 0, .int .i64 0, .slice none 0 0], .bool false])) (set3 wr w.heap.size (.int .i64 0) (.int .i64 0) (.slice none 0 0)) := by
    intro wr hb hn
    subst hn
    exact ⟨((hb.setCell (Nat.le_refl _) _).setCell (Nat.le_refl _) _).setCell (Nat.le_refl _) _, rfl⟩
  have HFIN := Lib.hid fin
  have finA : r = none → ReadPost w r (.returned (.tuple #[.agg #[.int .i64 0, .int .i64 0, .slice none 0 0], .bool false])) ((set3 w1 w.heap.size (.int .i64 0) (.int .i64 0) (.slice none 0 0)).alloc (.cells #[.int .i64 t.k, .int .i64 t.n, .slice a t.ps.length c] 25)) := by
    intro hn
    subst hn
    exact ⟨(((hb1.setCell (Nat.le_refl _) _).setCell (Nat.le_refl _) _).setCell (Nat.le_refl _) _).alloc (by simp [World.setCell]; omega) _, rfl⟩
  have HFINA := Lib.hid finA
  have HZ := Lib.hid ((((hr0.set_ 0 (.int .i64 0)).set_ 1 (.int .i64 0)).set_ 2 (.slice none 0 0)).alloc (.cells #[.int .i64 t.k, .int .i64 t.n, .slice a t.ps.length c] 25))
  clear hb1 how ho1 ok1 ok2 hl3 HR0 HG0 fin finA hr0
  cases htk : taskS (s.size + 15) s 0 with
  | none =>
    rw [htk] at hcase
    obtain ⟨q, hq, hsr⟩ := hcase
    obtain ⟨x0, x1, x2, f0, f1, f2⟩ := Blk.three hsr
    have HN := Lib.hid (show r = none by rw [HRR.out]; unfold readS; rw [htk])
    clear hsr htk
    go_wp2_with fail
    obtain ⟨z0, z1, z2, _, _, _⟩ := (show Blk _ w.heap.size 25 #[.int .i64 0, .int .i64 0, .slice none 0 0] from HZ.out).three
    refine bodyPost_ret (v := .tuple #[.agg #[.int .i64 0, .int .i64 0, .slice none 0 0], .bool false]) (by simp only [results, Tryd.results12]; simp [go_sem, z0, z1, z2]) rfl ?_
    exact HFINA.out HN.out
  | some x =>
    obtain ⟨t0, j⟩ := x
    rw [htk] at hcase
    obtain ⟨rfl, hsr, hj, _⟩ := hcase
    obtain ⟨x0, x1, x2, f0, f1, f2⟩ := Blk.three hsr
    have hnodes := taskS_nodes s _ _ _ _ htk
    have hnl : nodesL t.ps ≤ 1048576 := by have := t.nodes_eq; omega
    have HTK := Lib.hid htk
    clear hsr htk hnodes
    by_cases hjs : j = s.size
    · have hne : ((j : Int) != (s.size : Int)) = false := by simp [hjs]
      have HJ := Lib.hid hjs
      clear hjs
      go_wp2_with fail
      refine (specOk_any t _ _ a c HA1.out hnl).mono ?_
      rintro e w2 ⟨rfl, hb⟩
      have hs2 := hb.size
      simp only [World.size_alloc] at hs2
      have HR2 := Lib.hid (HR1.out.below hb (by simp; omega))
      have HT2 := Lib.hid (HT1.out.below hb (by simp))
      have HA2 := Lib.hid (HA1.out.below hb)
      have HB2 := Lib.hid (HB1.out.trans (hb.mono (by simp; omega)))
      have hw2 : w.heap.size < w2.heap.size := by omega
      clear hb x0 x1 x2 f0 f1 f2 y0 y1 y2 g0 g1 g2 HR1 HT1 HA1 HB1
      obtain ⟨y0, y1, y2, g0, g1, g2⟩ := HR2.out.three
      obtain ⟨z0, z1, z2, k0, k1, k2⟩ := HT2.out.three
      cases hok : t.ok
      · have HN := Lib.hid (show r = none by rw [HRR.out]; unfold readS; rw [HTK.out]; simp [hok])
        clear hok
        go_wp2_with fail
        refine bodyPost_ret (v := .tuple #[.agg #[.int .i64 0, .int .i64 0, .slice none 0 0], .bool false]) (by simp only [results, Tryd.results12]; simp [go_sem, y0, y1, y2]) rfl ?_
        exact HFIN.out _ HB2.out HN.out
      · have HN := Lib.hid (show r = some t by rw [HRR.out]; unfold readS; rw [HTK.out]; simp [hok, HJ.out])
        clear hok
        go_wp2_with fail
        refine bodyPost_ret (v := .tuple #[.agg #[.int .i64 t.k, .int .i64 t.n, .slice a t.ps.length c], .bool true]) (by simp only [results, Tryd.results12]; simp [go_sem, y0, y1, y2]) rfl ?_
        refine ⟨((HB2.out.setCell (Nat.le_refl _) _).setCell (Nat.le_refl _) _).setCell (Nat.le_refl _) _, ?_⟩
        rw [HN.out]
        refine ⟨a, c, rfl, ?_⟩
        exact (((HA2.out.setCell (by intro b hb; simp; omega) _).setCell (by intro b hb; simp; omega) _).setCell (by intro b hb; simp; omega) _).weaken (by intro b hb; simp [World.setCell]; omega)
    · have hne : ((j : Int) != (s.size : Int)) = true := by simp; omega
      have HN := Lib.hid (show r = none by rw [HRR.out]; unfold readS; rw [HTK.out]; simp [hjs])
      clear hjs
      go_wp2_with fail
      obtain ⟨z0, z1, z2, _, _, _⟩ := (show Blk _ w.heap.size 25 #[.int .i64 0, .int .i64 0, .slice none 0 0] from HZ.out).three
      refine bodyPost_ret (v := .tuple #[.agg #[.int .i64 0, .int .i64 0, .slice none 0 0], .bool false]) (by simp only [results, Tryd.results12]; simp [go_sem, z0, z1, z2]) rfl ?_
      exact HFINA.out HN.out
end Go.Proofs.YtgcjnhlppapfdaaDoor
