/- impl.StateStart, spec.StateStart -/
import Derived.Test.YtjbggeeadodmpaaStM
import Derived.Test.YtjbggeeadodmpaaStP
import Derived.BigRegion
namespace Go.Proofs.Ytjbggeeadodmpaa
open Go.RowKit

theorem stS_m (s : Sh) : stM (stS s) ≤ 60 := by
  have h := stS_n s
  have h2 := mN_le (stS s).t (stS s).t.length
  unfold St.n at h
  unfold stM trM
  omega
/-- What StateStart leaves. -/
def SxPost (r : St) (b : Bool) (w : World) (e : Ending) (w' : World) : Prop := Below w.heap.size w w' ∧ ∃ a1 c1 a2 c2 a3 c3 a4 c4 D, e = .returned (.tuple #[.agg #[.slice a1 r.v.length c1, .slice a2 r.b.length c2, .slice a3 r.i.length c3, .slice a4 r.t.length c4], .bool b]) ∧
  StOw w' D r a1 c1 a2 c2 a3 c3 a4 c4 ∧ ∀ x, D x → w.heap.size ≤ x ∧ x < w'.heap.size
theorem SxPost.at {r : St} {b : Bool} {w w' : World} {e : Ending} (h : SxPost r b w e w') (hf : r.fine) : Below w.heap.size w w' ∧ ∃ a1 c1 a2 c2 a3 c3 a4 c4 S, e = .returned (.tuple #[.agg #[.slice a1 r.v.length c1, .slice a2 r.b.length c2, .slice a3 r.i.length c3, .slice a4 r.t.length c4], .bool b]) ∧ StAt w' S r a1 c1 a2 c2 a3 c3 a4 c4 := by
  obtain ⟨hb, a1, c1, a2, c2, a3, c3, a4, c4, D, he, ho, _⟩ := h
  exact ⟨hb, a1, c1, a2, c2, a3, c3, a4, c4, D, he, ho.at hf⟩
theorem st_none (w : World) : StOw w (fun _ => False) ⟨[], [], [], []⟩ none 0 none 0 none 0 none 0 :=
  ⟨_, _, _, _, ⟨⟨World.ownsRow_nil _ _ _ _, fun b hb => by simp [Value.ownBlock] at hb⟩, ⟨World.ownsRow_nil _ _ _ _, fun b hb => by simp [Value.ownBlock] at hb⟩, ⟨World.ownsRow_nil _ _ _ _, fun b hb => by simp [Value.ownBlock] at hb⟩,
    ⟨[], ⟨World.ownsRow_nil _ _ _ _, trivial, (fun _ h => by cases h), List.Pairwise.nil⟩, fun b hb => by
      rcases hb with hb | ⟨u, hu, _⟩
      · simp [Value.ownBlock] at hb
      · cases hu⟩, fun b hb => hb.elim False.elim fun hb => hb.elim False.elim fun hb => hb.elim False.elim False.elim⟩, ⟨fun _ h => h.elim, fun _ h => h.elim, fun _ h => h.elim, fun _ h => h.elim, fun _ h => h.elim, fun _ h => h.elim⟩, fun b hb => hb.elim id fun hb => hb.elim id fun hb => hb.elim id id⟩
theorem made_one (v : Value) (n : Nat) : (madeCells #[v] n).toList = List.replicate n v := by
  refine List.ext_getElem (by simp [size_madeCells]) fun i h1 h2 => ?_
  have h2' : i < n := by simpa using h2
  have key : (madeCells #[v] n)[i]? = some v := by
    have hm := Nat.mod_one i
    simp [madeCells, h2', hm]
  obtain ⟨hx, he⟩ := Array.getElem?_eq_some_iff.1 key
  rw [List.getElem_replicate, Array.getElem_toList, he]
theorem sx_end {w W : World} {n g1 g2 g3 : Nat} (hb : Below w.heap.size w W) (hn : n ≤ 1000) (h1 : Blk W g1 3 (madeCells #[.int .i64 0] n)) (h2 : Blk W g2 4 (madeCells #[.bool false] n)) (h3 : Blk W g3 3 (madeCells #[.int .i64 0] n))
    (d12 : g1 ≠ g2) (d13 : g1 ≠ g3) (d23 : g2 ≠ g3) (l1 : w.heap.size ≤ g1) (l2 : w.heap.size ≤ g2) (l3 : w.heap.size ≤ g3) :
    SxPost (st0 n) true w (.returned (.tuple #[.agg #[.slice (some ⟨g1, 0, none⟩) n n, .slice (some ⟨g2, 0, none⟩) n n, .slice (some ⟨g3, 0, none⟩) n n, .slice none 0 0], .bool true])) W := by
  have r1 := ElRow.of_blk (f := Value.int .i64) (base := 0) (l := List.replicate n (0 : Int)) h1 (Nat.zero_le _) (by rw [made_one, List.map_replicate]) (by rw [List.length_replicate]; omega)
  have r2 := ElRow.of_blk (f := Value.bool) (base := 0) (l := List.replicate n false) h2 (Nat.zero_le _) (by rw [made_one, List.map_replicate]) (by rw [List.length_replicate]; omega)
  have r3 := ElRow.of_blk (f := Value.int .i64) (base := 0) (l := List.replicate n (0 : Int)) h3 (Nat.zero_le _) (by rw [made_one, List.map_replicate]) (by rw [List.length_replicate]; omega)
  have k1 := h1.lt
  have k2 := h2.lt
  have k3 := h3.lt
  refine ⟨hb, some ⟨g1, 0, none⟩, n, some ⟨g2, 0, none⟩, n, some ⟨g3, 0, none⟩, n, none, 0, fun b => b = g1 ∨ b = g2 ∨ b = g3, by simp [st0], ⟨fun b => b = g1, fun b => b = g2, fun b => b = g3, fun _ => False, ⟨⟨?_, fun b hb => ?_⟩, ⟨?_, fun b hb => ?_⟩, ⟨?_, fun b hb => ?_⟩, ⟨[], ⟨World.ownsRow_nil _ _ _ _, trivial, (fun _ h => by cases h), List.Pairwise.nil⟩, fun b hb => ?_⟩, fun b hb => ?_⟩, ⟨fun b h1 h2 => ?_, fun b h1 h2 => ?_, fun b _ h2 => h2, fun b h1 h2 => ?_, fun b _ h2 => h2, fun b _ h2 => h2⟩, fun b hb => ?_⟩, fun b hb => ?_⟩
  · simpa [st0, NumRow, ElRow] using r1
  · simp only [Value.ownBlock, Option.some.injEq] at hb; exact hb.symm
  · simpa [st0, BoolRow, ElRow] using r2
  · simp only [Value.ownBlock, Option.some.injEq] at hb; exact hb.symm
  · simpa [st0, NumRow, ElRow] using r3
  · simp only [Value.ownBlock, Option.some.injEq] at hb; exact hb.symm
  · rcases hb with hb | ⟨u, hu, _⟩
    · simp [Value.ownBlock] at hb
    · cases hu
  · rcases hb with hb | hb | hb | hb
    · omega
    · omega
    · omega
    · exact hb.elim
  · omega
  · omega
  · omega
  · rcases hb with hb | hb | hb | hb
    · exact .inl hb
    · exact .inr (.inl hb)
    · exact .inr (.inr hb)
    · exact hb.elim
  · rcases hb with hb | hb | hb <;> (subst hb; constructor <;> assumption)
theorem three_blk (W : World) (g : Nat) (hs : W.heap.size = g) (c1 c2 c3 : Array Value) (t1 t2 t3 : TypeId) :
    (Blk (((W.alloc (.cells c1 t1)).alloc (.cells c2 t2)).alloc (.cells c3 t3)).drew g t1 c1 ∧ Blk (((W.alloc (.cells c1 t1)).alloc (.cells c2 t2)).alloc (.cells c3 t3)).drew (g + 1) t2 c2) ∧ Blk (((W.alloc (.cells c1 t1)).alloc (.cells c2 t2)).alloc (.cells c3 t3)).drew (g + 1 + 1) t3 c3 := by
  subst hs
  refine ⟨⟨((Blk.new W t1 c1).alloc _).alloc _, ?_⟩, ?_⟩
  · have := (Blk.new (W.alloc (.cells c1 t1)) t2 c2).alloc (.cells c3 t3); rw [World.size_alloc] at this; exact this
  · have := Blk.new ((W.alloc (.cells c1 t1)).alloc (.cells c2 t2)) t3 c3; rw [World.size_alloc, World.size_alloc] at this; exact this

theorem sx_fin {w w1 : World} (v0 v1 v2 v3 : Value) (c1 c2 c3 : Array Value) (t1 t2 t3 : TypeId) (hb : Below w.heap.size w w1) (hq : Blk w1 (w.heap.size + 1) 50 #[.slice none 0 0, .slice none 0 0, .slice none 0 0, .slice none 0 0]) :
    (Below w.heap.size w ((((((((w1.setCell ⟨w.heap.size + 1, 0, none⟩ v0).setCell ⟨w.heap.size + 1, 1, none⟩ v1).setCell ⟨w.heap.size + 1, 2, none⟩ v2).setCell ⟨w.heap.size + 1, 3, none⟩ v3)).alloc (.cells c1 t1)).alloc (.cells c2 t2)).alloc (.cells c3 t3)).drew ∧ Blk ((((((((w1.setCell ⟨w.heap.size + 1, 0, none⟩ v0).setCell ⟨w.heap.size + 1, 1, none⟩ v1).setCell ⟨w.heap.size + 1, 2, none⟩ v2).setCell ⟨w.heap.size + 1, 3, none⟩ v3)).alloc (.cells c1 t1)).alloc (.cells c2 t2)).alloc (.cells c3 t3)).drew w1.heap.size t1 c1) ∧ (Blk ((((((((w1.setCell ⟨w.heap.size + 1, 0, none⟩ v0).setCell ⟨w.heap.size + 1, 1, none⟩ v1).setCell ⟨w.heap.size + 1, 2, none⟩ v2).setCell ⟨w.heap.size + 1, 3, none⟩ v3)).alloc (.cells c1 t1)).alloc (.cells c2 t2)).alloc (.cells c3 t3)).drew (w1.heap.size + 1) t2 c2 ∧ Blk ((((((((w1.setCell ⟨w.heap.size + 1, 0, none⟩ v0).setCell ⟨w.heap.size + 1, 1, none⟩ v1).setCell ⟨w.heap.size + 1, 2, none⟩ v2).setCell ⟨w.heap.size + 1, 3, none⟩ v3)).alloc (.cells c1 t1)).alloc (.cells c2 t2)).alloc (.cells c3 t3)).drew (w1.heap.size + 1 + 1) t3 c3) ∧
      ((((((((w1.setCell ⟨w.heap.size + 1, 0, none⟩ v0).setCell ⟨w.heap.size + 1, 1, none⟩ v1).setCell ⟨w.heap.size + 1, 2, none⟩ v2).setCell ⟨w.heap.size + 1, 3, none⟩ v3)).alloc (.cells c1 t1)).alloc (.cells c2 t2)).alloc (.cells c3 t3)).drew.cell? ⟨w.heap.size + 1, 0, none⟩ = some v0 ∧ ((((((((w1.setCell ⟨w.heap.size + 1, 0, none⟩ v0).setCell ⟨w.heap.size + 1, 1, none⟩ v1).setCell ⟨w.heap.size + 1, 2, none⟩ v2).setCell ⟨w.heap.size + 1, 3, none⟩ v3)).alloc (.cells c1 t1)).alloc (.cells c2 t2)).alloc (.cells c3 t3)).drew.cell? ⟨w.heap.size + 1, 1, none⟩ = some v1 ∧ ((((((((w1.setCell ⟨w.heap.size + 1, 0, none⟩ v0).setCell ⟨w.heap.size + 1, 1, none⟩ v1).setCell ⟨w.heap.size + 1, 2, none⟩ v2).setCell ⟨w.heap.size + 1, 3, none⟩ v3)).alloc (.cells c1 t1)).alloc (.cells c2 t2)).alloc (.cells c3 t3)).drew.cell? ⟨w.heap.size + 1, 2, none⟩ = some v2 ∧ ((((((((w1.setCell ⟨w.heap.size + 1, 0, none⟩ v0).setCell ⟨w.heap.size + 1, 1, none⟩ v1).setCell ⟨w.heap.size + 1, 2, none⟩ v2).setCell ⟨w.heap.size + 1, 3, none⟩ v3)).alloc (.cells c1 t1)).alloc (.cells c2 t2)).alloc (.cells c3 t3)).drew.cell? ⟨w.heap.size + 1, 3, none⟩ = some v3 := by
  have hs := hb.size
  have q4 := (((hq.set_ 0 v0).set_ 1 v1).set_ 2 v2).set_ 3 v3
  have b4 := (((hb.setCell (p := ⟨w.heap.size + 1, 0, none⟩) (by simp) v0).setCell (p := ⟨w.heap.size + 1, 1, none⟩) (by simp) v1).setCell (p := ⟨w.heap.size + 1, 2, none⟩) (by simp) v2).setCell (p := ⟨w.heap.size + 1, 3, none⟩) (by simp) v3
  obtain ⟨W4, h4⟩ : ∃ W4, W4 = (((w1.setCell ⟨w.heap.size + 1, 0, none⟩ v0).setCell ⟨w.heap.size + 1, 1, none⟩ v1).setCell ⟨w.heap.size + 1, 2, none⟩ v2).setCell ⟨w.heap.size + 1, 3, none⟩ v3 := ⟨_, rfl⟩
  have hz : W4.heap.size = w1.heap.size := by rw [h4]; simp [World.setCell]
  rw [← h4] at q4 b4 ⊢
  have T := three_blk W4 w1.heap.size hz c1 c2 c3 t1 t2 t3
  have q5 := (((q4.alloc (.cells c1 t1)).alloc (.cells c2 t2)).alloc (.cells c3 t3)).drew
  refine ⟨⟨(((b4.alloc (by omega) _).alloc (by rw [World.size_alloc]; omega) _).alloc (by rw [World.size_alloc, World.size_alloc]; omega) _).drew, T.1.1⟩, ⟨T.1.2, T.2⟩, ?_, ?_, ?_, ?_⟩
  · rw [q5.cell 0]; rfl
  · rw [q5.cell 1]; rfl
  · rw [q5.cell 2]; rfl
  · rw [q5.cell 3]; rfl

set_option maxRecDepth 100000 in
set_option maxHeartbeats 8000000 in
theorem implStart_any (s : Sh) (w : World) (S : Nat → Prop) (a : Option Addr) (c : Nat) (a' : Option Addr) (c' : Nat) (h : ShAt w S s a c a' c') :
    Calls Try.prog 23 #[.agg #[.slice a s.m.length c, .slice a' s.t.length c']] w (SxPost (stS s) s.ok w) := by
  have hnl : s.m.length ≤ 9223372036854775807 := by have := h.1.1; have := h.1.2.1; omega
  obtain ⟨W, hW⟩ : ∃ W, W = (w.alloc (.cells #[.slice a s.m.length c, .slice a' s.t.length c'] 47)).alloc (.cells #[.slice none 0 0, .slice none 0 0, .slice none 0 0, .slice none 0 0] 50) := ⟨_, rfl⟩
  have HWW := Lib.hid hW
  have S0 := Lib.hid (show ShAt W S s a c a' c' by rw [hW]; exact (h.alloc _).alloc _)
  have B0 := Lib.hid (show Below w.heap.size w W by rw [hW]; exact ((Below.refl w.heap.size w).alloc (Nat.le_refl _) _).alloc (by simp) _)
  have P0 := Lib.hid (show Blk W w.heap.size 47 #[.slice a s.m.length c, .slice a' s.t.length c'] by rw [hW]; exact (Blk.new w 47 _).alloc _)
  have Q0 := Lib.hid (show Blk W (w.heap.size + 1) 50 #[.slice none 0 0, .slice none 0 0, .slice none 0 0, .slice none 0 0] by rw [hW]; have := Blk.new (w.alloc (.cells #[.slice a s.m.length c, .slice a' s.t.length c'] 47)) 50 #[.slice none 0 0, .slice none 0 0, .slice none 0 0, .slice none 0 0]; simpa using this)
  obtain ⟨p0, p1, -⟩ := P0.out.two
  rw [hW] at p0 p1
  clear h hW
  go_enter Try.func23, Try.ntmps23
  go_wp2_with fail
  rw [← HWW.out]
  clear p0 p1
  refine (implSheetOk_any s _ S a c a' c' S0.out).mono ?_
  rintro e w1 ⟨rfl, hb⟩
  have B1 := Lib.hid (B0.out.trans (hb.mono B0.out.size))
  have P1 := Lib.hid (P0.out.below hb P0.out.lt)
  have Q1 := Lib.hid (Q0.out.below hb Q0.out.lt)
  obtain ⟨p0, p1, -⟩ := P1.out.two
  obtain ⟨q0, q1, q2, q3, f0, f1, f2, f3⟩ := Q1.out.four
  have hltQ := Q1.out.lt
  clear hb S0 B0 P0 Q0
  cases hok : s.ok
  · have HO := Lib.hid hok
    have HR := Lib.hid (show stS s = ⟨[], [], [], []⟩ by unfold stS; rw [hok]; rfl)
    clear hok
    go_wp2_with fail
    refine bodyPost_ret (v := .tuple #[.agg #[.slice none 0 0, .slice none 0 0, .slice none 0 0, .slice none 0 0], .bool false]) (by simp [results, Try.results23, go_sem, q0, q1, q2, q3]) rfl ?_
    rw [HR.out, HO.out]
    exact ⟨(((B1.out.setCell (by simp) _).setCell (by simp) _).setCell (by simp) _).setCell (by simp) _, none, 0, none, 0, none, 0, none, 0, fun _ => False, rfl, st_none _, fun _ h => h.elim⟩
  · have hn10 := (Sh.ok_iff.1 hok).1
    have HR := Lib.hid (show stS s = st0 s.m.length by unfold stS; rw [hok]; rfl)
    obtain ⟨n, hn⟩ : ∃ n, n = s.m.length := ⟨_, rfl⟩
    rw [← hn] at HR hn10 p0
    obtain ⟨i0, hi, hz0, hz1, hz2⟩ := info_parts infoInt
    have hmk := fun W => run_make_rowN (P := Try.prog) 26 3 i0 _ Try.underlying26 hi hz0 .i64 .i64 n n (Nat.le_refl _) (by rw [hz2]; omega) (by omega) W
    rw [hz1] at hmk
    obtain ⟨j0, hj, hy0, hy1, hy2⟩ := info_parts infoBool
    have hmb := fun W => run_make_rowN (P := Try.prog) 44 4 j0 _ Try.underlying44 hj hy0 .i64 .i64 n n (Nat.le_refl _) (by rw [hy2]; omega) (by omega) W
    rw [hy1] at hmb
    have HO := Lib.hid hok
    have k0 : ∀ o1 o2 o3 : Obj, (((w1.alloc o1).alloc o2).alloc o3).cell? ⟨w.heap.size + 1, 0, none⟩ = some (.slice none 0 0) := fun o1 o2 o3 => (((Q1.out.alloc o1).alloc o2).alloc o3).four.1
    have k1 : ∀ o1 o2 o3 : Obj, (((w1.alloc o1).alloc o2).alloc o3).cell? ⟨w.heap.size + 1, 1, none⟩ = some (.slice none 0 0) := fun o1 o2 o3 => (((Q1.out.alloc o1).alloc o2).alloc o3).four.2.1
    have k2 : ∀ o1 o2 o3 : Obj, (((w1.alloc o1).alloc o2).alloc o3).cell? ⟨w.heap.size + 1, 2, none⟩ = some (.slice none 0 0) := fun o1 o2 o3 => (((Q1.out.alloc o1).alloc o2).alloc o3).four.2.2.1
    have k3 : ∀ o1 o2 o3 : Obj, (((w1.alloc o1).alloc o2).alloc o3).cell? ⟨w.heap.size + 1, 3, none⟩ = some (.slice none 0 0) := fun o1 o2 o3 => (((Q1.out.alloc o1).alloc o2).alloc o3).four.2.2.2.1
    have m0 : ∀ o1 o2 o3 : Obj, (((w1.alloc o1).alloc o2).alloc o3).frozen? ⟨w.heap.size + 1, 0, none⟩ = false := fun o1 o2 o3 => (((Q1.out.alloc o1).alloc o2).alloc o3).four.2.2.2.2.1
    have m1 : ∀ o1 o2 o3 : Obj, (((w1.alloc o1).alloc o2).alloc o3).frozen? ⟨w.heap.size + 1, 1, none⟩ = false := fun o1 o2 o3 => (((Q1.out.alloc o1).alloc o2).alloc o3).four.2.2.2.2.2.1
    have m2 : ∀ o1 o2 o3 : Obj, (((w1.alloc o1).alloc o2).alloc o3).frozen? ⟨w.heap.size + 1, 2, none⟩ = false := fun o1 o2 o3 => (((Q1.out.alloc o1).alloc o2).alloc o3).four.2.2.2.2.2.2.1
    have m3 : ∀ o1 o2 o3 : Obj, (((w1.alloc o1).alloc o2).alloc o3).frozen? ⟨w.heap.size + 1, 3, none⟩ = false := fun o1 o2 o3 => (((Q1.out.alloc o1).alloc o2).alloc o3).four.2.2.2.2.2.2.2
    have l0 : w.heap.size + 1 ≠ w1.heap.size := by omega
    have l1 : w.heap.size + 1 < w1.heap.size + 1 := by omega
    have l2 : w.heap.size + 1 < w1.heap.size + 1 + 1 := by omega
    have l3 : w.heap.size + 1 ≠ w1.heap.size + 1 := by omega
    have l4 : w.heap.size + 1 ≠ w1.heap.size + 1 + 1 := by omega
    clear hok hn
    go_wp2_with fail
    have hB1 := B1.out.size
    go_region
    all_goals go_wp2_with fail
    all_goals
      first
      | (with_reducible show bodyPost Try.prog Try.f23 _ _ _ (((((((w1.setCell ⟨w.heap.size + 1, 0, none⟩ (.slice (some ⟨w1.heap.size, 0, none⟩) n n)).setCell ⟨w.heap.size + 1, 1, none⟩ (.slice (some ⟨w1.heap.size + 1, 0, none⟩) n n)).setCell ⟨w.heap.size + 1, 2, none⟩ (.slice (some ⟨w1.heap.size + 1 + 1, 0, none⟩) n n)).setCell ⟨w.heap.size + 1, 3, none⟩ (.slice none 0 0)).alloc (.cells (madeCells #[.int .i64 0] n) 3)).alloc (.cells (madeCells #[.bool false] n) 4)).alloc (.cells (madeCells #[.int .i64 0] n) 3)).drew; obtain ⟨⟨hbW, b0⟩, ⟨b1, b2⟩, e0, e1, e2, e3⟩ := sx_fin (.slice (some ⟨w1.heap.size, 0, none⟩) n n) (.slice (some ⟨w1.heap.size + 1, 0, none⟩) n n) (.slice (some ⟨w1.heap.size + 1 + 1, 0, none⟩) n n) (.slice none 0 0) _ _ _ _ _ _ B1.out Q1.out; obtain ⟨W', hW'⟩ : ∃ W', W' = (((((((w1.setCell ⟨w.heap.size + 1, 0, none⟩ (.slice (some ⟨w1.heap.size, 0, none⟩) n n)).setCell ⟨w.heap.size + 1, 1, none⟩ (.slice (some ⟨w1.heap.size + 1, 0, none⟩) n n)).setCell ⟨w.heap.size + 1, 2, none⟩ (.slice (some ⟨w1.heap.size + 1 + 1, 0, none⟩) n n)).setCell ⟨w.heap.size + 1, 3, none⟩ (.slice none 0 0)).alloc (.cells (madeCells #[.int .i64 0] n) 3)).alloc (.cells (madeCells #[.bool false] n) 4)).alloc (.cells (madeCells #[.int .i64 0] n) 3)).drew := ⟨_, rfl⟩; rw [← hW'] at hbW b0 b1 b2 e0 e1 e2 e3 ⊢; clear hW'; refine bodyPost_ret (v := .tuple #[.agg #[.slice (some ⟨w1.heap.size, 0, none⟩) n n, .slice (some ⟨w1.heap.size + 1, 0, none⟩) n n, .slice (some ⟨w1.heap.size + 1 + 1, 0, none⟩) n n, .slice none 0 0], .bool true]) (by simp [results, Try.results23, go_sem, e0, e1, e2, e3]) rfl ?_; rw [HR.out, HO.out]; exact sx_end hbW (by omega) b0 b1 b2 (by omega) (by omega) (by omega) (by omega) (by omega) (by omega))
      | (with_reducible show bodyPost Try.prog Try.f23 _ _ _ (((((((w1.setCell ⟨w.heap.size + 1, 0, none⟩ (.slice (some ⟨w1.heap.size, 0, none⟩) n n)).setCell ⟨w.heap.size + 1, 1, none⟩ (.slice (some ⟨w1.heap.size + 1 + 1, 0, none⟩) n n)).setCell ⟨w.heap.size + 1, 2, none⟩ (.slice (some ⟨w1.heap.size + 1, 0, none⟩) n n)).setCell ⟨w.heap.size + 1, 3, none⟩ (.slice none 0 0)).alloc (.cells (madeCells #[.int .i64 0] n) 3)).alloc (.cells (madeCells #[.int .i64 0] n) 3)).alloc (.cells (madeCells #[.bool false] n) 4)).drew; obtain ⟨⟨hbW, b0⟩, ⟨b1, b2⟩, e0, e1, e2, e3⟩ := sx_fin (.slice (some ⟨w1.heap.size, 0, none⟩) n n) (.slice (some ⟨w1.heap.size + 1 + 1, 0, none⟩) n n) (.slice (some ⟨w1.heap.size + 1, 0, none⟩) n n) (.slice none 0 0) _ _ _ _ _ _ B1.out Q1.out; obtain ⟨W', hW'⟩ : ∃ W', W' = (((((((w1.setCell ⟨w.heap.size + 1, 0, none⟩ (.slice (some ⟨w1.heap.size, 0, none⟩) n n)).setCell ⟨w.heap.size + 1, 1, none⟩ (.slice (some ⟨w1.heap.size + 1 + 1, 0, none⟩) n n)).setCell ⟨w.heap.size + 1, 2, none⟩ (.slice (some ⟨w1.heap.size + 1, 0, none⟩) n n)).setCell ⟨w.heap.size + 1, 3, none⟩ (.slice none 0 0)).alloc (.cells (madeCells #[.int .i64 0] n) 3)).alloc (.cells (madeCells #[.int .i64 0] n) 3)).alloc (.cells (madeCells #[.bool false] n) 4)).drew := ⟨_, rfl⟩; rw [← hW'] at hbW b0 b1 b2 e0 e1 e2 e3 ⊢; clear hW'; refine bodyPost_ret (v := .tuple #[.agg #[.slice (some ⟨w1.heap.size, 0, none⟩) n n, .slice (some ⟨w1.heap.size + 1 + 1, 0, none⟩) n n, .slice (some ⟨w1.heap.size + 1, 0, none⟩) n n, .slice none 0 0], .bool true]) (by simp [results, Try.results23, go_sem, e0, e1, e2, e3]) rfl ?_; rw [HR.out, HO.out]; exact sx_end hbW (by omega) b0 b2 b1 (by omega) (by omega) (by omega) (by omega) (by omega) (by omega))
      | (with_reducible show bodyPost Try.prog Try.f23 _ _ _ (((((((w1.setCell ⟨w.heap.size + 1, 0, none⟩ (.slice (some ⟨w1.heap.size + 1, 0, none⟩) n n)).setCell ⟨w.heap.size + 1, 1, none⟩ (.slice (some ⟨w1.heap.size, 0, none⟩) n n)).setCell ⟨w.heap.size + 1, 2, none⟩ (.slice (some ⟨w1.heap.size + 1 + 1, 0, none⟩) n n)).setCell ⟨w.heap.size + 1, 3, none⟩ (.slice none 0 0)).alloc (.cells (madeCells #[.bool false] n) 4)).alloc (.cells (madeCells #[.int .i64 0] n) 3)).alloc (.cells (madeCells #[.int .i64 0] n) 3)).drew; obtain ⟨⟨hbW, b0⟩, ⟨b1, b2⟩, e0, e1, e2, e3⟩ := sx_fin (.slice (some ⟨w1.heap.size + 1, 0, none⟩) n n) (.slice (some ⟨w1.heap.size, 0, none⟩) n n) (.slice (some ⟨w1.heap.size + 1 + 1, 0, none⟩) n n) (.slice none 0 0) _ _ _ _ _ _ B1.out Q1.out; obtain ⟨W', hW'⟩ : ∃ W', W' = (((((((w1.setCell ⟨w.heap.size + 1, 0, none⟩ (.slice (some ⟨w1.heap.size + 1, 0, none⟩) n n)).setCell ⟨w.heap.size + 1, 1, none⟩ (.slice (some ⟨w1.heap.size, 0, none⟩) n n)).setCell ⟨w.heap.size + 1, 2, none⟩ (.slice (some ⟨w1.heap.size + 1 + 1, 0, none⟩) n n)).setCell ⟨w.heap.size + 1, 3, none⟩ (.slice none 0 0)).alloc (.cells (madeCells #[.bool false] n) 4)).alloc (.cells (madeCells #[.int .i64 0] n) 3)).alloc (.cells (madeCells #[.int .i64 0] n) 3)).drew := ⟨_, rfl⟩; rw [← hW'] at hbW b0 b1 b2 e0 e1 e2 e3 ⊢; clear hW'; refine bodyPost_ret (v := .tuple #[.agg #[.slice (some ⟨w1.heap.size + 1, 0, none⟩) n n, .slice (some ⟨w1.heap.size, 0, none⟩) n n, .slice (some ⟨w1.heap.size + 1 + 1, 0, none⟩) n n, .slice none 0 0], .bool true]) (by simp [results, Try.results23, go_sem, e0, e1, e2, e3]) rfl ?_; rw [HR.out, HO.out]; exact sx_end hbW (by omega) b1 b0 b2 (by omega) (by omega) (by omega) (by omega) (by omega) (by omega))
      | (with_reducible show bodyPost Try.prog Try.f23 _ _ _ (((((((w1.setCell ⟨w.heap.size + 1, 0, none⟩ (.slice (some ⟨w1.heap.size + 1, 0, none⟩) n n)).setCell ⟨w.heap.size + 1, 1, none⟩ (.slice (some ⟨w1.heap.size + 1 + 1, 0, none⟩) n n)).setCell ⟨w.heap.size + 1, 2, none⟩ (.slice (some ⟨w1.heap.size, 0, none⟩) n n)).setCell ⟨w.heap.size + 1, 3, none⟩ (.slice none 0 0)).alloc (.cells (madeCells #[.int .i64 0] n) 3)).alloc (.cells (madeCells #[.int .i64 0] n) 3)).alloc (.cells (madeCells #[.bool false] n) 4)).drew; obtain ⟨⟨hbW, b0⟩, ⟨b1, b2⟩, e0, e1, e2, e3⟩ := sx_fin (.slice (some ⟨w1.heap.size + 1, 0, none⟩) n n) (.slice (some ⟨w1.heap.size + 1 + 1, 0, none⟩) n n) (.slice (some ⟨w1.heap.size, 0, none⟩) n n) (.slice none 0 0) _ _ _ _ _ _ B1.out Q1.out; obtain ⟨W', hW'⟩ : ∃ W', W' = (((((((w1.setCell ⟨w.heap.size + 1, 0, none⟩ (.slice (some ⟨w1.heap.size + 1, 0, none⟩) n n)).setCell ⟨w.heap.size + 1, 1, none⟩ (.slice (some ⟨w1.heap.size + 1 + 1, 0, none⟩) n n)).setCell ⟨w.heap.size + 1, 2, none⟩ (.slice (some ⟨w1.heap.size, 0, none⟩) n n)).setCell ⟨w.heap.size + 1, 3, none⟩ (.slice none 0 0)).alloc (.cells (madeCells #[.int .i64 0] n) 3)).alloc (.cells (madeCells #[.int .i64 0] n) 3)).alloc (.cells (madeCells #[.bool false] n) 4)).drew := ⟨_, rfl⟩; rw [← hW'] at hbW b0 b1 b2 e0 e1 e2 e3 ⊢; clear hW'; refine bodyPost_ret (v := .tuple #[.agg #[.slice (some ⟨w1.heap.size + 1, 0, none⟩) n n, .slice (some ⟨w1.heap.size + 1 + 1, 0, none⟩) n n, .slice (some ⟨w1.heap.size, 0, none⟩) n n, .slice none 0 0], .bool true]) (by simp [results, Try.results23, go_sem, e0, e1, e2, e3]) rfl ?_; rw [HR.out, HO.out]; exact sx_end hbW (by omega) b1 b2 b0 (by omega) (by omega) (by omega) (by omega) (by omega) (by omega))
      | (with_reducible show bodyPost Try.prog Try.f23 _ _ _ (((((((w1.setCell ⟨w.heap.size + 1, 0, none⟩ (.slice (some ⟨w1.heap.size + 1 + 1, 0, none⟩) n n)).setCell ⟨w.heap.size + 1, 1, none⟩ (.slice (some ⟨w1.heap.size, 0, none⟩) n n)).setCell ⟨w.heap.size + 1, 2, none⟩ (.slice (some ⟨w1.heap.size + 1, 0, none⟩) n n)).setCell ⟨w.heap.size + 1, 3, none⟩ (.slice none 0 0)).alloc (.cells (madeCells #[.bool false] n) 4)).alloc (.cells (madeCells #[.int .i64 0] n) 3)).alloc (.cells (madeCells #[.int .i64 0] n) 3)).drew; obtain ⟨⟨hbW, b0⟩, ⟨b1, b2⟩, e0, e1, e2, e3⟩ := sx_fin (.slice (some ⟨w1.heap.size + 1 + 1, 0, none⟩) n n) (.slice (some ⟨w1.heap.size, 0, none⟩) n n) (.slice (some ⟨w1.heap.size + 1, 0, none⟩) n n) (.slice none 0 0) _ _ _ _ _ _ B1.out Q1.out; obtain ⟨W', hW'⟩ : ∃ W', W' = (((((((w1.setCell ⟨w.heap.size + 1, 0, none⟩ (.slice (some ⟨w1.heap.size + 1 + 1, 0, none⟩) n n)).setCell ⟨w.heap.size + 1, 1, none⟩ (.slice (some ⟨w1.heap.size, 0, none⟩) n n)).setCell ⟨w.heap.size + 1, 2, none⟩ (.slice (some ⟨w1.heap.size + 1, 0, none⟩) n n)).setCell ⟨w.heap.size + 1, 3, none⟩ (.slice none 0 0)).alloc (.cells (madeCells #[.bool false] n) 4)).alloc (.cells (madeCells #[.int .i64 0] n) 3)).alloc (.cells (madeCells #[.int .i64 0] n) 3)).drew := ⟨_, rfl⟩; rw [← hW'] at hbW b0 b1 b2 e0 e1 e2 e3 ⊢; clear hW'; refine bodyPost_ret (v := .tuple #[.agg #[.slice (some ⟨w1.heap.size + 1 + 1, 0, none⟩) n n, .slice (some ⟨w1.heap.size, 0, none⟩) n n, .slice (some ⟨w1.heap.size + 1, 0, none⟩) n n, .slice none 0 0], .bool true]) (by simp [results, Try.results23, go_sem, e0, e1, e2, e3]) rfl ?_; rw [HR.out, HO.out]; exact sx_end hbW (by omega) b2 b0 b1 (by omega) (by omega) (by omega) (by omega) (by omega) (by omega))
      | (with_reducible show bodyPost Try.prog Try.f23 _ _ _ (((((((w1.setCell ⟨w.heap.size + 1, 0, none⟩ (.slice (some ⟨w1.heap.size + 1 + 1, 0, none⟩) n n)).setCell ⟨w.heap.size + 1, 1, none⟩ (.slice (some ⟨w1.heap.size + 1, 0, none⟩) n n)).setCell ⟨w.heap.size + 1, 2, none⟩ (.slice (some ⟨w1.heap.size, 0, none⟩) n n)).setCell ⟨w.heap.size + 1, 3, none⟩ (.slice none 0 0)).alloc (.cells (madeCells #[.int .i64 0] n) 3)).alloc (.cells (madeCells #[.bool false] n) 4)).alloc (.cells (madeCells #[.int .i64 0] n) 3)).drew; obtain ⟨⟨hbW, b0⟩, ⟨b1, b2⟩, e0, e1, e2, e3⟩ := sx_fin (.slice (some ⟨w1.heap.size + 1 + 1, 0, none⟩) n n) (.slice (some ⟨w1.heap.size + 1, 0, none⟩) n n) (.slice (some ⟨w1.heap.size, 0, none⟩) n n) (.slice none 0 0) _ _ _ _ _ _ B1.out Q1.out; obtain ⟨W', hW'⟩ : ∃ W', W' = (((((((w1.setCell ⟨w.heap.size + 1, 0, none⟩ (.slice (some ⟨w1.heap.size + 1 + 1, 0, none⟩) n n)).setCell ⟨w.heap.size + 1, 1, none⟩ (.slice (some ⟨w1.heap.size + 1, 0, none⟩) n n)).setCell ⟨w.heap.size + 1, 2, none⟩ (.slice (some ⟨w1.heap.size, 0, none⟩) n n)).setCell ⟨w.heap.size + 1, 3, none⟩ (.slice none 0 0)).alloc (.cells (madeCells #[.int .i64 0] n) 3)).alloc (.cells (madeCells #[.bool false] n) 4)).alloc (.cells (madeCells #[.int .i64 0] n) 3)).drew := ⟨_, rfl⟩; rw [← hW'] at hbW b0 b1 b2 e0 e1 e2 e3 ⊢; clear hW'; refine bodyPost_ret (v := .tuple #[.agg #[.slice (some ⟨w1.heap.size + 1 + 1, 0, none⟩) n n, .slice (some ⟨w1.heap.size + 1, 0, none⟩) n n, .slice (some ⟨w1.heap.size, 0, none⟩) n n, .slice none 0 0], .bool true]) (by simp [results, Try.results23, go_sem, e0, e1, e2, e3]) rfl ?_; rw [HR.out, HO.out]; exact sx_end hbW (by omega) b2 b1 b0 (by omega) (by omega) (by omega) (by omega) (by omega) (by omega))
end Go.Proofs.Ytjbggeeadodmpaa
