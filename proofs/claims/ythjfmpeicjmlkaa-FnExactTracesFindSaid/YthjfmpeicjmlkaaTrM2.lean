/- impl.copyTrace, spec.l5Copy, impl.copyTraces, spec.l5All -/
import Derived.Test.YthjfmpeicjmlkaaTrM
namespace Go.Proofs.Ythjfmpeicjmlkaa
open Go.RowKit

set_option maxRecDepth 100000 in
set_option maxHeartbeats 4000000 in
theorem copyTrace_any (w : World) (S : Nat → Prop) (t : Tr) (a : Option Addr) (c : Nat) (h : PrsAt w S t.u a c) (hm : t.u.length ≤ 1000000) :
    Calls Try.prog 38 #[.agg #[.int .i64 t.k, .slice a t.u.length c, .int .i64 t.v]] w (CopiedTr t w) := by
  obtain ⟨W, hW⟩ : ∃ W, W = (w.alloc (.cells #[.int .i64 t.k, .slice a t.u.length c, .int .i64 t.v] 27)).alloc (.cells #[.int .i64 0, .slice none 0 0, .int .i64 0] 27) := ⟨_, rfl⟩
  have HWW := Lib.hid hW
  have hWs : W.heap.size = w.heap.size + 1 + 1 := by rw [hW]; simp
  have HSZ := Lib.hid hWs
  have HP := Lib.hid (show PrsAt W.drew S t.u a c by rw [hW]; exact ((h.alloc _).alloc _).drew)
  have B0 := Lib.hid (show Blk W.drew w.heap.size 27 #[.int .i64 t.k, .slice a t.u.length c, .int .i64 t.v] by rw [hW]; exact ((Blk.new w _ _).alloc _).drew)
  have B1 := Lib.hid (show Blk W.drew (w.heap.size + 1) 27 #[.int .i64 0, .slice none 0 0, .int .i64 0] by
    have := (Blk.new (w.alloc (.cells #[.int .i64 t.k, .slice a t.u.length c, .int .i64 t.v] 27)) 27 #[.int .i64 0, .slice none 0 0, .int .i64 0]).drew
    rw [hW]; simpa using this)
  have HB0 := Lib.hid (show Below w.heap.size w W.drew by rw [hW]; exact (((Below.refl _ _).alloc (Nat.le_refl _) _).alloc (by simp) _).drew)
  have HM := Lib.hid (show ([] : List (Int × Int)).length + t.u.length ≤ 10000000 by simp; omega)
  have HN0 := Lib.hid (show FRow W.drew W.heap.size (.slice none 0 0) ([] : List (Int × Int)).length (pcl []) from World.ownsRow_nil _ _ _ _)
  clear h hm hW hWs
  obtain ⟨x0, x1, x2, -⟩ := B0.out.three
  go_enter Try.func38, Try.ntmps38
  go_wp2_with fail
  rw [← HWW.out]
  go_region_held3 (fun w' => w'.cell? ⟨w.heap.size, 0, none⟩ = some (.int .i64 t.k) ∧ w'.cell? ⟨w.heap.size, 1, none⟩ = some (.slice a t.u.length c) ∧ w'.cell? ⟨w.heap.size, 2, none⟩ = some (.int .i64 t.v)) (first | exact ⟨x0, x1, x2⟩ | exact ⟨y0, y1, y2⟩ | go_keep) ((refine step_append_prs rfl (.const (.slice none 0 0)) (.tmp 6) rfl W.heap.size (.slice none 0 0) [] rfl HN0.out S t.u a c rfl HP.out HM.out (Nat.le_refl _) ?_; intro v1 w1 hr hgr hnw; obtain ⟨av, cv, rfl⟩ := own_shape' hr; have hb1 := below_grown (B := W.heap.size) hgr (Nat.le_refl _) (by intro k hk; simp [Value.ownBlock] at hk); obtain ⟨y0, y1, y2, -⟩ := (B0.out.below hb1 B0.out.lt).three; obtain ⟨z0, z1, z2, f0, f1, f2⟩ := (B1.out.below hb1 B1.out.lt).three))
  all_goals
    have HR := Lib.hid hr
    have HB := Lib.hid (HB0.out.trans (hb1.mono (by have := HSZ.out; omega)))
    clear hr hgr hnw hb1 x0 x1 x2 y0 y1 y2
    go_wp2_with fail
    refine bodyPost_ret (v := .agg #[.int .i64 t.k, .slice av ([] ++ t.u).length cv, .int .i64 t.v]) (by simp [results, Try.results38, go_sem, z0, z1, z2]) rfl ?_
    have hr := ownsRow_low HR.out (show w.heap.size + 1 + 1 ≤ W.heap.size by have := HSZ.out; omega)
    have hfr : Fr (fun b => b = w.heap.size + 1) w1 w1 := Fr.of_below (Below.refl _ _)
    refine ⟨_, rfl, ?_, ?_⟩
    · exact ownsRow_low (FRow.fr hr (((hfr.set' ⟨w.heap.size + 1, 0, none⟩ rfl _).set' ⟨w.heap.size + 1, 1, none⟩ rfl _).set' ⟨w.heap.size + 1, 2, none⟩ rfl _) (fun b hb => by omega)) (by omega)
    · exact ((HB.out.setCell (by simp) _).setCell (by simp) _).setCell (by simp) _

set_option maxRecDepth 100000 in
set_option maxHeartbeats 4000000 in
theorem l5Copy_any (w : World) (S : Nat → Prop) (t : Tr) (a : Option Addr) (c : Nat) (h : PrsAt w S t.u a c) (hm : t.u.length ≤ 1000000) :
    Calls Try.prog 32 #[.agg #[.int .i64 t.k, .slice a t.u.length c, .int .i64 t.v]] w (CopiedTr t w) := by
  obtain ⟨W, hW⟩ : ∃ W, W = (w.alloc (.cells #[.int .i64 t.k, .slice a t.u.length c, .int .i64 t.v] 27)).alloc (.cells #[.int .i64 0, .slice none 0 0, .int .i64 0] 27) := ⟨_, rfl⟩
  have HWW := Lib.hid hW
  have hWs : W.heap.size = w.heap.size + 1 + 1 := by rw [hW]; simp
  have HSZ := Lib.hid hWs
  have HP := Lib.hid (show PrsAt (W.drew.alloc (.cells #[] 95)) S t.u a c by rw [hW]; exact (((h.alloc _).alloc _).drew).alloc _)
  have B0 := Lib.hid (show Blk W.drew w.heap.size 27 #[.int .i64 t.k, .slice a t.u.length c, .int .i64 t.v] by rw [hW]; exact ((Blk.new w _ _).alloc _).drew)
  have B1 := Lib.hid (show Blk W.drew (w.heap.size + 1) 27 #[.int .i64 0, .slice none 0 0, .int .i64 0] by
    have := (Blk.new (w.alloc (.cells #[.int .i64 t.k, .slice a t.u.length c, .int .i64 t.v] 27)) 27 #[.int .i64 0, .slice none 0 0, .int .i64 0]).drew
    rw [hW]; simpa using this)
  have HB0 := Lib.hid (show Below w.heap.size w W.drew by rw [hW]; exact (((Below.refl _ _).alloc (Nat.le_refl _) _).alloc (by simp) _).drew)
  have HM := Lib.hid (show ([] : List (Int × Int)).length + t.u.length ≤ 10000000 by simp; omega)
  have HN0 := Lib.hid (show FRow (W.drew.alloc (.cells #[] 95)) W.heap.size (.slice (some ⟨W.heap.size, 0, none⟩) 0 0) ([] : List (Int × Int)).length (pcl []) from frow_nil W.drew)
  have HLE := Lib.hid (show W.heap.size ≤ (W.drew.alloc (.cells #[] 95)).heap.size by rw [World.size_alloc]; exact Nat.le_succ _)
  have HBA := Lib.hid (show Below W.heap.size W.drew (W.drew.alloc (.cells #[] 95)) from (Below.refl W.heap.size W.drew).alloc (show W.heap.size ≤ W.drew.heap.size from Nat.le_refl _) _)
  clear h hm hW hWs
  obtain ⟨x0, x1, x2, -⟩ := B0.out.three
  obtain ⟨u0, u1, u2, -⟩ := (B0.out.alloc (.cells #[] 95)).three
  go_enter Try.func32, Try.ntmps32
  go_wp2_with fail
  rw [← HWW.out]
  go_region_held3 (fun w' => w'.cell? ⟨w.heap.size, 0, none⟩ = some (.int .i64 t.k) ∧ w'.cell? ⟨w.heap.size, 1, none⟩ = some (.slice a t.u.length c) ∧ w'.cell? ⟨w.heap.size, 2, none⟩ = some (.int .i64 t.v)) (first | exact ⟨x0, x1, x2⟩ | exact ⟨u0, u1, u2⟩ | exact ⟨y0, y1, y2⟩ | go_keep) ((refine step_append_prs rfl (.tmp 5) (.tmp 7) rfl W.heap.size (.slice (some ⟨W.heap.size, 0, none⟩) 0 0) [] rfl HN0.out S t.u a c rfl HP.out HM.out HLE.out ?_; intro v1 w1 hr hgr hnw; obtain ⟨av, cv, rfl⟩ := own_shape' hr; have hb1 := HBA.out.trans (below_grown (B := W.heap.size) hgr HLE.out (by intro k hk; simp [Value.ownBlock] at hk; omega)); obtain ⟨y0, y1, y2, -⟩ := (B0.out.below hb1 B0.out.lt).three; obtain ⟨z0, z1, z2, f0, f1, f2⟩ := (B1.out.below hb1 B1.out.lt).three))
  all_goals
    have HR := Lib.hid hr
    have HB := Lib.hid (HB0.out.trans (hb1.mono (by have := HSZ.out; omega)))
    clear hr hgr hnw hb1 x0 x1 x2 y0 y1 y2 u0 u1 u2
    go_wp2_with fail
    refine bodyPost_ret (v := .agg #[.int .i64 t.k, .slice av ([] ++ t.u).length cv, .int .i64 t.v]) (by simp [results, Try.results32, go_sem, z0, z1, z2]) rfl ?_
    have hr := ownsRow_low HR.out (show w.heap.size + 1 + 1 ≤ W.heap.size by have := HSZ.out; omega)
    have hfr : Fr (fun b => b = w.heap.size + 1) w1 w1 := Fr.of_below (Below.refl _ _)
    refine ⟨_, rfl, ?_, ?_⟩
    · exact ownsRow_low (FRow.fr hr (((hfr.set' ⟨w.heap.size + 1, 0, none⟩ rfl _).set' ⟨w.heap.size + 1, 1, none⟩ rfl _).set' ⟨w.heap.size + 1, 2, none⟩ rfl _) (fun b hb => by omega)) (by omega)
    · exact ((HB.out.setCell (by simp) _).setCell (by simp) _).setCell (by simp) _

/-- What a copy of traces leaves. -/
def CopiedTrs (l : List Tr) (w : World) (e : Ending) (w' : World) : Prop := ∃ v us, e = .returned v ∧ TrsOw w' w.heap.size v (l.map Tr.raw) us ∧ Below w.heap.size w w'
def CtRel (w : World) (l : List Tr) (v i : Value) (wr : World) : Prop := ∃ (k : Nat) (us : List Value), k ≤ l.length ∧ i = .int .i64 k ∧ TrsOw wr w.heap.size v ((l.take k).map Tr.raw) us ∧ Below w.heap.size w wr

theorem trs_empty (w : World) (n : Nat) (cs : Array Value) (hcs : cs.size = 3 * n) (hn : n ≤ 9223372036854775807) : TrsOw (w.alloc (.cells cs 27)) w.heap.size (.slice (some ⟨w.heap.size, 0, none⟩) 0 n) [] [] :=
  ⟨⟨by simp [tcl], .inr ⟨w.heap.size, n, cs, rfl, Nat.le_refl _, heap_alloc_new w _, Nat.zero_le _, hn, by omega, by simp [tcl]⟩⟩, trivial, (fun _ h => by cases h), List.Pairwise.nil⟩

end Go.Proofs.Ythjfmpeicjmlkaa
