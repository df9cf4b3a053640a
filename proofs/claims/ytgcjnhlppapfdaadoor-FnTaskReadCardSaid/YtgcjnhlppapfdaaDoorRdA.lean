/- impl.taskReader.group: any other byte; all cases together; the whole reader -/
import Derived.Test.YtgcjnhlppapfdaaDoorRdG2
import Derived.Test.YtgcjnhlppapfdaaDoorRdG3
import Derived.Test.YtgcjnhlppapfdaaDoorRdG4
import Derived.Test.YtgcjnhlppapfdaaDoorRdG5
namespace Go.Proofs.YtgcjnhlppapfdaaDoor
open Go.RowKit Go.Lib

set_option maxHeartbeats 1000000 in
theorem group_no (f : Nat) (w : World) (g p left : Nat) (s : ByteArray) (h : RrAt w g s p left) (hp : p ≤ s.size) (hs : s.size ≤ 1048576) (h43 : at_ s p ≠ 43) (h42 : at_ s p ≠ 42) (h63 : at_ s p ≠ 63) (h64 : at_ s p ≠ 64) :
    Calls Tryd.prog 30 #[.pointer (some ⟨g, 0, none⟩)] w (RdPost w g s (groupP (fun j l => taskP f s j l) s p left)) := by
  have hgl := h.lt
  have H0 := Lib.hid (And.intro ((h.alloc (.cells #[.int .i64 0, .int .i64 0, .slice none 0 0] 25)).alloc (.cells #[.int .i64 0, .int .i64 0, .slice none 0 0] 25)) (((Only.refl g w).alloc (.cells #[.int .i64 0, .int .i64 0, .slice none 0 0] 25)).alloc (.cells #[.int .i64 0, .int .i64 0, .slice none 0 0] 25)))
  have HR0 := Lib.hid ((Blk.new w 25 #[.int .i64 0, .int .i64 0, .slice none 0 0]).alloc (.cells #[.int .i64 0, .int .i64 0, .slice none 0 0] 25))
  have hgr : groupP (fun j l => taskP f s j l) s p left = none := by unfold groupP headP; rw [if_neg h43, if_neg h42, if_neg h63, if_neg h64]
  have HGR := Lib.hid hgr
  obtain ⟨c, hc⟩ : ∃ c, c = tookB s p := ⟨_, rfl⟩
  have hcn : c ≠ 43 ∧ c ≠ 42 ∧ c ≠ 63 ∧ c ≠ 64 := by rw [hc]; unfold tookB; split <;> omega
  have HCC := Lib.hid hc
  have e43 : ((c : Int) == 43) = false := by simp; omega
  have e42 : ((c : Int) == 42) = false := by simp; omega
  have e63 : ((c : Int) == 63) = false := by simp; omega
  have e64 : ((c : Int) == 64) = false := by simp; omega
  clear h hgr hc h43 h42 h63 h64 hcn
  go_enter Tryd.func30, Tryd.ntmps30
  go_wp2_with fail
  refine (take_any _ g p left s H0.out.1 hp hs).mono ?_
  rintro e w1 ⟨rfl, hr1, ho1⟩
  rw [← HCC.out]
  have H1 := Lib.hid (And.intro hr1 (H0.out.2.trans ho1))
  have hs1 := ho1.size
  simp only [World.size_alloc] at hs1
  have HR1 := Lib.hid (HR0.out.only ho1 (by omega))
  obtain ⟨y0, y1, y2, g0, g1, g2⟩ := HR1.out.three
  clear hr1 ho1 H0 HR0
  go_wp2_with fail
  have hb5 := ((HR1.out.set_ 0 (.int .i64 0)).set_ 1 (.int .i64 0)).set_ 2 (.slice none 0 0)
  obtain ⟨z0, z1, z2, _, _, _⟩ := (show Blk _ w.heap.size 25 #[.int .i64 0, .int .i64 0, .slice none 0 0] from hb5).three
  refine bodyPost_ret (v := .tuple #[.agg #[.int .i64 0, .int .i64 0, .slice none 0 0], .bool false]) (by simp only [results, Tryd.results30]; simp [go_sem, z0, z1, z2]) rfl ?_
  refine ⟨box_only H1.out.2 _ _ _, ?_⟩
  rw [HGR.out]
  exact ⟨⟨0, 0, none, 0, 0, rfl⟩, _, _, box_rr hgl H1.out.1 _ _ _⟩

theorem grp_of (f : Nat) (hT : TskT f) : GrpT f := by
  intro w g p left s h hp hs hl hl2
  by_cases h43 : at_ s p = 43
  · exact group_2 f hT w g p left s h hp hs hl hl2 h43
  by_cases h42 : at_ s p = 42
  · exact group_3 f hT w g p left s h hp hs hl hl2 h42
  by_cases h63 : at_ s p = 63
  · exact group_4 f hT w g p left s h hp hs hl hl2 h63
  by_cases h64 : at_ s p = 64
  · exact group_5 f hT w g p left s h hp hs hl hl2 h64
  exact group_no f w g p left s h hp hs h43 h42 h63 h64

theorem task_any0 (w : World) (g p : Nat) (s : ByteArray) (h : RrAt w g s p 0) :
    Calls Tryd.prog 18 #[.pointer (some ⟨g, 0, none⟩)] w (RdPost w g s (taskP 0 s p 0)) := by
  have H := Lib.hid h
  have hgl := h.lt
  have hne : g ≠ w.heap.size := by omega
  obtain ⟨x0, x1, x2, f0, f1, f2⟩ := Blk.three h
  clear h
  have hd : ((0 : Int) == 0) = true := rfl
  go_enter Tryd.func18, Tryd.ntmps18
  go_wp2_with fail
  go_quiet (fail)
  go_wp2_with fail
  refine bodyPost_ret (v := .tuple #[.agg #[.int .i64 0, .int .i64 0, .slice none 0 0], .bool false]) (by simp [results, Tryd.results18, go_sem]) rfl ?_
  exact rdPost_none (by simp [taskP]) hgl (((Only.refl g w).alloc _).drewN _) ((H.out.alloc _).drewN _)
theorem tsk_zero : TskT 0 := by
  intro w g p left s h hp hs hl _
  obtain rfl : left = 0 := by omega
  have h1 := task_any0 w g p s h
  exact h1
theorem tsk_all : ∀ f, TskT f
  | 0 => tsk_zero
  | f + 1 => task_of f (grp_of f (tsk_all f))

/-- What TaskRead reads. -/
def readP (s : ByteArray) : Option T := match taskP 15 s 0 15 with
  | some (t, j, _) => if j = s.size then some t else none
  | none => none

def ReadPost (w : World) (r : Option T) (e : Ending) (w' : World) : Prop := Below w.heap.size w w' ∧ match r with
  | some t => ∃ a c, e = .returned (.tuple #[.agg #[.int .i64 t.k, .int .i64 t.n, .slice a t.ps.length c], .bool true]) ∧ AtS w' (fun b => w.heap.size ≤ b ∧ b < w'.heap.size) t.ps a c
  | none => e = .returned (.tuple #[.agg #[.int .i64 0, .int .i64 0, .slice none 0 0], .bool false])

set_option maxHeartbeats 1000000 in
theorem read_any (w : World) (s : ByteArray) (hs : s.size ≤ 1048576) : Calls Tryd.prog 8 #[.string s] w (ReadPost w (readP s)) := by
  have HR0 := Lib.hid ((Blk.new w 25 #[.int .i64 0, .int .i64 0, .slice none 0 0]).alloc (.cells #[.string s, .int .i64 0, .int .i64 15] 39))
  have hB := Blk.new (w.alloc (.cells #[.int .i64 0, .int .i64 0, .slice none 0 0] 25)) 39 #[.string s, .int .i64 0, .int .i64 15]
  rw [World.size_alloc] at hB
  have HG0 := Lib.hid (show RrAt _ (w.heap.size + 1) s 0 15 from hB)
  clear hB
  go_enter Tryd.func8, Tryd.ntmps8
  go_wp2_with fail
  refine (tsk_all 15 _ (w.heap.size + 1) 0 15 s HG0.out (by omega) hs (by omega) (by omega)).mono ?_
  rintro e w1 hpost
  obtain ⟨ho1, ⟨t, j, l, a, c, hr, rfl, hR1, hj, hat⟩ | ⟨hr, kk, nn, aa, mm, cc, q, ql, rfl, hR1⟩⟩ := hpost.split
  · have hsz1 := ho1.size
    simp only [World.size_alloc] at hsz1
    have hlt1 : w.heap.size + 1 < w1.heap.size := by omega
    have hlt0 : w.heap.size < w1.heap.size := by omega
    have hlt0' : w.heap.size ≠ w1.heap.size := by omega
    have hb1 : Below w.heap.size w w1 := (((Below.refl w.heap.size w).alloc (Nat.le_refl _) (.cells #[.int .i64 0, .int .i64 0, .slice none 0 0] 25)).alloc (by simp) (.cells #[.string s, .int .i64 0, .int .i64 15] 39)).trans ⟨ho1.os, ho1.tape, ho1.output, ho1.size, fun k hk => ho1.block k (by simp; omega) (by intro e; injection e; omega)⟩
    have hr0 := HR0.out.only ho1 (by omega)
    have H1 := Lib.hid (And.intro hb1 (And.intro hat hr0))
    obtain ⟨x0, x1, x2, f0, f1, f2⟩ := Blk.three hR1
    obtain ⟨y0, y1, y2, g0, g1, g2⟩ := hr0.three
    have HN := Lib.hid hr
    clear hpost ho1 hr hR1 hat hb1 hr0 HR0 HG0 hsz1
    by_cases hjs : j = s.size
    · have hne : ((j : Int) != (s.size : Int)) = false := by simp [hjs]
      have hrd : readP s = some t := by unfold readP; rw [HN.out]; simp [hjs]
      have HRD := Lib.hid hrd
      clear hjs hrd
      go_wp2_with fail
      have hb5 := (((H1.out.2.2.set_ 0 (.int .i64 t.k)).set_ 1 (.int .i64 t.n)).set_ 2 (.slice a t.ps.length c)).alloc (.cells #[.int .i64 t.k, .int .i64 t.n, .slice a t.ps.length c] 25)
      obtain ⟨z0, z1, z2, _, _, _⟩ := (show Blk _ w.heap.size 25 #[.int .i64 t.k, .int .i64 t.n, .slice a t.ps.length c] from hb5).three
      refine bodyPost_ret (v := .tuple #[.agg #[.int .i64 t.k, .int .i64 t.n, .slice a t.ps.length c], .bool true]) (by simp only [results, Tryd.results8]; simp [go_sem, z0, z1, z2]) rfl ?_
      refine ⟨(((H1.out.1.setCell (Nat.le_refl _) _).setCell (Nat.le_refl _) _).setCell (Nat.le_refl _) _).alloc (by simp [World.setCell]; omega) _, ?_⟩
      rw [HRD.out]
      refine ⟨a, c, rfl, ?_⟩
      exact ((((H1.out.2.1.setCell (by intro b hb; simp at hb ⊢; omega) _).setCell (by intro b hb; simp at hb ⊢; omega) _).setCell (by intro b hb; simp at hb ⊢; omega) _).alloc _).weaken (by intro b hb; simp [World.setCell] at hb ⊢; omega)
    · have hne : ((j : Int) != (s.size : Int)) = true := by simp; omega
      have hrd : readP s = none := by unfold readP; rw [HN.out]; simp [hjs]
      have HRD := Lib.hid hrd
      clear hjs hrd
      go_wp2_with fail
      have hb5 := (((H1.out.2.2.set_ 0 (.int .i64 0)).set_ 1 (.int .i64 0)).set_ 2 (.slice none 0 0)).alloc (.cells #[.int .i64 t.k, .int .i64 t.n, .slice a t.ps.length c] 25)
      obtain ⟨z0, z1, z2, _, _, _⟩ := (show Blk _ w.heap.size 25 #[.int .i64 0, .int .i64 0, .slice none 0 0] from hb5).three
      refine bodyPost_ret (v := .tuple #[.agg #[.int .i64 0, .int .i64 0, .slice none 0 0], .bool false]) (by simp only [results, Tryd.results8]; simp [go_sem, z0, z1, z2]) rfl ?_
      refine ⟨(((H1.out.1.setCell (Nat.le_refl _) _).setCell (Nat.le_refl _) _).setCell (Nat.le_refl _) _).alloc (by simp [World.setCell]; omega) _, ?_⟩
      rw [HRD.out]
  · have hsz1 := ho1.size
    simp only [World.size_alloc] at hsz1
    have hlt1 : w.heap.size + 1 < w1.heap.size := by omega
    have hlt0 : w.heap.size < w1.heap.size := by omega
    have hlt0' : w.heap.size ≠ w1.heap.size := by omega
    have hb1 : Below w.heap.size w w1 := (((Below.refl w.heap.size w).alloc (Nat.le_refl _) (.cells #[.int .i64 0, .int .i64 0, .slice none 0 0] 25)).alloc (by simp) (.cells #[.string s, .int .i64 0, .int .i64 15] 39)).trans ⟨ho1.os, ho1.tape, ho1.output, ho1.size, fun k hk => ho1.block k (by simp; omega) (by intro e; injection e; omega)⟩
    have hr0 := HR0.out.only ho1 (by omega)
    have H1 := Lib.hid (And.intro hb1 hr0)
    obtain ⟨y0, y1, y2, g0, g1, g2⟩ := hr0.three
    have hrd : readP s = none := by unfold readP; rw [hr]
    have HRD := Lib.hid hrd
    clear hpost ho1 hr hR1 hb1 hr0 HR0 HG0 hsz1 hrd
    go_wp2_with fail
    have hb5 := (((H1.out.2.set_ 0 (.int .i64 0)).set_ 1 (.int .i64 0)).set_ 2 (.slice none 0 0)).alloc (.cells #[.int .i64 kk, .int .i64 nn, .slice aa mm cc] 25)
    obtain ⟨z0, z1, z2, _, _, _⟩ := (show Blk _ w.heap.size 25 #[.int .i64 0, .int .i64 0, .slice none 0 0] from hb5).three
    refine bodyPost_ret (v := .tuple #[.agg #[.int .i64 0, .int .i64 0, .slice none 0 0], .bool false]) (by simp only [results, Tryd.results8]; simp [go_sem, z0, z1, z2]) rfl ?_
    refine ⟨(((H1.out.1.setCell (Nat.le_refl _) _).setCell (Nat.le_refl _) _).setCell (Nat.le_refl _) _).alloc (by simp [World.setCell]; omega) _, ?_⟩
    rw [HRD.out]
end Go.Proofs.YtgcjnhlppapfdaaDoor
