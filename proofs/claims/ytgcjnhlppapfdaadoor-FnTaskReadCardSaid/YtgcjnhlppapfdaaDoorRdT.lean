/- impl.taskReader.task, given group -/
import Derived.Test.YtgcjnhlppapfdaaDoorRdP
namespace Go.Proofs.YtgcjnhlppapfdaaDoor
open Go.RowKit Go.Lib

/-- What the reader's task and group leave. -/
def RdPost (w : World) (g : Nat) (s : ByteArray) (r : Option (T × Nat × Nat)) (e : Ending) (w' : World) : Prop :=
  Only g w w' ∧ match r with
    | some (t, j, l) => ∃ a c, e = .returned (.tuple #[.agg #[.int .i64 t.k, .int .i64 t.n, .slice a t.ps.length c], .bool true]) ∧ RrAt w' g s j l ∧ j ≤ s.size ∧ AtS w' (fun b => w.heap.size ≤ b ∧ b < w'.heap.size) t.ps a c
    | none => (∃ (k n : Int) (a : Option Addr) (m c : Nat), e = .returned (.tuple #[.agg #[.int .i64 k, .int .i64 n, .slice a m c], .bool false])) ∧ ∃ q l, RrAt w' g s q l

def GrpT (f : Nat) : Prop := ∀ (w : World) (g p left : Nat) (s : ByteArray), RrAt w g s p left → p ≤ s.size → s.size ≤ 1048576 → left ≤ f → left ≤ 1000 →
  Calls Tryd.prog 30 #[.pointer (some ⟨g, 0, none⟩)] w (RdPost w g s (groupP (fun j l => taskP f s j l) s p left))
def TskT (f : Nat) : Prop := ∀ (w : World) (g p left : Nat) (s : ByteArray), RrAt w g s p left → p ≤ s.size → s.size ≤ 1048576 → left ≤ f → left ≤ 1000 →
  Calls Tryd.prog 18 #[.pointer (some ⟨g, 0, none⟩)] w (RdPost w g s (taskP f s p left))

theorem RrAt.alloc {w : World} {g p left : Nat} {s : ByteArray} (h : RrAt w g s p left) (o : Obj) : RrAt (w.alloc o) g s p left := Blk.alloc h o
theorem RrAt.far {w : World} {g p left : Nat} {s : ByteArray} (h : RrAt w g s p left) {q : Addr} (hq : g ≠ q.block) (u : Value) : RrAt (w.setCell q u) g s p left := Blk.far h hq u
theorem RrAt.set_left {w : World} {g p left : Nat} {s : ByteArray} (h : RrAt w g s p left) (l : Nat) : RrAt (w.setCell ⟨g, 2, none⟩ (.int .i64 l)) g s p l := by
  have := Blk.set_ h 2 (.int .i64 l)
  simpa [RrAt] using this

/-- The result lies in a box of the call's own: three stores behind the reader's work. -/
theorem box_only {w w2 : World} {g : Nat} (ho : Only g w w2) (x y z : Value) : Only g w (((w2.setCell ⟨w.heap.size, 0, none⟩ x).setCell ⟨w.heap.size, 1, none⟩ y).setCell ⟨w.heap.size, 2, none⟩ z) :=
  ((ho.set (.inr (by simp)) _).set (.inr (by simp)) _).set (.inr (by simp)) _
theorem box_rr {w w2 : World} {g q l : Nat} {s : ByteArray} (hg : g < w.heap.size) (hR : RrAt w2 g s q l) (x y z : Value) : RrAt (((w2.setCell ⟨w.heap.size, 0, none⟩ x).setCell ⟨w.heap.size, 1, none⟩ y).setCell ⟨w.heap.size, 2, none⟩ z) g s q l :=
  ((hR.far (by simp; omega) _).far (by simp; omega) _).far (by simp; omega) _
theorem rdPost_none {w w2 : World} {g q l : Nat} {s : ByteArray} {r : Option (T × Nat × Nat)} {x y z : Value} {k n : Int} {a : Option Addr} {m c : Nat} (hr : r = none) (hg : g < w.heap.size) (ho : Only g w w2) (hR : RrAt w2 g s q l) :
    RdPost w g s r (.returned (.tuple #[.agg #[.int .i64 k, .int .i64 n, .slice a m c], .bool false])) (((w2.setCell ⟨w.heap.size, 0, none⟩ x).setCell ⟨w.heap.size, 1, none⟩ y).setCell ⟨w.heap.size, 2, none⟩ z) := by
  subst hr; exact ⟨box_only ho x y z, ⟨k, n, a, m, c, rfl⟩, q, l, box_rr hg hR x y z⟩
theorem rdPost_leaf {w w2 : World} {g q l : Nat} {s : ByteArray} {k n : Int} {r : Option (T × Nat × Nat)} {x y z : Value} (hr : r = some (.mk k n [], q, l)) (hg : g < w.heap.size) (hq : q ≤ s.size) (ho : Only g w w2) (hR : RrAt w2 g s q l) :
    RdPost w g s r (.returned (.tuple #[.agg #[.int .i64 k, .int .i64 n, .slice none 0 0], .bool true])) (((w2.setCell ⟨w.heap.size, 0, none⟩ x).setCell ⟨w.heap.size, 1, none⟩ y).setCell ⟨w.heap.size, 2, none⟩ z) := by
  subst hr; exact ⟨box_only ho x y z, none, 0, rfl, box_rr hg hR x y z, hq, AtS.nil (by omega)⟩

theorem NumPost.split {w w' : World} {g p left : Nat} {s : ByteArray} {r : Option (Nat × Nat)} {e : Ending} (h : NumPost w g s p left r e w') :
    Only g w w' ∧ ((∃ v d : Nat, r = some (v, d) ∧ e = .returned (.tuple #[.int .i64 v, .bool true]) ∧ RrAt w' g s (p + d) left) ∨ (r = none ∧ ∃ (v : Int) (q : Nat), e = .returned (.tuple #[.int .i64 v, .bool false]) ∧ RrAt w' g s q left)) := by
  obtain ⟨ho, hm⟩ := h
  refine ⟨ho, ?_⟩
  rcases r with _ | ⟨v, d⟩
  · obtain ⟨⟨v, he⟩, q, hq⟩ := hm
    exact .inr ⟨rfl, v, q, he, hq⟩
  · exact .inl ⟨v, d, rfl, hm.1, hm.2⟩
theorem RdPost.split {w w' : World} {g : Nat} {s : ByteArray} {r : Option (T × Nat × Nat)} {e : Ending} (h : RdPost w g s r e w') :
    Only g w w' ∧ ((∃ t j l a c, r = some (t, j, l) ∧ e = .returned (.tuple #[.agg #[.int .i64 t.k, .int .i64 t.n, .slice a t.ps.length c], .bool true]) ∧ RrAt w' g s j l ∧ j ≤ s.size ∧ AtS w' (fun b => w.heap.size ≤ b ∧ b < w'.heap.size) t.ps a c) ∨
      (r = none ∧ ∃ (k n : Int) (a : Option Addr) (m c q l : Nat), e = .returned (.tuple #[.agg #[.int .i64 k, .int .i64 n, .slice a m c], .bool false]) ∧ RrAt w' g s q l)) := by
  obtain ⟨ho, hm⟩ := h
  refine ⟨ho, ?_⟩
  rcases r with _ | ⟨t, j, l⟩
  · obtain ⟨⟨k, n, a, m, c, he⟩, q, l, hq⟩ := hm
    exact .inr ⟨rfl, k, n, a, m, c, q, l, he, hq⟩
  · obtain ⟨a, c, h1, h2, h3, h4⟩ := hm
    exact .inl ⟨t, j, l, a, c, rfl, h1, h2, h3, h4⟩
theorem rdPost_some {w w1 w2 : World} {g q l c : Nat} {s : ByteArray} {t : T} {a : Option Addr} {r : Option (T × Nat × Nat)} {x y z : Value} (hr : r = some (t, q, l)) (hg : g < w.heap.size) (hq : q ≤ s.size) (ho : Only g w w2) (hR : RrAt w2 g s q l)
    (h1 : w.heap.size < w1.heap.size) (hat : AtS w2 (fun b => w1.heap.size ≤ b ∧ b < w2.heap.size) t.ps a c) :
    RdPost w g s r (.returned (.tuple #[.agg #[.int .i64 t.k, .int .i64 t.n, .slice a t.ps.length c], .bool true])) (((w2.setCell ⟨w.heap.size, 0, none⟩ x).setCell ⟨w.heap.size, 1, none⟩ y).setCell ⟨w.heap.size, 2, none⟩ z) := by
  subst hr
  refine ⟨box_only ho x y z, a, c, rfl, box_rr hg hR x y z, hq, ?_⟩
  exact (((hat.setCell (by intro b hb; simp; omega) _).setCell (by intro b hb; simp; omega) _).setCell (by intro b hb; simp; omega) _).weaken (by intro b hb; simp; omega)

set_option maxHeartbeats 2000000 in
theorem task_of (f : Nat) (hG : GrpT f) : TskT (f + 1) := by
  intro w g p left s h hp hs hl hl2
  have HG := Lib.hid hG
  have H := Lib.hid h
  have hgl := h.lt
  have hne : g ≠ w.heap.size := by omega
  obtain ⟨x0, x1, x2, f0, f1, f2⟩ := Blk.three h
  clear h hG
  by_cases h0 : left = 0
  · subst h0
    have hd : ((0 : Int) == 0) = true := rfl
    go_enter Tryd.func18, Tryd.ntmps18
    go_wp2_with fail
    go_quiet (fail)
    go_wp2_with fail
    refine bodyPost_ret (v := .tuple #[.agg #[.int .i64 0, .int .i64 0, .slice none 0 0], .bool false]) (by simp [results, Tryd.results18, go_sem]) rfl ?_
    exact rdPost_none (by simp [taskP]) hgl (((Only.refl g w).alloc _).drewN _) ((H.out.alloc _).drewN _)
  · have hd : ((left : Int) == 0) = false := by simpa using h0
    by_cases hps : p = s.size
    · have he : ((p : Int) == (s.size : Int)) = true := by simp; omega
      go_enter Tryd.func18, Tryd.ntmps18
      go_wp2_with fail
      go_quiet (fail)
      go_wp2_with fail
      refine bodyPost_ret (v := .tuple #[.agg #[.int .i64 0, .int .i64 0, .slice none 0 0], .bool false]) (by simp [results, Tryd.results18, go_sem]) rfl ?_
      exact rdPost_none (by simp [taskP, h0, at_, hps, numAt, isD]) hgl (((Only.refl g w).alloc _).drewN _) ((H.out.alloc _).drewN _)
    · have he : ((p : Int) == (s.size : Int)) = false := by simp; omega
      have hlt : p < s.size := by omega
      have hge : s[p].toNat = at_ s p := at_lt hlt
      obtain ⟨c, hc⟩ : ∃ c, c = at_ s p := ⟨_, rfl⟩
      rw [← hc] at hge
      have HC := Lib.hid hc
      clear hc
      go_enter Tryd.func18, Tryd.ntmps18
      go_wp2_with fail
      go_quiet (fail)
      go_wp2_with fail
      obtain ⟨m, hm⟩ : ∃ m, left = m + 1 := ⟨left - 1, by omega⟩
      rw [show ((left : Int) - 1) = (m : Int) by omega]
      obtain ⟨W, hW⟩ : ∃ W, W = ((w.alloc (.cells #[.int .i64 0, .int .i64 0, .slice none 0 0] 25)).drewN nq).setCell ⟨g, 2, none⟩ (.int .i64 m) := ⟨_, rfl⟩
      have HR := Lib.hid (show RrAt W g s p m by rw [hW]; exact ((H.out.alloc _).drewN nq).set_left m)
      have HO := Lib.hid (show Only g w W by rw [hW]; exact (((Only.refl g w).alloc _).drewN nq).set (.inl rfl) _)
      have HB := Lib.hid (show Blk W w.heap.size 25 #[.int .i64 0, .int .i64 0, .slice none 0 0] by rw [hW]; exact ((Blk.new w _ _).drewN nq).far (by simp; omega) _)
      rw [← hW]
      have hps' : W.heap.size = w.heap.size + 1 := by rw [hW]; simp
      clear hW x0 x1 x2 f0 f1 f2 hd he
      obtain ⟨x0, x1, x2, f0, f1, f2⟩ := Blk.three HR.out
      obtain ⟨y0, y1, y2, g0, g1, g2⟩ := Blk.three HB.out
      have hsz : W.heap.size = w.heap.size + 1 := hps'
      by_cases hc40 : c = 40
      · subst hc40
        have HT := Lib.hid (show taskP (f + 1) s p (m + 1) = groupP (fun j l => taskP f s j l) s (p + 1) m by
          simp only [taskP]; rw [if_neg (by omega), if_pos HC.out.symm, Nat.add_sub_cancel])
        go_quiet (fail)
        revert nq
        intro n1
        go_wp2_with fail
        have hR1 := (HR.out.drewN n1).set_at (p + 1)
        have hO1 := (HO.out.drewN n1).set (p := ⟨g, 1, none⟩) (.inl rfl) (.int .i64 ((p + 1 : Nat) : Int))
        have hB1 := (HB.out.drewN n1).far (p := ⟨g, 1, none⟩) (by simp; omega) (.int .i64 ((p + 1 : Nat) : Int))
        obtain ⟨W1, hW1⟩ : ∃ W1, W1 = (W.drewN n1).setCell ⟨g, 1, none⟩ (.int .i64 ((p + 1 : Nat) : Int)) := ⟨_, rfl⟩
        rw [show ((p : Int) + 1) = ((p + 1 : Nat) : Int) by omega]
        rw [← hW1] at hR1 hO1 hB1 ⊢
        have hs1 : W1.heap.size = w.heap.size + 1 := by rw [hW1]; simpa using hsz
        clear hW1 x0 x1 x2 f0 f1 f2 y0 y1 y2 g0 g1 g2
        have H1 := Lib.hid (And.intro hR1 (And.intro hO1 hB1))
        clear hR1 hO1 hB1
        refine (HG.out W1 g (p + 1) m s H1.out.1 (by omega) hs (by omega) (by omega)).mono ?_
        rintro e w3 hpost
        obtain ⟨ho3, ⟨t, j, l, a, c', hr, rfl, hR3, hj, hat⟩ | ⟨hr, kk, nn, aa, mm, cc, q, l, rfl, hR3⟩⟩ := hpost.split
        · have H3 := Lib.hid (And.intro (H1.out.2.1.trans ho3) (And.intro hR3 hat))
          have hB3 := H1.out.2.2.only ho3 (by omega)
          obtain ⟨y0, y1, y2, g0, g1, g2⟩ := Blk.three hB3
          have hr' := Lib.hid hr
          clear hpost ho3 hR3 hat hB3 hr
          go_wp2_with fail
          refine bodyPost_ret (v := .tuple #[.agg #[.int .i64 t.k, .int .i64 t.n, .slice a t.ps.length c'], .bool true]) (by simp [results, Tryd.results18, go_sem, y0, y1, y2]) rfl ?_
          exact rdPost_some (w1 := W1) (by rw [hm, HT.out]; exact hr'.out) hgl hj H3.out.1 H3.out.2.1 (by omega) H3.out.2.2
        · have H3 := Lib.hid (And.intro (H1.out.2.1.trans ho3) hR3)
          have hB3 := H1.out.2.2.only ho3 (by omega)
          obtain ⟨y0, y1, y2, g0, g1, g2⟩ := Blk.three hB3
          have hr' := Lib.hid hr
          clear hpost ho3 hR3 hB3 hr
          go_wp2_with fail
          refine bodyPost_ret (v := .tuple #[.agg #[.int .i64 kk, .int .i64 nn, .slice aa mm cc], .bool false]) (by simp [results, Tryd.results18, go_sem, y0, y1, y2]) rfl ?_
          exact rdPost_none (by rw [hm, HT.out]; exact hr'.out) hgl H3.out.1 H3.out.2
      · have h40 : ((c : Int) == 40) = false := by simp; omega
        by_cases hc107 : c = 107
        · subst hc107
          have HT := Lib.hid (show taskP (f + 1) s p (m + 1) = (match numAt s (p + 1) 9 with | some (v, d) => some (.mk 1 v [], p + 1 + d, m) | none => none) by
            simp only [taskP]; rw [if_neg (by omega), if_neg (by rw [← HC.out]; omega), if_pos HC.out.symm, Nat.add_sub_cancel]; rfl)
          go_quiet (fail)
          revert nq
          intro n1
          go_wp2_with fail
          have hR1 := (HR.out.drewN n1).set_at (p + 1)
          have hO1 := (HO.out.drewN n1).set (p := ⟨g, 1, none⟩) (.inl rfl) (.int .i64 ((p + 1 : Nat) : Int))
          have hB1 := (HB.out.drewN n1).far (p := ⟨g, 1, none⟩) (by simp; omega) (.int .i64 ((p + 1 : Nat) : Int))
          obtain ⟨W1, hW1⟩ : ∃ W1, W1 = (W.drewN n1).setCell ⟨g, 1, none⟩ (.int .i64 ((p + 1 : Nat) : Int)) := ⟨_, rfl⟩
          rw [show ((p : Int) + 1) = ((p + 1 : Nat) : Int) by omega]
          rw [← hW1] at hR1 hO1 hB1 ⊢
          clear hW1 x0 x1 x2 f0 f1 f2 y0 y1 y2 g0 g1 g2
          have H1 := Lib.hid (And.intro hR1 (And.intro hO1 hB1))
          clear hR1 hO1 hB1
          refine (number_any W1 g (p + 1) m 9 s H1.out.1 (by omega) hs (by omega)).mono ?_
          rintro e w3 hpost
          obtain ⟨ho3, ⟨v, d, hr, rfl, hR3⟩ | ⟨hr, v, q, rfl, hR3⟩⟩ := hpost.split
          · have H3 := Lib.hid (And.intro (H1.out.2.1.trans ho3) hR3)
            have hB3 := H1.out.2.2.only ho3 (by omega)
            obtain ⟨y0, y1, y2, g0, g1, g2⟩ := Blk.three hB3
            have hr' := Lib.hid hr
            have hle := numAt_le hr
            clear hpost ho3 hR3 hB3 hr
            go_wp2_with fail
            refine bodyPost_ret (v := .tuple #[.agg #[.int .i64 1, .int .i64 v, .slice none 0 0], .bool true]) (by simp [results, Tryd.results18, go_sem, y0, y1, y2]) rfl ?_
            exact rdPost_leaf (by rw [hm, HT.out, hr'.out]) hgl (by omega) H3.out.1 H3.out.2
          · have H3 := Lib.hid (And.intro (H1.out.2.1.trans ho3) hR3)
            have hB3 := H1.out.2.2.only ho3 (by omega)
            obtain ⟨y0, y1, y2, g0, g1, g2⟩ := Blk.three hB3
            have hr' := Lib.hid hr
            clear hpost ho3 hR3 hB3 hr
            go_wp2_with fail
            refine bodyPost_ret (v := .tuple #[.agg #[.int .i64 1, .int .i64 v, .slice none 0 0], .bool false]) (by simp [results, Tryd.results18, go_sem, y0, y1, y2]) rfl ?_
            exact rdPost_none (by rw [hm, HT.out, hr'.out]) hgl H3.out.1 H3.out.2
        · have h107 : ((c : Int) == 107) = false := by simp; omega
          have HT := Lib.hid (show taskP (f + 1) s p (m + 1) = (match numAt s p 96 with | some (v, d) => some (.mk 0 v [], p + d, m) | none => none) by
            simp only [taskP]; rw [if_neg (by omega), if_neg (by rw [← HC.out]; omega), if_neg (by rw [← HC.out]; omega), Nat.add_sub_cancel]; rfl)
          go_quiet (fail)
          revert nq
          intro n1
          go_wp2_with fail
          have hR1 := HR.out.drewN n1
          have hO1 := HO.out.drewN n1
          have hB1 := HB.out.drewN n1
          obtain ⟨W1, hW1⟩ : ∃ W1, W1 = W.drewN n1 := ⟨_, rfl⟩
          rw [← hW1] at hR1 hO1 hB1 ⊢
          clear hW1 x0 x1 x2 f0 f1 f2 y0 y1 y2 g0 g1 g2
          have H1 := Lib.hid (And.intro hR1 (And.intro hO1 hB1))
          clear hR1 hO1 hB1
          refine (number_any W1 g p m 96 s H1.out.1 (by omega) hs (by omega)).mono ?_
          rintro e w3 hpost
          obtain ⟨ho3, ⟨v, d, hr, rfl, hR3⟩ | ⟨hr, v, q, rfl, hR3⟩⟩ := hpost.split
          · have H3 := Lib.hid (And.intro (H1.out.2.1.trans ho3) hR3)
            have hB3 := H1.out.2.2.only ho3 (by omega)
            obtain ⟨y0, y1, y2, g0, g1, g2⟩ := Blk.three hB3
            have hr' := Lib.hid hr
            have hle := numAt_le hr
            clear hpost ho3 hR3 hB3 hr
            go_wp2_with fail
            refine bodyPost_ret (v := .tuple #[.agg #[.int .i64 0, .int .i64 v, .slice none 0 0], .bool true]) (by simp [results, Tryd.results18, go_sem, y0, y1, y2]) rfl ?_
            exact rdPost_leaf (by rw [hm, HT.out, hr'.out]) hgl (by omega) H3.out.1 H3.out.2
          · have H3 := Lib.hid (And.intro (H1.out.2.1.trans ho3) hR3)
            have hB3 := H1.out.2.2.only ho3 (by omega)
            obtain ⟨y0, y1, y2, g0, g1, g2⟩ := Blk.three hB3
            have hr' := Lib.hid hr
            clear hpost ho3 hR3 hB3 hr
            go_wp2_with fail
            refine bodyPost_ret (v := .tuple #[.agg #[.int .i64 0, .int .i64 v, .slice none 0 0], .bool false]) (by simp [results, Tryd.results18, go_sem, y0, y1, y2]) rfl ?_
            exact rdPost_none (by rw [hm, HT.out, hr'.out]) hgl H3.out.1 H3.out.2
end Go.Proofs.YtgcjnhlppapfdaaDoor
