/- the walk of laws.FnStateStart -/
import Derived.Test.YtjbggeeadodmpaaDrawSh
import Derived.Test.YtjbggeeadodmpaaFitXI
import Derived.Test.YtjbggeeadodmpaaSsI
import Derived.Test.YtjbggeeadodmpaaSsS
import Derived.Test.YtjbggeeadodmpaaBs2
import Derived.Test.YtjbggeeadodmpaaBrTr
namespace Go.Proofs.Ytjbggeeadodmpaa
open Go.RowKit

theorem rep_getI (n k : Nat) : (List.replicate n (0 : Int)).getD k 0 = 0 := by
  rw [List.getD_eq_getElem?_getD, List.getElem?_replicate]; split <;> rfl
theorem rep_getB (n k : Nat) : (List.replicate n false).getD k false = false := by
  rw [List.getD_eq_getElem?_getD, List.getElem?_replicate]; split <;> rfl
theorem rep_vok {n : Nat} (h : n ≤ 10) : vok (List.replicate n 0) = true := by
  unfold vok
  rw [List.length_replicate, decide_eq_true h, Bool.true_and, List.all_eq_true]
  intro x hx
  rw [List.eq_of_mem_replicate hx]
  rfl
theorem start_ok {s : Sh} (h : s.ok = true) : stOk s (st0 s.m.length) = true := by
  have h10 := (Sh.ok_iff.1 h).1
  have hv := rep_vok h10
  have h1 : stA s (st0 s.m.length) = true := by
    show (inOk s (List.replicate s.m.length 0) && (vok (List.replicate s.m.length 0) && trsOk [])) = true
    have h2 : inOk s (List.replicate s.m.length 0) = true := by
      unfold inOk
      rw [h, hv, List.length_replicate, decide_eq_true rfl]; rfl
    rw [h2, hv]; rfl
  have h2 : stL s (st0 s.m.length) = true := by
    show (decide ((List.replicate s.m.length (0 : Int)).length = s.m.length) && decide ((List.replicate s.m.length false).length = s.m.length)) = true
    rw [List.length_replicate, List.length_replicate, decide_eq_true rfl]; rfl
  have h3 : (List.range s.m.length).all (keepK s (st0 s.m.length)) = true := by
    rw [List.all_eq_true]
    intro k _
    unfold keepK
    show (if s.md k = true then decide ((List.replicate s.m.length (0 : Int)).getD k 0 = 0) else !(List.replicate s.m.length false).getD k false && decide ((List.replicate s.m.length (0 : Int)).getD k 0 = (List.replicate s.m.length (0 : Int)).getD k 0)) = true
    rw [rep_getI, rep_getB]
    split <;> rfl
  unfold stOk
  rw [h1, h2, h3]
  rfl
theorem start_fits {s : Sh} (h : s.ok = true) (way : Int) (hw : 0 ≤ way ∧ way ≤ 3) : stFits s (stS s) way = true := by
  have e : stS s = st0 s.m.length := by unfold stS; rw [if_pos h]
  have hh : honest s [] = true := by unfold honest; rw [h]; rfl
  rw [e]
  unfold stFits fitB
  rw [start_ok h, Bool.true_and]
  have hcases : way = 0 ∨ way = 1 ∨ way = 2 ∨ way = 3 := by omega
  rcases hcases with rfl | rfl | rfl | rfl
  · rw [if_pos rfl]
    have hc : cleanB s (st0 s.m.length) = true := by
      unfold cleanB
      rw [List.all_eq_true]
      intro k _
      unfold clnK
      show (!(List.replicate s.m.length false).getD k false || _) = true
      rw [rep_getB]
      rfl
    rw [hc, Bool.or_true]
    rfl
  · rw [if_neg (by decide), if_pos rfl]
    have ht : traced s (st0 s.m.length) = true := by
      unfold traced
      rw [List.all_eq_true]
      intro k _
      unfold trcK
      show (List.all [] _ && (_ || !(List.replicate s.m.length false).getD k false)) = true
      rw [rep_getB]
      simp
    rw [ht]
    show (honest s [] && true) = true
    rw [hh]; rfl
  · rw [if_neg (by decide), if_neg (by decide), if_pos rfl]
    exact hh
  · rw [if_neg (by decide), if_neg (by decide), if_neg (by decide), if_pos rfl]
    rfl

theorem brBools_any (w : World) (S S' : Nat → Prop) (l : List Bool) (a a' : Option Addr) (c c' : Nat) (h : BoolsAt w S l a c) (h' : BoolsAt w S' l a' c') :
    Calls Try.prog 54 #[.slice a l.length c, .slice a' l.length c'] w fun e w' => e = .returned (.bool true) ∧ Below w.heap.size w w' := by
  have hlen : l.length ≤ 9223372036854775807 := by have := h.1; have := h.2.1; omega
  have H := Lib.hid h
  have H' := Lib.hid h'
  clear h h'
  have hne : (((l.length : Nat) : Int) != ((l.length : Nat) : Int)) = false := by simp
  go_enter Try.func54, Try.ntmps54
  go_wp2_with fail
  clear hne
  go_loopw [5] (fun i wr => ∃ k : Nat, k ≤ l.length ∧ i = .int .i64 k ∧ Below w.heap.size w wr) (fun i _ => l.length - (intOf i).toNat)
  case atStart => exact ⟨0, by omega, rfl, Below.refl _ _⟩
  case round =>
    obtain ⟨k, hk, rfl, hb⟩ := hrel
    have HB := Lib.hid hb
    clear hb
    by_cases hlt : k < l.length
    · obtain ⟨b, o, rfl, hbl, _, hc⟩ := ElAt.get H.out HB.out hlt
      obtain ⟨b', o', rfl, hbl', _, hc'⟩ := ElAt.get H'.out HB.out hlt
      obtain ⟨v, hv⟩ : ∃ v, v = l[k] := ⟨_, rfl⟩
      rw [← hv] at hc hc'
      clear hv
      have hne : (v != v) = false := by simp
      go_wp2_with fail
      go_quiet (fail)
      go_wp2_with fail
      go_roundw
      case rel => exact ⟨k + 1, by omega, by go_num, below_drewN HB.out _⟩
      case measure => simp [intOf]; omega
    · go_wp2_with fail
      go_ret
      exact ⟨rfl, HB.out⟩

set_option maxRecDepth 100000 in
set_option maxHeartbeats 2000000 in
theorem brState_any (w : World) (S S' : Nat → Prop) (x : St) (a1 : Option Addr) (c1 : Nat) (a2 : Option Addr) (c2 : Nat) (a3 : Option Addr) (c3 : Nat) (a4 : Option Addr) (c4 : Nat) (b1 : Option Addr) (d1 : Nat) (b2 : Option Addr) (d2 : Nat) (b3 : Option Addr) (d3 : Nat) (b4 : Option Addr) (d4 : Nat) (h : StAt w S x a1 c1 a2 c2 a3 c3 a4 c4) (h' : StAt w S' x b1 d1 b2 d2 b3 d3 b4 d4) :
    Calls Try.prog 25 #[.agg #[.slice a1 x.v.length c1, .slice a2 x.b.length c2, .slice a3 x.i.length c3, .slice a4 x.t.length c4], .agg #[.slice b1 x.v.length d1, .slice b2 x.b.length d2, .slice b3 x.i.length d3, .slice b4 x.t.length d4]] w fun e w' => e = .returned (.bool true) ∧ Below w.heap.size w w' := by
  obtain ⟨W, hW⟩ : ∃ W, W = (w.alloc (.cells #[.slice a1 x.v.length c1, .slice a2 x.b.length c2, .slice a3 x.i.length c3, .slice a4 x.t.length c4] 50)).alloc (.cells #[.slice b1 x.v.length d1, .slice b2 x.b.length d2, .slice b3 x.i.length d3, .slice b4 x.t.length d4] 50) := ⟨_, rfl⟩
  have HWW := Lib.hid hW
  have X0 := Lib.hid (show StAt W S x a1 c1 a2 c2 a3 c3 a4 c4 by rw [hW]; exact (h.alloc _).alloc _)
  have Y0 := Lib.hid (show StAt W S' x b1 d1 b2 d2 b3 d3 b4 d4 by rw [hW]; exact (h'.alloc _).alloc _)
  have B0 := Lib.hid (show Below w.heap.size w W by rw [hW]; exact ((Below.refl w.heap.size w).alloc (Nat.le_refl _) _).alloc (by simp) _)
  have P0 := Lib.hid (show Blk W w.heap.size 50 #[.slice a1 x.v.length c1, .slice a2 x.b.length c2, .slice a3 x.i.length c3, .slice a4 x.t.length c4] by rw [hW]; exact (Blk.new w 50 _).alloc _)
  have Q0 := Lib.hid (show Blk W (w.heap.size + 1) 50 #[.slice b1 x.v.length d1, .slice b2 x.b.length d2, .slice b3 x.i.length d3, .slice b4 x.t.length d4] by rw [hW]; have := Blk.new (w.alloc (.cells #[.slice a1 x.v.length c1, .slice a2 x.b.length c2, .slice a3 x.i.length c3, .slice a4 x.t.length c4] 50)) 50 #[.slice b1 x.v.length d1, .slice b2 x.b.length d2, .slice b3 x.i.length d3, .slice b4 x.t.length d4]; simpa using this)
  obtain ⟨p0, p1, p2, p3, -⟩ := P0.out.four
  obtain ⟨q0, q1, q2, q3, -⟩ := Q0.out.four
  rw [hW] at p0 p1 p2 p3 q0 q1 q2 q3
  clear h h' hW
  go_enter Try.func25, Try.ntmps25
  go_wp2_with fail
  rw [← HWW.out]
  clear p0 p1 p2 p3 q0 q1 q2 q3
  refine (brInts_any _ _ _ x.v a1 b1 c1 d1 X0.out.1 Y0.out.1).mono ?_
  rintro e w1 ⟨rfl, hb⟩
  have X1 := Lib.hid (X0.out.below hb)
  have Y1 := Lib.hid (Y0.out.below hb)
  have B1 := Lib.hid (B0.out.trans (hb.mono B0.out.size))
  have P1 := Lib.hid (P0.out.below hb P0.out.lt)
  have Q1 := Lib.hid (Q0.out.below hb Q0.out.lt)
  clear hb X0 Y0 B0 P0 Q0
  obtain ⟨p0, p1, p2, p3, -⟩ := P1.out.four
  obtain ⟨q0, q1, q2, q3, -⟩ := Q1.out.four
  go_wp2_with fail
  clear p0 p1 p2 p3 q0 q1 q2 q3
  refine (brBools_any _ _ _ x.b a2 b2 c2 d2 X1.out.2.1 Y1.out.2.1).mono ?_
  rintro e w2 ⟨rfl, hb⟩
  have X2 := Lib.hid (X1.out.below hb)
  have Y2 := Lib.hid (Y1.out.below hb)
  have B2 := Lib.hid (B1.out.trans (hb.mono B1.out.size))
  have P2 := Lib.hid (P1.out.below hb P1.out.lt)
  have Q2 := Lib.hid (Q1.out.below hb Q1.out.lt)
  clear hb X1 Y1 B1 P1 Q1
  obtain ⟨p0, p1, p2, p3, -⟩ := P2.out.four
  obtain ⟨q0, q1, q2, q3, -⟩ := Q2.out.four
  go_wp2_with fail
  clear p0 p1 p2 p3 q0 q1 q2 q3
  refine (brInts_any _ _ _ x.i a3 b3 c3 d3 X2.out.2.2.1 Y2.out.2.2.1).mono ?_
  rintro e w3 ⟨rfl, hb⟩
  have X3 := Lib.hid (X2.out.below hb)
  have Y3 := Lib.hid (Y2.out.below hb)
  have B3 := Lib.hid (B2.out.trans (hb.mono B2.out.size))
  have P3 := Lib.hid (P2.out.below hb P2.out.lt)
  have Q3 := Lib.hid (Q2.out.below hb Q2.out.lt)
  clear hb X2 Y2 B2 P2 Q2
  obtain ⟨p0, p1, p2, p3, -⟩ := P3.out.four
  obtain ⟨q0, q1, q2, q3, -⟩ := Q3.out.four
  go_wp2_with fail
  clear p0 p1 p2 p3 q0 q1 q2 q3
  refine (brTraces_any _ _ _ x.t a4 b4 c4 d4 X3.out.2.2.2 Y3.out.2.2.2).mono ?_
  rintro e w4 ⟨rfl, hb⟩
  have B4 := Lib.hid (B3.out.trans (hb.mono B3.out.size))
  clear hb X3 Y3 B3 P3 Q3
  go_wp2_with fail
  go_ret
  exact ⟨rfl, B4.out⟩
set_option maxRecDepth 100000 in
set_option maxHeartbeats 4000000 in
theorem walk_stateStart (w : World) (a : Option Addr) (n c : Nat) (h : CodeAt w a n c) :
    Calls Try.prog 7 #[.slice a n c] w fun e w' => e = .returned (.bool true) ∧ Below w.heap.size w w' := by
  have hn := h.1
  have hc := h.2.1
  have HC := Lib.hid h
  clear h
  by_cases hl : 1048576 < n
  · go_enter Try.func7, Try.ntmps7
    go_wp2_with fail
    go_ret
    exact ⟨rfl, Below.refl _ _⟩
  go_enter Try.func7, Try.ntmps7
  go_wp2_with fail
  refine (drawStateStart_any _ a n c HC.out).mono ?_
  rintro e w1 ⟨s, v, a', c', rfl, hsh, htl, hml, hnl, hb⟩
  obtain ⟨av, cv, rfl, hat⟩ := hsh.at
  have hsz1 := hb.size
  have HT1 := Lib.hid (hat.alloc (.cells #[.slice av s.m.length cv, .slice a' s.t.length c'] 47))
  have HB1 := Lib.hid (Blk.new w1 47 #[.slice av s.m.length cv, .slice a' s.t.length c'])
  have HX1 := Lib.hid (hb.alloc hsz1 (.cells #[.slice av s.m.length cv, .slice a' s.t.length c'] 47))
  have HNL := Lib.hid (show nodesL s.t ≤ 1048576 by omega)
  obtain ⟨r, hr⟩ : ∃ r, r = stS s := ⟨_, rfl⟩
  obtain ⟨b, hbb⟩ : ∃ b, b = s.ok := ⟨_, rfl⟩
  have HBB := Lib.hid hbb
  have HFR := Lib.hid (show r.fine by rw [hr]; exact stS_fine s)
  have HFT := Lib.hid (show b = true → ∀ way : Int, 0 ≤ way ∧ way ≤ 3 → stFits s r way = true by rw [hr, hbb]; exact fun h way hw => start_fits h way hw)
  have HSP := Lib.hid (show ∀ w e w', SxPost (stS s) s.ok w e w' → Below w.heap.size w w' ∧ ∃ a1 c1 a2 c2 a3 c3 a4 c4 S, e = .returned (.tuple #[.agg #[.slice a1 r.v.length c1, .slice a2 r.b.length c2, .slice a3 r.i.length c3, .slice a4 r.t.length c4], .bool b]) ∧ StAt w' S r a1 c1 a2 c2 a3 c3 a4 c4 by rw [← hr, ← hbb]; exact fun w e w' h => h.at HFR.out)
  clear hsh hat hb HC htl hr hbb
  obtain ⟨x0, x1, -⟩ := HB1.out.two
  go_wp2_with fail
  clear x0 x1
  refine (implStart_any s _ _ av cv a' c' HT1.out).mono ?_
  intro e w2 hp
  obtain ⟨hb, a1, c1, a2, c2, a3, c3, a4, c4, S2, rfl, hst⟩ := HSP.out _ _ _ hp
  clear hp
  have HT2 := Lib.hid ((HT1.out.below hb).alloc (.cells #[.slice a1 r.v.length c1, .slice a2 r.b.length c2, .slice a3 r.i.length c3, .slice a4 r.t.length c4] 50))
  have HB2 := Lib.hid ((HB1.out.below hb HB1.out.lt).alloc (.cells #[.slice a1 r.v.length c1, .slice a2 r.b.length c2, .slice a3 r.i.length c3, .slice a4 r.t.length c4] 50))
  have HX2 := Lib.hid ((HX1.out.trans (hb.mono HX1.out.size)).alloc (Nat.le_trans HX1.out.size hb.size) (.cells #[.slice a1 r.v.length c1, .slice a2 r.b.length c2, .slice a3 r.i.length c3, .slice a4 r.t.length c4] 50))
  have HS2 := Lib.hid (hst.alloc (.cells #[.slice a1 r.v.length c1, .slice a2 r.b.length c2, .slice a3 r.i.length c3, .slice a4 r.t.length c4] 50))
  have XB2 := Lib.hid (Blk.new w2 50 #[.slice a1 r.v.length c1, .slice a2 r.b.length c2, .slice a3 r.i.length c3, .slice a4 r.t.length c4])
  clear hb hst HT1 HB1 HX1
  obtain ⟨x0, x1, -⟩ := HB2.out.two
  go_wp2_with fail
  clear x0 x1
  refine (specStart_any s _ _ av cv a' c' HT2.out HNL.out).mono ?_
  intro e w3 hp
  obtain ⟨hb, b1, d1, b2, d2, b3, d3, b4, d4, S3, rfl, hst⟩ := HSP.out _ _ _ hp
  clear hp
  have HT3 := Lib.hid ((HT2.out.below hb).alloc (.cells #[.slice b1 r.v.length d1, .slice b2 r.b.length d2, .slice b3 r.i.length d3, .slice b4 r.t.length d4] 50))
  have HB3 := Lib.hid ((HB2.out.below hb HB2.out.lt).alloc (.cells #[.slice b1 r.v.length d1, .slice b2 r.b.length d2, .slice b3 r.i.length d3, .slice b4 r.t.length d4] 50))
  have HX3 := Lib.hid ((HX2.out.trans (hb.mono HX2.out.size)).alloc (Nat.le_trans HX2.out.size hb.size) (.cells #[.slice b1 r.v.length d1, .slice b2 r.b.length d2, .slice b3 r.i.length d3, .slice b4 r.t.length d4] 50))
  have HS3 := Lib.hid ((HS2.out.below hb).alloc (.cells #[.slice b1 r.v.length d1, .slice b2 r.b.length d2, .slice b3 r.i.length d3, .slice b4 r.t.length d4] 50))
  have XB3 := Lib.hid ((XB2.out.below hb XB2.out.lt).alloc (.cells #[.slice b1 r.v.length d1, .slice b2 r.b.length d2, .slice b3 r.i.length d3, .slice b4 r.t.length d4] 50))
  have HR3 := Lib.hid (hst.alloc (.cells #[.slice b1 r.v.length d1, .slice b2 r.b.length d2, .slice b3 r.i.length d3, .slice b4 r.t.length d4] 50))
  have YB3 := Lib.hid (Blk.new w3 50 #[.slice b1 r.v.length d1, .slice b2 r.b.length d2, .slice b3 r.i.length d3, .slice b4 r.t.length d4])
  clear hb hst HT2 HB2 HX2 HS2 XB2
  obtain ⟨x0, x1, x2, x3, -⟩ := XB3.out.four
  obtain ⟨y0, y1, y2, y3, -⟩ := YB3.out.four
  go_wp2_with fail
  clear x0 x1 x2 x3 y0 y1 y2 y3
  refine (brState_any _ _ _ r a1 c1 a2 c2 a3 c3 a4 c4 b1 d1 b2 d2 b3 d3 b4 d4 HS3.out HR3.out).mono ?_
  rintro e w4 ⟨rfl, hb⟩
  have HT4 := Lib.hid (HT3.out.below hb)
  have HB4 := Lib.hid (HB3.out.below hb HB3.out.lt)
  have HX4 := Lib.hid (HX3.out.trans (hb.mono HX3.out.size))
  have HS4 := Lib.hid (HS3.out.below hb)
  have XB4 := Lib.hid (XB3.out.below hb XB3.out.lt)
  clear hb HT3 HB3 HX3 HS3 XB3 HR3 YB3 HSP
  have hbn : (b != b) = false := by simp
  have hbe : (b == b) = true := by simp
  have HBE := Lib.hid hbe
  obtain ⟨W4, hW4⟩ : ∃ W, W = w4 := ⟨_, rfl⟩
  subst hW4
  go_wp2_with fail
  clear hbn hbe
  go_loopw [8] (fun i wr => ∃ q : Nat, q ≤ 4 ∧ i = .int .i64 q ∧ Below W4.heap.size W4 wr) (fun i _ => 4 - (intOf i).toNat)
  case atStart => exact ⟨0, by omega, rfl, Below.refl _ _⟩
  case round =>
    obtain ⟨q, hq, rfl, hb⟩ := hrel
    have HB := Lib.hid hb
    have HT5 := Lib.hid (HT4.out.below hb)
    have HB5 := Lib.hid (HB4.out.below hb HB4.out.lt)
    have HX5 := Lib.hid (HX4.out.trans (hb.mono HX4.out.size))
    have HS5 := Lib.hid (HS4.out.below hb)
    have XB5 := Lib.hid (XB4.out.below hb XB4.out.lt)
    clear hb
    obtain ⟨z0, z1, -⟩ := HB5.out.two
    obtain ⟨x0, x1, x2, x3, -⟩ := XB5.out.four
    have HEND := Lib.hid (implSheetOk_any s wr _ av cv a' c' HT5.out)
    rw [← HBB.out] at HEND
    by_cases hq3 : q < 4
    · have hqi : (q : Int) ≤ 3 := by omega
      have HFX := Lib.hid (implStateFits_any s q r wr _ _ av cv a' c' a1 c1 a2 c2 a3 c3 a4 c4 HT5.out HS5.out)
      cases b
      · go_wp2_with fail
        refine HEND.out.mono ?_
        rintro e w6 ⟨rfl, hb⟩
        have HX6 := Lib.hid (HX5.out.trans (hb.mono HX5.out.size))
        clear hb
        go_wp2_with fail
        go_ret
        exact ⟨rfl, HX6.out⟩
      · rw [HFT.out rfl q (by omega)] at HFX
        go_wp2_with fail
        refine HFX.out.mono ?_
        rintro e w6 ⟨rfl, hb⟩
        have HB6 := Lib.hid (HB.out.trans (hb.mono HB.out.size))
        clear hb HFX HEND z0 z1 x0 x1 x2 x3
        go_wp2_with fail
        go_roundw
        case rel => exact ⟨q + 1, by omega, by go_num, HB6.out⟩
        case measure => simp [intOf]; omega
    · have hqi : ¬ (q : Int) ≤ 3 := by omega
      have hbe := HBE.out
      go_wp2_with fail
      refine HEND.out.mono ?_
      rintro e w6 ⟨rfl, hb⟩
      have HX6 := Lib.hid (HX5.out.trans (hb.mono HX5.out.size))
      clear hb
      go_wp2_with fail
      go_ret
      exact ⟨rfl, HX6.out⟩
end Go.Proofs.Ytjbggeeadodmpaa
