/- l91Sheet -/
import Derived.Test.YtmbgglmnbllpjaaShL
namespace Go.Proofs.Ytmbgglmnbllpjaa
open Go.RowKit

/-- A sheet was drawn. -/
def SheetDr (g p : Nat) (w : World) (e : Ending) (w' : World) : Prop := ∃ (s : Sh) (v : Value) (a' : Option Addr) (c' q : Nat), e = .returned (.agg #[v, .slice a' s.t.length c']) ∧ ShD w' w.heap.size w'.heap.size s v a' c' ∧ s.t.length = s.m.length ∧ s.m.length ≤ 8 ∧ nodesL s.t ≤ 120 ∧ p ≤ q ∧ q ≤ p + 400 ∧ RdAt w' g q ∧ Only g w w'

set_option maxHeartbeats 3000000 in
theorem sheetD_any (w : World) (g p : Nat) (hr : RdAt w g p) (hp : p ≤ 990000) : Calls Try.prog 72 #[.pointer (some ⟨g, 0, none⟩)] w (SheetDr g p w) := by
  obtain ⟨iB, bi, bz0, bz1, bz2⟩ := info_parts infoBool
  have HIB := Lib.hid (And.intro bi (And.intro bz0 (And.intro bz1 bz2)))
  obtain ⟨iT, ti, tz0, tz1, tz2⟩ := info_parts infoTask
  have HIT := Lib.hid (And.intro ti (And.intro tz0 (And.intro tz1 tz2)))
  have hml : maxLen = 9223372036854775807 := rfl
  have HML := Lib.hid hml
  have hgl := hr.lt
  have hgn : w.heap.size ≠ g := by omega
  have HR0 := Lib.hid (hr.alloc (.cells #[.slice none 0 0, .slice none 0 0] 50))
  have HY0 := Lib.hid (Blk.new w 50 #[.slice none 0 0, .slice none 0 0])
  have HO0 := Lib.hid ((Only.refl g w).alloc (.cells #[.slice none 0 0, .slice none 0 0] 50))
  clear bi bz0 bz1 bz2 ti tz0 tz1 tz2 hml hr
  go_enter Try.func72, Try.ntmps72
  go_wp2_with fail
  refine (pick_any _ g p 7 HR0.out (by omega) (by omega) (by omega)).mono ?_
  rintro e w1 ⟨r, rfl, h0, h1, hrd, ho⟩
  have hr7 := h1 (by omega)
  have hs1 := ho.size
  simp only [World.size_alloc] at hs1
  have HR1 := Lib.hid (hrd.alloc (.cells #[.slice none 0 0, .slice none 0 0] 50))
  have HY1 := Lib.hid ((HY0.out.only ho hgn).alloc (.cells #[.slice none 0 0, .slice none 0 0] 50))
  have HX1 := Lib.hid (Blk.new w1 50 #[.slice none 0 0, .slice none 0 0])
  have HO1 := Lib.hid ((HO0.out.trans ho).alloc (.cells #[.slice none 0 0, .slice none 0 0] 50))
  obtain ⟨n, rfl⟩ : ∃ n : Nat, r = n := ⟨r.toNat, by omega⟩
  clear h1 hrd ho HR0 HO0 HY0
  go_wp2_with fail
  refine (pick_any _ g _ 3 HR1.out (by omega) (by omega) (by omega)).mono ?_
  rintro e w2 ⟨r, rfl, k0, k1, hrd, ho⟩
  have hr3 := k1 (by omega)
  have hXg : w1.heap.size ≠ g := by omega
  have hs2 := ho.size
  simp only [World.size_alloc] at hs2
  have HR2 := Lib.hid hrd
  have HY2 := Lib.hid (HY1.out.only ho hgn)
  have HX2 := Lib.hid (HX1.out.only ho hXg)
  have HO2 := Lib.hid (HO1.out.trans ho)
  obtain ⟨f, rfl⟩ : ∃ f : Nat, r = f := ⟨r.toNat, by omega⟩
  clear k1 hrd ho HR1 HO1 HY1 HX1
  go_wp2_with fail
  refine (pick_any _ g _ 8 HR2.out (by omega) (by omega) (by omega)).mono ?_
  rintro e w3 ⟨r, rfl, l0, l1, hrd, ho⟩
  have hs3 := ho.size
  have HR3 := Lib.hid hrd
  have HY3 := Lib.hid (HY2.out.only ho hgn)
  have HX3 := Lib.hid (HX2.out.only ho hXg)
  have HO3 := Lib.hid (HO2.out.trans ho)
  obtain ⟨wild, hwild⟩ : ∃ b, b = (r == 0) := ⟨_, rfl⟩
  clear l0 l1 hrd ho HR2 HO2 HY2 HX2
  go_upto_region 5 with (fail)
  rw [← hwild]
  clear hwild
  obtain ⟨N, hN⟩ : ∃ N : Nat, (N : Int) = 2 + (n : Int) := ⟨2 + n, by omega⟩
  obtain ⟨fi, hfi⟩ : ∃ N : Nat, (N : Int) = 1 + (f : Int) := ⟨1 + f, by omega⟩
  rw [← hN, ← hfi]
  have hN8 : N ≤ 8 := by omega
  clear hN hfi
  have hst : LSt w w1.heap.size g w3.heap.size w3 ⟨[], []⟩ (.slice none 0 0) none 0 (p + 1 + 1 + 1) :=
    ⟨⟨⟨by simp, .inl ⟨rfl, rfl⟩⟩, (by intro b hb; cases hb), OwS.nil, Nat.le_refl _⟩, HX3.out, HY3.out, HR3.out, HO3.out, hgl, by omega, by omega⟩
  have HST := Lib.hid hst
  clear hst HX3 HY3 HR3 HO3
  go_wp2_with fail
  go_loopw [7, 8, 9] (fun k _ _ wr => ∃ (s : Sh) (v : Value) (a' : Option Addr) (c' q : Nat), k = .int .i64 s.m.length ∧ s.m.length ≤ N ∧ s.t.length = s.m.length ∧ nodesL s.t ≤ 15 * s.m.length ∧ (p ≤ q ∧ q ≤ p + 3 + 41 * s.m.length) ∧ LSt w w1.heap.size g wr.heap.size wr s v a' c' q) (fun k _ _ _ => N - (intOf k).toNat)
  case atStart => exact ⟨⟨[], []⟩, _, _, _, _, rfl, by simp, rfl, by simp [nodesL], by simp; omega, HST.out⟩
  case round =>
    obtain ⟨s, v, a', c', q, rfl, hsm, hst, hsn, hq, hls⟩ := hrel
    obtain ⟨av, cv, rfl, _⟩ := ElRow.at hls.sh.row
    have HL := Lib.hid hls
    have HTL := Lib.hid hst
    have hst8 : s.t.length ≤ 8 := by omega
    clear hls HST hst
    by_cases hlt : s.m.length < N
    · by_cases hf : s.m.length < fi
      · have HFI := Lib.hid hf
        clear hst8
        have hst8 : s.t.length ≤ 8 := by have := HTL.out; omega
        obtain ⟨x0, x1, _, _⟩ := HL.out.bx.two
        go_wp2_with (at_builtin; refine wpList_append_row _ rfl (.tmp 34) (.tmp 35) 48 rfl (w1.heap.size + 1) 4 iB (.bool false) 1 1 Try.underlying48 HIB.out.1 HIB.out.2.1 HIB.out.2.2.1 HIB.out.2.2.2 rfl (by decide) _ s.m.length (s.m.map Value.bool) rfl (World.ownsRow.alloc HL.out.sh.row _) ⟨wr.heap.size, 0, none⟩ 1 1 [.bool false] rfl rfl ?ba1 ?ba2 (by decide) ?ba3 ?ba4 ?ba5 ?_)
        case ba1 => exact news1 _ _ _
        case ba2 => simp [Value.oneCell']
        case ba3 => rw [HML.out]; omega
        case ba4 => omega
        case ba5 => have := HL.out.ml; have := HL.out.sh.le; simp; omega
        intro v5 w5 hown hgr hnv
        obtain ⟨⟨av5, cv5, rfl⟩, hbx, hsz5, hl5⟩ := (HL.out.alloc (.cells #[.bool false] 4)).bool (x := false) hown hgr (by simpa using hnv)
        simp only [World.size_alloc] at hsz5
        clear hown hgr hnv x0 x1
        have H5 := Lib.hid hl5
        obtain ⟨x0, x1, f0, f1⟩ := hbx.two
        clear hl5 hbx
        go_upto_region 10 with (fail)
        clear x0 x1 f0 f1
        obtain ⟨w6, hw6⟩ : ∃ W, W = w5.setCell ⟨w1.heap.size, 0, none⟩ (.slice av5 (s.m.length + 1) cv5) := ⟨_, rfl⟩
        have hs6 : w6.heap.size = w5.heap.size := by rw [hw6]; simp [World.setCell]
        rw [← hw6]
        have h6 : LSt w w1.heap.size g w6.heap.size w6 ⟨s.m ++ [false], s.t⟩ (.slice av5 (s.m.length + 1) cv5) a' c' q := by rw [hs6, hw6]; exact H5.out
        have H6 := Lib.hid h6
        clear hw6 H5 h6 hs6

        obtain ⟨x0, x1, _, _⟩ := H6.out.bx.two
        have hlenT : s.t.length ≤ 1000000 := by omega
        go_wp2_with (at_builtin; refine wpList_append_ow _ rfl (.tmp 39) (.tmp 41) 23 25 rfl iT _ Try.underlying23 HIT.out.1 HIT.out.2.1 HIT.out.2.2.1 HIT.out.2.2.2 rfl (fun b => w1.heap.size + 1 ≤ b ∧ b < w6.heap.size ∧ (Value.slice av5 (s.m.length + 1) cv5).ownBlock ≠ some b) (fun _ => False) s.t a' c' rfl (H6.out.sh.ow.alloc _) hlenT ⟨w6.heap.size, 0, none⟩ 1 rfl (.mk 0 0 []) none 0 ?ta1 ?ta2 ?ta3 OwS.nil ?ta4 ?ta5 ?ta6 ?_)
        case ta1 => intro j u hj; first | (rw [add0, World.cell?_alloc_new, ← hj]; simp [T.k, T.n, T.ps]; done) | exact hj | simpa [T.k, T.n, T.ps] using hj
        case ta2 => simp [T.k, i64ok]
        case ta3 => simp [T.n, i64ok]
        case ta5 => intro b hb; have := H6.out.sh.le; first | omega | (simp; omega)
        intro v7 w7 hgr
        obtain ⟨a7, c7, rfl, hbx, hsz7, hl7⟩ := (H6.out.alloc _).task (t := (.mk 0 0 [])) (F1 := (fun _ => False)) (fun b hb => hb.elim) hgr
        simp only [World.size_alloc] at hsz7
        have H7 := Lib.hid hl7
        clear hgr hl7 x0 x1
        obtain ⟨x0, x1, f0, f1⟩ := hbx.two
        clear hbx
        go_wp2_with fail
        clear x0 x1 f0 f1
        go_roundw
        case rel => exact ⟨_, _, _, _, _, by simp only [List.length_append, List.length_singleton]; go_num, by simp only [List.length_append, List.length_singleton]; omega, by have := HTL.out; simp only [List.length_append, List.length_singleton]; omega, by rw [nodesL_append]; simp only [nodesL, T.nodes, List.length_append, List.length_singleton]; omega, by simp only [List.length_append, List.length_singleton]; omega, H7.out.up (by simp [World.setCell]) (Nat.le_refl _)⟩
        case measure => simp [intOf]; omega
      · go_wp2_with fail
        refine (pick_any _ g _ 10 HL.out.rd (by omega) (by omega) (by omega)).mono ?_
        rintro e w4 ⟨r4, rfl, m0, m1, hrd, ho⟩
        have hs4 := ho.size
        have HL4 := Lib.hid (HL.out.only ho hrd)
        clear hrd ho m1 HL
        by_cases hr0 : r4 = 0
        · subst hr0
          obtain ⟨x0, x1, _, _⟩ := HL4.out.bx.two
          go_wp2_with (at_builtin; refine wpList_append_row _ rfl (.tmp 34) (.tmp 35) 48 rfl (w1.heap.size + 1) 4 iB (.bool false) 1 1 Try.underlying48 HIB.out.1 HIB.out.2.1 HIB.out.2.2.1 HIB.out.2.2.2 rfl (by decide) _ s.m.length (s.m.map Value.bool) rfl (World.ownsRow.alloc HL4.out.sh.row _) ⟨w4.heap.size, 0, none⟩ 1 1 [.bool false] rfl rfl ?bc1 ?bc2 (by decide) ?bc3 ?bc4 ?bc5 ?_)
          case bc1 => exact news1 _ _ _
          case bc2 => simp [Value.oneCell']
          case bc3 => rw [HML.out]; omega
          case bc4 => omega
          case bc5 => have := HL4.out.ml; have := HL4.out.sh.le; simp; omega
          intro v5 w5 hown hgr hnv
          obtain ⟨⟨av5, cv5, rfl⟩, hbx, hsz5, hl5⟩ := (HL4.out.alloc (.cells #[.bool false] 4)).bool (x := false) hown hgr (by simpa using hnv)
          simp only [World.size_alloc] at hsz5
          clear hown hgr hnv x0 x1
          have H5 := Lib.hid hl5
          obtain ⟨x0, x1, f0, f1⟩ := hbx.two
          clear hl5 hbx
          go_upto_region 10 with (fail)
          clear x0 x1 f0 f1
          obtain ⟨w6, hw6⟩ : ∃ W, W = w5.setCell ⟨w1.heap.size, 0, none⟩ (.slice av5 (s.m.length + 1) cv5) := ⟨_, rfl⟩
          have hs6 : w6.heap.size = w5.heap.size := by rw [hw6]; simp [World.setCell]
          rw [← hw6]
          have h6 : LSt w w1.heap.size g w6.heap.size w6 ⟨s.m ++ [false], s.t⟩ (.slice av5 (s.m.length + 1) cv5) a' c' (q + 1) := by rw [hs6, hw6]; exact H5.out
          have H6 := Lib.hid h6
          clear hw6 H5 h6 hs6

          obtain ⟨x0, x1, _, _⟩ := H6.out.bx.two
          have hlenT : s.t.length ≤ 1000000 := by omega
          go_wp2_with (at_builtin; refine wpList_append_ow _ rfl (.tmp 39) (.tmp 41) 23 25 rfl iT _ Try.underlying23 HIT.out.1 HIT.out.2.1 HIT.out.2.2.1 HIT.out.2.2.2 rfl (fun b => w1.heap.size + 1 ≤ b ∧ b < w6.heap.size ∧ (Value.slice av5 (s.m.length + 1) cv5).ownBlock ≠ some b) (fun _ => False) s.t a' c' rfl (H6.out.sh.ow.alloc _) hlenT ⟨w6.heap.size, 0, none⟩ 1 rfl (.mk 0 0 []) none 0 ?tc1 ?tc2 ?tc3 OwS.nil ?tc4 ?tc5 ?tc6 ?_)
          case tc1 => intro j u hj; first | (rw [add0, World.cell?_alloc_new, ← hj]; simp [T.k, T.n, T.ps]; done) | exact hj | simpa [T.k, T.n, T.ps] using hj
          case tc2 => simp [T.k, i64ok]
          case tc3 => simp [T.n, i64ok]
          case tc5 => intro b hb; have := H6.out.sh.le; first | omega | (simp; omega)
          intro v7 w7 hgr
          obtain ⟨a7, c7, rfl, hbx, hsz7, hl7⟩ := (H6.out.alloc _).task (t := (.mk 0 0 [])) (F1 := (fun _ => False)) (fun b hb => hb.elim) hgr
          simp only [World.size_alloc] at hsz7
          have H7 := Lib.hid hl7
          clear hgr hl7 x0 x1
          obtain ⟨x0, x1, f0, f1⟩ := hbx.two
          clear hbx
          go_wp2_with fail
          clear x0 x1 f0 f1
          go_roundw
          case rel => exact ⟨_, _, _, _, _, by simp only [List.length_append, List.length_singleton]; go_num, by simp only [List.length_append, List.length_singleton]; omega, by have := HTL.out; simp only [List.length_append, List.length_singleton]; omega, by rw [nodesL_append]; simp only [nodesL, T.nodes, List.length_append, List.length_singleton]; omega, by simp only [List.length_append, List.length_singleton]; omega, H7.out.up (by simp [World.setCell]) (Nat.le_refl _)⟩
          case measure => simp [intOf]; omega
        · have hr0b : (r4 == 0) = false := by simp [hr0]
          clear hr0
          obtain ⟨x0, x1, _, _⟩ := HL4.out.bx.two
          go_wp2_with (at_builtin; refine wpList_append_row _ rfl (.tmp 45) (.tmp 46) 48 rfl (w1.heap.size + 1) 4 iB (.bool false) 1 1 Try.underlying48 HIB.out.1 HIB.out.2.1 HIB.out.2.2.1 HIB.out.2.2.2 rfl (by decide) _ s.m.length (s.m.map Value.bool) rfl (World.ownsRow.alloc HL4.out.sh.row _) ⟨w4.heap.size, 0, none⟩ 1 1 [.bool true] rfl rfl ?bb1 ?bb2 (by decide) ?bb3 ?bb4 ?bb5 ?_)
          case bb1 => exact news1 _ _ _
          case bb2 => simp [Value.oneCell']
          case bb3 => rw [HML.out]; omega
          case bb4 => omega
          case bb5 => have := HL4.out.ml; have := HL4.out.sh.le; simp; omega
          intro v5 w5 hown hgr hnv
          obtain ⟨⟨av5, cv5, rfl⟩, hbx, hsz5, hl5⟩ := (HL4.out.alloc (.cells #[.bool true] 4)).bool (x := true) hown hgr (by simpa using hnv)
          simp only [World.size_alloc] at hsz5
          clear hown hgr hnv x0 x1
          have H5 := Lib.hid hl5
          obtain ⟨x0, x1, f0, f1⟩ := hbx.two
          clear hl5 hbx
          go_upto_region 12 with (fail)
          clear x0 x1 f0 f1
          obtain ⟨w6, hw6⟩ : ∃ W, W = w5.setCell ⟨w1.heap.size, 0, none⟩ (.slice av5 (s.m.length + 1) cv5) := ⟨_, rfl⟩
          have hs6 : w6.heap.size = w5.heap.size := by rw [hw6]; simp [World.setCell]
          rw [← hw6]
          have h6 : LSt w w1.heap.size g w6.heap.size w6 ⟨s.m ++ [true], s.t⟩ (.slice av5 (s.m.length + 1) cv5) a' c' (q + 1) := by rw [hs6, hw6]; exact H5.out
          have H6 := Lib.hid h6
          clear hw6 H5 h6 hs6
          cases wild
          · go_wp2_with fail
            refine (fit_any _ g _ _ H6.out.rd (by omega) (by omega) (by omega)).mono ?_
            rintro e w8 ⟨t, at8, ct8, q8, rfl, how8, ok1, ok2, hok, hp0, hp1, hrd, ho⟩
            have hs8 := ho.size
            have hn15 : t.nodes ≤ 15 := by have := hok; simp [T.ok] at this; exact this.2
            have hfit : t.fit = true := by have := hok; simp [T.ok] at this; exact this.1
            have H8 := Lib.hid ((H6.out.only ho hrd).alloc (.cells #[.int .i64 t.k, .int .i64 t.n, .slice at8 t.ps.length ct8] 25))
            have HT8 := Lib.hid (how8.alloc (.cells #[.int .i64 t.k, .int .i64 t.n, .slice at8 t.ps.length ct8] 25))
            have HB8 := Lib.hid (Blk.new w8 25 #[.int .i64 t.k, .int .i64 t.n, .slice at8 t.ps.length ct8])
            have HOK := Lib.hid (And.intro ok1 ok2)
            have HFT := Lib.hid hfit
            clear how8 ok1 ok2 hok hrd ho hfit H6

            obtain ⟨z0, z1, z2, _, _, _⟩ := HB8.out.three
            go_wp2_with fail
            refine (lower_any t _ _ _ _ _ HFT.out HOK.out.1 HOK.out.2 HT8.out (fun b hb => by simp; omega)).mono ?_
            rintro e w9 ⟨a9, c9, rfl, ok3, ok4, how9, hfr⟩
            have hs9 := hfr.size
            simp only [World.size_alloc] at hs9
            have H9 := Lib.hid (H8.out.fr hfr (fun b hb => hb.1))
            have hb9 := HB8.out.fr' hfr (fun h => by omega)
            have HB9 := Lib.hid hb9
            have HT9 := Lib.hid how9
            have HK10 := Lib.hid (And.intro ok3 ok4)
            clear z0 z1 z2 ok3 ok4 how9 hfr H8 HT8 HB8
            obtain ⟨z0, z1, z2, f0, f1, f2⟩ := hb9.three
            clear hb9
            go_upto_region 18 with (fail)
            clear z0 z1 z2 f0 f1 f2
            obtain ⟨w10, hw10⟩ : ∃ W, W = set3 w9 w8.heap.size (.int .i64 t.low.k) (.int .i64 t.low.n) (.slice a9 t.low.ps.length c9) := ⟨_, rfl⟩
            have hs10 : w8.heap.size < w10.heap.size := by rw [hw10, set3_size]; omega
            have h10 : LSt w w1.heap.size g w6.heap.size w10 ⟨s.m ++ [true], s.t⟩ (.slice av5 (s.m.length + 1) cv5) a' c' q8 := by
              rw [hw10]
              exact H9.out.put _ (by omega) _ _ _
            have ht10 : OwS w10 25 (fun b => w6.heap.size ≤ b ∧ b < w8.heap.size) t.low.ps a9 c9 := by rw [hw10]; exact HT9.out.set3 (fun b hb => by omega) _ _ _
            have hb10 : Blk w10 w8.heap.size 25 #[.int .i64 t.low.k, .int .i64 t.low.n, .slice a9 t.low.ps.length c9] := by
              rw [hw10]; have := ((HB9.out.set_ 0 (.int .i64 t.low.k)).set_ 1 (.int .i64 t.low.n)).set_ 2 (.slice a9 t.low.ps.length c9); simpa [set3] using this
            unfold set3 at hw10
            rw [← hw10]
            have H10 := Lib.hid h10
            have HT10 := Lib.hid ht10
            have HB10 := Lib.hid hb10
            have HS10 := Lib.hid hs10
            have HN10 := Lib.hid (Nat.le_trans t.low_nodes hn15)
            clear hw10 h10 ht10 hb10 hs10 H9 HT9 HB9

            obtain ⟨z0, z1, z2, _, _, _⟩ := HB10.out.three

            obtain ⟨x0, x1, _, _⟩ := H10.out.bx.two
            have hlenT : s.t.length ≤ 1000000 := by omega
            go_wp2_with (at_builtin; refine wpList_append_ow _ rfl (.tmp 61) (.tmp 63) 23 25 rfl iT _ Try.underlying23 HIT.out.1 HIT.out.2.1 HIT.out.2.2.1 HIT.out.2.2.2 rfl (fun b => w1.heap.size + 1 ≤ b ∧ b < w6.heap.size ∧ (Value.slice av5 (s.m.length + 1) cv5).ownBlock ≠ some b) (fun b => w6.heap.size ≤ b ∧ b < w8.heap.size) s.t a' c' rfl (H10.out.sh.ow.alloc _) hlenT ⟨w10.heap.size, 0, none⟩ 1 rfl t.low a9 c9 ?te1 ?te2 ?te3 (HT10.out.alloc _) ?te4 ?te5 ?te6 ?_)
            case te2 => exact HK10.out.1
            case te3 => exact HK10.out.2
            case te4 => intro b hb hb2; omega
            case te5 => intro b hb; have := H10.out.sh.le; first | omega | (simp; omega)
            case te6 => intro b hb; have := HS10.out; first | omega | (simp; omega)
            intro v7 w7 hgr
            obtain ⟨a7, c7, rfl, hbx, hsz7, hl7⟩ := (H10.out.alloc _).task (t := t.low) (F1 := (fun b => w6.heap.size ≤ b ∧ b < w8.heap.size)) (fun b hb => by have := HS10.out; simp; omega) hgr
            simp only [World.size_alloc] at hsz7
            have H7 := Lib.hid hl7
            clear hgr hl7 x0 x1
            obtain ⟨x0, x1, f0, f1⟩ := hbx.two
            clear hbx
            go_wp2_with fail
            clear x0 x1 f0 f1
            go_roundw
            case rel => exact ⟨_, _, _, _, _, by simp only [List.length_append, List.length_singleton]; go_num, by simp only [List.length_append, List.length_singleton]; omega, by have := HTL.out; simp only [List.length_append, List.length_singleton]; omega, by rw [nodesL_append]; have := HN10.out; simp only [nodesL, List.length_append, List.length_singleton]; omega, by simp only [List.length_append, List.length_singleton]; omega, H7.out.up (by simp [World.setCell]) (Nat.le_refl _)⟩
            case measure => simp [intOf]; omega
          · go_wp2_with fail
            refine (fit_any _ g _ _ H6.out.rd (by omega) (by omega) (by omega)).mono ?_
            rintro e w8 ⟨t, at8, ct8, q8, rfl, how8, ok1, ok2, hok, hp0, hp1, hrd, ho⟩
            have hs8 := ho.size
            have hn15 : t.nodes ≤ 15 := by have := hok; simp [T.ok] at this; exact this.2
            have hfit : t.fit = true := by have := hok; simp [T.ok] at this; exact this.1
            have H8 := Lib.hid ((H6.out.only ho hrd).alloc (.cells #[.int .i64 t.k, .int .i64 t.n, .slice at8 t.ps.length ct8] 25))
            have HT8 := Lib.hid (how8.alloc (.cells #[.int .i64 t.k, .int .i64 t.n, .slice at8 t.ps.length ct8] 25))
            have HB8 := Lib.hid (Blk.new w8 25 #[.int .i64 t.k, .int .i64 t.n, .slice at8 t.ps.length ct8])
            have HOK := Lib.hid (And.intro ok1 ok2)
            have HFT := Lib.hid hfit
            clear how8 ok1 ok2 hok hrd ho hfit H6

            go_upto_region 18 with (fail)
            obtain ⟨w10, hw10⟩ : ∃ W, W = w8.alloc (.cells #[.int .i64 t.k, .int .i64 t.n, .slice at8 t.ps.length ct8] 25) := ⟨_, rfl⟩
            have hs10 : w8.heap.size < w10.heap.size := by rw [hw10]; simp
            rw [← hw10] at H8 HT8 HB8 ⊢
            have H10 := H8
            have HT10 := HT8
            have HB10 := HB8
            have HK10 := HOK
            have HS10 := Lib.hid hs10
            have HN10 := Lib.hid hn15
            clear hw10 H8 HT8 HB8 HOK hs10

            obtain ⟨z0, z1, z2, _, _, _⟩ := HB10.out.three

            obtain ⟨x0, x1, _, _⟩ := H10.out.bx.two
            have hlenT : s.t.length ≤ 1000000 := by omega
            go_wp2_with (at_builtin; refine wpList_append_ow _ rfl (.tmp 61) (.tmp 63) 23 25 rfl iT _ Try.underlying23 HIT.out.1 HIT.out.2.1 HIT.out.2.2.1 HIT.out.2.2.2 rfl (fun b => w1.heap.size + 1 ≤ b ∧ b < w6.heap.size ∧ (Value.slice av5 (s.m.length + 1) cv5).ownBlock ≠ some b) (fun b => w6.heap.size ≤ b ∧ b < w8.heap.size) s.t a' c' rfl (H10.out.sh.ow.alloc _) hlenT ⟨w10.heap.size, 0, none⟩ 1 rfl t at8 ct8 ?td1 ?td2 ?td3 (HT10.out.alloc _) ?td4 ?td5 ?td6 ?_)
            case td2 => exact HK10.out.1
            case td3 => exact HK10.out.2
            case td4 => intro b hb hb2; omega
            case td5 => intro b hb; have := H10.out.sh.le; first | omega | (simp; omega)
            case td6 => intro b hb; have := HS10.out; first | omega | (simp; omega)
            intro v7 w7 hgr
            obtain ⟨a7, c7, rfl, hbx, hsz7, hl7⟩ := (H10.out.alloc _).task (t := t) (F1 := (fun b => w6.heap.size ≤ b ∧ b < w8.heap.size)) (fun b hb => by have := HS10.out; simp; omega) hgr
            simp only [World.size_alloc] at hsz7
            have H7 := Lib.hid hl7
            clear hgr hl7 x0 x1
            obtain ⟨x0, x1, f0, f1⟩ := hbx.two
            clear hbx
            go_wp2_with fail
            clear x0 x1 f0 f1
            go_roundw
            case rel => exact ⟨_, _, _, _, _, by simp only [List.length_append, List.length_singleton]; go_num, by simp only [List.length_append, List.length_singleton]; omega, by have := HTL.out; simp only [List.length_append, List.length_singleton]; omega, by rw [nodesL_append]; have := HN10.out; simp only [nodesL, List.length_append, List.length_singleton]; omega, by simp only [List.length_append, List.length_singleton]; omega, H7.out.up (by simp [World.setCell]) (Nat.le_refl _)⟩
            case measure => simp [intOf]; omega
    · have HLE := Lib.hid (show s.m.length = N by omega)
      obtain ⟨x0, x1, _, _⟩ := HL.out.bx.two
      obtain ⟨y0, y1, f0, f1⟩ := HL.out.by_.two
      go_wp2_with fail
      refine bodyPost_ret (v := .agg #[.slice av s.m.length cv, .slice a' s.t.length c']) (by simp [results, Try.results72, go_sem, y0, y1]) rfl ?_
      have h := HL.out
      have hm := h.ml
      have hx := h.xl
      have h1 := (h.sh.set_ ⟨w.heap.size, 0, none⟩ (.slice av s.m.length cv) (.inl (by simp; omega))).set_ ⟨w.heap.size, 1, none⟩ (.slice a' s.t.length c') (.inl (by simp; omega))
      exact ⟨s, .slice av s.m.length cv, a', c', q, rfl, (h1.low (by omega)).up (by simp [World.setCell]) (Nat.le_refl _), HTL.out, by omega, by omega, by omega, by omega,
        h.rd.keep (fun k hk => by rw [Below.heap_setCell _ _ _ _ (by simp; omega), Below.heap_setCell _ _ _ _ (by simp; omega)]), (h.on.set (.inr (by simp)) _).set (.inr (by simp)) _⟩
end Go.Proofs.Ytmbgglmnbllpjaa
