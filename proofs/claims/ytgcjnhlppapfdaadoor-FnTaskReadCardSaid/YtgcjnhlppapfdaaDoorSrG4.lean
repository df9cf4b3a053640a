/- spec.l1Rd.task: a choice -/
import Derived.Test.YtgcjnhlppapfdaaDoorSrG
namespace Go.Proofs.YtgcjnhlppapfdaaDoor
open Go.RowKit Go.Lib

set_option maxRecDepth 100000 in
set_option maxHeartbeats 8000000 in
theorem gs_4 (f : Nat) (hT : TskS f) (w : World) (g p : Nat) (s : ByteArray) (h : SrAt w g s p false) (hs : s.size ≤ 1048576) (hf : s.size < f + 1 + p) (h40 : at_ s p = 40) (hc : at_ s (p + 1) = 63) :
    Calls Tryd.prog 22 #[.pointer (some ⟨g, 0, none⟩)] w (TaskSPost w g s p (taskS (f + 1) s p)) := by
  have HT := Lib.hid hT
  have hgl := h.lt
  have hlt := at_some h40 (by decide)
  have hlt1 := at_some hc (by decide)
  have HR := Lib.hid (show SrAt (w.alloc (.cells #[.int .i64 0, .int .i64 0, .slice none 0 0] 25)) g s p false from Blk.alloc h _)
  have H40 := Lib.hid h40
  have HC := Lib.hid hc
  have hhd : headS s (p + 1) = some (4, 0, 3, p + 1 + 1) := by unfold headS; rw [if_neg (by omega), if_neg (by omega), if_pos hc]
  have hgr : taskS (f + 1) s p = (match partsS (fun j => taskS f s j) s 3 (p + 1 + 1) with | some (ps, j') => if at_ s j' = 41 then some (.mk (4 : Nat) (0 : Nat) ps, j' + 1) else none | none => none) := by
    simp only [taskS]; rw [if_neg (by omega), if_pos h40]; unfold groupS; rw [hhd]; rfl
  have HGR := Lib.hid hgr
  obtain ⟨r, hr⟩ : ∃ r, r = taskS (f + 1) s p := ⟨_, rfl⟩
  rw [← hr] at HGR ⊢
  have hshp : shp 4 = (3, 0, true) := rfl
  have HSH := Lib.hid hshp
  obtain ⟨i0, hi, hz0, hz1, hz2⟩ := info_parts infoTask
  have HI := Lib.hid (And.intro hi (And.intro hz0 (And.intro hz1 hz2)))
  clear h h40 hc hhd hgr hr hshp hT hi hz0 hz1 hz2
  go_enter Tryd.func22, Tryd.ntmps22
  go_wp2_with fail
  refine (next_no _ g p s false 107 HR.out (by rw [H40.out]; decide) (by omega)).mono ?_
  rintro e w1 ⟨rfl, hrd, ho⟩
  have hsz := ho.size
  simp only [World.size_alloc] at hsz
  have HK1 := Lib.hid ((Blk.new w 25 #[.int .i64 0, .int .i64 0, .slice none 0 0]).only ho (by omega))
  have HO1 := Lib.hid (((Only.refl g w).alloc (.cells #[.int .i64 0, .int .i64 0, .slice none 0 0] 25)).trans ho)
  have HR1 := Lib.hid hrd
  clear hrd ho
  go_wp2_with fail
  refine (next_yes _ g p s false 40 HR1.out H40.out (by decide) hs).mono ?_
  rintro e w2 ⟨rfl, hrd, ho⟩
  have hsz2 := ho.size
  have HK2 := Lib.hid ((HK1.out.only ho (by omega)).alloc (.cells #[.int .i64 0, .int .i64 0, .slice none 0 0] 25))
  have HO2 := Lib.hid ((HO1.out.trans ho).alloc (.cells #[.int .i64 0, .int .i64 0, .slice none 0 0] 25))
  have HR2 := Lib.hid (show SrAt (w2.alloc (.cells #[.int .i64 0, .int .i64 0, .slice none 0 0] 25)) g s (p + 1) false from Blk.alloc hrd _)
  have HB2 := Lib.hid (Blk.new w2 25 #[.int .i64 0, .int .i64 0, .slice none 0 0])
  clear hrd ho HK1 HO1 HR1
  go_wp2_with fail
  refine (next_no _ g (p + 1) s false 43 HR2.out (by rw [HC.out]; decide) (by omega)).mono ?_
  rintro e wn0 ⟨rfl, hrd, ho⟩
  have hszn0 := ho.size
  simp only [World.size_alloc] at hszn0
  have HKn0 := Lib.hid (HK2.out.only ho (by omega))
  have HOn0 := Lib.hid (HO2.out.trans ho)
  have HRn0 := Lib.hid hrd
  have HBn0 := Lib.hid (HB2.out.only ho (by omega))
  clear hrd ho HK2 HO2 HR2 HB2
  go_wp2_with fail
  refine (next_no _ g (p + 1) s false 42 HRn0.out (by rw [HC.out]; decide) (by omega)).mono ?_
  rintro e wn1 ⟨rfl, hrd, ho⟩
  have hszn1 := ho.size
  have HKn1 := Lib.hid (HKn0.out.only ho (by omega))
  have HOn1 := Lib.hid (HOn0.out.trans ho)
  have HRn1 := Lib.hid hrd
  have HBn1 := Lib.hid (HBn0.out.only ho (by omega))
  clear hrd ho HKn0 HOn0 HRn0 HBn0
  go_wp2_with fail
  refine (next_yes _ g (p + 1) s false 63 HRn1.out HC.out (by decide) hs).mono ?_
  rintro e w3 ⟨rfl, hrd, ho⟩
  have hsz3 := ho.size
  have HK3 := Lib.hid (HKn1.out.only ho (by omega))
  have HO3 := Lib.hid (HOn1.out.trans ho)
  have HR3 := Lib.hid hrd
  have hB3 := HBn1.out.only ho (by omega)
  have HB3 := Lib.hid hB3
  obtain ⟨y0, y1, y2, g0, g1, g2⟩ := hB3.three
  clear hrd ho hB3 HKn1 HOn1 HRn1 HBn1
  go_upto_region 16 with (fail)
  clear y0 y1 y2 g0 g1 g2
  obtain ⟨B, hB⟩ : ∃ B, B = w2.heap.size := ⟨_, rfl⟩
  rw [← hB] at HB3 ⊢
  obtain ⟨W, hW⟩ : ∃ W, W = w3.setCell ⟨B, 0, none⟩ (.int .i64 4) := ⟨_, rfl⟩
  have hWs : W.heap.size = w3.heap.size := by rw [hW]; simp [World.setCell]
  have hWB : Blk W B 25 #[.int .i64 4, .int .i64 0, .slice none 0 0] := by rw [hW]; have := HB3.out.set_ 0 (.int .i64 4); simpa using this
  have hGI : GrI w g B s p 4 0 3 (p + 1 + 1) (fun j => taskS f s j) 0 W :=
    ⟨[], none, 0, hWB, by rw [hW]; exact HK3.out.far (by simp; omega) _, OwS.nil, by rw [hW]; exact HO3.out.set (.inr (by simp; omega)) _, by simp,
      .inl ⟨p + 1 + 1, by rw [hW]; exact Blk.far HR3.out (by simp; omega) _, by omega, by omega, rfl, by cases partsS (fun j => taskS f s j) s 3 (p + 1 + 1) <;> rfl⟩⟩
  have HGI := Lib.hid hGI
  have hBw : w.heap.size < B := by omega
  have hBg : g < B := by omega
  obtain ⟨y0, y1, y2, g0, g1, g2⟩ := hWB.three
  rw [← hW]
  clear hW hWB hGI HK3 HO3 HR3 HB3 hB
  go_wp2_with fail
  refine (specShape_any 4 _).mono ?_
  rintro e w4 ⟨rfl, rfl⟩
  rw [HSH.out]
  clear y0 y1 y2 g0 g1 g2
  go_wp2_with fail
  go_loopw [7] (fun iv wr => ∃ i : Nat, iv = .int .i64 i ∧ i ≤ 3 ∧ GrI w g B s p 4 0 3 (p + 1 + 1) (fun j => taskS f s j) i wr) (fun iv _ => 3 - (intOf iv).toNat)
  case atStart => exact ⟨0, rfl, by omega, HGI.out⟩
  case round =>
    obtain ⟨i, rfl, hi2, ps, a, c, hBk, hKk, how, ho, hpi, hcase⟩ := hrel
    have HB := Lib.hid hBk
    have HK := Lib.hid hKk
    have HW := Lib.hid how
    have HO := Lib.hid ho
    have hws := ho.size
    have hBl := hBk.lt
    have hpi2 : ps.length ≤ 3 := by omega
    clear hBk hKk how ho HGI
    rcases hcase with ⟨j, hsr, hj, hpj, hpl, hps⟩ | ⟨q, hq, hsr, hps⟩
    · by_cases hi : i < 3
      · have hid : (i : Int) < 3 := by omega
        obtain ⟨x0, x1, x2, f0, f1, f2⟩ := Blk.three hsr
        have HSR := Lib.hid hsr
        have HPS := Lib.hid hps
        have HPL := Lib.hid hpl
        clear hsr hps hpl
        by_cases h32 : at_ s j = 32
        · have H32 := Lib.hid h32
          clear h32
          go_wp2_with fail
          refine (next_yes _ g j s false 32 HSR.out H32.out (by decide) hs).mono ?_
          rintro e w4 ⟨rfl, hrd, ho⟩
          have hs4 := ho.size
          have hj1 := at_some H32.out (by decide)
          have HB4 := Lib.hid (HB.out.only ho (by omega))
          have HK4 := Lib.hid (HK.out.only ho (by omega))
          have HW4 := Lib.hid ((HW.out.only (g := g) (by intro b hb; omega) ho).weaken (F' := fun b => B < b ∧ b < w4.heap.size) (by intro b hb; omega))
          have HO4 := Lib.hid (HO.out.trans ho)
          have HR4 := Lib.hid hrd
          obtain ⟨x0, x1, x2, f0, f1, f2⟩ := Blk.three hrd
          clear hrd ho HB HK HW HO HSR
          go_upto_region 22 with (fail)
          clear x0 x1 x2 f0 f1 f2
          obtain ⟨V, hV⟩ : ∃ V, V = w4.setCell ⟨g, 2, none⟩ (.bool false) := ⟨_, rfl⟩
          have hVs : V.heap.size = w4.heap.size := by rw [hV]; simp [World.setCell]
          have HB5 := Lib.hid (show Blk V B 25 #[.int .i64 4, .int .i64 0, .slice a ps.length c] by rw [hV]; exact HB4.out.far (by simp; omega) _)
          have HK5 := Lib.hid (show Blk V w.heap.size 25 #[.int .i64 0, .int .i64 0, .slice none 0 0] by rw [hV]; exact HK4.out.far (by simp; omega) _)
          have HW5 := Lib.hid (show OwS V 25 (fun b => B < b ∧ b < V.heap.size) ps a c by rw [hVs, hV]; exact HW4.out.setCell (by intro b hb; simp; omega) _)
          have HO5 := Lib.hid (show Only g w V by rw [hV]; exact HO4.out.set (.inl rfl) _)
          have HR5 := Lib.hid (show SrAt V g s (j + 1) false by rw [hV]; exact HR4.out.set_bad false)
          obtain ⟨y0, y1, y2, g0, g1, g2⟩ := HB5.out.three
          rw [← hV]
          clear hV HB4 HK4 HW4 HO4 HR4
          go_region_law (first
            | (go_simp; go_at_call 22; refine (HT.out _ g (j + 1) s (show SrAt V.drew g s (j + 1) false from HR5.out) (by omega) hs (by omega)).mono ?_; rintro e w6 ⟨ho6, t6, a6, c6, rfl, how6, ok6, ok6', hl6, hcase6⟩
               have hs6 := ho6.size
               simp only [World.size_drew] at hs6
               have hB6 : Blk w6 B 25 #[.int .i64 4, .int .i64 0, .slice a ps.length c] := Blk.only (w := V.drew) HB5.out ho6 (by omega)
               obtain ⟨u0, u1, u2, _, _, _⟩ := hB6.three
               obtain ⟨q0, q1, q2, _, _, _⟩ := (hB6.alloc (.cells #[.int .i64 t6.k, .int .i64 t6.n, .slice a6 t6.ps.length c6] 25)).three)
            | (refine step_append_ow rfl (.tmp 79) (.tmp 82) 23 25 rfl i0 _ Tryd.underlying23 HI.out.1 HI.out.2.1 HI.out.2.2.1 HI.out.2.2.2 rfl (fun b => B < b ∧ b < V.heap.size) (fun b => V.heap.size ≤ b ∧ b < w6.heap.size) ps a c rfl
                 (((OwS.only (w := V.drew) (HW5.out.drew) (by intro b hb; omega) ho6)).alloc _) (by omega) ⟨w6.heap.size, 0, none⟩ 1 rfl t6 a6 c6 (by intro j u hj; rw [add0, World.cell?_alloc_new, ← hj]; simp) ok6 ok6' (how6.alloc _) (by intro b h1 h2; omega) (by intro b hb; simp; omega) (by intro b hb; simp; omega) ?_
               intro v7 w7 hgr7
               obtain ⟨a7, c7, rfl, how7, hs7, hkeep7, hos7, htape7, hout7⟩ := hgr7
               simp only [World.size_alloc] at hs7 hkeep7
               have hB7 : Blk w7 B 25 #[.int .i64 4, .int .i64 0, .slice a ps.length c] := (hkeep7 _ (by omega) (fun x hx => by have := HW5.out.head x hx; omega)).trans (hB6.alloc _)
               obtain ⟨v0, v1, v2, h0, h1, h2⟩ := hB7.three))
          all_goals
            have HX := Lib.hid (GrI.next (F := fun j => taskS f s j) hgl hBw hi HPL.out H32.out HPS.out HK5.out HB5.out.lt HO5.out ho6 hcase6 hpj (fun x hx => (HW5.out.head x hx).1) hs7 hkeep7 hos7 htape7 hout7 hB7 (how7.weaken (fun b hb => by simp only [World.size_alloc] at hb; exact hb)))
            clear u0 u1 u2 q0 q1 q2 v0 v1 v2 h0 h1 h2 hB7 hB6 how7 hkeep7 hos7 htape7 hout7 how6 hcase6 ho6 HB5 HK5 HW5 HO5 HR5
            go_wp2_with fail
            go_roundw
            case rel => exact ⟨i + 1, by go_num, by omega, HX.out⟩
            case measure => simp [intOf]; omega
        · have HPN := Lib.hid (show partsS (fun j => taskS f s j) s 3 (p + 1 + 1) = none by
            rw [HPS.out, show 3 - i = (3 - i - 1) + 1 by omega, partsS_no h32]; rfl)
          have H32 := Lib.hid h32
          clear h32
          go_wp2_with fail
          refine (next_no _ g j s false 32 HSR.out H32.out hj).mono ?_
          rintro e w4 ⟨rfl, hrd, ho⟩
          have hs4 := ho.size
          have HX := Lib.hid (show GrI w g B s p 4 0 3 (p + 1 + 1) (fun j => taskS f s j) (i + 1) (w4.setCell ⟨g, 2, none⟩ (.bool true)) from
            ⟨ps, a, c, (HB.out.only ho (by omega)).far (by simp; omega) _, (HK.out.only ho (by omega)).far (by simp; omega) _, ((HW.out.only (g := g) (by intro b hb; omega) ho).setCell (by intro b hb; simp; omega) _).weaken (by intro b hb; simp [World.setCell]; omega),
              (HO.out.trans ho).set (.inl rfl) _, by omega, .inr ⟨j, hj, hrd.set_bad true, HPN.out⟩⟩)
          obtain ⟨x0, x1, x2, f0, f1, f2⟩ := Blk.three hrd
          clear hrd ho HB HK HW HO HSR
          go_wp2_with fail
          go_roundw
          case rel => exact ⟨i + 1, by go_num, by omega, HX.out⟩
          case measure => simp [intOf]; omega
      · have hid : ¬ ((i : Int) < 3) := by omega
        obtain rfl : i = 3 := by omega
        obtain ⟨x0, x1, x2, f0, f1, f2⟩ := Blk.three hsr
        have HSR := Lib.hid hsr
        have HPS := Lib.hid (show partsS (fun j => taskS f s j) s 3 (p + 1 + 1) = some (ps, j) by rw [hps]; simp [partsS])
        have HPL := Lib.hid hpl
        clear hsr hps hpl
        by_cases h41 : at_ s j = 41
        · have H41 := Lib.hid h41
          clear h41
          go_wp2_with fail
          refine (next_yes _ g j s false 41 HSR.out H41.out (by decide) hs).mono ?_
          rintro e w4 ⟨rfl, hrd, ho⟩
          have hs4 := ho.size
          have hj1 := at_some H41.out (by decide)
          have hB4 := HB.out.only ho (by omega)
          have hK4 := HK.out.only ho (by omega)
          have HX := Lib.hid (And.intro ((HO.out.trans ho).set (p := ⟨g, 2, none⟩) (.inl rfl) (.bool false)) (And.intro (((HW.out.only (g := g) (by intro b hb; omega) ho).setCell (p := ⟨g, 2, none⟩) (by intro b hb; simp; omega) (.bool false)).weaken (F' := fun b => B < b ∧ b < (w4.setCell ⟨g, 2, none⟩ (.bool false)).heap.size) (by intro b hb; simp [World.setCell]; omega)) (hrd.set_bad false)))
          obtain ⟨x0, x1, x2, f0, f1, f2⟩ := Blk.three hrd
          obtain ⟨y0, y1, y2, g0, g1, g2⟩ := hB4.three
          obtain ⟨z0, z1, z2, k0, k1, k2⟩ := hK4.three
          have hgB : g ≠ B := by omega
          have hgw : g ≠ w.heap.size := by omega
          have hw4 : w.heap.size < w4.heap.size := by omega
          clear hrd ho HB HK HW HO HSR hB4 hK4
          go_wp2_with fail
          refine bodyPost_ret (v := .agg #[.int .i64 4, .int .i64 0, .slice a ps.length c]) (by simp [results, Tryd.results22, go_sem, z0, z1, z2]) rfl ?_
          exact groupEnd (k := 4) (n := 0) hgl hBw (by decide) (by decide) (by omega) HX.out.1 HX.out.2.1 (.inl ⟨j + 1, by rw [HGR.out, HPS.out]; simp [H41.out], HX.out.2.2, by omega, by omega⟩)
        · have H41 := Lib.hid h41
          clear h41
          go_wp2_with fail
          refine (next_no _ g j s false 41 HSR.out H41.out hj).mono ?_
          rintro e w4 ⟨rfl, hrd, ho⟩
          have hs4 := ho.size
          have hB4 := HB.out.only ho (by omega)
          have hK4 := HK.out.only ho (by omega)
          have HX := Lib.hid (And.intro ((HO.out.trans ho).set (p := ⟨g, 2, none⟩) (.inl rfl) (.bool true)) (And.intro (((HW.out.only (g := g) (by intro b hb; omega) ho).setCell (p := ⟨g, 2, none⟩) (by intro b hb; simp; omega) (.bool true)).weaken (F' := fun b => B < b ∧ b < (w4.setCell ⟨g, 2, none⟩ (.bool true)).heap.size) (by intro b hb; simp [World.setCell]; omega)) (hrd.set_bad true)))
          obtain ⟨x0, x1, x2, f0, f1, f2⟩ := Blk.three hrd
          obtain ⟨y0, y1, y2, g0, g1, g2⟩ := hB4.three
          obtain ⟨z0, z1, z2, k0, k1, k2⟩ := hK4.three
          have hgB : g ≠ B := by omega
          have hgw : g ≠ w.heap.size := by omega
          have hw4 : w.heap.size < w4.heap.size := by omega
          clear hrd ho HB HK HW HO HSR hB4 hK4
          go_wp2_with fail
          refine bodyPost_ret (v := .agg #[.int .i64 4, .int .i64 0, .slice a ps.length c]) (by simp [results, Tryd.results22, go_sem, z0, z1, z2]) rfl ?_
          exact groupEnd (k := 4) (n := 0) hgl hBw (by decide) (by decide) (by omega) HX.out.1 HX.out.2.1 (.inr ⟨by rw [HGR.out, HPS.out]; simp [H41.out], j, hj, HX.out.2.2⟩)
    · have HPS := Lib.hid hps
      have HX := Lib.hid (And.intro (HO.out.set (p := ⟨g, 2, none⟩) (.inl rfl) (.bool true)) (And.intro ((HW.out.setCell (p := ⟨g, 2, none⟩) (by intro b hb; simp; omega) (.bool true)).weaken (F' := fun b => B < b ∧ b < (wr.setCell ⟨g, 2, none⟩ (.bool true)).heap.size) (by intro b hb; simp [World.setCell]; omega)) (hsr.set_bad true)))
      obtain ⟨x0, x1, x2, f0, f1, f2⟩ := Blk.three hsr
      obtain ⟨y0, y1, y2, g0, g1, g2⟩ := HB.out.three
      obtain ⟨z0, z1, z2, k0, k1, k2⟩ := HK.out.three
      have hgB : g ≠ B := by omega
      have hgw : g ≠ w.heap.size := by omega
      have hw4 : w.heap.size < wr.heap.size := by omega
      clear hsr hps HB HK HW HO
      by_cases hi : i < 3
      · have hid : (i : Int) < 3 := by omega
        go_wp2_with fail
        refine bodyPost_ret (v := .agg #[.int .i64 4, .int .i64 0, .slice a ps.length c]) (by simp [results, Tryd.results22, go_sem, z0, z1, z2]) rfl ?_
        exact groupEnd (k := 4) (n := 0) hgl hBw (by decide) (by decide) (by omega) HX.out.1 HX.out.2.1 (.inr ⟨by rw [HGR.out, HPS.out], q, hq, HX.out.2.2⟩)
      · have hid : ¬ ((i : Int) < 3) := by omega
        go_wp2_with fail
        refine bodyPost_ret (v := .agg #[.int .i64 4, .int .i64 0, .slice a ps.length c]) (by simp [results, Tryd.results22, go_sem, z0, z1, z2]) rfl ?_
        exact groupEnd (k := 4) (n := 0) hgl hBw (by decide) (by decide) (by omega) HX.out.1 HX.out.2.1 (.inr ⟨by rw [HGR.out, HPS.out], q, hq, HX.out.2.2⟩)
end Go.Proofs.YtgcjnhlppapfdaaDoor
