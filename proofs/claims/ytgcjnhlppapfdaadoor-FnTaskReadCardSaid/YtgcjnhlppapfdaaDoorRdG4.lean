/- impl.taskReader.group: a choice -/
import Derived.Test.YtgcjnhlppapfdaaDoorRdG
namespace Go.Proofs.YtgcjnhlppapfdaaDoor
open Go.RowKit Go.Lib

set_option maxHeartbeats 4000000 in
theorem group_4 (f : Nat) (hT : TskT f) (w : World) (g p left : Nat) (s : ByteArray) (h : RrAt w g s p left) (hp : p ≤ s.size) (hs : s.size ≤ 1048576) (hl : left ≤ f) (hl2 : left ≤ 1000) (hc : at_ s p = 63) :
    Calls Tryd.prog 30 #[.pointer (some ⟨g, 0, none⟩)] w (RdPost w g s (groupP (fun j l => taskP f s j l) s p left)) := by
  have HT := Lib.hid hT
  have hgl := h.lt
  have H0 := Lib.hid (And.intro ((h.alloc (.cells #[.int .i64 0, .int .i64 0, .slice none 0 0] 25)).alloc (.cells #[.int .i64 0, .int .i64 0, .slice none 0 0] 25)) (((Only.refl g w).alloc (.cells #[.int .i64 0, .int .i64 0, .slice none 0 0] 25)).alloc (.cells #[.int .i64 0, .int .i64 0, .slice none 0 0] 25)))
  have HR0 := Lib.hid ((Blk.new w 25 #[.int .i64 0, .int .i64 0, .slice none 0 0]).alloc (.cells #[.int .i64 0, .int .i64 0, .slice none 0 0] 25))
  have hB := Blk.new (w.alloc (.cells #[.int .i64 0, .int .i64 0, .slice none 0 0] 25)) 25 #[.int .i64 0, .int .i64 0, .slice none 0 0]
  rw [World.size_alloc] at hB
  have HB0 := Lib.hid hB
  have htk : tookB s p = 63 := by unfold tookB; rw [hc]; rfl
  have htp : tookP s p = p + 1 := by unfold tookP; rw [hc]; rfl
  have HTK := Lib.hid htk
  have HTP := Lib.hid htp
  have HC := Lib.hid hc
  clear h hT hB htk htp hc
  have hhd : headP s p = some (4, 0, 3, p + 1) := by unfold headP; simp [HC.out]
  have hgr : groupP (fun j l => taskP f s j l) s p left = (match partsP (fun j l => taskP f s j l) s 3 (p + 1) left with
      | some (ps, j', left') => if at_ s j' = 41 then some (.mk 4 0 ps, j' + 1, left') else none
      | none => none) := by unfold groupP; rw [hhd]; rfl
  have HGR := Lib.hid hgr
  have hplt : p < s.size := at_some HC.out (by omega)
  have hshp : shp 4 = (3, 0, true) := rfl
  have HSH := Lib.hid hshp
  obtain ⟨i0, hi, hz0, hz1, hz2⟩ := info_parts infoTask
  have hmk : ∀ W, (Instr.makeSlice 23 (.int .i64 3) (.int .i64 3)).run Tryd.prog W = .ok (.slice (some ⟨W.heap.size, 0, none⟩) 3 3) (W.alloc (.cells (madeCells #[.int .i64 0, .int .i64 0, .slice none 0 0] 9) 25)) := fun W => by
    have h := run_make_rowN (P := Tryd.prog) 23 25 i0 _ Tryd.underlying23 hi hz0 .i64 .i64 3 3 (Nat.le_refl _) (by rw [hz2]; omega) (by omega) W
    rw [hz1] at h
    exact h
  have HMK := Lib.hid hmk
  clear hhd hgr hshp hmk hi hz0 hz1 hz2
  go_enter Tryd.func30, Tryd.ntmps30
  go_wp2_with fail
  refine (take_any _ g p left s H0.out.1 hp hs).mono ?_
  rintro e w1 ⟨rfl, hr1, ho1⟩
  rw [HTK.out]
  rw [HTP.out] at hr1
  have H1 := Lib.hid (And.intro hr1 (H0.out.2.trans ho1))
  have hs1 := ho1.size
  simp only [World.size_alloc] at hs1
  have HR1 := Lib.hid (HR0.out.only ho1 (by omega))
  have hb1 := HB0.out.only ho1 (by omega)
  have HB1 := Lib.hid hb1
  obtain ⟨y0, y1, y2, g0, g1, g2⟩ := hb1.three
  clear hr1 ho1 hb1 H0 HR0 HB0
  go_wp2_with fail
  refine (implShape_any 4 _).mono ?_
  rintro e w2 ⟨rfl, rfl⟩
  rw [HSH.out]
  have hmk := HMK.out
  have hlt1 : w.heap.size + 1 < w1.heap.size := by omega
  have hlt1' : w.heap.size + 1 ≠ w1.heap.size := by omega
  go_wp2_with fail
  clear hmk y0 y1 y2 g0 g1 g2
  obtain ⟨G, hG⟩ : ∃ G, G = w1.heap.size := ⟨_, rfl⟩
  obtain ⟨W, hW⟩ : ∃ W, W = ((w1.setCell ⟨w.heap.size + 1, 0, none⟩ (.int .i64 4)).setCell ⟨w.heap.size + 1, 2, none⟩ (.slice (some ⟨G, 0, none⟩) 3 3)).alloc (.cells (madeCells #[.int .i64 0, .int .i64 0, .slice none 0 0] 9) 25) := ⟨_, rfl⟩
  have hblk := ((HB1.out.set_ 0 (.int .i64 4)).set_ 2 (.slice (some ⟨G, 0, none⟩) 3 3)).alloc (.cells (madeCells #[.int .i64 0, .int .i64 0, .slice none 0 0] 9) 25)
  have hP0 : Part W 25 G 3 [] := by
    rw [hW]
    have := heap_alloc_new ((w1.setCell ⟨w.heap.size + 1, 0, none⟩ (.int .i64 4)).setCell ⟨w.heap.size + 1, 2, none⟩ (.slice (some ⟨G, 0, none⟩) 3 3)) (.cells (madeCells #[.int .i64 0, .int .i64 0, .slice none 0 0] 9) 25)
    refine ⟨by simp, ⟨madeCells #[.int .i64 0, .int .i64 0, .slice none 0 0] 9, ?_, by rw [size_madeCells]⟩, by simp [AtL]⟩
    subst hG
    simpa using this
  have H2 := Lib.hid (And.intro (show RrAt W g s (p + 1) left by rw [hW]; exact ((H1.out.1.far (by simp; omega) _).far (by simp; omega) _).alloc _) (show Only g w W by rw [hW]; exact ((H1.out.2.set (.inr (by simp)) _).set (.inr (by simp)) _).alloc _))
  have HR2 := Lib.hid (show Blk W w.heap.size 25 #[.int .i64 0, .int .i64 0, .slice none 0 0] by rw [hW]; exact ((HR1.out.far (by simp) _).far (by simp) _).alloc _)
  rw [← hW] at hblk
  have HB2 := Lib.hid (show Blk W (w.heap.size + 1) 25 #[.int .i64 4, .int .i64 0, .slice (some ⟨G, 0, none⟩) 3 3] from hblk)
  have HP2 := Lib.hid hP0
  have hGw : w.heap.size + 1 < G := by omega
  rw [← hG, ← hW]
  clear hW hblk hP0 H1 HR1 HB1 hlt1 hlt1' hs1 hG
  go_loopw [51] (fun i wr => ∃ (m : Nat) (ps : List T) (j l : Nat), i = .int .i64 m ∧ ps.length = m ∧ m ≤ 3 ∧ j ≤ s.size ∧ l ≤ left ∧ RrAt wr g s j l ∧ Only g w wr ∧ Blk wr w.heap.size 25 #[.int .i64 0, .int .i64 0, .slice none 0 0] ∧
    Blk wr (w.heap.size + 1) 25 #[.int .i64 4, .int .i64 0, .slice (some ⟨G, 0, none⟩) 3 3] ∧ Part wr 25 G 3 ps ∧ restP (fun j l => taskP f s j l) s ps (3 - m) j l = partsP (fun j l => taskP f s j l) s 3 (p + 1) left) (fun i _ => 3 - (intOf i).toNat)
  case atStart => exact ⟨0, [], p + 1, left, rfl, rfl, by omega, by omega, Nat.le_refl _, H2.out.1, H2.out.2, HR2.out, HB2.out, HP2.out, restP_start _ _ _ _ _⟩
  case round =>
    obtain ⟨m, ps, j, l, rfl, hm, hm2, hj, hll, hr, ho, hrb, htb, hpt, hrest⟩ := hrel
    have HR := Lib.hid (And.intro hr ho)
    have HRB := Lib.hid hrb
    have HTB := Lib.hid htb
    have HPT := Lib.hid hpt
    have HRE := Lib.hid hrest
    have HM := Lib.hid hm
    clear hr ho hrb htb hpt hrest hm H2 HR2 HB2 HP2
    by_cases hlt : m < 3
    · go_wp2_with fail
      refine (take_any _ g j l s HR.out.1 hj hs).mono ?_
      rintro e w2 ⟨rfl, hr2, ho2⟩
      by_cases h32 : at_ s j = 32
      · have htk : tookB s j = 32 := by unfold tookB; rw [h32]; rfl
        have htp : tookP s j = j + 1 := by unfold tookP; rw [h32]; rfl
        rw [htk]
        rw [htp] at hr2
        have hjlt : j < s.size := at_some h32 (by omega)
        have H3 := Lib.hid (And.intro hr2 (HR.out.2.trans ho2))
        have HRB3 := Lib.hid (HRB.out.only ho2 (by omega))
        have HTB3 := Lib.hid (HTB.out.only ho2 (by omega))
        have HPT3 := Lib.hid (HPT.out.only ho2 (by omega))
        have H32 := Lib.hid h32
        clear hr2 ho2 htk htp h32 HR HRB HTB HPT
        go_wp2_with fail
        refine (HT.out _ g (j + 1) l s H3.out.1 (by omega) hs (by omega) (by omega)).mono ?_
        rintro e w3 hpost
        obtain ⟨ho3, ⟨t, j', l', a, c, hr, rfl, hR3, hj', hat⟩ | ⟨hr, kk, nn, aa, mm, cc, q, ql, rfl, hR3⟩⟩ := hpost.split
        · have hok := taskP_ok hr
          have hle := taskP_left _ _ _ _ _ _ _ hr
          have H4 := Lib.hid (And.intro (H3.out.2.trans ho3) (And.intro hR3 hat))
          have HN := Lib.hid hr
          have HRB4 := Lib.hid (HRB3.out.only ho3 (by omega))
          have htb4 := HTB3.out.only ho3 (by omega)
          have HTB4 := Lib.hid htb4
          have hpt4 := HPT3.out.only ho3 (by omega)
          have HPT4 := Lib.hid hpt4
          have HOK := Lib.hid hok
          obtain ⟨y0, y1, y2, g0, g1, g2⟩ := htb4.three
          obtain ⟨⟨u0, hu0⟩, k0⟩ := hpt4.cells (m * 3) (by omega)
          obtain ⟨⟨u1, hu1⟩, k1⟩ := hpt4.cells (m * 3 + 1) (by omega)
          obtain ⟨⟨u2, hu2⟩, k2⟩ := hpt4.cells (m * 3 + 2) (by omega)
          have hlt3 : w.heap.size + 1 < w3.heap.size := htb4.lt
          have hlt3' : w.heap.size + 1 ≠ w3.heap.size := by omega
          have hlt4 : G < w3.heap.size := hpt4.lt
          have hlt4' : G ≠ w3.heap.size := by omega
          have HML := HM.out
          have hG2 := HPT3.out.lt
          clear hpost ho3 hR3 hat hr htb4 hpt4 hok HRB3 HTB3 HPT3 H3
          go_wp2_with fail
          have hsn := HPT4.out.snoc (by omega) t a c HOK.out.1 HOK.out.2 (H4.out.2.2.weaken (by intro b hb; omega))
          rw [HML] at hsn
          refine ⟨⟨m + 1, ps ++ [t], j', l', congrArg (Value.int .i64) (by omega), by simp [HML], by omega, hj', by omega, (((H4.out.2.1.far (by simp; omega) _).far (by simp; omega) _).far (by simp; omega) _).alloc _,
            (((H4.out.1.set (.inr (by simp; omega)) _).set (.inr (by simp; omega)) _).set (.inr (by simp; omega)) _).alloc _, (((HRB4.out.far (by simp; omega) _).far (by simp; omega) _).far (by simp; omega) _).alloc _,
            (((HTB4.out.far (by simp; omega) _).far (by simp; omega) _).far (by simp; omega) _).alloc _, hsn.alloc _, ?_⟩, ?_⟩
          · rw [← HRE.out, show 3 - m = (3 - (m + 1)) + 1 by omega, restP_step H32.out HN.out]
          · simp [intOf]; omega
        · have H4 := Lib.hid (And.intro (H3.out.2.trans ho3) hR3)
          have HN := Lib.hid hr
          have hrb4 := HRB3.out.only ho3 (by omega)
          obtain ⟨y0, y1, y2, g0, g1, g2⟩ := hrb4.three
          have hws : w.heap.size < w3.heap.size := hrb4.lt
          have hrb5 := Lib.hid hrb4
          clear hpost ho3 hR3 hr hrb4
          go_wp2_with fail
          have hb5 := (((hrb5.out.set_ 0 (.int .i64 0)).set_ 1 (.int .i64 0)).set_ 2 (.slice none 0 0)).alloc (.cells #[.int .i64 kk, .int .i64 nn, .slice aa mm cc] 25)
          obtain ⟨z0, z1, z2, _, _, _⟩ := (show Blk _ w.heap.size 25 #[.int .i64 0, .int .i64 0, .slice none 0 0] from hb5).three
          refine bodyPost_ret (v := .tuple #[.agg #[.int .i64 0, .int .i64 0, .slice none 0 0], .bool false]) (by simp only [results, Tryd.results30]; simp [go_sem, z0, z1, z2]) rfl ?_
          refine ⟨(box_only H4.out.1 _ _ _).alloc _, ?_⟩
          rw [HGR.out, ← HRE.out, show 3 - m = (2 - m) + 1 by omega, restP_none HN.out]
          exact ⟨⟨0, 0, none, 0, 0, rfl⟩, q, ql, (box_rr hgl H4.out.2 _ _ _).alloc _⟩
      · obtain ⟨c, hc⟩ : ∃ c, c = tookB s j := ⟨_, rfl⟩
        have hc32 : c ≠ 32 := by rw [hc]; unfold tookB; split <;> omega
        rw [← hc]
        have hne1 : ((c : Int) != 32) = true := by simp; omega
        have hne2 : ((c : Int) == 32) = false := by simp; omega
        have H3 := Lib.hid (And.intro hr2 (HR.out.2.trans ho2))
        have hrb3 := HRB.out.only ho2 (by omega)
        have HRB3 := Lib.hid hrb3
        obtain ⟨y0, y1, y2, g0, g1, g2⟩ := hrb3.three
        have H32 := Lib.hid h32
        clear hr2 ho2 hrb3 hc h32
        go_wp2_with fail
        have hb5 := ((HRB3.out.set_ 0 (.int .i64 0)).set_ 1 (.int .i64 0)).set_ 2 (.slice none 0 0)
        obtain ⟨z0, z1, z2, _, _, _⟩ := (show Blk _ w.heap.size 25 #[.int .i64 0, .int .i64 0, .slice none 0 0] from hb5).three
        refine bodyPost_ret (v := .tuple #[.agg #[.int .i64 0, .int .i64 0, .slice none 0 0], .bool false]) (by simp only [results, Tryd.results30]; simp [go_sem, z0, z1, z2]) rfl ?_
        refine ⟨box_only H3.out.2 _ _ _, ?_⟩
        rw [HGR.out, ← HRE.out, show 3 - m = (2 - m) + 1 by omega, restP_no H32.out]
        exact ⟨⟨0, 0, none, 0, 0, rfl⟩, _, _, box_rr hgl H3.out.1 _ _ _⟩
    · have hm2' : m = 3 := by omega
      subst hm2'
      have hre := HRE.out
      rw [restP_end] at hre
      have HPP := Lib.hid hre.symm
      clear hre HRE
      obtain ⟨y0, y1, y2, g0, g1, g2⟩ := HTB.out.three
      obtain ⟨u0, u1, u2, k0, k1, k2⟩ := HRB.out.three
      obtain ⟨c, hc⟩ : ∃ c, c = tookB s j := ⟨_, rfl⟩
      obtain ⟨b, hb⟩ : ∃ b, b = ((c : Int) == 41) := ⟨_, rfl⟩
      have HCC := Lib.hid hc
      have HBB := Lib.hid hb
      have hb' := hb.symm
      clear hc hb
      go_wp2_with fail
      go_region_with (go_at_call 39; refine (take_any _ g j l s ?_ hj hs).mono ?_; exact HR.out.1; rintro e w2 ⟨rfl, hr2, ho2⟩; rw [← HCC.out]; obtain ⟨z0, z1, z2, h0, h1, h2⟩ := (HTB.out.drew.only ho2 (by omega)).three; obtain ⟨v0, v1, v2, r0, r1, r2⟩ := (HRB.out.drew.only ho2 (by omega)).three)
      all_goals
        go_wp2_with fail
        clear z0 z1 z2 h0 h1 h2 v0 v1 v2 r0 r1 r2
        have hO2 : Only g w w2 := (show Only g w wr.drew from HR.out.2.drewN 1).trans ho2
        have hP2 : Part w2 25 G 3 ps := Part.only (w := wr.drew) (HPT.out.below (Below.refl _ _).drew) ho2 (by omega)
        have hb5 := (((HRB.out.drew.only ho2 (by omega)).set_ 0 (.int .i64 4)).set_ 1 (.int .i64 0)).set_ 2 (.slice (some ⟨G, 0, none⟩) 3 3)
        obtain ⟨q0, q1, q2, _, _, _⟩ := (show Blk _ w.heap.size 25 #[.int .i64 4, .int .i64 0, .slice (some ⟨G, 0, none⟩) 3 3] from hb5).three
        refine bodyPost_ret (v := .tuple #[.agg #[.int .i64 4, .int .i64 0, .slice (some ⟨G, 0, none⟩) 3 3], .bool b]) (by simp only [results, Tryd.results30]; simp [go_sem, q0, q1, q2]) rfl ?_
        refine ⟨box_only hO2 _ _ _, ?_⟩
        rw [HGR.out, HPP.out]
        simp only
        have hlen := HM.out
        by_cases h41 : at_ s j = 41
        · have hc41 : c = 41 := by rw [HCC.out]; unfold tookB; rw [h41]; rfl
          have hbt : b = true := by rw [HBB.out, hc41]; rfl
          have htp : tookP s j = j + 1 := by unfold tookP; rw [h41]; rfl
          have hjl := at_some h41 (by omega)
          rw [htp] at hr2
          rw [if_pos h41, hbt]
          refine ⟨some ⟨G, 0, none⟩, 3, by simp only [T.k, T.n, T.ps, hlen]; first | done | rfl, box_rr hgl hr2 _ _ _, by omega, ?_⟩
          have hat : AtS w2 (fun b => G ≤ b) ps (some ⟨G, 0, none⟩) 3 := ⟨by omega, by omega, .inr ⟨G, 0, rfl, Nat.le_refl _, AtL.keepC (fun b hb => by omega) (fun _ _ _ => rfl) _ _ _ (fun _ _ _ => rfl) hP2.2.2⟩⟩
          exact (((hat.lim.setCell (by intro b hb; simp; omega) _).setCell (by intro b hb; simp; omega) _).setCell (by intro b hb; simp; omega) _).weaken (by intro b hb; simp; omega)
        · have hc41 : c ≠ 41 := by rw [HCC.out]; unfold tookB; split <;> omega
          have hbt : b = false := by rw [HBB.out]; simp; omega
          rw [if_neg h41, hbt]
          exact ⟨⟨4, 0, some ⟨G, 0, none⟩, 3, 3, rfl⟩, _, _, box_rr hgl hr2 _ _ _⟩
end Go.Proofs.YtgcjnhlppapfdaaDoor
