/- spec.l1Rd.task: no kind -/
import Derived.Test.YtgcjnhlppapfdaaDoorSrG
namespace Go.Proofs.YtgcjnhlppapfdaaDoor
open Go.RowKit Go.Lib

set_option maxRecDepth 100000 in
set_option maxHeartbeats 8000000 in
theorem gs_0 (f : Nat) (w : World) (g p : Nat) (s : ByteArray) (h : SrAt w g s p false) (hs : s.size ≤ 1048576) (h40 : at_ s p = 40) (hc : at_ s (p + 1) ≠ 43 ∧ at_ s (p + 1) ≠ 42 ∧ at_ s (p + 1) ≠ 63 ∧ at_ s (p + 1) ≠ 64) :
    Calls Tryd.prog 22 #[.pointer (some ⟨g, 0, none⟩)] w (TaskSPost w g s p (taskS (f + 1) s p)) := by
  have hgl := h.lt
  have hlt := at_some h40 (by decide)
  have HR := Lib.hid (show SrAt (w.alloc (.cells #[.int .i64 0, .int .i64 0, .slice none 0 0] 25)) g s p false from Blk.alloc h _)
  have H40 := Lib.hid h40
  have HC := Lib.hid hc
  have hgr : taskS (f + 1) s p = none := by
    simp only [taskS]; rw [if_neg (by omega), if_pos h40]; unfold groupS headS; rw [if_neg hc.1, if_neg hc.2.1, if_neg hc.2.2.1, if_neg hc.2.2.2]
  have HGR := Lib.hid hgr
  obtain ⟨r, hr⟩ : ∃ r, r = taskS (f + 1) s p := ⟨_, rfl⟩
  rw [← hr] at HGR ⊢
  have hshp : shp 0 = (0, 96, true) := rfl
  have HSH := Lib.hid hshp
  clear h h40 hc hgr hr hshp
  go_enter Tryd.func22, Tryd.ntmps22
  go_wp2_with fail
  refine (next_no _ g p s false 107 HR.out (by rw [H40.out]; decide) (by omega)).mono ?_
  rintro e w1 ⟨rfl, hrd, ho⟩
  have hsz := ho.size
  simp only [World.size_alloc] at hsz
  have HK1 := Lib.hid ((Blk.new w 25 #[.int .i64 0, .int .i64 0, .slice none 0 0]).only ho (by omega))
  have HO1 := Lib.hid (((Only.refl g w).alloc (.cells #[.int .i64 0, .int .i64 0, .slice none 0 0] 25)).trans ho)
  have HR1 := Lib.hid hrd
  clear hrd ho
  go_wp2_with fail
  refine (next_yes _ g p s false 40 HR1.out H40.out (by decide) hs).mono ?_
  rintro e w2 ⟨rfl, hrd, ho⟩
  have hsz2 := ho.size
  have HK2 := Lib.hid ((HK1.out.only ho (by omega)).alloc (.cells #[.int .i64 0, .int .i64 0, .slice none 0 0] 25))
  have HO2 := Lib.hid ((HO1.out.trans ho).alloc (.cells #[.int .i64 0, .int .i64 0, .slice none 0 0] 25))
  have HR2 := Lib.hid (show SrAt (w2.alloc (.cells #[.int .i64 0, .int .i64 0, .slice none 0 0] 25)) g s (p + 1) false from Blk.alloc hrd _)
  have HB2 := Lib.hid (Blk.new w2 25 #[.int .i64 0, .int .i64 0, .slice none 0 0])
  clear hrd ho HK1 HO1 HR1
  go_wp2_with fail
  refine (next_no _ g (p + 1) s false 43 HR2.out HC.out.1 (by omega)).mono ?_
  rintro e wn0 ⟨rfl, hrd, ho⟩
  have hszn0 := ho.size
  simp only [World.size_alloc] at hszn0
  have HKn0 := Lib.hid (HK2.out.only ho (by omega))
  have HOn0 := Lib.hid (HO2.out.trans ho)
  have HRn0 := Lib.hid hrd
  have HBn0 := Lib.hid (HB2.out.only ho (by omega))
  clear hrd ho HK2 HO2 HR2 HB2
  go_wp2_with fail
  refine (next_no _ g (p + 1) s false 42 HRn0.out HC.out.2.1 (by omega)).mono ?_
  rintro e wn1 ⟨rfl, hrd, ho⟩
  have hszn1 := ho.size
  have HKn1 := Lib.hid (HKn0.out.only ho (by omega))
  have HOn1 := Lib.hid (HOn0.out.trans ho)
  have HRn1 := Lib.hid hrd
  have HBn1 := Lib.hid (HBn0.out.only ho (by omega))
  clear hrd ho HKn0 HOn0 HRn0 HBn0
  go_wp2_with fail
  refine (next_no _ g (p + 1) s false 63 HRn1.out HC.out.2.2.1 (by omega)).mono ?_
  rintro e wn2 ⟨rfl, hrd, ho⟩
  have hszn2 := ho.size
  have HKn2 := Lib.hid (HKn1.out.only ho (by omega))
  have HOn2 := Lib.hid (HOn1.out.trans ho)
  have HRn2 := Lib.hid hrd
  have HBn2 := Lib.hid (HBn1.out.only ho (by omega))
  clear hrd ho HKn1 HOn1 HRn1 HBn1
  go_wp2_with fail
  refine (next_no _ g (p + 1) s false 64 HRn2.out HC.out.2.2.2 (by omega)).mono ?_
  rintro e w3 ⟨rfl, hrd, ho⟩
  have hsz3 := ho.size
  have hK3 := HKn2.out.only ho (by omega)
  have HO3 := Lib.hid (HOn2.out.trans ho)
  have HR3 := Lib.hid hrd
  have hB3 := HBn2.out.only ho (by omega)
  obtain ⟨x0, x1, x2, f0, f1, f2⟩ := Blk.three hrd
  obtain ⟨y0, y1, y2, g0, g1, g2⟩ := hB3.three
  obtain ⟨z0, z1, z2, k0, k1, k2⟩ := hK3.three
  have hgB : g ≠ w2.heap.size := by omega
  have hgw : g ≠ w.heap.size := by omega
  have hw3 : w.heap.size < w3.heap.size := by omega
  clear hrd ho hB3 hK3 HKn2 HOn2 HRn2 HBn2
  go_wp2_with fail
  refine (specShape_any 0 _).mono ?_
  rintro e w4 ⟨rfl, rfl⟩
  rw [HSH.out]
  go_wp2_with fail
  go_loopw [7] (fun iv wr => iv = .int .i64 0 ∧ wr = w3.setCell ⟨g, 2, none⟩ (.bool true)) (fun _ _ => 0)
  case atStart => exact ⟨rfl, rfl⟩
  case round =>
    obtain ⟨rfl, rfl⟩ := hrel
    go_wp2_with fail
    refine bodyPost_ret (v := .agg #[.int .i64 0, .int .i64 0, .slice none 0 0]) (by simp [results, Tryd.results22, go_sem, z0, z1, z2]) rfl ?_
    exact groupEnd (k := 0) (n := 0) (B := w.heap.size + 1) (ps := []) hgl (by omega) (by decide) (by decide) (by simp) ((HO3.out.set (p := ⟨g, 2, none⟩) (.inl rfl) (.bool true)).set (p := ⟨g, 2, none⟩) (.inl rfl) (.bool true)) OwS.nil (.inr ⟨HGR.out, p + 1, by omega, (HR3.out.set_bad true).set_bad true⟩)
end Go.Proofs.YtgcjnhlppapfdaaDoor
