/- spec.l5Of, spec.TraceOf -/
import Derived.Test.YtdkapdkkoiejoaaTrF
namespace Go.Proofs.Ytdkapdkkoiejoaa
open Go.RowKit

/-- What l5Of leaves. -/
def L5Post (r : Tr) (w : World) (e : Ending) (w' : World) : Prop := Below w.heap.size w w' ∧ ∃ v, e = .returned (.agg #[.int .i64 r.k, v, .int .i64 r.v]) ∧ FRow w' w.heap.size v r.u.length (pcl r.u)

set_option maxRecDepth 100000 in
set_option maxHeartbeats 4000000 in
theorem l5Of_any (key : Int) (t : T) (lv : List Int) (w : World) (S S' : Nat → Prop) (a a' : Option Addr) (c c' : Nat) (hat : AtS w S t.ps a c) (hl : IntsAt w S' lv a' c') (hv : (t.ok && vok lv) = true) :
    Calls Try.prog 27 #[.int .i64 key, .agg #[.int .i64 t.k, .int .i64 t.n, .slice a t.ps.length c], .slice a' lv.length c'] w (L5Post (trOf key t (vf lv)) w) := by
  have HA0 := Lib.hid ((hat.alloc (.cells #[.int .i64 t.k, .int .i64 t.n, .slice a t.ps.length c] 25)).alloc (.cells #[.int .i64 0, .slice none 0 0, .int .i64 0] 31))
  have HL0 := Lib.hid ((hl.alloc (.cells #[.int .i64 t.k, .int .i64 t.n, .slice a t.ps.length c] 25)).alloc (.cells #[.int .i64 0, .slice none 0 0, .int .i64 0] 31))
  have HB0 := Lib.hid ((Blk.new w 25 #[.int .i64 t.k, .int .i64 t.n, .slice a t.ps.length c]).alloc (.cells #[.int .i64 0, .slice none 0 0, .int .i64 0] 31))
  have HR0 := Lib.hid (show Blk ((w.alloc (.cells #[.int .i64 t.k, .int .i64 t.n, .slice a t.ps.length c] 25)).alloc (.cells #[.int .i64 0, .slice none 0 0, .int .i64 0] 31)) (w.heap.size + 1) 31 #[.int .i64 0, .slice none 0 0, .int .i64 0] by
    have := Blk.new (w.alloc (.cells #[.int .i64 t.k, .int .i64 t.n, .slice a t.ps.length c] 25)) 31 #[.int .i64 0, .slice none 0 0, .int .i64 0]; simpa using this)
  have HW0 := Lib.hid (show Below w.heap.size w ((w.alloc (.cells #[.int .i64 t.k, .int .i64 t.n, .slice a t.ps.length c] 25)).alloc (.cells #[.int .i64 0, .slice none 0 0, .int .i64 0] 31)) from ((Below.refl _ _).alloc (Nat.le_refl _) _).alloc (by simp) _)
  have hsz : ((w.alloc (.cells #[.int .i64 t.k, .int .i64 t.n, .slice a t.ps.length c] 25)).alloc (.cells #[.int .i64 0, .slice none 0 0, .int .i64 0] 31)).heap.size = w.heap.size + 1 + 1 := by simp
  obtain ⟨x0, x1, x2, -⟩ := HB0.out.three
  clear hat hl
  obtain ⟨W, hW⟩ : ∃ W, W = (w.alloc (.cells #[.int .i64 t.k, .int .i64 t.n, .slice a t.ps.length c] 25)).alloc (.cells #[.int .i64 0, .slice none 0 0, .int .i64 0] 31) := ⟨_, rfl⟩
  have HWW := Lib.hid hW
  rw [← hW] at HA0 HL0 HB0 HR0 HW0 hsz
  have HSZ := Lib.hid hsz
  have hkb := kys_ok hv
  have hvl : vok lv = true := by simp only [Bool.and_eq_true] at hv; exact hv.2
  have hok : t.fit = true ∧ t.nodes ≤ 15 := by
    have : t.ok = true := by simp only [Bool.and_eq_true] at hv; exact hv.1
    simpa [T.ok] using this
  have HVL := Lib.hid hvl
  have HOK := Lib.hid hok
  obtain ⟨ks, hks⟩ : ∃ ks, ks = t.kys (vf lv) := ⟨_, rfl⟩
  have HKS := Lib.hid hks
  rw [← hks] at hkb
  have HKB := Lib.hid hkb
  have HRR := Lib.hid (show trOf key t (vf lv) = ⟨key, onceP (ks.map fun k => (k, vf lv k)), t.val (vf lv)⟩ by unfold trOf; rw [onceP_map, hks])
  rw [HRR.out]
  obtain ⟨val, hval⟩ : ∃ x, x = t.val (vf lv) := ⟨_, rfl⟩
  have HVAL := Lib.hid hval
  rw [← hval] at HRR ⊢
  clear hW hsz hv hvl hok hks hkb hval
  go_enter Try.func27, Try.ntmps27
  go_wp2_with fail
  rw [← HWW.out]
  refine (run_any lv HVL.out t HOK.out.1 (by have := HOK.out.2; omega) W S S' a a' c c' HA0.out HL0.out).mono ?_
  rw [← HKS.out, ← HVAL.out]
  rintro e w1 ⟨vo, rfl, hrow, hb⟩
  obtain ⟨a3, c3, rfl, hfe⟩ := hrow.at
  have HPR := Lib.hid (hfe.prs (fun k hk => by have := HKB.out.1 k hk; unfold i64ok; omega) (vf_ok HVL.out))
  have HR1 := Lib.hid (HR0.out.below hb HR0.out.lt)
  have HW1 := Lib.hid (HW0.out.trans (hb.mono (by have := HSZ.out; omega)))
  have HS1 := Lib.hid hb.size
  clear hb hrow hfe x0 x1 x2 HA0 HL0 HR0 HB0
  go_wp2_with fail
  have hml : (ks.map fun k => (k, vf lv k)).length = ks.length := by simp
  have hfirst := once_any w1 _ (ks.map fun k => (k, vf lv k)) a3 c3 HPR.out (by rw [hml]; have := HKB.out.2; omega)
  rw [hml] at hfirst
  refine hfirst.mono ?_
  rintro e w3 ⟨v, rfl, hfr, hb⟩
  have hr3 := HR1.out.below hb HR1.out.lt
  obtain ⟨y0, y1, y2, f0, f1, f2⟩ := hr3.three
  have hlt := hr3.lt
  have HF := Lib.hid (ownsRow_low hfr (show w.heap.size + 1 + 1 ≤ w1.heap.size by have := HSZ.out; have := HS1.out; omega))
  have HW3 := Lib.hid (HW1.out.trans (hb.mono HW1.out.size))
  obtain ⟨av, cv, rfl⟩ := own_shape' hfr
  clear hb hfr hr3 hfirst hml
  go_wp2_with fail
  refine bodyPost_ret (v := .agg #[.int .i64 key, .slice av (onceP (ks.map fun k => (k, vf lv k))).length cv, .int .i64 val]) (by simp [results, Try.results27, go_sem, y0, y1, y2]) rfl ?_
  refine ⟨((HW3.out.setCell (by simp) _).setCell (by simp) _).setCell (by simp) _, _, rfl, ?_⟩
  have hfr : Fr (fun b => b = w.heap.size + 1) w3 w3 := Fr.of_below (Below.refl _ _)
  exact ownsRow_low (FRow.fr HF.out (((hfr.set' ⟨w.heap.size + 1, 0, none⟩ rfl _).set' ⟨w.heap.size + 1, 1, none⟩ rfl _).set' ⟨w.heap.size + 1, 2, none⟩ rfl _) (fun b hb => by omega)) (by omega)

set_option maxRecDepth 100000 in
set_option maxHeartbeats 4000000 in
theorem specTraceOf_any (key : Int) (t : T) (lv : List Int) (w : World) (S S' : Nat → Prop) (a a' : Option Addr) (c c' : Nat) (hat : AtS w S t.ps a c) (hl : IntsAt w S' lv a' c') (hn : nodesL t.ps ≤ 1048576) :
    Calls Try.prog 8 #[.int .i64 key, .agg #[.int .i64 t.k, .int .i64 t.n, .slice a t.ps.length c], .slice a' lv.length c'] w (TrPost (trO key t lv) (trB key t lv) w) := by
  have HNN := Lib.hid hn
  have HA0 := Lib.hid ((hat.alloc (.cells #[.int .i64 t.k, .int .i64 t.n, .slice a t.ps.length c] 25)).alloc (.cells #[.int .i64 0, .slice none 0 0, .int .i64 0] 31))
  have HL0 := Lib.hid ((hl.alloc (.cells #[.int .i64 t.k, .int .i64 t.n, .slice a t.ps.length c] 25)).alloc (.cells #[.int .i64 0, .slice none 0 0, .int .i64 0] 31))
  have HB0 := Lib.hid ((Blk.new w 25 #[.int .i64 t.k, .int .i64 t.n, .slice a t.ps.length c]).alloc (.cells #[.int .i64 0, .slice none 0 0, .int .i64 0] 31))
  have HR0 := Lib.hid (show Blk ((w.alloc (.cells #[.int .i64 t.k, .int .i64 t.n, .slice a t.ps.length c] 25)).alloc (.cells #[.int .i64 0, .slice none 0 0, .int .i64 0] 31)) (w.heap.size + 1) 31 #[.int .i64 0, .slice none 0 0, .int .i64 0] by
    have := Blk.new (w.alloc (.cells #[.int .i64 t.k, .int .i64 t.n, .slice a t.ps.length c] 25)) 31 #[.int .i64 0, .slice none 0 0, .int .i64 0]; simpa using this)
  have HW0 := Lib.hid (show Below w.heap.size w ((w.alloc (.cells #[.int .i64 t.k, .int .i64 t.n, .slice a t.ps.length c] 25)).alloc (.cells #[.int .i64 0, .slice none 0 0, .int .i64 0] 31)) from ((Below.refl _ _).alloc (Nat.le_refl _) _).alloc (by simp) _)
  have hsz : ((w.alloc (.cells #[.int .i64 t.k, .int .i64 t.n, .slice a t.ps.length c] 25)).alloc (.cells #[.int .i64 0, .slice none 0 0, .int .i64 0] 31)).heap.size = w.heap.size + 1 + 1 := by simp
  obtain ⟨x0, x1, x2, -⟩ := HB0.out.three
  clear hat hl hn
  obtain ⟨W, hW⟩ : ∃ W, W = (w.alloc (.cells #[.int .i64 t.k, .int .i64 t.n, .slice a t.ps.length c] 25)).alloc (.cells #[.int .i64 0, .slice none 0 0, .int .i64 0] 31) := ⟨_, rfl⟩
  have HWW := Lib.hid hW
  rw [← hW] at HA0 HL0 HB0 HR0 HW0 hsz
  have HSZ := Lib.hid hsz
  clear hW hsz
  have zero : ∀ w1 : World, Blk w1 (w.heap.size + 1) 31 #[.int .i64 0, .slice none 0 0, .int .i64 0] → Below w.heap.size w w1 → TrPost trZ false w (.returned (.tuple #[.agg #[.int .i64 0, .slice none 0 0, .int .i64 0], .bool false])) (((w1.setCell ⟨w.heap.size + 1, 0, none⟩ (.int .i64 0)).setCell ⟨w.heap.size + 1, 1, none⟩ (.slice none 0 0)).setCell ⟨w.heap.size + 1, 2, none⟩ (.int .i64 0)) :=
    fun w1 hb hw => ⟨((hw.setCell (by simp) _).setCell (by simp) _).setCell (by simp) _, _, rfl, World.ownsRow_nil _ _ _ _⟩
  have HZ := Lib.hid zero
  clear zero
  have fin : ∀ w1, Below W.heap.size W w1 → Blk w1 (w.heap.size + 1) 31 #[.int .i64 0, .slice none 0 0, .int .i64 0] ∧ Below w.heap.size w w1 ∧ Blk w1 w.heap.size 25 #[.int .i64 t.k, .int .i64 t.n, .slice a t.ps.length c] ∧ AtS w1 S t.ps a c ∧ IntsAt w1 S' lv a' c' :=
    fun w1 hb => ⟨HR0.out.below hb HR0.out.lt, HW0.out.trans (hb.mono (by have := HSZ.out; omega)), HB0.out.below hb HB0.out.lt, HA0.out.below hb, HL0.out.below hb⟩
  have HFN := Lib.hid fin
  clear fin
  by_cases hb : trB key t lv = true
  · have hr : trO key t lv = trOf key t (vf lv) := by unfold trO; rw [if_pos hb]
    rw [hr, hb]
    have hb' := hb
    unfold trB at hb'
    simp only [Bool.and_eq_true] at hb'
    obtain ⟨⟨h1, h2⟩, h3⟩ := hb'
    have H1 := Lib.hid h1
    have H2 := Lib.hid h2
    have H3 := Lib.hid (show decide (0 ≤ key ∧ key ≤ 9) = true from h3)
    have H12 := Lib.hid (show (t.ok && vok lv) = true by rw [h1, h2]; rfl)
    clear hb hr h1 h2 h3
    go_enter Try.func8, Try.ntmps8
    go_wp2_with fail
    rw [← HWW.out]
    refine (specOk_any t _ S a c HA0.out HNN.out).mono ?_
    rintro e w1 ⟨rfl, hb⟩
    rw [H1.out]
    obtain ⟨r1, bw1, b1, a1, l1⟩ := HFN.out w1 hb
    have R1 := Lib.hid r1
    have BW1 := Lib.hid bw1
    have A1 := Lib.hid a1
    have L1 := Lib.hid l1
    have HS1 := Lib.hid hb.size
    obtain ⟨y0, y1, y2, -⟩ := b1.three
    clear hb r1 bw1 b1 a1 l1 x0 x1 x2 HR0 HW0 HB0 HA0 HL0
    go_wp2_with (first | (go_at_call 25; refine (specVals_any _ S' lv a' c' L1.out).mono ?_; rw [H2.out]; rintro e w2 ⟨rfl, rfl⟩) | (go_at_call 26; refine (in_any _ _ _ _).mono ?_; rw [H3.out]; rintro e w2 ⟨rfl, rfl⟩))
    refine (l5Of_any key t lv w1 S S' a a' c c' A1.out L1.out H12.out).mono ?_
    rintro e w3 ⟨hb, v, rfl, hfr⟩
    have hr3 := R1.out.below hb R1.out.lt
    obtain ⟨z0, z1, z2, f0, f1, f2⟩ := hr3.three
    have hlt := hr3.lt
    have HF := Lib.hid (ownsRow_low hfr (show w.heap.size + 1 + 1 ≤ w1.heap.size by have := HSZ.out; have := HS1.out; omega))
    have HW3 := Lib.hid (BW1.out.trans (hb.mono BW1.out.size))
    obtain ⟨av, cv, rfl⟩ := own_shape' hfr
    obtain ⟨r, hr⟩ : ∃ r, r = trOf key t (vf lv) := ⟨_, rfl⟩
    have HRE := Lib.hid hr
    rw [← hr] at HF ⊢
    clear hb hfr hr3 hr y0 y1 y2
    go_wp2_with fail
    refine bodyPost_ret (v := .tuple #[.agg #[.int .i64 r.k, .slice av r.u.length cv, .int .i64 r.v], .bool true]) (by simp [results, Try.results8, go_sem, z0, z1, z2]) rfl ?_
    rw [← HRE.out]
    refine ⟨((HW3.out.setCell (by simp) _).setCell (by simp) _).setCell (by simp) _, _, rfl, ?_⟩
    have hfr : Fr (fun b => b = w.heap.size + 1) w3 w3 := Fr.of_below (Below.refl _ _)
    exact ownsRow_low (FRow.fr HF.out (((hfr.set' ⟨w.heap.size + 1, 0, none⟩ rfl _).set' ⟨w.heap.size + 1, 1, none⟩ rfl _).set' ⟨w.heap.size + 1, 2, none⟩ rfl _) (fun b hb => by omega)) (by omega)
  · have hb0 : trB key t lv = false := by simpa using hb
    have hr : trO key t lv = trZ := by unfold trO; rw [if_neg hb]
    rw [hr, hb0]
    have hbb := hb0
    unfold trB at hbb
    clear hb hr hb0
    cases h1 : t.ok
    · have H1 := Lib.hid h1
      clear hbb h1
      go_enter Try.func8, Try.ntmps8
      go_wp2_with fail
      rw [← HWW.out]
      refine (specOk_any t _ S a c HA0.out HNN.out).mono ?_
      rintro e w1 ⟨rfl, hb⟩
      rw [H1.out]
      obtain ⟨r1, bw1, _, _, _⟩ := HFN.out w1 hb
      have R1 := Lib.hid r1
      have BW1 := Lib.hid bw1
      obtain ⟨y0, y1, y2, f0, f1, f2⟩ := r1.three
      have hlt := r1.lt
      clear hb r1 bw1 x0 x1 x2
      go_wp2_with fail
      exact bodyPost_ret (v := .tuple #[.agg #[.int .i64 0, .slice none 0 0, .int .i64 0], .bool false]) (by simp [results, Try.results8, go_sem, y0, y1, y2]) rfl (HZ.out _ R1.out BW1.out)
    cases h2 : vok lv
    · have H1 := Lib.hid h1
      have H2 := Lib.hid h2
      clear hbb h1 h2
      go_enter Try.func8, Try.ntmps8
      go_wp2_with fail
      rw [← HWW.out]
      refine (specOk_any t _ S a c HA0.out HNN.out).mono ?_
      rintro e w1 ⟨rfl, hb⟩
      rw [H1.out]
      obtain ⟨r1, bw1, _, _, l1⟩ := HFN.out w1 hb
      have R1 := Lib.hid r1
      have BW1 := Lib.hid bw1
      have L1 := Lib.hid l1
      obtain ⟨y0, y1, y2, f0, f1, f2⟩ := r1.three
      have hlt := r1.lt
      clear hb r1 bw1 l1 x0 x1 x2
      go_wp2_with (go_at_call 25; refine (specVals_any _ S' lv a' c' L1.out).mono ?_; rw [H2.out]; rintro e w2 ⟨rfl, rfl⟩)
      exact bodyPost_ret (v := .tuple #[.agg #[.int .i64 0, .slice none 0 0, .int .i64 0], .bool false]) (by simp [results, Try.results8, go_sem, y0, y1, y2]) rfl (HZ.out _ R1.out BW1.out)
    · have H1 := Lib.hid h1
      have H2 := Lib.hid h2
      have H3 := Lib.hid (show decide (0 ≤ key ∧ key ≤ 9) = false by rw [h1, h2] at hbb; exact hbb)
      clear hbb h1 h2
      go_enter Try.func8, Try.ntmps8
      go_wp2_with fail
      rw [← HWW.out]
      refine (specOk_any t _ S a c HA0.out HNN.out).mono ?_
      rintro e w1 ⟨rfl, hb⟩
      rw [H1.out]
      obtain ⟨r1, bw1, _, _, l1⟩ := HFN.out w1 hb
      have R1 := Lib.hid r1
      have BW1 := Lib.hid bw1
      have L1 := Lib.hid l1
      obtain ⟨y0, y1, y2, f0, f1, f2⟩ := r1.three
      have hlt := r1.lt
      clear hb r1 bw1 l1 x0 x1 x2
      go_wp2_with (first | (go_at_call 25; refine (specVals_any _ S' lv a' c' L1.out).mono ?_; rw [H2.out]; rintro e w2 ⟨rfl, rfl⟩) | (go_at_call 26; refine (in_any _ _ _ _).mono ?_; rw [H3.out]; rintro e w2 ⟨rfl, rfl⟩))
      exact bodyPost_ret (v := .tuple #[.agg #[.int .i64 0, .slice none 0 0, .int .i64 0], .bool false]) (by simp [results, Try.results8, go_sem, y0, y1, y2]) rfl (HZ.out _ R1.out BW1.out)
end Go.Proofs.Ytdkapdkkoiejoaa
