/- spec.l5Of, spec.TraceOf -/
import Derived.Test.YtjbggeeadodmpaaTrF
namespace Go.Proofs.Ytjbggeeadodmpaa
open Go.RowKit

/-- What l5Of leaves. -/
def L5Post (r : Tr) (w : World) (e : Ending) (w' : World) : Prop := Below w.heap.size w w' ∧ ∃ v, e = .returned (.agg #[.int .i64 r.k, v, .int .i64 r.v]) ∧ FRow w' w.heap.size v r.u.length (pcl r.u)

set_option maxRecDepth 100000 in
set_option maxHeartbeats 4000000 in
theorem l5Of_any (key : Int) (t : T) (lv : List Int) (w : World) (S S' : Nat → Prop) (a a' : Option Addr) (c c' : Nat) (hat : AtS w S t.ps a c) (hl : IntsAt w S' lv a' c') (hv : (t.ok && vok lv) = true) :
    Calls Try.prog 65 #[.int .i64 key, .agg #[.int .i64 t.k, .int .i64 t.n, .slice a t.ps.length c], .slice a' lv.length c'] w (L5Post (trOf key t (vf lv)) w) := by
  have HA0 := Lib.hid ((hat.alloc (.cells #[.int .i64 t.k, .int .i64 t.n, .slice a t.ps.length c] 90)).alloc (.cells #[.int .i64 0, .slice none 0 0, .int .i64 0] 25))
  have HL0 := Lib.hid ((hl.alloc (.cells #[.int .i64 t.k, .int .i64 t.n, .slice a t.ps.length c] 90)).alloc (.cells #[.int .i64 0, .slice none 0 0, .int .i64 0] 25))
  have HB0 := Lib.hid ((Blk.new w 90 #[.int .i64 t.k, .int .i64 t.n, .slice a t.ps.length c]).alloc (.cells #[.int .i64 0, .slice none 0 0, .int .i64 0] 25))
  have HR0 := Lib.hid (show Blk ((w.alloc (.cells #[.int .i64 t.k, .int .i64 t.n, .slice a t.ps.length c] 90)).alloc (.cells #[.int .i64 0, .slice none 0 0, .int .i64 0] 25)) (w.heap.size + 1) 25 #[.int .i64 0, .slice none 0 0, .int .i64 0] by
    have := Blk.new (w.alloc (.cells #[.int .i64 t.k, .int .i64 t.n, .slice a t.ps.length c] 90)) 25 #[.int .i64 0, .slice none 0 0, .int .i64 0]; simpa using this)
  have HW0 := Lib.hid (show Below w.heap.size w ((w.alloc (.cells #[.int .i64 t.k, .int .i64 t.n, .slice a t.ps.length c] 90)).alloc (.cells #[.int .i64 0, .slice none 0 0, .int .i64 0] 25)) from ((Below.refl _ _).alloc (Nat.le_refl _) _).alloc (by simp) _)
  have hsz : ((w.alloc (.cells #[.int .i64 t.k, .int .i64 t.n, .slice a t.ps.length c] 90)).alloc (.cells #[.int .i64 0, .slice none 0 0, .int .i64 0] 25)).heap.size = w.heap.size + 1 + 1 := by simp
  obtain ⟨x0, x1, x2, -⟩ := HB0.out.three
  clear hat hl
  obtain ⟨W, hW⟩ : ∃ W, W = (w.alloc (.cells #[.int .i64 t.k, .int .i64 t.n, .slice a t.ps.length c] 90)).alloc (.cells #[.int .i64 0, .slice none 0 0, .int .i64 0] 25) := ⟨_, rfl⟩
  have HWW := Lib.hid hW
  rw [← hW] at HA0 HL0 HB0 HR0 HW0 hsz
  have HSZ := Lib.hid hsz
  have hkb := kys_ok hv
  have hvl : vok lv = true := by simp only [Bool.and_eq_true] at hv; exact hv.2
  have hok : t.fit = true ∧ t.nodes ≤ 15 := by
    have : t.ok = true := by simp only [Bool.and_eq_true] at hv; exact hv.1
    simpa [T.ok] using this
  have HVL := Lib.hid hvl
  have HOK := Lib.hid hok
  obtain ⟨ks, hks⟩ : ∃ ks, ks = t.kys (vf lv) := ⟨_, rfl⟩
  have HKS := Lib.hid hks
  rw [← hks] at hkb
  have HKB := Lib.hid hkb
  have HRR := Lib.hid (show trOf key t (vf lv) = ⟨key, onceP (ks.map fun k => (k, vf lv k)), t.val (vf lv)⟩ by unfold trOf; rw [onceP_map, hks])
  rw [HRR.out]
  obtain ⟨val, hval⟩ : ∃ x, x = t.val (vf lv) := ⟨_, rfl⟩
  have HVAL := Lib.hid hval
  rw [← hval] at HRR ⊢
  clear hW hsz hv hvl hok hks hkb hval
  go_enter Try.func65, Try.ntmps65
  go_wp2_with fail
  rw [← HWW.out]
  refine (run_any lv HVL.out t HOK.out.1 (by have := HOK.out.2; omega) W S S' a a' c c' HA0.out HL0.out).mono ?_
  rw [← HKS.out, ← HVAL.out]
  rintro e w1 ⟨vo, rfl, hrow, hb⟩
  obtain ⟨a3, c3, rfl, hfe⟩ := hrow.at
  have HPR := Lib.hid (hfe.prs (fun k hk => by have := HKB.out.1 k hk; unfold i64ok; omega) (vf_ok HVL.out))
  have HR1 := Lib.hid (HR0.out.below hb HR0.out.lt)
  have HW1 := Lib.hid (HW0.out.trans (hb.mono (by have := HSZ.out; omega)))
  have HS1 := Lib.hid hb.size
  clear hb hrow hfe x0 x1 x2 HA0 HL0 HR0 HB0
  go_wp2_with fail
  have hml : (ks.map fun k => (k, vf lv k)).length = ks.length := by simp
  have hfirst := once_any w1 _ (ks.map fun k => (k, vf lv k)) a3 c3 HPR.out (by rw [hml]; have := HKB.out.2; omega)
  rw [hml] at hfirst
  refine hfirst.mono ?_
  rintro e w3 ⟨v, rfl, hfr, hb⟩
  have hr3 := HR1.out.below hb HR1.out.lt
  obtain ⟨y0, y1, y2, f0, f1, f2⟩ := hr3.three
  have hlt := hr3.lt
  have HF := Lib.hid (ownsRow_low hfr (show w.heap.size + 1 + 1 ≤ w1.heap.size by have := HSZ.out; have := HS1.out; omega))
  have HW3 := Lib.hid (HW1.out.trans (hb.mono HW1.out.size))
  obtain ⟨av, cv, rfl⟩ := own_shape' hfr
  clear hb hfr hr3 hfirst hml
  go_wp2_with fail
  refine bodyPost_ret (v := .agg #[.int .i64 key, .slice av (onceP (ks.map fun k => (k, vf lv k))).length cv, .int .i64 val]) (by simp [results, Try.results65, go_sem, y0, y1, y2]) rfl ?_
  refine ⟨((HW3.out.setCell (by simp) _).setCell (by simp) _).setCell (by simp) _, _, rfl, ?_⟩
  have hfr : Fr (fun b => b = w.heap.size + 1) w3 w3 := Fr.of_below (Below.refl _ _)
  exact ownsRow_low (FRow.fr HF.out (((hfr.set' ⟨w.heap.size + 1, 0, none⟩ rfl _).set' ⟨w.heap.size + 1, 1, none⟩ rfl _).set' ⟨w.heap.size + 1, 2, none⟩ rfl _) (fun b hb => by omega)) (by omega)

end Go.Proofs.Ytjbggeeadodmpaa
