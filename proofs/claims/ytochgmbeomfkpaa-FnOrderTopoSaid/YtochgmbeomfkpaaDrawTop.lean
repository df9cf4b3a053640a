/- DrawOrderTopo -/
import Derived.Test.YtochgmbeomfkpaaSd1
import Derived.Test.YtochgmbeomfkpaaKeysD
import Derived.Test.YtochgmbeomfkpaaDr1
namespace Go.Proofs.Ytochgmbeomfkpaa
open Go.RowKit

/-- A sheet and keys were drawn off a code. -/
def ShKDr (w : World) (e : Ending) (w' : World) : Prop := ∃ (s : Sh) (a : Option Addr) (c : Nat) (a' : Option Addr) (c' : Nat) (ks : List Int) (ak : Option Addr) (ck : Nat), e = .returned (.tuple #[.agg #[.slice a s.m.length c, .slice a' s.t.length c'], .slice ak ks.length ck]) ∧
  ShAt w' (fun _ => True) s a c a' c' ∧ IntsAt w' (fun _ => True) ks ak ck ∧ s.t.length = s.m.length ∧ s.m.length ≤ 8 ∧ nodesL s.t ≤ 120 ∧ ks.length ≤ 9 ∧ Below w.heap.size w w'
set_option maxHeartbeats 2000000 in
theorem drawTopo_any (w : World) (a : Option Addr) (n c : Nat) (h : CodeAt w a n c) : Calls Try.prog 16 #[.slice a n c] w (ShKDr w) := by
  have HC := Lib.hid (h.alloc (.cells #[.slice none 0 0, .slice none 0 0] 32))
  clear h
  go_enter Try.func16, Try.ntmps16
  go_wp2_with fail
  refine (open_any _ a n c HC.out).mono ?_
  rintro e w1 ⟨rfl, hrd, hb⟩
  have hsz1 := hb.size
  simp only [World.size_alloc] at hsz1 hrd hb
  have HK1 := Lib.hid ((Blk.new w 32 #[.slice none 0 0, .slice none 0 0]).below hb (by omega))
  have HE1 := Lib.hid (And.intro hrd (below_of_box hb))
  have hlt1 : w.heap.size + 1 < w1.heap.size := hrd.lt
  clear hrd hb HC
  go_wp2_with fail
  refine (sheetD_any _ (w.heap.size + 1) 0 ?_ (by omega)).mono ?_
  · exact HE1.out.1
  rintro e w2 ⟨s, v, a', c', q, rfl, hsh, htl, hml, hnl, _, hq2, hrd, ho⟩
  obtain ⟨av, cv, rfl, _⟩ := ElRow.at hsh.row
  have hsz2 := ho.size
  have HK2 := Lib.hid ((HK1.out.only ho (by omega)).alloc (.cells #[.slice av s.m.length cv, .slice a' s.t.length c'] 32))
  have HT2 := Lib.hid (Blk.new w2 32 #[.slice av s.m.length cv, .slice a' s.t.length c'])
  have hB2 : Below w.heap.size w w2 := HE1.out.2.trans ⟨ho.os, ho.tape, ho.output, ho.size, fun k hk => ho.block k (by omega) (by intro e; injection e; omega)⟩
  have HX2 := Lib.hid (hB2.alloc (by omega) (.cells #[.slice av s.m.length cv, .slice a' s.t.length c'] 32))
  have HS2 := Lib.hid (hsh.alloc (.cells #[.slice av s.m.length cv, .slice a' s.t.length c'] 32))
  have HR2 := Lib.hid (hrd.alloc (.cells #[.slice av s.m.length cv, .slice a' s.t.length c'] 32))
  have HTL := Lib.hid htl
  clear hrd ho hB2 HK1 HE1 hsh htl
  go_wp2_with fail
  refine (keysD_any _ (w.heap.size + 1) q av s.m.length cv a' s.t.length c' HR2.out (by omega) hml).mono ?_
  rintro e w4 ⟨ks, v, q4, rfl, hn4, hkl, hkb, _, _, hrd, ho⟩
  have hsz4 := ho.size
  simp only [World.size_alloc] at hsz4 hn4
  obtain ⟨ak, ck, rfl, _⟩ := NumRow.at (show NumRow w4 _ v ks from hn4) (by intro x hx; have := hkb x hx; unfold i64ok; omega)
  have HK4 := Lib.hid (HK2.out.only ho (by omega))
  have HT4 := Lib.hid (HT2.out.only ho (by omega))
  have HX4 := Lib.hid (show Below w.heap.size w w4 from HX2.out.trans ⟨ho.os, ho.tape, ho.output, ho.size, fun k hk => ho.block k (by simp; omega) (by intro e; injection e; omega)⟩)
  have HS4 := Lib.hid (HS2.out.only ho (by omega))
  have HQ4 := Lib.hid hn4
  have HKB := Lib.hid hkb
  clear hn4 hkb hrd ho HK2 HT2 HX2 HS2 HR2
  obtain ⟨x0, x1, f0, f1⟩ := HK4.out.two
  obtain ⟨y0, y1, _, _⟩ := HT4.out.two
  have hz : w.heap.size < w4.heap.size := by omega
  go_wp2_with fail
  have hb5 := (HK4.out.set_ 0 (.slice av s.m.length cv)).set_ 1 (.slice a' s.t.length c')
  obtain ⟨z0, z1, _, _⟩ := (show Blk _ w.heap.size 32 #[.slice av s.m.length cv, .slice a' s.t.length c'] from hb5).two
  refine bodyPost_ret (v := .tuple #[.agg #[.slice av s.m.length cv, .slice a' s.t.length c'], .slice ak ks.length ck]) (by simp only [results, Try.results16]; simp [go_sem, z0, z1]) rfl ?_
  have h1 := (HS4.out.set_ ⟨w.heap.size, 0, none⟩ (.slice av s.m.length cv) (.inl (by simp; omega))).set_ ⟨w.heap.size, 1, none⟩ (.slice a' s.t.length c') (.inl (by simp; omega))
  obtain ⟨a6, c6, e6, h2⟩ := h1.at
  simp only [Value.slice.injEq, true_and] at e6
  obtain ⟨rfl, rfl⟩ := e6
  have hneq : (Value.slice ak ks.length ck).ownBlock ≠ some w.heap.size := fun e => by have := own_ge HQ4.out _ e; omega
  have h5 := ownsRow_setCell_other (ownsRow_setCell_other HQ4.out (a := ⟨w.heap.size, 0, none⟩) hneq (.slice av s.m.length cv)) (a := ⟨w.heap.size, 1, none⟩) hneq (.slice a' s.t.length c')
  obtain ⟨a8, c8, e8, h6⟩ := NumRow.at (show NumRow _ _ _ ks from h5) (by intro x hx; have := HKB.out x hx; unfold i64ok; omega)
  simp only [Value.slice.injEq, true_and] at e8
  obtain ⟨rfl, rfl⟩ := e8
  exact ⟨s, av, cv, a', c', ks, ak, ck, rfl, h2.keep (fun _ _ => trivial) (fun _ _ _ => rfl), h6.keep (fun _ _ => trivial) (fun _ _ _ => rfl), HTL.out, hml, hnl, hkl, (HX4.out.setCell (Nat.le_refl _) _).setCell (Nat.le_refl _) _⟩
end Go.Proofs.Ytochgmbeomfkpaa
