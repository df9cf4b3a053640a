/- DrawSheetFixed and its like -/
import Derived.Test.YtjbggeeadodmpaaSd1
import Derived.Test.YtjbggeeadodmpaaDr1
namespace Go.Proofs.Ytjbggeeadodmpaa
open Go.RowKit

/-- A sheet was drawn off a code. -/
def ShDr (w : World) (e : Ending) (w' : World) : Prop := ∃ (s : Sh) (v : Value) (a' : Option Addr) (c' : Nat), e = .returned (.agg #[v, .slice a' s.t.length c']) ∧ ShD w' w.heap.size w'.heap.size s v a' c' ∧ s.t.length = s.m.length ∧ s.m.length ≤ 8 ∧ nodesL s.t ≤ 120 ∧ Below w.heap.size w w'
set_option maxHeartbeats 1000000 in
theorem drawStateStart_any (w : World) (a : Option Addr) (n c : Nat) (h : CodeAt w a n c) : Calls Try.prog 22 #[.slice a n c] w (ShDr w) := by
  have HC := Lib.hid (h.alloc (.cells #[.slice none 0 0, .slice none 0 0] 47))
  clear h
  go_enter Try.func22, Try.ntmps22
  go_wp2_with fail
  refine (open_any _ a n c HC.out).mono ?_
  rintro e w1 ⟨rfl, hrd, hb⟩
  have hsz1 := hb.size
  simp only [World.size_alloc] at hsz1 hrd hb
  have HK1 := Lib.hid ((Blk.new w 47 #[.slice none 0 0, .slice none 0 0]).below hb (by omega))
  have HE1 := Lib.hid (And.intro hrd (below_of_box hb))
  have hlt1 : w.heap.size + 1 < w1.heap.size := hrd.lt
  clear hrd hb HC
  go_wp2_with fail
  refine (sheetD_any _ (w.heap.size + 1) 0 ?_ (by omega)).mono ?_
  · exact HE1.out.1
  rintro e w2 ⟨s, v, a', c', q, rfl, hsh, htl, hml, hnl, _, _, hrd, ho⟩
  obtain ⟨av, cv, rfl, _⟩ := ElRow.at hsh.row
  have hsz2 := ho.size
  have hK2 := HK1.out.only ho (by omega)
  have hB2 : Below w.heap.size w w2 := HE1.out.2.trans ⟨ho.os, ho.tape, ho.output, ho.size, fun k hk => ho.block k (by omega) (by intro e; injection e; omega)⟩
  have HX := Lib.hid (And.intro hB2 (And.intro hsh htl))
  have hz2 : w.heap.size < w2.heap.size := by omega
  obtain ⟨x0, x1, f0, f1⟩ := hK2.two
  clear hrd ho hK2 hB2 HK1 HE1 hsh htl
  go_wp2_with fail
  refine bodyPost_ret (v := .agg #[.slice av s.m.length cv, .slice a' s.t.length c']) (by simp [results, Try.results22, go_sem, x0, x1, hz2]) rfl ?_
  refine ⟨s, _, a', c', rfl, ?_, HX.out.2.2, hml, hnl, ?_⟩
  · have h := (((HX.out.2.1.set_ ⟨w.heap.size, 0, none⟩ (.slice av s.m.length cv) (.inl (by simp; omega))).set_ ⟨w.heap.size, 1, none⟩ (.slice a' s.t.length c') (.inl (by simp; omega))).alloc (.cells #[.slice av s.m.length cv, .slice a' s.t.length c'] 47))
    exact (h.low (by omega)).up (by simp [World.setCell]) (Nat.le_refl _)
  · exact ((HX.out.1.setCell (Nat.le_refl _) _).setCell (Nat.le_refl _) _).alloc (by simp [World.setCell]; omega) _
end Go.Proofs.Ytjbggeeadodmpaa
