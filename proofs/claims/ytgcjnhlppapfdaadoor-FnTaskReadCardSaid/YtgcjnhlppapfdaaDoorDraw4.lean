/- l6Open; DrawTaskNodes -/
import Derived.Test.YtgcjnhlppapfdaaDoorDraw3
namespace Go.Proofs.YtgcjnhlppapfdaaDoor
open Go.RowKit

/-- A code that came in. -/
def CodeAt (w : World) (a : Option Addr) (n c : Nat) : Prop := n ≤ c ∧ c ≤ 9223372036854775807 ∧ (n = 0 ∨ ∃ b o, a = some ⟨b, o, none⟩ ∧ b < w.heap.size ∧ ∀ i, i < n → ∃ v : Int, 0 ≤ v ∧ v ≤ 255 ∧ w.cell? ⟨b, o + i, none⟩ = some (.int .u8 v))
theorem CodeAt.below {w w' : World} {a : Option Addr} {n c : Nat} (h : CodeAt w a n c) (hb : Below w.heap.size w w') : CodeAt w' a n c := by
  obtain ⟨h1, h2, h3⟩ := h
  refine ⟨h1, h2, ?_⟩
  rcases h3 with h3 | ⟨b, o, ha, hlt, hv⟩
  · exact .inl h3
  · refine .inr ⟨b, o, ha, Nat.lt_of_lt_of_le hlt hb.size, fun i hi => ?_⟩
    obtain ⟨v, v0, v1, hc⟩ := hv i hi
    exact ⟨v, v0, v1, (hb.cell (p := ⟨b, o + i, none⟩) hlt).trans hc⟩
theorem CodeAt.alloc {w : World} {a : Option Addr} {n c : Nat} (h : CodeAt w a n c) (o : Obj) : CodeAt (w.alloc o) a n c := h.below ((Below.refl _ _).alloc (Nat.le_refl _) o)

def Opened (w : World) (e : Ending) (w' : World) : Prop := e = .returned (.pointer (some ⟨w.heap.size, 0, none⟩)) ∧ RdAt w' w.heap.size 0 ∧ Below w.heap.size w w'

theorem rd_new {w : World} {a : Option Addr} {n m c : Nat} {t : TypeId} (h : CodeAt w a n c) (hm : m ≤ 2000) (hmn : m ≤ n) : RdAt (w.alloc (.cells #[.slice a m c, .int .i64 0] t)) w.heap.size 0 := by
  obtain ⟨h1, h2, h3⟩ := h
  have hb := Blk.new w t #[.slice a m c, .int .i64 0]
  refine ⟨a, m, c, hm, by omega, h2, hb.cell 0, hb.cell 1, hb.frozen 1, ?_⟩
  rcases h3 with h3 | ⟨b, o, ha, hlt, hv⟩
  · exact .inl (by omega)
  · refine .inr ⟨b, o, ha, hlt, fun i hi => ?_⟩
    obtain ⟨v, v0, v1, hc⟩ := hv i (by omega)
    exact ⟨v, v0, v1, (((Below.refl w.heap.size w).alloc (Nat.le_refl _) _).cell (p := ⟨b, o + i, none⟩) hlt).trans hc⟩

theorem open_any (w : World) (a : Option Addr) (n c : Nat) (h : CodeAt w a n c) : Calls Tryd.prog 13 #[.slice a n c] w (Opened w) := by
  have hn := h.1
  have hc := h.2.1
  by_cases hl : 2000 < n
  · obtain ⟨b, o, rfl, hlt, hv⟩ : ∃ b o, a = some ⟨b, o, none⟩ ∧ b < w.heap.size ∧ ∀ i, i < n → ∃ v : Int, 0 ≤ v ∧ v ≤ 255 ∧ w.cell? ⟨b, o + i, none⟩ = some (.int .u8 v) := by
      rcases h.2.2 with h | h
      · omega
      · exact h
    have H := Lib.hid (rd_new (m := 2000) (t := 50) h (by omega) (by omega))
    clear h hv
    go_enter Tryd.func13, Tryd.ntmps13
    go_wp2_with fail
    go_ret
    exact ⟨rfl, H.out, (Below.refl _ _).alloc (Nat.le_refl _) _⟩
  · have H := Lib.hid (rd_new (m := n) (t := 50) h (by omega) (by omega))
    clear h
    go_enter Tryd.func13, Tryd.ntmps13
    go_wp2_with fail
    go_ret
    exact ⟨rfl, H.out, (Below.refl _ _).alloc (Nat.le_refl _) _⟩

/-- A task drawn off a code. -/
def DrawnT (w : World) (e : Ending) (w' : World) : Prop := ∃ (t : T) (a : Option Addr) (c : Nat), e = .returned (.agg #[.int .i64 t.k, .int .i64 t.n, .slice a t.ps.length c]) ∧ OwS w' 25 (fun b => w.heap.size ≤ b ∧ b < w'.heap.size) t.ps a c ∧
  i64ok t.k ∧ i64ok t.n ∧ t.nodes ≤ 100 ∧ Below w.heap.size w w'

theorem drawTaskText_any (w : World) (a : Option Addr) (n c : Nat) (h : CodeAt w a n c) : Calls Tryd.prog 5 #[.slice a n c] w (DrawnT w) := by
  have HC := Lib.hid (h.alloc (.cells #[.int .i64 0, .int .i64 0, .slice none 0 0] 25))
  clear h
  go_enter Tryd.func5, Tryd.ntmps5
  go_wp2_with fail
  refine (open_any _ a n c HC.out).mono ?_
  rintro e w1 ⟨rfl, hrd, hb⟩
  have hsz1 := hb.size
  simp only [World.size_alloc] at hsz1 hrd hb
  have HK1 := Lib.hid ((Blk.new w 25 #[.int .i64 0, .int .i64 0, .slice none 0 0]).below hb (by omega))
  have HE1 := Lib.hid (And.intro hrd (below_of_box hb))
  have hlt1 : w.heap.size + 1 < w1.heap.size := hrd.lt
  clear hrd hb HC
  go_wp2_with fail
  refine (any_any _ (w.heap.size + 1) 0 ?_ (by omega)).mono ?_
  · exact HE1.out.1
  rintro e w2 ⟨t, a2, c2, p', rfl, hat, ok1, ok2, hm, hp0, hp1, hrd, ho⟩
  have hsz2 := ho.size
  have hK2 := HK1.out.only ho (by omega)
  have hB2 : Below w.heap.size w w2 := HE1.out.2.trans ⟨ho.os, ho.tape, ho.output, ho.size, fun k hk => ho.block k (by omega) (by intro e; injection e; omega)⟩
  have HX := Lib.hid (And.intro hB2 (And.intro hat (And.intro ok1 ok2)))
  have hz2 : w.heap.size < w2.heap.size := by omega
  obtain ⟨x0, x1, x2, f0, f1, f2⟩ := hK2.three
  clear hrd ho hK2 hB2 HK1 HE1 ok1 ok2 hat
  go_wp2_with fail
  refine bodyPost_ret (v := .agg #[.int .i64 t.k, .int .i64 t.n, .slice a2 t.ps.length c2]) (by simp [results, Tryd.results5, go_sem, x0, x1, x2, hz2]) rfl ?_
  refine ⟨t, a2, c2, rfl, ?_, HX.out.2.2.1, HX.out.2.2.2, hm, ?_⟩
  · have h := ((HX.out.2.1.set3 (R := w.heap.size) (by intro b hb; omega) (.int .i64 t.k) (.int .i64 t.n) (.slice a2 t.ps.length c2)).alloc (.cells #[.int .i64 t.k, .int .i64 t.n, .slice a2 t.ps.length c2] 25))
    refine h.weaken (fun b hb => ⟨by omega, ?_⟩)
    have := set3_size w2 w.heap.size (.int .i64 t.k) (.int .i64 t.n) (.slice a2 t.ps.length c2)
    unfold set3 at this
    simp only [World.size_alloc]
    omega
  · exact (((HX.out.1.setCell (Nat.le_refl _) _).setCell (Nat.le_refl _) _).setCell (Nat.le_refl _) _).alloc (by simp [World.setCell]; omega) _

end Go.Proofs.YtgcjnhlppapfdaaDoor
