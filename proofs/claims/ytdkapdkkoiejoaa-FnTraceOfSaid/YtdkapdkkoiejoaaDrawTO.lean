/- DrawTraceOf: a key, a task and values drawn off a code -/
import Derived.Test.YtdkapdkkoiejoaaDr1
import Derived.Test.YtdkapdkkoiejoaaBs2
namespace Go.Proofs.Ytdkapdkkoiejoaa
open Go.RowKit

/-- A key, a task and values drawn off a code. -/
def DrawnKTV (w : World) (e : Ending) (w' : World) : Prop := ∃ (key : Int) (t : T) (a : Option Addr) (c : Nat) (l : List Int) (v : Value), e = .returned (.tuple #[.int .i64 key, .agg #[.int .i64 t.k, .int .i64 t.n, .slice a t.ps.length c], v]) ∧ i64ok key ∧ AtS w' (fun b => w.heap.size ≤ b ∧ b < w'.heap.size) t.ps a c ∧
  i64ok t.k ∧ i64ok t.n ∧ t.nodes ≤ 100 ∧ NumRow w' w.heap.size v l ∧ l.length ≤ 12 ∧ (∀ x ∈ l, 0 ≤ x ∧ x ≤ 97) ∧ Below w.heap.size w w'
set_option maxHeartbeats 1000000 in
theorem drawTraceOf_any (w : World) (a : Option Addr) (n c : Nat) (h : CodeAt w a n c) : Calls Try.prog 6 #[.slice a n c] w (DrawnKTV w) := by
  have HC := Lib.hid (h.alloc (.cells #[.int .i64 0, .int .i64 0, .slice none 0 0] 25))
  clear h
  go_enter Try.func6, Try.ntmps6
  go_wp2_with fail
  refine (open_any _ a n c HC.out).mono ?_
  rintro e w1 ⟨rfl, hrd, hb⟩
  have hsz1 := hb.size
  simp only [World.size_alloc] at hsz1 hrd hb
  have HK1 := Lib.hid ((Blk.new w 25 #[.int .i64 0, .int .i64 0, .slice none 0 0]).below hb (by omega))
  have HE1 := Lib.hid (And.intro hrd (below_of_box hb))
  have hlt1 : w.heap.size + 1 < w1.heap.size := hrd.lt
  clear hrd hb HC
  go_wp2_with fail
  refine (pick_any _ (w.heap.size + 1) 0 12 HE1.out.1 (by omega) (by omega) (by omega)).mono ?_
  rintro e wp ⟨r, rfl, h0, h1, hrd, ho⟩
  have hr12 := h1 (by omega)
  have hszp := ho.size
  have HKp := Lib.hid (HK1.out.only ho (by omega))
  have hBp : Below w.heap.size w wp := HE1.out.2.trans ⟨ho.os, ho.tape, ho.output, ho.size, fun k hk => ho.block k (by omega) (by intro e; injection e; omega)⟩
  have HEp := Lib.hid (And.intro hrd hBp)
  clear h1 hrd ho hBp HK1 HE1
  go_wp2_with fail
  refine (any_any _ (w.heap.size + 1) 1 ?_ (by omega)).mono ?_
  · exact HEp.out.1
  rintro e w2 ⟨t, a2, c2, p', rfl, hat, ok1, ok2, hm, hp0, hp1, hrd, ho⟩
  have hsz2 := ho.size
  have HK2 := Lib.hid ((HKp.out.only ho (by omega)).alloc (.cells #[.int .i64 t.k, .int .i64 t.n, .slice a2 t.ps.length c2] 25))
  have hB2 : Below w.heap.size w w2 := HEp.out.2.trans ⟨ho.os, ho.tape, ho.output, ho.size, fun k hk => ho.block k (by omega) (by intro e; injection e; omega)⟩
  have HX := Lib.hid (And.intro (hB2.alloc (by omega) (.cells #[.int .i64 t.k, .int .i64 t.n, .slice a2 t.ps.length c2] 25)) (And.intro ((hat.at.alloc (.cells #[.int .i64 t.k, .int .i64 t.n, .slice a2 t.ps.length c2] 25)).lim) (And.intro ok1 ok2)))
  have HT := Lib.hid (Blk.new w2 25 #[.int .i64 t.k, .int .i64 t.n, .slice a2 t.ps.length c2])
  have HR2 := Lib.hid (hrd.alloc (.cells #[.int .i64 t.k, .int .i64 t.n, .slice a2 t.ps.length c2] 25))
  clear hrd ho hB2 HKp HEp ok1 ok2 hat
  go_wp2_with fail
  refine (vals_any _ (w.heap.size + 1) p' HR2.out (by omega)).mono ?_
  rintro e w3 ⟨l, v, q, rfl, hn, hl, hlb, _, _, hrd, ho⟩
  have hsz3 := ho.size
  simp only [World.size_alloc] at hsz3 hn
  have hK3 := HK2.out.only ho (by omega)
  have hT3 := HT.out.only ho (by omega)
  have hB3 : Below w.heap.size w w3 := HX.out.1.trans ⟨ho.os, ho.tape, ho.output, ho.size, fun k hk => ho.block k (by simp; omega) (by intro e; injection e; omega)⟩
  have hA3 : AtS w3 (fun b => w.heap.size ≤ b ∧ b < w3.heap.size ∧ b ≠ w.heap.size) t.ps a2 c2 := HX.out.2.1.keep (fun b hb => by simp at hb; omega) (fun b hb hlb => ho.block b hlb (by intro e; injection e with e; simp at hb; omega))
  have H3 := Lib.hid (And.intro hB3 (And.intro hA3 (And.intro (ownsRow_low (b' := w.heap.size) hn (by omega)) hlb)))
  have HN3 := Lib.hid (own_ge hn)
  have HK3 := Lib.hid hK3
  obtain ⟨x0, x1, x2, f0, f1, f2⟩ := hK3.three
  obtain ⟨y0, y1, y2, g0, g1, g2⟩ := hT3.three
  have hz3 : w.heap.size < w3.heap.size := by omega
  obtain ⟨a4, c4, hva, _⟩ := NumRow.at (show NumRow w3 _ v l from hn) (by intro x hx; have := hlb x hx; unfold i64ok; omega)
  subst hva
  clear hn hlb hrd ho hK3 hT3 hB3 hA3 HK2 HT HR2
  go_wp2_with fail
  go_region
  go_wp2_with fail
  have hb5 := ((HK3.out.set_ 0 (.int .i64 t.k)).set_ 1 (.int .i64 t.n)).set_ 2 (.slice a2 t.ps.length c2)
  obtain ⟨z0, z1, z2, _, _, _⟩ := (show Blk _ w.heap.size 25 #[.int .i64 t.k, .int .i64 t.n, .slice a2 t.ps.length c2] from hb5.below (Below.refl _ _).drew hb5.lt).three
  refine bodyPost_ret (v := .tuple #[.int .i64 (r - 1), .agg #[.int .i64 t.k, .int .i64 t.n, .slice a2 t.ps.length c2], .slice a4 l.length c4]) (by simp only [results, Try.results6]; simp [go_sem, z0, z1, z2]) rfl ?_
  have hne : (Value.slice a4 l.length c4).ownBlock ≠ some w.heap.size := fun e => by have := HN3.out _ e; omega
  refine ⟨r - 1, t, a2, c2, l, _, rfl, by unfold i64ok; omega, ?_, HX.out.2.2.1, HX.out.2.2.2, hm, ?_, hl, H3.out.2.2.2, ?_⟩
  · exact ((((H3.out.2.1.setCell (by intro b hb; simp; omega) _).setCell (by intro b hb; simp; omega) _).setCell (by intro b hb; simp; omega) _).weaken (by intro b hb; simp; omega)).drew
  · exact NumRow.drew (ownsRow_setCell_other (ownsRow_setCell_other (ownsRow_setCell_other H3.out.2.2.1 (a := ⟨w.heap.size, 0, none⟩) hne _) (a := ⟨w.heap.size, 1, none⟩) hne _) (a := ⟨w.heap.size, 2, none⟩) hne _)
  · exact (((H3.out.1.setCell (Nat.le_refl _) _).setCell (Nat.le_refl _) _).setCell (Nat.le_refl _) _).drew
end Go.Proofs.Ytdkapdkkoiejoaa
