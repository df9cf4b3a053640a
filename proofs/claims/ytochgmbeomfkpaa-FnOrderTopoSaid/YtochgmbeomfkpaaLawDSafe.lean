/- the walk of laws.FnSheetSafe -/
import Derived.Test.YtochgmbeomfkpaaDrawSh
import Derived.Test.YtochgmbeomfkpaaSafeI
import Derived.Test.YtochgmbeomfkpaaSafeA
import Derived.Test.YtochgmbeomfkpaaAllI
import Derived.Test.YtochgmbeomfkpaaBnds
import Derived.Deep.RegionWith
import Derived.Laws.OwnMore
namespace Go.Proofs.Ytochgmbeomfkpaa
open Go.RowKit

theorem vok_rep (n : Nat) (x : Int) (hn : n ≤ 10) (h0 : 0 ≤ x) (h1 : x ≤ 96) : vok (List.replicate n x) = true := by
  unfold vok
  simp only [List.length_replicate, Bool.and_eq_true, decide_eq_true_eq, List.all_eq_true]
  refine ⟨hn, fun v hv => ?_⟩
  rw [List.eq_of_mem_replicate hv]
  simp [vin]; omega

theorem irow_ints {w : World} {g n : Nat} {l : List Int} (h : IRow w g n l) (hl : l.length = n) (hn : n ≤ 9223372036854775807) (hok : ∀ x ∈ l, i64ok x) : IntsAt w (fun b => b = g) l (some ⟨g, 0, none⟩) n := by
  obtain ⟨cs, h1, h2, h3⟩ := h
  refine ⟨by omega, hn, hok, .inr ⟨g, 0, rfl, rfl, fun i hi => ?_⟩⟩
  rw [Nat.zero_add]
  exact (Blk.cell h1 i).trans (h3 i hi)
theorem ba_any {s : Sh} {l : List Int} {z : Bool} (hz : z = baB s l) {W W' : World} {e : Ending} (h : BaPost s l W e W') : Below W.heap.size W W' ∧ ∃ (a : Option Addr) (n c : Nat), e = .returned (.tuple #[.slice a n c, .bool z]) := by
  obtain ⟨hb, v, rfl, hr⟩ := h
  obtain ⟨a, c, rfl, _⟩ := hr.at (fun x hx => by have := (baL_bd s l).1 x hx; unfold i64ok; omega)
  exact ⟨hb, a, _, c, by rw [hz]⟩
theorem all_rep {s : Sh} {m : Nat} (hm : m = s.m.length) (x : Int) (W : World) (S S' : Nat → Prop) (av : Option Addr) (cv : Nat) (a' : Option Addr) (c' : Nat) (g : Nat) (h : ShAt W S s av cv a' c') (hi : IntsAt W S' (List.replicate m x) (some ⟨g, 0, none⟩) m) :
    Calls Try.prog 22 #[.agg #[.slice av m cv, .slice a' s.t.length c'], .slice (some ⟨g, 0, none⟩) m m] W (BaPost s (List.replicate m x) W) := by
  have := implAll_any s (List.replicate m x) W S S' av cv a' c' (some ⟨g, 0, none⟩) m h hi
  rw [List.length_replicate, ← hm] at this
  exact this
theorem below_fr {w w4 wr : World} {D : Nat → Prop} (h : Below w.heap.size w w4) (hf : Fr D w4 wr) (hD : ∀ b, D b → w.heap.size ≤ b) : Below w.heap.size w wr :=
  ⟨hf.1.trans h.os, hf.2.1.trans h.tape, hf.2.2.1.trans h.output, Nat.le_trans h.size hf.size, fun b hb => (hf.2.2.2.2 b (Nat.lt_of_lt_of_le hb h.size) (fun hd => by have := hD b hd; omega)).trans (h.block b hb)⟩
theorem rep_ok (m : Nat) (x : Int) (h : x = 0 ∨ x = 1) : ∀ y ∈ List.replicate m x, i64ok y := fun y hy => by
  rw [List.eq_of_mem_replicate hy]; unfold i64ok; omega
theorem irow_made (w : World) (n : Nat) : IRow (w.alloc (.cells (madeCells #[.int .i64 0] n) 3)) w.heap.size n (List.replicate n 0) := by
  refine ⟨_, heap_alloc_new w _, by rw [size_madeCells], fun i hi => ?_⟩
  have hi' : i < n := by simpa using hi
  have : (madeCells #[Value.int .i64 0] n).toList[i]? = some (.int .i64 0) := by rw [toList_madeCells_one]; simp [hi']
  simpa using this

end Go.Proofs.Ytochgmbeomfkpaa
