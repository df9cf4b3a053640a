/- impl.BuildKey -/
import Derived.Test.YthjfmpeicjmlkaaShG
namespace Go.Proofs.Ythjfmpeicjmlkaa
open Go.RowKit

noncomputable def bkOk (s : Sh) (l : List Int) (key : Int) : Bool := inOk s l && (decide (0 ≤ key ∧ key < s.m.length) && okS s l key)
noncomputable def bkV (s : Sh) (l : List Int) (key : Int) : Int := if bkOk s l key = true then vsS s l key else 0
def BkPost (s : Sh) (l : List Int) (key : Int) (w : World) (e : Ending) (w' : World) : Prop := e = .returned (.tuple #[.int .i64 (bkV s l key), .bool (bkOk s l key)]) ∧ Below w.heap.size w w'
theorem BkPost.no {s : Sh} {l : List Int} {key : Int} {w w' : World} (h : bkOk s l key = false) (hb : Below w.heap.size w w') : BkPost s l key w (.returned (.tuple #[.int .i64 0, .bool false])) w' := by
  unfold BkPost bkV
  rw [h]; exact ⟨rfl, hb⟩
theorem BkPost.yes {s : Sh} {l : List Int} {key : Int} {w w' : World} {v : Int} (h : bkOk s l key = true) (hv : v = vsS s l key) (hb : Below w.heap.size w w') : BkPost s l key w (.returned (.tuple #[.int .i64 v, .bool true])) w' := by
  unfold BkPost bkV
  rw [h, hv]; exact ⟨rfl, hb⟩

theorem below_nd {B : Nat} {w w1 w2 : World} {g n : Nat} (h : Below B w w1) (hf : Fr (ndB g n) w1 w2) (hg : B ≤ g) (hB : B ≤ w1.heap.size) : Below B w w2 :=
  h.trans ⟨hf.1, hf.2.1, hf.2.2.1, hf.2.2.2.1, fun b hb => hf.2.2.2.2 b (by omega) (fun h => by have := h.1; omega)⟩

end Go.Proofs.Ythjfmpeicjmlkaa
