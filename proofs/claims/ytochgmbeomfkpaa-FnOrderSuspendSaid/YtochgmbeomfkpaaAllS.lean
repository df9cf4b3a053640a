/- spec.CircleOf, spec.BuildAll -/
import Derived.Test.YtochgmbeomfkpaaBuildS
namespace Go.Proofs.Ytochgmbeomfkpaa
open Go.RowKit

noncomputable def coB (s : Sh) (l : List Int) (key : Int) : Bool := (inOk s l && decide (0 ≤ key ∧ key < s.m.length)) && !okS s l key
noncomputable def coL (s : Sh) (l : List Int) (key : Int) : List Int := if coB s l key = true then circ s.m.length (chS s l) (okS s l) [] key else []
def CoPost (s : Sh) (l : List Int) (key : Int) (w : World) (e : Ending) (w' : World) : Prop := Below w.heap.size w w' ∧ ∃ v, e = .returned (.tuple #[v, .bool (coB s l key)]) ∧ NumRow w' w.heap.size v (coL s l key)
theorem CoPost.no {s : Sh} {l : List Int} {key : Int} {w w' : World} {v : Value} (h : coB s l key = false) (hb : Below w.heap.size w w') (hv : NumRow w' w.heap.size v []) : CoPost s l key w (.returned (.tuple #[v, .bool false])) w' := by
  refine ⟨hb, v, by rw [h], ?_⟩
  unfold coL
  rw [h]; exact hv
theorem CoPost.yes {s : Sh} {l : List Int} {key : Int} {w w' : World} {v : Value} (h : coB s l key = true) (hb : Below w.heap.size w w') (hv : NumRow w' w.heap.size v (circ s.m.length (chS s l) (okS s l) [] key)) : CoPost s l key w (.returned (.tuple #[v, .bool true])) w' := by
  refine ⟨hb, v, by rw [h], ?_⟩
  unfold coL
  rw [h]; exact hv

noncomputable def baTo (s : Sh) (l : List Int) (k : Nat) : Bool := (List.range k).all fun (i : Nat) => okS s l (i : Int)
noncomputable def baVs (s : Sh) (l : List Int) (k : Nat) : List Int := (List.range k).map fun (i : Nat) => vsS s l (i : Int)
noncomputable def baB (s : Sh) (l : List Int) : Bool := inOk s l && baTo s l s.m.length
noncomputable def baL (s : Sh) (l : List Int) : List Int := if baB s l = true then baVs s l s.m.length else []
def BaPost (s : Sh) (l : List Int) (w : World) (e : Ending) (w' : World) : Prop := Below w.heap.size w w' ∧ ∃ v, e = .returned (.tuple #[v, .bool (baB s l)]) ∧ NumRow w' w.heap.size v (baL s l)
theorem BaPost.no {s : Sh} {l : List Int} {w w' : World} {v : Value} (h : baB s l = false) (hb : Below w.heap.size w w') (hv : NumRow w' w.heap.size v []) : BaPost s l w (.returned (.tuple #[v, .bool false])) w' := by
  refine ⟨hb, v, by rw [h], ?_⟩
  unfold baL
  rw [h]; exact hv
theorem BaPost.yes {s : Sh} {l : List Int} {w w' : World} {v : Value} (h : baB s l = true) (hb : Below w.heap.size w w') (hv : NumRow w' w.heap.size v (baVs s l s.m.length)) : BaPost s l w (.returned (.tuple #[v, .bool true])) w' := by
  refine ⟨hb, v, by rw [h], ?_⟩
  unfold baL
  rw [h]; exact hv
theorem baTo_succ (s : Sh) (l : List Int) (k : Nat) : baTo s l (k + 1) = (baTo s l k && okS s l (k : Int)) := by unfold baTo; rw [List.range_succ, List.all_append]; simp
theorem baVs_succ (s : Sh) (l : List Int) (k : Nat) : baVs s l (k + 1) = baVs s l k ++ [vsS s l (k : Int)] := by unfold baVs; rw [List.range_succ, List.map_append]; rfl
theorem baVs_len (s : Sh) (l : List Int) (k : Nat) : (baVs s l k).length = k := by simp [baVs]
theorem baTo_false {s : Sh} {l : List Int} {k n : Nat} (h : k < n) (ho : okS s l (k : Int) = false) : baTo s l n = false := by
  cases hx : baTo s l n
  · rfl
  · unfold baTo at hx
    rw [List.all_eq_true] at hx
    rw [hx k (List.mem_range.2 h)] at ho
    cases ho
theorem bkOk_in {s : Sh} {l : List Int} {k : Nat} (hin : inOk s l = true) (hk : k < s.m.length) : bkOk s l (k : Int) = okS s l (k : Int) := by
  unfold bkOk
  rw [hin, decide_eq_true (by omega)]; rfl

end Go.Proofs.Ytochgmbeomfkpaa
