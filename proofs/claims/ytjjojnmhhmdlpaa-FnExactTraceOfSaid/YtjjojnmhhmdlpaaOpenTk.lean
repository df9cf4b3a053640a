/- a task that came in as an argument, opened -/
import Derived.Test.YtjjojnmhhmdlpaaBs0
import Derived.Test.YtjjojnmhhmdlpaaBs2
namespace Go.Proofs.Ytjjojnmhhmdlpaa
open Go.ChangeShapes Go.WideShapes Go.ChangeAt Go.RowKit Go.Joins

set_option maxRecDepth 100000 in
theorem open_tk {H : Type} {enc : TypeId × Value → H} {w : World} {held : Bool} {r : Reach} {b0 : Nat} {v : Value} {d : DataW H} {p : List MemPlace}
    (hv : Value.okWide Try.prog w r b0 56 v) (h : DataW.Trod enc Try.prog w 0 (fun _ => true) held 56 v d p) :
    ∃ (t : T) (a : Option Addr) (c : Nat), v = .agg #[.int .i64 t.k, .int .i64 t.n, .slice a t.ps.length c] ∧ AtS w (fun _ => True) t.ps a c := by
  obtain ⟨v0, v1, v2, y0, y1, y2, n, rfl, _, _, h0, h1, h2⟩ := open_agg3 Try.underlying56 (by kernel_rfl) cellsTaskX hv h
  obtain ⟨k, e0, _, wk⟩ := DataW.trod_int Try.underlying3 h0
  obtain ⟨m, e1, _, wm⟩ := DataW.trod_int Try.underlying3 h1
  obtain ⟨ps, a, c, rfl, hat⟩ := open_tasks Try.underlying3 cellsIntX Try.underlying31 cellsTaskSX Try.underlying56 cellsTaskX ⟨rfl, rfl⟩ ⟨rfl, rfl⟩ ⟨rfl, rfl⟩ _ _ _ h2
  simp at e0 e1
  subst e0 e1
  exact ⟨.mk k m ps, a, c, rfl, hat⟩
end Go.Proofs.Ytjjojnmhhmdlpaa
