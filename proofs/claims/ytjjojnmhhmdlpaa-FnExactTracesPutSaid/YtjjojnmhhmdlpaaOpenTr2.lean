/- a trace that came in as an argument, opened: its numbers fit too -/
import Derived.Test.YtjjojnmhhmdlpaaTr1
namespace Go.Proofs.Ytjjojnmhhmdlpaa
open Go.ChangeShapes Go.WideShapes Go.ChangeAt Go.RowKit Go.Joins

set_option maxRecDepth 100000 in
theorem open_tr2 {H : Type} {enc : TypeId × Value → H} {w : World} {held : Bool} {r : Reach} {b0 : Nat} {v : Value} {d : DataW H} {p : List MemPlace}
    (hv : Value.okWide Try.prog w r b0 69 v) (h : DataW.Trod enc Try.prog w 0 (fun _ => true) held 69 v d p) :
    ∃ (t : Tr) (a : Option Addr) (c : Nat), v = .agg #[.int .i64 t.k, .slice a t.u.length c, .int .i64 t.v] ∧ PrsAt w (fun _ => True) t.u a c ∧ i64ok t.k ∧ i64ok t.v := by
  obtain ⟨v0, v1, v2, y0, y1, y2, n, rfl, _, _, h0, h1, h2⟩ := open_agg3 Try.underlying69 (by kernel_rfl) cellsTraceX hv h
  obtain ⟨k, e0, _, wk⟩ := DataW.trod_int Try.underlying3 h0
  obtain ⟨m, e2, _, wm⟩ := DataW.trod_int Try.underlying3 h2
  obtain ⟨u, a, c, rfl, hu⟩ := open_prs Try.underlying3 cellsIntX Try.underlying67 Try.underlying197 cellsFetchX ⟨rfl, rfl⟩ ⟨rfl, rfl⟩ _ _ _ h1
  simp at e0 e2
  subst e0 e2
  exact ⟨⟨k, u, m⟩, a, c, rfl, hu, i64ok_of wk, i64ok_of wm⟩
end Go.Proofs.Ytjjojnmhhmdlpaa
