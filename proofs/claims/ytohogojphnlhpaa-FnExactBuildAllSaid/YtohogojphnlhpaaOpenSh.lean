/- A sheet that came in as an argument: its reading opened to a sheet -/
import Derived.Test.YtohogojphnlhpaaOpen
import Derived.Test.YtohogojphnlhpaaSheet
import Derived.Deep.Grids
namespace Go.Proofs.Ytohogojphnlhpaa
open Go.ChangeShapes Go.WideShapes Go.ChangeAt Go.RowKit Go.Joins

theorem cellsIntX : Try.prog.cellsOf 3 = 1 := by kernel_rfl
theorem cellsTaskX : Try.prog.cellsOf 121 = 3 := by kernel_rfl
theorem cellsTaskSX : Try.prog.cellsOf 52 = 1 := by kernel_rfl
theorem cellsBoolX : Try.prog.cellsOf 4 = 1 := by kernel_rfl
theorem cellsSheetX : Try.prog.cellsOf 54 = 2 := by kernel_rfl

theorem spot_none {w : World} {a : Addr} {v : Value} (h : w.cell? (a.add 0) = some v) : a.spot = none := by
  obtain ⟨ab, ao, asp⟩ := a
  cases asp with
  | none => rfl
  | some y =>
    exfalso
    simp [Addr.add, World.cell?] at h
    split at h <;> simp at h

section
variable {H : Type} {enc : TypeId × Value → H} {P : Program} {w : World} {base : Nat} {held : Bool} {tS tE : TypeId}

theorem open_bl {fuel : Nat} {v : Value} {x : DataW H × List MemPlace} (hS : P.underlying tS = some (.slice tE)) (hE : P.underlying tE = some .bool) (hC : P.cellsOf tE = 1)
    (h : DataW.trod enc P w base (fun _ => true) held fuel tS [v] = some x) : ∃ (l : List Bool) (a : Option Addr) (c : Nat), v = .slice a l.length c ∧ ElAt Value.bool w (fun _ => True) l a c := by
  rcases Go.Deep.open_bools hS hE hC h with ⟨hv, _⟩ | ⟨a, len, cap, B, hv, _, hl, hm, _, hc⟩
  · simp only [List.cons.injEq, and_true] at hv
    exact ⟨[], none, 0, by simpa using hv, ElAt.nil (by omega)⟩
  · simp only [List.cons.injEq, and_true] at hv
    have hm' : cap ≤ 9223372036854775807 := hm
    refine ⟨(List.range len).map B, some a, cap, by simpa using hv, by simpa using hl, hm', ?_⟩
    by_cases h0 : len = 0
    · left; simp [h0]
    right
    have hs := spot_none (hc 0 (by omega))
    obtain ⟨ab, ao, asp⟩ := a
    simp only at hs
    subst hs
    refine ⟨ab, ao, rfl, trivial, fun i hi => ?_⟩
    simp only [List.length_map, List.length_range] at hi
    have := hc i (by omega)
    have ea : Addr.add ⟨ab, ao, none⟩ i = ⟨ab, ao + i, none⟩ := by unfold Addr.add; split <;> simp_all
    rw [ea] at this
    simpa using this
end

set_option maxRecDepth 100000 in
theorem open_sh {H : Type} {enc : TypeId × Value → H} {w : World} {held : Bool} {r : Reach} {b0 : Nat} {v : Value} {d : DataW H} {p : List MemPlace}
    (hv : Value.okWide Try.prog w r b0 54 v) (h : DataW.Trod enc Try.prog w 0 (fun _ => true) held 54 v d p) :
    ∃ (s : Sh) (a : Option Addr) (c : Nat) (a' : Option Addr) (c' : Nat), v = .agg #[.slice a s.m.length c, .slice a' s.t.length c'] ∧ ShAt w (fun _ => True) s a c a' c' := by
  obtain ⟨v0, v1, y0, y1, n, rfl, _, _, h0, h1⟩ := open_agg2 Try.underlying54 (by kernel_rfl) cellsSheetX hv h
  obtain ⟨l, a, c, rfl, hb⟩ := open_bl Try.underlying23 Try.underlying4 cellsBoolX h0
  obtain ⟨ps, a', c', rfl, hat⟩ := open_tasks Try.underlying3 cellsIntX Try.underlying52 cellsTaskSX Try.underlying121 cellsTaskX ⟨rfl, rfl⟩ ⟨rfl, rfl⟩ ⟨rfl, rfl⟩ _ _ _ h1
  exact ⟨⟨l, ps⟩, a, c, a', c', rfl, hb, hat⟩
end Go.Proofs.Ytohogojphnlhpaa
