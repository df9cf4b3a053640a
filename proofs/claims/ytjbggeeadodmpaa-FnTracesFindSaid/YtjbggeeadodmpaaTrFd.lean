/- what TracesFind answers, as the exact laws take it -/
import Derived.Test.YtjbggeeadodmpaaTrN2
import Derived.Test.YtjbggeeadodmpaaTrA
namespace Go.Proofs.Ytjbggeeadodmpaa
open Go.RowKit

theorem fdO_bd (l : List Tr) (key : Int) (y : List Int) : (∀ p ∈ (fdO l key y).u, i64ok p.1 ∧ i64ok p.2) ∧ (fdO l key y).u.length ≤ 15 := by
  unfold fdO
  split
  · rename_i h
    rw [Bool.and_eq_true] at h
    cases hf : l.find? (fdP key y)
    · exact ⟨(fun p hp => by cases hp), by simp [trZ]⟩
    · rename_i t
      have hok := (trsOk_all h.1).2 t (List.mem_of_find?_eq_some hf)
      refine ⟨fun p hp => ?_, ?_⟩
      · have := ((Tr.ok_iff _).1 hok).2.2.1 p hp
        unfold i64ok
        omega
      · have := Tr.ok_len hok
        simp only [Option.getD_some]
        omega
  · exact ⟨(fun p hp => by cases hp), by simp [trZ]⟩
end Go.Proofs.Ytjbggeeadodmpaa
