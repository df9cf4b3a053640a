/- what TracesPut answers, as the exact laws take it -/
import Derived.Test.YtjbggeeadodmpaaTrV
import Derived.Test.YtjbggeeadodmpaaTrT
namespace Go.Proofs.Ytjbggeeadodmpaa
open Go.RowKit

theorem trN_small : ∀ l : List Tr, (∀ x ∈ l, x.u.length ≤ 10) → trN l ≤ 11 * l.length
  | [], _ => by simp [trN]
  | t :: r, h => by
    have h1 := trN_small r (fun x hx => h x (List.mem_cons_of_mem _ hx))
    have h2 := h t (List.mem_cons_self ..)
    simp only [trN, List.length_cons]
    omega
theorem ptO_ok (l : List Tr) (t : Tr) : (∀ x ∈ ptO l t, x.ok = true) ∧ (ptO l t).length ≤ 61 := by
  unfold ptO
  split
  · rename_i h
    unfold ptB at h
    rw [Bool.and_eq_true] at h
    obtain ⟨h1, h2⟩ := trsOk_all' h.1
    unfold trPut
    split
    · exact ⟨h2, by omega⟩
    · refine ⟨fun x hx => ?_, ?_⟩
      · rw [List.mem_append, List.mem_singleton] at hx
        rcases hx with hx | rfl
        · refine h2 x ?_
          split at hx
          · exact List.mem_of_mem_drop hx
          · exact hx
        · exact h.2
      · rw [List.length_append]; split <;> simp <;> omega
  · exact ⟨(fun x hx => by cases hx), by simp⟩
theorem ptO_fine (l : List Tr) (t : Tr) : ∀ x ∈ ptO l t, trFine x := fun x hx => by
  have h := (Tr.ok_iff _).1 ((ptO_ok l t).1 x hx)
  refine ⟨by have := h.1; unfold i64ok; omega, by have := h.2.1; unfold i64ok; omega, fun p hp => ?_⟩
  have := h.2.2.1 p hp
  unfold i64ok
  omega
theorem ptO_trN (l : List Tr) (t : Tr) : trN (ptO l t) ≤ 700 := by
  have h1 := trN_small (ptO l t) (fun x hx => Tr.ok_len ((ptO_ok l t).1 x hx))
  have h2 := (ptO_ok l t).2
  omega
theorem TrsPost.ow {r : List Tr} {b : Bool} {w w' : World} {e : Ending} (h : TrsPost r b w e w') : Below w.heap.size w w' ∧ ∃ a c D, e = .returned (.tuple #[.slice a r.length c, .bool b]) ∧ TracesOw w' D r a c ∧ ∀ x, D x → w.heap.size ≤ x ∧ x < w'.heap.size := by
  obtain ⟨hb, v, us, he, ho⟩ := h
  obtain ⟨a, c, hv⟩ := own_shape' ho.row
  subst hv
  rw [List.length_map] at ho he
  exact ⟨hb, a, c, trD (.slice a r.length c) us, he, ⟨us, ho.low (Nat.zero_le _), fun _ h => h⟩, fun x hx => ho.lt hx⟩
theorem TrsPost.at {r : List Tr} {b : Bool} {w w' : World} {e : Ending} (h : TrsPost r b w e w') (hf : ∀ x ∈ r, trFine x) : Below w.heap.size w w' ∧ ∃ a c S, e = .returned (.tuple #[.slice a r.length c, .bool b]) ∧ TrsAt w' S r a c := by
  obtain ⟨hb, a, c, D, he, ho, _⟩ := h.ow
  exact ⟨hb, a, c, D, he, ho.at hf⟩
end Go.Proofs.Ytjbggeeadodmpaa
