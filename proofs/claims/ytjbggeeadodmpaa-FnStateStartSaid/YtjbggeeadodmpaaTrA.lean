/- what TraceOf answers, as the exact laws take it -/
import Derived.Test.YtjbggeeadodmpaaTrG
import Derived.Test.YtjbggeeadodmpaaAdT
namespace Go.Proofs.Ytjbggeeadodmpaa
open Go.RowKit

theorem trO_bd (key : Int) (t : T) (lv : List Int) : (∀ p ∈ (trO key t lv).u, (0 ≤ p.1 ∧ p.1 ≤ 9) ∧ (0 ≤ p.2 ∧ p.2 ≤ 96)) ∧ (trO key t lv).u.length ≤ 15 := by
  unfold trO
  split
  · rename_i h
    unfold trB at h
    rw [Bool.and_eq_true] at h
    obtain ⟨h1, h2⟩ := kys_ok h.1
    have hv : vok lv = true := by have := h.1; simp only [Bool.and_eq_true] at this; exact this.2
    unfold trOf
    refine ⟨fun p hp => ?_, by simp only [List.length_map]; exact Nat.le_trans (usesL_len _) h2⟩
    obtain ⟨k, hk, rfl⟩ := List.mem_map.1 hp
    exact ⟨h1 k (usesL_mem.1 hk), vf_bd (vok_mem hv).2 k⟩
  · exact ⟨(fun p hp => by cases hp), by simp [trZ]⟩
theorem trO_fine (key : Int) (t : T) (lv : List Int) : ∀ p ∈ (trO key t lv).u, i64ok p.1 ∧ i64ok p.2 := fun p hp => by
  have := (trO_bd key t lv).1 p hp
  unfold i64ok
  omega
theorem TrPost.ow {r : Tr} {b : Bool} {w w' : World} {e : Ending} (h : TrPost r b w e w') : Below w.heap.size w w' ∧ ∃ a c D, e = .returned (.tuple #[.agg #[.int .i64 r.k, .slice a r.u.length c, .int .i64 r.v], .bool b]) ∧ TrOw w' D r a c ∧ ∀ x, D x → w.heap.size ≤ x ∧ x < w'.heap.size := by
  obtain ⟨hb, v, he, hr⟩ := h
  obtain ⟨a, c, D, rfl, ho, hD⟩ := hr.ow
  exact ⟨hb, a, c, D, he, ho, hD⟩
theorem TrPost.at {r : Tr} {b : Bool} {w w' : World} {e : Ending} (h : TrPost r b w e w') (hf : ∀ p ∈ r.u, i64ok p.1 ∧ i64ok p.2) : Below w.heap.size w w' ∧ ∃ a c S, e = .returned (.tuple #[.agg #[.int .i64 r.k, .slice a r.u.length c, .int .i64 r.v], .bool b]) ∧ PrsAt w' S r.u a c := by
  obtain ⟨hb, a, c, D, he, ho, _⟩ := h.ow
  exact ⟨hb, a, c, D, he, ho.at hf⟩
end Go.Proofs.Ytjbggeeadodmpaa
