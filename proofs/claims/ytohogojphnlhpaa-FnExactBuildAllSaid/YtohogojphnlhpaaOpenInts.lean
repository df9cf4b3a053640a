/- a list of numbers that came in, opened -/
import Derived.Test.YtohogojphnlhpaaRows
import Derived.Test.YtohogojphnlhpaaRowKit
import Derived.Test.YtohogojphnlhpaaVals
import Derived.ProofKit
namespace Go.Proofs.Ytohogojphnlhpaa
open Go.ChangeShapes Go.WideShapes Go.ChangeAt Go.RowKit Go.Joins

/-- A list of numbers that came in, opened. -/
theorem open_nums {H : Type} {enc : TypeId × Value → H} {P : Program} {w : World} {spare : Nat → Bool} {held : Bool} {tS tE : TypeId} (hS : P.underlying tS = some (.slice tE)) (hE : P.underlying tE = some (.int .i64)) (hC : P.cellsOf tE = 1)
    {v : Value} {d : DataW H} {p : List MemPlace} (hv : ∃ a n c, v = .slice a n c) (h : DataW.Trod enc P w 0 spare held tS v d p) : ∃ a l c, v = .slice a (List.length l) c ∧ IntsAt w (fun _ => True) l a c := by
  obtain ⟨a, n, c, rfl⟩ := hv
  obtain ⟨fuel, hf⟩ := h
  rcases open_ints hS hE hC hf with ⟨hcs, _⟩ | ⟨a', len', cap', zs, hcs, _, hl, hm, hz, _, hcell, hwz⟩
  · simp [Value.cells] at hcs
    obtain ⟨rfl, rfl, rfl⟩ := hcs
    exact ⟨none, [], 0, rfl, IntsAt.nil (by omega)⟩
  · simp [Value.cells] at hcs
    obtain ⟨rfl, rfl, rfl⟩ := hcs
    have hm' : c ≤ 9223372036854775807 := hm
    have hzl : n ≤ zs.length := by rw [hz]; split <;> omega
    have hlen : (zs.take n).length = n := by simp; omega
    by_cases h0 : n = 0
    · subst h0
      exact ⟨_, [], _, rfl, IntsAt.nil hm'⟩
    obtain ⟨b, o, rfl, hc⟩ := ints_at hcell (by omega)
    refine ⟨_, zs.take n, _, by rw [hlen], by rw [hlen]; exact hl, hm', fun x hx => i64ok_of (hwz x (List.mem_of_mem_take hx)), .inr ⟨b, o, rfl, trivial, fun i hi => ?_⟩⟩
    have hi' : i < zs.length := by rw [hlen] at hi; omega
    rw [hc i hi', List.getD_eq_getElem?_getD, List.getElem?_eq_getElem hi']
    simp
end Go.Proofs.Ytohogojphnlhpaa
