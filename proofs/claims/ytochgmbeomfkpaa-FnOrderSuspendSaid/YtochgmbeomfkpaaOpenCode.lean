/- a code that came in, opened -/
import Derived.Test.YtochgmbeomfkpaaRows
import Derived.Test.YtochgmbeomfkpaaBs0
import Derived.Test.YtochgmbeomfkpaaDr1
import Derived.ProofKit
namespace Go.Proofs.Ytochgmbeomfkpaa
open Go.ChangeShapes Go.WideShapes Go.ChangeAt Go.RowKit Go.Joins

theorem cellsByte : Try.prog.cellsOf 5 = 1 := by kernel_rfl

theorem u8_of {v : Int} (h : (Lit.int .u8 v).wf = true) : 0 ≤ v ∧ v ≤ 255 := by
  have h1 : IntKind.u8.min = 0 := by decide
  have h2 : IntKind.u8.max = 255 := by decide
  simp [Lit.wf] at h
  omega

/-- A code that came in, opened. -/
theorem open_code {H : Type} {enc : TypeId × Value → H} {P : Program} {w : World} {spare : Nat → Bool} {held : Bool} {tS tE : TypeId} (hS : P.underlying tS = some (.slice tE)) (hE : P.underlying tE = some (.int .u8)) (hC : P.cellsOf tE = 1)
    {v : Value} {d : DataW H} {p : List MemPlace} (hv : ∃ a n c, v = .slice a n c) (h : DataW.Trod enc P w 0 spare held tS v d p) : ∃ a n c, v = .slice a n c ∧ CodeAt w a n c := by
  obtain ⟨a, n, c, rfl⟩ := hv
  obtain ⟨fuel, hf⟩ := h
  rcases open_ints hS hE hC hf with ⟨hcs, _⟩ | ⟨a', len', cap', zs, hcs, _, hl, hm, hz, _, hcell, hwz⟩
  · simp [Value.cells] at hcs
    obtain ⟨rfl, rfl, rfl⟩ := hcs
    exact ⟨none, 0, 0, rfl, by simp [CodeAt]⟩
  · simp [Value.cells] at hcs
    obtain ⟨rfl, rfl, rfl⟩ := hcs
    have hm' : c ≤ 9223372036854775807 := hm
    have hzl : n ≤ zs.length := by rw [hz]; split <;> omega
    by_cases h0 : n = 0
    · exact ⟨_, _, _, rfl, hl, hm', .inl h0⟩
    obtain ⟨b, o, rfl, hc⟩ := ints_at hcell (by omega)
    have hb : b < w.heap.size := cell_lt (by simpa using hc 0 (by omega))
    refine ⟨_, _, _, rfl, hl, hm', .inr ⟨b, o, rfl, hb, fun i hi => ?_⟩⟩
    have hw := u8_of (hwz (zs.getD i 0) (by rw [List.getD_eq_getElem?_getD, List.getElem?_eq_getElem (by omega)]; simp))
    exact ⟨zs.getD i 0, hw.1, hw.2, hc i (by omega)⟩

end Go.Proofs.Ytochgmbeomfkpaa
