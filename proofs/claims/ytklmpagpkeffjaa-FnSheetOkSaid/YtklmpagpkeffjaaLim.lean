/- a task in memory, its blocks being old -/
import Derived.Test.YtklmpagpkeffjaaTree
namespace Go.Proofs.Ytklmpagpkeffjaa
open Go.RowKit

mutual
theorem AtC.lim {w : World} {S : Nat → Prop} : ∀ (t : T) (b o : Nat), AtC w S t b o → AtC w (fun b => S b ∧ b < w.heap.size) t b o
  | .mk k n ps, b, o, h => by
    simp only [AtC] at h ⊢
    obtain ⟨hk1, hn1, c0, c1, a, c, c2, hc, hc', hp⟩ := h
    refine ⟨hk1, hn1, c0, c1, a, c, c2, hc, hc', ?_⟩
    rcases hp with hp | ⟨b', o', ha, hSb, hl⟩
    · exact .inl hp
    · cases ps with
      | nil => exact .inl rfl
      | cons t r => exact .inr ⟨b', o', ha, ⟨hSb, cell_lt (AtC.cells0 hl.1)⟩, AtL.lim (t :: r) b' o' hl⟩
theorem AtL.lim {w : World} {S : Nat → Prop} : ∀ (ps : List T) (b o : Nat), AtL w S ps b o → AtL w (fun b => S b ∧ b < w.heap.size) ps b o
  | [], _, _, _ => by simp [AtL]
  | t :: r, b, o, h => by
    simp only [AtL] at h ⊢
    exact ⟨AtC.lim t b o h.1, AtL.lim r b (o + 3) h.2⟩
end
theorem AtS.lim {w : World} {S : Nat → Prop} {ps : List T} {a : Option Addr} {c : Nat} (h : AtS w S ps a c) : AtS w (fun b => S b ∧ b < w.heap.size) ps a c := by
  obtain ⟨h1, h2, h3⟩ := h
  refine ⟨h1, h2, ?_⟩
  rcases h3 with h3 | ⟨b, o, ha, hSb, hl⟩
  · exact .inl h3
  · cases ps with
    | nil => exact .inl rfl
    | cons t r => exact .inr ⟨b, o, ha, ⟨hSb, cell_lt (AtC.cells0 hl.1)⟩, AtL.lim _ b o hl⟩

end Go.Proofs.Ytklmpagpkeffjaa
