/- (*keyNode).settle -/
import Derived.Test.YthjfmpeicjmlkaaNds
namespace Go.Proofs.Ythjfmpeicjmlkaa
open Go.RowKit

/-- What the task of a key may fetch. -/
def chM (s : Sh) : Int → List Int := fun k => mayI (s.tk k.toNat) 10
theorem mayI_split (t : T) (k : Nat) : ∀ e, ∃ r, mayI t (k + e) = mayI t k ++ r
  | 0 => ⟨[], by simp⟩
  | e + 1 => by
    obtain ⟨r, hr⟩ := mayI_split t k e
    cases hm : t.may ((k + e : Nat) : Int)
    · exact ⟨r, by rw [← Nat.add_assoc, mayI_no hm, hr]⟩
    · exact ⟨r ++ [((k + e : Nat) : Int)], by rw [← Nat.add_assoc, mayI_yes hm, hr, List.append_assoc]⟩
theorem find_hit {t : T} {d : Int → Bool} {k : Nat} (hk : k < 10) (h : (mayI t k).find? (fun j => !d j) = none) (hm : t.may (k : Int) = true) (hd : d k = false) : (mayI t 10).find? (fun j => !d j) = some (k : Int) := by
  obtain ⟨r, hr⟩ := mayI_split t (k + 1) (10 - (k + 1))
  rw [show k + 1 + (10 - (k + 1)) = 10 by omega] at hr
  rw [hr, mayI_yes hm, List.find?_append, List.find?_append, h]
  simp [hd]
theorem find_more {t : T} {d : Int → Bool} {k : Nat} (h : (mayI t k).find? (fun j => !d j) = none) (hd : t.may (k : Int) = true → d k = true) : (mayI t (k + 1)).find? (fun j => !d j) = none := by
  cases hm : t.may (k : Int)
  · rw [mayI_no hm]; exact h
  · rw [mayI_yes hm, List.find?_append, h]
    simp [hd hm]

end Go.Proofs.Ythjfmpeicjmlkaa
