/- spec.l3Build.key: a key that is made, and not under way -/
import Derived.Test.YtochgmbeomfkpaaKeyS
namespace Go.Proofs.Ytochgmbeomfkpaa
open Go.RowKit

section
variable {S S' : Nat → Prop} {s : Sh} {l : List Int} {q : Nat} {a : Option Addr} {c : Nat} {a' : Option Addr} {c' : Nat} {ai : Option Addr} {ci : Nat} {uv cv : Value} {U : List Int} {w : World}

theorem find_at {ok : Int → Bool} {K : List Int} {m : Nat} {y : Int} (h : ∀ j ∈ K.take m, ok j = true) (hy : K[m]? = some y) (hn : ok y = false) : K.find? (fun j => !ok j) = some y := by
  obtain ⟨hlt, hyy⟩ := List.getElem?_eq_some_iff.1 hy
  have e : K.take m ++ K.drop m = K := List.take_append_drop m K
  rw [← e, List.find?_append, List.find?_eq_none.2 (fun j hj => by simp [h j hj]), Option.none_or, List.drop_eq_getElem_cons hlt, List.find?_cons, hyy]
  simp [hn]

theorem fr_grown {w1 w2 : World} {row : Option Nat} (h : w1.grownBy w2 row) : Fr (fun b => row = some b) w1 w2 := ⟨h.os, h.tape, h.output, h.size, fun b hb hn => h.block b hb (fun e => hn e.symm)⟩

end
end Go.Proofs.Ytochgmbeomfkpaa
