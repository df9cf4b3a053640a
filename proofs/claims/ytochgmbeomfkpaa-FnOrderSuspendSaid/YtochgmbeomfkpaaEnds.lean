/- what is taken from a queue of keys, one by one: plain words, no program -/
import Derived.Test.YtochgmbeomfkpaaBs0
namespace Go.Proofs.Ytochgmbeomfkpaa

/-- From the queue q on, d being done, all is done in m steps, and o is told: em k x where k is tried and lacks x. -/
inductive Ends (em : Int → Option Int → List Int) (ch : Int → List Int) : (Int → Bool) → List Int → List Int → Nat → Prop
  | nil (d : Int → Bool) : Ends em ch d [] [] 0
  | skip {d : Int → Bool} {k : Int} {q o : List Int} {m : Nat} : d k = true → Ends em ch d q o m → Ends em ch d (k :: q) o (m + 1)
  | fin {d : Int → Bool} {k : Int} {q o : List Int} {m : Nat} : d k = false → nxt ch d k = none → Ends em ch (upd d k) q o m → Ends em ch d (k :: q) (em k none ++ o) (m + 1)
  | more {d : Int → Bool} {k j : Int} {q o : List Int} {m : Nat} : d k = false → nxt ch d k = some j → Ends em ch d (j :: k :: q) o m → Ends em ch d (k :: q) (em k (some j) ++ o) (m + 1)

section
variable {em : Int → Option Int → List Int} {ch : Int → List Int} {d : Int → Bool} {q o : List Int} {m : Nat}

theorem Ends.det (h : Ends em ch d q o m) : ∀ {o' : List Int} {m' : Nat}, Ends em ch d q o' m' → o = o' ∧ m = m' := by
  induction h with
  | nil d => intro o' m' h'; cases h'; exact ⟨rfl, rfl⟩
  | skip hk _ ih =>
    intro o' m' h'
    cases h' with
    | skip _ h2 => obtain ⟨rfl, rfl⟩ := ih h2; exact ⟨rfl, rfl⟩
    | fin h2 _ _ => rw [hk] at h2; cases h2
    | more h2 _ _ => rw [hk] at h2; cases h2
  | fin hk hn _ ih =>
    intro o' m' h'
    cases h' with
    | skip h2 _ => rw [hk] at h2; cases h2
    | fin _ _ h2 => obtain ⟨rfl, rfl⟩ := ih h2; exact ⟨rfl, rfl⟩
    | more _ h2 _ => rw [hn] at h2; cases h2
  | more hk hn _ ih =>
    intro o' m' h'
    cases h' with
    | skip h2 _ => rw [hk] at h2; cases h2
    | fin _ h2 _ => rw [hn] at h2; cases h2
    | more _ h2 h3 =>
      rw [hn] at h2
      injection h2 with h2
      subst h2
      obtain ⟨rfl, rfl⟩ := ih h3
      exact ⟨rfl, rfl⟩

/-- A key is done ahead of the rest of a queue: X is told by it, and d' is done behind it. -/
def Visit (em : Int → Option Int → List Int) (ch : Int → List Int) (d : Int → Bool) (k : Int) (X : List Int) (d' : Int → Bool) : Prop :=
  ∀ q o m, Ends em ch d' q o m → ∃ m', Ends em ch d (k :: q) (X ++ o) m'

theorem Visit.done {k : Int} (h : d k = true) : Visit em ch d k [] d := fun _ _ _ he => ⟨_, .skip h he⟩

/-- The waiting list W, its last key first, is what is ahead of the queue; X was told so far. -/
def Sim (em : Int → Option Int → List Int) (ch : Int → List Int) (d : Int → Bool) (first : Int) (X : List Int) (d' : Int → Bool) (W : List Int) : Prop :=
  ∀ q o m, Ends em ch d' (W.reverse ++ q) o m → ∃ m', Ends em ch d (first :: q) (X ++ o) m'
theorem Sim.start {first : Int} : Sim em ch d first [] d [first] := fun q o m h => ⟨m, by simpa using h⟩
theorem Sim.nil {first : Int} {X : List Int} {d' : Int → Bool} (h : Sim em ch d first X d' []) : Visit em ch d first X d' := fun q o m he => h q o m (by simpa using he)
theorem Sim.push {first j : Int} {X W : List Int} {d' : Int → Bool} {m : Nat} (h : Sim em ch d first X d' W) (hm : W.length = m + 1) (hk : d' W[m] = false) (hx : nxt ch d' W[m] = some j) : Sim em ch d first (X ++ em W[m] (some j)) d' (W ++ [j]) := fun q o m1 he => by
  have e : W.reverse = W[m] :: (W.take m).reverse := by
    have := congrArg List.reverse (snoc_last hm)
    rwa [List.reverse_append, List.reverse_singleton] at this
  rw [List.reverse_append, List.reverse_singleton, e] at he
  have := h q (em W[m] (some j) ++ o) (m1 + 1) (by rw [e]; exact .more hk hx he)
  rwa [← List.append_assoc] at this
theorem Sim.pop {first : Int} {X W : List Int} {d' : Int → Bool} {m : Nat} (h : Sim em ch d first X d' W) (hm : W.length = m + 1) (hk : d' W[m] = false) (hx : nxt ch d' W[m] = none) : Sim em ch d first (X ++ em W[m] none) (upd d' W[m]) (W.take m) := fun q o m1 he => by
  have e : W.reverse = W[m] :: (W.take m).reverse := by
    have := congrArg List.reverse (snoc_last hm)
    rwa [List.reverse_append, List.reverse_singleton] at this
  have := h q (em W[m] none ++ o) (m1 + 1) (by rw [e]; exact .fin hk hx he)
  rwa [← List.append_assoc] at this
end
end Go.Proofs.Ytochgmbeomfkpaa
