/- how many of the first n are marked: plain words -/
import Derived.Test.YtochgmbeomfkpaaBs0
namespace Go.Proofs.Ytochgmbeomfkpaa
def cntN (m : Int → Bool) : Nat → Nat
  | 0 => 0
  | n + 1 => cntN m n + if m (n : Int) = true then 1 else 0
theorem cntN_mono {m m' : Int → Bool} (h : ∀ i, m i = true → m' i = true) : ∀ n, cntN m n ≤ cntN m' n
  | 0 => Nat.le_refl _
  | n + 1 => by
    have := cntN_mono h n
    unfold cntN
    cases hm : m (n : Int)
    · simp; omega
    · rw [h _ hm]; simp; omega
theorem cntN_grow {m m' : Int → Bool} (h : ∀ i, m i = true → m' i = true) {k : Nat} (h0 : m (k : Int) = false) (h1 : m' (k : Int) = true) : ∀ n, k < n → cntN m n + 1 ≤ cntN m' n
  | 0, hk => by omega
  | n + 1, hk => by
    unfold cntN
    by_cases e : k = n
    · subst e
      have := cntN_mono h k
      rw [h0, h1]; simp; omega
    · have := cntN_grow h h0 h1 n (by omega)
      cases hm : m (n : Int)
      · simp; omega
      · rw [h _ hm]; simp; omega
theorem cntN_true : ∀ n, cntN (fun _ => true) n = n
  | 0 => rfl
  | n + 1 => by unfold cntN; rw [cntN_true n]; rfl
theorem cntN_le (m : Int → Bool) (n : Nat) : cntN m n ≤ n := by
  have := cntN_mono (m := m) (m' := fun _ => true) (fun _ _ => rfl) n
  rwa [cntN_true] at this
theorem cntN_all {m : Int → Bool} {n : Nat} (h : n ≤ cntN m n) (k : Nat) (hk : k < n) : m (k : Int) = true := by
  cases hm : m (k : Int)
  · have := cntN_grow (m := m) (m' := fun _ => true) (fun _ _ => rfl) hm rfl n hk
    rw [cntN_true] at this
    omega
  · rfl
end Go.Proofs.Ytochgmbeomfkpaa
