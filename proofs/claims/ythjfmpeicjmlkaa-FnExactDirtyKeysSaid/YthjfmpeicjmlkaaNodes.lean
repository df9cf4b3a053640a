/- impl.sheetNodes -/
import Derived.Test.YthjfmpeicjmlkaaTry
import Derived.Test.YthjfmpeicjmlkaaBs2
namespace Go.Proofs.Ythjfmpeicjmlkaa
open Go.RowKit

/-- Whether a key is made; its value as an input. -/
def Sh.mdI (s : Sh) (k : Int) : Bool := decide (0 ≤ k) && s.md k.toNat
theorem mdI_nat (s : Sh) (k : Nat) : s.mdI (k : Int) = s.md k := by unfold Sh.mdI; simp

/-- What stands in the nodes while they are linked: those below i are done, of i the first q. -/
def mq (s : Sh) (g n i q : Nat) : Nat → Nat → Value := fun i' j => if i' < i then mpv s g n i' j else if i' = i ∧ (j : Int) ∈ (mayI (s.tk i) 10).take q ∧ j < n then ndP g (j : Int) else .pointer none

theorem mq_zero (s : Sh) (g n : Nat) : mq s g n 0 0 = fun _ _ => .pointer none := by
  funext i' j
  unfold mq
  simp
theorem mq_next {s : Sh} {g n i q : Nat} (hq : (mayI (s.tk i) 10).length ≤ q) : ∀ i' j : Nat, j < 10 → mq s g n i q i' j = mq s g n (i + 1) 0 i' j := by
  intro i' j hj
  unfold mq
  rw [List.take_of_length_le hq]
  by_cases h1 : i' < i
  · rw [if_pos h1, if_pos (by omega)]
  · rw [if_neg h1]
    by_cases h2 : i' = i
    · subst h2
      rw [if_pos (show i' < i' + 1 by omega)]
      unfold mpv
      by_cases h3 : (j : Int) ∈ mayI (s.tk i') 10 ∧ j < n
      · rw [if_pos ⟨rfl, h3⟩]
        have := (mayI_mem.1 h3.1).2.2
        rw [this, decide_eq_true h3.2]
        simp [ndP]
      · rw [if_neg (fun h => h3 h.2), if_neg]
        intro hc
        rw [Bool.and_eq_true, decide_eq_true_eq] at hc
        exact h3 ⟨mayI_mem.2 ⟨by omega, by omega, hc.1⟩, hc.2⟩
    · rw [if_neg (fun h => h2 h.1), if_neg (by omega), if_neg]
      rintro ⟨_, h, _⟩
      simp at h
theorem mq_skip {s : Sh} {g n i q : Nat} (hq : q < (mayI (s.tk i) 10).length) (hk : ¬ (mayI (s.tk i) 10)[q] < n) : mq s g n i q = mq s g n i (q + 1) := by
  funext i' j
  unfold mq
  rw [List.take_succ_eq_append_getElem hq]
  have e : ((j : Int) ∈ (mayI (s.tk i) 10).take q ++ [(mayI (s.tk i) 10)[q]] ∧ j < n) ↔ ((j : Int) ∈ (mayI (s.tk i) 10).take q ∧ j < n) := by
    rw [List.mem_append, List.mem_singleton]
    constructor
    · rintro ⟨h | h, hj⟩
      · exact ⟨h, hj⟩
      · exfalso; apply hk; rw [← h]; omega
    · rintro ⟨h, hj⟩; exact ⟨.inl h, hj⟩
  simp only [e]
theorem mq_put {s : Sh} {g n i q kn : Nat} (hq : q < (mayI (s.tk i) 10).length) (hk : (mayI (s.tk i) 10)[q] = (kn : Int)) (hn : kn < n) (i' j : Nat) :
    (if i' = i ∧ j = kn then ndP g (kn : Int) else mq s g n i q i' j) = mq s g n i (q + 1) i' j := by
  unfold mq
  rw [List.take_succ_eq_append_getElem hq, hk]
  by_cases h1 : i' = i ∧ j = kn
  · obtain ⟨rfl, rfl⟩ := h1
    rw [if_pos ⟨rfl, rfl⟩, if_neg (by omega), if_pos ⟨rfl, by simp, hn⟩]
  · rw [if_neg h1]
    by_cases h2 : i' < i
    · rw [if_pos h2, if_pos h2]
    · rw [if_neg h2, if_neg h2]
      have e : (i' = i ∧ (j : Int) ∈ (mayI (s.tk i) 10).take q ++ [(kn : Int)] ∧ j < n) ↔ (i' = i ∧ (j : Int) ∈ (mayI (s.tk i) 10).take q ∧ j < n) := by
        rw [List.mem_append, List.mem_singleton]
        constructor
        · rintro ⟨h, h3 | h3, hj⟩
          · exact ⟨h, h3, hj⟩
          · exact absurd ⟨h, by omega⟩ h1
        · rintro ⟨h, h3, hj⟩; exact ⟨h, .inl h3, hj⟩
      simp only [e]

theorem ndc_set (i : Nat) (t : T) (a : Option Addr) (c : Nat) (m : Nat → Value) (v : Int) (d : Bool) (j : Nat) (hj : j < 10) (x : Value) :
    (ndc i t a c m v d).setIfInBounds (4 + j) x = ndc i t a c (fun q => if q = j then x else m q) v d := by
  match j, hj with
  | 0, _ => rfl
  | 1, _ => rfl
  | 2, _ => rfl
  | 3, _ => rfl
  | 4, _ => rfl
  | 5, _ => rfl
  | 6, _ => rfl
  | 7, _ => rfl
  | 8, _ => rfl
  | 9, _ => rfl
end Go.Proofs.Ythjfmpeicjmlkaa
