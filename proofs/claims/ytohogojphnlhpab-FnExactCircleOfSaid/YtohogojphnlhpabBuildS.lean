/- spec.BuildKey, spec.CircleOf -/
import Derived.Test.YtohogojphnlhpabKeyM
import Derived.Test.YtohogojphnlhpabBuildI
namespace Go.Proofs.Ytohogojphnlhpab
open Go.RowKit

section
variable {S S' : Nat → Prop} {s : Sh} {l : List Int} {q : Nat} {a : Option Addr} {c : Nat} {a' : Option Addr} {c' : Nat} {ai : Option Addr} {ci : Nat}
theorem key_all : ∀ r, KeyT S S' s l q a c a' c' ai ci r
  | 0 => fun uv cv U k w hr hp => by
    have := hp.undL
    omega
  | r + 1 => fun uv cv U k w hr hp => by
    by_cases hk : (s.m.length : Int) ≤ k
    · exact key_far hp hk
    cases hm : s.mdI k
    · exact key_in hp (by omega) hm
    by_cases hU : k ∈ U
    · exact key_circ hp hm hU
    obtain ⟨kn, rfl⟩ : ∃ kn : Nat, k = kn := ⟨k.toNat, by have := hp.k0; omega⟩
    exact key_main (key_all r) (by omega) hp hm hU
end

/-- What building a key from nothing leaves, the builder in block q. -/
theorem key_top {s : Sh} {l : List Int} {w : World} {S S' : Nat → Prop} {a : Option Addr} {c : Nat} {a' : Option Addr} {c' : Nat} {ai : Option Addr} {ci : Nat} (q : Nat) (hin : inOk s l = true) (hs : ShAt w S s a c a' c') (hl : IntsAt w S' l ai ci) (hS : ∀ b, S b → b < q) (hS' : ∀ b, S' b → b < q)
    (hbd : BdAt w q s l a c a' c' ai ci (.slice none 0 0) (.slice none 0 0)) (k : Int) (h0 : 0 ≤ k) (h9 : k ≤ 9) :
    Calls Try.prog 24 #[.pointer (some ⟨q, 0, none⟩), .int .i64 k] w (KeyPost s l q a c a' c' ai ci (.slice none 0 0) (.slice none 0 0) [] k w) :=
  key_all (s.m.length + 1) (.slice none 0 0) (.slice none 0 0) [] k w (by simp) ⟨hin, hs, hl, hS, hS', hbd, World.ownsRow_nil _ _ _ _, h0, h9, Hyp.nil, by simp⟩

theorem specBuildKey_pre {s : Sh} {l : List Int} {key : Int} (h : (inOk s l && decide (0 ≤ key ∧ key < s.m.length)) = false) : bkOk s l key = false := by
  unfold bkOk
  rw [← Bool.and_assoc, h]; rfl

end Go.Proofs.Ytohogojphnlhpab
