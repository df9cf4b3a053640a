/- honest traces: plain words -/
import Derived.Test.YtjbggeeadodmpaaTrK
import Derived.Test.YtjbggeeadodmpaaShG
namespace Go.Proofs.Ytjbggeeadodmpaa

theorem trEq_comm (a b : Tr) : trEq a b = trEq b a := by
  rw [Bool.eq_iff_iff, trEq_iff, trEq_iff]; exact eq_comm
/-- A trace is that of a task with values of keys as it used them. -/
def isTr (t : Tr) (x : T) : Bool := trEq t (trOf t.k x (vf (backF t.u)))
/-- It is honest. -/
def honT (s : Sh) (t : Tr) : Bool := s.mdI t.k && isTr t (s.tkI t.k)
def honest (s : Sh) (l : List Tr) : Bool := (s.ok && trsOk l) && l.all (honT s)
theorem trsOk_mem {l : List Tr} (h : trsOk l = true) : l.length ≤ 60 ∧ ∀ t ∈ l, t.ok = true := by
  unfold trsOk at h
  rw [Bool.and_eq_true, decide_eq_true_eq, List.all_eq_true] at h
  exact h
theorem Tr.ok_u {t : Tr} (h : t.ok = true) : ∀ p ∈ t.u, (0 ≤ p.1 ∧ p.1 ≤ 9) ∧ (0 ≤ p.2 ∧ p.2 ≤ 96) := ((Tr.ok_iff t).1 h).2.2.1
theorem Tr.ok_k {t : Tr} (h : t.ok = true) : 0 ≤ t.k ∧ t.k ≤ 9 := ((Tr.ok_iff t).1 h).1
theorem made_ok {s : Sh} (h : s.ok = true) {k : Nat} (hm : s.mdI (k : Int) = true) : k < s.m.length ∧ k < s.t.length ∧ (s.tk k).ok = true := by
  have hb := mdI_bd hm
  have hk : k < s.m.length := by omega
  obtain ⟨_, h2, h3⟩ := Sh.ok_iff.1 h
  refine ⟨hk, by omega, ?_⟩
  have h4 := h3 k hk
  unfold Sh.kok kOk at h4
  rw [mdI_nat] at hm
  rw [if_pos hm] at h4
  exact h4
theorem tkI_nat (s : Sh) (k : Nat) : s.tkI (k : Int) = s.tk k := rfl
end Go.Proofs.Ytjbggeeadodmpaa
