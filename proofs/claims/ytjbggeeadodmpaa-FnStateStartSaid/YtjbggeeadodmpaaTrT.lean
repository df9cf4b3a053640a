/- markTraceS, heldTraceS -/
import Derived.Test.YtjbggeeadodmpaaTrQ
namespace Go.Proofs.Ytjbggeeadodmpaa
open Go.RowKit

theorem ret_num {i j : Nat} (h : i = j) : Ending.returned (.int .i64 (i : Int)) = .returned (.int .i64 (j : Int)) := by rw [h]
/-- A marked trace. -/
def mt (t : Tr) (K : Nat) : Rt := ⟨(K : Int), marks (K + 1) (t.u.length * 2), ((K + 1 + t.u.length * 2 : Nat) : Int)⟩
/-- The marks that the first k take. -/
def mN : List Tr → Nat → Nat
  | [], _ => 0
  | _ :: _, 0 => 0
  | t :: r, k + 1 => t.u.length * 2 + 2 + mN r k
def trM (l : List Tr) : Nat := mN l l.length
/-- Traces of which the first k are marked. -/
def mkK : List Tr → Nat → Nat → List Rt
  | [], _, _ => []
  | t :: r, _, 0 => (t :: r).map Tr.raw
  | t :: r, K, k + 1 => mt t K :: mkK r (K + (t.u.length * 2 + 2)) k
theorem mN_zero : ∀ l, mN l 0 = 0
  | [] => rfl
  | _ :: _ => rfl
theorem mkK_zero : ∀ l K, mkK l K 0 = l.map Tr.raw
  | [], _ => rfl
  | _ :: _, _ => rfl
theorem mkK_len : ∀ l K k, (mkK l K k).length = l.length
  | [], _, _ => rfl
  | t :: r, K, 0 => by simp [mkK]
  | t :: r, K, k + 1 => by simp [mkK, mkK_len r]
theorem mN_succ : ∀ (l : List Tr) (k : Nat) (h : k < l.length), mN l (k + 1) = mN l k + (l[k].u.length * 2 + 2)
  | [], _, h => by simp at h
  | t :: r, 0, _ => by simp [mN, mN_zero]
  | t :: r, k + 1, h => by
    have := mN_succ r k (by simpa using h)
    rw [mN, this]
    simp only [mN, List.getElem_cons_succ]
    omega
theorem mN_le : ∀ (l : List Tr) (k : Nat), mN l k ≤ 2 * trN l
  | [], _ => by simp [mN]
  | t :: r, 0 => by simp [mN]
  | t :: r, k + 1 => by have := mN_le r k; simp only [mN, trN]; omega
theorem mkK_at : ∀ (l : List Tr) (K k : Nat) (h : k < l.length), (mkK l K k)[k]? = some l[k].raw
  | [], _, _, h => by simp at h
  | t :: r, K, 0, _ => by simp [mkK]
  | t :: r, K, k + 1, h => by
    have := mkK_at r (K + (t.u.length * 2 + 2)) k (by simpa using h)
    simp only [mkK, List.getElem?_cons_succ, List.getElem_cons_succ]
    exact this
theorem mkK_set : ∀ (l : List Tr) (K k : Nat) (h : k < l.length), (mkK l K k).set k (mt l[k] (K + mN l k)) = mkK l K (k + 1)
  | [], _, _, h => by simp at h
  | t :: r, K, 0, _ => by simp [mkK, mN, mkK_zero]
  | t :: r, K, k + 1, h => by
    have := mkK_set r (K + (t.u.length * 2 + 2)) k (by simpa using h)
    simp only [mkK, mN, List.set_cons_succ, List.getElem_cons_succ]
    rw [← this]
    congr 3
    omega
theorem mkK_done : ∀ (l : List Tr) (K k j : Nat) (h : k < l.length), k < j → (mkK l K j)[k]? = some (mt l[k] (K + mN l k))
  | [], _, _, _, h, _ => by simp at h
  | t :: r, K, k, 0, _, hj => by omega
  | t :: r, K, 0, j + 1, _, _ => by simp [mkK, mN]
  | t :: r, K, k + 1, j + 1, h, hj => by
    have := mkK_done r (K + (t.u.length * 2 + 2)) k j (by simpa using h) (by omega)
    simp only [mkK, mN, List.getElem?_cons_succ, List.getElem_cons_succ]
    rw [this]
    congr 2
    omega

/-- Traces, all marked, in memory of their own. -/
def TrsMk (w : World) (D : Nat → Prop) (l : List Tr) (K : Nat) (a : Option Addr) (c : Nat) : Prop := ∃ us, TrsOw w 0 (.slice a l.length c) (mkK l K l.length) us ∧ ∀ b, trD (.slice a l.length c) us b → D b
section
variable {w w' : World} {D : Nat → Prop} {l : List Tr} {K : Nat} {a : Option Addr} {c : Nat}
theorem TrsMk.fr {D' : Nat → Prop} (h : TrsMk w D l K a c) (hf : Fr D' w w') (hD : ∀ b, D b → ¬ D' b) : TrsMk w' D l K a c := by
  obtain ⟨us, h1, h2⟩ := h
  exact ⟨us, h1.fr hf (fun b hb => hD b (h2 b hb)), h2⟩
theorem TrsMk.below (h : TrsMk w D l K a c) (hb : Below w.heap.size w w') : TrsMk w' D l K a c := TrsMk.fr (D' := fun _ => False) h (Fr.of_below hb) (fun _ _ hf => hf)
end
def MarkedQO (l : List Tr) (k : Nat) (D : Nat → Prop) (a : Option Addr) (c : Nat) (w : World) (e : Ending) (w' : World) : Prop := e = .returned (.int .i64 ((k + trM l : Nat) : Int)) ∧ Fr D w w' ∧ TrsMk w' D l k a c
def MqRel (l : List Tr) (K : Nat) (D : Nat → Prop) (v : Value) (us : List Value) (w : World) (i q : Value) (wr : World) : Prop := ∃ k : Nat, k ≤ l.length ∧ i = .int .i64 k ∧ q = .int .i64 ((K + mN l k : Nat) : Int) ∧ TrsOw wr 0 v (mkK l K k) us ∧ Fr D w wr


end Go.Proofs.Ytjbggeeadodmpaa
