/- an order that fits: what is asked of each of its keys; plain words, no program -/
import Derived.Test.YtochgmbeomfkpaaOrdP
import Derived.Test.YtochgmbeomfkpaaBnds
namespace Go.Proofs.Ytochgmbeomfkpaa
open Go.RowKit

/-- What is asked of the key k behind the keys pre. -/
def ofOne (s : Sh) (vs : Int → Int) (pre : List Int) (k : Int) : Bool := s.mdI k && (!decide (k ∈ pre) && ((usesL ((s.tkI k).kys vs)).filter s.mdI).all (fun u => decide (u ∈ pre)))
def ofTo (s : Sh) (vs : Int → Int) (o : List Int) (n : Nat) : Bool := (List.range n).all fun i => ofOne s vs (o.take i) (o.getD i 0)
noncomputable def ofB (s : Sh) (l o : List Int) : Bool := baB s l && ofTo s (vf (baL s l)) o o.length

theorem ofTo_zero (s : Sh) (vs : Int → Int) (o : List Int) : ofTo s vs o 0 = true := rfl
theorem ofTo_succ (s : Sh) (vs : Int → Int) (o : List Int) {k : Nat} (hk : k < o.length) : ofTo s vs o (k + 1) = (ofTo s vs o k && ofOne s vs (o.take k) o[k]) := by
  unfold ofTo
  rw [List.range_succ, List.all_append, List.all_cons, List.all_nil, Bool.and_true, List.getD_eq_getElem?_getD, List.getElem?_eq_getElem hk]
  rfl
theorem ofTo_false {s : Sh} {vs : Int → Int} {o : List Int} {k n : Nat} (h : k < n) (hn : n ≤ o.length) (ho : ofOne s vs (o.take k) (o[k]'(by omega)) = false) : ofTo s vs o n = false := by
  cases hx : ofTo s vs o n
  · rfl
  · unfold ofTo at hx
    rw [List.all_eq_true] at hx
    have := hx k (List.mem_range.2 h)
    rw [List.getD_eq_getElem?_getD, List.getElem?_eq_getElem (by omega)] at this
    simp only [Option.getD_some] at this
    rw [ho] at this
    cases this

theorem ok_of_ba {s : Sh} {l : List Int} (h : baB s l = true) : s.ok = true := by
  unfold baB at h
  rw [Bool.and_eq_true] at h
  exact (inOk_of h.1).1
theorem tkI_ok {s : Sh} {l : List Int} (h : baB s l = true) (k : Int) : ((s.tkI k).ok && vok (baL s l)) = true := by
  obtain ⟨h1, h2⟩ := Sh.tk_fit (ok_of_ba h) k.toNat
  have h3 := baL_bd s l
  rw [Bool.and_eq_true]
  refine ⟨by unfold Sh.tkI; simp [T.ok]; exact ⟨h1, h2⟩, ?_⟩
  unfold vok
  rw [Bool.and_eq_true, decide_eq_true_eq, List.all_eq_true]
  refine ⟨h3.2, fun x hx => ?_⟩
  have := h3.1 x hx
  simp [vin]
  omega
/-- Keys of an order that fits are keys. -/
theorem ofTo_hk {s : Sh} {vs : Int → Int} {o : List Int} (h : ofTo s vs o o.length = true) : hkB s o = true := by
  unfold hkB
  rw [List.all_eq_true]
  intro x hx
  obtain ⟨i, hi, rfl⟩ := List.getElem_of_mem hx
  rw [decide_eq_true_eq]
  refine mdI_bd ?_
  cases hm : s.mdI o[i]
  · have : ofTo s vs o o.length = false := ofTo_false hi (Nat.le_refl _) (by unfold ofOne; rw [hm]; rfl)
    rw [h] at this; cases this
  · rfl
end Go.Proofs.Ytochgmbeomfkpaa
