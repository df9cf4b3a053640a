/- (*keyNode).try and what it hands to reckon -/
import Derived.Test.YthjfmpeicjmlkaaSettle
import Derived.Test.YthjfmpeicjmlkaaBs1
import Derived.Test.YthjfmpeicjmlkaaBs2
import Derived.Shelf.Abstract
namespace Go.Proofs.Ythjfmpeicjmlkaa
open Go.RowKit

/-- A key that is not done, or not looked at. -/
def tp (s : Sh) (n i : Nat) (d : Int → Bool) (k : Int) : Bool := (s.tk i).may k && decide (k < n) && !d k
/-- What the task of key i is given for a key. -/
def tv (s : Sh) (n i : Nat) (v : Int → Int) (k : Int) : Int := if ((s.tk i).may k && decide (k < n)) = true then v k else 0
def msv (g : Nat) (o : Option Int) : Value := match o with
  | some j => ndP g j
  | none => .pointer none

theorem Blk.one {w : World} {g : Nat} {t : TypeId} {x : Value} (h : Blk w g t #[x]) : w.cell? ⟨g, 0, none⟩ = some x ∧ w.frozen? ⟨g, 0, none⟩ = false := ⟨h.cell 0, h.frozen 0⟩

theorem find_congr {p q : Int → Bool} : ∀ {l : List Int}, (∀ x ∈ l, p x = q x) → l.find? p = l.find? q
  | [], _ => rfl
  | x :: r, h => by
    rw [List.find?_cons, List.find?_cons, h x (by simp), find_congr (l := r) (fun y hy => h y (by simp [hy]))]
theorem Sh.tk_ok {s : Sh} (h : s.ok = true) (i : Nat) : (s.tk i).ok = true := by
  by_cases hi : i < s.t.length
  · have e : s.tk i = s.t[i] := getD_len hi
    rw [e]
    obtain ⟨_, h2, h3⟩ := Sh.ok_iff.1 h
    have hk := h3 i (by omega)
    unfold Sh.kok kOk at hk
    rw [e] at hk
    split at hk
    · exact hk
    · exact zt_ok hk
  · have e : s.tk i = .mk 0 0 [] := by unfold Sh.tk; rw [List.getD_eq_getElem?_getD, List.getElem?_eq_none (by omega)]; rfl
    rw [e]; rfl
theorem Sh.tk_fit {s : Sh} (h : s.ok = true) (i : Nat) : (s.tk i).fit = true ∧ (s.tk i).nodes ≤ 15 := by
  have := s.tk_ok h i
  simpa [T.ok] using this

/-- What the closure of a try gives is what the values of keys give, up to the first key that is not done. -/
theorem try_keys {s : Sh} {n i : Nat} {d : Int → Bool} {v vs : Int → Int} (hf : (s.tk i).fit = true) (hd : ∀ k, d k = true → k < n → v k = vs k) (hz : ∀ k, (n : Int) ≤ k → vs k = 0 ∧ d k = true) :
    ((s.tk i).kys (tv s n i v)).find? (tp s n i d) = ((s.tk i).kys vs).find? (fun j => !d j) ∧
    (((s.tk i).kys vs).find? (fun j => !d j) = none → (s.tk i).val (tv s n i v) = (s.tk i).val vs) := by
  have hm1 := kys_may (tv s n i v) (s.tk i) hf
  have hm2 := kys_may vs (s.tk i) hf
  obtain ⟨h1, h2⟩ := pre_keys (fun k => d k && (s.tk i).may k) vs (tv s n i v) (fun k hk => by
    rw [Bool.and_eq_true] at hk
    unfold tv
    by_cases hkn : k < n
    · rw [hk.2, decide_eq_true hkn, if_pos (by decide)]; exact hd k hk.1 hkn
    · rw [decide_eq_false hkn, Bool.and_false, if_neg (by decide)]; exact (hz k (by omega)).1.symm) (s.tk i) hf
  have e1 : ((s.tk i).kys (tv s n i v)).find? (tp s n i d) = ((s.tk i).kys (tv s n i v)).find? (fun j => !(d j && (s.tk i).may j)) := by
    refine find_congr fun k hk => ?_
    unfold tp
    rw [hm1 k hk]
    by_cases hkn : k < n
    · rw [decide_eq_true hkn]; simp
    · rw [(hz k (by omega)).2, decide_eq_false hkn]; rfl
  have e2 : ((s.tk i).kys vs).find? (fun j => !(d j && (s.tk i).may j)) = ((s.tk i).kys vs).find? (fun j => !d j) := by
    refine find_congr fun k hk => ?_
    rw [hm2 k hk, Bool.and_true]
  refine ⟨by rw [e1, h1, e2], fun hno => ?_⟩
  refine (h2 fun k hk => ?_).1
  have := List.find?_eq_none.1 hno k hk
  rw [hm2 k hk, Bool.and_true]
  simpa using this

end Go.Proofs.Ythjfmpeicjmlkaa
