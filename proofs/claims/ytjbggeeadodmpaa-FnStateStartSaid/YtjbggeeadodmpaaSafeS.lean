/- spec.l3May, spec.SheetSafe -/
import Derived.Test.YtjbggeeadodmpaaShG
import Derived.Test.YtjbggeeadodmpaaBs2
import Derived.Test.YtjbggeeadodmpaaKeyM
namespace Go.Proofs.Ytjbggeeadodmpaa
open Go.RowKit

/-- The made keys of a sheet that a key may fetch. -/
def l3p (s : Sh) (j : Int) : Bool := decide (j < s.m.length) && s.mdI j
def l3L (s : Sh) (k : Nat) : List Int := (mayI (s.tk k) 10).filter (l3p s)
def L3Post (s : Sh) (k : Nat) (w : World) (e : Ending) (w' : World) : Prop := ∃ v, e = .returned v ∧ NumRow w' w.heap.size v (l3L s k) ∧ Below w.heap.size w w'

theorem filter_snoc (p : Int → Bool) (l : List Int) (i : Nat) (h : i < l.length) : (l.take (i + 1)).filter p = (l.take i).filter p ++ (if p l[i] = true then [l[i]] else []) := by
  rw [List.take_succ_eq_append_getElem h, List.filter_append]
  congr 1
  by_cases hp : p l[i] = true
  · rw [if_pos hp]; simp [hp]
  · rw [if_neg hp]; simp [hp]

/-- A block with n truths, told by a function. -/
def TruN (w : World) (g n : Nat) (D : Nat → Bool) : Prop := ∃ cs : Array Value, Blk w g 4 cs ∧ cs.size = n ∧ ∀ i, i < n → cs[i]? = some (.bool (D i))
section
variable {w w' : World} {g n : Nat} {D : Nat → Bool}
theorem TruN.lt (h : TruN w g n D) : g < w.heap.size := by obtain ⟨_, h, _⟩ := h; exact h.lt
theorem TruN.below (h : TruN w g n D) (hb : Below w.heap.size w w') : TruN w' g n D := by obtain ⟨cs, h1, h2⟩ := h; exact ⟨cs, h1.below hb h1.lt, h2⟩
theorem TruN.cell (h : TruN w g n D) {i : Nat} (hi : i < n) : w.cell? ⟨g, i, none⟩ = some (.bool (D i)) ∧ w.frozen? ⟨g, i, none⟩ = false := by
  obtain ⟨cs, h1, h2, h3⟩ := h
  exact ⟨(h1.cell i).trans (h3 i hi), h1.frozen i⟩
theorem TruN.set_ (h : TruN w g n D) (j : Nat) (b : Bool) : TruN (w.setCell ⟨g, j, none⟩ (.bool b)) g n (fun i => if i = j then b else D i) := by
  obtain ⟨cs, h1, h2, h3⟩ := h
  refine ⟨_, h1.set_ j (.bool b), by simp [h2], fun i hi => ?_⟩
  rw [Array.getElem?_setIfInBounds]
  by_cases hij : j = i
  · subst hij
    rw [if_pos rfl, if_pos (by omega)]; simp
  · rw [if_neg hij, h3 i hi]
    show _ = some (Value.bool (if i = j then b else D i))
    rw [if_neg (by omega)]
end
theorem truN_made (w : World) (n : Nat) : TruN (w.alloc (.cells (madeCells #[.bool false] n) 4)) w.heap.size n (fun _ => false) :=
  ⟨_, heap_alloc_new w _, by rw [size_madeCells], fun i hi => by rw [← Array.getElem?_toList, toList_madeCells_one, List.getElem?_replicate, if_pos hi]⟩

/-- Behind so many stages. -/
def sst (s : Sh) : Nat → Nat → Bool
  | 0, _ => false
  | r + 1, k => gst (chM s) (fun k => !s.mdI k) r (k : Int)
theorem sst_succ {s : Sh} {r k : Nat} (h : sst s r k = true) : sst s (r + 1) k = true := by
  cases r with
  | zero => cases h
  | succ r => exact gst_succ _ _ h
theorem l3_all {s : Sh} {k : Nat} {P : Int → Prop} (h : ∀ j ∈ l3L s k, P j) (hf : ∀ j, s.mdI j = false → P j) : ∀ j ∈ chM s (k : Int), P j := fun j hj => by
  cases hm : s.mdI j
  · exact hf j hm
  · refine h j ?_
    unfold l3L
    rw [List.mem_filter]
    have := mdI_bd hm
    refine ⟨hj, ?_⟩
    unfold l3p
    rw [hm, decide_eq_true this.2]; rfl
theorem l3_mem {s : Sh} {k : Nat} {j : Int} (h : j ∈ l3L s k) : j ∈ chM s (k : Int) ∧ 0 ≤ j ∧ j < s.m.length := by
  unfold l3L at h
  rw [List.mem_filter] at h
  unfold l3p at h
  rw [Bool.and_eq_true, decide_eq_true_eq] at h
  exact ⟨h.1, (mdI_bd h.2.2)⟩

/-- What holds of the truths in round r, up to key k. -/
def SRel (s : Sh) (r k : Nat) (D : Nat → Bool) : Prop := (∀ i, i < s.m.length → D i = true → okM s (i : Int) = true) ∧ (∀ i, i < s.m.length → sst s r i = true → D i = true) ∧ (∀ i, i < k → i < s.m.length → sst s (r + 1) i = true → D i = true)

theorem SRel.next {s : Sh} {r : Nat} {D : Nat → Bool} (h : SRel s r s.m.length D) : SRel s (r + 1) 0 D := ⟨h.1, fun i hi hs => h.2.2 i hi hi hs, fun i hi _ _ => by omega⟩
theorem l3_free {s : Sh} {k : Nat} (hok : s.ok = true) (hk : k < s.m.length) (hm : s.mdI (k : Int) = false) : l3L s k = [] := by
  have h := (Sh.ok_iff.1 hok).2.2 k hk
  rw [mdI_nat] at hm
  unfold Sh.kok kOk at h
  rw [hm, if_neg (by decide)] at h
  unfold l3L
  rw [zt_eq h]
  rfl
theorem SRel.start (s : Sh) : SRel s 0 0 (fun _ => false) := by
  refine ⟨fun i _ h => ?_, fun i _ h => ?_, fun i h _ _ => absurd h (Nat.not_lt_zero _)⟩
  · simp at h
  · simp [sst] at h
theorem SRel.step {s : Sh} {r k : Nat} {D : Nat → Bool} (hok : s.ok = true) (hkn : k < s.m.length) (h : SRel s r k D) (b : Bool) (hb : b = (l3L s k).all fun j => D j.toNat) : SRel s r (k + 1) (fun i => if i = k then b else D i) := by
  obtain ⟨h1, h2, h3⟩ := h
  have hall : b = true → ∀ j ∈ l3L s k, D j.toNat = true := fun hbt j hj => by
    rw [hb, List.all_eq_true] at hbt
    exact hbt j hj
  have hsound : b = true → okM s (k : Int) = true := fun hbt => (gr_M s).up (k : Int) (l3_all (P := fun j => okM s j = true) (fun j hj => by
    obtain ⟨_, j0, j1⟩ := l3_mem hj
    have := h1 j.toNat (by omega) (hall hbt j hj)
    rwa [show ((j.toNat : Nat) : Int) = j by omega] at this) (fun j hm => (gr_M s).d0ok j (by simp only [hm]; rfl)))
  have hcomp : sst s (r + 1) k = true → b = true := fun hs => by
    rw [hb, List.all_eq_true]
    intro j hj
    obtain ⟨hjc, j0, j1⟩ := l3_mem hj
    refine h2 j.toNat (by omega) ?_
    cases r with
    | zero =>
      exfalso
      have hmk : s.mdI (k : Int) = false := by simpa [sst, gst] using hs
      rw [l3_free hok hkn hmk] at hj
      cases hj
    | succ r =>
      have hs2 : gst (chM s) (fun k => !s.mdI k) (r + 1) (k : Int) = true := hs
      rw [gst, Bool.or_eq_true, List.all_eq_true] at hs2
      show gst (chM s) (fun k => !s.mdI k) r ((j.toNat : Nat) : Int) = true
      rw [show ((j.toNat : Nat) : Int) = j by omega]
      rcases hs2 with hs2 | hs2
      · exfalso
        have hmk : s.mdI (k : Int) = false := by simpa using hs2
        rw [l3_free hok hkn hmk] at hj
        cases hj
      · exact hs2 j hjc
  refine ⟨fun i hi hD => ?_, fun i hi hs => ?_, fun i hik hi hs => ?_⟩
  · by_cases hk : i = k
    · subst hk
      have hD2 : (if i = i then b else D i) = true := hD
      rw [if_pos rfl] at hD2
      exact hsound hD2
    · have hD2 : (if i = k then b else D i) = true := hD
      rw [if_neg hk] at hD2
      exact h1 i hi hD2
  · by_cases hk : i = k
    · subst hk
      show (if i = i then b else D i) = true
      rw [if_pos rfl]
      exact hcomp (sst_succ hs)
    · show (if i = k then b else D i) = true
      rw [if_neg hk]
      exact h2 i hi hs
  · by_cases hk : i = k
    · subst hk
      show (if i = i then b else D i) = true
      rw [if_pos rfl]
      exact hcomp hs
    · show (if i = k then b else D i) = true
      rw [if_neg hk]
      exact h3 i (by omega) hi hs

noncomputable def safeB (s : Sh) : Bool := s.ok && (List.range s.m.length).all fun (i : Nat) => okM s (i : Int)
theorem SRel.last {s : Sh} {D : Nat → Bool} (h : SRel s (s.m.length + 1) 0 D) {i : Nat} (hi : i < s.m.length) : D i = okM s (i : Int) := by
  cases ho : okM s (i : Int)
  · cases hd : D i
    · rfl
    · rw [h.1 i hi hd] at ho; cases ho
  · exact h.2.1 i hi (gst_all _ _ s.m.length (fun _ hk => mdI_bd (by simpa using hk)) ho)

end Go.Proofs.Ytjbggeeadodmpaa
