/- the value of a key from nothing, by stages; the keys that it hangs on: plain words, no program -/
import Derived.Test.YtklmpagpkeffjaaGr
import Derived.Test.YtklmpagpkeffjaaRun
namespace Go.Proofs.Ytklmpagpkeffjaa

/-- Two ways to give values that agree on p: the same first key outside p is fetched; if there is none, all is the same. -/
theorem pre_keys (p : Int → Bool) (vs vs' : Int → Int) (hp : ∀ k, p k = true → vs' k = vs k) : ∀ t : T, t.fit = true →
    (t.kys vs').find? (fun j => !p j) = (t.kys vs).find? (fun j => !p j) ∧ ((∀ k ∈ t.kys vs, p k = true) → t.val vs' = t.val vs ∧ t.kys vs' = t.kys vs) := T.ind fun k n ps ih hf => by
  have hall : ∀ l : List Int, l.find? (fun j => !p j) = none → ∀ k ∈ l, p k = true := fun l h k hk => by
    have := List.find?_eq_none.1 h k hk; simpa using this
  have hnone : ∀ l : List Int, (∀ k ∈ l, p k = true) → l.find? (fun j => !p j) = none := fun l h => List.find?_eq_none.2 fun k hk => by simp [h k hk]
  generalize ht : T.mk k n ps = t at hf ⊢
  refine T.cases_fit (P := fun t => (t.kys vs').find? (fun j => !p j) = (t.kys vs).find? (fun j => !p j) ∧ ((∀ k ∈ t.kys vs, p k = true) → t.val vs' = t.val vs ∧ t.kys vs' = t.kys vs)) t hf ?_ ?_ ?_ ?_ ?_ ?_
  · rintro n a0 a1 rfl; simp only [val_0, kys_0]; exact ⟨trivial, fun _ => ⟨trivial, trivial⟩⟩
  · rintro n a0 a1 rfl; simp only [val_1, kys_1]; exact ⟨trivial, fun h => ⟨hp n (h n (by simp)), trivial⟩⟩
  · rintro a b ha hb rfl; injection ht with _ _ hps; subst hps
    obtain ⟨a1, a2⟩ := ih a (by simp) ha
    obtain ⟨b1, b2⟩ := ih b (by simp) hb
    simp only [val_2, kys_2]
    refine ⟨by rw [List.find?_append, List.find?_append, a1, b1], fun h => ?_⟩
    obtain ⟨a3, a4⟩ := a2 fun k hk => h k (List.mem_append_left _ hk)
    obtain ⟨b3, b4⟩ := b2 fun k hk => h k (List.mem_append_right _ hk)
    rw [a3, a4, b3, b4]; exact ⟨rfl, rfl⟩
  · rintro a b ha hb rfl; injection ht with _ _ hps; subst hps
    obtain ⟨a1, a2⟩ := ih a (by simp) ha
    obtain ⟨b1, b2⟩ := ih b (by simp) hb
    simp only [val_3, kys_3]
    refine ⟨by rw [List.find?_append, List.find?_append, a1, b1], fun h => ?_⟩
    obtain ⟨a3, a4⟩ := a2 fun k hk => h k (List.mem_append_left _ hk)
    obtain ⟨b3, b4⟩ := b2 fun k hk => h k (List.mem_append_right _ hk)
    rw [a3, a4, b3, b4]; exact ⟨rfl, rfl⟩
  · rintro a b c ha hb hc rfl; injection ht with _ _ hps; subst hps
    obtain ⟨a1, a2⟩ := ih a (by simp) ha
    obtain ⟨b1, b2⟩ := ih b (by simp) hb
    obtain ⟨c1, c2⟩ := ih c (by simp) hc
    simp only [val_4, kys_4]
    refine ⟨?_, fun h => ?_⟩
    · rw [List.find?_append, List.find?_append, a1]
      cases hx : (a.kys vs).find? (fun j => !p j) with
      | some x => rfl
      | none =>
        rw [(a2 (hall _ hx)).1]
        simp only [Option.none_or]
        split
        · exact c1
        · exact b1
    · obtain ⟨a3, a4⟩ := a2 fun k hk => h k (List.mem_append_left _ hk)
      rw [a3, a4]
      by_cases h0 : a.val vs = 0
      · simp only [if_pos h0] at h ⊢
        obtain ⟨c3, c4⟩ := c2 fun k hk => h k (List.mem_append_right _ hk)
        rw [c3, c4]; exact ⟨rfl, rfl⟩
      · simp only [if_neg h0] at h ⊢
        obtain ⟨b3, b4⟩ := b2 fun k hk => h k (List.mem_append_right _ hk)
        rw [b3, b4]; exact ⟨rfl, rfl⟩
  · rintro n a a0 a1 ha rfl; injection ht with _ _ hps; subst hps
    obtain ⟨a1, a2⟩ := ih a (by simp) ha
    simp only [val_5, kys_5]
    refine ⟨?_, fun h => ?_⟩
    · rw [List.find?_append, List.find?_append, a1]
      cases hx : (a.kys vs).find? (fun j => !p j) with
      | some x => rfl
      | none => rw [(a2 (hall _ hx)).1]
    · obtain ⟨a3, a4⟩ := a2 fun k hk => h k (List.mem_append_left _ hk)
      rw [a3, a4]
      exact ⟨hp _ (h _ (by simp)), rfl⟩

section
variable (md : Int → Bool) (tk : Int → T) (iv : Int → Int)

/-- The value of a key as far as it is known behind so many stages. -/
def stg : Nat → Int → Option Int
  | 0, k => if md k = true then none else some (iv k)
  | i + 1, k => if md k = true then (if ((tk k).kys (fun j => (stg i j).getD 0)).all (fun j => (stg i j).isSome) = true then some ((tk k).val (fun j => (stg i j).getD 0)) else none) else some (iv k)

theorem stg_free {k : Int} (h : md k = false) (i : Nat) : stg md tk iv i k = some (iv k) := by
  cases i <;> simp [stg, h]

variable (hfit : ∀ k, md k = true → (tk k).fit = true)
include hfit

theorem stg_succ {k : Int} : ∀ {i : Nat} {v : Int}, stg md tk iv i k = some v → stg md tk iv (i + 1) k = some v := by
  intro i
  induction i generalizing k with
  | zero =>
    intro v h
    cases hm : md k
    · rw [stg_free md tk iv hm] at h ⊢; exact h
    · simp [stg, hm] at h
  | succ i ih =>
    intro v h
    cases hm : md k
    · rw [stg_free md tk iv hm] at h ⊢; exact h
    · rw [stg, if_pos hm] at h
      split at h
      · rename_i hal
        rw [List.all_eq_true] at hal
        injection h with h
        obtain ⟨_, h2⟩ := pre_keys (fun j => (stg md tk iv i j).isSome) (fun j => (stg md tk iv i j).getD 0) (fun j => (stg md tk iv (i + 1) j).getD 0) (fun j hj => by
          obtain ⟨u, hu⟩ := Option.isSome_iff_exists.1 hj
          rw [hu, ih hu]) (tk k) (hfit k hm)
        obtain ⟨h3, h4⟩ := h2 hal
        rw [stg, if_pos hm, h3, h4, if_pos, h]
        rw [List.all_eq_true]
        intro j hj
        obtain ⟨u, hu⟩ := Option.isSome_iff_exists.1 (hal j hj)
        rw [ih hu]; rfl
      · cases h
theorem stg_mono {k : Int} {i j : Nat} {v : Int} (hij : i ≤ j) (h : stg md tk iv i k = some v) : stg md tk iv j k = some v := by
  obtain ⟨e, rfl⟩ := Nat.exists_eq_add_of_le hij
  clear hij
  induction e with
  | zero => exact h
  | succ e ih => exact stg_succ md tk iv hfit ih
omit hfit

theorem least {P : Nat → Prop} (h : ∃ i, P i) : ∃ i, P i ∧ ∀ j, j < i → ¬ P j := by
  obtain ⟨i, hi⟩ := h
  induction i using Nat.strongRecOn with
  | _ i ih =>
    by_cases hx : ∃ j, j < i ∧ P j
    · obtain ⟨j, h1, h2⟩ := hx; exact ih j h1 h2
    · exact ⟨i, hi, fun j hj hp => hx ⟨j, hj, hp⟩⟩

open Classical in
/-- The stage at which a key is known first. -/
noncomputable def rkV (k : Int) : Nat := if h : ∃ i, (stg md tk iv i k).isSome = true then (least h).choose else 0
open Classical in
/-- A key can be built from nothing. -/
noncomputable def okV (k : Int) : Bool := decide (∃ i, (stg md tk iv i k).isSome = true)
/-- Its value then. -/
noncomputable def vsV (k : Int) : Int := (stg md tk iv (rkV md tk iv k) k).getD 0

open Classical in
theorem okV_of {k : Int} {i : Nat} {v : Int} (h : stg md tk iv i k = some v) : okV md tk iv k = true := by
  unfold okV; rw [decide_eq_true_iff]; exact ⟨i, by rw [h]; rfl⟩
open Classical in
theorem rkV_le {k : Int} {i : Nat} {v : Int} (h : stg md tk iv i k = some v) : rkV md tk iv k ≤ i := by
  have hx : ∃ i, (stg md tk iv i k).isSome = true := ⟨i, by rw [h]; rfl⟩
  unfold rkV; rw [dif_pos hx]
  rcases Nat.lt_or_ge i (least hx).choose with hl | hl
  · exact absurd (by rw [h]; rfl) ((least hx).choose_spec.2 i hl)
  · exact hl
open Classical in
theorem okV_stg {k : Int} (h : okV md tk iv k = true) : stg md tk iv (rkV md tk iv k) k = some (vsV md tk iv k) := by
  unfold okV at h; rw [decide_eq_true_iff] at h
  have h1 : (stg md tk iv (rkV md tk iv k) k).isSome = true := by
    unfold rkV; rw [dif_pos h]; exact (least h).choose_spec.1
  obtain ⟨u, hu⟩ := Option.isSome_iff_exists.1 h1
  unfold vsV; rw [hu]; rfl
include hfit
theorem vsV_of {k : Int} {i : Nat} {v : Int} (h : stg md tk iv i k = some v) : vsV md tk iv k = v := by
  have h1 := okV_stg md tk iv (okV_of md tk iv h)
  have h2 := stg_mono md tk iv hfit (rkV_le md tk iv h) h1
  rw [h] at h2
  injection h2 with h2
  exact h2.symm
omit hfit
theorem ok_free {k : Int} (h : md k = false) : okV md tk iv k = true := okV_of md tk iv (stg_free md tk iv h 0)
include hfit
theorem vs_free {k : Int} (h : md k = false) : vsV md tk iv k = iv k := vsV_of md tk iv hfit (stg_free md tk iv h 0)

theorem vs_made {k : Int} (hm : md k = true) (h : okV md tk iv k = true) :
    (∀ j ∈ (tk k).kys (vsV md tk iv), okV md tk iv j = true ∧ rkV md tk iv j < rkV md tk iv k) ∧ vsV md tk iv k = (tk k).val (vsV md tk iv) := by
  have h1 := okV_stg md tk iv h
  generalize hr : rkV md tk iv k = r at h1 ⊢
  cases r with
  | zero => simp [stg, hm] at h1
  | succ i =>
    rw [stg, if_pos hm] at h1
    split at h1
    · rename_i hal
      rw [List.all_eq_true] at hal
      obtain ⟨_, h2⟩ := pre_keys (fun j => (stg md tk iv i j).isSome) (fun j => (stg md tk iv i j).getD 0) (vsV md tk iv) (fun j hj => by
        obtain ⟨u, hu⟩ := Option.isSome_iff_exists.1 hj
        rw [hu, vsV_of md tk iv hfit hu]; rfl) (tk k) (hfit k hm)
      obtain ⟨h3, h4⟩ := h2 hal
      refine ⟨fun j hj => ?_, ?_⟩
      · rw [h4] at hj
        obtain ⟨u, hu⟩ := Option.isSome_iff_exists.1 (hal j hj)
        exact ⟨okV_of md tk iv hu, Nat.lt_succ_of_le (rkV_le md tk iv hu)⟩
      · injection h1 with h1
        rw [h3, h1]
    · cases h1

theorem vs_up {k : Int} (h : ∀ j ∈ (tk k).kys (vsV md tk iv), okV md tk iv j = true) : okV md tk iv k = true := by
  cases hm : md k
  · exact ok_free md tk iv hm
  · have hI : ∃ I, ∀ j ∈ (tk k).kys (vsV md tk iv), rkV md tk iv j ≤ I := by
      generalize (tk k).kys (vsV md tk iv) = l
      clear h
      induction l with
      | nil => exact ⟨0, by simp⟩
      | cons x r ih =>
        obtain ⟨I, hI⟩ := ih
        refine ⟨max I (rkV md tk iv x), fun j hj => ?_⟩
        rw [List.mem_cons] at hj
        rcases hj with rfl | hj
        · exact Nat.le_max_right _ _
        · exact Nat.le_trans (hI j hj) (Nat.le_max_left _ _)
    obtain ⟨I, hI⟩ := hI
    have hs : ∀ j ∈ (tk k).kys (vsV md tk iv), stg md tk iv I j = some (vsV md tk iv j) := fun j hj => stg_mono md tk iv hfit (hI j hj) (okV_stg md tk iv (h j hj))
    obtain ⟨_, h2⟩ := pre_keys (fun j => (stg md tk iv I j).isSome) (vsV md tk iv) (fun j => (stg md tk iv I j).getD 0) (fun j hj => by
        obtain ⟨u, hu⟩ := Option.isSome_iff_exists.1 hj
        rw [hu, vsV_of md tk iv hfit hu]; rfl) (tk k) (hfit k hm)
    obtain ⟨h3, h4⟩ := h2 fun j hj => by rw [hs j hj]; rfl
    refine okV_of md tk iv (i := I + 1) (v := (tk k).val (vsV md tk iv)) ?_
    rw [stg, if_pos hm, h3, h4, if_pos]
    rw [List.all_eq_true]
    intro j hj
    rw [hs j hj]; rfl

theorem vs_bd (hiv : ∀ k, 0 ≤ iv k ∧ iv k ≤ 96) (k : Int) : 0 ≤ vsV md tk iv k ∧ vsV md tk iv k ≤ 96 := by
  have key : ∀ i k v, stg md tk iv i k = some v → 0 ≤ v ∧ v ≤ 96 := by
    intro i
    induction i with
    | zero =>
      intro k v h
      cases hm : md k
      · rw [stg_free md tk iv hm] at h; injection h with h; subst h; exact hiv k
      · simp [stg, hm] at h
    | succ i ih =>
      intro k v h
      cases hm : md k
      · rw [stg_free md tk iv hm] at h; injection h with h; subst h; exact hiv k
      · rw [stg, if_pos hm] at h
        split at h
        · injection h with h
          subst h
          refine T.val_bd _ (fun j => ?_) (tk k) (hfit k hm)
          cases hx : stg md tk iv i j with
          | none => simp
          | some u => exact ih j u hx
        · cases h
  unfold vsV
  cases hx : stg md tk iv (rkV md tk iv k) k with
  | none => simp
  | some u => exact key _ _ _ hx

/-- What a key hangs on: what its task fetches with the values of keys. -/
noncomputable def chV : Int → List Int := fun k => (tk k).kys (vsV md tk iv)
theorem gr_V (n : Nat) (hn : ∀ k, md k = true → 0 ≤ k ∧ k < n) : Gr n (chV md tk iv) (fun k => !md k) (okV md tk iv) (rkV md tk iv) where
  d0ok k h := ok_free md tk iv (by simpa using h)
  inn k h := hn k (by simpa using h)
  down k h h0 j hj := (vs_made md tk iv hfit (by simpa using h0) h).1 j hj
  up k h := vs_up md tk iv hfit h
end
end Go.Proofs.Ytklmpagpkeffjaa
