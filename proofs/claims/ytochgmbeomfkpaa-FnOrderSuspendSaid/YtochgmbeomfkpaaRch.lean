/- the keys on the ways from some keys: by depth, and by a work list: plain words, no program -/
import Derived.Test.YtochgmbeomfkpaaBs0
namespace Go.Proofs.Ytochgmbeomfkpaa

/-- On some way from keys of ks, over made keys alone. -/
inductive Rch (md : Int → Bool) (ch : Int → List Int) (ks : List Int) : Int → Prop
  | base {k : Int} : k ∈ ks → md k = true → Rch md ch ks k
  | step {j c : Int} : Rch md ch ks j → c ∈ ch j → md c = true → Rch md ch ks c
section
variable {md : Int → Bool} {ch : Int → List Int} {ks ks' : List Int}
theorem Rch.made {k : Int} (h : Rch md ch ks k) : md k = true := by cases h <;> assumption
theorem Rch.mono {k : Int} (h : Rch md ch ks k) (hs : ∀ x ∈ ks, x ∈ ks') : Rch md ch ks' k := by
  induction h with
  | base h1 h2 => exact .base (hs _ h1) h2
  | step _ h2 h3 ih => exact .step ih h2 h3
theorem Rch.under {k j : Int} (hk : md k = true) (h : Rch md ch (ch k) j) : Rch md ch [k] j := by
  induction h with
  | base h1 h2 => exact .step (.base (by simp) hk) h1 h2
  | step _ h2 h3 ih => exact .step ih h2 h3

/-- Noted were D; behind noting ks one by one, D' are. -/
structure NotP (md : Int → Bool) (ch : Int → List Int) (D : Int → Bool) (ks : List Int) (D' : Int → Bool) : Prop where
  sub : ∀ k, D k = true → D' k = true
  keys : ∀ k ∈ ks, md k = true → D' k = true
  new : ∀ j, D' j = true → D j = true ∨ (Rch md ch ks j ∧ ∀ c ∈ ch j, md c = true → D' c = true)
variable {D D' D'' : Int → Bool}
theorem NotP.nil : NotP md ch D [] D := ⟨fun _ h => h, by simp, fun _ h => .inl h⟩
theorem NotP.snoc {k : Int} (h : NotP md ch D ks D') (h' : NotP md ch D' [k] D'') : NotP md ch D (ks ++ [k]) D'' := by
  refine ⟨fun x hx => h'.sub x (h.sub x hx), fun x hx hm => ?_, fun j hj => ?_⟩
  · rcases List.mem_append.1 hx with hx | hx
    · exact h'.sub x (h.keys x hx hm)
    · exact h'.keys x hx hm
  · rcases h'.new j hj with h1 | ⟨h1, h2⟩
    · rcases h.new j h1 with h3 | ⟨h3, h4⟩
      · exact .inl h3
      · exact .inr ⟨h3.mono (fun x hx => List.mem_append.2 (.inl hx)), fun c hc hm => h'.sub c (h4 c hc hm)⟩
    · exact .inr ⟨h1.mono (fun x hx => List.mem_append.2 (.inr hx)), h2⟩
theorem NotP.skip {k : Int} (h : D k = true ∨ md k = false) : NotP md ch D [k] D := by
  refine ⟨fun _ h => h, fun x hx hm => ?_, fun _ h => .inl h⟩
  simp at hx
  subst hx
  rcases h with h | h
  · exact h
  · rw [h] at hm; cases hm
theorem NotP.note {k : Int} (hk : md k = true) (h : NotP md ch (upd D k) (ch k) D') : NotP md ch D [k] D' := by
  refine ⟨fun x hx => h.sub x (by unfold upd; simp [hx]), fun x hx _ => ?_, fun j hj => ?_⟩
  · simp at hx
    subst hx
    exact h.sub x (by unfold upd; simp)
  · rcases h.new j hj with h1 | ⟨h1, h2⟩
    · by_cases hjk : j = k
      · subst hjk
        exact .inr ⟨.base (by simp) hk, fun c hc hm => h.keys c hc hm⟩
      · left
        unfold upd at h1
        simpa [hjk] using h1
    · exact .inr ⟨h1.under hk, h2⟩
/-- All that was noted from nothing on is what lies on the ways. -/
theorem NotP.all (h : NotP md ch (fun _ => false) ks D') (k : Int) : D' k = true ↔ Rch md ch ks k := by
  constructor
  · intro hk
    rcases h.new k hk with h1 | ⟨h1, _⟩
    · cases h1
    · exact h1
  · intro hk
    induction hk with
    | base h1 h2 => exact h.keys _ h1 h2
    | step _ h2 h3 ih =>
      rcases h.new _ ih with h4 | ⟨_, h5⟩
      · cases h4
      · exact h5 _ h2 h3

/-- The work list: the first i of row are seen. -/
structure Wk (md : Int → Bool) (ch : Int → List Int) (ks : List Int) (out : Int → Bool) (row : List Int) (i : Nat) : Prop where
  rows : ∀ k ∈ row, k ∈ ks ∨ ∃ j, Rch md ch ks j ∧ k ∈ ch j
  all : ∀ k ∈ ks, k ∈ row
  seen : ∀ k ∈ row.take i, md k = true → out k = true
  outs : ∀ k, out k = true → Rch md ch ks k ∧ ∀ c ∈ ch k, c ∈ row
variable {out : Int → Bool} {row : List Int} {i : Nat}
theorem Wk.start : Wk md ch ks (fun _ => false) ks 0 := ⟨fun _ h => .inl h, fun _ h => h, by simp, fun _ h => by cases h⟩
theorem Wk.rch {k : Int} (h : Wk md ch ks out row i) (hk : k ∈ row) (hm : md k = true) : Rch md ch ks k := by
  rcases h.rows k hk with h1 | ⟨j, h1, h2⟩
  · exact .base h1 hm
  · exact .step h1 h2 hm
theorem Wk.skip (h : Wk md ch ks out row i) (hi : i < row.length) (hk : out row[i] = true ∨ md row[i] = false) : Wk md ch ks out row (i + 1) := by
  refine ⟨h.rows, h.all, fun k hk' hm => ?_, h.outs⟩
  rw [List.take_add_one, List.getElem?_eq_getElem hi, List.mem_append] at hk'
  rcases hk' with hk' | hk'
  · exact h.seen k hk' hm
  · simp at hk'
    subst hk'
    rcases hk with hk | hk
    · exact hk
    · rw [hk] at hm; cases hm
theorem Wk.put (h : Wk md ch ks out row i) (hi : i < row.length) (hm : md row[i] = true) : Wk md ch ks (upd out row[i]) (row ++ ch row[i]) (i + 1) := by
  have hr := h.rch (List.getElem_mem hi) hm
  have hup : ∀ k, out k = true → upd out row[i] k = true := fun k hk => by unfold upd; simp [hk]
  refine ⟨fun k hk => ?_, fun k hk => List.mem_append.2 (.inl (h.all k hk)), fun k hk hmk => ?_, fun k hk => ?_⟩
  · rcases List.mem_append.1 hk with hk | hk
    · exact h.rows k hk
    · exact .inr ⟨_, hr, hk⟩
  · rw [List.take_append_of_le_length (by omega), List.take_add_one, List.getElem?_eq_getElem hi, List.mem_append] at hk
    rcases hk with hk | hk
    · exact hup k (h.seen k hk hmk)
    · simp at hk
      subst hk
      unfold upd; simp
  · by_cases hkr : k = row[i]
    · subst hkr
      exact ⟨hr, fun c hc => List.mem_append.2 (.inr hc)⟩
    · have h1 : out k = true := by unfold upd at hk; simpa [hkr] using hk
      exact ⟨(h.outs k h1).1, fun c hc => List.mem_append.2 (.inl ((h.outs k h1).2 c hc))⟩
theorem Wk.done (h : Wk md ch ks out row i) (hi : row.length ≤ i) (k : Int) : out k = true ↔ Rch md ch ks k := by
  refine ⟨fun hk => (h.outs k hk).1, fun hk => ?_⟩
  have hs : ∀ x ∈ row, md x = true → out x = true := fun x hx hm => h.seen x (by rw [List.take_of_length_le hi]; exact hx) hm
  induction hk with
  | base h1 h2 => exact hs _ (h.all _ h1) h2
  | step _ h2 h3 ih => exact hs _ ((h.outs _ ih).2 _ h2) h3
end
end Go.Proofs.Ytochgmbeomfkpaa
