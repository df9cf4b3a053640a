/- a topological order that takes the least free key each time: plain words, no program -/
import Derived.Test.YtochgmbeomfkpaaBs0
namespace Go.Proofs.Ytochgmbeomfkpaa

/-- Of the keys N, k is not in out, and all that it hangs on is. -/
def frT (N : Int → Bool) (ch : Int → List Int) (out : List Int) (k : Int) : Bool := N k && (!out.contains k && (ch k).all (fun c => out.contains c))
theorem frT_iff {N : Int → Bool} {ch : Int → List Int} {out : List Int} {k : Int} : frT N ch out k = true ↔ N k = true ∧ k ∉ out ∧ ∀ c ∈ ch k, c ∈ out := by
  unfold frT
  rw [Bool.and_eq_true, Bool.and_eq_true, List.all_eq_true]
  simp
/-- From out on, the least free key is taken as long as there is one: res. -/
inductive Topo (N : Int → Bool) (ch : Int → List Int) : List Int → List Int → Prop
  | stop {out : List Int} : (∀ k, frT N ch out k = false) → Topo N ch out out
  | step {out : List Int} {k : Int} {res : List Int} : frT N ch out k = true → (∀ j, frT N ch out j = true → k ≤ j) → Topo N ch (out ++ [k]) res → Topo N ch out res
section
variable {N : Int → Bool} {ch : Int → List Int} {out res : List Int}
theorem Topo.det (h : Topo N ch out res) : ∀ {res' : List Int}, Topo N ch out res' → res = res' := by
  induction h with
  | stop hs =>
    intro res' h'
    cases h' with
    | stop _ => rfl
    | step hk _ _ => rw [hs _] at hk; cases hk
  | @step out k res hk hm _ ih =>
    intro res' h'
    cases h' with
    | stop hs => rw [hs _] at hk; cases hk
    | @step _ k' _ hk' hm' h2 =>
      have h3 := hm _ hk'
      have h4 := hm' _ hk
      obtain rfl : k = k' := by omega
      exact ih h2

/-- The state of such a machine: nothing twice, all of N, all that a key hangs on ahead of it. -/
structure TopS (N : Int → Bool) (ch : Int → List Int) (out : List Int) : Prop where
  nodup : out.Nodup
  inn : ∀ k ∈ out, N k = true
  down : ∀ k ∈ out, ∀ c ∈ ch k, c ∈ out
theorem TopS.start : TopS N ch [] := ⟨List.nodup_nil, by simp, by simp⟩
theorem TopS.next {k : Int} (h : TopS N ch out) (hk : frT N ch out k = true) : TopS N ch (out ++ [k]) := by
  obtain ⟨h1, h2, h3⟩ := frT_iff.1 hk
  refine ⟨?_, fun j hj => ?_, fun j hj c hc => ?_⟩
  · rw [List.nodup_append]
    exact ⟨h.nodup, by simp, fun a ha b hb e => h2 (by simp at hb; rw [← hb, ← e]; exact ha)⟩
  · rcases List.mem_append.1 hj with hj | hj
    · exact h.inn j hj
    · simp at hj; rw [hj]; exact h1
  · rcases List.mem_append.1 hj with hj | hj
    · exact List.mem_append.2 (.inl (h.down j hj c hc))
    · simp at hj; subst hj; exact List.mem_append.2 (.inl (h3 c hc))
/-- No more keys than there are. -/
theorem TopS.len {n : Nat} (h : TopS N ch out) (hN : ∀ k, N k = true → 0 ≤ k ∧ k < n) : out.length ≤ n := nodup_bound n out h.nodup (fun k hk => hN k (h.inn k hk))

/-- The free keys, ascending: what the program's list of free keys is, whatever order a map is gone through. -/
structure FrL (N : Int → Bool) (ch : Int → List Int) (out free : List Int) : Prop where
  asc : free.Pairwise (· < ·)
  mem : ∀ k, k ∈ free ↔ frT N ch out k = true
theorem asc_eq : ∀ {l m : List Int}, l.Pairwise (· < ·) → m.Pairwise (· < ·) → (∀ k, k ∈ l ↔ k ∈ m) → l = m
  | [], [], _, _, _ => rfl
  | [], b :: s, _, _, h => by have := (h b).2 (by simp); simp at this
  | a :: r, [], _, _, h => by have := (h a).1 (by simp); simp at this
  | a :: r, b :: s, h1, h2, h => by
    obtain ⟨a1, a2⟩ := List.pairwise_cons.1 h1
    obtain ⟨b1, b2⟩ := List.pairwise_cons.1 h2
    have hab : a = b := by
      rcases List.mem_cons.1 ((h a).1 (by simp)) with e | ha
      · exact e
      · rcases List.mem_cons.1 ((h b).2 (by simp)) with e | hb
        · exact e.symm
        · have := b1 a ha; have := a1 b hb; omega
    subst hab
    rw [asc_eq a2 b2 (fun k => ⟨fun hk => by
      rcases List.mem_cons.1 ((h k).1 (by simp [hk])) with e | hk'
      · have := a1 k hk; omega
      · exact hk', fun hk => by
      rcases List.mem_cons.1 ((h k).2 (by simp [hk])) with e | hk'
      · have := b1 k hk; omega
      · exact hk'⟩)]
theorem FrL.eq {free free' : List Int} (h : FrL N ch out free) (h' : FrL N ch out free') : free = free' := asc_eq h.asc h'.asc (fun k => (h.mem k).trans (h'.mem k).symm)
/-- Nothing is free: that is all. -/
theorem FrL.stop (h : FrL N ch out []) : Topo N ch out out := .stop fun k => by
  cases hk : frT N ch out k
  · rfl
  · have := (h.mem k).2 hk; simp at this
theorem FrL.head {k : Int} {q : List Int} (h : FrL N ch out (k :: q)) : frT N ch out k = true ∧ ∀ j, frT N ch out j = true → k ≤ j := by
  refine ⟨(h.mem k).1 (by simp), fun j hj => ?_⟩
  rcases List.mem_cons.1 ((h.mem j).2 hj) with e | hq
  · omega
  · have := (List.pairwise_cons.1 h.asc).1 j hq; omega
theorem FrL.step {k : Int} {q : List Int} (h : FrL N ch out (k :: q)) (hr : Topo N ch (out ++ [k]) res) : Topo N ch out res := .step h.head.1 h.head.2 hr

/-- A key put into an ascending list. -/
def insT (l : List Int) (k : Int) : List Int := l.filter (fun x => decide (x < k)) ++ k :: l.filter (fun x => !decide (x < k))
theorem mem_insT {l : List Int} {k j : Int} : j ∈ insT l k ↔ j = k ∨ j ∈ l := by
  unfold insT
  simp only [List.mem_append, List.mem_cons, List.mem_filter, decide_eq_true_eq, Bool.not_eq_true', decide_eq_false_iff_not]
  constructor
  · rintro (h | h | h)
    · exact .inr h.1
    · exact .inl h
    · exact .inr h.1
  · rintro (h | h)
    · exact .inr (.inl h)
    · by_cases hj : j < k
      · exact .inl ⟨h, hj⟩
      · exact .inr (.inr ⟨h, hj⟩)
theorem asc_insT {l : List Int} {k : Int} (h : l.Pairwise (· < ·)) (hk : k ∉ l) : (insT l k).Pairwise (· < ·) := by
  unfold insT
  rw [List.pairwise_append]
  refine ⟨h.filter _, List.pairwise_cons.2 ⟨fun j hj => ?_, h.filter _⟩, fun a ha b hb => ?_⟩
  · simp only [List.mem_filter, Bool.not_eq_true', decide_eq_false_iff_not] at hj
    have : j ≠ k := fun e => hk (e ▸ hj.1)
    omega
  · simp only [List.mem_filter, decide_eq_true_eq] at ha
    rcases List.mem_cons.1 hb with e | hb
    · omega
    · simp only [List.mem_filter, Bool.not_eq_true', decide_eq_false_iff_not] at hb
      omega
theorem filter_asc {k : Int} : ∀ {l : List Int}, l.Pairwise (· < ·) → l.filter (fun x => decide (x < k)) = l.take (l.countP (fun x => decide (x < k))) ∧ l.filter (fun x => !decide (x < k)) = l.drop (l.countP (fun x => decide (x < k)))
  | [], _ => by simp
  | a :: r, h => by
    obtain ⟨h1, h2⟩ := List.pairwise_cons.1 h
    obtain ⟨i1, i2⟩ := filter_asc (k := k) h2
    by_cases ha : a < k
    · rw [List.countP_cons_of_pos (by simpa using ha), List.filter_cons_of_pos (by simpa using ha), List.filter_cons_of_neg (by simpa using ha)]
      exact ⟨by rw [List.take_succ_cons, i1], by rw [List.drop_succ_cons, i2]⟩
    · have hn : ∀ x ∈ a :: r, ¬ x < k := fun x hx => by
        rcases List.mem_cons.1 hx with e | hx
        · rw [e]; exact ha
        · have := h1 x hx; omega
      have h0 : (a :: r).countP (fun x => decide (x < k)) = 0 := List.countP_eq_zero.2 (fun x hx => by simpa using hn x hx)
      rw [h0]
      exact ⟨List.filter_eq_nil_iff.2 (fun x hx => by simpa using hn x hx), List.filter_eq_self.2 (fun x hx => by simpa using hn x hx)⟩
/-- It is put behind those that are less. -/
theorem insT_eq {l : List Int} {k : Int} (h : l.Pairwise (· < ·)) : insT l k = l.take (l.countP (fun x => decide (x < k))) ++ k :: l.drop (l.countP (fun x => decide (x < k))) := by
  unfold insT
  rw [(filter_asc h).1, (filter_asc h).2]
/-- In the midst of a round of the program: k was taken, the keys that left says are still to come. -/
structure MidT (N : Int → Bool) (ch : Int → List Int) (out q : List Int) (k : Int) (left : Int → Bool) (free : List Int) : Prop where
  asc : free.Pairwise (· < ·)
  mem : ∀ j, j ∈ free ↔ j ∈ q ∨ (left j = false ∧ N j = true ∧ k ∈ ch j ∧ ∀ c ∈ ch j, c ∈ out ++ [k])
theorem MidT.start {k : Int} {q : List Int} {left : Int → Bool} (h : FrL N ch out (k :: q)) (hl : ∀ j, N j = true → left j = true) : MidT N ch out q k left q :=
  ⟨(List.pairwise_cons.1 h.asc).2, fun j => ⟨.inl, fun hj => hj.elim id (fun ⟨h1, h2, _⟩ => by rw [hl j h2] at h1; cases h1)⟩⟩
/-- A key of the map has come: it is put, or it is not. -/
theorem MidT.put {k j : Int} {q free : List Int} {left left' : Int → Bool} (hf : FrL N ch out (k :: q)) (h : MidT N ch out q k left free) (hj : left j = true) (hl : ∀ i, left' i = (left i && !decide (i = j))) (hN : N j = true) (hc : k ∈ ch j) (ha : ∀ c ∈ ch j, c ∈ out ++ [k]) :
    j ∉ free ∧ MidT N ch out q k left' (insT free j) := by
  have hnf : j ∉ free := by
    intro hm
    rcases (h.mem j).1 hm with hq | ⟨h1, _⟩
    · have h2 := (frT_iff.1 ((hf.mem j).1 (by simp [hq]))).2.2 k hc
      exact (frT_iff.1 ((hf.mem k).1 (by simp))).2.1 h2
    · rw [hj] at h1; cases h1
  refine ⟨hnf, asc_insT h.asc hnf, fun i => ?_⟩
  rw [mem_insT, h.mem i, hl i]
  by_cases hij : i = j
  · subst hij
    simp only [decide_true, Bool.not_true, Bool.and_false, true_and]
    exact ⟨fun _ => .inr ⟨hN, hc, ha⟩, fun _ => .inl trivial⟩
  · simp [hij]
theorem MidT.pass {k j : Int} {q free : List Int} {left left' : Int → Bool} (h : MidT N ch out q k left free) (hl : ∀ i, left' i = (left i && !decide (i = j))) (hn : ¬ (k ∈ ch j ∧ ∀ c ∈ ch j, c ∈ out ++ [k])) : MidT N ch out q k left' free := by
  refine ⟨h.asc, fun i => ?_⟩
  rw [h.mem i, hl i]
  by_cases hij : i = j
  · subst hij
    exact ⟨fun hi => hi.elim .inl (fun ⟨_, _, h3, h4⟩ => (hn ⟨h3, h4⟩).elim), fun hi => hi.elim .inl (fun ⟨_, _, h3, h4⟩ => (hn ⟨h3, h4⟩).elim)⟩
  · simp [hij]
/-- All have come: what is free now. -/
theorem MidT.done {k : Int} {q free : List Int} {left : Int → Bool} (hs : TopS N ch out) (hf : FrL N ch out (k :: q)) (h : MidT N ch out q k left free) (hl : ∀ j, left j = false) : FrL N ch (out ++ [k]) free := by
  obtain ⟨hk1, hk2, hk3⟩ := frT_iff.1 hf.head.1
  refine ⟨h.asc, fun j => ?_⟩
  rw [h.mem j, frT_iff]
  constructor
  · rintro (hq | ⟨_, h2, h3, h4⟩)
    · obtain ⟨h1, h2, h3⟩ := frT_iff.1 ((hf.mem j).1 (by simp [hq]))
      refine ⟨h1, fun hm => ?_, fun c hc => List.mem_append.2 (.inl (h3 c hc))⟩
      rcases List.mem_append.1 hm with hm | hm
      · exact h2 hm
      · simp at hm
        have := (List.pairwise_cons.1 hf.asc).1 j hq
        omega
    · refine ⟨h2, fun hm => ?_, h4⟩
      rcases List.mem_append.1 hm with hm | hm
      · exact hk2 (hs.down j hm k h3)
      · simp at hm
        subst hm
        exact hk2 (hk3 j h3)
  · rintro ⟨h1, h2, h3⟩
    by_cases hc : k ∈ ch j
    · exact .inr ⟨hl j, h1, hc, h3⟩
    · left
      have hfr : frT N ch out j = true := frT_iff.2 ⟨h1, fun hm => h2 (List.mem_append.2 (.inl hm)), fun c hcm => by
        rcases List.mem_append.1 (h3 c hcm) with hm | hm
        · exact hm
        · simp at hm; subst hm; exact (hc hcm).elim⟩
      rcases List.mem_cons.1 ((hf.mem j).2 hfr) with e | hq
      · exact (h2 (by rw [e]; simp)).elim
      · exact hq
/-- In the midst of the program's first round: the keys that left says are still to come. -/
structure BegT (N : Int → Bool) (ch : Int → List Int) (left : Int → Bool) (free : List Int) : Prop where
  asc : free.Pairwise (· < ·)
  mem : ∀ j, j ∈ free ↔ left j = false ∧ N j = true ∧ ch j = []
theorem BegT.start {left : Int → Bool} (hl : ∀ j, N j = true → left j = true) : BegT N ch left [] :=
  ⟨List.Pairwise.nil, fun j => ⟨fun h => (by cases h), fun ⟨h1, h2, _⟩ => by rw [hl j h2] at h1; cases h1⟩⟩
theorem BegT.put {j : Int} {free : List Int} {left left' : Int → Bool} (h : BegT N ch left free) (hj : left j = true) (hl : ∀ i, left' i = (left i && !decide (i = j))) (hN : N j = true) (hc : ch j = []) :
    j ∉ free ∧ BegT N ch left' (insT free j) := by
  have hnf : j ∉ free := fun hm => by rw [((h.mem j).1 hm).1] at hj; cases hj
  refine ⟨hnf, asc_insT h.asc hnf, fun i => ?_⟩
  rw [mem_insT, h.mem i, hl i]
  by_cases hij : i = j
  · subst hij
    simp [hN, hc]
  · simp [hij]
theorem BegT.pass {j : Int} {free : List Int} {left left' : Int → Bool} (h : BegT N ch left free) (hl : ∀ i, left' i = (left i && !decide (i = j))) (hn : ch j ≠ []) : BegT N ch left' free := by
  refine ⟨h.asc, fun i => ?_⟩
  rw [h.mem i, hl i]
  by_cases hij : i = j
  · subst hij
    exact ⟨fun hi => (hn hi.2.2).elim, fun hi => (hn hi.2.2).elim⟩
  · simp [hij]
theorem BegT.done {free : List Int} {left : Int → Bool} (h : BegT N ch left free) (hl : ∀ j, left j = false) : FrL N ch [] free := by
  refine ⟨h.asc, fun j => ?_⟩
  rw [h.mem j, frT_iff]
  simp only [hl j, true_and, List.not_mem_nil, not_false_eq_true]
  constructor
  · rintro ⟨h1, h2⟩
    exact ⟨h1, fun c hc => by rw [h2] at hc; cases hc⟩
  · rintro ⟨h1, h2⟩
    refine ⟨h1, ?_⟩
    cases hx : ch j with
    | nil => rfl
    | cons c r => exact (h2 c (by rw [hx]; simp)).elim
/-- The model's loop: no key below k is free, and k is; or none below n. -/
theorem topo_scan {k : Nat} (hN : ∀ j, N j = true → 0 ≤ j) (hb : ∀ i : Nat, i < k → frT N ch out i = false) (hk : frT N ch out k = true) (hr : Topo N ch (out ++ [(k : Int)]) res) : Topo N ch out res := by
  refine .step hk (fun j hj => ?_) hr
  have h0 := hN j (frT_iff.1 hj).1
  rcases Int.lt_or_le j (k : Int) with hlt | hge
  · have := hb j.toNat (by omega)
    rw [show ((j.toNat : Nat) : Int) = j by omega, hj] at this
    cases this
  · exact hge
theorem topo_end {n : Nat} (hN : ∀ j, N j = true → 0 ≤ j ∧ j < n) (hb : ∀ i : Nat, i < n → frT N ch out i = false) : Topo N ch out out := by
  refine .stop fun j => ?_
  cases hj : frT N ch out j
  · rfl
  · have h0 := hN j (frT_iff.1 hj).1
    have := hb j.toNat (by omega)
    rw [show ((j.toNat : Nat) : Int) = j by omega, hj] at this
    cases this
end
end Go.Proofs.Ytochgmbeomfkpaa
