/- what can be done is done, and no key is tried more often than it has keys to wait for, and once more: plain words, no program -/
import Derived.Test.YtochgmbeomfkpaaEnds
import Derived.Test.YtochgmbeomfkpaaBs2
namespace Go.Proofs.Ytochgmbeomfkpaa

theorem filt_le {p p' : Int → Bool} (hp : ∀ x, p' x = true → p x = true) : ∀ l : List Int, (l.filter p').length ≤ (l.filter p).length
  | [] => by simp
  | y :: r => by
    have ih := filt_le hp r
    rw [List.filter_cons, List.filter_cons]
    cases hy : p' y
    · cases p y <;> simp <;> omega
    · rw [hp y hy]; simp; exact ih
theorem filt_lt {p p' : Int → Bool} {j : Int} : ∀ {l : List Int}, (∀ x, p' x = true → p x = true) → j ∈ l → p j = true → p' j = false → (l.filter p').length < (l.filter p).length
  | [], _, h, _, _ => by cases h
  | x :: r, hp, h, h1, h2 => by
    rw [List.filter_cons, List.filter_cons]
    by_cases hx : x = j
    · subst hx
      rw [h1, h2]
      have := filt_le hp r
      simp
      omega
    · have hr : j ∈ r := by
        rcases List.mem_cons.1 h with h | h
        · exact absurd h.symm hx
        · exact h
      have := filt_lt (l := r) hp hr h1 h2
      cases hy : p' x
      · cases p x <;> simp <;> omega
      · rw [hp x hy]; simp; exact this

/-- So often a key may still be tried. -/
def cnt (ch : Int → List Int) (d : Int → Bool) (x : Int) : Nat := if d x = true then 0 else ((usesL (ch x)).filter (fun y => !d y)).length + 1

section
variable {em : Int → Option Int → List Int} {ch : Int → List Int} {d d' : Int → Bool} {q o : List Int} {m : Nat}

theorem cnt_mono (h : ∀ x, d x = true → d' x = true) (x : Int) : cnt ch d' x ≤ cnt ch d x := by
  unfold cnt
  cases hx : d x
  · have e : (if (false = true) then 0 else ((usesL (ch x)).filter (fun y => !d y)).length + 1) = ((usesL (ch x)).filter (fun y => !d y)).length + 1 := if_neg (by decide)
    rw [e]
    split
    · omega
    · have := filt_le (p := fun y => !d y) (p' := fun y => !d' y) (fun y hy => by
        cases hd : d y
        · rfl
        · rw [h y hd] at hy; cases hy) (usesL (ch x))
      omega
  · rw [h x hx]; simp

variable {n : Nat} {d0 ok : Int → Bool} {rk : Int → Nat}

/-- What visiting a key that can be done gives. -/
structure Vis (em : Int → Option Int → List Int) (ch : Int → List Int) (ok : Int → Bool) (rk : Int → Nat) (d : Int → Bool) (k : Int) (X : List Int) (d' : Int → Bool) : Prop where
  mono : ∀ x, d x = true → d' x = true
  hi : ∀ x, d' x = true → ok x = true
  done : d' k = true
  vis : Visit em ch d k X d'
  rank : ∀ x ∈ X, rk x ≤ rk k
  few : ∀ x, X.count x + cnt ch d' x ≤ cnt ch d x

theorem Vis.here {k : Int} (hd : d k = true) (hhi : ∀ x, d x = true → ok x = true) : Vis em ch ok rk d k [] d :=
  ⟨fun _ h => h, hhi, hd, Visit.done hd, by simp, by simp⟩
theorem Vis.fin {k : Int} (hem : ∀ k y x, (em k y).count x ≤ if x = k then 1 else 0) (hd : d k = false) (hn : nxt ch d k = none) (hk : ok k = true) (hhi : ∀ x, d x = true → ok x = true) : Vis em ch ok rk d k (em k none) (upd d k) where
  mono x hx := by unfold upd; rw [hx]; rfl
  hi x hx := by
    unfold upd at hx
    rw [Bool.or_eq_true] at hx
    rcases hx with hx | hx
    · exact hhi x hx
    · rw [of_decide_eq_true hx]; exact hk
  done := by unfold upd; simp
  vis q o m he := ⟨_, .fin hd hn he⟩
  rank x hx := by
    have h1 := hem k none x
    have h2 := List.count_pos_iff.2 hx
    split at h1
    · rename_i e; rw [e]; exact Nat.le_refl _
    · omega
  few x := by
    have h1 := hem k none x
    by_cases hx : x = k
    · subst hx
      rw [if_pos rfl] at h1
      have e1 : cnt ch (upd d x) x = 0 := by unfold cnt; rw [if_pos (by unfold upd; simp)]
      have e2 : 1 ≤ cnt ch d x := by unfold cnt; rw [hd, if_neg (by simp)]; omega
      omega
    · rw [if_neg hx] at h1
      have := cnt_mono (ch := ch) (d := d) (d' := upd d k) (fun x hx => by unfold upd; rw [hx]; rfl) x
      omega
theorem Vis.more {k j : Int} {d1 d2 : Int → Bool} {X1 X2 : List Int} (hem : ∀ k y x, (em k y).count x ≤ if x = k then 1 else 0) (hd : d k = false) (hn : nxt ch d k = some j) (hr : rk j < rk k) (h1 : Vis em ch ok rk d j X1 d1) (h2 : Vis em ch ok rk d1 k X2 d2) : Vis em ch ok rk d k (em k (some j) ++ (X1 ++ X2)) d2 where
  mono x hx := h2.mono x (h1.mono x hx)
  hi := h2.hi
  done := h2.done
  vis q o m he := by
    obtain ⟨m1, he1⟩ := h2.vis q o m he
    obtain ⟨m2, he2⟩ := h1.vis (k :: q) (X2 ++ o) m1 he1
    exact ⟨_, by rw [List.append_assoc, List.append_assoc]; exact .more hd hn he2⟩
  rank x hx := by
    rw [List.mem_append, List.mem_append] at hx
    rcases hx with hx | hx | hx
    · have h1 := hem k (some j) x
      have h2 := List.count_pos_iff.2 hx
      split at h1
      · rename_i e; rw [e]; exact Nat.le_refl _
      · omega
    · have := h1.rank x hx; omega
    · exact h2.rank x hx
  few x := by
    rw [List.count_append, List.count_append]
    have e1 := hem k (some j) x
    have e2 := h1.few x
    have e3 := h2.few x
    by_cases hx : x = k
    · subst hx
      rw [if_pos rfl] at e1
      have hz : X1.count x = 0 := by
        rw [List.count_eq_zero]
        intro hm
        have := h1.rank x hm
        omega
      have hlt : cnt ch d1 x + 1 ≤ cnt ch d x := by
        unfold cnt
        have e : (if (false = true) then 0 else ((usesL (ch x)).filter (fun y => !d y)).length + 1) = ((usesL (ch x)).filter (fun y => !d y)).length + 1 := if_neg (by decide)
        rw [hd, e]
        split
        · omega
        · have := filt_lt (j := j) (p := fun y => !d y) (p' := fun y => !d1 y) (l := usesL (ch x)) (fun y hy => by
            cases hdy : d y
            · rfl
            · rw [h1.mono y hdy] at hy; cases hy) (usesL_mem.2 (nxt_some hn).1) (by rw [(nxt_some hn).2]; rfl) (by rw [h1.done]; rfl)
          omega
      omega
    · rw [if_neg hx] at e1
      omega

/-- What can be done is done ahead of the rest. -/
theorem visit_all (hg : Gr n ch d0 ok rk) (hem : ∀ k y x, (em k y).count x ≤ if x = k then 1 else 0) : ∀ (r : Nat) (k : Int), rk k < r → ok k = true → ∀ d : Int → Bool, (∀ x, d0 x = true → d x = true) → (∀ x, d x = true → ok x = true) → ∃ d' X, Vis em ch ok rk d k X d' := by
  intro r
  induction r with
  | zero => intro k hr; omega
  | succ r ih =>
    intro k hr hk
    have inner : ∀ (c : Nat) (d : Int → Bool), ((ch k).filter (fun x => !d x)).length ≤ c → (∀ x, d0 x = true → d x = true) → (∀ x, d x = true → ok x = true) → ∃ d' X, Vis em ch ok rk d k X d' := by
      intro c
      induction c with
      | zero =>
        intro d hc hlo hhi
        cases hd : d k
        · cases hn : nxt ch d k with
          | none => exact ⟨_, _, Vis.fin hem hd hn hk hhi⟩
          | some j =>
            have h1 : (ch k).filter (fun x => !d x) = [] := List.length_eq_zero_iff.1 (by omega)
            have h2 : j ∈ (ch k).filter (fun x => !d x) := List.mem_filter.2 ⟨(nxt_some hn).1, by rw [(nxt_some hn).2]; rfl⟩
            rw [h1] at h2
            cases h2
        · exact ⟨_, _, Vis.here hd hhi⟩
      | succ c ihc =>
        intro d hc hlo hhi
        cases hd : d k
        · cases hn : nxt ch d k with
          | none => exact ⟨_, _, Vis.fin hem hd hn hk hhi⟩
          | some j =>
            have hd0 : d0 k = false := by
              cases hx : d0 k
              · rfl
              · rw [hlo k hx] at hd; cases hd
            obtain ⟨hjo, hjr⟩ := hg.down k hk hd0 j (nxt_some hn).1
            obtain ⟨d1, X1, h1⟩ := ih j (by omega) hjo d hlo hhi
            have hlt : ((ch k).filter (fun x => !d1 x)).length < ((ch k).filter (fun x => !d x)).length := filt_lt (j := j) (fun x hx => by
              cases hdx : d x
              · rfl
              · rw [h1.mono x hdx] at hx; cases hx) (nxt_some hn).1 (by rw [(nxt_some hn).2]; rfl) (by rw [h1.done]; rfl)
            obtain ⟨d2, X2, h2⟩ := ihc d1 (by omega) (fun x hx => h1.mono x (hlo x hx)) h1.hi
            exact ⟨_, _, Vis.more hem hd hn hjr h1 h2⟩
        · exact ⟨_, _, Vis.here hd hhi⟩
    exact fun d => inner _ d (Nat.le_refl _)

/-- A queue of keys that can be done comes to its end. -/
theorem ends_all (hg : Gr n ch d0 ok rk) (hem : ∀ k y x, (em k y).count x ≤ if x = k then 1 else 0) : ∀ (q : List Int), (∀ k ∈ q, ok k = true) → ∀ d : Int → Bool, (∀ x, d0 x = true → d x = true) → (∀ x, d x = true → ok x = true) → ∃ o m, Ends em ch d q o m ∧ ∀ x, o.count x ≤ cnt ch d x
  | [], _, d, _, _ => ⟨[], 0, .nil d, by simp⟩
  | k :: q, hq, d, hlo, hhi => by
    obtain ⟨d', X, h⟩ := visit_all (em := em) hg hem (rk k + 1) k (Nat.lt_succ_self _) (hq k (by simp)) d hlo hhi
    obtain ⟨o, m, he, hf⟩ := ends_all hg hem q (fun x hx => hq x (by simp [hx])) d' (fun x hx => h.mono x (hlo x hx)) h.hi
    obtain ⟨m', he'⟩ := h.vis q o m he
    refine ⟨_, _, he', fun x => ?_⟩
    rw [List.count_append]
    have := h.few x
    have := hf x
    omega

open Classical in
/-- What is told of a queue. -/
noncomputable def endsL (em : Int → Option Int → List Int) (ch : Int → List Int) (d : Int → Bool) (q : List Int) : List Int := if h : ∃ o m, Ends em ch d q o m then h.choose else []
theorem endsL_eq (h : Ends em ch d q o m) : endsL em ch d q = o := by
  have hx : ∃ o m, Ends em ch d q o m := ⟨o, m, h⟩
  unfold endsL
  rw [dif_pos hx]
  obtain ⟨m', h'⟩ := hx.choose_spec
  exact (h'.det h).1

theorem len_count : ∀ (n : Nat) (l : List Int) (B : Nat), (∀ x ∈ l, 0 ≤ x ∧ x < n) → (∀ x, l.count x ≤ B) → l.length ≤ n * B
  | 0, l, B, h, _ => by
    cases l with
    | nil => simp
    | cons x r => have := h x (by simp); omega
  | n + 1, l, B, h, hB => by
    have h1 := len_count n (l.filter (fun x => x != (n : Int))) B (fun x hx => by
      rw [List.mem_filter] at hx
      have h2 := h x hx.1
      have h3 : x ≠ (n : Int) := by simpa using hx.2
      omega) (fun x => Nat.le_trans (List.Sublist.count_le x (List.filter_sublist)) (hB x))
    have h2 : l.length = (l.filter (fun x => x != (n : Int))).length + l.count (n : Int) := by
      clear h hB h1
      induction l with
      | nil => simp
      | cons x r ih =>
        rw [List.filter_cons, List.count_cons, List.length_cons]
        by_cases hx : x = (n : Int)
        · subst hx; simp; omega
        · have e : (x != (n : Int)) = true := by simpa using hx
          have e2 : (x == (n : Int)) = false := by simpa using hx
          rw [e, e2]; simp; omega
    have h3 := hB (n : Int)
    rw [Nat.succ_mul]
    omega
end
end Go.Proofs.Ytochgmbeomfkpaa
