/- keys that hang on keys: what is done by and by, and circles: plain words, no program -/
import Derived.WalkKit
namespace Go.Proofs.Ytklmpagpkeffjaa

/-- The first key that k hangs on and that is not in d. -/
def nxt (ch : Int → List Int) (d : Int → Bool) (k : Int) : Option Int := (ch k).find? (fun j => !d j)

theorem nxt_some {ch : Int → List Int} {d : Int → Bool} {k j : Int} (h : nxt ch d k = some j) : j ∈ ch k ∧ d j = false :=
  ⟨List.mem_of_find?_eq_some h, by have := List.find?_some h; simpa using this⟩
theorem nxt_none {ch : Int → List Int} {d : Int → Bool} {k : Int} (h : nxt ch d k = none) : ∀ j ∈ ch k, d j = true := fun j hj => by
  have := List.find?_eq_none.1 h j hj
  simpa using this
theorem find_mono {d d' : Int → Bool} {j : Int} : ∀ {l : List Int}, l.find? (fun x => !d x) = some j → (∀ x, d x = true → d' x = true) → d' j = false → l.find? (fun x => !d' x) = some j
  | [], h, _, _ => by cases h
  | x :: r, h, hd, hj => by
    rw [List.find?_cons] at h ⊢
    cases hx : d x
    · rw [hx] at h
      simp only [Bool.not_false] at h
      injection h with h
      subst h
      rw [hj]; rfl
    · rw [hx] at h
      simp only [Bool.not_true] at h
      rw [hd x hx]
      exact find_mono h hd hj
theorem nxt_mono {ch : Int → List Int} {d d' : Int → Bool} {k j : Int} (h : nxt ch d k = some j) (hd : ∀ x, d x = true → d' x = true) (hj : d' j = false) : nxt ch d' k = some j := find_mono h hd hj

theorem nodup_inj {l : List Int} (h : l.Nodup) {i j : Nat} {hi : i < l.length} {hj : j < l.length} (e : l[i] = l[j]) : i = j := by
  have hp := List.pairwise_iff_getElem.1 h
  rcases Nat.lt_trichotomy i j with hl | hl | hl
  · exact absurd e (hp i j hi hj hl)
  · exact hl
  · exact absurd e.symm (hp j i hj hi hl)

theorem nodup_bound : ∀ (n : Nat) (L : List Int), L.Nodup → (∀ x ∈ L, 0 ≤ x ∧ x < n) → L.length ≤ n
  | 0, L, _, h => by
    cases L with
    | nil => simp
    | cons x r => have := h x (by simp); omega
  | n + 1, L, hn, h => by
    by_cases hm : (n : Int) ∈ L
    · have h1 := nodup_bound n (L.erase n) (hn.erase _) (fun x hx => by
        have h2 := h x (List.mem_of_mem_erase hx)
        have h3 : x ≠ n := by rintro rfl; exact hn.not_mem_erase hx
        omega)
      rw [List.length_erase_of_mem hm] at h1
      have := List.length_pos_of_mem hm
      omega
    · have h1 := nodup_bound n L hn (fun x hx => by
        have h2 := h x hx
        have h3 : x ≠ n := by rintro rfl; exact hm hx
        omega)
      omega

/-- Keys below n of which d0 are done from the start on; ok are those that can be done, each behind what it hangs on. -/
structure Gr (n : Nat) (ch : Int → List Int) (d0 ok : Int → Bool) (rk : Int → Nat) : Prop where
  d0ok : ∀ k, d0 k = true → ok k = true
  inn : ∀ k, d0 k = false → 0 ≤ k ∧ k < n
  down : ∀ k, ok k = true → d0 k = false → ∀ j ∈ ch k, ok j = true ∧ rk j < rk k
  up : ∀ k, (∀ j ∈ ch k, ok j = true) → ok k = true

/-- Where finish stands: d is done, W waits. -/
structure Wt (ch : Int → List Int) (d0 ok d : Int → Bool) (first : Int) (W : List Int) : Prop where
  lo : ∀ k, d0 k = true → d k = true
  hi : ∀ k, d k = true → ok k = true
  out : ∀ k ∈ W, d k = false
  nod : W.Nodup
  chain : ∀ i (h : i + 1 < W.length), nxt ch d W[i] = some W[i + 1]
  nil : W = [] → d first = true
  hd : ∀ h : 0 < W.length, W[0] = first

section
variable {n : Nat} {ch : Int → List Int} {d0 ok d : Int → Bool} {rk : Int → Nat} {first : Int} {W : List Int}

theorem Wt.start (lo : ∀ k, d0 k = true → d k = true) (hi : ∀ k, d k = true → ok k = true) (hf : d first = false) : Wt ch d0 ok d first [first] :=
  ⟨lo, hi, by simpa using hf, by simp, fun i h => by simp at h, fun h => by simp at h, fun _ => rfl⟩

theorem Wt.len (hg : Gr n ch d0 ok rk) (h : Wt ch d0 ok d first W) : W.length ≤ n :=
  nodup_bound n W h.nod fun x hx => hg.inn x (by
    cases hx0 : d0 x
    · rfl
    · have := h.lo x hx0; rw [h.out x hx] at this; cases this)

def upd (d : Int → Bool) (k : Int) : Int → Bool := fun j => d j || decide (j = k)

theorem snoc_last {W : List Int} {m : Nat} (hm : W.length = m + 1) : W = W.take m ++ [W[m]] := by
  have := List.take_succ_eq_append_getElem (l := W) (i := m) (by omega)
  rwa [List.take_of_length_le (by omega)] at this

theorem Wt.pop (hg : Gr n ch d0 ok rk) (h : Wt ch d0 ok d first W) {m : Nat} (hm : W.length = m + 1) (hx : nxt ch d W[m] = none) : Wt ch d0 ok (upd d W[m]) first (W.take m) where
  lo k hk := by unfold upd; rw [h.lo k hk]; rfl
  hi k hk := by
    unfold upd at hk
    rw [Bool.or_eq_true] at hk
    rcases hk with hk | hk
    · exact h.hi k hk
    · obtain rfl := of_decide_eq_true hk
      exact hg.up _ fun j hj => h.hi j (nxt_none hx j hj)
  out k hk := by
    obtain ⟨i, hi, rfl⟩ := List.getElem_of_mem hk
    rw [List.length_take] at hi
    rw [List.getElem_take]
    unfold upd
    rw [h.out _ (List.getElem_mem _), Bool.false_or, decide_eq_false]
    intro e
    have := nodup_inj h.nod e
    omega
  nod := h.nod.sublist (List.take_sublist _ _)
  chain i hi := by
    rw [List.length_take] at hi
    rw [List.getElem_take, List.getElem_take]
    refine nxt_mono (h.chain i (by omega)) (fun x hx => by unfold upd; rw [hx]; rfl) ?_
    unfold upd
    rw [h.out _ (List.getElem_mem _), Bool.false_or, decide_eq_false]
    intro e
    have := nodup_inj h.nod e
    omega
  nil e := by
    have h0 : m = 0 := by
      have : (W.take m).length = 0 := by rw [e]; rfl
      rw [List.length_take] at this
      omega
    subst h0
    unfold upd
    rw [h.hd (by omega)]
    simp
  hd hl := by
    rw [List.length_take] at hl
    rw [List.getElem_take]
    exact h.hd (by omega)

theorem Wt.push (h : Wt ch d0 ok d first W) {m : Nat} (hm : W.length = m + 1) {j : Int} (hx : nxt ch d W[m] = some j) (hj : ¬ j ∈ W) : Wt ch d0 ok d first (W ++ [j]) where
  lo := h.lo
  hi := h.hi
  out k hk := by
    rw [List.mem_append] at hk
    rcases hk with hk | hk
    · exact h.out k hk
    · rw [List.mem_singleton] at hk; subst hk; exact (nxt_some hx).2
  nod := by
    rw [List.nodup_append]
    refine ⟨h.nod, by simp, fun a ha b hb => ?_⟩
    rw [List.mem_singleton] at hb
    subst hb
    rintro rfl
    exact hj ha
  chain i hi := by
    rw [List.length_append, List.length_singleton] at hi
    rw [List.getElem_append_left (by omega)]
    by_cases hl : i + 1 < W.length
    · rw [List.getElem_append_left hl]; exact h.chain i hl
    · obtain rfl : i = m := by omega
      rw [List.getElem_append_right (by omega)]
      simpa [hm] using hx
  nil e := by simp at e
  hd _ := by
    rw [List.getElem_append_left (by omega)]
    exact h.hd (by omega)

/-- How much is to be done yet. -/
def undone (d : Int → Bool) (n : Nat) : Nat := ((List.range n).filter fun (k : Nat) => !d (k : Int)).length
theorem undone_le (d : Int → Bool) (n : Nat) : undone d n ≤ n := by
  unfold undone
  have := List.length_filter_le (fun (k : Nat) => !d (k : Int)) (List.range n)
  simpa using this
theorem undone_upd (d : Int → Bool) (k : Int) : ∀ n : Nat, 0 ≤ k → k < n → d k = false → undone (upd d k) n + 1 = undone d n
  | 0, h0, h1, _ => by omega
  | n + 1, h0, h1, hd => by
    unfold undone
    rw [List.range_succ, List.filter_append, List.filter_append, List.length_append, List.length_append]
    by_cases hk : k < n
    · have h := undone_upd d k n h0 hk hd
      unfold undone at h
      have e : upd d k (n : Int) = d n := by unfold upd; rw [decide_eq_false (by omega), Bool.or_false]
      have e2 : List.filter (fun (j : Nat) => !upd d k (j : Int)) [n] = List.filter (fun (j : Nat) => !d (j : Int)) [n] := by simp [List.filter_cons, e]
      rw [e2]
      omega
    · obtain rfl : k = n := by omega
      have e : List.filter (fun (j : Nat) => !upd d (n : Int) (j : Int)) (List.range n) = List.filter (fun (j : Nat) => !d (j : Int)) (List.range n) := by
        refine List.filter_congr fun x hx => ?_
        rw [List.mem_range] at hx
        unfold upd
        rw [decide_eq_false (by omega), Bool.or_false]
      rw [e]
      simp [upd, hd]

/-- The keys that are being built when a key is fetched again: by the first ones that cannot be done. -/
def cyc (ch : Int → List Int) (ok : Int → Bool) : Nat → List Int → Int → List Int
  | 0, _, _ => []
  | f + 1, U, k => if k ∈ U then U.drop (U.idxOf k) else match nxt ch ok k with
    | some j => cyc ch ok f (U ++ [k]) j
    | none => []
def circ (n : Nat) (ch : Int → List Int) (ok : Int → Bool) (U : List Int) (k : Int) : List Int := cyc ch ok (n + 1 - U.length) U k

theorem circ_in {U : List Int} {k : Int} (hU : U.length ≤ n) (h : k ∈ U) : circ n ch ok U k = U.drop (U.idxOf k) := by
  unfold circ
  obtain ⟨f, hf⟩ : ∃ f, n + 1 - U.length = f + 1 := ⟨n - U.length, by omega⟩
  rw [hf, cyc, if_pos h]
theorem circ_next {U : List Int} {k j : Int} (hU : U.length ≤ n) (h : ¬ k ∈ U) (hx : nxt ch ok k = some j) : circ n ch ok U k = circ n ch ok (U ++ [k]) j := by
  unfold circ
  obtain ⟨f, hf⟩ : ∃ f, n + 1 - U.length = f + 1 := ⟨n - U.length, by omega⟩
  rw [hf, cyc, if_neg h, hx]
  simp only [List.length_append, List.length_singleton]
  congr 1
  omega

/-- A key that waits is fetched again: the first key cannot be done, and the circle is what waits from that one on. -/
theorem Wt.circle (hg : Gr n ch d0 ok rk) (h : Wt ch d0 ok d first W) {m : Nat} (hm : W.length = m + 1) {j : Int} (hx : nxt ch d W[m] = some j) (hj : j ∈ W) :
    ok first = false ∧ W.drop (W.idxOf j) = circ n ch ok [] first := by
  have hd0 : ∀ i (hi : i < W.length), d0 W[i] = false := fun i hi => by
    cases hx0 : d0 W[i]
    · rfl
    · have := h.lo _ hx0; rw [h.out _ (List.getElem_mem _)] at this; cases this
  have hnext : ∀ i (hi : i + 1 < W.length), ok W[i] = true → ok W[i + 1] = true ∧ rk W[i + 1] < rk W[i] := fun i hi hk =>
    hg.down _ hk (hd0 i (by omega)) _ (nxt_some (h.chain i hi)).1
  have hup : ∀ e i (hi : i + e < W.length), ok W[i] = true → ok W[i + e] = true ∧ rk W[i + e] ≤ rk W[i] := by
    intro e
    induction e with
    | zero => intro i hi hk; exact ⟨hk, Nat.le_refl _⟩
    | succ e ih =>
      intro i hi hk
      have h1 := ih i (by omega) hk
      have h2 := hnext (i + e) (by omega) h1.1
      exact ⟨h2.1, by have := h2.2; have := h1.2; simp only [← Nat.add_assoc]; omega⟩
  obtain ⟨i0, hi0, rfl⟩ := List.getElem_of_mem hj
  have hnj : ok W[i0] = false := by
    cases hk : ok W[i0]
    · rfl
    · exfalso
      have h1 := hup (m - i0) i0 (by omega) hk
      simp only [show i0 + (m - i0) = m by omega] at h1
      have h2 := hg.down _ h1.1 (hd0 m (by omega)) _ (nxt_some hx).1
      have := h1.2
      have := h2.2
      omega
  have hall : ∀ i (hi : i < W.length), ok W[i] = false := fun i hi => by
    cases hk : ok W[i]
    · rfl
    · exfalso
      by_cases hle : i ≤ i0
      · have h1 := hup (i0 - i) i (by omega) hk
        simp only [show i + (i0 - i) = i0 by omega] at h1
        rw [h1.1] at hnj
        cases hnj
      · have h1 := hup (m - i) i (by omega) hk
        simp only [show i + (m - i) = m by omega] at h1
        have h2 := hg.down _ h1.1 (hd0 m (by omega)) _ (nxt_some hx).1
        rw [h2.1] at hnj
        cases hnj
  have hok : ∀ i (hi : i + 1 < W.length), nxt ch ok W[i] = some W[i + 1] := fun i hi => nxt_mono (h.chain i hi) h.hi (hall _ hi)
  have hlast : nxt ch ok W[m] = some W[i0] := nxt_mono hx h.hi hnj
  have hlen := h.len hg
  have key : ∀ e i (hi : i < W.length), i + e = m → circ n ch ok (W.take i) W[i] = W.drop (W.idxOf W[i0]) := by
    intro e
    induction e with
    | zero =>
      intro i hi he
      obtain rfl : i = m := by omega
      have hni : ¬ W[i] ∈ W.take i := by
        intro hc
        obtain ⟨q, hq, hqe⟩ := List.getElem_of_mem hc
        rw [List.length_take] at hq
        rw [List.getElem_take] at hqe
        have := nodup_inj h.nod hqe
        omega
      rw [circ_next (by rw [List.length_take]; omega) hni hlast, ← snoc_last hm, circ_in hlen hj]
    | succ e ih =>
      intro i hi he
      have hni : ¬ W[i] ∈ W.take i := by
        intro hc
        obtain ⟨q, hq, hqe⟩ := List.getElem_of_mem hc
        rw [List.length_take] at hq
        rw [List.getElem_take] at hqe
        have := nodup_inj h.nod hqe
        omega
      rw [circ_next (by rw [List.length_take]; omega) hni (hok i (by omega)), ← List.take_succ_eq_append_getElem hi]
      exact ih (i + 1) (by omega) (by omega)
  have h0 := hd0 0 (by omega)
  have h1 := hall 0 (by omega)
  have h2 := key m 0 (by omega) (by omega)
  rw [h.hd (by omega)] at h1 h2
  exact ⟨h1, h2.symm⟩

/-- What may stand under a key: each can be done only behind it. -/
def Hyp (d0 ok : Int → Bool) (rk : Int → Nat) (U : List Int) (k : Int) : Prop := ∀ u ∈ U, d0 u = false ∧ (ok u = true → ok k = true ∧ rk k < rk u)
theorem Hyp.not (h : Hyp d0 ok rk W first) (hk : first ∈ W) : ok first = false := by
  cases ho : ok first
  · rfl
  · have := ((h first hk).2 ho).2; omega
theorem Hyp.next (hg : Gr n ch d0 ok rk) {U : List Int} {k j : Int} (h : Hyp d0 ok rk U k) (hk : d0 k = false) (hj : j ∈ ch k) : Hyp d0 ok rk (U ++ [k]) j := by
  intro u hu
  rw [List.mem_append] at hu
  rcases hu with hu | hu
  · refine ⟨(h u hu).1, fun ho => ?_⟩
    obtain ⟨h1, h2⟩ := (h u hu).2 ho
    obtain ⟨h3, h4⟩ := hg.down k h1 hk j hj
    exact ⟨h3, by omega⟩
  · rw [List.mem_singleton] at hu
    subst hu
    exact ⟨hk, fun ho => hg.down u ho hk j hj⟩
theorem Hyp.nil {k : Int} : Hyp d0 ok rk [] k := fun u hu => by simp at hu
end
end Go.Proofs.Ytklmpagpkeffjaa
