/- what is not built any more: plain words, no program -/
import Derived.Test.YthjfmpeicjmlkaaStP
import Derived.Test.YthjfmpeicjmlkaaBelS
namespace Go.Proofs.Ythjfmpeicjmlkaa

section
/-- From a key something lies on some way. -/
inductive LT (ch : Nat → List Int) (p : Int → Bool) : Nat → Prop
  | base {k : Nat} {j : Int} : j ∈ ch k → p j = true → LT ch p k
  | step {k j : Nat} : (j : Int) ∈ ch k → LT ch p j → LT ch p k
variable {ch : Nat → List Int} {p : Int → Bool} {n : Nat}
/-- Whether one of a key's list is marked, or is such a one. -/
def anyC (ch : Nat → List Int) (p : Int → Bool) (m : Nat → Bool) (k : Nat) : Bool := (ch k).any fun j => m j.toNat || p j
def stpC (ch : Nat → List Int) (p : Int → Bool) (m : Nat → Bool) (k : Nat) : Nat → Bool := fun i => if i = k then m k || anyC ch p m k else m i
def stepsC (ch : Nat → List Int) (p : Int → Bool) (m : Nat → Bool) : Nat → Nat → Bool
  | 0 => m
  | q + 1 => stpC ch p (stepsC ch p m q) q
def rndC (ch : Nat → List Int) (p : Int → Bool) (n : Nat) : Nat → Nat → Bool
  | 0 => fun _ => false
  | r + 1 => stepsC ch p (rndC ch p n r) n
def cntC (m : Nat → Bool) : Nat → Nat
  | 0 => 0
  | n + 1 => cntC m n + if m n = true then 1 else 0
def ClosedC (ch : Nat → List Int) (p : Int → Bool) (n : Nat) (m : Nat → Bool) : Prop := ∀ k, k < n → anyC ch p m k = true → m k = true

theorem anyC_mono {m m' : Nat → Bool} (h : ∀ i, m i = true → m' i = true) (k : Nat) (hk : anyC ch p m k = true) : anyC ch p m' k = true := by
  unfold anyC at hk ⊢
  rw [List.any_eq_true] at hk ⊢
  obtain ⟨j, hj, he⟩ := hk
  refine ⟨j, hj, ?_⟩
  rw [Bool.or_eq_true] at he ⊢
  exact he.imp (h _) id
theorem stpC_mono (m : Nat → Bool) (k i : Nat) (h : m i = true) : stpC ch p m k i = true := by
  unfold stpC
  split
  · subst_vars; rw [h]; rfl
  · exact h
theorem stepsC_mono (m : Nat → Bool) (q e i : Nat) (h : stepsC ch p m q i = true) : stepsC ch p m (q + e) i = true := by
  induction e with
  | zero => exact h
  | succ e ih => exact stpC_mono _ _ _ ih
theorem stepsC_from (m : Nat → Bool) (q i : Nat) (h : m i = true) : stepsC ch p m q i = true := by
  have := stepsC_mono (ch := ch) (p := p) m 0 q i h
  rwa [Nat.zero_add] at this
theorem stepsC_closed {m : Nat → Bool} (hc : ClosedC ch p n m) : ∀ q, q ≤ n → stepsC ch p m q = m
  | 0, _ => rfl
  | q + 1, hq => by
    show stpC ch p (stepsC ch p m q) q = m
    rw [stepsC_closed hc q (by omega)]
    funext i
    unfold stpC
    split
    · rename_i e
      rw [e]
      cases hm : m q
      · cases ha : anyC ch p m q
        · rfl
        · rw [hc q (by omega) ha] at hm; cases hm
      · rfl
    · rfl
theorem stepsC_grows {m : Nat → Bool} (hc : ¬ ClosedC ch p n m) : ∃ k, k < n ∧ m k = false ∧ stepsC ch p m n k = true := by
  obtain ⟨k, hk⟩ := Classical.not_forall.1 hc
  obtain ⟨hkn, hk⟩ := Classical.not_imp.1 hk
  obtain ⟨ha, hm⟩ := Classical.not_imp.1 hk
  refine ⟨k, hkn, by simpa using hm, ?_⟩
  have h1 : stepsC ch p m (k + 1) k = true := by
    show stpC ch p (stepsC ch p m k) k k = true
    unfold stpC
    rw [if_pos rfl, anyC_mono (fun i hi => stepsC_from m k i hi) k ha, Bool.or_true]
  have := stepsC_mono m (k + 1) (n - (k + 1)) k h1
  rwa [show k + 1 + (n - (k + 1)) = n by omega] at this
theorem cntC_mono {m m' : Nat → Bool} (h : ∀ i, m i = true → m' i = true) : ∀ n, cntC m n ≤ cntC m' n
  | 0 => Nat.le_refl _
  | n + 1 => by
    have := cntC_mono h n
    unfold cntC
    cases hm : m n
    · simp; omega
    · rw [h n hm]; simp; omega
theorem cntC_grow {m m' : Nat → Bool} (h : ∀ i, m i = true → m' i = true) {k : Nat} (h0 : m k = false) (h1 : m' k = true) : ∀ n, k < n → cntC m n + 1 ≤ cntC m' n
  | 0, hk => by omega
  | n + 1, hk => by
    unfold cntC
    by_cases e : k = n
    · subst e
      have := cntC_mono h k
      rw [h0, h1]; simp; omega
    · have := cntC_grow h h0 h1 n (by omega)
      cases hm : m n
      · simp; omega
      · rw [h n hm]; simp; omega
theorem cntC_le (m : Nat → Bool) : ∀ n, cntC m n ≤ n
  | 0 => Nat.le_refl _
  | n + 1 => by
    have := cntC_le m n
    unfold cntC
    split <;> omega
theorem cntC_true : ∀ n, cntC (fun _ => true) n = n
  | 0 => rfl
  | n + 1 => by unfold cntC; rw [cntC_true n]; rfl
theorem cntC_all {m : Nat → Bool} (h : n ≤ cntC m n) (k : Nat) (hk : k < n) : m k = true := by
  cases hm : m k
  · have := cntC_grow (m := m) (m' := fun _ => true) (fun _ _ => rfl) hm rfl n hk
    rw [cntC_true] at this
    omega
  · rfl
theorem rndC_inv (r : Nat) : ClosedC ch p n (rndC ch p n r) ∨ r ≤ cntC (rndC ch p n r) n := by
  induction r with
  | zero => exact .inr (Nat.zero_le _)
  | succ r ih =>
    by_cases hc : ClosedC ch p n (rndC ch p n r)
    · left
      show ClosedC ch p n (stepsC ch p (rndC ch p n r) n)
      rw [stepsC_closed hc n (Nat.le_refl _)]
      exact hc
    · right
      have h1 := ih.resolve_left hc
      obtain ⟨k, hk, h0, h2⟩ := stepsC_grows hc
      have := cntC_grow (m := rndC ch p n r) (m' := rndC ch p n (r + 1)) (fun i hi => stepsC_from _ n i hi) h0 h2 n hk
      omega
theorem rndC_closed : ClosedC ch p n (rndC ch p n n) := by
  rcases rndC_inv (ch := ch) (p := p) (n := n) n with h | h
  · exact h
  · exact fun k hk _ => cntC_all h k hk
def SndC (ch : Nat → List Int) (p : Int → Bool) (m : Nat → Bool) : Prop := ∀ k, m k = true → LT ch p k
theorem anyC_snd {m : Nat → Bool} (hp : ∀ k, ∀ j ∈ ch k, 0 ≤ j) (h : SndC ch p m) {k : Nat} (ha : anyC ch p m k = true) : LT ch p k := by
  unfold anyC at ha
  rw [List.any_eq_true] at ha
  obtain ⟨j, hj, he⟩ := ha
  rw [Bool.or_eq_true] at he
  have h0 := hp k j hj
  rcases he with he | he
  · obtain ⟨jn, rfl⟩ : ∃ jn : Nat, j = jn := ⟨j.toNat, by omega⟩
    exact .step hj (h _ he)
  · exact .base hj he
theorem stpC_snd {m : Nat → Bool} (hp : ∀ k, ∀ j ∈ ch k, 0 ≤ j) (h : SndC ch p m) (k : Nat) : SndC ch p (stpC ch p m k) := by
  intro i hi
  unfold stpC at hi
  split at hi
  · subst_vars
    rw [Bool.or_eq_true] at hi
    rcases hi with hi | hi
    · exact h _ hi
    · exact anyC_snd hp h hi
  · exact h _ hi
theorem stepsC_snd {m : Nat → Bool} (hp : ∀ k, ∀ j ∈ ch k, 0 ≤ j) (h : SndC ch p m) (q : Nat) : SndC ch p (stepsC ch p m q) := by
  induction q with
  | zero => exact h
  | succ q ih => exact stpC_snd hp ih q
theorem rndC_snd (hp : ∀ k, ∀ j ∈ ch k, 0 ≤ j) (r : Nat) : SndC ch p (rndC ch p n r) := by
  induction r with
  | zero => exact fun k hk => by cases hk
  | succ r ih => exact stepsC_snd hp ih n
/-- Behind as many rounds as there are keys all that is on some way is marked, and nothing else. -/
theorem rndC_iff (hp : ∀ k, ∀ j ∈ ch k, 0 ≤ j) (he : ∀ k, n ≤ k → ch k = []) (k : Nat) : rndC ch p n n k = true ↔ LT ch p k := by
  constructor
  · exact rndC_snd hp n k
  · intro h
    have hlt : ∀ k, LT ch p k → k < n := fun k h => by
      by_cases hk : k < n
      · exact hk
      · have := he k (by omega)
        cases h with
        | base h1 _ => rw [this] at h1; cases h1
        | step h1 _ => rw [this] at h1; cases h1
    have hc := rndC_closed (ch := ch) (p := p) (n := n)
    induction h with
    | base h1 h2 =>
      refine hc _ (hlt _ (.base h1 h2)) ?_
      unfold anyC
      rw [List.any_eq_true]
      exact ⟨_, h1, by rw [h2, Bool.or_true]⟩
    | step h1 h2 ih =>
      refine hc _ (hlt _ (.step h1 h2)) ?_
      unfold anyC
      rw [List.any_eq_true]
      exact ⟨_, h1, by rw [Int.toNat_natCast, ih]; rfl⟩
end

/-- What a task of a sheet may fetch. -/
def chT (s : Sh) (k : Nat) : List Int := mayI (s.tk k) 10
/-- An input that turns. -/
def tuB (s : Sh) (o y : List Int) (j : Int) : Bool := decide (0 ≤ j) && (decide (j < s.m.length) && (!s.md j.toNat && decide (y.getD j.toNat 0 ≠ o.getD j.toNat 0)))
def tuL (s : Sh) (o y : List Int) (k : Nat) : List Int := ((List.range k).filter fun (j : Nat) => tuB s o y (j : Int)).map fun (j : Nat) => (j : Int)
theorem tuL_mem {s : Sh} {o y : List Int} {j : Int} : j ∈ tuL s o y s.m.length ↔ tuB s o y j = true := by
  unfold tuL
  rw [List.mem_map]
  constructor
  · rintro ⟨a, h, rfl⟩
    exact (List.mem_filter.1 h).2
  · intro h
    have h' := h
    unfold tuB at h
    rw [Bool.and_eq_true, Bool.and_eq_true, decide_eq_true_eq, decide_eq_true_eq] at h
    have e : ((j.toNat : Nat) : Int) = j := by omega
    exact ⟨j.toNat, List.mem_filter.2 ⟨List.mem_range.2 (by omega), by rw [e]; exact h'⟩, e⟩
theorem fl_succ (q : Nat → Bool) (k : Nat) : ((List.range (k + 1)).filter q).map (fun (j : Nat) => (j : Int)) = ((List.range k).filter q).map (fun (j : Nat) => (j : Int)) ++ (if q k = true then [(k : Int)] else []) := by
  rw [List.range_succ, List.filter_append, List.map_append]
  congr 1
  by_cases h : q k = true
  · simp [h]
  · simp [h]
theorem fl_cut (q : Nat → Bool) (n e : Nat) (h : ∀ k, n ≤ k → q k = false) : (List.range (n + e)).filter q = (List.range n).filter q := by
  induction e with
  | zero => rfl
  | succ e ih =>
    rw [← Nat.add_assoc, List.range_succ, List.filter_append, ih]
    simp [h (n + e) (by omega)]
theorem fl_len (q : Nat → Bool) (k : Nat) : (((List.range k).filter q).map (fun (j : Nat) => (j : Int))).length ≤ k := by
  rw [List.length_map]
  have := List.length_filter_le q (List.range k)
  rwa [List.length_range] at this
theorem fl_bd {q : Nat → Bool} {k : Nat} : ∀ x ∈ ((List.range k).filter q).map (fun (j : Nat) => (j : Int)), 0 ≤ x ∧ x < k := by
  intro x hx
  obtain ⟨a, h, rfl⟩ := List.mem_map.1 hx
  have := List.mem_range.1 (List.mem_filter.1 h).1
  omega

/-- The marks of the program's rounds. -/
def leadB (s : Sh) (p : Int → Bool) (k : Nat) : Bool := rndC (chT s) p s.m.length s.m.length k
def leadL (s : Sh) (p : Int → Bool) (n : Nat) : List Int := ((List.range n).filter (leadB s p)).map fun (j : Nat) => (j : Int)
theorem chT_out {s : Sh} (hok : s.ok = true) (k : Nat) (h : s.m.length ≤ k) : chT s k = [] := by
  have := (Sh.ok_iff.1 hok).2.1
  have e : s.tk k = .mk 0 0 [] := by unfold Sh.tk; rw [List.getD_eq_getElem?_getD, List.getElem?_eq_none (by omega)]; rfl
  unfold chT
  rw [e]
  rfl
theorem chT_in {s : Sh} (hok : s.ok = true) (k : Nat) (h : s.md k = false) : chT s k = [] := by
  by_cases hk : k < s.m.length
  · have h2 := (Sh.ok_iff.1 hok).2.2 k hk
    unfold Sh.kok kOk at h2
    rw [h, if_neg (by decide)] at h2
    unfold chT
    rw [zt_eq h2]
    rfl
  · exact chT_out hok k (by omega)
theorem chT_pos (s : Sh) : ∀ k, ∀ j ∈ chT s k, 0 ≤ j := fun _ _ hj => (mayI_mem.1 hj).1
theorem leadB_iff {s : Sh} (hok : s.ok = true) (p : Int → Bool) (k : Nat) : leadB s p k = true ↔ LT (chT s) p k := rndC_iff (chT_pos s) (chT_out hok) k
theorem leadB_out {s : Sh} (hok : s.ok = true) (p : Int → Bool) (k : Nat) (h : s.m.length ≤ k) : leadB s p k = false := by
  cases hl : leadB s p k
  · rfl
  · have := (leadB_iff hok p k).1 hl
    cases this with
    | base h1 _ => rw [chT_out hok k h] at h1; cases h1
    | step h1 _ => rw [chT_out hok k h] at h1; cases h1
theorem leadL_cut {s : Sh} (hok : s.ok = true) (p : Int → Bool) : leadL s p 10 = leadL s p s.m.length := by
  have h10 := (Sh.ok_iff.1 hok).1
  unfold leadL
  rw [show 10 = s.m.length + (10 - s.m.length) by omega, fl_cut _ _ _ (leadB_out hok p)]

/-- Whether a key may fetch such a one: as the model asks. -/
def hgB (s : Sh) (p : Int → Bool) (k : Nat) : Bool := (chT s k).any p
/-- Whether from a key something lies on some way, as the model asks: by all that is below. -/
theorem below_iff {s : Sh} (hok : s.ok = true) (p : Int → Bool) (k : Nat) (hm : s.md k = true) : (∃ m : Nat, m < s.m.length ∧ Rch s.mdI (chL s) [(k : Int)] (m : Int) ∧ hgB s p m = true) ↔ leadB s p k = true := by
  rw [leadB_iff hok]
  constructor
  · rintro ⟨m, hml, hr, hh⟩
    have h1 : LT (chT s) p m := by
      unfold hgB at hh
      rw [List.any_eq_true] at hh
      obtain ⟨j, hj, hp⟩ := hh
      exact .base hj hp
    have key : ∀ x : Int, Rch s.mdI (chL s) [(k : Int)] x → ∀ m : Nat, x = m → LT (chT s) p m → LT (chT s) p k := by
      intro x hx
      induction hx with
      | base h2 _ =>
        intro m hm hl
        rw [List.mem_singleton] at h2
        have : m = k := by omega
        rw [← this]; exact hl
      | @step j c hj hc hmc ih =>
        intro m hm hl
        have hjb := mdI_bd hj.made
        obtain ⟨jn, rfl⟩ : ∃ jn : Nat, j = jn := ⟨j.toNat, by omega⟩
        subst hm
        rw [chL_nat] at hc
        exact ih jn rfl (.step (by unfold l3L at hc; exact (List.mem_filter.1 hc).1) hl)
    exact key _ hr m rfl h1
  · intro h
    induction h with
    | @base k j h1 h2 =>
      have hkl := mdI_bd (s := s) (k := (k : Int)) (by rw [mdI_nat]; exact hm)
      exact ⟨k, by omega, .base (by simp) (by rw [mdI_nat]; exact hm), by unfold hgB; rw [List.any_eq_true]; exact ⟨j, h1, h2⟩⟩
    | @step k j h1 h2 ih =>
      have hmj : s.md j = true := by
        cases hj : s.md j
        · cases h2 with
          | base h3 _ => rw [chT_in hok j hj] at h3; cases h3
          | step h3 _ => rw [chT_in hok j hj] at h3; cases h3
        · rfl
      obtain ⟨m, hml, hr, hh⟩ := ih hmj
      refine ⟨m, hml, ?_, hh⟩
      have hjl := mdI_bd (s := s) (k := (j : Int)) (by rw [mdI_nat]; exact hmj)
      have hc : (j : Int) ∈ chL s (k : Int) := by
        rw [chL_nat]
        unfold l3L
        rw [List.mem_filter]
        refine ⟨h1, ?_⟩
        unfold l3p
        rw [mdI_nat, hmj, decide_eq_true hjl.2]; rfl
      exact (hr.mono (ks' := chL s (k : Int)) (fun x hx => by rw [List.mem_singleton] at hx; rw [hx]; exact hc)).under (by rw [mdI_nat]; exact hm)

/-- What is not built any more. -/
def dkB (s : Sh) (x : St) (y : List Int) (k : Nat) : Bool := x.b.getD k false && leadB s (tuB s x.i y) k
def dkL (s : Sh) (x : St) (y : List Int) (n : Nat) : List Int := ((List.range n).filter (dkB s x y)).map fun (j : Nat) => (j : Int)
def dkO (s : Sh) (x : St) (y : List Int) : List Int := if (stOk s x && inOk s y) = true then dkL s x y s.m.length else []
theorem dk_of_lead (s : Sh) (x : St) (y : List Int) (n : Nat) : (leadL s (tuB s x.i y) n).filter (fun j => x.b.getD j.toNat false) = dkL s x y n := by
  unfold leadL dkL dkB
  induction n with
  | zero => rfl
  | succ n ih =>
    rw [fl_succ, fl_succ, List.filter_append, ih]
    congr 1
    cases h1 : leadB s (tuB s x.i y) n <;> cases h2 : x.b.getD n false <;> simp only [h2, Bool.false_eq_true, if_true, if_false, Bool.and_true, Bool.and_false, Bool.and_self, List.filter_nil, List.filter_cons, Int.toNat_natCast]
end Go.Proofs.Ythjfmpeicjmlkaa
