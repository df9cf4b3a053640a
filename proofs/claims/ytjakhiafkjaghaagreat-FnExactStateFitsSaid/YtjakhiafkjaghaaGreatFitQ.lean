/- states that fit a way: plain words -/
import Derived.Test.YtjakhiafkjaghaaGreatStP
import Derived.Test.YtjakhiafkjaghaaGreatStOkI
import Derived.Test.YtjakhiafkjaghaaGreatBuildI
import Derived.Test.YtjakhiafkjaghaaGreatSafeI
namespace Go.Proofs.YtjakhiafkjaghaaGreat

section
variable (s : Sh) (x : St)
/-- A key, if it was built, has the value that it has from nothing with the inputs of the last build. -/
noncomputable def clnK (k : Nat) : Bool := !x.b.getD k false || (bkOk s x.i k && decide (bkV s x.i k = x.v.getD k 0))
noncomputable def cleanB : Bool := (List.range s.m.length).all (clnK s x)
def trcT (k : Nat) (t : Tr) : Bool := !decide (t.k = (k : Int)) || (x.b.getD k false && decide (t.v = x.v.getD k 0))
def cntL (l : List Tr) (k : Nat) : Nat := (l.filter fun t => decide (t.k = (k : Int))).length
/-- A key that was built has just one trace, whose value is its own; one that was not has none. -/
def trcK (k : Nat) : Bool := x.t.all (trcT x k) && (decide (cntL x.t k = 1) || !x.b.getD k false)
def traced : Bool := (List.range s.m.length).all (trcK x)
def hasK (l : List Tr) (k : Nat) : Bool := l.any fun t => decide (t.k = (k : Int))
def firstV (l : List Tr) (k : Nat) : Int := match l.find? (fun t => decide (t.k = (k : Int))) with | some t => t.v | none => 0
def verK (k : Nat) : Bool := decide (x.b.getD k false = hasK x.t k) && (!hasK x.t k || decide (firstV x.t k = x.v.getD k 0))
def verN (n : Nat) : Nat := ((List.range n).filter (hasK x.t)).length
def verB (n : Nat) : Bool := (List.range n).all (verK x) && decide (verN x n = x.t.length)
/-- What was used, in so many places, and 0 in all others. -/
def backN (n : Nat) (l : List (Int × Int)) : List Int := l.foldl (fun acc p => acc.set p.1.toNat p.2) (List.replicate n 0)
def deepP (p : Int × Int) : Bool := !s.mdI p.1 && (decide (p.1 < s.m.length) || decide (p.2 = 0))
noncomputable def deepV (t : Tr) : Bool := bkOk s (backN s.m.length t.u) t.k && decide (bkV s (backN s.m.length t.u) t.k = t.v)
noncomputable def deepT (t : Tr) : Bool := t.u.all (deepP s) && deepV s t
noncomputable def fitB (way : Int) : Bool :=
  if way = 0 then decide (x.t.length = 0) && (!safeB s || cleanB s x) else if way = 1 then honest s x.t && traced s x else if way = 2 then honest s x.t else if way = 3 then x.t.all (deepT s) else false
noncomputable def stFits (way : Int) : Bool := stOk s x && fitB s x way
end

theorem stOk_of {s : Sh} {x : St} (h : stOk s x = true) : s.ok = true ∧ x.fitN s.m.length ∧ trsOk x.t = true ∧ ∀ t ∈ x.t, s.mdI t.k = true := by
  unfold stOk at h
  rw [Bool.and_eq_true, Bool.and_eq_true, Bool.and_eq_true] at h
  obtain ⟨h1, h2, _, h4⟩ := h
  obtain ⟨a1, a2, _, _, a5⟩ := stA_of h1
  unfold stL at h2
  rw [Bool.and_eq_true, decide_eq_true_eq, decide_eq_true_eq] at h2
  unfold stT at h4
  rw [List.all_eq_true] at h4
  exact ⟨a1, ⟨h2, a2⟩, a5, h4⟩

theorem backN_len : ∀ (l : List (Int × Int)) (n : Nat), (backN n l).length = n := by
  intro l n
  unfold backN
  rw [foldl_back_len]; simp
theorem backN_snoc {n : Nat} {l : List (Int × Int)} {k : Nat} (h : k < l.length) : backN n (l.take (k + 1)) = (backN n (l.take k)).set l[k].1.toNat l[k].2 := by
  unfold backN; rw [List.take_succ_eq_append_getElem h, List.foldl_append]; rfl
theorem backN_mem {n : Nat} {l : List (Int × Int)} (h : ∀ p ∈ l, 0 ≤ p.2 ∧ p.2 ≤ 96) : ∀ y ∈ backN n l, 0 ≤ y ∧ y ≤ 96 :=
  foldl_back_mem l _ h (fun y hy => by rw [List.eq_of_mem_replicate hy]; omega)
theorem foldl_take (n : Nat) : ∀ (l : List (Int × Int)) (acc : List Int), (l.foldl (fun acc p => acc.set p.1.toNat p.2) acc).take n = l.foldl (fun acc p => acc.set p.1.toNat p.2) (acc.take n)
  | [], _ => rfl
  | p :: r, acc => by rw [List.foldl_cons, foldl_take n r, List.foldl_cons, List.take_set]
theorem backF_take {n : Nat} (hn : n ≤ 10) (l : List (Int × Int)) : (backF l).take n = backN n l := by
  unfold backF backN
  rw [foldl_take, List.take_replicate, Nat.min_eq_left hn]

-- counts
def sumR (n : Nat) (f : Nat → Nat) : Nat := match n with | 0 => 0 | n + 1 => sumR n f + f n
theorem sumR_add (f g : Nat → Nat) : ∀ n, sumR n (fun k => f k + g k) = sumR n f + sumR n g
  | 0 => rfl
  | n + 1 => by simp only [sumR, sumR_add f g n]; omega
theorem sumR_congr {f g : Nat → Nat} : ∀ n, (∀ k, k < n → f k = g k) → sumR n f = sumR n g
  | 0, _ => rfl
  | n + 1, h => by simp only [sumR]; rw [sumR_congr n (fun k hk => h k (by omega)), h n (by omega)]
theorem sumR_le {f g : Nat → Nat} : ∀ n, (∀ k, k < n → f k ≤ g k) → sumR n f ≤ sumR n g
  | 0, _ => Nat.le_refl _
  | n + 1, h => by have := sumR_le n (fun k hk => h k (by omega)); have := h n (by omega); simp only [sumR]; omega
theorem sumR_eq {f g : Nat → Nat} : ∀ n, (∀ k, k < n → f k ≤ g k) → sumR n f = sumR n g → ∀ k, k < n → f k = g k
  | 0, _, _, k, hk => by omega
  | n + 1, h, he, k, hk => by
    have h1 := sumR_le n (fun k hk => h k (by omega))
    have h2 := h n (by omega)
    simp only [sumR] at he
    by_cases hkn : k = n
    · subst hkn; omega
    · exact sumR_eq n (fun k hk => h k (by omega)) (by omega) k (by omega)
theorem sumR_zero : ∀ n, sumR n (fun _ => 0) = 0
  | 0 => rfl
  | n + 1 => by simp only [sumR, sumR_zero n]
theorem sumR_one (q : Int) : ∀ n : Nat, 0 ≤ q → q < n → sumR n (fun k => if q = (k : Int) then 1 else 0) = 1
  | 0, h0, h1 => by omega
  | n + 1, h0, h1 => by
    simp only [sumR]
    by_cases hq : q = (n : Int)
    · rw [if_pos hq, sumR_congr (g := fun _ => 0) n (fun k hk => by rw [if_neg (by omega)]), sumR_zero]
    · rw [if_neg hq, sumR_one q n h0 (by omega)]
theorem cntL_cons (t : Tr) (l : List Tr) (k : Nat) : cntL (t :: l) k = (if t.k = (k : Int) then 1 else 0) + cntL l k := by
  unfold cntL
  rw [List.filter_cons]
  by_cases h : t.k = (k : Int)
  · rw [if_pos (by simpa using h), if_pos h, List.length_cons]; omega
  · rw [if_neg (by simpa using h), if_neg h]; omega
theorem sum_cnt (n : Nat) : ∀ l : List Tr, (∀ t ∈ l, 0 ≤ t.k ∧ t.k < n) → sumR n (cntL l) = l.length
  | [], _ => by rw [sumR_congr (f := cntL []) (g := fun _ => 0) n (fun k _ => rfl), sumR_zero]; rfl
  | t :: l, h => by
    have h1 := h t (by simp)
    rw [sumR_congr (g := fun k => (if t.k = (k : Int) then 1 else 0) + cntL l k) n (fun k _ => cntL_cons t l k), sumR_add, sumR_one t.k n h1.1 h1.2, sum_cnt n l (fun u hu => h u (by simp [hu])), List.length_cons]; omega
theorem hasK_cnt (l : List Tr) (k : Nat) : hasK l k = decide (0 < cntL l k) := by
  induction l with
  | nil => rfl
  | cons t r ih =>
    rw [cntL_cons]
    unfold hasK at ih ⊢
    rw [List.any_cons, ih]
    by_cases h : t.k = (k : Int)
    · have h2 : decide (0 < 1 + cntL r k) = true := decide_eq_true (by omega)
      rw [decide_eq_true h, if_pos h, h2]; rfl
    · rw [decide_eq_false h, if_neg h, Nat.zero_add]; rfl
theorem verN_succ (x : St) (n : Nat) : verN x (n + 1) = verN x n + (if hasK x.t n = true then 1 else 0) := by
  unfold verN
  rw [List.range_succ, List.filter_append, List.length_append]
  congr 1
  rw [List.filter_cons]
  split <;> simp
theorem verN_sum (x : St) : ∀ n, verN x n = sumR n (fun k => if hasK x.t k = true then 1 else 0)
  | 0 => rfl
  | n + 1 => by rw [verN_succ, verN_sum x n]; rfl
theorem cnt_one {l : List Tr} {k : Nat} (h : cntL l k ≤ 1) {t : Tr} (ht : t ∈ l) (hk : t.k = (k : Int)) : t.v = firstV l k := by
  induction l with
  | nil => cases ht
  | cons u r ih =>
    rw [cntL_cons] at h
    unfold firstV at ih ⊢
    rw [List.find?_cons]
    by_cases hu : u.k = (k : Int)
    · rw [if_pos hu] at h
      rw [decide_eq_true hu]
      rw [List.mem_cons] at ht
      rcases ht with rfl | ht
      · rfl
      · exfalso
        have h1 : hasK r k = true := by unfold hasK; rw [List.any_eq_true]; exact ⟨t, ht, decide_eq_true hk⟩
        rw [hasK_cnt, decide_eq_true_eq] at h1
        omega
    · rw [if_neg hu] at h
      rw [decide_eq_false hu]
      rw [List.mem_cons] at ht
      rcases ht with rfl | ht
      · exact absurd hk hu
      · exact ih (by omega) ht
theorem firstV_mem {l : List Tr} {k : Nat} (h : hasK l k = true) : ∃ t ∈ l, t.k = (k : Int) ∧ t.v = firstV l k := by
  unfold firstV
  cases hf : l.find? (fun t => decide (t.k = (k : Int))) with
  | some t => exact ⟨t, List.mem_of_find?_eq_some hf, by simpa using List.find?_some hf, rfl⟩
  | none =>
    exfalso
    rw [List.find?_eq_none] at hf
    unfold hasK at h
    rw [List.any_eq_true] at h
    obtain ⟨t, ht, hk⟩ := h
    exact hf t ht hk
theorem traced_eq {s : Sh} {x : St} (hk : ∀ t ∈ x.t, s.mdI t.k = true) : traced s x = verB x s.m.length := by
  have hb : ∀ t ∈ x.t, 0 ≤ t.k ∧ t.k < s.m.length := fun t ht => mdI_bd (hk t ht)
  have hsum := sum_cnt s.m.length x.t hb
  rw [Bool.eq_iff_iff]
  unfold traced verB
  rw [Bool.and_eq_true, List.all_eq_true, List.all_eq_true, decide_eq_true_eq]
  constructor
  · intro h
    have hone : ∀ k, k < s.m.length → x.b.getD k false = hasK x.t k ∧ cntL x.t k = (if hasK x.t k = true then 1 else 0) ∧ (hasK x.t k = true → firstV x.t k = x.v.getD k 0) := by
      intro k hkn
      have h1 := h k (List.mem_range.2 hkn)
      unfold trcK at h1
      rw [Bool.and_eq_true, List.all_eq_true, Bool.or_eq_true, decide_eq_true_eq] at h1
      obtain ⟨h1, h2⟩ := h1
      cases hh : hasK x.t k
      · have hc : cntL x.t k = 0 := by have := hh; rw [hasK_cnt, decide_eq_false_iff_not] at this; omega
        refine ⟨?_, by rw [hc]; rfl, fun h => by cases h⟩
        rcases h2 with h2 | h2
        · omega
        · simpa using h2
      · obtain ⟨t, ht, htk, htv⟩ := firstV_mem hh
        have h3 := h1 t ht
        unfold trcT at h3
        rw [decide_eq_true htk] at h3
        simp only [Bool.not_true, Bool.false_or, Bool.and_eq_true, decide_eq_true_eq] at h3
        refine ⟨h3.1, ?_, fun _ => by rw [← htv]; exact h3.2⟩
        rcases h2 with h2 | h2
        · rw [h2, if_pos rfl]
        · rw [h3.1] at h2; cases h2
    refine ⟨fun k hkr => ?_, ?_⟩
    · obtain ⟨h1, _, h3⟩ := hone k (List.mem_range.1 hkr)
      unfold verK
      rw [h1]
      cases hh : hasK x.t k
      · simp
      · rw [decide_eq_true (h3 hh)]; simp
    · rw [verN_sum, ← hsum]
      exact sumR_congr _ fun k hkn => ((hone k hkn).2.1).symm
  · rintro ⟨h, hn⟩ k hkr
    have hkn := List.mem_range.1 hkr
    rw [verN_sum, ← hsum] at hn
    have hc := sumR_eq s.m.length (fun k _ => by
      split
      · rename_i hh; rw [hasK_cnt, decide_eq_true_eq] at hh; omega
      · omega) hn k hkn
    have h1 := h k hkr
    unfold verK at h1
    rw [Bool.and_eq_true, decide_eq_true_eq, Bool.or_eq_true, decide_eq_true_eq] at h1
    obtain ⟨h1, h2⟩ := h1
    unfold trcK
    rw [Bool.and_eq_true, List.all_eq_true, h1]
    cases hh : hasK x.t k
    · refine ⟨fun t ht => ?_, by simp⟩
      unfold trcT
      by_cases htk : t.k = (k : Int)
      · exfalso
        have : hasK x.t k = true := by unfold hasK; rw [List.any_eq_true]; exact ⟨t, ht, decide_eq_true htk⟩
        rw [hh] at this; cases this
      · rw [decide_eq_false htk]; rfl
    · rw [hh, if_pos rfl] at hc
      rw [hh] at h1 h2
      refine ⟨fun t ht => ?_, by rw [← hc]; rfl⟩
      unfold trcT
      by_cases htk : t.k = (k : Int)
      · have hv := cnt_one (by omega) ht htk
        have h3 : firstV x.t k = x.v.getD k 0 := by
          rcases h2 with h2 | h2
          · cases h2
          · exact h2
        rw [h1, hv, decide_eq_true h3]; simp
      · rw [decide_eq_false htk]; rfl
end Go.Proofs.YtjakhiafkjaghaaGreat
