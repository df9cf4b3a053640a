/- what a task is worth with values of keys, and the keys that it fetches, in order: plain words, no program -/
import Derived.Test.YtklmpagpkeffjaaTree
namespace Go.Proofs.Ytklmpagpkeffjaa

mutual
def T.val (vs : Int → Int) : T → Int
  | .mk k n ps => if k = 1 then vs n else if k = 2 then ((valL vs ps).getD 0 0 + (valL vs ps).getD 1 0) % 97 else if k = 3 then ((valL vs ps).getD 0 0 * (valL vs ps).getD 1 0) % 97
    else if k = 4 then (if (valL vs ps).getD 0 0 = 0 then (valL vs ps).getD 2 0 else (valL vs ps).getD 1 0) else if k = 5 then vs ((n + (valL vs ps).getD 0 0) % 10) else n
def valL (vs : Int → Int) : List T → List Int
  | [] => []
  | t :: r => t.val vs :: valL vs r
end
mutual
def T.kys (vs : Int → Int) : T → List Int
  | .mk k n ps => if k = 1 then [n] else if k = 2 then (kysL vs ps).getD 0 [] ++ (kysL vs ps).getD 1 [] else if k = 3 then (kysL vs ps).getD 0 [] ++ (kysL vs ps).getD 1 []
    else if k = 4 then (kysL vs ps).getD 0 [] ++ (if (valL vs ps).getD 0 0 = 0 then (kysL vs ps).getD 2 [] else (kysL vs ps).getD 1 []) else if k = 5 then (kysL vs ps).getD 0 [] ++ [(n + (valL vs ps).getD 0 0) % 10] else []
def kysL (vs : Int → Int) : List T → List (List Int)
  | [] => []
  | t :: r => t.kys vs :: kysL vs r
end

section
variable (vs : Int → Int) (n : Int) (a b c : T) (r : List T)
theorem val_0 : (T.mk 0 n r).val vs = n := by simp [T.val]
theorem val_1 : (T.mk 1 n r).val vs = vs n := by simp [T.val]
theorem val_2 : (T.mk 2 n [a, b]).val vs = (a.val vs + b.val vs) % 97 := by simp [T.val, valL]
theorem val_3 : (T.mk 3 n [a, b]).val vs = (a.val vs * b.val vs) % 97 := by simp [T.val, valL]
theorem val_4 : (T.mk 4 n [a, b, c]).val vs = if a.val vs = 0 then c.val vs else b.val vs := by simp [T.val, valL]
theorem val_5 : (T.mk 5 n [a]).val vs = vs ((n + a.val vs) % 10) := by simp [T.val, valL]
theorem kys_0 : (T.mk 0 n r).kys vs = [] := by simp [T.kys]
theorem kys_1 : (T.mk 1 n r).kys vs = [n] := by simp [T.kys]
theorem kys_2 : (T.mk 2 n [a, b]).kys vs = a.kys vs ++ b.kys vs := by simp [T.kys, kysL]
theorem kys_3 : (T.mk 3 n [a, b]).kys vs = a.kys vs ++ b.kys vs := by simp [T.kys, kysL]
theorem kys_4 : (T.mk 4 n [a, b, c]).kys vs = a.kys vs ++ (if a.val vs = 0 then c.kys vs else b.kys vs) := by simp [T.kys, kysL, valL]
theorem kys_5 : (T.mk 5 n [a]).kys vs = a.kys vs ++ [(n + a.val vs) % 10] := by simp [T.kys, kysL, valL]
end

theorem kinds {k n : Int} {m : Nat} (h : fit1 k n m = true) : (k = 0 ∧ m = 0 ∧ 0 ≤ n ∧ n ≤ 96) ∨ (k = 1 ∧ m = 0 ∧ 0 ≤ n ∧ n ≤ 9) ∨ (k = 2 ∧ m = 2 ∧ n = 0) ∨ (k = 3 ∧ m = 2 ∧ n = 0) ∨ (k = 4 ∧ m = 3 ∧ n = 0) ∨ (k = 5 ∧ m = 1 ∧ 0 ≤ n ∧ n ≤ 9) := by
  unfold fit1 shp at h
  simp only [Bool.and_eq_true, decide_eq_true_eq] at h
  obtain ⟨⟨h1, h2⟩, h3⟩ := h
  repeat' split at h1
  all_goals first | (simp at h1; done) | (simp_all <;> omega)

/-- A fit task, kind by kind, its parts named. -/
theorem T.cases_fit {P : T → Prop} (t : T) (hf : t.fit = true)
    (h0 : ∀ n, 0 ≤ n → n ≤ 96 → t = .mk 0 n [] → P t) (h1 : ∀ n, 0 ≤ n → n ≤ 9 → t = .mk 1 n [] → P t)
    (h2 : ∀ a b, a.fit = true → b.fit = true → t = .mk 2 0 [a, b] → P t) (h3 : ∀ a b, a.fit = true → b.fit = true → t = .mk 3 0 [a, b] → P t)
    (h4 : ∀ a b c, a.fit = true → b.fit = true → c.fit = true → t = .mk 4 0 [a, b, c] → P t) (h5 : ∀ n a, 0 ≤ n → n ≤ 9 → a.fit = true → t = .mk 5 n [a] → P t) : P t := by
  obtain ⟨k, n, ps⟩ := t
  have h := hf
  rw [T.fit_eq] at h
  simp only [T.k, T.n, T.ps, Bool.and_eq_true] at h
  obtain ⟨hf1, hf2⟩ := h
  rcases kinds hf1 with ⟨rfl, hm, a0, a1⟩ | ⟨rfl, hm, a0, a1⟩ | ⟨rfl, hm, rfl⟩ | ⟨rfl, hm, rfl⟩ | ⟨rfl, hm, rfl⟩ | ⟨rfl, hm, a0, a1⟩
  · obtain rfl : ps = [] := List.length_eq_zero_iff.1 hm
    exact h0 n a0 a1 rfl
  · obtain rfl : ps = [] := List.length_eq_zero_iff.1 hm
    exact h1 n a0 a1 rfl
  · match ps, hm, hf2 with
    | [a, b], _, hf2 => simp [fitL] at hf2; exact h2 a b hf2.1 hf2.2 rfl
  · match ps, hm, hf2 with
    | [a, b], _, hf2 => simp [fitL] at hf2; exact h3 a b hf2.1 hf2.2 rfl
  · match ps, hm, hf2 with
    | [a, b, c], _, hf2 => simp [fitL] at hf2; exact h4 a b c hf2.1 hf2.2.1 hf2.2.2 rfl
  · match ps, hm, hf2 with
    | [a], _, hf2 => simp [fitL] at hf2; exact h5 n a a0 a1 hf2 rfl

theorem T.val_bd (vs : Int → Int) (hv : ∀ k, 0 ≤ vs k ∧ vs k ≤ 96) : ∀ t : T, t.fit = true → 0 ≤ t.val vs ∧ t.val vs ≤ 96 := T.ind fun k n ps ih hf => by
  generalize ht : T.mk k n ps = t at hf ⊢
  refine T.cases_fit (P := fun t => 0 ≤ t.val vs ∧ t.val vs ≤ 96) t hf ?_ ?_ ?_ ?_ ?_ ?_
  · rintro n a0 a1 rfl; rw [val_0]; omega
  · rintro n a0 a1 rfl; rw [val_1]; exact hv n
  · rintro a b ha hb rfl; rw [val_2]; omega
  · rintro a b ha hb rfl; rw [val_3]; omega
  · rintro a b c ha hb hc rfl; injection ht with _ _ hps; subst hps; rw [val_4]; split
    · exact ih c (by simp) hc
    · exact ih b (by simp) hb
  · rintro n a a0 a1 ha rfl; rw [val_5]; exact hv _

theorem T.kys_bd (vs : Int → Int) : ∀ t : T, t.fit = true → (∀ k ∈ t.kys vs, 0 ≤ k ∧ k ≤ 9) ∧ (t.kys vs).length ≤ t.nodes := T.ind fun k n ps ih hf => by
  generalize ht : T.mk k n ps = t at hf ⊢
  refine T.cases_fit (P := fun t => (∀ k ∈ t.kys vs, 0 ≤ k ∧ k ≤ 9) ∧ (t.kys vs).length ≤ t.nodes) t hf ?_ ?_ ?_ ?_ ?_ ?_
  · rintro n a0 a1 rfl; rw [kys_0]; simp
  · rintro n a0 a1 rfl; rw [kys_1]; simp [T.nodes]; omega
  · rintro a b ha hb rfl; injection ht with _ _ hps; subst hps; rw [kys_2]
    have h1 := ih a (by simp) ha
    have h2 := ih b (by simp) hb
    refine ⟨fun k hk => ?_, by simp [T.nodes, nodesL]; omega⟩
    rcases List.mem_append.1 hk with hk | hk
    · exact h1.1 k hk
    · exact h2.1 k hk
  · rintro a b ha hb rfl; injection ht with _ _ hps; subst hps; rw [kys_3]
    have h1 := ih a (by simp) ha
    have h2 := ih b (by simp) hb
    refine ⟨fun k hk => ?_, by simp [T.nodes, nodesL]; omega⟩
    rcases List.mem_append.1 hk with hk | hk
    · exact h1.1 k hk
    · exact h2.1 k hk
  · rintro a b c ha hb hc rfl; injection ht with _ _ hps; subst hps; rw [kys_4]
    have h1 := ih a (by simp) ha
    have h2 := ih b (by simp) hb
    have h3 := ih c (by simp) hc
    split
    · refine ⟨fun k hk => ?_, by simp [T.nodes, nodesL]; omega⟩
      rcases List.mem_append.1 hk with hk | hk
      · exact h1.1 k hk
      · exact h3.1 k hk
    · refine ⟨fun k hk => ?_, by simp [T.nodes, nodesL]; omega⟩
      rcases List.mem_append.1 hk with hk | hk
      · exact h1.1 k hk
      · exact h2.1 k hk
  · rintro n a a0 a1 ha rfl; injection ht with _ _ hps; subst hps; rw [kys_5]
    have h1 := ih a (by simp) ha
    refine ⟨fun k hk => ?_, by simp [T.nodes, nodesL]; omega⟩
    rcases List.mem_append.1 hk with hk | hk
    · exact h1.1 k hk
    · simp at hk; omega

/-- The value of a key, of a list of values. -/
def vf (l : List Int) (k : Int) : Int := if k < l.length then l.getD k.toNat 0 else 0
theorem vf_bd {l : List Int} (h : ∀ v ∈ l, 0 ≤ v ∧ v ≤ 96) (k : Int) : 0 ≤ vf l k ∧ vf l k ≤ 96 := by
  unfold vf
  split
  · rw [List.getD_eq_getElem?_getD]
    cases hx : l[k.toNat]? with
    | none => simp
    | some v => exact h v (List.mem_of_getElem? hx)
  · omega
/-- They are values of keys. -/
def vin (v : Int) : Bool := decide (0 ≤ v ∧ v ≤ 96)
def vok (l : List Int) : Bool := decide (l.length ≤ 10) && l.all vin
theorem vok_mem {l : List Int} (h : vok l = true) : l.length ≤ 10 ∧ ∀ v ∈ l, 0 ≤ v ∧ v ≤ 96 := by
  unfold vok at h
  simp only [vin, Bool.and_eq_true, decide_eq_true_eq, List.all_eq_true] at h
  exact h
end Go.Proofs.Ytklmpagpkeffjaa
