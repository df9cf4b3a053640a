/- what the model's reader of tasks gives, as a function; beside the program's -/
import Derived.Test.YtgcjnhlppapfdaaDoorRdP
import Derived.Test.YtgcjnhlppapfdaaDoorRound
namespace Go.Proofs.YtgcjnhlppapfdaaDoor

/-- The number that the model reads at i: three digits at most. -/
def numS (s : ByteArray) (i : Nat) : Option (Nat × Nat) :=
  if isD (at_ s i) = true then
    if isD (at_ s (i + 1)) = true then
      if at_ s i = 48 then none
      else if isD (at_ s (i + 2)) = true then some (100 * (at_ s i - 48) + 10 * (at_ s (i + 1) - 48) + (at_ s (i + 2) - 48), 3)
      else some (10 * (at_ s i - 48) + (at_ s (i + 1) - 48), 2)
    else some (at_ s i - 48, 1)
  else none

def headS (s : ByteArray) (i : Nat) : Option (Nat × Nat × Nat × Nat) :=
  if at_ s i = 43 then some (2, 0, 2, i + 1) else if at_ s i = 42 then some (3, 0, 2, i + 1) else if at_ s i = 63 then some (4, 0, 3, i + 1)
  else if at_ s i = 64 then match numS s (i + 1) with | some (v, d) => some (5, v, 1, i + 1 + d) | none => none
  else none

def partsS (F : Nat → Option (T × Nat)) (s : ByteArray) : Nat → Nat → Option (List T × Nat)
  | 0, j => some ([], j)
  | k + 1, j => if at_ s j = 32 then match F (j + 1) with
      | some (t, j') => match partsS F s k j' with
        | some (ps, j'') => some (t :: ps, j'')
        | none => none
      | none => none
    else none

def groupS (F : Nat → Option (T × Nat)) (s : ByteArray) (i : Nat) : Option (T × Nat) :=
  match headS s i with
  | some (k, n, m, j) => match partsS F s m j with
    | some (ps, j') => if at_ s j' = 41 then some (.mk k n ps, j' + 1) else none
    | none => none
  | none => none

def taskS : Nat → ByteArray → Nat → Option (T × Nat)
  | 0, _, _ => none
  | f + 1, s, i => if at_ s i = 107 then match numS s (i + 1) with | some (v, d) => some (.mk 1 v [], i + 1 + d) | none => none
    else if at_ s i = 40 then groupS (fun j => taskS f s j) s (i + 1)
    else match numS s i with | some (v, d) => some (.mk 0 v [], i + d) | none => none

/-- What the program's number takes the model's takes too. -/
theorem numS_of {s : ByteArray} {i top v d : Nat} (h : numAt s i top = some (v, d)) : numS s i = some (v, d) ∧ v ≤ top := by
  unfold numAt at h
  unfold numS
  split at h
  · split at h
    · split at h
      · cases h
      · split at h
        · cases h
        · split at h
          · rename_i h1 h2 h3 h4 h5
            simp only [Option.some.injEq, Prod.mk.injEq] at h
            obtain ⟨rfl, rfl⟩ := h
            rw [if_pos h1, if_pos h2, if_neg h3, if_neg h4]
            exact ⟨rfl, h5⟩
          · cases h
    · split at h
      · rename_i h1 h2 h3
        simp only [Option.some.injEq, Prod.mk.injEq] at h
        obtain ⟨rfl, rfl⟩ := h
        rw [if_pos h1, if_neg h2]
        exact ⟨rfl, h3⟩
      · cases h
  · cases h

theorem isD_val {c : Nat} (h : isD c = true) : 48 ≤ c ∧ c ≤ 57 := by simpa [isD] using h

/-- And the other way, up to the top. -/
theorem numS_to {s : ByteArray} {i top v d : Nat} (h : numS s i = some (v, d)) (hv : v ≤ top) (ht : top ≤ 96) : numAt s i top = some (v, d) := by
  unfold numS at h
  unfold numAt
  split at h
  · split at h
    · split at h
      · cases h
      · split at h
        · rename_i h1 h2 h3 h4
          simp only [Option.some.injEq, Prod.mk.injEq] at h
          have := isD_val h1
          omega
        · rename_i h1 h2 h3 h4
          simp only [Option.some.injEq, Prod.mk.injEq] at h
          obtain ⟨rfl, rfl⟩ := h
          rw [if_pos h1, if_pos h2, if_neg h3, if_neg h4, if_pos hv]
    · rename_i h1 h2
      simp only [Option.some.injEq, Prod.mk.injEq] at h
      obtain ⟨rfl, rfl⟩ := h
      rw [if_pos h1, if_neg h2, if_pos hv]
  · cases h

theorem headS_of {s : ByteArray} {i k n m j : Nat} (h : headP s i = some (k, n, m, j)) : headS s i = some (k, n, m, j) ∧ fit1 k n m = true := by
  unfold headP at h
  unfold headS
  split at h
  · rename_i h1
    simp only [Option.some.injEq, Prod.mk.injEq] at h
    obtain ⟨rfl, rfl, rfl, rfl⟩ := h
    exact ⟨by rw [if_pos h1], by decide⟩
  · split at h
    · rename_i h1 h2
      simp only [Option.some.injEq, Prod.mk.injEq] at h
      obtain ⟨rfl, rfl, rfl, rfl⟩ := h
      exact ⟨by rw [if_neg h1, if_pos h2], by decide⟩
    · split at h
      · rename_i h1 h2 h3
        simp only [Option.some.injEq, Prod.mk.injEq] at h
        obtain ⟨rfl, rfl, rfl, rfl⟩ := h
        exact ⟨by rw [if_neg h1, if_neg h2, if_pos h3], by decide⟩
      · split at h
        · rename_i h1 h2 h3 h4
          split at h
          · rename_i v d hn
            simp only [Option.some.injEq, Prod.mk.injEq] at h
            obtain ⟨rfl, rfl, rfl, rfl⟩ := h
            obtain ⟨e, hv⟩ := numS_of hn
            exact ⟨by rw [if_neg h1, if_neg h2, if_neg h3, if_pos h4, e], by simp [fit1, shp]; omega⟩
          · cases h
        · cases h
theorem headS_to {s : ByteArray} {i k n m j : Nat} (h : headS s i = some (k, n, m, j)) (hf : fit1 k n m = true) : headP s i = some (k, n, m, j) := by
  unfold headS at h
  unfold headP
  split at h
  · rename_i h1
    rw [if_pos h1]; exact h
  · split at h
    · rename_i h1 h2
      rw [if_neg h1, if_pos h2]; exact h
    · split at h
      · rename_i h1 h2 h3
        rw [if_neg h1, if_neg h2, if_pos h3]; exact h
      · split at h
        · rename_i h1 h2 h3 h4
          split at h
          · rename_i v d hn
            simp only [Option.some.injEq, Prod.mk.injEq] at h
            obtain ⟨rfl, rfl, rfl, rfl⟩ := h
            have hv : v ≤ 9 := by
              rcases fit_kinds hf with h | h | h | h | h | h <;> omega
            rw [if_neg h1, if_neg h2, if_neg h3, if_pos h4, numS_to hn hv (by decide)]
          · cases h
        · cases h

theorem fitL_cons (t : T) (r : List T) : fitL (t :: r) = (t.fit && fitL r) := by simp only [fitL]

theorem partsS_of {F : Nat → Nat → Option (T × Nat × Nat)} {G : Nat → Option (T × Nat)} {s : ByteArray} (hF : ∀ i left t j left', F i left = some (t, j, left') → G i = some (t, j) ∧ t.fit = true ∧ t.nodes + left' = left) :
    ∀ (m i left : Nat) (ps : List T) (j left' : Nat), partsP F s m i left = some (ps, j, left') → partsS G s m i = some (ps, j) ∧ fitL ps = true ∧ nodesL ps + left' = left ∧ ps.length = m
  | 0, i, left, ps, j, left', h => by
    simp only [partsP, Option.some.injEq, Prod.mk.injEq] at h
    obtain ⟨rfl, rfl, rfl⟩ := h
    exact ⟨rfl, by simp [fitL], by simp [nodesL], rfl⟩
  | m + 1, i, left, ps, j, left', h => by
    simp only [partsP] at h
    simp only [partsS]
    split at h
    · rename_i h32
      rw [if_pos h32]
      split at h
      · rename_i t j1 l1 h1
        split at h
        · rename_i ps1 j2 l2 h2
          simp only [Option.some.injEq, Prod.mk.injEq] at h
          obtain ⟨rfl, rfl, rfl⟩ := h
          obtain ⟨e1, e2, e3⟩ := hF _ _ _ _ _ h1
          obtain ⟨e4, e5, e6, e7⟩ := partsS_of hF m _ _ _ _ _ h2
          rw [e1]
          simp only
          rw [e4]
          exact ⟨rfl, by rw [fitL_cons, e2, e5]; rfl, by simp only [nodesL]; omega, by simp [e7]⟩
        · cases h
      · cases h
    · cases h
theorem partsS_to {F : Nat → Nat → Option (T × Nat × Nat)} {G : Nat → Option (T × Nat)} {s : ByteArray} {B : Nat} (hF : ∀ i left t j, G i = some (t, j) → t.fit = true → t.nodes ≤ left → left ≤ B → F i left = some (t, j, left - t.nodes)) :
    ∀ (m i left : Nat) (ps : List T) (j : Nat), partsS G s m i = some (ps, j) → fitL ps = true → nodesL ps ≤ left → left ≤ B → partsP F s m i left = some (ps, j, left - nodesL ps)
  | 0, i, left, ps, j, h, _, _, _ => by
    simp only [partsS, Option.some.injEq, Prod.mk.injEq] at h
    obtain ⟨rfl, rfl⟩ := h
    simp [partsP, nodesL]
  | m + 1, i, left, ps, j, h, hf, hn, hB => by
    simp only [partsS] at h
    simp only [partsP]
    split at h
    · rename_i h32
      rw [if_pos h32]
      split at h
      · rename_i t j1 h1
        split at h
        · rename_i ps1 j2 h2
          simp only [Option.some.injEq, Prod.mk.injEq] at h
          obtain ⟨rfl, rfl⟩ := h
          rw [fitL_cons, Bool.and_eq_true] at hf
          simp only [nodesL] at hn ⊢
          rw [hF _ left _ _ h1 hf.1 (by omega) hB]
          simp only
          rw [partsS_to hF m _ (left - t.nodes) _ _ h2 hf.2 (by omega) (by omega)]
          simp only [Option.some.injEq, Prod.mk.injEq, true_and]
          omega
        · cases h
      · cases h
    · cases h
theorem partsS_len {G : Nat → Option (T × Nat)} {s : ByteArray} : ∀ (m i : Nat) (ps : List T) (j : Nat), partsS G s m i = some (ps, j) → ps.length = m
  | 0, i, ps, j, h => by
    simp only [partsS, Option.some.injEq, Prod.mk.injEq] at h
    obtain ⟨rfl, rfl⟩ := h
    rfl
  | m + 1, i, ps, j, h => by
    simp only [partsS] at h
    split at h
    · split at h
      · split at h
        · rename_i h2
          simp only [Option.some.injEq, Prod.mk.injEq] at h
          obtain ⟨rfl, rfl⟩ := h
          simp [partsS_len m _ _ _ h2]
        · cases h
      · cases h
    · cases h

/-- WHAT THE Tryd.progRAM'S READER TAKES THE MODEL'S TAKES TOO, and it is fit. -/
theorem taskS_of (s : ByteArray) : ∀ (f f' : Nat), f ≤ f' → ∀ (i left : Nat) (t : T) (j left' : Nat), taskP f s i left = some (t, j, left') → taskS f' s i = some (t, j) ∧ t.fit = true ∧ t.nodes + left' = left
  | 0, _, _, i, left, t, j, left', h => by simp [taskP] at h
  | f + 1, f', hf, i, left, t, j, left', h => by
    obtain ⟨f', rfl⟩ : ∃ g, f' = g + 1 := ⟨f' - 1, by omega⟩
    simp only [taskP] at h
    simp only [taskS]
    split at h
    · cases h
    · rename_i hl
      split at h
      · rename_i h40
        rw [if_neg (by omega), if_pos h40]
        unfold groupP at h
        unfold groupS
        split at h
        · rename_i k n m j1 hh
          obtain ⟨e1, e2⟩ := headS_of hh
          rw [e1]
          simp only
          split at h
          · rename_i ps j2 l2 hp
            obtain ⟨e3, e4, e5, e6⟩ := partsS_of (F := fun j l => taskP f s j l) (G := fun j => taskS f' s j) (fun i left t j left' h => taskS_of s f f' (by omega) i left t j left' h) _ _ _ _ _ _ hp
            rw [e3]
            simp only
            split at h
            · rename_i h41
              simp only [Option.some.injEq, Prod.mk.injEq] at h
              obtain ⟨rfl, rfl, rfl⟩ := h
              rw [if_pos h41]
              refine ⟨rfl, ?_, ?_⟩
              · rw [T.fit_eq]; simp only [T.k, T.n, T.ps]; rw [e6, e2, e4]; rfl
              · simp only [T.nodes]; omega
            · cases h
          · cases h
        · cases h
      · rename_i h40
        split at h
        · rename_i h107
          rw [if_pos h107]
          split at h
          · rename_i v d hn
            simp only [Option.some.injEq, Prod.mk.injEq] at h
            obtain ⟨rfl, rfl, rfl⟩ := h
            obtain ⟨e, hv⟩ := numS_of hn
            rw [e]
            exact ⟨rfl, by simp [T.fit_eq, T.k, T.n, T.ps, fit1, shp, fitL]; omega, by simp [T.nodes, nodesL]; omega⟩
          · cases h
        · rename_i h107
          rw [if_neg h107, if_neg h40]
          split at h
          · rename_i v d hn
            simp only [Option.some.injEq, Prod.mk.injEq] at h
            obtain ⟨rfl, rfl, rfl⟩ := h
            obtain ⟨e, hv⟩ := numS_of hn
            rw [e]
            exact ⟨rfl, by simp [T.fit_eq, T.k, T.n, T.ps, fit1, shp, fitL]; omega, by simp [T.nodes, nodesL]; omega⟩
          · cases h

/-- And what the model's takes, if it is fit and not too great. -/
theorem taskS_to (s : ByteArray) : ∀ (f f' : Nat) (i left : Nat) (t : T) (j : Nat), taskS f s i = some (t, j) → t.fit = true → t.nodes ≤ left → left ≤ f' → taskP f' s i left = some (t, j, left - t.nodes)
  | 0, _, i, left, t, j, h, _, _, _ => by simp [taskS] at h
  | f + 1, f', i, left, t, j, h, hft, hn, hl => by
    have hpos : 1 ≤ t.nodes := by have := t.nodes_eq; omega
    obtain ⟨f', rfl⟩ : ∃ g, f' = g + 1 := ⟨f' - 1, by omega⟩
    simp only [taskS] at h
    simp only [taskP]
    rw [if_neg (by omega)]
    split at h
    · rename_i h107
      rw [if_neg (by omega), if_pos h107]
      split at h
      · rename_i v d hnum
        simp only [Option.some.injEq, Prod.mk.injEq] at h
        obtain ⟨rfl, rfl⟩ := h
        have hv : v ≤ 9 := by
          rw [T.fit_eq] at hft
          simp only [T.k, T.n, T.ps, Bool.and_eq_true] at hft
          rcases fit_kinds hft.1 with h | h | h | h | h | h <;> omega
        rw [numS_to hnum hv (by decide)]
        simp [T.nodes, nodesL]
      · cases h
    · rename_i h107
      split at h
      · rename_i h40
        rw [if_pos h40]
        unfold groupS at h
        unfold groupP
        split at h
        · rename_i k n m j1 hh
          split at h
          · rename_i ps j2 hp
            split at h
            · rename_i h41
              simp only [Option.some.injEq, Prod.mk.injEq] at h
              obtain ⟨rfl, rfl⟩ := h
              rw [T.fit_eq] at hft
              simp only [T.k, T.n, T.ps, Bool.and_eq_true] at hft
              have hm := partsS_len _ _ _ _ hp
              rw [headS_to hh (by rw [← hm]; exact hft.1)]
              simp only [T.nodes] at hn ⊢
              rw [partsS_to (F := fun j l => taskP f' s j l) (G := fun j => taskS f s j) (B := f') (fun i left t j h1 h2 h3 h4 => taskS_to s f f' i left t j h1 h2 h3 h4) _ _ (left - 1) _ _ hp hft.2 (by omega) (by omega)]
              simp only
              rw [if_pos h41]
              simp only [Option.some.injEq, Prod.mk.injEq, true_and]
              omega
            · cases h
          · cases h
        · cases h
      · rename_i h40
        rw [if_neg h40, if_neg h107]
        split at h
        · rename_i v d hnum
          simp only [Option.some.injEq, Prod.mk.injEq] at h
          obtain ⟨rfl, rfl⟩ := h
          have hv : v ≤ 96 := by
            rw [T.fit_eq] at hft
            simp only [T.k, T.n, T.ps, Bool.and_eq_true] at hft
            rcases fit_kinds hft.1 with h | h | h | h | h | h <;> omega
          rw [numS_to hnum hv (by decide)]
          simp [T.nodes, nodesL]
        · cases h
end Go.Proofs.YtgcjnhlppapfdaaDoor
