/- impl.taskReader.group -/
import Derived.Test.YtgcjnhlppapfdaaDoorRdT
import Derived.Test.YtgcjnhlppapfdaaDoorCopy
namespace Go.Proofs.YtgcjnhlppapfdaaDoor
open Go.RowKit Go.Lib

/-- take, as one law. -/
def tookB (s : ByteArray) (p : Nat) : Nat := if at_ s p = 256 then 0 else at_ s p
def tookP (s : ByteArray) (p : Nat) : Nat := if at_ s p = 256 then p else p + 1
theorem at_le (s : ByteArray) (p : Nat) : at_ s p ≤ 256 := by
  unfold at_
  split
  · rename_i h; have := (s[p]'h).toNat_lt; omega
  · omega
theorem at_ne (s : ByteArray) (p : Nat) (h : p < s.size) : at_ s p ≠ 256 := by
  rw [← at_lt h]; have := (s[p]'h).toNat_lt; omega
def TakePost (w : World) (g : Nat) (s : ByteArray) (p left : Nat) (e : Ending) (w' : World) : Prop :=
  e = .returned (.int .u8 (tookB s p)) ∧ RrAt w' g s (tookP s p) left ∧ Only g w w'
theorem take_any (w : World) (g p left : Nat) (s : ByteArray) (h : RrAt w g s p left) (hp : p ≤ s.size) (hs : s.size ≤ 1048576) :
    Calls Tryd.prog 39 #[.pointer (some ⟨g, 0, none⟩)] w (TakePost w g s p left) := by
  by_cases hlt : p < s.size
  · have hn := at_ne s p hlt
    refine (take_some w g p left s (s[p]) h hlt rfl hs).mono ?_
    rintro e w' ⟨rfl, h1, h2⟩
    refine ⟨?_, by unfold tookP; rw [if_neg hn]; exact h1, h2⟩
    unfold tookB
    rw [if_neg hn, at_lt hlt]
  · obtain rfl : p = s.size := by omega
    have hn : at_ s s.size = 256 := by simp [at_]
    refine (take_none w g left s h hs).mono ?_
    rintro e w' ⟨rfl, h1, h2⟩
    exact ⟨by unfold tookB; rw [if_pos hn]; rfl, by unfold tookP; rw [if_pos hn]; exact h1, h2⟩
theorem tookP_le {s : ByteArray} {p : Nat} (h : p ≤ s.size) : tookP s p ≤ s.size := by
  unfold tookP
  split
  · exact h
  · rename_i hn
    by_cases hlt : p < s.size
    · omega
    · simp [at_, hlt] at hn

/-- The reader uses up nodes. -/
theorem partsP_left {F : Nat → Nat → Option (T × Nat × Nat)} {s : ByteArray} (hF : ∀ j l t j' l', F j l = some (t, j', l') → l' ≤ l) : ∀ m j l ps j' l', partsP F s m j l = some (ps, j', l') → l' ≤ l
  | 0, j, l, ps, j', l', h => by simp only [partsP, Option.some.injEq, Prod.mk.injEq] at h; omega
  | m + 1, j, l, ps, j', l', h => by
    simp only [partsP] at h
    split at h
    · cases h1 : F (j + 1) l with
      | none => rw [h1] at h; cases h
      | some x =>
        obtain ⟨t, j1, l1⟩ := x
        rw [h1] at h
        simp only at h
        cases h2 : partsP F s m j1 l1 with
        | none => rw [h2] at h; cases h
        | some y =>
          obtain ⟨qs, j2, l2⟩ := y
          rw [h2] at h
          simp only [Option.some.injEq, Prod.mk.injEq] at h
          have := hF _ _ _ _ _ h1
          have := partsP_left hF m j1 l1 qs j2 l2 h2
          omega
    · cases h
theorem taskP_left (s : ByteArray) : ∀ f i l t j l', taskP f s i l = some (t, j, l') → l' ≤ l
  | 0, i, l, t, j, l', h => by simp [taskP] at h
  | f + 1, i, l, t, j, l', h => by
    simp only [taskP] at h
    split at h
    · cases h
    · split at h
      · unfold groupP at h
        cases h1 : headP s (i + 1) with
        | none => rw [h1] at h; cases h
        | some x =>
          obtain ⟨k, n, m, q⟩ := x
          rw [h1] at h
          simp only at h
          cases h2 : partsP (fun j l => taskP f s j l) s m q (l - 1) with
          | none => rw [h2] at h; cases h
          | some y =>
            obtain ⟨ps, j2, l2⟩ := y
            rw [h2] at h
            simp only at h
            split at h
            · simp only [Option.some.injEq, Prod.mk.injEq] at h
              have := partsP_left (fun j l t j' l' => taskP_left s f j l t j' l') m q (l - 1) ps j2 l2 h2
              omega
            · cases h
      · split at h
        · cases h1 : numAt s (i + 1) 9 with
          | none => rw [h1] at h; cases h
          | some x => obtain ⟨v, d⟩ := x; rw [h1] at h; simp only [Option.some.injEq, Prod.mk.injEq] at h; omega
        · cases h1 : numAt s i 96 with
          | none => rw [h1] at h; cases h
          | some x => obtain ⟨v, d⟩ := x; rw [h1] at h; simp only [Option.some.injEq, Prod.mk.injEq] at h; omega

theorem headP_ok {s : ByteArray} {i k n m q : Nat} (h : headP s i = some (k, n, m, q)) : k ≤ 5 ∧ n ≤ 9 ∧ q ≤ s.size := by
  unfold headP at h
  split at h
  · rename_i h1
    have := at_some h1 (by omega)
    simp only [Option.some.injEq, Prod.mk.injEq] at h; omega
  · split at h
    · rename_i h1
      have := at_some h1 (by omega)
      simp only [Option.some.injEq, Prod.mk.injEq] at h; omega
    · split at h
      · rename_i h1
        have := at_some h1 (by omega)
        simp only [Option.some.injEq, Prod.mk.injEq] at h; omega
      · split at h
        · cases h1 : numAt s (i + 1) 9 with
          | none => rw [h1] at h; cases h
          | some x =>
            obtain ⟨v, d⟩ := x
            have := numAt_le h1
            rw [h1] at h
            simp only [Option.some.injEq, Prod.mk.injEq] at h; omega
        · cases h
theorem taskP_ok {s : ByteArray} {f i l j l' : Nat} {t : T} (h : taskP f s i l = some (t, j, l')) : i64ok t.k ∧ i64ok t.n := by
  cases f with
  | zero => simp [taskP] at h
  | succ f =>
    simp only [taskP] at h
    split at h
    · cases h
    · split at h
      · unfold groupP at h
        cases h1 : headP s (i + 1) with
        | none => rw [h1] at h; cases h
        | some x =>
          obtain ⟨k, n, m, q⟩ := x
          rw [h1] at h
          simp only at h
          cases h2 : partsP (fun j l => taskP f s j l) s m q (l - 1) with
          | none => rw [h2] at h; cases h
          | some y =>
            obtain ⟨ps, j2, l2⟩ := y
            rw [h2] at h
            simp only at h
            split at h
            · simp only [Option.some.injEq, Prod.mk.injEq] at h
              obtain ⟨rfl, _⟩ := h
              have := headP_ok h1
              simp only [i64ok, T.k, T.n]; omega
            · cases h
      · split at h
        · cases h1 : numAt s (i + 1) 9 with
          | none => rw [h1] at h; cases h
          | some x =>
            obtain ⟨v, d⟩ := x
            have := numAt_le h1
            rw [h1] at h
            simp only [Option.some.injEq, Prod.mk.injEq] at h
            obtain ⟨rfl, _⟩ := h
            simp only [i64ok, T.k, T.n]; omega
        · cases h1 : numAt s i 96 with
          | none => rw [h1] at h; cases h
          | some x =>
            obtain ⟨v, d⟩ := x
            have := numAt_le h1
            rw [h1] at h
            simp only [Option.some.injEq, Prod.mk.injEq] at h
            obtain ⟨rfl, _⟩ := h
            simp only [i64ok, T.k, T.n]; omega

/-- A slice that is being filled is kept where only the reader, which is older, changes. -/
theorem Part.only {w w' : World} {e : TypeId} {g b n : Nat} {ps : List T} (h : Part w e b n ps) (ho : Only g w w') (hg : g < b) : Part w' e b n ps := by
  have hlt := h.lt
  obtain ⟨h1, ⟨cs, hh, hs⟩, h3⟩ := h
  have hk : ∀ k, b ≤ k → k < w.heap.size → w'.heap[k]? = w.heap[k]? := fun k hk hl => ho.block k hl (by intro e; injection e; omega)
  exact ⟨h1, ⟨cs, by rw [hk b (Nat.le_refl _) hlt]; exact hh, hs⟩, AtL.keep (fun _ h => h) (fun k hk' hl => hk k (by omega) hl) _ _ _ (fun hl => hk b (Nat.le_refl _) hl) h3⟩
theorem Part.far {w : World} {e : TypeId} {b n : Nat} {ps : List T} {q : Addr} (h : Part w e b n ps) (hq : q.block < b) (u : Value) : Part (w.setCell q u) e b n ps := by
  obtain ⟨h1, ⟨cs, hh, hs⟩, h3⟩ := h
  have hk : ∀ k, b ≤ k → (w.setCell q u).heap[k]? = w.heap[k]? := fun k hk => Below.heap_setCell _ _ _ _ (by omega)
  exact ⟨h1, ⟨cs, by rw [hk b (Nat.le_refl _)]; exact hh, hs⟩, AtL.keep (fun _ h => h) (fun k hk' _ => hk k (by omega)) _ _ _ (fun _ => hk b (Nat.le_refl _)) h3⟩
theorem Part.alloc {w : World} {e : TypeId} {b n : Nat} {ps : List T} (h : Part w e b n ps) (o : Obj) : Part (w.alloc o) e b n ps := h.below ((Below.refl _ _).alloc (Nat.le_refl _) o)

/-- What is done, and what is still to be done. -/
def restP (F : Nat → Nat → Option (T × Nat × Nat)) (s : ByteArray) (ps : List T) (m j l : Nat) : Option (List T × Nat × Nat) :=
  match partsP F s m j l with
  | some (qs, j', l') => some (ps ++ qs, j', l')
  | none => none
theorem restP_start (F : Nat → Nat → Option (T × Nat × Nat)) (s : ByteArray) (m j l : Nat) : restP F s [] m j l = partsP F s m j l := by
  unfold restP
  cases partsP F s m j l with
  | none => rfl
  | some x => rfl
theorem restP_no {F : Nat → Nat → Option (T × Nat × Nat)} {s : ByteArray} {ps : List T} {m j l : Nat} (h : at_ s j ≠ 32) : restP F s ps (m + 1) j l = none := by
  simp [restP, partsP, h]
theorem restP_none {F : Nat → Nat → Option (T × Nat × Nat)} {s : ByteArray} {ps : List T} {m j l : Nat} (h : F (j + 1) l = none) : restP F s ps (m + 1) j l = none := by
  unfold restP partsP
  rw [h]
  split <;> rename_i hx
  · split at hx <;> cases hx
  · rfl
theorem restP_step {F : Nat → Nat → Option (T × Nat × Nat)} {s : ByteArray} {ps : List T} {m j l j' l' : Nat} {t : T} (h32 : at_ s j = 32) (h : F (j + 1) l = some (t, j', l')) : restP F s ps (m + 1) j l = restP F s (ps ++ [t]) m j' l' := by
  unfold restP
  simp only [partsP]
  rw [if_pos h32, h]
  simp only
  cases partsP F s m j' l' with
  | none => rfl
  | some x => simp
theorem restP_end (F : Nat → Nat → Option (T × Nat × Nat)) (s : ByteArray) (ps : List T) (j l : Nat) : restP F s ps 0 j l = some (ps, j, l) := by simp [restP, partsP]
end Go.Proofs.YtgcjnhlppapfdaaDoor
