/- what impl's reader of tasks gives, as a function -/
import Derived.Test.YtgcjnhlppapfdaaDoorRdI
namespace Go.Proofs.YtgcjnhlppapfdaaDoor

/-- What stands behind an opening bracket: kind, number, how many parts, the place behind. -/
def headP (s : ByteArray) (i : Nat) : Option (Nat × Nat × Nat × Nat) :=
  if at_ s i = 43 then some (2, 0, 2, i + 1) else if at_ s i = 42 then some (3, 0, 2, i + 1) else if at_ s i = 63 then some (4, 0, 3, i + 1)
  else if at_ s i = 64 then match numAt s (i + 1) 9 with | some (v, d) => some (5, v, 1, i + 1 + d) | none => none
  else none

/-- So many parts, each behind a blank. -/
def partsP (F : Nat → Nat → Option (T × Nat × Nat)) (s : ByteArray) : Nat → Nat → Nat → Option (List T × Nat × Nat)
  | 0, j, left => some ([], j, left)
  | k + 1, j, left => if at_ s j = 32 then match F (j + 1) left with
      | some (t, j', left') => match partsP F s k j' left' with
        | some (ps, j'', left'') => some (t :: ps, j'', left'')
        | none => none
      | none => none
    else none

def groupP (F : Nat → Nat → Option (T × Nat × Nat)) (s : ByteArray) (i left : Nat) : Option (T × Nat × Nat) :=
  match headP s i with
  | some (k, n, m, j) => match partsP F s m j left with
    | some (ps, j', left') => if at_ s j' = 41 then some (.mk k n ps, j' + 1, left') else none
    | none => none
  | none => none

def taskP : Nat → ByteArray → Nat → Nat → Option (T × Nat × Nat)
  | 0, _, _, _ => none
  | f + 1, s, i, left => if left = 0 then none else if at_ s i = 40 then groupP (fun j l => taskP f s j l) s (i + 1) (left - 1)
    else if at_ s i = 107 then match numAt s (i + 1) 9 with | some (v, d) => some (.mk 1 v [], i + 1 + d, left - 1) | none => none
    else match numAt s i 96 with | some (v, d) => some (.mk 0 v [], i + d, left - 1) | none => none

theorem isD_lt {s : ByteArray} {i : Nat} (h : isD (at_ s i) = true) : i < s.size := by
  by_cases hi : i < s.size
  · exact hi
  · simp [at_, hi, isD] at h
theorem at_some {s : ByteArray} {i c : Nat} (h : at_ s i = c) (hc : c < 256) : i < s.size := by
  by_cases hi : i < s.size
  · exact hi
  · simp [at_, hi] at h; omega
theorem numAt_le {s : ByteArray} {p top v d : Nat} (h : numAt s p top = some (v, d)) : p + d ≤ s.size ∧ v ≤ top ∧ 1 ≤ d := by
  unfold numAt at h
  split at h
  · rename_i h0
    split at h
    · rename_i h1
      split at h
      · cases h
      · split at h
        · cases h
        · split at h
          · simp only [Option.some.injEq, Prod.mk.injEq] at h
            have := isD_lt h1
            omega
          · cases h
    · split at h
      · simp only [Option.some.injEq, Prod.mk.injEq] at h
        have := isD_lt h0
        omega
      · cases h
  · cases h
end Go.Proofs.YtgcjnhlppapfdaaDoor
