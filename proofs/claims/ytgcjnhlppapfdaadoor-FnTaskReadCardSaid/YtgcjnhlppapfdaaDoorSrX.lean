/- what the readers give has the text that was read -/
import Derived.Test.YtgcjnhlppapfdaaDoorSrR
namespace Go.Proofs.YtgcjnhlppapfdaaDoor

theorem SubAt.app {s : ByteArray} {p : Nat} {l r : List UInt8} (h : SubAt s p l) (h' : SubAt s (p + l.length) r) : SubAt s p (l ++ r) := by
  intro i hi
  by_cases hl : i < l.length
  · rw [List.getElem_append_left hl]; exact h i hl
  · rw [List.getElem_append_right (by omega)]
    have := h' (i - l.length) (by simp at hi; omega)
    rwa [show p + l.length + (i - l.length) = p + i by omega] at this
theorem SubAt.cons {s : ByteArray} {p : Nat} {b : UInt8} {r : List UInt8} (h : at_ s p = b.toNat) (h' : SubAt s (p + 1) r) : SubAt s p (b :: r) :=
  SubAt.app (l := [b]) (fun i hi => by simp at hi; subst hi; simpa using h) h'
theorem SubAt.nil {s : ByteArray} {p : Nat} : SubAt s p [] := fun i hi => by simp at hi

theorem numS_text {s : ByteArray} {i v d : Nat} (h : numS s i = some (v, d)) (hv : v ≤ 96) : SubAt s i (dec v) ∧ d = (dec v).length := by
  unfold numS at h
  split at h
  · rename_i h0
    have e0 := isD_val h0
    split at h
    · rename_i h1
      have e1 := isD_val h1
      split at h
      · cases h
      · rename_i hz
        split at h
        · simp only [Option.some.injEq, Prod.mk.injEq] at h; omega
        · simp only [Option.some.injEq, Prod.mk.injEq] at h
          obtain ⟨rfl, rfl⟩ := h
          have hd : dec (10 * (at_ s i - 48) + (at_ s (i + 1) - 48)) = [digB (at_ s i - 48), digB (at_ s (i + 1) - 48)] := by
            unfold dec
            rw [if_neg (by omega), show (10 * (at_ s i - 48) + (at_ s (i + 1) - 48)) / 10 = at_ s i - 48 by omega, show (10 * (at_ s i - 48) + (at_ s (i + 1) - 48)) % 10 = at_ s (i + 1) - 48 by omega]
          rw [hd]
          exact ⟨SubAt.cons (by rw [digB_nat _ (by omega)]; omega) (SubAt.cons (by rw [digB_nat _ (by omega)]; omega) SubAt.nil), rfl⟩
    · simp only [Option.some.injEq, Prod.mk.injEq] at h
      obtain ⟨rfl, rfl⟩ := h
      have hd : dec (at_ s i - 48) = [digB (at_ s i - 48)] := by unfold dec; rw [if_pos (by omega)]
      rw [hd]
      exact ⟨SubAt.cons (by rw [digB_nat _ (by omega)]; omega) SubAt.nil, rfl⟩
  · cases h

theorem headS_text {s : ByteArray} {i k n m j : Nat} (h : headS s (i + 1) = some (k, n, m, j)) (h40 : at_ s i = 40) (hf : fit1 k n m = true) : SubAt s i (headB k n) ∧ j = i + (headB k n).length ∧ 2 ≤ k := by
  unfold headS at h
  split at h
  · rename_i h1
    simp only [Option.some.injEq, Prod.mk.injEq] at h
    obtain ⟨rfl, rfl, rfl, rfl⟩ := h
    exact ⟨SubAt.cons (by rw [h40]; rfl) (SubAt.cons (by rw [h1]; rfl) SubAt.nil), rfl, by omega⟩
  · split at h
    · rename_i h1
      simp only [Option.some.injEq, Prod.mk.injEq] at h
      obtain ⟨rfl, rfl, rfl, rfl⟩ := h
      exact ⟨SubAt.cons (by rw [h40]; rfl) (SubAt.cons (by rw [h1]; rfl) SubAt.nil), rfl, by omega⟩
    · split at h
      · rename_i h1
        simp only [Option.some.injEq, Prod.mk.injEq] at h
        obtain ⟨rfl, rfl, rfl, rfl⟩ := h
        exact ⟨SubAt.cons (by rw [h40]; rfl) (SubAt.cons (by rw [h1]; rfl) SubAt.nil), rfl, by omega⟩
      · split at h
        · rename_i h1
          split at h
          · rename_i v d hn
            simp only [Option.some.injEq, Prod.mk.injEq] at h
            obtain ⟨rfl, rfl, rfl, rfl⟩ := h
            have hv : v ≤ 9 := by rcases fit_kinds hf with h | h | h | h | h | h <;> omega
            obtain ⟨e1, e2⟩ := numS_text hn (by omega)
            have hb : headB ((5 : Nat) : Int) v = 40 :: 64 :: dec v := by simp [headB]
            rw [hb]
            exact ⟨SubAt.cons (by rw [h40]; rfl) (SubAt.cons (by rw [h1]; rfl) e1), by simp [e2]; omega, by omega⟩
          · cases h
        · cases h

theorem partsS_text {G : Nat → Option (T × Nat)} {s : ByteArray} (hG : ∀ i t j, G i = some (t, j) → t.fit = true → SubAt s i t.text ∧ j = i + t.text.length) :
    ∀ (m i : Nat) (ps : List T) (j : Nat), partsS G s m i = some (ps, j) → fitL ps = true → SubAt s i (textL ps) ∧ j = i + (textL ps).length
  | 0, i, ps, j, h, _ => by
    simp only [partsS, Option.some.injEq, Prod.mk.injEq] at h
    obtain ⟨rfl, rfl⟩ := h
    exact ⟨by simpa [textL] using SubAt.nil, by simp [textL]⟩
  | m + 1, i, ps, j, h, hf => by
    simp only [partsS] at h
    split at h
    · rename_i h32
      split at h
      · rename_i t j1 h1
        split at h
        · rename_i ps1 j2 h2
          simp only [Option.some.injEq, Prod.mk.injEq] at h
          obtain ⟨rfl, rfl⟩ := h
          rw [fitL_cons, Bool.and_eq_true] at hf
          obtain ⟨e1, rfl⟩ := hG _ _ _ h1 hf.1
          obtain ⟨e2, rfl⟩ := partsS_text hG m _ _ _ h2 hf.2
          simp only [textL]
          refine ⟨SubAt.app (SubAt.cons (by rw [h32]; rfl) e1) ?_, by simp; omega⟩
          rw [show i + (32 :: t.text).length = i + 1 + t.text.length by simp; omega]
          exact e2
        · cases h
      · cases h
    · cases h

/-- WHAT IS READ HAS THE TEXT THAT WAS READ. -/
theorem taskS_text (s : ByteArray) : ∀ (f i : Nat) (t : T) (j : Nat), taskS f s i = some (t, j) → t.fit = true → SubAt s i t.text ∧ j = i + t.text.length
  | 0, i, t, j, h, _ => by simp [taskS] at h
  | f + 1, i, t, j, h, hft => by
    simp only [taskS] at h
    split at h
    · rename_i h107
      split at h
      · rename_i v d hn
        simp only [Option.some.injEq, Prod.mk.injEq] at h
        obtain ⟨rfl, rfl⟩ := h
        have hv : v ≤ 96 := by
          rw [T.fit_eq] at hft
          simp only [T.k, T.n, T.ps, Bool.and_eq_true] at hft
          rcases fit_kinds hft.1 with h | h | h | h | h | h <;> omega
        obtain ⟨e1, e2⟩ := numS_text hn hv
        have ht : (T.mk 1 (v : Int) []).text = 107 :: dec v := by simp [T.text]
        rw [ht]
        exact ⟨SubAt.cons (by rw [h107]; rfl) e1, by simp [e2]; omega⟩
      · cases h
    · split at h
      · rename_i h40
        unfold groupS at h
        split at h
        · rename_i k n m j1 hh
          split at h
          · rename_i ps j2 hp
            split at h
            · rename_i h41
              simp only [Option.some.injEq, Prod.mk.injEq] at h
              obtain ⟨rfl, rfl⟩ := h
              rw [T.fit_eq] at hft
              simp only [T.k, T.n, T.ps, Bool.and_eq_true] at hft
              have hm := partsS_len _ _ _ _ hp
              obtain ⟨e1, rfl, hk⟩ := headS_text hh h40 (by rw [← hm]; exact hft.1)
              obtain ⟨e2, rfl⟩ := partsS_text (G := fun j => taskS f s j) (fun i t j h1 h2 => taskS_text s f i t j h1 h2) _ _ _ _ hp hft.2
              have ht : (T.mk (k : Int) (n : Int) ps).text = headB k n ++ textL ps ++ [41] := by
                simp only [T.text]
                rw [if_neg (by omega), if_neg (by omega)]
                simp
              rw [ht]
              refine ⟨SubAt.app (SubAt.app e1 e2) ?_, by simp; omega⟩
              rw [List.length_append, ← Nat.add_assoc]
              exact SubAt.cons (by rw [h41]; rfl) SubAt.nil
            · cases h
          · cases h
        · cases h
      · split at h
        · rename_i v d hn
          simp only [Option.some.injEq, Prod.mk.injEq] at h
          obtain ⟨rfl, rfl⟩ := h
          have hv : v ≤ 96 := by
            rw [T.fit_eq] at hft
            simp only [T.k, T.n, T.ps, Bool.and_eq_true] at hft
            rcases fit_kinds hft.1 with h | h | h | h | h | h <;> omega
          obtain ⟨e1, e2⟩ := numS_text hn hv
          have ht : (T.mk 0 (v : Int) []).text = dec v := by simp [T.text]
          rw [ht]
          exact ⟨e1, by rw [e2]⟩
        · cases h

/-- A text of which a task was read is that task's text. -/
theorem readP_text {s : ByteArray} {t : T} (h : readP s = some t) : s = ⟨t.text.toArray⟩ ∧ t.ok = true := by
  rw [← readS_eq] at h
  unfold readS at h
  split at h
  · rename_i t' j hs
    split at h
    · rename_i hj
      simp only [Option.some.injEq] at h
      subst h
      have hfn : t'.fit = true ∧ t'.nodes ≤ 15 := by simpa [T.ok] using hj.2
      obtain ⟨e1, e2⟩ := taskS_text s _ _ _ _ hs hfn.1
      refine ⟨?_, hj.2⟩
      have hlen : s.size = t'.text.length := by omega
      apply ByteArray.ext
      apply Array.ext
      · simpa using hlen
      · intro i h1 h2
        have h2' : i < t'.text.length := by simpa using h2
        have := e1 i h2'
        rw [Nat.zero_add] at this
        have hi : i < s.size := h1
        rw [← at_lt hi] at this
        have h3 : s.data[i] = t'.text[i] := UInt8.toNat_inj.1 this
        simpa using h3
    · cases h
  · cases h
end Go.Proofs.YtgcjnhlppapfdaaDoor
