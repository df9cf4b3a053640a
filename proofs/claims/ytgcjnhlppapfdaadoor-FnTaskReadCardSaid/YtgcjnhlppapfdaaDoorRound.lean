/- what is written is read back: taskP of a text gives its task -/
import Derived.Test.YtgcjnhlppapfdaaDoorRdP
namespace Go.Proofs.YtgcjnhlppapfdaaDoor

/-- The bytes l stand in s from p on. -/
def SubAt (s : ByteArray) (p : Nat) (l : List UInt8) : Prop := ∀ i (h : i < l.length), at_ s (p + i) = l[i].toNat

theorem SubAt.left {s : ByteArray} {p : Nat} {l r : List UInt8} (h : SubAt s p (l ++ r)) : SubAt s p l := by
  intro i hi
  have := h i (by simp; omega)
  rw [this, List.getElem_append_left hi]
theorem SubAt.right {s : ByteArray} {p : Nat} {l r : List UInt8} (h : SubAt s p (l ++ r)) : SubAt s (p + l.length) r := by
  intro i hi
  have := h (l.length + i) (by simp; omega)
  rw [Nat.add_assoc, this, List.getElem_append_right (by omega)]
  simp
theorem SubAt.head {s : ByteArray} {p : Nat} {b : UInt8} {r : List UInt8} (h : SubAt s p (b :: r)) : at_ s p = b.toNat := h 0 (by simp)
theorem SubAt.tail {s : ByteArray} {p : Nat} {b : UInt8} {r : List UInt8} (h : SubAt s p (b :: r)) : SubAt s (p + 1) r := by
  have := SubAt.right (l := [b]) (r := r) h
  simpa using this

theorem isD_dig (v : Nat) (h : v < 10) : isD (digB v).toNat = true := by rw [digB_nat v h]; simp [isD]; omega

theorem numAt_dec {s : ByteArray} {p v top : Nat} (hv : v ≤ top) (ht : top ≤ 96) (h : SubAt s p (dec v)) (hn : isD (at_ s (p + (dec v).length)) = false) : numAt s p top = some (v, (dec v).length) := by
  unfold dec at h hn ⊢
  by_cases h10 : v < 10
  · rw [if_pos h10] at h hn ⊢
    have h0 := h.head
    have hd := isD_dig v h10
    rw [← h0] at hd
    rw [digB_nat v h10] at h0
    have := numAt_one (top := top) hd (by simpa using hn) (by omega)
    rw [this]
    simp; omega
  · rw [if_neg h10] at h hn ⊢
    have h0 := h.head
    have h1 := h.tail.head
    have hd := isD_dig (v / 10) (by omega)
    have hd1 := isD_dig (v % 10) (by omega)
    rw [← h0] at hd
    rw [← h1] at hd1
    rw [digB_nat _ (by omega)] at h0 h1
    have := numAt_two (top := top) hd hd1 (by omega) (by simpa using hn) (by omega)
    rw [this]
    simp; omega

def RoundT (t : T) : Prop := ∀ (s : ByteArray) (f left p : Nat), t.fit = true → t.nodes ≤ left → left ≤ f → SubAt s p t.text → isD (at_ s (p + t.text.length)) = false →
  taskP f s p left = some (t, p + t.text.length, left - t.nodes)

theorem round_parts (s : ByteArray) (f : Nat) : ∀ (ps : List T), (∀ u ∈ ps, RoundT u) → ∀ left p, fitL ps = true → nodesL ps ≤ left → left ≤ f → SubAt s p (textL ps) → isD (at_ s (p + (textL ps).length)) = false →
    partsP (fun j l => taskP f s j l) s ps.length p left = some (ps, p + (textL ps).length, left - nodesL ps)
  | [], _, left, p, _, _, _, _, _ => by simp [partsP, textL, nodesL]
  | t :: r, hI, left, p, hf, hn, hl, hs, hd => by
    simp only [fitL, Bool.and_eq_true] at hf
    simp only [nodesL] at hn ⊢
    simp only [textL, List.cons_append] at hs hd ⊢
    have h32 : at_ s p = 32 := hs.head
    have hs1 := hs.tail
    have hst := hs1.left
    have hsr := hs1.right
    have hlen : (32 :: (t.text ++ textL r)).length = 1 + t.text.length + (textL r).length := by simp; omega
    rw [hlen] at hd ⊢
    have hd1 : isD (at_ s (p + 1 + t.text.length)) = false := by
      cases r with
      | nil => rw [show p + 1 + t.text.length = p + (1 + t.text.length + (textL []).length) by simp [textL]; omega]; exact hd
      | cons u r' =>
        have := SubAt.head (show SubAt s (p + 1 + t.text.length) (32 :: (u.text ++ textL r')) by simpa [textL] using hsr)
        rw [this]; rfl
    have h1 := hI t (by simp) s f left (p + 1) hf.1 (by omega) hl hst hd1
    have h2 := round_parts s f r (fun u hu => hI u (by simp [hu])) (left - t.nodes) (p + 1 + t.text.length) hf.2 (by omega) (by omega) hsr (by rw [show p + 1 + t.text.length + (textL r).length = p + (1 + t.text.length + (textL r).length) by omega]; exact hd)
    simp only [List.length_cons, partsP]
    rw [if_pos h32, h1]
    simp only
    rw [h2]
    simp only [Option.some.injEq, Prod.mk.injEq, true_and]
    omega

/-- What a fit task is, kind by kind. -/
theorem fit_kinds {k n : Int} {m : Nat} (h : fit1 k n m = true) : (k = 0 ∧ m = 0 ∧ 0 ≤ n ∧ n ≤ 96) ∨ (k = 1 ∧ m = 0 ∧ 0 ≤ n ∧ n ≤ 9) ∨ (k = 2 ∧ m = 2 ∧ n = 0) ∨ (k = 3 ∧ m = 2 ∧ n = 0) ∨ (k = 4 ∧ m = 3 ∧ n = 0) ∨ (k = 5 ∧ m = 1 ∧ 0 ≤ n ∧ n ≤ 9) := by
  unfold fit1 shp at h
  simp only [Bool.and_eq_true, decide_eq_true_eq] at h
  obtain ⟨⟨h1, h2⟩, h3⟩ := h
  repeat' split at h1
  all_goals first | (simp at h1; done) | (simp_all <;> omega)

theorem round_group {s : ByteArray} {f left p k n m q : Nat} {ps : List T} {hd : List UInt8} (hI : ∀ u ∈ ps, RoundT u) (hh : headP s p = some (k, n, m, p + hd.length)) (hm : m = ps.length)
    (hf : fitL ps = true) (hn : nodesL ps ≤ left) (hl : left ≤ f) (hs : SubAt s p (hd ++ textL ps ++ [41])) (hq : q = p + (hd ++ textL ps ++ [41]).length) :
    groupP (fun j l => taskP f s j l) s p left = some (.mk k n ps, q, left - nodesL ps) := by
  subst hm
  have h41 : at_ s (p + hd.length + (textL ps).length) = 41 := by
    have := hs.right.head
    rw [List.length_append, ← Nat.add_assoc] at this
    exact this
  have h := round_parts s f ps hI left (p + hd.length) hf hn hl (hs.left.right) (by rw [h41]; rfl)
  unfold groupP
  rw [hh]
  simp only
  rw [h]
  simp only
  rw [if_pos h41]
  simp only [Option.some.injEq, Prod.mk.injEq, true_and, and_true]
  rw [hq]
  simp
  omega

theorem round_of (t : T) (hI : ∀ u ∈ t.ps, RoundT u) : RoundT t := by
  intro s f left p hfit hn hl hs hd
  obtain ⟨k, n, ps⟩ := t
  simp only [T.ps] at hI
  have hf := hfit
  rw [T.fit_eq] at hf
  simp only [T.k, T.n, T.ps, Bool.and_eq_true] at hf
  obtain ⟨hf1, hf2⟩ := hf
  simp only [T.nodes] at hn ⊢
  obtain ⟨f', rfl⟩ : ∃ f', f = f' + 1 := ⟨f - 1, by omega⟩
  have hl0 : ¬ left = 0 := by omega
  rcases fit_kinds hf1 with ⟨rfl, hm, h0, h1⟩ | ⟨rfl, hm, h0, h1⟩ | ⟨rfl, hm, rfl⟩ | ⟨rfl, hm, rfl⟩ | ⟨rfl, hm, rfl⟩ | ⟨rfl, hm, h0, h1⟩
  · obtain rfl : ps = [] := List.length_eq_zero_iff.1 hm
    obtain ⟨v, rfl⟩ : ∃ v : Nat, n = v := ⟨n.toNat, by omega⟩
    have ht : (T.mk 0 (v : Int) []).text = dec v := by simp [T.text]
    rw [ht] at hs hd ⊢
    have hnum := numAt_dec (top := 96) (by omega) (by omega) hs hd
    have hdg : isD (at_ s p) = true := by
      cases hx : isD (at_ s p)
      · rw [numAt_no 96 hx] at hnum; cases hnum
      · rfl
    simp [isD] at hdg
    simp only [taskP]
    rw [if_neg hl0, if_neg (by omega), if_neg (by omega), hnum]
    simp [nodesL]
  · obtain rfl : ps = [] := List.length_eq_zero_iff.1 hm
    obtain ⟨v, rfl⟩ : ∃ v : Nat, n = v := ⟨n.toNat, by omega⟩
    have ht : (T.mk 1 (v : Int) []).text = 107 :: dec v := by simp [T.text]
    rw [ht] at hs hd ⊢
    have h107 : at_ s p = 107 := hs.head
    have hnum := numAt_dec (top := 9) (by omega) (by omega) hs.tail (by rw [← hd]; congr 2; simp; omega)
    simp only [taskP]
    rw [if_neg hl0, if_neg (by omega), if_pos h107, hnum]
    simp [nodesL]
    omega
  · have ht : (T.mk 2 0 ps).text = 40 :: ([43] ++ textL ps ++ [41]) := by simp [T.text, headB]
    rw [ht] at hs hd ⊢
    have h40 : at_ s p = 40 := hs.head
    have hs1 := hs.tail
    have h43 : at_ s (p + 1) = 43 := hs1.left.left.head
    simp only [taskP]
    rw [if_neg hl0, if_pos h40]
    rw [round_group (k := 2) (n := 0) (m := 2) (hd := [43]) (q := p + (40 :: ([43] ++ textL ps ++ [41])).length) hI (by unfold headP; rw [if_pos h43]; rfl) hm.symm hf2 (by omega) (by omega) hs1 (by simp; omega)]
    simp
    omega
  · have ht : (T.mk 3 0 ps).text = 40 :: ([42] ++ textL ps ++ [41]) := by simp [T.text, headB]
    rw [ht] at hs hd ⊢
    have h40 : at_ s p = 40 := hs.head
    have hs1 := hs.tail
    have h43 : at_ s (p + 1) = 42 := hs1.left.left.head
    simp only [taskP]
    rw [if_neg hl0, if_pos h40]
    rw [round_group (k := 3) (n := 0) (m := 2) (hd := [42]) (q := p + (40 :: ([42] ++ textL ps ++ [41])).length) hI (by unfold headP; rw [if_neg (by omega), if_pos h43]; rfl) hm.symm hf2 (by omega) (by omega) hs1 (by simp; omega)]
    simp
    omega
  · have ht : (T.mk 4 0 ps).text = 40 :: ([63] ++ textL ps ++ [41]) := by simp [T.text, headB]
    rw [ht] at hs hd ⊢
    have h40 : at_ s p = 40 := hs.head
    have hs1 := hs.tail
    have h43 : at_ s (p + 1) = 63 := hs1.left.left.head
    simp only [taskP]
    rw [if_neg hl0, if_pos h40]
    rw [round_group (k := 4) (n := 0) (m := 3) (hd := [63]) (q := p + (40 :: ([63] ++ textL ps ++ [41])).length) hI (by unfold headP; rw [if_neg (by omega), if_neg (by omega), if_pos h43]; rfl) hm.symm hf2 (by omega) (by omega) hs1 (by simp; omega)]
    simp
    omega
  · obtain ⟨v, rfl⟩ : ∃ v : Nat, n = v := ⟨n.toNat, by omega⟩
    have ht : (T.mk 5 (v : Int) ps).text = 40 :: ((64 :: dec v) ++ textL ps ++ [41]) := by simp [T.text, headB]
    rw [ht] at hs hd ⊢
    have h40 : at_ s p = 40 := hs.head
    have hs1 := hs.tail
    have h43 : at_ s (p + 1) = 64 := hs1.left.left.head
    match ps, hm with
    | [u], _ =>
      have h32 : at_ s (p + 1 + (64 :: dec v).length) = 32 := by
        have := hs1.left.right
        simp only [textL, List.cons_append] at this
        exact this.head
      have hnum := numAt_dec (top := 9) (by omega) (by omega) hs1.left.left.tail (by rw [show p + 1 + 1 + (dec v).length = p + 1 + (64 :: dec v).length by simp; omega, h32]; rfl)
      simp only [taskP]
      rw [if_neg hl0, if_pos h40]
      rw [round_group (k := 5) (n := v) (m := 1) (hd := 64 :: dec v) (q := p + (40 :: ((64 :: dec v) ++ textL [u] ++ [41])).length) hI (by unfold headP; rw [if_neg (by omega), if_neg (by omega), if_neg (by omega), if_pos h43, hnum]; simp; omega) rfl hf2 (by omega) (by omega) hs1 (by simp; omega)]
      simp
      omega

theorem round_all : ∀ t, RoundT t := T.ind fun k n ps ih => round_of (.mk k n ps) ih
end Go.Proofs.YtgcjnhlppapfdaaDoor
