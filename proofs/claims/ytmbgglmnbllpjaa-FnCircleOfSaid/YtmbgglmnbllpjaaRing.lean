/- what CircleOf answers is a circle (pure) -/
import Derived.Test.YtmbgglmnbllpjaaBnds
namespace Go.Proofs.Ytmbgglmnbllpjaa

/-- Each one is fetched by the one ahead of it, the first by the last. -/
def Ring (nx : Int → Option Int) (R : List Int) : Prop := R ≠ [] ∧ ∀ i (h : i < R.length), nx R[i] = R[(i + 1) % R.length]?

theorem cyc_ring {ch : Int → List Int} {ok : Int → Bool} {n : Nat} (hx : ∀ k, ok k = false → ∃ j, nxt ch ok k = some j) (hin : ∀ k, ok k = false → 0 ≤ k ∧ k < n) :
    ∀ (f : Nat) (U : List Int) (k : Int), U.length + f = n + 1 → U.Nodup → (∀ x ∈ U, ok x = false) → ok k = false → (∀ i (h : i < U.length), nxt ch ok U[i] = (U ++ [k])[i + 1]?) → Ring (nxt ch ok) (cyc ch ok f U k) ∧ ∀ x ∈ cyc ch ok f U k, ok x = false
  | 0, U, k, hl, hnd, hU, _, _ => by
    have := nodup_bound n U hnd (fun x hx => hin x (hU x hx))
    omega
  | f + 1, U, k, hl, hnd, hU, hk, hc => by
    unfold cyc
    split
    · rename_i hm
      have hi := List.idxOf_lt_length_of_mem hm
      have hg : U[U.idxOf k] = k := List.getElem_idxOf hi
      have hlen : (U.drop (U.idxOf k)).length = U.length - U.idxOf k := by simp
      refine ⟨⟨fun e => by rw [e] at hlen; simp at hlen; omega, fun i h => ?_⟩, fun x hx => hU x (List.mem_of_mem_drop hx)⟩
      rw [hlen] at h ⊢
      rw [List.getElem_drop, hc _ (by omega), List.getElem?_drop]
      by_cases hlast : i + 1 < U.length - U.idxOf k
      · rw [Nat.mod_eq_of_lt hlast, List.getElem?_append_left (by omega)]
        congr 1
      · have e : i + 1 = U.length - U.idxOf k := by omega
        have e2 : U[U.idxOf k + 0]? = some k := by rw [Nat.add_zero, List.getElem?_eq_getElem hi, hg]
        rw [e, Nat.mod_self, List.getElem?_append_right (by omega), e2]
        rw [show U.idxOf k + i + 1 - U.length = 0 by omega]
        rfl
    · rename_i hm
      obtain ⟨j, hj⟩ := hx k hk
      rw [hj]
      have hjk := (nxt_some hj).2
      refine cyc_ring hx hin f (U ++ [k]) j (by simp; omega) ?_ ?_ hjk ?_
      · rw [List.nodup_append]
        refine ⟨hnd, by simp, fun a ha b hb => ?_⟩
        rw [List.mem_singleton] at hb
        subst hb
        rintro rfl
        exact hm ha
      · intro x hx
        rcases List.mem_append.1 hx with hx | hx
        · exact hU x hx
        · rw [List.mem_singleton.1 hx]; exact hk
      · intro i h
        rw [List.length_append, List.length_singleton] at h
        by_cases hi : i < U.length
        · rw [List.getElem_append_left hi, hc i hi]
          exact (List.getElem?_append_left (by simp only [List.length_append, List.length_singleton]; omega)).symm
        · obtain rfl : i = U.length := by omega
          rw [List.getElem_append_right (by omega)]
          simp [hj]

/-- CircleOf's answer: if there is one, it is not empty; each key of it is made, and the next one is in its TaskMay. -/
theorem coL_ring {s : Sh} {l : List Int} {key : Int} (h : coB s l key = true) : coL s l key ≠ [] ∧ ∀ i (hi : i < (coL s l key).length), s.mdI (coL s l key)[i] = true ∧ ∃ y, (coL s l key)[(i + 1) % (coL s l key).length]? = some y ∧ (s.tkI (coL s l key)[i]).may y = true ∧ 0 ≤ y ∧ y ≤ 9 := by
  have hb := h
  unfold coB at hb
  rw [Bool.and_eq_true, Bool.and_eq_true, decide_eq_true_eq] at hb
  obtain ⟨⟨hin, hkey⟩, hno⟩ := hb
  obtain ⟨hok, _, _⟩ := inOk_of hin
  have hg := gr_S hok l
  have hno' : okS s l key = false := by simpa using hno
  have hfd : ∀ k, okS s l k = false → s.mdI k = true := fun k hk => by
    cases hm : s.mdI k
    · rw [hg.d0ok k (by simp [hm])] at hk; cases hk
    · rfl
  have hx : ∀ k, okS s l k = false → ∃ j, nxt (chS s l) (okS s l) k = some j := fun k hk => by
    cases hn : nxt (chS s l) (okS s l) k with
    | some j => exact ⟨j, rfl⟩
    | none => rw [hg.up k (nxt_none hn)] at hk; cases hk
  have hr := cyc_ring hx (fun k hk => mdI_bd (hfd k hk)) (s.m.length + 1) [] key (by simp) (by simp) (by simp) hno' (by simp)
  have e : coL s l key = cyc (chS s l) (okS s l) (s.m.length + 1) [] key := by unfold coL; rw [if_pos h]; rfl
  rw [e]
  refine ⟨hr.1.1, fun i hi => ⟨hfd _ (hr.2 _ (List.getElem_mem hi)), ?_⟩⟩
  have h1 := hr.1.2 i hi
  obtain ⟨y, hy⟩ := hx _ (hr.2 _ (List.getElem_mem hi))
  rw [hy] at h1
  have hf := tkI_fit hok (cyc (chS s l) (okS s l) (s.m.length + 1) [] key)[i]
  exact ⟨y, h1.symm, kys_may _ _ hf y (nxt_some hy).1, (T.kys_bd _ _ hf).1 y (nxt_some hy).1⟩
end Go.Proofs.Ytmbgglmnbllpjaa
