/- what restarting and suspending have in common, and how often a key is tried: plain words, no program -/
import Derived.Test.YtmbgglmnbllpjaaOrdE
import Derived.Test.YtmbgglmnbllpjaaBnds
namespace Go.Proofs.Ytmbgglmnbllpjaa
open Go.RowKit

/-- Who waits is told in the end. -/
theorem ends_mem {ch : Int → List Int} {d : Int → Bool} {q o : List Int} {m : Nat} (h : Ends emS ch d q o m) : ∀ k ∈ q, d k = false → k ∈ o := by
  induction h with
  | nil d => intro k hk; simp at hk
  | @skip d f q o m hf _ ih =>
    intro k hk hd
    rcases List.mem_cons.1 hk with rfl | hk
    · rw [hd] at hf; cases hf
    · exact ih k hk hd
  | @fin d f q o m hf hn _ ih =>
    intro k hk hd
    rw [List.mem_append]
    by_cases hkf : k = f
    · subst hkf; left; simp [emS]
    · right
      rcases List.mem_cons.1 hk with h | hk
      · exact absurd h hkf
      · exact ih k hk (by unfold upd; rw [hd, decide_eq_false hkf]; rfl)
  | @more d f j q o m hf hn _ ih =>
    intro k hk hd
    rw [List.mem_append]
    exact .inr (ih k (by rw [List.mem_cons]; exact .inr hk) hd)

/-- Suspending tells the same keys as restarting. -/
theorem ends_both {ch : Int → List Int} {d : Int → Bool} {q o : List Int} {m : Nat} (h : Ends emR ch d q o m) : ∃ o', Ends emS ch d q o' m ∧ (∀ x, x ∈ o ↔ x ∈ o') := by
  induction h with
  | nil d => exact ⟨[], .nil d, fun _ => Iff.rfl⟩
  | skip hf _ ih =>
    obtain ⟨o', h1, h2⟩ := ih
    exact ⟨o', .skip hf h1, h2⟩
  | @fin d f q o m hf hn _ ih =>
    obtain ⟨o', h1, h2⟩ := ih
    refine ⟨_, .fin hf hn h1, fun x => ?_⟩
    rw [List.mem_append, List.mem_append, h2 x]
    simp [emR, emS]
  | @more d f j q o m hf hn _ ih =>
    obtain ⟨o', h1, h2⟩ := ih
    refine ⟨_, .more hf hn h1, fun x => ?_⟩
    rw [List.mem_append, List.mem_append, h2 x]
    have hm := ends_mem h1 f (by simp) hf
    simp only [emR, emS, List.mem_singleton, reduceCtorEq, if_false, List.not_mem_nil, false_or]
    constructor
    · rintro (rfl | h)
      · exact hm
      · exact h
    · exact .inr

theorem rs_su {s : Sh} {l ks : List Int} (h : rsB s l ks = true) : suB s l ks = true ∧ baB s l = true ∧ ∀ x, x ∈ rsL s l ks ↔ x ∈ suL s l ks := by
  have h' := h
  unfold rsB at h
  rw [Bool.and_eq_true, Bool.and_eq_true] at h
  have hok := (inOk_of h.1.1).1
  have hoks := fun x => safe_oks (l := l) h.1.1 h.2 x
  have hsu : suB s l ks = true := by
    unfold suB
    rw [h.1.1, h.1.2, Bool.true_and, Bool.true_and, List.all_eq_true]
    exact fun x _ => hoks x
  refine ⟨hsu, ?_, ?_⟩
  · unfold baB baTo
    rw [h.1.1, Bool.true_and, List.all_eq_true]
    exact fun i _ => hoks _
  · obtain ⟨o, m, he, _⟩ := ends_all (em := emR) (gr_S hok l) emR_cnt ks (fun x _ => hoks x) (d0S s) (fun _ h => h) (fun x _ => hoks x)
    obtain ⟨o', he', hx⟩ := ends_both he
    unfold rsL suL
    rw [if_pos h', if_pos hsu, endsL_eq he, endsL_eq he']
    exact hx

theorem vf_ba {s : Sh} {l : List Int} (h : baB s l = true) {k : Int} (hk : 0 ≤ k) : vf (baL s l) k = vsS s l k := by
  have e : baL s l = baVs s l s.m.length := by unfold baL; rw [if_pos h]
  have hin : inOk s l = true := by unfold baB at h; rw [Bool.and_eq_true] at h; exact h.1
  obtain ⟨h1, h2, _⟩ := inOk_of hin
  rw [e]
  unfold vf
  rw [baVs_len]
  by_cases hlt : k < s.m.length
  · rw [if_pos hlt]
    unfold baVs
    rw [List.getD_eq_getElem?_getD, List.getElem?_map, List.getElem?_range (by omega)]
    simp only [Option.map_some, Option.getD_some]
    rw [show ((k.toNat : Nat) : Int) = k by omega]
  · rw [if_neg hlt]
    have hm : s.mdI k = false := by
      cases hx : s.mdI k
      · rfl
      · have := mdI_bd hx; omega
    rw [vsS_free h1 hm, vf_far (by omega)]

theorem rs_md {s : Sh} {l ks : List Int} : (∀ x ∈ rsL s l ks, s.mdI x = true) ∧ (rsB s l ks = false → rsL s l ks = []) := by
  constructor
  · intro x hx
    unfold rsL at hx
    split at hx
    · rename_i h
      unfold rsB at h
      rw [Bool.and_eq_true, Bool.and_eq_true] at h
      have hok := (inOk_of h.1.1).1
      obtain ⟨o, m, he, hc⟩ := ends_all (em := emR) (gr_S hok l) emR_cnt ks (fun x _ => safe_oks h.1.1 h.2 x) (d0S s) (fun _ h => h) (fun x _ => safe_oks h.1.1 h.2 x)
      rw [endsL_eq he] at hx
      exact (ends_bd hok hc).1 x hx
    · simp at hx
  · intro h
    unfold rsL
    rw [h, if_neg (by decide)]

/-- A key is tried no more often than it fetches keys, and once more. -/
theorem rs_cnt {s : Sh} {l ks : List Int} (h : rsB s l ks = true) (x : Int) : (rsL s l ks).count x ≤ (usesL ((s.tkI x).kys (vf (baL s l)))).length + 1 := by
  have hba := (rs_su h).2.1
  have h' := h
  unfold rsB at h
  rw [Bool.and_eq_true, Bool.and_eq_true] at h
  have hok := (inOk_of h.1.1).1
  have hoks := fun x => safe_oks (l := l) h.1.1 h.2 x
  obtain ⟨o, m, he, hc⟩ := ends_all (em := emR) (gr_S hok l) emR_cnt ks (fun x _ => hoks x) (d0S s) (fun _ h => h) (fun x _ => hoks x)
  unfold rsL
  rw [if_pos h', endsL_eq he]
  have hk : (s.tkI x).kys (vf (baL s l)) = chS s l x := by
    refine ((pre_keys (fun k => decide (0 ≤ k)) (vsS s l) (vf (baL s l)) (fun k hk => vf_ba hba (of_decide_eq_true hk)) (s.tkI x) (tkI_fit hok _)).2 (fun k hk => ?_)).2
    exact decide_eq_true ((T.kys_bd (vsS s l) (s.tkI x) (tkI_fit hok _)).1 k hk).1
  rw [hk]
  refine Nat.le_trans (hc x) ?_
  unfold cnt
  split
  · omega
  · have := List.length_filter_le (fun y => !d0S s y) (usesL (chS s l x))
    omega
end Go.Proofs.Ytmbgglmnbllpjaa
