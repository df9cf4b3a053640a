/- a value hangs on what is fetched alone; the walk of laws.FnTaskValue -/
import Derived.Test.YtoaihkgllmmdlaaLawDFet
import Derived.Test.YtoaihkgllmmdlaaBs1
import Derived.StillTailTactics
namespace Go.Proofs.Ytoaihkgllmmdlaa
open Go.RowKit

theorem FetAt.lim {vs : Int → Int} {w : World} {S : Nat → Prop} {ks : List Int} {a : Option Addr} {c : Nat} (h : FetAt vs w S ks a c) : FetAt vs w (fun b => S b ∧ b < w.heap.size) ks a c := by
  obtain ⟨h1, h2, h4⟩ := h
  refine ⟨h1, h2, ?_⟩
  rcases h4 with h4 | ⟨b, o, ha, hb, hc⟩
  · exact .inl h4
  · by_cases hl : ks = []
    · exact .inl hl
    · exact .inr ⟨b, o, ha, ⟨hb, cell_lt (hc 0 (List.length_pos_iff.2 hl)).1⟩, hc⟩

theorem val_agree (vs vs' : Int → Int) : ∀ t : T, t.fit = true → (∀ k ∈ t.kys vs, vs' k = vs k) → t.val vs' = t.val vs ∧ t.kys vs' = t.kys vs := T.ind fun k n ps ih hf => by
  generalize ht : T.mk k n ps = t at hf ⊢
  refine T.cases_fit (P := fun t => (∀ k ∈ t.kys vs, vs' k = vs k) → t.val vs' = t.val vs ∧ t.kys vs' = t.kys vs) t hf ?_ ?_ ?_ ?_ ?_ ?_
  · rintro n a0 a1 rfl _; simp only [val_0, kys_0]; exact ⟨trivial, trivial⟩
  · rintro n a0 a1 rfl h; rw [kys_1] at h; simp only [val_1, kys_1]; exact ⟨h n (by simp), trivial⟩
  · rintro a b ha hb rfl h; injection ht with _ _ hps; subst hps; rw [kys_2] at h
    obtain ⟨h1, h2⟩ := ih a (by simp) ha (fun k hk => h k (by simp [hk]))
    obtain ⟨h3, h4⟩ := ih b (by simp) hb (fun k hk => h k (by simp [hk]))
    simp only [val_2, kys_2, h1, h2, h3, h4]; exact ⟨trivial, trivial⟩
  · rintro a b ha hb rfl h; injection ht with _ _ hps; subst hps; rw [kys_3] at h
    obtain ⟨h1, h2⟩ := ih a (by simp) ha (fun k hk => h k (by simp [hk]))
    obtain ⟨h3, h4⟩ := ih b (by simp) hb (fun k hk => h k (by simp [hk]))
    simp only [val_3, kys_3, h1, h2, h3, h4]; exact ⟨trivial, trivial⟩
  · rintro a b c ha hb hc rfl h; injection ht with _ _ hps; subst hps; rw [kys_4] at h
    obtain ⟨h1, h2⟩ := ih a (by simp) ha (fun k hk => h k (by simp [hk]))
    by_cases h0 : a.val vs = 0
    · rw [if_pos h0] at h
      obtain ⟨h3, h4⟩ := ih c (by simp) hc (fun k hk => h k (by simp [hk]))
      simp only [val_4, kys_4, h1, h2, h3, h4, if_pos h0]; exact ⟨trivial, trivial⟩
    · rw [if_neg h0] at h
      obtain ⟨h3, h4⟩ := ih b (by simp) hb (fun k hk => h k (by simp [hk]))
      simp only [val_4, kys_4, h1, h2, h3, h4, if_neg h0]; exact ⟨trivial, trivial⟩
  · rintro n a a0 a1 ha rfl h; injection ht with _ _ hps; subst hps; rw [kys_5] at h
    obtain ⟨h1, h2⟩ := ih a (by simp) ha (fun k hk => h k (by simp [hk]))
    simp only [val_5, kys_5, h1, h2]
    exact ⟨h _ (by simp), trivial⟩

/-- The values of ten keys that are among ks, 0 of the others. -/
def lessL (vs : Int → Int) (ks : List Int) : List Int := (List.range 10).map fun (i : Nat) => if (i : Int) ∈ ks then vs i else 0
theorem lessL_len (vs : Int → Int) (ks : List Int) : (lessL vs ks).length = 10 := by simp [lessL]
theorem lessL_get (vs : Int → Int) (ks : List Int) (i : Nat) (h : i < (lessL vs ks).length) : (lessL vs ks)[i] = if (i : Int) ∈ ks then vs i else 0 := by simp [lessL]
theorem lessL_bd {vs : Int → Int} (ks : List Int) (hv : ∀ k ∈ ks, 0 ≤ vs k ∧ vs k ≤ 96) : ∀ x ∈ lessL vs ks, 0 ≤ x ∧ x ≤ 96 := by
  intro x hx
  obtain ⟨i, _, rfl⟩ := List.mem_map.1 hx
  split
  · rename_i h; exact hv _ h
  · omega
theorem lessL_ok {vs : Int → Int} {ks : List Int} (hv : ∀ k ∈ ks, 0 ≤ vs k ∧ vs k ≤ 96) : vok (lessL vs ks) = true := by
  unfold vok
  rw [lessL_len, Bool.and_eq_true, List.all_eq_true]
  refine ⟨by decide, fun x hx => ?_⟩
  have := lessL_bd ks hv x hx
  unfold vin
  exact decide_eq_true this
theorem lessL_vf {vs : Int → Int} {ks : List Int} (hk : ∀ k ∈ ks, 0 ≤ k ∧ k ≤ 9) : ∀ k ∈ ks, vf (lessL vs ks) k = vs k := by
  intro k hm
  obtain ⟨h0, h9⟩ := hk k hm
  obtain ⟨n, rfl⟩ : ∃ n : Nat, k = n := ⟨k.toNat, by omega⟩
  rw [vf_in (by rw [lessL_len]; omega), lessL_get, if_pos hm]

/-- One more is stored. -/
theorem less_step {w : World} {g : Nat} {vs : Int → Int} {ks : List Int} {kn : Nat} (h : IRow w g 10 (lessL vs ks)) (hk : kn < 10) (v : Int) (hv : v = vs kn) : IRow (w.setCell ⟨g, kn, none⟩ (.int .i64 v)) g 10 (lessL vs (ks ++ [(kn : Int)])) := by
  obtain ⟨cs, hb, hs, hc⟩ := h
  refine ⟨_, hb.set_ kn (.int .i64 v), by simp [hs], fun i hi => ?_⟩
  have hi' : i < 10 := by rwa [lessL_len] at hi
  rw [lessL_get]
  by_cases hik : i = kn
  · subst hik
    rw [if_pos (by simp), ← hv]
    simp [hs, hi']
  · have := hc i (by rw [lessL_len]; exact hi')
    rw [lessL_get] at this
    have hm : ((i : Int) ∈ ks ++ [(kn : Int)]) ↔ (i : Int) ∈ ks := by
      rw [List.mem_append, List.mem_singleton]
      constructor
      · rintro (h | h)
        · exact h
        · exfalso; omega
      · exact .inl
    rw [Array.getElem?_setIfInBounds, if_neg (fun h => hik h.symm), this]
    by_cases hmem : (i : Int) ∈ ks
    · rw [if_pos hmem, if_pos (hm.2 hmem)]
    · rw [if_neg hmem, if_neg (fun h => hmem (hm.1 h))]
theorem IRow.at {w : World} {g n : Nat} {l : List Int} (h : IRow w g n l) (hl : l.length = n) (hn : n ≤ 1000) (ho : ∀ x ∈ l, i64ok x) : IntsAt w (fun b => b = g) l (some ⟨g, 0, none⟩) n := by
  obtain ⟨cs, hb, hs, hc⟩ := h
  exact ⟨by omega, by omega, ho, .inr ⟨g, 0, rfl, rfl, fun i hi => by rw [Nat.zero_add, hb.cell i]; exact hc i hi⟩⟩

end Go.Proofs.Ytoaihkgllmmdlaa
