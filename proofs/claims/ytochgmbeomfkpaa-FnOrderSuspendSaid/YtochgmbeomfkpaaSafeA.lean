/- what is safe is built with all inputs -/
import Derived.Test.YtochgmbeomfkpaaSafeS
import Derived.Test.YtochgmbeomfkpaaAllI
namespace Go.Proofs.Ytochgmbeomfkpaa
open Go.RowKit

/-- What is safe is built with all inputs. -/
theorem safe_ok {s : Sh} (h : s.ok = true) (l : List Int) : ∀ (r : Nat) (k : Int), rkG (chM s) (fun k => !s.mdI k) k ≤ r → okM s k = true → okS s l k = true := by
  intro r
  induction r with
  | zero =>
    intro k hr hk
    cases hd : (fun k => !s.mdI k) k
    · refine (gr_S h l).up k fun j hj => ?_
      have hf := tkI_fit h k
      have hm := kys_may _ (s.tkI k) hf j hj
      have hb := (T.kys_bd _ (s.tkI k) hf).1 j hj
      have := ((gr_M s).down k hk hd j (mayI_mem.2 ⟨hb.1, by omega, hm⟩)).2
      omega
    · exact (gr_S h l).d0ok k hd
  | succ r ih =>
    intro k hr hk
    cases hd : (fun k => !s.mdI k) k
    · refine (gr_S h l).up k fun j hj => ?_
      have hf := tkI_fit h k
      have hm := kys_may _ (s.tkI k) hf j hj
      have hb := (T.kys_bd _ (s.tkI k) hf).1 j hj
      have hj' := (gr_M s).down k hk hd j (mayI_mem.2 ⟨hb.1, by omega, hm⟩)
      exact ih j (by omega) hj'.1
    · exact (gr_S h l).d0ok k hd
theorem safe_all {s : Sh} {l : List Int} (h : safeB s = true) (hl : l.length = s.m.length) (hv : vok l = true) : baB s l = true := by
  unfold safeB at h
  rw [Bool.and_eq_true, List.all_eq_true] at h
  unfold baB inOk baTo
  rw [h.1, hv, hl]
  simp only [decide_true, Bool.true_and, List.all_eq_true]
  exact fun i hi => safe_ok h.1 l _ _ (Nat.le_refl _) (h.2 i hi)
end Go.Proofs.Ytochgmbeomfkpaa
