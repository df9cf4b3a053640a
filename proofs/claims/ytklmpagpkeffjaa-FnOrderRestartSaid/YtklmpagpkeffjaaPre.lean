/- what is fetched may be fetched; the same first key outside what agrees -/
import Derived.Test.YtklmpagpkeffjaaShV
import Derived.Test.YtklmpagpkeffjaaMay
namespace Go.Proofs.Ytklmpagpkeffjaa
open Go.RowKit

theorem kys_may (vs : Int → Int) : ∀ t : T, t.fit = true → ∀ k ∈ t.kys vs, t.may k = true := T.ind fun k n ps ih hf => by
  generalize ht : T.mk k n ps = t at hf ⊢
  refine T.cases_fit (P := fun t => ∀ k ∈ t.kys vs, t.may k = true) t hf ?_ ?_ ?_ ?_ ?_ ?_
  · rintro n a0 a1 rfl; rw [kys_0]; simp
  · rintro n a0 a1 rfl; rw [kys_1]; simp [T.may]
  · rintro a b ha hb rfl; injection ht with _ _ hps; subst hps; rw [kys_2]
    intro q hq
    simp only [T.may, mayL]
    rcases List.mem_append.1 hq with hq | hq
    · rw [ih a (by simp) ha q hq]; simp
    · rw [ih b (by simp) hb q hq]; simp
  · rintro a b ha hb rfl; injection ht with _ _ hps; subst hps; rw [kys_3]
    intro q hq
    simp only [T.may, mayL]
    rcases List.mem_append.1 hq with hq | hq
    · rw [ih a (by simp) ha q hq]; simp
    · rw [ih b (by simp) hb q hq]; simp
  · rintro a b c ha hb hc rfl; injection ht with _ _ hps; subst hps; rw [kys_4]
    intro q hq
    simp only [T.may, mayL]
    rcases List.mem_append.1 hq with hq | hq
    · rw [ih a (by simp) ha q hq]; simp
    · split at hq
      · rw [ih c (by simp) hc q hq]; simp
      · rw [ih b (by simp) hb q hq]; simp
  · rintro n a a0 a1 ha rfl; intro q _; simp [T.may]

end Go.Proofs.Ytklmpagpkeffjaa
