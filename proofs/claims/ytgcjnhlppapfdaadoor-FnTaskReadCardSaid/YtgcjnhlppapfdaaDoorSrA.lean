/- spec.l1Rd.task, for every fuel -/
import Derived.Test.YtgcjnhlppapfdaaDoorSrG0
import Derived.Test.YtgcjnhlppapfdaaDoorSrG2
import Derived.Test.YtgcjnhlppapfdaaDoorSrG3
import Derived.Test.YtgcjnhlppapfdaaDoorSrG4
import Derived.Test.YtgcjnhlppapfdaaDoorSrG5
import Derived.Test.YtgcjnhlppapfdaaDoorRdA
namespace Go.Proofs.YtgcjnhlppapfdaaDoor
open Go.RowKit Go.Lib

theorem tskS_all : ∀ f, TskS f
  | 0 => fun w g p s h hp hs hf => by omega
  | f + 1 => fun w g p s h hp hs hf => by
    have hT := tskS_all f
    by_cases hk : at_ s p = 107
    · exact task_k f w g p s h hs hk
    by_cases h40 : at_ s p = 40
    · by_cases h43 : at_ s (p + 1) = 43
      · exact gs_2 f hT w g p s h hs hf h40 h43
      by_cases h42 : at_ s (p + 1) = 42
      · exact gs_3 f hT w g p s h hs hf h40 h42
      by_cases h63 : at_ s (p + 1) = 63
      · exact gs_4 f hT w g p s h hs hf h40 h63
      by_cases h64 : at_ s (p + 1) = 64
      · exact gs_5 f hT w g p s h hs hf h40 h64
      exact gs_0 f w g p s h hs h40 ⟨h43, h42, h63, h64⟩
    · exact task_n f w g p s h hs hp hk h40

/-- What the model reads of a text. -/
def readS (s : ByteArray) : Option T := match taskS (s.size + 15) s 0 with
  | some (t, j) => if j = s.size ∧ t.ok = true then some t else none
  | none => none
/-- THE TWO READERS AGREE. -/
theorem readS_eq (s : ByteArray) : readS s = readP s := by
  unfold readS readP
  cases hp : taskP 15 s 0 15 with
  | some x =>
    obtain ⟨t, j, l⟩ := x
    obtain ⟨h1, h2, h3⟩ := taskS_of s 15 (s.size + 15) (by omega) 0 15 t j l hp
    have hok : t.ok = true := by simp [T.ok, h2]; omega
    rw [h1]
    simp [hok]
  | none =>
    cases hs : taskS (s.size + 15) s 0 with
    | none => rfl
    | some x =>
      obtain ⟨t, j⟩ := x
      by_cases hok : t.ok = true
      · have hfn : t.fit = true ∧ t.nodes ≤ 15 := by simpa [T.ok] using hok
        have := taskS_to s (s.size + 15) 15 0 15 t j hs hfn.1 hfn.2 (Nat.le_refl _)
        rw [hp] at this
        cases this
      · simp [hok]
end Go.Proofs.YtgcjnhlppapfdaaDoor
