/- impl.BuildKey -/
import Derived.Test.YtochgmbeomfkpaaShG
namespace Go.Proofs.Ytochgmbeomfkpaa
open Go.RowKit

noncomputable def bkOk (s : Sh) (l : List Int) (key : Int) : Bool := inOk s l && (decide (0 ≤ key ∧ key < s.m.length) && okS s l key)
noncomputable def bkV (s : Sh) (l : List Int) (key : Int) : Int := if bkOk s l key = true then vsS s l key else 0
def BkPost (s : Sh) (l : List Int) (key : Int) (w : World) (e : Ending) (w' : World) : Prop := e = .returned (.tuple #[.int .i64 (bkV s l key), .bool (bkOk s l key)]) ∧ Below w.heap.size w w'
theorem BkPost.no {s : Sh} {l : List Int} {key : Int} {w w' : World} (h : bkOk s l key = false) (hb : Below w.heap.size w w') : BkPost s l key w (.returned (.tuple #[.int .i64 0, .bool false])) w' := by
  unfold BkPost bkV
  rw [h]; exact ⟨rfl, hb⟩
theorem BkPost.yes {s : Sh} {l : List Int} {key : Int} {w w' : World} {v : Int} (h : bkOk s l key = true) (hv : v = vsS s l key) (hb : Below w.heap.size w w') : BkPost s l key w (.returned (.tuple #[.int .i64 v, .bool true])) w' := by
  unfold BkPost bkV
  rw [h, hv]; exact ⟨rfl, hb⟩

theorem PRow.cell {w : World} {b g n k i : Nat} (h : PRow w b g n k) (hi : i < k) : w.cell? ⟨b, i, none⟩ = some (.pointer (some ⟨g + i, 0, none⟩)) := by
  obtain ⟨cs, h1, _, h3⟩ := h
  rw [h1.cell i, h3 i hi]; simp [ndP]
theorem PRow.fr {D : Nat → Prop} {w w' : World} {b g n k : Nat} (h : PRow w b g n k) (hf : Fr D w w') (hD : ¬ D b) : PRow w' b g n k := by
  obtain ⟨cs, h1, h2, h3⟩ := h
  exact ⟨cs, h1.fr hf hD, h2, h3⟩
theorem below_nd {B : Nat} {w w1 w2 : World} {g n : Nat} (h : Below B w w1) (hf : Fr (ndB g n) w1 w2) (hg : B ≤ g) (hB : B ≤ w1.heap.size) : Below B w w2 :=
  h.trans ⟨hf.1, hf.2.1, hf.2.2.1, hf.2.2.2.1, fun b hb => hf.2.2.2.2 b (by omega) (fun h => by have := h.1; omega)⟩

theorem nds_start {w : World} {S : Nat → Prop} {s : Sh} {l : List Int} {g n : Nat} {m : Nat → Nat → Value} (hok : s.ok = true) (h : Nds w S s g n m (vf l) (fun k => !s.mdI k)) :
    Nds w S s g n m (fun k => if (!s.mdI k) = true then vsS s l k else vf l k) (fun k => !s.mdI k) :=
  h.congr (fun _ _ _ _ => rfl) (fun k _ => by
    show vf l (k : Int) = if (!s.mdI (k : Int)) = true then vsS s l k else vf l k
    cases hm : s.mdI (k : Int)
    · rw [vsS_free hok hm]; simp
    · simp) (fun _ _ => rfl)

end Go.Proofs.Ytochgmbeomfkpaa
