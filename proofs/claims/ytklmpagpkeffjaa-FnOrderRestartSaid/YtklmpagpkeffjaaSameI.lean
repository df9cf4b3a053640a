/- what was fetched, as a list that is read; impl.TaskSame -/
import Derived.Test.YtklmpagpkeffjaaFetI
namespace Go.Proofs.Ytklmpagpkeffjaa
open Go.RowKit

/-- The slice value '.slice a ks.length c' holds what was fetched of the keys ks. -/
def FetAt (vs : Int → Int) (w : World) (S : Nat → Prop) (ks : List Int) (a : Option Addr) (c : Nat) : Prop :=
  ks.length ≤ c ∧ c ≤ 9223372036854775807 ∧ (ks = [] ∨ ∃ b o, a = some ⟨b, o, none⟩ ∧ S b ∧ ∀ i (h : i < ks.length), w.cell? ⟨b, o + i * 2, none⟩ = some (.int .i64 ks[i]) ∧ w.cell? ⟨b, o + i * 2 + 1, none⟩ = some (.int .i64 (vs ks[i])))

section
variable {vs : Int → Int} {w w' : World} {S S' : Nat → Prop} {ks : List Int} {a : Option Addr} {c : Nat}
theorem FetAt.keep (hS : ∀ b, S b → S' b) (hk : ∀ b, S b → b < w.heap.size → w'.heap[b]? = w.heap[b]?) (h : FetAt vs w S ks a c) : FetAt vs w' S' ks a c := by
  obtain ⟨h1, h2, h4⟩ := h
  refine ⟨h1, h2, ?_⟩
  rcases h4 with h4 | ⟨b, o, ha, hb, hc⟩
  · exact .inl h4
  · refine .inr ⟨b, o, ha, hS b hb, fun i hi => ?_⟩
    have := hc i hi
    have e := hk b hb (cell_lt this.1)
    exact ⟨(World.cell?_of_block (w := w) (a := ⟨b, o + i * 2, none⟩) e).trans this.1, (World.cell?_of_block (w := w) (a := ⟨b, o + i * 2 + 1, none⟩) e).trans this.2⟩
theorem FetAt.below (h : FetAt vs w S ks a c) (hb : Below w.heap.size w w') : FetAt vs w' S ks a c := h.keep (fun _ h => h) (fun b _ hl => hb.block b hl)
theorem FetAt.get (h : FetAt vs w S ks a c) (hb : Below w.heap.size w w') {i : Nat} (hi : i < ks.length) :
    ∃ b o, a = some ⟨b, o, none⟩ ∧ b < w.heap.size ∧ S b ∧ w'.cell? ⟨b, o + i * 2, none⟩ = some (.int .i64 ks[i]) ∧ w'.cell? ⟨b, o + i * 2 + 1, none⟩ = some (.int .i64 (vs ks[i])) := by
  rcases h.2.2 with rfl | ⟨b, o, ha, hS, hc⟩
  · simp at hi
  · have := hc i hi
    have hlt := cell_lt this.1
    exact ⟨b, o, ha, hlt, hS, (hb.cell (p := ⟨b, o + i * 2, none⟩) hlt).trans this.1, (hb.cell (p := ⟨b, o + i * 2 + 1, none⟩) hlt).trans this.2⟩
end

theorem fc_get (vs : Int → Int) : ∀ (l : List Int) (i : Nat) (h : i < l.length), (fc vs l)[i * 2]? = some (.int .i64 l[i]) ∧ (fc vs l)[i * 2 + 1]? = some (.int .i64 (vs l[i]))
  | [], i, h => by simp at h
  | k :: r, 0, h => by simp [fc]
  | k :: r, i + 1, h => by
    have := fc_get vs r i (by simpa using h)
    rw [show (i + 1) * 2 = i * 2 + 2 by omega]
    simpa [fc] using this

theorem FeRow.at {vs : Int → Int} {w : World} {base : Nat} {v : Value} {ks : List Int} (h : FeRow vs w base v ks) : ∃ a c, v = .slice a ks.length c ∧ FetAt vs w (fun b => base ≤ b) ks a c := by
  have h' := h
  obtain ⟨_, ⟨rfl, h0⟩ | ⟨g, cap, cur, rfl, hb, hh, hn, hc, hz, _⟩⟩ := h
  · obtain rfl : ks = [] := List.length_eq_zero_iff.1 h0
    exact ⟨none, 0, rfl, by simp, by omega, .inl rfl⟩
  · refine ⟨_, _, rfl, hn, hc, .inr ⟨g, 0, rfl, hb, fun i hi => ?_⟩⟩
    have e : ∀ j, (⟨g, 0, none⟩ : Addr).add j = ⟨g, 0 + j, none⟩ := fun j => by unfold Addr.add; split <;> simp_all
    have h1 := h'.cells (g := g) rfl (i * 2) _ (fc_get vs ks i hi).1
    have h2 := h'.cells (g := g) rfl (i * 2 + 1) _ (fc_get vs ks i hi).2
    rw [e] at h1 h2
    exact ⟨h1, h2⟩

/-- The two lists of values agree in these keys. -/
def agree (x y : List Int) (ks : List Int) : Bool := ks.all fun k => decide (vf y k = vf x k)
def tSame (t : T) (x y : List Int) : Bool := (t.ok && vok x) && (vok y && agree x y (t.kys (vf x)))

end Go.Proofs.Ytklmpagpkeffjaa
