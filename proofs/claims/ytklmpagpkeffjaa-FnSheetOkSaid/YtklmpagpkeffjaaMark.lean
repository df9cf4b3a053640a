/- markTask: a task in memory of its own is marked; toTask once more, with what marking needs -/
import Derived.Test.YtklmpagpkeffjaaReck
import Derived.Test.YtklmpagpkeffjaaCopy
namespace Go.Proofs.Ytklmpagpkeffjaa
open Go.RowKit

/-- Blocks that meet F hold tasks: two numbers in each three cells. -/
def TWf (w : World) (F : Nat → Prop) : Prop := ∀ b, F b → ∃ (cs : Array Value) (m : Nat), Blk w b 42 cs ∧ cs.size = 3 * m ∧ ∀ i, i < m → (∃ x, cs[3 * i]? = some (.int .i64 x)) ∧ (∃ x, cs[3 * i + 1]? = some (.int .i64 x))

mutual
def ShC (w : World) (F : Nat → Prop) : T → Nat → Nat → Prop
  | .mk _ _ ps, b, o => ∃ a c, w.cell? ⟨b, o + 2, none⟩ = some (.slice a ps.length c) ∧ ps.length ≤ c ∧ c ≤ 9223372036854775807 ∧ (ps = [] ∨ ∃ g, a = some ⟨g, 0, none⟩ ∧ F g ∧ ShL w F ps g 0)
def ShL (w : World) (F : Nat → Prop) : List T → Nat → Nat → Prop
  | [], _, _ => True
  | t :: r, b, o => ShC w F t b o ∧ ShL w F r b (o + 3)
end
/-- The slice has the shape of the tasks ps, in blocks that meet F. -/
def ShS (w : World) (F : Nat → Prop) (ps : List T) (a : Option Addr) (c : Nat) : Prop :=
  ps.length ≤ c ∧ c ≤ 9223372036854775807 ∧ (ps = [] ∨ ∃ g, a = some ⟨g, 0, none⟩ ∧ F g ∧ ShL w F ps g 0)
theorem ShC.iff {w : World} {F : Nat → Prop} {t : T} {b o : Nat} : ShC w F t b o ↔ ∃ a c, w.cell? ⟨b, o + 2, none⟩ = some (.slice a t.ps.length c) ∧ ShS w F t.ps a c := by
  cases t; simp only [ShC, ShS, T.ps]

mutual
theorem ShC.keep {w w' : World} {F F' : Nat → Prop} (hF : ∀ b, F b → F' b) (hk : ∀ b o, F b → o % 3 = 2 → ∀ v, w.cell? ⟨b, o, none⟩ = some v → w'.cell? ⟨b, o, none⟩ = some v) :
    ∀ (t : T) (b o : Nat), F b → o % 3 = 0 → ShC w F t b o → ShC w' F' t b o
  | .mk k n ps, b, o, hb, ho, h => by
    simp only [ShC] at h ⊢
    obtain ⟨a, c, h1, h2, h3, h4⟩ := h
    refine ⟨a, c, hk b (o + 2) hb (by omega) _ h1, h2, h3, ?_⟩
    rcases h4 with h4 | ⟨g, ha, hg, hl⟩
    · exact .inl h4
    · exact .inr ⟨g, ha, hF g hg, ShL.keep hF hk ps g 0 hg rfl hl⟩
theorem ShL.keep {w w' : World} {F F' : Nat → Prop} (hF : ∀ b, F b → F' b) (hk : ∀ b o, F b → o % 3 = 2 → ∀ v, w.cell? ⟨b, o, none⟩ = some v → w'.cell? ⟨b, o, none⟩ = some v) :
    ∀ (ps : List T) (b o : Nat), F b → o % 3 = 0 → ShL w F ps b o → ShL w' F' ps b o
  | [], _, _, _, _, _ => by simp [ShL]
  | t :: r, b, o, hb, ho, h => by
    simp only [ShL] at h ⊢
    exact ⟨ShC.keep hF hk t b o hb ho h.1, ShL.keep hF hk r b (o + 3) hb (by omega) h.2⟩
end
theorem ShS.keep {w w' : World} {F F' : Nat → Prop} {ps : List T} {a : Option Addr} {c : Nat} (hF : ∀ b, F b → F' b) (hk : ∀ b o, F b → o % 3 = 2 → ∀ v, w.cell? ⟨b, o, none⟩ = some v → w'.cell? ⟨b, o, none⟩ = some v) (h : ShS w F ps a c) : ShS w' F' ps a c := by
  obtain ⟨h1, h2, h3⟩ := h
  refine ⟨h1, h2, ?_⟩
  rcases h3 with h3 | ⟨g, ha, hg, hl⟩
  · exact .inl h3
  · exact .inr ⟨g, ha, hF g hg, ShL.keep hF hk ps g 0 hg rfl hl⟩
theorem ShL.get {w : World} {F : Nat → Prop} : ∀ {ps : List T} {b o : Nat}, ShL w F ps b o → ∀ i (h : i < ps.length), ShC w F ps[i] b (o + i * 3)
  | [], _, _, _, _, h => by simp at h
  | t :: r, b, o, hl, 0, _ => by simpa using hl.1
  | t :: r, b, o, hl, i + 1, h => by
    have := ShL.get (ps := r) hl.2 i (by simpa using h)
    rw [show o + (i + 1) * 3 = o + 3 + i * 3 by omega]
    simpa using this
theorem ShL.snoc {w : World} {F : Nat → Prop} : ∀ {ps : List T} {b o : Nat} {t : T}, ShL w F ps b o → ShC w F t b (o + 3 * ps.length) → ShL w F (ps ++ [t]) b o
  | [], b, o, t, _, ht => by simpa [ShL] using ht
  | u :: r, b, o, t, h, ht => by
    simp only [List.cons_append, ShL] at h ⊢
    exact ⟨h.1, ShL.snoc h.2 (by rw [show o + 3 + 3 * r.length = o + 3 * (u :: r).length by simp; omega]; exact ht)⟩

/-- Only numbers in blocks that meet F have turned. -/
def ThS (F : Nat → Prop) (w w' : World) : Prop := Fr F w w' ∧ (∀ b o, F b → o % 3 = 2 → ∀ v, w.cell? ⟨b, o, none⟩ = some v → w'.cell? ⟨b, o, none⟩ = some v) ∧ TWf w' F
theorem ThS.trans {F : Nat → Prop} {w w1 w2 : World} (h : ThS F w w1) (k : ThS F w1 w2) : ThS F w w2 :=
  ⟨h.1.trans k.1 (fun _ hb => .inl hb), fun b o hb ho v hv => k.2.1 b o hb ho v (h.2.1 b o hb ho v hv), k.2.2⟩
theorem TWf.below {w w' : World} {F : Nat → Prop} (h : TWf w F) (hb : Below w.heap.size w w') : TWf w' F := by
  intro b hF
  obtain ⟨cs, m, h1, h2⟩ := h b hF
  exact ⟨cs, m, h1.below hb h1.lt, h2⟩
theorem TWf.set {w : World} {F : Nat → Prop} (h : TWf w F) (g j : Nat) (x : Int) : TWf (w.setCell ⟨g, j, none⟩ (.int .i64 x)) F := by
  intro b hF
  obtain ⟨cs, m, h1, h2, h3⟩ := h b hF
  by_cases hbg : b = g
  · subst hbg
    refine ⟨_, m, h1.set_ j (.int .i64 x), by simp [h2], fun i hi => ?_⟩
    obtain ⟨⟨y, hy⟩, ⟨z, hz⟩⟩ := h3 i hi
    constructor
    · rw [Array.getElem?_setIfInBounds]
      by_cases he : j = 3 * i
      · rw [if_pos he, if_pos (by omega)]; exact ⟨x, rfl⟩
      · rw [if_neg he]; exact ⟨y, hy⟩
    · rw [Array.getElem?_setIfInBounds]
      by_cases he : j = 3 * i + 1
      · rw [if_pos he, if_pos (by omega)]; exact ⟨x, rfl⟩
      · rw [if_neg he]; exact ⟨z, hz⟩
  · exact ⟨cs, m, h1.far (by simpa using hbg) _, h2, h3⟩
theorem ThS.set {w w' : World} {F : Nat → Prop} (h : ThS F w w') (g j : Nat) (hg : F g) (hj : j % 3 ≠ 2) (x : Int) : ThS F w (w'.setCell ⟨g, j, none⟩ (.int .i64 x)) := by
  refine ⟨⟨h.1.1, h.1.2.1, h.1.2.2.1, by simpa [World.setCell] using h.1.2.2.2.1, fun b hb hn => ?_⟩, fun b o hb ho v hv => ?_, h.2.2.set g j x⟩
  · rw [Below.heap_setCell _ _ _ _ (by simp; rintro rfl; exact hn hg)]
    exact h.1.2.2.2.2 b hb hn
  · rw [World.cell?_setCell_other _ _ _ _ (by intro e; injection e with e1 e2; omega)]
    exact h.2.1 b o hb ho v hv
theorem ThS.refl {F : Nat → Prop} {w : World} (h : TWf w F) : ThS F w w := ⟨.of_below (Below.refl _ _), fun _ _ _ _ _ hv => hv, h⟩
theorem ThS.below {F : Nat → Prop} {w w' : World} (h : TWf w F) (hb : Below w.heap.size w w') : ThS F w w' :=
  ⟨.of_below hb, fun b o hF _ v hv => by
    obtain ⟨cs, m, h1, _⟩ := h b hF
    exact (hb.cell (p := ⟨b, o, none⟩) h1.lt).trans hv, h.below hb⟩

def MkS (ps : List T) : Prop := ∀ (w : World) (F : Nat → Prop) (a : Option Addr) (c k : Nat), ShS w F ps a c → TWf w F → k + 2 * nodesL ps ≤ 100000000 →
  Calls Try.prog 84 #[.slice a ps.length c, .int .i64 k] w fun e w' => e = .returned (.int .i64 ((k + 2 * nodesL ps : Nat) : Int)) ∧ ThS F w w'

set_option maxHeartbeats 1000000 in
theorem mkS_of (ps : List T) (hT : ∀ t ∈ ps, MkS t.ps) : MkS ps := by
  intro w F a c k hsh hwf hk
  have HT := Lib.hid hT
  have HSH := Lib.hid hsh
  have HW := Lib.hid hwf
  have hlen : ps.length ≤ 100000000 := by have := nodesL_ge ps; omega
  have HK := Lib.hid hk
  clear hT hsh hwf hk
  go_enter Try.func84, Try.ntmps84
  go_wp2_with fail
  go_loopw [1, 5] (fun q i wr => ∃ (j m : Nat), j ≤ ps.length ∧ i = .int .i64 j ∧ q = .int .i64 m ∧ m = k + 2 * nodesL (ps.take j) ∧ ThS F w wr) (fun _ i _ => ps.length - (intOf i).toNat)
  case atStart => exact ⟨0, k, by omega, rfl, rfl, by simp [nodesL], ThS.refl HW.out⟩
  case round =>
    obtain ⟨j, m, hj, rfl, rfl, hm, hth⟩ := hrel
    have HTH := Lib.hid hth
    have HM := Lib.hid hm
    have hmb : m ≤ 100000000 := by have := HK.out; have := nodesL_rest ps j; omega
    clear hth hm
    by_cases hlt : j < ps.length
    · obtain ⟨g, rfl, hg, hl⟩ : ∃ g, a = some ⟨g, 0, none⟩ ∧ F g ∧ ShL w F ps g 0 := by
        rcases HSH.out.2.2 with h | h
        · rw [h] at hlt; simp at hlt
        · exact h
      obtain ⟨a', c', hcell, hsub⟩ := ShC.iff.1 ((ShL.keep (fun _ h => h) HTH.out.2.1 ps g 0 hg rfl hl).get j hlt)
      rw [Nat.zero_add] at hcell
      obtain ⟨cs, mm, hbk, hcs, hints⟩ := HTH.out.2.2 g hg
      have hjm : j < mm := by
        have h := (hbk.cell (j * 3 + 2)).symm.trans hcell
        have : j * 3 + 2 < cs.size := by
          rcases Nat.lt_or_ge (j * 3 + 2) cs.size with h1 | h1
          · exact h1
          · rw [Array.getElem?_eq_none h1] at h; cases h
        omega
      obtain ⟨⟨y0, hy0⟩, ⟨y1, hy1⟩⟩ := hints j hjm
      have x0 : wr.cell? ⟨g, j * 3, none⟩ = some (.int .i64 y0) := by rw [hbk.cell (j * 3), show j * 3 = 3 * j by omega]; exact hy0
      have x1 : wr.cell? ⟨g, j * 3 + 1, none⟩ = some (.int .i64 y1) := by rw [hbk.cell (j * 3 + 1), show j * 3 + 1 = 3 * j + 1 by omega]; exact hy1
      have f0 := hbk.frozen (j * 3)
      have f1 := hbk.frozen (j * 3 + 1)
      have HTW := Lib.hid ((HTH.out.set g (j * 3) hg (by omega) m).set g (j * 3 + 1) hg (by omega) ((m : Int) + 1))
      have HSUB := Lib.hid hsub
      have hnn := nodesL_snoc ps j hlt
      have hnr := nodesL_rest ps (j + 1)
      have hne := T.nodes_eq ps[j]
      have HN := Lib.hid (And.intro hnn (And.intro hnr hne))
      have hkk := HK.out
      have hmm := HM.out
      have hb2 : m + 2 + 2 * nodesL ps[j].ps ≤ 100000000 := by omega
      have hsum : m + 2 + 2 * nodesL ps[j].ps = k + 2 * nodesL (ps.take (j + 1)) := by omega
      have HSUM := Lib.hid hsum
      clear hsub hbk hcs hints hy0 hy1 hnn hnr hne hkk hmm hsum hl
      go_wp2_with fail
      rw [show (m : Int) + 1 + 1 = ((m + 2 : Nat) : Int) by omega]
      refine (HT.out ps[j] (List.getElem_mem _) _ F a' c' (m + 2) (HSUB.out.keep (fun _ h => h) ?_) HTW.out.2.2 hb2).mono ?_
      · intro b o hF ho v hv
        exact ((ThS.refl HTH.out.2.2).set g (j * 3) hg (by omega) m).set g (j * 3 + 1) hg (by omega) ((m : Int) + 1) |>.2.1 b o hF ho v hv
      rintro e w5 ⟨rfl, hth5⟩
      have H5 := Lib.hid (HTW.out.trans hth5)
      rw [HSUM.out]
      clear hth5 x0 x1 f0 f1 hcell
      go_wp2_with fail
      go_roundw
      case rel => exact ⟨j + 1, _, by omega, by go_num, rfl, rfl, H5.out⟩
      case measure => simp [intOf]; omega
    · have hq : m = k + 2 * nodesL ps := by have := HM.out; rwa [List.take_of_length_le (by omega)] at this
      have HQ := Lib.hid hq
      clear hq
      go_wp2_with fail
      go_ret
      exact ⟨by rw [← HQ.out]; rfl, HTH.out⟩
theorem mkT_all : ∀ t : T, MkS t.ps := T.ind fun _ _ ps ih => mkS_of ps ih

/-- markTask -/
theorem mark_any (t : T) (w : World) (F : Nat → Prop) (a : Option Addr) (c k : Nat) (hsh : ShS w F t.ps a c) (hwf : TWf w F) (hk : k + 2 * nodesL t.ps ≤ 100000000) :
    Calls Try.prog 35 #[.agg #[.int .i64 t.k, .int .i64 t.n, .slice a t.ps.length c], .int .i64 k] w fun e w' => e = .returned (.int .i64 ((k + 2 * nodesL t.ps : Nat) : Int)) ∧ ThS F w w' := by
  have HT0 := Lib.hid (ThS.below (w' := w.alloc (.cells #[.int .i64 t.k, .int .i64 t.n, .slice a t.ps.length c] 42)) hwf ((Below.refl _ _).alloc (Nat.le_refl _) _))
  have HS := Lib.hid (hsh.keep (fun _ h => h) HT0.out.2.1)
  clear hsh hwf
  go_enter Try.func35, Try.ntmps35
  go_wp2_with fail
  refine (mkT_all t _ F a c k HS.out HT0.out.2.2 hk).mono ?_
  rintro e w1 ⟨rfl, hth⟩
  have H1 := Lib.hid (HT0.out.trans hth)
  clear hth
  go_wp2_with fail
  go_ret
  exact ⟨rfl, H1.out⟩
end Go.Proofs.Ytklmpagpkeffjaa
