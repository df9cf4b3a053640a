/- several texts in one: Own, Draw1, Draw2, Draw3, Draw4, DrawV -/
import Derived.Test.YtochgmbeomfkpaaBs0
import Derived.Laws.AppendOwn
import Derived.OwnWalk
import Derived.ArgAppend
import Derived.Deep.Cut
import Derived.Test.YtochgmbeomfkpaaBs1
/- A task that lies in memory of the call's own: every slice in a block of its own -/
namespace Go.Proofs.Ytochgmbeomfkpaa
open Go.RowKit

mutual
def OwC (w : World) (e : TypeId) : (Nat → Prop) → T → Nat → Nat → Prop
  | F, .mk k n ps, b, o => i64ok k ∧ i64ok n ∧ w.cell? ⟨b, o, none⟩ = some (.int .i64 k) ∧ w.cell? ⟨b, o + 1, none⟩ = some (.int .i64 n) ∧
      ∃ a c, w.cell? ⟨b, o + 2, none⟩ = some (.slice a ps.length c) ∧ ps.length ≤ c ∧ c ≤ 9223372036854775807 ∧
        ((ps = [] ∧ a = none ∧ c = 0) ∨ ∃ g cs, a = some ⟨g, 0, none⟩ ∧ F g ∧ Blk w g e cs ∧ cs.size = 3 * c ∧ OwL w e (fun b => F b ∧ b ≠ g) ps g 0)
def OwL (w : World) (e : TypeId) : (Nat → Prop) → List T → Nat → Nat → Prop
  | _, [], _, _ => True
  | F, t :: r, b, o => ∃ F1 F2 : Nat → Prop, (∀ b, F1 b → F b) ∧ (∀ b, F2 b → F b) ∧ (∀ b, F1 b → ¬ F2 b) ∧ OwC w e F1 t b o ∧ OwL w e F2 r b (o + 3)
end

/-- The slice value '.slice a ps.length c' has the elements ps, its block and theirs meet F, each its own. -/
def OwS (w : World) (e : TypeId) (F : Nat → Prop) (ps : List T) (a : Option Addr) (c : Nat) : Prop :=
  ps.length ≤ c ∧ c ≤ 9223372036854775807 ∧ ((ps = [] ∧ a = none ∧ c = 0) ∨ ∃ g cs, a = some ⟨g, 0, none⟩ ∧ F g ∧ Blk w g e cs ∧ cs.size = 3 * c ∧ OwL w e (fun b => F b ∧ b ≠ g) ps g 0)

theorem OwC.iff {w : World} {e : TypeId} {F : Nat → Prop} {t : T} {b o : Nat} : OwC w e F t b o ↔ i64ok t.k ∧ i64ok t.n ∧ w.cell? ⟨b, o, none⟩ = some (.int .i64 t.k) ∧ w.cell? ⟨b, o + 1, none⟩ = some (.int .i64 t.n) ∧
      ∃ a c, w.cell? ⟨b, o + 2, none⟩ = some (.slice a t.ps.length c) ∧ OwS w e F t.ps a c := by
  cases t; simp only [OwC, OwS, T.k, T.n, T.ps]

mutual
theorem OwC.at {w : World} {e : TypeId} : ∀ {F : Nat → Prop} {t : T} {b o : Nat}, OwC w e F t b o → AtC w F t b o
  | F, .mk k n ps, b, o, h => by
    simp only [OwC] at h
    simp only [AtC]
    obtain ⟨h1, h2, h3, h4, a, c, h5, h6, h7, h8⟩ := h
    refine ⟨h1, h2, h3, h4, a, c, h5, h6, h7, ?_⟩
    rcases h8 with ⟨h8, _, _⟩ | ⟨g, cs, ha, hF, _, _, hl⟩
    · exact .inl h8
    · exact .inr ⟨g, 0, ha, hF, AtL.keepC (fun _ h => h.1) (fun _ _ _ => rfl) _ _ _ (fun _ _ _ => rfl) (OwL.at hl)⟩
theorem OwL.at {w : World} {e : TypeId} : ∀ {F : Nat → Prop} {ps : List T} {b o : Nat}, OwL w e F ps b o → AtL w F ps b o
  | _, [], _, _, _ => by simp [AtL]
  | F, t :: r, b, o, h => by
    simp only [OwL] at h
    simp only [AtL]
    obtain ⟨F1, F2, h1, h2, _, hc, hl⟩ := h
    exact ⟨AtC.keepC h1 (fun _ _ _ => rfl) _ _ _ (fun _ _ _ => rfl) (OwC.at hc), AtL.keepC h2 (fun _ _ _ => rfl) _ _ _ (fun _ _ _ => rfl) (OwL.at hl)⟩
end
theorem OwS.at {w : World} {e : TypeId} {F : Nat → Prop} {ps : List T} {a : Option Addr} {c : Nat} (h : OwS w e F ps a c) : AtS w F ps a c := by
  obtain ⟨h1, h2, h3⟩ := h
  refine ⟨h1, h2, ?_⟩
  rcases h3 with ⟨h3, _, _⟩ | ⟨g, cs, ha, hF, _, _, hl⟩
  · exact .inl h3
  · exact .inr ⟨g, 0, ha, hF, AtL.keepC (fun _ h => h.1) (fun _ _ _ => rfl) _ _ _ (fun _ _ _ => rfl) (OwL.at hl)⟩

mutual
theorem OwC.keepC {w w' : World} {e : TypeId} : ∀ {F F' : Nat → Prop} {t : T} {b o : Nat}, (∀ b, F b → F' b) → (∀ b, F b → b < w.heap.size → w'.heap[b]? = w.heap[b]?) →
    (∀ j, o ≤ j → j < o + 3 → w'.cell? ⟨b, j, none⟩ = w.cell? ⟨b, j, none⟩) → OwC w e F t b o → OwC w' e F' t b o
  | F, F', .mk k n ps, b, o, hF, hk, hc, h => by
    simp only [OwC] at h ⊢
    obtain ⟨h1, h2, h3, h4, a, c, h5, h6, h7, h8⟩ := h
    refine ⟨h1, h2, by rw [hc _ (by omega) (by omega)]; exact h3, by rw [hc _ (by omega) (by omega)]; exact h4, a, c, by rw [hc _ (by omega) (by omega)]; exact h5, h6, h7, ?_⟩
    rcases h8 with h8 | ⟨g, cs, ha, hFg, hb, hs, hl⟩
    · exact .inl h8
    · have hbg := hk g hFg hb.lt
      exact .inr ⟨g, cs, ha, hF g hFg, hbg.trans hb, hs, OwL.keepC (fun b hb => ⟨hF b hb.1, hb.2⟩) (fun b hb hl => hk b hb.1 hl) (fun j _ _ => World.cell?_of_block (w := w) hbg) hl⟩
theorem OwL.keepC {w w' : World} {e : TypeId} : ∀ {F F' : Nat → Prop} {ps : List T} {b o : Nat}, (∀ b, F b → F' b) → (∀ b, F b → b < w.heap.size → w'.heap[b]? = w.heap[b]?) →
    (∀ j, o ≤ j → j < o + 3 * ps.length → w'.cell? ⟨b, j, none⟩ = w.cell? ⟨b, j, none⟩) → OwL w e F ps b o → OwL w' e F' ps b o
  | _, _, [], _, _, _, _, _, _ => by simp [OwL]
  | F, F', t :: r, b, o, hF, hk, hc, h => by
    simp only [OwL] at h ⊢
    obtain ⟨F1, F2, h1, h2, h3, h4, h5⟩ := h
    exact ⟨F1, F2, fun b hb => hF b (h1 b hb), fun b hb => hF b (h2 b hb), h3, OwC.keepC (fun _ h => h) (fun b hb hl => hk b (h1 b hb) hl) (fun j hj hj' => hc j hj (by simp; omega)) h4,
      OwL.keepC (fun _ h => h) (fun b hb hl => hk b (h2 b hb) hl) (fun j hj hj' => hc j (by omega) (by simp; omega)) h5⟩
end
theorem OwS.keep {w w' : World} {e : TypeId} {F F' : Nat → Prop} {ps : List T} {a : Option Addr} {c : Nat} (hF : ∀ b, F b → F' b) (hk : ∀ b, F b → b < w.heap.size → w'.heap[b]? = w.heap[b]?) (h : OwS w e F ps a c) : OwS w' e F' ps a c := by
  obtain ⟨h1, h2, h3⟩ := h
  refine ⟨h1, h2, ?_⟩
  rcases h3 with h3 | ⟨g, cs, ha, hFg, hb, hs, hl⟩
  · exact .inl h3
  · have hbg := hk g hFg hb.lt
    exact .inr ⟨g, cs, ha, hF g hFg, hbg.trans hb, hs, OwL.keepC (fun b hb => ⟨hF b hb.1, hb.2⟩) (fun b hb hl => hk b hb.1 hl) (fun j _ _ => World.cell?_of_block (w := w) hbg) hl⟩

section
variable {w w' : World} {e : TypeId} {F F' : Nat → Prop} {ps : List T} {a : Option Addr} {c : Nat}
theorem OwS.weaken (h : OwS w e F ps a c) (hF : ∀ b, F b → F' b) : OwS w e F' ps a c := h.keep hF (fun _ _ _ => rfl)
theorem OwS.below (h : OwS w e F ps a c) (hb : Below w.heap.size w w') : OwS w' e F ps a c := h.keep (fun _ h => h) (fun b _ hl => hb.block b hl)
theorem OwS.alloc (h : OwS w e F ps a c) (o : Obj) : OwS (w.alloc o) e F ps a c := h.below ((Below.refl _ _).alloc (Nat.le_refl _) o)
theorem OwS.drew (h : OwS w e F ps a c) : OwS w.drew e F ps a c := OwS.keep (w := w) (w' := w.drew) (fun _ h => h) (fun _ _ _ => rfl) h
theorem OwS.drewN (h : OwS w e F ps a c) (n : Nat) : OwS (w.drewN n) e F ps a c := OwS.keep (w := w) (w' := w.drewN n) (fun _ h => h) (fun _ _ _ => rfl) h
theorem OwS.setCell (h : OwS w e F ps a c) {p : Addr} (hp : ∀ b, F b → b ≠ p.block) (v : Value) : OwS (w.setCell p v) e F ps a c := h.keep (fun _ h => h) (fun b hb _ => Below.heap_setCell _ _ _ _ (hp b hb))
theorem OwS.only {g : Nat} (h : OwS w e F ps a c) (hg : ∀ b, F b → b ≠ g) (ho : Only g w w') : OwS w' e F ps a c :=
  h.keep (fun _ h => h) (fun b hb hl => ho.block b hl (by intro e; injection e with e; exact hg b hb e))
theorem OwS.nil : OwS w e F [] none 0 := ⟨by simp, by omega, .inl ⟨rfl, rfl, rfl⟩⟩
end

mutual
theorem OwC.tight {w : World} {e : TypeId} : ∀ {F : Nat → Prop} {t : T} {b o : Nat}, OwC w e F t b o → OwC w e (fun b => F b ∧ b < w.heap.size) t b o
  | F, .mk k n ps, b, o, h => by
    simp only [OwC] at h ⊢
    obtain ⟨h1, h2, h3, h4, a, c, h5, h6, h7, h8⟩ := h
    refine ⟨h1, h2, h3, h4, a, c, h5, h6, h7, ?_⟩
    rcases h8 with h8 | ⟨g, cs, ha, hFg, hb, hs, hl⟩
    · exact .inl h8
    · exact .inr ⟨g, cs, ha, ⟨hFg, hb.lt⟩, hb, hs, OwL.keepC (fun b hb => ⟨⟨hb.1.1, hb.2⟩, hb.1.2⟩) (fun _ _ _ => rfl) (fun _ _ _ => rfl) (OwL.tight hl)⟩
theorem OwL.tight {w : World} {e : TypeId} : ∀ {F : Nat → Prop} {ps : List T} {b o : Nat}, OwL w e F ps b o → OwL w e (fun b => F b ∧ b < w.heap.size) ps b o
  | _, [], _, _, _ => by simp [OwL]
  | F, t :: r, b, o, h => by
    simp only [OwL] at h ⊢
    obtain ⟨F1, F2, h1, h2, h3, h4, h5⟩ := h
    exact ⟨_, _, fun b hb => ⟨h1 b hb.1, hb.2⟩, fun b hb => ⟨h2 b hb.1, hb.2⟩, fun b hb hh => h3 b hb.1 hh.1, OwC.tight h4, OwL.tight h5⟩
end
theorem OwS.tight {w : World} {e : TypeId} {F : Nat → Prop} {ps : List T} {a : Option Addr} {c : Nat} (h : OwS w e F ps a c) : OwS w e (fun b => F b ∧ b < w.heap.size) ps a c := by
  obtain ⟨h1, h2, h3⟩ := h
  refine ⟨h1, h2, ?_⟩
  rcases h3 with h3 | ⟨g, cs, ha, hFg, hb, hs, hl⟩
  · exact .inl h3
  · exact .inr ⟨g, cs, ha, ⟨hFg, hb.lt⟩, hb, hs, OwL.keepC (fun b hb => ⟨⟨hb.1.1, hb.2⟩, hb.1.2⟩) (fun _ _ _ => rfl) (fun _ _ _ => rfl) hl.tight⟩
theorem OwS.head {w : World} {e : TypeId} {F : Nat → Prop} {ps : List T} {a : Option Addr} {c : Nat} (h : OwS w e F ps a c) (x : Addr) (hx : a = some x) : F x.block := by
  rcases h.2.2 with ⟨_, h3, _⟩ | ⟨g, cs, ha, hFg, _⟩
  · rw [h3] at hx; cases hx
  · rw [ha] at hx; injection hx with hx; rw [← hx]; exact hFg

def flat : List (T × Option Addr × Nat) → List Value
  | [] => []
  | x :: r => .int .i64 x.1.k :: .int .i64 x.1.n :: .slice x.2.1 x.1.ps.length x.2.2 :: flat r

/-- Elements laid one behind the other, each with blocks of its own. -/
def Parted (w : World) (e : TypeId) : (Nat → Prop) → List (T × Option Addr × Nat) → Prop
  | _, [] => True
  | F, x :: r => ∃ F1 F2 : Nat → Prop, (∀ b, F1 b → F b) ∧ (∀ b, F2 b → F b) ∧ (∀ b, F1 b → ¬ F2 b) ∧ i64ok x.1.k ∧ i64ok x.1.n ∧ OwS w e F1 x.1.ps x.2.1 x.2.2 ∧ Parted w e F2 r

theorem OwL.of_cells {w w' : World} {e : TypeId} {g : Nat} : ∀ {F F' : Nat → Prop} (xs : List (T × Option Addr × Nat)) (o : Nat), (∀ b, F b → F' b) → (∀ b, F b → b < w.heap.size → w'.heap[b]? = w.heap[b]?) →
    (∀ j v, (flat xs)[j]? = some v → w'.cell? ⟨g, o + j, none⟩ = some v) → Parted w e F xs → OwL w' e F' (xs.map (·.1)) g o
  | _, _, [], _, _, _, _, _ => by simp [OwL]
  | F, F', x :: r, o, hF, hk, hc, hx => by
    obtain ⟨F1, F2, h1, h2, h3, k1, k2, hs, hr⟩ := hx
    refine ⟨F1, F2, fun b hb => hF b (h1 b hb), fun b hb => hF b (h2 b hb), h3, OwC.iff.2 ⟨k1, k2, hc 0 _ rfl, hc 1 _ rfl, _, _, hc 2 _ rfl, hs.keep (fun _ h => h) (fun b hb hl => hk b (h1 b hb) hl)⟩, OwL.of_cells r (o + 3) (fun _ h => h) (fun b hb hl => hk b (h2 b hb) hl) (fun j v hv => ?_) hr⟩
    rw [show o + 3 + j = o + (j + 3) by omega]
    exact hc (j + 3) v (by simpa [flat] using hv)

theorem flat_length : ∀ xs, (flat xs).length = xs.length * 3
  | [] => rfl
  | x :: r => by simp [flat, flat_length r]; omega

/-- A new block with just these elements. -/
theorem OwS.of_new {w w4 : World} {e : TypeId} {F F' : Nat → Prop} (xs : List (T × Option Addr × Nat)) (ps : List T) (hps : ps = xs.map (·.1)) (cs : Array Value) (hcs : cs.toList = flat xs) (hF : ∀ b, F b → F' b) (hk : ∀ b, F b → b < w.heap.size → w4.heap[b]? = w.heap[b]?)
    (hx : Parted w e F xs) (hlt : ∀ b, F b → b ≠ w4.heap.size) (hg : F' w4.heap.size) (hl : ps.length ≤ 9223372036854775807) : OwS (w4.alloc (.cells cs e)) e F' ps (some ⟨w4.heap.size, 0, none⟩) ps.length := by
  refine ⟨Nat.le_refl _, hl, .inr ⟨w4.heap.size, cs, rfl, hg, Blk.new _ _ _, ?_, ?_⟩⟩
  · rw [← Array.length_toList, hcs, flat_length, hps]; simp; omega
  · subst hps
    refine OwL.of_cells (w := w) xs 0 (fun b hb => ⟨hF b hb, hlt b hb⟩) (fun b hb hl => ?_) (fun j v hj => ?_) hx
    · have := hk b hb hl
      have hb4 : b < w4.heap.size := by
        rcases Nat.lt_or_ge b w4.heap.size with h | h
        · exact h
        · rw [Array.getElem?_eq_none h, Array.getElem?_eq_getElem hl] at this; cases this
      rw [Below.heap_alloc _ _ _ hb4]; exact this
    · rw [Nat.zero_add, World.cell?_alloc_new, ← hj, ← hcs]; simp

theorem OwC.move {w w' : World} {e : TypeId} {F F' : Nat → Prop} {t : T} {b o b' o' : Nat} (hF : ∀ b, F b → F' b) (hk : ∀ b, F b → b < w.heap.size → w'.heap[b]? = w.heap[b]?)
    (hc : ∀ j, j < 3 → w'.cell? ⟨b', o' + j, none⟩ = w.cell? ⟨b, o + j, none⟩) (h : OwC w e F t b o) : OwC w' e F' t b' o' := by
  obtain ⟨h1, h2, h3, h4, a, c, h5, h6⟩ := OwC.iff.1 h
  exact OwC.iff.2 ⟨h1, h2, (hc 0 (by omega)).trans h3, (hc 1 (by omega)).trans h4, a, c, (hc 2 (by omega)).trans h5, h6.keep hF hk⟩
theorem OwL.move {w w' : World} {e : TypeId} : ∀ {F F' : Nat → Prop} {ps : List T} {b o b' o' : Nat}, (∀ b, F b → F' b) → (∀ b, F b → b < w.heap.size → w'.heap[b]? = w.heap[b]?) →
    (∀ j, j < 3 * ps.length → w'.cell? ⟨b', o' + j, none⟩ = w.cell? ⟨b, o + j, none⟩) → OwL w e F ps b o → OwL w' e F' ps b' o'
  | _, _, [], _, _, _, _, _, _, _, _ => by simp [OwL]
  | F, F', t :: r, b, o, b', o', hF, hk, hc, h => by
    simp only [OwL] at h ⊢
    obtain ⟨F1, F2, h1, h2, h3, h4, h5⟩ := h
    refine ⟨F1, F2, fun b hb => hF b (h1 b hb), fun b hb => hF b (h2 b hb), h3, h4.move (fun _ h => h) (fun b hb hl => hk b (h1 b hb) hl) (fun j hj => hc j (by simp; omega)),
      OwL.move (fun _ h => h) (fun b hb hl => hk b (h2 b hb) hl) (fun j hj => ?_) h5⟩
    rw [Nat.add_assoc, Nat.add_assoc]
    exact hc (3 + j) (by simp; omega)

theorem OwL.snoc {w : World} {e : TypeId} : ∀ {F F1 F' : Nat → Prop} {ps : List T} {b o : Nat} {t : T}, OwL w e F ps b o → OwC w e F1 t b (o + 3 * ps.length) → (∀ b, F b → F' b) → (∀ b, F1 b → F' b) → (∀ b, F b → ¬ F1 b) → OwL w e F' (ps ++ [t]) b o
  | F, F1, F', [], b, o, t, _, ht, h1, h2, h3 => by
    simp only [List.nil_append, OwL]
    exact ⟨F1, fun _ => False, h2, fun _ h => h.elim, fun _ _ h => h, by simpa using ht, trivial⟩
  | F, F1, F', u :: r, b, o, t, h, ht, h1, h2, h3 => by
    simp only [List.cons_append, OwL] at h ⊢
    obtain ⟨G1, G2, k1, k2, k3, k4, k5⟩ := h
    refine ⟨G1, fun b => G2 b ∨ F1 b, fun b hb => h1 b (k1 b hb), fun b hb => hb.elim (fun h => h1 b (k2 b h)) (h2 b), fun b hb hh => hh.elim (k3 b hb) (h3 b (k1 b hb)), k4,
      OwL.snoc k5 (by rw [show o + 3 + 3 * r.length = o + 3 * (u :: r).length by simp; omega]; exact ht) (fun _ h => .inl h) (fun _ h => .inr h) (fun b hb => h3 b (k2 b hb))⟩

/-- What append leaves: the list, one longer, in memory of its own; of old blocks the list's own head block alone may have turned. -/
def Grew (w : World) (e : TypeId) (F F1 : Nat → Prop) (ps : List T) (av : Option Addr) (t : T) (v' : Value) (w' : World) : Prop :=
  ∃ a' c', v' = .slice a' (ps.length + 1) c' ∧ OwS w' e (fun b => F b ∨ F1 b ∨ w.heap.size ≤ b) (ps ++ [t]) a' c' ∧ w.heap.size ≤ w'.heap.size ∧ (∀ b, b < w.heap.size → (∀ x, av = some x → b ≠ x.block) → w'.heap[b]? = w.heap[b]?) ∧ w'.os = w.os ∧ w'.tape = w.tape ∧ w'.output = w.output

theorem add0 (g j : Nat) : (⟨g, 0, none⟩ : Addr).add j = ⟨g, j, none⟩ := by unfold Addr.add; split <;> simp_all

theorem grew_fits {w w' : World} {e : TypeId} {F F1 : Nat → Prop} {ps : List T} {g c : Nat} {cs : Array Value} {t : T} {a2 : Option Addr} {c2 : Nat} (hF : F g) (hl : OwL w e (fun b => F b ∧ b ≠ g) ps g 0) (hb : Blk w g e cs) (hcs : cs.size = 3 * c) (hlt : ps.length + 1 ≤ c) (hc : c ≤ 9223372036854775807)
    (ok1 : i64ok t.k) (ok2 : i64ok t.n) (hs : OwS w e F1 t.ps a2 c2) (hd : ∀ b, F b → ¬ F1 b)
    (hr : w'.ownsRow 0 e 3 (.slice (some ⟨g, 0, none⟩) (ps.length + 1) c) (ps.length + 1) (cs.toList.take (ps.length * 3) ++ [.int .i64 t.k, .int .i64 t.n, .slice a2 t.ps.length c2])) (hg : w.grownBy w' (some g)) :
    Grew w e F F1 ps (some ⟨g, 0, none⟩) t (.slice (some ⟨g, 0, none⟩) (ps.length + 1) c) w' := by
  have hcell := hr.cells (g := g) rfl
  simp only [add0] at hcell
  have hlen : (cs.toList.take (ps.length * 3)).length = ps.length * 3 := by simp; omega
  obtain ⟨_, h2⟩ := hr
  rcases h2 with ⟨h2, _⟩ | ⟨g', cap, cur, hv, _, hh, _, _, hcz, _⟩
  · simp at h2
  simp only [Value.slice.injEq, Option.some.injEq, Addr.mk.injEq, and_true, true_and] at hv
  obtain ⟨rfl, rfl⟩ := hv
  refine ⟨_, _, rfl, ⟨by simp; omega, hc, .inr ⟨g, cur, rfl, .inl hF, hh, by omega, ?_⟩⟩, hg.size, fun b hb' hne => hg.block b hb' (by intro h; injection h with h; exact hne _ rfl (by simpa using h)), hg.os, hg.tape, hg.output⟩
  have hkeep : ∀ b, b ≠ g → b < w.heap.size → w'.heap[b]? = w.heap[b]? := fun b hne hb' => hg.block b hb' (by intro h; injection h; contradiction)
  refine OwL.snoc (F := fun b => F b ∧ b ≠ g) (F1 := F1) (hl.move (fun _ h => h) (fun b hb' hl' => hkeep b hb'.2 hl') (fun j hj => ?_)) ?_ (fun b hb' => ⟨.inl hb'.1, hb'.2⟩) (fun b hb' => ⟨.inr (.inl hb'), fun h => hd b (by rw [h]; exact hF) hb'⟩) (fun b hb' => hd b hb'.1)
  · rw [Nat.zero_add, hb.cell j]
    have hj' : j < cs.size := by omega
    rw [Array.getElem?_eq_getElem hj']
    exact hcell j _ (by rw [List.getElem?_append_left (by rw [hlen]; omega), List.getElem?_take, if_pos (by omega)]; simp)
  · refine OwC.iff.2 ⟨ok1, ok2, ?_, ?_, a2, c2, ?_, hs.keep (fun _ h => h) (fun b hb' hl' => hkeep b (fun h => hd b (by rw [h]; exact hF) hb') hl')⟩
    · exact hcell _ _ (by rw [List.getElem?_append_right (by rw [hlen]; omega), hlen, show 0 + 3 * ps.length - ps.length * 3 = 0 by omega]; rfl)
    · exact hcell _ _ (by rw [List.getElem?_append_right (by rw [hlen]; omega), hlen, show 0 + 3 * ps.length + 1 - ps.length * 3 = 1 by omega]; rfl)
    · exact hcell _ _ (by rw [List.getElem?_append_right (by rw [hlen]; omega), hlen, show 0 + 3 * ps.length + 2 - ps.length * 3 = 2 by omega]; rfl)

theorem grew_new {w w' : World} {e : TypeId} {F F1 : Nat → Prop} {ps : List T} {av : Option Addr} {olds : List Value} {t : T} {a2 : Option Addr} {c2 : Nat} {v' : Value} (hlen : olds.length = ps.length * 3)
    (hl : ∃ b o, OwL w e F ps b o ∧ ∀ j, j < 3 * ps.length → w.cell? ⟨b, o + j, none⟩ = olds[j]?)
    (hFl : ∀ b, F b → b < w.heap.size) (hF1l : ∀ b, F1 b → b < w.heap.size)
    (ok1 : i64ok t.k) (ok2 : i64ok t.n) (hs : OwS w e F1 t.ps a2 c2) (hd : ∀ b, F b → ¬ F1 b)
    (hr : w'.ownsRow w.heap.size e 3 v' (ps.length + 1) (olds ++ [.int .i64 t.k, .int .i64 t.n, .slice a2 t.ps.length c2])) (hg : w.grownBy w' none) :
    Grew w e F F1 ps av t v' w' := by
  obtain ⟨h1, h2⟩ := hr
  have hr : w'.ownsRow w.heap.size e 3 v' (ps.length + 1) (olds ++ [.int .i64 t.k, .int .i64 t.n, .slice a2 t.ps.length c2]) := ⟨h1, h2⟩
  rcases h2 with ⟨_, h2⟩ | ⟨g, cap, cur, rfl, hge, hh, hn, hcap, hcz, _⟩
  · omega
  have hcell := hr.cells (g := g) rfl
  simp only [add0] at hcell
  have hkeep : ∀ b, b < w.heap.size → w'.heap[b]? = w.heap[b]? := fun b hb' => hg.block b hb' (by simp)
  have hcap' : cap ≤ 9223372036854775807 := hcap
  refine ⟨_, _, rfl, ⟨by simp; omega, hcap', .inr ⟨g, cur, rfl, .inr (.inr hge), hh, by omega, ?_⟩⟩, hg.size, fun b hb' _ => hkeep b hb', hg.os, hg.tape, hg.output⟩
  obtain ⟨b, o, hl, hcl⟩ := hl
  refine OwL.snoc (F := F) (F1 := F1) (hl.move (fun _ h => h) (fun b _ hl' => hkeep b hl') (fun j hj => ?_)) ?_ (fun b hb' => ⟨.inl hb', by have := hFl b hb'; omega⟩) (fun b hb' => ⟨.inr (.inl hb'), by have := hF1l b hb'; omega⟩) hd
  · have hj' : j < olds.length := by omega
    rw [Nat.zero_add, hcl j hj, List.getElem?_eq_getElem hj']
    exact hcell j _ (by rw [List.getElem?_append_left hj', List.getElem?_eq_getElem hj'])
  · refine OwC.iff.2 ⟨ok1, ok2, ?_, ?_, a2, c2, ?_, hs.keep (fun _ h => h) (fun b _ hl' => hkeep b hl')⟩
    · exact hcell _ _ (by rw [List.getElem?_append_right (by omega), hlen, show 0 + 3 * ps.length - ps.length * 3 = 0 by omega]; rfl)
    · exact hcell _ _ (by rw [List.getElem?_append_right (by omega), hlen, show 0 + 3 * ps.length + 1 - ps.length * 3 = 1 by omega]; rfl)
    · exact hcell _ _ (by rw [List.getElem?_append_right (by omega), hlen, show 0 + 3 * ps.length + 2 - ps.length * 3 = 2 by omega]; rfl)

/-- APPEND of one element to a list of the call's own. -/
theorem wpList_append_ow {P : Program} (w : World) {ops : Array Oper} {rest : List Oper} {o : Oper} {a : Act} {Q : Exit → Act → World → Prop}
    (hg : o.guard = none) (s x : Operand) (tS e : TypeId) (hop : o.op = Op.call { callee := Callee.builtin Builtin.append, args := #[s, x], argTypes := #[tS, tS] })
    (i : TypeInfo) (z : Value) (h1 : P.underlying tS = some (.slice e)) (h2 : P.info? e = some i) (h3 : i.zero = some z) (h4 : i.size = 3) (h5 : i.bytes = 40) (h6 : z.cells.size = 3)
    (F F1 : Nat → Prop) (ps : List T) (av : Option Addr) (c : Nat) (hs : a.eval s = .slice av ps.length c) (how : OwS w e F ps av c) (hlen : ps.length ≤ 1000000)
    (ad : Addr) (cx : Nat) (hx : a.eval x = .slice (some ad) 1 cx) (t : T) (a2 : Option Addr) (c2 : Nat) (hnews : ∀ j u, [Value.int .i64 t.k, .int .i64 t.n, .slice a2 t.ps.length c2][j]? = some u → w.cell? (ad.add j) = some u)
    (ok1 : i64ok t.k) (ok2 : i64ok t.n) (hts : OwS w e F1 t.ps a2 c2) (hd : ∀ b, F b → ¬ F1 b) (hFl : ∀ b, F b → b < w.heap.size) (hF1l : ∀ b, F1 b → b < w.heap.size)
    (hK : ∀ v' w', Grew w e F F1 ps av t v' w' → wpList P ops Q rest (a.put o.dst v') w') : wpList P ops Q (o :: rest) a w := by
  obtain ⟨hn, hc, hcase⟩ := how
  have ml : maxLen = 9223372036854775807 := rfl
  rcases hcase with ⟨rfl, rfl, rfl⟩ | ⟨g, cs, rfl, hF, hb, hcs, hl⟩
  · refine wpList_append_grows w hg s x tS hop e i z 3 40 h1 h2 h3 h4 h5 h6 (by omega) none 0 0 [] hs (fun _ => ⟨rfl, rfl⟩) (by simp) (by intro b hb; cases hb) ad 1 cx _ hx (by simp) hnews (by simp [Value.oneCell']) (by omega) (by omega) (by omega) ?_
    intro v' w' hr hgr
    exact hK v' w' (grew_new (olds := []) (by simp) ⟨0, 0, by simp [OwL], by simp⟩ hFl hF1l ok1 ok2 hts hd (by simpa using hr) hgr)
  · have hcell : ∀ b, some (⟨g, 0, none⟩ : Addr) = some b → ∀ j u, (cs.toList.take (ps.length * 3))[j]? = some u → w.cell? (b.add j) = some u := by
      intro b hb' j u hu
      obtain rfl : (⟨g, 0, none⟩ : Addr) = b := by simpa using hb'
      rw [add0, hb.cell j]
      rw [List.getElem?_take] at hu
      split at hu
      · simpa using hu
      · cases hu
    have hone : ∀ u ∈ [Value.int .i64 t.k, .int .i64 t.n, .slice a2 t.ps.length c2], u.oneCell' = true := by simp [Value.oneCell']
    by_cases hfit : ps.length + 1 ≤ c
    · have hrow : w.ownsRow 0 e 3 (.slice (some ⟨g, 0, none⟩) ps.length c) ps.length (cs.toList.take (ps.length * 3)) :=
        ⟨by simp; omega, .inr ⟨g, c, cs, rfl, Nat.zero_le _, hb, hn, by omega, by omega, rfl⟩⟩
      refine wpList_append_fits w hg s x tS hop 0 e i 3 h1 h2 h4 g ps.length c _ hs hrow ad 1 cx _ hx (by simp) hnews hone hfit ?_
      intro w' hr hgr
      exact hK _ w' (grew_fits hF hl hb hcs hfit hc ok1 ok2 hts hd hr hgr)
    · refine wpList_append_grows w hg s x tS hop e i z 3 40 h1 h2 h3 h4 h5 h6 (by omega) (some ⟨g, 0, none⟩) ps.length c (cs.toList.take (ps.length * 3)) hs (fun h => by cases h) (by simp; omega) hcell ad 1 cx _ hx (by simp) hnews hone (by omega) (by omega) (by omega) ?_
      intro v' w' hr hgr
      have hlo : (cs.toList.take (ps.length * 3)).length = ps.length * 3 := by simp; omega
      refine hK v' w' (grew_new hlo ⟨g, 0, OwL.move (w := w) (fun b h => h.1) (fun _ _ _ => rfl) (fun _ _ => rfl) hl, fun j hj => ?_⟩ hFl hF1l ok1 ok2 hts hd hr hgr)
      rw [Nat.zero_add, hb.cell j, List.getElem?_take, if_pos (by omega)]
      simp

end Go.Proofs.Ytochgmbeomfkpaa
/- l91Num, l91Key, l91Task: a task drawn -/
namespace Go.Proofs.Ytochgmbeomfkpaa
open Go.RowKit

/-- A number from lo to hi was drawn, by at most d picks. -/
def Drew (g p d : Nat) (lo hi : Int) (w : World) (e : Ending) (w' : World) : Prop := ∃ (r : Int) (p' : Nat), e = .returned (.int .i64 r) ∧ lo ≤ r ∧ r ≤ hi ∧ p ≤ p' ∧ p' ≤ p + d ∧ RdAt w' g p' ∧ Only g w w'
/-- A task was drawn, by at most d picks: a fitting one of at most m nodes, in new memory. -/
def DrewT (g p d m : Nat) (w : World) (e : Ending) (w' : World) : Prop := ∃ (t : T) (a : Option Addr) (c p' : Nat), e = .returned (.agg #[.int .i64 t.k, .int .i64 t.n, .slice a t.ps.length c]) ∧ OwS w' 71 (fun b => w.heap.size ≤ b ∧ b < w'.heap.size) t.ps a c ∧
  i64ok t.k ∧ i64ok t.n ∧ t.fit = true ∧ t.nodes ≤ m ∧ p ≤ p' ∧ p' ≤ p + d ∧ RdAt w' g p' ∧ Only g w w'

/-- l91Key: a key below 10. -/
theorem key_any (w : World) (g p : Nat) (below : Int) (hr : RdAt w g p) (hp : p ≤ 999990) (h1 : 1 ≤ below) (h2 : below ≤ 10) :
    Calls Try.prog 101 #[.pointer (some ⟨g, 0, none⟩), .int .i64 below] w (Drew g p 2 0 9 w) := by
  have HR := Lib.hid hr
  clear hr
  go_enter Try.func101, Try.ntmps101
  go_wp2_with fail
  refine (pick_any _ g p 25 HR.out (by omega) (by omega) (by omega)).mono ?_
  rintro e w1 ⟨r, rfl, hr0, hr1, hrd, ho⟩
  have HR1 := Lib.hid hrd
  have HO1 := Lib.hid ho
  clear hrd ho HR hr1
  by_cases h : r = 0
  · subst h
    go_wp2_with fail
    go_ret
    exact ⟨9, p + 1, rfl, by omega, by omega, by omega, by omega, HR1.out, HO1.out⟩
  · have hb : (r == 0) = false := by simpa using h
    clear h
    go_wp2_with fail
    refine (pick_any _ g (p + 1) below HR1.out (by omega) (by omega) (by omega)).mono ?_
    rintro e w2 ⟨r2, rfl, hr20, hr21, hrd, ho⟩
    have HR2 := Lib.hid hrd
    have HO2 := Lib.hid ho
    have hlt := hr21 h1
    clear hrd ho hr21
    go_wp2_with fail
    go_ret
    exact ⟨r2, p + 2, rfl, by omega, by omega, by omega, by omega, HR2.out, HO1.out.trans HO2.out⟩

def dN : Nat → Nat | 0 => 3 | k + 1 => 3 + 3 * dN k
def nN : Nat → Nat | 0 => 1 | k + 1 => 1 + 3 * nN k
theorem dN_ge (k : Nat) : 3 ≤ dN k := by cases k <;> simp [dN]
theorem nN_ge (k : Nat) : 1 ≤ nN k := by cases k <;> simp [nN]

def DTask (k : Nat) : Prop := ∀ (w : World) (g p : Nat) (below : Int), RdAt w g p → p + dN k ≤ 999990 → 0 ≤ below → below ≤ 10 →
  Calls Try.prog 88 #[.pointer (some ⟨g, 0, none⟩), .int .i64 below, .int .i64 k] w (DrewT g p (dN k) (nN k) w)

theorem drewT_end {w w2 : World} {g p p' d m : Nat} {kd n : Int} (hgl : g < w.heap.size) (hO : Only g w w2) (hR : RdAt w2 g p')
    (ok1 : i64ok kd) (ok2 : i64ok n) (hf : (T.mk kd n []).fit = true) (hm : (T.mk kd n []).nodes ≤ m) (h1 : p ≤ p') (h2 : p' ≤ p + d) :
    DrewT g p d m w (.returned (.agg #[.int .i64 kd, .int .i64 n, .slice none 0 0]))
      (((w2.setCell ⟨w.heap.size, 0, none⟩ (.int .i64 kd)).setCell ⟨w.heap.size, 1, none⟩ (.int .i64 n)).setCell ⟨w.heap.size, 2, none⟩ (.slice none 0 0)) := by
  refine ⟨.mk kd n [], none, 0, p', rfl, OwS.nil, ok1, ok2, hf, hm, h1, h2, ?_, ?_⟩
  · refine hR.keep fun k hk => ?_
    rw [Below.heap_setCell _ _ _ _ (by simp; omega), Below.heap_setCell _ _ _ _ (by simp; omega), Below.heap_setCell _ _ _ _ (by simp; omega)]
  · exact ((hO.set (.inr (by simp)) _).set (.inr (by simp)) _).set (.inr (by simp)) _

theorem drewT_node {w w3 : World} {g p p' d m : Nat} {kd n : Int} (xs : List (T × Option Addr × Nat)) (ps : List T) (hps : ps = xs.map (·.1)) (cs : Array Value) (hcs : cs.toList = flat xs) (hgl : g < w.heap.size) (hgt : w.heap.size < w3.heap.size) (hO : Only g w w3) (hR : RdAt w3 g p')
    (hx : Parted w3 71 (fun b => w.heap.size < b ∧ b < w3.heap.size) xs)
    (ok1 : i64ok kd) (ok2 : i64ok n) (hf : (T.mk kd n ps).fit = true) (hm : (T.mk kd n ps).nodes ≤ m) (hl : ps.length ≤ 3) (h1 : p ≤ p') (h2 : p' ≤ p + d) :
    DrewT g p d m w (.returned (.agg #[.int .i64 kd, .int .i64 n, .slice (some ⟨w3.heap.size, 0, none⟩) ps.length ps.length]))
      ((((w3.setCell ⟨w.heap.size, 0, none⟩ (.int .i64 kd)).setCell ⟨w.heap.size, 1, none⟩ (.int .i64 n)).setCell ⟨w.heap.size, 2, none⟩ (.slice (some ⟨w3.heap.size, 0, none⟩) ps.length ps.length)).alloc (.cells cs 71)) := by
  generalize hv : (Value.slice (some ⟨w3.heap.size, 0, none⟩) ps.length ps.length) = sv
  have hsz : (((w3.setCell ⟨w.heap.size, 0, none⟩ (.int .i64 kd)).setCell ⟨w.heap.size, 1, none⟩ (.int .i64 n)).setCell ⟨w.heap.size, 2, none⟩ sv).heap.size = w3.heap.size := by simp [World.setCell]
  have hold : ∀ k, k ≠ w.heap.size → (((w3.setCell ⟨w.heap.size, 0, none⟩ (.int .i64 kd)).setCell ⟨w.heap.size, 1, none⟩ (.int .i64 n)).setCell ⟨w.heap.size, 2, none⟩ sv).heap[k]? = w3.heap[k]? := fun k hk => by
    rw [Below.heap_setCell _ _ _ _ (by simpa using hk), Below.heap_setCell _ _ _ _ (by simpa using hk), Below.heap_setCell _ _ _ _ (by simpa using hk)]
  have hon : Only g w (((w3.setCell ⟨w.heap.size, 0, none⟩ (.int .i64 kd)).setCell ⟨w.heap.size, 1, none⟩ (.int .i64 n)).setCell ⟨w.heap.size, 2, none⟩ sv) := ((hO.set (.inr (by simp)) _).set (.inr (by simp)) _).set (.inr (by simp)) _
  generalize (((w3.setCell ⟨w.heap.size, 0, none⟩ (.int .i64 kd)).setCell ⟨w.heap.size, 1, none⟩ (.int .i64 n)).setCell ⟨w.heap.size, 2, none⟩ sv) = w4 at *
  have how : OwS (w4.alloc (.cells cs 71)) 71 (fun b => w.heap.size ≤ b ∧ b < (w4.alloc (.cells cs 71)).heap.size) ps (some ⟨w4.heap.size, 0, none⟩) ps.length :=
    OwS.of_new (w := w3) (F := fun b => w.heap.size < b ∧ b < w3.heap.size) xs ps hps cs hcs (fun b hb => ⟨by omega, by simp; omega⟩) (fun b hb _ => hold b (by omega)) hx (fun b hb => by omega) ⟨by omega, by simp⟩ (by omega)
  rw [hsz] at how
  refine ⟨.mk kd n ps, some ⟨w3.heap.size, 0, none⟩, ps.length, p', by rw [← hv]; rfl, how, ok1, ok2, hf, hm, h1, h2, ?_, hon.alloc _⟩
  refine hR.keep fun k hk => ?_
  have := hR.lt
  rw [Below.heap_alloc _ _ _ (by omega)]
  exact hold k (by omega)

theorem parted1 {w : World} {e : TypeId} {F A : Nat → Prop} {t : T} {a : Option Addr} {c : Nat} (h : i64ok t.k ∧ i64ok t.n ∧ OwS w e A t.ps a c) (hA : ∀ b, A b → F b) : Parted w e F [(t, a, c)] :=
  ⟨A, fun _ => False, hA, fun _ h => h.elim, fun _ _ h => h, h.1, h.2.1, h.2.2, trivial⟩
theorem parted2 {w : World} {e : TypeId} {F A B : Nat → Prop} {t u : T} {a b : Option Addr} {c d : Nat} (h : i64ok t.k ∧ i64ok t.n ∧ OwS w e A t.ps a c) (k : i64ok u.k ∧ i64ok u.n ∧ OwS w e B u.ps b d) (hA : ∀ b, A b → F b) (hB : ∀ b, B b → F b) (hd : ∀ b, A b → ¬ B b) :
    Parted w e F [(t, a, c), (u, b, d)] :=
  ⟨A, B, hA, hB, hd, h.1, h.2.1, h.2.2, parted1 k fun _ h => h⟩
theorem parted3 {w : World} {e : TypeId} {F A B C : Nat → Prop} {t u v : T} {a b x : Option Addr} {c d y : Nat} (h : i64ok t.k ∧ i64ok t.n ∧ OwS w e A t.ps a c) (k : i64ok u.k ∧ i64ok u.n ∧ OwS w e B u.ps b d) (l : i64ok v.k ∧ i64ok v.n ∧ OwS w e C v.ps x y)
    (hA : ∀ b, A b → F b) (hB : ∀ b, B b → F b) (hC : ∀ b, C b → F b) (hd : ∀ b, A b → ¬ B b) (hd' : ∀ b, A b → ¬ C b) (hd'' : ∀ b, B b → ¬ C b) :
    Parted w e F [(t, a, c), (u, b, d), (v, x, y)] :=
  ⟨A, fun b => B b ∨ C b, hA, fun b hb => hb.elim (hB b) (hC b), fun b hb hh => hh.elim (hd b hb) (hd' b hb), h.1, h.2.1, h.2.2, parted2 k l (fun _ h => .inl h) (fun _ h => .inr h) hd''⟩

theorem fit_two (k : Int) (hk : k = 2 ∨ k = 3) (t u : T) (h1 : t.fit = true) (h2 : u.fit = true) : (T.mk k 0 [t, u]).fit = true := by rcases hk with rfl | rfl <;> simp [T.fit, fit1, shp, fitL, h1, h2]
theorem fit_three (t u v : T) (h1 : t.fit = true) (h2 : u.fit = true) (h3 : v.fit = true) : (T.mk 4 0 [t, u, v]).fit = true := by simp [T.fit, fit1, shp, fitL, h1, h2, h3]
theorem fit_at (n : Int) (h0 : 0 ≤ n) (h9 : n ≤ 9) (t : T) (h1 : t.fit = true) : (T.mk 5 n [t]).fit = true := by simp [T.fit, fit1, shp, fitL, h1]; omega

theorem fit_num (n : Int) (h0 : 0 ≤ n) (h1 : n ≤ 96) : (T.mk 0 n []).fit = true := by simp [T.fit, fit1, shp, fitL]; omega
theorem fit_get (n : Int) (h0 : 0 ≤ n) (h1 : n ≤ 9) : (T.mk 1 n []).fit = true := by simp [T.fit, fit1, shp, fitL]; omega

set_option maxHeartbeats 1000000 in
theorem dtask_of (k : Nat) (ih : ∀ j, k = j + 1 → DTask j) (hk : k ≤ 3) : DTask k := by
  intro w g p below hr hp hb0 hb1
  have hgl := hr.lt
  have hgn : w.heap.size ≠ g := by omega
  have HR := Lib.hid (hr.alloc (.cells #[.int .i64 0, .int .i64 0, .slice none 0 0] 71))
  have HI := Lib.hid ih
  have hd := dN_ge k
  clear hr ih
  go_enter Try.func88, Try.ntmps88
  go_wp2_with fail
  refine (pick_any _ g p 9 HR.out (by omega) (by omega) (by omega)).mono ?_
  rintro e w1 ⟨r, rfl, hr0, hr1, hrd, ho⟩
  have hr9 := hr1 (by omega)
  have HR1 := Lib.hid hrd
  have HO1 := Lib.hid (((Only.refl g w).alloc _).trans ho)
  have HK1 := Lib.hid ((Blk.new w 71 #[.int .i64 0, .int .i64 0, .slice none 0 0]).only ho hgn)
  have hz1 : w.heap.size < w1.heap.size := HK1.out.lt
  obtain ⟨x0, x1, x2, f0, f1, f2⟩ := HK1.out.three
  clear hrd ho hr1 HR
  rcases (show k = 0 ∨ (k ≠ 0 ∧ r < 3) ∨ (k ≠ 0 ∧ 3 ≤ r) by omega) with hk0 | ⟨hk0, hr3⟩ | ⟨hk0, hr3⟩
  · have hkb : ((k : Int) == 0) = true := by simp [hk0]
    clear hk0
    by_cases hnum : r % 2 = 0
    · have hb : (r % 2 == 0) = true := by simp [hnum]
      clear hnum
      go_wp2_with fail
      refine (pick_any _ g (p + 1) 97 HR1.out (by omega) (by omega) (by omega)).mono ?_
      rintro e w2 ⟨r2, rfl, hr20, hr21, hrd, ho⟩
      have hr97 := hr21 (by omega)
      have HE := Lib.hid (And.intro hrd (And.intro (HO1.out.trans ho) (HK1.out.only ho hgn)))
      obtain ⟨y0, y1, y2, g0, g1, g2⟩ := HE.out.2.2.three
      clear hrd ho hr21 x0 x1 x2 f0 f1 f2
      go_wp2_with fail
      refine bodyPost_ret (v := .agg #[.int .i64 0, .int .i64 r2, .slice none 0 0]) (by simp [results, Try.results88, go_sem, y0, y1, y2]) rfl ?_
      exact drewT_end (kd := 0) (n := r2) hgl HE.out.2.1 HE.out.1 (by simp [i64ok]) (by simp [i64ok]; omega) (fit_num _ hr20 (by omega)) (by have := nN_ge k; simpa [T.nodes, nodesL] using this) (by omega) (by omega)
    have hb : (r % 2 == 0) = false := by simpa using hnum
    clear hnum
    by_cases hbz : below = 0
    · have hbb : (below == 0) = true := by simp [hbz]
      clear hbz
      go_wp2_with fail
      refine (pick_any _ g (p + 1) 97 HR1.out (by omega) (by omega) (by omega)).mono ?_
      rintro e w2 ⟨r2, rfl, hr20, hr21, hrd, ho⟩
      have hr97 := hr21 (by omega)
      have HE := Lib.hid (And.intro hrd (And.intro (HO1.out.trans ho) (HK1.out.only ho hgn)))
      obtain ⟨y0, y1, y2, g0, g1, g2⟩ := HE.out.2.2.three
      clear hrd ho hr21 x0 x1 x2 f0 f1 f2
      go_wp2_with fail
      refine bodyPost_ret (v := .agg #[.int .i64 0, .int .i64 r2, .slice none 0 0]) (by simp [results, Try.results88, go_sem, y0, y1, y2]) rfl ?_
      exact drewT_end (kd := 0) (n := r2) hgl HE.out.2.1 HE.out.1 (by simp [i64ok]) (by simp [i64ok]; omega) (fit_num _ hr20 (by omega)) (by have := nN_ge k; simpa [T.nodes, nodesL] using this) (by omega) (by omega)
    · have hbb : (below == 0) = false := by simpa using hbz
      have hb1' : 1 ≤ below := by omega
      clear hbz
      go_wp2_with fail
      refine (key_any _ g (p + 1) below HR1.out (by omega) (by omega) (by omega)).mono ?_
      rintro e w2 ⟨r2, p2, rfl, hr20, hr21, hp0, hp1, hrd, ho⟩
      have HE := Lib.hid (And.intro hrd (And.intro (HO1.out.trans ho) (HK1.out.only ho hgn)))
      obtain ⟨y0, y1, y2, g0, g1, g2⟩ := HE.out.2.2.three
      clear hrd ho x0 x1 x2 f0 f1 f2
      go_wp2_with fail
      refine bodyPost_ret (v := .agg #[.int .i64 1, .int .i64 r2, .slice none 0 0]) (by simp [results, Try.results88, go_sem, y0, y1, y2]) rfl ?_
      exact drewT_end (kd := 1) (n := r2) hgl HE.out.2.1 HE.out.1 (by simp [i64ok]) (by simp [i64ok]; omega) (fit_get _ hr20 (by omega)) (by have := nN_ge k; simpa [T.nodes, nodesL] using this) (by omega) (by omega)
  · have hkb : ((k : Int) == 0) = false := by simpa using hk0
    clear hk0
    by_cases hnum : r % 2 = 0
    · have hb : (r % 2 == 0) = true := by simp [hnum]
      clear hnum
      go_wp2_with fail
      refine (pick_any _ g (p + 1) 97 HR1.out (by omega) (by omega) (by omega)).mono ?_
      rintro e w2 ⟨r2, rfl, hr20, hr21, hrd, ho⟩
      have hr97 := hr21 (by omega)
      have HE := Lib.hid (And.intro hrd (And.intro (HO1.out.trans ho) (HK1.out.only ho hgn)))
      obtain ⟨y0, y1, y2, g0, g1, g2⟩ := HE.out.2.2.three
      clear hrd ho hr21 x0 x1 x2 f0 f1 f2
      go_wp2_with fail
      refine bodyPost_ret (v := .agg #[.int .i64 0, .int .i64 r2, .slice none 0 0]) (by simp [results, Try.results88, go_sem, y0, y1, y2]) rfl ?_
      exact drewT_end (kd := 0) (n := r2) hgl HE.out.2.1 HE.out.1 (by simp [i64ok]) (by simp [i64ok]; omega) (fit_num _ hr20 (by omega)) (by have := nN_ge k; simpa [T.nodes, nodesL] using this) (by omega) (by omega)
    have hb : (r % 2 == 0) = false := by simpa using hnum
    clear hnum
    by_cases hbz : below = 0
    · have hbb : (below == 0) = true := by simp [hbz]
      clear hbz
      go_wp2_with fail
      refine (pick_any _ g (p + 1) 97 HR1.out (by omega) (by omega) (by omega)).mono ?_
      rintro e w2 ⟨r2, rfl, hr20, hr21, hrd, ho⟩
      have hr97 := hr21 (by omega)
      have HE := Lib.hid (And.intro hrd (And.intro (HO1.out.trans ho) (HK1.out.only ho hgn)))
      obtain ⟨y0, y1, y2, g0, g1, g2⟩ := HE.out.2.2.three
      clear hrd ho hr21 x0 x1 x2 f0 f1 f2
      go_wp2_with fail
      refine bodyPost_ret (v := .agg #[.int .i64 0, .int .i64 r2, .slice none 0 0]) (by simp [results, Try.results88, go_sem, y0, y1, y2]) rfl ?_
      exact drewT_end (kd := 0) (n := r2) hgl HE.out.2.1 HE.out.1 (by simp [i64ok]) (by simp [i64ok]; omega) (fit_num _ hr20 (by omega)) (by have := nN_ge k; simpa [T.nodes, nodesL] using this) (by omega) (by omega)
    · have hbb : (below == 0) = false := by simpa using hbz
      have hb1' : 1 ≤ below := by omega
      clear hbz
      go_wp2_with fail
      refine (key_any _ g (p + 1) below HR1.out (by omega) (by omega) (by omega)).mono ?_
      rintro e w2 ⟨r2, p2, rfl, hr20, hr21, hp0, hp1, hrd, ho⟩
      have HE := Lib.hid (And.intro hrd (And.intro (HO1.out.trans ho) (HK1.out.only ho hgn)))
      obtain ⟨y0, y1, y2, g0, g1, g2⟩ := HE.out.2.2.three
      clear hrd ho x0 x1 x2 f0 f1 f2
      go_wp2_with fail
      refine bodyPost_ret (v := .agg #[.int .i64 1, .int .i64 r2, .slice none 0 0]) (by simp [results, Try.results88, go_sem, y0, y1, y2]) rfl ?_
      exact drewT_end (kd := 1) (n := r2) hgl HE.out.2.1 HE.out.1 (by simp [i64ok]) (by simp [i64ok]; omega) (fit_get _ hr20 (by omega)) (by have := nN_ge k; simpa [T.nodes, nodesL] using this) (by omega) (by omega)
  · obtain ⟨j, rfl⟩ : ∃ j, k = j + 1 := ⟨k - 1, by omega⟩
    have hkb : ((j : Int) + 1 == 0) = false := by simp; omega
    have H := Lib.hid (HI.out j rfl)
    have hdj : dN (j + 1) = 3 + 3 * dN j := rfl
    have hnj : nN (j + 1) = 1 + 3 * nN j := rfl
    have HD := Lib.hid (And.intro hdj hnj)
    have hdj1 : p + 3 + 3 * dN j ≤ 999990 := by omega
    clear hk0 HI hdj hnj hp hd
    by_cases h5 : r < 5
    · have hq5 : 0 ≤ r := hr0
      go_wp2_with fail
      refine (H.out _ g (p + 1) below HR1.out (by omega) hb0 hb1).mono ?_
      rintro e w2 ⟨t1, a1, c1, p2, rfl, hat1, ok1, ok1', hf1, hm1, hp0, hp1, hrd, ho⟩
      have hsz_w2 := ho.size
      have HE2 := Lib.hid (And.intro hrd (And.intro (HO1.out.trans ho) (HK1.out.only ho hgn)))
      have HT1 := Lib.hid (And.intro ok1 (And.intro ok1' hat1))
      have HF1 := Lib.hid hf1
      clear hrd ho hat1 x0 x1 x2 f0 f1 f2 ok1 ok1' hf1
      go_wp2_with fail
      refine (H.out _ g p2 below HE2.out.1 (by omega) hb0 hb1).mono ?_
      rintro e w3 ⟨t2, a2, c2, p3, rfl, hat2, ok2, ok2', hf2, hm2, hp2, hp3, hrd, ho⟩
      have hsz_w3 := ho.size
      have HE3 := Lib.hid (And.intro hrd (And.intro (HE2.out.2.1.trans ho) (HE2.out.2.2.only ho hgn)))
      have hz2 := HE2.out.2.2.lt
      have HT2 := Lib.hid (And.intro ok2 (And.intro ok2' hat2))
      have HT1' := Lib.hid (And.intro HT1.out.1 (And.intro HT1.out.2.1 (HT1.out.2.2.only (g := g) (by intro b hb; omega) ho)))
      have HF2 := Lib.hid hf2
      clear hrd ho hat2 ok2 ok2' hf2 HT1
      obtain ⟨y0, y1, y2, g0, g1, g2⟩ := HE3.out.2.2.three
      have hz3 := HE3.out.2.2.lt
      go_wp2_with fail
      refine bodyPost_ret (v := .agg #[.int .i64 2, .int .i64 0, .slice (some ⟨w3.heap.size, 0, none⟩) 2 2]) (by simp [results, Try.results88, go_sem, y0, y1, y2, hz3]) rfl ?_
      exact drewT_node [(t1, a1, c1), (t2, a2, c2)] [t1, t2] rfl _ rfl hgl hz3 HE3.out.2.1 HE3.out.1 (parted2 HT1'.out HT2.out (by intro b hb; omega) (by intro b hb; omega) (by intro b hb; omega)) (by simp [i64ok]) (by simp [i64ok]) (fit_two 2 (by simp) _ _ HF1.out HF2.out)
        (by have := HD.out.2; simp only [T.nodes, nodesL]; omega) (by simp) (by omega) (by have := HD.out.1; omega)
    by_cases h6 : r = 5
    · have h6b : (r == 5) = true := by simp [h6]
      clear h6
      go_wp2_with fail
      refine (H.out _ g (p + 1) below HR1.out (by omega) hb0 hb1).mono ?_
      rintro e w2 ⟨t1, a1, c1, p2, rfl, hat1, ok1, ok1', hf1, hm1, hp0, hp1, hrd, ho⟩
      have hsz_w2 := ho.size
      have HE2 := Lib.hid (And.intro hrd (And.intro (HO1.out.trans ho) (HK1.out.only ho hgn)))
      have HT1 := Lib.hid (And.intro ok1 (And.intro ok1' hat1))
      have HF1 := Lib.hid hf1
      clear hrd ho hat1 x0 x1 x2 f0 f1 f2 ok1 ok1' hf1
      go_wp2_with fail
      refine (H.out _ g p2 below HE2.out.1 (by omega) hb0 hb1).mono ?_
      rintro e w3 ⟨t2, a2, c2, p3, rfl, hat2, ok2, ok2', hf2, hm2, hp2, hp3, hrd, ho⟩
      have hsz_w3 := ho.size
      have HE3 := Lib.hid (And.intro hrd (And.intro (HE2.out.2.1.trans ho) (HE2.out.2.2.only ho hgn)))
      have hz2 := HE2.out.2.2.lt
      have HT2 := Lib.hid (And.intro ok2 (And.intro ok2' hat2))
      have HT1' := Lib.hid (And.intro HT1.out.1 (And.intro HT1.out.2.1 (HT1.out.2.2.only (g := g) (by intro b hb; omega) ho)))
      have HF2 := Lib.hid hf2
      clear hrd ho hat2 ok2 ok2' hf2 HT1
      obtain ⟨y0, y1, y2, g0, g1, g2⟩ := HE3.out.2.2.three
      have hz3 := HE3.out.2.2.lt
      go_wp2_with fail
      refine bodyPost_ret (v := .agg #[.int .i64 3, .int .i64 0, .slice (some ⟨w3.heap.size, 0, none⟩) 2 2]) (by simp [results, Try.results88, go_sem, y0, y1, y2, hz3]) rfl ?_
      exact drewT_node [(t1, a1, c1), (t2, a2, c2)] [t1, t2] rfl _ rfl hgl hz3 HE3.out.2.1 HE3.out.1 (parted2 HT1'.out HT2.out (by intro b hb; omega) (by intro b hb; omega) (by intro b hb; omega)) (by simp [i64ok]) (by simp [i64ok]) (fit_two 3 (by simp) _ _ HF1.out HF2.out)
        (by have := HD.out.2; simp only [T.nodes, nodesL]; omega) (by simp) (by omega) (by have := HD.out.1; omega)
    have h6b : (r == 5) = false := by simpa using h6
    by_cases h8 : r < 8
    · have hq8 : 0 ≤ r := hr0
      go_wp2_with fail
      refine (H.out _ g (p + 1) below HR1.out (by omega) hb0 hb1).mono ?_
      rintro e w2 ⟨t1, a1, c1, p2, rfl, hat1, ok1, ok1', hf1, hm1, hp0, hp1, hrd, ho⟩
      have hsz_w2 := ho.size
      have HE2 := Lib.hid (And.intro hrd (And.intro (HO1.out.trans ho) (HK1.out.only ho hgn)))
      have HT1 := Lib.hid (And.intro ok1 (And.intro ok1' hat1))
      have HF1 := Lib.hid hf1
      clear hrd ho hat1 x0 x1 x2 f0 f1 f2 ok1 ok1' hf1
      go_wp2_with fail
      refine (H.out _ g p2 below HE2.out.1 (by omega) hb0 hb1).mono ?_
      rintro e w3 ⟨t2, a2, c2, p3, rfl, hat2, ok2, ok2', hf2, hm2, hp2, hp3, hrd, ho⟩
      have hsz_w3 := ho.size
      have HE3 := Lib.hid (And.intro hrd (And.intro (HE2.out.2.1.trans ho) (HE2.out.2.2.only ho hgn)))
      have hz2 := HE2.out.2.2.lt
      have HT2 := Lib.hid (And.intro ok2 (And.intro ok2' hat2))
      have HT1' := Lib.hid (And.intro HT1.out.1 (And.intro HT1.out.2.1 (HT1.out.2.2.only (g := g) (by intro b hb; omega) ho)))
      have HF2 := Lib.hid hf2
      clear hrd ho hat2 ok2 ok2' hf2 HT1
      go_wp2_with fail
      refine (H.out _ g p3 below HE3.out.1 (by omega) hb0 hb1).mono ?_
      rintro e w4 ⟨t3, a3, c3, p4, rfl, hat3, ok3, ok3', hf3, hm3, hp4, hp5, hrd, ho⟩
      have hsz_w4 := ho.size
      have HE4 := Lib.hid (And.intro hrd (And.intro (HE3.out.2.1.trans ho) (HE3.out.2.2.only ho hgn)))
      have hz3 := HE3.out.2.2.lt
      have HT3 := Lib.hid (And.intro ok3 (And.intro ok3' hat3))
      have HT1'' := Lib.hid (And.intro HT1'.out.1 (And.intro HT1'.out.2.1 (HT1'.out.2.2.only (g := g) (by intro b hb; omega) ho)))
      have HT2' := Lib.hid (And.intro HT2.out.1 (And.intro HT2.out.2.1 (HT2.out.2.2.only (g := g) (by intro b hb; omega) ho)))
      have HF3 := Lib.hid hf3
      clear hrd ho hat3 ok3 ok3' hf3 HT1' HT2
      obtain ⟨y0, y1, y2, g0, g1, g2⟩ := HE4.out.2.2.three
      have hz4 := HE4.out.2.2.lt
      go_wp2_with fail
      refine bodyPost_ret (v := .agg #[.int .i64 4, .int .i64 0, .slice (some ⟨w4.heap.size, 0, none⟩) 3 3]) (by simp [results, Try.results88, go_sem, y0, y1, y2, hz4]) rfl ?_
      exact drewT_node [(t1, a1, c1), (t2, a2, c2), (t3, a3, c3)] [t1, t2, t3] rfl _ rfl hgl hz4 HE4.out.2.1 HE4.out.1 (parted3 HT1''.out HT2'.out HT3.out (by intro b hb; omega) (by intro b hb; omega) (by intro b hb; omega) (by intro b hb; omega) (by intro b hb; omega) (by intro b hb; omega)) (by simp [i64ok]) (by simp [i64ok]) (fit_three _ _ _ HF1.out HF2.out HF3.out)
        (by have := HD.out.2; simp only [T.nodes, nodesL]; omega) (by simp) (by omega) (by have := HD.out.1; omega)
    go_wp2_with fail
    refine (pick_any _ g (p + 1) 3 HR1.out (by omega) (by omega) (by omega)).mono ?_
    rintro e w1' ⟨r', rfl, hr0', hr1', hrd, ho⟩
    have HR1' := Lib.hid hrd
    have HO1' := Lib.hid (HO1.out.trans ho)
    have HK1' := Lib.hid (HK1.out.only ho hgn)
    clear hrd ho hr1' HR1 HO1 HK1 x0 x1 x2 f0 f1 f2
    have HR1 := HR1'
    have HO1 := HO1'
    have HK1 := HK1'
    have hz1 := HK1.out.lt
    obtain ⟨x0, x1, x2, f0, f1, f2⟩ := HK1.out.three
    by_cases hz : 0 < r'
    · have hq9 : 0 ≤ r := hr0
      go_wp2_with fail
      refine (H.out _ g (p + 1 + 1) below HR1.out (by omega) hb0 hb1).mono ?_
      rintro e w2 ⟨t1, a1, c1, p2, rfl, hat1, ok1, ok1', hf1, hm1, hp0, hp1, hrd, ho⟩
      have hsz_w2 := ho.size
      have HE2 := Lib.hid (And.intro hrd (And.intro (HO1.out.trans ho) (HK1.out.only ho hgn)))
      have HT1 := Lib.hid (And.intro ok1 (And.intro ok1' hat1))
      have HF1 := Lib.hid hf1
      clear hrd ho hat1 x0 x1 x2 f0 f1 f2 ok1 ok1' hf1
      go_wp2_with fail
      refine (H.out _ g p2 below HE2.out.1 (by omega) hb0 hb1).mono ?_
      rintro e w3 ⟨t2, a2, c2, p3, rfl, hat2, ok2, ok2', hf2, hm2, hp2, hp3, hrd, ho⟩
      have hsz_w3 := ho.size
      have HE3 := Lib.hid (And.intro hrd (And.intro (HE2.out.2.1.trans ho) (HE2.out.2.2.only ho hgn)))
      have hz2 := HE2.out.2.2.lt
      have HT2 := Lib.hid (And.intro ok2 (And.intro ok2' hat2))
      have HT1' := Lib.hid (And.intro HT1.out.1 (And.intro HT1.out.2.1 (HT1.out.2.2.only (g := g) (by intro b hb; omega) ho)))
      have HF2 := Lib.hid hf2
      clear hrd ho hat2 ok2 ok2' hf2 HT1
      go_wp2_with fail
      refine (H.out _ g p3 below HE3.out.1 (by omega) hb0 hb1).mono ?_
      rintro e w4 ⟨t3, a3, c3, p4, rfl, hat3, ok3, ok3', hf3, hm3, hp4, hp5, hrd, ho⟩
      have hsz_w4 := ho.size
      have HE4 := Lib.hid (And.intro hrd (And.intro (HE3.out.2.1.trans ho) (HE3.out.2.2.only ho hgn)))
      have hz3 := HE3.out.2.2.lt
      have HT3 := Lib.hid (And.intro ok3 (And.intro ok3' hat3))
      have HT1'' := Lib.hid (And.intro HT1'.out.1 (And.intro HT1'.out.2.1 (HT1'.out.2.2.only (g := g) (by intro b hb; omega) ho)))
      have HT2' := Lib.hid (And.intro HT2.out.1 (And.intro HT2.out.2.1 (HT2.out.2.2.only (g := g) (by intro b hb; omega) ho)))
      have HF3 := Lib.hid hf3
      clear hrd ho hat3 ok3 ok3' hf3 HT1' HT2
      obtain ⟨y0, y1, y2, g0, g1, g2⟩ := HE4.out.2.2.three
      have hz4 := HE4.out.2.2.lt
      go_wp2_with fail
      refine bodyPost_ret (v := .agg #[.int .i64 4, .int .i64 0, .slice (some ⟨w4.heap.size, 0, none⟩) 3 3]) (by simp [results, Try.results88, go_sem, y0, y1, y2, hz4]) rfl ?_
      exact drewT_node [(t1, a1, c1), (t2, a2, c2), (t3, a3, c3)] [t1, t2, t3] rfl _ rfl hgl hz4 HE4.out.2.1 HE4.out.1 (parted3 HT1''.out HT2'.out HT3.out (by intro b hb; omega) (by intro b hb; omega) (by intro b hb; omega) (by intro b hb; omega) (by intro b hb; omega) (by intro b hb; omega)) (by simp [i64ok]) (by simp [i64ok]) (fit_three _ _ _ HF1.out HF2.out HF3.out)
        (by have := HD.out.2; simp only [T.nodes, nodesL]; omega) (by simp) (by omega) (by have := HD.out.1; omega)
    · have hq9 : 0 ≤ r := hr0
      go_wp2_with fail
      refine (pick_any _ g (p + 2) 10 HR1.out (by omega) (by omega) (by omega)).mono ?_
      rintro e w2 ⟨r3, rfl, hr30, hr31, hrd, ho⟩
      have hr39 := hr31 (by omega)
      have HE2 := Lib.hid (And.intro hrd (And.intro (HO1.out.trans ho) (HK1.out.only ho hgn)))
      clear hrd ho hr31 x0 x1 x2 f0 f1 f2
      go_wp2_with fail
      refine (H.out _ g (p + 2 + 1) below HE2.out.1 (by omega) hb0 hb1).mono ?_
      rintro e w3 ⟨t1, a1, c1, p2, rfl, hat1, ok1, ok1', hf1, hm1, hp0, hp1, hrd, ho⟩
      have hsz_w3 := ho.size
      have hz2 := HE2.out.2.2.lt
      have HE3 := Lib.hid (And.intro hrd (And.intro (HE2.out.2.1.trans ho) (HE2.out.2.2.only ho hgn)))
      have HT1 := Lib.hid (And.intro ok1 (And.intro ok1' hat1))
      have HF1 := Lib.hid hf1
      clear hrd ho hat1 ok1 ok1' hf1
      obtain ⟨y0, y1, y2, g0, g1, g2⟩ := HE3.out.2.2.three
      have hz3 := HE3.out.2.2.lt
      go_wp2_with fail
      refine bodyPost_ret (v := .agg #[.int .i64 5, .int .i64 r3, .slice (some ⟨w3.heap.size, 0, none⟩) 1 1]) (by simp [results, Try.results88, go_sem, y0, y1, y2, hz3]) rfl ?_
      exact drewT_node [(t1, a1, c1)] [t1] rfl _ rfl hgl hz3 HE3.out.2.1 HE3.out.1 (parted1 HT1.out (by intro b hb; omega)) (by simp [i64ok]) (by simp [i64ok]; omega) (fit_at _ hr30 (by omega) _ HF1.out)
        (by have := HD.out.2; simp only [T.nodes, nodesL]; omega) (by simp) (by omega) (by have := HD.out.1; omega)

theorem dtask_all : ∀ k, k ≤ 3 → DTask k
  | 0, h => dtask_of 0 (fun j hj => by omega) h
  | k + 1, h => dtask_of (k + 1) (fun j hj => by obtain rfl : k = j := by omega
                                                 exact dtask_all k (by omega)) h

end Go.Proofs.Ytochgmbeomfkpaa
/- l91Num, l91Fit, l91Any, l6Open -/
namespace Go.Proofs.Ytochgmbeomfkpaa
open Go.RowKit

/-- l91Num: one of some numbers. -/
theorem num_any (w : World) (g p lb n : Nat) (lo hi : Int) (vs : Nat → Int) (hr : RdAt w g p) (hp : p ≤ 999990) (hn : 1 ≤ n) (hn' : n ≤ 10) (hg : lb ≠ g) (hv : ∀ i, i < n → w.cell? ⟨lb, i, none⟩ = some (.int .i64 (vs i)) ∧ lo ≤ vs i ∧ vs i ≤ hi) :
    Calls Try.prog 73 #[.pointer (some ⟨g, 0, none⟩), .slice (some ⟨lb, 0, none⟩) n n] w (Drew g p 1 lo hi w) := by
  have HR := Lib.hid hr
  have HV := Lib.hid hv
  clear hr hv
  go_enter Try.func73, Try.ntmps73
  go_wp2_with fail
  refine (pick_any _ g p n HR.out (by omega) (by omega) (by omega)).mono ?_
  rintro e w1 ⟨r, rfl, hr0, hr1, hrd, ho⟩
  have hrn := hr1 (by omega)
  obtain ⟨q, rfl⟩ : ∃ q : Nat, r = q := ⟨r.toNat, by omega⟩
  have hq : q < n := by omega
  obtain ⟨hc, h1, h2⟩ := HV.out q hq
  have hc' := ho.cell hc (by simpa using fun e => hg e)
  have HE := Lib.hid (And.intro hrd ho)
  clear hrd ho hr1 hc
  go_wp2_with fail
  go_ret
  exact ⟨vs q, p + 1, rfl, h1, h2, by omega, by omega, HE.out.1, HE.out.2⟩

def set3 (w : World) (R : Nat) (x y z : Value) : World := ((w.setCell ⟨R, 0, none⟩ x).setCell ⟨R, 1, none⟩ y).setCell ⟨R, 2, none⟩ z
theorem set3_heap (w : World) (R : Nat) (x y z : Value) (k : Nat) (hk : k ≠ R) : (set3 w R x y z).heap[k]? = w.heap[k]? := by
  unfold set3
  rw [Below.heap_setCell _ _ _ _ (by simpa using hk), Below.heap_setCell _ _ _ _ (by simpa using hk), Below.heap_setCell _ _ _ _ (by simpa using hk)]
theorem set3_size (w : World) (R : Nat) (x y z : Value) : (set3 w R x y z).heap.size = w.heap.size := by simp [set3, World.setCell]
theorem RdAt.set3 {w : World} {g p R : Nat} (h : RdAt w g p) (hR : g < R) (x y z : Value) : RdAt (set3 w R x y z) g p := h.keep fun k hk => set3_heap _ _ _ _ _ _ (by omega)
theorem Only.set3 {w w2 : World} {g R : Nat} (h : Only g w w2) (hR : w.heap.size ≤ R) (x y z : Value) : Only g w (set3 w2 R x y z) := ((h.set (.inr hR) _).set (.inr hR) _).set (.inr hR) _
theorem OwS.set3 {w : World} {e : TypeId} {F : Nat → Prop} {ps : List T} {a : Option Addr} {c R : Nat} (h : OwS w e F ps a c) (hR : ∀ b, F b → b ≠ R) (x y z : Value) : OwS (set3 w R x y z) e F ps a c :=
  h.keep (fun _ h => h) (fun b hb _ => set3_heap _ _ _ _ _ _ (hR b hb))

/-- A task that is one was drawn. -/
def DrewF (g p d : Nat) (w : World) (e : Ending) (w' : World) : Prop := ∃ (t : T) (a : Option Addr) (c p' : Nat), e = .returned (.agg #[.int .i64 t.k, .int .i64 t.n, .slice a t.ps.length c]) ∧ OwS w' 71 (fun b => w.heap.size ≤ b ∧ b < w'.heap.size) t.ps a c ∧
  i64ok t.k ∧ i64ok t.n ∧ t.ok = true ∧ p ≤ p' ∧ p' ≤ p + d ∧ RdAt w' g p' ∧ Only g w w'

theorem ok_get (n : Int) (h0 : 0 ≤ n) (h1 : n ≤ 9) : (T.mk 1 n []).ok = true := by unfold T.ok; rw [fit_get n h0 h1]; rfl

set_option maxHeartbeats 1000000 in
theorem fit_any (w : World) (g p : Nat) (below : Int) (hr : RdAt w g p) (hp : p ≤ 999000) (hb0 : 0 ≤ below) (hb1 : below ≤ 10) :
    Calls Try.prog 71 #[.pointer (some ⟨g, 0, none⟩), .int .i64 below] w (DrewF g p 40 w) := by
  have hgl := hr.lt
  have hgn : w.heap.size ≠ g := by omega
  have HR := Lib.hid (hr.alloc (.cells #[.int .i64 0, .int .i64 0, .slice none 0 0] 71))
  clear hr
  go_enter Try.func71, Try.ntmps71
  go_wp2_with fail
  refine (dtask_all 2 (by omega) _ g p below HR.out (by simp [dN]; omega) hb0 hb1).mono ?_
  rintro e w1 ⟨t, a, c, p', rfl, hat, ok1, ok2, hf, hm, hp0, hp1, hrd, ho⟩
  have hp1' : p' ≤ p + 39 := hp1
  have hm' : t.nodes ≤ 13 := hm
  have hsz := ho.size
  simp only [World.size_alloc] at hsz
  have hK1 : Blk w1 w.heap.size 71 #[.int .i64 0, .int .i64 0, .slice none 0 0] := (Blk.new w 71 #[.int .i64 0, .int .i64 0, .slice none 0 0]).only ho hgn
  have HK1 := Lib.hid (hK1.alloc (.cells #[.int .i64 t.k, .int .i64 t.n, .slice a t.ps.length c] 71))
  have HB1 := Lib.hid (Blk.new w1 71 #[.int .i64 t.k, .int .i64 t.n, .slice a t.ps.length c])
  have HT1 := Lib.hid (hat.alloc (.cells #[.int .i64 t.k, .int .i64 t.n, .slice a t.ps.length c] 71))
  have HE1 := Lib.hid (And.intro (hrd.alloc (.cells #[.int .i64 t.k, .int .i64 t.n, .slice a t.ps.length c] 71)) ((((Only.refl g w).alloc (.cells #[.int .i64 0, .int .i64 0, .slice none 0 0] 71)).trans ho).alloc (.cells #[.int .i64 t.k, .int .i64 t.n, .slice a t.ps.length c] 71)))
  have HOK := Lib.hid (And.intro ok1 ok2)
  have hnl : nodesL t.ps ≤ 1048576 := by have := t.nodes_eq; omega
  clear hat hrd ho hf hm hp1 hK1 ok1 ok2
  go_wp2_with fail
  refine (specOk_any t _ _ a c HT1.out.at hnl).mono ?_
  rintro e w2 ⟨rfl, hb⟩
  have hsz2 := hb.size
  simp only [World.size_alloc] at hsz2
  have HK2 := Lib.hid (HK1.out.below hb (by simp; omega))
  have HB2 := Lib.hid (HB1.out.below hb (by simp))
  have HT2 := Lib.hid (HT1.out.below hb)
  have HE2 := Lib.hid (And.intro (HE1.out.1.below hb) (HE1.out.2.trans (.of_below hb)))
  obtain ⟨x0, x1, x2, f0, f1, f2⟩ := HK2.out.three
  obtain ⟨y0, y1, y2, g0, g1, g2⟩ := HB2.out.three
  have hne1 : w1.heap.size ≠ w.heap.size := by omega
  clear hb HK1 HB1 HT1 HE1
  cases hok : t.ok
  · have HOKB := Lib.hid hok
    clear hok
    go_wp2_with fail
    refine (pick_any _ g p' 10 HE2.out.1 (by omega) (by omega) (by omega)).mono ?_
    rintro e w3 ⟨r, rfl, hr0, hr1, hrd, ho⟩
    have hr9 := hr1 (by omega)
    have HK3 := Lib.hid (HK2.out.only ho hgn)
    have HE3 := Lib.hid (And.intro hrd (HE2.out.2.trans ho))
    clear hrd ho hr1 x0 x1 x2 f0 f1 f2 y0 y1 y2 g0 g1 g2
    obtain ⟨x0, x1, x2, f0, f1, f2⟩ := HK3.out.three
    go_wp2_with fail
    refine bodyPost_ret (v := .agg #[.int .i64 1, .int .i64 r, .slice none 0 0]) (by simp [results, Try.results71, go_sem, x0, x1, x2]) rfl ?_
    exact ⟨.mk 1 r [], none, 0, p' + 1, rfl, OwS.nil, by simp [T.k, i64ok], by simp [T.n, i64ok]; omega, ok_get _ hr0 (by omega), by omega, by omega, HE3.out.1.set3 hgl _ _ _, HE3.out.2.set3 (Nat.le_refl _) _ _ _⟩
  · have HOKB := Lib.hid hok
    clear hok
    go_wp2_with fail
    refine bodyPost_ret (v := .agg #[.int .i64 t.k, .int .i64 t.n, .slice a t.ps.length c]) (by simp [results, Try.results71, go_sem, x0, x1, x2]) rfl ?_
    refine ⟨t, a, c, p', rfl, (HT2.out.set3 (R := w.heap.size) (by intro b hb; simp at hb; omega) _ _ _).weaken ?_, HOK.out.1, HOK.out.2, HOKB.out, by omega, by omega, HE2.out.1.set3 hgl _ _ _, HE2.out.2.set3 (Nat.le_refl _) _ _ _⟩
    intro b hb
    simp only [World.size_alloc] at hb
    have := set3_size w2 w.heap.size (.int .i64 t.k) (.int .i64 t.n) (.slice a t.ps.length c)
    unfold set3 at this
    omega

end Go.Proofs.Ytochgmbeomfkpaa
/- l91Any, l6Open -/
namespace Go.Proofs.Ytochgmbeomfkpaa
open Go.RowKit

/-- Some task was drawn, be it one or not. -/
def DrewA (g p d : Nat) (w : World) (e : Ending) (w' : World) : Prop := ∃ (t : T) (a : Option Addr) (c p' : Nat), e = .returned (.agg #[.int .i64 t.k, .int .i64 t.n, .slice a t.ps.length c]) ∧ OwS w' 71 (fun b => w.heap.size ≤ b ∧ b < w'.heap.size) t.ps a c ∧
  i64ok t.k ∧ i64ok t.n ∧ t.nodes ≤ 100 ∧ p ≤ p' ∧ p' ≤ p + d ∧ RdAt w' g p' ∧ Only g w w'

theorem anyEnd {w w5 : World} {g p p' d : Nat} {F : Nat → Prop} {t : T} {a : Option Addr} {c : Nat} (hgl : g < w.heap.size) (hR : RdAt w5 g p') (hO : Only g w w5) (how : OwS w5 71 F t.ps a c) (hF : ∀ b, F b → w.heap.size < b ∧ b < w5.heap.size)
    (ok1 : i64ok t.k) (ok2 : i64ok t.n) (hm : t.nodes ≤ 100) (h1 : p ≤ p') (h2 : p' ≤ p + d) :
    DrewA g p d w (.returned (.agg #[.int .i64 t.k, .int .i64 t.n, .slice a t.ps.length c])) (set3 w5 w.heap.size (.int .i64 t.k) (.int .i64 t.n) (.slice a t.ps.length c)) :=
  ⟨t, a, c, p', rfl, (how.set3 (fun b hb => by have := hF b hb; omega) _ _ _).weaken (fun b hb => by have := hF b hb; rw [set3_size]; omega), ok1, ok2, hm, h1, h2, hR.set3 hgl _ _ _, hO.set3 (Nat.le_refl _) _ _ _⟩

end Go.Proofs.Ytochgmbeomfkpaa
/- l6Open; DrawTaskNodes -/
namespace Go.Proofs.Ytochgmbeomfkpaa
open Go.RowKit

/-- A code that came in. -/
def CodeAt (w : World) (a : Option Addr) (n c : Nat) : Prop := n ≤ c ∧ c ≤ 9223372036854775807 ∧ (n = 0 ∨ ∃ b o, a = some ⟨b, o, none⟩ ∧ b < w.heap.size ∧ ∀ i, i < n → ∃ v : Int, 0 ≤ v ∧ v ≤ 255 ∧ w.cell? ⟨b, o + i, none⟩ = some (.int .u8 v))
theorem CodeAt.below {w w' : World} {a : Option Addr} {n c : Nat} (h : CodeAt w a n c) (hb : Below w.heap.size w w') : CodeAt w' a n c := by
  obtain ⟨h1, h2, h3⟩ := h
  refine ⟨h1, h2, ?_⟩
  rcases h3 with h3 | ⟨b, o, ha, hlt, hv⟩
  · exact .inl h3
  · refine .inr ⟨b, o, ha, Nat.lt_of_lt_of_le hlt hb.size, fun i hi => ?_⟩
    obtain ⟨v, v0, v1, hc⟩ := hv i hi
    exact ⟨v, v0, v1, (hb.cell (p := ⟨b, o + i, none⟩) hlt).trans hc⟩
theorem CodeAt.alloc {w : World} {a : Option Addr} {n c : Nat} (h : CodeAt w a n c) (o : Obj) : CodeAt (w.alloc o) a n c := h.below ((Below.refl _ _).alloc (Nat.le_refl _) o)

def Opened (w : World) (e : Ending) (w' : World) : Prop := e = .returned (.pointer (some ⟨w.heap.size, 0, none⟩)) ∧ RdAt w' w.heap.size 0 ∧ Below w.heap.size w w'

theorem rd_new {w : World} {a : Option Addr} {n m c : Nat} {t : TypeId} (h : CodeAt w a n c) (hm : m ≤ 2000) (hmn : m ≤ n) : RdAt (w.alloc (.cells #[.slice a m c, .int .i64 0] t)) w.heap.size 0 := by
  obtain ⟨h1, h2, h3⟩ := h
  have hb := Blk.new w t #[.slice a m c, .int .i64 0]
  refine ⟨a, m, c, hm, by omega, h2, hb.cell 0, hb.cell 1, hb.frozen 1, ?_⟩
  rcases h3 with h3 | ⟨b, o, ha, hlt, hv⟩
  · exact .inl (by omega)
  · refine .inr ⟨b, o, ha, hlt, fun i hi => ?_⟩
    obtain ⟨v, v0, v1, hc⟩ := hv i (by omega)
    exact ⟨v, v0, v1, (((Below.refl w.heap.size w).alloc (Nat.le_refl _) _).cell (p := ⟨b, o + i, none⟩) hlt).trans hc⟩

theorem open_any (w : World) (a : Option Addr) (n c : Nat) (h : CodeAt w a n c) : Calls Try.prog 42 #[.slice a n c] w (Opened w) := by
  have hn := h.1
  have hc := h.2.1
  by_cases hl : 2000 < n
  · obtain ⟨b, o, rfl, hlt, hv⟩ : ∃ b o, a = some ⟨b, o, none⟩ ∧ b < w.heap.size ∧ ∀ i, i < n → ∃ v : Int, 0 ≤ v ∧ v ≤ 255 ∧ w.cell? ⟨b, o + i, none⟩ = some (.int .u8 v) := by
      rcases h.2.2 with h | h
      · omega
      · exact h
    have H := Lib.hid (rd_new (m := 2000) (t := 97) h (by omega) (by omega))
    clear h hv
    go_enter Try.func42, Try.ntmps42
    go_wp2_with fail
    go_ret
    exact ⟨rfl, H.out, (Below.refl _ _).alloc (Nat.le_refl _) _⟩
  · have H := Lib.hid (rd_new (m := n) (t := 97) h (by omega) (by omega))
    clear h
    go_enter Try.func42, Try.ntmps42
    go_wp2_with fail
    go_ret
    exact ⟨rfl, H.out, (Below.refl _ _).alloc (Nat.le_refl _) _⟩

/-- A task drawn off a code. -/
def DrawnT (w : World) (e : Ending) (w' : World) : Prop := ∃ (t : T) (a : Option Addr) (c : Nat), e = .returned (.agg #[.int .i64 t.k, .int .i64 t.n, .slice a t.ps.length c]) ∧ OwS w' 71 (fun b => w.heap.size ≤ b ∧ b < w'.heap.size) t.ps a c ∧
  i64ok t.k ∧ i64ok t.n ∧ t.nodes ≤ 100 ∧ Below w.heap.size w w'


end Go.Proofs.Ytochgmbeomfkpaa
/- l91Values; DrawTaskValue and its like -/
namespace Go.Proofs.Ytochgmbeomfkpaa
open Go.RowKit

theorem only_grown {g : Nat} {w wr w2 : World} {row : Option Nat} (h : Only g w wr) (hg : wr.grownBy w2 row) (hr : ∀ k, row = some k → w.heap.size ≤ k) : Only g w w2 :=
  ⟨hg.os.trans h.os, hg.tape.trans h.tape, hg.output.trans h.output, Nat.le_trans h.size hg.size, fun i hi hne => (hg.block i (Nat.lt_of_lt_of_le hi h.size) (by intro e; have := hr i e.symm; omega)).trans (h.block i hi hne)⟩
theorem RdAt.grown {g p : Nat} {w w2 : World} {row : Option Nat} (h : RdAt w g p) (hg : w.grownBy w2 row) (hr : ∀ k, row = some k → g < k) : RdAt w2 g p :=
  h.keep fun k hk => hg.block k (by have := h.lt; omega) (by intro e; have := hr k e.symm; omega)
theorem NumRow.only {g base : Nat} {w w2 : World} {v : Value} {l : List Int} (h : NumRow w base v l) (ho : Only g w w2) (hg : g < base) : NumRow w2 base v l :=
  World.ownsRow.kept h ho (by
    cases hv : v.ownBlock with
    | none => exact .inl rfl
    | some k => refine .inr ?_; intro e; injection e with e; have := own_ge h k hv; omega)

/-- Values drawn off a code. -/
def ValsD (g p : Nat) (w : World) (e : Ending) (w' : World) : Prop :=
  ∃ (l : List Int) (v : Value) (p' : Nat), e = .returned v ∧ NumRow w' w.heap.size v l ∧ l.length ≤ 12 ∧ (∀ x ∈ l, 0 ≤ x ∧ x ≤ 97) ∧ p ≤ p' ∧ p' ≤ p + 100 ∧ RdAt w' g p' ∧ Only g w w'

/-- A task and values drawn off a code. -/
def DrawnTV (w : World) (e : Ending) (w' : World) : Prop := ∃ (t : T) (a : Option Addr) (c : Nat) (l : List Int) (v : Value), e = .returned (.tuple #[.agg #[.int .i64 t.k, .int .i64 t.n, .slice a t.ps.length c], v]) ∧ AtS w' (fun b => w.heap.size ≤ b ∧ b < w'.heap.size) t.ps a c ∧
  i64ok t.k ∧ i64ok t.n ∧ t.nodes ≤ 100 ∧ NumRow w' w.heap.size v l ∧ l.length ≤ 12 ∧ (∀ x ∈ l, 0 ≤ x ∧ x ≤ 97) ∧ Below w.heap.size w w'
end Go.Proofs.Ytochgmbeomfkpaa
