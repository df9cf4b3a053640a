/- the nodes of a sheet in memory -/
import Derived.Test.YtochgmbeomfkpaaShOkS
import Derived.Test.YtochgmbeomfkpaaBs0
import Derived.Test.YtochgmbeomfkpaaBs2
import Derived.Deep.LoopGhost
namespace Go.Proofs.Ytochgmbeomfkpaa
open Go.RowKit

/-- What the node of key i points to at j: the node of key j, if its task may fetch it, and it is there. -/
def mpv (s : Sh) (g n i j : Nat) : Value := .pointer (if ((s.tk i).may (j : Int) && decide (j < n)) = true then some ⟨g + j, 0, none⟩ else none)
/-- The cells of a node. -/
def ndc (i : Nat) (t : T) (a : Option Addr) (c : Nat) (m : Nat → Value) (v : Int) (d : Bool) : Array Value :=
  #[.int .i64 i, .int .i64 t.k, .int .i64 t.n, .slice a t.ps.length c, m 0, m 1, m 2, m 3, m 4, m 5, m 6, m 7, m 8, m 9, .int .i64 v, .bool d]

/-- The nodes of the keys below n, in blocks g, g + 1 and so on. -/
def Nds (w : World) (S : Nat → Prop) (s : Sh) (g n : Nat) (m : Nat → Nat → Value) (v : Int → Int) (d : Int → Bool) : Prop :=
  ∀ i, i < n → ∃ a c, Blk w (g + i) 78 (ndc i (s.tk i) a c (m i) (v i) (d i)) ∧ AtS w S (s.tk i).ps a c

section
variable {w w' : World} {S : Nat → Prop} {s : Sh} {g n : Nat} {m m' : Nat → Nat → Value} {v v' : Int → Int} {d d' : Int → Bool}
theorem Nds.keep (hk : ∀ b, S b ∨ (g ≤ b ∧ b < g + n) → b < w.heap.size → w'.heap[b]? = w.heap[b]?) (h : Nds w S s g n m v d) : Nds w' S s g n m v d := fun i hi => by
  obtain ⟨a, c, h1, h2⟩ := h i hi
  exact ⟨a, c, (hk (g + i) (.inr ⟨by omega, by omega⟩) h1.lt).trans h1, h2.keep (fun _ h => h) (fun b hb hl => hk b (.inl hb) hl)⟩
theorem Nds.below (h : Nds w S s g n m v d) (hb : Below w.heap.size w w') : Nds w' S s g n m v d := h.keep (fun b _ hl => hb.block b hl)
theorem Nds.alloc (h : Nds w S s g n m v d) (o : Obj) : Nds (w.alloc o) S s g n m v d := h.below ((Below.refl _ _).alloc (Nat.le_refl _) o)
theorem Nds.drewN (h : Nds w S s g n m v d) (k : Nat) : Nds (w.drewN k) S s g n m v d := Nds.keep (w := w) (w' := w.drewN k) (fun _ _ _ => rfl) h
theorem Nds.drew (h : Nds w S s g n m v d) : Nds w.drew S s g n m v d := Nds.keep (w := w) (w' := w.drew) (fun _ _ _ => rfl) h
theorem Nds.fr {D : Nat → Prop} (h : Nds w S s g n m v d) (hf : Fr D w w') (hD : ∀ b, D b → ¬ (S b ∨ (g ≤ b ∧ b < g + n))) : Nds w' S s g n m v d :=
  h.keep (fun b hb hl => hf.2.2.2.2 b hl (fun hd => hD b hd hb))
theorem Nds.congr (h : Nds w S s g n m v d) (hm : ∀ i j, i < n → j < 10 → m i j = m' i j) (hv : ∀ i : Nat, i < n → v i = v' i) (hd : ∀ i : Nat, i < n → d i = d' i) : Nds w S s g n m' v' d' := fun i hi => by
  obtain ⟨a, c, h1, h2⟩ := h i hi
  refine ⟨a, c, ?_, h2⟩
  have e : ndc i (s.tk i) a c (m i) (v i) (d i) = ndc i (s.tk i) a c (m' i) (v' i) (d' i) := by
    unfold ndc
    rw [hm i 0 hi (by omega), hm i 1 hi (by omega), hm i 2 hi (by omega), hm i 3 hi (by omega), hm i 4 hi (by omega), hm i 5 hi (by omega), hm i 6 hi (by omega), hm i 7 hi (by omega), hm i 8 hi (by omega), hm i 9 hi (by omega), hv i hi, hd i hi]
  rw [← e]; exact h1
/-- The cells of one node. -/
theorem Nds.node (h : Nds w S s g n m v d) {i : Nat} (hi : i < n) : ∃ a c, g + i < w.heap.size ∧ w.cell? ⟨g + i, 0, none⟩ = some (.int .i64 i) ∧
    w.cell? ⟨g + i, 1, none⟩ = some (.int .i64 (s.tk i).k) ∧ w.cell? ⟨g + i, 2, none⟩ = some (.int .i64 (s.tk i).n) ∧ w.cell? ⟨g + i, 3, none⟩ = some (.slice a (s.tk i).ps.length c) ∧
    (∀ j, j < 10 → w.cell? ⟨g + i, 4 + j, none⟩ = some (m i j)) ∧ w.cell? ⟨g + i, 14, none⟩ = some (.int .i64 (v i)) ∧ w.cell? ⟨g + i, 15, none⟩ = some (.bool (d i)) ∧
    (∀ j, w.frozen? ⟨g + i, j, none⟩ = false) ∧ AtS w S (s.tk i).ps a c := by
  obtain ⟨a, c, h1, h2⟩ := h i hi
  refine ⟨a, c, h1.lt, h1.cell 0, h1.cell 1, h1.cell 2, h1.cell 3, fun j hj => ?_, h1.cell 14, h1.cell 15, h1.frozen, h2⟩
  rw [h1.cell]
  match j, hj with
  | 0, _ => rfl
  | 1, _ => rfl
  | 2, _ => rfl
  | 3, _ => rfl
  | 4, _ => rfl
  | 5, _ => rfl
  | 6, _ => rfl
  | 7, _ => rfl
  | 8, _ => rfl
  | 9, _ => rfl
/-- All that a node points to. -/
theorem Nds.points (h : Nds w S s g n m v d) {i : Nat} (hi : i < n) : w.cell? ⟨g + i, 4, none⟩ = some (m i 0) ∧ w.cell? ⟨g + i, 5, none⟩ = some (m i 1) ∧ w.cell? ⟨g + i, 6, none⟩ = some (m i 2) ∧ w.cell? ⟨g + i, 7, none⟩ = some (m i 3) ∧
    w.cell? ⟨g + i, 8, none⟩ = some (m i 4) ∧ w.cell? ⟨g + i, 9, none⟩ = some (m i 5) ∧ w.cell? ⟨g + i, 10, none⟩ = some (m i 6) ∧ w.cell? ⟨g + i, 11, none⟩ = some (m i 7) ∧ w.cell? ⟨g + i, 12, none⟩ = some (m i 8) ∧ w.cell? ⟨g + i, 13, none⟩ = some (m i 9) := by
  obtain ⟨a, c, h1, h2⟩ := h i hi
  exact ⟨h1.cell 4, h1.cell 5, h1.cell 6, h1.cell 7, h1.cell 8, h1.cell 9, h1.cell 10, h1.cell 11, h1.cell 12, h1.cell 13⟩
/-- A node is done, with a value. -/
theorem Nds.set_done (h : Nds w S s g n m v d) (hS : ∀ b, S b → b < g) {i : Nat} (x : Int) : 
    Nds ((w.setCell ⟨g + i, 14, none⟩ (.int .i64 x)).setCell ⟨g + i, 15, none⟩ (.bool true)) S s g n m (fun k => if k = i then x else v k) (upd d i) := fun k hk => by
  obtain ⟨a, c, h1, h2⟩ := h k hk
  have hs : AtS ((w.setCell ⟨g + i, 14, none⟩ (.int .i64 x)).setCell ⟨g + i, 15, none⟩ (.bool true)) S (s.tk k).ps a c :=
    (h2.setCell (fun b hb => by have := hS b hb; simp; omega) _).setCell (fun b hb => by have := hS b hb; simp; omega) _
  by_cases hki : k = i
  · subst hki
    refine ⟨a, c, ?_, hs⟩
    have h3 := (h1.set_ 14 (.int .i64 x)).set_ 15 (.bool true)
    have e : upd d (k : Int) (k : Int) = true := by unfold upd; simp
    show Blk _ _ _ (ndc k (s.tk k) a c (m k) (if (k : Int) = (k : Int) then x else v k) (upd d k k))
    rw [if_pos rfl, e]
    exact h3
  · refine ⟨a, c, ?_, hs⟩
    have h3 := (h1.far (p := ⟨g + i, 14, none⟩) (by simp; omega) (.int .i64 x)).far (p := ⟨g + i, 15, none⟩) (by simp; omega) (.bool true)
    have e : upd d (i : Int) (k : Int) = d k := by unfold upd; rw [decide_eq_false (by omega), Bool.or_false]
    show Blk _ _ _ (ndc k (s.tk k) a c (m k) (if (k : Int) = (i : Int) then x else v k) (upd d i k))
    rw [if_neg (by omega), e]
    exact h3
/-- A node is done. -/
theorem Nds.set_done' (h : Nds w S s g n m v d) (hS : ∀ b, S b → b < g) {i : Nat} : Nds (w.setCell ⟨g + i, 15, none⟩ (.bool true)) S s g n m v (upd d i) := fun k hk => by
  obtain ⟨a, c, h1, h2⟩ := h k hk
  have hs : AtS (w.setCell ⟨g + i, 15, none⟩ (.bool true)) S (s.tk k).ps a c := h2.setCell (fun b hb => by have := hS b hb; simp; omega) _
  by_cases hki : k = i
  · subst hki
    refine ⟨a, c, ?_, hs⟩
    have h3 := h1.set_ 15 (.bool true)
    have e : upd d (k : Int) (k : Int) = true := by unfold upd; simp
    rw [e]
    exact h3
  · refine ⟨a, c, ?_, hs⟩
    have h3 := h1.far (p := ⟨g + i, 15, none⟩) (by simp; omega) (.bool true)
    have e : upd d (i : Int) (k : Int) = d k := by unfold upd; rw [decide_eq_false (by omega), Bool.or_false]
    rw [e]
    exact h3
end

/-- Blocks of the nodes. -/
def ndB (g n : Nat) : Nat → Prop := fun b => g ≤ b ∧ b < g + n
/-- A node, by its key. -/
def ndP (g : Nat) (k : Int) : Value := .pointer (some ⟨g + k.toNat, 0, none⟩)

/-- What a step leaves: the node is done; or the first node that it lacks. -/
def StPost (S : Nat → Prop) (s : Sh) (g n : Nat) (cv : (Int → Bool) → Int → Int) (ch : Int → List Int) (d : Int → Bool) (k : Int) (w : World) (e : Ending) (w' : World) : Prop :=
  Fr (ndB g n) w w' ∧ ((∃ j, nxt ch d k = some j ∧ e = .returned (ndP g j) ∧ Nds w' S s g n (mpv s g n) (cv d) d) ∨
    (nxt ch d k = none ∧ e = .returned (.pointer none) ∧ Nds w' S s g n (mpv s g n) (cv (upd d k)) (upd d k)))
end Go.Proofs.Ytochgmbeomfkpaa
