/- A task as a tree, and what it is for a tree to lie in memory: plain words, no program. -/
import Derived.WalkKit
import Derived.Lib.Hide
namespace Go.Proofs.Ytklmpagpkeffjaa
open Go.RowKit

/-- A task: its kind, its number, its parts. -/
inductive T where
  | mk (k n : Int) (ps : List T)

def T.k : T → Int | .mk k _ _ => k
def T.n : T → Int | .mk _ n _ => n
def T.ps : T → List T | .mk _ _ ps => ps

theorem T.ind {P : T → Prop} (h : ∀ k n ps, (∀ t ∈ ps, P t) → P (.mk k n ps)) : ∀ t, P t
  | .mk k n ps => h k n ps (fun t _ => T.ind h t)
termination_by t => t
decreasing_by have := List.sizeOf_lt_of_mem ‹_ ∈ _›; simp; omega

mutual
def T.nodes : T → Nat | .mk _ _ ps => 1 + nodesL ps
def nodesL : List T → Nat | [] => 0 | t :: r => t.nodes + nodesL r
end

theorem T.nodes_pos (t : T) : 1 ≤ t.nodes := by cases t; simp only [T.nodes]; omega
theorem nodesL_ge : ∀ ps : List T, ps.length ≤ nodesL ps
  | [] => by simp [nodesL]
  | t :: r => by have := nodesL_ge r; have := t.nodes_pos; simp only [nodesL, List.length_cons]; omega

theorem nodesL_append : ∀ ps qs : List T, nodesL (ps ++ qs) = nodesL ps + nodesL qs
  | [], qs => by simp [nodesL]
  | t :: r, qs => by have := nodesL_append r qs; simp only [nodesL, List.cons_append]; omega
theorem nodesL_snoc (ps : List T) (i : Nat) (h : i < ps.length) : nodesL (ps.take (i + 1)) = nodesL (ps.take i) + ps[i].nodes := by
  rw [List.take_succ_eq_append_getElem h, nodesL_append]; simp [nodesL]
theorem nodesL_rest (ps : List T) (i : Nat) : nodesL (ps.take i) + (ps.length - i) ≤ nodesL ps := by
  have h := nodesL_append (ps.take i) (ps.drop i)
  rw [List.take_append_drop] at h
  have := nodesL_ge (ps.drop i)
  rw [List.length_drop] at this
  omega
theorem T.nodes_eq (t : T) : t.nodes = 1 + nodesL t.ps := by cases t; simp only [T.nodes, T.ps]
theorem T.nodes_le {ps : List T} {i : Nat} (h : i < ps.length) : ps[i].nodes ≤ nodesL ps := by
  have h1 := nodesL_snoc ps i h
  have h2 := nodesL_rest ps (i + 1)
  omega

def i64ok (n : Int) : Prop := -9223372036854775808 ≤ n ∧ n ≤ 9223372036854775807

mutual
/-- The three cells from (b, o) on hold the task t; the blocks of its parts meet S. -/
def AtC (w : World) (S : Nat → Prop) : T → Nat → Nat → Prop
  | .mk k n ps, b, o => i64ok k ∧ i64ok n ∧ w.cell? ⟨b, o, none⟩ = some (.int .i64 k) ∧ w.cell? ⟨b, o + 1, none⟩ = some (.int .i64 n) ∧
      ∃ a c, w.cell? ⟨b, o + 2, none⟩ = some (.slice a ps.length c) ∧ ps.length ≤ c ∧ c ≤ 9223372036854775807 ∧
        (ps = [] ∨ ∃ b' o', a = some ⟨b', o', none⟩ ∧ S b' ∧ AtL w S ps b' o')
def AtL (w : World) (S : Nat → Prop) : List T → Nat → Nat → Prop
  | [], _, _ => True
  | t :: r, b, o => AtC w S t b o ∧ AtL w S r b (o + 3)
end

/-- The slice value '.slice a ps.length c' has the elements ps. -/
def AtS (w : World) (S : Nat → Prop) (ps : List T) (a : Option Addr) (c : Nat) : Prop :=
  ps.length ≤ c ∧ c ≤ 9223372036854775807 ∧ (ps = [] ∨ ∃ b o, a = some ⟨b, o, none⟩ ∧ S b ∧ AtL w S ps b o)

theorem AtL.get {w : World} {S : Nat → Prop} : ∀ {ps : List T} {b o : Nat}, AtL w S ps b o → ∀ i (h : i < ps.length), AtC w S ps[i] b (o + i * 3)
  | [], _, _, _, _, h => by simp at h
  | t :: r, b, o, hl, 0, _ => by simpa using hl.1
  | t :: r, b, o, hl, i + 1, h => by
    have := AtL.get (ps := r) hl.2 i (by simpa using h)
    rw [show o + (i + 1) * 3 = o + 3 + i * 3 by omega]
    simpa using this

theorem below_block {B : Nat} {w w' : World} (h : Below B w w') (b : Nat) (hb : b < B) : w'.heap[b]? = w.heap[b]? := h.block b hb

theorem cell_lt {w : World} {b o : Nat} {v : Value} (h : w.cell? ⟨b, o, none⟩ = some v) : b < w.heap.size := by
  unfold World.cell? at h
  rcases Nat.lt_or_ge b w.heap.size with hlt | hge
  · exact hlt
  · simp [Array.getElem?_eq_none hge] at h

theorem AtC.cells0 {w : World} {S : Nat → Prop} {t : T} {b o : Nat} (h : AtC w S t b o) : w.cell? ⟨b, o, none⟩ = some (.int .i64 t.k) := by
  cases t
  simp only [AtC] at h
  exact h.2.2.1

mutual
theorem AtC.keepC {w w' : World} {S S' : Nat → Prop} (hS : ∀ b, S b → S' b) (hk : ∀ b, S b → b < w.heap.size → w'.heap[b]? = w.heap[b]?) :
    ∀ (t : T) (b o : Nat), (∀ j, o ≤ j → j < o + 3 → w'.cell? ⟨b, j, none⟩ = w.cell? ⟨b, j, none⟩) → AtC w S t b o → AtC w' S' t b o
  | .mk k n ps, b, o, e, h => by
    simp only [AtC] at h ⊢
    obtain ⟨hk1, hn1, c0, c1, a, c, c2, hc, hc', hp⟩ := h
    refine ⟨hk1, hn1, by rw [e _ (by omega) (by omega)]; exact c0, by rw [e _ (by omega) (by omega)]; exact c1, a, c, by rw [e _ (by omega) (by omega)]; exact c2, hc, hc', ?_⟩
    rcases hp with hp | ⟨b', o', ha, hSb, hl⟩
    · exact .inl hp
    · refine .inr ⟨b', o', ha, hS _ hSb, AtL.keepC hS hk ps b' o' (fun j _ _ => ?_) hl⟩
      rcases Nat.lt_or_ge b' w.heap.size with hlt | hge
      · exact World.cell?_of_block (w := w) (hk b' hSb hlt)
      · cases ps with
        | nil => simp at *; omega
        | cons t r => have := cell_lt (AtC.cells0 hl.1); omega
theorem AtL.keepC {w w' : World} {S S' : Nat → Prop} (hS : ∀ b, S b → S' b) (hk : ∀ b, S b → b < w.heap.size → w'.heap[b]? = w.heap[b]?) :
    ∀ (ps : List T) (b o : Nat), (∀ j, o ≤ j → j < o + 3 * ps.length → w'.cell? ⟨b, j, none⟩ = w.cell? ⟨b, j, none⟩) → AtL w S ps b o → AtL w' S' ps b o
  | [], _, _, _, _ => by simp [AtL]
  | t :: r, b, o, e, h => by
    simp only [AtL] at h ⊢
    exact ⟨AtC.keepC hS hk t b o (fun j h1 h2 => e j h1 (by simp; omega)) h.1, AtL.keepC hS hk r b (o + 3) (fun j h1 h2 => e j (by omega) (by simp; omega)) h.2⟩
end
theorem AtC.keep {w w' : World} {S S' : Nat → Prop} (hS : ∀ b, S b → S' b) (hk : ∀ b, S b → b < w.heap.size → w'.heap[b]? = w.heap[b]?)
    (t : T) (b o : Nat) (hb : b < w.heap.size → w'.heap[b]? = w.heap[b]?) (h : AtC w S t b o) : AtC w' S' t b o :=
  AtC.keepC hS hk t b o (fun _ _ _ => World.cell?_of_block (w := w) (hb (cell_lt (AtC.cells0 h)))) h
theorem AtL.keep {w w' : World} {S S' : Nat → Prop} (hS : ∀ b, S b → S' b) (hk : ∀ b, S b → b < w.heap.size → w'.heap[b]? = w.heap[b]?)
    (ps : List T) (b o : Nat) (hb : b < w.heap.size → w'.heap[b]? = w.heap[b]?) (h : AtL w S ps b o) : AtL w' S' ps b o := by
  cases ps with
  | nil => simp [AtL]
  | cons t r => exact AtL.keepC hS hk _ b o (fun _ _ _ => World.cell?_of_block (w := w) (hb (cell_lt (AtC.cells0 h.1)))) h

theorem AtS.keep {w w' : World} {S S' : Nat → Prop} (hS : ∀ b, S b → S' b) (hk : ∀ b, S b → b < w.heap.size → w'.heap[b]? = w.heap[b]?) {ps : List T} {a : Option Addr} {c : Nat} (h : AtS w S ps a c) : AtS w' S' ps a c := by
  obtain ⟨h1, h2, h3⟩ := h
  refine ⟨h1, h2, ?_⟩
  rcases h3 with h3 | ⟨b, o, ha, hSb, hl⟩
  · exact .inl h3
  · exact .inr ⟨b, o, ha, hS _ hSb, AtL.keep hS hk ps b o (hk b hSb) hl⟩

theorem AtS.below {w w' : World} {S : Nat → Prop} {ps : List T} {a : Option Addr} {c : Nat} (h : AtS w S ps a c) (hb : Below w.heap.size w w') : AtS w' S ps a c :=
  h.keep (fun _ h => h) (fun b _ hl => hb.block b hl)
theorem AtS.alloc {w : World} {S : Nat → Prop} {ps : List T} {a : Option Addr} {c : Nat} (h : AtS w S ps a c) (o : Obj) : AtS (w.alloc o) S ps a c :=
  h.keep (fun _ h => h) (fun b _ hl => Below.heap_alloc w o b hl)

theorem AtS.setCell {w : World} {S : Nat → Prop} {ps : List T} {a : Option Addr} {c : Nat} (h : AtS w S ps a c) {p : Addr} (hp : ∀ b, S b → b ≠ p.block) (v : Value) : AtS (w.setCell p v) S ps a c :=
  h.keep (fun _ h => h) (fun b hb _ => Below.heap_setCell _ _ _ _ (hp b hb))
theorem AtS.weaken {w : World} {S S' : Nat → Prop} {ps : List T} {a : Option Addr} {c : Nat} (h : AtS w S ps a c) (hS : ∀ b, S b → S' b) : AtS w S' ps a c :=
  h.keep hS (fun _ _ _ => rfl)

theorem AtS.nil {w : World} {S : Nat → Prop} {a : Option Addr} {c : Nat} (hc : c ≤ 9223372036854775807) : AtS w S [] a c := ⟨by simp, hc, .inl rfl⟩
theorem AtS.drew {w : World} {S : Nat → Prop} {ps : List T} {a : Option Addr} {c : Nat} (h : AtS w S ps a c) : AtS w.drew S ps a c :=
  AtS.keep (w := w) (w' := w.drew) (fun _ h => h) (fun _ _ _ => rfl) h

theorem AtC.cells {w : World} {S : Nat → Prop} {t : T} {b o : Nat} (h : AtC w S t b o) : i64ok t.k ∧ i64ok t.n ∧ w.cell? ⟨b, o, none⟩ = some (.int .i64 t.k) ∧ w.cell? ⟨b, o + 1, none⟩ = some (.int .i64 t.n) ∧
      ∃ a c, w.cell? ⟨b, o + 2, none⟩ = some (.slice a t.ps.length c) ∧ AtS w S t.ps a c := by
  cases t
  simp only [AtC] at h
  obtain ⟨h1, h2, h3, h4, a, c, h5, h6, h7, h8⟩ := h
  exact ⟨h1, h2, h3, h4, a, c, h5, h6, h7, h8⟩

/-- The element i of a slice of tasks, in a later world. -/
theorem AtS.elem {w w' : World} {S : Nat → Prop} {ps : List T} {a : Option Addr} {c : Nat} (h : AtS w S ps a c) (hb : Below w.heap.size w w') {i : Nat} (hi : i < ps.length) :
    ∃ b o a' c', a = some ⟨b, o, none⟩ ∧ b < w.heap.size ∧ S b ∧ w'.cell? ⟨b, o + i * 3, none⟩ = some (.int .i64 ps[i].k) ∧ w'.cell? ⟨b, o + i * 3 + 1, none⟩ = some (.int .i64 ps[i].n) ∧
      w'.cell? ⟨b, o + i * 3 + 2, none⟩ = some (.slice a' ps[i].ps.length c') ∧ AtS w' S ps[i].ps a' c' ∧ i64ok ps[i].k ∧ i64ok ps[i].n := by
  rcases h.2.2 with rfl | ⟨b, o, rfl, hS, hl⟩
  · simp at hi
  · obtain ⟨h1, h2, h3, h4, a', c', h5, h6⟩ := (hl.get i hi).cells
    have hlt := cell_lt h3
    have e : ∀ j, w'.cell? ⟨b, j, none⟩ = w.cell? ⟨b, j, none⟩ := fun j => hb.cell (p := ⟨b, j, none⟩) hlt
    exact ⟨b, o, a', c', rfl, hlt, hS, (e _).trans h3, (e _).trans h4, (e _).trans h5, h6.below hb, h1, h2⟩

/-- A struct of three cells, boxed: it reads the same behind whatever makes new memory alone. -/
theorem box3 {w wr : World} {v0 v1 v2 : Value} {t : TypeId} (hb : Below (w.heap.size + 1) (w.alloc (.cells #[v0, v1, v2] t)) wr) :
    wr.cell? ⟨w.heap.size, 0, none⟩ = some v0 ∧ wr.cell? ⟨w.heap.size, 1, none⟩ = some v1 ∧ wr.cell? ⟨w.heap.size, 2, none⟩ = some v2 := by
  refine ⟨?_, ?_, ?_⟩ <;> (rw [hb.cell (by simp)]; rw [World.cell?_alloc_new]; rfl)
theorem below_of_box {w wr : World} {o : Obj} (hb : Below (w.heap.size + 1) (w.alloc o) wr) : Below w.heap.size w wr :=
  ((Below.refl _ _).alloc (Nat.le_refl _) _).trans (hb.mono (by simp))

/-- An argument task of a law: boxed by its head, its parts in old memory; all that was made since is new. -/
def Kp (S : Nat → Prop) (t : T) (a : Option Addr) (c : Nat) (ty : TypeId) (w wi : World) : Prop :=
  Below (w.heap.size + 1) (w.alloc (.cells #[.int .i64 t.k, .int .i64 t.n, .slice a t.ps.length c] ty)) wi ∧ AtS wi S t.ps a c
theorem Kp.start {S : Nat → Prop} {t : T} {a : Option Addr} {c : Nat} {ty : TypeId} {w : World} (h : AtS w S t.ps a c) :
    Kp S t a c ty w (w.alloc (.cells #[.int .i64 t.k, .int .i64 t.n, .slice a t.ps.length c] ty)) := ⟨Below.refl _ _, h.alloc _⟩
theorem Kp.step {S : Nat → Prop} {t : T} {a : Option Addr} {c : Nat} {ty : TypeId} {w wi wj : World} (h : Kp S t a c ty w wi) (hb : Below wi.heap.size wi wj) : Kp S t a c ty w wj :=
  ⟨h.1.trans (hb.mono (by have := h.1.size; simpa using this)), h.2.below hb⟩
theorem Kp.alloc {S : Nat → Prop} {t : T} {a : Option Addr} {c : Nat} {ty : TypeId} {w wi : World} (h : Kp S t a c ty w wi) (o : Obj) : Kp S t a c ty w (wi.alloc o) :=
  h.step ((Below.refl _ _).alloc (Nat.le_refl _) o)
theorem Kp.drew {S : Nat → Prop} {t : T} {a : Option Addr} {c : Nat} {ty : TypeId} {w wi : World} (h : Kp S t a c ty w wi) : Kp S t a c ty w wi.drew :=
  h.step (Below.refl _ _).drew
theorem Kp.box {S : Nat → Prop} {t : T} {a : Option Addr} {c : Nat} {ty : TypeId} {w wi : World} (h : Kp S t a c ty w wi) :
    wi.cell? ⟨w.heap.size, 0, none⟩ = some (.int .i64 t.k) ∧ wi.cell? ⟨w.heap.size, 1, none⟩ = some (.int .i64 t.n) ∧ wi.cell? ⟨w.heap.size, 2, none⟩ = some (.slice a t.ps.length c) := box3 h.1
theorem Kp.done {S : Nat → Prop} {t : T} {a : Option Addr} {c : Nat} {ty : TypeId} {w wi : World} (h : Kp S t a c ty w wi) : Below w.heap.size w wi := below_of_box h.1

/-- How many parts a kind has, its greatest number, whether there is such a kind. -/
def shp (k : Int) : Int × Int × Bool :=
  if k = 0 then (0, 96, true) else if k = 1 then (0, 9, true) else if k = 2 then (2, 0, true) else if k = 3 then (2, 0, true) else if k = 4 then (3, 0, true) else if k = 5 then (1, 9, true) else (0, 0, false)

theorem shp_bd (k : Int) : 0 ≤ (shp k).1 ∧ (shp k).1 ≤ 3 ∧ 0 ≤ (shp k).2.1 ∧ (shp k).2.1 ≤ 96 := by
  unfold shp; repeat' split
  all_goals simp

/-- A node has the shape of its kind. -/
def fit1 (k n : Int) (len : Nat) : Bool := (shp k).2.2 && decide ((len : Int) = (shp k).1) && decide (0 ≤ n ∧ n ≤ (shp k).2.1)

mutual
def T.fit : T → Bool | .mk k n ps => fit1 k n ps.length && fitL ps
def fitL : List T → Bool | [] => true | t :: r => t.fit && fitL r
end
theorem fitL_append : ∀ ps qs : List T, fitL (ps ++ qs) = (fitL ps && fitL qs)
  | [], qs => by simp [fitL]
  | t :: r, qs => by simp only [fitL, List.cons_append, fitL_append r qs, Bool.and_assoc]
theorem fitL_snoc (ps : List T) (i : Nat) (h : i < ps.length) : fitL (ps.take (i + 1)) = (fitL (ps.take i) && ps[i].fit) := by
  rw [List.take_succ_eq_append_getElem h, fitL_append]; simp [fitL]
theorem fitL_false (ps : List T) (i : Nat) (h : i < ps.length) (hf : ps[i].fit = false) : fitL ps = false := by
  have h1 := fitL_snoc ps i h
  have h2 := fitL_append (ps.take (i + 1)) (ps.drop (i + 1))
  rw [List.take_append_drop] at h2
  rw [h2, h1, hf]; simp
theorem T.fit_eq (t : T) : t.fit = (fit1 t.k t.n t.ps.length && fitL t.ps) := by cases t; simp only [T.fit, T.k, T.n, T.ps]

/-- It is a task. -/
def T.ok (t : T) : Bool := t.fit && decide (t.nodes ≤ 15)

theorem AtL.snoc {w : World} {S : Nat → Prop} : ∀ {ps : List T} {b o : Nat} {t : T}, AtL w S ps b o → AtC w S t b (o + 3 * ps.length) → AtL w S (ps ++ [t]) b o
  | [], b, o, t, _, ht => by simpa [AtL] using ht
  | u :: r, b, o, t, h, ht => by
    simp only [List.cons_append, AtL] at h ⊢
    exact ⟨h.1, AtL.snoc h.2 (by rw [show o + 3 + 3 * r.length = o + 3 * (u :: r).length by simp; omega]; exact ht)⟩

theorem AtC.mk {w : World} {S : Nat → Prop} {t : T} {b o : Nat} {a : Option Addr} {c : Nat} (h1 : i64ok t.k) (h2 : i64ok t.n) (c0 : w.cell? ⟨b, o, none⟩ = some (.int .i64 t.k)) (c1 : w.cell? ⟨b, o + 1, none⟩ = some (.int .i64 t.n))
    (c2 : w.cell? ⟨b, o + 2, none⟩ = some (.slice a t.ps.length c)) (hs : AtS w S t.ps a c) : AtC w S t b o := by
  cases t
  simp only [AtC]
  exact ⟨h1, h2, c0, c1, a, c, c2, hs⟩

/-- What is old reads the same behind a 'Below'. -/
theorem bcell {W w1 : World} (hb : Below W.heap.size W w1) : (∀ b o, b < W.heap.size → w1.cell? ⟨b, o, none⟩ = W.cell? ⟨b, o, none⟩) ∧ (∀ b o, b < W.heap.size → w1.frozen? ⟨b, o, none⟩ = W.frozen? ⟨b, o, none⟩) :=
  ⟨fun b o h => hb.cell (p := ⟨b, o, none⟩) h, fun b o h => hb.frozen (p := ⟨b, o, none⟩) h⟩

theorem ret_i64 {a b : Int} (h : a = b) : Ending.returned (.int .i64 a) = .returned (.int .i64 b) := by rw [h]
theorem ret_bool {a b : Bool} (h : a = b) : Ending.returned (.bool a) = .returned (.bool b) := by rw [h]

end Go.Proofs.Ytklmpagpkeffjaa
