/- several texts in one: Tree, Run, Lim, Gr, Ok, OkI, Copy, Eq, Sz, Open, RowKit, Draw0, Blk, ShV -/
import Derived.WalkKit
import Derived.Lib.Hide
import Derived.Test.YtochgmbeomfkpaaProg
import Derived.Handy
import Derived.WalkSpells
import Derived.BigQuiet
import Derived.Laws.MakeOwn
import Derived.Deep.RegionWith
import Derived.Test.YtochgmbeomfkpaaRows
import Derived.ProofKit
import Derived.Lib.SmallJoins
import Derived.Deep.Slices
import Derived.Deep.QuietTactic
import Derived.Laws.BitsAllLaws
import Derived.Laws.BitsLemmas
/- A task as a tree, and what it is for a tree to lie in memory: plain words, no program. -/
namespace Go.Proofs.Ytochgmbeomfkpaa
open Go.RowKit

/-- A task: its kind, its number, its parts. -/
inductive T where
  | mk (k n : Int) (ps : List T)

def T.k : T → Int | .mk k _ _ => k
def T.n : T → Int | .mk _ n _ => n
def T.ps : T → List T | .mk _ _ ps => ps

theorem T.ind {P : T → Prop} (h : ∀ k n ps, (∀ t ∈ ps, P t) → P (.mk k n ps)) : ∀ t, P t
  | .mk k n ps => h k n ps (fun t _ => T.ind h t)
termination_by t => t
decreasing_by have := List.sizeOf_lt_of_mem ‹_ ∈ _›; simp; omega

mutual
def T.nodes : T → Nat | .mk _ _ ps => 1 + nodesL ps
def nodesL : List T → Nat | [] => 0 | t :: r => t.nodes + nodesL r
end

theorem T.nodes_pos (t : T) : 1 ≤ t.nodes := by cases t; simp only [T.nodes]; omega
theorem nodesL_ge : ∀ ps : List T, ps.length ≤ nodesL ps
  | [] => by simp [nodesL]
  | t :: r => by have := nodesL_ge r; have := t.nodes_pos; simp only [nodesL, List.length_cons]; omega

theorem nodesL_append : ∀ ps qs : List T, nodesL (ps ++ qs) = nodesL ps + nodesL qs
  | [], qs => by simp [nodesL]
  | t :: r, qs => by have := nodesL_append r qs; simp only [nodesL, List.cons_append]; omega
theorem nodesL_snoc (ps : List T) (i : Nat) (h : i < ps.length) : nodesL (ps.take (i + 1)) = nodesL (ps.take i) + ps[i].nodes := by
  rw [List.take_succ_eq_append_getElem h, nodesL_append]; simp [nodesL]
theorem nodesL_rest (ps : List T) (i : Nat) : nodesL (ps.take i) + (ps.length - i) ≤ nodesL ps := by
  have h := nodesL_append (ps.take i) (ps.drop i)
  rw [List.take_append_drop] at h
  have := nodesL_ge (ps.drop i)
  rw [List.length_drop] at this
  omega
theorem T.nodes_eq (t : T) : t.nodes = 1 + nodesL t.ps := by cases t; simp only [T.nodes, T.ps]
theorem T.nodes_le {ps : List T} {i : Nat} (h : i < ps.length) : ps[i].nodes ≤ nodesL ps := by
  have h1 := nodesL_snoc ps i h
  have h2 := nodesL_rest ps (i + 1)
  omega

def i64ok (n : Int) : Prop := -9223372036854775808 ≤ n ∧ n ≤ 9223372036854775807

mutual
/-- The three cells from (b, o) on hold the task t; the blocks of its parts meet S. -/
def AtC (w : World) (S : Nat → Prop) : T → Nat → Nat → Prop
  | .mk k n ps, b, o => i64ok k ∧ i64ok n ∧ w.cell? ⟨b, o, none⟩ = some (.int .i64 k) ∧ w.cell? ⟨b, o + 1, none⟩ = some (.int .i64 n) ∧
      ∃ a c, w.cell? ⟨b, o + 2, none⟩ = some (.slice a ps.length c) ∧ ps.length ≤ c ∧ c ≤ 9223372036854775807 ∧
        (ps = [] ∨ ∃ b' o', a = some ⟨b', o', none⟩ ∧ S b' ∧ AtL w S ps b' o')
def AtL (w : World) (S : Nat → Prop) : List T → Nat → Nat → Prop
  | [], _, _ => True
  | t :: r, b, o => AtC w S t b o ∧ AtL w S r b (o + 3)
end

/-- The slice value '.slice a ps.length c' has the elements ps. -/
def AtS (w : World) (S : Nat → Prop) (ps : List T) (a : Option Addr) (c : Nat) : Prop :=
  ps.length ≤ c ∧ c ≤ 9223372036854775807 ∧ (ps = [] ∨ ∃ b o, a = some ⟨b, o, none⟩ ∧ S b ∧ AtL w S ps b o)

theorem AtL.get {w : World} {S : Nat → Prop} : ∀ {ps : List T} {b o : Nat}, AtL w S ps b o → ∀ i (h : i < ps.length), AtC w S ps[i] b (o + i * 3)
  | [], _, _, _, _, h => by simp at h
  | t :: r, b, o, hl, 0, _ => by simpa using hl.1
  | t :: r, b, o, hl, i + 1, h => by
    have := AtL.get (ps := r) hl.2 i (by simpa using h)
    rw [show o + (i + 1) * 3 = o + 3 + i * 3 by omega]
    simpa using this

theorem below_block {B : Nat} {w w' : World} (h : Below B w w') (b : Nat) (hb : b < B) : w'.heap[b]? = w.heap[b]? := h.block b hb

theorem cell_lt {w : World} {b o : Nat} {v : Value} (h : w.cell? ⟨b, o, none⟩ = some v) : b < w.heap.size := by
  unfold World.cell? at h
  rcases Nat.lt_or_ge b w.heap.size with hlt | hge
  · exact hlt
  · simp [Array.getElem?_eq_none hge] at h

theorem AtC.cells0 {w : World} {S : Nat → Prop} {t : T} {b o : Nat} (h : AtC w S t b o) : w.cell? ⟨b, o, none⟩ = some (.int .i64 t.k) := by
  cases t
  simp only [AtC] at h
  exact h.2.2.1

mutual
theorem AtC.keepC {w w' : World} {S S' : Nat → Prop} (hS : ∀ b, S b → S' b) (hk : ∀ b, S b → b < w.heap.size → w'.heap[b]? = w.heap[b]?) :
    ∀ (t : T) (b o : Nat), (∀ j, o ≤ j → j < o + 3 → w'.cell? ⟨b, j, none⟩ = w.cell? ⟨b, j, none⟩) → AtC w S t b o → AtC w' S' t b o
  | .mk k n ps, b, o, e, h => by
    simp only [AtC] at h ⊢
    obtain ⟨hk1, hn1, c0, c1, a, c, c2, hc, hc', hp⟩ := h
    refine ⟨hk1, hn1, by rw [e _ (by omega) (by omega)]; exact c0, by rw [e _ (by omega) (by omega)]; exact c1, a, c, by rw [e _ (by omega) (by omega)]; exact c2, hc, hc', ?_⟩
    rcases hp with hp | ⟨b', o', ha, hSb, hl⟩
    · exact .inl hp
    · refine .inr ⟨b', o', ha, hS _ hSb, AtL.keepC hS hk ps b' o' (fun j _ _ => ?_) hl⟩
      rcases Nat.lt_or_ge b' w.heap.size with hlt | hge
      · exact World.cell?_of_block (w := w) (hk b' hSb hlt)
      · cases ps with
        | nil => simp at *; omega
        | cons t r => have := cell_lt (AtC.cells0 hl.1); omega
theorem AtL.keepC {w w' : World} {S S' : Nat → Prop} (hS : ∀ b, S b → S' b) (hk : ∀ b, S b → b < w.heap.size → w'.heap[b]? = w.heap[b]?) :
    ∀ (ps : List T) (b o : Nat), (∀ j, o ≤ j → j < o + 3 * ps.length → w'.cell? ⟨b, j, none⟩ = w.cell? ⟨b, j, none⟩) → AtL w S ps b o → AtL w' S' ps b o
  | [], _, _, _, _ => by simp [AtL]
  | t :: r, b, o, e, h => by
    simp only [AtL] at h ⊢
    exact ⟨AtC.keepC hS hk t b o (fun j h1 h2 => e j h1 (by simp; omega)) h.1, AtL.keepC hS hk r b (o + 3) (fun j h1 h2 => e j (by omega) (by simp; omega)) h.2⟩
end
theorem AtC.keep {w w' : World} {S S' : Nat → Prop} (hS : ∀ b, S b → S' b) (hk : ∀ b, S b → b < w.heap.size → w'.heap[b]? = w.heap[b]?)
    (t : T) (b o : Nat) (hb : b < w.heap.size → w'.heap[b]? = w.heap[b]?) (h : AtC w S t b o) : AtC w' S' t b o :=
  AtC.keepC hS hk t b o (fun _ _ _ => World.cell?_of_block (w := w) (hb (cell_lt (AtC.cells0 h)))) h
theorem AtL.keep {w w' : World} {S S' : Nat → Prop} (hS : ∀ b, S b → S' b) (hk : ∀ b, S b → b < w.heap.size → w'.heap[b]? = w.heap[b]?)
    (ps : List T) (b o : Nat) (hb : b < w.heap.size → w'.heap[b]? = w.heap[b]?) (h : AtL w S ps b o) : AtL w' S' ps b o := by
  cases ps with
  | nil => simp [AtL]
  | cons t r => exact AtL.keepC hS hk _ b o (fun _ _ _ => World.cell?_of_block (w := w) (hb (cell_lt (AtC.cells0 h.1)))) h

theorem AtS.keep {w w' : World} {S S' : Nat → Prop} (hS : ∀ b, S b → S' b) (hk : ∀ b, S b → b < w.heap.size → w'.heap[b]? = w.heap[b]?) {ps : List T} {a : Option Addr} {c : Nat} (h : AtS w S ps a c) : AtS w' S' ps a c := by
  obtain ⟨h1, h2, h3⟩ := h
  refine ⟨h1, h2, ?_⟩
  rcases h3 with h3 | ⟨b, o, ha, hSb, hl⟩
  · exact .inl h3
  · exact .inr ⟨b, o, ha, hS _ hSb, AtL.keep hS hk ps b o (hk b hSb) hl⟩

theorem AtS.below {w w' : World} {S : Nat → Prop} {ps : List T} {a : Option Addr} {c : Nat} (h : AtS w S ps a c) (hb : Below w.heap.size w w') : AtS w' S ps a c :=
  h.keep (fun _ h => h) (fun b _ hl => hb.block b hl)
theorem AtS.alloc {w : World} {S : Nat → Prop} {ps : List T} {a : Option Addr} {c : Nat} (h : AtS w S ps a c) (o : Obj) : AtS (w.alloc o) S ps a c :=
  h.keep (fun _ h => h) (fun b _ hl => Below.heap_alloc w o b hl)

theorem AtS.setCell {w : World} {S : Nat → Prop} {ps : List T} {a : Option Addr} {c : Nat} (h : AtS w S ps a c) {p : Addr} (hp : ∀ b, S b → b ≠ p.block) (v : Value) : AtS (w.setCell p v) S ps a c :=
  h.keep (fun _ h => h) (fun b hb _ => Below.heap_setCell _ _ _ _ (hp b hb))
theorem AtS.weaken {w : World} {S S' : Nat → Prop} {ps : List T} {a : Option Addr} {c : Nat} (h : AtS w S ps a c) (hS : ∀ b, S b → S' b) : AtS w S' ps a c :=
  h.keep hS (fun _ _ _ => rfl)

theorem AtS.nil {w : World} {S : Nat → Prop} {a : Option Addr} {c : Nat} (hc : c ≤ 9223372036854775807) : AtS w S [] a c := ⟨by simp, hc, .inl rfl⟩
theorem AtS.drew {w : World} {S : Nat → Prop} {ps : List T} {a : Option Addr} {c : Nat} (h : AtS w S ps a c) : AtS w.drew S ps a c :=
  AtS.keep (w := w) (w' := w.drew) (fun _ h => h) (fun _ _ _ => rfl) h

theorem AtC.cells {w : World} {S : Nat → Prop} {t : T} {b o : Nat} (h : AtC w S t b o) : i64ok t.k ∧ i64ok t.n ∧ w.cell? ⟨b, o, none⟩ = some (.int .i64 t.k) ∧ w.cell? ⟨b, o + 1, none⟩ = some (.int .i64 t.n) ∧
      ∃ a c, w.cell? ⟨b, o + 2, none⟩ = some (.slice a t.ps.length c) ∧ AtS w S t.ps a c := by
  cases t
  simp only [AtC] at h
  obtain ⟨h1, h2, h3, h4, a, c, h5, h6, h7, h8⟩ := h
  exact ⟨h1, h2, h3, h4, a, c, h5, h6, h7, h8⟩

/-- The element i of a slice of tasks, in a later world. -/
theorem AtS.elem {w w' : World} {S : Nat → Prop} {ps : List T} {a : Option Addr} {c : Nat} (h : AtS w S ps a c) (hb : Below w.heap.size w w') {i : Nat} (hi : i < ps.length) :
    ∃ b o a' c', a = some ⟨b, o, none⟩ ∧ b < w.heap.size ∧ S b ∧ w'.cell? ⟨b, o + i * 3, none⟩ = some (.int .i64 ps[i].k) ∧ w'.cell? ⟨b, o + i * 3 + 1, none⟩ = some (.int .i64 ps[i].n) ∧
      w'.cell? ⟨b, o + i * 3 + 2, none⟩ = some (.slice a' ps[i].ps.length c') ∧ AtS w' S ps[i].ps a' c' ∧ i64ok ps[i].k ∧ i64ok ps[i].n := by
  rcases h.2.2 with rfl | ⟨b, o, rfl, hS, hl⟩
  · simp at hi
  · obtain ⟨h1, h2, h3, h4, a', c', h5, h6⟩ := (hl.get i hi).cells
    have hlt := cell_lt h3
    have e : ∀ j, w'.cell? ⟨b, j, none⟩ = w.cell? ⟨b, j, none⟩ := fun j => hb.cell (p := ⟨b, j, none⟩) hlt
    exact ⟨b, o, a', c', rfl, hlt, hS, (e _).trans h3, (e _).trans h4, (e _).trans h5, h6.below hb, h1, h2⟩

/-- A struct of three cells, boxed: it reads the same behind whatever makes new memory alone. -/
theorem box3 {w wr : World} {v0 v1 v2 : Value} {t : TypeId} (hb : Below (w.heap.size + 1) (w.alloc (.cells #[v0, v1, v2] t)) wr) :
    wr.cell? ⟨w.heap.size, 0, none⟩ = some v0 ∧ wr.cell? ⟨w.heap.size, 1, none⟩ = some v1 ∧ wr.cell? ⟨w.heap.size, 2, none⟩ = some v2 := by
  refine ⟨?_, ?_, ?_⟩ <;> (rw [hb.cell (by simp)]; rw [World.cell?_alloc_new]; rfl)
theorem below_of_box {w wr : World} {o : Obj} (hb : Below (w.heap.size + 1) (w.alloc o) wr) : Below w.heap.size w wr :=
  ((Below.refl _ _).alloc (Nat.le_refl _) _).trans (hb.mono (by simp))

/-- An argument task of a law: boxed by its head, its parts in old memory; all that was made since is new. -/
def Kp (S : Nat → Prop) (t : T) (a : Option Addr) (c : Nat) (ty : TypeId) (w wi : World) : Prop :=
  Below (w.heap.size + 1) (w.alloc (.cells #[.int .i64 t.k, .int .i64 t.n, .slice a t.ps.length c] ty)) wi ∧ AtS wi S t.ps a c
theorem Kp.start {S : Nat → Prop} {t : T} {a : Option Addr} {c : Nat} {ty : TypeId} {w : World} (h : AtS w S t.ps a c) :
    Kp S t a c ty w (w.alloc (.cells #[.int .i64 t.k, .int .i64 t.n, .slice a t.ps.length c] ty)) := ⟨Below.refl _ _, h.alloc _⟩
theorem Kp.step {S : Nat → Prop} {t : T} {a : Option Addr} {c : Nat} {ty : TypeId} {w wi wj : World} (h : Kp S t a c ty w wi) (hb : Below wi.heap.size wi wj) : Kp S t a c ty w wj :=
  ⟨h.1.trans (hb.mono (by have := h.1.size; simpa using this)), h.2.below hb⟩
theorem Kp.alloc {S : Nat → Prop} {t : T} {a : Option Addr} {c : Nat} {ty : TypeId} {w wi : World} (h : Kp S t a c ty w wi) (o : Obj) : Kp S t a c ty w (wi.alloc o) :=
  h.step ((Below.refl _ _).alloc (Nat.le_refl _) o)
theorem Kp.drew {S : Nat → Prop} {t : T} {a : Option Addr} {c : Nat} {ty : TypeId} {w wi : World} (h : Kp S t a c ty w wi) : Kp S t a c ty w wi.drew :=
  h.step (Below.refl _ _).drew
theorem Kp.box {S : Nat → Prop} {t : T} {a : Option Addr} {c : Nat} {ty : TypeId} {w wi : World} (h : Kp S t a c ty w wi) :
    wi.cell? ⟨w.heap.size, 0, none⟩ = some (.int .i64 t.k) ∧ wi.cell? ⟨w.heap.size, 1, none⟩ = some (.int .i64 t.n) ∧ wi.cell? ⟨w.heap.size, 2, none⟩ = some (.slice a t.ps.length c) := box3 h.1
theorem Kp.done {S : Nat → Prop} {t : T} {a : Option Addr} {c : Nat} {ty : TypeId} {w wi : World} (h : Kp S t a c ty w wi) : Below w.heap.size w wi := below_of_box h.1

/-- How many parts a kind has, its greatest number, whether there is such a kind. -/
def shp (k : Int) : Int × Int × Bool :=
  if k = 0 then (0, 96, true) else if k = 1 then (0, 9, true) else if k = 2 then (2, 0, true) else if k = 3 then (2, 0, true) else if k = 4 then (3, 0, true) else if k = 5 then (1, 9, true) else (0, 0, false)

theorem shp_bd (k : Int) : 0 ≤ (shp k).1 ∧ (shp k).1 ≤ 3 ∧ 0 ≤ (shp k).2.1 ∧ (shp k).2.1 ≤ 96 := by
  unfold shp; repeat' split
  all_goals simp

/-- A node has the shape of its kind. -/
def fit1 (k n : Int) (len : Nat) : Bool := (shp k).2.2 && decide ((len : Int) = (shp k).1) && decide (0 ≤ n ∧ n ≤ (shp k).2.1)

mutual
def T.fit : T → Bool | .mk k n ps => fit1 k n ps.length && fitL ps
def fitL : List T → Bool | [] => true | t :: r => t.fit && fitL r
end
theorem fitL_append : ∀ ps qs : List T, fitL (ps ++ qs) = (fitL ps && fitL qs)
  | [], qs => by simp [fitL]
  | t :: r, qs => by simp only [fitL, List.cons_append, fitL_append r qs, Bool.and_assoc]
theorem fitL_snoc (ps : List T) (i : Nat) (h : i < ps.length) : fitL (ps.take (i + 1)) = (fitL (ps.take i) && ps[i].fit) := by
  rw [List.take_succ_eq_append_getElem h, fitL_append]; simp [fitL]
theorem fitL_false (ps : List T) (i : Nat) (h : i < ps.length) (hf : ps[i].fit = false) : fitL ps = false := by
  have h1 := fitL_snoc ps i h
  have h2 := fitL_append (ps.take (i + 1)) (ps.drop (i + 1))
  rw [List.take_append_drop] at h2
  rw [h2, h1, hf]; simp
theorem T.fit_eq (t : T) : t.fit = (fit1 t.k t.n t.ps.length && fitL t.ps) := by cases t; simp only [T.fit, T.k, T.n, T.ps]

/-- It is a task. -/
def T.ok (t : T) : Bool := t.fit && decide (t.nodes ≤ 15)

theorem AtL.snoc {w : World} {S : Nat → Prop} : ∀ {ps : List T} {b o : Nat} {t : T}, AtL w S ps b o → AtC w S t b (o + 3 * ps.length) → AtL w S (ps ++ [t]) b o
  | [], b, o, t, _, ht => by simpa [AtL] using ht
  | u :: r, b, o, t, h, ht => by
    simp only [List.cons_append, AtL] at h ⊢
    exact ⟨h.1, AtL.snoc h.2 (by rw [show o + 3 + 3 * r.length = o + 3 * (u :: r).length by simp; omega]; exact ht)⟩

theorem AtC.mk {w : World} {S : Nat → Prop} {t : T} {b o : Nat} {a : Option Addr} {c : Nat} (h1 : i64ok t.k) (h2 : i64ok t.n) (c0 : w.cell? ⟨b, o, none⟩ = some (.int .i64 t.k)) (c1 : w.cell? ⟨b, o + 1, none⟩ = some (.int .i64 t.n))
    (c2 : w.cell? ⟨b, o + 2, none⟩ = some (.slice a t.ps.length c)) (hs : AtS w S t.ps a c) : AtC w S t b o := by
  cases t
  simp only [AtC]
  exact ⟨h1, h2, c0, c1, a, c, c2, hs⟩

/-- What is old reads the same behind a 'Below'. -/
theorem bcell {W w1 : World} (hb : Below W.heap.size W w1) : (∀ b o, b < W.heap.size → w1.cell? ⟨b, o, none⟩ = W.cell? ⟨b, o, none⟩) ∧ (∀ b o, b < W.heap.size → w1.frozen? ⟨b, o, none⟩ = W.frozen? ⟨b, o, none⟩) :=
  ⟨fun b o h => hb.cell (p := ⟨b, o, none⟩) h, fun b o h => hb.frozen (p := ⟨b, o, none⟩) h⟩

theorem ret_i64 {a b : Int} (h : a = b) : Ending.returned (.int .i64 a) = .returned (.int .i64 b) := by rw [h]
theorem ret_bool {a b : Bool} (h : a = b) : Ending.returned (.bool a) = .returned (.bool b) := by rw [h]

end Go.Proofs.Ytochgmbeomfkpaa
/- what a task is worth with values of keys, and the keys that it fetches, in order: plain words, no program -/
namespace Go.Proofs.Ytochgmbeomfkpaa

mutual
def T.val (vs : Int → Int) : T → Int
  | .mk k n ps => if k = 1 then vs n else if k = 2 then ((valL vs ps).getD 0 0 + (valL vs ps).getD 1 0) % 97 else if k = 3 then ((valL vs ps).getD 0 0 * (valL vs ps).getD 1 0) % 97
    else if k = 4 then (if (valL vs ps).getD 0 0 = 0 then (valL vs ps).getD 2 0 else (valL vs ps).getD 1 0) else if k = 5 then vs ((n + (valL vs ps).getD 0 0) % 10) else n
def valL (vs : Int → Int) : List T → List Int
  | [] => []
  | t :: r => t.val vs :: valL vs r
end
mutual
def T.kys (vs : Int → Int) : T → List Int
  | .mk k n ps => if k = 1 then [n] else if k = 2 then (kysL vs ps).getD 0 [] ++ (kysL vs ps).getD 1 [] else if k = 3 then (kysL vs ps).getD 0 [] ++ (kysL vs ps).getD 1 []
    else if k = 4 then (kysL vs ps).getD 0 [] ++ (if (valL vs ps).getD 0 0 = 0 then (kysL vs ps).getD 2 [] else (kysL vs ps).getD 1 []) else if k = 5 then (kysL vs ps).getD 0 [] ++ [(n + (valL vs ps).getD 0 0) % 10] else []
def kysL (vs : Int → Int) : List T → List (List Int)
  | [] => []
  | t :: r => t.kys vs :: kysL vs r
end

section
variable (vs : Int → Int) (n : Int) (a b c : T) (r : List T)
theorem val_0 : (T.mk 0 n r).val vs = n := by simp [T.val]
theorem val_1 : (T.mk 1 n r).val vs = vs n := by simp [T.val]
theorem val_2 : (T.mk 2 n [a, b]).val vs = (a.val vs + b.val vs) % 97 := by simp [T.val, valL]
theorem val_3 : (T.mk 3 n [a, b]).val vs = (a.val vs * b.val vs) % 97 := by simp [T.val, valL]
theorem val_4 : (T.mk 4 n [a, b, c]).val vs = if a.val vs = 0 then c.val vs else b.val vs := by simp [T.val, valL]
theorem val_5 : (T.mk 5 n [a]).val vs = vs ((n + a.val vs) % 10) := by simp [T.val, valL]
theorem kys_0 : (T.mk 0 n r).kys vs = [] := by simp [T.kys]
theorem kys_1 : (T.mk 1 n r).kys vs = [n] := by simp [T.kys]
theorem kys_2 : (T.mk 2 n [a, b]).kys vs = a.kys vs ++ b.kys vs := by simp [T.kys, kysL]
theorem kys_3 : (T.mk 3 n [a, b]).kys vs = a.kys vs ++ b.kys vs := by simp [T.kys, kysL]
theorem kys_4 : (T.mk 4 n [a, b, c]).kys vs = a.kys vs ++ (if a.val vs = 0 then c.kys vs else b.kys vs) := by simp [T.kys, kysL, valL]
theorem kys_5 : (T.mk 5 n [a]).kys vs = a.kys vs ++ [(n + a.val vs) % 10] := by simp [T.kys, kysL, valL]
end

theorem kinds {k n : Int} {m : Nat} (h : fit1 k n m = true) : (k = 0 ∧ m = 0 ∧ 0 ≤ n ∧ n ≤ 96) ∨ (k = 1 ∧ m = 0 ∧ 0 ≤ n ∧ n ≤ 9) ∨ (k = 2 ∧ m = 2 ∧ n = 0) ∨ (k = 3 ∧ m = 2 ∧ n = 0) ∨ (k = 4 ∧ m = 3 ∧ n = 0) ∨ (k = 5 ∧ m = 1 ∧ 0 ≤ n ∧ n ≤ 9) := by
  unfold fit1 shp at h
  simp only [Bool.and_eq_true, decide_eq_true_eq] at h
  obtain ⟨⟨h1, h2⟩, h3⟩ := h
  repeat' split at h1
  all_goals first | (simp at h1; done) | (simp_all <;> omega)

/-- A fit task, kind by kind, its parts named. -/
theorem T.cases_fit {P : T → Prop} (t : T) (hf : t.fit = true)
    (h0 : ∀ n, 0 ≤ n → n ≤ 96 → t = .mk 0 n [] → P t) (h1 : ∀ n, 0 ≤ n → n ≤ 9 → t = .mk 1 n [] → P t)
    (h2 : ∀ a b, a.fit = true → b.fit = true → t = .mk 2 0 [a, b] → P t) (h3 : ∀ a b, a.fit = true → b.fit = true → t = .mk 3 0 [a, b] → P t)
    (h4 : ∀ a b c, a.fit = true → b.fit = true → c.fit = true → t = .mk 4 0 [a, b, c] → P t) (h5 : ∀ n a, 0 ≤ n → n ≤ 9 → a.fit = true → t = .mk 5 n [a] → P t) : P t := by
  obtain ⟨k, n, ps⟩ := t
  have h := hf
  rw [T.fit_eq] at h
  simp only [T.k, T.n, T.ps, Bool.and_eq_true] at h
  obtain ⟨hf1, hf2⟩ := h
  rcases kinds hf1 with ⟨rfl, hm, a0, a1⟩ | ⟨rfl, hm, a0, a1⟩ | ⟨rfl, hm, rfl⟩ | ⟨rfl, hm, rfl⟩ | ⟨rfl, hm, rfl⟩ | ⟨rfl, hm, a0, a1⟩
  · obtain rfl : ps = [] := List.length_eq_zero_iff.1 hm
    exact h0 n a0 a1 rfl
  · obtain rfl : ps = [] := List.length_eq_zero_iff.1 hm
    exact h1 n a0 a1 rfl
  · match ps, hm, hf2 with
    | [a, b], _, hf2 => simp [fitL] at hf2; exact h2 a b hf2.1 hf2.2 rfl
  · match ps, hm, hf2 with
    | [a, b], _, hf2 => simp [fitL] at hf2; exact h3 a b hf2.1 hf2.2 rfl
  · match ps, hm, hf2 with
    | [a, b, c], _, hf2 => simp [fitL] at hf2; exact h4 a b c hf2.1 hf2.2.1 hf2.2.2 rfl
  · match ps, hm, hf2 with
    | [a], _, hf2 => simp [fitL] at hf2; exact h5 n a a0 a1 hf2 rfl

theorem T.val_bd (vs : Int → Int) (hv : ∀ k, 0 ≤ vs k ∧ vs k ≤ 96) : ∀ t : T, t.fit = true → 0 ≤ t.val vs ∧ t.val vs ≤ 96 := T.ind fun k n ps ih hf => by
  generalize ht : T.mk k n ps = t at hf ⊢
  refine T.cases_fit (P := fun t => 0 ≤ t.val vs ∧ t.val vs ≤ 96) t hf ?_ ?_ ?_ ?_ ?_ ?_
  · rintro n a0 a1 rfl; rw [val_0]; omega
  · rintro n a0 a1 rfl; rw [val_1]; exact hv n
  · rintro a b ha hb rfl; rw [val_2]; omega
  · rintro a b ha hb rfl; rw [val_3]; omega
  · rintro a b c ha hb hc rfl; injection ht with _ _ hps; subst hps; rw [val_4]; split
    · exact ih c (by simp) hc
    · exact ih b (by simp) hb
  · rintro n a a0 a1 ha rfl; rw [val_5]; exact hv _

theorem T.kys_bd (vs : Int → Int) : ∀ t : T, t.fit = true → (∀ k ∈ t.kys vs, 0 ≤ k ∧ k ≤ 9) ∧ (t.kys vs).length ≤ t.nodes := T.ind fun k n ps ih hf => by
  generalize ht : T.mk k n ps = t at hf ⊢
  refine T.cases_fit (P := fun t => (∀ k ∈ t.kys vs, 0 ≤ k ∧ k ≤ 9) ∧ (t.kys vs).length ≤ t.nodes) t hf ?_ ?_ ?_ ?_ ?_ ?_
  · rintro n a0 a1 rfl; rw [kys_0]; simp
  · rintro n a0 a1 rfl; rw [kys_1]; simp [T.nodes]; omega
  · rintro a b ha hb rfl; injection ht with _ _ hps; subst hps; rw [kys_2]
    have h1 := ih a (by simp) ha
    have h2 := ih b (by simp) hb
    refine ⟨fun k hk => ?_, by simp [T.nodes, nodesL]; omega⟩
    rcases List.mem_append.1 hk with hk | hk
    · exact h1.1 k hk
    · exact h2.1 k hk
  · rintro a b ha hb rfl; injection ht with _ _ hps; subst hps; rw [kys_3]
    have h1 := ih a (by simp) ha
    have h2 := ih b (by simp) hb
    refine ⟨fun k hk => ?_, by simp [T.nodes, nodesL]; omega⟩
    rcases List.mem_append.1 hk with hk | hk
    · exact h1.1 k hk
    · exact h2.1 k hk
  · rintro a b c ha hb hc rfl; injection ht with _ _ hps; subst hps; rw [kys_4]
    have h1 := ih a (by simp) ha
    have h2 := ih b (by simp) hb
    have h3 := ih c (by simp) hc
    split
    · refine ⟨fun k hk => ?_, by simp [T.nodes, nodesL]; omega⟩
      rcases List.mem_append.1 hk with hk | hk
      · exact h1.1 k hk
      · exact h3.1 k hk
    · refine ⟨fun k hk => ?_, by simp [T.nodes, nodesL]; omega⟩
      rcases List.mem_append.1 hk with hk | hk
      · exact h1.1 k hk
      · exact h2.1 k hk
  · rintro n a a0 a1 ha rfl; injection ht with _ _ hps; subst hps; rw [kys_5]
    have h1 := ih a (by simp) ha
    refine ⟨fun k hk => ?_, by simp [T.nodes, nodesL]; omega⟩
    rcases List.mem_append.1 hk with hk | hk
    · exact h1.1 k hk
    · simp at hk; omega

/-- The value of a key, of a list of values. -/
def vf (l : List Int) (k : Int) : Int := if k < l.length then l.getD k.toNat 0 else 0
theorem vf_bd {l : List Int} (h : ∀ v ∈ l, 0 ≤ v ∧ v ≤ 96) (k : Int) : 0 ≤ vf l k ∧ vf l k ≤ 96 := by
  unfold vf
  split
  · rw [List.getD_eq_getElem?_getD]
    cases hx : l[k.toNat]? with
    | none => simp
    | some v => exact h v (List.mem_of_getElem? hx)
  · omega
/-- They are values of keys. -/
def vin (v : Int) : Bool := decide (0 ≤ v ∧ v ≤ 96)
def vok (l : List Int) : Bool := decide (l.length ≤ 10) && l.all vin
theorem vok_mem {l : List Int} (h : vok l = true) : l.length ≤ 10 ∧ ∀ v ∈ l, 0 ≤ v ∧ v ≤ 96 := by
  unfold vok at h
  simp only [vin, Bool.and_eq_true, decide_eq_true_eq, List.all_eq_true] at h
  exact h
end Go.Proofs.Ytochgmbeomfkpaa
/- a task in memory, its blocks being old -/
namespace Go.Proofs.Ytochgmbeomfkpaa
open Go.RowKit

mutual
theorem AtC.lim {w : World} {S : Nat → Prop} : ∀ (t : T) (b o : Nat), AtC w S t b o → AtC w (fun b => S b ∧ b < w.heap.size) t b o
  | .mk k n ps, b, o, h => by
    simp only [AtC] at h ⊢
    obtain ⟨hk1, hn1, c0, c1, a, c, c2, hc, hc', hp⟩ := h
    refine ⟨hk1, hn1, c0, c1, a, c, c2, hc, hc', ?_⟩
    rcases hp with hp | ⟨b', o', ha, hSb, hl⟩
    · exact .inl hp
    · cases ps with
      | nil => exact .inl rfl
      | cons t r => exact .inr ⟨b', o', ha, ⟨hSb, cell_lt (AtC.cells0 hl.1)⟩, AtL.lim (t :: r) b' o' hl⟩
theorem AtL.lim {w : World} {S : Nat → Prop} : ∀ (ps : List T) (b o : Nat), AtL w S ps b o → AtL w (fun b => S b ∧ b < w.heap.size) ps b o
  | [], _, _, _ => by simp [AtL]
  | t :: r, b, o, h => by
    simp only [AtL] at h ⊢
    exact ⟨AtC.lim t b o h.1, AtL.lim r b (o + 3) h.2⟩
end
theorem AtS.lim {w : World} {S : Nat → Prop} {ps : List T} {a : Option Addr} {c : Nat} (h : AtS w S ps a c) : AtS w (fun b => S b ∧ b < w.heap.size) ps a c := by
  obtain ⟨h1, h2, h3⟩ := h
  refine ⟨h1, h2, ?_⟩
  rcases h3 with h3 | ⟨b, o, ha, hSb, hl⟩
  · exact .inl h3
  · cases ps with
    | nil => exact .inl rfl
    | cons t r => exact .inr ⟨b, o, ha, ⟨hSb, cell_lt (AtC.cells0 hl.1)⟩, AtL.lim _ b o hl⟩

end Go.Proofs.Ytochgmbeomfkpaa
/- keys that hang on keys: what is done by and by, and circles: plain words, no program -/
namespace Go.Proofs.Ytochgmbeomfkpaa

/-- The first key that k hangs on and that is not in d. -/
def nxt (ch : Int → List Int) (d : Int → Bool) (k : Int) : Option Int := (ch k).find? (fun j => !d j)

theorem nxt_some {ch : Int → List Int} {d : Int → Bool} {k j : Int} (h : nxt ch d k = some j) : j ∈ ch k ∧ d j = false :=
  ⟨List.mem_of_find?_eq_some h, by have := List.find?_some h; simpa using this⟩
theorem nxt_none {ch : Int → List Int} {d : Int → Bool} {k : Int} (h : nxt ch d k = none) : ∀ j ∈ ch k, d j = true := fun j hj => by
  have := List.find?_eq_none.1 h j hj
  simpa using this
theorem find_mono {d d' : Int → Bool} {j : Int} : ∀ {l : List Int}, l.find? (fun x => !d x) = some j → (∀ x, d x = true → d' x = true) → d' j = false → l.find? (fun x => !d' x) = some j
  | [], h, _, _ => by cases h
  | x :: r, h, hd, hj => by
    rw [List.find?_cons] at h ⊢
    cases hx : d x
    · rw [hx] at h
      simp only [Bool.not_false] at h
      injection h with h
      subst h
      rw [hj]; rfl
    · rw [hx] at h
      simp only [Bool.not_true] at h
      rw [hd x hx]
      exact find_mono h hd hj
theorem nxt_mono {ch : Int → List Int} {d d' : Int → Bool} {k j : Int} (h : nxt ch d k = some j) (hd : ∀ x, d x = true → d' x = true) (hj : d' j = false) : nxt ch d' k = some j := find_mono h hd hj

theorem nodup_inj {l : List Int} (h : l.Nodup) {i j : Nat} {hi : i < l.length} {hj : j < l.length} (e : l[i] = l[j]) : i = j := by
  have hp := List.pairwise_iff_getElem.1 h
  rcases Nat.lt_trichotomy i j with hl | hl | hl
  · exact absurd e (hp i j hi hj hl)
  · exact hl
  · exact absurd e.symm (hp j i hj hi hl)

theorem nodup_bound : ∀ (n : Nat) (L : List Int), L.Nodup → (∀ x ∈ L, 0 ≤ x ∧ x < n) → L.length ≤ n
  | 0, L, _, h => by
    cases L with
    | nil => simp
    | cons x r => have := h x (by simp); omega
  | n + 1, L, hn, h => by
    by_cases hm : (n : Int) ∈ L
    · have h1 := nodup_bound n (L.erase n) (hn.erase _) (fun x hx => by
        have h2 := h x (List.mem_of_mem_erase hx)
        have h3 : x ≠ n := by rintro rfl; exact hn.not_mem_erase hx
        omega)
      rw [List.length_erase_of_mem hm] at h1
      have := List.length_pos_of_mem hm
      omega
    · have h1 := nodup_bound n L hn (fun x hx => by
        have h2 := h x hx
        have h3 : x ≠ n := by rintro rfl; exact hm hx
        omega)
      omega

/-- Keys below n of which d0 are done from the start on; ok are those that can be done, each behind what it hangs on. -/
structure Gr (n : Nat) (ch : Int → List Int) (d0 ok : Int → Bool) (rk : Int → Nat) : Prop where
  d0ok : ∀ k, d0 k = true → ok k = true
  inn : ∀ k, d0 k = false → 0 ≤ k ∧ k < n
  down : ∀ k, ok k = true → d0 k = false → ∀ j ∈ ch k, ok j = true ∧ rk j < rk k
  up : ∀ k, (∀ j ∈ ch k, ok j = true) → ok k = true

/-- Where finish stands: d is done, W waits. -/
structure Wt (ch : Int → List Int) (d0 ok d : Int → Bool) (first : Int) (W : List Int) : Prop where
  lo : ∀ k, d0 k = true → d k = true
  hi : ∀ k, d k = true → ok k = true
  out : ∀ k ∈ W, d k = false
  nod : W.Nodup
  chain : ∀ i (h : i + 1 < W.length), nxt ch d W[i] = some W[i + 1]
  nil : W = [] → d first = true
  hd : ∀ h : 0 < W.length, W[0] = first

section
variable {n : Nat} {ch : Int → List Int} {d0 ok d : Int → Bool} {rk : Int → Nat} {first : Int} {W : List Int}

theorem Wt.start (lo : ∀ k, d0 k = true → d k = true) (hi : ∀ k, d k = true → ok k = true) (hf : d first = false) : Wt ch d0 ok d first [first] :=
  ⟨lo, hi, by simpa using hf, by simp, fun i h => by simp at h, fun h => by simp at h, fun _ => rfl⟩

theorem Wt.len (hg : Gr n ch d0 ok rk) (h : Wt ch d0 ok d first W) : W.length ≤ n :=
  nodup_bound n W h.nod fun x hx => hg.inn x (by
    cases hx0 : d0 x
    · rfl
    · have := h.lo x hx0; rw [h.out x hx] at this; cases this)

def upd (d : Int → Bool) (k : Int) : Int → Bool := fun j => d j || decide (j = k)

theorem snoc_last {W : List Int} {m : Nat} (hm : W.length = m + 1) : W = W.take m ++ [W[m]] := by
  have := List.take_succ_eq_append_getElem (l := W) (i := m) (by omega)
  rwa [List.take_of_length_le (by omega)] at this

theorem Wt.pop (hg : Gr n ch d0 ok rk) (h : Wt ch d0 ok d first W) {m : Nat} (hm : W.length = m + 1) (hx : nxt ch d W[m] = none) : Wt ch d0 ok (upd d W[m]) first (W.take m) where
  lo k hk := by unfold upd; rw [h.lo k hk]; rfl
  hi k hk := by
    unfold upd at hk
    rw [Bool.or_eq_true] at hk
    rcases hk with hk | hk
    · exact h.hi k hk
    · obtain rfl := of_decide_eq_true hk
      exact hg.up _ fun j hj => h.hi j (nxt_none hx j hj)
  out k hk := by
    obtain ⟨i, hi, rfl⟩ := List.getElem_of_mem hk
    rw [List.length_take] at hi
    rw [List.getElem_take]
    unfold upd
    rw [h.out _ (List.getElem_mem _), Bool.false_or, decide_eq_false]
    intro e
    have := nodup_inj h.nod e
    omega
  nod := h.nod.sublist (List.take_sublist _ _)
  chain i hi := by
    rw [List.length_take] at hi
    rw [List.getElem_take, List.getElem_take]
    refine nxt_mono (h.chain i (by omega)) (fun x hx => by unfold upd; rw [hx]; rfl) ?_
    unfold upd
    rw [h.out _ (List.getElem_mem _), Bool.false_or, decide_eq_false]
    intro e
    have := nodup_inj h.nod e
    omega
  nil e := by
    have h0 : m = 0 := by
      have : (W.take m).length = 0 := by rw [e]; rfl
      rw [List.length_take] at this
      omega
    subst h0
    unfold upd
    rw [h.hd (by omega)]
    simp
  hd hl := by
    rw [List.length_take] at hl
    rw [List.getElem_take]
    exact h.hd (by omega)

theorem Wt.push (h : Wt ch d0 ok d first W) {m : Nat} (hm : W.length = m + 1) {j : Int} (hx : nxt ch d W[m] = some j) (hj : ¬ j ∈ W) : Wt ch d0 ok d first (W ++ [j]) where
  lo := h.lo
  hi := h.hi
  out k hk := by
    rw [List.mem_append] at hk
    rcases hk with hk | hk
    · exact h.out k hk
    · rw [List.mem_singleton] at hk; subst hk; exact (nxt_some hx).2
  nod := by
    rw [List.nodup_append]
    refine ⟨h.nod, by simp, fun a ha b hb => ?_⟩
    rw [List.mem_singleton] at hb
    subst hb
    rintro rfl
    exact hj ha
  chain i hi := by
    rw [List.length_append, List.length_singleton] at hi
    rw [List.getElem_append_left (by omega)]
    by_cases hl : i + 1 < W.length
    · rw [List.getElem_append_left hl]; exact h.chain i hl
    · obtain rfl : i = m := by omega
      rw [List.getElem_append_right (by omega)]
      simpa [hm] using hx
  nil e := by simp at e
  hd _ := by
    rw [List.getElem_append_left (by omega)]
    exact h.hd (by omega)

/-- How much is to be done yet. -/
def undone (d : Int → Bool) (n : Nat) : Nat := ((List.range n).filter fun (k : Nat) => !d (k : Int)).length
theorem undone_le (d : Int → Bool) (n : Nat) : undone d n ≤ n := by
  unfold undone
  have := List.length_filter_le (fun (k : Nat) => !d (k : Int)) (List.range n)
  simpa using this
theorem undone_upd (d : Int → Bool) (k : Int) : ∀ n : Nat, 0 ≤ k → k < n → d k = false → undone (upd d k) n + 1 = undone d n
  | 0, h0, h1, _ => by omega
  | n + 1, h0, h1, hd => by
    unfold undone
    rw [List.range_succ, List.filter_append, List.filter_append, List.length_append, List.length_append]
    by_cases hk : k < n
    · have h := undone_upd d k n h0 hk hd
      unfold undone at h
      have e : upd d k (n : Int) = d n := by unfold upd; rw [decide_eq_false (by omega), Bool.or_false]
      have e2 : List.filter (fun (j : Nat) => !upd d k (j : Int)) [n] = List.filter (fun (j : Nat) => !d (j : Int)) [n] := by simp [List.filter_cons, e]
      rw [e2]
      omega
    · obtain rfl : k = n := by omega
      have e : List.filter (fun (j : Nat) => !upd d (n : Int) (j : Int)) (List.range n) = List.filter (fun (j : Nat) => !d (j : Int)) (List.range n) := by
        refine List.filter_congr fun x hx => ?_
        rw [List.mem_range] at hx
        unfold upd
        rw [decide_eq_false (by omega), Bool.or_false]
      rw [e]
      simp [upd, hd]

/-- The keys that are being built when a key is fetched again: by the first ones that cannot be done. -/
def cyc (ch : Int → List Int) (ok : Int → Bool) : Nat → List Int → Int → List Int
  | 0, _, _ => []
  | f + 1, U, k => if k ∈ U then U.drop (U.idxOf k) else match nxt ch ok k with
    | some j => cyc ch ok f (U ++ [k]) j
    | none => []
def circ (n : Nat) (ch : Int → List Int) (ok : Int → Bool) (U : List Int) (k : Int) : List Int := cyc ch ok (n + 1 - U.length) U k

theorem circ_in {U : List Int} {k : Int} (hU : U.length ≤ n) (h : k ∈ U) : circ n ch ok U k = U.drop (U.idxOf k) := by
  unfold circ
  obtain ⟨f, hf⟩ : ∃ f, n + 1 - U.length = f + 1 := ⟨n - U.length, by omega⟩
  rw [hf, cyc, if_pos h]
theorem circ_next {U : List Int} {k j : Int} (hU : U.length ≤ n) (h : ¬ k ∈ U) (hx : nxt ch ok k = some j) : circ n ch ok U k = circ n ch ok (U ++ [k]) j := by
  unfold circ
  obtain ⟨f, hf⟩ : ∃ f, n + 1 - U.length = f + 1 := ⟨n - U.length, by omega⟩
  rw [hf, cyc, if_neg h, hx]
  simp only [List.length_append, List.length_singleton]
  congr 1
  omega

/-- A key that waits is fetched again: the first key cannot be done, and the circle is what waits from that one on. -/
theorem Wt.circle (hg : Gr n ch d0 ok rk) (h : Wt ch d0 ok d first W) {m : Nat} (hm : W.length = m + 1) {j : Int} (hx : nxt ch d W[m] = some j) (hj : j ∈ W) :
    ok first = false ∧ W.drop (W.idxOf j) = circ n ch ok [] first := by
  have hd0 : ∀ i (hi : i < W.length), d0 W[i] = false := fun i hi => by
    cases hx0 : d0 W[i]
    · rfl
    · have := h.lo _ hx0; rw [h.out _ (List.getElem_mem _)] at this; cases this
  have hnext : ∀ i (hi : i + 1 < W.length), ok W[i] = true → ok W[i + 1] = true ∧ rk W[i + 1] < rk W[i] := fun i hi hk =>
    hg.down _ hk (hd0 i (by omega)) _ (nxt_some (h.chain i hi)).1
  have hup : ∀ e i (hi : i + e < W.length), ok W[i] = true → ok W[i + e] = true ∧ rk W[i + e] ≤ rk W[i] := by
    intro e
    induction e with
    | zero => intro i hi hk; exact ⟨hk, Nat.le_refl _⟩
    | succ e ih =>
      intro i hi hk
      have h1 := ih i (by omega) hk
      have h2 := hnext (i + e) (by omega) h1.1
      exact ⟨h2.1, by have := h2.2; have := h1.2; simp only [← Nat.add_assoc]; omega⟩
  obtain ⟨i0, hi0, rfl⟩ := List.getElem_of_mem hj
  have hnj : ok W[i0] = false := by
    cases hk : ok W[i0]
    · rfl
    · exfalso
      have h1 := hup (m - i0) i0 (by omega) hk
      simp only [show i0 + (m - i0) = m by omega] at h1
      have h2 := hg.down _ h1.1 (hd0 m (by omega)) _ (nxt_some hx).1
      have := h1.2
      have := h2.2
      omega
  have hall : ∀ i (hi : i < W.length), ok W[i] = false := fun i hi => by
    cases hk : ok W[i]
    · rfl
    · exfalso
      by_cases hle : i ≤ i0
      · have h1 := hup (i0 - i) i (by omega) hk
        simp only [show i + (i0 - i) = i0 by omega] at h1
        rw [h1.1] at hnj
        cases hnj
      · have h1 := hup (m - i) i (by omega) hk
        simp only [show i + (m - i) = m by omega] at h1
        have h2 := hg.down _ h1.1 (hd0 m (by omega)) _ (nxt_some hx).1
        rw [h2.1] at hnj
        cases hnj
  have hok : ∀ i (hi : i + 1 < W.length), nxt ch ok W[i] = some W[i + 1] := fun i hi => nxt_mono (h.chain i hi) h.hi (hall _ hi)
  have hlast : nxt ch ok W[m] = some W[i0] := nxt_mono hx h.hi hnj
  have hlen := h.len hg
  have key : ∀ e i (hi : i < W.length), i + e = m → circ n ch ok (W.take i) W[i] = W.drop (W.idxOf W[i0]) := by
    intro e
    induction e with
    | zero =>
      intro i hi he
      obtain rfl : i = m := by omega
      have hni : ¬ W[i] ∈ W.take i := by
        intro hc
        obtain ⟨q, hq, hqe⟩ := List.getElem_of_mem hc
        rw [List.length_take] at hq
        rw [List.getElem_take] at hqe
        have := nodup_inj h.nod hqe
        omega
      rw [circ_next (by rw [List.length_take]; omega) hni hlast, ← snoc_last hm, circ_in hlen hj]
    | succ e ih =>
      intro i hi he
      have hni : ¬ W[i] ∈ W.take i := by
        intro hc
        obtain ⟨q, hq, hqe⟩ := List.getElem_of_mem hc
        rw [List.length_take] at hq
        rw [List.getElem_take] at hqe
        have := nodup_inj h.nod hqe
        omega
      rw [circ_next (by rw [List.length_take]; omega) hni (hok i (by omega)), ← List.take_succ_eq_append_getElem hi]
      exact ih (i + 1) (by omega) (by omega)
  have h0 := hd0 0 (by omega)
  have h1 := hall 0 (by omega)
  have h2 := key m 0 (by omega) (by omega)
  rw [h.hd (by omega)] at h1 h2
  exact ⟨h1, h2.symm⟩

/-- What may stand under a key: each can be done only behind it. -/
def Hyp (d0 ok : Int → Bool) (rk : Int → Nat) (U : List Int) (k : Int) : Prop := ∀ u ∈ U, d0 u = false ∧ (ok u = true → ok k = true ∧ rk k < rk u)
theorem Hyp.not (h : Hyp d0 ok rk W first) (hk : first ∈ W) : ok first = false := by
  cases ho : ok first
  · rfl
  · have := ((h first hk).2 ho).2; omega
theorem Hyp.next (hg : Gr n ch d0 ok rk) {U : List Int} {k j : Int} (h : Hyp d0 ok rk U k) (hk : d0 k = false) (hj : j ∈ ch k) : Hyp d0 ok rk (U ++ [k]) j := by
  intro u hu
  rw [List.mem_append] at hu
  rcases hu with hu | hu
  · refine ⟨(h u hu).1, fun ho => ?_⟩
    obtain ⟨h1, h2⟩ := (h u hu).2 ho
    obtain ⟨h3, h4⟩ := hg.down k h1 hk j hj
    exact ⟨h3, by omega⟩
  · rw [List.mem_singleton] at hu
    subst hu
    exact ⟨hk, fun ho => hg.down u ho hk j hj⟩
theorem Hyp.nil {k : Int} : Hyp d0 ok rk [] k := fun u hu => by simp at hu
end
end Go.Proofs.Ytochgmbeomfkpaa
/- spec.TaskOk, spec.TaskNodes, impl.TaskOk, impl.TaskNodes and what they call -/
namespace Go.Proofs.Ytochgmbeomfkpaa
open Go.RowKit

theorem specShape_any (k : Int) (w : World) : Calls Try.prog 105 #[.int .i64 k] w fun e w' => e = .returned (.tuple #[.int .i64 (shp k).1, .int .i64 (shp k).2.1, .bool (shp k).2.2]) ∧ w = w' := by
  have key : ∀ p : Int × Int × Bool, shp k = p → Calls Try.prog 105 #[.int .i64 k] w fun e w' => e = .returned (.tuple #[.int .i64 p.1, .int .i64 p.2.1, .bool p.2.2]) ∧ w = w' := by
    unfold shp
    rintro p rfl
    by_cases h0 : k = 0
    · subst h0; go_enter Try.func105, Try.ntmps105; go_wp2_with fail; go_ret3; exact ⟨rfl, rfl⟩
    by_cases h1 : k = 1
    · subst h1; go_enter Try.func105, Try.ntmps105; go_wp2_with fail; go_ret3; exact ⟨rfl, rfl⟩
    by_cases h2 : k = 2
    · subst h2; go_enter Try.func105, Try.ntmps105; go_wp2_with fail; go_ret3; exact ⟨rfl, rfl⟩
    by_cases h3 : k = 3
    · subst h3; go_enter Try.func105, Try.ntmps105; go_wp2_with fail; go_ret3; exact ⟨rfl, rfl⟩
    by_cases h4 : k = 4
    · subst h4; go_enter Try.func105, Try.ntmps105; go_wp2_with fail; go_ret3; exact ⟨rfl, rfl⟩
    by_cases h5 : k = 5
    · subst h5; go_enter Try.func105, Try.ntmps105; go_wp2_with fail; go_ret3; exact ⟨rfl, rfl⟩
    rw [if_neg h0, if_neg h1, if_neg h2, if_neg h3, if_neg h4, if_neg h5]
    go_enter Try.func105, Try.ntmps105; go_wp2_with fail; go_ret3; exact ⟨rfl, rfl⟩
  exact key _ rfl

theorem implShape_any (k : Int) (w : World) : Calls Try.prog 109 #[.int .i64 k] w fun e w' => e = .returned (.tuple #[.int .i64 (shp k).1, .int .i64 (shp k).2.1, .bool (shp k).2.2]) ∧ w = w' := by
  have key : ∀ p : Int × Int × Bool, shp k = p → Calls Try.prog 109 #[.int .i64 k] w fun e w' => e = .returned (.tuple #[.int .i64 p.1, .int .i64 p.2.1, .bool p.2.2]) ∧ w = w' := by
    unfold shp
    rintro p rfl
    by_cases h0 : k = 0
    · subst h0; go_enter Try.func109, Try.ntmps109; go_wp2_with fail; go_ret3; exact ⟨rfl, rfl⟩
    by_cases h1 : k = 1
    · subst h1; go_enter Try.func109, Try.ntmps109; go_wp2_with fail; go_ret3; exact ⟨rfl, rfl⟩
    by_cases h2 : k = 2
    · subst h2; go_enter Try.func109, Try.ntmps109; go_wp2_with fail; go_ret3; exact ⟨rfl, rfl⟩
    by_cases h3 : k = 3
    · subst h3; go_enter Try.func109, Try.ntmps109; go_wp2_with fail; go_ret3; exact ⟨rfl, rfl⟩
    by_cases h4 : k = 4
    · subst h4; go_enter Try.func109, Try.ntmps109; go_wp2_with fail; go_ret3; exact ⟨rfl, rfl⟩
    by_cases h5 : k = 5
    · subst h5; go_enter Try.func109, Try.ntmps109; go_wp2_with fail; go_ret3; exact ⟨rfl, rfl⟩
    rw [if_neg h0, if_neg h1, if_neg h2, if_neg h3, if_neg h4, if_neg h5]
    go_enter Try.func109, Try.ntmps109; go_wp2_with fail; go_ret3; exact ⟨rfl, rfl⟩
  exact key _ rfl

theorem in_any (n lo hi : Int) (w : World) : Calls Try.prog 60 #[.int .i64 n, .int .i64 lo, .int .i64 hi] w fun e w' => e = .returned (.bool (decide (lo ≤ n ∧ n ≤ hi))) ∧ w = w' := by
  by_cases h1 : lo ≤ n
  · by_cases h2 : n ≤ hi
    · have e : decide (lo ≤ n ∧ n ≤ hi) = true := by simp [h1, h2]
      rw [e]; clear e
      go_enter Try.func60, Try.ntmps60; go_wp2_with fail; go_ret; exact ⟨rfl, rfl⟩
    · have e : decide (lo ≤ n ∧ n ≤ hi) = false := by simp [h2]
      rw [e]; clear e
      go_enter Try.func60, Try.ntmps60; go_wp2_with fail; go_ret; exact ⟨rfl, rfl⟩
  · have e : decide (lo ≤ n ∧ n ≤ hi) = false := by simp [h1]
    rw [e]; clear e
    go_enter Try.func60, Try.ntmps60; go_wp2_with fail; go_ret; exact ⟨rfl, rfl⟩

def FitT (t : T) : Prop := ∀ (w : World) (S : Nat → Prop) (a : Option Addr) (c : Nat), AtS w S t.ps a c →
  Calls Try.prog 94 #[.agg #[.int .i64 t.k, .int .i64 t.n, .slice a t.ps.length c]] w fun e w' => e = .returned (.bool t.fit) ∧ Below w.heap.size w w'

theorem fit_of (t : T) (hF : ∀ u ∈ t.ps, FitT u) : FitT t := by
  intro w S a c hat
  obtain ⟨p, tp, b, hs⟩ : ∃ p tp b, shp t.k = (p, tp, b) := ⟨_, _, _, rfl⟩
  have hbd := shp_bd t.k
  have hfe := T.fit_eq t
  unfold fit1 at hfe
  rw [hs] at hbd hfe
  simp only at hbd hfe
  obtain ⟨hb1, hb2, hb3, hb4⟩ := hbd
  have HS := Lib.hid hs
  have HA := Lib.hid hat
  have HF := Lib.hid hF
  have hlen : t.ps.length ≤ 9223372036854775807 := by have := hat.1; have := hat.2.1; omega
  clear hs hat hF
  cases b
  · have hv : t.fit = false := by rw [hfe]; simp
    rw [hv]
    clear hfe hv
    go_enter Try.func94, Try.ntmps94
    go_wp2_with (go_at_call 105; refine (specShape_any _ _).mono ?_; rw [HS.out]; rintro e w' ⟨rfl, rfl⟩)
    go_ret
    exact ⟨rfl, (Below.refl _ _).alloc (Nat.le_refl _) _⟩
  by_cases h1 : (t.ps.length : Int) = p
  · by_cases h2 : 0 ≤ t.n ∧ t.n ≤ tp
    · have hv : t.fit = fitL t.ps := by rw [hfe]; simp [h1, h2]
      have HV := Lib.hid hv
      have hd : decide (0 ≤ t.n ∧ t.n ≤ tp) = true := by simp [h2]
      have HD := Lib.hid hd
      have h1b : (((t.ps.length : Nat) : Int) != p) = false := by simp [h1]
      clear hfe hv hd h1 h2
      go_enter Try.func94, Try.ntmps94
      go_wp2_with (first | (go_at_call 105; refine (specShape_any _ _).mono ?_; rw [HS.out]; rintro e w' ⟨rfl, rfl⟩) | (go_at_call 60; refine (in_any _ _ _ _).mono ?_; rw [HD.out]; rintro e w' ⟨rfl, rfl⟩))
      go_loopw [6] (fun i wr => ∃ k : Nat, k ≤ t.ps.length ∧ i = .int .i64 k ∧ fitL (t.ps.take k) = true ∧ Below (w.heap.size + 1) (w.alloc (.cells #[.int .i64 t.k, .int .i64 t.n, .slice a t.ps.length c] 71)) wr) (fun i _ => t.ps.length - (intOf i).toNat)
      case atStart => exact ⟨0, by omega, rfl, by simp [fitL], Below.refl _ _⟩
      case round =>
        obtain ⟨k, hk, rfl, hq, hb⟩ := hrel
        obtain ⟨x0, x1, x2⟩ := box3 hb
        have HB := Lib.hid hb
        have HQ := Lib.hid hq
        clear hb hq
        by_cases hlt : k < t.ps.length
        · obtain ⟨b, o, a', c', rfl, hbl, _, e0, e1, e2, hs, _, _⟩ := HA.out.elem (below_of_box HB.out) hlt
          have HS' := Lib.hid hs
          have hsn := fitL_snoc t.ps k hlt
          rw [HQ.out, Bool.true_and] at hsn
          clear hs
          cases hf : t.ps[k].fit
          · have hff := fitL_false t.ps k hlt hf
            have HF1 := Lib.hid hf
            have HF2 := Lib.hid hff
            clear hf hff hsn
            go_wp2_with fail
            refine (HF.out t.ps[k] (List.getElem_mem _) _ S a' c' HS'.out).mono ?_
            rintro e w1 ⟨rfl, hb⟩
            rw [HF1.out]
            have HB' := Lib.hid (HB.out.trans (hb.mono (by simpa using HB.out.size)))
            clear hb HF1
            go_wp2_with fail
            go_ret
            exact ⟨ret_bool (by rw [HV.out, HF2.out]), below_of_box HB'.out⟩
          · have HF1 := Lib.hid hf
            rw [hf] at hsn
            have HF2 := Lib.hid hsn
            clear hf hsn
            go_wp2_with fail
            refine (HF.out t.ps[k] (List.getElem_mem _) _ S a' c' HS'.out).mono ?_
            rintro e w1 ⟨rfl, hb⟩
            rw [HF1.out]
            have HB' := Lib.hid (HB.out.trans (hb.mono (by simpa using HB.out.size)))
            clear hb HF1
            go_wp2_with fail
            go_roundw
            case rel => exact ⟨k + 1, by omega, by go_num, HF2.out, HB'.out⟩
            case measure => simp [intOf]; omega
        · have hk' : k = t.ps.length := by omega
          have hf : fitL t.ps = true := by have := HQ.out; rwa [hk', List.take_of_length_le (Nat.le_refl _)] at this
          have HF1 := Lib.hid hf
          clear hf hk'
          go_wp2_with fail
          go_ret
          exact ⟨ret_bool (by rw [HV.out, HF1.out]), below_of_box HB.out⟩
    · have hv : t.fit = false := by rw [hfe]; simp [h2]
      have HV := Lib.hid hv
      have hd : decide (0 ≤ t.n ∧ t.n ≤ tp) = false := by simpa using h2
      have HD := Lib.hid hd
      have h1b : (((t.ps.length : Nat) : Int) != p) = false := by simp [h1]
      clear hfe hv hd h1 h2
      go_enter Try.func94, Try.ntmps94
      go_wp2_with (first | (go_at_call 105; refine (specShape_any _ _).mono ?_; rw [HS.out]; rintro e w' ⟨rfl, rfl⟩) | (go_at_call 60; refine (in_any _ _ _ _).mono ?_; rw [HD.out]; rintro e w' ⟨rfl, rfl⟩))
      go_ret
      exact ⟨ret_bool HV.out.symm, (Below.refl _ _).alloc (Nat.le_refl _) _⟩
  · have hv : t.fit = false := by rw [hfe]; simp [h1]
    have HV := Lib.hid hv
    have h1b : (((t.ps.length : Nat) : Int) != p) = true := by simpa using h1
    clear hfe hv h1
    go_enter Try.func94, Try.ntmps94
    go_wp2_with (go_at_call 105; refine (specShape_any _ _).mono ?_; rw [HS.out]; rintro e w' ⟨rfl, rfl⟩)
    go_ret
    exact ⟨ret_bool HV.out.symm, (Below.refl _ _).alloc (Nat.le_refl _) _⟩
theorem fit_all : ∀ t, FitT t := T.ind fun k n ps ih => fit_of (.mk k n ps) ih

def NodesT (t : T) : Prop := ∀ (w : World) (S : Nat → Prop) (a : Option Addr) (c : Nat), AtS w S t.ps a c → nodesL t.ps ≤ 1048576 →
  Calls Try.prog 95 #[.agg #[.int .i64 t.k, .int .i64 t.n, .slice a t.ps.length c]] w fun e w' => e = .returned (.int .i64 (t.nodes : Nat)) ∧ Below w.heap.size w w'

theorem nodes_of (t : T) (hF : ∀ u ∈ t.ps, NodesT u) : NodesT t := by
  intro w S a c hat hle
  have HA := Lib.hid hat
  have HF := Lib.hid hF
  have HL := Lib.hid hle
  have hlen : t.ps.length ≤ 1048576 := by have := nodesL_ge t.ps; omega
  clear hat hF hle
  go_enter Try.func95, Try.ntmps95
  go_wp2_with fail
  go_loopw [3, 4] (fun n i wr => ∃ k : Nat, k ≤ t.ps.length ∧ i = .int .i64 k ∧ n = .int .i64 (1 + nodesL (t.ps.take k) : Nat) ∧ Below (w.heap.size + 1) (w.alloc (.cells #[.int .i64 t.k, .int .i64 t.n, .slice a t.ps.length c] 71)) wr) (fun _ i _ => t.ps.length - (intOf i).toNat)
  case atStart => exact ⟨0, by omega, rfl, by simp [nodesL], Below.refl _ _⟩
  case round =>
    obtain ⟨k, hk, rfl, rfl, hb⟩ := hrel
    obtain ⟨x0, x1, x2⟩ := box3 hb
    have HB := Lib.hid hb
    clear hb
    by_cases hlt : k < t.ps.length
    · obtain ⟨b, o, a', c', rfl, hbl, _, e0, e1, e2, hs, _, _⟩ := HA.out.elem (below_of_box HB.out) hlt
      have HS' := Lib.hid hs
      have hsn := nodesL_snoc t.ps k hlt
      have hr := nodesL_rest t.ps (k + 1)
      have hn1 := T.nodes_eq t.ps[k]
      have hle := HL.out
      obtain ⟨m, hm⟩ : ∃ m : Nat, m = 1 + nodesL (t.ps.take k) := ⟨_, rfl⟩
      obtain ⟨m', hm'⟩ : ∃ m' : Nat, m' = t.ps[k].nodes := ⟨_, rfl⟩
      have hmb : m ≤ 1048577 := by omega
      have hmb' : m' ≤ 1048577 := by omega
      have hpl : nodesL t.ps[k].ps ≤ 1048576 := by omega
      have hend : 1 + nodesL (t.ps.take (k + 1)) = m + m' := by omega
      rw [← hm]
      have HE := Lib.hid hend
      have HM' := Lib.hid hm'
      clear hs hsn hr hn1 hle hm hm' hend
      go_wp2_with fail
      refine (HF.out t.ps[k] (List.getElem_mem _) _ S a' c' HS'.out hpl).mono ?_
      rintro e w1 ⟨rfl, hb⟩
      rw [← HM'.out]
      have HB' := Lib.hid (HB.out.trans (hb.mono (by simpa using HB.out.size)))
      clear hb
      go_wp2_with fail
      go_roundw
      case rel => exact ⟨k + 1, by omega, by go_num, by rw [HE.out]; go_num, HB'.out⟩
      case measure => simp [intOf]; omega
    · have hk' : k = t.ps.length := by omega
      have hf : 1 + nodesL (t.ps.take k) = t.nodes := by rw [hk', List.take_of_length_le (Nat.le_refl _), T.nodes_eq]
      have HF1 := Lib.hid hf
      clear hf hk'
      go_wp2_with fail
      go_ret
      exact ⟨ret_i64 (by rw [HF1.out]), below_of_box HB.out⟩
theorem nodes_all : ∀ t, NodesT t := T.ind fun k n ps ih => nodes_of (.mk k n ps) ih

/-- spec.TaskOk -/
theorem specOk_any (t : T) (w : World) (S : Nat → Prop) (a : Option Addr) (c : Nat) (hat : AtS w S t.ps a c) (hle : nodesL t.ps ≤ 1048576) :
    Calls Try.prog 80 #[.agg #[.int .i64 t.k, .int .i64 t.n, .slice a t.ps.length c]] w fun e w' => e = .returned (.bool t.ok) ∧ Below w.heap.size w w' := by
  have hlt : t.nodes ≤ 1048577 := by have := t.nodes_eq; omega
  have HA := Lib.hid hat
  have HL := Lib.hid hle
  clear hat hle
  cases hf : t.fit
  · have hv : t.ok = false := by simp [T.ok, hf]
    have HV := Lib.hid hv
    have HF := Lib.hid hf
    clear hv hf
    go_enter Try.func80, Try.ntmps80
    go_wp2_with fail
    refine (fit_all t _ S a c (HA.out.alloc _)).mono ?_
    rintro e w1 ⟨rfl, hb⟩
    rw [HF.out]
    have HB := Lib.hid (below_of_box (hb.mono (by simp)))
    clear hb
    go_wp2_with fail
    go_ret
    exact ⟨ret_bool HV.out.symm, HB.out⟩
  · have hv : t.ok = decide (t.nodes ≤ 15) := by simp [T.ok, hf]
    have HV := Lib.hid hv
    have HF := Lib.hid hf
    clear hv hf
    go_enter Try.func80, Try.ntmps80
    go_wp2_with fail
    refine (fit_all t _ S a c (HA.out.alloc _)).mono ?_
    rintro e w1 ⟨rfl, hb⟩
    rw [HF.out]
    obtain ⟨x0, x1, x2⟩ := box3 (hb.mono (by simp))
    have HB := Lib.hid hb
    clear hb
    go_wp2_with fail
    refine (nodes_all t _ S a c ((HA.out.alloc _).below HB.out) HL.out).mono ?_
    rintro e w2 ⟨rfl, hb⟩
    have HB' := Lib.hid (below_of_box ((HB.out.trans (hb.mono (by simpa using HB.out.size))).mono (by simp)))
    clear hb
    go_wp2_with fail
    go_ret
    exact ⟨ret_bool (by rw [HV.out]; simp; omega), HB'.out⟩


end Go.Proofs.Ytochgmbeomfkpaa
/- impl.countNodes, impl.TaskNodes, impl.TaskOk -/
namespace Go.Proofs.Ytochgmbeomfkpaa
open Go.RowKit

/-- What countNodes comes to. -/
def cntB (t : T) (most : Nat) : Bool := t.fit && decide (t.nodes ≤ most)

def cntV (t : T) (most : Nat) : Value := .tuple #[.int .i64 (if cntB t most = true then (t.nodes : Int) else 0), .bool (cntB t most)]

def CntT (t : T) : Prop := ∀ (w : World) (S : Nat → Prop) (a : Option Addr) (c most : Nat), AtS w S t.ps a c → most ≤ 15 →
  Calls Try.prog 106 #[.agg #[.int .i64 t.k, .int .i64 t.n, .slice a t.ps.length c], .int .i64 most] w fun e w' =>
    e = .returned (cntV t most) ∧ Below w.heap.size w w'

theorem cnt_of (t : T) (hF : ∀ u ∈ t.ps, CntT u) : CntT t := by
  intro w S a c most hat hmost
  obtain ⟨p, tp, b, hs⟩ : ∃ p tp b, shp t.k = (p, tp, b) := ⟨_, _, _, rfl⟩
  have hbd := shp_bd t.k
  have hfe := T.fit_eq t
  unfold fit1 at hfe
  rw [hs] at hbd hfe
  simp only at hbd hfe
  obtain ⟨hb1, hb2, hb3, hb4⟩ := hbd
  have HS := Lib.hid hs
  have HA := Lib.hid hat
  have HF := Lib.hid hF
  have hlen : t.ps.length ≤ 9223372036854775807 := by have := hat.1; have := hat.2.1; omega
  have hno := T.nodes_eq t
  clear hs hat hF
  have fin : ∀ v : Bool, cntB t most = v → ∀ w1 : World, Below w.heap.size w w1 → v = false → (Ending.returned (.tuple #[.int .i64 0, .bool false]) = .returned (cntV t most) ∧ Below w.heap.size w w1) := by
    rintro v hv w1 hw rfl
    unfold cntV
    rw [hv]
    exact ⟨rfl, hw⟩
  have FIN := Lib.hid fin
  clear fin
  cases b
  · have hv : cntB t most = false := by unfold cntB; rw [hfe]; simp
    have HV := Lib.hid hv
    clear hfe hv hno
    go_enter Try.func106, Try.ntmps106
    go_wp2_with (go_at_call 109; refine (implShape_any _ _).mono ?_; rw [HS.out]; rintro e w' ⟨rfl, rfl⟩)
    go_ret2
    exact FIN.out _ HV.out _ ((Below.refl _ _).alloc (Nat.le_refl _) _) rfl
  by_cases h0 : most < 1
  · have hv : cntB t most = false := by unfold cntB; simp; intro _; omega
    have HV := Lib.hid hv
    clear hfe hv hno
    go_enter Try.func106, Try.ntmps106
    go_wp2_with (go_at_call 109; refine (implShape_any _ _).mono ?_; rw [HS.out]; rintro e w' ⟨rfl, rfl⟩)
    go_ret2
    exact FIN.out _ HV.out _ ((Below.refl _ _).alloc (Nat.le_refl _) _) rfl
  by_cases h2 : t.n < 0
  · have hv : cntB t most = false := by unfold cntB; rw [hfe]; simp; omega
    have HV := Lib.hid hv
    clear hfe hv hno
    go_enter Try.func106, Try.ntmps106
    go_wp2_with (go_at_call 109; refine (implShape_any _ _).mono ?_; rw [HS.out]; rintro e w' ⟨rfl, rfl⟩)
    go_ret2
    exact FIN.out _ HV.out _ ((Below.refl _ _).alloc (Nat.le_refl _) _) rfl
  by_cases h3 : tp < t.n
  · have hv : cntB t most = false := by unfold cntB; rw [hfe]; simp; omega
    have HV := Lib.hid hv
    clear hfe hv hno
    go_enter Try.func106, Try.ntmps106
    go_wp2_with (go_at_call 109; refine (implShape_any _ _).mono ?_; rw [HS.out]; rintro e w' ⟨rfl, rfl⟩)
    go_ret2
    exact FIN.out _ HV.out _ ((Below.refl _ _).alloc (Nat.le_refl _) _) rfl
  by_cases h1 : (t.ps.length : Int) = p
  · have hlen3 : t.ps.length ≤ 3 := by omega
    have hv : cntB t most = (fitL t.ps && decide (t.nodes ≤ most)) := by
      have e : decide (0 ≤ t.n ∧ t.n ≤ tp) = true := by simp; omega
      unfold cntB; rw [hfe, e]; simp [h1]
    have HV := Lib.hid hv
    have HNO := Lib.hid hno
    have h1b : (((t.ps.length : Nat) : Int) != p) = false := by simp [h1]
    clear hfe hv hno h1
    go_enter Try.func106, Try.ntmps106
    go_wp2_with (go_at_call 109; refine (implShape_any _ _).mono ?_; rw [HS.out]; rintro e w' ⟨rfl, rfl⟩)
    go_loopw [9, 48] (fun n i wr => ∃ k m : Nat, k ≤ t.ps.length ∧ i = .int .i64 k ∧ n = .int .i64 m ∧ m ≤ most ∧ m = 1 + nodesL (t.ps.take k) ∧ fitL (t.ps.take k) = true ∧ Below (w.heap.size + 1) (w.alloc (.cells #[.int .i64 t.k, .int .i64 t.n, .slice a t.ps.length c] 71)) wr) (fun _ i _ => t.ps.length - (intOf i).toNat)
    case atStart => exact ⟨0, 1, by omega, rfl, rfl, by omega, by simp [nodesL], by simp [fitL], Below.refl _ _⟩
    case round =>
      obtain ⟨k, m, hk, rfl, rfl, hm, hme, hq, hb⟩ := hrel
      have HB := Lib.hid hb
      have HQ := Lib.hid hq
      have HM := Lib.hid hme
      clear hb hq hme
      by_cases hlt : k < t.ps.length
      · obtain ⟨b, o, a', c', rfl, hbl, _, e0, e1, e2, hs, _, _⟩ := HA.out.elem (below_of_box HB.out) hlt
        have hblt : b < wr.heap.size := by have := cell_lt e0; exact this
        have HS' := Lib.hid hs
        have hsn := fitL_snoc t.ps k hlt
        have hnn := nodesL_snoc t.ps k hlt
        have hnr := nodesL_rest t.ps (k + 1)
        rw [HQ.out, Bool.true_and] at hsn
        clear hs
        cases hf : cntB t.ps[k] (most - m)
        · have hff : cntB t most = false := by
            rw [HV.out]
            have h1 := HNO.out
            have h2 := HM.out
            by_cases hg : t.ps[k].fit = true
            · have : ¬ t.ps[k].nodes ≤ most - m := by intro h; simp [cntB, hg, h] at hf
              have : ¬ t.nodes ≤ most := by omega
              simp [this]
            · rw [fitL_false t.ps k hlt (by simpa using hg)]; rfl
          have hcv : cntV t.ps[k] (most - m) = .tuple #[.int .i64 0, .bool false] := by unfold cntV; rw [hf]; rfl
          have HF1 := Lib.hid hcv
          have HF2 := Lib.hid hff
          clear hf hff hsn hcv hnn hnr
          go_wp2_with fail
          rw [show (most : Int) - (m : Int) = ((most - m : Nat) : Int) by omega]
          refine (HF.out t.ps[k] (List.getElem_mem _) _ S a' c' (most - m) (HS'.out.alloc _) (by omega)).mono ?_
          rintro e w1 ⟨rfl, hb⟩
          rw [HF1.out]
          have HB' := Lib.hid ((HB.out.alloc (by simpa using HB.out.size) _).trans (hb.mono (by have := HB.out.size; simp at this; simp; omega)))
          clear hb HF1
          go_wp2_with fail
          go_ret2
          exact FIN.out _ HF2.out _ (below_of_box HB'.out) rfl
        · have hff : t.ps[k].fit = true ∧ t.ps[k].nodes ≤ most - m := by simpa [cntB] using hf
          have hcv : cntV t.ps[k] (most - m) = .tuple #[.int .i64 (t.ps[k].nodes : Nat), .bool true] := by unfold cntV; rw [hf]; rfl
          obtain ⟨m', hm'⟩ : ∃ m' : Nat, m' = t.ps[k].nodes := ⟨_, rfl⟩
          rw [← hm'] at hcv
          have hmb : m' ≤ most - m := by omega
          have hend : m + m' = 1 + nodesL (t.ps.take (k + 1)) := by have := HM.out; omega
          rw [hff.1] at hsn
          have HF1 := Lib.hid hcv
          have HF2 := Lib.hid hsn
          have HE := Lib.hid hend
          clear hf hff hsn hcv hnn hnr hm' hend
          go_wp2_with fail
          rw [show (most : Int) - (m : Int) = ((most - m : Nat) : Int) by omega]
          refine (HF.out t.ps[k] (List.getElem_mem _) _ S a' c' (most - m) (HS'.out.alloc _) (by omega)).mono ?_
          rintro e w1 ⟨rfl, hb⟩
          rw [HF1.out]
          have HB' := Lib.hid ((HB.out.alloc (by simpa using HB.out.size) _).trans (hb.mono (by have := HB.out.size; simp at this; simp; omega)))
          clear hb HF1
          go_wp2_with fail
          go_roundw
          case rel => exact ⟨k + 1, m + m', by omega, by go_num, by go_num, by omega, HE.out, HF2.out, HB'.out⟩
          case measure => simp [intOf]; omega
      · have hk' : k = t.ps.length := by omega
        have hf : fitL t.ps = true := by have := HQ.out; rwa [hk', List.take_of_length_le (Nat.le_refl _)] at this
        have hno : t.nodes = m := by have := HM.out; rw [hk', List.take_of_length_le (Nat.le_refl _)] at this; have := HNO.out; omega
        have hcv : cntV t most = .tuple #[.int .i64 m, .bool true] := by
          have : cntB t most = true := by rw [HV.out, hf, hno]; simp [hm]
          unfold cntV; rw [this, hno]; rfl
        have HF1 := Lib.hid hcv
        clear hf hk' hno hcv
        go_wp2_with fail
        go_ret2
        exact ⟨by rw [HF1.out]; rfl, below_of_box HB.out⟩
  · have hv : cntB t most = false := by unfold cntB; rw [hfe]; simp [h1]
    have HV := Lib.hid hv
    have h1b : (((t.ps.length : Nat) : Int) != p) = true := by simpa using h1
    clear hfe hv hno h1
    go_enter Try.func106, Try.ntmps106
    go_wp2_with (go_at_call 109; refine (implShape_any _ _).mono ?_; rw [HS.out]; rintro e w' ⟨rfl, rfl⟩)
    go_ret2
    exact FIN.out _ HV.out _ ((Below.refl _ _).alloc (Nat.le_refl _) _) rfl

theorem cnt_all : ∀ t, CntT t := T.ind fun k n ps ih => cnt_of (.mk k n ps) ih

theorem cntB_15 (t : T) : cntB t 15 = t.ok := rfl

/-- impl.TaskNodes -/
theorem implNodes_any (t : T) (w : World) (S : Nat → Prop) (a : Option Addr) (c : Nat) (hat : AtS w S t.ps a c) :
    Calls Try.prog 96 #[.agg #[.int .i64 t.k, .int .i64 t.n, .slice a t.ps.length c]] w fun e w' => e = .returned (.int .i64 (if t.ok = true then (t.nodes : Int) else -1)) ∧ Below w.heap.size w w' := by
  have HA := Lib.hid hat
  clear hat
  cases hf : t.ok
  · have hcv : cntV t 15 = .tuple #[.int .i64 0, .bool false] := by unfold cntV; rw [cntB_15, hf]; rfl
    have HF := Lib.hid hcv
    clear hcv
    go_enter Try.func96, Try.ntmps96
    go_wp2_with fail
    refine (cnt_all t _ S a c 15 (HA.out.alloc _) (by omega)).mono ?_
    rintro e w1 ⟨rfl, hb⟩
    rw [HF.out]
    have HB := Lib.hid (below_of_box (hb.mono (by simp)))
    clear hb
    go_wp2_with fail
    go_ret
    exact ⟨rfl, HB.out⟩
  · have hcv : cntV t 15 = .tuple #[.int .i64 t.nodes, .bool true] := by unfold cntV; rw [cntB_15, hf]; rfl
    have HF := Lib.hid hcv
    clear hcv
    go_enter Try.func96, Try.ntmps96
    go_wp2_with fail
    refine (cnt_all t _ S a c 15 (HA.out.alloc _) (by omega)).mono ?_
    rintro e w1 ⟨rfl, hb⟩
    rw [HF.out]
    have HB := Lib.hid (below_of_box (hb.mono (by simp)))
    clear hb
    go_wp2_with fail
    go_ret
    exact ⟨rfl, HB.out⟩

/-- impl.TaskOk -/
theorem implOk_any (t : T) (w : World) (S : Nat → Prop) (a : Option Addr) (c : Nat) (hat : AtS w S t.ps a c) :
    Calls Try.prog 82 #[.agg #[.int .i64 t.k, .int .i64 t.n, .slice a t.ps.length c]] w fun e w' => e = .returned (.bool t.ok) ∧ Below w.heap.size w w' := by
  have HA := Lib.hid hat
  clear hat
  have hpos := t.nodes_pos
  obtain ⟨v, hv⟩ : ∃ v : Int, v = (if t.ok = true then (t.nodes : Int) else -1) := ⟨_, rfl⟩
  have hd : decide (0 < v) = t.ok := by cases h : t.ok <;> simp [h, hv] <;> omega
  have HD := Lib.hid hd
  have HV := Lib.hid hv
  clear hd hv
  go_enter Try.func82, Try.ntmps82
  go_wp2_with fail
  refine (implNodes_any t _ S a c (HA.out.alloc _)).mono ?_
  rintro e w1 ⟨rfl, hb⟩
  rw [← HV.out]
  have HB := Lib.hid (below_of_box (hb.mono (by simp)))
  clear hb
  go_wp2_with fail
  go_ret
  exact ⟨ret_bool HD.out, HB.out⟩


/-- How many nodes, or -1. -/
def T.cnt (t : T) : Int := if t.ok = true then (t.nodes : Int) else -1
theorem implCnt_any (t : T) (w : World) (S : Nat → Prop) (a : Option Addr) (c : Nat) (hat : AtS w S t.ps a c) :
    Calls Try.prog 96 #[.agg #[.int .i64 t.k, .int .i64 t.n, .slice a t.ps.length c]] w fun e w' => e = .returned (.int .i64 t.cnt) ∧ Below w.heap.size w w' := implNodes_any t w S a c hat

end Go.Proofs.Ytochgmbeomfkpaa
/- toTask, toTaskS: a task copied into new memory; eqTask, eqTaskS -/
namespace Go.Proofs.Ytochgmbeomfkpaa
open Go.RowKit

theorem infoTask : (Try.prog.info? 71).map (fun i => (i.zero, i.size, i.bytes)) = some (some (.agg #[.int .i64 0, .int .i64 0, .slice none 0 0]), 3, 40) := by kernel_rfl

theorem run_make_rowN {P : Program} (t e : TypeId) (i : TypeInfo) (z : Value) (ht : P.underlying t = some (.slice e)) (hi : P.info? e = some i) (hz : i.zero = some z)
    (kl kc : IntKind) (n c : Nat) (hnc : n ≤ c) (hbytes : i.bytes * c ≤ 281474976710656) (h63 : c ≤ 9223372036854775807) (w : World) :
    (Instr.makeSlice t (.int kl (n : Int)) (.int kc (c : Int))).run P w = .ok (.slice (some ⟨w.heap.size, 0, none⟩) n c) (w.alloc (.cells (madeCells z.cells (c * i.size)) e)) := by
  have hb : (i.bytes : Int) * (c : Int) ≤ 281474976710656 := by
    have h : ((i.bytes * c : Nat) : Int) ≤ 281474976710656 := by omega
    rwa [Int.natCast_mul] at h
  have hr := run_make (P := P) w t e i z ht hi hz kl kc n c (by omega) (by omega) hb (by omega)
  simp only [Int.toNat_natCast] at hr
  exact hr

/-- A slice of n tasks of the call's own, in block g, of which the first are ps by now. -/
def Part (w : World) (e : TypeId) (g n : Nat) (ps : List T) : Prop :=
  ps.length ≤ n ∧ (∃ cs : Array Value, w.heap[g]? = some (.cells cs e (0, 0)) ∧ cs.size = 3 * n) ∧ AtL w (fun b => g < b) ps g 0

theorem Part.cells {w : World} {e : TypeId} {g n : Nat} {ps : List T} (h : Part w e g n ps) (j : Nat) (hj : j < 3 * n) : (∃ v, w.cell? ⟨g, j, none⟩ = some v) ∧ w.frozen? ⟨g, j, none⟩ = false := by
  obtain ⟨_, ⟨cs, hh, hs⟩, _⟩ := h
  refine ⟨⟨cs[j]'(by omega), ?_⟩, ?_⟩
  · simp [World.cell?, hh]
  · simp [World.frozen?, hh]

theorem Part.below {w w' : World} {e : TypeId} {g n : Nat} {ps : List T} (h : Part w e g n ps) (hb : Below w.heap.size w w') : Part w' e g n ps := by
  obtain ⟨h1, ⟨cs, hh, hs⟩, h3⟩ := h
  have hg : g < w.heap.size := by
    rcases Nat.lt_or_ge g w.heap.size with h | h
    · exact h
    · rw [Array.getElem?_eq_none h] at hh; cases hh
  exact ⟨h1, ⟨cs, by rw [hb.block g hg]; exact hh, hs⟩, AtL.keep (fun _ h => h) (fun b _ hl => hb.block b hl) _ _ _ (fun _ => hb.block g hg) h3⟩

theorem Part.lt {w : World} {e : TypeId} {g n : Nat} {ps : List T} (h : Part w e g n ps) : g < w.heap.size := by
  obtain ⟨_, ⟨cs, hh, _⟩, _⟩ := h
  rcases Nat.lt_or_ge g w.heap.size with h | h
  · exact h
  · rw [Array.getElem?_eq_none h] at hh; cases hh

theorem heap_set3 (w : World) (g j : Nat) (x y z : Value) (cs : Array Value) (e : TypeId) (fz : Nat × Nat) (hh : w.heap[g]? = some (.cells cs e fz)) :
    (((w.setCell ⟨g, j, none⟩ x).setCell ⟨g, j + 1, none⟩ y).setCell ⟨g, j + 2, none⟩ z).heap[g]? = some (.cells (((cs.setIfInBounds j x).setIfInBounds (j + 1) y).setIfInBounds (j + 2) z) e fz) := by
  simp [World.setCell, Array.getElem?_modify, hh]

/-- One more element is stored. -/
theorem Part.snoc {w : World} {e : TypeId} {g n : Nat} {ps : List T} (h : Part w e g n ps) (hl : ps.length < n) (t : T) (a : Option Addr) (c : Nat) (h1 : i64ok t.k) (h2 : i64ok t.n) (hs : AtS w (fun b => g < b) t.ps a c) :
    Part (((w.setCell ⟨g, ps.length * 3, none⟩ (.int .i64 t.k)).setCell ⟨g, ps.length * 3 + 1, none⟩ (.int .i64 t.n)).setCell ⟨g, ps.length * 3 + 2, none⟩ (.slice a t.ps.length c)) e g n (ps ++ [t]) := by
  obtain ⟨_, ⟨cs, hh, hs3⟩, hat⟩ := h
  generalize hj : ps.length * 3 = j
  have hnew := heap_set3 w g j (.int .i64 t.k) (.int .i64 t.n) (.slice a t.ps.length c) cs e (0, 0) hh
  have hc : ∀ m, m < cs.size → ((((w.setCell ⟨g, j, none⟩ (.int .i64 t.k)).setCell ⟨g, j + 1, none⟩ (.int .i64 t.n)).setCell ⟨g, j + 2, none⟩ (.slice a t.ps.length c)).cell? ⟨g, m, none⟩) = (((cs.setIfInBounds j (.int .i64 t.k)).setIfInBounds (j + 1) (.int .i64 t.n)).setIfInBounds (j + 2) (.slice a t.ps.length c))[m]? := by
    intro m _
    generalize (((w.setCell ⟨g, j, none⟩ (.int .i64 t.k)).setCell ⟨g, j + 1, none⟩ (.int .i64 t.n)).setCell ⟨g, j + 2, none⟩ (.slice a t.ps.length c)) = w' at *
    simp [World.cell?, hnew]
  have ho : ∀ b, g < b → (((w.setCell ⟨g, j, none⟩ (.int .i64 t.k)).setCell ⟨g, j + 1, none⟩ (.int .i64 t.n)).setCell ⟨g, j + 2, none⟩ (.slice a t.ps.length c)).heap[b]? = w.heap[b]? := by
    intro b hb
    rw [Below.heap_setCell _ _ _ _ (by simp; omega), Below.heap_setCell _ _ _ _ (by simp; omega), Below.heap_setCell _ _ _ _ (by simp; omega)]
  have hold : ∀ m, w.cell? ⟨g, m, none⟩ = cs[m]? := by intro m; simp [World.cell?, hh]
  generalize (((w.setCell ⟨g, j, none⟩ (.int .i64 t.k)).setCell ⟨g, j + 1, none⟩ (.int .i64 t.n)).setCell ⟨g, j + 2, none⟩ (.slice a t.ps.length c)) = w' at *
  refine ⟨by simp; omega, ⟨_, hnew, by simp; omega⟩, ?_⟩
  refine AtL.snoc (AtL.keepC (fun _ h => h) (fun b hb _ => ho b hb) ps g 0 (fun m _ hm => ?_) hat) ?_
  · rw [hc m (by omega), hold m]
    simp [Array.getElem?_setIfInBounds]
    repeat' split
    all_goals first | rfl | omega
  · rw [show 0 + 3 * ps.length = j by omega]
    have hs' : AtS w' (fun b => g < b) t.ps a c := hs.keep (fun _ h => h) (fun b hb _ => ho b hb)
    refine AtC.mk h1 h2 ?_ ?_ ?_ hs'
    · rw [hc _ (by omega)]; simp [Array.getElem?_setIfInBounds]; omega
    · rw [hc _ (by omega)]; simp [Array.getElem?_setIfInBounds]; omega
    · rw [hc _ (by omega), Array.getElem?_setIfInBounds, if_pos rfl, if_pos (by simp; omega)]

/-- What toTaskS hands back: the same tasks in memory of its own. -/
def CopiedS (ps : List T) (w : World) (e : Ending) (w' : World) : Prop := ∃ (a : Option Addr) (c : Nat), e = .returned (.slice a ps.length c) ∧ AtS w' (fun b => w.heap.size ≤ b) ps a c ∧ Below w.heap.size w w'
def CopiedT (t : T) (w : World) (e : Ending) (w' : World) : Prop := ∃ (a : Option Addr) (c : Nat), e = .returned (.agg #[.int .i64 t.k, .int .i64 t.n, .slice a t.ps.length c]) ∧ AtS w' (fun b => w.heap.size ≤ b) t.ps a c ∧ Below w.heap.size w w'

def CopyS (ps : List T) : Prop := ∀ (w : World) (S : Nat → Prop) (a : Option Addr) (c : Nat), AtS w S ps a c → nodesL ps ≤ 1048576 →
  Calls Try.prog 33 #[.slice a ps.length c] w (CopiedS ps w)
def CopyT (t : T) : Prop := ∀ (w : World) (S : Nat → Prop) (a : Option Addr) (c : Nat), AtS w S t.ps a c → nodesL t.ps ≤ 1048576 →
  Calls Try.prog 62 #[.agg #[.int .i64 t.k, .int .i64 t.n, .slice a t.ps.length c]] w (CopiedT t w)

theorem copyT_of (t : T) (hS : CopyS t.ps) : CopyT t := by
  intro w S a c hat hle
  have H := Lib.hid hS
  have HA := Lib.hid hat
  have HL := Lib.hid hle
  clear hS hat hle
  go_enter Try.func62, Try.ntmps62
  go_wp2_with fail
  refine (H.out _ S a c ?_ HL.out).mono ?_
  · exact ((HA.out.alloc _).alloc _).alloc _
  rintro e w1 ⟨a', c', rfl, hat, hb⟩
  obtain ⟨hc, hf⟩ := bcell hb
  have hz : w.heap.size + 1 + 1 < w1.heap.size := by have := hb.size; simp at this; omega
  have hz1 : w.heap.size + 1 < w1.heap.size := by omega
  have hz0 : w.heap.size < w1.heap.size := by omega
  simp only [World.size_alloc] at hc hf
  have HB := Lib.hid hb
  have HAT := Lib.hid hat
  clear hb hat
  go_wp2_with fail
  refine bodyPost_ret (v := .agg #[.int .i64 t.k, .int .i64 t.n, .slice a' t.ps.length c']) (by simp [results, Try.results62, go_sem, hc]) rfl ?_
  refine ⟨a', c', rfl, ?_, ?_⟩
  · have h := HAT.out
    simp only [World.size_alloc] at h
    exact ((((h.setCell (by intro b hb; simp; omega) _).setCell (by intro b hb; simp; omega) _).setCell (by intro b hb; simp; omega) _).setCell (by intro b hb; simp; omega) _).weaken (by intro b hb; omega)
  · exact (((((((((Below.refl _ _).alloc (Nat.le_refl _) _).alloc (by simp) _).alloc (by simp; omega) _).trans (HB.out.mono (by simp; omega))).setCell (by simp; omega) _).setCell (by simp) _).setCell (by simp) _).setCell (by simp) _)

theorem copyS_of (ps : List T) (hT : ∀ t ∈ ps, CopyT t) : CopyS ps := by
  intro w S a c hat hle
  have H := Lib.hid hT
  have HA := Lib.hid hat
  have HL := Lib.hid hle
  have hlen : ps.length ≤ 1048576 := by have := nodesL_ge ps; omega
  clear hT hat hle
  obtain ⟨i0, hi, hz0, hz1, hz2⟩ := info_parts infoTask
  have hmk := fun W => run_make_rowN (P := Try.prog) 30 71 i0 _ Try.underlying30 hi hz0 .i64 .i64 ps.length ps.length (Nat.le_refl _) (by rw [hz2]; omega) (by omega) W
  rw [hz1] at hmk
  go_enter Try.func33, Try.ntmps33
  go_wp2_with fail
  clear hmk
  have hp0 : Part (w.alloc (Obj.cells (madeCells #[Value.int IntKind.i64 0, Value.int IntKind.i64 0, Value.slice none 0 0] (ps.length * 3)) 71)) 71 w.heap.size ps.length [] :=
    ⟨by simp, ⟨_, heap_alloc_new w _, by rw [size_madeCells]; omega⟩, by simp [AtL]⟩
  have HP0 := Lib.hid hp0
  clear hp0
  go_loopw [4] (fun i wr => ∃ k : Nat, k ≤ ps.length ∧ i = .int .i64 k ∧ Part wr 71 w.heap.size ps.length (ps.take k) ∧ Below w.heap.size w wr) (fun i _ => ps.length - (intOf i).toNat)
  case atStart => exact ⟨0, by omega, rfl, by simpa using HP0.out, (Below.refl _ _).alloc (Nat.le_refl _) _⟩
  case round =>
    obtain ⟨k, hk, rfl, hp, hb⟩ := hrel
    have HB := Lib.hid hb
    have HP := Lib.hid hp
    clear hb hp HP0
    by_cases hlt : k < ps.length
    · obtain ⟨b, o, a', c', rfl, hbl, _, e0, e1, e2, hs, ok1, ok2⟩ := HA.out.elem HB.out hlt
      have HS' := Lib.hid hs
      have hnn := nodesL_snoc ps k hlt
      have hnr := nodesL_rest ps (k + 1)
      have hn1 := T.nodes_eq ps[k]
      have hle := HL.out
      have hpl : nodesL ps[k].ps ≤ 1048576 := by omega
      have HOK := Lib.hid (And.intro ok1 ok2)
      clear hs hnn hnr hn1 hle ok1 ok2
      go_wp2_with fail
      refine (H.out ps[k] (List.getElem_mem _) _ S a' c' HS'.out hpl).mono ?_
      rintro e w1 ⟨a2, c2, rfl, hat, hb⟩
      have hp1 := HP.out.below hb
      have hglt := HP.out.lt
      have hlk : (ps.take k).length = k := by simp; omega
      obtain ⟨⟨y0, hy0⟩, f0⟩ := hp1.cells (k * 3) (by omega)
      obtain ⟨⟨y1, hy1⟩, f1⟩ := hp1.cells (k * 3 + 1) (by omega)
      obtain ⟨⟨y2, hy2⟩, f2⟩ := hp1.cells (k * 3 + 2) (by omega)
      have hsn := hp1.snoc (by omega) ps[k] a2 c2 HOK.out.1 HOK.out.2 (hat.weaken (by intro b hb; omega))
      rw [hlk, ← List.take_succ_eq_append_getElem hlt] at hsn
      have HSN := Lib.hid hsn
      have HB' := Lib.hid (((((HB.out.trans (hb.mono HB.out.size)).setCell (p := ⟨w.heap.size, k * 3, none⟩) (Nat.le_refl _) (.int .i64 ps[k].k)).setCell (p := ⟨w.heap.size, k * 3 + 1, none⟩) (Nat.le_refl _) (.int .i64 ps[k].n)).setCell (p := ⟨w.heap.size, k * 3 + 2, none⟩) (Nat.le_refl _) (.slice a2 ps[k].ps.length c2)))
      clear hb hat hp1 hsn hglt hlk
      go_wp2_with fail
      go_roundw
      case rel => exact ⟨k + 1, by omega, by go_num, HSN.out, HB'.out⟩
      case measure => simp [intOf]; omega
    · have hk' : k = ps.length := by omega
      have hq := HP.out
      rw [hk', List.take_of_length_le (Nat.le_refl _)] at hq
      have HQ := Lib.hid hq
      clear hk' hq
      go_wp2_with fail
      go_ret
      refine ⟨_, _, rfl, ⟨Nat.le_refl _, by omega, .inr ⟨w.heap.size, 0, rfl, Nat.le_refl _, ?_⟩⟩, HB.out⟩
      exact AtL.keepC (fun b hb => by omega) (fun _ _ _ => rfl) _ _ _ (fun _ _ _ => rfl) HQ.out.2.2

theorem copyT_all : ∀ t, CopyT t := T.ind fun k n ps ih => copyT_of (.mk k n ps) (copyS_of ps ih)
theorem copyS_all (ps : List T) : CopyS ps := copyS_of ps fun t _ => copyT_all t

end Go.Proofs.Ytochgmbeomfkpaa
/- eqTask, eqTaskS: two copies of one task are found equal -/
namespace Go.Proofs.Ytochgmbeomfkpaa
open Go.RowKit

def EqS (ps : List T) : Prop := ∀ (w : World) (S S' : Nat → Prop) (a a' : Option Addr) (c c' : Nat), AtS w S ps a c → AtS w S' ps a' c' →
  Calls Try.prog 39 #[.slice a ps.length c, .slice a' ps.length c'] w fun e w' => e = .returned (.bool true) ∧ Below w.heap.size w w'
def EqT (t : T) : Prop := ∀ (w : World) (S S' : Nat → Prop) (a a' : Option Addr) (c c' : Nat), AtS w S t.ps a c → AtS w S' t.ps a' c' →
  Calls Try.prog 69 #[.agg #[.int .i64 t.k, .int .i64 t.n, .slice a t.ps.length c], .agg #[.int .i64 t.k, .int .i64 t.n, .slice a' t.ps.length c']] w fun e w' => e = .returned (.bool true) ∧ Below w.heap.size w w'

theorem eqT_of (t : T) (hS : EqS t.ps) : EqT t := by
  intro w S S' a a' c c' h h'
  have H := Lib.hid hS
  have HA := Lib.hid h
  have HA' := Lib.hid h'
  clear hS h h'
  go_enter Try.func69, Try.ntmps69
  go_wp2_with fail
  refine (H.out _ S S' a a' c c' ((HA.out.alloc _).alloc _) ((HA'.out.alloc _).alloc _)).mono ?_
  rintro e w1 ⟨rfl, hb⟩
  have HB := Lib.hid (((((Below.refl w.heap.size w).alloc (Nat.le_refl _) _).alloc (by simp) _)).trans (hb.mono (by simp; omega)))
  clear hb
  go_wp2_with fail
  go_ret
  exact ⟨rfl, HB.out⟩

theorem eqS_of (ps : List T) (hT : ∀ t ∈ ps, EqT t) : EqS ps := by
  intro w S S' a a' c c' h h'
  have H := Lib.hid hT
  have HA := Lib.hid h
  have HA' := Lib.hid h'
  have hlen : ps.length ≤ 9223372036854775807 := by have := h.1; have := h.2.1; omega
  clear hT h h'
  have hne : (((ps.length : Nat) : Int) != ((ps.length : Nat) : Int)) = false := by simp
  go_enter Try.func39, Try.ntmps39
  go_wp2_with fail
  clear hne
  go_loopw [5] (fun i wr => ∃ k : Nat, k ≤ ps.length ∧ i = .int .i64 k ∧ Below w.heap.size w wr) (fun i _ => ps.length - (intOf i).toNat)
  case atStart => exact ⟨0, by omega, rfl, Below.refl _ _⟩
  case round =>
    obtain ⟨k, hk, rfl, hb⟩ := hrel
    have HB := Lib.hid hb
    clear hb
    by_cases hlt : k < ps.length
    · obtain ⟨b, o, a2, c2, rfl, hbl, _, e0, e1, e2, hs, _, _⟩ := HA.out.elem HB.out hlt
      obtain ⟨b', o', a2', c2', rfl, hbl', _, e0', e1', e2', hs', _, _⟩ := HA'.out.elem HB.out hlt
      have HS := Lib.hid hs
      have HS' := Lib.hid hs'
      clear hs hs'
      go_wp2_with fail
      go_region_with (go_at_call 69; refine (H.out ps[k] (List.getElem_mem _) _ S S' a2 a2' c2 c2' ?_ ?_).mono ?_; exact HS.out.drew; exact HS'.out.drew; rintro e w1 ⟨rfl, hb⟩)
      all_goals
        have HB' := Lib.hid (HB.out.drew.trans (hb.mono HB.out.size))
        clear hb
        go_wp2_with fail
        go_roundw
        case rel => exact ⟨k + 1, by omega, by go_num, HB'.out⟩
        case measure => simp [intOf]; omega
    · go_wp2_with fail
      go_ret
      exact ⟨rfl, HB.out⟩

theorem eqT_all : ∀ t, EqT t := T.ind fun k n ps ih => eqT_of (.mk k n ps) (eqS_of ps ih)
theorem eqS_all (ps : List T) : EqS ps := eqS_of ps fun t _ => eqT_all t

end Go.Proofs.Ytochgmbeomfkpaa
/- szTask, szTaskS -/
namespace Go.Proofs.Ytochgmbeomfkpaa
open Go.RowKit

/-- What szTaskS and szTask come to. -/
def szN (m left : Nat) : Int := if m ≤ left then (left : Int) - m else -1

def SzS (ps : List T) : Prop := ∀ (w : World) (S : Nat → Prop) (a : Option Addr) (c : Nat) (left : Nat), AtS w S ps a c → left ≤ 1048576 →
  Calls Try.prog 25 #[.slice a ps.length c, .int .i64 left] w fun e w' => e = .returned (.int .i64 (szN (nodesL ps) left)) ∧ Below w.heap.size w w'

def SzT (t : T) : Prop := ∀ (w : World) (S : Nat → Prop) (a : Option Addr) (c : Nat) (left : Nat), AtS w S t.ps a c → left ≤ 1048576 →
  Calls Try.prog 58 #[.agg #[.int .i64 t.k, .int .i64 t.n, .slice a t.ps.length c], .int .i64 left] w fun e w' => e = .returned (.int .i64 (szN (nodesL t.ps) left)) ∧ Below w.heap.size w w'

theorem szT_of (t : T) (hS : SzS t.ps) : SzT t := by
  intro w S a c left hat hl
  have H := Lib.hid hS
  have HA := Lib.hid hat
  clear hS hat
  have key : ∀ v : Int, szN (nodesL t.ps) left = v → (0 ≤ v ∧ v ≤ 1048576 ∨ v = -1) → Calls Try.prog 58 #[.agg #[.int .i64 t.k, .int .i64 t.n, .slice a t.ps.length c], .int .i64 left] w fun e w' => e = .returned (.int .i64 v) ∧ Below w.heap.size w w' := by
    intro v hv hr
    have E1 := Lib.hid hv
    clear hv
    go_enter Try.func58, Try.ntmps58
    go_wp2_with fail
    refine (H.out _ S a c left (HA.out.alloc _) hl).mono ?_
    rintro e w1 ⟨rfl, hb⟩
    rw [E1.out]
    have hB : Below w.heap.size w w1 := ((Below.refl _ _).alloc (Nat.le_refl _) _).trans (hb.mono (by simp))
    have HB := Lib.hid hB
    clear hb hB E1
    rcases hr with hr | rfl
    · go_wp2_with fail
      go_ret
      exact ⟨rfl, HB.out⟩
    · go_wp2_with fail
      go_ret
      exact ⟨rfl, HB.out⟩
  exact key _ rfl (by unfold szN; split <;> omega)

theorem szS_of (ps : List T) (hT : ∀ t ∈ ps, SzT t) : SzS ps := by
  intro w S a c left hat hl
  have H := Lib.hid hT
  clear hT
  by_cases hn : left < ps.length
  · have hm : szN (nodesL ps) left = -1 := by have := nodesL_ge ps; unfold szN; rw [if_neg (by omega)]
    rw [hm]
    obtain ⟨hc, hc', hp⟩ := hat
    clear hm hp H
    go_enter Try.func25, Try.ntmps25
    go_wp2_with fail
    go_ret
    exact ⟨rfl, Below.refl _ _⟩
  · have HA := Lib.hid hat
    clear hat
    go_enter Try.func25, Try.ntmps25
    go_wp2_with fail
    go_loopw [1, 5] (fun l i wr => ∃ k q : Nat, k ≤ ps.length ∧ q + ps.length + nodesL (ps.take k) = left + k ∧ q ≤ left ∧ i = .int .i64 k ∧ l = .int .i64 q ∧ Below w.heap.size w wr) (fun _ i _ => ps.length - (intOf i).toNat)
    case atStart => exact ⟨0, left - ps.length, by omega, by simp [nodesL]; omega, by omega, rfl, by congr; omega, Below.refl _ _⟩
    case round =>
      obtain ⟨k, q, hk, hq, hql, rfl, rfl, hb⟩ := hrel
      have HB := Lib.hid hb
      have HQ := Lib.hid hq
      clear hb hq
      by_cases hlt : k < ps.length
      · obtain ⟨b, o, a', c', rfl, hbl, _, e0, e1, e2, hs, _, _⟩ := HA.out.elem HB.out hlt
        have HS := Lib.hid hs
        clear hs
        have hn := T.nodes_eq ps[k]
        have hsn := nodesL_snoc ps k hlt
        by_cases hm : nodesL ps[k].ps ≤ q
        · have hz : szN (nodesL ps[k].ps) q = ((q - nodesL ps[k].ps : Nat) : Int) := by unfold szN; rw [if_pos hm]; omega
          have HZ := Lib.hid hz
          have HN := Lib.hid hn
          have HSN := Lib.hid hsn
          clear hz hn hsn
          go_wp2_with fail
          refine (H.out ps[k] (List.getElem_mem _) _ S a' c' q HS.out (by omega)).mono ?_
          rintro e w1 ⟨rfl, hb⟩
          rw [HZ.out]
          have HB' := Lib.hid (HB.out.trans (hb.mono HB.out.size))
          clear hb HZ
          go_wp2_with fail
          go_roundw
          case rel => exact ⟨k + 1, q - nodesL ps[k].ps, by omega, by have := HQ.out; have := HN.out; have := HSN.out; omega, by omega, by go_num, rfl, HB'.out⟩
          case measure => simp [intOf]; omega
        · have hz : szN (nodesL ps[k].ps) q = -1 := by unfold szN; rw [if_neg hm]
          have hf : szN (nodesL ps) left = -1 := by have := nodesL_rest ps (k + 1); have := HQ.out; unfold szN; rw [if_neg (by omega)]
          have HF := Lib.hid hf
          have HZ := Lib.hid hz
          clear hz hn hsn hf
          go_wp2_with fail
          refine (H.out ps[k] (List.getElem_mem _) _ S a' c' q HS.out (by omega)).mono ?_
          rintro e w1 ⟨rfl, hb⟩
          rw [HZ.out]
          have HB' := Lib.hid (HB.out.trans (hb.mono HB.out.size))
          clear hb HZ
          go_wp2_with fail
          go_ret
          exact ⟨ret_i64 HF.out.symm, HB'.out⟩
      · have hk' : k = ps.length := by omega
        have hf : szN (nodesL ps) left = q := by
          have := HQ.out
          rw [hk', List.take_of_length_le (Nat.le_refl _)] at this
          unfold szN; rw [if_pos (by omega)]; omega
        have HF := Lib.hid hf
        clear hf hk' H HA
        go_wp2_with fail
        go_ret
        exact ⟨ret_i64 HF.out.symm, HB.out⟩

theorem szT_all : ∀ t, SzT t := T.ind fun k n ps ih => szT_of (.mk k n ps) (szS_of ps ih)
theorem szS_all (ps : List T) : SzS ps := szS_of ps fun t _ => szT_all t
end Go.Proofs.Ytochgmbeomfkpaa
/- A task that came in as an argument: its reading opened to a tree -/
namespace Go.Proofs.Ytochgmbeomfkpaa
open Go.ChangeShapes Go.WideShapes Go.ChangeAt Go.RowKit Go.Joins

theorem i64ok_of {n : Int} (h : (Lit.int .i64 n).wf = true) : i64ok n := by
  have := WalkArith.wf_i64 (n := n)
  unfold i64ok
  simp [Lit.wf] at h
  exact ⟨h.1, by omega⟩

theorem AtL.of_each {w : World} {S : Nat → Prop} {b o : Nat} : ∀ n, (∀ i, i < n → ∃ t, AtC w S t b (o + 3 * i)) → ∃ ps : List T, ps.length = n ∧ AtL w S ps b o
  | 0, _ => ⟨[], rfl, by simp [AtL]⟩
  | n + 1, h => by
    obtain ⟨ps, hl, hat⟩ := AtL.of_each n (fun i hi => h i (by omega))
    obtain ⟨t, ht⟩ := h n (by omega)
    exact ⟨ps ++ [t], by simp [hl], AtL.snoc hat (by rw [hl]; exact ht)⟩

section
variable {H : Type} {enc : TypeId × Value → H} {P : Program} {w : World} {base : Nat} {spare : Nat → Bool} {held : Bool} {tS tE tI : TypeId} {f0 f1 f2 : Field}

theorem open_tasks (hI : P.underlying tI = some (.int .i64)) (hcI : P.cellsOf tI = 1) (hS : P.underlying tS = some (.slice tE)) (hcS : P.cellsOf tS = 1) (hE : P.underlying tE = some (.struct #[f0, f1, f2])) (hC : P.cellsOf tE = 3)
    (h0 : f0.type = tI ∧ f0.offset = 0) (h1 : f1.type = tI ∧ f1.offset = 1) (h2 : f2.type = tS ∧ f2.offset = 2) :
    ∀ (fuel : Nat) (v : Value) (x : DataW H × List MemPlace), DataW.trod enc P w base spare held fuel tS [v] = some x → ∃ ps a c, v = .slice a (List.length ps) c ∧ AtS w (fun _ => True) ps a c := by
  intro fuel
  induction fuel using Nat.strongRecOn with
  | _ fuel ih =>
  intro v x h
  rcases DataW.trod_slice hS h with ⟨hv, _⟩ | ⟨a, len, cap, elems, rest, n, hf, hv, _, _, hl, hm, hlen, hel, _, _⟩
  · simp only [List.cons.injEq, and_true] at hv
    exact ⟨[], none, 0, by simpa using hv, by simp [AtS]⟩
  simp only [List.cons.injEq, and_true] at hv
  subst hv
  have hm' : cap ≤ 9223372036854775807 := hm
  by_cases hz : len = 0
  · subst hz
    exact ⟨[], some a, cap, rfl, by simp, hm', .inl rfl⟩
  have each : ∀ i, i < len → ∃ k m ps a' c', i64ok k ∧ i64ok m ∧ w.cell? (a.add (i * 3)) = some (.int .i64 k) ∧ w.cell? (a.add (i * 3 + 1)) = some (.int .i64 m) ∧ w.cell? (a.add (i * 3 + 2)) = some (.slice a' (List.length ps) c') ∧ AtS w (fun _ => True) ps a' c' := by
    intro i hi
    have he := hel i hi
    rw [hC] at he
    have hs : elems[i]? = some (elems[i]'(by omega)) := List.getElem?_eq_getElem (by omega)
    rw [hs, Option.bind_eq_some_iff] at he
    obtain ⟨cs, hcs, htr⟩ := he
    obtain ⟨_, hcl, hat⟩ := World.cells?_some hcs
    obtain ⟨c0, c1, c2, rfl⟩ : ∃ c0 c1 c2, cs = [c0, c1, c2] := by
      match cs, hcl with
      | [c0, c1, c2], _ => exact ⟨c0, c1, c2, rfl⟩
    obtain ⟨ys, n', hn', _, _, hyl, hfd⟩ := DataW.trod_struct hE htr
    have y0 := hfd 0 f0 rfl
    have y1 := hfd 1 f1 rfl
    have y2 := hfd 2 f2 rfl
    rw [h0.1, h0.2, hcI, List.getElem?_eq_getElem (by simp at hyl; omega)] at y0
    rw [h1.1, h1.2, hcI, List.getElem?_eq_getElem (by simp at hyl; omega)] at y1
    rw [h2.1, h2.2, hcS, List.getElem?_eq_getElem (by simp at hyl; omega)] at y2
    obtain ⟨k, e0, _, wk⟩ := DataW.trod_int hI y0
    obtain ⟨m, e1, _, wm⟩ := DataW.trod_int hI y1
    obtain ⟨ps, a', c', e2, hps⟩ := ih n' (by omega) c2 _ y2
    simp at e0 e1
    subst e0 e1 e2
    have g0 := hat 0 (by omega)
    have g1 := hat 1 (by omega)
    have g2 := hat 2 (by omega)
    rw [Go.Deep.add_add] at g0 g1 g2
    exact ⟨k, m, ps, a', c', i64ok_of wk, i64ok_of wm, g0, g1, g2, hps⟩
  have hsp : a.spot = none := by
    obtain ⟨_, _, _, _, _, _, _, g0, _⟩ := each 0 (by omega)
    obtain ⟨ab, ao, asp⟩ := a
    cases asp with
    | none => rfl
    | some y =>
      exfalso
      simp [Addr.add, World.cell?] at g0
      split at g0 <;> simp at g0
  obtain ⟨ab, ao, asp⟩ := a
  simp only at hsp
  subst hsp
  obtain ⟨ps, hpl, hat⟩ := AtL.of_each (w := w) (S := fun _ => True) (b := ab) (o := ao) len (fun i hi => by
    obtain ⟨k, m, ps, a', c', ok1, ok2, g0, g1, g2, hps⟩ := each i hi
    have ea : ∀ j, Addr.add ⟨ab, ao, none⟩ j = ⟨ab, ao + j, none⟩ := by intro j; unfold Addr.add; split <;> simp_all
    rw [ea] at g0 g1 g2
    refine ⟨.mk k m ps, AtC.mk ok1 ok2 ?_ ?_ ?_ hps⟩
    · rw [show ao + 3 * i = ao + i * 3 by omega]; exact g0
    · rw [show ao + 3 * i + 1 = ao + (i * 3 + 1) by omega]; exact g1
    · rw [show ao + 3 * i + 2 = ao + (i * 3 + 2) by omega]; exact g2)
  exact ⟨ps, _, cap, by rw [hpl], by rw [hpl]; exact hl, hm', .inr ⟨ab, ao, rfl, trivial, hat⟩⟩
end

end Go.Proofs.Ytochgmbeomfkpaa
/- The road from a law's walk to its row: one lemma for every law of this seat. -/
namespace Go.Proofs.Ytochgmbeomfkpaa
open Go.ChangeShapes Go.WideShapes Go.ChangeAt Go.RowKit

theorem own : ownKnob Try.prog.godebug = none := by kernel_rfl
theorem laidOut : laidOutB Try.prog = true := by kernel_rfl

theorem trodAll_stays {H : Type} {enc : TypeId × Value → H} {P : Program} (hl : laidOutB P = true) {W W' : World} {sp' : Nat → Bool} : ∀ (ts : List TypeId) (vs : List Value) (ds : List (DataW H)) (ps : List MemPlace),
    (∀ t ∈ ts, P.readableRec t = true ∧ t < P.types.size) → DataW.TrodAll enc P W 0 (fun _ => true) true ts vs ds ps → (∀ p ∈ ps, W.sameAt W' p) → (∀ p ∈ ps, sp' p.block = true) → DataW.TrodAll enc P W' 0 sp' true ts vs ds ps
  | [], [], [], _, _, h, _, _ => h
  | t :: ts, v :: vs, d :: ds, ps, ht, h, hs, hp => by
    obtain ⟨p, q, h1, h2, rfl⟩ := h
    exact ⟨p, q, WideElems.Trod_stays hl (ht t (by simp)).1 (ht t (by simp)).2 h1 (fun x hx => hs x (by simp [hx])) (fun x hx => hp x (by simp [hx])),
      trodAll_stays hl ts vs ds q (fun u hu => ht u (by simp [hu])) h2 (fun x hx => hs x (by simp [hx])) (fun x hx => hp x (by simp [hx])), rfl⟩
  | [], _ :: _, _, _, _, h, _, _ => by simp [DataW.TrodAll] at h
  | [], [], _ :: _, _, _, h, _, _ => by simp [DataW.TrodAll] at h
  | _ :: _, [], _, _, _, h, _, _ => by simp [DataW.TrodAll] at h
  | _ :: _, _ :: _, [], _, _, h, _, _ => by simp [DataW.TrodAll] at h

/-- BEHIND THE WALK: the law returned true and made new memory alone. -/
theorem law_post {H : Type} {enc : TypeId × Value → H} {P : Program} (hl : laidOutB P = true) {f : Func} {s : ChangeSpec} {W W' : World} {args : Array Value} {ds : List (DataW H)} {before : List MemPlace} {tb : TypeId}
    (hsv : s.vars = []) (hrt : f.resultTypes = #[tb]) (htb : P.underlying tb = some .bool) (hts : ∀ t ∈ f.params.toList, P.readableRec t = true ∧ t < P.types.size)
    (hres : (s.fn H (ds ++ [])).results = [.lit (.bool true)]) (hargs : (s.fn H (ds ++ [])).args = ds) (hvs : (s.fn H (ds ++ [])).vars = [])
    (hW : DataW.Whole enc P f.params.toList s.vars false W args.toList ds [] before) (hb : Below W.heap.size W W') :
    s.post enc P f false true false false W args (.bool true) W' := by
  have hlt : ∀ p ∈ before, p.block < W.heap.size := fun p hp => hW.lt p hp
  have hold : ∀ p ∈ before, (fun b => decide (b < W.heap.size)) p.block = true := fun p hp => by simpa using hlt p hp
  have hW0 := hW
  obtain ⟨p, q, hA, hV, rfl, _, _⟩ := hW
  rw [hsv] at hV
  obtain rfl : q = [] := by simpa [DataW.TrodVars] using hV
  have har : ∀ sp : Nat → Bool, (∀ x ∈ p ++ [], sp x.block = true) → DataW.TrodAll enc P W' 0 sp true f.params.toList args.toList ds p := fun sp hsp =>
    trodAll_stays hl _ _ _ _ hts hA (fun x hx => hb.same (hlt x (by simp [hx]))) (fun x hx => hsp x (by simp [hx]))
  have hrs : ∀ (b : Nat) (sp : Nat → Bool) (hd : Bool), DataW.TrodAll enc P W' b sp hd f.resultTypes.toList ((Value.bool true).resultList f.resultTypes.size) (s.fn H (ds ++ [])).results [] := by
    intro b sp hd
    rw [hres, hrt]
    exact trodAll_mk1 (shut_bool htb _)
  refine ⟨ds, [], _, [], p, [], hW0, hrs _ _ _, by rw [hargs]; exact har _ hold, by rw [hsv, hvs]; rfl, World.keptBut_mono (fun p hp => ⟨hp, ?_⟩) (hb.frame (· ∈ p ++ [])), fun h => by cases h⟩
  rw [List.mem_append] at hp
  exact Or.inr hp

end Go.Proofs.Ytochgmbeomfkpaa
/- The reader of a code: l6Open, pick -/
namespace Go.Proofs.Ytochgmbeomfkpaa
open Go.RowKit

/-- Block g holds a reader of a code, at place p. -/
def RdAt (w : World) (g : Nat) (p : Nat) : Prop := ∃ (a : Option Addr) (n c : Nat), n ≤ 2000 ∧ n ≤ c ∧ c ≤ 9223372036854775807 ∧ w.cell? ⟨g, 0, none⟩ = some (.slice a n c) ∧ w.cell? ⟨g, 1, none⟩ = some (.int .i64 p) ∧ w.frozen? ⟨g, 1, none⟩ = false ∧
  (n = 0 ∨ ∃ b o, a = some ⟨b, o, none⟩ ∧ b < g ∧ ∀ i, i < n → ∃ v : Int, 0 ≤ v ∧ v ≤ 255 ∧ w.cell? ⟨b, o + i, none⟩ = some (.int .u8 v))

/-- Only block g of what was there has turned. -/
def Only (g : Nat) (w w' : World) : Prop := w.grownBy w' (some g)

theorem Only.of_below {g : Nat} {w w' : World} (h : Below w.heap.size w w') : Only g w w' := ⟨h.os, h.tape, h.output, h.size, fun i hi _ => h.block i hi⟩
theorem Only.trans {g : Nat} {a b c : World} (h : Only g a b) (k : Only g b c) : Only g a c :=
  ⟨k.os.trans h.os, k.tape.trans h.tape, k.output.trans h.output, Nat.le_trans h.size k.size, fun i hi hne => (k.block i (Nat.lt_of_lt_of_le hi h.size) hne).trans (h.block i hi hne)⟩
theorem Only.refl (g : Nat) (w : World) : Only g w w := .of_below (Below.refl _ _)
theorem Only.drewN {g : Nat} {a w : World} (h : Only g a w) (n : Nat) : Only g a (w.drewN n) := ⟨h.os, h.tape, h.output, h.size, h.block⟩
theorem Only.alloc {g : Nat} {a w : World} (h : Only g a w) (o : Obj) : Only g a (w.alloc o) := h.trans (.of_below ((Below.refl _ _).alloc (Nat.le_refl _) o))
theorem Only.set {g : Nat} {a w : World} (h : Only g a w) {p : Addr} (hp : p.block = g ∨ a.heap.size ≤ p.block) (u : Value) : Only g a (w.setCell p u) :=
  ⟨h.os, h.tape, h.output, by simpa [World.setCell] using h.size, fun i hi hne => (Below.heap_setCell w p u i (by
    rintro rfl
    rcases hp with hp | hp
    · exact hne (by rw [hp])
    · omega)).trans (h.block i hi hne)⟩
theorem Only.below {g : Nat} {w w' : World} (h : Only g w w') (hg : w.heap.size ≤ g) : Below w.heap.size w w' := ⟨h.os, h.tape, h.output, h.size, fun i hi => h.block i hi (by intro e; injection e; omega)⟩

theorem RdAt.lt {w : World} {g p : Nat} (h : RdAt w g p) : g < w.heap.size := by
  obtain ⟨_, _, _, _, _, _, h0, _⟩ := h
  exact cell_lt h0
/-- The reader is kept by whatever leaves the blocks up to it as they were. -/
theorem RdAt.keep {w w' : World} {g p : Nat} (h : RdAt w g p) (hb : ∀ k, k ≤ g → w'.heap[k]? = w.heap[k]?) : RdAt w' g p := by
  obtain ⟨a, n, c, h1, h2, h3, h4, h5, h6, h7⟩ := h
  have e : ∀ k o, k ≤ g → w'.cell? ⟨k, o, none⟩ = w.cell? ⟨k, o, none⟩ := fun k o hk => World.cell?_of_block (w := w) (hb k hk)
  refine ⟨a, n, c, h1, h2, h3, (e _ _ (Nat.le_refl _)).trans h4, (e _ _ (Nat.le_refl _)).trans h5, (World.frozen?_of_block (w := w) (a := ⟨g, 1, none⟩) (hb g (Nat.le_refl _))).trans h6, ?_⟩
  rcases h7 with h7 | ⟨b, o, ha, hbg, hv⟩
  · exact .inl h7
  · refine .inr ⟨b, o, ha, hbg, fun i hi => ?_⟩
    obtain ⟨v, v0, v1, hc⟩ := hv i hi
    exact ⟨v, v0, v1, (e _ _ (by omega)).trans hc⟩
theorem RdAt.below {w w' : World} {g p : Nat} (h : RdAt w g p) (hb : Below w.heap.size w w') : RdAt w' g p := h.keep fun k hk => hb.block k (by have := h.lt; omega)
theorem RdAt.alloc {w : World} {g p : Nat} (h : RdAt w g p) (o : Obj) : RdAt (w.alloc o) g p := h.below ((Below.refl _ _).alloc (Nat.le_refl _) o)
theorem RdAt.drewN {w : World} {g p : Nat} (h : RdAt w g p) (n : Nat) : RdAt (w.drewN n) g p := h.keep fun _ _ => rfl
/-- One step of the reader. -/
theorem RdAt.next {w : World} {g p q : Nat} (h : RdAt w g p) : RdAt (w.setCell ⟨g, 1, none⟩ (.int .i64 q)) g q := by
  obtain ⟨a, n, c, h1, h2, h3, h4, h5, h6, h7⟩ := h
  have e : ∀ k o, (k ≠ g ∨ o ≠ 1) → (w.setCell ⟨g, 1, none⟩ (.int .i64 q)).cell? ⟨k, o, none⟩ = w.cell? ⟨k, o, none⟩ := fun k o hk =>
    World.cell?_setCell_other w ⟨g, 1, none⟩ ⟨k, o, none⟩ _ (by intro e; injection e with e1 e2; rcases hk with hk | hk <;> omega)
  refine ⟨a, n, c, h1, h2, h3, (e _ _ (.inr (by omega))).trans h4, ?_, ?_, ?_⟩
  · exact World.cell?_setCell_same w ⟨g, 1, none⟩ _ h5
  · simpa using h6
  · rcases h7 with h7 | ⟨b, o, ha, hbg, hv⟩
    · exact .inl h7
    · refine .inr ⟨b, o, ha, hbg, fun i hi => ?_⟩
      obtain ⟨v, v0, v1, hc⟩ := hv i hi
      exact ⟨v, v0, v1, (e _ _ (.inl (by omega))).trans hc⟩

theorem only_next {w : World} {g p q : Nat} (_h : RdAt w g p) : Only g w (w.setCell ⟨g, 1, none⟩ (.int .i64 q)) := (Only.refl g w).set (.inl rfl) _

/-- What pick hands back. -/
def Picked (g p : Nat) (n : Int) (w : World) (e : Ending) (w' : World) : Prop := ∃ r : Int, e = .returned (.int .i64 r) ∧ 0 ≤ r ∧ (1 ≤ n → r < n) ∧ RdAt w' g (p + 1) ∧ Only g w w'

theorem xor_nat (x : Nat) (h : x < 9223372036854775808) : ∃ y : Nat, bits .xor .i64 (x : Int) ((x : Int) / 64) = (y : Int) := by
  have h64 : ((x : Int) / 64) = ((x / 64 : Nat) : Int) := by omega
  rw [h64]
  have hx : x ^^^ (x / 64) < 2 ^ 63 := Nat.xor_lt_two_pow (by omega) (by omega)
  refine ⟨x ^^^ (x / 64), ?_⟩
  have of : ∀ a : Nat, a < 9223372036854775808 → (BitVec.ofInt 64 (a : Int)).toNat = a := fun a ha => by
    rw [BitVec.ofInt_natCast, BitVec.toNat_ofNat]; exact Nat.mod_eq_of_lt (by omega)
  show IntKind.i64.wrap ((BitVec.ofInt 64 (x : Int) ^^^ BitVec.ofInt 64 ((x / 64 : Nat) : Int)).toNat : Int) = _
  rw [BitVec.toNat_xor, of x h, of _ (by omega), IntKind.wrap_i64]
  omega

set_option maxHeartbeats 1000000 in
theorem pick_any (w : World) (g p : Nat) (n : Int) (hr : RdAt w g p) (hp : p ≤ 1000000) (hn : n ≤ 1000000) (hn' : -1000000 ≤ n) :
    Calls Try.prog 70 #[.pointer (some ⟨g, 0, none⟩), .int .i64 n] w (Picked g p n w) := by
  have HR := Lib.hid (hr.next (q := p + 1))
  have HO := Lib.hid (only_next (q := p + 1) hr)
  have hlt := hr.lt
  obtain ⟨a, m, c, h1, h2, h3, c0, c1, f1, h7⟩ := hr
  have H7 := Lib.hid h7
  clear h7
  by_cases hn1 : n < 1
  · go_enter Try.func70, Try.ntmps70
    go_wp2_with fail
    go_ret
    exact ⟨0, rfl, by omega, by omega, by simpa using HR.out, by simpa using HO.out⟩
  by_cases hm : m = 0
  · subst hm
    go_enter Try.func70, Try.ntmps70
    go_wp2_with fail
    go_ret
    exact ⟨0, rfl, by omega, by omega, by simpa using HR.out, by simpa using HO.out⟩
  have hm0 : ((m : Int) == 0) = false := by simpa using hm
  obtain ⟨b, o, rfl, hbg, hv⟩ : ∃ b o, a = some ⟨b, o, none⟩ ∧ b < g ∧ ∀ i, i < m → ∃ v : Int, 0 ≤ v ∧ v ≤ 255 ∧ w.cell? ⟨b, o + i, none⟩ = some (.int .u8 v) := by
    rcases H7.out with h | h
    · exact absurd h hm
    · exact h
  have HV := Lib.hid hv
  clear hv H7
  by_cases hpm : p < m
  · obtain ⟨v, v0, v1, hc⟩ := HV.out p hpm
    have hne : b ≠ g := by omega
    go_enter Try.func70, Try.ntmps70
    go_wp2_with fail
    go_ret
    exact ⟨v % n, rfl, Int.emod_nonneg _ (by omega), fun h => Int.emod_lt_of_pos _ (by omega), by simpa using HR.out, by simpa using HO.out⟩
  · have hk1 : p % m < m := Nat.mod_lt _ (by omega)
    have hk2 : (p * 7 + 3) % m < m := Nat.mod_lt _ (by omega)
    obtain ⟨v, v0, v1, hc⟩ := HV.out (p % m) hk1
    obtain ⟨u, u0, u1, hd⟩ := HV.out ((p * 7 + 3) % m) hk2
    have hne : b ≠ g := by omega
    have hm1 : 1 ≤ m := by omega
    go_enter Try.func70, Try.ntmps70
    go_wp2_with fail
    have E1 : (p : Int).tmod (m : Int) = (p : Int) % (m : Int) := Int.tmod_eq_emod_of_nonneg (by omega)
    have T1 : ((p : Int) % (m : Int)).toNat = p % m := by rw [← Int.natCast_emod, Int.toNat_natCast]
    have P1 : 0 ≤ (p : Int) % (m : Int) := Int.emod_nonneg _ (by omega)
    have Q1 : (p : Int) % (m : Int) < (m : Int) := Int.emod_lt_of_pos _ (by omega)
    have W1 : IntKind.i64.wrap ((p : Int) * 7) = (p : Int) * 7 := IntWalk.i64_in _ ⟨by omega, by omega⟩
    have W2 : IntKind.i64.wrap ((p : Int) * 7 + 3) = (p : Int) * 7 + 3 := IntWalk.i64_in _ ⟨by omega, by omega⟩
    have E2 : ((p : Int) * 7 + 3).tmod (m : Int) = ((p : Int) * 7 + 3) % (m : Int) := Int.tmod_eq_emod_of_nonneg (by omega)
    have T2 : (((p : Int) * 7 + 3) % (m : Int)).toNat = (p * 7 + 3) % m := by
      rw [show (p : Int) * 7 + 3 = ((p * 7 + 3 : Nat) : Int) by omega, ← Int.natCast_emod, Int.toNat_natCast]
    have P2 : 0 ≤ ((p : Int) * 7 + 3) % (m : Int) := Int.emod_nonneg _ (by omega)
    have Q2 : ((p : Int) * 7 + 3) % (m : Int) < (m : Int) := Int.emod_lt_of_pos _ (by omega)
    go_quiet (fail)
    clear E1 E2 W1 W2 T1 T2 P1 P2 Q1 Q2
    obtain ⟨x, hx, hxb⟩ : ∃ x : Nat, wrap64 (v * 131 + u * 1117 + (p : Int) * 29 + wrap64 (wrap64 ((p : Int) / (m : Int)) * 53)) = (x : Int) ∧ x < 1000000000 := by
      have d0 : 0 ≤ (p : Int) / (m : Int) := Int.ediv_nonneg (by omega) (by omega)
      have d1 : (p : Int) / (m : Int) ≤ p := Int.ediv_le_self _ (by omega)
      generalize (p : Int) / (m : Int) = d at d0 d1
      rw [IntWalk.wrap64_in d ⟨by omega, by omega⟩, IntWalk.wrap64_in (d * 53) ⟨by omega, by omega⟩, IntWalk.wrap64_in _ ⟨by omega, by omega⟩]
      exact ⟨(v * 131 + u * 1117 + (p : Int) * 29 + d * 53).toNat, by omega, by omega⟩
    rw [hx]
    obtain ⟨y, hy⟩ := xor_nat x (by omega)
    have HY := Lib.hid hy
    clear hx hy
    go_wp2_with fail
    go_ret
    rw [HY.out]
    refine ⟨(y : Int).tmod n, rfl, ?_, ?_, by simpa using HR.out.drewN nq, by simpa using HO.out.drewN nq⟩
    · rw [Int.tmod_eq_emod_of_nonneg (by omega)]; exact Int.emod_nonneg _ (by omega)
    · intro _; rw [Int.tmod_eq_emod_of_nonneg (by omega)]; exact Int.emod_lt_of_pos _ (by omega)

end Go.Proofs.Ytochgmbeomfkpaa
/- A block of the call's own, known whole -/
namespace Go.Proofs.Ytochgmbeomfkpaa
open Go.RowKit

def Blk (w : World) (g : Nat) (t : TypeId) (cs : Array Value) : Prop := w.heap[g]? = some (.cells cs t (0, 0))

section
variable {w w' : World} {g : Nat} {t : TypeId} {cs : Array Value}
theorem Blk.lt (h : Blk w g t cs) : g < w.heap.size := by
  rcases Nat.lt_or_ge g w.heap.size with hlt | hge
  · exact hlt
  · unfold Blk at h; rw [Array.getElem?_eq_none hge] at h; cases h
theorem Blk.cell (h : Blk w g t cs) (i : Nat) : w.cell? ⟨g, i, none⟩ = cs[i]? := by
  unfold Blk at h; simp [World.cell?, h]
theorem Blk.frozen (h : Blk w g t cs) (i : Nat) : w.frozen? ⟨g, i, none⟩ = false := by
  unfold Blk at h; simp [World.frozen?, h]
theorem Blk.new (w : World) (t : TypeId) (cs : Array Value) : Blk (w.alloc (.cells cs t)) w.heap.size t cs := heap_alloc_new w _
theorem Blk.below {B : Nat} (h : Blk w g t cs) (hb : Below B w w') (hg : g < B) : Blk w' g t cs := (hb.block g hg).trans h
theorem Blk.only {b : Nat} (h : Blk w g t cs) (ho : Only b w w') (hg : g ≠ b) : Blk w' g t cs := (ho.block g h.lt (by intro e; injection e; contradiction)).trans h
theorem Blk.alloc (h : Blk w g t cs) (o : Obj) : Blk (w.alloc o) g t cs := (Below.heap_alloc w o g h.lt).trans h
theorem Blk.drew (h : Blk w g t cs) : Blk w.drew g t cs := h
theorem Blk.drewN (h : Blk w g t cs) (n : Nat) : Blk (w.drewN n) g t cs := h
theorem Blk.far (h : Blk w g t cs) {p : Addr} (hp : g ≠ p.block) (u : Value) : Blk (w.setCell p u) g t cs := (Below.heap_setCell w p u g hp).trans h
theorem Blk.set_ (h : Blk w g t cs) (i : Nat) (u : Value) : Blk (w.setCell ⟨g, i, none⟩ u) g t (cs.setIfInBounds i u) := by
  unfold Blk at h ⊢
  simp [World.setCell, Array.getElem?_modify, h]
theorem Blk.two {x y : Value} (h : Blk w g t #[x, y]) : w.cell? ⟨g, 0, none⟩ = some x ∧ w.cell? ⟨g, 1, none⟩ = some y ∧
    w.frozen? ⟨g, 0, none⟩ = false ∧ w.frozen? ⟨g, 1, none⟩ = false :=
  ⟨h.cell 0, h.cell 1, h.frozen 0, h.frozen 1⟩
theorem Blk.three {x y z : Value} (h : Blk w g t #[x, y, z]) : w.cell? ⟨g, 0, none⟩ = some x ∧ w.cell? ⟨g, 1, none⟩ = some y ∧ w.cell? ⟨g, 2, none⟩ = some z ∧
    w.frozen? ⟨g, 0, none⟩ = false ∧ w.frozen? ⟨g, 1, none⟩ = false ∧ w.frozen? ⟨g, 2, none⟩ = false :=
  ⟨h.cell 0, h.cell 1, h.cell 2, h.frozen 0, h.frozen 1, h.frozen 2⟩
end
end Go.Proofs.Ytochgmbeomfkpaa
/- the value of a key from nothing, by stages; the keys that it hangs on: plain words, no program -/
namespace Go.Proofs.Ytochgmbeomfkpaa

/-- Two ways to give values that agree on p: the same first key outside p is fetched; if there is none, all is the same. -/
theorem pre_keys (p : Int → Bool) (vs vs' : Int → Int) (hp : ∀ k, p k = true → vs' k = vs k) : ∀ t : T, t.fit = true →
    (t.kys vs').find? (fun j => !p j) = (t.kys vs).find? (fun j => !p j) ∧ ((∀ k ∈ t.kys vs, p k = true) → t.val vs' = t.val vs ∧ t.kys vs' = t.kys vs) := T.ind fun k n ps ih hf => by
  have hall : ∀ l : List Int, l.find? (fun j => !p j) = none → ∀ k ∈ l, p k = true := fun l h k hk => by
    have := List.find?_eq_none.1 h k hk; simpa using this
  have hnone : ∀ l : List Int, (∀ k ∈ l, p k = true) → l.find? (fun j => !p j) = none := fun l h => List.find?_eq_none.2 fun k hk => by simp [h k hk]
  generalize ht : T.mk k n ps = t at hf ⊢
  refine T.cases_fit (P := fun t => (t.kys vs').find? (fun j => !p j) = (t.kys vs).find? (fun j => !p j) ∧ ((∀ k ∈ t.kys vs, p k = true) → t.val vs' = t.val vs ∧ t.kys vs' = t.kys vs)) t hf ?_ ?_ ?_ ?_ ?_ ?_
  · rintro n a0 a1 rfl; simp only [val_0, kys_0]; exact ⟨trivial, fun _ => ⟨trivial, trivial⟩⟩
  · rintro n a0 a1 rfl; simp only [val_1, kys_1]; exact ⟨trivial, fun h => ⟨hp n (h n (by simp)), trivial⟩⟩
  · rintro a b ha hb rfl; injection ht with _ _ hps; subst hps
    obtain ⟨a1, a2⟩ := ih a (by simp) ha
    obtain ⟨b1, b2⟩ := ih b (by simp) hb
    simp only [val_2, kys_2]
    refine ⟨by rw [List.find?_append, List.find?_append, a1, b1], fun h => ?_⟩
    obtain ⟨a3, a4⟩ := a2 fun k hk => h k (List.mem_append_left _ hk)
    obtain ⟨b3, b4⟩ := b2 fun k hk => h k (List.mem_append_right _ hk)
    rw [a3, a4, b3, b4]; exact ⟨rfl, rfl⟩
  · rintro a b ha hb rfl; injection ht with _ _ hps; subst hps
    obtain ⟨a1, a2⟩ := ih a (by simp) ha
    obtain ⟨b1, b2⟩ := ih b (by simp) hb
    simp only [val_3, kys_3]
    refine ⟨by rw [List.find?_append, List.find?_append, a1, b1], fun h => ?_⟩
    obtain ⟨a3, a4⟩ := a2 fun k hk => h k (List.mem_append_left _ hk)
    obtain ⟨b3, b4⟩ := b2 fun k hk => h k (List.mem_append_right _ hk)
    rw [a3, a4, b3, b4]; exact ⟨rfl, rfl⟩
  · rintro a b c ha hb hc rfl; injection ht with _ _ hps; subst hps
    obtain ⟨a1, a2⟩ := ih a (by simp) ha
    obtain ⟨b1, b2⟩ := ih b (by simp) hb
    obtain ⟨c1, c2⟩ := ih c (by simp) hc
    simp only [val_4, kys_4]
    refine ⟨?_, fun h => ?_⟩
    · rw [List.find?_append, List.find?_append, a1]
      cases hx : (a.kys vs).find? (fun j => !p j) with
      | some x => rfl
      | none =>
        rw [(a2 (hall _ hx)).1]
        simp only [Option.none_or]
        split
        · exact c1
        · exact b1
    · obtain ⟨a3, a4⟩ := a2 fun k hk => h k (List.mem_append_left _ hk)
      rw [a3, a4]
      by_cases h0 : a.val vs = 0
      · simp only [if_pos h0] at h ⊢
        obtain ⟨c3, c4⟩ := c2 fun k hk => h k (List.mem_append_right _ hk)
        rw [c3, c4]; exact ⟨rfl, rfl⟩
      · simp only [if_neg h0] at h ⊢
        obtain ⟨b3, b4⟩ := b2 fun k hk => h k (List.mem_append_right _ hk)
        rw [b3, b4]; exact ⟨rfl, rfl⟩
  · rintro n a a0 a1 ha rfl; injection ht with _ _ hps; subst hps
    obtain ⟨a1, a2⟩ := ih a (by simp) ha
    simp only [val_5, kys_5]
    refine ⟨?_, fun h => ?_⟩
    · rw [List.find?_append, List.find?_append, a1]
      cases hx : (a.kys vs).find? (fun j => !p j) with
      | some x => rfl
      | none => rw [(a2 (hall _ hx)).1]
    · obtain ⟨a3, a4⟩ := a2 fun k hk => h k (List.mem_append_left _ hk)
      rw [a3, a4]
      exact ⟨hp _ (h _ (by simp)), rfl⟩

section
variable (md : Int → Bool) (tk : Int → T) (iv : Int → Int)

/-- The value of a key as far as it is known behind so many stages. -/
def stg : Nat → Int → Option Int
  | 0, k => if md k = true then none else some (iv k)
  | i + 1, k => if md k = true then (if ((tk k).kys (fun j => (stg i j).getD 0)).all (fun j => (stg i j).isSome) = true then some ((tk k).val (fun j => (stg i j).getD 0)) else none) else some (iv k)

theorem stg_free {k : Int} (h : md k = false) (i : Nat) : stg md tk iv i k = some (iv k) := by
  cases i <;> simp [stg, h]

variable (hfit : ∀ k, md k = true → (tk k).fit = true)
include hfit

theorem stg_succ {k : Int} : ∀ {i : Nat} {v : Int}, stg md tk iv i k = some v → stg md tk iv (i + 1) k = some v := by
  intro i
  induction i generalizing k with
  | zero =>
    intro v h
    cases hm : md k
    · rw [stg_free md tk iv hm] at h ⊢; exact h
    · simp [stg, hm] at h
  | succ i ih =>
    intro v h
    cases hm : md k
    · rw [stg_free md tk iv hm] at h ⊢; exact h
    · rw [stg, if_pos hm] at h
      split at h
      · rename_i hal
        rw [List.all_eq_true] at hal
        injection h with h
        obtain ⟨_, h2⟩ := pre_keys (fun j => (stg md tk iv i j).isSome) (fun j => (stg md tk iv i j).getD 0) (fun j => (stg md tk iv (i + 1) j).getD 0) (fun j hj => by
          obtain ⟨u, hu⟩ := Option.isSome_iff_exists.1 hj
          rw [hu, ih hu]) (tk k) (hfit k hm)
        obtain ⟨h3, h4⟩ := h2 hal
        rw [stg, if_pos hm, h3, h4, if_pos, h]
        rw [List.all_eq_true]
        intro j hj
        obtain ⟨u, hu⟩ := Option.isSome_iff_exists.1 (hal j hj)
        rw [ih hu]; rfl
      · cases h
theorem stg_mono {k : Int} {i j : Nat} {v : Int} (hij : i ≤ j) (h : stg md tk iv i k = some v) : stg md tk iv j k = some v := by
  obtain ⟨e, rfl⟩ := Nat.exists_eq_add_of_le hij
  clear hij
  induction e with
  | zero => exact h
  | succ e ih => exact stg_succ md tk iv hfit ih
omit hfit

theorem least {P : Nat → Prop} (h : ∃ i, P i) : ∃ i, P i ∧ ∀ j, j < i → ¬ P j := by
  obtain ⟨i, hi⟩ := h
  induction i using Nat.strongRecOn with
  | _ i ih =>
    by_cases hx : ∃ j, j < i ∧ P j
    · obtain ⟨j, h1, h2⟩ := hx; exact ih j h1 h2
    · exact ⟨i, hi, fun j hj hp => hx ⟨j, hj, hp⟩⟩

open Classical in
/-- The stage at which a key is known first. -/
noncomputable def rkV (k : Int) : Nat := if h : ∃ i, (stg md tk iv i k).isSome = true then (least h).choose else 0
open Classical in
/-- A key can be built from nothing. -/
noncomputable def okV (k : Int) : Bool := decide (∃ i, (stg md tk iv i k).isSome = true)
/-- Its value then. -/
noncomputable def vsV (k : Int) : Int := (stg md tk iv (rkV md tk iv k) k).getD 0

open Classical in
theorem okV_of {k : Int} {i : Nat} {v : Int} (h : stg md tk iv i k = some v) : okV md tk iv k = true := by
  unfold okV; rw [decide_eq_true_iff]; exact ⟨i, by rw [h]; rfl⟩
open Classical in
theorem rkV_le {k : Int} {i : Nat} {v : Int} (h : stg md tk iv i k = some v) : rkV md tk iv k ≤ i := by
  have hx : ∃ i, (stg md tk iv i k).isSome = true := ⟨i, by rw [h]; rfl⟩
  unfold rkV; rw [dif_pos hx]
  rcases Nat.lt_or_ge i (least hx).choose with hl | hl
  · exact absurd (by rw [h]; rfl) ((least hx).choose_spec.2 i hl)
  · exact hl
open Classical in
theorem okV_stg {k : Int} (h : okV md tk iv k = true) : stg md tk iv (rkV md tk iv k) k = some (vsV md tk iv k) := by
  unfold okV at h; rw [decide_eq_true_iff] at h
  have h1 : (stg md tk iv (rkV md tk iv k) k).isSome = true := by
    unfold rkV; rw [dif_pos h]; exact (least h).choose_spec.1
  obtain ⟨u, hu⟩ := Option.isSome_iff_exists.1 h1
  unfold vsV; rw [hu]; rfl
include hfit
theorem vsV_of {k : Int} {i : Nat} {v : Int} (h : stg md tk iv i k = some v) : vsV md tk iv k = v := by
  have h1 := okV_stg md tk iv (okV_of md tk iv h)
  have h2 := stg_mono md tk iv hfit (rkV_le md tk iv h) h1
  rw [h] at h2
  injection h2 with h2
  exact h2.symm
omit hfit
theorem ok_free {k : Int} (h : md k = false) : okV md tk iv k = true := okV_of md tk iv (stg_free md tk iv h 0)
include hfit
theorem vs_free {k : Int} (h : md k = false) : vsV md tk iv k = iv k := vsV_of md tk iv hfit (stg_free md tk iv h 0)

theorem vs_made {k : Int} (hm : md k = true) (h : okV md tk iv k = true) :
    (∀ j ∈ (tk k).kys (vsV md tk iv), okV md tk iv j = true ∧ rkV md tk iv j < rkV md tk iv k) ∧ vsV md tk iv k = (tk k).val (vsV md tk iv) := by
  have h1 := okV_stg md tk iv h
  generalize hr : rkV md tk iv k = r at h1 ⊢
  cases r with
  | zero => simp [stg, hm] at h1
  | succ i =>
    rw [stg, if_pos hm] at h1
    split at h1
    · rename_i hal
      rw [List.all_eq_true] at hal
      obtain ⟨_, h2⟩ := pre_keys (fun j => (stg md tk iv i j).isSome) (fun j => (stg md tk iv i j).getD 0) (vsV md tk iv) (fun j hj => by
        obtain ⟨u, hu⟩ := Option.isSome_iff_exists.1 hj
        rw [hu, vsV_of md tk iv hfit hu]; rfl) (tk k) (hfit k hm)
      obtain ⟨h3, h4⟩ := h2 hal
      refine ⟨fun j hj => ?_, ?_⟩
      · rw [h4] at hj
        obtain ⟨u, hu⟩ := Option.isSome_iff_exists.1 (hal j hj)
        exact ⟨okV_of md tk iv hu, Nat.lt_succ_of_le (rkV_le md tk iv hu)⟩
      · injection h1 with h1
        rw [h3, h1]
    · cases h1

theorem vs_up {k : Int} (h : ∀ j ∈ (tk k).kys (vsV md tk iv), okV md tk iv j = true) : okV md tk iv k = true := by
  cases hm : md k
  · exact ok_free md tk iv hm
  · have hI : ∃ I, ∀ j ∈ (tk k).kys (vsV md tk iv), rkV md tk iv j ≤ I := by
      generalize (tk k).kys (vsV md tk iv) = l
      clear h
      induction l with
      | nil => exact ⟨0, by simp⟩
      | cons x r ih =>
        obtain ⟨I, hI⟩ := ih
        refine ⟨max I (rkV md tk iv x), fun j hj => ?_⟩
        rw [List.mem_cons] at hj
        rcases hj with rfl | hj
        · exact Nat.le_max_right _ _
        · exact Nat.le_trans (hI j hj) (Nat.le_max_left _ _)
    obtain ⟨I, hI⟩ := hI
    have hs : ∀ j ∈ (tk k).kys (vsV md tk iv), stg md tk iv I j = some (vsV md tk iv j) := fun j hj => stg_mono md tk iv hfit (hI j hj) (okV_stg md tk iv (h j hj))
    obtain ⟨_, h2⟩ := pre_keys (fun j => (stg md tk iv I j).isSome) (vsV md tk iv) (fun j => (stg md tk iv I j).getD 0) (fun j hj => by
        obtain ⟨u, hu⟩ := Option.isSome_iff_exists.1 hj
        rw [hu, vsV_of md tk iv hfit hu]; rfl) (tk k) (hfit k hm)
    obtain ⟨h3, h4⟩ := h2 fun j hj => by rw [hs j hj]; rfl
    refine okV_of md tk iv (i := I + 1) (v := (tk k).val (vsV md tk iv)) ?_
    rw [stg, if_pos hm, h3, h4, if_pos]
    rw [List.all_eq_true]
    intro j hj
    rw [hs j hj]; rfl

theorem vs_bd (hiv : ∀ k, 0 ≤ iv k ∧ iv k ≤ 96) (k : Int) : 0 ≤ vsV md tk iv k ∧ vsV md tk iv k ≤ 96 := by
  have key : ∀ i k v, stg md tk iv i k = some v → 0 ≤ v ∧ v ≤ 96 := by
    intro i
    induction i with
    | zero =>
      intro k v h
      cases hm : md k
      · rw [stg_free md tk iv hm] at h; injection h with h; subst h; exact hiv k
      · simp [stg, hm] at h
    | succ i ih =>
      intro k v h
      cases hm : md k
      · rw [stg_free md tk iv hm] at h; injection h with h; subst h; exact hiv k
      · rw [stg, if_pos hm] at h
        split at h
        · injection h with h
          subst h
          refine T.val_bd _ (fun j => ?_) (tk k) (hfit k hm)
          cases hx : stg md tk iv i j with
          | none => simp
          | some u => exact ih j u hx
        · cases h
  unfold vsV
  cases hx : stg md tk iv (rkV md tk iv k) k with
  | none => simp
  | some u => exact key _ _ _ hx

/-- What a key hangs on: what its task fetches with the values of keys. -/
noncomputable def chV : Int → List Int := fun k => (tk k).kys (vsV md tk iv)
theorem gr_V (n : Nat) (hn : ∀ k, md k = true → 0 ≤ k ∧ k < n) : Gr n (chV md tk iv) (fun k => !md k) (okV md tk iv) (rkV md tk iv) where
  d0ok k h := ok_free md tk iv (by simpa using h)
  inn k h := hn k (by simpa using h)
  down k h h0 j hj := (vs_made md tk iv hfit (by simpa using h0) h).1 j hj
  up k h := vs_up md tk iv hfit h
end
end Go.Proofs.Ytochgmbeomfkpaa
