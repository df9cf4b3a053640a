/- several texts in one: HoldU, HoldF, Rw, TrP, TrO, TrL, TrS, TrC, AdR, OpenRw -/
import Derived.Test.YtjbggeeadodmpaaBs2
import Derived.Test.YtjbggeeadodmpaaBs1
import Derived.Test.YtjbggeeadodmpaaBs0
import Derived.BigQuiet
import Derived.Deep.RegionWith
/- what the exact law of TaskUses needs -/
namespace Go.Proofs.Ytjbggeeadodmpaa
open Go.RowKit

def usO (t : T) (lv : List Int) : List Int := if (t.ok && vok lv) = true then usesL (t.kys (vf lv)) else []
theorem usO_bd (t : T) (lv : List Int) : (∀ x ∈ usO t lv, 0 ≤ x ∧ x < 10) ∧ (usO t lv).length ≤ 15 := by
  unfold usO
  split
  · rename_i h
    obtain ⟨h1, h2⟩ := kys_ok h
    exact ⟨fun x hx => by have := h1 x (usesL_mem.1 hx); omega, Nat.le_trans (usesL_len _) h2⟩
  · simp

end Go.Proofs.Ytjbggeeadodmpaa
/- eqFetchS, markFetchS, heldFetchS -/
namespace Go.Proofs.Ytjbggeeadodmpaa
open Go.RowKit

/-- A row of pairs, given by its cells. -/
def FRow (w : World) (base : Nat) (v : Value) (n : Nat) (l : List Int) : Prop := w.ownsRow base 63 2 v n (l.map (Value.int .i64))
theorem FRow.len {w : World} {base n : Nat} {v : Value} {l : List Int} (h : FRow w base v n l) : l.length = n * 2 := by simpa using h.1
def fcl (vs : Int → Int) : List Int → List Int
  | [] => []
  | k :: r => k :: vs k :: fcl vs r
theorem fcl_map (vs : Int → Int) : ∀ ks, (fcl vs ks).map (Value.int .i64) = fc vs ks
  | [] => rfl
  | k :: r => by simp [fcl, fc, fcl_map vs r]
theorem FeRow.fcl {vs : Int → Int} {w : World} {base : Nat} {v : Value} {ks : List Int} (h : FeRow vs w base v ks) : FRow w base v ks.length (fcl vs ks) := by
  unfold FRow; rw [fcl_map]; exact h

theorem FRow.set_ {w : World} {base g n cap : Nat} {l : List Int} (h : FRow w base (.slice (some ⟨g, 0, none⟩) n cap) n l) (i : Nat) (x : Int) :
    FRow (w.setCell ⟨g, i, none⟩ (.int .i64 x)) base (.slice (some ⟨g, 0, none⟩) n cap) n (l.set i x) := by
  obtain ⟨hl, ⟨h1, _⟩ | ⟨g', cap', cur, h1, h2, h3, h4, h5, h6, h7⟩⟩ := h
  · simp at h1
  · simp only [Value.slice.injEq, Option.some.injEq, Addr.mk.injEq, and_true] at h1
    obtain ⟨rfl, _, rfl⟩ := h1
    refine ⟨by simpa using hl, .inr ⟨g, cap, cur.setIfInBounds i (.int .i64 x), rfl, h2, Blk.set_ (w := w) h3 i (.int .i64 x), h4, h5, by simpa using h6, ?_⟩⟩
    rw [Array.toList_setIfInBounds, List.take_set, h7, List.map_set]
theorem FRow.cell {w : World} {base g n cap : Nat} {l : List Int} (h : FRow w base (.slice (some ⟨g, 0, none⟩) n cap) n l) (i : Nat) (hi : i < l.length) :
    w.cell? ⟨g, i, none⟩ = some (.int .i64 l[i]) ∧ w.frozen? ⟨g, i, none⟩ = false := by
  have hc := World.ownsRow.cells h (g := g) rfl i (.int .i64 l[i]) (by rw [List.getElem?_map, List.getElem?_eq_getElem hi]; rfl)
  rw [addr0] at hc
  obtain ⟨hl, ⟨h1, _⟩ | ⟨g', cap', cur, h1, h2, h3, h4, h5, h6, h7⟩⟩ := h
  · simp at h1
  · simp only [Value.slice.injEq, Option.some.injEq, Addr.mk.injEq, and_true] at h1
    obtain ⟨rfl, _, rfl⟩ := h1
    exact ⟨hc, Blk.frozen (w := w) h3 i⟩
theorem FRow.fr {w w' : World} {D : Nat → Prop} {base n : Nat} {v : Value} {l : List Int} (h : FRow w base v n l) (hf : Fr D w w') (hD : ∀ b, D b → b < base) : FRow w' base v n l :=
  ownsRow_fr h hf (fun b hb hd => by have := (World.ownsRow.lt h b hb).1; have := hD b hd; omega)
theorem FRow.below {w w' : World} {base n : Nat} {v : Value} {l : List Int} (h : FRow w base v n l) (hb : Below w.heap.size w w') : FRow w' base v n l :=
  FRow.fr (D := fun _ => False) h (Fr.of_below hb) (fun _ hf => hf.elim)
theorem FeRow.fr {vs : Int → Int} {w w' : World} {D : Nat → Prop} {base : Nat} {v : Value} {l : List Int} (h : FeRow vs w base v l) (hf : Fr D w w') (hD : ∀ b, D b → b < base) : FeRow vs w' base v l :=
  ownsRow_fr h hf (fun b hb hd => by have := (World.ownsRow.lt h b hb).1; have := hD b hd; omega)
theorem FeRow.below {vs : Int → Int} {w w' : World} {base : Nat} {v : Value} {l : List Int} (h : FeRow vs w base v l) (hb : Below w.heap.size w w') : FeRow vs w' base v l :=
  FeRow.fr (D := fun _ => False) h (Fr.of_below hb) (fun _ hf => hf.elim)
theorem FeRow.drew {vs : Int → Int} {w : World} {base : Nat} {v : Value} {l : List Int} (h : FeRow vs w base v l) : FeRow vs w.drew base v l := h.below (Below.refl _ _).drew
theorem FetAt.fr {vs : Int → Int} {w w' : World} {S D : Nat → Prop} {l : List Int} {a : Option Addr} {c : Nat} (h : FetAt vs w S l a c) (hf : Fr D w w') (hS : ∀ b, S b → ¬ D b) : FetAt vs w' S l a c :=
  h.keep (fun _ h => h) (fun b hb hl => hf.2.2.2.2 b hl (hS b hb))
theorem FetAt.alloc {vs : Int → Int} {w : World} {S : Nat → Prop} {l : List Int} {a : Option Addr} {c : Nat} (h : FetAt vs w S l a c) (o : Obj) : FetAt vs (w.alloc o) S l a c := h.below ((Below.refl _ _).alloc (Nat.le_refl _) o)
theorem FetAt.drew {vs : Int → Int} {w : World} {S : Nat → Prop} {l : List Int} {a : Option Addr} {c : Nat} (h : FetAt vs w S l a c) : FetAt vs w.drew S l a c := h.below (Below.refl _ _).drew

def MarkedF (w : World) (base : Nat) (v : Value) (k n : Nat) (e : Ending) (w' : World) : Prop := e = .returned (.int .i64 ((k + n * 2 : Nat) : Int)) ∧ FRow w' base v n (marks k (n * 2)) ∧ w.grownBy w' v.ownBlock
theorem FRow.frM {w w' : World} {base : Nat} {v : Value} {k n m : Nat} {l : List Int} {e : Ending} (h : FRow w base v m l) (hf : MarkedF w base v k n e w') : Fr (fun b => base ≤ b) w w' :=
  ⟨hf.2.2.os, hf.2.2.tape, hf.2.2.output, hf.2.2.size, fun b hb hn => hf.2.2.block b hb (by intro e; exact hn (own_ge h b e.symm))⟩

end Go.Proofs.Ytjbggeeadodmpaa
/- rows of elements in memory, told by what an element is; pairs, traces -/
namespace Go.Proofs.Ytjbggeeadodmpaa
open Go.RowKit

/-- What it is for an element to lie at (b, o) reads the same where its own block, and those that meet S, do. -/
structure Kpt {α : Type} (E : World → (Nat → Prop) → α → Nat → Nat → Prop) : Prop where
  keep : ∀ {w w' : World} {S S' : Nat → Prop}, (∀ b, S b → S' b) → (∀ b, S b → b < w.heap.size → w'.heap[b]? = w.heap[b]?) → ∀ x b o, w'.heap[b]? = w.heap[b]? → E w S x b o → E w' S' x b o
  lt : ∀ {w : World} {S : Nat → Prop} {x : α} {b o : Nat}, E w S x b o → b < w.heap.size
  lim : ∀ {w : World} {S : Nat → Prop} {x : α} {b o : Nat}, E w S x b o → E w (fun b => S b ∧ b < w.heap.size) x b o

/-- The slice value '.slice a l.length c' has the elements l, of m cells each, in a block that meets S. -/
def RwAt {α : Type} (E : World → (Nat → Prop) → α → Nat → Nat → Prop) (m : Nat) (w : World) (S : Nat → Prop) (l : List α) (a : Option Addr) (c : Nat) : Prop :=
  l.length ≤ c ∧ c ≤ 9223372036854775807 ∧ (l = [] ∨ ∃ b o, a = some ⟨b, o, none⟩ ∧ S b ∧ ∀ i (h : i < l.length), E w S l[i] b (o + i * m))

section
variable {α : Type} {E : World → (Nat → Prop) → α → Nat → Nat → Prop} {m : Nat} {w w' : World} {S S' : Nat → Prop} {l : List α} {a : Option Addr} {c : Nat}
theorem RwAt.keep (K : Kpt E) (hS : ∀ b, S b → S' b) (hk : ∀ b, S b → b < w.heap.size → w'.heap[b]? = w.heap[b]?) (h : RwAt E m w S l a c) : RwAt E m w' S' l a c := by
  obtain ⟨h1, h2, h4⟩ := h
  refine ⟨h1, h2, ?_⟩
  rcases h4 with h4 | ⟨b, o, ha, hb, hc⟩
  · exact .inl h4
  · exact .inr ⟨b, o, ha, hS b hb, fun i hi => K.keep hS hk _ _ _ (hk b hb (K.lt (hc i hi))) (hc i hi)⟩
theorem RwAt.below (K : Kpt E) (h : RwAt E m w S l a c) (hb : Below w.heap.size w w') : RwAt E m w' S l a c := h.keep K (fun _ h => h) (fun b _ hl => hb.block b hl)
theorem RwAt.fr (K : Kpt E) {D : Nat → Prop} (h : RwAt E m w S l a c) (hf : Fr D w w') (hS : ∀ b, S b → ¬ D b) : RwAt E m w' S l a c := h.keep K (fun _ h => h) (fun b hb hl => hf.2.2.2.2 b hl (hS b hb))
theorem RwAt.weaken (K : Kpt E) (h : RwAt E m w S l a c) (hS : ∀ b, S b → S' b) : RwAt E m w S' l a c := h.keep K hS (fun _ _ _ => rfl)
theorem RwAt.lim (K : Kpt E) (h : RwAt E m w S l a c) : RwAt E m w (fun b => S b ∧ b < w.heap.size) l a c := by
  obtain ⟨h1, h2, h4⟩ := h
  refine ⟨h1, h2, ?_⟩
  rcases h4 with h4 | ⟨b, o, ha, hb, hc⟩
  · exact .inl h4
  · by_cases hl : l = []
    · exact .inl hl
    · exact .inr ⟨b, o, ha, ⟨hb, K.lt (hc 0 (List.length_pos_iff.2 hl))⟩, fun i hi => K.lim (hc i hi)⟩
theorem RwAt.nil (hc : c ≤ 9223372036854775807) : RwAt E m w S [] a c := ⟨by simp, hc, .inl rfl⟩
theorem RwAt.len (h : RwAt E m w S l a c) : l.length ≤ 9223372036854775807 := Nat.le_trans h.1 h.2.1
theorem RwAt.take (h : RwAt E m w S l a c) (n : Nat) : RwAt E m w S (l.take n) a c := by
  obtain ⟨h1, h2, h4⟩ := h
  refine ⟨by rw [List.length_take]; omega, h2, ?_⟩
  rcases h4 with rfl | ⟨b, o, ha, hb, hc⟩
  · exact .inl (by simp)
  · refine .inr ⟨b, o, ha, hb, fun i hi => ?_⟩
    rw [List.length_take] at hi
    rw [List.getElem_take]
    exact hc i (by omega)
/-- All elements but the first. -/
theorem RwAt.tail {x : α} (h : RwAt E m w S (x :: l) a c) : ∃ b o, a = some ⟨b, o, none⟩ ∧ RwAt E m w S l (some ⟨b, o + m, none⟩) (c - 1) := by
  obtain ⟨h1, h2, h4⟩ := h
  rcases h4 with h4 | ⟨b, o, ha, hb, hc⟩
  · cases h4
  · simp only [List.length_cons] at h1 hc
    refine ⟨b, o, ha, by omega, by omega, .inr ⟨b, o + m, rfl, hb, fun i hi => ?_⟩⟩
    have := hc (i + 1) (by omega)
    rw [show o + m + i * m = o + (i + 1) * m by rw [Nat.succ_mul]; omega]
    simpa using this
theorem RwAt.elem (K : Kpt E) (h : RwAt E m w S l a c) (hb : Below w.heap.size w w') {i : Nat} (hi : i < l.length) :
    ∃ b o, a = some ⟨b, o, none⟩ ∧ b < w.heap.size ∧ S b ∧ E w' S l[i] b (o + i * m) := by
  rcases h.2.2 with rfl | ⟨b, o, ha, hS, hc⟩
  · simp at hi
  · have := hc i hi
    have hlt := K.lt this
    exact ⟨b, o, ha, hlt, hS, K.keep (fun _ h => h) (fun b _ hl => hb.block b hl) _ _ _ (hb.block b hlt) this⟩
end

theorem same_cell {w w' : World} {b o : Nat} {v : Value} (e : w'.heap[b]? = w.heap[b]?) (h : w.cell? ⟨b, o, none⟩ = some v) : w'.cell? ⟨b, o, none⟩ = some v :=
  (World.cell?_of_block (w := w) (a := ⟨b, o, none⟩) e).trans h

/-- A pair of numbers: a key and its value. -/
def PrE (w : World) (_S : Nat → Prop) (p : Int × Int) (b o : Nat) : Prop := i64ok p.1 ∧ i64ok p.2 ∧ w.cell? ⟨b, o, none⟩ = some (.int .i64 p.1) ∧ w.cell? ⟨b, o + 1, none⟩ = some (.int .i64 p.2)
theorem kPr : Kpt PrE where
  keep := fun _ _ _ _ _ e h => ⟨h.1, h.2.1, same_cell e h.2.2.1, same_cell e h.2.2.2⟩
  lt := fun h => cell_lt h.2.2.1
  lim := fun h => h
def PrsAt (w : World) (S : Nat → Prop) (l : List (Int × Int)) (a : Option Addr) (c : Nat) : Prop := RwAt PrE 2 w S l a c

section
variable {w w' : World} {S S' D : Nat → Prop} {l : List (Int × Int)} {a : Option Addr} {c : Nat}
theorem PrsAt.keep (hS : ∀ b, S b → S' b) (hk : ∀ b, S b → b < w.heap.size → w'.heap[b]? = w.heap[b]?) (h : PrsAt w S l a c) : PrsAt w' S' l a c := RwAt.keep kPr hS hk h
theorem PrsAt.below (h : PrsAt w S l a c) (hb : Below w.heap.size w w') : PrsAt w' S l a c := RwAt.below kPr h hb
theorem PrsAt.alloc (h : PrsAt w S l a c) (o : Obj) : PrsAt (w.alloc o) S l a c := h.below ((Below.refl _ _).alloc (Nat.le_refl _) o)
theorem PrsAt.drew (h : PrsAt w S l a c) : PrsAt w.drew S l a c := h.below (Below.refl _ _).drew
theorem PrsAt.drewN (h : PrsAt w S l a c) (n : Nat) : PrsAt (w.drewN n) S l a c := h.below (below_drewN (Below.refl _ _) n)
theorem PrsAt.fr (h : PrsAt w S l a c) (hf : Fr D w w') (hS : ∀ b, S b → ¬ D b) : PrsAt w' S l a c := RwAt.fr kPr h hf hS
theorem PrsAt.weaken (h : PrsAt w S l a c) (hS : ∀ b, S b → S' b) : PrsAt w S' l a c := RwAt.weaken kPr h hS
theorem PrsAt.lim (h : PrsAt w S l a c) : PrsAt w (fun b => S b ∧ b < w.heap.size) l a c := RwAt.lim kPr h
theorem PrsAt.get (h : PrsAt w S l a c) (hb : Below w.heap.size w w') {i : Nat} (hi : i < l.length) :
    ∃ b o, a = some ⟨b, o, none⟩ ∧ b < w.heap.size ∧ S b ∧ w'.cell? ⟨b, o + i * 2, none⟩ = some (.int .i64 l[i].1) ∧ w'.cell? ⟨b, o + i * 2 + 1, none⟩ = some (.int .i64 l[i].2) ∧ i64ok l[i].1 ∧ i64ok l[i].2 := by
  obtain ⟨b, o, h1, h2, h3, h4, h5, h6, h7⟩ := RwAt.elem kPr h hb hi
  exact ⟨b, o, h1, h2, h3, h6, h7, h4, h5⟩
end

/-- A trace: its key, what was used, its value. -/
structure Tr where
  k : Int
  u : List (Int × Int)
  v : Int

def TrE (w : World) (S : Nat → Prop) (t : Tr) (b o : Nat) : Prop := i64ok t.k ∧ i64ok t.v ∧ w.cell? ⟨b, o, none⟩ = some (.int .i64 t.k) ∧ w.cell? ⟨b, o + 2, none⟩ = some (.int .i64 t.v) ∧
  ∃ a c, w.cell? ⟨b, o + 1, none⟩ = some (.slice a t.u.length c) ∧ PrsAt w S t.u a c
theorem kTr : Kpt TrE where
  keep := by
    rintro w w' S S' hS hk x b o e ⟨h1, h2, h3, h4, a, c, h5, h6⟩
    exact ⟨h1, h2, same_cell e h3, same_cell e h4, a, c, same_cell e h5, h6.keep hS hk⟩
  lt := fun h => cell_lt h.2.2.1
  lim := by
    rintro w S x b o ⟨h1, h2, h3, h4, a, c, h5, h6⟩
    exact ⟨h1, h2, h3, h4, a, c, h5, h6.lim⟩
def TrsAt (w : World) (S : Nat → Prop) (l : List Tr) (a : Option Addr) (c : Nat) : Prop := RwAt TrE 3 w S l a c

section
variable {w w' : World} {S S' D : Nat → Prop} {l : List Tr} {a : Option Addr} {c : Nat}
theorem TrsAt.keep (hS : ∀ b, S b → S' b) (hk : ∀ b, S b → b < w.heap.size → w'.heap[b]? = w.heap[b]?) (h : TrsAt w S l a c) : TrsAt w' S' l a c := RwAt.keep kTr hS hk h
theorem TrsAt.below (h : TrsAt w S l a c) (hb : Below w.heap.size w w') : TrsAt w' S l a c := RwAt.below kTr h hb
theorem TrsAt.alloc (h : TrsAt w S l a c) (o : Obj) : TrsAt (w.alloc o) S l a c := h.below ((Below.refl _ _).alloc (Nat.le_refl _) o)
theorem TrsAt.drew (h : TrsAt w S l a c) : TrsAt w.drew S l a c := h.below (Below.refl _ _).drew
theorem TrsAt.drewN (h : TrsAt w S l a c) (n : Nat) : TrsAt (w.drewN n) S l a c := h.below (below_drewN (Below.refl _ _) n)
theorem TrsAt.fr (h : TrsAt w S l a c) (hf : Fr D w w') (hS : ∀ b, S b → ¬ D b) : TrsAt w' S l a c := RwAt.fr kTr h hf hS
theorem TrsAt.weaken (h : TrsAt w S l a c) (hS : ∀ b, S b → S' b) : TrsAt w S' l a c := RwAt.weaken kTr h hS
theorem TrsAt.lim (h : TrsAt w S l a c) : TrsAt w (fun b => S b ∧ b < w.heap.size) l a c := RwAt.lim kTr h
theorem TrsAt.get (h : TrsAt w S l a c) (hb : Below w.heap.size w w') {i : Nat} (hi : i < l.length) :
    ∃ b o a' c', a = some ⟨b, o, none⟩ ∧ b < w.heap.size ∧ S b ∧ w'.cell? ⟨b, o + i * 3, none⟩ = some (.int .i64 l[i].k) ∧ w'.cell? ⟨b, o + i * 3 + 1, none⟩ = some (.slice a' l[i].u.length c') ∧
      w'.cell? ⟨b, o + i * 3 + 2, none⟩ = some (.int .i64 l[i].v) ∧ PrsAt w' S l[i].u a' c' ∧ i64ok l[i].k ∧ i64ok l[i].v := by
  obtain ⟨b, o, h1, h2, h3, h4, h5, h6, h7, a', c', h8, h9⟩ := RwAt.elem kTr h hb hi
  exact ⟨b, o, a', c', h1, h2, h3, h6, h8, h7, h9, h4, h5⟩
end

/-- An argument trace of a law, or of a call: boxed by its head, the rest in old memory; all that was made since is new. -/
def Kt (S : Nat → Prop) (t : Tr) (a : Option Addr) (c : Nat) (ty : TypeId) (w wi : World) : Prop :=
  Below (w.heap.size + 1) (w.alloc (.cells #[.int .i64 t.k, .slice a t.u.length c, .int .i64 t.v] ty)) wi ∧ PrsAt wi S t.u a c
section
variable {S : Nat → Prop} {t : Tr} {a : Option Addr} {c : Nat} {ty : TypeId} {w wi wj : World}
theorem Kt.start (h : PrsAt w S t.u a c) : Kt S t a c ty w (w.alloc (.cells #[.int .i64 t.k, .slice a t.u.length c, .int .i64 t.v] ty)) := ⟨Below.refl _ _, h.alloc _⟩
theorem Kt.step (h : Kt S t a c ty w wi) (hb : Below wi.heap.size wi wj) : Kt S t a c ty w wj :=
  ⟨h.1.trans (hb.mono (by have := h.1.size; simpa using this)), h.2.below hb⟩
theorem Kt.alloc (h : Kt S t a c ty w wi) (o : Obj) : Kt S t a c ty w (wi.alloc o) := h.step ((Below.refl _ _).alloc (Nat.le_refl _) o)
theorem Kt.drew (h : Kt S t a c ty w wi) : Kt S t a c ty w wi.drew := h.step (Below.refl _ _).drew
theorem Kt.drewN (h : Kt S t a c ty w wi) (n : Nat) : Kt S t a c ty w (wi.drewN n) := h.step (below_drewN (Below.refl _ _) n)
theorem Kt.box (h : Kt S t a c ty w wi) : wi.cell? ⟨w.heap.size, 0, none⟩ = some (.int .i64 t.k) ∧ wi.cell? ⟨w.heap.size, 1, none⟩ = some (.slice a t.u.length c) ∧ wi.cell? ⟨w.heap.size, 2, none⟩ = some (.int .i64 t.v) := box3 h.1
theorem Kt.done (h : Kt S t a c ty w wi) : Below w.heap.size w wi := below_of_box h.1
theorem Kt.size (h : Kt S t a c ty w wi) : w.heap.size + 1 ≤ wi.heap.size := by have := h.1.size; simpa using this
theorem Kt.fr {D : Nat → Prop} (h : Kt S t a c ty w wi) (hf : Fr D wi wj) (hD : ∀ b, D b → w.heap.size + 1 ≤ b) (hS : ∀ b, S b → b < w.heap.size) : Kt S t a c ty w wj := by
  have hs := h.size
  exact ⟨h.1.trans ⟨hf.1, hf.2.1, hf.2.2.1, hf.2.2.2.1, fun b hb => hf.2.2.2.2 b (by omega) (fun hd => by have := hD b hd; omega)⟩,
    h.2.fr hf (fun b hb hd => by have := hD b hd; have := hS b hb; omega)⟩
end
end Go.Proofs.Ytjbggeeadodmpaa
/- traces: plain words, no program -/
namespace Go.Proofs.Ytjbggeeadodmpaa

def kin (k : Int) : Bool := decide (0 ≤ k ∧ k ≤ 9)

/-- No number twice. -/
def nd : List Int → Bool
  | [] => true
  | x :: r => !decide (x ∈ r) && nd r
theorem nd_iff : ∀ l : List Int, nd l = true ↔ l.Nodup
  | [] => by simp [nd]
  | x :: r => by simp [nd, nd_iff r]
theorem nd_snoc (l : List Int) (x : Int) : nd (l ++ [x]) = (nd l && !decide (x ∈ l)) := by
  rw [Bool.eq_iff_iff, nd_iff]
  simp only [Bool.and_eq_true, nd_iff, Bool.not_eq_true', decide_eq_false_iff_not]
  rw [List.nodup_append]
  constructor
  · rintro ⟨h1, _, h2⟩; exact ⟨h1, fun hx => h2 x hx x (by simp) rfl⟩
  · rintro ⟨h1, h2⟩; exact ⟨h1, by simp, fun a ha b hb => by simp at hb; subst hb; rintro rfl; exact h2 ha⟩

def keysOf (l : List (Int × Int)) : List Int := l.map (·.1)
/-- A pair is a key and a value. -/
def pin (p : Int × Int) : Bool := kin p.1 && vin p.2
/-- It is a trace. -/
def Tr.ok (t : Tr) : Bool := (kin t.k && vin t.v) && (t.u.all pin && nd (keysOf t.u))
/-- It holds for these values. -/
def Tr.holds (vs : Int → Int) (t : Tr) : Bool := t.u.all fun p => decide (vs p.1 = p.2)
def trH (t : Tr) (lv : List Int) : Bool := t.ok && (vok lv && t.holds (vf lv))
/-- They are traces. -/
def trsOk (l : List Tr) : Bool := decide (l.length ≤ 60) && l.all Tr.ok
def trEq (a b : Tr) : Bool := (decide (a.k = b.k) && decide (a.v = b.v)) && decide (a.u = b.u)
theorem trEq_iff (a b : Tr) : trEq a b = true ↔ a = b := by
  cases a; cases b; simp [trEq]; constructor
  · rintro ⟨⟨h1, h2⟩, h3⟩; exact ⟨h1, h3, h2⟩
  · rintro ⟨h1, h3, h2⟩; exact ⟨⟨h1, h2⟩, h3⟩
/-- The trace of a task. -/
def trOf (key : Int) (t : T) (vs : Int → Int) : Tr := ⟨key, (usesL (t.kys vs)).map (fun k => (k, vs k)), t.val vs⟩
/-- What a trace used, and 0 for all other keys. -/
def back (l : List (Int × Int)) (k : Int) : Int := match l.find? (fun p => decide (p.1 = k)) with | some p => p.2 | none => 0
def backL (l : List (Int × Int)) : List Int := (List.range 10).map fun (i : Nat) => back l (i : Int)
/-- The first trace of a key that holds. -/
def trFind (l : List Tr) (key : Int) (vs : Int → Int) : Option Tr := l.find? fun t => decide (t.k = key) && t.holds vs
def trPut (l : List Tr) (t : Tr) : List Tr := if l.any (fun x => trEq x t) then l else (if l.length = 60 then l.drop 1 else l) ++ [t]

/-- Numbers from 0 to 9, none twice, are ten at most. -/
theorem few (l : List Int) (h1 : ∀ x ∈ l, 0 ≤ x ∧ x ≤ 9) (h2 : l.Nodup) : l.length ≤ 10 := by
  have key : ∀ (n : Nat) (l : List Int), (∀ x ∈ l, 0 ≤ x ∧ x < n) → l.Nodup → l.length ≤ n := by
    intro n
    induction n with
    | zero =>
      intro l h _
      cases l with
      | nil => simp
      | cons x r => have := h x (by simp); omega
    | succ n ih =>
      intro l h hd
      have := ih (l.filter (fun x => decide (x ≠ (n : Int)))) (fun x hx => by
        simp only [List.mem_filter, decide_eq_true_eq] at hx
        have := h x hx.1
        omega) (hd.filter _)
      have hc : l.length ≤ (l.filter (fun x => decide (x ≠ (n : Int)))).length + 1 := by
        clear ih this h
        induction l with
        | nil => simp
        | cons x r ih =>
          rw [List.nodup_cons] at hd
          by_cases hx : x = (n : Int)
          · have : r.filter (fun x => decide (x ≠ (n : Int))) = r := by
              rw [List.filter_eq_self]
              intro y hy
              simp only [decide_eq_true_eq]
              rintro rfl
              exact hd.1 (by rw [hx]; exact hy)
            rw [List.filter_cons, if_neg (by simp [hx]), this]; simp
          · rw [List.filter_cons, if_pos (by simpa using hx)]
            have := ih hd.2
            simp only [List.length_cons]
            omega
      omega
  exact key 10 l (fun x hx => by have := h1 x hx; constructor <;> omega) h2

theorem pin_iff (p : Int × Int) : pin p = true ↔ (0 ≤ p.1 ∧ p.1 ≤ 9) ∧ (0 ≤ p.2 ∧ p.2 ≤ 96) := by
  unfold pin kin vin; simp
theorem keysOf_snoc {l : List (Int × Int)} {k : Nat} (h : k < l.length) : keysOf (l.take (k + 1)) = keysOf (l.take k) ++ [l[k].1] := by
  unfold keysOf; rw [List.take_succ_eq_append_getElem h, List.map_append]; rfl
theorem Tr.ok_len {t : Tr} (h : t.ok = true) : t.u.length ≤ 10 := by
  simp only [Tr.ok, Bool.and_eq_true, List.all_eq_true, nd_iff] at h
  have := few (keysOf t.u) (fun x hx => by
    obtain ⟨p, hp, rfl⟩ := List.mem_map.1 hx
    exact ((pin_iff p).1 (h.2.1 p hp)).1) h.2.2
  simpa [keysOf] using this
theorem Tr.ok_iff (t : Tr) : t.ok = true ↔ (0 ≤ t.k ∧ t.k ≤ 9) ∧ (0 ≤ t.v ∧ t.v ≤ 96) ∧ (∀ p ∈ t.u, (0 ≤ p.1 ∧ p.1 ≤ 9) ∧ (0 ≤ p.2 ∧ p.2 ≤ 96)) ∧ (keysOf t.u).Nodup := by
  simp only [Tr.ok, Bool.and_eq_true, List.all_eq_true, nd_iff, pin_iff]
  unfold kin vin
  simp only [decide_eq_true_eq]
  constructor
  · rintro ⟨⟨h1, h2⟩, h3, h4⟩; exact ⟨h1, h2, h3, h4⟩
  · rintro ⟨h1, h2, h3, h4⟩; exact ⟨⟨h1, h2⟩, h3, h4⟩
theorem all_snocp {α : Type} (f : α → Bool) (l : List α) (k : Nat) (h : k < l.length) : (l.take (k + 1)).all f = ((l.take k).all f && f l[k]) := by
  rw [List.take_succ_eq_append_getElem h, List.all_append]; simp
theorem all_falsep {α : Type} (f : α → Bool) (l : List α) (k : Nat) (h : k < l.length) (hf : f l[k] = false) : l.all f = false := by
  cases hx : l.all f
  · rfl
  · rw [List.all_eq_true] at hx
    rw [hx _ (List.getElem_mem h)] at hf
    cases hf
theorem nd_false {l : List Int} {k : Nat} (h : k < l.length) (hm : l[k] ∈ l.take k) : nd l = false := by
  cases hx : nd l
  · rfl
  · rw [nd_iff] at hx
    exfalso
    obtain ⟨i, hi, he⟩ := List.getElem_of_mem hm
    have hi' : i < k := by rw [List.length_take] at hi; omega
    rw [List.getElem_take] at he
    have := (List.pairwise_iff_getElem.1 hx) i k (by omega) h hi'
    exact this he
end Go.Proofs.Ytjbggeeadodmpaa
/- traces in memory of the call's own: the list, and what each used, each in a block of its own -/
namespace Go.Proofs.Ytjbggeeadodmpaa
open Go.RowKit

def pcl : List (Int × Int) → List Int
  | [] => []
  | p :: r => p.1 :: p.2 :: pcl r
theorem pcl_len : ∀ l, (pcl l).length = l.length * 2
  | [] => rfl
  | p :: r => by simp [pcl, pcl_len r]; omega
theorem pcl_append : ∀ l l', pcl (l ++ l') = pcl l ++ pcl l'
  | [], _ => rfl
  | p :: r, l' => by simp [pcl, pcl_append r l']
theorem pcl_get : ∀ (l : List (Int × Int)) (i : Nat) (h : i < l.length), (pcl l)[i * 2]? = some l[i].1 ∧ (pcl l)[i * 2 + 1]? = some l[i].2
  | [], i, h => by simp at h
  | p :: r, 0, h => by simp [pcl]
  | p :: r, i + 1, h => by
    have := pcl_get r i (by simpa using h)
    rw [show (i + 1) * 2 = i * 2 + 2 by omega]
    simpa [pcl] using this

theorem addr0' (g j : Nat) : (⟨g, 0, none⟩ : Addr).add j = ⟨g, j, none⟩ := by unfold Addr.add; split <;> simp_all
theorem FRow.prs {w : World} {base : Nat} {v : Value} {l : List (Int × Int)} (h : FRow w base v l.length (pcl l)) (hok : ∀ p ∈ l, i64ok p.1 ∧ i64ok p.2) :
    ∃ a c, v = .slice a l.length c ∧ PrsAt w (fun b => v.ownBlock = some b) l a c := by
  have h' := h
  obtain ⟨_, ⟨rfl, h0⟩ | ⟨g, cap, cur, rfl, hb, hh, hn, hc, hz, _⟩⟩ := h
  · obtain rfl : l = [] := List.length_eq_zero_iff.1 h0
    exact ⟨none, 0, rfl, RwAt.nil (by omega)⟩
  · refine ⟨_, _, rfl, hn, hc, .inr ⟨g, 0, rfl, rfl, fun i hi => ?_⟩⟩
    have h1 := World.ownsRow.cells h' (g := g) rfl (i * 2) (.int .i64 l[i].1) (by rw [List.getElem?_map, (pcl_get l i hi).1]; rfl)
    have h2 := World.ownsRow.cells h' (g := g) rfl (i * 2 + 1) (.int .i64 l[i].2) (by rw [List.getElem?_map, (pcl_get l i hi).2]; rfl)
    rw [addr0'] at h1 h2
    have := hok _ (List.getElem_mem hi)
    exact ⟨this.1, this.2, by rw [Nat.zero_add]; exact h1, by rw [Nat.zero_add]; exact h2⟩

theorem own_set {w : World} {base sz g n cap : Nat} {e : TypeId} {xs : List Value} (h : w.ownsRow base e sz (.slice (some ⟨g, 0, none⟩) n cap) n xs) (j : Nat) (x : Value) :
    (w.setCell ⟨g, j, none⟩ x).ownsRow base e sz (.slice (some ⟨g, 0, none⟩) n cap) n (xs.set j x) := by
  obtain ⟨hl, ⟨h1, _⟩ | ⟨g', cap', cur, h1, h2, h3, h4, h5, h6, h7⟩⟩ := h
  · simp at h1
  · simp only [Value.slice.injEq, Option.some.injEq, Addr.mk.injEq, and_true] at h1
    obtain ⟨rfl, _, rfl⟩ := h1
    refine ⟨by simpa using hl, .inr ⟨g, cap, cur.setIfInBounds j x, rfl, h2, Blk.set_ (w := w) h3 j x, h4, h5, by simpa using h6, ?_⟩⟩
    rw [Array.toList_setIfInBounds, List.take_set, h7]

/-- A trace as cells: its key, what it used laid flat, its value. -/
structure Rt where
  k : Int
  f : List Int
  v : Int
def Tr.raw (t : Tr) : Rt := ⟨t.k, pcl t.u, t.v⟩

def tcl : List Rt → List Value → List Value
  | t :: r, u :: us => .int .i64 t.k :: u :: .int .i64 t.v :: tcl r us
  | [], _ => []
  | _ :: _, [] => []
def SubR (w : World) (base : Nat) : List Rt → List Value → Prop
  | t :: r, u :: us => FRow w base u (t.f.length / 2) t.f ∧ SubR w base r us
  | [], [] => True
  | [], _ :: _ => False
  | _ :: _, [] => False

theorem SubR.len {w : World} {base : Nat} : ∀ {l : List Rt} {us : List Value}, SubR w base l us → us.length = l.length
  | [], [], _ => rfl
  | t :: r, u :: us, h => by simp [SubR.len h.2]
  | [], _ :: _, h => h.elim
  | _ :: _, [], h => h.elim
theorem SubR.get {w : World} {base : Nat} : ∀ {l : List Rt} {us : List Value}, SubR w base l us → ∀ i (h : i < l.length), ∃ u, us[i]? = some u ∧ FRow w base u (l[i].f.length / 2) l[i].f
  | [], [], _, i, h => by simp at h
  | t :: r, u :: us, h, 0, _ => ⟨u, rfl, h.1⟩
  | t :: r, u :: us, h, i + 1, hi => SubR.get (l := r) (us := us) h.2 i (by simpa using hi)
  | [], _ :: _, h, _, _ => h.elim
  | _ :: _, [], h, _, _ => h.elim
theorem SubR.of {w : World} {base : Nat} : ∀ {l : List Rt} {us : List Value}, us.length = l.length → (∀ i (h : i < l.length) u, us[i]? = some u → FRow w base u (l[i].f.length / 2) l[i].f) → SubR w base l us
  | [], [], _, _ => trivial
  | t :: r, u :: us, hl, h => ⟨h 0 (by simp) u rfl, SubR.of (by simpa using hl) fun i hi u' hu => h (i + 1) (by simpa using hi) u' (by simpa using hu)⟩
  | [], _ :: _, hl, _ => by simp at hl
  | _ :: _, [], hl, _ => by simp at hl
theorem SubR.snoc {w : World} {base : Nat} : ∀ {l : List Rt} {us : List Value} {t : Rt} {u : Value}, SubR w base l us → FRow w base u (t.f.length / 2) t.f → SubR w base (l ++ [t]) (us ++ [u])
  | [], [], _, _, _, h => ⟨h, trivial⟩
  | _ :: _, _ :: _, _, _, h, h' => ⟨h.1, SubR.snoc h.2 h'⟩
  | [], _ :: _, _, _, h, _ => h.elim
  | _ :: _, [], _, _, h, _ => h.elim
theorem tcl_len : ∀ {l : List Rt} {us : List Value}, us.length = l.length → (tcl l us).length = l.length * 3
  | [], [], _ => rfl
  | t :: r, u :: us, h => by simp [tcl, tcl_len (l := r) (us := us) (by simpa using h)]; omega
  | [], _ :: _, h => by simp at h
  | _ :: _, [], h => by simp at h
theorem tcl_get : ∀ {l : List Rt} {us : List Value}, us.length = l.length → ∀ i (h : i < l.length) u, us[i]? = some u →
    (tcl l us)[i * 3]? = some (.int .i64 l[i].k) ∧ (tcl l us)[i * 3 + 1]? = some u ∧ (tcl l us)[i * 3 + 2]? = some (.int .i64 l[i].v)
  | [], [], _, i, h, _, _ => by simp at h
  | t :: r, u :: us, _, 0, _, _, hu => by simp at hu; subst hu; simp [tcl]
  | t :: r, u :: us, hl, i + 1, hi, u', hu => by
    have := tcl_get (l := r) (us := us) (by simpa using hl) i (by simpa using hi) u' (by simpa using hu)
    rw [show (i + 1) * 3 = i * 3 + 3 by omega]
    simpa [tcl] using this
  | [], _ :: _, h, _, _, _, _ => by simp at h
  | _ :: _, [], h, _, _, _, _ => by simp at h
theorem tcl_snoc : ∀ {l : List Rt} {us : List Value}, us.length = l.length → ∀ t u, tcl (l ++ [t]) (us ++ [u]) = tcl l us ++ [.int .i64 t.k, u, .int .i64 t.v]
  | [], [], _, _, _ => rfl
  | t :: r, u :: us, h, _, _ => by simp [tcl, tcl_snoc (l := r) (us := us) (by simpa using h)]
  | [], _ :: _, h, _, _ => by simp at h
  | _ :: _, [], h, _, _ => by simp at h
theorem tcl_set : ∀ {l : List Rt} {us : List Value}, us.length = l.length → ∀ i, i < l.length → ∀ (t : Rt) (u : Value), tcl (l.set i t) (us.set i u) = (((tcl l us).set (i * 3) (.int .i64 t.k)).set (i * 3 + 1) u).set (i * 3 + 2) (.int .i64 t.v)
  | [], [], _, _, h, _, _ => by simp at h
  | t :: r, u :: us, _, 0, _, _, _ => by simp [tcl]
  | t :: r, u :: us, h, i + 1, hi, _, _ => by
    have := tcl_set (l := r) (us := us) (by simpa using h) i (by simpa using hi)
    rw [show (i + 1) * 3 = i * 3 + 3 by omega]
    simp [tcl, this]
  | [], _ :: _, h, _, _, _, _ => by simp at h
  | _ :: _, [], h, _, _, _, _ => by simp at h

/-- Traces of the call's own, from block 'base' on. -/
structure TrsOw (w : World) (base : Nat) (v : Value) (l : List Rt) (us : List Value) : Prop where
  row : w.ownsRow base 25 3 v l.length (tcl l us)
  sub : SubR w base l us
  ne : ∀ u ∈ us, ∀ b, u.ownBlock = some b → v.ownBlock ≠ some b
  dis : us.Pairwise fun x y => ∀ b, x.ownBlock = some b → y.ownBlock ≠ some b
/-- The blocks in which they lie. -/
def trD (v : Value) (us : List Value) (b : Nat) : Prop := v.ownBlock = some b ∨ ∃ u ∈ us, u.ownBlock = some b

section
variable {w w' : World} {base : Nat} {v : Value} {l : List Rt} {us : List Value}
theorem TrsOw.len (h : TrsOw w base v l us) : us.length = l.length := h.sub.len
theorem TrsOw.lt (h : TrsOw w base v l us) {b : Nat} (hb : trD v us b) : base ≤ b ∧ b < w.heap.size := by
  rcases hb with hb | ⟨u, hu, hb⟩
  · exact World.ownsRow.lt h.row b hb
  · obtain ⟨i, hi, rfl⟩ := List.getElem_of_mem hu
    obtain ⟨u, hu', hf⟩ := h.sub.get i (by rw [← h.len]; exact hi)
    rw [List.getElem?_eq_getElem hi] at hu'
    injection hu' with hu'
    subst hu'
    exact World.ownsRow.lt hf b hb
theorem TrsOw.fr {D : Nat → Prop} (h : TrsOw w base v l us) (hf : Fr D w w') (hD : ∀ b, trD v us b → ¬ D b) : TrsOw w' base v l us := by
  refine ⟨ownsRow_fr h.row hf (fun b hb => hD b (.inl hb)), SubR.of h.len fun i hi u hu => ?_, h.ne, h.dis⟩
  obtain ⟨u', hu', hr⟩ := h.sub.get i hi
  rw [hu] at hu'
  injection hu' with hu'
  subst hu'
  exact ownsRow_fr hr hf (fun b hb => hD b (.inr ⟨u, List.mem_of_getElem? hu, hb⟩))
theorem TrsOw.below (h : TrsOw w base v l us) (hb : Below w.heap.size w w') : TrsOw w' base v l us := TrsOw.fr (D := fun _ => False) h (Fr.of_below hb) (fun _ _ hf => hf.elim)
theorem TrsOw.alloc (h : TrsOw w base v l us) (o : Obj) : TrsOw (w.alloc o) base v l us := h.below ((Below.refl _ _).alloc (Nat.le_refl _) o)
theorem TrsOw.drew (h : TrsOw w base v l us) : TrsOw w.drew base v l us := h.below (Below.refl _ _).drew
theorem TrsOw.low {base' : Nat} (h : TrsOw w base v l us) (hb : base' ≤ base) : TrsOw w base' v l us := by
  refine ⟨ownsRow_low h.row hb, SubR.of h.len fun i hi u hu => ?_, h.ne, h.dis⟩
  obtain ⟨u', hu', hr⟩ := h.sub.get i hi
  rw [hu] at hu'
  injection hu' with hu'
  subst hu'
  exact ownsRow_low hr hb
/-- The element i: its cells, what it used. -/
theorem TrsOw.get (h : TrsOw w base v l us) (i : Nat) (hi : i < l.length) : ∃ g cap u, v = .slice (some ⟨g, 0, none⟩) l.length cap ∧ g < w.heap.size ∧ base ≤ g ∧ us[i]? = some u ∧ FRow w base u (l[i].f.length / 2) l[i].f ∧
    w.cell? ⟨g, i * 3, none⟩ = some (.int .i64 l[i].k) ∧ w.cell? ⟨g, i * 3 + 1, none⟩ = some u ∧ w.cell? ⟨g, i * 3 + 2, none⟩ = some (.int .i64 l[i].v) ∧ (∀ j, w.frozen? ⟨g, j, none⟩ = false) := by
  obtain ⟨u, hu, hf⟩ := h.sub.get i hi
  obtain ⟨g, cap, rfl⟩ := own_some h.row (by omega)
  obtain ⟨t0, t1, t2⟩ := tcl_get h.len i hi u hu
  have c0 := World.ownsRow.cells h.row (g := g) rfl _ _ t0
  have c1 := World.ownsRow.cells h.row (g := g) rfl _ _ t1
  have c2 := World.ownsRow.cells h.row (g := g) rfl _ _ t2
  rw [addr0'] at c0 c1 c2
  have hlt := World.ownsRow.lt h.row g rfl
  obtain ⟨_, ⟨h1, _⟩ | ⟨g', cap', cur, h1, _, h3, _⟩⟩ := h.row
  · simp at h1
  · simp only [Value.slice.injEq, Option.some.injEq, Addr.mk.injEq, and_true] at h1
    obtain ⟨rfl, _⟩ := h1
    exact ⟨g, cap, u, rfl, hlt.2, hlt.1, hu, hf, c0, c1, c2, fun j => Blk.frozen (w := w) h3 j⟩
theorem pw_get {us : List Value} (h : us.Pairwise fun x y => ∀ b, x.ownBlock = some b → y.ownBlock ≠ some b) {i j : Nat} {x y : Value} (hi : us[i]? = some x) (hj : us[j]? = some y) (hij : i ≠ j) (b : Nat) (hb : x.ownBlock = some b) : y.ownBlock ≠ some b := by
  obtain ⟨h1, rfl⟩ := List.getElem?_eq_some_iff.1 hi
  obtain ⟨h2, rfl⟩ := List.getElem?_eq_some_iff.1 hj
  rcases Nat.lt_or_gt_of_ne hij with hlt | hlt
  · exact List.pairwise_iff_getElem.1 h i j h1 h2 hlt b hb
  · intro hy
    exact List.pairwise_iff_getElem.1 h j i h2 h1 hlt b hy hb
/-- A number of the element i is stored. -/
theorem TrsOw.setN {g n cap : Nat} (h : TrsOw w base (.slice (some ⟨g, 0, none⟩) n cap) l us) (i : Nat) (hi : i < l.length) (j : Nat) (x : Int) (t : Rt) (htf : t.f = l[i].f)
    (hj : (j = i * 3 ∧ t.k = x ∧ t.v = l[i].v) ∨ (j = i * 3 + 2 ∧ t.v = x ∧ t.k = l[i].k)) : TrsOw (w.setCell ⟨g, j, none⟩ (.int .i64 x)) base (.slice (some ⟨g, 0, none⟩) n cap) (l.set i t) us := by
  have hnl : n = l.length := by
    obtain ⟨g', cap', _, h1, _⟩ := h.get i hi
    simp only [Value.slice.injEq] at h1
    exact h1.2.1
  subst hnl
  obtain ⟨u, hu, hf⟩ := h.sub.get i hi
  obtain ⟨t0, t1, t2⟩ := tcl_get h.len i hi u hu
  have hset := own_set h.row j (.int .i64 x)
  have hus : us.set i u = us := by
    obtain ⟨h1, rfl⟩ := List.getElem?_eq_some_iff.1 hu
    exact List.set_getElem_self h1
  have he : tcl (l.set i t) us = (tcl l us).set j (.int .i64 x) := by
    have h1 := tcl_set h.len i hi t u
    rw [hus] at h1
    rw [h1]
    have hlen := tcl_len h.len
    refine List.ext_getElem? fun m => ?_
    simp only [List.getElem?_set, List.length_set]
    rcases hj with ⟨rfl, h1, h2⟩ | ⟨rfl, h1, h2⟩
    · by_cases m0 : i * 3 + 2 = m
      · subst m0; simp [hlen, t2, h2]; omega
      · by_cases m1 : i * 3 + 1 = m
        · subst m1; simp [hlen, t1]; omega
        · simp [m0, m1, h1]
    · by_cases m0 : i * 3 + 2 = m
      · subst m0; simp [h1]
      · by_cases m1 : i * 3 + 1 = m
        · subst m1; simp [hlen, t1]; omega
        · by_cases m2 : i * 3 = m
          · subst m2; simp [hlen, t0, h2]; omega
          · simp [m0, m1, m2]
  refine ⟨?_, ?_, h.ne, h.dis⟩
  · rw [List.length_set, he]; exact hset
  · refine SubR.of (by rw [List.length_set]; exact h.len) fun k hk u' hu' => ?_
    rw [List.length_set] at hk
    obtain ⟨u2, hu2, hr⟩ := h.sub.get k hk
    rw [hu'] at hu2
    injection hu2 with hu2
    subst hu2
    have hf2 : (l.set i t)[k].f = l[k].f := by
      rw [List.getElem_set]
      split
      · subst_vars; exact htf
      · rfl
    rw [hf2]
    exact ownsRow_setCell_other hr (a := ⟨g, j, none⟩) (by intro e; exact h.ne u' (List.mem_of_getElem? hu') g e rfl) _
/-- What the element i used is stored. -/
theorem TrsOw.setU {g n cap : Nat} (h : TrsOw w base (.slice (some ⟨g, 0, none⟩) n cap) l us) (i : Nat) (hi : i < l.length) (t : Rt) (u : Value) (h1 : t.k = l[i].k) (h2 : t.v = l[i].v) (hr : FRow w base u (t.f.length / 2) t.f)
    (hd : ∀ b, u.ownBlock = some b → ¬ trD (.slice (some ⟨g, 0, none⟩) n cap) us b) : TrsOw (w.setCell ⟨g, i * 3 + 1, none⟩ u) base (.slice (some ⟨g, 0, none⟩) n cap) (l.set i t) (us.set i u) := by
  have hnl : n = l.length := by
    obtain ⟨g', cap', _, h1, _⟩ := h.get i hi
    simp only [Value.slice.injEq] at h1
    exact h1.2.1
  subst hnl
  obtain ⟨u0, hu, hf⟩ := h.sub.get i hi
  have hiu : i < us.length := by rw [h.len]; exact hi
  obtain ⟨t0, t1, t2⟩ := tcl_get h.len i hi u0 hu
  have hset := own_set h.row (i * 3 + 1) u
  have he : tcl (l.set i t) (us.set i u) = (tcl l us).set (i * 3 + 1) u := by
    rw [tcl_set h.len i hi t u]
    have hlen := tcl_len h.len
    refine List.ext_getElem? fun m => ?_
    simp only [List.getElem?_set, List.length_set]
    by_cases m0 : i * 3 + 2 = m
    · subst m0; simp [hlen, t2, h2]; omega
    · by_cases m2 : i * 3 = m
      · subst m2; simp [hlen, t0, h1]; omega
      · simp [m0, m2]
  refine ⟨by rw [List.length_set, he]; exact hset, ?_, ?_, ?_⟩
  · refine SubR.of (by simp [h.len]) fun k hk u' hu' => ?_
    rw [List.length_set] at hk
    rw [List.getElem_set]
    rw [List.getElem?_set] at hu'
    split at hu'
    · rename_i hik
      subst hik
      injection hu' with hu'
      subst hu'
      simp only [↓reduceIte]
      exact ownsRow_setCell_other hr (a := ⟨g, i * 3 + 1, none⟩) (by intro e; exact hd g e (.inl rfl)) _
    · rename_i hik
      rw [if_neg hik]
      obtain ⟨u2, hu2, hr2⟩ := h.sub.get k hk
      rw [hu'] at hu2
      injection hu2 with hu2
      subst hu2
      exact ownsRow_setCell_other hr2 (a := ⟨g, i * 3 + 1, none⟩) (by intro e; exact h.ne u' (List.mem_of_getElem? hu') g e rfl) _
  · intro x hx b hb
    rcases List.mem_or_eq_of_mem_set hx with hx | rfl
    · exact h.ne x hx b hb
    · intro e; exact hd b hb (.inl e)
  · rw [List.pairwise_iff_getElem]
    intro p q hp hq hpq b hb
    rw [List.length_set] at hp hq
    rw [List.getElem_set] at hb ⊢
    by_cases e1 : i = p
    · rw [if_pos e1] at hb
      rw [if_neg (by omega)]
      intro e
      exact hd b hb (.inr ⟨_, List.getElem_mem hq, e⟩)
    · rw [if_neg e1] at hb
      by_cases e2 : i = q
      · rw [if_pos e2]
        intro e
        exact hd b e (.inr ⟨_, List.getElem_mem hp, hb⟩)
      · rw [if_neg e2]
        exact List.pairwise_iff_getElem.1 h.dis p q hp hq hpq b hb
/-- What the element i used has turned in its place. -/
theorem TrsOw.turn (h : TrsOw w base v l us) (i : Nat) (hi : i < l.length) (t : Rt) (u : Value) (hu : us[i]? = some u) (h1 : t.k = l[i].k) (h2 : t.v = l[i].v) (hr : FRow w' base u (t.f.length / 2) t.f)
    (hg : Fr (fun b => u.ownBlock = some b) w w') : TrsOw w' base v (l.set i t) us := by
  have hus : us.set i u = us := by
    obtain ⟨h1, rfl⟩ := List.getElem?_eq_some_iff.1 hu
    exact List.set_getElem_self h1
  have he : tcl (l.set i t) us = tcl l us := by
    have h3 := tcl_set h.len i hi t u
    rw [hus] at h3
    rw [h3]
    obtain ⟨t0, t1, t2⟩ := tcl_get h.len i hi u hu
    have hlen := tcl_len h.len
    refine List.ext_getElem? fun m => ?_
    simp only [List.getElem?_set, List.length_set]
    by_cases m0 : i * 3 + 2 = m
    · subst m0; simp [hlen, t2, h2]; omega
    · by_cases m1 : i * 3 + 1 = m
      · subst m1; simp [hlen, t1]; omega
      · by_cases m2 : i * 3 = m
        · subst m2; simp [hlen, t0, h1]; omega
        · simp [m0, m1, m2]
  refine ⟨?_, ?_, h.ne, h.dis⟩
  · rw [List.length_set, he]
    exact ownsRow_fr h.row hg (fun b hb hd => h.ne u (List.mem_of_getElem? hu) b hd hb)
  · refine SubR.of (by rw [List.length_set]; exact h.len) fun k hk u' hu' => ?_
    rw [List.length_set] at hk
    rw [List.getElem_set]
    split
    · rename_i hik
      subst hik
      rw [hu] at hu'
      injection hu' with hu'
      subst hu'
      exact hr
    · rename_i hik
      obtain ⟨u2, hu2, hr2⟩ := h.sub.get k hk
      rw [hu'] at hu2
      injection hu2 with hu2
      subst hu2
      exact ownsRow_fr hr2 hg (fun b hb hd => pw_get h.dis hu hu' hik b hd hb)
/-- Read as what they are. -/
theorem TrsOw.at {ts : List Tr} (h : TrsOw w base v (ts.map Tr.raw) us) (hok : ∀ t ∈ ts, i64ok t.k ∧ i64ok t.v ∧ ∀ p ∈ t.u, i64ok p.1 ∧ i64ok p.2) : ∃ a c, v = .slice a ts.length c ∧ TrsAt w (trD v us) ts a c := by
  by_cases h0 : ts.length = 0
  · obtain rfl : ts = [] := List.length_eq_zero_iff.1 h0
    obtain ⟨_, ⟨rfl, _⟩ | ⟨g, cap, cur, rfl, _, _, _, hc, _⟩⟩ := h.row
    · exact ⟨none, 0, rfl, RwAt.nil (by omega)⟩
    · exact ⟨_, cap, rfl, RwAt.nil hc⟩
  · obtain ⟨g, cap, _, hv, _⟩ := h.get 0 (by simp; omega)
    rw [List.length_map] at hv
    subst hv
    have hcap : ts.length ≤ cap ∧ cap ≤ 9223372036854775807 := by
      obtain ⟨_, ⟨h1, _⟩ | ⟨g', cap', cur, h1, _, h3, h4, h5, _⟩⟩ := h.row
      · simp at h1
      · simp only [Value.slice.injEq, List.length_map] at h1 h4
        obtain ⟨_, _, rfl⟩ := h1
        exact ⟨h4, h5⟩
    refine ⟨_, _, rfl, hcap.1, hcap.2, .inr ⟨g, 0, rfl, .inl rfl, fun i hi => ?_⟩⟩
    obtain ⟨g', cap', u, hv, _, _, hu, hf, c0, c1, c2, _⟩ := h.get i (by simpa using hi)
    simp only [Value.slice.injEq, Option.some.injEq, Addr.mk.injEq, and_true] at hv
    obtain ⟨rfl, _⟩ := hv
    simp only [List.getElem_map, Tr.raw] at hf c0 c2
    rw [pcl_len, Nat.mul_div_cancel _ (by decide)] at hf
    obtain ⟨ok1, ok2, ok3⟩ := hok _ (List.getElem_mem hi)
    obtain ⟨a', c', rfl, hp⟩ := hf.prs ok3
    rw [Nat.zero_add]
    exact ⟨ok1, ok2, c0, c2, a', c', c1, hp.weaken fun b hb => .inr ⟨_, List.mem_of_getElem? hu, hb⟩⟩
end
end Go.Proofs.Ytjbggeeadodmpaa
/- szTrace, szTraceS, toFetchS, toTrace, eqFetchS, eqTrace, eqTraceS -/
namespace Go.Proofs.Ytjbggeeadodmpaa
open Go.RowKit

def trN : List Tr → Nat
  | [] => 0
  | t :: r => 1 + t.u.length + trN r
theorem trN_ge : ∀ l : List Tr, l.length ≤ trN l
  | [] => by simp [trN]
  | t :: r => by have := trN_ge r; simp only [trN, List.length_cons]; omega
theorem trN_append : ∀ l l' : List Tr, trN (l ++ l') = trN l + trN l'
  | [], l' => by simp [trN]
  | t :: r, l' => by have := trN_append r l'; simp only [trN, List.cons_append]; omega
theorem trN_snoc (l : List Tr) (i : Nat) (h : i < l.length) : trN (l.take (i + 1)) = trN (l.take i) + 1 + l[i].u.length := by
  rw [List.take_succ_eq_append_getElem h, trN_append]; simp [trN]; omega
theorem trN_rest (l : List Tr) (i : Nat) : trN (l.take i) + (l.length - i) ≤ trN l := by
  have h := trN_append (l.take i) (l.drop i)
  rw [List.take_append_drop] at h
  have := trN_ge (l.drop i)
  rw [List.length_drop] at this
  omega

end Go.Proofs.Ytjbggeeadodmpaa
/- spec.l5Once, spec.l5Holds, spec.l5One, spec.TraceHolds, spec.TracesOk -/
namespace Go.Proofs.Ytjbggeeadodmpaa
open Go.RowKit

def ostep (acc : List (Int × Int)) (p : Int × Int) : List (Int × Int) := if p.1 ∈ keysOf acc then acc else acc ++ [p]
def onceP (l : List (Int × Int)) : List (Int × Int) := l.foldl ostep []
theorem onceP_snoc {l : List (Int × Int)} {k : Nat} (h : k < l.length) : onceP (l.take (k + 1)) = ostep (onceP (l.take k)) l[k] := by
  unfold onceP; rw [List.take_succ_eq_append_getElem h, List.foldl_append]; rfl
theorem foldl_ostep_len : ∀ (l acc : List (Int × Int)), (l.foldl ostep acc).length ≤ acc.length + l.length
  | [], acc => by simp
  | p :: r, acc => by
    have h := foldl_ostep_len r (ostep acc p)
    have : (ostep acc p).length ≤ acc.length + 1 := by unfold ostep; split <;> simp
    simp only [List.foldl_cons, List.length_cons]
    omega
theorem onceP_len (l : List (Int × Int)) : (onceP l).length ≤ l.length := by have := foldl_ostep_len l []; simpa [onceP] using this
theorem foldl_ostep_nd : ∀ (l acc : List (Int × Int)), ((l.foldl ostep acc).length = acc.length + l.length ↔ ((keysOf l).Nodup ∧ ∀ p ∈ l, ¬ p.1 ∈ keysOf acc))
  | [], acc => by simp [keysOf]
  | p :: r, acc => by
    by_cases hp : p.1 ∈ keysOf acc
    · have e : ostep acc p = acc := by unfold ostep; rw [if_pos hp]
      have h := foldl_ostep_len r acc
      simp only [List.foldl_cons, List.length_cons, e]
      constructor
      · intro h2; omega
      · rintro ⟨_, h2⟩; exact absurd hp (h2 p (by simp))
    · have e : ostep acc p = acc ++ [p] := by unfold ostep; rw [if_neg hp]
      have ih := foldl_ostep_nd r (acc ++ [p])
      simp only [List.foldl_cons, List.length_cons, e]
      rw [show acc.length + (r.length + 1) = (acc ++ [p]).length + r.length by simp; omega, ih]
      have hk : keysOf (acc ++ [p]) = keysOf acc ++ [p.1] := by simp [keysOf]
      have hk2 : keysOf (p :: r) = p.1 :: keysOf r := rfl
      rw [hk, hk2, List.nodup_cons]
      constructor
      · rintro ⟨h1, h2⟩
        refine ⟨⟨fun hm => ?_, h1⟩, fun q hq => ?_⟩
        · obtain ⟨q, hq, e⟩ := List.mem_map.1 hm
          exact h2 q hq (by rw [e]; simp)
        · rcases List.mem_cons.1 hq with rfl | hq
          · exact hp
          · exact fun hm => h2 q hq (by simp [hm])
      · rintro ⟨⟨h0, h1⟩, h2⟩
        refine ⟨h1, fun q hq hm => ?_⟩
        rw [List.mem_append, List.mem_singleton] at hm
        rcases hm with hm | hm
        · exact h2 q (by simp [hq]) hm
        · exact h0 (List.mem_map.2 ⟨q, hq, hm⟩)
theorem onceP_nd (l : List (Int × Int)) : decide ((onceP l).length = l.length) = nd (keysOf l) := by
  have h := foldl_ostep_nd l []
  rw [Bool.eq_iff_iff, nd_iff, decide_eq_true_eq]
  unfold onceP
  simpa [keysOf] using h
theorem onceP_map (vs : Int → Int) (ks : List Int) : onceP (ks.map fun k => (k, vs k)) = (usesL ks).map fun k => (k, vs k) := by
  have key : ∀ (ks acc : List Int), (ks.map fun k => (k, vs k)).foldl ostep (acc.map fun k => (k, vs k)) = (ks.foldl ustep acc).map fun k => (k, vs k) := by
    intro ks
    induction ks with
    | nil => intro acc; rfl
    | cons k r ih =>
      intro acc
      simp only [List.map_cons, List.foldl_cons]
      rw [← ih]
      congr 1
      have hm : keysOf (acc.map fun k => (k, vs k)) = acc := by simp [keysOf, Function.comp_def]
      unfold ostep ustep
      rw [hm]
      by_cases hk : k ∈ acc
      · rw [if_pos hk, if_pos hk]
      · rw [if_neg hk, if_neg hk]; simp
  exact key ks []

theorem frow_nil (w : World) : FRow (w.alloc (.cells #[] 63)) w.heap.size (.slice (some ⟨w.heap.size, 0, none⟩) 0 0) 0 [] :=
  ⟨by simp, .inr ⟨w.heap.size, 0, #[], rfl, Nat.le_refl _, heap_alloc_new w _, Nat.le_refl _, by decide, by simp, by simp⟩⟩

/-- What a list of pairs of the call's own leaves. -/
def PPost (l : List (Int × Int)) (w : World) (e : Ending) (w' : World) : Prop := ∃ v, e = .returned v ∧ FRow w' w.heap.size v l.length (pcl l) ∧ Below w.heap.size w w'

set_option maxRecDepth 100000 in
set_option maxHeartbeats 4000000 in
theorem once_any (w : World) (S : Nat → Prop) (l : List (Int × Int)) (a : Option Addr) (c : Nat) (h : PrsAt w S l a c) (hl : l.length ≤ 1000000) :
    Calls Try.prog 72 #[.slice a l.length c] w (PPost (onceP l) w) := by
  obtain ⟨iF, fi, fz0, fz1, fz2⟩ := info_parts infoFetch
  have HIF := Lib.hid (And.intro fi (And.intro fz0 (And.intro fz1 fz2)))
  have HP := Lib.hid h
  have hok : ∀ p ∈ l, i64ok p.1 ∧ i64ok p.2 := by
    intro p hp
    obtain ⟨i, hi, rfl⟩ := List.getElem_of_mem hp
    obtain ⟨_, _, _, _, _, _, _, h1, h2⟩ := h.get (Below.refl _ _) hi
    exact ⟨h1, h2⟩
  have HOK := Lib.hid hok
  have HR0 := Lib.hid (frow_nil w)
  have HML := Lib.hid (show maxLen = 9223372036854775807 from rfl)
  have hlm : l.length ≤ 9223372036854775807 := by omega
  have HLE := Lib.hid hl
  have HB0 := Lib.hid ((Below.refl w.heap.size w).alloc (Nat.le_refl _) (.cells #[] 63))
  clear h hok fi fz0 fz1 fz2
  go_enter Try.func72, Try.ntmps72
  go_wp2_with fail
  go_loopw [3, 4] (fun v i wr => ∃ k : Nat, k ≤ l.length ∧ i = .int .i64 k ∧ FRow wr w.heap.size v (onceP (l.take k)).length (pcl (onceP (l.take k))) ∧ Below w.heap.size w wr) (fun _ i _ => l.length - (intOf i).toNat)
  case atStart => exact ⟨0, by omega, rfl, HR0.out, HB0.out⟩
  case round =>
    obtain ⟨k, hk, rfl, hr, hb⟩ := hrel
    have HR := Lib.hid hr
    have HB := Lib.hid hb
    have hwr := hb.size
    clear hr hb HR0 HB0
    by_cases hlt : k < l.length
    · have hol := onceP_len (l.take k)
      have HOS := Lib.hid (onceP_snoc hlt)
      obtain ⟨b, o, rfl, hbl, _, e0, e1, ok0, ok1⟩ := HP.out.get HB.out hlt
      obtain ⟨acc, hacc⟩ : ∃ acc, acc = onceP (l.take k) := ⟨_, rfl⟩
      have hal : acc.length ≤ 1000000 := by rw [hacc]; rw [List.length_take] at hol; omega
      have hokA : ∀ p ∈ acc, i64ok p.1 ∧ i64ok p.2 := by
        have key : ∀ (l acc : List (Int × Int)) (p : Int × Int), p ∈ l.foldl ostep acc → p ∈ acc ∨ p ∈ l := by
          intro l
          induction l with
          | nil => intro acc p hp; exact .inl hp
          | cons q r ih =>
            intro acc p hp
            rcases ih _ p hp with h | h
            · unfold ostep at h
              split at h
              · exact .inl h
              · rw [List.mem_append, List.mem_singleton] at h
                rcases h with h | rfl
                · exact .inl h
                · exact .inr (by simp)
            · exact .inr (by simp [h])
        intro p hp
        rw [hacc] at hp
        rcases key _ _ p hp with h | h
        · cases h
        · exact HOK.out p (List.mem_of_mem_take h)
      rw [← hacc] at HR HOS
      obtain ⟨p, hp⟩ : ∃ p, p = l[k] := ⟨_, rfl⟩
      rw [← hp] at e0 e1 HOS
      obtain ⟨key, val⟩ := p
      simp only at e0 e1
      obtain ⟨av, cv, rfl, hat⟩ := HR.out.prs hokA
      have HA := Lib.hid hat
      have hav : acc.length ≤ 9223372036854775807 := by omega
      clear hol hacc hp hat hokA ok0 ok1
      go_wp2_with fail
      go_loopw [5, 6] (fun f i2 wr2 => ∃ j : Nat, j ≤ acc.length ∧ i2 = .int .i64 j ∧ f = .bool (decide (key ∈ keysOf (acc.take j))) ∧ Below wr.heap.size wr wr2) (fun _ i2 _ => acc.length - (intOf i2).toNat)
      case atStart => exact ⟨0, by omega, rfl, by simp [keysOf], Below.refl _ _⟩
      case round =>
        obtain ⟨j, hj, rfl, rfl, hb2⟩ := hrel
        have HB2 := Lib.hid hb2
        have hd0 := HB2.out.cell (p := ⟨b, o + k * 2, none⟩) (show b < _ by omega)
        have hd1 := HB2.out.cell (p := ⟨b, o + k * 2 + 1, none⟩) (show b < _ by omega)
        rw [e0] at hd0
        rw [e1] at hd1
        have hw12 := hb2.size
        clear hb2
        by_cases hjl : j < acc.length
        · obtain ⟨b2, o2, rfl, hbl2, _, f0, f1, _, _⟩ := HA.out.get HB2.out hjl
          have HKS := Lib.hid (keysOf_snoc hjl)
          obtain ⟨q, hq⟩ : ∃ q, q = acc[j] := ⟨_, rfl⟩
          rw [← hq] at f0 f1 HKS
          obtain ⟨qk, qv⟩ := q
          simp only at f0 f1 HKS
          clear hq
          by_cases hm : key ∈ keysOf (acc.take j)
          · have HM := Lib.hid hm
            have hmd : decide (key ∈ keysOf (acc.take j)) = true := decide_eq_true hm
            rw [hmd]
            clear hm hmd
            go_wp2_with fail
            go_quiet (fail)
            go_wp2_with fail
            go_roundw
            case rel => exact ⟨j + 1, by omega, by go_num, by rw [HKS.out, decide_eq_true (by rw [List.mem_append]; exact .inl HM.out)], below_drewN HB2.out _⟩
            case measure => simp [intOf]; omega
          · have HM := Lib.hid hm
            have hmd : decide (key ∈ keysOf (acc.take j)) = false := decide_eq_false hm
            rw [hmd]
            have HE := Lib.hid (show (qk == key) = decide (key ∈ keysOf (acc.take (j + 1))) by
              rw [HKS.out, Bool.eq_iff_iff, beq_iff_eq, decide_eq_true_eq, List.mem_append, List.mem_singleton]
              exact ⟨fun h => .inr h.symm, fun h => h.elim (fun h => absurd h hm) (fun h => h.symm)⟩)
            obtain ⟨z, hz⟩ : ∃ z, z = (qk == key) := ⟨_, rfl⟩
            have HZ := Lib.hid hz
            have hz' : (qk == key) = z := hz.symm
            clear hm hmd hz
            go_wp2_with fail
            go_quiet (fail)
            go_wp2_with fail
            go_roundw
            case rel => exact ⟨j + 1, by omega, by go_num, by rw [← HE.out, ← HZ.out], below_drewN HB2.out _⟩
            case measure => simp [intOf]; omega
        · have hjt : acc.take j = acc := List.take_of_length_le (by omega)
          have HB3 := Lib.hid (HB.out.trans (HB2.out.mono hwr))
          have HR3 := Lib.hid (show FRow wr w.heap.size (.slice av acc.length cv) acc.length (pcl acc) from HR.out.below HB2.out)
          rw [hjt]
          clear hjt
          by_cases hm : key ∈ keysOf acc
          · have hn : onceP (l.take (k + 1)) = acc := by rw [HOS.out]; unfold ostep; rw [if_pos hm]
            have HN := Lib.hid hn
            have hmd : decide (key ∈ keysOf acc) = true := decide_eq_true hm
            rw [hmd]
            clear hm hmd hn
            go_wp2_with fail
            go_roundw
            case rel => exact ⟨k + 1, by omega, by go_num, by rw [HN.out]; exact HR3.out, HB3.out⟩
            case measure => simp [intOf]; omega
          · have hn : onceP (l.take (k + 1)) = acc ++ [(key, val)] := by rw [HOS.out]; unfold ostep; rw [if_neg hm]
            have HN := Lib.hid hn
            have hmd : decide (key ∈ keysOf acc) = false := decide_eq_false hm
            rw [hmd]
            have hs3 := HB3.out.size
            clear hm hmd hn
            go_wp2_with (at_builtin; refine wpList_append_row _ rfl (.tmp 36) (.tmp 41) 23 rfl w.heap.size 63 iF (.agg #[.int .i64 0, .int .i64 0]) 2 16 Try.underlying23 HIF.out.1 HIF.out.2.1 HIF.out.2.2.1 HIF.out.2.2.2 rfl (by decide) _ acc.length ((pcl acc).map (.int .i64)) rfl (World.ownsRow.alloc HR3.out _) ⟨wr.heap.size, 0, none⟩ 1 1 [.int .i64 key, .int .i64 val] rfl rfl ?c1 ?c2 (by decide) ?c3 ?c4 ?c5 ?_)
            case c1 => exact news2 _ _ _ _
            case c2 => simp [Value.oneCell']
            case c3 => rw [HML.out]; omega
            case c4 => omega
            case c5 => simp; omega
            intro v' w1 hown hgr hnew
            have hF1 : FRow w1 w.heap.size v' (onceP (l.take (k + 1))).length (pcl (onceP (l.take (k + 1)))) := by
              rw [HN.out, pcl_append, List.length_append]
              unfold FRow
              rw [List.map_append]
              exact hown
            have hB1 : Below w.heap.size w w1 := (HB3.out.alloc hs3 _).trans (below_grown hgr (by simp; omega) (own_ge HR3.out))
            have HF1 := Lib.hid hF1
            have HB1 := Lib.hid hB1
            clear hown hgr hnew hF1 hB1
            go_wp2_with fail
            go_roundw
            case rel => exact ⟨k + 1, by omega, by go_num, HF1.out, HB1.out⟩
            case measure => simp [intOf]; omega
    · have hq := HR.out
      rw [List.take_of_length_le (by omega)] at hq
      have HQ := Lib.hid hq
      clear hq
      go_wp2_with fail
      go_ret
      exact ⟨_, rfl, HQ.out, HB.out⟩
end Go.Proofs.Ytjbggeeadodmpaa
/- toFetchS, toTrace, toTraceS: copies in memory of their own -/
namespace Go.Proofs.Ytjbggeeadodmpaa
open Go.RowKit

theorem infoTrace : (Try.prog.info? 25).map (fun i => (i.zero, i.size, i.bytes)) = some (some (.agg #[.int .i64 0, .slice none 0 0, .int .i64 0]), 3, 40) := by kernel_rfl

theorem own_shape' {w : World} {base sz n : Nat} {e : TypeId} {v : Value} {xs : List Value} (h : w.ownsRow base e sz v n xs) : ∃ a c, v = .slice a n c := by
  obtain ⟨_, ⟨rfl, rfl⟩ | ⟨g, cap, cur, rfl, _⟩⟩ := h
  · exact ⟨none, 0, rfl⟩
  · exact ⟨_, cap, rfl⟩

/-- What lies in the new list, so long as k pairs are copied. -/
def ovr (l : List (Int × Int)) (k : Nat) : List Int := pcl (l.take k) ++ List.replicate ((l.length - k) * 2) 0
theorem ovr_len (l : List (Int × Int)) (k : Nat) (h : k ≤ l.length) : (ovr l k).length = l.length * 2 := by
  unfold ovr; rw [List.length_append, pcl_len, List.length_replicate, List.length_take]; omega
theorem ovr_succ (l : List (Int × Int)) (k : Nat) (h : k < l.length) : ((ovr l k).set (k * 2) l[k].1).set (k * 2 + 1) l[k].2 = ovr l (k + 1) := by
  unfold ovr
  rw [List.take_succ_eq_append_getElem h, pcl_append]
  have hl : (pcl (l.take k)).length = k * 2 := by rw [pcl_len, List.length_take]; omega
  rw [List.set_append_right _ _ (by omega), List.set_append_right _ _ (by omega), hl, List.append_assoc]
  congr 1
  rw [show (l.length - k) * 2 = (l.length - (k + 1)) * 2 + 1 + 1 by omega, List.replicate_succ, List.replicate_succ]
  simp [pcl]
theorem ovr_all (l : List (Int × Int)) : ovr l l.length = pcl l := by unfold ovr; simp

theorem frow_made (w : World) (n : Nat) (hn : n ≤ 1048576) : FRow (w.alloc (.cells (madeCells #[.int .i64 0, .int .i64 0] (n * 2)) 63)) w.heap.size (.slice (some ⟨w.heap.size, 0, none⟩) n n) n (List.replicate (n * 2) 0) := by
  have hml : maxLen = 9223372036854775807 := rfl
  refine ⟨by simp, .inr ⟨w.heap.size, n, _, rfl, Nat.le_refl _, heap_alloc_new w _, Nat.le_refl _, by rw [hml]; omega, by rw [size_madeCells], ?_⟩⟩
  refine List.ext_getElem (by simp [size_madeCells]) fun i h1 h2 => ?_
  have h2' : i < n * 2 := by simpa using h2
  have key : (madeCells #[Value.int IntKind.i64 0, .int .i64 0] (n * 2))[i]? = some (.int .i64 0) := by
    have : i % 2 = 0 ∨ i % 2 = 1 := by omega
    rcases this with h | h <;> simp [madeCells, h2', h]
  obtain ⟨hx, he⟩ := Array.getElem?_eq_some_iff.1 key
  simp [he]

/-- What toTrace hands back. -/
def CopiedTr (t : Tr) (w : World) (e : Ending) (w' : World) : Prop := ∃ v, e = .returned (.agg #[.int .i64 t.k, v, .int .i64 t.v]) ∧ FRow w' w.heap.size v t.u.length (pcl t.u) ∧ Below w.heap.size w w'

end Go.Proofs.Ytjbggeeadodmpaa
/- arguments and results of an exact law: traces -/
namespace Go.Proofs.Ytjbggeeadodmpaa
open Go.RowKit

def trFine (t : Tr) : Prop := i64ok t.k ∧ i64ok t.v ∧ ∀ p ∈ t.u, i64ok p.1 ∧ i64ok p.2
theorem PrsAt.fine {w : World} {S : Nat → Prop} {l : List (Int × Int)} {a : Option Addr} {c : Nat} (h : PrsAt w S l a c) : ∀ p ∈ l, i64ok p.1 ∧ i64ok p.2 := by
  intro p hp
  obtain ⟨i, hi, rfl⟩ := List.getElem_of_mem hp
  obtain ⟨_, _, _, _, _, _, _, h1, h2⟩ := h.get (Below.refl _ _) hi
  exact ⟨h1, h2⟩
theorem TrsAt.fine {w : World} {S : Nat → Prop} {l : List Tr} {a : Option Addr} {c : Nat} (h : TrsAt w S l a c) : ∀ t ∈ l, trFine t := by
  intro t ht
  obtain ⟨i, hi, rfl⟩ := List.getElem_of_mem ht
  obtain ⟨_, _, _, _, _, _, _, _, _, _, hp, h1, h2⟩ := h.get (Below.refl _ _) hi
  exact ⟨h1, h2, PrsAt.fine hp⟩
/-- A trace in memory of its own, in a block that meets D. -/
def TrOw (w : World) (D : Nat → Prop) (t : Tr) (a : Option Addr) (c : Nat) : Prop := FRow w 0 (.slice a t.u.length c) t.u.length (pcl t.u) ∧ ∀ b, (Value.slice a t.u.length c).ownBlock = some b → D b
def TrMk (w : World) (D : Nat → Prop) (n k : Nat) (a : Option Addr) (c : Nat) : Prop := FRow w 0 (.slice a n c) n (marks k (n * 2)) ∧ ∀ b, (Value.slice a n c).ownBlock = some b → D b
section
variable {w w' : World} {D : Nat → Prop} {t : Tr} {a : Option Addr} {c n k : Nat}
theorem TrOw.at (h : TrOw w D t a c) (hok : ∀ p ∈ t.u, i64ok p.1 ∧ i64ok p.2) : PrsAt w D t.u a c := by
  obtain ⟨a1, c1, he, hp⟩ := h.1.prs hok
  simp only [Value.slice.injEq] at he
  obtain ⟨rfl, _, rfl⟩ := he
  exact hp.weaken h.2
theorem TrOw.fr {D' : Nat → Prop} (h : TrOw w D t a c) (hf : Fr D' w w') (hD : ∀ b, D b → ¬ D' b) : TrOw w' D t a c := ⟨ownsRow_fr h.1 hf (fun b hb => hD b (h.2 b hb)), h.2⟩
theorem TrOw.below (h : TrOw w D t a c) (hb : Below w.heap.size w w') : TrOw w' D t a c := TrOw.fr (D' := fun _ => False) h (Fr.of_below hb) (fun _ _ hf => hf)
theorem TrMk.fr {D' : Nat → Prop} (h : TrMk w D n k a c) (hf : Fr D' w w') (hD : ∀ b, D b → ¬ D' b) : TrMk w' D n k a c := ⟨ownsRow_fr h.1 hf (fun b hb => hD b (h.2 b hb)), h.2⟩
theorem TrMk.below (h : TrMk w D n k a c) (hb : Below w.heap.size w w') : TrMk w' D n k a c := TrMk.fr (D' := fun _ => False) h (Fr.of_below hb) (fun _ _ hf => hf)
theorem FRow.ow {base : Nat} {v : Value} (h : FRow w base v t.u.length (pcl t.u)) : ∃ a c D, v = .slice a t.u.length c ∧ TrOw w D t a c ∧ ∀ b, D b → base ≤ b ∧ b < w.heap.size := by
  obtain ⟨a, c, rfl⟩ := own_shape' h
  exact ⟨a, c, fun b => (Value.slice a t.u.length c).ownBlock = some b, rfl, ⟨ownsRow_low h (Nat.zero_le _), fun _ h => h⟩, fun b hb => World.ownsRow.lt h b hb⟩
end
def CopiedRO (t : Tr) (w : World) (e : Ending) (w' : World) : Prop := ∃ a c D, e = .returned (.agg #[.int .i64 t.k, .slice a t.u.length c, .int .i64 t.v]) ∧ TrOw w' D t a c ∧ (∀ b, D b → w.heap.size ≤ b ∧ b < w'.heap.size) ∧ Below w.heap.size w w'
def MarkedRO (n k : Nat) (D : Nat → Prop) (a : Option Addr) (c : Nat) (w : World) (e : Ending) (w' : World) : Prop := e = .returned (.int .i64 ((k + n * 2 : Nat) : Int)) ∧ Fr D w w' ∧ TrMk w' D n k a c
end Go.Proofs.Ytjbggeeadodmpaa
/- slices of structs that came in as arguments, opened: pairs, traces -/
namespace Go.Proofs.Ytjbggeeadodmpaa
open Go.ChangeShapes Go.WideShapes Go.ChangeAt Go.RowKit Go.Joins

theorem list_of_each {α : Type} {Q : Nat → α → Prop} : ∀ n, (∀ i, i < n → ∃ y, Q i y) → ∃ l : List α, l.length = n ∧ ∀ i (h : i < l.length), Q i l[i]
  | 0, _ => ⟨[], rfl, fun i h => by simp at h⟩
  | n + 1, h => by
    obtain ⟨l, hl, hq⟩ := list_of_each n (fun i hi => h i (by omega))
    obtain ⟨y, hy⟩ := h n (by omega)
    refine ⟨l ++ [y], by simp [hl], fun i hi => ?_⟩
    rw [List.getElem_append]
    split
    · exact hq i _
    · rw [List.length_append, List.length_singleton] at hi
      obtain rfl : i = n := by omega
      simp only [List.getElem_singleton]
      exact hy

section
variable {H : Type} {enc : TypeId × Value → H} {P : Program} {w : World} {base : Nat} {spare : Nat → Bool} {held : Bool} {tS tE : TypeId}

theorem open_rw {α : Type} {E : World → (Nat → Prop) → α → Nat → Nat → Prop} (m : Nat) (hm0 : 0 < m) (hS : P.underlying tS = some (.slice tE)) (hC : P.cellsOf tE = m)
    (dec : ∀ (fuel : Nat) (cs : List Value) (x : DataW H × List MemPlace), cs.length = m → DataW.trod enc P w base spare held fuel tE cs = some x → ∀ b o, (∀ j (h : j < cs.length), w.cell? ⟨b, o + j, none⟩ = some cs[j]) → ∃ y : α, E w (fun _ => True) y b o)
    (fuel : Nat) (v : Value) (x : DataW H × List MemPlace) (h : DataW.trod enc P w base spare held fuel tS [v] = some x) : ∃ l a c, v = .slice a (List.length l) c ∧ RwAt E m w (fun _ => True) l a c := by
  rcases DataW.trod_slice hS h with ⟨hv, _⟩ | ⟨a, len, cap, elems, rest, n, hf, hv, _, _, hl, hm, hlen, hel, _, _⟩
  · simp only [List.cons.injEq, and_true] at hv
    exact ⟨[], none, 0, by simpa using hv, RwAt.nil (by omega)⟩
  simp only [List.cons.injEq, and_true] at hv
  subst hv
  have hm' : cap ≤ 9223372036854775807 := hm
  by_cases hz : len = 0
  · subst hz
    exact ⟨[], some a, cap, rfl, RwAt.nil hm'⟩
  have each : ∀ i, i < len → ∃ (n' : Nat) (cs : List Value) (x : DataW H × List MemPlace), cs.length = m ∧ DataW.trod enc P w base spare held n' tE cs = some x ∧ ∀ j (h : j < cs.length), w.cell? (a.add (i * m + j)) = some cs[j] := by
    intro i hi
    have he := hel i hi
    rw [hC] at he
    have hs : elems[i]? = some (elems[i]'(by omega)) := List.getElem?_eq_getElem (by omega)
    rw [hs, Option.bind_eq_some_iff] at he
    obtain ⟨cs, hcs, htr⟩ := he
    obtain ⟨_, hcl, hat⟩ := World.cells?_some hcs
    refine ⟨n, cs, _, hcl, htr, fun j hj => ?_⟩
    have := hat j (by omega)
    rw [Go.Deep.add_add] at this
    rw [this, List.getElem?_eq_getElem hj]
  have hsp : a.spot = none := by
    obtain ⟨n', cs, x, hcl, _, hat⟩ := each 0 (by omega)
    have := hat 0 (by omega)
    rw [Nat.zero_mul, Nat.zero_add] at this
    exact spot_none this
  obtain ⟨ab, ao, asp⟩ := a
  simp only at hsp
  subst hsp
  obtain ⟨l, hll, hat⟩ := list_of_each (Q := fun i y => E w (fun _ => True) y ab (ao + i * m)) len (fun i hi => by
    obtain ⟨n', cs, x, hcl, htr, hc⟩ := each i hi
    refine dec n' cs x hcl htr ab (ao + i * m) (fun j hj => ?_)
    have := hc j hj
    have ea : Addr.add ⟨ab, ao, none⟩ (i * m + j) = ⟨ab, ao + (i * m + j), none⟩ := by unfold Addr.add; split <;> simp_all
    rw [ea] at this
    rw [Nat.add_assoc]; exact this)
  exact ⟨l, _, cap, by rw [hll], by rw [hll]; exact hl, hm', .inr ⟨ab, ao, rfl, trivial, hat⟩⟩

theorem open_prs {tI : TypeId} {f0 f1 : Field} (hI : P.underlying tI = some (.int .i64)) (hcI : P.cellsOf tI = 1) (hS : P.underlying tS = some (.slice tE)) (hE : P.underlying tE = some (.struct #[f0, f1])) (hC : P.cellsOf tE = 2)
    (h0 : f0.type = tI ∧ f0.offset = 0) (h1 : f1.type = tI ∧ f1.offset = 1) (fuel : Nat) (v : Value) (x : DataW H × List MemPlace) (h : DataW.trod enc P w base spare held fuel tS [v] = some x) :
    ∃ l a c, v = .slice a (List.length l) c ∧ PrsAt w (fun _ => True) l a c := by
  refine open_rw (E := PrE) 2 (by decide) hS hC ?_ fuel v x h
  intro n cs x hcl htr b o hc
  obtain ⟨c0, c1, rfl⟩ : ∃ c0 c1, cs = [c0, c1] := by
    match cs, hcl with
    | [c0, c1], _ => exact ⟨c0, c1, rfl⟩
  obtain ⟨ys, n', hn', _, _, hyl, hfd⟩ := DataW.trod_struct hE htr
  have y0 := hfd 0 f0 rfl
  have y1 := hfd 1 f1 rfl
  rw [h0.1, h0.2, hcI, List.getElem?_eq_getElem (by simp at hyl; omega)] at y0
  rw [h1.1, h1.2, hcI, List.getElem?_eq_getElem (by simp at hyl; omega)] at y1
  obtain ⟨k, e0, _, wk⟩ := DataW.trod_int hI y0
  obtain ⟨m, e1, _, wm⟩ := DataW.trod_int hI y1
  simp at e0 e1
  subst e0 e1
  exact ⟨(k, m), i64ok_of wk, i64ok_of wm, hc 0 (by simp), hc 1 (by simp)⟩
end

end Go.Proofs.Ytjbggeeadodmpaa
