/- several texts in one: InB, InsT, PutS -/
import Derived.Test.YtochgmbeomfkpaaShelf
import Derived.Test.YtochgmbeomfkpaaStepN
import Derived.Test.YtochgmbeomfkpaaLower
import Derived.Test.YtochgmbeomfkpaaBs2
import Derived.Test.YtochgmbeomfkpaaShOk
import Derived.Test.YtochgmbeomfkpaaTopP
import Derived.Shelf.Slices.Empties
import Derived.WalkSpells
/- a slice of numbers within a block of the call's own, wherever it begins (as behind 'free = free[1:]') -/
namespace Go.Proofs.Ytochgmbeomfkpaa
open Go.RowKit

theorem Blk.setCells {g : Nat} {t : TypeId} : ∀ (vs : List Value) (o : Nat) (w : World) (cs : Array Value), Blk w g t cs →
    ∃ cs', Blk (w.setCells g o vs) g t cs' ∧ cs'.size = cs.size ∧ (∀ j, j < vs.length → o + j < cs.size → cs'[o + j]? = vs[j]?) ∧ ∀ j, (j < o ∨ o + vs.length ≤ j) → cs'[j]? = cs[j]?
  | [], o, w, cs, h => ⟨cs, h, rfl, fun j hj => by simp at hj, fun _ _ => rfl⟩
  | v :: r, o, w, cs, h => by
    obtain ⟨cs', h1, h2, h3, h4⟩ := Blk.setCells r (o + 1) (w.setCell ⟨g, o, none⟩ v) (cs.setIfInBounds o v) (h.set_ o v)
    have hsz : (cs.setIfInBounds o v).size = cs.size := by simp
    refine ⟨cs', h1, h2.trans hsz, fun j hj hlt => ?_, fun j hj => ?_⟩
    · cases j with
      | zero =>
        rw [h4 (o + 0) (.inl (by omega))]
        simp only [Nat.add_zero, List.getElem?_cons_zero]
        rw [Array.getElem?_setIfInBounds]
        simp at hlt
        simp [hlt]
      | succ j =>
        rw [show o + (j + 1) = o + 1 + j by omega, h3 j (by simpa using hj) (by rw [hsz]; omega)]
        rfl
    · simp only [List.length_cons] at hj
      rw [h4 j (by omega), Array.getElem?_setIfInBounds, if_neg (by omega)]
theorem fr_setCells (g : Nat) : ∀ (vs : List Value) (o : Nat) (w : World), Fr (fun b => b = g) w (w.setCells g o vs)
  | [], _, w => Fr.of_below (Below.refl w.heap.size w)
  | v :: r, o, w => by
    have h1 : Fr (fun b => b = g) w (w.setCell ⟨g, o, none⟩ v) := Fr.set' (D := fun b => b = g) (Fr.of_below (Below.refl _ _)) ⟨g, o, none⟩ rfl v
    have h2 := fr_setCells g r (o + 1) (w.setCell ⟨g, o, none⟩ v)
    exact ⟨h2.1.trans h1.1, h2.2.1.trans h1.2.1, h2.2.2.1.trans h1.2.2.1, Nat.le_trans h1.2.2.2.1 h2.2.2.2.1, fun b hb hn => (h2.2.2.2.2 b (by simpa [World.setCell] using hb) hn).trans (h1.2.2.2.2 b hb hn)⟩
/-- The slice value v holds l: nil, or it lies somewhere in a block from base on. -/
def InB (w : World) (base : Nat) (v : Value) (l : List Int) : Prop :=
  (v = .slice none 0 0 ∧ l = []) ∨ ∃ (g o c : Nat) (cs : Array Value), v = .slice (some ⟨g, o, none⟩) l.length c ∧ base ≤ g ∧ Blk w g 3 cs ∧ o + c ≤ cs.size ∧ l.length ≤ c ∧ c ≤ 9223372036854775807 ∧ ∀ j (h : j < l.length), cs[o + j]? = some (.int .i64 l[j])
theorem InB.nil (w : World) (base : Nat) : InB w base (.slice none 0 0) [] := .inl ⟨rfl, rfl⟩
theorem InB.fr {D : Nat → Prop} {w w' : World} {base : Nat} {v : Value} {l : List Int} (h : InB w base v l) (hf : Fr D w w') (hD : ∀ a n c, v = .slice (some a) n c → ¬ D a.block) : InB w' base v l := by
  rcases h with h | ⟨g, o, c, cs, rfl, h2, h3, h4⟩
  · exact .inl h
  · exact .inr ⟨g, o, c, cs, rfl, h2, h3.fr' hf (hD _ _ _ rfl), h4⟩
theorem InB.below {w w' : World} {base : Nat} {v : Value} {l : List Int} (h : InB w base v l) (hb : Below w.heap.size w w') : InB w' base v l := h.fr (D := fun _ => False) (Fr.of_below hb) (fun _ _ _ _ h => h)
/-- Without its head. -/
theorem InB.tail {w : World} {base g o n c : Nat} {k : Int} {l : List Int} (h : InB w base (.slice (some ⟨g, o, none⟩) n c) (k :: l)) : InB w base (.slice (some ⟨g, o + 1, none⟩) (n - 1) (c - 1)) l := by
  rcases h with ⟨h, _⟩ | ⟨g', o', c', cs, hv, h2, h3, h4, h5, h6, h7⟩
  · cases h
  · simp only [Value.slice.injEq, Option.some.injEq, Addr.mk.injEq, and_true, List.length_cons] at hv
    obtain ⟨⟨rfl, rfl⟩, rfl, rfl⟩ := hv
    simp only [List.length_cons] at h5
    refine .inr ⟨g, o + 1, c - 1, cs, by simp, h2, h3, by omega, by omega, by omega, fun j hj => ?_⟩
    have := h7 (j + 1) (by simp; omega)
    rw [show o + 1 + j = o + (j + 1) by omega, this]
    rfl
end Go.Proofs.Ytochgmbeomfkpaa
/- slices.Insert of one number -/
namespace Go.Proofs.Ytochgmbeomfkpaa
open Go.RowKit

/-- The block that v lies in. -/
def AtV (v : Value) (b : Nat) : Prop := ∃ a n c, v = .slice (some a) n c ∧ a.block = b
theorem AtV.at {g o n c : Nat} {b : Nat} (h : b = g) : AtV (.slice (some ⟨g, o, none⟩) n c) b := ⟨_, _, _, rfl, h.symm⟩
theorem atv_at {g o n c y : Nat} (h : AtV (.slice (some ⟨g, o, none⟩) n c) y) : y = g := by
  obtain ⟨a, n', c', hv, hb⟩ := h
  simp only [Value.slice.injEq, Option.some.injEq] at hv
  obtain ⟨rfl, _, _⟩ := hv
  exact hb.symm
theorem Fr.sub {D D' : Nat → Prop} {w w' : World} (h : Fr D w w') (hD : ∀ b, D b → D' b) : Fr D' w w' := ⟨h.1, h.2.1, h.2.2.1, h.2.2.2.1, fun b hb hn => h.2.2.2.2 b hb (fun hd => hn (hD b hd))⟩
theorem Fr.two {D : Nat → Prop} {w w1 w2 : World} (h : Fr D w w1) (h2 : Fr D w1 w2) : Fr D w w2 :=
  ⟨h2.1.trans h.1, h2.2.1.trans h.2.1, h2.2.2.1.trans h.2.2.1, Nat.le_trans h.2.2.2.1 h2.2.2.2.1, fun b hb hn => (h2.2.2.2.2 b (Nat.lt_of_lt_of_le hb h.2.2.2.1) hn).trans (h.2.2.2.2 b hb hn)⟩
theorem InB.mk {w : World} {base g o c n : Nat} {cs : Array Value} {L : List Int} (hg : base ≤ g) (hb : Blk w g 3 cs) (hz : o + c ≤ cs.size) (hn : n = L.length) (hl : n ≤ c) (hc : c ≤ 9223372036854775807) (h : ∀ j v, (L.map (Value.int .i64))[j]? = some v → cs[o + j]? = some v) :
    InB w base (.slice (some ⟨g, o, none⟩) n c) L := by
  subst hn
  exact .inr ⟨g, o, c, cs, rfl, hg, hb, hz, hl, hc, fun j hj => h j _ (by rw [List.getElem?_map, List.getElem?_eq_getElem hj]; rfl)⟩
theorem ins_at {l : List Int} {k : Int} {i o : Nat} {c2 : Array Value} (hi : i ≤ l.length) (h1 : ∀ j, j < i → c2[o + j]? = (l.map (Value.int .i64))[j]?) (h2 : c2[o + i]? = some (.int .i64 k)) (h3 : ∀ j, i < j → j < l.length + 1 → c2[o + j]? = (l.map (Value.int .i64))[j - 1]?) (j : Nat) (v : Value)
    (hj : ((l.take i ++ k :: l.drop i).map (Value.int .i64))[j]? = some v) : c2[o + j]? = some v := by
  rw [List.map_append, List.map_cons, List.map_take, List.map_drop] at hj
  have hlt : j < l.length + 1 := by
    have := (List.getElem?_eq_some_iff.1 hj).1
    simp at this
    omega
  have htl : ((l.map (Value.int .i64)).take i).length = i := by simp; omega
  rcases Nat.lt_trichotomy j i with hji | hji | hji
  · rw [h1 j hji, ← hj, List.getElem?_append_left (by omega), List.getElem?_take, if_pos hji]
  · subst hji
    rw [h2, ← hj, List.getElem?_append_right (by omega), htl, Nat.sub_self]
    rfl
  · rw [h3 j hji hlt, ← hj, List.getElem?_append_right (by omega), htl, show j - i = (j - i - 1) + 1 by omega, List.getElem?_cons_succ, List.getElem?_drop, show i + (j - i - 1) = j - 1 by omega]

set_option maxHeartbeats 1000000 in
theorem insert_any (W : World) (base : Nat) (v : Value) (l : List Int) (k : Int) (i vb : Nat) (h : InB W base v l) (hi : i ≤ l.length) (hl : l.length ≤ 1000) (hbase : base ≤ W.heap.size) (hvb : Blk W vb 3 #[.int .i64 k]) (hne : ¬ AtV v vb) :
    Calls Try.prog 86 #[v, .int .i64 i, .slice (some ⟨vb, 0, none⟩) 1 1] W (fun e w' => ∃ v', e = .returned v' ∧ InB w' base v' (l.take i ++ k :: l.drop i) ∧ Fr (AtV v) W w' ∧ ∀ y, AtV v' y → AtV v y ∨ W.heap.size ≤ y) := by
  have hvs : ∀ (j : Nat) (v : Value), [Value.int .i64 k][j]? = some v → W.cell? ⟨vb, 0 + j, none⟩ = some v := fun j v hj => by
    rw [hvb.cell, Nat.zero_add]
    simpa using hj
  have h1v : ∀ v ∈ [Value.int .i64 k], v.oneCell' = true := by simp [Value.oneCell']
  have h1c : ∀ v ∈ l.map (Value.int .i64), v.oneCell' = true := fun u hu => by obtain ⟨y, _, rfl⟩ := List.mem_map.1 hu; simp [Value.oneCell']
  have hLl : (l.take i ++ k :: l.drop i).length = l.length + 1 := by simp; omega
  have hml : maxLen = 9223372036854775807 := rfl
  have hgrow : ∀ (cc : Nat), Fr (AtV v) W (W.drew.alloc (.cells (((l.map (Value.int .i64)) ++ [Value.int .i64 k]).toArray ++ Builtin.zeroCells (Value.int .i64 0).cells (grownCap W (l.length + 1) cc 3 - (l.length + 1))) 3)) ∧
      (i = l.length → InB (W.drew.alloc (.cells (((l.map (Value.int .i64)) ++ [Value.int .i64 k]).toArray ++ Builtin.zeroCells (Value.int .i64 0).cells (grownCap W (l.length + 1) cc 3 - (l.length + 1))) 3)) base (.slice (some ⟨W.heap.size, 0, none⟩) (l.length + 1) (grownCap W (l.length + 1) cc 3)) (l.take i ++ k :: l.drop i)) := fun cc => by
    have h1 := grownCap_ge W (l.length + 1) cc 3
    have h2 := grownCap_le_maxLen W (l.length + 1) cc 3 (by omega)
    refine ⟨Fr.of_below ((Below.refl W.heap.size W).drew.alloc (Nat.le_refl _) _), fun hil => ?_⟩
    refine InB.mk hbase (Blk.new W.drew 3 _) ?_ hLl.symm h1 (by omega) (fun j u hj => ?_)
    · simp [size_zeroCells, Value.cells]; omega
    · subst hil
      rw [List.take_length, List.drop_length] at hj
      have hlt : j < ((l.map (Value.int .i64)) ++ [Value.int .i64 k]).toArray.size := by
        have := (List.getElem?_eq_some_iff.1 hj).1
        simpa using this
      rw [Nat.zero_add, Array.getElem?_append_left hlt]
      simpa using hj
  rcases h with ⟨rfl, rfl⟩ | ⟨g, o, c, cs, rfl, hg, hblk, hsz, hlc, hcm, hcs⟩
  · obtain rfl : i = 0 := by simpa using hi
    refine (Any2.slices_Insert_int_end_grow laysInsert none 0 0 vb 0 1 1 [] [.int .i64 k] W (by decide) (by decide) (by decide) (by decide) rfl rfl (fun _ => rfl) (fun a h => by cases h) hvs h1v).mono ?_
    rintro e w2 ⟨rfl, rfl⟩
    exact ⟨_, rfl, (hgrow 0).2 rfl, (hgrow 0).1, fun y hy => .inr (Nat.le_of_eq (atv_at hy).symm)⟩
  · have hgv : vb ≠ g := fun e => hne (AtV.at e)
    have hco : ∀ j u, (l.map (Value.int .i64))[j]? = some u → W.cell? ⟨g, o + j, none⟩ = some u := fun j u hj => by
      rw [List.getElem?_map] at hj
      obtain ⟨y, hy, rfl⟩ := Option.map_eq_some_iff.1 hj
      obtain ⟨hlt, rfl⟩ := List.getElem?_eq_some_iff.1 hy
      rw [hblk.cell, hcs j hlt]
    have hcj : ∀ j, j < l.length → cs[o + j]? = (l.map (Value.int .i64))[j]? := fun j hj => by rw [hcs j hj, List.getElem?_map, List.getElem?_eq_getElem hj]; rfl
    have hsp : ∀ j, o + j < o + c → (W.cell? ⟨g, o + j, none⟩).isSome = true := fun j hj => by rw [hblk.cell, Array.getElem?_eq_getElem (by omega)]; rfl
    by_cases hin : i < l.length
    · by_cases hr : l.length + 1 ≤ c
      · refine (Any2.slices_Insert_int_shift laysInsert g o l.length c i vb 0 1 1 (l.map (.int .i64)) [.int .i64 k] W hin (by decide) hr hcm hgv (by simp) rfl hco (fun j hj => hsp j (by omega)) (fun j _ => hblk.frozen _) hvs h1c h1v 3 3 1 cs.size (by unfold Blk at hvb; simp [World.shape?, hvb]) (by unfold Blk at hblk; simp [World.shape?, hblk]) (by omega) (hvb.frozen _) (hvb.frozen _)).mono ?_
        rintro e w2 ⟨rfl, rfl⟩
        obtain ⟨c1, b1, s1, p1, q1⟩ := Blk.setCells ((l.map (Value.int .i64)).drop i) (o + (i + 1)) W.drew cs hblk.drew
        obtain ⟨c2, b2, s2, p2, q2⟩ := Blk.setCells [Value.int .i64 k] (o + i) _ c1 b1
        refine ⟨_, rfl, InB.mk hg b2 (by omega) hLl.symm hr hcm (ins_at hi (fun j hj => ?_) ?_ (fun j hj hlt => ?_)), ?_, fun y hy => .inl (AtV.at (atv_at hy))⟩
        · rw [q2 (o + j) (.inl (by omega)), q1 (o + j) (.inl (by omega)), hcj j (by omega)]
        · have := p2 0 (by simp) (by omega)
          simpa using this
        · rw [q2 (o + j) (.inr (by simp; omega)), show o + j = o + (i + 1) + (j - (i + 1)) by omega, p1 (j - (i + 1)) (by simp; omega) (by omega), List.getElem?_drop, show i + (j - (i + 1)) = j - 1 by omega]
        · exact Fr.two (Fr.of_below (Below.refl W.heap.size W).drew) (((fr_setCells g _ _ W.drew).two (fr_setCells g _ _ _)).sub (fun b hb => AtV.at hb))
      · refine (Any2.slices_Insert_int_grow laysInsert g o l.length c i vb 0 1 1 (l.map (.int .i64)) [.int .i64 k] W hin (by decide) hlc (by omega) (by omega) (by simp) rfl hco hvs h1c h1v).mono ?_
        rintro e w2 ⟨rfl, rfl⟩
        have g1 := grownCap_ge W (l.length + 1) c 3
        have g2 := grownCap_le_maxLen W (l.length + 1) c 3 (by omega)
        obtain ⟨A, hA⟩ : ∃ A, A = ((l.map (Value.int .i64)).take i).toArray ++ Builtin.zeroCells (Value.int .i64 0).cells (l.length + 1 - i) ++ Builtin.zeroCells (Value.int .i64 0).cells (grownCap W (l.length + 1) c 3 - (l.length + 1)) := ⟨_, rfl⟩
        have hAz : A.size = grownCap W (l.length + 1) c 3 := by rw [hA]; simp [size_zeroCells, Value.cells]; omega
        have hAj : ∀ j, j < i → A[j]? = (l.map (Value.int .i64))[j]? := fun j hj => by
          have hl1 : j < ((l.map (Value.int .i64)).take i).toArray.size := by simp; omega
          rw [hA, Array.append_assoc, Array.getElem?_append_left hl1]
          simp [hj]
        have hbn : Blk (W.alloc (.cells A 3)).drew W.heap.size 3 A := Blk.new W 3 A
        obtain ⟨c1, b1, s1, p1, q1⟩ := Blk.setCells [Value.int .i64 k] i (W.alloc (.cells A 3)).drew A hbn
        obtain ⟨c2, b2, s2, p2, q2⟩ := Blk.setCells ((l.map (Value.int .i64)).drop i) (i + 1) ((W.alloc (.cells A 3)).drew.setCells W.heap.size i [Value.int .i64 k]).drew c1 b1.drew
        have hres : InB (((W.alloc (.cells A 3)).drew.setCells W.heap.size i [Value.int .i64 k]).drew.setCells W.heap.size (i + 1) ((l.map (Value.int .i64)).drop i)) base (.slice (some ⟨W.heap.size, 0, none⟩) (l.length + 1) (grownCap W (l.length + 1) c 3)) (l.take i ++ k :: l.drop i) := by
          refine InB.mk hbase b2 (by omega) hLl.symm g1 (by omega) (ins_at hi (fun j hj => ?_) ?_ (fun j hj hlt => ?_))
          · rw [Nat.zero_add, q2 j (.inl (by omega)), q1 j (.inl (by omega)), hAj j hj]
          · have := p1 0 (by simp) (by omega)
            rw [Nat.zero_add, q2 i (.inl (by omega))]
            simpa using this
          · rw [Nat.zero_add, show j = (i + 1) + (j - (i + 1)) by omega, p2 (j - (i + 1)) (by simp; omega) (by omega), List.getElem?_drop, show i + (j - (i + 1)) = (i + 1) + (j - (i + 1)) - 1 by omega]
        have hfr : Fr (fun b => b = W.heap.size) W (((W.alloc (.cells A 3)).drew.setCells W.heap.size i [Value.int .i64 k]).drew.setCells W.heap.size (i + 1) ((l.map (Value.int .i64)).drop i)) :=
          (Fr.of_below (((Below.refl W.heap.size W).alloc (Nat.le_refl _) (.cells A 3)).drew)).two ((fr_setCells W.heap.size _ i _).two ((Fr.of_below (Below.refl _ _).drew).two (fr_setCells W.heap.size _ (i + 1) _)))
        rw [hA] at hres hfr
        exact ⟨_, rfl, hres, ⟨hfr.1, hfr.2.1, hfr.2.2.1, hfr.2.2.2.1, fun b hb _ => hfr.2.2.2.2 b hb (by omega)⟩, fun y hy => .inr (Nat.le_of_eq (atv_at hy).symm)⟩
    · obtain rfl : i = l.length := by omega
      by_cases hr : l.length + 1 ≤ c
      · refine (Any2.slices_Insert_int_end_room laysInsert g o l.length c vb 0 1 1 [.int .i64 k] W (by decide) hr hcm rfl (fun j hj => by rw [Nat.add_assoc]; exact hsp _ (by omega)) (fun j _ => hblk.frozen _) hvs h1v).mono ?_
        rintro e w2 ⟨rfl, rfl⟩
        obtain ⟨c2, b2, s2, p2, q2⟩ := Blk.setCells [Value.int .i64 k] (o + l.length) W cs hblk
        refine ⟨_, rfl, InB.mk hg b2 (by omega) hLl.symm hr hcm (ins_at hi (fun j hj => ?_) ?_ (fun j hj hlt => by omega)), (fr_setCells g _ _ W).sub (fun b hb => AtV.at hb), fun y hy => .inl (AtV.at (atv_at hy))⟩
        · rw [q2 (o + j) (.inl (by omega)), hcj j (by omega)]
        · have := p2 0 (by simp) (by omega)
          simpa using this
      · refine (Any2.slices_Insert_int_end_grow laysInsert (some ⟨g, o, none⟩) l.length c vb 0 1 1 (l.map (.int .i64)) [.int .i64 k] W (by decide) hlc (by omega) (by omega) (by simp) rfl (fun h => by cases h) (fun a ha j u hj => ?_) hvs h1v).mono ?_
        · cases ha
          have e : (⟨g, o, none⟩ : Addr).add j = ⟨g, o + j, none⟩ := by unfold Addr.add; split <;> simp_all
          rw [e]
          exact hco j u hj
        rintro e w2 ⟨rfl, rfl⟩
        exact ⟨_, rfl, (hgrow c).2 rfl, (hgrow c).1, fun y hy => .inr (Nat.le_of_eq (atv_at hy).symm)⟩
end Go.Proofs.Ytochgmbeomfkpaa
/- impl.putSorted -/
namespace Go.Proofs.Ytochgmbeomfkpaa
open Go.RowKit

def PutPost (base : Nat) (v : Value) (l : List Int) (k : Int) (w : World) (e : Ending) (w' : World) : Prop := ∃ v', e = .returned v' ∧ InB w' base v' (insT l k) ∧ Fr (AtV v) w w' ∧ ∀ y, AtV v' y → AtV v y ∨ w.heap.size ≤ y

set_option maxRecDepth 100000 in
set_option maxHeartbeats 1500000 in
/-- impl.putSorted -/
theorem putSorted_any (w : World) (base : Nat) (v : Value) (l : List Int) (k : Int) (h : InB w base v l) (hasc : l.Pairwise (· < ·)) (hl : l.length ≤ 1000) (hbase : base ≤ w.heap.size) :
    Calls Try.prog 67 #[v, .int .i64 k] w (PutPost base v l k w) := by
  obtain ⟨i, hi⟩ : ∃ i, i = l.countP (fun x => decide (x < k)) := ⟨_, rfl⟩
  have hin : i ≤ l.length := by rw [hi]; exact List.countP_le_length
  have hE := insT_eq (k := k) hasc
  rw [← hi] at hE
  have HE := Lib.hid hE
  obtain ⟨p, hs⟩ : ∃ p : Bool, (Calls Try.prog 85 #[v, .int .i64 k] w fun e w' => e = .returned (.tuple #[.int .i64 (i : Int), .bool p]) ∧ ∃ q, w' = w.drewN q) := by
    rcases h with ⟨rfl, rfl⟩ | ⟨g, o, c, cs, rfl, hg, hblk, hsz, hlc, hcm, hcs⟩
    · refine ⟨false, (Any.slices_BinarySearch_int_empty laysSearch none 0 k w).mono ?_⟩
      rintro e w' ⟨rfl, rfl⟩
      exact ⟨by rw [hi]; rfl, 0, rfl⟩
    · refine ⟨l.contains k, (Any.slices_BinarySearch_int laysSearch g o l.length c l k w (Nat.le_refl _) (by omega) (fun j hj => by rw [hblk.cell, hcs j hj, getD_len hj]) (by rw [List.take_length]; exact hasc.imp (fun h => Int.le_of_lt h))).mono ?_⟩
      rw [List.take_length, ← hi]
      exact fun e w' h => h
  have HS := Lib.hid hs
  clear hs
  have hv : ∀ a n c, v = .slice (some a) n c → a.block < w.heap.size := fun a n c hv => by
    rcases h with ⟨rfl, rfl⟩ | ⟨g, o, c, cs, rfl, hg, hblk, hsz, hlc, hcm, hcs⟩
    · cases hv
    · cases hv; exact hblk.lt
  have HI := Lib.hid (show ∀ q : Nat, Calls Try.prog 86 #[v, .int .i64 (i : Int), .slice (some ⟨w.heap.size, 0, none⟩) 1 1] ((w.alloc (.cells #[.int .i64 k] 3)).drewN q) (fun e w' => ∃ v', e = .returned v' ∧ InB w' base v' (insT l k) ∧ Fr (AtV v) w w' ∧ ∀ y, AtV v' y → AtV v y ∨ w.heap.size ≤ y) from fun q => by
    have hb0 : Below w.heap.size w ((w.alloc (.cells #[.int .i64 k] 3)).drewN q) := below_drewN ((Below.refl _ _).alloc (Nat.le_refl _) _) q
    refine (insert_any ((w.alloc (.cells #[.int .i64 k] 3)).drewN q) base v l k i w.heap.size (h.below hb0) hin hl (Nat.le_trans hbase hb0.size) (Blk.new w 3 #[.int .i64 k]) ?_).mono ?_
    · rintro ⟨a, n, c, rfl, ha⟩
      have := hv a n c rfl
      omega
    · rintro e w' ⟨v', rfl, h1, h2, h3⟩
      rw [← HE.out] at h1
      exact ⟨v', rfl, h1, (Fr.of_below hb0).two h2, fun y hy => (h3 y hy).imp id (fun h => Nat.le_trans hb0.size h)⟩)
  clear h hasc hi hE hv
  go_enter Try.func67, Try.ntmps67
  go_wp2_with fail
  refine HS.out.mono ?_
  rintro e w1 ⟨rfl, q, rfl⟩
  go_wp2_with fail
  refine (HI.out q).mono ?_
  rintro e w2 ⟨v', rfl, h1, h2, h3⟩
  have H := Lib.hid (And.intro h1 (And.intro h2 h3))
  clear h1 h2 h3
  go_wp2_with fail
  go_ret
  exact ⟨v', rfl, H.out.1, H.out.2.1, H.out.2.2⟩
end Go.Proofs.Ytochgmbeomfkpaa
