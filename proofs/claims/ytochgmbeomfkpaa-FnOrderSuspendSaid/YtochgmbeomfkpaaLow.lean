/- what l91Lower makes of a task (pure), and one element turned in a list of the call's own -/
import Derived.Test.YtochgmbeomfkpaaDr1
import Derived.Test.YtochgmbeomfkpaaBs1
namespace Go.Proofs.Ytochgmbeomfkpaa
open Go.RowKit

mutual
def T.low : T → T | .mk k n ps => if k = 5 then headLow (.mk k n []) ps else .mk k n (lowL ps)
def lowL : List T → List T | [] => [] | t :: r => t.low :: lowL r
def headLow (d : T) : List T → T | [] => d | t :: _ => t.low
end
theorem lowL_map : ∀ ps : List T, lowL ps = ps.map T.low
  | [] => by simp [lowL]
  | t :: r => by simp only [lowL, List.map_cons, lowL_map r]

mutual
theorem T.low_nodes : ∀ t : T, t.low.nodes ≤ t.nodes
  | .mk k n ps => by
    have h1 := lowL_nodes ps
    have h2 := headLow_nodes ps (.mk k n [])
    simp only [T.low]
    split
    · simp only [T.nodes, nodesL] at h2 ⊢; omega
    · simp only [T.nodes]; omega
theorem lowL_nodes : ∀ ps : List T, nodesL (lowL ps) ≤ nodesL ps
  | [] => by simp [lowL, nodesL]
  | t :: r => by have := T.low_nodes t; have := lowL_nodes r; simp only [lowL, nodesL]; omega
theorem headLow_nodes : ∀ (ps : List T) (d : T), (headLow d ps).nodes ≤ d.nodes + nodesL ps
  | [], d => by simp [headLow, nodesL]
  | t :: r, d => by have := T.low_nodes t; simp only [headLow, nodesL]; omega
end

theorem nodes_mem : ∀ {ps : List T} {p : T}, p ∈ ps → p.nodes ≤ nodesL ps
  | t :: r, p, h => by
    rcases List.mem_cons.1 h with rfl | h
    · simp only [nodesL]; omega
    · have := nodes_mem h; simp only [nodesL]; omega
theorem fitL_mem : ∀ {ps : List T} {p : T}, fitL ps = true → p ∈ ps → p.fit = true
  | t :: r, p, hf, h => by
    simp only [fitL, Bool.and_eq_true] at hf
    rcases List.mem_cons.1 h with rfl | h
    · exact hf.1
    · exact fitL_mem hf.2 h
theorem fit_five {n : Int} {ps : List T} (h : (T.mk 5 n ps).fit = true) : ∃ p, ps = [p] := by
  simp only [T.fit, fit1, Bool.and_eq_true, decide_eq_true_eq] at h
  have h1 := h.1.1.2
  simp [shp] at h1
  match ps, h1 with
  | [p], _ => exact ⟨p, rfl⟩

/-- The list when the first i elements are done. -/
def lowTo (ps : List T) (i : Nat) : List T := (ps.take i).map T.low ++ ps.drop i
theorem lowTo_len (ps : List T) (i : Nat) (h : i ≤ ps.length) : (lowTo ps i).length = ps.length := by unfold lowTo; simp; omega
theorem lowTo_zero (ps : List T) : lowTo ps 0 = ps := by simp [lowTo]
theorem lowTo_all (ps : List T) : lowTo ps ps.length = lowL ps := by rw [lowL_map]; simp [lowTo]
theorem lowTo_get (ps : List T) (i : Nat) (h : i < ps.length) (h' : i < (lowTo ps i).length) : (lowTo ps i)[i] = ps[i] := by
  apply Option.some.inj
  rw [← List.getElem?_eq_getElem h', ← List.getElem?_eq_getElem h]
  unfold lowTo
  have hl : (List.map T.low (ps.take i)).length = i := by simp; omega
  rw [List.getElem?_append_right (by omega), hl]
  simp
theorem lowTo_step (ps : List T) (i : Nat) (h : i < ps.length) : (lowTo ps i).set i ps[i].low = lowTo ps (i + 1) := by
  unfold lowTo
  have hl : (List.map T.low (ps.take i)).length = i := by simp; omega
  rw [List.take_succ_eq_append_getElem h, List.drop_eq_getElem_cons h, List.set_append_right _ _ (by omega), hl, Nat.sub_self, List.set_cons_zero, List.map_append, List.append_assoc]
  rfl

theorem OwL.upd {w : World} {e : TypeId} : ∀ {F : Nat → Prop} {ps : List T} {b o : Nat} (i : Nat) (_ : OwL w e F ps b o) (hi : i < ps.length), ∃ Fi : Nat → Prop, (∀ x, Fi x → F x) ∧ OwC w e Fi ps[i] b (o + 3 * i) ∧
    ∀ (w' : World) (t' : T), (∀ x, F x → ¬ Fi x → x < w.heap.size → w'.heap[x]? = w.heap[x]?) → (∀ j, o ≤ j → j < o + 3 * ps.length → (j < o + 3 * i ∨ o + 3 * i + 3 ≤ j) → w'.cell? ⟨b, j, none⟩ = w.cell? ⟨b, j, none⟩) →
      OwC w' e Fi t' b (o + 3 * i) → OwL w' e F (ps.set i t') b o
  | F, t :: r, b, o, 0, h, _ => by
    simp only [OwL] at h
    obtain ⟨F1, F2, h1, h2, h3, h4, h5⟩ := h
    refine ⟨F1, h1, by simpa using h4, fun w' t' hk hc ht => ?_⟩
    simp only [List.set_cons_zero, OwL]
    exact ⟨F1, F2, h1, h2, h3, by simpa using ht, OwL.keepC (fun _ h => h) (fun x hx hl => hk x (h2 x hx) (fun hn => h3 x hn hx) hl) (fun j hj hj' => hc j (by omega) (by simp; omega) (.inr (by omega))) h5⟩
  | F, t :: r, b, o, i + 1, h, hi => by
    simp only [OwL] at h
    obtain ⟨F1, F2, h1, h2, h3, h4, h5⟩ := h
    obtain ⟨Fi, k1, k2, k3⟩ := OwL.upd i h5 (by simpa using hi)
    refine ⟨Fi, fun x hx => h2 x (k1 x hx), by rw [show o + 3 * (i + 1) = o + 3 + 3 * i by omega]; simpa using k2, fun w' t' hk hc ht => ?_⟩
    simp only [List.set_cons_succ, OwL]
    have hi' : i < r.length := by simpa using hi
    exact ⟨F1, F2, h1, h2, h3, OwC.keepC (fun _ h => h) (fun x hx hl => hk x (h1 x hx) (fun hn => h3 x hx (k1 x hn)) hl) (fun j hj hj' => hc j hj (by simp; omega) (.inl (by omega))) h4,
      k3 w' t' (fun x hx hn hl => hk x (h2 x hx) hn hl) (fun j hj hj' hjj => hc j (by omega) (by simp; omega) (by omega)) (by rw [show o + 3 + 3 * i = o + 3 * (i + 1) by omega]; exact ht)⟩

/-- Three cells written one behind the other. -/
def put3 (w : World) (g o : Nat) (x y z : Value) : World := ((w.setCell ⟨g, o, none⟩ x).setCell ⟨g, o + 1, none⟩ y).setCell ⟨g, o + 2, none⟩ z
theorem put3_heap (w : World) (g o : Nat) (x y z : Value) (k : Nat) (hk : k ≠ g) : (put3 w g o x y z).heap[k]? = w.heap[k]? := by
  unfold put3
  rw [Below.heap_setCell _ _ _ _ (by simpa using hk), Below.heap_setCell _ _ _ _ (by simpa using hk), Below.heap_setCell _ _ _ _ (by simpa using hk)]
theorem put3_size (w : World) (g o : Nat) (x y z : Value) : (put3 w g o x y z).heap.size = w.heap.size := by simp [put3, World.setCell]
theorem put3_fr {D : Nat → Prop} {w0 w : World} (h : Fr D w0 w) (g o : Nat) (hg : D g) (x y z : Value) : Fr D w0 (put3 w g o x y z) := by
  have st : ∀ (w : World) (p : Addr) (u : Value), D p.block → Fr D w0 w → Fr D w0 (w.setCell p u) := fun w p u hp h =>
    ⟨h.1, h.2.1, h.2.2.1, by simpa [World.setCell] using h.2.2.2.1, fun b hb hn => (Below.heap_setCell w p u b (by rintro rfl; exact hn hp)).trans (h.2.2.2.2 b hb hn)⟩
  exact st _ _ _ hg (st _ _ _ hg (st _ _ _ hg h))
theorem put3_blk {w : World} {g : Nat} {t : TypeId} {cs : Array Value} (h : Blk w g t cs) (o : Nat) (x y z : Value) : Blk (put3 w g o x y z) g t (((cs.setIfInBounds o x).setIfInBounds (o + 1) y).setIfInBounds (o + 2) z) := ((h.set_ _ _).set_ _ _).set_ _ _

/-- An element of a list of the call's own: where it lies; and the list when it has been turned. -/
theorem OwS.upd {w : World} {e : TypeId} {F : Nat → Prop} {ps : List T} {a : Option Addr} {c : Nat} (h : OwS w e F ps a c) (i : Nat) (hi : i < ps.length) : ∃ (g : Nat) (Fi : Nat → Prop) (a2 : Option Addr) (c2 : Nat), a = some ⟨g, 0, none⟩ ∧ F g ∧ g < w.heap.size ∧ (∀ x, Fi x → F x ∧ x ≠ g) ∧
    i64ok ps[i].k ∧ i64ok ps[i].n ∧ w.cell? ⟨g, 3 * i, none⟩ = some (.int .i64 ps[i].k) ∧ w.cell? ⟨g, 3 * i + 1, none⟩ = some (.int .i64 ps[i].n) ∧ w.cell? ⟨g, 3 * i + 2, none⟩ = some (.slice a2 ps[i].ps.length c2) ∧ OwS w e Fi ps[i].ps a2 c2 ∧ (∀ j, w.frozen? ⟨g, j, none⟩ = false) ∧
    ∀ (w2 : World) (t' : T) (a3 : Option Addr) (c3 : Nat), Fr Fi w w2 → i64ok t'.k → i64ok t'.n → OwS w2 e Fi t'.ps a3 c3 →
      OwS (put3 w2 g (3 * i) (.int .i64 t'.k) (.int .i64 t'.n) (.slice a3 t'.ps.length c3)) e F (ps.set i t') a c ∧ (∀ j, w2.frozen? ⟨g, j, none⟩ = false) ∧ ∃ u0 u1 u2, w2.cell? ⟨g, 3 * i, none⟩ = some u0 ∧ w2.cell? ⟨g, 3 * i + 1, none⟩ = some u1 ∧ w2.cell? ⟨g, 3 * i + 2, none⟩ = some u2 := by
  obtain ⟨hn, hc, ⟨rfl, _, _⟩ | ⟨g, cs, rfl, hF, hb, hcs, hl⟩⟩ := h
  · simp at hi
  obtain ⟨Fi, k1, k2, k3⟩ := OwL.upd i hl hi
  obtain ⟨o1, o2, z0, z1, a2, c2, z2, how⟩ := OwC.iff.1 k2
  rw [Nat.zero_add] at z0 z1 z2
  refine ⟨g, Fi, a2, c2, rfl, hF, hb.lt, k1, o1, o2, z0, z1, z2, how, fun j => hb.frozen j, fun w2 t' a3 c3 hfr ok1 ok2 how3 => ?_⟩
  have hb2 : Blk w2 g e cs := (hfr.2.2.2.2 g hb.lt (fun h => (k1 g h).2 rfl)).trans hb
  have hsz : 3 * i + 2 < cs.size := by omega
  refine ⟨⟨by simpa using hn, hc, .inr ⟨g, _, rfl, hF, put3_blk hb2 (3 * i) _ _ _, by simpa using hcs, ?_⟩⟩, fun j => hb2.frozen j, cs[3 * i], cs[3 * i + 1], cs[3 * i + 2], ?_, ?_, ?_⟩
  · have hB := put3_blk hb2 (3 * i) (.int .i64 t'.k) (.int .i64 t'.n) (.slice a3 t'.ps.length c3)
    refine k3 _ t' (fun x hx hnx hlx => ?_) (fun j _ hj hjj => ?_) (OwC.iff.2 ⟨ok1, ok2, ?_, ?_, a3, c3, ?_, how3.keep (fun _ h => h) (fun b hb' _ => put3_heap _ _ _ _ _ _ _ (k1 b hb').2)⟩)
    · rw [put3_heap _ _ _ _ _ _ _ hx.2]; exact hfr.2.2.2.2 x hlx hnx
    · rw [hB.cell j, hb.cell j]
      rw [Array.getElem?_setIfInBounds_ne (by omega), Array.getElem?_setIfInBounds_ne (by omega), Array.getElem?_setIfInBounds_ne (by omega)]
    · rw [Nat.zero_add, hB.cell]
      rw [Array.getElem?_setIfInBounds_ne (by omega), Array.getElem?_setIfInBounds_ne (by omega), Array.getElem?_setIfInBounds_self_of_lt (by omega)]
    · rw [Nat.zero_add, hB.cell]
      rw [Array.getElem?_setIfInBounds_ne (by omega), Array.getElem?_setIfInBounds_self_of_lt (by simp; omega)]
    · rw [Nat.zero_add, hB.cell]
      rw [Array.getElem?_setIfInBounds_self_of_lt (by simp; omega)]
  · rw [hb2.cell]; exact Array.getElem?_eq_getElem _
  · rw [hb2.cell]; exact Array.getElem?_eq_getElem _
  · rw [hb2.cell]; exact Array.getElem?_eq_getElem _
theorem OwS.upd3 {w : World} {e : TypeId} {F : Nat → Prop} {ps : List T} {a : Option Addr} {c : Nat} (h : OwS w e F ps a c) (i : Nat) (hi : i < ps.length) : ∃ (g : Nat) (Fi : Nat → Prop) (a2 : Option Addr) (c2 : Nat), a = some ⟨g, 0, none⟩ ∧ F g ∧ g < w.heap.size ∧ (∀ x, Fi x → F x ∧ x ≠ g) ∧
    i64ok ps[i].k ∧ i64ok ps[i].n ∧ w.cell? ⟨g, i * 3, none⟩ = some (.int .i64 ps[i].k) ∧ w.cell? ⟨g, i * 3 + 1, none⟩ = some (.int .i64 ps[i].n) ∧ w.cell? ⟨g, i * 3 + 2, none⟩ = some (.slice a2 ps[i].ps.length c2) ∧ OwS w e Fi ps[i].ps a2 c2 ∧ (∀ j, w.frozen? ⟨g, j, none⟩ = false) ∧
    ∀ (w2 : World) (t' : T) (a3 : Option Addr) (c3 : Nat), Fr Fi w w2 → i64ok t'.k → i64ok t'.n → OwS w2 e Fi t'.ps a3 c3 →
      OwS (put3 w2 g (i * 3) (.int .i64 t'.k) (.int .i64 t'.n) (.slice a3 t'.ps.length c3)) e F (ps.set i t') a c ∧ (∀ j, w2.frozen? ⟨g, j, none⟩ = false) ∧ ∃ u0 u1 u2, w2.cell? ⟨g, i * 3, none⟩ = some u0 ∧ w2.cell? ⟨g, i * 3 + 1, none⟩ = some u1 ∧ w2.cell? ⟨g, i * 3 + 2, none⟩ = some u2 := by
  have := OwS.upd h i hi
  rw [Nat.mul_comm 3 i] at this
  exact this
end Go.Proofs.Ytochgmbeomfkpaa
