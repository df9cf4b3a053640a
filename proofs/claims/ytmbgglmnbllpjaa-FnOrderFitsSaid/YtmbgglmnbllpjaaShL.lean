/- where the loop of l91Sheet stands -/
import Derived.Test.YtmbgglmnbllpjaaShD
namespace Go.Proofs.Ytmbgglmnbllpjaa
open Go.RowKit

structure LSt (w0 : World) (X g M : Nat) (w : World) (s : Sh) (v : Value) (a' : Option Addr) (c' q : Nat) : Prop where
  sh : ShD w (X + 1) M s v a' c'
  bx : Blk w X 50 #[v, .slice a' s.t.length c']
  by_ : Blk w w0.heap.size 50 #[.slice none 0 0, .slice none 0 0]
  rd : RdAt w g q
  on : Only g w0 w
  gl : g < w0.heap.size
  xl : w0.heap.size < X
  ml : X + 1 ≤ M
section
variable {w0 w w' w5 : World} {X g M q : Nat} {s : Sh} {v : Value} {a' : Option Addr} {c' : Nat}
theorem LSt.fr {D : Nat → Prop} (h : LSt w0 X g M w s v a' c' q) (hf : Fr D w w') (hD : ∀ b, D b → M ≤ b) : LSt w0 X g M w' s v a' c' q :=
  have hm := h.ml
  have hx := h.xl
  have hg := h.gl
  ⟨h.sh.fr hf (fun b hb => .inr (hD b hb)), h.bx.fr' hf (fun hd => by have := hD _ hd; omega), h.by_.fr' hf (fun hd => by have := hD _ hd; omega), h.rd.fr hf (fun b hb => by have := hD b hb; omega), h.on.fr hf (fun b hb => by have := hD b hb; omega), h.gl, h.xl, h.ml⟩
theorem LSt.put (h : LSt w0 X g M w s v a' c' q) (R : Nat) (hR : M ≤ R) (x y z : Value) : LSt w0 X g M (set3 w R x y z) s v a' c' q := by
  have hf : Fr (fun b => b = R) w (set3 w R x y z) := by
    have := put3_fr (D := fun b => b = R) (Fr.of_below (Below.refl w.heap.size w)) R 0 rfl x y z
    simpa [put3, set3] using this
  exact h.fr hf (fun b hb => by omega)
theorem LSt.below (h : LSt w0 X g M w s v a' c' q) (hb : Below w.heap.size w w') : LSt w0 X g M w' s v a' c' q := h.fr (D := fun _ => False) (Fr.of_below hb) (fun _ h => h.elim)
theorem LSt.alloc (h : LSt w0 X g M w s v a' c' q) (o : Obj) : LSt w0 X g M (w.alloc o) s v a' c' q := h.below ((Below.refl _ _).alloc (Nat.le_refl _) o)
theorem LSt.only {q' : Nat} (h : LSt w0 X g M w s v a' c' q) (ho : Only g w w') (hr : RdAt w' g q') : LSt w0 X g M w' s v a' c' q' :=
  have hm := h.ml
  have hx := h.xl
  have hg := h.gl
  ⟨h.sh.only ho (by omega), h.bx.only ho (by omega), h.by_.only ho (by omega), hr, h.on.trans ho, h.gl, h.xl, h.ml⟩
theorem LSt.up (h : LSt w0 X g M w s v a' c' q) {M' : Nat} (hM : M ≤ M') (hl : M' ≤ w.heap.size) : LSt w0 X g M' w s v a' c' q :=
  ⟨h.sh.up hM hl, h.bx, h.by_, h.rd, h.on, h.gl, h.xl, by have := h.ml; omega⟩
/-- A truth value behind the row of what is made, and the row stored. -/
theorem LSt.bool (h : LSt w0 X g M w s v a' c' q) {v' : Value} {x : Bool} (hown : w5.ownsRow (X + 1) 4 1 v' (s.m.length + 1) (s.m.map Value.bool ++ [.bool x])) (hgr : w.grownBy w5 v.ownBlock) (hv : ∀ b, v'.ownBlock = some b → v.ownBlock = some b ∨ w.heap.size ≤ b) :
    (∃ av cv, v' = .slice av (s.m.length + 1) cv) ∧ Blk w5 X 50 #[v, .slice a' s.t.length c'] ∧ w.heap.size ≤ w5.heap.size ∧ LSt w0 X g w5.heap.size (w5.setCell ⟨X, 0, none⟩ v') ⟨s.m ++ [x], s.t⟩ v' a' c' q := by
  have hm := h.ml
  have hx := h.xl
  have hg := h.gl
  have hle := h.sh.le
  have hsz := hgr.size
  have hb := h.sh.bool hown hgr hv
  have hf := grownBy_fr hgr
  have hD : ∀ b, v.ownBlock = some b → X < b := fun b hb => by have := (World.ownsRow.lt h.sh.row b hb).1; omega
  have hbx : Blk w5 X 50 #[v, .slice a' s.t.length c'] := h.bx.fr' hf (fun hd => by have := hD _ hd; omega)
  refine ⟨?_, hbx, hsz, ?_⟩
  · obtain ⟨av, cv, h1, _⟩ := ElRow.at hb.row
    exact ⟨av, cv, by rw [h1]; simp⟩
  · exact ⟨hb.set_ _ _ (.inl (by simp)), by have := hbx.set_ 0 v'; simpa using this, (h.by_.fr' hf (fun hd => by have := hD _ hd; omega)).far (by simp; omega) _,
      (h.rd.fr hf (fun b hb => by have := hD b hb; omega)).keep (fun k hk => Below.heap_setCell _ _ _ _ (by simp; omega)), (h.on.fr hf (fun b hb => by have := hD b hb; omega)).set (.inr (by simp; omega)) _, h.gl, h.xl, by omega⟩
/-- A task behind the tasks, and the list stored. -/
theorem LSt.task (h : LSt w0 X g M w s v a' c' q) {F1 : Nat → Prop} {t : T} {v' : Value} (hF1 : ∀ b, F1 b → M ≤ b ∧ b < w.heap.size) (hg : Grew w 25 (fun b => X + 1 ≤ b ∧ b < M ∧ v.ownBlock ≠ some b) F1 s.t a' t v' w5) :
    ∃ a2 c2, v' = .slice a2 (s.t.length + 1) c2 ∧ Blk w5 X 50 #[v, .slice a' s.t.length c'] ∧ w.heap.size ≤ w5.heap.size ∧ LSt w0 X g w5.heap.size (w5.setCell ⟨X, 1, none⟩ (.slice a2 (s.t.length + 1) c2)) ⟨s.m, s.t ++ [t]⟩ v a2 c2 q := by
  have hm := h.ml
  have hx := h.xl
  have hgl := h.gl
  have hle := h.sh.le
  have hf := hg.fr
  have hsz := hf.size
  obtain ⟨a2, c2, rfl, hb⟩ := h.sh.task hF1 hm hg
  have hD : ∀ b, (∃ x, a' = some x ∧ b = x.block) → X < b := fun b ⟨x, hx, e⟩ => by have := (h.sh.ow.head x hx).1; omega
  have hbx : Blk w5 X 50 #[v, .slice a' s.t.length c'] := h.bx.fr' hf (fun hd => by have := hD _ hd; omega)
  refine ⟨a2, c2, rfl, hbx, hsz, hb.set_ _ _ (.inl (by simp)), by have := hbx.set_ 1 (.slice a2 (s.t.length + 1) c2); simpa using this, (h.by_.fr' hf (fun hd => by have := hD _ hd; omega)).far (by simp; omega) _,
      (h.rd.fr hf (fun b hb => by have := hD b hb; omega)).keep (fun k hk => Below.heap_setCell _ _ _ _ (by simp; omega)), (h.on.fr hf (fun b hb => by have := hD b hb; omega)).set (.inr (by simp; omega)) _, h.gl, h.xl, by omega⟩
end
end Go.Proofs.Ytmbgglmnbllpjaa
