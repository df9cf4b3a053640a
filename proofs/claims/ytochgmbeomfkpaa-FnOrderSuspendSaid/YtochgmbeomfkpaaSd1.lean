/- several texts in one: ShD, ShL, SheetD -/
import Derived.Test.YtochgmbeomfkpaaBs2
import Derived.Test.YtochgmbeomfkpaaLower
import Derived.Test.YtochgmbeomfkpaaDr1
/- a sheet in memory of its own that grows by a key -/
namespace Go.Proofs.Ytochgmbeomfkpaa
open Go.RowKit

/-- A sheet in memory of its own: blocks from B on, below M. -/
structure ShD (w : World) (B M : Nat) (s : Sh) (v : Value) (a' : Option Addr) (c' : Nat) : Prop where
  row : BoolRow w B v s.m
  own : ∀ b, v.ownBlock = some b → b < M
  ow : OwS w 71 (fun b => B ≤ b ∧ b < M ∧ v.ownBlock ≠ some b) s.t a' c'
  le : M ≤ w.heap.size
section
variable {w w' : World} {B M : Nat} {s : Sh} {v : Value} {a' : Option Addr} {c' : Nat}
theorem ShD.fr {D : Nat → Prop} (h : ShD w B M s v a' c') (hf : Fr D w w') (hD : ∀ b, D b → b < B ∨ M ≤ b) : ShD w' B M s v a' c' :=
  ⟨ElRow.frO h.row hf (fun b hb hd => by have := (World.ownsRow.lt h.row b hb).1; have := h.own b hb; have := hD b hd; omega), h.own,
    h.ow.keep (fun _ h => h) (fun b hb hl => hf.2.2.2.2 b hl (fun hd => by have := hD b hd; omega)), Nat.le_trans h.le hf.size⟩
theorem ShD.only {g : Nat} (h : ShD w B M s v a' c') (ho : Only g w w') (hg : g < B) : ShD w' B M s v a' c' :=
  h.fr (D := fun b => b = g) ⟨ho.os, ho.tape, ho.output, ho.size, fun b hb hn => ho.block b hb (by intro e; injection e; contradiction)⟩ (fun b hb => by omega)
theorem ShD.below (h : ShD w B M s v a' c') (hb : Below w.heap.size w w') : ShD w' B M s v a' c' := h.fr (D := fun _ => False) (Fr.of_below hb) (fun _ h => h.elim)
theorem ShD.alloc (h : ShD w B M s v a' c') (o : Obj) : ShD (w.alloc o) B M s v a' c' := h.below ((Below.refl _ _).alloc (Nat.le_refl _) o)
theorem ShD.set_ (h : ShD w B M s v a' c') (p : Addr) (u : Value) (hp : p.block < B ∨ M ≤ p.block) : ShD (w.setCell p u) B M s v a' c' :=
  h.fr (D := fun b => p.block = b) (Fr.set' (D := fun b => p.block = b) (Fr.of_below (Below.refl w.heap.size w)) p rfl u) (fun b hb => by omega)
theorem ShD.up (h : ShD w B M s v a' c') {M' : Nat} (hM : M ≤ M') (hl : M' ≤ w.heap.size) : ShD w B M' s v a' c' :=
  ⟨h.row, fun b hb => Nat.lt_of_lt_of_le (h.own b hb) hM, h.ow.weaken (fun b hb => ⟨hb.1, by omega, hb.2.2⟩), hl⟩
theorem ShD.low {B' : Nat} (h : ShD w B M s v a' c') (hB : B' ≤ B) : ShD w B' M s v a' c' := ⟨ownsRow_low h.row hB, h.own, h.ow.weaken (fun b hb => ⟨by omega, hb.2⟩), h.le⟩
theorem ShD.bool (h : ShD w B M s v a' c') {v' : Value} {x : Bool} (hown : w'.ownsRow B 4 1 v' (s.m.length + 1) (s.m.map Value.bool ++ [.bool x])) (hgr : w.grownBy w' v.ownBlock) (hv : ∀ b, v'.ownBlock = some b → v.ownBlock = some b ∨ w.heap.size ≤ b) :
    ShD w' B w'.heap.size ⟨s.m ++ [x], s.t⟩ v' a' c' := by
  have hle := h.le
  have hsz := hgr.size
  refine ⟨?_, fun b hb => (World.ownsRow.lt hown b hb).2, ?_, Nat.le_refl _⟩
  · unfold BoolRow ElRow
    simp only [List.length_append, List.length_singleton, List.map_append, List.map_cons, List.map_nil]
    exact hown
  · refine h.ow.keep (fun b hb => ⟨hb.1, by omega, fun e => ?_⟩) (fun b hb hl => hgr.block b hl (fun e => hb.2.2 e.symm))
    rcases hv b e with h1 | h1
    · exact hb.2.2 h1
    · omega
theorem ShD.task (h : ShD w B M s v a' c') {F1 : Nat → Prop} {t : T} {v' : Value} (hF1 : ∀ b, F1 b → M ≤ b ∧ b < w.heap.size) (hB : B ≤ M) (hg : Grew w 71 (fun b => B ≤ b ∧ b < M ∧ v.ownBlock ≠ some b) F1 s.t a' t v' w') :
    ∃ a2 c2, v' = .slice a2 (s.t.length + 1) c2 ∧ ShD w' B w'.heap.size ⟨s.m, s.t ++ [t]⟩ v a2 c2 := by
  obtain ⟨a2, c2, rfl, how, hsz, hkeep, hos, htape, hout⟩ := hg
  have hle := h.le
  have hhead : ∀ x, a' = some x → B ≤ x.block ∧ x.block < M ∧ v.ownBlock ≠ some x.block := fun x hx => h.ow.head x hx
  refine ⟨a2, c2, rfl, ?_, fun b hb => by have := h.own b hb; omega, ?_, Nat.le_refl _⟩
  · exact ElRow.frO (D := fun b => ∃ x, a' = some x ∧ b = x.block) h.row ⟨hos, htape, hout, hsz, fun b hb hn => hkeep b hb (fun x hx e => hn ⟨x, hx, e⟩)⟩
      (fun b hb hd => by obtain ⟨x, hx, e⟩ := hd; exact (hhead x hx).2.2 (by rw [← e]; exact hb))
  · refine how.tight.weaken (fun b hb => ⟨?_, hb.2, fun e => ?_⟩)
    · rcases hb.1 with h1 | h1 | h1
      · exact h1.1
      · have := hF1 b h1; omega
      · omega
    · have := h.own b e
      rcases hb.1 with h1 | h1 | h1
      · exact h1.2.2 e
      · have := hF1 b h1; omega
      · omega
theorem Grew.fr {e : TypeId} {F F1 : Nat → Prop} {ps : List T} {av : Option Addr} {t : T} {v' : Value} (hg : Grew w e F F1 ps av t v' w') : Fr (fun b => ∃ x, av = some x ∧ b = x.block) w w' := by
  obtain ⟨a2, c2, rfl, how, hsz, hkeep, hos, htape, hout⟩ := hg
  exact ⟨hos, htape, hout, hsz, fun b hb hn => hkeep b hb (fun x hx e => hn ⟨x, hx, e⟩)⟩
theorem Only.fr {g : Nat} {w0 : World} {D : Nat → Prop} (h : Only g w0 w) (hf : Fr D w w') (hD : ∀ b, D b → w0.heap.size ≤ b) : Only g w0 w' :=
  ⟨hf.1.trans h.os, hf.2.1.trans h.tape, hf.2.2.1.trans h.output, Nat.le_trans h.size hf.size, fun b hb hn => (hf.2.2.2.2 b (Nat.lt_of_lt_of_le hb h.size) (fun hd => by have := hD b hd; omega)).trans (h.block b hb hn)⟩
theorem RdAt.fr {g p : Nat} {D : Nat → Prop} (h : RdAt w g p) (hf : Fr D w w') (hD : ∀ b, D b → g < b) : RdAt w' g p :=
  h.keep fun k hk => hf.2.2.2.2 k (by have := h.lt; omega) (fun hd => by have := hD k hd; omega)
theorem grownBy_fr {row : Option Nat} (h : w.grownBy w' row) : Fr (fun b => row = some b) w w' := ⟨h.os, h.tape, h.output, h.size, fun b hb hn => h.block b hb (fun e => hn e.symm)⟩
/-- What a sheet in memory of its own reads as. -/
theorem ShD.at (h : ShD w B M s v a' c') : ∃ a c, v = .slice a s.m.length c ∧ ShAt w (fun b => B ≤ b ∧ b < M) s a c a' c' := by
  obtain ⟨a, c, rfl, h2⟩ := ElRow.at h.row
  refine ⟨a, c, rfl, ?_, h.ow.at.weaken (fun b hb => ⟨hb.1, hb.2.1⟩)⟩
  refine ⟨h2.1, h2.2.1, ?_⟩
  rcases h2.2.2 with h0 | ⟨b, o, rfl, hb, hc⟩
  · exact .inl h0
  · by_cases h0 : s.m = []
    · exact .inl h0
    · have hp : 0 < s.m.length := List.length_pos_iff.2 h0
      obtain ⟨g, cap, hv⟩ := own_some h.row hp
      simp only [Value.slice.injEq, Option.some.injEq, Addr.mk.injEq, true_and, and_true] at hv
      have := h.own b (by rw [hv.1.1, hv.1.2]; rfl)
      exact .inr ⟨b, o, rfl, ⟨hb, this⟩, hc⟩
end
end Go.Proofs.Ytochgmbeomfkpaa
/- where the loop of l91Sheet stands -/
namespace Go.Proofs.Ytochgmbeomfkpaa
open Go.RowKit

structure LSt (w0 : World) (X g M : Nat) (w : World) (s : Sh) (v : Value) (a' : Option Addr) (c' q : Nat) : Prop where
  sh : ShD w (X + 1) M s v a' c'
  bx : Blk w X 32 #[v, .slice a' s.t.length c']
  by_ : Blk w w0.heap.size 32 #[.slice none 0 0, .slice none 0 0]
  rd : RdAt w g q
  on : Only g w0 w
  gl : g < w0.heap.size
  xl : w0.heap.size < X
  ml : X + 1 ≤ M
section
variable {w0 w w' w5 : World} {X g M q : Nat} {s : Sh} {v : Value} {a' : Option Addr} {c' : Nat}
theorem LSt.fr {D : Nat → Prop} (h : LSt w0 X g M w s v a' c' q) (hf : Fr D w w') (hD : ∀ b, D b → M ≤ b) : LSt w0 X g M w' s v a' c' q :=
  have hm := h.ml
  have hx := h.xl
  have hg := h.gl
  ⟨h.sh.fr hf (fun b hb => .inr (hD b hb)), h.bx.fr' hf (fun hd => by have := hD _ hd; omega), h.by_.fr' hf (fun hd => by have := hD _ hd; omega), h.rd.fr hf (fun b hb => by have := hD b hb; omega), h.on.fr hf (fun b hb => by have := hD b hb; omega), h.gl, h.xl, h.ml⟩
theorem LSt.put (h : LSt w0 X g M w s v a' c' q) (R : Nat) (hR : M ≤ R) (x y z : Value) : LSt w0 X g M (set3 w R x y z) s v a' c' q := by
  have hf : Fr (fun b => b = R) w (set3 w R x y z) := by
    have := put3_fr (D := fun b => b = R) (Fr.of_below (Below.refl w.heap.size w)) R 0 rfl x y z
    simpa [put3, set3] using this
  exact h.fr hf (fun b hb => by omega)
theorem LSt.below (h : LSt w0 X g M w s v a' c' q) (hb : Below w.heap.size w w') : LSt w0 X g M w' s v a' c' q := h.fr (D := fun _ => False) (Fr.of_below hb) (fun _ h => h.elim)
theorem LSt.alloc (h : LSt w0 X g M w s v a' c' q) (o : Obj) : LSt w0 X g M (w.alloc o) s v a' c' q := h.below ((Below.refl _ _).alloc (Nat.le_refl _) o)
theorem LSt.only {q' : Nat} (h : LSt w0 X g M w s v a' c' q) (ho : Only g w w') (hr : RdAt w' g q') : LSt w0 X g M w' s v a' c' q' :=
  have hm := h.ml
  have hx := h.xl
  have hg := h.gl
  ⟨h.sh.only ho (by omega), h.bx.only ho (by omega), h.by_.only ho (by omega), hr, h.on.trans ho, h.gl, h.xl, h.ml⟩
theorem LSt.up (h : LSt w0 X g M w s v a' c' q) {M' : Nat} (hM : M ≤ M') (hl : M' ≤ w.heap.size) : LSt w0 X g M' w s v a' c' q :=
  ⟨h.sh.up hM hl, h.bx, h.by_, h.rd, h.on, h.gl, h.xl, by have := h.ml; omega⟩
/-- A truth value behind the row of what is made, and the row stored. -/
theorem LSt.bool (h : LSt w0 X g M w s v a' c' q) {v' : Value} {x : Bool} (hown : w5.ownsRow (X + 1) 4 1 v' (s.m.length + 1) (s.m.map Value.bool ++ [.bool x])) (hgr : w.grownBy w5 v.ownBlock) (hv : ∀ b, v'.ownBlock = some b → v.ownBlock = some b ∨ w.heap.size ≤ b) :
    (∃ av cv, v' = .slice av (s.m.length + 1) cv) ∧ Blk w5 X 32 #[v, .slice a' s.t.length c'] ∧ w.heap.size ≤ w5.heap.size ∧ LSt w0 X g w5.heap.size (w5.setCell ⟨X, 0, none⟩ v') ⟨s.m ++ [x], s.t⟩ v' a' c' q := by
  have hm := h.ml
  have hx := h.xl
  have hg := h.gl
  have hle := h.sh.le
  have hsz := hgr.size
  have hb := h.sh.bool hown hgr hv
  have hf := grownBy_fr hgr
  have hD : ∀ b, v.ownBlock = some b → X < b := fun b hb => by have := (World.ownsRow.lt h.sh.row b hb).1; omega
  have hbx : Blk w5 X 32 #[v, .slice a' s.t.length c'] := h.bx.fr' hf (fun hd => by have := hD _ hd; omega)
  refine ⟨?_, hbx, hsz, ?_⟩
  · obtain ⟨av, cv, h1, _⟩ := ElRow.at hb.row
    exact ⟨av, cv, by rw [h1]; simp⟩
  · exact ⟨hb.set_ _ _ (.inl (by simp)), by have := hbx.set_ 0 v'; simpa using this, (h.by_.fr' hf (fun hd => by have := hD _ hd; omega)).far (by simp; omega) _,
      (h.rd.fr hf (fun b hb => by have := hD b hb; omega)).keep (fun k hk => Below.heap_setCell _ _ _ _ (by simp; omega)), (h.on.fr hf (fun b hb => by have := hD b hb; omega)).set (.inr (by simp; omega)) _, h.gl, h.xl, by omega⟩
/-- A task behind the tasks, and the list stored. -/
theorem LSt.task (h : LSt w0 X g M w s v a' c' q) {F1 : Nat → Prop} {t : T} {v' : Value} (hF1 : ∀ b, F1 b → M ≤ b ∧ b < w.heap.size) (hg : Grew w 71 (fun b => X + 1 ≤ b ∧ b < M ∧ v.ownBlock ≠ some b) F1 s.t a' t v' w5) :
    ∃ a2 c2, v' = .slice a2 (s.t.length + 1) c2 ∧ Blk w5 X 32 #[v, .slice a' s.t.length c'] ∧ w.heap.size ≤ w5.heap.size ∧ LSt w0 X g w5.heap.size (w5.setCell ⟨X, 1, none⟩ (.slice a2 (s.t.length + 1) c2)) ⟨s.m, s.t ++ [t]⟩ v a2 c2 q := by
  have hm := h.ml
  have hx := h.xl
  have hgl := h.gl
  have hle := h.sh.le
  have hf := hg.fr
  have hsz := hf.size
  obtain ⟨a2, c2, rfl, hb⟩ := h.sh.task hF1 hm hg
  have hD : ∀ b, (∃ x, a' = some x ∧ b = x.block) → X < b := fun b ⟨x, hx, e⟩ => by have := (h.sh.ow.head x hx).1; omega
  have hbx : Blk w5 X 32 #[v, .slice a' s.t.length c'] := h.bx.fr' hf (fun hd => by have := hD _ hd; omega)
  refine ⟨a2, c2, rfl, hbx, hsz, hb.set_ _ _ (.inl (by simp)), by have := hbx.set_ 1 (.slice a2 (s.t.length + 1) c2); simpa using this, (h.by_.fr' hf (fun hd => by have := hD _ hd; omega)).far (by simp; omega) _,
      (h.rd.fr hf (fun b hb => by have := hD b hb; omega)).keep (fun k hk => Below.heap_setCell _ _ _ _ (by simp; omega)), (h.on.fr hf (fun b hb => by have := hD b hb; omega)).set (.inr (by simp; omega)) _, h.gl, h.xl, by omega⟩
end
end Go.Proofs.Ytochgmbeomfkpaa
/- l91Sheet -/
namespace Go.Proofs.Ytochgmbeomfkpaa
open Go.RowKit

/-- A sheet was drawn. -/
def SheetDr (g p : Nat) (w : World) (e : Ending) (w' : World) : Prop := ∃ (s : Sh) (v : Value) (a' : Option Addr) (c' q : Nat), e = .returned (.agg #[v, .slice a' s.t.length c']) ∧ ShD w' w.heap.size w'.heap.size s v a' c' ∧ s.t.length = s.m.length ∧ s.m.length ≤ 8 ∧ nodesL s.t ≤ 120 ∧ p ≤ q ∧ q ≤ p + 400 ∧ RdAt w' g q ∧ Only g w w'

set_option maxHeartbeats 3000000 in
theorem sheetD_any (w : World) (g p : Nat) (hr : RdAt w g p) (hp : p ≤ 990000) : Calls Try.prog 43 #[.pointer (some ⟨g, 0, none⟩)] w (SheetDr g p w) := by
  obtain ⟨iB, bi, bz0, bz1, bz2⟩ := info_parts infoBool
  have HIB := Lib.hid (And.intro bi (And.intro bz0 (And.intro bz1 bz2)))
  obtain ⟨iT, ti, tz0, tz1, tz2⟩ := info_parts infoTask
  have HIT := Lib.hid (And.intro ti (And.intro tz0 (And.intro tz1 tz2)))
  have hml : maxLen = 9223372036854775807 := rfl
  have HML := Lib.hid hml
  have hgl := hr.lt
  have hgn : w.heap.size ≠ g := by omega
  have HR0 := Lib.hid (hr.alloc (.cells #[.slice none 0 0, .slice none 0 0] 32))
  have HY0 := Lib.hid (Blk.new w 32 #[.slice none 0 0, .slice none 0 0])
  have HO0 := Lib.hid ((Only.refl g w).alloc (.cells #[.slice none 0 0, .slice none 0 0] 32))
  clear bi bz0 bz1 bz2 ti tz0 tz1 tz2 hml hr
  go_enter Try.func43, Try.ntmps43
  go_wp2_with fail
  refine (pick_any _ g p 7 HR0.out (by omega) (by omega) (by omega)).mono ?_
  rintro e w1 ⟨r, rfl, h0, h1, hrd, ho⟩
  have hr7 := h1 (by omega)
  have hs1 := ho.size
  simp only [World.size_alloc] at hs1
  have HR1 := Lib.hid (hrd.alloc (.cells #[.slice none 0 0, .slice none 0 0] 32))
  have HY1 := Lib.hid ((HY0.out.only ho hgn).alloc (.cells #[.slice none 0 0, .slice none 0 0] 32))
  have HX1 := Lib.hid (Blk.new w1 32 #[.slice none 0 0, .slice none 0 0])
  have HO1 := Lib.hid ((HO0.out.trans ho).alloc (.cells #[.slice none 0 0, .slice none 0 0] 32))
  obtain ⟨n, rfl⟩ : ∃ n : Nat, r = n := ⟨r.toNat, by omega⟩
  clear h1 hrd ho HR0 HO0 HY0
  go_wp2_with fail
  refine (pick_any _ g _ 3 HR1.out (by omega) (by omega) (by omega)).mono ?_
  rintro e w2 ⟨r, rfl, k0, k1, hrd, ho⟩
  have hr3 := k1 (by omega)
  have hXg : w1.heap.size ≠ g := by omega
  have hs2 := ho.size
  simp only [World.size_alloc] at hs2
  have HR2 := Lib.hid hrd
  have HY2 := Lib.hid (HY1.out.only ho hgn)
  have HX2 := Lib.hid (HX1.out.only ho hXg)
  have HO2 := Lib.hid (HO1.out.trans ho)
  obtain ⟨f, rfl⟩ : ∃ f : Nat, r = f := ⟨r.toNat, by omega⟩
  clear k1 hrd ho HR1 HO1 HY1 HX1
  go_wp2_with fail
  refine (pick_any _ g _ 8 HR2.out (by omega) (by omega) (by omega)).mono ?_
  rintro e w3 ⟨r, rfl, l0, l1, hrd, ho⟩
  have hs3 := ho.size
  have HR3 := Lib.hid hrd
  have HY3 := Lib.hid (HY2.out.only ho hgn)
  have HX3 := Lib.hid (HX2.out.only ho hXg)
  have HO3 := Lib.hid (HO2.out.trans ho)
  obtain ⟨wild, hwild⟩ : ∃ b, b = (r == 0) := ⟨_, rfl⟩
  clear l0 l1 hrd ho HR2 HO2 HY2 HX2
  go_upto_region 5 with (fail)
  rw [← hwild]
  clear hwild
  obtain ⟨N, hN⟩ : ∃ N : Nat, (N : Int) = 2 + (n : Int) := ⟨2 + n, by omega⟩
  obtain ⟨fi, hfi⟩ : ∃ N : Nat, (N : Int) = 1 + (f : Int) := ⟨1 + f, by omega⟩
  rw [← hN, ← hfi]
  have hN8 : N ≤ 8 := by omega
  clear hN hfi
  have hst : LSt w w1.heap.size g w3.heap.size w3 ⟨[], []⟩ (.slice none 0 0) none 0 (p + 1 + 1 + 1) :=
    ⟨⟨⟨by simp, .inl ⟨rfl, rfl⟩⟩, (by intro b hb; cases hb), OwS.nil, Nat.le_refl _⟩, HX3.out, HY3.out, HR3.out, HO3.out, hgl, by omega, by omega⟩
  have HST := Lib.hid hst
  clear hst HX3 HY3 HR3 HO3
  go_wp2_with fail
  go_loopw [7, 8, 9] (fun k _ _ wr => ∃ (s : Sh) (v : Value) (a' : Option Addr) (c' q : Nat), k = .int .i64 s.m.length ∧ s.m.length ≤ N ∧ s.t.length = s.m.length ∧ nodesL s.t ≤ 15 * s.m.length ∧ (p ≤ q ∧ q ≤ p + 3 + 41 * s.m.length) ∧ LSt w w1.heap.size g wr.heap.size wr s v a' c' q) (fun k _ _ _ => N - (intOf k).toNat)
  case atStart => exact ⟨⟨[], []⟩, _, _, _, _, rfl, by simp, rfl, by simp [nodesL], by simp; omega, HST.out⟩
  case round =>
    obtain ⟨s, v, a', c', q, rfl, hsm, hst, hsn, hq, hls⟩ := hrel
    obtain ⟨av, cv, rfl, _⟩ := ElRow.at hls.sh.row
    have HL := Lib.hid hls
    have HTL := Lib.hid hst
    have hst8 : s.t.length ≤ 8 := by omega
    clear hls HST hst
    by_cases hlt : s.m.length < N
    · by_cases hf : s.m.length < fi
      · have HFI := Lib.hid hf
        clear hst8
        have hst8 : s.t.length ≤ 8 := by have := HTL.out; omega
        obtain ⟨x0, x1, _, _⟩ := HL.out.bx.two
        go_wp2_with (at_builtin; refine wpList_append_row _ rfl (.tmp 34) (.tmp 35) 22 rfl (w1.heap.size + 1) 4 iB (.bool false) 1 1 Try.underlying22 HIB.out.1 HIB.out.2.1 HIB.out.2.2.1 HIB.out.2.2.2 rfl (by decide) _ s.m.length (s.m.map Value.bool) rfl (World.ownsRow.alloc HL.out.sh.row _) ⟨wr.heap.size, 0, none⟩ 1 1 [.bool false] rfl rfl ?ba1 ?ba2 (by decide) ?ba3 ?ba4 ?ba5 ?_)
        case ba1 => exact news1 _ _ _
        case ba2 => simp [Value.oneCell']
        case ba3 => rw [HML.out]; omega
        case ba4 => omega
        case ba5 => have := HL.out.ml; have := HL.out.sh.le; simp; omega
        intro v5 w5 hown hgr hnv
        obtain ⟨⟨av5, cv5, rfl⟩, hbx, hsz5, hl5⟩ := (HL.out.alloc (.cells #[.bool false] 4)).bool (x := false) hown hgr (by simpa using hnv)
        simp only [World.size_alloc] at hsz5
        clear hown hgr hnv x0 x1
        have H5 := Lib.hid hl5
        obtain ⟨x0, x1, f0, f1⟩ := hbx.two
        clear hl5 hbx
        go_upto_region 10 with (fail)
        clear x0 x1 f0 f1
        obtain ⟨w6, hw6⟩ : ∃ W, W = w5.setCell ⟨w1.heap.size, 0, none⟩ (.slice av5 (s.m.length + 1) cv5) := ⟨_, rfl⟩
        have hs6 : w6.heap.size = w5.heap.size := by rw [hw6]; simp [World.setCell]
        rw [← hw6]
        have h6 : LSt w w1.heap.size g w6.heap.size w6 ⟨s.m ++ [false], s.t⟩ (.slice av5 (s.m.length + 1) cv5) a' c' q := by rw [hs6, hw6]; exact H5.out
        have H6 := Lib.hid h6
        clear hw6 H5 h6 hs6

        obtain ⟨x0, x1, _, _⟩ := H6.out.bx.two
        have hlenT : s.t.length ≤ 1000000 := by omega
        go_wp2_with (at_builtin; refine wpList_append_ow _ rfl (.tmp 39) (.tmp 41) 30 71 rfl iT _ Try.underlying30 HIT.out.1 HIT.out.2.1 HIT.out.2.2.1 HIT.out.2.2.2 rfl (fun b => w1.heap.size + 1 ≤ b ∧ b < w6.heap.size ∧ (Value.slice av5 (s.m.length + 1) cv5).ownBlock ≠ some b) (fun _ => False) s.t a' c' rfl (H6.out.sh.ow.alloc _) hlenT ⟨w6.heap.size, 0, none⟩ 1 rfl (.mk 0 0 []) none 0 ?ta1 ?ta2 ?ta3 OwS.nil ?ta4 ?ta5 ?ta6 ?_)
        case ta1 => intro j u hj; first | (rw [add0, World.cell?_alloc_new, ← hj]; simp [T.k, T.n, T.ps]; done) | exact hj | simpa [T.k, T.n, T.ps] using hj
        case ta2 => simp [T.k, i64ok]
        case ta3 => simp [T.n, i64ok]
        case ta5 => intro b hb; have := H6.out.sh.le; first | omega | (simp; omega)
        intro v7 w7 hgr
        obtain ⟨a7, c7, rfl, hbx, hsz7, hl7⟩ := (H6.out.alloc _).task (t := (.mk 0 0 [])) (F1 := (fun _ => False)) (fun b hb => hb.elim) hgr
        simp only [World.size_alloc] at hsz7
        have H7 := Lib.hid hl7
        clear hgr hl7 x0 x1
        obtain ⟨x0, x1, f0, f1⟩ := hbx.two
        clear hbx
        go_wp2_with fail
        clear x0 x1 f0 f1
        go_roundw
        case rel => exact ⟨_, _, _, _, _, by simp only [List.length_append, List.length_singleton]; go_num, by simp only [List.length_append, List.length_singleton]; omega, by have := HTL.out; simp only [List.length_append, List.length_singleton]; omega, by rw [nodesL_append]; simp only [nodesL, T.nodes, List.length_append, List.length_singleton]; omega, by simp only [List.length_append, List.length_singleton]; omega, H7.out.up (by simp [World.setCell]) (Nat.le_refl _)⟩
        case measure => simp [intOf]; omega
      · go_wp2_with fail
        refine (pick_any _ g _ 10 HL.out.rd (by omega) (by omega) (by omega)).mono ?_
        rintro e w4 ⟨r4, rfl, m0, m1, hrd, ho⟩
        have hs4 := ho.size
        have HL4 := Lib.hid (HL.out.only ho hrd)
        clear hrd ho m1 HL
        by_cases hr0 : r4 = 0
        · subst hr0
          obtain ⟨x0, x1, _, _⟩ := HL4.out.bx.two
          go_wp2_with (at_builtin; refine wpList_append_row _ rfl (.tmp 34) (.tmp 35) 22 rfl (w1.heap.size + 1) 4 iB (.bool false) 1 1 Try.underlying22 HIB.out.1 HIB.out.2.1 HIB.out.2.2.1 HIB.out.2.2.2 rfl (by decide) _ s.m.length (s.m.map Value.bool) rfl (World.ownsRow.alloc HL4.out.sh.row _) ⟨w4.heap.size, 0, none⟩ 1 1 [.bool false] rfl rfl ?bc1 ?bc2 (by decide) ?bc3 ?bc4 ?bc5 ?_)
          case bc1 => exact news1 _ _ _
          case bc2 => simp [Value.oneCell']
          case bc3 => rw [HML.out]; omega
          case bc4 => omega
          case bc5 => have := HL4.out.ml; have := HL4.out.sh.le; simp; omega
          intro v5 w5 hown hgr hnv
          obtain ⟨⟨av5, cv5, rfl⟩, hbx, hsz5, hl5⟩ := (HL4.out.alloc (.cells #[.bool false] 4)).bool (x := false) hown hgr (by simpa using hnv)
          simp only [World.size_alloc] at hsz5
          clear hown hgr hnv x0 x1
          have H5 := Lib.hid hl5
          obtain ⟨x0, x1, f0, f1⟩ := hbx.two
          clear hl5 hbx
          go_upto_region 10 with (fail)
          clear x0 x1 f0 f1
          obtain ⟨w6, hw6⟩ : ∃ W, W = w5.setCell ⟨w1.heap.size, 0, none⟩ (.slice av5 (s.m.length + 1) cv5) := ⟨_, rfl⟩
          have hs6 : w6.heap.size = w5.heap.size := by rw [hw6]; simp [World.setCell]
          rw [← hw6]
          have h6 : LSt w w1.heap.size g w6.heap.size w6 ⟨s.m ++ [false], s.t⟩ (.slice av5 (s.m.length + 1) cv5) a' c' (q + 1) := by rw [hs6, hw6]; exact H5.out
          have H6 := Lib.hid h6
          clear hw6 H5 h6 hs6

          obtain ⟨x0, x1, _, _⟩ := H6.out.bx.two
          have hlenT : s.t.length ≤ 1000000 := by omega
          go_wp2_with (at_builtin; refine wpList_append_ow _ rfl (.tmp 39) (.tmp 41) 30 71 rfl iT _ Try.underlying30 HIT.out.1 HIT.out.2.1 HIT.out.2.2.1 HIT.out.2.2.2 rfl (fun b => w1.heap.size + 1 ≤ b ∧ b < w6.heap.size ∧ (Value.slice av5 (s.m.length + 1) cv5).ownBlock ≠ some b) (fun _ => False) s.t a' c' rfl (H6.out.sh.ow.alloc _) hlenT ⟨w6.heap.size, 0, none⟩ 1 rfl (.mk 0 0 []) none 0 ?tc1 ?tc2 ?tc3 OwS.nil ?tc4 ?tc5 ?tc6 ?_)
          case tc1 => intro j u hj; first | (rw [add0, World.cell?_alloc_new, ← hj]; simp [T.k, T.n, T.ps]; done) | exact hj | simpa [T.k, T.n, T.ps] using hj
          case tc2 => simp [T.k, i64ok]
          case tc3 => simp [T.n, i64ok]
          case tc5 => intro b hb; have := H6.out.sh.le; first | omega | (simp; omega)
          intro v7 w7 hgr
          obtain ⟨a7, c7, rfl, hbx, hsz7, hl7⟩ := (H6.out.alloc _).task (t := (.mk 0 0 [])) (F1 := (fun _ => False)) (fun b hb => hb.elim) hgr
          simp only [World.size_alloc] at hsz7
          have H7 := Lib.hid hl7
          clear hgr hl7 x0 x1
          obtain ⟨x0, x1, f0, f1⟩ := hbx.two
          clear hbx
          go_wp2_with fail
          clear x0 x1 f0 f1
          go_roundw
          case rel => exact ⟨_, _, _, _, _, by simp only [List.length_append, List.length_singleton]; go_num, by simp only [List.length_append, List.length_singleton]; omega, by have := HTL.out; simp only [List.length_append, List.length_singleton]; omega, by rw [nodesL_append]; simp only [nodesL, T.nodes, List.length_append, List.length_singleton]; omega, by simp only [List.length_append, List.length_singleton]; omega, H7.out.up (by simp [World.setCell]) (Nat.le_refl _)⟩
          case measure => simp [intOf]; omega
        · have hr0b : (r4 == 0) = false := by simp [hr0]
          clear hr0
          obtain ⟨x0, x1, _, _⟩ := HL4.out.bx.two
          go_wp2_with (at_builtin; refine wpList_append_row _ rfl (.tmp 45) (.tmp 46) 22 rfl (w1.heap.size + 1) 4 iB (.bool false) 1 1 Try.underlying22 HIB.out.1 HIB.out.2.1 HIB.out.2.2.1 HIB.out.2.2.2 rfl (by decide) _ s.m.length (s.m.map Value.bool) rfl (World.ownsRow.alloc HL4.out.sh.row _) ⟨w4.heap.size, 0, none⟩ 1 1 [.bool true] rfl rfl ?bb1 ?bb2 (by decide) ?bb3 ?bb4 ?bb5 ?_)
          case bb1 => exact news1 _ _ _
          case bb2 => simp [Value.oneCell']
          case bb3 => rw [HML.out]; omega
          case bb4 => omega
          case bb5 => have := HL4.out.ml; have := HL4.out.sh.le; simp; omega
          intro v5 w5 hown hgr hnv
          obtain ⟨⟨av5, cv5, rfl⟩, hbx, hsz5, hl5⟩ := (HL4.out.alloc (.cells #[.bool true] 4)).bool (x := true) hown hgr (by simpa using hnv)
          simp only [World.size_alloc] at hsz5
          clear hown hgr hnv x0 x1
          have H5 := Lib.hid hl5
          obtain ⟨x0, x1, f0, f1⟩ := hbx.two
          clear hl5 hbx
          go_upto_region 12 with (fail)
          clear x0 x1 f0 f1
          obtain ⟨w6, hw6⟩ : ∃ W, W = w5.setCell ⟨w1.heap.size, 0, none⟩ (.slice av5 (s.m.length + 1) cv5) := ⟨_, rfl⟩
          have hs6 : w6.heap.size = w5.heap.size := by rw [hw6]; simp [World.setCell]
          rw [← hw6]
          have h6 : LSt w w1.heap.size g w6.heap.size w6 ⟨s.m ++ [true], s.t⟩ (.slice av5 (s.m.length + 1) cv5) a' c' (q + 1) := by rw [hs6, hw6]; exact H5.out
          have H6 := Lib.hid h6
          clear hw6 H5 h6 hs6
          cases wild
          · go_wp2_with fail
            refine (fit_any _ g _ _ H6.out.rd (by omega) (by omega) (by omega)).mono ?_
            rintro e w8 ⟨t, at8, ct8, q8, rfl, how8, ok1, ok2, hok, hp0, hp1, hrd, ho⟩
            have hs8 := ho.size
            have hn15 : t.nodes ≤ 15 := by have := hok; simp [T.ok] at this; exact this.2
            have hfit : t.fit = true := by have := hok; simp [T.ok] at this; exact this.1
            have H8 := Lib.hid ((H6.out.only ho hrd).alloc (.cells #[.int .i64 t.k, .int .i64 t.n, .slice at8 t.ps.length ct8] 71))
            have HT8 := Lib.hid (how8.alloc (.cells #[.int .i64 t.k, .int .i64 t.n, .slice at8 t.ps.length ct8] 71))
            have HB8 := Lib.hid (Blk.new w8 71 #[.int .i64 t.k, .int .i64 t.n, .slice at8 t.ps.length ct8])
            have HOK := Lib.hid (And.intro ok1 ok2)
            have HFT := Lib.hid hfit
            clear how8 ok1 ok2 hok hrd ho hfit H6

            obtain ⟨z0, z1, z2, _, _, _⟩ := HB8.out.three
            go_wp2_with fail
            refine (lower_any t _ _ _ _ _ HFT.out HOK.out.1 HOK.out.2 HT8.out (fun b hb => by simp; omega)).mono ?_
            rintro e w9 ⟨a9, c9, rfl, ok3, ok4, how9, hfr⟩
            have hs9 := hfr.size
            simp only [World.size_alloc] at hs9
            have H9 := Lib.hid (H8.out.fr hfr (fun b hb => hb.1))
            have hb9 := HB8.out.fr' hfr (fun h => by omega)
            have HB9 := Lib.hid hb9
            have HT9 := Lib.hid how9
            have HK10 := Lib.hid (And.intro ok3 ok4)
            clear z0 z1 z2 ok3 ok4 how9 hfr H8 HT8 HB8
            obtain ⟨z0, z1, z2, f0, f1, f2⟩ := hb9.three
            clear hb9
            go_upto_region 18 with (fail)
            clear z0 z1 z2 f0 f1 f2
            obtain ⟨w10, hw10⟩ : ∃ W, W = set3 w9 w8.heap.size (.int .i64 t.low.k) (.int .i64 t.low.n) (.slice a9 t.low.ps.length c9) := ⟨_, rfl⟩
            have hs10 : w8.heap.size < w10.heap.size := by rw [hw10, set3_size]; omega
            have h10 : LSt w w1.heap.size g w6.heap.size w10 ⟨s.m ++ [true], s.t⟩ (.slice av5 (s.m.length + 1) cv5) a' c' q8 := by
              rw [hw10]
              exact H9.out.put _ (by omega) _ _ _
            have ht10 : OwS w10 71 (fun b => w6.heap.size ≤ b ∧ b < w8.heap.size) t.low.ps a9 c9 := by rw [hw10]; exact HT9.out.set3 (fun b hb => by omega) _ _ _
            have hb10 : Blk w10 w8.heap.size 71 #[.int .i64 t.low.k, .int .i64 t.low.n, .slice a9 t.low.ps.length c9] := by
              rw [hw10]; have := ((HB9.out.set_ 0 (.int .i64 t.low.k)).set_ 1 (.int .i64 t.low.n)).set_ 2 (.slice a9 t.low.ps.length c9); simpa [set3] using this
            unfold set3 at hw10
            rw [← hw10]
            have H10 := Lib.hid h10
            have HT10 := Lib.hid ht10
            have HB10 := Lib.hid hb10
            have HS10 := Lib.hid hs10
            have HN10 := Lib.hid (Nat.le_trans t.low_nodes hn15)
            clear hw10 h10 ht10 hb10 hs10 H9 HT9 HB9

            obtain ⟨z0, z1, z2, _, _, _⟩ := HB10.out.three

            obtain ⟨x0, x1, _, _⟩ := H10.out.bx.two
            have hlenT : s.t.length ≤ 1000000 := by omega
            go_wp2_with (at_builtin; refine wpList_append_ow _ rfl (.tmp 61) (.tmp 63) 30 71 rfl iT _ Try.underlying30 HIT.out.1 HIT.out.2.1 HIT.out.2.2.1 HIT.out.2.2.2 rfl (fun b => w1.heap.size + 1 ≤ b ∧ b < w6.heap.size ∧ (Value.slice av5 (s.m.length + 1) cv5).ownBlock ≠ some b) (fun b => w6.heap.size ≤ b ∧ b < w8.heap.size) s.t a' c' rfl (H10.out.sh.ow.alloc _) hlenT ⟨w10.heap.size, 0, none⟩ 1 rfl t.low a9 c9 ?te1 ?te2 ?te3 (HT10.out.alloc _) ?te4 ?te5 ?te6 ?_)
            case te2 => exact HK10.out.1
            case te3 => exact HK10.out.2
            case te4 => intro b hb hb2; omega
            case te5 => intro b hb; have := H10.out.sh.le; first | omega | (simp; omega)
            case te6 => intro b hb; have := HS10.out; first | omega | (simp; omega)
            intro v7 w7 hgr
            obtain ⟨a7, c7, rfl, hbx, hsz7, hl7⟩ := (H10.out.alloc _).task (t := t.low) (F1 := (fun b => w6.heap.size ≤ b ∧ b < w8.heap.size)) (fun b hb => by have := HS10.out; simp; omega) hgr
            simp only [World.size_alloc] at hsz7
            have H7 := Lib.hid hl7
            clear hgr hl7 x0 x1
            obtain ⟨x0, x1, f0, f1⟩ := hbx.two
            clear hbx
            go_wp2_with fail
            clear x0 x1 f0 f1
            go_roundw
            case rel => exact ⟨_, _, _, _, _, by simp only [List.length_append, List.length_singleton]; go_num, by simp only [List.length_append, List.length_singleton]; omega, by have := HTL.out; simp only [List.length_append, List.length_singleton]; omega, by rw [nodesL_append]; have := HN10.out; simp only [nodesL, List.length_append, List.length_singleton]; omega, by simp only [List.length_append, List.length_singleton]; omega, H7.out.up (by simp [World.setCell]) (Nat.le_refl _)⟩
            case measure => simp [intOf]; omega
          · go_wp2_with fail
            refine (fit_any _ g _ _ H6.out.rd (by omega) (by omega) (by omega)).mono ?_
            rintro e w8 ⟨t, at8, ct8, q8, rfl, how8, ok1, ok2, hok, hp0, hp1, hrd, ho⟩
            have hs8 := ho.size
            have hn15 : t.nodes ≤ 15 := by have := hok; simp [T.ok] at this; exact this.2
            have hfit : t.fit = true := by have := hok; simp [T.ok] at this; exact this.1
            have H8 := Lib.hid ((H6.out.only ho hrd).alloc (.cells #[.int .i64 t.k, .int .i64 t.n, .slice at8 t.ps.length ct8] 71))
            have HT8 := Lib.hid (how8.alloc (.cells #[.int .i64 t.k, .int .i64 t.n, .slice at8 t.ps.length ct8] 71))
            have HB8 := Lib.hid (Blk.new w8 71 #[.int .i64 t.k, .int .i64 t.n, .slice at8 t.ps.length ct8])
            have HOK := Lib.hid (And.intro ok1 ok2)
            have HFT := Lib.hid hfit
            clear how8 ok1 ok2 hok hrd ho hfit H6

            go_upto_region 18 with (fail)
            obtain ⟨w10, hw10⟩ : ∃ W, W = w8.alloc (.cells #[.int .i64 t.k, .int .i64 t.n, .slice at8 t.ps.length ct8] 71) := ⟨_, rfl⟩
            have hs10 : w8.heap.size < w10.heap.size := by rw [hw10]; simp
            rw [← hw10] at H8 HT8 HB8 ⊢
            have H10 := H8
            have HT10 := HT8
            have HB10 := HB8
            have HK10 := HOK
            have HS10 := Lib.hid hs10
            have HN10 := Lib.hid hn15
            clear hw10 H8 HT8 HB8 HOK hs10

            obtain ⟨z0, z1, z2, _, _, _⟩ := HB10.out.three

            obtain ⟨x0, x1, _, _⟩ := H10.out.bx.two
            have hlenT : s.t.length ≤ 1000000 := by omega
            go_wp2_with (at_builtin; refine wpList_append_ow _ rfl (.tmp 61) (.tmp 63) 30 71 rfl iT _ Try.underlying30 HIT.out.1 HIT.out.2.1 HIT.out.2.2.1 HIT.out.2.2.2 rfl (fun b => w1.heap.size + 1 ≤ b ∧ b < w6.heap.size ∧ (Value.slice av5 (s.m.length + 1) cv5).ownBlock ≠ some b) (fun b => w6.heap.size ≤ b ∧ b < w8.heap.size) s.t a' c' rfl (H10.out.sh.ow.alloc _) hlenT ⟨w10.heap.size, 0, none⟩ 1 rfl t at8 ct8 ?td1 ?td2 ?td3 (HT10.out.alloc _) ?td4 ?td5 ?td6 ?_)
            case td2 => exact HK10.out.1
            case td3 => exact HK10.out.2
            case td4 => intro b hb hb2; omega
            case td5 => intro b hb; have := H10.out.sh.le; first | omega | (simp; omega)
            case td6 => intro b hb; have := HS10.out; first | omega | (simp; omega)
            intro v7 w7 hgr
            obtain ⟨a7, c7, rfl, hbx, hsz7, hl7⟩ := (H10.out.alloc _).task (t := t) (F1 := (fun b => w6.heap.size ≤ b ∧ b < w8.heap.size)) (fun b hb => by have := HS10.out; simp; omega) hgr
            simp only [World.size_alloc] at hsz7
            have H7 := Lib.hid hl7
            clear hgr hl7 x0 x1
            obtain ⟨x0, x1, f0, f1⟩ := hbx.two
            clear hbx
            go_wp2_with fail
            clear x0 x1 f0 f1
            go_roundw
            case rel => exact ⟨_, _, _, _, _, by simp only [List.length_append, List.length_singleton]; go_num, by simp only [List.length_append, List.length_singleton]; omega, by have := HTL.out; simp only [List.length_append, List.length_singleton]; omega, by rw [nodesL_append]; have := HN10.out; simp only [nodesL, List.length_append, List.length_singleton]; omega, by simp only [List.length_append, List.length_singleton]; omega, H7.out.up (by simp [World.setCell]) (Nat.le_refl _)⟩
            case measure => simp [intOf]; omega
    · have HLE := Lib.hid (show s.m.length = N by omega)
      obtain ⟨x0, x1, _, _⟩ := HL.out.bx.two
      obtain ⟨y0, y1, f0, f1⟩ := HL.out.by_.two
      go_wp2_with fail
      refine bodyPost_ret (v := .agg #[.slice av s.m.length cv, .slice a' s.t.length c']) (by simp [results, Try.results43, go_sem, y0, y1]) rfl ?_
      have h := HL.out
      have hm := h.ml
      have hx := h.xl
      have h1 := (h.sh.set_ ⟨w.heap.size, 0, none⟩ (.slice av s.m.length cv) (.inl (by simp; omega))).set_ ⟨w.heap.size, 1, none⟩ (.slice a' s.t.length c') (.inl (by simp; omega))
      exact ⟨s, .slice av s.m.length cv, a', c', q, rfl, (h1.low (by omega)).up (by simp [World.setCell]) (Nat.le_refl _), HTL.out, by omega, by omega, by omega, by omega,
        h.rd.keep (fun k hk => by rw [Below.heap_setCell _ _ _ _ (by simp; omega), Below.heap_setCell _ _ _ _ (by simp; omega)]), (h.on.set (.inr (by simp)) _).set (.inr (by simp)) _⟩
end Go.Proofs.Ytochgmbeomfkpaa
