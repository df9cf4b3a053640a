/- a sheet in memory; szSheet, toSheet, eqSheet, markSheet -/
import Derived.Test.YtklmpagpkeffjaaBools
import Derived.Test.YtklmpagpkeffjaaSz
import Derived.Test.YtklmpagpkeffjaaEq
import Derived.Test.YtklmpagpkeffjaaCopyM
namespace Go.Proofs.Ytklmpagpkeffjaa
open Go.RowKit

/-- A sheet: which keys are made, and the tasks (as many as there are). -/
structure Sh where
  m : List Bool
  t : List T

def ShAt (w : World) (S : Nat → Prop) (s : Sh) (a : Option Addr) (c : Nat) (a' : Option Addr) (c' : Nat) : Prop := BoolsAt w S s.m a c ∧ AtS w S s.t a' c'

section
variable {w w' : World} {S S' : Nat → Prop} {s : Sh} {a a' : Option Addr} {c c' : Nat}
theorem ShAt.keep (hS : ∀ b, S b → S' b) (hk : ∀ b, S b → b < w.heap.size → w'.heap[b]? = w.heap[b]?) (h : ShAt w S s a c a' c') : ShAt w' S' s a c a' c' := ⟨ElAt.keep hS hk h.1, AtS.keep hS hk h.2⟩
theorem ShAt.below (h : ShAt w S s a c a' c') (hb : Below w.heap.size w w') : ShAt w' S s a c a' c' := h.keep (fun _ h => h) (fun b _ hl => hb.block b hl)
theorem ShAt.alloc (h : ShAt w S s a c a' c') (o : Obj) : ShAt (w.alloc o) S s a c a' c' := h.below ((Below.refl _ _).alloc (Nat.le_refl _) o)
theorem ShAt.drew (h : ShAt w S s a c a' c') : ShAt w.drew S s a c a' c' := ShAt.keep (w := w) (w' := w.drew) (fun _ h => h) (fun _ _ _ => rfl) h
theorem ShAt.drewN (h : ShAt w S s a c a' c') (n : Nat) : ShAt (w.drewN n) S s a c a' c' := ShAt.keep (w := w) (w' := w.drewN n) (fun _ h => h) (fun _ _ _ => rfl) h
theorem ShAt.weaken (h : ShAt w S s a c a' c') (hS : ∀ b, S b → S' b) : ShAt w S' s a c a' c' := h.keep hS (fun _ _ _ => rfl)
theorem ShAt.lim (h : ShAt w S s a c a' c') : ShAt w (fun b => S b ∧ b < w.heap.size) s a c a' c' := ⟨ElAt.lim h.1, h.2.lim⟩
theorem ShAt.fr {D : Nat → Prop} (h : ShAt w S s a c a' c') (hf : Fr D w w') (hS : ∀ b, S b → ¬ D b) : ShAt w' S s a c a' c' := h.keep (fun _ h => h) (fun b hb hl => hf.2.2.2.2 b hl (hS b hb))
end

/-- A struct of two cells, boxed. -/
theorem box2 {w wr : World} {v0 v1 : Value} {t : TypeId} (hb : Below (w.heap.size + 1) (w.alloc (.cells #[v0, v1] t)) wr) :
    wr.cell? ⟨w.heap.size, 0, none⟩ = some v0 ∧ wr.cell? ⟨w.heap.size, 1, none⟩ = some v1 := by
  refine ⟨?_, ?_⟩ <;> (rw [hb.cell (by simp)]; rw [World.cell?_alloc_new]; rfl)

/-- An argument sheet of a law: boxed by its head, the rest in old memory; all that was made since is new. -/
def Ks (S : Nat → Prop) (s : Sh) (a : Option Addr) (c : Nat) (a' : Option Addr) (c' : Nat) (ty : TypeId) (w wi : World) : Prop :=
  Below (w.heap.size + 1) (w.alloc (.cells #[.slice a s.m.length c, .slice a' s.t.length c'] ty)) wi ∧ ShAt wi S s a c a' c'
section
variable {S : Nat → Prop} {s : Sh} {a a' : Option Addr} {c c' : Nat} {ty : TypeId} {w wi wj : World}
theorem Ks.start (h : ShAt w S s a c a' c') : Ks S s a c a' c' ty w (w.alloc (.cells #[.slice a s.m.length c, .slice a' s.t.length c'] ty)) := ⟨Below.refl _ _, h.alloc _⟩
theorem Ks.step (h : Ks S s a c a' c' ty w wi) (hb : Below wi.heap.size wi wj) : Ks S s a c a' c' ty w wj :=
  ⟨h.1.trans (hb.mono (by have := h.1.size; simpa using this)), h.2.below hb⟩
theorem Ks.alloc (h : Ks S s a c a' c' ty w wi) (o : Obj) : Ks S s a c a' c' ty w (wi.alloc o) := h.step ((Below.refl _ _).alloc (Nat.le_refl _) o)
theorem Ks.drew (h : Ks S s a c a' c' ty w wi) : Ks S s a c a' c' ty w wi.drew := h.step (Below.refl _ _).drew
theorem Ks.drewN (h : Ks S s a c a' c' ty w wi) (n : Nat) : Ks S s a c a' c' ty w (wi.drewN n) := h.step (below_drewN (Below.refl _ _) n)
theorem Ks.box (h : Ks S s a c a' c' ty w wi) : wi.cell? ⟨w.heap.size, 0, none⟩ = some (.slice a s.m.length c) ∧ wi.cell? ⟨w.heap.size, 1, none⟩ = some (.slice a' s.t.length c') := box2 h.1
theorem Ks.done (h : Ks S s a c a' c' ty w wi) : Below w.heap.size w wi := below_of_box h.1
theorem Ks.size (h : Ks S s a c a' c' ty w wi) : w.heap.size + 1 ≤ wi.heap.size := by have := h.1.size; simpa using this
theorem Ks.fr {D : Nat → Prop} (h : Ks S s a c a' c' ty w wi) (hf : Fr D wi wj) (hD : ∀ b, D b → w.heap.size + 1 ≤ b) (hS : ∀ b, S b → b < w.heap.size) : Ks S s a c a' c' ty w wj := by
  have hs := h.size
  exact ⟨h.1.trans ⟨hf.1, hf.2.1, hf.2.2.1, hf.2.2.2.1, fun b hb => hf.2.2.2.2 b (by omega) (fun hd => by have := hD b hd; omega)⟩,
    h.2.fr hf (fun b hb hd => by have := hD b hd; have := hS b hb; omega)⟩
end

/-- A sheet in memory of its own, from block B on; its tasks in blocks that meet F. -/
structure Shm (w : World) (B : Nat) (F : Nat → Prop) (s : Sh) (v : Value) (a' : Option Addr) (c' : Nat) : Prop where
  row : BoolRow w B v s.m
  at_ : AtS w F s.t a' c'
  sh : ShS w F s.t a' c'
  wf : TWf w F
  ge : ∀ b, F b → B ≤ b
  lt : ∀ b, F b → b < w.heap.size
  ne : ∀ b, v.ownBlock = some b → ¬ F b
section
variable {w w' : World} {B : Nat} {F : Nat → Prop} {s : Sh} {v : Value} {a' : Option Addr} {c' : Nat}
theorem Shm.below (h : Shm w B F s v a' c') (hb : Below w.heap.size w w') : Shm w' B F s v a' c' :=
  ⟨h.row.below hb, h.at_.below hb, h.sh.keep (fun _ h => h) (ThS.below h.wf hb).2.1, h.wf.below hb, h.ge, fun b hF => Nat.lt_of_lt_of_le (h.lt b hF) hb.size, h.ne⟩
theorem Shm.alloc (h : Shm w B F s v a' c') (o : Obj) : Shm (w.alloc o) B F s v a' c' := h.below ((Below.refl _ _).alloc (Nat.le_refl _) o)
theorem Shm.drew (h : Shm w B F s v a' c') : Shm w.drew B F s v a' c' := h.below (Below.refl _ _).drew
theorem Shm.fr {D : Nat → Prop} (h : Shm w B F s v a' c') (hf : Fr D w w') (hD : ∀ b, D b → b < B) : Shm w' B F s v a' c' := by
  have hn : ∀ b, F b → ¬ D b := fun b hF hd => by have := hD b hd; have := h.ge b hF; omega
  refine ⟨h.row.fr hf hD, h.at_.fr hf hn, h.sh.keep (fun _ h => h) (fun b o hF _ v hv => (World.cell?_of_block (w := w) (hf.2.2.2.2 b (h.lt b hF) (hn b hF))).trans hv), fun b hF => ?_, h.ge, fun b hF => Nat.lt_of_lt_of_le (h.lt b hF) hf.size, h.ne⟩
  obtain ⟨cs, m, h1, h2⟩ := h.wf b hF
  exact ⟨cs, m, h1.fr hf (hn b hF), h2⟩
theorem Shm.low {B' : Nat} (h : Shm w B F s v a' c') (hB : B' ≤ B) : Shm w B' F s v a' c' :=
  ⟨ownsRow_low h.row hB, h.at_, h.sh, h.wf, fun b hF => Nat.le_trans hB (h.ge b hF), h.lt, h.ne⟩
theorem Fr.set' {D : Nat → Prop} {w w' : World} (h : Fr D w w') (p : Addr) (hp : D p.block) (u : Value) : Fr D w (w'.setCell p u) :=
  ⟨h.1, h.2.1, h.2.2.1, by simpa [World.setCell] using h.2.2.2.1, fun b hb hn => (Below.heap_setCell w' p u b (by rintro rfl; exact hn hp)).trans (h.2.2.2.2 b hb hn)⟩
theorem Shm.at (h : Shm w B F s v a' c') : ∃ a c, v = .slice a s.m.length c ∧ ShAt w (fun b => B ≤ b) s a c a' c' := by
  obtain ⟨a, c, h1, h2⟩ := ElRow.at h.row
  exact ⟨a, c, h1, h2, h.at_.weaken h.ge⟩
end

def szSh (s : Sh) (left : Nat) : Int := if s.m.length + nodesL s.t ≤ left then (left : Int) - s.m.length - nodesL s.t else -1

set_option maxHeartbeats 1000000 in
theorem szSheet_any (w : World) (S : Nat → Prop) (s : Sh) (a : Option Addr) (c : Nat) (a' : Option Addr) (c' left : Nat) (h : ShAt w S s a c a' c') (hl : left ≤ 1048576) :
    Calls Try.prog 37 #[.agg #[.slice a s.m.length c, .slice a' s.t.length c'], .int .i64 left] w fun e w' => e = .returned (.int .i64 (szSh s left)) ∧ Below w.heap.size w w' := by
  have K0 := Lib.hid (Ks.start (ty := 50) h)
  clear h
  obtain ⟨x0, x1⟩ := K0.out.box
  by_cases hm : s.m.length ≤ left
  · have hz : szN s.m.length left = ((left - s.m.length : Nat) : Int) := by unfold szN; rw [if_pos hm]; omega
    have HZ := Lib.hid hz
    clear hz
    have key : ∀ v : Int, szN (nodesL s.t) (left - s.m.length) = v → szSh s left = v → (0 ≤ v ∧ v ≤ 1048576 ∨ v = -1) → Calls Try.prog 37 #[.agg #[.slice a s.m.length c, .slice a' s.t.length c'], .int .i64 left] w fun e w' => e = .returned (.int .i64 v) ∧ Below w.heap.size w w' := by
      intro v hv _ hr
      have HV := Lib.hid hv
      clear hv
      go_enter Try.func37, Try.ntmps37
      go_wp2_with fail
      refine (szBools_any _ S s.m a c left K0.out.2.1 hl).mono ?_
      rintro e w1 ⟨rfl, rfl⟩
      rw [HZ.out]
      go_wp2_with fail
      refine (szS_all s.t _ S a' c' (left - s.m.length) K0.out.2.2 (by omega)).mono ?_
      rintro e w1 ⟨rfl, hb⟩
      rw [HV.out]
      have K1 := Lib.hid (K0.out.step hb)
      clear hb HV
      rcases hr with hr | rfl
      · go_wp2_with fail
        go_ret
        exact ⟨rfl, K1.out.done⟩
      · go_wp2_with fail
        go_ret
        exact ⟨rfl, K1.out.done⟩
    have e : szN (nodesL s.t) (left - s.m.length) = szSh s left := by unfold szN szSh; split <;> split <;> omega
    exact key _ e rfl (by unfold szSh; split <;> omega)
  · have hz : szN s.m.length left = -1 := by unfold szN; rw [if_neg hm]
    have HZ := Lib.hid hz
    have hv : szSh s left = -1 := by unfold szSh; rw [if_neg (by omega)]
    rw [hv]
    clear hz hv
    go_enter Try.func37, Try.ntmps37
    go_wp2_with fail
    refine (szBools_any _ S s.m a c left K0.out.2.1 hl).mono ?_
    rintro e w1 ⟨rfl, rfl⟩
    rw [HZ.out]
    go_wp2_with fail
    go_ret
    exact ⟨rfl, K0.out.done⟩

/-- What toSheet hands back. -/
def CopiedSh (s : Sh) (w : World) (e : Ending) (w' : World) : Prop := ∃ v a' c' F, e = .returned (.agg #[v, .slice a' s.t.length c']) ∧ Shm w' w.heap.size F s v a' c' ∧ Below w.heap.size w w'

theorem mkT_list (ps : List T) : MkS ps := mkT_all (.mk 0 0 ps)
theorem copyS2_all (ps : List T) : CopyS2 ps := copyS2_of ps fun t _ => copyT2_all t

set_option maxHeartbeats 2000000 in
theorem copySh_any (w : World) (S : Nat → Prop) (s : Sh) (a : Option Addr) (c : Nat) (a' : Option Addr) (c' : Nat) (h : ShAt w S s a c a' c') (hm : s.m.length ≤ 1048576) (hn : nodesL s.t ≤ 1048576) :
    Calls Try.prog 38 #[.agg #[.slice a s.m.length c, .slice a' s.t.length c']] w (CopiedSh s w) := by
  have H := Lib.hid h
  have HM := Lib.hid hm
  have HN := Lib.hid hn
  clear h hm hn
  go_enter Try.func38, Try.ntmps38
  go_wp2_with fail
  refine (copyB_any _ S s.m a c ?_ HM.out).mono ?_
  · exact (((H.out.alloc _).alloc _).alloc _).1
  rintro e w1 ⟨v, rfl, hr, hb⟩
  obtain ⟨a1, c1, rfl, _⟩ := ElRow.at hr
  have hs0 := hb.size
  simp only [World.size_alloc] at hs0 hr
  have hz2 : w.heap.size + 1 + 1 < w1.heap.size := by omega
  have hz1 : w.heap.size + 1 < w1.heap.size := by omega
  have hz0 : w.heap.size < w1.heap.size := by omega
  have b0 := ((((Blk.new w 50 #[.slice a s.m.length c, .slice a' s.t.length c']).alloc (.cells #[.slice none 0 0, .slice none 0 0] 26)).alloc (.cells #[.slice none 0 0, .slice none 0 0] 26)).below hb (by simp <;> omega))
  have b1 := (((Blk.new (w.alloc (.cells #[.slice a s.m.length c, .slice a' s.t.length c'] 50)) 26 #[.slice none 0 0, .slice none 0 0]).alloc (.cells #[.slice none 0 0, .slice none 0 0] 26)).below hb (by simp <;> omega))
  have b2 := ((Blk.new ((w.alloc (.cells #[.slice a s.m.length c, .slice a' s.t.length c'] 50)).alloc (.cells #[.slice none 0 0, .slice none 0 0] 26)) 26 #[.slice none 0 0, .slice none 0 0]).below hb (by simp))
  simp only [World.size_alloc] at b0 b1 b2
  have HB := Lib.hid (show Below w.heap.size w w1 from ((((Below.refl _ _).alloc (Nat.le_refl _) _).alloc (by simp) _).alloc (by simp <;> omega) _).trans (hb.mono (by simp <;> omega)))
  have HR := Lib.hid hr
  have HA := Lib.hid (((((H.out.alloc _).alloc _).alloc _).below hb).2)
  have H012 := Lib.hid (And.intro b0 (And.intro b1 b2))
  obtain ⟨x0, x1, _, _⟩ := b0.two
  obtain ⟨y0, y1, g0, g1⟩ := b1.two
  obtain ⟨z0, z1, f0, f1⟩ := b2.two
  clear hb hr b0 b1 b2
  go_wp2_with fail
  obtain ⟨v, hv⟩ : ∃ v, v = Value.slice a1 s.m.length c1 := ⟨_, rfl⟩
  rw [← hv] at HR ⊢
  have hR2 : BoolRow (w1.setCell ⟨w.heap.size + 1 + 1, 0, none⟩ v) (w.heap.size + 1 + 1 + 1) v s.m := ElRow.frO HR.out (D := fun b => b = w.heap.size + 1 + 1) ⟨rfl, rfl, rfl, by simp [World.setCell], fun b hb hn => Below.heap_setCell _ _ _ _ (by simpa using hn)⟩ (fun b hb hd => by have := (World.ownsRow.lt HR.out b hb).1; omega)
  have hB2 : Below w.heap.size w (w1.setCell ⟨w.heap.size + 1 + 1, 0, none⟩ v) := HB.out.setCell (by simp <;> omega) v
  have hA2 : AtS (w1.setCell ⟨w.heap.size + 1 + 1, 0, none⟩ v) (fun b => S b ∧ b < w.heap.size) s.t a' c' := by
    have h1 := H.out.2.lim
    exact h1.keep (fun _ h => h) (fun b hb hl => hB2.block b hb.2)
  obtain ⟨hb0, hb1, hb2⟩ := H012.out
  have e0 := hb0.far (p := ⟨w.heap.size + 1 + 1, 0, none⟩) (by simp <;> omega) v
  have e1 := hb1.far (p := ⟨w.heap.size + 1 + 1, 0, none⟩) (by simp) v
  have e2 := hb2.set_ 0 v
  have hsz : (w1.setCell ⟨w.heap.size + 1 + 1, 0, none⟩ v).heap.size = w1.heap.size := by simp [World.setCell]
  obtain ⟨W, hW⟩ : ∃ W, W = w1.setCell ⟨w.heap.size + 1 + 1, 0, none⟩ v := ⟨_, rfl⟩
  rw [← hW] at hR2 hB2 hA2 e0 e1 e2 hsz ⊢
  have H2 := Lib.hid (And.intro hR2 (And.intro hB2 hA2))
  clear x0 x1 y0 y1 g0 g1 z0 z1 f0 f1 hb0 hb1 hb2 H012 HR HB HA hW hR2 hB2 hA2
  refine (copyS2_all s.t _ _ a' c' H2.out.2.2 HN.out).mono ?_
  rintro e w2 ⟨a2, c2', F, rfl, hat, hsh, hwf, hF, hb⟩
  have hs2 := hb.size
  have d0 := e0.below hb (by omega)
  have d1 := e1.below hb (by omega)
  have d2 := e2.below hb (by omega)
  have HR3 := Lib.hid (H2.out.1.below hb)
  have HB3 := Lib.hid (H2.out.2.1.trans (hb.mono (by omega)))
  have HT3 := Lib.hid (And.intro hat (And.intro hsh (And.intro hwf hF)))
  have HL := Lib.hid (World.ownsRow.lt H2.out.1)
  obtain ⟨y0, y1, g0, g1⟩ := d1.two
  obtain ⟨z0, z1, f0, f1⟩ := d2.two
  have hz2 : w.heap.size + 1 + 1 < w2.heap.size := by omega
  have hz1 : w.heap.size + 1 < w2.heap.size := by omega
  subst hv
  clear hb hat hsh hwf hF e0 e1 e2 d0 d2 H2
  have D1 := Lib.hid d1
  clear d1
  go_wp2_with fail
  refine bodyPost_ret (v := .agg #[.slice a1 s.m.length c1, .slice a2 s.t.length c2']) (by simp [results, Try.results38, go_sem, y0, y1]) rfl ?_
  have hF := HT3.out.2.2.2
  have hsm : Shm w2 (w.heap.size + 1 + 1 + 1) F s (.slice a1 s.m.length c1) a2 c2' := ⟨HR3.out, HT3.out.1, HT3.out.2.1, HT3.out.2.2.1, fun b hb => by have := (hF b hb).1; omega, fun b hb => (hF b hb).2, fun b hb hf => by have := (HL.out b hb).2; have := (hF b hf).1; omega⟩
  have hf0 : Fr (fun b => b = w.heap.size + 1 ∨ b = w.heap.size + 1 + 1) w2 w2 := Fr.of_below (Below.refl _ _)
  refine ⟨_, a2, c2', F, rfl, (hsm.fr (((hf0.set' ⟨w.heap.size + 1 + 1, 1, none⟩ (.inr rfl) _).set' ⟨w.heap.size + 1, 0, none⟩ (.inl rfl) _).set' ⟨w.heap.size + 1, 1, none⟩ (.inl rfl) _) (fun b hb => by omega)).low (by omega), ?_⟩
  exact ((HB3.out.setCell (by simp <;> omega) _).setCell (by simp) _).setCell (by simp) _

/-- eqSheet of two readings of one sheet -/
theorem eqSheet_any (w : World) (S S' : Nat → Prop) (s : Sh) (a : Option Addr) (c : Nat) (a' : Option Addr) (c' : Nat) (a2 : Option Addr) (c2 : Nat) (a2' : Option Addr) (c2' : Nat) (h : ShAt w S s a c a' c') (h' : ShAt w S' s a2 c2 a2' c2') :
    Calls Try.prog 41 #[.agg #[.slice a s.m.length c, .slice a' s.t.length c'], .agg #[.slice a2 s.m.length c2, .slice a2' s.t.length c2']] w fun e w' => e = .returned (.bool true) ∧ Below w.heap.size w w' := by
  have H := Lib.hid ((h.alloc (.cells #[.slice a s.m.length c, .slice a' s.t.length c'] 26)).alloc (.cells #[.slice a2 s.m.length c2, .slice a2' s.t.length c2'] 26))
  have H' := Lib.hid ((h'.alloc (.cells #[.slice a s.m.length c, .slice a' s.t.length c'] 26)).alloc (.cells #[.slice a2 s.m.length c2, .slice a2' s.t.length c2'] 26))
  have HB0 := Lib.hid (((Below.refl w.heap.size w).alloc (Nat.le_refl _) (.cells #[.slice a s.m.length c, .slice a' s.t.length c'] 26)).alloc (by simp) (.cells #[.slice a2 s.m.length c2, .slice a2' s.t.length c2'] 26))
  have HK := Lib.hid (And.intro ((Blk.new w 26 #[.slice a s.m.length c, .slice a' s.t.length c']).alloc (.cells #[.slice a2 s.m.length c2, .slice a2' s.t.length c2'] 26)) (Blk.new (w.alloc (.cells #[.slice a s.m.length c, .slice a' s.t.length c'] 26)) 26 #[.slice a2 s.m.length c2, .slice a2' s.t.length c2']))
  clear h h'
  go_enter Try.func41, Try.ntmps41
  go_wp2_with fail
  refine (eqBools_any _ S S' s.m a a2 c c2 H.out.1 H'.out.1).mono ?_
  rintro e w1 ⟨rfl, hb⟩
  have b0 := HK.out.1.below hb (by simp <;> omega)
  have b1 := HK.out.2.below hb (by simp)
  simp only [World.size_alloc] at b1
  obtain ⟨x0, x1, _, _⟩ := b0.two
  obtain ⟨y0, y1, _, _⟩ := b1.two
  have hz := hb.size
  simp only [World.size_alloc] at hz
  have H1 := Lib.hid (H.out.below hb)
  have H1' := Lib.hid (H'.out.below hb)
  have HB1 := Lib.hid (HB0.out.trans (hb.mono (by simp <;> omega)))
  clear hb b0 b1 H H' HK HB0
  go_wp2_with fail
  refine (eqS_all s.t _ S S' a' a2' c' c2' H1.out.2 H1'.out.2).mono ?_
  rintro e w2 ⟨rfl, hb⟩
  have HB2 := Lib.hid (HB1.out.trans (hb.mono (by omega)))
  clear hb x0 x1 y0 y1
  go_wp2_with fail
  go_ret
  exact ⟨rfl, HB2.out⟩

/-- markSheet: only the sheet's own blocks turn. -/
def MarkedSh (w : World) (F : Nat → Prop) (v : Value) (k n : Nat) (e : Ending) (w' : World) : Prop := e = .returned (.int .i64 ((k + n : Nat) : Int)) ∧ Fr (fun b => F b ∨ v.ownBlock = some b) w w'
theorem markSh_any (w : World) (B : Nat) (F : Nat → Prop) (s : Sh) (v : Value) (a' : Option Addr) (c' k : Nat) (h : Shm w B F s v a' c') (hm : s.m.length ≤ 1048576) (hn : nodesL s.t ≤ 1048576) (hk : k ≤ 1000000) :
    Calls Try.prog 42 #[.agg #[v, .slice a' s.t.length c'], .int .i64 k] w (MarkedSh w F v k (s.m.length + 2 * nodesL s.t)) := by
  obtain ⟨a, c, rfl, _⟩ := ElRow.at h.row
  obtain ⟨k1, hk1⟩ : ∃ k1, k1 = k + s.m.length := ⟨_, rfl⟩
  have hk1b : k1 ≤ 3000000 := by omega
  obtain ⟨k2, hk2⟩ : ∃ k2, k2 = k1 + 2 * nodesL s.t := ⟨_, rfl⟩
  have HK1 := Lib.hid hk1
  have HK2 := Lib.hid hk2
  have hf0 : Fr (fun b => F b ∨ (Value.slice a s.m.length c).ownBlock = some b) w (w.alloc (.cells #[.slice a s.m.length c, .slice a' s.t.length c'] 26)) := Fr.of_below ((Below.refl _ _).alloc (Nat.le_refl _) _)
  have HF0 := Lib.hid hf0
  have H := Lib.hid (h.alloc (.cells #[.slice a s.m.length c, .slice a' s.t.length c'] 26))
  have hlt := World.ownsRow.lt h.row
  have HLT := Lib.hid hlt
  have HB := Lib.hid (Blk.new w 26 #[.slice a s.m.length c, .slice a' s.t.length c'])
  have HM := Lib.hid hm
  have HN := Lib.hid hn
  clear h hf0 hlt hk1 hk2 hm hn
  go_enter Try.func42, Try.ntmps42
  go_wp2_with fail
  refine (markB_any _ B _ s.m k H.out.row (by have := HM.out; omega) (by omega)).mono ?_
  rintro e w1 ⟨rfl, hf⟩
  rw [← HK1.out]
  have b0 := HB.out.fr hf (fun e => by have := (HLT.out _ e).2; omega)
  obtain ⟨x0, x1, _, _⟩ := b0.two
  have hn : ∀ b, F b → ¬ (Value.slice a s.m.length c).ownBlock = some b := fun b hF e => H.out.ne b e hF
  have hsh := H.out.sh.keep (w' := w1) (fun _ h => h) (fun b o hF _ v hv => (World.cell?_of_block (w := (w.alloc (.cells #[.slice a s.m.length c, .slice a' s.t.length c'] 26))) (hf.2.2.2.2 b (H.out.lt b hF) (hn b hF))).trans hv)
  have hwf : TWf w1 F := fun b hF => by
    obtain ⟨cs, m, h1, h2⟩ := H.out.wf b hF
    exact ⟨cs, m, h1.fr hf (hn b hF), h2⟩
  have H1 := Lib.hid (And.intro hsh (And.intro hwf (HF0.out.trans hf (fun b hb => .inl (.inr hb)))))
  clear b0 hf hn hsh hwf HB HF0
  go_wp2_with fail
  refine (mkT_list s.t _ F a' c' k1 H1.out.1 H1.out.2.1 (by have := HN.out; omega)).mono ?_
  rw [← HK2.out]
  rintro e w2 ⟨rfl, hth⟩
  have H2 := Lib.hid (H1.out.2.2.trans hth.1 (fun b hb => .inl (.inl hb)))
  clear hth x0 x1
  go_wp2_with fail
  go_ret
  exact ⟨by rw [HK2.out, HK1.out]; simp only [Nat.add_assoc]; rfl, H2.out⟩
end Go.Proofs.Ytklmpagpkeffjaa
