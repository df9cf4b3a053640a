/- toState (written by wip/tools/gen_st.py) -/
import Derived.Test.YthjfmpeicjmlkaaSt
namespace Go.Proofs.Ythjfmpeicjmlkaa
open Go.RowKit

/-- A list of truths in memory of its own, in a block that meets D. -/
def BoolsOw (w : World) (D : Nat → Prop) (l : List Bool) (a : Option Addr) (c : Nat) : Prop := BoolRow w 0 (.slice a l.length c) l ∧ ∀ b, (Value.slice a l.length c).ownBlock = some b → D b
section
variable {w w' : World} {D : Nat → Prop} {l : List Bool} {a : Option Addr} {c n k : Nat}
theorem BoolsOw.at (h : BoolsOw w D l a c) : BoolsAt w D l a c := by
  obtain ⟨h1, h2, h3⟩ := ownsRow_at h.1
  refine ⟨h1, h2, ?_⟩
  rcases h3 with h3 | ⟨g, ha, ho, hc⟩
  · exact .inl (List.length_eq_zero_iff.1 h3)
  · exact .inr ⟨g, 0, ha, h.2 g ho, fun i hi => hc i _ (by rw [List.getElem?_map, List.getElem?_eq_getElem hi]; rfl)⟩
theorem BoolsOw.fr {D' : Nat → Prop} (h : BoolsOw w D l a c) (hf : Fr D' w w') (hD : ∀ b, D b → ¬ D' b) : BoolsOw w' D l a c := ⟨ownsRow_fr h.1 hf (fun b hb => hD b (h.2 b hb)), h.2⟩
theorem BoolsOw.below (h : BoolsOw w D l a c) (hb : Below w.heap.size w w') : BoolsOw w' D l a c := BoolsOw.fr (D' := fun _ => False) h (Fr.of_below hb) (fun _ _ hf => hf)
theorem BoolRow.ow {base : Nat} {v : Value} (h : BoolRow w base v l) : ∃ a c D, v = .slice a l.length c ∧ BoolsOw w D l a c ∧ ∀ b, D b → base ≤ b ∧ b < w.heap.size := by
  obtain ⟨a, c, rfl, _⟩ := ElRow.at h
  exact ⟨a, c, fun b => (Value.slice a l.length c).ownBlock = some b, rfl, ⟨ownsRow_low h (Nat.zero_le _), fun _ h => h⟩, fun b hb => World.ownsRow.lt h b hb⟩
end
def CopiedBO (l : List Bool) (w : World) (e : Ending) (w' : World) : Prop := ∃ a c D, e = .returned (.slice a l.length c) ∧ BoolsOw w' D l a c ∧ (∀ b, D b → w.heap.size ≤ b ∧ b < w'.heap.size) ∧ Below w.heap.size w w'
theorem copyB_ow (w : World) (S : Nat → Prop) (l : List Bool) (a : Option Addr) (c : Nat) (h : BoolsAt w S l a c) (hle : l.length ≤ 1048576) : Calls Try.prog 48 #[.slice a l.length c] w (CopiedBO l w) :=
  (copyB_any w S l a c h hle).mono fun _ _ ⟨v, he, hr, hb⟩ => by
    subst he
    obtain ⟨a', c', D, rfl, ho, hD⟩ := BoolRow.ow hr
    exact ⟨a', c', D, rfl, ho, hD, hb⟩

/-- The parts of a state in memory of their own, each apart from the others. -/
structure StO (w : World) (D1 D2 D3 D4 : Nat → Prop) (s : St) (a1 : Option Addr) (c1 : Nat) (a2 : Option Addr) (c2 : Nat) (a3 : Option Addr) (c3 : Nat) (a4 : Option Addr) (c4 : Nat) : Prop where
  o1 : IntsOw w D1 s.v a1 c1
  o2 : BoolsOw w D2 s.b a2 c2
  o3 : IntsOw w D3 s.i a3 c3
  o4 : TracesOw w D4 s.t a4 c4
  lt : ∀ b, (D1 b ∨ D2 b ∨ D3 b ∨ D4 b) → b < w.heap.size
/-- Whatever is in one is in none of the others. -/
structure Apart (D1 D2 D3 D4 : Nat → Prop) : Prop where
  d12 : ∀ b, D1 b → ¬ D2 b
  d13 : ∀ b, D1 b → ¬ D3 b
  d14 : ∀ b, D1 b → ¬ D4 b
  d23 : ∀ b, D2 b → ¬ D3 b
  d24 : ∀ b, D2 b → ¬ D4 b
  d34 : ∀ b, D3 b → ¬ D4 b
/-- A state in memory of its own, in blocks that meet D. -/
def StOw (w : World) (D : Nat → Prop) (s : St) (a1 : Option Addr) (c1 : Nat) (a2 : Option Addr) (c2 : Nat) (a3 : Option Addr) (c3 : Nat) (a4 : Option Addr) (c4 : Nat) : Prop := ∃ D1 D2 D3 D4 : Nat → Prop, StO w D1 D2 D3 D4 s a1 c1 a2 c2 a3 c3 a4 c4 ∧ Apart D1 D2 D3 D4 ∧ ∀ b, (D1 b ∨ D2 b ∨ D3 b ∨ D4 b) → D b
section
variable {w w' : World} {D D1 D2 D3 D4 : Nat → Prop} {s : St} {a1 a2 a3 a4 : Option Addr} {c1 c2 c3 c4 : Nat}
theorem StOw.at (h : StOw w D s a1 c1 a2 c2 a3 c3 a4 c4) (hf : s.fine) : StAt w D s a1 c1 a2 c2 a3 c3 a4 c4 := by
  obtain ⟨D1, D2, D3, D4, h, -, hd⟩ := h
  exact ⟨(h.o1.at hf.1).weaken fun b hb => hd b (.inl hb), h.o2.at.weaken fun b hb => hd b (.inr (.inl hb)), (h.o3.at hf.2.1).weaken fun b hb => hd b (.inr (.inr (.inl hb))), (h.o4.at hf.2.2).weaken fun b hb => hd b (.inr (.inr (.inr hb)))⟩
theorem StOw.fr {D' : Nat → Prop} (h : StOw w D s a1 c1 a2 c2 a3 c3 a4 c4) (hf : Fr D' w w') (hD : ∀ b, D b → ¬ D' b) : StOw w' D s a1 c1 a2 c2 a3 c3 a4 c4 := by
  obtain ⟨D1, D2, D3, D4, h, ha, hd⟩ := h
  exact ⟨D1, D2, D3, D4, ⟨h.o1.fr hf fun b hb => hD b (hd b (.inl hb)), h.o2.fr hf fun b hb => hD b (hd b (.inr (.inl hb))), h.o3.fr hf fun b hb => hD b (hd b (.inr (.inr (.inl hb)))), h.o4.fr hf fun b hb => hD b (hd b (.inr (.inr (.inr hb)))), fun b hb => Nat.lt_of_lt_of_le (h.lt b hb) hf.size⟩, ha, hd⟩
theorem StOw.below (h : StOw w D s a1 c1 a2 c2 a3 c3 a4 c4) (hb : Below w.heap.size w w') : StOw w' D s a1 c1 a2 c2 a3 c3 a4 c4 := StOw.fr (D' := fun _ => False) h (Fr.of_below hb) (fun _ _ hf => hf)
end
def CopiedXO (s : St) (w : World) (e : Ending) (w' : World) : Prop := ∃ a1 c1 a2 c2 a3 c3 a4 c4, ∃ D, e = .returned (.agg #[.slice a1 s.v.length c1, .slice a2 s.b.length c2, .slice a3 s.i.length c3, .slice a4 s.t.length c4]) ∧ StOw w' D s a1 c1 a2 c2 a3 c3 a4 c4 ∧ (∀ b, D b → w.heap.size ≤ b ∧ b < w'.heap.size) ∧ Below w.heap.size w w'

theorem IntsOw.stay {w : World} {D : Nat → Prop} {l : List Int} {a : Option Addr} {c : Nat} (h : IntsOw w D l a c) {p : Addr} (hp : ¬ D p.block) (u : Value) : IntsOw (w.setCell p u) D l a c := h.fr (Fr.set' (D := fun b => b = p.block) (Fr.of_below (Below.refl _ _)) p rfl u) (fun _ hb e => hp (e ▸ hb))
theorem BoolsOw.stay {w : World} {D : Nat → Prop} {l : List Bool} {a : Option Addr} {c : Nat} (h : BoolsOw w D l a c) {p : Addr} (hp : ¬ D p.block) (u : Value) : BoolsOw (w.setCell p u) D l a c := h.fr (Fr.set' (D := fun b => b = p.block) (Fr.of_below (Below.refl _ _)) p rfl u) (fun _ hb e => hp (e ▸ hb))
theorem TracesOw.stay {w : World} {D : Nat → Prop} {l : List Tr} {a : Option Addr} {c : Nat} (h : TracesOw w D l a c) {p : Addr} (hp : ¬ D p.block) (u : Value) : TracesOw (w.setCell p u) D l a c := h.fr (Fr.set' (D := fun b => b = p.block) (Fr.of_below (Below.refl _ _)) p rfl u) (fun _ hb e => hp (e ▸ hb))

set_option maxRecDepth 100000 in
set_option maxHeartbeats 4000000 in
theorem copyX_ow (w : World) (S : Nat → Prop) (s : St) (a1 : Option Addr) (c1 : Nat) (a2 : Option Addr) (c2 : Nat) (a3 : Option Addr) (c3 : Nat) (a4 : Option Addr) (c4 : Nat) (h : StAt w S s a1 c1 a2 c2 a3 c3 a4 c4) (hn : s.n ≤ 1048576) :
    Calls Try.prog 21 #[.agg #[.slice a1 s.v.length c1, .slice a2 s.b.length c2, .slice a3 s.i.length c3, .slice a4 s.t.length c4]] w (CopiedXO s w) := by
  have hl : (s.v.length ≤ 1048576 ∧ s.b.length ≤ 1048576) ∧ s.i.length ≤ 1048576 ∧ trN s.t ≤ 1048576 := by unfold St.n at hn; refine ⟨⟨?_, ?_⟩, ?_, ?_⟩ <;> omega
  have HL := Lib.hid hl
  have A0 := Lib.hid (((h.lim.alloc (.cells #[.slice a1 s.v.length c1, .slice a2 s.b.length c2, .slice a3 s.i.length c3, .slice a4 s.t.length c4] 45)).alloc (.cells #[.slice none 0 0, .slice none 0 0, .slice none 0 0, .slice none 0 0] 54)).alloc (.cells #[.slice none 0 0, .slice none 0 0, .slice none 0 0, .slice none 0 0] 54))
  have P0 := Lib.hid (((Blk.new w 45 #[.slice a1 s.v.length c1, .slice a2 s.b.length c2, .slice a3 s.i.length c3, .slice a4 s.t.length c4]).alloc (.cells #[.slice none 0 0, .slice none 0 0, .slice none 0 0, .slice none 0 0] 54)).alloc (.cells #[.slice none 0 0, .slice none 0 0, .slice none 0 0, .slice none 0 0] 54))
  have R0 := Lib.hid (show Blk (((w.alloc (.cells #[.slice a1 s.v.length c1, .slice a2 s.b.length c2, .slice a3 s.i.length c3, .slice a4 s.t.length c4] 45)).alloc (.cells #[.slice none 0 0, .slice none 0 0, .slice none 0 0, .slice none 0 0] 54)).alloc (.cells #[.slice none 0 0, .slice none 0 0, .slice none 0 0, .slice none 0 0] 54)) (w.heap.size + 1) 54 #[.slice none 0 0, .slice none 0 0, .slice none 0 0, .slice none 0 0] by have := (Blk.new (w.alloc (.cells #[.slice a1 s.v.length c1, .slice a2 s.b.length c2, .slice a3 s.i.length c3, .slice a4 s.t.length c4] 45)) 54 #[.slice none 0 0, .slice none 0 0, .slice none 0 0, .slice none 0 0]).alloc (.cells #[.slice none 0 0, .slice none 0 0, .slice none 0 0, .slice none 0 0] 54); simpa using this)
  have O0 := Lib.hid (show Blk (((w.alloc (.cells #[.slice a1 s.v.length c1, .slice a2 s.b.length c2, .slice a3 s.i.length c3, .slice a4 s.t.length c4] 45)).alloc (.cells #[.slice none 0 0, .slice none 0 0, .slice none 0 0, .slice none 0 0] 54)).alloc (.cells #[.slice none 0 0, .slice none 0 0, .slice none 0 0, .slice none 0 0] 54)) (w.heap.size + 1 + 1) 54 #[.slice none 0 0, .slice none 0 0, .slice none 0 0, .slice none 0 0] by have := Blk.new ((w.alloc (.cells #[.slice a1 s.v.length c1, .slice a2 s.b.length c2, .slice a3 s.i.length c3, .slice a4 s.t.length c4] 45)).alloc (.cells #[.slice none 0 0, .slice none 0 0, .slice none 0 0, .slice none 0 0] 54)) 54 #[.slice none 0 0, .slice none 0 0, .slice none 0 0, .slice none 0 0]; simpa using this)
  have HB0 := Lib.hid (((((Below.refl w.heap.size w).alloc (Nat.le_refl _) (.cells #[.slice a1 s.v.length c1, .slice a2 s.b.length c2, .slice a3 s.i.length c3, .slice a4 s.t.length c4] 45)).alloc (by simp) (.cells #[.slice none 0 0, .slice none 0 0, .slice none 0 0, .slice none 0 0] 54)).alloc (by simp <;> omega) (.cells #[.slice none 0 0, .slice none 0 0, .slice none 0 0, .slice none 0 0] 54)))
  obtain ⟨W, hW⟩ : ∃ W, W = ((w.alloc (.cells #[.slice a1 s.v.length c1, .slice a2 s.b.length c2, .slice a3 s.i.length c3, .slice a4 s.t.length c4] 45)).alloc (.cells #[.slice none 0 0, .slice none 0 0, .slice none 0 0, .slice none 0 0] 54)).alloc (.cells #[.slice none 0 0, .slice none 0 0, .slice none 0 0, .slice none 0 0] 54) := ⟨_, rfl⟩
  have HWW := Lib.hid hW
  obtain ⟨x0, x1, x2, x3, -⟩ := P0.out.four
  rw [← hW] at A0 P0 R0 O0 HB0
  have hs0 : W.heap.size = w.heap.size + 1 + 1 + 1 := by rw [hW]; simp
  have HS0 := Lib.hid (show w.heap.size + 1 + 1 + 1 ≤ W.heap.size by omega)
  clear h hn hl hW hs0
  go_enter Try.func21, Try.ntmps21
  go_wp2_with fail
  rw [← HWW.out]
  clear x0 x1 x2 x3
  refine (copyI_ow _ _ s.v a1 c1 A0.out.1 HL.out.1.1).mono ?_
  rintro e w1 ⟨na1, nc1, D1, rfl, ho, hD, hb⟩
  have hsz := hb.size
  have o1 := O0.out.below hb O0.out.lt
  have p1 := P0.out.below hb P0.out.lt
  obtain ⟨x0, x1, x2, x3, -⟩ := p1.four
  obtain ⟨y0, y1, y2, y3, f0, f1, f2, f3⟩ := o1.four
  have hltO := o1.lt
  have HD1 := Lib.hid (show ∀ b, D1 b → w.heap.size + 1 + 1 + 1 ≤ b ∧ b < w1.heap.size from fun b hb => by have := hD b hb; have := HS0.out; omega)
  obtain ⟨W1, hW1⟩ : ∃ W, W = w1.setCell ⟨w.heap.size + 1 + 1, 0, none⟩ (.slice na1 s.v.length nc1) := ⟨_, rfl⟩
  have HWW1 := Lib.hid hW1
  have hsW : W1.heap.size = w1.heap.size := by rw [hW1]; simp [World.setCell]
  have HS1 := Lib.hid (show w.heap.size + 1 + 1 + 1 ≤ W1.heap.size by have := HS0.out; omega)
  have HBX := Lib.hid (show Below w.heap.size w W1 by rw [hW1]; exact (HB0.out.trans (hb.mono HB0.out.size)).setCell (by simp <;> omega) _)
  have P1 := Lib.hid (show Blk W1 w.heap.size 45 #[.slice a1 s.v.length c1, .slice a2 s.b.length c2, .slice a3 s.i.length c3, .slice a4 s.t.length c4] by rw [hW1]; exact p1.far (by simp <;> omega) _)
  have R1 := Lib.hid (show Blk W1 (w.heap.size + 1) 54 #[.slice none 0 0, .slice none 0 0, .slice none 0 0, .slice none 0 0] by rw [hW1]; exact (R0.out.below hb R0.out.lt).far (by simp <;> omega) _)
  have O1 := Lib.hid (show Blk W1 (w.heap.size + 1 + 1) 54 #[.slice na1 s.v.length nc1, .slice none 0 0, .slice none 0 0, .slice none 0 0] by rw [hW1]; exact o1.set_ 0 _)
  have A1 := Lib.hid (show StAt W1 (fun b => S b ∧ b < w.heap.size) s a1 c1 a2 c2 a3 c3 a4 c4 by rw [hW1]; exact (A0.out.below hb).fr (D := fun b => b = w.heap.size + 1 + 1) (Fr.set' (D := fun b => b = w.heap.size + 1 + 1) (Fr.of_below (Below.refl _ _)) ⟨w.heap.size + 1 + 1, 0, none⟩ rfl _) (fun b hb hd => by omega))
  have E1_1 := Lib.hid (show IntsOw W1 D1 s.v na1 nc1 by rw [hW1]; exact ho.stay (fun h => Nat.not_succ_le_self _ (HD1.out _ h).1) _)
  have G1_1 := Lib.hid (show ∀ b, D1 b → b < W1.heap.size from fun b h => by have := HD1.out b h; omega)
  have HB1 := HBX
  clear ho hD hb o1 p1 hW1 hsW hsz HS0 A0 P0 R0 O0 HB0 HBX
  go_wp2_with fail
  rw [← HWW1.out]
  clear x0 x1 x2 x3 y0 y1 y2 y3 f0 f1 f2 f3 hltO
  refine (copyB_ow _ _ s.b a2 c2 A1.out.2.1 HL.out.1.2).mono ?_
  rintro e w2 ⟨na2, nc2, D2, rfl, ho, hD, hb⟩
  have hsz := hb.size
  have o2 := O1.out.below hb O1.out.lt
  have p2 := P1.out.below hb P1.out.lt
  obtain ⟨x0, x1, x2, x3, -⟩ := p2.four
  obtain ⟨y0, y1, y2, y3, f0, f1, f2, f3⟩ := o2.four
  have hltO := o2.lt
  have HD2 := Lib.hid (show ∀ b, D2 b → w.heap.size + 1 + 1 + 1 ≤ b ∧ b < w2.heap.size from fun b hb => by have := hD b hb; have := HS1.out; omega)
  obtain ⟨W2, hW2⟩ : ∃ W, W = w2.setCell ⟨w.heap.size + 1 + 1, 1, none⟩ (.slice na2 s.b.length nc2) := ⟨_, rfl⟩
  have HWW2 := Lib.hid hW2
  have hsW : W2.heap.size = w2.heap.size := by rw [hW2]; simp [World.setCell]
  have HS2 := Lib.hid (show w.heap.size + 1 + 1 + 1 ≤ W2.heap.size by have := HS1.out; omega)
  have HBX := Lib.hid (show Below w.heap.size w W2 by rw [hW2]; exact (HB1.out.trans (hb.mono HB1.out.size)).setCell (by simp <;> omega) _)
  have P2 := Lib.hid (show Blk W2 w.heap.size 45 #[.slice a1 s.v.length c1, .slice a2 s.b.length c2, .slice a3 s.i.length c3, .slice a4 s.t.length c4] by rw [hW2]; exact p2.far (by simp <;> omega) _)
  have R2 := Lib.hid (show Blk W2 (w.heap.size + 1) 54 #[.slice none 0 0, .slice none 0 0, .slice none 0 0, .slice none 0 0] by rw [hW2]; exact (R1.out.below hb R1.out.lt).far (by simp <;> omega) _)
  have O2 := Lib.hid (show Blk W2 (w.heap.size + 1 + 1) 54 #[.slice na1 s.v.length nc1, .slice na2 s.b.length nc2, .slice none 0 0, .slice none 0 0] by rw [hW2]; exact o2.set_ 1 _)
  have A2 := Lib.hid (show StAt W2 (fun b => S b ∧ b < w.heap.size) s a1 c1 a2 c2 a3 c3 a4 c4 by rw [hW2]; exact (A1.out.below hb).fr (D := fun b => b = w.heap.size + 1 + 1) (Fr.set' (D := fun b => b = w.heap.size + 1 + 1) (Fr.of_below (Below.refl _ _)) ⟨w.heap.size + 1 + 1, 1, none⟩ rfl _) (fun b hb hd => by omega))
  have E1_2 := Lib.hid (show IntsOw W2 D1 s.v na1 nc1 by rw [hW2]; exact (E1_1.out.below (Below.trans (Below.refl _ _) hb)).stay (fun h => Nat.not_succ_le_self _ (HD1.out _ h).1) _)
  have E2_2 := Lib.hid (show BoolsOw W2 D2 s.b na2 nc2 by rw [hW2]; exact ho.stay (fun h => Nat.not_succ_le_self _ (HD2.out _ h).1) _)
  have G1_2 := Lib.hid (show ∀ b, D1 b → b < W2.heap.size from fun b h => by have := G1_1.out b h; omega)
  have N1_2 := Lib.hid (show ∀ b, D1 b → ¬ D2 b from fun b h h2 => by have := G1_1.out b h; have := hD b h2; omega)
  have G2_2 := Lib.hid (show ∀ b, D2 b → b < W2.heap.size from fun b h => by have := HD2.out b h; omega)
  have HB2 := HBX
  clear ho hD hb o2 p2 hW2 hsW hsz HS1 A1 P1 R1 O1 HB1 HBX E1_1 G1_1
  go_wp2_with fail
  rw [← HWW2.out]
  clear x0 x1 x2 x3 y0 y1 y2 y3 f0 f1 f2 f3 hltO
  refine (copyI_ow _ _ s.i a3 c3 A2.out.2.2.1 HL.out.2.1).mono ?_
  rintro e w3 ⟨na3, nc3, D3, rfl, ho, hD, hb⟩
  have hsz := hb.size
  have o3 := O2.out.below hb O2.out.lt
  have p3 := P2.out.below hb P2.out.lt
  obtain ⟨x0, x1, x2, x3, -⟩ := p3.four
  obtain ⟨y0, y1, y2, y3, f0, f1, f2, f3⟩ := o3.four
  have hltO := o3.lt
  have HD3 := Lib.hid (show ∀ b, D3 b → w.heap.size + 1 + 1 + 1 ≤ b ∧ b < w3.heap.size from fun b hb => by have := hD b hb; have := HS2.out; omega)
  obtain ⟨W3, hW3⟩ : ∃ W, W = w3.setCell ⟨w.heap.size + 1 + 1, 2, none⟩ (.slice na3 s.i.length nc3) := ⟨_, rfl⟩
  have HWW3 := Lib.hid hW3
  have hsW : W3.heap.size = w3.heap.size := by rw [hW3]; simp [World.setCell]
  have HS3 := Lib.hid (show w.heap.size + 1 + 1 + 1 ≤ W3.heap.size by have := HS2.out; omega)
  have HBX := Lib.hid (show Below w.heap.size w W3 by rw [hW3]; exact (HB2.out.trans (hb.mono HB2.out.size)).setCell (by simp <;> omega) _)
  have P3 := Lib.hid (show Blk W3 w.heap.size 45 #[.slice a1 s.v.length c1, .slice a2 s.b.length c2, .slice a3 s.i.length c3, .slice a4 s.t.length c4] by rw [hW3]; exact p3.far (by simp <;> omega) _)
  have R3 := Lib.hid (show Blk W3 (w.heap.size + 1) 54 #[.slice none 0 0, .slice none 0 0, .slice none 0 0, .slice none 0 0] by rw [hW3]; exact (R2.out.below hb R2.out.lt).far (by simp <;> omega) _)
  have O3 := Lib.hid (show Blk W3 (w.heap.size + 1 + 1) 54 #[.slice na1 s.v.length nc1, .slice na2 s.b.length nc2, .slice na3 s.i.length nc3, .slice none 0 0] by rw [hW3]; exact o3.set_ 2 _)
  have A3 := Lib.hid (show StAt W3 (fun b => S b ∧ b < w.heap.size) s a1 c1 a2 c2 a3 c3 a4 c4 by rw [hW3]; exact (A2.out.below hb).fr (D := fun b => b = w.heap.size + 1 + 1) (Fr.set' (D := fun b => b = w.heap.size + 1 + 1) (Fr.of_below (Below.refl _ _)) ⟨w.heap.size + 1 + 1, 2, none⟩ rfl _) (fun b hb hd => by omega))
  have E1_3 := Lib.hid (show IntsOw W3 D1 s.v na1 nc1 by rw [hW3]; exact (E1_2.out.below (Below.trans (Below.refl _ _) hb)).stay (fun h => Nat.not_succ_le_self _ (HD1.out _ h).1) _)
  have E2_3 := Lib.hid (show BoolsOw W3 D2 s.b na2 nc2 by rw [hW3]; exact (E2_2.out.below (Below.trans (Below.refl _ _) hb)).stay (fun h => Nat.not_succ_le_self _ (HD2.out _ h).1) _)
  have E3_3 := Lib.hid (show IntsOw W3 D3 s.i na3 nc3 by rw [hW3]; exact ho.stay (fun h => Nat.not_succ_le_self _ (HD3.out _ h).1) _)
  have G1_3 := Lib.hid (show ∀ b, D1 b → b < W3.heap.size from fun b h => by have := G1_2.out b h; omega)
  have N1_3 := Lib.hid (show ∀ b, D1 b → ¬ D3 b from fun b h h2 => by have := G1_2.out b h; have := hD b h2; omega)
  have G2_3 := Lib.hid (show ∀ b, D2 b → b < W3.heap.size from fun b h => by have := G2_2.out b h; omega)
  have N2_3 := Lib.hid (show ∀ b, D2 b → ¬ D3 b from fun b h h2 => by have := G2_2.out b h; have := hD b h2; omega)
  have G3_3 := Lib.hid (show ∀ b, D3 b → b < W3.heap.size from fun b h => by have := HD3.out b h; omega)
  have HB3 := HBX
  clear ho hD hb o3 p3 hW3 hsW hsz HS2 A2 P2 R2 O2 HB2 HBX E1_2 E2_2 G1_2 G2_2
  go_wp2_with fail
  rw [← HWW3.out]
  clear x0 x1 x2 x3 y0 y1 y2 y3 f0 f1 f2 f3 hltO
  refine (copyQ_ow _ _ s.t a4 c4 A3.out.2.2.2 HL.out.2.2).mono ?_
  rintro e w4 ⟨na4, nc4, D4, rfl, ho, hD, hb⟩
  have hsz := hb.size
  have o4 := O3.out.below hb O3.out.lt
  have p4 := P3.out.below hb P3.out.lt
  obtain ⟨x0, x1, x2, x3, -⟩ := p4.four
  obtain ⟨y0, y1, y2, y3, f0, f1, f2, f3⟩ := o4.four
  have hltO := o4.lt
  have HD4 := Lib.hid (show ∀ b, D4 b → w.heap.size + 1 + 1 + 1 ≤ b ∧ b < w4.heap.size from fun b hb => by have := hD b hb; have := HS3.out; omega)
  obtain ⟨W4, hW4⟩ : ∃ W, W = w4.setCell ⟨w.heap.size + 1 + 1, 3, none⟩ (.slice na4 s.t.length nc4) := ⟨_, rfl⟩
  have HWW4 := Lib.hid hW4
  have hsW : W4.heap.size = w4.heap.size := by rw [hW4]; simp [World.setCell]
  have HS4 := Lib.hid (show w.heap.size + 1 + 1 + 1 ≤ W4.heap.size by have := HS3.out; omega)
  have HBX := Lib.hid (show Below w.heap.size w W4 by rw [hW4]; exact (HB3.out.trans (hb.mono HB3.out.size)).setCell (by simp <;> omega) _)
  have P4 := Lib.hid (show Blk W4 w.heap.size 45 #[.slice a1 s.v.length c1, .slice a2 s.b.length c2, .slice a3 s.i.length c3, .slice a4 s.t.length c4] by rw [hW4]; exact p4.far (by simp <;> omega) _)
  have R4 := Lib.hid (show Blk W4 (w.heap.size + 1) 54 #[.slice none 0 0, .slice none 0 0, .slice none 0 0, .slice none 0 0] by rw [hW4]; exact (R3.out.below hb R3.out.lt).far (by simp <;> omega) _)
  have O4 := Lib.hid (show Blk W4 (w.heap.size + 1 + 1) 54 #[.slice na1 s.v.length nc1, .slice na2 s.b.length nc2, .slice na3 s.i.length nc3, .slice na4 s.t.length nc4] by rw [hW4]; exact o4.set_ 3 _)
  have A4 := Lib.hid (show StAt W4 (fun b => S b ∧ b < w.heap.size) s a1 c1 a2 c2 a3 c3 a4 c4 by rw [hW4]; exact (A3.out.below hb).fr (D := fun b => b = w.heap.size + 1 + 1) (Fr.set' (D := fun b => b = w.heap.size + 1 + 1) (Fr.of_below (Below.refl _ _)) ⟨w.heap.size + 1 + 1, 3, none⟩ rfl _) (fun b hb hd => by omega))
  have E1_4 := Lib.hid (show IntsOw W4 D1 s.v na1 nc1 by rw [hW4]; exact (E1_3.out.below (Below.trans (Below.refl _ _) hb)).stay (fun h => Nat.not_succ_le_self _ (HD1.out _ h).1) _)
  have E2_4 := Lib.hid (show BoolsOw W4 D2 s.b na2 nc2 by rw [hW4]; exact (E2_3.out.below (Below.trans (Below.refl _ _) hb)).stay (fun h => Nat.not_succ_le_self _ (HD2.out _ h).1) _)
  have E3_4 := Lib.hid (show IntsOw W4 D3 s.i na3 nc3 by rw [hW4]; exact (E3_3.out.below (Below.trans (Below.refl _ _) hb)).stay (fun h => Nat.not_succ_le_self _ (HD3.out _ h).1) _)
  have E4_4 := Lib.hid (show TracesOw W4 D4 s.t na4 nc4 by rw [hW4]; exact ho.stay (fun h => Nat.not_succ_le_self _ (HD4.out _ h).1) _)
  have G1_4 := Lib.hid (show ∀ b, D1 b → b < W4.heap.size from fun b h => by have := G1_3.out b h; omega)
  have N1_4 := Lib.hid (show ∀ b, D1 b → ¬ D4 b from fun b h h2 => by have := G1_3.out b h; have := hD b h2; omega)
  have G2_4 := Lib.hid (show ∀ b, D2 b → b < W4.heap.size from fun b h => by have := G2_3.out b h; omega)
  have N2_4 := Lib.hid (show ∀ b, D2 b → ¬ D4 b from fun b h h2 => by have := G2_3.out b h; have := hD b h2; omega)
  have G3_4 := Lib.hid (show ∀ b, D3 b → b < W4.heap.size from fun b h => by have := G3_3.out b h; omega)
  have N3_4 := Lib.hid (show ∀ b, D3 b → ¬ D4 b from fun b h h2 => by have := G3_3.out b h; have := hD b h2; omega)
  have G4_4 := Lib.hid (show ∀ b, D4 b → b < W4.heap.size from fun b h => by have := HD4.out b h; omega)
  have HB4 := HBX
  have r4 := R3.out.below hb R3.out.lt
  obtain ⟨r0, r1, r2, r3, g0, g1, g2, g3⟩ := r4.four
  have hltR := r4.lt
  clear ho hD hb o4 p4 hW4 hsW hsz HS3 A3 P3 R3 O3 HB3 HBX E1_3 E2_3 E3_3 G1_3 G2_3 G3_3
  clear r4
  go_wp2_with fail
  refine bodyPost_ret (v := .agg #[.slice na1 s.v.length nc1, .slice na2 s.b.length nc2, .slice na3 s.i.length nc3, .slice na4 s.t.length nc4]) (by simp [results, Try.results21, go_sem, r0, r1, r2, r3]) rfl ?_
  rw [← HWW4.out]
  have hfr := (((Fr.set' (D := fun b => b = w.heap.size + 1) (Fr.of_below (Below.refl W4.heap.size W4)) ⟨w.heap.size + 1, 0, none⟩ rfl (.slice na1 s.v.length nc1)).set' ⟨w.heap.size + 1, 1, none⟩ rfl (.slice na2 s.b.length nc2)).set' ⟨w.heap.size + 1, 2, none⟩ rfl (.slice na3 s.i.length nc3)).set' ⟨w.heap.size + 1, 3, none⟩ rfl (.slice na4 s.t.length nc4)
  refine ⟨na1, nc1, na2, nc2, na3, nc3, na4, nc4, fun b => D1 b ∨ D2 b ∨ D3 b ∨ D4 b, rfl, ⟨D1, D2, D3, D4, ⟨E1_4.out.fr hfr (fun b h e => by have := HD1.out b h; omega), E2_4.out.fr hfr (fun b h e => by have := HD2.out b h; omega), E3_4.out.fr hfr (fun b h e => by have := HD3.out b h; omega), E4_4.out.fr hfr (fun b h e => by have := HD4.out b h; omega), fun b hb => Nat.lt_of_lt_of_le (show b < W4.heap.size from hb.elim (G1_4.out b) fun hb => hb.elim (G2_4.out b) fun hb => hb.elim (G3_4.out b) (G4_4.out b)) hfr.size⟩, ⟨N1_2.out, N1_3.out, N1_4.out, N2_3.out, N2_4.out, N3_4.out⟩, fun _ h => h⟩, ?_, ?_⟩
  · intro b hb
    have hs : ((((W4.setCell ⟨w.heap.size + 1, 0, none⟩ (.slice na1 s.v.length nc1)).setCell ⟨w.heap.size + 1, 1, none⟩ (.slice na2 s.b.length nc2)).setCell ⟨w.heap.size + 1, 2, none⟩ (.slice na3 s.i.length nc3)).setCell ⟨w.heap.size + 1, 3, none⟩ (.slice na4 s.t.length nc4)).heap.size = W4.heap.size := by simp [World.setCell]
    rw [hs]
    rcases hb with hb | hb | hb | hb
    · have := HD1.out b hb; have := G1_4.out b hb; omega
    · have := HD2.out b hb; have := G2_4.out b hb; omega
    · have := HD3.out b hb; have := G3_4.out b hb; omega
    · have := HD4.out b hb; have := G4_4.out b hb; omega
  · exact (((HB4.out.setCell (by simp) _).setCell (by simp) _).setCell (by simp) _).setCell (by simp) _
end Go.Proofs.Ythjfmpeicjmlkaa
