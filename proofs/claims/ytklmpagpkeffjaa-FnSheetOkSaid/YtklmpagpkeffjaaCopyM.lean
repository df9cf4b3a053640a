/- toTask once more: with what marking needs -/
import Derived.Test.YtklmpagpkeffjaaMark
namespace Go.Proofs.Ytklmpagpkeffjaa
open Go.RowKit

def CopiedS2 (ps : List T) (w : World) (e : Ending) (w' : World) : Prop := ∃ (a : Option Addr) (c : Nat) (F : Nat → Prop), e = .returned (.slice a ps.length c) ∧ AtS w' F ps a c ∧ ShS w' F ps a c ∧ TWf w' F ∧ (∀ b, F b → w.heap.size ≤ b ∧ b < w'.heap.size) ∧ Below w.heap.size w w'
def CopiedT2 (t : T) (w : World) (e : Ending) (w' : World) : Prop := ∃ (a : Option Addr) (c : Nat) (F : Nat → Prop), e = .returned (.agg #[.int .i64 t.k, .int .i64 t.n, .slice a t.ps.length c]) ∧ AtS w' F t.ps a c ∧ ShS w' F t.ps a c ∧ TWf w' F ∧ (∀ b, F b → w.heap.size ≤ b ∧ b < w'.heap.size) ∧ Below w.heap.size w w'
def CopyS2 (ps : List T) : Prop := ∀ (w : World) (S : Nat → Prop) (a : Option Addr) (c : Nat), AtS w S ps a c → nodesL ps ≤ 1048576 →
  Calls Try.prog 89 #[.slice a ps.length c] w (CopiedS2 ps w)
def CopyT2 (t : T) : Prop := ∀ (w : World) (S : Nat → Prop) (a : Option Addr) (c : Nat), AtS w S t.ps a c → nodesL t.ps ≤ 1048576 →
  Calls Try.prog 121 #[.agg #[.int .i64 t.k, .int .i64 t.n, .slice a t.ps.length c]] w (CopiedT2 t w)

theorem ShL.keepC {w w' : World} {F F' : Nat → Prop} (hF : ∀ b, F b → F' b) (hk : ∀ b o, F b → o % 3 = 2 → ∀ v, w.cell? ⟨b, o, none⟩ = some v → w'.cell? ⟨b, o, none⟩ = some v) :
    ∀ (ps : List T) (b o : Nat), (∀ j, o ≤ j → j < o + 3 * ps.length → w'.cell? ⟨b, j, none⟩ = w.cell? ⟨b, j, none⟩) → ShL w F ps b o → ShL w' F' ps b o
  | [], _, _, _, _ => by simp [ShL]
  | t :: r, b, o, e, h => by
    simp only [ShL] at h ⊢
    refine ⟨?_, ShL.keepC hF hk r b (o + 3) (fun j h1 h2 => e j (by omega) (by simp; omega)) h.2⟩
    obtain ⟨a, c, h1, h2⟩ := ShC.iff.1 h.1
    exact ShC.iff.2 ⟨a, c, (e (o + 2) (by omega) (by simp; omega)).trans h1, h2.keep hF hk⟩

theorem TWf.set2 {w : World} {F : Nat → Prop} (h : TWf w F) (g j : Nat) (hj : j % 3 = 2) (u : Value) : TWf (w.setCell ⟨g, j, none⟩ u) F := by
  intro b hF
  obtain ⟨cs, m, h1, h2, h3⟩ := h b hF
  by_cases hbg : b = g
  · subst hbg
    refine ⟨_, m, h1.set_ j u, by simp [h2], fun i hi => ?_⟩
    obtain ⟨⟨y, hy⟩, ⟨z, hz⟩⟩ := h3 i hi
    rw [Array.getElem?_setIfInBounds, if_neg (by omega), Array.getElem?_setIfInBounds, if_neg (by omega)]
    exact ⟨⟨y, hy⟩, ⟨z, hz⟩⟩
  · exact ⟨cs, m, h1.far (by simpa using hbg) _, h2, h3⟩

/-- Where toTaskS stands: the block g of n tasks, of which the first are ps. -/
def CpRel (w : World) (g n : Nat) (ps : List T) : Prop := ∃ F : Nat → Prop, F g ∧ (∀ b, F b → g ≤ b ∧ b < w.heap.size) ∧ TWf w F ∧ AtL w (fun b => F b ∧ b ≠ g) ps g 0 ∧ ShL w (fun b => F b ∧ b ≠ g) ps g 0 ∧ (∃ cs, Blk w g 42 cs ∧ cs.size = 3 * n) ∧ ps.length ≤ n

theorem CpRel.lt {w : World} {g n : Nat} {ps : List T} (h : CpRel w g n ps) : g < w.heap.size := by
  obtain ⟨F, _, _, _, _, _, ⟨cs, h, _⟩, _⟩ := h; exact h.lt
theorem CpRel.cells {w : World} {g n : Nat} {ps : List T} (h : CpRel w g n ps) (j : Nat) (hj : j < 3 * n) : (∃ v, w.cell? ⟨g, j, none⟩ = some v) ∧ w.frozen? ⟨g, j, none⟩ = false := by
  obtain ⟨F, _, _, _, _, _, ⟨cs, h, hs⟩, _⟩ := h
  exact ⟨⟨cs[j]'(by omega), by rw [h.cell j]; simp⟩, h.frozen j⟩
theorem CpRel.below {w w' : World} {g n : Nat} {ps : List T} (h : CpRel w g n ps) (hb : Below w.heap.size w w') : CpRel w' g n ps := by
  have hg := h.lt
  obtain ⟨F, h1, h2, h3, h4, h5, ⟨cs, h6, h7⟩, h8⟩ := h
  refine ⟨F, h1, fun b hb' => ⟨(h2 b hb').1, Nat.lt_of_lt_of_le (h2 b hb').2 hb.size⟩, h3.below hb, AtL.keep (fun _ h => h) (fun b _ hl => hb.block b hl) _ _ _ (fun _ => hb.block g hg) h4, ?_, ⟨cs, h6.below hb hg, h7⟩, h8⟩
  exact ShL.keepC (fun _ h => h) (fun b o hF _ v hv => (hb.cell (p := ⟨b, o, none⟩) (h2 b hF.1).2).trans hv) _ _ _ (fun j _ _ => hb.cell (p := ⟨g, j, none⟩) hg) h5
theorem cp_start (w : World) (n : Nat) : CpRel (w.alloc (.cells (madeCells #[Value.int IntKind.i64 0, Value.int IntKind.i64 0, Value.slice none 0 0] (n * 3)) 42)) w.heap.size n [] := by
  refine ⟨fun b => b = w.heap.size, rfl, fun b hb => by subst hb; simp, ?_, by simp [AtL], by simp [ShL], ⟨_, heap_alloc_new w _, by rw [size_madeCells]; omega⟩, by simp⟩
  rintro b rfl
  refine ⟨_, n, heap_alloc_new w _, by rw [size_madeCells]; omega, fun i hi => ⟨⟨0, ?_⟩, ⟨0, ?_⟩⟩⟩
  · have : 3 * i < n * 3 := by omega
    simp [madeCells, this]
  · have : 3 * i + 1 < n * 3 := by omega
    simp [madeCells, this, Nat.add_mod]
/-- One more task is stored. -/
theorem CpRel.step {w : World} {g n : Nat} {ps : List T} (h : CpRel w g n ps) (hl : ps.length < n) (t : T) (a : Option Addr) (c : Nat) (F2 : Nat → Prop) (ok1 : i64ok t.k) (ok2 : i64ok t.n) (hat : AtS w F2 t.ps a c) (hsh : ShS w F2 t.ps a c) (hwf : TWf w F2) (hF2 : ∀ b, F2 b → g < b ∧ b < w.heap.size) :
    CpRel (((w.setCell ⟨g, ps.length * 3, none⟩ (.int .i64 t.k)).setCell ⟨g, ps.length * 3 + 1, none⟩ (.int .i64 t.n)).setCell ⟨g, ps.length * 3 + 2, none⟩ (.slice a t.ps.length c)) g n (ps ++ [t]) := by
  obtain ⟨F, h1, h2, h3, h4, h5, ⟨cs, h6, h7⟩, h8⟩ := h
  have hT : TWf w (fun b => F b ∨ F2 b) := fun b hb => hb.elim (h3 b) (hwf b)
  have hT' := ((hT.set g (ps.length * 3) t.k).set g (ps.length * 3 + 1) t.n).set2 g (ps.length * 3 + 2) (by omega) (.slice a t.ps.length c)
  have hblk := ((h6.set_ (ps.length * 3) (.int .i64 t.k)).set_ (ps.length * 3 + 1) (.int .i64 t.n)).set_ (ps.length * 3 + 2) (.slice a t.ps.length c)
  have hsz : (((w.setCell ⟨g, ps.length * 3, none⟩ (.int .i64 t.k)).setCell ⟨g, ps.length * 3 + 1, none⟩ (.int .i64 t.n)).setCell ⟨g, ps.length * 3 + 2, none⟩ (.slice a t.ps.length c)).heap.size = w.heap.size := by simp [World.setCell]
  have ho : ∀ b, b ≠ g → (((w.setCell ⟨g, ps.length * 3, none⟩ (.int .i64 t.k)).setCell ⟨g, ps.length * 3 + 1, none⟩ (.int .i64 t.n)).setCell ⟨g, ps.length * 3 + 2, none⟩ (.slice a t.ps.length c)).heap[b]? = w.heap[b]? := by
    intro b hb
    rw [Below.heap_setCell _ _ _ _ (by simpa using hb), Below.heap_setCell _ _ _ _ (by simpa using hb), Below.heap_setCell _ _ _ _ (by simpa using hb)]
  have hc := fun m => hblk.cell m
  have hold : ∀ m, w.cell? ⟨g, m, none⟩ = cs[m]? := fun m => h6.cell m
  generalize (((w.setCell ⟨g, ps.length * 3, none⟩ (.int .i64 t.k)).setCell ⟨g, ps.length * 3 + 1, none⟩ (.int .i64 t.n)).setCell ⟨g, ps.length * 3 + 2, none⟩ (.slice a t.ps.length c)) = w' at *
  have hcells : ∀ m, m < 3 * ps.length → w'.cell? ⟨g, m, none⟩ = w.cell? ⟨g, m, none⟩ := by
    intro m hm
    rw [hc m, hold m]
    simp only [Array.getElem?_setIfInBounds]
    rw [if_neg (by omega), if_neg (by omega), if_neg (by omega)]
  have hinner : ∀ b o v, b ≠ g → w.cell? ⟨b, o, none⟩ = some v → w'.cell? ⟨b, o, none⟩ = some v := fun b o v hb hv => (World.cell?_of_block (w := w) (a := ⟨b, o, none⟩) (ho b hb)).trans hv
  refine ⟨fun b => F b ∨ F2 b, .inl h1, fun b hb => ?_, hT', ?_, ?_, ⟨_, hblk, by simp; omega⟩, by simp; omega⟩
  · rw [hsz]
    rcases hb with hb | hb
    · exact h2 b hb
    · have := hF2 b hb; omega
  · refine AtL.snoc (AtL.keepC (fun b hb => ⟨.inl hb.1, hb.2⟩) (fun b hb _ => ho b hb.2) ps g 0 (fun m _ hm => hcells m (by omega)) h4) ?_
    rw [show 0 + 3 * ps.length = ps.length * 3 by omega]
    refine AtC.mk ok1 ok2 ?_ ?_ ?_ (hat.keep (fun b hb => ⟨.inr hb, by have := hF2 b hb; omega⟩) (fun b hb _ => ho b (by have := hF2 b hb; omega)))
    · rw [hc _, Array.getElem?_setIfInBounds, if_neg (by omega), Array.getElem?_setIfInBounds, if_neg (by omega), Array.getElem?_setIfInBounds, if_pos rfl, if_pos (by omega)]
    · rw [hc _, Array.getElem?_setIfInBounds, if_neg (by omega), Array.getElem?_setIfInBounds, if_pos rfl, if_pos (by simp; omega)]
    · rw [hc _, Array.getElem?_setIfInBounds, if_pos rfl, if_pos (by simp; omega)]
  · refine ShL.snoc (ShL.keepC (fun b hb => ⟨.inl hb.1, hb.2⟩) (fun b o hb _ v hv => hinner b o v hb.2 hv) ps g 0 (fun m _ hm => hcells m (by omega)) h5) ?_
    rw [show 0 + 3 * ps.length = ps.length * 3 by omega]
    refine ShC.iff.2 ⟨a, c, ?_, hsh.keep (fun b hb => ⟨.inr hb, by have := hF2 b hb; omega⟩) (fun b o hb _ v hv => hinner b o v (by have := hF2 b hb; omega) hv)⟩
    rw [hc _, Array.getElem?_setIfInBounds, if_pos rfl, if_pos (by simp; omega)]
theorem CpRel.done {w wr : World} {ps : List T} (h : CpRel wr w.heap.size ps.length ps) (hl : ps.length ≤ 9223372036854775807) (hb : Below w.heap.size w wr) : CopiedS2 ps w (.returned (.slice (some ⟨w.heap.size, 0, none⟩) ps.length ps.length)) wr := by
  obtain ⟨F, h1, h2, h3, h4, h5, _, _⟩ := h
  exact ⟨_, _, F, rfl, ⟨Nat.le_refl _, hl, .inr ⟨w.heap.size, 0, rfl, h1, AtL.keepC (fun _ h => h.1) (fun _ _ _ => rfl) _ _ _ (fun _ _ _ => rfl) h4⟩⟩,
    ⟨Nat.le_refl _, hl, .inr ⟨w.heap.size, rfl, h1, ShL.keepC (fun _ h => h.1) (fun _ _ _ _ _ h => h) _ _ _ (fun _ _ _ => rfl) h5⟩⟩, h3, h2, hb⟩

theorem copyT2_of (t : T) (hS : CopyS2 t.ps) : CopyT2 t := by
  intro w S a c hat hle
  have H := Lib.hid hS
  have HA := Lib.hid hat
  have HL := Lib.hid hle
  clear hS hat hle
  go_enter Try.func121, Try.ntmps121
  go_wp2_with fail
  refine (H.out _ S a c ?_ HL.out).mono ?_
  · exact ((HA.out.alloc _).alloc _).alloc _
  rintro e w1 ⟨a', c', F, rfl, hat, hsh, hwf, hF, hb⟩
  obtain ⟨hc, hf⟩ := bcell hb
  have hz : w.heap.size + 1 + 1 < w1.heap.size := by have := hb.size; simp at this; omega
  have hz1 : w.heap.size + 1 < w1.heap.size := by omega
  have hz0 : w.heap.size < w1.heap.size := by omega
  simp only [World.size_alloc] at hc hf
  have HB := Lib.hid hb
  simp only [World.size_alloc] at hF
  have HAT := Lib.hid (And.intro hat (And.intro hsh (And.intro hwf hF)))
  clear hb hat hsh hwf hF
  go_wp2_with fail
  refine bodyPost_ret (v := .agg #[.int .i64 t.k, .int .i64 t.n, .slice a' t.ps.length c']) (by simp [results, Try.results121, go_sem, hc]) rfl ?_
  have hF := HAT.out.2.2.2
  have hF0 : ∀ b, F b → w.heap.size + 2 < b := fun b hb => by have := hF b hb; omega
  refine ⟨a', c', F, rfl, ?_, ?_, ?_, ?_, ?_⟩
  · exact ((((HAT.out.1.setCell (by intro b hb; have := hF0 b hb; simp; omega) _).setCell (by intro b hb; have := hF0 b hb; simp; omega) _).setCell (by intro b hb; have := hF0 b hb; simp; omega) _).setCell (by intro b hb; have := hF0 b hb; simp; omega) _)
  · refine HAT.out.2.1.keep (fun _ h => h) (fun b o hb _ v hv => ?_)
    have := hF0 b hb
    repeat rw [World.cell?_setCell_other _ _ _ _ (by intro e; injection e with e1 e2; omega)]
    exact hv
  · intro b hb
    have := hF0 b hb
    obtain ⟨cs, m, h1, h2⟩ := HAT.out.2.2.1 b hb
    exact ⟨cs, m, (((h1.far (by simp; omega) _).far (by simp; omega) _).far (by simp; omega) _).far (by simp; omega) _, h2⟩
  · intro b hb
    have := hF b hb
    simp [World.setCell]
    omega
  · exact (((((((((Below.refl _ _).alloc (Nat.le_refl _) _).alloc (by simp) _).alloc (by simp; omega) _).trans (HB.out.mono (by simp; omega))).setCell (by simp; omega) _).setCell (by simp) _).setCell (by simp) _).setCell (by simp) _)

theorem copyS2_of (ps : List T) (hT : ∀ t ∈ ps, CopyT2 t) : CopyS2 ps := by
  intro w S a c hat hle
  have H := Lib.hid hT
  have HA := Lib.hid hat
  have HL := Lib.hid hle
  have hlen : ps.length ≤ 1048576 := by have := nodesL_ge ps; omega
  clear hT hat hle
  obtain ⟨i0, hi, hz0, hz1, hz2⟩ := info_parts infoTask
  have hmk := fun W => run_make_rowN (P := Try.prog) 24 42 i0 _ Try.underlying24 hi hz0 .i64 .i64 ps.length ps.length (Nat.le_refl _) (by rw [hz2]; omega) (by omega) W
  rw [hz1] at hmk
  go_enter Try.func89, Try.ntmps89
  go_wp2_with fail
  clear hmk
  have hc0 := cp_start w ps.length
  have HC0 := Lib.hid hc0
  clear hc0
  go_loopw [4] (fun i wr => ∃ k : Nat, k ≤ ps.length ∧ i = .int .i64 k ∧ CpRel wr w.heap.size ps.length (ps.take k) ∧ Below w.heap.size w wr) (fun i _ => ps.length - (intOf i).toNat)
  case atStart => exact ⟨0, by omega, rfl, by simpa using HC0.out, (Below.refl _ _).alloc (Nat.le_refl _) _⟩
  case round =>
    obtain ⟨k, hk, rfl, hp, hb⟩ := hrel
    have HB := Lib.hid hb
    have HP := Lib.hid hp
    clear hb hp HC0
    by_cases hlt : k < ps.length
    · obtain ⟨b, o, a', c', rfl, hbl, _, e0, e1, e2, hs, ok1, ok2⟩ := HA.out.elem HB.out hlt
      have HS' := Lib.hid hs
      have hnn := nodesL_snoc ps k hlt
      have hnr := nodesL_rest ps (k + 1)
      have hn1 := T.nodes_eq ps[k]
      have hle := HL.out
      have hpl : nodesL ps[k].ps ≤ 1048576 := by omega
      have HOK := Lib.hid (And.intro ok1 ok2)
      clear hs hnn hnr hn1 hle ok1 ok2
      go_wp2_with fail
      refine (H.out ps[k] (List.getElem_mem _) _ S a' c' HS'.out hpl).mono ?_
      rintro e w1 ⟨a2, c2, F2, rfl, hat, hsh, hwf, hF, hb⟩
      have hp1 := HP.out.below hb
      have hlk : (ps.take k).length = k := by simp; omega
      obtain ⟨⟨y0, hy0⟩, f0⟩ := hp1.cells (k * 3) (by omega)
      obtain ⟨⟨y1, hy1⟩, f1⟩ := hp1.cells (k * 3 + 1) (by omega)
      obtain ⟨⟨y2, hy2⟩, f2⟩ := hp1.cells (k * 3 + 2) (by omega)
      have hglt := HP.out.lt
      have hsn := hp1.step (by omega) ps[k] a2 c2 F2 HOK.out.1 HOK.out.2 hat hsh hwf (fun b hb => by have := hF b hb; omega)
      rw [hlk, ← List.take_succ_eq_append_getElem hlt] at hsn
      have HSN := Lib.hid hsn
      have HB' := Lib.hid (((((HB.out.trans (hb.mono HB.out.size)).setCell (p := ⟨w.heap.size, k * 3, none⟩) (Nat.le_refl _) (.int .i64 ps[k].k)).setCell (p := ⟨w.heap.size, k * 3 + 1, none⟩) (Nat.le_refl _) (.int .i64 ps[k].n)).setCell (p := ⟨w.heap.size, k * 3 + 2, none⟩) (Nat.le_refl _) (.slice a2 ps[k].ps.length c2)))
      clear hb hat hsh hwf hF hp1 hsn hglt hlk
      go_wp2_with fail
      go_roundw
      case rel => exact ⟨k + 1, by omega, by go_num, HSN.out, HB'.out⟩
      case measure => simp [intOf]; omega
    · have hk' : k = ps.length := by omega
      have hq := HP.out
      rw [hk', List.take_of_length_le (Nat.le_refl _)] at hq
      have HQ := Lib.hid hq
      clear hk' hq
      go_wp2_with fail
      go_ret
      exact HQ.out.done (by omega) HB.out

theorem copyT2_all : ∀ t, CopyT2 t := T.ind fun k n ps ih => copyT2_of (.mk k n ps) (copyS2_of ps ih)
end Go.Proofs.Ytklmpagpkeffjaa
