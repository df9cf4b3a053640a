/- arguments and results of an exact law: sheets -/
import Derived.Test.YtochgmbeomfkpaaBs2
namespace Go.Proofs.Ytochgmbeomfkpaa
open Go.RowKit

/-- A sheet in memory of its own, in blocks that meet D. -/
def SheetOw (w : World) (D : Nat → Prop) (s : Sh) (a : Option Addr) (c : Nat) (a' : Option Addr) (c' : Nat) : Prop := ∃ F, Shm w 0 F s (.slice a s.m.length c) a' c' ∧ ∀ b, (F b ∨ (Value.slice a s.m.length c).ownBlock = some b) → D b
section
variable {w w' : World} {D : Nat → Prop} {s : Sh} {a a' : Option Addr} {c c' : Nat}
theorem SheetOw.at (h : SheetOw w D s a c a' c') : ShAt w D s a c a' c' := by
  obtain ⟨F, hm, hd⟩ := h
  refine ⟨?_, hm.at_.weaken fun b hb => hd b (.inl hb)⟩
  obtain ⟨h1, h2, h3⟩ := ownsRow_at hm.row
  refine ⟨h1, h2, ?_⟩
  rcases h3 with h3 | ⟨g, ha, ho, hc⟩
  · exact .inl (List.length_eq_zero_iff.1 h3)
  · exact .inr ⟨g, 0, ha, hd g (.inr ho), fun i hi => hc i _ (by rw [List.getElem?_map, List.getElem?_eq_getElem hi]; rfl)⟩
theorem SheetOw.fr {D' : Nat → Prop} (h : SheetOw w D s a c a' c') (hf : Fr D' w w') (hD : ∀ b, D b → ¬ D' b) : SheetOw w' D s a c a' c' := by
  obtain ⟨F, hm, hd⟩ := h
  refine ⟨F, ?_, hd⟩
  have hn : ∀ b, F b → ¬ D' b := fun b hF => hD b (hd b (.inl hF))
  refine ⟨ownsRow_fr hm.row hf (fun b hb => hD b (hd b (.inr hb))), hm.at_.keep (fun _ h => h) (fun b hb hl => hf.2.2.2.2 b hl (hn b hb)), hm.sh.keep (fun _ h => h) (fun b o hF _ v hv => (World.cell?_of_block (w := w) (hf.2.2.2.2 b (hm.lt b hF) (hn b hF))).trans hv), fun b hF => ?_, hm.ge, fun b hF => Nat.lt_of_lt_of_le (hm.lt b hF) hf.size, hm.ne⟩
  obtain ⟨cs, m, h1, h2⟩ := hm.wf b hF
  exact ⟨cs, m, h1.fr hf (hn b hF), h2⟩
theorem SheetOw.below (h : SheetOw w D s a c a' c') (hb : Below w.heap.size w w') : SheetOw w' D s a c a' c' := SheetOw.fr (D' := fun _ => False) h (Fr.of_below hb) (fun _ _ hf => hf)
end
def CopiedSO (s : Sh) (w : World) (e : Ending) (w' : World) : Prop := ∃ a c a' c' D, e = .returned (.agg #[.slice a s.m.length c, .slice a' s.t.length c']) ∧ SheetOw w' D s a c a' c' ∧ (∀ b, D b → w.heap.size ≤ b ∧ b < w'.heap.size) ∧ Below w.heap.size w w'
theorem copyS_ow (w : World) (S : Nat → Prop) (s : Sh) (a : Option Addr) (c : Nat) (a' : Option Addr) (c' : Nat) (h : ShAt w S s a c a' c') (hm : s.m.length + nodesL s.t ≤ 1048576) : Calls Try.prog 8 #[.agg #[.slice a s.m.length c, .slice a' s.t.length c']] w (CopiedSO s w) :=
  (copySh_any w S s a c a' c' h (by omega) (by omega)).mono fun _ _ ⟨v, a2, c2, F, he, hs, hb⟩ => by
    obtain ⟨a1, c1, rfl, _⟩ := hs.at
    refine ⟨a1, c1, a2, c2, fun b => F b ∨ (Value.slice a1 s.m.length c1).ownBlock = some b, he, ⟨F, hs.low (Nat.zero_le _), fun _ h => h⟩, fun b hb => ?_, hb⟩
    rcases hb with hb | hb
    · exact ⟨hs.ge b hb, hs.lt b hb⟩
    · exact World.ownsRow.lt hs.row b hb
theorem markS_ow (w : World) (D : Nat → Prop) (s : Sh) (a : Option Addr) (c : Nat) (a' : Option Addr) (c' k : Nat) (h : SheetOw w D s a c a' c') (hm : s.m.length + nodesL s.t ≤ 1048576) (hk : k ≤ 1000000) :
    Calls Try.prog 13 #[.agg #[.slice a s.m.length c, .slice a' s.t.length c'], .int .i64 k] w fun e w' => e = .returned (.int .i64 ((k + (s.m.length + 2 * nodesL s.t) : Nat) : Int)) ∧ Fr D w w' := by
  obtain ⟨F, hs, hd⟩ := h
  refine (markSh_any w 0 F s _ a' c' k hs (by omega) (by omega) hk).mono ?_
  rintro e w' ⟨he, hf⟩
  exact ⟨he, hf.weaken hd⟩
theorem szSh_N (s : Sh) (left : Nat) : szSh s left = szN (s.m.length + nodesL s.t) left := by unfold szSh szN; split <;> omega
theorem szS_ow (w : World) (S : Nat → Prop) (s : Sh) (a : Option Addr) (c : Nat) (a' : Option Addr) (c' left : Nat) (h : ShAt w S s a c a' c') (hl : left ≤ 1048576) :
    Calls Try.prog 6 #[.agg #[.slice a s.m.length c, .slice a' s.t.length c'], .int .i64 left] w fun e w' => e = .returned (.int .i64 (szN (s.m.length + nodesL s.t) left)) ∧ Below w.heap.size w w' := by
  rw [← szSh_N]; exact szSheet_any w S s a c a' c' left h hl
end Go.Proofs.Ytochgmbeomfkpaa
