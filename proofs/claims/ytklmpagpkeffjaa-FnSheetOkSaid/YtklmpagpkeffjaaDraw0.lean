/- The reader of a code: l6Open, pick -/
import Derived.Test.YtklmpagpkeffjaaProg
import Derived.Test.YtklmpagpkeffjaaTree
import Derived.WalkKit
import Derived.Handy
import Derived.WalkSpells
import Derived.BigQuiet
import Derived.Deep.QuietTactic
import Derived.Laws.BitsAllLaws
import Derived.Laws.BitsLemmas
namespace Go.Proofs.Ytklmpagpkeffjaa
open Go.RowKit

/-- Block g holds a reader of a code, at place p. -/
def RdAt (w : World) (g : Nat) (p : Nat) : Prop := ∃ (a : Option Addr) (n c : Nat), n ≤ 2000 ∧ n ≤ c ∧ c ≤ 9223372036854775807 ∧ w.cell? ⟨g, 0, none⟩ = some (.slice a n c) ∧ w.cell? ⟨g, 1, none⟩ = some (.int .i64 p) ∧ w.frozen? ⟨g, 1, none⟩ = false ∧
  (n = 0 ∨ ∃ b o, a = some ⟨b, o, none⟩ ∧ b < g ∧ ∀ i, i < n → ∃ v : Int, 0 ≤ v ∧ v ≤ 255 ∧ w.cell? ⟨b, o + i, none⟩ = some (.int .u8 v))

/-- Only block g of what was there has turned. -/
def Only (g : Nat) (w w' : World) : Prop := w.grownBy w' (some g)

theorem Only.of_below {g : Nat} {w w' : World} (h : Below w.heap.size w w') : Only g w w' := ⟨h.os, h.tape, h.output, h.size, fun i hi _ => h.block i hi⟩
theorem Only.trans {g : Nat} {a b c : World} (h : Only g a b) (k : Only g b c) : Only g a c :=
  ⟨k.os.trans h.os, k.tape.trans h.tape, k.output.trans h.output, Nat.le_trans h.size k.size, fun i hi hne => (k.block i (Nat.lt_of_lt_of_le hi h.size) hne).trans (h.block i hi hne)⟩
theorem Only.refl (g : Nat) (w : World) : Only g w w := .of_below (Below.refl _ _)
theorem Only.drewN {g : Nat} {a w : World} (h : Only g a w) (n : Nat) : Only g a (w.drewN n) := ⟨h.os, h.tape, h.output, h.size, h.block⟩
theorem Only.alloc {g : Nat} {a w : World} (h : Only g a w) (o : Obj) : Only g a (w.alloc o) := h.trans (.of_below ((Below.refl _ _).alloc (Nat.le_refl _) o))
theorem Only.set {g : Nat} {a w : World} (h : Only g a w) {p : Addr} (hp : p.block = g ∨ a.heap.size ≤ p.block) (u : Value) : Only g a (w.setCell p u) :=
  ⟨h.os, h.tape, h.output, by simpa [World.setCell] using h.size, fun i hi hne => (Below.heap_setCell w p u i (by
    rintro rfl
    rcases hp with hp | hp
    · exact hne (by rw [hp])
    · omega)).trans (h.block i hi hne)⟩
theorem Only.below {g : Nat} {w w' : World} (h : Only g w w') (hg : w.heap.size ≤ g) : Below w.heap.size w w' := ⟨h.os, h.tape, h.output, h.size, fun i hi => h.block i hi (by intro e; injection e; omega)⟩

theorem RdAt.lt {w : World} {g p : Nat} (h : RdAt w g p) : g < w.heap.size := by
  obtain ⟨_, _, _, _, _, _, h0, _⟩ := h
  exact cell_lt h0
/-- The reader is kept by whatever leaves the blocks up to it as they were. -/
theorem RdAt.keep {w w' : World} {g p : Nat} (h : RdAt w g p) (hb : ∀ k, k ≤ g → w'.heap[k]? = w.heap[k]?) : RdAt w' g p := by
  obtain ⟨a, n, c, h1, h2, h3, h4, h5, h6, h7⟩ := h
  have e : ∀ k o, k ≤ g → w'.cell? ⟨k, o, none⟩ = w.cell? ⟨k, o, none⟩ := fun k o hk => World.cell?_of_block (w := w) (hb k hk)
  refine ⟨a, n, c, h1, h2, h3, (e _ _ (Nat.le_refl _)).trans h4, (e _ _ (Nat.le_refl _)).trans h5, (World.frozen?_of_block (w := w) (a := ⟨g, 1, none⟩) (hb g (Nat.le_refl _))).trans h6, ?_⟩
  rcases h7 with h7 | ⟨b, o, ha, hbg, hv⟩
  · exact .inl h7
  · refine .inr ⟨b, o, ha, hbg, fun i hi => ?_⟩
    obtain ⟨v, v0, v1, hc⟩ := hv i hi
    exact ⟨v, v0, v1, (e _ _ (by omega)).trans hc⟩
theorem RdAt.below {w w' : World} {g p : Nat} (h : RdAt w g p) (hb : Below w.heap.size w w') : RdAt w' g p := h.keep fun k hk => hb.block k (by have := h.lt; omega)
theorem RdAt.alloc {w : World} {g p : Nat} (h : RdAt w g p) (o : Obj) : RdAt (w.alloc o) g p := h.below ((Below.refl _ _).alloc (Nat.le_refl _) o)
theorem RdAt.drewN {w : World} {g p : Nat} (h : RdAt w g p) (n : Nat) : RdAt (w.drewN n) g p := h.keep fun _ _ => rfl
/-- One step of the reader. -/
theorem RdAt.next {w : World} {g p q : Nat} (h : RdAt w g p) : RdAt (w.setCell ⟨g, 1, none⟩ (.int .i64 q)) g q := by
  obtain ⟨a, n, c, h1, h2, h3, h4, h5, h6, h7⟩ := h
  have e : ∀ k o, (k ≠ g ∨ o ≠ 1) → (w.setCell ⟨g, 1, none⟩ (.int .i64 q)).cell? ⟨k, o, none⟩ = w.cell? ⟨k, o, none⟩ := fun k o hk =>
    World.cell?_setCell_other w ⟨g, 1, none⟩ ⟨k, o, none⟩ _ (by intro e; injection e with e1 e2; rcases hk with hk | hk <;> omega)
  refine ⟨a, n, c, h1, h2, h3, (e _ _ (.inr (by omega))).trans h4, ?_, ?_, ?_⟩
  · exact World.cell?_setCell_same w ⟨g, 1, none⟩ _ h5
  · simpa using h6
  · rcases h7 with h7 | ⟨b, o, ha, hbg, hv⟩
    · exact .inl h7
    · refine .inr ⟨b, o, ha, hbg, fun i hi => ?_⟩
      obtain ⟨v, v0, v1, hc⟩ := hv i hi
      exact ⟨v, v0, v1, (e _ _ (.inl (by omega))).trans hc⟩

theorem only_next {w : World} {g p q : Nat} (_h : RdAt w g p) : Only g w (w.setCell ⟨g, 1, none⟩ (.int .i64 q)) := (Only.refl g w).set (.inl rfl) _

/-- What pick hands back. -/
def Picked (g p : Nat) (n : Int) (w : World) (e : Ending) (w' : World) : Prop := ∃ r : Int, e = .returned (.int .i64 r) ∧ 0 ≤ r ∧ (1 ≤ n → r < n) ∧ RdAt w' g (p + 1) ∧ Only g w w'

theorem xor_nat (x : Nat) (h : x < 9223372036854775808) : ∃ y : Nat, bits .xor .i64 (x : Int) ((x : Int) / 64) = (y : Int) := by
  have h64 : ((x : Int) / 64) = ((x / 64 : Nat) : Int) := by omega
  rw [h64]
  have hx : x ^^^ (x / 64) < 2 ^ 63 := Nat.xor_lt_two_pow (by omega) (by omega)
  refine ⟨x ^^^ (x / 64), ?_⟩
  have of : ∀ a : Nat, a < 9223372036854775808 → (BitVec.ofInt 64 (a : Int)).toNat = a := fun a ha => by
    rw [BitVec.ofInt_natCast, BitVec.toNat_ofNat]; exact Nat.mod_eq_of_lt (by omega)
  show IntKind.i64.wrap ((BitVec.ofInt 64 (x : Int) ^^^ BitVec.ofInt 64 ((x / 64 : Nat) : Int)).toNat : Int) = _
  rw [BitVec.toNat_xor, of x h, of _ (by omega), IntKind.wrap_i64]
  omega

set_option maxHeartbeats 1000000 in
theorem pick_any (w : World) (g p : Nat) (n : Int) (hr : RdAt w g p) (hp : p ≤ 1000000) (hn : n ≤ 1000000) (hn' : -1000000 ≤ n) :
    Calls Try.prog 47 #[.pointer (some ⟨g, 0, none⟩), .int .i64 n] w (Picked g p n w) := by
  have HR := Lib.hid (hr.next (q := p + 1))
  have HO := Lib.hid (only_next (q := p + 1) hr)
  have hlt := hr.lt
  obtain ⟨a, m, c, h1, h2, h3, c0, c1, f1, h7⟩ := hr
  have H7 := Lib.hid h7
  clear h7
  by_cases hn1 : n < 1
  · go_enter Try.func47, Try.ntmps47
    go_wp2_with fail
    go_ret
    exact ⟨0, rfl, by omega, by omega, by simpa using HR.out, by simpa using HO.out⟩
  by_cases hm : m = 0
  · subst hm
    go_enter Try.func47, Try.ntmps47
    go_wp2_with fail
    go_ret
    exact ⟨0, rfl, by omega, by omega, by simpa using HR.out, by simpa using HO.out⟩
  have hm0 : ((m : Int) == 0) = false := by simpa using hm
  obtain ⟨b, o, rfl, hbg, hv⟩ : ∃ b o, a = some ⟨b, o, none⟩ ∧ b < g ∧ ∀ i, i < m → ∃ v : Int, 0 ≤ v ∧ v ≤ 255 ∧ w.cell? ⟨b, o + i, none⟩ = some (.int .u8 v) := by
    rcases H7.out with h | h
    · exact absurd h hm
    · exact h
  have HV := Lib.hid hv
  clear hv H7
  by_cases hpm : p < m
  · obtain ⟨v, v0, v1, hc⟩ := HV.out p hpm
    have hne : b ≠ g := by omega
    go_enter Try.func47, Try.ntmps47
    go_wp2_with fail
    go_ret
    exact ⟨v % n, rfl, Int.emod_nonneg _ (by omega), fun h => Int.emod_lt_of_pos _ (by omega), by simpa using HR.out, by simpa using HO.out⟩
  · have hk1 : p % m < m := Nat.mod_lt _ (by omega)
    have hk2 : (p * 7 + 3) % m < m := Nat.mod_lt _ (by omega)
    obtain ⟨v, v0, v1, hc⟩ := HV.out (p % m) hk1
    obtain ⟨u, u0, u1, hd⟩ := HV.out ((p * 7 + 3) % m) hk2
    have hne : b ≠ g := by omega
    have hm1 : 1 ≤ m := by omega
    go_enter Try.func47, Try.ntmps47
    go_wp2_with fail
    have E1 : (p : Int).tmod (m : Int) = (p : Int) % (m : Int) := Int.tmod_eq_emod_of_nonneg (by omega)
    have T1 : ((p : Int) % (m : Int)).toNat = p % m := by rw [← Int.natCast_emod, Int.toNat_natCast]
    have P1 : 0 ≤ (p : Int) % (m : Int) := Int.emod_nonneg _ (by omega)
    have Q1 : (p : Int) % (m : Int) < (m : Int) := Int.emod_lt_of_pos _ (by omega)
    have W1 : IntKind.i64.wrap ((p : Int) * 7) = (p : Int) * 7 := IntWalk.i64_in _ ⟨by omega, by omega⟩
    have W2 : IntKind.i64.wrap ((p : Int) * 7 + 3) = (p : Int) * 7 + 3 := IntWalk.i64_in _ ⟨by omega, by omega⟩
    have E2 : ((p : Int) * 7 + 3).tmod (m : Int) = ((p : Int) * 7 + 3) % (m : Int) := Int.tmod_eq_emod_of_nonneg (by omega)
    have T2 : (((p : Int) * 7 + 3) % (m : Int)).toNat = (p * 7 + 3) % m := by
      rw [show (p : Int) * 7 + 3 = ((p * 7 + 3 : Nat) : Int) by omega, ← Int.natCast_emod, Int.toNat_natCast]
    have P2 : 0 ≤ ((p : Int) * 7 + 3) % (m : Int) := Int.emod_nonneg _ (by omega)
    have Q2 : ((p : Int) * 7 + 3) % (m : Int) < (m : Int) := Int.emod_lt_of_pos _ (by omega)
    go_quiet (fail)
    clear E1 E2 W1 W2 T1 T2 P1 P2 Q1 Q2
    obtain ⟨x, hx, hxb⟩ : ∃ x : Nat, wrap64 (v * 131 + u * 1117 + (p : Int) * 29 + wrap64 (wrap64 ((p : Int) / (m : Int)) * 53)) = (x : Int) ∧ x < 1000000000 := by
      have d0 : 0 ≤ (p : Int) / (m : Int) := Int.ediv_nonneg (by omega) (by omega)
      have d1 : (p : Int) / (m : Int) ≤ p := Int.ediv_le_self _ (by omega)
      generalize (p : Int) / (m : Int) = d at d0 d1
      rw [IntWalk.wrap64_in d ⟨by omega, by omega⟩, IntWalk.wrap64_in (d * 53) ⟨by omega, by omega⟩, IntWalk.wrap64_in _ ⟨by omega, by omega⟩]
      exact ⟨(v * 131 + u * 1117 + (p : Int) * 29 + d * 53).toNat, by omega, by omega⟩
    rw [hx]
    obtain ⟨y, hy⟩ := xor_nat x (by omega)
    have HY := Lib.hid hy
    clear hx hy
    go_wp2_with fail
    go_ret
    rw [HY.out]
    refine ⟨(y : Int).tmod n, rfl, ?_, ?_, by simpa using HR.out.drewN nq, by simpa using HO.out.drewN nq⟩
    · rw [Int.tmod_eq_emod_of_nonneg (by omega)]; exact Int.emod_nonneg _ (by omega)
    · intro _; rw [Int.tmod_eq_emod_of_nonneg (by omega)]; exact Int.emod_lt_of_pos _ (by omega)

end Go.Proofs.Ytklmpagpkeffjaa
