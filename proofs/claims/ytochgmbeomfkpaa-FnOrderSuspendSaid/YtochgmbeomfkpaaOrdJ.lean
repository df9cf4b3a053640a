/- the closures of impl.OrderSuspend and impl.OrderRestart: a step that is told of -/
import Derived.Test.YtochgmbeomfkpaaFinJ
import Derived.Test.YtochgmbeomfkpaaStepN
import Derived.Test.YtochgmbeomfkpaaBuildI
import Derived.Deep.RegionLaw
namespace Go.Proofs.Ytochgmbeomfkpaa
open Go.RowKit

/-- Restarting tells each key that is tried; suspending each one that is done. -/
def emR : Int → Option Int → List Int := fun k _ => [k]
def emS : Int → Option Int → List Int := fun k x => if x = none then [k] else []


theorem NumRow.al {w : World} {b : Nat} {v : Value} {l : List Int} (h : NumRow w b v l) (o : Obj) : NumRow (w.alloc o) b v l := World.ownsRow.alloc h o
theorem NumRow.dr {w : World} {b : Nat} {v : Value} {l : List Int} (h : NumRow w b v l) : NumRow w.drew b v l := ElRow.drew (f := Value.int .i64) (e := 3) h

theorem gr_fr {w1 w2 : World} {row : Option Nat} (h : w1.grownBy w2 row) : Fr (fun b => row = some b) w1 w2 := ⟨h.os, h.tape, h.output, h.size, fun b hb hn => h.block b hb (fun e => hn e.symm)⟩
theorem ord_push {S : Nat → Prop} {s : Sh} {g n : Nat} {m : Nat → Nat → Value} {vv : Int → Int} {d : Int → Bool} {bx base : Nat} {w w0 w1 : World} {v u : Value} {tr : List Int} {k : Int} (hN : Nds w S s g n m vv d) (hO : OrdAt w bx base v tr) (hS : ∀ b, S b → b < g ∧ b ≠ bx) (hbx : bx < g) (hgb : g + n ≤ base)
    (hw : Below w.heap.size w w0) (hgr : w0.grownBy w1 v.ownBlock) (hown : NumRow w1 base u (tr ++ [k])) (hnew : ∀ b, u.ownBlock = some b → v.ownBlock = some b ∨ w0.heap.size ≤ b) :
    Nds (w1.setCell ⟨bx, 0, none⟩ u) S s g n m vv d ∧ OrdAt (w1.setCell ⟨bx, 0, none⟩ u) bx base u (tr ++ [k]) ∧ Fr (fun b => b = bx ∨ v.ownBlock = some b) w (w1.setCell ⟨bx, 0, none⟩ u) ∧ (∀ b, u.ownBlock = some b → v.ownBlock = some b ∨ w.heap.size ≤ b) := by
  have hvl := World.ownsRow.lt hO.2
  have hf0 : Fr (fun b => b = bx ∨ v.ownBlock = some b) w w1 := (Fr.of_below (D := fun b => b = bx ∨ v.ownBlock = some b) hw).trans (gr_fr hgr) (fun b hb => .inl (.inr hb))
  have hf : Fr (fun b => b = bx ∨ v.ownBlock = some b) w (w1.setCell ⟨bx, 0, none⟩ u) := hf0.set' ⟨bx, 0, none⟩ (.inl rfl) u
  refine ⟨hN.fr hf (fun b hb h => ?_), ⟨?_, ?_⟩, hf, fun b hb => (hnew b hb).imp id (fun h => Nat.le_trans hw.size h)⟩
  · rcases hb with hb | hb
    · rcases h with h | h
      · exact (hS b h).2 hb
      · omega
    · have := (hvl b hb).1
      rcases h with h | h
      · have := (hS b h).1; omega
      · omega
  · have hb : Blk w1 bx 26 #[v] := hO.1.fr ((Fr.of_below (D := fun b => v.ownBlock = some b) hw).trans (gr_fr hgr) (fun b hb => .inl hb)) (fun h => by have := (hvl bx h).1; omega)
    exact hb.set_ 0 u
  · exact ElRow.fr (f := Value.int .i64) (e := 3) hown (Fr.set' (D := fun b => b = bx) (Fr.of_below (Below.refl _ _)) ⟨bx, 0, none⟩ rfl u) (fun b hb => by omega)
theorem ord_keep {g n bx base : Nat} {w w' : World} {v : Value} {tr : List Int} (h : OrdAt w bx base v tr) (hf : Fr (ndB g n) w w') (hbx : bx < g) (hgb : g + n ≤ base) : OrdAt w' bx base v tr :=
  ⟨h.1.fr hf (fun hd => by have := hd.1; omega), ElRow.frO (f := Value.int .i64) (e := 3) h.2 hf (fun b hb hd => by have := (World.ownsRow.lt h.2 b hb).1; have := hd.2; omega)⟩

section
variable {S : Nat → Prop} {s : Sh} {g n : Nat} {cv : (Int → Bool) → Int → Int} {ch : Int → List Int} {d0 ok : Int → Bool} {bx base : Nat}

set_option maxHeartbeats 2000000 in
theorem suspend_step (hst : StepOk 52 S s g n cv ch d0 ok) (hS : ∀ b, S b → b < g ∧ b ≠ bx) (hbx : bx < g) (hgb : g + n ≤ base) : StepJ emS 51 #[.pointer (some ⟨bx, 0, none⟩)] S s g n cv ch d0 ok bx base where
  enters := enters_of Try.func51 (by kernel_rfl) rfl
  em1 := fun _ x => by unfold emS; split <;> simp
  call := by
    intro d w i v tr hi hd hlo hhi hN hO htl hbase
    have HC := Lib.hid (hst.call d w i hi hd hlo hhi hN)
    have HS := Lib.hid hS
    have HO := Lib.hid hO
    clear hst hS hlo hhi hN hO hd
    go_enter Try.func51, Try.ntmps51
    go_wp2_with fail
    refine HC.out.mono ?_
    rintro e w2 ⟨hf, hcase⟩
    have ho2 := ord_keep HO.out hf hbx hgb
    have hf2 : Fr (ojB g n bx v) w w2 := hf.weaken (fun b hb => .inl hb)
    have hs2 := hf.size
    have H2 := Lib.hid (And.intro ho2 hf2)
    clear ho2 hf2 hf HC
    rcases hcase with ⟨j, hnx, rfl, hnd⟩ | ⟨hnx, rfl, hnd⟩
    · have H4 := Lib.hid (And.intro hnx hnd)
      have hne : ndP g j = .pointer (some ⟨g + j.toNat, 0, none⟩) := rfl
      rw [hne]
      clear hnx hnd hne
      go_wp2_with fail
      go_ret
      refine ⟨v, ?_, fun _ h => .inl h, H2.out.2, .inl ⟨j, H4.out.1, rfl, H4.out.2⟩⟩
      have e : emS i (nxt ch d i) = [] := by rw [H4.out.1]; rfl
      rw [e, List.append_nil]
      exact H2.out.1
    · obtain ⟨_, _, hgi, z0, -, -, -, -, -, -, -, -⟩ := hnd.node hi
      have hbl : bx < w2.heap.size := H2.out.1.1.lt
      obtain ⟨y0, f0⟩ := H2.out.1.1.one
      have HVB := Lib.hid (show ∀ b, v.ownBlock = some b → b = bx → False from fun b hb e => by have := (World.ownsRow.lt H2.out.1.2 b hb).1; omega)
      have H4 := Lib.hid (And.intro hnx hnd)
      clear hnx hnd
      go_wp2_with fail
      go_region_law (
        (refine step_append_num rfl (.tmp 9) (.tmp 14) rfl base v tr rfl (by repeat (first | exact H2.out.1.2 | refine NumRow.dr ?_ | refine NumRow.al ?_ _)) ⟨w2.heap.size, 0, none⟩ (i : Int) rfl (news1 _ _ _ 0 _ rfl) (by omega) (by simp; omega) ?_
         intro v1 w1 hown1 hgr1 hnew1
         obtain ⟨gr, cap, rfl⟩ := own_some hown1 (by simp)
         have hb1 : Blk w1 bx 26 #[v] := (hgr1.block bx (by simp; omega) (by intro e; exact HVB.out bx e.symm rfl)).trans (by repeat (first | exact H2.out.1.1 | refine Blk.drew ?_ | refine Blk.alloc ?_ _))
         obtain ⟨y1, f1⟩ := hb1.one))
      all_goals
        rw [List.length_append, List.length_singleton] at hown1 hnew1
        have hp := ord_push H4.out.2 H2.out.1 HS.out hbx hgb (by repeat (first | exact Below.refl _ _ | refine Below.drew ?_ | refine Below.alloc ?_ (Nat.le_refl _) _)) hgr1 hown1 hnew1
        obtain ⟨W, hW⟩ : ∃ W, W = w1.setCell ⟨bx, 0, none⟩ (.slice (some ⟨gr, 0, none⟩) (tr.length + 1) cap) := ⟨_, rfl⟩
        rw [← hW] at hp ⊢
        have HP := Lib.hid hp
        clear hp hW hown1 hgr1 hnew1 hb1 y1 f1 y0 f0 z0
        go_wp2_with fail
        go_ret
        have e : emS i (nxt ch d i) = [(i : Int)] := by rw [H4.out.1]; rfl
        refine ⟨_, by rw [e]; exact HP.out.2.1, fun b hb => (HP.out.2.2.2 b hb).imp id (fun h => by omega), H2.out.2.trans HP.out.2.2.1 (fun b hb => .inl (.inr hb)), .inr ⟨H4.out.1, rfl, HP.out.1⟩⟩
end
end Go.Proofs.Ytochgmbeomfkpaa
