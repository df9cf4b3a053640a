/- impl.putSorted -/
import Derived.Test.YtochgmbeomfkpaaInsT
import Derived.Test.YtochgmbeomfkpaaTopP
import Derived.Shelf.Slices.Empties
import Derived.WalkSpells
namespace Go.Proofs.Ytochgmbeomfkpaa
open Go.RowKit

def PutPost (base : Nat) (v : Value) (l : List Int) (k : Int) (w : World) (e : Ending) (w' : World) : Prop := ∃ v', e = .returned v' ∧ InB w' base v' (insT l k) ∧ Fr (AtV v) w w' ∧ ∀ y, AtV v' y → AtV v y ∨ w.heap.size ≤ y

set_option maxRecDepth 100000 in
set_option maxHeartbeats 1500000 in
/-- impl.putSorted -/
theorem putSorted_any (w : World) (base : Nat) (v : Value) (l : List Int) (k : Int) (h : InB w base v l) (hasc : l.Pairwise (· < ·)) (hl : l.length ≤ 1000) (hbase : base ≤ w.heap.size) :
    Calls Try.prog 67 #[v, .int .i64 k] w (PutPost base v l k w) := by
  obtain ⟨i, hi⟩ : ∃ i, i = l.countP (fun x => decide (x < k)) := ⟨_, rfl⟩
  have hin : i ≤ l.length := by rw [hi]; exact List.countP_le_length
  have hE := insT_eq (k := k) hasc
  rw [← hi] at hE
  have HE := Lib.hid hE
  obtain ⟨p, hs⟩ : ∃ p : Bool, (Calls Try.prog 85 #[v, .int .i64 k] w fun e w' => e = .returned (.tuple #[.int .i64 (i : Int), .bool p]) ∧ ∃ q, w' = w.drewN q) := by
    rcases h with ⟨rfl, rfl⟩ | ⟨g, o, c, cs, rfl, hg, hblk, hsz, hlc, hcm, hcs⟩
    · refine ⟨false, (Any.slices_BinarySearch_int_empty laysSearch none 0 k w).mono ?_⟩
      rintro e w' ⟨rfl, rfl⟩
      exact ⟨by rw [hi]; rfl, 0, rfl⟩
    · refine ⟨l.contains k, (Any.slices_BinarySearch_int laysSearch g o l.length c l k w (Nat.le_refl _) (by omega) (fun j hj => by rw [hblk.cell, hcs j hj, getD_len hj]) (by rw [List.take_length]; exact hasc.imp (fun h => Int.le_of_lt h))).mono ?_⟩
      rw [List.take_length, ← hi]
      exact fun e w' h => h
  have HS := Lib.hid hs
  clear hs
  have hv : ∀ a n c, v = .slice (some a) n c → a.block < w.heap.size := fun a n c hv => by
    rcases h with ⟨rfl, rfl⟩ | ⟨g, o, c, cs, rfl, hg, hblk, hsz, hlc, hcm, hcs⟩
    · cases hv
    · cases hv; exact hblk.lt
  have HI := Lib.hid (show ∀ q : Nat, Calls Try.prog 86 #[v, .int .i64 (i : Int), .slice (some ⟨w.heap.size, 0, none⟩) 1 1] ((w.alloc (.cells #[.int .i64 k] 3)).drewN q) (fun e w' => ∃ v', e = .returned v' ∧ InB w' base v' (insT l k) ∧ Fr (AtV v) w w' ∧ ∀ y, AtV v' y → AtV v y ∨ w.heap.size ≤ y) from fun q => by
    have hb0 : Below w.heap.size w ((w.alloc (.cells #[.int .i64 k] 3)).drewN q) := below_drewN ((Below.refl _ _).alloc (Nat.le_refl _) _) q
    refine (insert_any ((w.alloc (.cells #[.int .i64 k] 3)).drewN q) base v l k i w.heap.size (h.below hb0) hin hl (Nat.le_trans hbase hb0.size) (Blk.new w 3 #[.int .i64 k]) ?_).mono ?_
    · rintro ⟨a, n, c, rfl, ha⟩
      have := hv a n c rfl
      omega
    · rintro e w' ⟨v', rfl, h1, h2, h3⟩
      rw [← HE.out] at h1
      exact ⟨v', rfl, h1, (Fr.of_below hb0).two h2, fun y hy => (h3 y hy).imp id (fun h => Nat.le_trans hb0.size h)⟩)
  clear h hasc hi hE hv
  go_enter Try.func67, Try.ntmps67
  go_wp2_with fail
  refine HS.out.mono ?_
  rintro e w1 ⟨rfl, q, rfl⟩
  go_wp2_with fail
  refine (HI.out q).mono ?_
  rintro e w2 ⟨v', rfl, h1, h2, h3⟩
  have H := Lib.hid (And.intro h1 (And.intro h2 h3))
  clear h1 h2 h3
  go_wp2_with fail
  go_ret
  exact ⟨v', rfl, H.out.1, H.out.2.1, H.out.2.2⟩
end Go.Proofs.Ytochgmbeomfkpaa
