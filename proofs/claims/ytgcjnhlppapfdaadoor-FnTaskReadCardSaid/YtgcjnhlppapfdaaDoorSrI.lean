/- spec.l1Rd: next, number -/
import Derived.Test.YtgcjnhlppapfdaaDoorRdS
namespace Go.Proofs.YtgcjnhlppapfdaaDoor
open Go.RowKit Go.Lib

/-- The model's reader at g stands at p in s; bad or not. -/
def SrAt (w : World) (g : Nat) (s : ByteArray) (p : Nat) (b : Bool) : Prop := Blk w g 47 #[.string s, .int .i64 p, .bool b]
theorem SrAt.lt {w : World} {g p : Nat} {s : ByteArray} {b : Bool} (h : SrAt w g s p b) : g < w.heap.size := Blk.lt h
theorem SrAt.drewN {w : World} {g p : Nat} {s : ByteArray} {b : Bool} (h : SrAt w g s p b) (n : Nat) : SrAt (w.drewN n) g s p b := h
theorem SrAt.set_at {w : World} {g p : Nat} {s : ByteArray} {b : Bool} (h : SrAt w g s p b) (q : Nat) : SrAt (w.setCell ⟨g, 1, none⟩ (.int .i64 q)) g s q b := by
  have := Blk.set_ h 1 (.int .i64 q)
  simpa [SrAt] using this
theorem SrAt.set_bad {w : World} {g p : Nat} {s : ByteArray} {b : Bool} (h : SrAt w g s p b) (b' : Bool) : SrAt (w.setCell ⟨g, 2, none⟩ (.bool b')) g s p b' := by
  have := Blk.set_ h 2 (.bool b')
  simpa [SrAt] using this
def posS (w : World) (g : Nat) : Nat := match w.cell? ⟨g, 1, none⟩ with | some v => (intOf v).toNat | none => 0
theorem SrAt.pos {w : World} {g p : Nat} {s : ByteArray} {b : Bool} (h : SrAt w g s p b) : posS w g = p := by
  unfold posS
  rw [(Blk.three h).2.1]
  simp [intOf]

/-- next, where the byte stands. -/
theorem next_yes (w : World) (g p : Nat) (s : ByteArray) (b : Bool) (c : Nat) (h : SrAt w g s p b) (hp : at_ s p = c) (hc : c < 256) (hs : s.size ≤ 1048576) :
    Calls Tryd.prog 33 #[.pointer (some ⟨g, 0, none⟩), .int .u8 c] w fun e w' => e = .returned (.bool true) ∧ SrAt w' g s (p + 1) b ∧ Only g w w' := by
  have H := Lib.hid h
  have hlt := at_some hp hc
  have hge : s[p].toNat = c := (at_lt hlt).trans hp
  have htt : decide ((p : Int) < (s.size : Int)) = true := by simp; omega
  have hcc : ((c : Int) == (c : Int)) = true := by simp
  obtain ⟨x0, x1, x2, f0, f1, f2⟩ := Blk.three h
  clear h hp
  go_enter Tryd.func33, Tryd.ntmps33
  go_wp2_with fail
  go_quiet (fail)
  go_wp2_with fail
  go_ret
  have hR := (H.out.drewN nq).set_at (p + 1)
  rw [show (((p + 1 : Nat) : Int)) = (p : Int) + 1 by omega] at hR
  exact ⟨rfl, hR, ((Only.refl g w).drewN nq).set (.inl rfl) _⟩

/-- next, where another byte or none stands. -/
theorem next_no (w : World) (g p : Nat) (s : ByteArray) (b : Bool) (c : Nat) (h : SrAt w g s p b) (hp : at_ s p ≠ c) (hps : p ≤ s.size) :
    Calls Tryd.prog 33 #[.pointer (some ⟨g, 0, none⟩), .int .u8 c] w fun e w' => e = .returned (.bool false) ∧ SrAt w' g s p b ∧ Only g w w' := by
  have H := Lib.hid h
  obtain ⟨x0, x1, x2, f0, f1, f2⟩ := Blk.three h
  by_cases hlt : p < s.size
  · obtain ⟨d, hd⟩ : ∃ d, d = at_ s p := ⟨_, rfl⟩
    have hge : s[p].toNat = d := (at_lt hlt).trans hd.symm
    have htt : decide ((p : Int) < (s.size : Int)) = true := by simp; omega
    have hcc : ((d : Int) == (c : Int)) = false := by rw [hd]; simp; omega
    clear h hp hd
    go_enter Tryd.func33, Tryd.ntmps33
    go_wp2_with fail
    go_quiet (fail)
    go_wp2_with fail
    go_ret
    exact ⟨rfl, H.out.drewN nq, (Only.refl g w).drewN nq⟩
  · have htt : decide ((p : Int) < (s.size : Int)) = false := by simp; omega
    clear h hp
    go_enter Tryd.func33, Tryd.ntmps33
    go_wp2_with fail
    go_quiet (fail)
    go_wp2_with fail
    go_ret
    exact ⟨rfl, H.out.drewN nq, (Only.refl g w).drewN nq⟩

def NumSPost (w : World) (g : Nat) (s : ByteArray) (p : Nat) (r : Option (Nat × Nat)) (e : Ending) (w' : World) : Prop :=
  Only g w w' ∧ match r with
    | some (v, d) => e = .returned (.int .i64 v) ∧ SrAt w' g s (p + d) false ∧ p + d ≤ s.size ∧ v ≤ 999
    | none => (∃ v : Nat, e = .returned (.int .i64 v) ∧ v ≤ 999) ∧ ∃ q, q ≤ s.size ∧ SrAt w' g s q true
theorem numSPost_none {w w' : World} {g p q v : Nat} {s : ByteArray} {r : Option (Nat × Nat)} {e : Ending} (hr : r = none) (ho : Only g w w') (hR : SrAt w' g s q true) (hq : q ≤ s.size) (he : e = .returned (.int .i64 v)) (hv : v ≤ 999) :
    NumSPost w g s p r e w' := by subst hr; exact ⟨ho, ⟨v, he, hv⟩, q, hq, hR⟩
theorem numSPost_some {w w' : World} {g p v d q : Nat} {s : ByteArray} {r : Option (Nat × Nat)} {e : Ending} (hr : r = some (v, d)) (hq : q = p + d) (hqs : q ≤ s.size) (ho : Only g w w') (hR : SrAt w' g s q false) (he : e = .returned (.int .i64 v)) (hv : v ≤ 999) :
    NumSPost w g s p r e w' := by subst hr hq; exact ⟨ho, he, hR, hqs, hv⟩

/-- Where the loop of number stands: k digits read, their value. -/
def SumS (s : ByteArray) (p k v : Nat) : Prop := k ≤ 3 ∧ p + k ≤ s.size ∧ (∀ i, i < k → isD (at_ s (p + i)) = true) ∧
  ((k = 0 ∧ v = 0) ∨ (k = 1 ∧ v = at_ s p - 48) ∨ (k = 2 ∧ v = 10 * (at_ s p - 48) + (at_ s (p + 1) - 48)) ∨ (k = 3 ∧ v = 100 * (at_ s p - 48) + 10 * (at_ s (p + 1) - 48) + (at_ s (p + 2) - 48)))
theorem SumS.le {s : ByteArray} {p k v : Nat} (h : SumS s p k v) : v ≤ 999 ∧ (k < 3 → v ≤ 99) := by
  obtain ⟨_, _, hd, h⟩ := h
  rcases h with ⟨rfl, rfl⟩ | ⟨rfl, rfl⟩ | ⟨rfl, rfl⟩ | ⟨rfl, rfl⟩
  · omega
  · have := isD_val (hd 0 (by omega)); simp only [Nat.add_zero] at this; omega
  · have := isD_val (hd 0 (by omega)); have := isD_val (hd 1 (by omega)); simp only [Nat.add_zero] at *; omega
  · have := isD_val (hd 0 (by omega)); have := isD_val (hd 1 (by omega)); have := isD_val (hd 2 (by omega)); simp only [Nat.add_zero] at *; omega
theorem SumS.step {s : ByteArray} {p k v : Nat} (h : SumS s p k v) (hk : k < 3) (hd : isD (at_ s (p + k)) = true) : SumS s p (k + 1) (v * 10 + (at_ s (p + k) - 48)) := by
  obtain ⟨_, _, h2, h⟩ := h
  refine ⟨by omega, by have := isD_lt hd; omega, fun i hi => ?_, ?_⟩
  · rcases (show i < k ∨ i = k by omega) with hi | rfl
    · exact h2 i hi
    · exact hd
  · rcases h with ⟨rfl, rfl⟩ | ⟨rfl, rfl⟩ | ⟨rfl, rfl⟩ | ⟨rfl, rfl⟩
    · simp
    · simp; omega
    · simp; omega
    · omega
/-- What has been read when no digit follows, or three are read. -/
theorem SumS.done {s : ByteArray} {p k v : Nat} (h : SumS s p k v) (he : k = 3 ∨ isD (at_ s (p + k)) = false) :
    numS s p = if k = 0 then none else if 1 < k ∧ at_ s p = 48 then none else some (v, k) := by
  obtain ⟨_, _, hd, h⟩ := h
  unfold numS
  rcases h with ⟨rfl, rfl⟩ | ⟨rfl, rfl⟩ | ⟨rfl, rfl⟩ | ⟨rfl, rfl⟩
  · rcases he with he | he
    · omega
    · simp only [Nat.add_zero] at he; simp [he]
  · have h0 := hd 0 (by omega)
    rcases he with he | he
    · omega
    · simp only [Nat.add_zero] at h0; simp [h0, he]
  · have h0 := hd 0 (by omega)
    have h1 := hd 1 (by omega)
    rcases he with he | he
    · omega
    · simp only [Nat.add_zero] at h0; simp [h0, h1, he]
  · have h0 := hd 0 (by omega)
    have h1 := hd 1 (by omega)
    have h2 := hd 2 (by omega)
    simp only [Nat.add_zero] at h0; simp [h0, h1, h2]
end Go.Proofs.YtgcjnhlppapfdaaDoor
