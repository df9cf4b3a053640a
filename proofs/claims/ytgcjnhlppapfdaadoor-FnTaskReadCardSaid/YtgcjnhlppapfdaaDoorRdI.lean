/- impl.taskReader: take, number -/
import Derived.Test.YtgcjnhlppapfdaaDoorTextI
import Derived.Test.YtgcjnhlppapfdaaDoorDraw0
import Derived.BigQuiet
import Derived.Deep.QuietTactic
namespace Go.Proofs.YtgcjnhlppapfdaaDoor
open Go.RowKit Go.Lib

/-- The reader at g stands at p in s, and has so many nodes left. -/
def RrAt (w : World) (g : Nat) (s : ByteArray) (p left : Nat) : Prop := Blk w g 39 #[.string s, .int .i64 p, .int .i64 left]

theorem RrAt.lt {w : World} {g p left : Nat} {s : ByteArray} (h : RrAt w g s p left) : g < w.heap.size := Blk.lt h
theorem RrAt.drewN {w : World} {g p left : Nat} {s : ByteArray} (h : RrAt w g s p left) (n : Nat) : RrAt (w.drewN n) g s p left := h
theorem RrAt.set_at {w : World} {g p left : Nat} {s : ByteArray} (h : RrAt w g s p left) (q : Nat) : RrAt (w.setCell ⟨g, 1, none⟩ (.int .i64 q)) g s q left := by
  have := Blk.set_ h 1 (.int .i64 q)
  simpa [RrAt] using this

/-- What a step of the reader leaves: only the reader has changed. -/
def Step (w : World) (g : Nat) (w' : World) : Prop := Only g w w'

/-- take, where a byte comes. -/
theorem take_some (w : World) (g p left : Nat) (s : ByteArray) (c : UInt8) (h : RrAt w g s p left) (hp : p < s.size) (hc : s[p] = c) (hs : s.size ≤ 1048576) :
    Calls Tryd.prog 39 #[.pointer (some ⟨g, 0, none⟩)] w fun e w' => e = .returned (.int .u8 c.toNat) ∧ RrAt w' g s (p + 1) left ∧ Only g w w' := by
  have H := Lib.hid h
  have hne : ((p : Int) == (s.size : Int)) = false := by simp; omega
  obtain ⟨x0, x1, x2, f0, f1, f2⟩ := Blk.three h
  clear h
  go_enter Tryd.func39, Tryd.ntmps39
  go_wp2_with fail
  go_quiet (fail)
  go_wp2_with fail
  rw [show ((p : Int) + 1) = ((p + 1 : Nat) : Int) by omega]
  obtain ⟨W, hW⟩ : ∃ W, W = (w.drewN nq).setCell ⟨g, 1, none⟩ (.int .i64 ((p + 1 : Nat) : Int)) := ⟨_, rfl⟩
  have HR := Lib.hid (show RrAt W g s (p + 1) left by rw [hW]; exact (H.out.drewN nq).set_at (p + 1))
  have HO := Lib.hid (show Only g w W by rw [hW]; exact ((Only.refl g w).drewN nq).set (.inl rfl) _)
  rw [← hW]
  clear hW x0 x1 x2 f0 f1 f2 hne
  obtain ⟨x0, x1, x2, f0, f1, f2⟩ := Blk.three HR.out
  go_quiet (fail)
  go_wp2_with fail
  go_ret
  exact ⟨by first | rfl | simp [hc], by simpa using HR.out.drewN _, HO.out.drewN _⟩

/-- take, at the end. -/
theorem take_none (w : World) (g left : Nat) (s : ByteArray) (h : RrAt w g s s.size left) (_hs : s.size ≤ 1048576) :
    Calls Tryd.prog 39 #[.pointer (some ⟨g, 0, none⟩)] w fun e w' => e = .returned (.int .u8 0) ∧ RrAt w' g s s.size left ∧ Only g w w' := by
  have H := Lib.hid h
  obtain ⟨n, hn⟩ : ∃ n, n = s.size := ⟨_, rfl⟩
  obtain ⟨x0, x1, x2, f0, f1, f2⟩ := Blk.three h
  clear h
  go_enter Tryd.func39, Tryd.ntmps39
  go_wp2_with fail
  go_quiet (fail)
  go_wp2_with fail
  go_ret
  exact ⟨rfl, H.out.drewN _, (Only.refl g w).drewN _⟩

/-- One byte of s, as a number; 256 behind the end. -/
def at_ (s : ByteArray) (i : Nat) : Nat := if h : i < s.size then (s[i]'h).toNat else 256
theorem at_lt {s : ByteArray} {i : Nat} (h : i < s.size) : ((s[i]'h).toNat) = at_ s i := by simp [at_, h]
def isD (c : Nat) : Bool := decide (48 ≤ c ∧ c ≤ 57)

/-- The number that number reads at i: its value and how many digits. -/
def numAt (s : ByteArray) (i top : Nat) : Option (Nat × Nat) :=
  if isD (at_ s i) = true then
    if isD (at_ s (i + 1)) = true then
      if at_ s i = 48 then none
      else if isD (at_ s (i + 2)) = true then none
      else if 10 * (at_ s i - 48) + (at_ s (i + 1) - 48) ≤ top then some (10 * (at_ s i - 48) + (at_ s (i + 1) - 48), 2) else none
    else if at_ s i - 48 ≤ top then some (at_ s i - 48, 1) else none
  else none

def NumPost (w : World) (g : Nat) (s : ByteArray) (p left : Nat) (r : Option (Nat × Nat)) (e : Ending) (w' : World) : Prop :=
  Only g w w' ∧ match r with
    | some (v, d) => e = .returned (.tuple #[.int .i64 v, .bool true]) ∧ RrAt w' g s (p + d) left
    | none => (∃ v : Int, e = .returned (.tuple #[.int .i64 v, .bool false])) ∧ ∃ q, RrAt w' g s q left

theorem wrap_u8 {c : Nat} (h : 48 ≤ c) (h2 : c ≤ 300) : IntKind.u8.wrap ((c : Int) - 48) = (c : Int) - 48 := by
  obtain ⟨d, rfl⟩ : ∃ d, c = 48 + d := ⟨c - 48, by omega⟩
  have hd : d ≤ 252 := by omega
  rw [show (((48 + d : Nat) : Int) - 48) = (d : Int) by omega]
  simp [IntKind.wrap, IntKind.bits, IntKind.signed]
  omega

theorem numAt_no {s : ByteArray} {p : Nat} (top : Nat) (h : isD (at_ s p) = false) : numAt s p top = none := by simp [numAt, h]
theorem numAt_big {s : ByteArray} {p top : Nat} (h : isD (at_ s p) = true) (h2 : top < at_ s p - 48) : numAt s p top = none := by
  unfold numAt
  rw [if_pos h]
  split
  · split
    · rfl
    · split
      · rfl
      · rw [if_neg (by omega)]
  · rw [if_neg (by omega)]
theorem numAt_zero {s : ByteArray} {p : Nat} (top : Nat) (h : isD (at_ s p) = true) (h1 : isD (at_ s (p + 1)) = true) (h2 : at_ s p = 48) : numAt s p top = none := by
  unfold numAt
  rw [if_pos h, if_pos h1, if_pos h2]
theorem numAt_big2 {s : ByteArray} {p top : Nat} (h : isD (at_ s p) = true) (h1 : isD (at_ s (p + 1)) = true) (h2 : top < 10 * (at_ s p - 48) + (at_ s (p + 1) - 48)) : numAt s p top = none := by
  unfold numAt
  rw [if_pos h, if_pos h1, if_neg (show ¬ 10 * (at_ s p - 48) + (at_ s (p + 1) - 48) ≤ top by omega)]
  split
  · rfl
  · split <;> rfl
theorem numAt_three {s : ByteArray} {p : Nat} (top : Nat) (h : isD (at_ s p) = true) (h1 : isD (at_ s (p + 1)) = true) (h2 : isD (at_ s (p + 2)) = true) : numAt s p top = none := by
  unfold numAt
  rw [if_pos h, if_pos h1, if_pos h2]
  split <;> rfl
theorem numAt_one {s : ByteArray} {p top : Nat} (h : isD (at_ s p) = true) (h1 : isD (at_ s (p + 1)) = false) (h2 : at_ s p - 48 ≤ top) : numAt s p top = some (at_ s p - 48, 1) := by
  unfold numAt
  rw [if_pos h, if_neg (by rw [h1]; decide), if_pos h2]
theorem numAt_two {s : ByteArray} {p top : Nat} (h : isD (at_ s p) = true) (h1 : isD (at_ s (p + 1)) = true) (h0 : at_ s p ≠ 48) (h3 : isD (at_ s (p + 2)) = false)
    (h2 : 10 * (at_ s p - 48) + (at_ s (p + 1) - 48) ≤ top) : numAt s p top = some (10 * (at_ s p - 48) + (at_ s (p + 1) - 48), 2) := by
  unfold numAt
  rw [if_pos h, if_pos h1, if_neg h0, if_neg (by rw [h3]; decide), if_pos h2]

/-- Where the reader stands. -/
def posOf (w : World) (g : Nat) : Nat := match w.cell? ⟨g, 1, none⟩ with | some v => (intOf v).toNat | none => 0
theorem RrAt.pos {w : World} {g p left : Nat} {s : ByteArray} (h : RrAt w g s p left) : posOf w g = p := by
  unfold posOf
  rw [(Blk.three h).2.1]
  simp [intOf]

theorem numPost_none {w w' : World} {g p left : Nat} {s : ByteArray} {r : Option (Nat × Nat)} {v : Int} {e : Ending} {q : Nat} (hr : r = none) (ho : Only g w w') (hR : RrAt w' g s q left) (he : e = .returned (.tuple #[.int .i64 v, .bool false])) :
    NumPost w g s p left r e w' := by subst hr; exact ⟨ho, ⟨v, he⟩, q, hR⟩
theorem numPost_some {w w' : World} {g p left v d q : Nat} {s : ByteArray} {r : Option (Nat × Nat)} {e : Ending} (hr : r = some (v, d)) (hq : q = p + d) (ho : Only g w w') (hR : RrAt w' g s q left) (he : e = .returned (.tuple #[.int .i64 v, .bool true])) :
    NumPost w g s p left r e w' := by subst hr hq; exact ⟨ho, he, hR⟩

set_option maxHeartbeats 2000000 in
theorem number_any (w : World) (g p left top : Nat) (s : ByteArray) (h : RrAt w g s p left) (hp : p ≤ s.size) (hs : s.size ≤ 1048576) (ht : top ≤ 96) :
    Calls Tryd.prog 31 #[.pointer (some ⟨g, 0, none⟩), .int .i64 top] w (NumPost w g s p left (numAt s p top)) := by
  have H := Lib.hid h
  obtain ⟨x0, x1, x2, f0, f1, f2⟩ := Blk.three h
  clear h
  go_enter Tryd.func31, Tryd.ntmps31
  go_wp2_with fail
  clear x0 x1 x2 f0 f1 f2
  go_loopw [7] (fun n wr => ∃ k v : Nat, n = .int .i64 v ∧ k ≤ 2 ∧ p + k ≤ s.size ∧ RrAt wr g s (p + k) left ∧ Only g w wr ∧ (k = 0 → v = 0) ∧ (k = 1 → isD (at_ s p) = true ∧ v = at_ s p - 48 ∧ v ≤ top) ∧
    (k = 2 → isD (at_ s p) = true ∧ isD (at_ s (p + 1)) = true ∧ at_ s p ≠ 48 ∧ v = 10 * (at_ s p - 48) + (at_ s (p + 1) - 48) ∧ v ≤ top)) (fun n wr => s.size - posOf wr g)
  case atStart => exact ⟨0, 0, rfl, by omega, by omega, H.out, Only.refl g w, by simp, by omega, by omega⟩
  case round =>
    obtain ⟨k, v, rfl, hk, hpk, hr, ho, h0, h1, h2⟩ := hrel
    obtain ⟨q, hq⟩ : ∃ q, q = p + k := ⟨_, rfl⟩
    rw [← hq] at hpk hr
    have HR := Lib.hid hr
    have HO := Lib.hid ho
    have HI := Lib.hid (And.intro h0 (And.intro h1 h2))
    have HQ := Lib.hid hq
    have HP := Lib.hid hr.pos
    have hv96 : v ≤ 96 := by
      rcases (show k = 0 ∨ k = 1 ∨ k = 2 by omega) with hk | hk | hk
      · have := h0 hk; omega
      · have := h1 hk; omega
      · have := h2 hk; omega
    obtain ⟨x0, x1, x2, f0, f1, f2⟩ := Blk.three hr
    clear hr ho h0 h1 h2 hq
    by_cases hdig : q < s.size ∧ isD (at_ s q) = true
    · obtain ⟨he, hd⟩ := hdig
      have hge : s[q].toNat = at_ s q := at_lt he
      have htt : decide ((q : Int) < (s.size : Int)) = true := by simp; omega
      obtain ⟨c, hc⟩ : ∃ c, c = at_ s q := ⟨_, rfl⟩
      rw [← hc] at hge hd
      have HC := Lib.hid hc
      clear hc
      have hcd : 48 ≤ c ∧ c ≤ 57 := by simpa [isD] using hd
      have HD := Lib.hid hd
      clear hd
      have h48 : decide ((48 : Int) ≤ (c : Int)) = true := by simp; omega
      have h57 : decide ((c : Int) ≤ 57) = true := by simp; omega
      have W0 : IntKind.u8.wrap ((c : Int) - 48) = (c : Int) - 48 := wrap_u8 hcd.1 (by omega)
      by_cases hk0 : k = 0
      · obtain rfl : v = 0 := HI.out.1 hk0
        obtain rfl : q = p := by have := HQ.out; omega
        by_cases htp : c - 48 ≤ top
        · have hle : decide ((top : Int) < (c : Int) - 48) = false := by simp; omega
          go_wp2_with fail
          go_quiet (fail)
          revert nq
          intro n1
          go_wp2_with fail
          go_quiet (fail)
          revert nq
          intro n2
          go_wp2_with fail
          have hR1 := (HR.out.drewN (n1 + n2)).set_at (q + 1)
          rw [show (((q + 1 : Nat) : Int)) = (q : Int) + 1 by omega] at hR1
          refine ⟨⟨1, c - 48, congrArg (Value.int .i64) (by omega), by omega, by omega, hR1, (HO.out.drewN _).set (.inl rfl) _, by omega, fun _ => ⟨by rw [← HC.out]; exact HD.out, by rw [← HC.out], htp⟩, by omega⟩, ?_⟩
          rw [hR1.pos, HP.out]
          omega
        · have hle : decide ((top : Int) < (c : Int) - 48) = true := by simp; omega
          go_wp2_with fail
          go_quiet (fail)
          revert nq
          intro n1
          go_wp2_with fail
          go_quiet (fail)
          revert nq
          intro n2
          go_wp2_with fail
          go_ret2
          exact numPost_none (v := 0) (numAt_big (by rw [← HC.out]; exact HD.out) (by rw [← HC.out]; omega)) (HO.out.drewN _) (HR.out.drewN _) rfl
      have hlt : p < q := by have := HQ.out; omega
      have hltd : decide (p < q) = true := by simpa using hlt
      have hlti : decide ((p : Int) < (q : Int)) = true := by simpa using hlt
      by_cases hk1 : k = 1
      · have hv1 := HI.out.2.1 hk1
        have HV1 := Lib.hid hv1
        clear hv1
        by_cases hv0 : v = 0
        · subst hv0
          go_wp2_with fail
          go_quiet (fail)
          revert nq
          intro n1
          go_wp2_with fail
          go_ret2
          refine numPost_none (v := 0) (numAt_zero top HV1.out.1 ?_ (by have := HV1.out.2.1; have h := HV1.out.1; simp [isD] at h; omega)) (HO.out.drewN _) (HR.out.drewN _) rfl
          rw [show p + 1 = q by have := HQ.out; omega, ← HC.out]
          exact HD.out
        · have hv0' : ((v : Int) == 0) = false := by simpa using hv0
          by_cases htp : v * 10 + (c - 48) ≤ top
          · have hle : decide ((top : Int) < (v : Int) * 10 + ((c : Int) - 48)) = false := by simp; omega
            go_wp2_with fail
            go_quiet (fail)
            revert nq
            intro n1
            go_wp2_with fail
            go_quiet (fail)
            revert nq
            intro n2
            go_wp2_with fail
            have hR1 := (HR.out.drewN (n1 + n2)).set_at (q + 1)
            rw [show (((q + 1 : Nat) : Int)) = (q : Int) + 1 by omega] at hR1
            refine ⟨⟨2, v * 10 + (c - 48), congrArg (Value.int .i64) (by omega), by omega, by have := HQ.out; omega, ?_, (HO.out.drewN _).set (.inl rfl) _, by omega, by omega, fun _ => ?_⟩, ?_⟩
            · rw [show p + 2 = q + 1 by have := HQ.out; omega]; exact hR1
            · have hp1 : p + 1 = q := by have := HQ.out; omega
              rw [hp1, ← HC.out]
              refine ⟨HV1.out.1, HD.out, ?_, ?_, htp⟩
              · have := HV1.out.2.1; omega
              · have := HV1.out.2.1; omega
            · rw [hR1.pos, HP.out]
              omega
          · have hle : decide ((top : Int) < (v : Int) * 10 + ((c : Int) - 48)) = true := by simp; omega
            go_wp2_with fail
            go_quiet (fail)
            revert nq
            intro n1
            go_wp2_with fail
            go_quiet (fail)
            revert nq
            intro n2
            go_wp2_with fail
            go_ret2
            have hp1 : p + 1 = q := by have := HQ.out; omega
            refine numPost_none (v := 0) (numAt_big2 HV1.out.1 ?_ ?_) (HO.out.drewN _) (HR.out.drewN _) rfl
            · rw [hp1, ← HC.out]; exact HD.out
            · rw [hp1, ← HC.out]; have := HV1.out.2.1; omega
      · have hk2 : k = 2 := by omega
        have hv2 := HI.out.2.2 hk2
        have hv10 : 10 ≤ v := by
          obtain ⟨a1, a2, a3, a4, _⟩ := hv2
          simp [isD] at a1
          omega
        have HV2 := Lib.hid hv2
        clear hv2
        have hv0' : ((v : Int) == 0) = false := by simp; omega
        have hle : decide ((top : Int) < (v : Int) * 10 + ((c : Int) - 48)) = true := by simp; omega
        go_wp2_with fail
        go_quiet (fail)
        revert nq
        intro n1
        go_wp2_with fail
        go_quiet (fail)
        revert nq
        intro n2
        go_wp2_with fail
        go_ret2
        refine numPost_none (v := 0) (numAt_three top HV2.out.1 HV2.out.2.1 ?_) (HO.out.drewN _) (HR.out.drewN _) rfl
        rw [show p + 2 = q by have := HQ.out; omega, ← HC.out]
        exact HD.out
    · have hnd : isD (at_ s q) = false := by
        by_cases he : q < s.size
        · cases hx : isD (at_ s q)
          · rfl
          · exact absurd ⟨he, hx⟩ hdig
        · simp [at_, he, isD]
      have HND := Lib.hid hnd
      have hend : ∀ e w', Only g w w' → RrAt w' g s q left → e = .returned (.tuple #[.int .i64 v, .bool (decide (p < q))]) → NumPost w g s p left (numAt s p top) e w' := by
        intro e w' h1 h2 h3
        have hq := HQ.out
        rcases (show k = 0 ∨ k = 1 ∨ k = 2 by omega) with hk | hk | hk
        · obtain rfl : q = p := by omega
          exact numPost_none (numAt_no top HND.out) h1 h2 (by simpa using h3)
        · obtain ⟨a1, a2, a3⟩ := HI.out.2.1 hk
          subst a2
          refine numPost_some (numAt_one a1 (by rw [show p + 1 = q by omega]; exact HND.out) a3) (by omega) h1 h2 ?_
          rw [h3, decide_eq_true (by omega : p < q)]
        · obtain ⟨a1, a2, a3, a4, a5⟩ := HI.out.2.2 hk
          subst a4
          refine numPost_some (numAt_two a1 a2 a3 (by rw [show p + 2 = q by omega]; exact HND.out) a5) (by omega) h1 h2 ?_
          rw [h3, decide_eq_true (by omega : p < q)]
      have HE := Lib.hid hend
      clear hend hdig hnd
      by_cases he : q < s.size
      · have hge : s[q].toNat = at_ s q := at_lt he
        have htt : decide ((q : Int) < (s.size : Int)) = true := by simp; omega
        obtain ⟨c, hc⟩ : ∃ c, c = at_ s q := ⟨_, rfl⟩
        rw [← hc] at hge
        have hd : isD c = false := by rw [hc]; exact HND.out
        clear hc
        by_cases h48 : 48 ≤ c
        · have h57 : decide ((c : Int) ≤ 57) = false := by simp [isD] at hd ⊢; omega
          have h48' : decide ((48 : Int) ≤ (c : Int)) = true := by simp; omega
          clear hd
          go_wp2_with fail
          go_quiet (fail)
          revert nq
          intro n1
          go_wp2_with fail
          go_quiet (fail)
          revert nq
          intro n2
          go_wp2_with fail
          go_ret2
          exact HE.out _ _ ((HO.out.drewN _).drewN _) ((HR.out.drewN _).drewN _) rfl
        · have h48' : decide ((48 : Int) ≤ (c : Int)) = false := by simp; omega
          clear hd
          go_wp2_with fail
          go_quiet (fail)
          revert nq
          intro n1
          go_wp2_with fail
          go_quiet (fail)
          revert nq
          intro n2
          go_wp2_with fail
          go_ret2
          exact HE.out _ _ ((HO.out.drewN _).drewN _) ((HR.out.drewN _).drewN _) rfl
      · have hlt : decide ((q : Int) < (s.size : Int)) = false := by simp; omega
        go_wp2_with fail
        go_quiet (fail)
        revert nq
        intro n1
        go_wp2_with fail
        go_quiet (fail)
        revert nq
        intro n2
        go_wp2_with fail
        go_ret2
        exact HE.out _ _ ((HO.out.drewN _).drewN _) ((HR.out.drewN _).drewN _) rfl
end Go.Proofs.YtgcjnhlppapfdaaDoor
