/- several texts in one: May, MayI, MayT, MayU, MarkI, Hold, HoldI, FetI, SameI, UsesS, UsesI, Bools, Pre, BrInts, Sheet, OpenSh, AdK -/
import Derived.Test.YtochgmbeomfkpaaBs1
import Derived.Test.YtochgmbeomfkpaaBs0
import Derived.StillTailTactics
import Derived.Laws.Rows
import Derived.Shelf.Abstract
import Derived.Deep.Grids
/- what a task may fetch; spec.l2May, spec.TaskMay -/
namespace Go.Proofs.Ytochgmbeomfkpaa
open Go.RowKit

mutual
def T.may (q : Int) : T → Bool
  | .mk k n ps => (decide (k = 1) && decide (n = q)) || (decide (k = 5) || mayL q ps)
def mayL (q : Int) : List T → Bool
  | [] => false
  | t :: r => t.may q || mayL q r
end
theorem T.may_eq (q : Int) (t : T) : t.may q = ((decide (t.k = 1) && decide (t.n = q)) || (decide (t.k = 5) || mayL q t.ps)) := by cases t; rfl
theorem mayL_append (q : Int) : ∀ a b : List T, mayL q (a ++ b) = (mayL q a || mayL q b)
  | [], b => by simp [mayL]
  | t :: r, b => by simp only [List.cons_append, mayL, mayL_append q r b, Bool.or_assoc]
theorem mayL_snoc (q : Int) (ps : List T) (i : Nat) (h : i < ps.length) : mayL q (ps.take (i + 1)) = (mayL q (ps.take i) || ps[i].may q) := by
  rw [List.take_succ_eq_append_getElem h, mayL_append]; simp [mayL]

/-- Ten truths in block g. -/
def TruAt (w : World) (g : Nat) (e : TypeId) (m : Nat → Bool) : Prop := ∃ cs : Array Value, Blk w g e cs ∧ cs.size = 10 ∧ ∀ i, i < 10 → cs[i]? = some (.bool (m i))
section
variable {w w' : World} {g : Nat} {e : TypeId} {m m' : Nat → Bool}
theorem TruAt.lt (h : TruAt w g e m) : g < w.heap.size := by obtain ⟨_, h, _⟩ := h; exact h.lt
theorem TruAt.alloc (h : TruAt w g e m) (o : Obj) : TruAt (w.alloc o) g e m := by obtain ⟨cs, h1, h2⟩ := h; exact ⟨cs, h1.alloc o, h2⟩
theorem TruAt.drew (h : TruAt w g e m) : TruAt w.drew g e m := by obtain ⟨cs, h1, h2⟩ := h; exact ⟨cs, h1.drew, h2⟩
theorem TruAt.congr (h : TruAt w g e m) (hm : ∀ i, i < 10 → m i = m' i) : TruAt w g e m' := by
  obtain ⟨cs, h1, h2, h3⟩ := h
  exact ⟨cs, h1, h2, fun i hi => by rw [h3 i hi, hm i hi]⟩
theorem TruAt.cell (h : TruAt w g e m) {i : Nat} (hi : i < 10) : w.cell? ⟨g, i, none⟩ = some (.bool (m i)) ∧ w.frozen? ⟨g, i, none⟩ = false := by
  obtain ⟨cs, h1, h2, h3⟩ := h
  exact ⟨(h1.cell i).trans (h3 i hi), h1.frozen i⟩
theorem TruAt.set_ (h : TruAt w g e m) (j : Nat) : TruAt (w.setCell ⟨g, j, none⟩ (.bool true)) g e (fun i => m i || decide (i = j)) := by
  obtain ⟨cs, h1, h2, h3⟩ := h
  refine ⟨_, h1.set_ j (.bool true), by simp [h2], fun i hi => ?_⟩
  rw [Array.getElem?_setIfInBounds]
  by_cases hij : j = i
  · subst hij
    rw [if_pos rfl, if_pos (by omega)]; simp
  · rw [if_neg hij, h3 i hi]
    show _ = some (Value.bool (m i || decide (i = j)))
    rw [decide_eq_false (by omega : ¬ i = j), Bool.or_false]
end

def MayPost (e : TypeId) (g : Nat) (w : World) (m : Nat → Bool) (en : Ending) (w' : World) : Prop := en = .returned (.tuple #[]) ∧ TruAt w' g e m ∧ Only g w w'

theorem AtS.only' {w w' : World} {S : Nat → Prop} {ps : List T} {a : Option Addr} {c g : Nat} (h : AtS w S ps a c) (ho : Only g w w') (hg : ∀ b, S b → b ≠ g) : AtS w' S ps a c :=
  h.keep (fun _ h => h) (fun b hb hl => ho.block b hl (by intro e; injection e with e; exact hg b hb e))

theorem only_size {g : Nat} {w w' : World} (h : Only g w w') : w.heap.size ≤ w'.heap.size := h.size

def MayT (t : T) : Prop := ∀ (w : World) (S : Nat → Prop) (a : Option Addr) (c g : Nat) (m : Nat → Bool), AtS w S t.ps a c → (∀ b, S b → b ≠ g) → t.fit = true → TruAt w g 4 m →
  Calls Try.prog 81 #[.agg #[.int .i64 t.k, .int .i64 t.n, .slice a t.ps.length c], .slice (some ⟨g, 0, none⟩) 10 10] w (MayPost 4 g w (fun i => m i || t.may (i : Int)))

theorem may_one (nn : Nat) (i : Nat) (m : Nat → Bool) : (m i || decide (i = nn)) = (m i || (T.mk 1 (nn : Int) []).may (i : Int)) := by
  simp only [T.may, mayL]
  by_cases h : i = nn
  · subst h; simp
  · have h2 : ¬ (nn : Int) = (i : Int) := by omega
    simp [h, h2]

set_option maxHeartbeats 1000000 in
theorem may_1 (n : Int) (h0 : 0 ≤ n) (h9 : n ≤ 9) : MayT (.mk 1 n []) := by
  intro w S a c g m hat hS hf htr
  simp only [T.k, T.n, T.ps, List.length_nil] at *
  obtain ⟨nn, rfl⟩ : ∃ nn : Nat, n = nn := ⟨n.toNat, by omega⟩
  have hgl := htr.lt
  have hgn : w.heap.size ≠ g := by omega
  have hn10 : nn < 10 := by omega
  have hsz0 : (w.setCell ⟨g, nn, none⟩ (.bool true)).heap.size = w.heap.size := by simp [World.setCell]
  obtain ⟨W, hW⟩ : ∃ W, W = (w.setCell ⟨g, nn, none⟩ (.bool true)).alloc (.cells #[.int .i64 1, .int .i64 nn, .slice a 0 c] 71) := ⟨_, rfl⟩
  have HM := htr.alloc (.cells #[.int .i64 1, .int .i64 nn, .slice a 0 c] 71)
  have HSET := Lib.hid (show TruAt W g 4 (fun i => m i || (T.mk 1 (nn : Int) []).may (i : Int)) by rw [hW]; exact ((htr.set_ nn).congr (fun i _ => may_one nn i m)).alloc _)
  have HOS := Lib.hid (show Only g w W by rw [hW]; exact ((Only.refl g w).set (.inl rfl) _).alloc _)
  have HBS := Lib.hid (show Blk W w.heap.size 71 #[.int .i64 1, .int .i64 nn, .slice a 0 c] by rw [hW, ← hsz0]; exact Blk.new _ _ _)
  obtain ⟨hcell, hfz⟩ := HM.cell hn10
  have HWW := Lib.hid hW
  clear hat htr hf HM hW hsz0
  go_enter Try.func81, Try.ntmps81
  go_wp2_with fail
  clear hcell hfz
  rw [← HWW.out]
  go_loopw [4] (fun i wr => i = .int .i64 0 ∧ wr = W) (fun _ _ => 0)
  case atStart => exact ⟨rfl, rfl⟩
  case round =>
    obtain ⟨rfl, rfl⟩ := hrel
    obtain ⟨x0, x1, x2, f0, f1, f2⟩ := HBS.out.three
    go_wp2_with fail
    go_loopw [5] (fun i wr' => i = .int .i64 0 ∧ wr' = wr) (fun _ _ => 0)
    case atStart => exact ⟨rfl, rfl⟩
    case round =>
      obtain ⟨rfl, rfl⟩ := hrel
      go_wp2_with fail
      go_end0
      exact ⟨rfl, HSET.out, HOS.out⟩

set_option maxRecDepth 100000 in
set_option maxHeartbeats 2000000 in
theorem may_n (t : T) (hk1 : t.k ≠ 1) (hT : ∀ u ∈ t.ps, MayT u) : MayT t := by
  intro w S a c g m hat hS hf htr
  have hgl := htr.lt
  have hgn : w.heap.size ≠ g := by omega
  have HT := Lib.hid hT
  have HS := Lib.hid hS
  have HA := Lib.hid (hat.lim.alloc (.cells #[.int .i64 t.k, .int .i64 t.n, .slice a t.ps.length c] 71))
  have HB := Lib.hid (Blk.new w 71 #[.int .i64 t.k, .int .i64 t.n, .slice a t.ps.length c])
  have HO := Lib.hid ((Only.refl g w).alloc (.cells #[.int .i64 t.k, .int .i64 t.n, .slice a t.ps.length c] 71))
  have HM := Lib.hid (htr.alloc (.cells #[.int .i64 t.k, .int .i64 t.n, .slice a t.ps.length c] 71))
  have hlen : t.ps.length ≤ 9223372036854775807 := by have := hat.1; have := hat.2.1; omega
  have hfe := T.fit_eq t
  rw [hf] at hfe
  have hfe' := hfe.symm
  simp only [Bool.and_eq_true] at hfe'
  have hpf : ∀ i (h : i < t.ps.length), t.ps[i].fit = true := by
    intro i hi
    cases hx : t.ps[i].fit
    · have := fitL_false t.ps i hi hx; rw [hfe'.2] at this; cases this
    · rfl
  have HPF := Lib.hid hpf
  have hk1b : (t.k == 1) = false := by simpa using hk1
  have HMAY := Lib.hid (show ∀ i : Nat, t.may (i : Int) = (decide (t.k = 5) || mayL (i : Int) t.ps) from fun i => by rw [T.may_eq, decide_eq_false hk1]; simp)
  obtain ⟨W, hW⟩ : ∃ W, W = w.alloc (.cells #[.int .i64 t.k, .int .i64 t.n, .slice a t.ps.length c] 71) := ⟨_, rfl⟩
  have hws : W.heap.size = w.heap.size + 1 := by rw [hW]; simp
  have HWW := Lib.hid hW
  rw [← hW] at HA HB HO HM
  have HSZ := Lib.hid hws
  clear hT hS hat htr hfe hfe' hpf hf hW hws
  go_enter Try.func81, Try.ntmps81
  go_wp2_with fail
  clear hk1b
  rw [← HWW.out]
  go_loopw [4] (fun i wr => ∃ j : Nat, j ≤ 10 ∧ i = .int .i64 j ∧ TruAt wr g 4 (fun i => m i || (decide (t.k = 5) && decide (i < j))) ∧ Only g W wr) (fun i _ => 10 - (intOf i).toNat)
  case atStart => exact ⟨0, by omega, rfl, HM.out.congr (fun i _ => by simp), Only.refl _ _⟩
  case round =>
    obtain ⟨j, hj, rfl, htr, ho⟩ := hrel
    have HTR := Lib.hid htr
    have HOW := Lib.hid ho
    obtain ⟨x0, x1, x2, f0, f1, f2⟩ := (HB.out.only ho hgn).three
    have hwr := ho.size
    have hsz := HSZ.out
    clear htr ho
    by_cases hgo : j < 10 ∧ t.k = 5
    · obtain ⟨hj10, hk5⟩ := hgo
      have hk5b : (t.k == 5) = true := by simpa using hk5
      obtain ⟨hcell, hfz⟩ := HTR.out.cell hj10
      have HS2 := Lib.hid ((HTR.out.set_ j).congr (m' := fun i => m i || (decide (t.k = 5) && decide (i < j + 1))) (fun i hi => by
        show ((m i || (decide (t.k = 5) && decide (i < j))) || decide (i = j)) = _
        rw [decide_eq_true hk5, Bool.or_assoc]
        congr 1
        simp only [Bool.true_and]
        rw [Bool.eq_iff_iff, Bool.or_eq_true, decide_eq_true_eq, decide_eq_true_eq, decide_eq_true_eq]
        omega))
      have HO2 := Lib.hid (HOW.out.set (p := ⟨g, j, none⟩) (.inl rfl) (.bool true))
      clear hk5
      go_wp2_with fail
      go_roundw
      case rel => exact ⟨j + 1, by omega, by go_num, HS2.out, HO2.out⟩
      case measure => simp [intOf]; omega
    · have HT2 := Lib.hid (HTR.out.congr (m' := fun i => m i || decide (t.k = 5)) (fun i hi => by
        show (m i || (decide (t.k = 5) && decide (i < j))) = _
        by_cases h5 : t.k = 5
        · rw [decide_eq_true h5, decide_eq_true (show i < j by omega)]; rfl
        · rw [decide_eq_false h5]; rfl))
      have HA2 := Lib.hid (HA.out.only' HOW.out (fun b hb => HS.out b hb.1))
      have HB2 := Lib.hid (HB.out.only HOW.out hgn)
      have hj5 : j < 10 → (t.k == 5) = false := by intro h; simp; intro h5; exact hgo ⟨h, h5⟩
      clear hgo HTR
      by_cases hj10 : j < 10
      all_goals
        first | (have hk5 := hj5 hj10) | skip
        clear hj5
        go_wp2_with fail
        go_loopw [5] (fun i wr2 => ∃ k : Nat, k ≤ t.ps.length ∧ i = .int .i64 k ∧ TruAt wr2 g 4 (fun i => m i || (decide (t.k = 5) || mayL (i : Int) (t.ps.take k))) ∧ Only g wr wr2) (fun i _ => t.ps.length - (intOf i).toNat)
        case atStart => exact ⟨0, by omega, rfl, HT2.out.congr (fun i _ => by simp [mayL]), Only.refl _ _⟩
        case round =>
          obtain ⟨k, hk, rfl, htr2, ho2⟩ := hrel
          have HTR2 := Lib.hid htr2
          have HO2 := Lib.hid ho2
          have hwr2 := ho2.size
          obtain ⟨y0, y1, y2, g0, g1, g2⟩ := (HB2.out.only ho2 hgn).three
          clear htr2 ho2
          by_cases hlt : k < t.ps.length
          · obtain ⟨bb, o, a', c', rfl, hbl, hbS, e0, e1, e2, hs, _, _⟩ := (HA2.out.only' HO2.out (fun b hb => HS.out b hb.1)).elem (Below.refl _ _) hlt
            have HS' := Lib.hid hs
            have HSN := Lib.hid (fun q : Int => mayL_snoc q t.ps k hlt)
            have hpf := HPF.out k hlt
            have HPFK := Lib.hid hpf
            clear hs hpf
            go_wp2_with fail
            refine (HT.out t.ps[k] (List.getElem_mem _) _ _ a' c' g _ HS'.out (fun b hb => HS.out b hb.1) HPFK.out HTR2.out).mono ?_
            rintro e w5 ⟨rfl, htr5, ho5⟩
            have H5 := Lib.hid (And.intro (htr5.congr (m' := fun i => m i || (decide (t.k = 5) || mayL (i : Int) (t.ps.take (k + 1)))) (fun i _ => by
              show ((m i || (decide (t.k = 5) || mayL (i : Int) (t.ps.take k))) || t.ps[k].may (i : Int)) = (m i || (decide (t.k = 5) || mayL (i : Int) (t.ps.take (k + 1))))
              rw [HSN.out, Bool.or_assoc, Bool.or_assoc])) (HO2.out.trans ho5))
            clear htr5 ho5
            go_wp2_with fail
            go_roundw
            case rel => exact ⟨k + 1, by omega, by go_num, H5.out.1, H5.out.2⟩
            case measure => simp [intOf]; omega
          · have hq : t.ps.take k = t.ps := List.take_of_length_le (by omega)
            have HT9 := Lib.hid (HTR2.out.congr (m' := fun i => m i || t.may (i : Int)) (fun i _ => by
              show (m i || (decide (t.k = 5) || mayL (i : Int) (t.ps.take k))) = _
              rw [hq, HMAY.out]))
            clear hq
            go_wp2_with fail
            go_end0
            exact ⟨rfl, HT9.out, HO.out.trans (HOW.out.trans HO2.out)⟩
theorem may_all : ∀ t, MayT t := T.ind fun k n ps ih => by
  intro w S a c g m hat hS hf htr
  by_cases h1 : k = 1
  · subst h1
    have h := hf
    rw [T.fit_eq] at h
    simp only [T.k, T.n, T.ps, Bool.and_eq_true] at h
    have hk := kinds h.1
    have hps : ps = [] := List.length_eq_zero_iff.1 (by omega)
    subst hps
    exact may_1 n (by omega) (by omega) w S a c g m hat hS hf htr
  · exact may_n (.mk k n ps) h1 ih w S a c g m hat hS hf htr
end Go.Proofs.Ytochgmbeomfkpaa
/- impl.markMay -/
namespace Go.Proofs.Ytochgmbeomfkpaa
open Go.RowKit

def MarkT (e : TypeId) (t : T) : Prop := ∀ (w : World) (S : Nat → Prop) (a : Option Addr) (c g : Nat) (m : Nat → Bool), AtS w S t.ps a c → (∀ b, S b → b ≠ g) → t.fit = true → TruAt w g e m →
  Calls Try.prog 84 #[.agg #[.int .i64 t.k, .int .i64 t.n, .slice a t.ps.length c], .pointer (some ⟨g, 0, none⟩)] w (MayPost e g w (fun i => m i || t.may (i : Int)))

set_option maxRecDepth 100000 in
set_option maxHeartbeats 1000000 in
theorem mark_1 (e : TypeId) (n : Int) (h0 : 0 ≤ n) (h9 : n ≤ 9) : MarkT e (.mk 1 n []) := by
  intro w S a c g m hat hS hf htr
  simp only [T.k, T.n, T.ps, List.length_nil] at *
  obtain ⟨nn, rfl⟩ : ∃ nn : Nat, n = nn := ⟨n.toNat, by omega⟩
  have hgl := htr.lt
  have hgn : w.heap.size ≠ g := by omega
  have hn10 : nn < 10 := by omega
  have hn10i : (nn : Int) < 10 := by omega
  have hn0i : (0 : Int) ≤ (nn : Int) := by omega
  obtain ⟨W, hW⟩ : ∃ W, W = w.alloc (.cells #[.int .i64 1, .int .i64 nn, .slice a 0 c] 71) := ⟨_, rfl⟩
  have HB := Lib.hid (show Blk W w.heap.size 71 #[.int .i64 1, .int .i64 nn, .slice a 0 c] by rw [hW]; exact Blk.new w _ _)
  have HM := Lib.hid (show TruAt W g e m by rw [hW]; exact htr.alloc _)
  have HO := Lib.hid (show Only g w W by rw [hW]; exact (Only.refl g w).alloc _)
  obtain ⟨hcell, hfz⟩ := HM.out.cell hn10
  obtain ⟨x0, x1, x2, f0, f1, f2⟩ := HB.out.three
  have HWW := Lib.hid hW
  have HSET := Lib.hid ((HM.out.drew.set_ nn).congr (fun i _ => may_one nn i m))
  have HOS := Lib.hid ((HO.out.drewN 1).set (p := ⟨g, nn, none⟩) (.inl rfl) (.bool true))
  have HBS := Lib.hid ((HB.out.drew).far (p := ⟨g, nn, none⟩) (by simpa using hgn) (.bool true))
  clear hat htr hf hW
  go_enter Try.func84, Try.ntmps84
  go_wp2_with fail
  rw [← HWW.out]
  go_still_tail 5, (by kernel_rfl)
  go_wp2_with fail
  clear hcell hfz x0 x1 x2 f0 f1 f2
  obtain ⟨V, hV⟩ : ∃ V, V = (W.setCell ⟨g, nn, none⟩ (.bool true)).drew := ⟨_, rfl⟩
  have HST := Lib.hid (show TruAt V g e (fun i => m i || (T.mk 1 (nn : Int) []).may (i : Int)) by rw [hV]; exact HSET.out)
  have HOV := Lib.hid (show Only g w V by rw [hV]; exact HOS.out)
  rw [← hV]
  clear hV HOS HSET HBS
  go_loopw [29] (fun i wr => i = .int .i64 0 ∧ wr = V) (fun _ _ => 0)
  case atStart => exact ⟨rfl, rfl⟩
  case round =>
    obtain ⟨rfl, rfl⟩ := hrel
    go_wp2_with fail
    go_end0
    exact ⟨rfl, HST.out, HOV.out⟩

set_option maxRecDepth 100000 in
set_option maxHeartbeats 2000000 in
theorem mark_n (e : TypeId) (t : T) (hk1 : t.k ≠ 1) (hT : ∀ u ∈ t.ps, MarkT e u) : MarkT e t := by
  intro w S a c g m hat hS hf htr
  have hgl := htr.lt
  have hgn : w.heap.size ≠ g := by omega
  have HT := Lib.hid hT
  have HS := Lib.hid hS
  have HA := Lib.hid (hat.lim.alloc (.cells #[.int .i64 t.k, .int .i64 t.n, .slice a t.ps.length c] 71))
  have HB := Lib.hid (Blk.new w 71 #[.int .i64 t.k, .int .i64 t.n, .slice a t.ps.length c])
  have HO := Lib.hid ((Only.refl g w).alloc (.cells #[.int .i64 t.k, .int .i64 t.n, .slice a t.ps.length c] 71))
  have HM := Lib.hid (htr.alloc (.cells #[.int .i64 t.k, .int .i64 t.n, .slice a t.ps.length c] 71))
  have hlen : t.ps.length ≤ 9223372036854775807 := by have := hat.1; have := hat.2.1; omega
  have hfe := T.fit_eq t
  rw [hf] at hfe
  have hfe' := hfe.symm
  simp only [Bool.and_eq_true] at hfe'
  have hpf : ∀ i (h : i < t.ps.length), t.ps[i].fit = true := by
    intro i hi
    cases hx : t.ps[i].fit
    · have := fitL_false t.ps i hi hx; rw [hfe'.2] at this; cases this
    · rfl
  have HPF := Lib.hid hpf
  have hk1b : (t.k == 1) = false := by simpa using hk1
  have HMAY := Lib.hid (show ∀ i : Nat, t.may (i : Int) = (decide (t.k = 5) || mayL (i : Int) t.ps) from fun i => by rw [T.may_eq, decide_eq_false hk1]; simp)
  obtain ⟨W, hW⟩ : ∃ W, W = w.alloc (.cells #[.int .i64 t.k, .int .i64 t.n, .slice a t.ps.length c] 71) := ⟨_, rfl⟩
  have hws : W.heap.size = w.heap.size + 1 := by rw [hW]; simp
  have HWW := Lib.hid hW
  rw [← hW] at HA HB HO HM
  have hsz := hws
  clear hT hS hat htr hfe hfe' hpf hf hW hws
  by_cases hk5 : t.k = 5
  · have hk5b : (t.k == 5) = true := by simpa using hk5
    have HK5 := Lib.hid hk5
    clear hk5
    go_enter Try.func84, Try.ntmps84
    go_wp2_with fail
    clear hk1b hk5b
    rw [← HWW.out]
    go_loopw [18] (fun i wr => ∃ j : Nat, j ≤ 10 ∧ i = .int .i64 j ∧ TruAt wr g e (fun i => m i || decide (i < j)) ∧ Only g W wr) (fun i _ => 10 - (intOf i).toNat)
    case atStart => exact ⟨0, by omega, rfl, HM.out.congr (fun i _ => by simp), Only.refl _ _⟩
    case round =>
      obtain ⟨j, hj, rfl, htr, ho⟩ := hrel
      have HTR := Lib.hid htr
      have HOW := Lib.hid ho
      obtain ⟨x0, x1, x2, f0, f1, f2⟩ := (HB.out.only ho hgn).three
      have hwr := ho.size
      clear htr ho
      by_cases hj10 : j < 10
      · obtain ⟨hcell, hfz⟩ := HTR.out.cell hj10
        have HS2 := Lib.hid ((HTR.out.set_ j).congr (m' := fun i => m i || decide (i < j + 1)) (fun i hi => by
          show ((m i || decide (i < j)) || decide (i = j)) = _
          rw [Bool.or_assoc]
          congr 1
          rw [Bool.eq_iff_iff, Bool.or_eq_true, decide_eq_true_eq, decide_eq_true_eq, decide_eq_true_eq]
          omega))
        have HO2 := Lib.hid (HOW.out.set (p := ⟨g, j, none⟩) (.inl rfl) (.bool true))
        go_wp2_with fail
        go_roundw
        case rel => exact ⟨j + 1, by omega, by go_num, HS2.out, HO2.out⟩
        case measure => simp [intOf]; omega
      · have HT2 := Lib.hid (HTR.out.congr (m' := fun i => m i || decide (t.k = 5)) (fun i hi => by
          show (m i || decide (i < j)) = _
          rw [decide_eq_true HK5.out, decide_eq_true (show i < j by omega)]))
        have HA2 := Lib.hid (HA.out.only' HOW.out (fun b hb => HS.out b hb.1))
        have HB2 := Lib.hid (HB.out.only HOW.out hgn)
        clear HTR
        go_wp2_with fail
        go_loopw [29] (fun i wr2 => ∃ k : Nat, k ≤ t.ps.length ∧ i = .int .i64 k ∧ TruAt wr2 g e (fun i => m i || (decide (t.k = 5) || mayL (i : Int) (t.ps.take k))) ∧ Only g wr wr2) (fun i _ => t.ps.length - (intOf i).toNat)
        case atStart => exact ⟨0, by omega, rfl, HT2.out.congr (fun i _ => by simp [mayL]), Only.refl _ _⟩
        case round =>
          obtain ⟨k, hk, rfl, htr2, ho2⟩ := hrel
          have HTR2 := Lib.hid htr2
          have HO2 := Lib.hid ho2
          have hwr2 := ho2.size
          clear htr2 ho2
          by_cases hlt : k < t.ps.length
          · obtain ⟨bb, o, a', c', rfl, hbl, hbS, e0, e1, e2, hs, _, _⟩ := (HA2.out.only' HO2.out (fun b hb => HS.out b hb.1)).elem (Below.refl _ _) hlt
            have HS' := Lib.hid (hs.alloc (.cells #[.int .i64 t.ps[k].k, .int .i64 t.ps[k].n, .slice a' t.ps[k].ps.length c'] 71))
            have HSN := Lib.hid (fun q : Int => mayL_snoc q t.ps k hlt)
            have HPFK := Lib.hid (HPF.out k hlt)
            have HTA := Lib.hid (HTR2.out.alloc (.cells #[.int .i64 t.ps[k].k, .int .i64 t.ps[k].n, .slice a' t.ps[k].ps.length c'] 71))
            have HOA := Lib.hid (HO2.out.alloc (.cells #[.int .i64 t.ps[k].k, .int .i64 t.ps[k].n, .slice a' t.ps[k].ps.length c'] 71))
            clear hs
            go_wp2_with fail
            refine (HT.out t.ps[k] (List.getElem_mem _) _ _ a' c' g _ HS'.out (fun b hb => HS.out b hb.1) HPFK.out HTA.out).mono ?_
            rintro en w5 ⟨rfl, htr5, ho5⟩
            have H5 := Lib.hid (And.intro (htr5.congr (m' := fun i => m i || (decide (t.k = 5) || mayL (i : Int) (t.ps.take (k + 1)))) (fun i _ => by
              show ((m i || (decide (t.k = 5) || mayL (i : Int) (t.ps.take k))) || t.ps[k].may (i : Int)) = (m i || (decide (t.k = 5) || mayL (i : Int) (t.ps.take (k + 1))))
              rw [HSN.out, Bool.or_assoc, Bool.or_assoc])) (HOA.out.trans ho5))
            clear htr5 ho5
            go_wp2_with fail
            go_roundw
            case rel => exact ⟨k + 1, by omega, by go_num, H5.out.1, H5.out.2⟩
            case measure => simp [intOf]; omega
          · have hq : t.ps.take k = t.ps := List.take_of_length_le (by omega)
            have HT9 := Lib.hid (HTR2.out.congr (m' := fun i => m i || t.may (i : Int)) (fun i _ => by
              show (m i || (decide (t.k = 5) || mayL (i : Int) (t.ps.take k))) = _
              rw [hq, HMAY.out]))
            clear hq
            go_wp2_with fail
            go_end0
            exact ⟨rfl, HT9.out, HO.out.trans (HOW.out.trans HO2.out)⟩
  · have hk5b : (t.k == 5) = false := by simpa using hk5
    have HT2 := Lib.hid (HM.out.congr (m' := fun i => m i || decide (t.k = 5)) (fun i hi => by rw [decide_eq_false hk5]; simp))
    clear hk5
    go_enter Try.func84, Try.ntmps84
    go_wp2_with fail
    clear hk1b hk5b
    rw [← HWW.out]
    obtain ⟨wr, hwr'⟩ : ∃ wr, wr = W := ⟨_, rfl⟩
    have HOW := Lib.hid (show Only g W wr by rw [hwr']; exact Only.refl _ _)
    rw [← hwr'] at HT2
    have HA2 := Lib.hid (HA.out.only' HOW.out (fun b hb => HS.out b hb.1))
    have HB2 := Lib.hid (HB.out.only HOW.out hgn)
    have hwr := HOW.out.size
    rw [← hwr']
    clear hwr'
    go_loopw [29] (fun i wr2 => ∃ k : Nat, k ≤ t.ps.length ∧ i = .int .i64 k ∧ TruAt wr2 g e (fun i => m i || (decide (t.k = 5) || mayL (i : Int) (t.ps.take k))) ∧ Only g wr wr2) (fun i _ => t.ps.length - (intOf i).toNat)
    case atStart => exact ⟨0, by omega, rfl, HT2.out.congr (fun i _ => by simp [mayL]), Only.refl _ _⟩
    case round =>
      obtain ⟨k, hk, rfl, htr2, ho2⟩ := hrel
      have HTR2 := Lib.hid htr2
      have HO2 := Lib.hid ho2
      have hwr2 := ho2.size
      clear htr2 ho2
      by_cases hlt : k < t.ps.length
      · obtain ⟨bb, o, a', c', rfl, hbl, hbS, e0, e1, e2, hs, _, _⟩ := (HA2.out.only' HO2.out (fun b hb => HS.out b hb.1)).elem (Below.refl _ _) hlt
        have HS' := Lib.hid (hs.alloc (.cells #[.int .i64 t.ps[k].k, .int .i64 t.ps[k].n, .slice a' t.ps[k].ps.length c'] 71))
        have HSN := Lib.hid (fun q : Int => mayL_snoc q t.ps k hlt)
        have HPFK := Lib.hid (HPF.out k hlt)
        have HTA := Lib.hid (HTR2.out.alloc (.cells #[.int .i64 t.ps[k].k, .int .i64 t.ps[k].n, .slice a' t.ps[k].ps.length c'] 71))
        have HOA := Lib.hid (HO2.out.alloc (.cells #[.int .i64 t.ps[k].k, .int .i64 t.ps[k].n, .slice a' t.ps[k].ps.length c'] 71))
        clear hs
        go_wp2_with fail
        refine (HT.out t.ps[k] (List.getElem_mem _) _ _ a' c' g _ HS'.out (fun b hb => HS.out b hb.1) HPFK.out HTA.out).mono ?_
        rintro en w5 ⟨rfl, htr5, ho5⟩
        have H5 := Lib.hid (And.intro (htr5.congr (m' := fun i => m i || (decide (t.k = 5) || mayL (i : Int) (t.ps.take (k + 1)))) (fun i _ => by
          show ((m i || (decide (t.k = 5) || mayL (i : Int) (t.ps.take k))) || t.ps[k].may (i : Int)) = (m i || (decide (t.k = 5) || mayL (i : Int) (t.ps.take (k + 1))))
          rw [HSN.out, Bool.or_assoc, Bool.or_assoc])) (HOA.out.trans ho5))
        clear htr5 ho5
        go_wp2_with fail
        go_roundw
        case rel => exact ⟨k + 1, by omega, by go_num, H5.out.1, H5.out.2⟩
        case measure => simp [intOf]; omega
      · have hq : t.ps.take k = t.ps := List.take_of_length_le (by omega)
        have HT9 := Lib.hid (HTR2.out.congr (m' := fun i => m i || t.may (i : Int)) (fun i _ => by
          show (m i || (decide (t.k = 5) || mayL (i : Int) (t.ps.take k))) = _
          rw [hq, HMAY.out]))
        clear hq
        go_wp2_with fail
        go_end0
        exact ⟨rfl, HT9.out, HO.out.trans (HOW.out.trans HO2.out)⟩
theorem mark_all (e : TypeId) : ∀ t, MarkT e t := T.ind fun k n ps ih => by
  intro w S a c g m hat hS hf htr
  by_cases h1 : k = 1
  · subst h1
    have h := hf
    rw [T.fit_eq] at h
    simp only [T.k, T.n, T.ps, Bool.and_eq_true] at h
    have hk := kinds h.1
    have hps : ps = [] := List.length_eq_zero_iff.1 (by omega)
    subst hps
    exact mark_1 e n (by omega) (by omega) w S a c g m hat hS hf htr
  · exact mark_n e (.mk k n ps) h1 ih w S a c g m hat hS hf htr
end Go.Proofs.Ytochgmbeomfkpaa
/- spec.TaskMay, impl.TaskMay -/
namespace Go.Proofs.Ytochgmbeomfkpaa
open Go.RowKit

theorem infoBool : (Try.prog.info? 4).map (fun i => (i.zero, i.size, i.bytes)) = some (some (.bool false), 1, 1) := by kernel_rfl

/-- The keys below i that a task may fetch, ascending. -/
def mayI (t : T) (i : Nat) : List Int := ((List.range i).filter fun (j : Nat) => t.may (j : Int)).map fun (j : Nat) => (j : Int)
theorem mayI_yes {t : T} {i : Nat} (h : t.may (i : Int) = true) : mayI t (i + 1) = mayI t i ++ [(i : Int)] := by
  unfold mayI
  rw [List.range_succ, List.filter_append]
  simp [h]
theorem mayI_no {t : T} {i : Nat} (h : t.may (i : Int) = false) : mayI t (i + 1) = mayI t i := by
  unfold mayI
  rw [List.range_succ, List.filter_append]
  simp [h]
theorem mayI_len (t : T) (i : Nat) : (mayI t i).length ≤ i := by
  unfold mayI
  rw [List.length_map]
  have := List.length_filter_le (fun (j : Nat) => t.may (j : Int)) (List.range i)
  simpa using this
theorem mayI_mem {t : T} {i : Nat} {q : Int} : q ∈ mayI t i ↔ 0 ≤ q ∧ q < i ∧ t.may q = true := by
  unfold mayI
  rw [List.mem_map]
  constructor
  · rintro ⟨j, hj, rfl⟩
    rw [List.mem_filter, List.mem_range] at hj
    exact ⟨by omega, by omega, hj.2⟩
  · rintro ⟨h0, h1, h2⟩
    obtain ⟨n, rfl⟩ : ∃ n : Nat, q = n := ⟨q.toNat, by omega⟩
    exact ⟨n, List.mem_filter.2 ⟨List.mem_range.2 (by omega), h2⟩, rfl⟩
def mayO (t : T) : List Int := if t.ok = true then mayI t 10 else []
def MyPost (t : T) (w : World) (e : Ending) (w' : World) : Prop := Below w.heap.size w w' ∧ ∃ v, e = .returned v ∧ NumRow w' w.heap.size v (mayO t)

theorem tru_made (w : World) : TruAt (w.alloc (.cells (madeCells #[.bool false] 10) 4)) w.heap.size 4 (fun _ => false) :=
  ⟨_, heap_alloc_new w _, by rw [size_madeCells], fun i hi => by rw [← Array.getElem?_toList, toList_madeCells_one, List.getElem?_replicate, if_pos hi]⟩
theorem TruAt.below {w w' : World} {g : Nat} {e : TypeId} {m : Nat → Bool} (h : TruAt w g e m) (hb : Below w.heap.size w w') : TruAt w' g e m := by
  obtain ⟨cs, h1, h2⟩ := h; exact ⟨cs, h1.below hb h1.lt, h2⟩

set_option maxRecDepth 100000 in
set_option maxHeartbeats 2000000 in
theorem specMay_any (t : T) (w : World) (S : Nat → Prop) (a : Option Addr) (c : Nat) (hat : AtS w S t.ps a c) (hle : nodesL t.ps ≤ 1048576) :
    Calls Try.prog 61 #[.agg #[.int .i64 t.k, .int .i64 t.n, .slice a t.ps.length c]] w (MyPost t w) := by
  have hki := (Kp.start (ty := 71) hat.lim).alloc (.cells #[] 3)
  have K0 := Lib.hid hki
  have hN := rowN_new (w.alloc (.cells #[.int .i64 t.k, .int .i64 t.n, .slice a t.ps.length c] 71))
  rw [World.size_alloc] at hN
  have HN0 := Lib.hid hN
  have HL := Lib.hid hle
  clear hat hle hki hN
  cases hv : t.ok
  · have hx : MyPost t w = fun e w' => Below w.heap.size w w' ∧ ∃ v, e = .returned v ∧ NumRow w' w.heap.size v [] := by unfold MyPost mayO; rw [hv, if_neg (by decide)]
    have HX := Lib.hid hx
    have HV := Lib.hid hv
    clear hv hx
    go_enter Try.func61, Try.ntmps61
    go_wp2_with fail
    refine (specOk_any t _ _ a c K0.out.2 HL.out).mono ?_
    rintro e w1 ⟨rfl, hb⟩
    rw [HV.out]
    have K1 := Lib.hid (K0.out.step hb)
    have HN1 := Lib.hid (World.ownsRow.kept (row := none) HN0.out ⟨hb.os, hb.tape, hb.output, hb.size, fun i hi _ => hb.block i hi⟩ (Classical.em _))
    clear hb K0
    go_wp2_with fail
    go_ret
    rw [HX.out]
    exact ⟨K1.out.done, _, rfl, ownsRow_low HN1.out (by omega)⟩
  · have hfn : t.fit = true ∧ t.nodes ≤ 15 := by simpa [T.ok] using hv
    have hx : MyPost t w = fun e w' => Below w.heap.size w w' ∧ ∃ v, e = .returned v ∧ NumRow w' w.heap.size v (mayI t 10) := by unfold MyPost mayO; rw [hv, if_pos rfl]
    have HX := Lib.hid hx
    have HFN := Lib.hid hfn
    have HV := Lib.hid hv
    obtain ⟨iN, ni, nz0, nz1, nz2⟩ := info_parts infoInt
    have HIN := Lib.hid (And.intro ni (And.intro nz0 (And.intro nz1 nz2)))
    obtain ⟨i0, hi, hz0, hz1, hz2⟩ := info_parts infoBool
    have hmk : ∀ W, (Instr.makeSlice 22 (.int .i64 10) (.int .i64 10)).run Try.prog W = .ok (.slice (some ⟨W.heap.size, 0, none⟩) 10 10) (W.alloc (.cells (madeCells #[.bool false] 10) 4)) := fun W => by
      have h := run_make_rowN (P := Try.prog) 22 4 i0 _ Try.underlying22 hi hz0 .i64 .i64 10 10 (Nat.le_refl _) (by rw [hz2]; omega) (by omega) W
      rw [hz1] at h
      exact h
    have HMK := Lib.hid hmk
    have hml : maxLen = 9223372036854775807 := rfl
    have HML := Lib.hid hml
    clear hv hx hfn ni nz0 nz1 nz2 hi hz0 hz1 hz2 hmk hml
    go_enter Try.func61, Try.ntmps61
    go_wp2_with fail
    refine (specOk_any t _ _ a c K0.out.2 HL.out).mono ?_
    rintro e w1 ⟨rfl, hb⟩
    rw [HV.out]
    have K1 := Lib.hid (K0.out.step hb)
    have HN1 := Lib.hid (World.ownsRow.kept (row := none) HN0.out ⟨hb.os, hb.tape, hb.output, hb.size, fun i hi _ => hb.block i hi⟩ (Classical.em _))
    have hs1 := hb.size
    simp only [World.size_alloc] at hs1
    have HT1 := Lib.hid (tru_made w1)
    have K2 := Lib.hid (K1.out.alloc (.cells (madeCells #[.bool false] 10) 4))
    have HN2 := Lib.hid (World.ownsRow.alloc HN1.out (.cells (madeCells #[.bool false] 10) 4))
    obtain ⟨x0, x1, x2⟩ := K1.out.box
    have hlt : w.heap.size < w1.heap.size := by omega
    have hmk := HMK.out
    clear hb K0 HN0
    go_wp2_with fail
    clear hmk x0 x1 x2
    refine (may_all t _ _ a c w1.heap.size _ K2.out.2 (fun b hb => by omega) HFN.out.1 HT1.out).mono ?_
    rintro e w2 ⟨rfl, htr, ho⟩
    have hs2 := ho.size
    simp only [World.size_alloc] at hs2
    have HT2 := Lib.hid htr
    have HB2 := Lib.hid (show Below w.heap.size w w2 from K2.out.done.trans ⟨ho.os, ho.tape, ho.output, ho.size, fun k hk => ho.block k (by simp; omega) (by intro e; injection e; omega)⟩)
    have HN3 := Lib.hid (World.ownsRow.kept HN2.out ho (.inr (by intro e; have h := (HN1.out.lt _ e).2; omega)))
    have hvg := own_ge HN3.out
    have HVG := Lib.hid hvg
    clear htr ho hvg K1 K2 HN1 HN2 HT1
    go_wp2_with fail
    go_loopw [3, 5] (fun v i wr => ∃ k : Nat, k ≤ 10 ∧ i = .int .i64 k ∧ NumRow wr (w.heap.size + 1) v (mayI t k) ∧ TruAt wr w1.heap.size 4 (fun i => t.may (i : Int)) ∧ Below w.heap.size w wr ∧ (∀ b, v.ownBlock = some b → b ≠ w1.heap.size)) (fun _ i _ => 10 - (intOf i).toNat)
    case atStart => exact ⟨0, by omega, rfl, HN3.out, HT2.out.congr (fun i _ => by simp), HB2.out, fun b hb => by simp [Value.ownBlock] at hb; omega⟩
    case round =>
      obtain ⟨k, hk, rfl, hn, htr, hb, hne⟩ := hrel
      have HN := Lib.hid hn
      have HT := Lib.hid htr
      have HB := Lib.hid hb
      have HNE := Lib.hid hne
      have hgl := htr.lt
      have hwr := hb.size
      clear hn htr hb hne HN3 HT2
      by_cases hlt : k < 10
      · obtain ⟨hcell, hfz⟩ := HT.out.cell hlt
        cases hmay : t.may (k : Int)
        · rw [hmay] at hcell
          have HMN := Lib.hid (mayI_no hmay)
          clear hmay
          go_wp2_with fail
          go_roundw
          case rel => exact ⟨k + 1, by omega, by go_num, by rw [HMN.out]; exact HN.out, HT.out, HB.out, HNE.out⟩
          case measure => simp [intOf]; omega
        · rw [hmay] at hcell
          have HMN := Lib.hid (mayI_yes hmay)
          have hml := mayI_len t k
          obtain ⟨acc, hacc⟩ : ∃ acc, acc = mayI t k := ⟨_, rfl⟩
          rw [← hacc] at HN HMN hml
          clear hmay hacc
          go_wp2_with (at_builtin; refine wpList_append_row _ rfl (.tmp 25) (.tmp 27) 26 rfl (w.heap.size + 1) 3 iN (.int .i64 0) 1 8 Try.underlying26 HIN.out.1 HIN.out.2.1 HIN.out.2.2.1 HIN.out.2.2.2 rfl (by decide) _ acc.length (acc.map (Value.int .i64)) rfl (World.ownsRow.alloc HN.out _) ⟨wr.heap.size, 0, none⟩ 1 1 [.int .i64 k] rfl rfl ?d1 ?d2 (by decide) ?d3 ?d4 ?d5 ?_)
          case d1 => exact news1 _ _ _
          case d2 => simp [Value.oneCell']
          case d3 => rw [HML.out]; omega
          case d4 => omega
          case d5 => simp; omega
          intro v2 w3 hown hgr hnew
          have hN2 : NumRow w3 (w.heap.size + 1) v2 (acc ++ [(k : Int)]) := by
            unfold NumRow
            rw [List.map_append, show (acc ++ [(k : Int)]).length = acc.length + 1 by simp]
            exact hown
          have hge := own_ge HN.out
          have hB2 : Below w.heap.size w w3 := (HB.out.alloc hwr _).trans (below_grown hgr (by simp; omega) (fun q hq => by have := hge q hq; omega))
          have hT2 : TruAt w3 w1.heap.size 4 (fun i => t.may (i : Int)) := by
            obtain ⟨cs, h1, h2⟩ := HT.out.alloc (.cells #[.int .i64 k] 3)
            exact ⟨cs, (hgr.block w1.heap.size (by simp; omega) (by intro e; exact HNE.out _ e.symm rfl)).trans h1, h2⟩
          have hG2 : ∀ b, v2.ownBlock = some b → b ≠ w1.heap.size := fun b hb => by
            rcases hnew b hb with h | h
            · exact HNE.out b h
            · omega
          have H2 := Lib.hid (And.intro hN2 (And.intro hT2 (And.intro hB2 hG2)))
          clear hown hgr hnew hN2 hge hB2 hT2 hG2
          go_wp2_with fail
          go_roundw
          case rel => exact ⟨k + 1, by omega, by go_num, by rw [HMN.out]; exact H2.out.1, H2.out.2.1, H2.out.2.2.1, H2.out.2.2.2⟩
          case measure => simp [intOf]; omega
      · obtain rfl : k = 10 := by omega
        go_wp2_with fail
        go_ret
        rw [HX.out]
        exact ⟨HB.out, _, rfl, ownsRow_low HN.out (by omega)⟩
end Go.Proofs.Ytochgmbeomfkpaa
/- impl.TaskMay -/
namespace Go.Proofs.Ytochgmbeomfkpaa
open Go.RowKit

theorem run_idx (cs : Array Value) (k : Nat) (hk : k < 10) (x : Bool) (hx : cs[k]? = some (.bool x)) (w : World) : (Instr.index 113 (.agg cs) (.int .i64 k)).run Try.prog w = .ok (.bool x) w := by
  have h1 : (0 : Int) ≤ (k : Int) ∧ (k : Int) < 10 := by omega
  have h2 : (Go.sizeOf 4).run Try.prog w = .ok 1 w := by kernel_rfl
  simp [Instr.index, run_underlying Try.underlying113, asIntOf, h1, h2, part, hx, go_sem]
  intro h
  omega

set_option maxRecDepth 100000 in
set_option maxHeartbeats 2000000 in
theorem implMay_any (t : T) (w : World) (S : Nat → Prop) (a : Option Addr) (c : Nat) (hat : AtS w S t.ps a c) :
    Calls Try.prog 66 #[.agg #[.int .i64 t.k, .int .i64 t.n, .slice a t.ps.length c]] w (MyPost t w) := by
  have K0 := Lib.hid (Kp.start (ty := 71) hat.lim)
  clear hat
  cases hv : t.ok
  · have hx : MyPost t w = fun e w' => Below w.heap.size w w' ∧ ∃ v, e = .returned v ∧ NumRow w' w.heap.size v [] := by unfold MyPost mayO; rw [hv, if_neg (by decide)]
    have HX := Lib.hid hx
    have HV := Lib.hid hv
    clear hv hx
    go_enter Try.func66, Try.ntmps66
    go_wp2_with fail
    refine (implOk_any t _ _ a c K0.out.2).mono ?_
    rintro e w1 ⟨rfl, hb⟩
    rw [HV.out]
    have K1 := Lib.hid (K0.out.step hb)
    clear hb K0
    go_wp2_with fail
    go_ret
    rw [HX.out]
    exact ⟨K1.out.done, _, rfl, World.ownsRow_nil _ _ _ _⟩
  · have hfn : t.fit = true ∧ t.nodes ≤ 15 := by simpa [T.ok] using hv
    have hx : MyPost t w = fun e w' => Below w.heap.size w w' ∧ ∃ v, e = .returned v ∧ NumRow w' w.heap.size v (mayI t 10) := by unfold MyPost mayO; rw [hv, if_pos rfl]
    have HX := Lib.hid hx
    have HFN := Lib.hid hfn
    have HV := Lib.hid hv
    obtain ⟨iN, ni, nz0, nz1, nz2⟩ := info_parts infoInt
    have HIN := Lib.hid (And.intro ni (And.intro nz0 (And.intro nz1 nz2)))
    have hml : maxLen = 9223372036854775807 := rfl
    have HML := Lib.hid hml
    clear hv hx hfn ni nz0 nz1 nz2 hml
    go_enter Try.func66, Try.ntmps66
    go_wp2_with fail
    refine (implOk_any t _ _ a c K0.out.2).mono ?_
    rintro e w1 ⟨rfl, hb⟩
    rw [HV.out]
    have K1 := Lib.hid (K0.out.step hb)
    have hs1 := hb.size
    simp only [World.size_alloc] at hs1
    obtain ⟨x0, x1, x2⟩ := K1.out.box
    have hlt : w.heap.size < w1.heap.size := by omega
    clear hb K0
    go_wp2_with fail
    clear x0 x1 x2
    have HT1 := Lib.hid (show TruAt (w1.alloc (.cells #[.bool false, .bool false, .bool false, .bool false, .bool false, .bool false, .bool false, .bool false, .bool false, .bool false] 113)) w1.heap.size 113 (fun _ => false) from
      ⟨_, heap_alloc_new w1 _, rfl, fun i hi => by
        rcases (show i = 0 ∨ i = 1 ∨ i = 2 ∨ i = 3 ∨ i = 4 ∨ i = 5 ∨ i = 6 ∨ i = 7 ∨ i = 8 ∨ i = 9 by omega) with rfl | rfl | rfl | rfl | rfl | rfl | rfl | rfl | rfl | rfl <;> rfl⟩)
    have K2 := Lib.hid (K1.out.alloc (.cells #[.bool false, .bool false, .bool false, .bool false, .bool false, .bool false, .bool false, .bool false, .bool false, .bool false] 113))
    refine (mark_all 113 t _ _ a c w1.heap.size _ K2.out.2 (fun b hb => by omega) HFN.out.1 HT1.out).mono ?_
    rintro e w2 ⟨rfl, ⟨cs, hbk, hcs, hcc⟩, ho⟩
    have hs2 := ho.size
    simp only [World.size_alloc] at hs2
    have HB2 := Lib.hid (show Below w.heap.size w w2 from K2.out.done.trans ⟨ho.os, ho.tape, ho.output, ho.size, fun k hk => ho.block k (by simp; omega) (by intro e; injection e; omega)⟩)
    have HCC := Lib.hid (show ∀ i, i < 10 → cs[i]? = some (.bool (t.may (i : Int))) from fun i hi => by rw [hcc i hi]; simp)
    have HBK := Lib.hid hbk
    have hisz : (Try.prog.info? 113).map (·.size) = some cs.size := by rw [hcs]; kernel_rfl
    have HIS := Lib.hid hisz
    clear hbk hcs hcc ho hisz K1 K2 HT1
    go_wp2_with (refine wpList_load_row rfl 113 (.tmp 3) rfl w1.heap.size rfl 113 cs (0, 0) _ HBK.out Try.underlying113 rfl HIS.out ?_)
    go_loopw [4, 13] (fun v i wr => ∃ k : Nat, k ≤ 10 ∧ i = .int .i64 k ∧ NumRow wr w.heap.size v (mayI t k) ∧ Below w2.heap.size w2 wr ∧ (∀ b, v.ownBlock = some b → w2.heap.size ≤ b)) (fun _ i _ => 10 - (intOf i).toNat)
    case atStart => exact ⟨0, by omega, rfl, World.ownsRow_nil _ _ _ _, Below.refl _ _, by simp [Value.ownBlock]⟩
    case round =>
      obtain ⟨k, hk, rfl, hn, hb, hne⟩ := hrel
      have HN := Lib.hid hn
      have HB := Lib.hid hb
      have HNE := Lib.hid hne
      have hwr := hb.size
      clear hn hb hne
      by_cases hlt : k < 10
      · have hidx := run_idx cs k hlt (t.may (k : Int)) (HCC.out k hlt)
        cases hmay : t.may (k : Int)
        · rw [hmay] at hidx
          have HMN := Lib.hid (mayI_no hmay)
          clear hmay
          go_wp2_with fail
          go_roundw
          case rel => exact ⟨k + 1, by omega, by go_num, by rw [HMN.out]; exact HN.out, HB.out, HNE.out⟩
          case measure => simp [intOf]; omega
        · rw [hmay] at hidx
          have HMN := Lib.hid (mayI_yes hmay)
          have hml := mayI_len t k
          obtain ⟨acc, hacc⟩ : ∃ acc, acc = mayI t k := ⟨_, rfl⟩
          rw [← hacc] at HN HMN hml
          clear hmay hacc
          go_wp2_with (at_builtin; refine wpList_append_row _ rfl (.tmp 18) (.tmp 20) 26 rfl w.heap.size 3 iN (.int .i64 0) 1 8 Try.underlying26 HIN.out.1 HIN.out.2.1 HIN.out.2.2.1 HIN.out.2.2.2 rfl (by decide) _ acc.length (acc.map (Value.int .i64)) rfl (World.ownsRow.alloc HN.out _) ⟨wr.heap.size, 0, none⟩ 1 1 [.int .i64 k] rfl rfl ?d1 ?d2 (by decide) ?d3 ?d4 ?d5 ?_)
          case d1 => exact news1 _ _ _
          case d2 => simp [Value.oneCell']
          case d3 => rw [HML.out]; omega
          case d4 => omega
          case d5 => simp; omega
          intro v2 w3 hown hgr hnew
          have hN2 : NumRow w3 w.heap.size v2 (acc ++ [(k : Int)]) := by
            unfold NumRow
            rw [List.map_append, show (acc ++ [(k : Int)]).length = acc.length + 1 by simp]
            exact hown
          have hB2 : Below w2.heap.size w2 w3 := (HB.out.alloc hwr _).trans (below_grown hgr (by simp; omega) HNE.out)
          have hG2 : ∀ b, v2.ownBlock = some b → w2.heap.size ≤ b := fun b hb => by
            rcases hnew b hb with h | h
            · exact HNE.out b h
            · omega
          have H2 := Lib.hid (And.intro hN2 (And.intro hB2 hG2))
          clear hown hgr hnew hN2 hB2 hG2 hidx
          go_wp2_with fail
          go_roundw
          case rel => exact ⟨k + 1, by omega, by go_num, by rw [HMN.out]; exact H2.out.1, H2.out.2.1, H2.out.2.2⟩
          case measure => simp [intOf]; omega
      · obtain rfl : k = 10 := by omega
        go_wp2_with fail
        go_ret
        rw [HX.out]
        exact ⟨HB2.out.trans (HB.out.mono (by omega)), _, rfl, HN.out⟩
end Go.Proofs.Ytochgmbeomfkpaa
/- markIntS, heldIntS: a list of numbers of the call's own is marked, and held; toIntS as a row -/
namespace Go.Proofs.Ytochgmbeomfkpaa
open Go.RowKit

theorem addr0 (g j : Nat) : (⟨g, 0, none⟩ : Addr).add j = ⟨g, j, none⟩ := by unfold Addr.add; split <;> simp_all

/-- The first j are marked from k on. -/
def mk_ (l : List Int) (k j : Nat) : List Int := (List.range j).map (fun (i : Nat) => ((k + i : Nat) : Int)) ++ l.drop j
def marks (k n : Nat) : List Int := (List.range n).map (fun (i : Nat) => ((k + i : Nat) : Int))
theorem mk_len (l : List Int) (k j : Nat) (h : j ≤ l.length) : (mk_ l k j).length = l.length := by simp [mk_]; omega
theorem mk_zero (l : List Int) (k : Nat) : mk_ l k 0 = l := by simp [mk_]
theorem mk_all (l : List Int) (k : Nat) : mk_ l k l.length = marks k l.length := by simp [mk_, marks]
theorem mk_succ (l : List Int) (k j : Nat) (h : j < l.length) : (mk_ l k j).set j ((k + j : Nat) : Int) = mk_ l k (j + 1) := by
  unfold mk_
  rw [List.range_succ, List.map_append, List.append_assoc, List.set_append_right _ _ (by simp)]
  congr 1
  have e : (l.drop j).set 0 ((k + j : Nat) : Int) = ((k + j : Nat) : Int) :: l.drop (j + 1) := by rw [List.drop_eq_getElem_cons h]; rfl
  rw [List.length_map, List.length_range, Nat.sub_self, e]
  rfl
theorem marks_len (k n : Nat) : (marks k n).length = n := by simp [marks]
theorem marks_get (k n i : Nat) (h : i < (marks k n).length) : (marks k n)[i] = ((k + i : Nat) : Int) := by simp [marks]

theorem NumRow.set_ {w : World} {base g n cap : Nat} {l : List Int} (h : NumRow w base (.slice (some ⟨g, 0, none⟩) n cap) l) (i : Nat) (x : Int) :
    NumRow (w.setCell ⟨g, i, none⟩ (.int .i64 x)) base (.slice (some ⟨g, 0, none⟩) n cap) (l.set i x) := by
  obtain ⟨hl, ⟨h1, _⟩ | ⟨g', cap', cur, h1, h2, h3, h4, h5, h6, h7⟩⟩ := h
  · simp at h1
  · simp only [Value.slice.injEq, Option.some.injEq, Addr.mk.injEq, and_true] at h1
    obtain ⟨rfl, rfl, rfl⟩ := h1
    refine ⟨by simp, .inr ⟨g, cap, cur.setIfInBounds i (.int .i64 x), by rw [List.length_set], h2, ?_, by rw [List.length_set]; exact h4, h5, by simpa using h6, ?_⟩⟩
    · exact Blk.set_ (w := w) h3 i (.int .i64 x)
    · rw [Array.toList_setIfInBounds, List.length_set, List.take_set, h7, List.map_set]

def MarkedI (w : World) (base : Nat) (v : Value) (k n : Nat) (e : Ending) (w' : World) : Prop := e = .returned (.int .i64 ((k + n : Nat) : Int)) ∧ NumRow w' base v (marks k n) ∧ w.grownBy w' v.ownBlock

theorem grown_refl (w : World) (row : Option Nat) : w.grownBy w row := ⟨rfl, rfl, rfl, Nat.le_refl _, fun _ _ _ => rfl⟩
theorem grown_set {w w' : World} {row : Option Nat} (h : w.grownBy w' row) (p : Addr) (hp : row = some p.block) (u : Value) : w.grownBy (w'.setCell p u) row :=
  ⟨h.os, h.tape, h.output, by simpa [World.setCell] using h.size, fun i hi hne => (Below.heap_setCell w' p u i (by rintro rfl; exact hne hp.symm)).trans (h.block i hi hne)⟩

set_option maxHeartbeats 1000000 in
theorem markI_any (w : World) (base : Nat) (v : Value) (l : List Int) (k : Nat) (h : NumRow w base v l) (hl : l.length ≤ 2000000) (hk : k ≤ 100000000) :
    Calls Try.prog 14 #[v, .int .i64 k] w (MarkedI w base v k l.length) := by
  by_cases h0 : l = []
  · subst h0
    have H := Lib.hid h
    obtain ⟨_, ⟨rfl, _⟩ | ⟨g, cap, cur, rfl, _⟩⟩ := h
    · go_enter Try.func14, Try.ntmps14
      go_wp2_with fail
      go_loopw [1, 5] (fun q i wr => i = .int .i64 0 ∧ q = .int .i64 k ∧ wr = w) (fun _ _ _ => 0)
      case atStart => exact ⟨rfl, rfl, rfl⟩
      case round =>
        obtain ⟨rfl, rfl, rfl⟩ := hrel
        go_wp2_with fail
        go_ret
        exact ⟨rfl, H.out, grown_refl _ _⟩
    · go_enter Try.func14, Try.ntmps14
      go_wp2_with fail
      go_loopw [1, 5] (fun q i wr => i = .int .i64 0 ∧ q = .int .i64 k ∧ wr = w) (fun _ _ _ => 0)
      case atStart => exact ⟨rfl, rfl, rfl⟩
      case round =>
        obtain ⟨rfl, rfl, rfl⟩ := hrel
        go_wp2_with fail
        go_ret
        exact ⟨rfl, H.out, grown_refl _ _⟩
  · have hp : 0 < l.length := List.length_pos_iff.2 h0
    obtain ⟨g, cap, rfl⟩ := own_some h hp
    have H := Lib.hid h
    clear h h0
    go_enter Try.func14, Try.ntmps14
    go_wp2_with fail
    go_loopw [1, 5] (fun q i wr => ∃ j : Nat, j ≤ l.length ∧ i = .int .i64 j ∧ q = .int .i64 ((k + j : Nat) : Int) ∧ NumRow wr base (.slice (some ⟨g, 0, none⟩) l.length cap) (mk_ l k j) ∧ w.grownBy wr (some g)) (fun _ i _ => l.length - (intOf i).toNat)
    case atStart => exact ⟨0, by omega, rfl, rfl, by rw [mk_zero]; exact H.out, grown_refl _ _⟩
    case round =>
      obtain ⟨j, hj, rfl, rfl, hn, hg⟩ := hrel
      have HN := Lib.hid hn
      have HG := Lib.hid hg
      by_cases hlt : j < l.length
      · have hlen := mk_len l k j hj
        obtain ⟨a, c, ha, hia⟩ : ∃ (y : Int) (f : Bool), wr.cell? ⟨g, j, none⟩ = some (.int .i64 y) ∧ wr.frozen? ⟨g, j, none⟩ = false := by
          obtain ⟨hl', ⟨h1, _⟩ | ⟨g', cap', cur, h1, h2, h3, h4, h5, h6, h7⟩⟩ := hn
          · simp at h1
          · simp only [Value.slice.injEq, Option.some.injEq, Addr.mk.injEq, and_true] at h1
            obtain ⟨rfl, _, rfl⟩ := h1
            have hc := World.ownsRow.cells HN.out (g := g) rfl j (.int .i64 ((mk_ l k j)[j]'(by omega))) (by rw [List.getElem?_map, List.getElem?_eq_getElem (by omega)]; rfl)
            rw [addr0] at hc
            exact ⟨_, true, hc, Blk.frozen (w := wr) h3 j⟩
        have HS := Lib.hid (HN.out.set_ j ((k + j : Nat) : Int))
        have HM := Lib.hid (mk_succ l k j hlt)
        have HG2 := Lib.hid (grown_set HG.out ⟨g, j, none⟩ rfl (.int .i64 ((k + j : Nat) : Int)))
        clear hn hg hlen
        go_wp2_with fail
        go_roundw
        case rel => exact ⟨j + 1, by omega, by go_num, by go_num, by rw [← HM.out]; exact HS.out, HG2.out⟩
        case measure => simp [intOf]; omega
      · obtain rfl : j = l.length := by omega
        clear hn hg
        go_wp2_with fail
        go_ret
        exact ⟨rfl, by have h := HN.out; rw [mk_all] at h; exact h, HG.out⟩

theorem heldI_any (w : World) (base : Nat) (v : Value) (k n : Nat) (h : NumRow w base v (marks k n)) (hn : n ≤ 1000000) (hk : k ≤ 100000000) :
    Calls Try.prog 15 #[v, .int .i64 k] w fun e w' => e = .returned (.int .i64 ((k + n : Nat) : Int)) ∧ w = w' := by
  obtain ⟨a, c, rfl, hia⟩ := h.at (fun x hx => by
    obtain ⟨i, hi, rfl⟩ := List.mem_map.1 hx
    have := List.mem_range.1 hi
    unfold i64ok; omega)
  rw [marks_len]
  have H := Lib.hid hia
  clear h hia
  go_enter Try.func15, Try.ntmps15
  go_wp2_with fail
  go_loop [1, 5] (fun q i => ∃ j : Nat, j ≤ n ∧ i = .int .i64 j ∧ q = .int .i64 ((k + j : Nat) : Int)) (fun _ i => n - (intOf i).toNat)
  case atStart => exact ⟨0, by omega, rfl, rfl⟩
  case round =>
    obtain ⟨j, hj, rfl, rfl⟩ := hrel
    by_cases hlt : j < n
    · obtain ⟨b, o, rfl, _, _, hc⟩ := H.out.get (Below.refl _ _) (show j < (marks k n).length by rw [marks_len]; exact hlt)
      rw [marks_get] at hc
      have hne : (((k + j : Nat) : Int) != ((k + j : Nat) : Int)) = false := by simp
      go_wp2_with fail
      go_round
      case rel => exact ⟨j + 1, by omega, by go_num, by go_num⟩
      case measure => simp [intOf]; omega
    · obtain rfl : j = n := by omega
      go_wp2_with fail
      go_ret
      exact ⟨rfl, rfl⟩
end Go.Proofs.Ytochgmbeomfkpaa
/- what the exact laws that mark need: a task ready to be marked, a row held, an argument kept while others are marked -/
namespace Go.Proofs.Ytochgmbeomfkpaa
open Go.RowKit

/-- A task in memory of its own (blocks that meet F), ready to be marked. -/
def Mk (w : World) (F : Nat → Prop) (t : T) (a : Option Addr) (c : Nat) : Prop := ShS w F t.ps a c ∧ TWf w F
theorem Mk.below {w w' : World} {F : Nat → Prop} {t : T} {a : Option Addr} {c : Nat} (h : Mk w F t a c) (hb : Below w.heap.size w w') : Mk w' F t a c :=
  ⟨h.1.keep (fun _ h => h) (ThS.below h.2 hb).2.1, (ThS.below h.2 hb).2.2⟩
theorem Mk.alloc {w : World} {F : Nat → Prop} {t : T} {a : Option Addr} {c : Nat} (h : Mk w F t a c) (o : Obj) : Mk (w.alloc o) F t a c := h.below ((Below.refl _ _).alloc (Nat.le_refl _) o)
theorem Mk.drew {w : World} {F : Nat → Prop} {t : T} {a : Option Addr} {c : Nat} (h : Mk w F t a c) : Mk w.drew F t a c := h.below (Below.refl _ _).drew

theorem Kp.fr {S D : Nat → Prop} {t : T} {a : Option Addr} {c : Nat} {ty : TypeId} {w wi wj : World} (h : Kp S t a c ty w wi) (hf : Fr D wi wj) (hD : ∀ b, D b → w.heap.size + 1 ≤ b) (hS : ∀ b, S b → b < w.heap.size) : Kp S t a c ty w wj := by
  have hs := h.1.size
  simp only [World.size_alloc] at hs
  exact ⟨h.1.trans ⟨hf.1, hf.2.1, hf.2.2.1, hf.2.2.2.1, fun b hb => hf.2.2.2.2 b (by omega) (fun hd => by have := hD b hd; omega)⟩,
    h.2.fr hf (fun b hb hd => by have := hD b hd; have := hS b hb; omega)⟩

theorem ownsRow_fr {w w' : World} {D : Nat → Prop} {base : Nat} {e : TypeId} {s n : Nat} {v : Value} {l : List Value} (h : w.ownsRow base e s v n l) (hf : Fr D w w') (hD : ∀ b, v.ownBlock = some b → ¬ D b) : w'.ownsRow base e s v n l := by
  have hlt := h.lt
  refine ⟨h.1, ?_⟩
  rcases h.2 with hn | ⟨g, cap, cur, rfl, hb, hgg, rest⟩
  · exact .inl hn
  · exact .inr ⟨g, cap, cur, rfl, hb, (hf.2.2.2.2 g (hlt g rfl).2 (hD g rfl)).trans hgg, rest⟩
theorem NumRow.fr {w w' : World} {D : Nat → Prop} {base : Nat} {v : Value} {l : List Int} (h : NumRow w base v l) (hf : Fr D w w') (hD : ∀ b, D b → b < base) : NumRow w' base v l :=
  ownsRow_fr h hf (fun b hb hd => by have := (World.ownsRow.lt h b hb).1; have := hD b hd; omega)
theorem NumRow.below {w w' : World} {base : Nat} {v : Value} {l : List Int} (h : NumRow w base v l) (hb : Below w.heap.size w w') : NumRow w' base v l :=
  NumRow.fr (D := fun _ => False) h (Fr.of_below hb) (fun _ hf => hf.elim)
theorem NumRow.drew {w : World} {base : Nat} {v : Value} {l : List Int} (h : NumRow w base v l) : NumRow w.drew base v l := h.below (Below.refl _ _).drew
theorem NumRow.frM {w w' : World} {base : Nat} {v : Value} {k n : Nat} {l : List Int} {e : Ending} (h : NumRow w base v l) (hf : MarkedI w base v k n e w') : Fr (fun b => base ≤ b) w w' :=
  ⟨hf.2.2.os, hf.2.2.tape, hf.2.2.output, hf.2.2.size, fun b hb hn => hf.2.2.block b hb (by intro e; exact hn (own_ge h b e.symm))⟩
end Go.Proofs.Ytochgmbeomfkpaa
/- toIntS once more, as a row; what marking a row leaves alone -/
namespace Go.Proofs.Ytochgmbeomfkpaa
open Go.RowKit

theorem NumRow.frO {w w' : World} {base : Nat} {v : Value} {k n : Nat} {e : Ending} (hf : MarkedI w base v k n e w') : Fr (fun b => v.ownBlock = some b) w w' :=
  ⟨hf.2.2.os, hf.2.2.tape, hf.2.2.output, hf.2.2.size, fun b hb hn => hf.2.2.block b hb (fun e => hn e.symm)⟩

def CopiedI2 (l : List Int) (w : World) (e : Ending) (w' : World) : Prop := ∃ v, e = .returned v ∧ NumRow w' w.heap.size v l ∧ Below w.heap.size w w'
theorem copyI2_any (w : World) (S : Nat → Prop) (l : List Int) (a : Option Addr) (c : Nat) (h : IntsAt w S l a c) (hle : l.length ≤ 1048576) :
    Calls Try.prog 9 #[.slice a l.length c] w (CopiedI2 l w) := by
  have H := Lib.hid h
  obtain ⟨i0, hi, hz0, hz1, hz2⟩ := info_parts infoInt
  have hmk := fun W => run_make_rowN (P := Try.prog) 26 3 i0 _ Try.underlying26 hi hz0 .i64 .i64 l.length l.length (Nat.le_refl _) (by rw [hz2]; omega) (by omega) W
  rw [hz1] at hmk
  clear h
  go_enter Try.func9, Try.ntmps9
  go_wp2_with fail
  clear hmk
  have hm1 : (madeCells #[Value.int IntKind.i64 0] l.length).size = l.length := by rw [size_madeCells]
  have HI0 := Lib.hid (show IRow (w.alloc (.cells (madeCells #[Value.int IntKind.i64 0] l.length) 3)) w.heap.size l.length [] from ⟨_, heap_alloc_new w _, hm1, by simp⟩)
  clear hm1
  go_loopw [4] (fun i wr => ∃ k : Nat, k ≤ l.length ∧ i = .int .i64 k ∧ IRow wr w.heap.size l.length (l.take k) ∧ Below w.heap.size w wr) (fun i _ => l.length - (intOf i).toNat)
  case atStart => exact ⟨0, by omega, rfl, by simpa using HI0.out, (Below.refl _ _).alloc (Nat.le_refl _) _⟩
  case round =>
    obtain ⟨k, hk, rfl, hr, hb⟩ := hrel
    have HB := Lib.hid hb
    have HR := Lib.hid hr
    clear hb HI0
    by_cases hlt : k < l.length
    · obtain ⟨b, o, rfl, hbl, _, hc⟩ := H.out.get HB.out hlt
      obtain ⟨cs, hbk, hcs, hcl⟩ := hr
      have hf := hbk.frozen k
      have hx : wr.cell? ⟨w.heap.size, k, none⟩ = some (cs[k]'(by omega)) := by rw [hbk.cell k]; simp
      obtain ⟨y, hy⟩ : ∃ y, y = cs[k]'(by omega) := ⟨_, rfl⟩
      rw [← hy] at hx
      have hset := hbk.set_ k (.int .i64 l[k])
      have HN := Lib.hid (show IRow (wr.setCell ⟨w.heap.size, k, none⟩ (.int .i64 l[k])) w.heap.size l.length (l.take (k + 1)) from ⟨_, hset, by simp [hcs], fun i hi => by
        have hi' : i < k + 1 ∧ i < l.length := by rw [List.length_take] at hi; omega
        by_cases hik : i = k
        · subst hik
          simp [Array.getElem?_setIfInBounds, hcs]
          omega
        · have := hcl i (by simp; omega)
          simp only [List.getElem_take] at this ⊢
          simp [Array.getElem?_setIfInBounds, this]
          omega⟩)
      have HB' := Lib.hid (HB.out.setCell (p := ⟨w.heap.size, k, none⟩) (Nat.le_refl _) (.int .i64 l[k]))
      clear hset hcl hbk hcs hy
      obtain ⟨x, hxe⟩ : ∃ x, x = l[k] := ⟨_, rfl⟩
      rw [← hxe] at hc HN HB'
      clear hxe
      go_wp2_with fail
      go_roundw
      case rel => exact ⟨k + 1, by omega, by go_num, HN.out, HB'.out⟩
      case measure => simp [intOf]; omega
    · have hq : l.take k = l := List.take_of_length_le (by omega)
      rw [hq] at HR
      clear hq hr
      go_wp2_with fail
      go_ret
      obtain ⟨cs, hbk, hcs, hcl⟩ := HR.out
      exact ⟨_, rfl, ⟨by simp, .inr ⟨w.heap.size, l.length, cs, rfl, Nat.le_refl _, hbk, Nat.le_refl _, (by show l.length ≤ 9223372036854775807; omega), by omega, List.ext_getElem (by simp [hcs]) fun i h1 h2 => by
        have h := hcl i (by simpa using h2)
        obtain ⟨_, h⟩ := Array.getElem?_eq_some_iff.1 h
        simp [h]⟩⟩, HB.out⟩
end Go.Proofs.Ytochgmbeomfkpaa
/- impl.TaskFetches, spec.TaskFetches -/
namespace Go.Proofs.Ytochgmbeomfkpaa
open Go.RowKit

theorem noting_fetcher (S : Nat → Prop) (lv : List Int) (a : Option Addr) (c gv gf gn gl base : Nat) (hv : vok lv = true) : Fetcher 102 #[.pointer (some ⟨gf, 0, none⟩), .pointer (some ⟨gn, 0, none⟩)] (vf lv) (NoteI S lv a c gv gf gn gl base) where
  call := by
    intro ks D w k h0 h9 hk hI
    exact noting_any S lv a c gv gf gn gl base ks D w k h0 h9 hk hI
  below := by
    rintro ks D w w' ⟨hl, hv, hf, hn, ⟨b1, b2, b3, b4, b5, b6, b7, b8, b9⟩, vo, ho, hr, hD⟩ h
    exact ⟨hl.below h, hv.below h hv.lt, hf.below h hf.lt, hn.below h hn.lt, ⟨b1, b2, b3, b4, b5, b6, b7, b8, Nat.le_trans b9 h.size⟩, vo, ho.below h ho.lt,
      World.ownsRow.kept (row := none) hr ⟨h.os, h.tape, h.output, h.size, fun i hi _ => h.block i hi⟩ (Classical.em _), hD⟩
  bd := vf_bd (vok_mem hv).2
  lt := by
    rintro ks D w ⟨hl, hv, hf, hn, _, vo, ho, hr, hD⟩ b hb
    rcases (hD b).1 hb with rfl | h
    · exact ho.lt
    · exact (hr.lt b h).2
  enters := enters_of Try.func102 (by kernel_rfl) rfl

theorem noting_new (w : World) (f f' : FuncId) (cs cs' : Array Value) : Calls Try.prog 89 #[.func (.func f) #[] cs, .func (.func f') #[] cs'] w fun e w' => e = .returned (.func (.func 102) #[] #[.pointer (some ⟨w.heap.size, 0, none⟩), .pointer (some ⟨w.heap.size + 1, 0, none⟩)]) ∧ w' = (w.alloc (.cells #[.func (.func f) #[] cs] 119)).alloc (.cells #[.func (.func f') #[] cs'] 122) := by
  have hmf : ∀ (fn : Fn) (first cap : Array Value) (w : World), (Instr.makeFunc fn first cap).run Try.prog w = .ok (.func fn first cap) w := fun _ _ _ _ => rfl
  go_enter Try.func89, Try.ntmps89
  go_wp2_with fail
  go_ret
  exact ⟨rfl, rfl⟩

/-- What TaskFetches leaves. -/
def FetPost (t : T) (lv : List Int) (w : World) (e : Ending) (w' : World) : Prop :=
  Below w.heap.size w w' ∧ if (t.ok && vok lv) = true then ∃ vo, e = .returned (.tuple #[vo, .bool true]) ∧ FeRow (vf lv) w' w.heap.size vo (t.kys (vf lv)) else ∃ vo, e = .returned (.tuple #[vo, .bool false]) ∧ FeRow (vf lv) w' w.heap.size vo []

/-- The world in which reckon is called by TaskFetches. -/
def noteW (w : World) (s : Value) : World :=
  ((((w.alloc (.cells #[.slice none 0 0] 102)).alloc (.cells #[s] 26)).alloc (.cells #[.func (.func 103) #[] #[.pointer (some ⟨w.heap.size + 1, 0, none⟩)]] 119)).alloc
    (.cells #[.func (.func 91) #[] #[.pointer (some ⟨w.heap.size, 0, none⟩)]] 122)).drew
theorem noteW_size (w : World) (s : Value) : (noteW w s).heap.size = w.heap.size + 4 := by simp [noteW]
theorem noteW_below (w : World) (s : Value) : Below w.heap.size w (noteW w s) :=
  (((((Below.refl _ _).alloc (Nat.le_refl _) _).alloc (by simp) _).alloc (by simp; omega) _).alloc (by simp; omega) _).drew
theorem noteW_I (w : World) (S : Nat → Prop) (lv : List Int) (a : Option Addr) (c : Nat) (hl : IntsAt w S lv a c) (hS : ∀ b, S b → b < w.heap.size) :
    NoteI S lv a c (w.heap.size + 1) (w.heap.size + 2) (w.heap.size + 3) w.heap.size (w.heap.size + 4) [] (fun b => b = w.heap.size) (noteW w (.slice a lv.length c)) := by
  have h0 := (((Blk.new w 102 #[.slice none 0 0]).alloc (.cells #[.slice a lv.length c] 26)).alloc (.cells #[.func (.func 103) #[] #[.pointer (some ⟨w.heap.size + 1, 0, none⟩)]] 119)).alloc (.cells #[.func (.func 91) #[] #[.pointer (some ⟨w.heap.size, 0, none⟩)]] 122)
  have h1 := ((Blk.new (w.alloc (.cells #[.slice none 0 0] 102)) 26 #[.slice a lv.length c]).alloc (.cells #[.func (.func 103) #[] #[.pointer (some ⟨w.heap.size + 1, 0, none⟩)]] 119)).alloc (.cells #[.func (.func 91) #[] #[.pointer (some ⟨w.heap.size, 0, none⟩)]] 122)
  have h2 := (Blk.new ((w.alloc (.cells #[.slice none 0 0] 102)).alloc (.cells #[.slice a lv.length c] 26)) 119 #[.func (.func 103) #[] #[.pointer (some ⟨w.heap.size + 1, 0, none⟩)]]).alloc (.cells #[.func (.func 91) #[] #[.pointer (some ⟨w.heap.size, 0, none⟩)]] 122)
  have h3 := Blk.new (((w.alloc (.cells #[.slice none 0 0] 102)).alloc (.cells #[.slice a lv.length c] 26)).alloc (.cells #[.func (.func 103) #[] #[.pointer (some ⟨w.heap.size + 1, 0, none⟩)]] 119)) 122 #[.func (.func 91) #[] #[.pointer (some ⟨w.heap.size, 0, none⟩)]]
  simp only [World.size_alloc] at h1 h2 h3
  refine ⟨hl.below (noteW_below w _), h1, h2, h3, ⟨by omega, by omega, by omega, by omega, by omega, by omega, by omega, fun b hb => ⟨by have := hS b hb; omega, by have := hS b hb; omega⟩, by rw [noteW_size]; omega⟩, .slice none 0 0, h0, World.ownsRow_nil _ _ _ _, fun b => ?_⟩
  simp [Value.ownBlock]

set_option maxHeartbeats 2000000 in
theorem implFetches_any (t : T) (lv : List Int) (w : World) (S S' : Nat → Prop) (a a' : Option Addr) (c c' : Nat) (hat : AtS w S t.ps a c) (hl : IntsAt w S' lv a' c') :
    Calls Try.prog 74 #[.agg #[.int .i64 t.k, .int .i64 t.n, .slice a t.ps.length c], .slice a' lv.length c'] w (FetPost t lv w) := by
  have K0 := Lib.hid (Kp.start (ty := 71) hat.lim)
  have L0 := Lib.hid (hl.lim.alloc (.cells #[.int .i64 t.k, .int .i64 t.n, .slice a t.ps.length c] 71))
  clear hat hl
  cases hv : t.ok
  · have HV := Lib.hid hv
    have hx : FetPost t lv w = fun e w' => Below w.heap.size w w' ∧ ∃ vo, e = .returned (.tuple #[vo, .bool false]) ∧ FeRow (vf lv) w' w.heap.size vo [] := by unfold FetPost; simp [hv]
    have HX := Lib.hid hx
    clear hv hx
    go_enter Try.func74, Try.ntmps74
    go_wp2_with fail
    refine (implOk_any t _ _ a c K0.out.2).mono ?_
    rintro e w1 ⟨rfl, hb⟩
    rw [HV.out]
    have K1 := Lib.hid (K0.out.step hb)
    clear hb K0
    go_wp2_with fail
    go_ret2
    rw [HX.out]
    exact ⟨K1.out.done, _, rfl, World.ownsRow_nil _ _ _ _⟩
  cases hu : vok lv
  · have HV := Lib.hid hv
    have HU := Lib.hid hu
    have hx : FetPost t lv w = fun e w' => Below w.heap.size w w' ∧ ∃ vo, e = .returned (.tuple #[vo, .bool false]) ∧ FeRow (vf lv) w' w.heap.size vo [] := by unfold FetPost; simp [hu]
    have HX := Lib.hid hx
    clear hv hu hx
    go_enter Try.func74, Try.ntmps74
    go_wp2_with fail
    refine (implOk_any t _ _ a c K0.out.2).mono ?_
    rintro e w1 ⟨rfl, hb⟩
    rw [HV.out]
    have K1 := Lib.hid (K0.out.step hb)
    have L1 := Lib.hid (L0.out.below hb)
    clear hb K0 L0
    go_wp2_with fail
    refine (implVals_any _ _ lv a' c' L1.out).mono ?_
    rintro e w2 ⟨rfl, rfl⟩
    rw [HU.out]
    go_wp2_with fail
    go_ret2
    rw [HX.out]
    exact ⟨K1.out.done, _, rfl, World.ownsRow_nil _ _ _ _⟩
  · have HV := Lib.hid hv
    have HU := Lib.hid hu
    have hfn : t.fit = true ∧ t.nodes ≤ 15 := by simpa [T.ok] using hv
    have HFN := Lib.hid hfn
    have hx : FetPost t lv w = fun e w' => Below w.heap.size w w' ∧ ∃ vo, e = .returned (.tuple #[vo, .bool true]) ∧ FeRow (vf lv) w' w.heap.size vo (t.kys (vf lv)) := by unfold FetPost; simp [hv, hu]
    have HX := Lib.hid hx
    clear hv hu hx hfn
    have hmf : ∀ (fn : Fn) (first cap : Array Value) (w : World), (Instr.makeFunc fn first cap).run Try.prog w = .ok (.func fn first cap) w := fun _ _ _ _ => rfl
    go_enter Try.func74, Try.ntmps74
    go_wp2_with fail
    refine (implOk_any t _ _ a c K0.out.2).mono ?_
    rintro e w1 ⟨rfl, hb⟩
    rw [HV.out]
    have K1 := Lib.hid (K0.out.step hb)
    have L1 := Lib.hid (L0.out.below hb)
    clear hb K0 L0
    go_wp2_with fail
    refine (implVals_any _ _ lv a' c' L1.out).mono ?_
    rintro e w2 ⟨rfl, rfl⟩
    rw [HU.out]
    have hsz := K1.out.1.size
    simp only [World.size_alloc] at hsz
    obtain ⟨x0, x1, x2⟩ := K1.out.box
    go_wp2_with fail
    have hn15 := HFN.out.2
    have hlt : w.heap.size < w1.heap.size := by omega
    have hltn : w.heap.size ≠ w1.heap.size := by omega
    have hlt1 : w.heap.size < w1.heap.size + 1 := by omega
    have hltn1 : w.heap.size ≠ w1.heap.size + 1 := by omega
    have hlt2 : w.heap.size < w1.heap.size + 1 + 1 := by omega
    have hltn2 : w.heap.size ≠ w1.heap.size + 1 + 1 := by omega
    have hlt3 : w.heap.size < w1.heap.size + 1 + 1 + 1 := by omega
    have hltn3 : w.heap.size ≠ w1.heap.size + 1 + 1 + 1 := by omega
    have HNI := Lib.hid (noteW_I w1 _ lv a' c' L1.out (fun b hb => by omega))
    have HNA := Lib.hid (K1.out.2.below (noteW_below w1 (.slice a' lv.length c')))
    have HNS := Lib.hid (noteW_size w1 (.slice a' lv.length c'))
    have HNB := Lib.hid (noteW_below w1 (.slice a' lv.length c'))
    go_region_with (first | (go_at_call 90; refine (fetchFrom_any _ _ _ _).mono ?_; rintro e w3 ⟨rfl, rfl⟩) | (go_at_call 89; refine (noting_new _ _ _ _ _).mono ?_; rintro e w4 ⟨rfl, rfl⟩) | (go_at_call 76; refine (reck_all (noting_fetcher _ lv a' c' (w1.heap.size + 1) (w1.heap.size + 2) (w1.heap.size + 3) w1.heap.size (w1.heap.size + 4) HU.out) t (noteW w1 (.slice a' lv.length c')) _ a c [] (fun b => b = w1.heap.size) HFN.out.1 HNA.out (fun b hb => ⟨by rw [HNS.out]; omega, by omega⟩) HNI.out (by simp; omega)).mono ?_; rintro e w5 ⟨rfl, D', hI, hfr, hd⟩))
    all_goals
      obtain ⟨_, _, _, _, _, vo, ho, hr, hD⟩ := hI
      have hx0 : w5.cell? ⟨w1.heap.size, 0, none⟩ = some vo := ho.cell 0
      have hb5 : Below w.heap.size w w5 := K1.out.done.trans ((HNB.out.mono (by omega)).trans ⟨hfr.1, hfr.2.1, hfr.2.2.1, hfr.2.2.2.1, fun b hb => hfr.2.2.2.2 b (by rw [HNS.out]; omega) (by omega)⟩)
      have H5 := Lib.hid (And.intro hb5 (ownsRow_low hr (b' := w.heap.size) (by omega)))
      clear ho hr hD hfr hd hb5 x0 x1 x2 hlt hltn hlt1 hltn1 hlt2 hltn2 hlt3 hltn3
      go_wp2_with fail
      go_ret2
      rw [HX.out]
      exact ⟨H5.out.1, vo, rfl, by have h := H5.out.2; rw [List.nil_append] at h; exact h⟩

end Go.Proofs.Ytochgmbeomfkpaa
/- what was fetched, as a list that is read; impl.TaskSame -/
namespace Go.Proofs.Ytochgmbeomfkpaa
open Go.RowKit

/-- The slice value '.slice a ks.length c' holds what was fetched of the keys ks. -/
def FetAt (vs : Int → Int) (w : World) (S : Nat → Prop) (ks : List Int) (a : Option Addr) (c : Nat) : Prop :=
  ks.length ≤ c ∧ c ≤ 9223372036854775807 ∧ (ks = [] ∨ ∃ b o, a = some ⟨b, o, none⟩ ∧ S b ∧ ∀ i (h : i < ks.length), w.cell? ⟨b, o + i * 2, none⟩ = some (.int .i64 ks[i]) ∧ w.cell? ⟨b, o + i * 2 + 1, none⟩ = some (.int .i64 (vs ks[i])))

section
variable {vs : Int → Int} {w w' : World} {S S' : Nat → Prop} {ks : List Int} {a : Option Addr} {c : Nat}
theorem FetAt.keep (hS : ∀ b, S b → S' b) (hk : ∀ b, S b → b < w.heap.size → w'.heap[b]? = w.heap[b]?) (h : FetAt vs w S ks a c) : FetAt vs w' S' ks a c := by
  obtain ⟨h1, h2, h4⟩ := h
  refine ⟨h1, h2, ?_⟩
  rcases h4 with h4 | ⟨b, o, ha, hb, hc⟩
  · exact .inl h4
  · refine .inr ⟨b, o, ha, hS b hb, fun i hi => ?_⟩
    have := hc i hi
    have e := hk b hb (cell_lt this.1)
    exact ⟨(World.cell?_of_block (w := w) (a := ⟨b, o + i * 2, none⟩) e).trans this.1, (World.cell?_of_block (w := w) (a := ⟨b, o + i * 2 + 1, none⟩) e).trans this.2⟩
theorem FetAt.below (h : FetAt vs w S ks a c) (hb : Below w.heap.size w w') : FetAt vs w' S ks a c := h.keep (fun _ h => h) (fun b _ hl => hb.block b hl)
theorem FetAt.get (h : FetAt vs w S ks a c) (hb : Below w.heap.size w w') {i : Nat} (hi : i < ks.length) :
    ∃ b o, a = some ⟨b, o, none⟩ ∧ b < w.heap.size ∧ S b ∧ w'.cell? ⟨b, o + i * 2, none⟩ = some (.int .i64 ks[i]) ∧ w'.cell? ⟨b, o + i * 2 + 1, none⟩ = some (.int .i64 (vs ks[i])) := by
  rcases h.2.2 with rfl | ⟨b, o, ha, hS, hc⟩
  · simp at hi
  · have := hc i hi
    have hlt := cell_lt this.1
    exact ⟨b, o, ha, hlt, hS, (hb.cell (p := ⟨b, o + i * 2, none⟩) hlt).trans this.1, (hb.cell (p := ⟨b, o + i * 2 + 1, none⟩) hlt).trans this.2⟩
end

theorem fc_get (vs : Int → Int) : ∀ (l : List Int) (i : Nat) (h : i < l.length), (fc vs l)[i * 2]? = some (.int .i64 l[i]) ∧ (fc vs l)[i * 2 + 1]? = some (.int .i64 (vs l[i]))
  | [], i, h => by simp at h
  | k :: r, 0, h => by simp [fc]
  | k :: r, i + 1, h => by
    have := fc_get vs r i (by simpa using h)
    rw [show (i + 1) * 2 = i * 2 + 2 by omega]
    simpa [fc] using this

theorem FeRow.at {vs : Int → Int} {w : World} {base : Nat} {v : Value} {ks : List Int} (h : FeRow vs w base v ks) : ∃ a c, v = .slice a ks.length c ∧ FetAt vs w (fun b => base ≤ b) ks a c := by
  have h' := h
  obtain ⟨_, ⟨rfl, h0⟩ | ⟨g, cap, cur, rfl, hb, hh, hn, hc, hz, _⟩⟩ := h
  · obtain rfl : ks = [] := List.length_eq_zero_iff.1 h0
    exact ⟨none, 0, rfl, by simp, by omega, .inl rfl⟩
  · refine ⟨_, _, rfl, hn, hc, .inr ⟨g, 0, rfl, hb, fun i hi => ?_⟩⟩
    have e : ∀ j, (⟨g, 0, none⟩ : Addr).add j = ⟨g, 0 + j, none⟩ := fun j => by unfold Addr.add; split <;> simp_all
    have h1 := h'.cells (g := g) rfl (i * 2) _ (fc_get vs ks i hi).1
    have h2 := h'.cells (g := g) rfl (i * 2 + 1) _ (fc_get vs ks i hi).2
    rw [e] at h1 h2
    exact ⟨h1, h2⟩

/-- The two lists of values agree in these keys. -/
def agree (x y : List Int) (ks : List Int) : Bool := ks.all fun k => decide (vf y k = vf x k)
def tSame (t : T) (x y : List Int) : Bool := (t.ok && vok x) && (vok y && agree x y (t.kys (vf x)))

end Go.Proofs.Ytochgmbeomfkpaa
/- spec.l2Has, spec.l2Uses, spec.TaskUses, spec.TaskSame -/
namespace Go.Proofs.Ytochgmbeomfkpaa
open Go.RowKit

theorem mem_take_succ {l : List Int} {k : Nat} (h : k < l.length) (n : Int) : n ∈ l.take (k + 1) ↔ n ∈ l.take k ∨ n = l[k] := by
  rw [List.take_succ_eq_append_getElem h, List.mem_append, List.mem_singleton]

/-- spec.l2Has -/
theorem has_any (w : World) (S : Nat → Prop) (l : List Int) (a : Option Addr) (c : Nat) (n : Int) (h : IntsAt w S l a c) :
    Calls Try.prog 29 #[.slice a l.length c, .int .i64 n] w fun e w' => e = .returned (.bool (decide (n ∈ l))) ∧ w = w' := by
  have hlen : l.length ≤ 9223372036854775807 := by have := h.1; have := h.2.1; omega
  have H := Lib.hid h
  obtain ⟨r, hr⟩ : ∃ r, r = decide (n ∈ l) := ⟨_, rfl⟩
  have HR := Lib.hid hr
  rw [← hr]
  clear h hr
  go_enter Try.func29, Try.ntmps29
  go_wp2_with fail
  go_loop [5] (fun i => ∃ k : Nat, k ≤ l.length ∧ i = .int .i64 k ∧ ¬ n ∈ l.take k) (fun i => l.length - (intOf i).toNat)
  case atStart => exact ⟨0, by omega, rfl, by simp⟩
  case round =>
    obtain ⟨k, hk, rfl, hq⟩ := hrel
    have HQ := Lib.hid hq
    clear hq
    by_cases hlt : k < l.length
    · obtain ⟨b, o, rfl, hbl, _, hc⟩ := H.out.get (Below.refl _ _) hlt
      have HM := Lib.hid (mem_take_succ hlt n)
      have HE := Lib.hid (List.getElem_mem hlt)
      obtain ⟨v, hv⟩ : ∃ v, v = l[k] := ⟨_, rfl⟩
      rw [← hv] at hc
      have HVV := Lib.hid hv
      clear hv
      by_cases hvn : v = n
      · have hd : (v == n) = true := by simpa using hvn
        have hrt : r = true := by rw [HR.out, decide_eq_true_eq, ← hvn, HVV.out]; exact HE.out
        have HRT := Lib.hid hrt
        clear hrt hvn
        go_wp2_with fail
        go_ret
        exact ⟨ret_bool HRT.out.symm, rfl⟩
      · have hd : (v == n) = false := by simpa using hvn
        have HVN := Lib.hid hvn
        clear hvn
        go_wp2_with fail
        go_round
        case rel => exact ⟨k + 1, by omega, by go_num, fun h => by
          rcases HM.out.1 h with h | h
          · exact HQ.out h
          · exact HVN.out (by rw [HVV.out, h])⟩
        case measure => simp [intOf]; omega
    · have hrf : r = false := by
        have := HQ.out
        rw [List.take_of_length_le (by omega)] at this
        rw [HR.out]; exact decide_eq_false this
      have HRF := Lib.hid hrf
      clear hrf
      go_wp2_with fail
      go_ret
      exact ⟨ret_bool HRF.out.symm, rfl⟩

/-- Each key once, in the order in which they come first. -/
def ustep (acc : List Int) (k : Int) : List Int := if k ∈ acc then acc else acc ++ [k]
def usesL (ks : List Int) : List Int := ks.foldl ustep []
theorem usesL_snoc {ks : List Int} {k : Nat} (h : k < ks.length) : usesL (ks.take (k + 1)) = ustep (usesL (ks.take k)) ks[k] := by
  unfold usesL
  rw [List.take_succ_eq_append_getElem h, List.foldl_append]
  rfl
theorem ustep_mem {acc : List Int} {k x : Int} : x ∈ ustep acc k ↔ x ∈ acc ∨ x = k := by
  unfold ustep
  split
  · rename_i h
    constructor
    · exact .inl
    · rintro (h' | rfl)
      · exact h'
      · exact h
  · simp
theorem foldl_ustep_mem : ∀ (ks acc : List Int) (x : Int), x ∈ ks.foldl ustep acc ↔ x ∈ acc ∨ x ∈ ks
  | [], acc, x => by simp
  | k :: r, acc, x => by
    rw [List.foldl_cons, foldl_ustep_mem r, ustep_mem, List.mem_cons]
    constructor
    · rintro ((h | h) | h)
      · exact .inl h
      · exact .inr (.inl h)
      · exact .inr (.inr h)
    · rintro (h | h | h)
      · exact .inl (.inl h)
      · exact .inl (.inr h)
      · exact .inr h
theorem usesL_mem {ks : List Int} {x : Int} : x ∈ usesL ks ↔ x ∈ ks := by unfold usesL; rw [foldl_ustep_mem]; simp
theorem foldl_ustep_len : ∀ (ks acc : List Int), (ks.foldl ustep acc).length ≤ acc.length + ks.length
  | [], acc => by simp
  | k :: r, acc => by
    have := foldl_ustep_len r (ustep acc k)
    have h2 : (ustep acc k).length ≤ acc.length + 1 := by unfold ustep; split <;> simp
    simp only [List.foldl_cons, List.length_cons]
    omega
theorem usesL_len (ks : List Int) : (usesL ks).length ≤ ks.length := by have := foldl_ustep_len ks []; simpa [usesL] using this

def UsesPost (ks : List Int) (w : World) (e : Ending) (w' : World) : Prop := ∃ v, e = .returned v ∧ NumRow w' w.heap.size v (usesL ks) ∧ Below w.heap.size w w'

/-- What TaskUses leaves. -/
def UsPost (t : T) (lv : List Int) (w : World) (e : Ending) (w' : World) : Prop :=
  Below w.heap.size w w' ∧ ∃ v, e = .returned (.tuple #[v, .bool (t.ok && vok lv)]) ∧ NumRow w' w.heap.size v (if (t.ok && vok lv) = true then usesL (t.kys (vf lv)) else [])

theorem kys_ok {t : T} {lv : List Int} (h : (t.ok && vok lv) = true) : (∀ k ∈ t.kys (vf lv), 0 ≤ k ∧ k ≤ 9) ∧ (t.kys (vf lv)).length ≤ 15 := by
  simp only [Bool.and_eq_true] at h
  have hfn : t.fit = true ∧ t.nodes ≤ 15 := by simpa [T.ok] using h.1
  have := T.kys_bd (vf lv) t hfn.1
  exact ⟨this.1, by omega⟩

theorem agree_uses (x y : List Int) (ks : List Int) : agree x y (usesL ks) = agree x y ks := by
  unfold agree
  rw [Bool.eq_iff_iff, List.all_eq_true, List.all_eq_true]
  exact ⟨fun h k hk => h k (usesL_mem.2 hk), fun h k hk => h k (usesL_mem.1 hk)⟩
end Go.Proofs.Ytochgmbeomfkpaa
/- slices.Contains at numbers; impl.TaskUses -/
namespace Go.Proofs.Ytochgmbeomfkpaa
open Go.RowKit

def IndexPost (l : List Int) (n : Int) (w : World) (e : Ending) (w' : World) : Prop := ∃ r : Int, e = .returned (.int .i64 r) ∧ decide (0 ≤ r) = decide (n ∈ l) ∧ w = w'

theorem index_any (w : World) (S : Nat → Prop) (l : List Int) (a : Option Addr) (c : Nat) (n : Int) (h : IntsAt w S l a c) :
    Calls Try.prog 87 #[.slice a l.length c, .int .i64 n] w (IndexPost l n w) := by
  have hlen : l.length ≤ 9223372036854775807 := by have := h.1; have := h.2.1; omega
  have H := Lib.hid h
  clear h
  go_enter Try.func87, Try.ntmps87
  go_wp2_with fail
  go_loop [8] (fun i => ∃ k : Nat, k ≤ l.length ∧ i = .int .i64 k ∧ ¬ n ∈ l.take k) (fun i => l.length - (intOf i).toNat)
  case atStart => exact ⟨0, by omega, rfl, by simp⟩
  case round =>
    obtain ⟨k, hk, rfl, hq⟩ := hrel
    have HQ := Lib.hid hq
    clear hq
    by_cases hlt : k < l.length
    · obtain ⟨b, o, rfl, hbl, _, hc⟩ := H.out.get (Below.refl _ _) hlt
      have HM := Lib.hid (mem_take_succ hlt n)
      have HE := Lib.hid (List.getElem_mem hlt)
      obtain ⟨v, hv⟩ : ∃ v, v = l[k] := ⟨_, rfl⟩
      rw [← hv] at hc
      have HVV := Lib.hid hv
      clear hv
      by_cases hvn : n = v
      · have hd : (n == v) = true := by simpa using hvn
        have hrt : n ∈ l := by rw [hvn, HVV.out]; exact HE.out
        have HRT := Lib.hid hrt
        clear hrt hvn
        go_wp2_with fail
        go_ret
        exact ⟨k, rfl, by rw [decide_eq_true HRT.out, decide_eq_true (by omega)], rfl⟩
      · have hd : (n == v) = false := by simpa using hvn
        have HVN := Lib.hid hvn
        clear hvn
        go_wp2_with fail
        go_round
        case rel => exact ⟨k + 1, by omega, by go_num, fun h => by
          rcases HM.out.1 h with h | h
          · exact HQ.out h
          · exact HVN.out (by rw [HVV.out, h])⟩
        case measure => simp [intOf]; omega
    · have hrf : ¬ n ∈ l := by
        have := HQ.out
        rwa [List.take_of_length_le (by omega)] at this
      have HRF := Lib.hid hrf
      clear hrf
      go_wp2_with fail
      go_ret
      exact ⟨-1, rfl, by rw [decide_eq_false HRF.out]; rfl, rfl⟩

theorem contains_any (w : World) (S : Nat → Prop) (l : List Int) (a : Option Addr) (c : Nat) (n : Int) (h : IntsAt w S l a c) :
    Calls Try.prog 68 #[.slice a l.length c, .int .i64 n] w fun e w' => e = .returned (.bool (decide (n ∈ l))) ∧ w = w' := by
  have H := Lib.hid h
  obtain ⟨r, hr⟩ : ∃ r, r = decide (n ∈ l) := ⟨_, rfl⟩
  have HR := Lib.hid hr
  rw [← hr]
  clear h hr
  go_enter Try.func68, Try.ntmps68
  go_wp2_with fail
  refine (index_any w S l a c n H.out).mono ?_
  rintro e w' ⟨q, rfl, hq, rfl⟩
  have HQ := Lib.hid hq
  clear hq
  go_wp2_with fail
  go_ret
  exact ⟨ret_bool (by rw [HR.out, ← HQ.out]), rfl⟩

set_option maxHeartbeats 2000000 in
theorem implUses_any (t : T) (lv : List Int) (w : World) (S S' : Nat → Prop) (a a' : Option Addr) (c c' : Nat) (hat : AtS w S t.ps a c) (hl : IntsAt w S' lv a' c') :
    Calls Try.prog 46 #[.agg #[.int .i64 t.k, .int .i64 t.n, .slice a t.ps.length c], .slice a' lv.length c'] w (UsPost t lv w) := by
  have K0 := Lib.hid (Kp.start (ty := 71) hat.lim)
  have L0 := Lib.hid (hl.alloc (.cells #[.int .i64 t.k, .int .i64 t.n, .slice a t.ps.length c] 71))
  clear hat hl
  cases hv : (t.ok && vok lv)
  · have HV := Lib.hid hv
    have hx : UsPost t lv w = fun e w' => Below w.heap.size w w' ∧ ∃ v, e = .returned (.tuple #[v, .bool false]) ∧ NumRow w' w.heap.size v [] := by unfold UsPost; rw [hv, if_neg (by decide)]
    have HX := Lib.hid hx
    clear hv hx
    go_enter Try.func46, Try.ntmps46
    go_wp2_with fail
    refine (implFetches_any t lv _ _ _ a a' c c' K0.out.2 L0.out).mono ?_
    rintro e w1 ⟨hb, hm⟩
    rw [HV.out, if_neg (by decide)] at hm
    obtain ⟨vo, rfl, _⟩ := hm
    have K1 := Lib.hid (K0.out.step hb)
    clear hb K0
    go_wp2_with fail
    go_ret2
    rw [HX.out]
    exact ⟨K1.out.done, _, rfl, World.ownsRow_nil _ _ _ _⟩
  · have HV := Lib.hid hv
    have hx : UsPost t lv w = fun e w' => Below w.heap.size w w' ∧ ∃ v, e = .returned (.tuple #[v, .bool true]) ∧ NumRow w' w.heap.size v (usesL (t.kys (vf lv))) := by unfold UsPost; rw [hv, if_pos rfl]
    have HX := Lib.hid hx
    have hkb := kys_ok hv
    obtain ⟨ks, hks⟩ : ∃ ks, ks = t.kys (vf lv) := ⟨_, rfl⟩
    rw [← hks] at hkb HX
    have HKS := Lib.hid hks
    have hkl := hkb.2
    have HKB := Lib.hid hkb.1
    obtain ⟨iN, ni, nz0, nz1, nz2⟩ := info_parts infoInt
    have HIN := Lib.hid (And.intro ni (And.intro nz0 (And.intro nz1 nz2)))
    have hml : maxLen = 9223372036854775807 := rfl
    have HML := Lib.hid hml
    clear hv hx hkb hks ni nz0 nz1 nz2 hml
    go_enter Try.func46, Try.ntmps46
    go_wp2_with fail
    refine (implFetches_any t lv _ _ _ a a' c c' K0.out.2 L0.out).mono ?_
    rintro e w1 ⟨hb, hm⟩
    rw [HV.out, if_pos rfl, ← HKS.out] at hm
    obtain ⟨vo, rfl, hrow⟩ := hm
    obtain ⟨a3, c3, rfl, hfe⟩ := hrow.at
    have K1 := Lib.hid (K0.out.step hb).done
    have HF := Lib.hid hfe
    have hs1 := K1.out.size
    clear hb K0 L0 hrow hfe
    go_wp2_with fail
    go_loopw [8, 21] (fun v i wr => ∃ k : Nat, k ≤ ks.length ∧ i = .int .i64 k ∧ NumRow wr w.heap.size v (usesL (ks.take k)) ∧ Below w1.heap.size w1 wr ∧ (∀ b, v.ownBlock = some b → w1.heap.size ≤ b)) (fun _ i _ => ks.length - (intOf i).toNat)
    case atStart => exact ⟨0, by omega, rfl, World.ownsRow_nil _ _ _ _, Below.refl _ _, by simp [Value.ownBlock]⟩
    case round =>
      obtain ⟨k, hk, rfl, hn, hb, hge⟩ := hrel
      have HB := Lib.hid hb
      have HN := Lib.hid hn
      have HGE := Lib.hid hge
      have hwr := hb.size
      clear hb hge
      by_cases hlt : k < ks.length
      · obtain ⟨b, o, rfl, hbl, _, e0, e1⟩ := HF.out.get HB.out hlt
        obtain ⟨acc, hacc⟩ : ∃ acc, acc = usesL (ks.take k) := ⟨_, rfl⟩
        have hal : acc.length ≤ 100 := by rw [hacc]; have := usesL_len (ks.take k); simp at this; omega
        obtain ⟨a1, c1, hv1, hia⟩ := hn.at (fun x hx => by
          have := HKB.out x (List.mem_of_mem_take (usesL_mem.1 hx))
          unfold i64ok; omega)
        rw [← hacc] at hv1 hia HN
        subst hv1
        have HSN := Lib.hid (show usesL (ks.take (k + 1)) = ustep acc ks[k] by rw [usesL_snoc hlt, hacc])
        obtain ⟨key, hkey⟩ : ∃ key, key = ks[k] := ⟨_, rfl⟩
        obtain ⟨u, hu⟩ : ∃ u, u = vf lv ks[k] := ⟨_, rfl⟩
        rw [← hkey] at e0 HSN
        rw [← hu] at e1
        have HIA := Lib.hid (hia.alloc (.cells #[.int .i64 key, .int .i64 u] 106))
        have HN1 := Lib.hid (World.ownsRow.alloc HN.out (.cells #[.int .i64 key, .int .i64 u] 106))
        have HB1 := Lib.hid (HB.out.alloc hwr (.cells #[.int .i64 key, .int .i64 u] 106))
        clear hacc hn hia hkey hu
        by_cases hin : key ∈ acc
        · have hu : usesL (ks.take (k + 1)) = acc := by rw [HSN.out]; unfold ustep; rw [if_pos hin]
          have HU := Lib.hid hu
          have hd : decide (key ∈ acc) = true := decide_eq_true hin
          have HD := Lib.hid hd
          clear hu hd hin
          go_wp2_with fail
          refine (contains_any _ _ acc a1 c1 key HIA.out).mono ?_
          rintro e w' ⟨rfl, rfl⟩
          rw [HD.out]
          go_wp2_with fail
          go_roundw
          case rel => exact ⟨k + 1, by omega, by go_num, by rw [HU.out]; exact HN1.out, HB1.out, HGE.out⟩
          case measure => simp [intOf]; omega
        · have hu : usesL (ks.take (k + 1)) = acc ++ [key] := by rw [HSN.out]; unfold ustep; rw [if_neg hin]
          have HU := Lib.hid hu
          have hd : decide (key ∈ acc) = false := decide_eq_false hin
          have HD := Lib.hid hd
          clear hu hd hin
          go_wp2_with fail
          refine (contains_any _ _ acc a1 c1 key HIA.out).mono ?_
          rintro e w' ⟨rfl, rfl⟩
          rw [HD.out]
          have hz : (wr.alloc (.cells #[.int .i64 key, .int .i64 u] 106)).heap.size = wr.heap.size + 1 := by simp
          have HZ := Lib.hid hz
          clear hz
          go_wp2_with (at_builtin; refine wpList_append_row _ rfl (.tmp 30) (.tmp 33) 26 rfl w.heap.size 3 iN (.int .i64 0) 1 8 Try.underlying26 HIN.out.1 HIN.out.2.1 HIN.out.2.2.1 HIN.out.2.2.2 rfl (by decide) _ acc.length (acc.map (Value.int .i64)) rfl (World.ownsRow.alloc HN1.out _) ⟨wr.heap.size + 1, 0, none⟩ 1 1 [.int .i64 key] rfl rfl ?d1 ?d2 (by decide) ?d3 ?d4 ?d5 ?_)
          case d1 => have h := news1 (wr.alloc (.cells #[.int .i64 key, .int .i64 u] 106)) 3 (.int .i64 key); rw [World.size_alloc] at h; exact h
          case d2 => simp [Value.oneCell']
          case d3 => rw [HML.out]; omega
          case d4 => omega
          case d5 => simp; omega
          intro v2 w2 hown hgr hnew
          have hN2 : NumRow w2 w.heap.size v2 (acc ++ [key]) := by
            unfold NumRow
            rw [List.map_append, show (acc ++ [key]).length = acc.length + 1 by simp]
            exact hown
          have hB2 : Below w1.heap.size w1 w2 := (HB1.out.alloc (by simp; omega) _).trans (below_grown hgr (by simp; omega) HGE.out)
          have hG2 : ∀ b, v2.ownBlock = some b → w1.heap.size ≤ b := fun b hb => by
            rcases hnew b hb with h | h
            · exact HGE.out b h
            · omega
          have H2 := Lib.hid (And.intro hN2 (And.intro hB2 hG2))
          clear hown hgr hnew hN2 hB2 hG2
          go_wp2_with fail
          go_roundw
          case rel => exact ⟨k + 1, by omega, by go_num, by rw [HU.out]; exact H2.out.1, H2.out.2.1, H2.out.2.2⟩
          case measure => simp [intOf]; omega
      · have hq : ks.take k = ks := List.take_of_length_le (by omega)
        rw [hq] at HN
        clear hq hn
        go_wp2_with fail
        go_ret2
        rw [HX.out]
        exact ⟨K1.out.trans (HB.out.mono hs1), _, rfl, HN.out⟩
end Go.Proofs.Ytochgmbeomfkpaa
/- lists of truths: szBoolS, toBoolS, eqBoolS, markBoolS -/
namespace Go.Proofs.Ytochgmbeomfkpaa
open Go.RowKit

def BoolsAt (w : World) (S : Nat → Prop) (l : List Bool) (a : Option Addr) (c : Nat) : Prop := ElAt Value.bool w S l a c
def BoolRow (w : World) (base : Nat) (v : Value) (l : List Bool) : Prop := ElRow Value.bool 4 w base v l

theorem szBools_any (w : World) (S : Nat → Prop) (l : List Bool) (a : Option Addr) (c left : Nat) (h : BoolsAt w S l a c) (hl : left ≤ 1048576) :
    Calls Try.prog 24 #[.slice a l.length c, .int .i64 left] w fun e w' => e = .returned (.int .i64 (szN l.length left)) ∧ w = w' := by
  have hlen : l.length ≤ 9223372036854775807 := by have := h.1; have := h.2.1; omega
  clear h
  by_cases hle : l.length ≤ left
  · have hv : szN l.length left = (left : Int) - l.length := by unfold szN; rw [if_pos hle]
    rw [hv]; clear hv
    go_enter Try.func24, Try.ntmps24
    go_wp2_with fail
    go_ret
    exact ⟨rfl, rfl⟩
  · have hv : szN l.length left = -1 := by unfold szN; rw [if_neg hle]
    rw [hv]; clear hv
    go_enter Try.func24, Try.ntmps24
    go_wp2_with fail
    go_ret
    exact ⟨rfl, rfl⟩

/-- A block with n truths, of which the first are those of l. -/
def BRow (w : World) (g n : Nat) (l : List Bool) : Prop := ∃ cs : Array Value, Blk w g 4 cs ∧ cs.size = n ∧ ∀ i (h : i < l.length), cs[i]? = some (.bool l[i])

theorem BRow.full {w : World} {g base : Nat} {l : List Bool} (h : BRow w g l.length l) (hb : base ≤ g) (hl : l.length ≤ 9223372036854775807) : BoolRow w base (.slice (some ⟨g, 0, none⟩) l.length l.length) l := by
  obtain ⟨cs, h1, h2, h3⟩ := h
  refine ElRow.of_blk h1 hb (List.ext_getElem (by simp [h2]) fun i hi1 hi2 => ?_) hl
  have h := h3 i (by simpa using hi2)
  obtain ⟨_, h⟩ := Array.getElem?_eq_some_iff.1 h
  simp [h]

def CopiedB (l : List Bool) (w : World) (e : Ending) (w' : World) : Prop := ∃ v, e = .returned v ∧ BoolRow w' w.heap.size v l ∧ Below w.heap.size w w'
set_option maxHeartbeats 1000000 in
theorem copyB_any (w : World) (S : Nat → Prop) (l : List Bool) (a : Option Addr) (c : Nat) (h : BoolsAt w S l a c) (hle : l.length ≤ 1048576) :
    Calls Try.prog 32 #[.slice a l.length c] w (CopiedB l w) := by
  have H := Lib.hid h
  obtain ⟨i0, hi, hz0, hz1, hz2⟩ := info_parts infoBool
  have hmk := fun W => run_make_rowN (P := Try.prog) 22 4 i0 _ Try.underlying22 hi hz0 .i64 .i64 l.length l.length (Nat.le_refl _) (by rw [hz2]; omega) (by omega) W
  rw [hz1] at hmk
  clear h
  go_enter Try.func32, Try.ntmps32
  go_wp2_with fail
  clear hmk
  have hm1 : (madeCells #[Value.bool false] l.length).size = l.length := by rw [size_madeCells]
  have HI0 := Lib.hid (show BRow (w.alloc (.cells (madeCells #[Value.bool false] l.length) 4)) w.heap.size l.length [] from ⟨_, heap_alloc_new w _, hm1, by simp⟩)
  clear hm1
  go_loopw [4] (fun i wr => ∃ k : Nat, k ≤ l.length ∧ i = .int .i64 k ∧ BRow wr w.heap.size l.length (l.take k) ∧ Below w.heap.size w wr) (fun i _ => l.length - (intOf i).toNat)
  case atStart => exact ⟨0, by omega, rfl, by simpa using HI0.out, (Below.refl _ _).alloc (Nat.le_refl _) _⟩
  case round =>
    obtain ⟨k, hk, rfl, hr, hb⟩ := hrel
    have HB := Lib.hid hb
    have HR := Lib.hid hr
    clear hb HI0
    by_cases hlt : k < l.length
    · obtain ⟨b, o, rfl, hbl, _, hc⟩ := ElAt.get H.out HB.out hlt
      obtain ⟨cs, hbk, hcs, hcl⟩ := hr
      have hf := hbk.frozen k
      have hx : wr.cell? ⟨w.heap.size, k, none⟩ = some (cs[k]'(by omega)) := by rw [hbk.cell k]; simp
      obtain ⟨y, hy⟩ : ∃ y, y = cs[k]'(by omega) := ⟨_, rfl⟩
      rw [← hy] at hx
      have hset := hbk.set_ k (.bool l[k])
      have HN := Lib.hid (show BRow (wr.setCell ⟨w.heap.size, k, none⟩ (.bool l[k])) w.heap.size l.length (l.take (k + 1)) from ⟨_, hset, by simp [hcs], fun i hi => by
        have hi' : i < k + 1 ∧ i < l.length := by rw [List.length_take] at hi; omega
        by_cases hik : i = k
        · subst hik
          simp [Array.getElem?_setIfInBounds, hcs]
          omega
        · have := hcl i (by simp; omega)
          simp only [List.getElem_take] at this ⊢
          simp [Array.getElem?_setIfInBounds, this]
          omega⟩)
      have HB' := Lib.hid (HB.out.setCell (p := ⟨w.heap.size, k, none⟩) (Nat.le_refl _) (.bool l[k]))
      clear hset hcl hbk hcs hy
      obtain ⟨x, hxe⟩ : ∃ x, x = l[k] := ⟨_, rfl⟩
      rw [← hxe] at hc HN HB'
      clear hxe
      go_wp2_with fail
      go_roundw
      case rel => exact ⟨k + 1, by omega, by go_num, HN.out, HB'.out⟩
      case measure => simp [intOf]; omega
    · have hq : l.take k = l := List.take_of_length_le (by omega)
      rw [hq] at HR
      clear hq hr
      go_wp2_with fail
      go_ret
      exact ⟨_, rfl, HR.out.full (Nat.le_refl _) (by omega), HB.out⟩

/-- eqBoolS of two readings of one list -/
theorem eqBools_any (w : World) (S S' : Nat → Prop) (l : List Bool) (a a' : Option Addr) (c c' : Nat) (h : BoolsAt w S l a c) (h' : BoolsAt w S' l a' c') :
    Calls Try.prog 38 #[.slice a l.length c, .slice a' l.length c'] w fun e w' => e = .returned (.bool true) ∧ Below w.heap.size w w' := by
  have hlen : l.length ≤ 9223372036854775807 := by have := h.1; have := h.2.1; omega
  have H := Lib.hid h
  have H' := Lib.hid h'
  clear h h'
  have hne : (((l.length : Nat) : Int) != ((l.length : Nat) : Int)) = false := by simp
  go_enter Try.func38, Try.ntmps38
  go_wp2_with fail
  clear hne
  go_loopw [5] (fun i wr => ∃ k : Nat, k ≤ l.length ∧ i = .int .i64 k ∧ Below w.heap.size w wr) (fun i _ => l.length - (intOf i).toNat)
  case atStart => exact ⟨0, by omega, rfl, Below.refl _ _⟩
  case round =>
    obtain ⟨k, hk, rfl, hb⟩ := hrel
    have HB := Lib.hid hb
    clear hb
    by_cases hlt : k < l.length
    · obtain ⟨b, o, rfl, hbl, _, hc⟩ := ElAt.get H.out HB.out hlt
      obtain ⟨b', o', rfl, hbl', _, hc'⟩ := ElAt.get H'.out HB.out hlt
      have hne : (l[k] != l[k]) = false := by simp
      obtain ⟨v, hv⟩ : ∃ v, v = l[k] := ⟨_, rfl⟩
      rw [← hv] at hc hc' hne
      clear hv
      go_wp2_with fail
      go_quiet (fail)
      go_wp2_with fail
      go_roundw
      case rel => exact ⟨k + 1, by omega, by go_num, below_drewN HB.out _⟩
      case measure => simp [intOf]; omega
    · go_wp2_with fail
      go_ret
      exact ⟨rfl, HB.out⟩

/-- markBoolS: of what was there only the row's own block turns. -/
def MarkedB (w : World) (v : Value) (k n : Nat) (e : Ending) (w' : World) : Prop := e = .returned (.int .i64 ((k + n : Nat) : Int)) ∧ Fr (fun b => v.ownBlock = some b) w w'
set_option maxHeartbeats 1000000 in
theorem markB_any (w : World) (base : Nat) (v : Value) (l : List Bool) (k : Nat) (h : BoolRow w base v l) (hl : l.length ≤ 2000000) (hk : k ≤ 100000000) :
    Calls Try.prog 40 #[v, .int .i64 k] w (MarkedB w v k l.length) := by
  have frr : ∀ (W : World) D, Fr D W W := fun W D => Fr.of_below (Below.refl _ _)
  have FRR := Lib.hid frr
  clear frr
  obtain ⟨_, ⟨rfl, h0⟩ | ⟨g, cap, cur, rfl, hb, hh, hn, hc, hz, _⟩⟩ := h
  · rw [h0]
    go_enter Try.func40, Try.ntmps40
    go_wp2_with fail
    go_loopw [1, 5] (fun q i wr => i = .int .i64 0 ∧ q = .int .i64 k ∧ wr = w) (fun _ _ _ => 0)
    case atStart => exact ⟨rfl, rfl, rfl⟩
    case round =>
      obtain ⟨rfl, rfl, rfl⟩ := hrel
      go_wp2_with fail
      go_ret
      exact ⟨rfl, FRR.out _ _⟩
  · have HZ := Lib.hid (show l.length ≤ cur.size by omega)
    have HH := Lib.hid (show Blk w g 4 cur from hh)
    have hcm : l.length ≤ 9223372036854775807 := by omega
    clear hb hh hn hc hz
    go_enter Try.func40, Try.ntmps40
    go_wp2_with fail
    go_loopw [1, 5] (fun q i wr => ∃ (j : Nat) (cs : Array Value), j ≤ l.length ∧ i = .int .i64 j ∧ q = .int .i64 ((k + j : Nat) : Int) ∧ Blk wr g 4 cs ∧ l.length ≤ cs.size ∧ Fr (fun b => g = b) w wr) (fun _ i _ => l.length - (intOf i).toNat)
    case atStart => exact ⟨0, cur, by omega, rfl, rfl, HH.out, HZ.out, FRR.out _ _⟩
    case round =>
      obtain ⟨j, cs, hj, rfl, rfl, hbk, hcs, hfr⟩ := hrel
      have HFR := Lib.hid hfr
      by_cases hlt : j < l.length
      · have hf := hbk.frozen j
        have hx : wr.cell? ⟨g, j, none⟩ = some (cs[j]'(by omega)) := by rw [hbk.cell j]; simp
        obtain ⟨y, hy⟩ : ∃ y, y = cs[j]'(by omega) := ⟨_, rfl⟩
        rw [← hy] at hx
        have hs := fun u => hbk.set_ j u
        have HS := Lib.hid hs
        have HC := Lib.hid hcs
        clear hbk hfr hs hy hcs
        go_wp2_with fail
        go_roundw
        case rel =>
          refine ⟨j + 1, _, by omega, by go_num, by go_num, HS.out _, by rw [Array.size_setIfInBounds]; exact HC.out, ?_⟩
          exact ⟨HFR.out.1, HFR.out.2.1, HFR.out.2.2.1, by have := HFR.out.2.2.2.1; simpa [World.setCell] using this, fun b hb hn => (Below.heap_setCell _ _ _ _ (by intro e; exact hn e.symm)).trans (HFR.out.2.2.2.2 b hb hn)⟩
        case measure => simp [intOf]; omega
      · obtain rfl : j = l.length := by omega
        clear hbk hfr hcs
        go_wp2_with fail
        go_ret
        exact ⟨rfl, HFR.out.weaken (fun b hb => by simp [Value.ownBlock, hb])⟩
end Go.Proofs.Ytochgmbeomfkpaa
/- what is fetched may be fetched; the same first key outside what agrees -/
namespace Go.Proofs.Ytochgmbeomfkpaa
open Go.RowKit

theorem kys_may (vs : Int → Int) : ∀ t : T, t.fit = true → ∀ k ∈ t.kys vs, t.may k = true := T.ind fun k n ps ih hf => by
  generalize ht : T.mk k n ps = t at hf ⊢
  refine T.cases_fit (P := fun t => ∀ k ∈ t.kys vs, t.may k = true) t hf ?_ ?_ ?_ ?_ ?_ ?_
  · rintro n a0 a1 rfl; rw [kys_0]; simp
  · rintro n a0 a1 rfl; rw [kys_1]; simp [T.may]
  · rintro a b ha hb rfl; injection ht with _ _ hps; subst hps; rw [kys_2]
    intro q hq
    simp only [T.may, mayL]
    rcases List.mem_append.1 hq with hq | hq
    · rw [ih a (by simp) ha q hq]; simp
    · rw [ih b (by simp) hb q hq]; simp
  · rintro a b ha hb rfl; injection ht with _ _ hps; subst hps; rw [kys_3]
    intro q hq
    simp only [T.may, mayL]
    rcases List.mem_append.1 hq with hq | hq
    · rw [ih a (by simp) ha q hq]; simp
    · rw [ih b (by simp) hb q hq]; simp
  · rintro a b c ha hb hc rfl; injection ht with _ _ hps; subst hps; rw [kys_4]
    intro q hq
    simp only [T.may, mayL]
    rcases List.mem_append.1 hq with hq | hq
    · rw [ih a (by simp) ha q hq]; simp
    · split at hq
      · rw [ih c (by simp) hc q hq]; simp
      · rw [ih b (by simp) hb q hq]; simp
  · rintro n a a0 a1 ha rfl; intro q _; simp [T.may]

end Go.Proofs.Ytochgmbeomfkpaa
/- brInts -/
namespace Go.Proofs.Ytochgmbeomfkpaa
open Go.RowKit

/-- brInts of two readings of one list -/
theorem brInts_any (w : World) (S S' : Nat → Prop) (l : List Int) (a a' : Option Addr) (c c' : Nat) (h : IntsAt w S l a c) (h' : IntsAt w S' l a' c') :
    Calls Try.prog 17 #[.slice a l.length c, .slice a' l.length c'] w fun e w' => e = .returned (.bool true) ∧ Below w.heap.size w w' := by
  have hlen : l.length ≤ 9223372036854775807 := by have := h.1; have := h.2.1; omega
  have H := Lib.hid h
  have H' := Lib.hid h'
  clear h h'
  have hne : (((l.length : Nat) : Int) != ((l.length : Nat) : Int)) = false := by simp
  go_enter Try.func17, Try.ntmps17
  go_wp2_with fail
  clear hne
  go_loopw [5] (fun i wr => ∃ k : Nat, k ≤ l.length ∧ i = .int .i64 k ∧ Below w.heap.size w wr) (fun i _ => l.length - (intOf i).toNat)
  case atStart => exact ⟨0, by omega, rfl, Below.refl _ _⟩
  case round =>
    obtain ⟨k, hk, rfl, hb⟩ := hrel
    have HB := Lib.hid hb
    clear hb
    by_cases hlt : k < l.length
    · obtain ⟨b, o, rfl, hbl, _, hc⟩ := H.out.get HB.out hlt
      obtain ⟨b', o', rfl, hbl', _, hc'⟩ := H'.out.get HB.out hlt
      have hne : (l[k] != l[k]) = false := by simp
      obtain ⟨v, hv⟩ : ∃ v, v = l[k] := ⟨_, rfl⟩
      rw [← hv] at hc hc' hne
      clear hv
      go_wp2_with fail
      go_quiet (fail)
      go_wp2_with fail
      go_roundw
      case rel => exact ⟨k + 1, by omega, by go_num, below_drewN HB.out _⟩
      case measure => simp [intOf]; omega
    · go_wp2_with fail
      go_ret
      exact ⟨rfl, HB.out⟩
end Go.Proofs.Ytochgmbeomfkpaa
/- a sheet in memory; szSheet, toSheet, eqSheet, markSheet -/
namespace Go.Proofs.Ytochgmbeomfkpaa
open Go.RowKit

/-- A sheet: which keys are made, and the tasks (as many as there are). -/
structure Sh where
  m : List Bool
  t : List T

def ShAt (w : World) (S : Nat → Prop) (s : Sh) (a : Option Addr) (c : Nat) (a' : Option Addr) (c' : Nat) : Prop := BoolsAt w S s.m a c ∧ AtS w S s.t a' c'

section
variable {w w' : World} {S S' : Nat → Prop} {s : Sh} {a a' : Option Addr} {c c' : Nat}
theorem ShAt.keep (hS : ∀ b, S b → S' b) (hk : ∀ b, S b → b < w.heap.size → w'.heap[b]? = w.heap[b]?) (h : ShAt w S s a c a' c') : ShAt w' S' s a c a' c' := ⟨ElAt.keep hS hk h.1, AtS.keep hS hk h.2⟩
theorem ShAt.below (h : ShAt w S s a c a' c') (hb : Below w.heap.size w w') : ShAt w' S s a c a' c' := h.keep (fun _ h => h) (fun b _ hl => hb.block b hl)
theorem ShAt.alloc (h : ShAt w S s a c a' c') (o : Obj) : ShAt (w.alloc o) S s a c a' c' := h.below ((Below.refl _ _).alloc (Nat.le_refl _) o)
theorem ShAt.drew (h : ShAt w S s a c a' c') : ShAt w.drew S s a c a' c' := ShAt.keep (w := w) (w' := w.drew) (fun _ h => h) (fun _ _ _ => rfl) h
theorem ShAt.drewN (h : ShAt w S s a c a' c') (n : Nat) : ShAt (w.drewN n) S s a c a' c' := ShAt.keep (w := w) (w' := w.drewN n) (fun _ h => h) (fun _ _ _ => rfl) h
theorem ShAt.weaken (h : ShAt w S s a c a' c') (hS : ∀ b, S b → S' b) : ShAt w S' s a c a' c' := h.keep hS (fun _ _ _ => rfl)
theorem ShAt.lim (h : ShAt w S s a c a' c') : ShAt w (fun b => S b ∧ b < w.heap.size) s a c a' c' := ⟨ElAt.lim h.1, h.2.lim⟩
theorem ShAt.fr {D : Nat → Prop} (h : ShAt w S s a c a' c') (hf : Fr D w w') (hS : ∀ b, S b → ¬ D b) : ShAt w' S s a c a' c' := h.keep (fun _ h => h) (fun b hb hl => hf.2.2.2.2 b hl (hS b hb))
end

/-- A struct of two cells, boxed. -/
theorem box2 {w wr : World} {v0 v1 : Value} {t : TypeId} (hb : Below (w.heap.size + 1) (w.alloc (.cells #[v0, v1] t)) wr) :
    wr.cell? ⟨w.heap.size, 0, none⟩ = some v0 ∧ wr.cell? ⟨w.heap.size, 1, none⟩ = some v1 := by
  refine ⟨?_, ?_⟩ <;> (rw [hb.cell (by simp)]; rw [World.cell?_alloc_new]; rfl)

/-- An argument sheet of a law: boxed by its head, the rest in old memory; all that was made since is new. -/
def Ks (S : Nat → Prop) (s : Sh) (a : Option Addr) (c : Nat) (a' : Option Addr) (c' : Nat) (ty : TypeId) (w wi : World) : Prop :=
  Below (w.heap.size + 1) (w.alloc (.cells #[.slice a s.m.length c, .slice a' s.t.length c'] ty)) wi ∧ ShAt wi S s a c a' c'
section
variable {S : Nat → Prop} {s : Sh} {a a' : Option Addr} {c c' : Nat} {ty : TypeId} {w wi wj : World}
theorem Ks.start (h : ShAt w S s a c a' c') : Ks S s a c a' c' ty w (w.alloc (.cells #[.slice a s.m.length c, .slice a' s.t.length c'] ty)) := ⟨Below.refl _ _, h.alloc _⟩
theorem Ks.step (h : Ks S s a c a' c' ty w wi) (hb : Below wi.heap.size wi wj) : Ks S s a c a' c' ty w wj :=
  ⟨h.1.trans (hb.mono (by have := h.1.size; simpa using this)), h.2.below hb⟩
theorem Ks.alloc (h : Ks S s a c a' c' ty w wi) (o : Obj) : Ks S s a c a' c' ty w (wi.alloc o) := h.step ((Below.refl _ _).alloc (Nat.le_refl _) o)
theorem Ks.drew (h : Ks S s a c a' c' ty w wi) : Ks S s a c a' c' ty w wi.drew := h.step (Below.refl _ _).drew
theorem Ks.drewN (h : Ks S s a c a' c' ty w wi) (n : Nat) : Ks S s a c a' c' ty w (wi.drewN n) := h.step (below_drewN (Below.refl _ _) n)
theorem Ks.box (h : Ks S s a c a' c' ty w wi) : wi.cell? ⟨w.heap.size, 0, none⟩ = some (.slice a s.m.length c) ∧ wi.cell? ⟨w.heap.size, 1, none⟩ = some (.slice a' s.t.length c') := box2 h.1
theorem Ks.done (h : Ks S s a c a' c' ty w wi) : Below w.heap.size w wi := below_of_box h.1
theorem Ks.size (h : Ks S s a c a' c' ty w wi) : w.heap.size + 1 ≤ wi.heap.size := by have := h.1.size; simpa using this
theorem Ks.fr {D : Nat → Prop} (h : Ks S s a c a' c' ty w wi) (hf : Fr D wi wj) (hD : ∀ b, D b → w.heap.size + 1 ≤ b) (hS : ∀ b, S b → b < w.heap.size) : Ks S s a c a' c' ty w wj := by
  have hs := h.size
  exact ⟨h.1.trans ⟨hf.1, hf.2.1, hf.2.2.1, hf.2.2.2.1, fun b hb => hf.2.2.2.2 b (by omega) (fun hd => by have := hD b hd; omega)⟩,
    h.2.fr hf (fun b hb hd => by have := hD b hd; have := hS b hb; omega)⟩
end

/-- A sheet in memory of its own, from block B on; its tasks in blocks that meet F. -/
structure Shm (w : World) (B : Nat) (F : Nat → Prop) (s : Sh) (v : Value) (a' : Option Addr) (c' : Nat) : Prop where
  row : BoolRow w B v s.m
  at_ : AtS w F s.t a' c'
  sh : ShS w F s.t a' c'
  wf : TWf w F
  ge : ∀ b, F b → B ≤ b
  lt : ∀ b, F b → b < w.heap.size
  ne : ∀ b, v.ownBlock = some b → ¬ F b
section
variable {w w' : World} {B : Nat} {F : Nat → Prop} {s : Sh} {v : Value} {a' : Option Addr} {c' : Nat}
theorem Shm.below (h : Shm w B F s v a' c') (hb : Below w.heap.size w w') : Shm w' B F s v a' c' :=
  ⟨h.row.below hb, h.at_.below hb, h.sh.keep (fun _ h => h) (ThS.below h.wf hb).2.1, h.wf.below hb, h.ge, fun b hF => Nat.lt_of_lt_of_le (h.lt b hF) hb.size, h.ne⟩
theorem Shm.alloc (h : Shm w B F s v a' c') (o : Obj) : Shm (w.alloc o) B F s v a' c' := h.below ((Below.refl _ _).alloc (Nat.le_refl _) o)
theorem Shm.drew (h : Shm w B F s v a' c') : Shm w.drew B F s v a' c' := h.below (Below.refl _ _).drew
theorem Shm.fr {D : Nat → Prop} (h : Shm w B F s v a' c') (hf : Fr D w w') (hD : ∀ b, D b → b < B) : Shm w' B F s v a' c' := by
  have hn : ∀ b, F b → ¬ D b := fun b hF hd => by have := hD b hd; have := h.ge b hF; omega
  refine ⟨h.row.fr hf hD, h.at_.fr hf hn, h.sh.keep (fun _ h => h) (fun b o hF _ v hv => (World.cell?_of_block (w := w) (hf.2.2.2.2 b (h.lt b hF) (hn b hF))).trans hv), fun b hF => ?_, h.ge, fun b hF => Nat.lt_of_lt_of_le (h.lt b hF) hf.size, h.ne⟩
  obtain ⟨cs, m, h1, h2⟩ := h.wf b hF
  exact ⟨cs, m, h1.fr hf (hn b hF), h2⟩
theorem Shm.low {B' : Nat} (h : Shm w B F s v a' c') (hB : B' ≤ B) : Shm w B' F s v a' c' :=
  ⟨ownsRow_low h.row hB, h.at_, h.sh, h.wf, fun b hF => Nat.le_trans hB (h.ge b hF), h.lt, h.ne⟩
theorem Fr.set' {D : Nat → Prop} {w w' : World} (h : Fr D w w') (p : Addr) (hp : D p.block) (u : Value) : Fr D w (w'.setCell p u) :=
  ⟨h.1, h.2.1, h.2.2.1, by simpa [World.setCell] using h.2.2.2.1, fun b hb hn => (Below.heap_setCell w' p u b (by rintro rfl; exact hn hp)).trans (h.2.2.2.2 b hb hn)⟩
theorem Shm.at (h : Shm w B F s v a' c') : ∃ a c, v = .slice a s.m.length c ∧ ShAt w (fun b => B ≤ b) s a c a' c' := by
  obtain ⟨a, c, h1, h2⟩ := ElRow.at h.row
  exact ⟨a, c, h1, h2, h.at_.weaken h.ge⟩
end

def szSh (s : Sh) (left : Nat) : Int := if s.m.length + nodesL s.t ≤ left then (left : Int) - s.m.length - nodesL s.t else -1

set_option maxHeartbeats 1000000 in
theorem szSheet_any (w : World) (S : Nat → Prop) (s : Sh) (a : Option Addr) (c : Nat) (a' : Option Addr) (c' left : Nat) (h : ShAt w S s a c a' c') (hl : left ≤ 1048576) :
    Calls Try.prog 6 #[.agg #[.slice a s.m.length c, .slice a' s.t.length c'], .int .i64 left] w fun e w' => e = .returned (.int .i64 (szSh s left)) ∧ Below w.heap.size w w' := by
  have K0 := Lib.hid (Ks.start (ty := 25) h)
  clear h
  obtain ⟨x0, x1⟩ := K0.out.box
  by_cases hm : s.m.length ≤ left
  · have hz : szN s.m.length left = ((left - s.m.length : Nat) : Int) := by unfold szN; rw [if_pos hm]; omega
    have HZ := Lib.hid hz
    clear hz
    have key : ∀ v : Int, szN (nodesL s.t) (left - s.m.length) = v → szSh s left = v → (0 ≤ v ∧ v ≤ 1048576 ∨ v = -1) → Calls Try.prog 6 #[.agg #[.slice a s.m.length c, .slice a' s.t.length c'], .int .i64 left] w fun e w' => e = .returned (.int .i64 v) ∧ Below w.heap.size w w' := by
      intro v hv _ hr
      have HV := Lib.hid hv
      clear hv
      go_enter Try.func6, Try.ntmps6
      go_wp2_with fail
      refine (szBools_any _ S s.m a c left K0.out.2.1 hl).mono ?_
      rintro e w1 ⟨rfl, rfl⟩
      rw [HZ.out]
      go_wp2_with fail
      refine (szS_all s.t _ S a' c' (left - s.m.length) K0.out.2.2 (by omega)).mono ?_
      rintro e w1 ⟨rfl, hb⟩
      rw [HV.out]
      have K1 := Lib.hid (K0.out.step hb)
      clear hb HV
      rcases hr with hr | rfl
      · go_wp2_with fail
        go_ret
        exact ⟨rfl, K1.out.done⟩
      · go_wp2_with fail
        go_ret
        exact ⟨rfl, K1.out.done⟩
    have e : szN (nodesL s.t) (left - s.m.length) = szSh s left := by unfold szN szSh; split <;> split <;> omega
    exact key _ e rfl (by unfold szSh; split <;> omega)
  · have hz : szN s.m.length left = -1 := by unfold szN; rw [if_neg hm]
    have HZ := Lib.hid hz
    have hv : szSh s left = -1 := by unfold szSh; rw [if_neg (by omega)]
    rw [hv]
    clear hz hv
    go_enter Try.func6, Try.ntmps6
    go_wp2_with fail
    refine (szBools_any _ S s.m a c left K0.out.2.1 hl).mono ?_
    rintro e w1 ⟨rfl, rfl⟩
    rw [HZ.out]
    go_wp2_with fail
    go_ret
    exact ⟨rfl, K0.out.done⟩

/-- What toSheet hands back. -/
def CopiedSh (s : Sh) (w : World) (e : Ending) (w' : World) : Prop := ∃ v a' c' F, e = .returned (.agg #[v, .slice a' s.t.length c']) ∧ Shm w' w.heap.size F s v a' c' ∧ Below w.heap.size w w'

theorem mkT_list (ps : List T) : MkS ps := mkT_all (.mk 0 0 ps)
theorem copyS2_all (ps : List T) : CopyS2 ps := copyS2_of ps fun t _ => copyT2_all t

set_option maxHeartbeats 2000000 in
theorem copySh_any (w : World) (S : Nat → Prop) (s : Sh) (a : Option Addr) (c : Nat) (a' : Option Addr) (c' : Nat) (h : ShAt w S s a c a' c') (hm : s.m.length ≤ 1048576) (hn : nodesL s.t ≤ 1048576) :
    Calls Try.prog 8 #[.agg #[.slice a s.m.length c, .slice a' s.t.length c']] w (CopiedSh s w) := by
  have H := Lib.hid h
  have HM := Lib.hid hm
  have HN := Lib.hid hn
  clear h hm hn
  go_enter Try.func8, Try.ntmps8
  go_wp2_with fail
  refine (copyB_any _ S s.m a c ?_ HM.out).mono ?_
  · exact (((H.out.alloc _).alloc _).alloc _).1
  rintro e w1 ⟨v, rfl, hr, hb⟩
  obtain ⟨a1, c1, rfl, _⟩ := ElRow.at hr
  have hs0 := hb.size
  simp only [World.size_alloc] at hs0 hr
  have hz2 : w.heap.size + 1 + 1 < w1.heap.size := by omega
  have hz1 : w.heap.size + 1 < w1.heap.size := by omega
  have hz0 : w.heap.size < w1.heap.size := by omega
  have b0 := ((((Blk.new w 25 #[.slice a s.m.length c, .slice a' s.t.length c']).alloc (.cells #[.slice none 0 0, .slice none 0 0] 32)).alloc (.cells #[.slice none 0 0, .slice none 0 0] 32)).below hb (by simp <;> omega))
  have b1 := (((Blk.new (w.alloc (.cells #[.slice a s.m.length c, .slice a' s.t.length c'] 25)) 32 #[.slice none 0 0, .slice none 0 0]).alloc (.cells #[.slice none 0 0, .slice none 0 0] 32)).below hb (by simp <;> omega))
  have b2 := ((Blk.new ((w.alloc (.cells #[.slice a s.m.length c, .slice a' s.t.length c'] 25)).alloc (.cells #[.slice none 0 0, .slice none 0 0] 32)) 32 #[.slice none 0 0, .slice none 0 0]).below hb (by simp))
  simp only [World.size_alloc] at b0 b1 b2
  have HB := Lib.hid (show Below w.heap.size w w1 from ((((Below.refl _ _).alloc (Nat.le_refl _) _).alloc (by simp) _).alloc (by simp <;> omega) _).trans (hb.mono (by simp <;> omega)))
  have HR := Lib.hid hr
  have HA := Lib.hid (((((H.out.alloc _).alloc _).alloc _).below hb).2)
  have H012 := Lib.hid (And.intro b0 (And.intro b1 b2))
  obtain ⟨x0, x1, _, _⟩ := b0.two
  obtain ⟨y0, y1, g0, g1⟩ := b1.two
  obtain ⟨z0, z1, f0, f1⟩ := b2.two
  clear hb hr b0 b1 b2
  go_wp2_with fail
  obtain ⟨v, hv⟩ : ∃ v, v = Value.slice a1 s.m.length c1 := ⟨_, rfl⟩
  rw [← hv] at HR ⊢
  have hR2 : BoolRow (w1.setCell ⟨w.heap.size + 1 + 1, 0, none⟩ v) (w.heap.size + 1 + 1 + 1) v s.m := ElRow.frO HR.out (D := fun b => b = w.heap.size + 1 + 1) ⟨rfl, rfl, rfl, by simp [World.setCell], fun b hb hn => Below.heap_setCell _ _ _ _ (by simpa using hn)⟩ (fun b hb hd => by have := (World.ownsRow.lt HR.out b hb).1; omega)
  have hB2 : Below w.heap.size w (w1.setCell ⟨w.heap.size + 1 + 1, 0, none⟩ v) := HB.out.setCell (by simp <;> omega) v
  have hA2 : AtS (w1.setCell ⟨w.heap.size + 1 + 1, 0, none⟩ v) (fun b => S b ∧ b < w.heap.size) s.t a' c' := by
    have h1 := H.out.2.lim
    exact h1.keep (fun _ h => h) (fun b hb hl => hB2.block b hb.2)
  obtain ⟨hb0, hb1, hb2⟩ := H012.out
  have e0 := hb0.far (p := ⟨w.heap.size + 1 + 1, 0, none⟩) (by simp <;> omega) v
  have e1 := hb1.far (p := ⟨w.heap.size + 1 + 1, 0, none⟩) (by simp) v
  have e2 := hb2.set_ 0 v
  have hsz : (w1.setCell ⟨w.heap.size + 1 + 1, 0, none⟩ v).heap.size = w1.heap.size := by simp [World.setCell]
  obtain ⟨W, hW⟩ : ∃ W, W = w1.setCell ⟨w.heap.size + 1 + 1, 0, none⟩ v := ⟨_, rfl⟩
  rw [← hW] at hR2 hB2 hA2 e0 e1 e2 hsz ⊢
  have H2 := Lib.hid (And.intro hR2 (And.intro hB2 hA2))
  clear x0 x1 y0 y1 g0 g1 z0 z1 f0 f1 hb0 hb1 hb2 H012 HR HB HA hW hR2 hB2 hA2
  refine (copyS2_all s.t _ _ a' c' H2.out.2.2 HN.out).mono ?_
  rintro e w2 ⟨a2, c2', F, rfl, hat, hsh, hwf, hF, hb⟩
  have hs2 := hb.size
  have d0 := e0.below hb (by omega)
  have d1 := e1.below hb (by omega)
  have d2 := e2.below hb (by omega)
  have HR3 := Lib.hid (H2.out.1.below hb)
  have HB3 := Lib.hid (H2.out.2.1.trans (hb.mono (by omega)))
  have HT3 := Lib.hid (And.intro hat (And.intro hsh (And.intro hwf hF)))
  have HL := Lib.hid (World.ownsRow.lt H2.out.1)
  obtain ⟨y0, y1, g0, g1⟩ := d1.two
  obtain ⟨z0, z1, f0, f1⟩ := d2.two
  have hz2 : w.heap.size + 1 + 1 < w2.heap.size := by omega
  have hz1 : w.heap.size + 1 < w2.heap.size := by omega
  subst hv
  clear hb hat hsh hwf hF e0 e1 e2 d0 d2 H2
  have D1 := Lib.hid d1
  clear d1
  go_wp2_with fail
  refine bodyPost_ret (v := .agg #[.slice a1 s.m.length c1, .slice a2 s.t.length c2']) (by simp [results, Try.results8, go_sem, y0, y1]) rfl ?_
  have hF := HT3.out.2.2.2
  have hsm : Shm w2 (w.heap.size + 1 + 1 + 1) F s (.slice a1 s.m.length c1) a2 c2' := ⟨HR3.out, HT3.out.1, HT3.out.2.1, HT3.out.2.2.1, fun b hb => by have := (hF b hb).1; omega, fun b hb => (hF b hb).2, fun b hb hf => by have := (HL.out b hb).2; have := (hF b hf).1; omega⟩
  have hf0 : Fr (fun b => b = w.heap.size + 1 ∨ b = w.heap.size + 1 + 1) w2 w2 := Fr.of_below (Below.refl _ _)
  refine ⟨_, a2, c2', F, rfl, (hsm.fr (((hf0.set' ⟨w.heap.size + 1 + 1, 1, none⟩ (.inr rfl) _).set' ⟨w.heap.size + 1, 0, none⟩ (.inl rfl) _).set' ⟨w.heap.size + 1, 1, none⟩ (.inl rfl) _) (fun b hb => by omega)).low (by omega), ?_⟩
  exact ((HB3.out.setCell (by simp <;> omega) _).setCell (by simp) _).setCell (by simp) _

/-- eqSheet of two readings of one sheet -/
theorem eqSheet_any (w : World) (S S' : Nat → Prop) (s : Sh) (a : Option Addr) (c : Nat) (a' : Option Addr) (c' : Nat) (a2 : Option Addr) (c2 : Nat) (a2' : Option Addr) (c2' : Nat) (h : ShAt w S s a c a' c') (h' : ShAt w S' s a2 c2 a2' c2') :
    Calls Try.prog 12 #[.agg #[.slice a s.m.length c, .slice a' s.t.length c'], .agg #[.slice a2 s.m.length c2, .slice a2' s.t.length c2']] w fun e w' => e = .returned (.bool true) ∧ Below w.heap.size w w' := by
  have H := Lib.hid ((h.alloc (.cells #[.slice a s.m.length c, .slice a' s.t.length c'] 32)).alloc (.cells #[.slice a2 s.m.length c2, .slice a2' s.t.length c2'] 32))
  have H' := Lib.hid ((h'.alloc (.cells #[.slice a s.m.length c, .slice a' s.t.length c'] 32)).alloc (.cells #[.slice a2 s.m.length c2, .slice a2' s.t.length c2'] 32))
  have HB0 := Lib.hid (((Below.refl w.heap.size w).alloc (Nat.le_refl _) (.cells #[.slice a s.m.length c, .slice a' s.t.length c'] 32)).alloc (by simp) (.cells #[.slice a2 s.m.length c2, .slice a2' s.t.length c2'] 32))
  have HK := Lib.hid (And.intro ((Blk.new w 32 #[.slice a s.m.length c, .slice a' s.t.length c']).alloc (.cells #[.slice a2 s.m.length c2, .slice a2' s.t.length c2'] 32)) (Blk.new (w.alloc (.cells #[.slice a s.m.length c, .slice a' s.t.length c'] 32)) 32 #[.slice a2 s.m.length c2, .slice a2' s.t.length c2']))
  clear h h'
  go_enter Try.func12, Try.ntmps12
  go_wp2_with fail
  refine (eqBools_any _ S S' s.m a a2 c c2 H.out.1 H'.out.1).mono ?_
  rintro e w1 ⟨rfl, hb⟩
  have b0 := HK.out.1.below hb (by simp <;> omega)
  have b1 := HK.out.2.below hb (by simp)
  simp only [World.size_alloc] at b1
  obtain ⟨x0, x1, _, _⟩ := b0.two
  obtain ⟨y0, y1, _, _⟩ := b1.two
  have hz := hb.size
  simp only [World.size_alloc] at hz
  have H1 := Lib.hid (H.out.below hb)
  have H1' := Lib.hid (H'.out.below hb)
  have HB1 := Lib.hid (HB0.out.trans (hb.mono (by simp <;> omega)))
  clear hb b0 b1 H H' HK HB0
  go_wp2_with fail
  refine (eqS_all s.t _ S S' a' a2' c' c2' H1.out.2 H1'.out.2).mono ?_
  rintro e w2 ⟨rfl, hb⟩
  have HB2 := Lib.hid (HB1.out.trans (hb.mono (by omega)))
  clear hb x0 x1 y0 y1
  go_wp2_with fail
  go_ret
  exact ⟨rfl, HB2.out⟩

/-- markSheet: only the sheet's own blocks turn. -/
def MarkedSh (w : World) (F : Nat → Prop) (v : Value) (k n : Nat) (e : Ending) (w' : World) : Prop := e = .returned (.int .i64 ((k + n : Nat) : Int)) ∧ Fr (fun b => F b ∨ v.ownBlock = some b) w w'
theorem markSh_any (w : World) (B : Nat) (F : Nat → Prop) (s : Sh) (v : Value) (a' : Option Addr) (c' k : Nat) (h : Shm w B F s v a' c') (hm : s.m.length ≤ 1048576) (hn : nodesL s.t ≤ 1048576) (hk : k ≤ 1000000) :
    Calls Try.prog 13 #[.agg #[v, .slice a' s.t.length c'], .int .i64 k] w (MarkedSh w F v k (s.m.length + 2 * nodesL s.t)) := by
  obtain ⟨a, c, rfl, _⟩ := ElRow.at h.row
  obtain ⟨k1, hk1⟩ : ∃ k1, k1 = k + s.m.length := ⟨_, rfl⟩
  have hk1b : k1 ≤ 3000000 := by omega
  obtain ⟨k2, hk2⟩ : ∃ k2, k2 = k1 + 2 * nodesL s.t := ⟨_, rfl⟩
  have HK1 := Lib.hid hk1
  have HK2 := Lib.hid hk2
  have hf0 : Fr (fun b => F b ∨ (Value.slice a s.m.length c).ownBlock = some b) w (w.alloc (.cells #[.slice a s.m.length c, .slice a' s.t.length c'] 32)) := Fr.of_below ((Below.refl _ _).alloc (Nat.le_refl _) _)
  have HF0 := Lib.hid hf0
  have H := Lib.hid (h.alloc (.cells #[.slice a s.m.length c, .slice a' s.t.length c'] 32))
  have hlt := World.ownsRow.lt h.row
  have HLT := Lib.hid hlt
  have HB := Lib.hid (Blk.new w 32 #[.slice a s.m.length c, .slice a' s.t.length c'])
  have HM := Lib.hid hm
  have HN := Lib.hid hn
  clear h hf0 hlt hk1 hk2 hm hn
  go_enter Try.func13, Try.ntmps13
  go_wp2_with fail
  refine (markB_any _ B _ s.m k H.out.row (by have := HM.out; omega) (by omega)).mono ?_
  rintro e w1 ⟨rfl, hf⟩
  rw [← HK1.out]
  have b0 := HB.out.fr hf (fun e => by have := (HLT.out _ e).2; omega)
  obtain ⟨x0, x1, _, _⟩ := b0.two
  have hn : ∀ b, F b → ¬ (Value.slice a s.m.length c).ownBlock = some b := fun b hF e => H.out.ne b e hF
  have hsh := H.out.sh.keep (w' := w1) (fun _ h => h) (fun b o hF _ v hv => (World.cell?_of_block (w := (w.alloc (.cells #[.slice a s.m.length c, .slice a' s.t.length c'] 32))) (hf.2.2.2.2 b (H.out.lt b hF) (hn b hF))).trans hv)
  have hwf : TWf w1 F := fun b hF => by
    obtain ⟨cs, m, h1, h2⟩ := H.out.wf b hF
    exact ⟨cs, m, h1.fr hf (hn b hF), h2⟩
  have H1 := Lib.hid (And.intro hsh (And.intro hwf (HF0.out.trans hf (fun b hb => .inl (.inr hb)))))
  clear b0 hf hn hsh hwf HB HF0
  go_wp2_with fail
  refine (mkT_list s.t _ F a' c' k1 H1.out.1 H1.out.2.1 (by have := HN.out; omega)).mono ?_
  rw [← HK2.out]
  rintro e w2 ⟨rfl, hth⟩
  have H2 := Lib.hid (H1.out.2.2.trans hth.1 (fun b hb => .inl (.inl hb)))
  clear hth x0 x1
  go_wp2_with fail
  go_ret
  exact ⟨by rw [HK2.out, HK1.out]; simp only [Nat.add_assoc]; rfl, H2.out⟩
end Go.Proofs.Ytochgmbeomfkpaa
/- A sheet that came in as an argument: its reading opened to a sheet -/
namespace Go.Proofs.Ytochgmbeomfkpaa
open Go.ChangeShapes Go.WideShapes Go.ChangeAt Go.RowKit Go.Joins

theorem cellsIntX : Try.prog.cellsOf 3 = 1 := by kernel_rfl
theorem cellsTaskX : Try.prog.cellsOf 90 = 3 := by kernel_rfl
theorem cellsTaskSX : Try.prog.cellsOf 23 = 1 := by kernel_rfl
theorem cellsBoolX : Try.prog.cellsOf 4 = 1 := by kernel_rfl
theorem cellsSheetX : Try.prog.cellsOf 25 = 2 := by kernel_rfl

theorem spot_none {w : World} {a : Addr} {v : Value} (h : w.cell? (a.add 0) = some v) : a.spot = none := by
  obtain ⟨ab, ao, asp⟩ := a
  cases asp with
  | none => rfl
  | some y =>
    exfalso
    simp [Addr.add, World.cell?] at h
    split at h <;> simp at h

section
variable {H : Type} {enc : TypeId × Value → H} {P : Program} {w : World} {base : Nat} {held : Bool} {tS tE : TypeId}

theorem open_bl {fuel : Nat} {v : Value} {x : DataW H × List MemPlace} (hS : P.underlying tS = some (.slice tE)) (hE : P.underlying tE = some .bool) (hC : P.cellsOf tE = 1)
    (h : DataW.trod enc P w base (fun _ => true) held fuel tS [v] = some x) : ∃ (l : List Bool) (a : Option Addr) (c : Nat), v = .slice a l.length c ∧ ElAt Value.bool w (fun _ => True) l a c := by
  rcases Go.Deep.open_bools hS hE hC h with ⟨hv, _⟩ | ⟨a, len, cap, B, hv, _, hl, hm, _, hc⟩
  · simp only [List.cons.injEq, and_true] at hv
    exact ⟨[], none, 0, by simpa using hv, ElAt.nil (by omega)⟩
  · simp only [List.cons.injEq, and_true] at hv
    have hm' : cap ≤ 9223372036854775807 := hm
    refine ⟨(List.range len).map B, some a, cap, by simpa using hv, by simpa using hl, hm', ?_⟩
    by_cases h0 : len = 0
    · left; simp [h0]
    right
    have hs := spot_none (hc 0 (by omega))
    obtain ⟨ab, ao, asp⟩ := a
    simp only at hs
    subst hs
    refine ⟨ab, ao, rfl, trivial, fun i hi => ?_⟩
    simp only [List.length_map, List.length_range] at hi
    have := hc i (by omega)
    have ea : Addr.add ⟨ab, ao, none⟩ i = ⟨ab, ao + i, none⟩ := by unfold Addr.add; split <;> simp_all
    rw [ea] at this
    simpa using this
end

set_option maxRecDepth 100000 in
theorem open_sh {H : Type} {enc : TypeId × Value → H} {w : World} {held : Bool} {r : Reach} {b0 : Nat} {v : Value} {d : DataW H} {p : List MemPlace}
    (hv : Value.okWide Try.prog w r b0 25 v) (h : DataW.Trod enc Try.prog w 0 (fun _ => true) held 25 v d p) :
    ∃ (s : Sh) (a : Option Addr) (c : Nat) (a' : Option Addr) (c' : Nat), v = .agg #[.slice a s.m.length c, .slice a' s.t.length c'] ∧ ShAt w (fun _ => True) s a c a' c' := by
  obtain ⟨v0, v1, y0, y1, n, rfl, _, _, h0, h1⟩ := open_agg2 Try.underlying25 (by kernel_rfl) cellsSheetX hv h
  obtain ⟨l, a, c, rfl, hb⟩ := open_bl Try.underlying22 Try.underlying4 cellsBoolX h0
  obtain ⟨ps, a', c', rfl, hat⟩ := open_tasks Try.underlying3 cellsIntX Try.underlying23 cellsTaskSX Try.underlying90 cellsTaskX ⟨rfl, rfl⟩ ⟨rfl, rfl⟩ ⟨rfl, rfl⟩ _ _ _ h1
  exact ⟨⟨l, ps⟩, a, c, a', c', rfl, hb, hat⟩
end Go.Proofs.Ytochgmbeomfkpaa
/- arguments and results of an exact law, each in the same words: lists of numbers -/
namespace Go.Proofs.Ytochgmbeomfkpaa
open Go.RowKit

theorem Below.frD {D : Nat → Prop} {w wi wj : World} (h : Below w.heap.size w wi) (hf : Fr D wi wj) (hD : ∀ b, D b → w.heap.size ≤ b) : Below w.heap.size w wj :=
  h.trans ⟨hf.1, hf.2.1, hf.2.2.1, hf.2.2.2.1, fun b hb => hf.2.2.2.2 b (Nat.lt_of_lt_of_le hb h.size) (fun hd => by have := hD b hd; omega)⟩

theorem ownsRow_at {w : World} {base sz n : Nat} {e : TypeId} {a : Option Addr} {c : Nat} {xs : List Value} (h : w.ownsRow base e sz (.slice a n c) n xs) :
    n ≤ c ∧ c ≤ 9223372036854775807 ∧ (n = 0 ∨ ∃ g, a = some ⟨g, 0, none⟩ ∧ (Value.slice a n c).ownBlock = some g ∧ ∀ j u, xs[j]? = some u → w.cell? ⟨g, 0 + j, none⟩ = some u) := by
  have h' := h
  obtain ⟨_, ⟨h1, h0⟩ | ⟨g, cap, cur, h1, hb, hh, hn, hc, hz, _⟩⟩ := h
  · simp only [Value.slice.injEq] at h1
    obtain ⟨rfl, rfl, rfl⟩ := h1
    exact ⟨Nat.le_refl _, by omega, .inl rfl⟩
  · simp only [Value.slice.injEq] at h1
    obtain ⟨rfl, _, rfl⟩ := h1
    refine ⟨hn, hc, .inr ⟨g, rfl, rfl, fun j u hj => ?_⟩⟩
    have := World.ownsRow.cells h' (g := g) rfl j u hj
    have e : (⟨g, 0, none⟩ : Addr).add j = ⟨g, 0 + j, none⟩ := by unfold Addr.add; split <;> simp_all
    rwa [e] at this

/-- A list of numbers in memory of its own, in a block that meets D. -/
def IntsOw (w : World) (D : Nat → Prop) (l : List Int) (a : Option Addr) (c : Nat) : Prop := NumRow w 0 (.slice a l.length c) l ∧ ∀ b, (Value.slice a l.length c).ownBlock = some b → D b
def IntsMk (w : World) (D : Nat → Prop) (n k : Nat) (a : Option Addr) (c : Nat) : Prop := NumRow w 0 (.slice a n c) (marks k n) ∧ ∀ b, (Value.slice a n c).ownBlock = some b → D b
section
variable {w w' : World} {D : Nat → Prop} {l : List Int} {a : Option Addr} {c n k : Nat}
theorem IntsOw.at (h : IntsOw w D l a c) (hok : ∀ v ∈ l, i64ok v) : IntsAt w D l a c := by
  obtain ⟨h1, h2, h3⟩ := ownsRow_at h.1
  refine ⟨h1, h2, hok, ?_⟩
  rcases h3 with h3 | ⟨g, ha, ho, hc⟩
  · exact .inl (List.length_eq_zero_iff.1 h3)
  · exact .inr ⟨g, 0, ha, h.2 g ho, fun i hi => hc i _ (by rw [List.getElem?_map, List.getElem?_eq_getElem hi]; rfl)⟩
theorem IntsOw.fr {D' : Nat → Prop} (h : IntsOw w D l a c) (hf : Fr D' w w') (hD : ∀ b, D b → ¬ D' b) : IntsOw w' D l a c := ⟨ownsRow_fr h.1 hf (fun b hb => hD b (h.2 b hb)), h.2⟩
theorem IntsOw.below (h : IntsOw w D l a c) (hb : Below w.heap.size w w') : IntsOw w' D l a c := IntsOw.fr (D' := fun _ => False) h (Fr.of_below hb) (fun _ _ hf => hf)
theorem IntsMk.fr {D' : Nat → Prop} (h : IntsMk w D n k a c) (hf : Fr D' w w') (hD : ∀ b, D b → ¬ D' b) : IntsMk w' D n k a c := ⟨ownsRow_fr h.1 hf (fun b hb => hD b (h.2 b hb)), h.2⟩
theorem IntsMk.below (h : IntsMk w D n k a c) (hb : Below w.heap.size w w') : IntsMk w' D n k a c := IntsMk.fr (D' := fun _ => False) h (Fr.of_below hb) (fun _ _ hf => hf)
theorem NumRow.ow {base : Nat} {v : Value} (h : NumRow w base v l) : ∃ a c D, v = .slice a l.length c ∧ IntsOw w D l a c ∧ ∀ b, D b → base ≤ b ∧ b < w.heap.size := by
  obtain ⟨a, c, rfl⟩ : ∃ a c, v = .slice a l.length c := by
    obtain ⟨_, ⟨rfl, h0⟩ | ⟨g, cap, cur, rfl, _⟩⟩ := h
    · exact ⟨none, 0, by rw [h0]⟩
    · exact ⟨_, cap, rfl⟩
  exact ⟨a, c, fun b => (Value.slice a l.length c).ownBlock = some b, rfl, ⟨ownsRow_low h (Nat.zero_le _), fun _ h => h⟩, fun b hb => World.ownsRow.lt h b hb⟩
end

def CopiedIO (l : List Int) (w : World) (e : Ending) (w' : World) : Prop := ∃ a c D, e = .returned (.slice a l.length c) ∧ IntsOw w' D l a c ∧ (∀ b, D b → w.heap.size ≤ b ∧ b < w'.heap.size) ∧ Below w.heap.size w w'
theorem copyI_ow (w : World) (S : Nat → Prop) (l : List Int) (a : Option Addr) (c : Nat) (h : IntsAt w S l a c) (hle : l.length ≤ 1048576) : Calls Try.prog 9 #[.slice a l.length c] w (CopiedIO l w) :=
  (copyI2_any w S l a c h hle).mono fun _ _ ⟨v, he, hr, hb⟩ => by
    subst he
    obtain ⟨a', c', D, rfl, ho, hD⟩ := hr.ow
    exact ⟨a', c', D, rfl, ho, hD, hb⟩

def MarkedIO (n k : Nat) (D : Nat → Prop) (a : Option Addr) (c : Nat) (w : World) (e : Ending) (w' : World) : Prop := e = .returned (.int .i64 ((k + n : Nat) : Int)) ∧ Fr D w w' ∧ IntsMk w' D n k a c
theorem markI_ow (w : World) (D : Nat → Prop) (l : List Int) (a : Option Addr) (c k : Nat) (h : IntsOw w D l a c) (hl : l.length ≤ 2000000) (hk : k ≤ 100000000) : Calls Try.prog 14 #[.slice a l.length c, .int .i64 k] w (MarkedIO l.length k D a c w) :=
  (markI_any w 0 (.slice a l.length c) l k h.1 hl hk).mono fun _ _ ⟨he, h1, h2⟩ => ⟨he, ⟨h2.os, h2.tape, h2.output, h2.size, fun b hb hn => h2.block b hb (fun e => hn (h.2 b e.symm))⟩, h1, h.2⟩
theorem heldI_ow (w : World) (D : Nat → Prop) (n k : Nat) (a : Option Addr) (c : Nat) (h : IntsMk w D n k a c) (hn : n ≤ 1000000) (hk : k ≤ 100000000) : Calls Try.prog 15 #[.slice a n c, .int .i64 k] w fun e w' => e = .returned (.int .i64 ((k + n : Nat) : Int)) ∧ w = w' :=
  heldI_any w 0 (.slice a n c) k n h.1 hn hk
end Go.Proofs.Ytochgmbeomfkpaa
