/- what a task may fetch; spec.l2May, spec.TaskMay -/
import Derived.Test.YtklmpagpkeffjaaVals
import Derived.Test.YtklmpagpkeffjaaL2
import Derived.Test.YtklmpagpkeffjaaRow
import Derived.Test.YtklmpagpkeffjaaOkI
import Derived.Test.YtklmpagpkeffjaaLim
namespace Go.Proofs.Ytklmpagpkeffjaa
open Go.RowKit

mutual
def T.may (q : Int) : T → Bool
  | .mk k n ps => (decide (k = 1) && decide (n = q)) || (decide (k = 5) || mayL q ps)
def mayL (q : Int) : List T → Bool
  | [] => false
  | t :: r => t.may q || mayL q r
end
theorem T.may_eq (q : Int) (t : T) : t.may q = ((decide (t.k = 1) && decide (t.n = q)) || (decide (t.k = 5) || mayL q t.ps)) := by cases t; rfl
theorem mayL_append (q : Int) : ∀ a b : List T, mayL q (a ++ b) = (mayL q a || mayL q b)
  | [], b => by simp [mayL]
  | t :: r, b => by simp only [List.cons_append, mayL, mayL_append q r b, Bool.or_assoc]
theorem mayL_snoc (q : Int) (ps : List T) (i : Nat) (h : i < ps.length) : mayL q (ps.take (i + 1)) = (mayL q (ps.take i) || ps[i].may q) := by
  rw [List.take_succ_eq_append_getElem h, mayL_append]; simp [mayL]

/-- Ten truths in block g. -/
def TruAt (w : World) (g : Nat) (e : TypeId) (m : Nat → Bool) : Prop := ∃ cs : Array Value, Blk w g e cs ∧ cs.size = 10 ∧ ∀ i, i < 10 → cs[i]? = some (.bool (m i))
section
variable {w w' : World} {g : Nat} {e : TypeId} {m m' : Nat → Bool}
theorem TruAt.lt (h : TruAt w g e m) : g < w.heap.size := by obtain ⟨_, h, _⟩ := h; exact h.lt
theorem TruAt.alloc (h : TruAt w g e m) (o : Obj) : TruAt (w.alloc o) g e m := by obtain ⟨cs, h1, h2⟩ := h; exact ⟨cs, h1.alloc o, h2⟩
theorem TruAt.drew (h : TruAt w g e m) : TruAt w.drew g e m := by obtain ⟨cs, h1, h2⟩ := h; exact ⟨cs, h1.drew, h2⟩
theorem TruAt.congr (h : TruAt w g e m) (hm : ∀ i, i < 10 → m i = m' i) : TruAt w g e m' := by
  obtain ⟨cs, h1, h2, h3⟩ := h
  exact ⟨cs, h1, h2, fun i hi => by rw [h3 i hi, hm i hi]⟩
theorem TruAt.cell (h : TruAt w g e m) {i : Nat} (hi : i < 10) : w.cell? ⟨g, i, none⟩ = some (.bool (m i)) ∧ w.frozen? ⟨g, i, none⟩ = false := by
  obtain ⟨cs, h1, h2, h3⟩ := h
  exact ⟨(h1.cell i).trans (h3 i hi), h1.frozen i⟩
theorem TruAt.set_ (h : TruAt w g e m) (j : Nat) : TruAt (w.setCell ⟨g, j, none⟩ (.bool true)) g e (fun i => m i || decide (i = j)) := by
  obtain ⟨cs, h1, h2, h3⟩ := h
  refine ⟨_, h1.set_ j (.bool true), by simp [h2], fun i hi => ?_⟩
  rw [Array.getElem?_setIfInBounds]
  by_cases hij : j = i
  · subst hij
    rw [if_pos rfl, if_pos (by omega)]; simp
  · rw [if_neg hij, h3 i hi]
    show _ = some (Value.bool (m i || decide (i = j)))
    rw [decide_eq_false (by omega : ¬ i = j), Bool.or_false]
end

def MayPost (e : TypeId) (g : Nat) (w : World) (m : Nat → Bool) (en : Ending) (w' : World) : Prop := en = .returned (.tuple #[]) ∧ TruAt w' g e m ∧ Only g w w'

theorem AtS.only' {w w' : World} {S : Nat → Prop} {ps : List T} {a : Option Addr} {c g : Nat} (h : AtS w S ps a c) (ho : Only g w w') (hg : ∀ b, S b → b ≠ g) : AtS w' S ps a c :=
  h.keep (fun _ h => h) (fun b hb hl => ho.block b hl (by intro e; injection e with e; exact hg b hb e))

theorem only_size {g : Nat} {w w' : World} (h : Only g w w') : w.heap.size ≤ w'.heap.size := h.size

def MayT (t : T) : Prop := ∀ (w : World) (S : Nat → Prop) (a : Option Addr) (c g : Nat) (m : Nat → Bool), AtS w S t.ps a c → (∀ b, S b → b ≠ g) → t.fit = true → TruAt w g 4 m →
  Calls Try.prog 127 #[.agg #[.int .i64 t.k, .int .i64 t.n, .slice a t.ps.length c], .slice (some ⟨g, 0, none⟩) 10 10] w (MayPost 4 g w (fun i => m i || t.may (i : Int)))

theorem may_one (nn : Nat) (i : Nat) (m : Nat → Bool) : (m i || decide (i = nn)) = (m i || (T.mk 1 (nn : Int) []).may (i : Int)) := by
  simp only [T.may, mayL]
  by_cases h : i = nn
  · subst h; simp
  · have h2 : ¬ (nn : Int) = (i : Int) := by omega
    simp [h, h2]

set_option maxHeartbeats 1000000 in
theorem may_1 (n : Int) (h0 : 0 ≤ n) (h9 : n ≤ 9) : MayT (.mk 1 n []) := by
  intro w S a c g m hat hS hf htr
  simp only [T.k, T.n, T.ps, List.length_nil] at *
  obtain ⟨nn, rfl⟩ : ∃ nn : Nat, n = nn := ⟨n.toNat, by omega⟩
  have hgl := htr.lt
  have hgn : w.heap.size ≠ g := by omega
  have hn10 : nn < 10 := by omega
  have hsz0 : (w.setCell ⟨g, nn, none⟩ (.bool true)).heap.size = w.heap.size := by simp [World.setCell]
  obtain ⟨W, hW⟩ : ∃ W, W = (w.setCell ⟨g, nn, none⟩ (.bool true)).alloc (.cells #[.int .i64 1, .int .i64 nn, .slice a 0 c] 42) := ⟨_, rfl⟩
  have HM := htr.alloc (.cells #[.int .i64 1, .int .i64 nn, .slice a 0 c] 42)
  have HSET := Lib.hid (show TruAt W g 4 (fun i => m i || (T.mk 1 (nn : Int) []).may (i : Int)) by rw [hW]; exact ((htr.set_ nn).congr (fun i _ => may_one nn i m)).alloc _)
  have HOS := Lib.hid (show Only g w W by rw [hW]; exact ((Only.refl g w).set (.inl rfl) _).alloc _)
  have HBS := Lib.hid (show Blk W w.heap.size 42 #[.int .i64 1, .int .i64 nn, .slice a 0 c] by rw [hW, ← hsz0]; exact Blk.new _ _ _)
  obtain ⟨hcell, hfz⟩ := HM.cell hn10
  have HWW := Lib.hid hW
  clear hat htr hf HM hW hsz0
  go_enter Try.func127, Try.ntmps127
  go_wp2_with fail
  clear hcell hfz
  rw [← HWW.out]
  go_loopw [4] (fun i wr => i = .int .i64 0 ∧ wr = W) (fun _ _ => 0)
  case atStart => exact ⟨rfl, rfl⟩
  case round =>
    obtain ⟨rfl, rfl⟩ := hrel
    obtain ⟨x0, x1, x2, f0, f1, f2⟩ := HBS.out.three
    go_wp2_with fail
    go_loopw [5] (fun i wr' => i = .int .i64 0 ∧ wr' = wr) (fun _ _ => 0)
    case atStart => exact ⟨rfl, rfl⟩
    case round =>
      obtain ⟨rfl, rfl⟩ := hrel
      go_wp2_with fail
      go_end0
      exact ⟨rfl, HSET.out, HOS.out⟩

set_option maxRecDepth 100000 in
set_option maxHeartbeats 2000000 in
theorem may_n (t : T) (hk1 : t.k ≠ 1) (hT : ∀ u ∈ t.ps, MayT u) : MayT t := by
  intro w S a c g m hat hS hf htr
  have hgl := htr.lt
  have hgn : w.heap.size ≠ g := by omega
  have HT := Lib.hid hT
  have HS := Lib.hid hS
  have HA := Lib.hid (hat.lim.alloc (.cells #[.int .i64 t.k, .int .i64 t.n, .slice a t.ps.length c] 42))
  have HB := Lib.hid (Blk.new w 42 #[.int .i64 t.k, .int .i64 t.n, .slice a t.ps.length c])
  have HO := Lib.hid ((Only.refl g w).alloc (.cells #[.int .i64 t.k, .int .i64 t.n, .slice a t.ps.length c] 42))
  have HM := Lib.hid (htr.alloc (.cells #[.int .i64 t.k, .int .i64 t.n, .slice a t.ps.length c] 42))
  have hlen : t.ps.length ≤ 9223372036854775807 := by have := hat.1; have := hat.2.1; omega
  have hfe := T.fit_eq t
  rw [hf] at hfe
  have hfe' := hfe.symm
  simp only [Bool.and_eq_true] at hfe'
  have hpf : ∀ i (h : i < t.ps.length), t.ps[i].fit = true := by
    intro i hi
    cases hx : t.ps[i].fit
    · have := fitL_false t.ps i hi hx; rw [hfe'.2] at this; cases this
    · rfl
  have HPF := Lib.hid hpf
  have hk1b : (t.k == 1) = false := by simpa using hk1
  have HMAY := Lib.hid (show ∀ i : Nat, t.may (i : Int) = (decide (t.k = 5) || mayL (i : Int) t.ps) from fun i => by rw [T.may_eq, decide_eq_false hk1]; simp)
  obtain ⟨W, hW⟩ : ∃ W, W = w.alloc (.cells #[.int .i64 t.k, .int .i64 t.n, .slice a t.ps.length c] 42) := ⟨_, rfl⟩
  have hws : W.heap.size = w.heap.size + 1 := by rw [hW]; simp
  have HWW := Lib.hid hW
  rw [← hW] at HA HB HO HM
  have HSZ := Lib.hid hws
  clear hT hS hat htr hfe hfe' hpf hf hW hws
  go_enter Try.func127, Try.ntmps127
  go_wp2_with fail
  clear hk1b
  rw [← HWW.out]
  go_loopw [4] (fun i wr => ∃ j : Nat, j ≤ 10 ∧ i = .int .i64 j ∧ TruAt wr g 4 (fun i => m i || (decide (t.k = 5) && decide (i < j))) ∧ Only g W wr) (fun i _ => 10 - (intOf i).toNat)
  case atStart => exact ⟨0, by omega, rfl, HM.out.congr (fun i _ => by simp), Only.refl _ _⟩
  case round =>
    obtain ⟨j, hj, rfl, htr, ho⟩ := hrel
    have HTR := Lib.hid htr
    have HOW := Lib.hid ho
    obtain ⟨x0, x1, x2, f0, f1, f2⟩ := (HB.out.only ho hgn).three
    have hwr := ho.size
    have hsz := HSZ.out
    clear htr ho
    by_cases hgo : j < 10 ∧ t.k = 5
    · obtain ⟨hj10, hk5⟩ := hgo
      have hk5b : (t.k == 5) = true := by simpa using hk5
      obtain ⟨hcell, hfz⟩ := HTR.out.cell hj10
      have HS2 := Lib.hid ((HTR.out.set_ j).congr (m' := fun i => m i || (decide (t.k = 5) && decide (i < j + 1))) (fun i hi => by
        show ((m i || (decide (t.k = 5) && decide (i < j))) || decide (i = j)) = _
        rw [decide_eq_true hk5, Bool.or_assoc]
        congr 1
        simp only [Bool.true_and]
        rw [Bool.eq_iff_iff, Bool.or_eq_true, decide_eq_true_eq, decide_eq_true_eq, decide_eq_true_eq]
        omega))
      have HO2 := Lib.hid (HOW.out.set (p := ⟨g, j, none⟩) (.inl rfl) (.bool true))
      clear hk5
      go_wp2_with fail
      go_roundw
      case rel => exact ⟨j + 1, by omega, by go_num, HS2.out, HO2.out⟩
      case measure => simp [intOf]; omega
    · have HT2 := Lib.hid (HTR.out.congr (m' := fun i => m i || decide (t.k = 5)) (fun i hi => by
        show (m i || (decide (t.k = 5) && decide (i < j))) = _
        by_cases h5 : t.k = 5
        · rw [decide_eq_true h5, decide_eq_true (show i < j by omega)]; rfl
        · rw [decide_eq_false h5]; rfl))
      have HA2 := Lib.hid (HA.out.only' HOW.out (fun b hb => HS.out b hb.1))
      have HB2 := Lib.hid (HB.out.only HOW.out hgn)
      have hj5 : j < 10 → (t.k == 5) = false := by intro h; simp; intro h5; exact hgo ⟨h, h5⟩
      clear hgo HTR
      by_cases hj10 : j < 10
      all_goals
        first | (have hk5 := hj5 hj10) | skip
        clear hj5
        go_wp2_with fail
        go_loopw [5] (fun i wr2 => ∃ k : Nat, k ≤ t.ps.length ∧ i = .int .i64 k ∧ TruAt wr2 g 4 (fun i => m i || (decide (t.k = 5) || mayL (i : Int) (t.ps.take k))) ∧ Only g wr wr2) (fun i _ => t.ps.length - (intOf i).toNat)
        case atStart => exact ⟨0, by omega, rfl, HT2.out.congr (fun i _ => by simp [mayL]), Only.refl _ _⟩
        case round =>
          obtain ⟨k, hk, rfl, htr2, ho2⟩ := hrel
          have HTR2 := Lib.hid htr2
          have HO2 := Lib.hid ho2
          have hwr2 := ho2.size
          obtain ⟨y0, y1, y2, g0, g1, g2⟩ := (HB2.out.only ho2 hgn).three
          clear htr2 ho2
          by_cases hlt : k < t.ps.length
          · obtain ⟨bb, o, a', c', rfl, hbl, hbS, e0, e1, e2, hs, _, _⟩ := (HA2.out.only' HO2.out (fun b hb => HS.out b hb.1)).elem (Below.refl _ _) hlt
            have HS' := Lib.hid hs
            have HSN := Lib.hid (fun q : Int => mayL_snoc q t.ps k hlt)
            have hpf := HPF.out k hlt
            have HPFK := Lib.hid hpf
            clear hs hpf
            go_wp2_with fail
            refine (HT.out t.ps[k] (List.getElem_mem _) _ _ a' c' g _ HS'.out (fun b hb => HS.out b hb.1) HPFK.out HTR2.out).mono ?_
            rintro e w5 ⟨rfl, htr5, ho5⟩
            have H5 := Lib.hid (And.intro (htr5.congr (m' := fun i => m i || (decide (t.k = 5) || mayL (i : Int) (t.ps.take (k + 1)))) (fun i _ => by
              show ((m i || (decide (t.k = 5) || mayL (i : Int) (t.ps.take k))) || t.ps[k].may (i : Int)) = (m i || (decide (t.k = 5) || mayL (i : Int) (t.ps.take (k + 1))))
              rw [HSN.out, Bool.or_assoc, Bool.or_assoc])) (HO2.out.trans ho5))
            clear htr5 ho5
            go_wp2_with fail
            go_roundw
            case rel => exact ⟨k + 1, by omega, by go_num, H5.out.1, H5.out.2⟩
            case measure => simp [intOf]; omega
          · have hq : t.ps.take k = t.ps := List.take_of_length_le (by omega)
            have HT9 := Lib.hid (HTR2.out.congr (m' := fun i => m i || t.may (i : Int)) (fun i _ => by
              show (m i || (decide (t.k = 5) || mayL (i : Int) (t.ps.take k))) = _
              rw [hq, HMAY.out]))
            clear hq
            go_wp2_with fail
            go_end0
            exact ⟨rfl, HT9.out, HO.out.trans (HOW.out.trans HO2.out)⟩
theorem may_all : ∀ t, MayT t := T.ind fun k n ps ih => by
  intro w S a c g m hat hS hf htr
  by_cases h1 : k = 1
  · subst h1
    have h := hf
    rw [T.fit_eq] at h
    simp only [T.k, T.n, T.ps, Bool.and_eq_true] at h
    have hk := kinds h.1
    have hps : ps = [] := List.length_eq_zero_iff.1 (by omega)
    subst hps
    exact may_1 n (by omega) (by omega) w S a c g m hat hS hf htr
  · exact may_n (.mk k n ps) h1 ih w S a c g m hat hS hf htr
end Go.Proofs.Ytklmpagpkeffjaa
