/- lists of numbers in memory; toIntS, eqIntS; values of keys -/
import Derived.Test.YtklmpagpkeffjaaRun
import Derived.Test.YtklmpagpkeffjaaCopy
import Derived.Test.YtklmpagpkeffjaaOk
import Derived.Test.YtklmpagpkeffjaaBlk
import Derived.BigQuiet
import Derived.Deep.QuietTactic
namespace Go.Proofs.Ytklmpagpkeffjaa
open Go.RowKit

/-- The slice value '.slice a l.length c' has the numbers l, in a block that meets S. -/
def IntsAt (w : World) (S : Nat → Prop) (l : List Int) (a : Option Addr) (c : Nat) : Prop :=
  l.length ≤ c ∧ c ≤ 9223372036854775807 ∧ (∀ v ∈ l, i64ok v) ∧ (l = [] ∨ ∃ b o, a = some ⟨b, o, none⟩ ∧ S b ∧ ∀ i (h : i < l.length), w.cell? ⟨b, o + i, none⟩ = some (.int .i64 l[i]))

section
variable {w w' : World} {S S' : Nat → Prop} {l : List Int} {a : Option Addr} {c : Nat}
theorem IntsAt.keep (hS : ∀ b, S b → S' b) (hk : ∀ b, S b → b < w.heap.size → w'.heap[b]? = w.heap[b]?) (h : IntsAt w S l a c) : IntsAt w' S' l a c := by
  obtain ⟨h1, h2, h3, h4⟩ := h
  refine ⟨h1, h2, h3, ?_⟩
  rcases h4 with h4 | ⟨b, o, ha, hb, hc⟩
  · exact .inl h4
  · refine .inr ⟨b, o, ha, hS b hb, fun i hi => ?_⟩
    have := hc i hi
    exact (World.cell?_of_block (w := w) (hk b hb (cell_lt this))).trans this
theorem IntsAt.below (h : IntsAt w S l a c) (hb : Below w.heap.size w w') : IntsAt w' S l a c := h.keep (fun _ h => h) (fun b _ hl => hb.block b hl)
theorem IntsAt.alloc (h : IntsAt w S l a c) (o : Obj) : IntsAt (w.alloc o) S l a c := h.below ((Below.refl _ _).alloc (Nat.le_refl _) o)
theorem IntsAt.drew (h : IntsAt w S l a c) : IntsAt w.drew S l a c := IntsAt.keep (w := w) (w' := w.drew) (fun _ h => h) (fun _ _ _ => rfl) h
theorem IntsAt.drewN (h : IntsAt w S l a c) (n : Nat) : IntsAt (w.drewN n) S l a c := IntsAt.keep (w := w) (w' := w.drewN n) (fun _ h => h) (fun _ _ _ => rfl) h
theorem IntsAt.setCell (h : IntsAt w S l a c) {p : Addr} (hp : ∀ b, S b → b ≠ p.block) (v : Value) : IntsAt (w.setCell p v) S l a c := h.keep (fun _ h => h) (fun b hb _ => Below.heap_setCell _ _ _ _ (hp b hb))
theorem IntsAt.weaken (h : IntsAt w S l a c) (hS : ∀ b, S b → S' b) : IntsAt w S' l a c := h.keep hS (fun _ _ _ => rfl)
theorem IntsAt.lim (h : IntsAt w S l a c) : IntsAt w (fun b => S b ∧ b < w.heap.size) l a c := by
  obtain ⟨h1, h2, h3, h4⟩ := h
  refine ⟨h1, h2, h3, ?_⟩
  rcases h4 with h4 | ⟨b, o, ha, hb, hc⟩
  · exact .inl h4
  · by_cases hl : l = []
    · exact .inl hl
    · exact .inr ⟨b, o, ha, ⟨hb, cell_lt (hc 0 (List.length_pos_iff.2 hl))⟩, hc⟩
theorem IntsAt.get (h : IntsAt w S l a c) (hb : Below w.heap.size w w') {i : Nat} (hi : i < l.length) :
    ∃ b o, a = some ⟨b, o, none⟩ ∧ b < w.heap.size ∧ S b ∧ w'.cell? ⟨b, o + i, none⟩ = some (.int .i64 l[i]) := by
  rcases h.2.2.2 with rfl | ⟨b, o, ha, hS, hc⟩
  · simp at hi
  · have := hc i hi
    have hlt := cell_lt this
    exact ⟨b, o, ha, hlt, hS, (hb.cell (p := ⟨b, o + i, none⟩) hlt).trans this⟩
theorem IntsAt.nil (hc : c ≤ 9223372036854775807) : IntsAt w S [] a c := ⟨by simp, hc, by simp, .inl rfl⟩
end

theorem all_snoc (f : Int → Bool) (l : List Int) (k : Nat) (h : k < l.length) : (l.take (k + 1)).all f = ((l.take k).all f && f l[k]) := by
  rw [List.take_succ_eq_append_getElem h, List.all_append]; simp
theorem all_false (f : Int → Bool) (l : List Int) (k : Nat) (h : k < l.length) (hf : f l[k] = false) : l.all f = false := by
  cases hx : l.all f
  · rfl
  · rw [List.all_eq_true] at hx
    rw [hx _ (List.getElem_mem h)] at hf
    cases hf

/-- impl.valuesOk -/
theorem implVals_any (w : World) (S : Nat → Prop) (l : List Int) (a : Option Addr) (c : Nat) (h : IntsAt w S l a c) :
    Calls Try.prog 104 #[.slice a l.length c] w fun e w' => e = .returned (.bool (vok l)) ∧ w = w' := by
  have hlen : l.length ≤ 9223372036854775807 := by have := h.1; have := h.2.1; omega
  have H := Lib.hid h
  clear h
  by_cases h10 : 10 < l.length
  · have hv : vok l = false := by unfold vok; rw [decide_eq_false (by omega)]; rfl
    rw [hv]; clear hv
    go_enter Try.func104, Try.ntmps104
    go_wp2_with fail
    go_ret
    exact ⟨rfl, rfl⟩
  · have hv : vok l = l.all vin := by unfold vok; rw [decide_eq_true (by omega)]; rfl
    have HV := Lib.hid hv
    clear hv
    go_enter Try.func104, Try.ntmps104
    go_wp2_with fail
    go_loop [10] (fun i => ∃ k : Nat, k ≤ l.length ∧ i = .int .i64 k ∧ (l.take k).all vin = true) (fun i => l.length - (intOf i).toNat)
    case atStart => exact ⟨0, by omega, rfl, rfl⟩
    case round =>
      obtain ⟨k, hk, rfl, hq⟩ := hrel
      have HQ := Lib.hid hq
      clear hq
      by_cases hlt : k < l.length
      · obtain ⟨b, o, rfl, hbl, _, hc⟩ := H.out.get (Below.refl _ _) hlt
        have HS := Lib.hid (all_snoc vin l k hlt)
        have HF := Lib.hid (all_false vin l k hlt)
        obtain ⟨v, hv⟩ : ∃ v, v = l[k] := ⟨_, rfl⟩
        rw [← hv] at hc
        have HVV := Lib.hid hv
        clear hv
        by_cases hn : v < 0
        · have hf : l.all vin = false := HF.out (by rw [← HVV.out]; unfold vin; rw [decide_eq_false (by omega)])
          have HF' := Lib.hid hf
          have hd : decide (v < 0) = true := by simpa using hn
          clear hf
          go_wp2_with fail
          go_ret
          exact ⟨ret_bool (by rw [HV.out, HF'.out]), rfl⟩
        by_cases hp : 96 < v
        · have hf : l.all vin = false := HF.out (by rw [← HVV.out]; unfold vin; rw [decide_eq_false (by omega)])
          have HF' := Lib.hid hf
          have hd : decide (v < 0) = false := by simpa using hn
          have hd2 : decide (96 < v) = true := by simpa using hp
          clear hf
          go_wp2_with fail
          go_ret
          exact ⟨ret_bool (by rw [HV.out, HF'.out]), rfl⟩
        · have hd : decide (v < 0) = false := by simpa using hn
          have hd2 : decide (96 < v) = false := by simpa using hp
          go_wp2_with fail
          go_round
          case rel => exact ⟨k + 1, by omega, by go_num, by rw [HS.out, HQ.out, ← HVV.out]; unfold vin; rw [decide_eq_true (by omega)]; rfl⟩
          case measure => simp [intOf]; omega
      · have hf : l.all vin = true := by have := HQ.out; rwa [List.take_of_length_le (by omega)] at this
        have HF' := Lib.hid hf
        clear hf
        go_wp2_with fail
        go_ret
        exact ⟨ret_bool (by rw [HV.out, HF'.out]), rfl⟩

/-- spec.l2Values -/
theorem specVals_any (w : World) (S : Nat → Prop) (l : List Int) (a : Option Addr) (c : Nat) (h : IntsAt w S l a c) :
    Calls Try.prog 107 #[.slice a l.length c] w fun e w' => e = .returned (.bool (vok l)) ∧ w = w' := by
  have hlen : l.length ≤ 9223372036854775807 := by have := h.1; have := h.2.1; omega
  have H := Lib.hid h
  clear h
  by_cases h10 : 10 < l.length
  · have hv : vok l = false := by unfold vok; rw [decide_eq_false (by omega)]; rfl
    rw [hv]; clear hv
    go_enter Try.func107, Try.ntmps107
    go_wp2_with fail
    go_ret
    exact ⟨rfl, rfl⟩
  · have hv : vok l = l.all vin := by unfold vok; rw [decide_eq_true (by omega)]; rfl
    have HV := Lib.hid hv
    clear hv
    go_enter Try.func107, Try.ntmps107
    go_wp2_with fail
    go_loop [3] (fun i => ∃ k : Nat, k ≤ l.length ∧ i = .int .i64 k ∧ (l.take k).all vin = true) (fun i => l.length - (intOf i).toNat)
    case atStart => exact ⟨0, by omega, rfl, rfl⟩
    case round =>
      obtain ⟨k, hk, rfl, hq⟩ := hrel
      have HQ := Lib.hid hq
      clear hq
      by_cases hlt : k < l.length
      · obtain ⟨b, o, rfl, hbl, _, hc⟩ := H.out.get (Below.refl _ _) hlt
        have HS := Lib.hid (all_snoc vin l k hlt)
        have HF := Lib.hid (all_false vin l k hlt)
        obtain ⟨v, hv⟩ : ∃ v, v = l[k] := ⟨_, rfl⟩
        rw [← hv] at hc
        have HVV := Lib.hid hv
        clear hv
        by_cases hn : 0 ≤ v ∧ v ≤ 96
        · have hd : decide (0 ≤ v ∧ v ≤ 96) = true := by simpa using hn
          have HD := Lib.hid hd
          clear hd hn
          go_wp2_with (go_at_call 102; refine (in_any _ _ _ _).mono ?_; rw [HD.out]; rintro e w' ⟨rfl, rfl⟩)
          go_round
          case rel => exact ⟨k + 1, by omega, by go_num, by rw [HS.out, HQ.out, ← HVV.out]; unfold vin; rw [HD.out]; rfl⟩
          case measure => simp [intOf]; omega
        · have hd : decide (0 ≤ v ∧ v ≤ 96) = false := by simpa using hn
          have HD := Lib.hid hd
          have hf : l.all vin = false := HF.out (by rw [← HVV.out]; exact hd)
          have HF' := Lib.hid hf
          clear hd hn hf
          go_wp2_with (go_at_call 102; refine (in_any _ _ _ _).mono ?_; rw [HD.out]; rintro e w' ⟨rfl, rfl⟩)
          go_ret
          exact ⟨ret_bool (by rw [HV.out, HF'.out]), rfl⟩
      · have hf : l.all vin = true := by have := HQ.out; rwa [List.take_of_length_le (by omega)] at this
        have HF' := Lib.hid hf
        clear hf
        go_wp2_with fail
        go_ret
        exact ⟨ret_bool (by rw [HV.out, HF'.out]), rfl⟩

theorem vf_in {l : List Int} {k : Nat} (h : k < l.length) : vf l k = l[k] := by
  unfold vf; rw [if_pos (by omega)]; simp [List.getD_eq_getElem?_getD, h]
theorem vf_out {l : List Int} {k : Nat} (h : ¬ k < l.length) : vf l k = 0 := by
  unfold vf; rw [if_neg (by omega)]

/-- spec.l2Of -/
theorem of_any (w : World) (S : Nat → Prop) (l : List Int) (a : Option Addr) (c : Nat) (h : IntsAt w S l a c) (key : Int) (h0 : 0 ≤ key) (h1 : key ≤ 1000) :
    Calls Try.prog 109 #[.slice a l.length c, .int .i64 key] w fun e w' => e = .returned (.int .i64 (vf l key)) ∧ w = w' := by
  obtain ⟨k, rfl⟩ : ∃ k : Nat, key = k := ⟨key.toNat, by omega⟩
  have hlen : l.length ≤ 9223372036854775807 := by have := h.1; have := h.2.1; omega
  by_cases hlt : k < l.length
  · rw [vf_in hlt]
    obtain ⟨b, o, rfl, hbl, _, hc⟩ := h.get (Below.refl _ _) hlt
    clear h
    go_enter Try.func109, Try.ntmps109
    go_wp2_with fail
    go_ret
    exact ⟨rfl, rfl⟩
  · rw [vf_out hlt]
    clear h
    go_enter Try.func109, Try.ntmps109
    go_wp2_with fail
    go_ret
    exact ⟨rfl, rfl⟩

/-- The closure of impl.fetchFrom -/
theorem fetch_any (w : World) (S : Nat → Prop) (l : List Int) (a : Option Addr) (c g : Nat) (h : IntsAt w S l a c) (hg : Blk w g 30 #[.slice a l.length c]) (key : Int) (h0 : 0 ≤ key) (h1 : key ≤ 1000) :
    Calls Try.prog 130 #[.int .i64 key, .pointer (some ⟨g, 0, none⟩)] w fun e w' => e = .returned (.int .i64 (vf l key)) ∧ w = w' := by
  obtain ⟨k, rfl⟩ : ∃ k : Nat, key = k := ⟨key.toNat, by omega⟩
  have hlen : l.length ≤ 9223372036854775807 := by have := h.1; have := h.2.1; omega
  have hx := hg.cell 0
  simp only [List.getElem?_toArray, List.getElem?_cons_zero] at hx
  clear hg
  by_cases hlt : k < l.length
  · rw [vf_in hlt]
    obtain ⟨b, o, rfl, hbl, _, hc⟩ := h.get (Below.refl _ _) hlt
    clear h
    go_enter Try.func130, Try.ntmps130
    go_wp2_with fail
    go_ret
    exact ⟨rfl, rfl⟩
  · rw [vf_out hlt]
    clear h
    go_enter Try.func130, Try.ntmps130
    go_wp2_with fail
    go_ret
    exact ⟨rfl, rfl⟩

theorem below_drewN {B : Nat} {w w' : World} (h : Below B w w') (n : Nat) : Below B w (w'.drewN n) := ⟨h.os, h.tape, h.output, h.size, h.block⟩

/-- eqIntS of two readings of one list -/
theorem eqInts_any (w : World) (S S' : Nat → Prop) (l : List Int) (a a' : Option Addr) (c c' : Nat) (h : IntsAt w S l a c) (h' : IntsAt w S' l a' c') :
    Calls Try.prog 40 #[.slice a l.length c, .slice a' l.length c'] w fun e w' => e = .returned (.bool true) ∧ Below w.heap.size w w' := by
  have hlen : l.length ≤ 9223372036854775807 := by have := h.1; have := h.2.1; omega
  have H := Lib.hid h
  have H' := Lib.hid h'
  clear h h'
  have hne : (((l.length : Nat) : Int) != ((l.length : Nat) : Int)) = false := by simp
  go_enter Try.func40, Try.ntmps40
  go_wp2_with fail
  clear hne
  go_loopw [5] (fun i wr => ∃ k : Nat, k ≤ l.length ∧ i = .int .i64 k ∧ Below w.heap.size w wr) (fun i _ => l.length - (intOf i).toNat)
  case atStart => exact ⟨0, by omega, rfl, Below.refl _ _⟩
  case round =>
    obtain ⟨k, hk, rfl, hb⟩ := hrel
    have HB := Lib.hid hb
    clear hb
    by_cases hlt : k < l.length
    · obtain ⟨b, o, rfl, hbl, _, hc⟩ := H.out.get HB.out hlt
      obtain ⟨b', o', rfl, hbl', _, hc'⟩ := H'.out.get HB.out hlt
      have hne : (l[k] != l[k]) = false := by simp
      obtain ⟨v, hv⟩ : ∃ v, v = l[k] := ⟨_, rfl⟩
      rw [← hv] at hc hc' hne
      clear hv
      go_wp2_with fail
      go_quiet (fail)
      go_wp2_with fail
      go_roundw
      case rel => exact ⟨k + 1, by omega, by go_num, below_drewN HB.out _⟩
      case measure => simp [intOf]; omega
    · go_wp2_with fail
      go_ret
      exact ⟨rfl, HB.out⟩
end Go.Proofs.Ytklmpagpkeffjaa
