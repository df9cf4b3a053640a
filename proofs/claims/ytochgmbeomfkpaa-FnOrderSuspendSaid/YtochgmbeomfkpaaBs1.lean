/- several texts in one: Vals, OpenInts, Do, L2, Reck, From, FromS, Row, Mark, CopyM, El, Note -/
import Derived.Test.YtochgmbeomfkpaaBs0
import Derived.BigQuiet
import Derived.Deep.QuietTactic
import Derived.Test.YtochgmbeomfkpaaRows
import Derived.ProofKit
import Derived.Laws.AppendOwn
import Derived.OwnWalk
import Derived.Deep.RegionWith
import Derived.Shelf.Abstract
import Derived.ArgAppend
/- lists of numbers in memory; toIntS, eqIntS; values of keys -/
namespace Go.Proofs.Ytochgmbeomfkpaa
open Go.RowKit

/-- The slice value '.slice a l.length c' has the numbers l, in a block that meets S. -/
def IntsAt (w : World) (S : Nat → Prop) (l : List Int) (a : Option Addr) (c : Nat) : Prop :=
  l.length ≤ c ∧ c ≤ 9223372036854775807 ∧ (∀ v ∈ l, i64ok v) ∧ (l = [] ∨ ∃ b o, a = some ⟨b, o, none⟩ ∧ S b ∧ ∀ i (h : i < l.length), w.cell? ⟨b, o + i, none⟩ = some (.int .i64 l[i]))

section
variable {w w' : World} {S S' : Nat → Prop} {l : List Int} {a : Option Addr} {c : Nat}
theorem IntsAt.keep (hS : ∀ b, S b → S' b) (hk : ∀ b, S b → b < w.heap.size → w'.heap[b]? = w.heap[b]?) (h : IntsAt w S l a c) : IntsAt w' S' l a c := by
  obtain ⟨h1, h2, h3, h4⟩ := h
  refine ⟨h1, h2, h3, ?_⟩
  rcases h4 with h4 | ⟨b, o, ha, hb, hc⟩
  · exact .inl h4
  · refine .inr ⟨b, o, ha, hS b hb, fun i hi => ?_⟩
    have := hc i hi
    exact (World.cell?_of_block (w := w) (hk b hb (cell_lt this))).trans this
theorem IntsAt.below (h : IntsAt w S l a c) (hb : Below w.heap.size w w') : IntsAt w' S l a c := h.keep (fun _ h => h) (fun b _ hl => hb.block b hl)
theorem IntsAt.alloc (h : IntsAt w S l a c) (o : Obj) : IntsAt (w.alloc o) S l a c := h.below ((Below.refl _ _).alloc (Nat.le_refl _) o)
theorem IntsAt.drew (h : IntsAt w S l a c) : IntsAt w.drew S l a c := IntsAt.keep (w := w) (w' := w.drew) (fun _ h => h) (fun _ _ _ => rfl) h
theorem IntsAt.drewN (h : IntsAt w S l a c) (n : Nat) : IntsAt (w.drewN n) S l a c := IntsAt.keep (w := w) (w' := w.drewN n) (fun _ h => h) (fun _ _ _ => rfl) h
theorem IntsAt.setCell (h : IntsAt w S l a c) {p : Addr} (hp : ∀ b, S b → b ≠ p.block) (v : Value) : IntsAt (w.setCell p v) S l a c := h.keep (fun _ h => h) (fun b hb _ => Below.heap_setCell _ _ _ _ (hp b hb))
theorem IntsAt.weaken (h : IntsAt w S l a c) (hS : ∀ b, S b → S' b) : IntsAt w S' l a c := h.keep hS (fun _ _ _ => rfl)
theorem IntsAt.lim (h : IntsAt w S l a c) : IntsAt w (fun b => S b ∧ b < w.heap.size) l a c := by
  obtain ⟨h1, h2, h3, h4⟩ := h
  refine ⟨h1, h2, h3, ?_⟩
  rcases h4 with h4 | ⟨b, o, ha, hb, hc⟩
  · exact .inl h4
  · by_cases hl : l = []
    · exact .inl hl
    · exact .inr ⟨b, o, ha, ⟨hb, cell_lt (hc 0 (List.length_pos_iff.2 hl))⟩, hc⟩
theorem IntsAt.get (h : IntsAt w S l a c) (hb : Below w.heap.size w w') {i : Nat} (hi : i < l.length) :
    ∃ b o, a = some ⟨b, o, none⟩ ∧ b < w.heap.size ∧ S b ∧ w'.cell? ⟨b, o + i, none⟩ = some (.int .i64 l[i]) := by
  rcases h.2.2.2 with rfl | ⟨b, o, ha, hS, hc⟩
  · simp at hi
  · have := hc i hi
    have hlt := cell_lt this
    exact ⟨b, o, ha, hlt, hS, (hb.cell (p := ⟨b, o + i, none⟩) hlt).trans this⟩
theorem IntsAt.nil (hc : c ≤ 9223372036854775807) : IntsAt w S [] a c := ⟨by simp, hc, by simp, .inl rfl⟩
end

theorem all_snoc (f : Int → Bool) (l : List Int) (k : Nat) (h : k < l.length) : (l.take (k + 1)).all f = ((l.take k).all f && f l[k]) := by
  rw [List.take_succ_eq_append_getElem h, List.all_append]; simp
theorem all_false (f : Int → Bool) (l : List Int) (k : Nat) (h : k < l.length) (hf : f l[k] = false) : l.all f = false := by
  cases hx : l.all f
  · rfl
  · rw [List.all_eq_true] at hx
    rw [hx _ (List.getElem_mem h)] at hf
    cases hf

/-- impl.isValue -/
theorem isValue_any (w : World) (n : Int) : Calls Try.prog 92 #[.int .i64 n] w fun e w' => e = .returned (.bool (vin n)) ∧ w = w' := by
  by_cases h0 : 0 ≤ n
  · have d0 : decide ((0 : Int) ≤ n) = true := decide_eq_true h0
    have hv : vin n = decide (n ≤ 96) := by unfold vin; rw [Bool.eq_iff_iff, decide_eq_true_eq, decide_eq_true_eq]; omega
    rw [hv]
    clear hv
    go_enter Try.func92, Try.ntmps92
    go_wp2_with fail
    go_ret
    exact ⟨rfl, rfl⟩
  · have d0 : decide ((0 : Int) ≤ n) = false := decide_eq_false h0
    have hv : vin n = false := by unfold vin; exact decide_eq_false (by omega)
    rw [hv]
    clear hv
    go_enter Try.func92, Try.ntmps92
    go_wp2_with fail
    go_ret
    exact ⟨rfl, rfl⟩

/-- impl.valuesOk -/
theorem implVals_any (w : World) (S : Nat → Prop) (l : List Int) (a : Option Addr) (c : Nat) (h : IntsAt w S l a c) :
    Calls Try.prog 75 #[.slice a l.length c] w fun e w' => e = .returned (.bool (vok l)) ∧ w = w' := by
  have hlen : l.length ≤ 9223372036854775807 := by have := h.1; have := h.2.1; omega
  have H := Lib.hid h
  clear h
  by_cases h10 : 10 < l.length
  · have hv : vok l = false := by unfold vok; rw [decide_eq_false (by omega)]; rfl
    rw [hv]; clear hv
    go_enter Try.func75, Try.ntmps75
    go_wp2_with fail
    go_ret
    exact ⟨rfl, rfl⟩
  · have hv : vok l = l.all vin := by unfold vok; rw [decide_eq_true (by omega)]; rfl
    have HV := Lib.hid hv
    clear hv
    go_enter Try.func75, Try.ntmps75
    go_wp2_with fail
    go_loop [10] (fun i => ∃ k : Nat, k ≤ l.length ∧ i = .int .i64 k ∧ (l.take k).all vin = true) (fun i => l.length - (intOf i).toNat)
    case atStart => exact ⟨0, by omega, rfl, rfl⟩
    case round =>
      obtain ⟨k, hk, rfl, hq⟩ := hrel
      have HQ := Lib.hid hq
      clear hq
      by_cases hlt : k < l.length
      · obtain ⟨b, o, rfl, hbl, _, hc⟩ := H.out.get (Below.refl _ _) hlt
        have HS := Lib.hid (all_snoc vin l k hlt)
        have HF := Lib.hid (all_false vin l k hlt)
        obtain ⟨v, hv⟩ : ∃ v, v = l[k] := ⟨_, rfl⟩
        rw [← hv] at hc
        have HVV := Lib.hid hv
        clear hv
        cases hn : vin v
        · have HN := Lib.hid hn
          have hf : l.all vin = false := HF.out (by rw [← HVV.out]; exact hn)
          have HF' := Lib.hid hf
          clear hf hn
          go_wp2_with (go_at_call 92; refine (isValue_any _ v).mono ?_; rw [HN.out]; rintro e w' ⟨rfl, rfl⟩)
          go_ret
          exact ⟨ret_bool (by rw [HV.out, HF'.out]), rfl⟩
        · have HN := Lib.hid hn
          clear hn
          go_wp2_with (go_at_call 92; refine (isValue_any _ v).mono ?_; rw [HN.out]; rintro e w' ⟨rfl, rfl⟩)
          go_round
          case rel => exact ⟨k + 1, by omega, by go_num, by rw [HS.out, HQ.out, ← HVV.out, HN.out]; rfl⟩
          case measure => simp [intOf]; omega
      · have hf : l.all vin = true := by have := HQ.out; rwa [List.take_of_length_le (by omega)] at this
        have HF' := Lib.hid hf
        clear hf
        go_wp2_with fail
        go_ret
        exact ⟨ret_bool (by rw [HV.out, HF'.out]), rfl⟩

/-- spec.l2Values -/
theorem specVals_any (w : World) (S : Nat → Prop) (l : List Int) (a : Option Addr) (c : Nat) (h : IntsAt w S l a c) :
    Calls Try.prog 78 #[.slice a l.length c] w fun e w' => e = .returned (.bool (vok l)) ∧ w = w' := by
  have hlen : l.length ≤ 9223372036854775807 := by have := h.1; have := h.2.1; omega
  have H := Lib.hid h
  clear h
  by_cases h10 : 10 < l.length
  · have hv : vok l = false := by unfold vok; rw [decide_eq_false (by omega)]; rfl
    rw [hv]; clear hv
    go_enter Try.func78, Try.ntmps78
    go_wp2_with fail
    go_ret
    exact ⟨rfl, rfl⟩
  · have hv : vok l = l.all vin := by unfold vok; rw [decide_eq_true (by omega)]; rfl
    have HV := Lib.hid hv
    clear hv
    go_enter Try.func78, Try.ntmps78
    go_wp2_with fail
    go_loop [3] (fun i => ∃ k : Nat, k ≤ l.length ∧ i = .int .i64 k ∧ (l.take k).all vin = true) (fun i => l.length - (intOf i).toNat)
    case atStart => exact ⟨0, by omega, rfl, rfl⟩
    case round =>
      obtain ⟨k, hk, rfl, hq⟩ := hrel
      have HQ := Lib.hid hq
      clear hq
      by_cases hlt : k < l.length
      · obtain ⟨b, o, rfl, hbl, _, hc⟩ := H.out.get (Below.refl _ _) hlt
        have HS := Lib.hid (all_snoc vin l k hlt)
        have HF := Lib.hid (all_false vin l k hlt)
        obtain ⟨v, hv⟩ : ∃ v, v = l[k] := ⟨_, rfl⟩
        rw [← hv] at hc
        have HVV := Lib.hid hv
        clear hv
        by_cases hn : 0 ≤ v ∧ v ≤ 96
        · have hd : decide (0 ≤ v ∧ v ≤ 96) = true := by simpa using hn
          have HD := Lib.hid hd
          clear hd hn
          go_wp2_with (go_at_call 60; refine (in_any _ _ _ _).mono ?_; rw [HD.out]; rintro e w' ⟨rfl, rfl⟩)
          go_round
          case rel => exact ⟨k + 1, by omega, by go_num, by rw [HS.out, HQ.out, ← HVV.out]; unfold vin; rw [HD.out]; rfl⟩
          case measure => simp [intOf]; omega
        · have hd : decide (0 ≤ v ∧ v ≤ 96) = false := by simpa using hn
          have HD := Lib.hid hd
          have hf : l.all vin = false := HF.out (by rw [← HVV.out]; exact hd)
          have HF' := Lib.hid hf
          clear hd hn hf
          go_wp2_with (go_at_call 60; refine (in_any _ _ _ _).mono ?_; rw [HD.out]; rintro e w' ⟨rfl, rfl⟩)
          go_ret
          exact ⟨ret_bool (by rw [HV.out, HF'.out]), rfl⟩
      · have hf : l.all vin = true := by have := HQ.out; rwa [List.take_of_length_le (by omega)] at this
        have HF' := Lib.hid hf
        clear hf
        go_wp2_with fail
        go_ret
        exact ⟨ret_bool (by rw [HV.out, HF'.out]), rfl⟩

theorem vf_in {l : List Int} {k : Nat} (h : k < l.length) : vf l k = l[k] := by
  unfold vf; rw [if_pos (by omega)]; simp [List.getD_eq_getElem?_getD, h]
theorem vf_out {l : List Int} {k : Nat} (h : ¬ k < l.length) : vf l k = 0 := by
  unfold vf; rw [if_neg (by omega)]

/-- The closure of impl.fetchFrom -/
theorem fetch_any (w : World) (S : Nat → Prop) (l : List Int) (a : Option Addr) (c g : Nat) (h : IntsAt w S l a c) (hg : Blk w g 26 #[.slice a l.length c]) (key : Int) (h0 : 0 ≤ key) (h1 : key ≤ 1000) :
    Calls Try.prog 103 #[.int .i64 key, .pointer (some ⟨g, 0, none⟩)] w fun e w' => e = .returned (.int .i64 (vf l key)) ∧ w = w' := by
  obtain ⟨k, rfl⟩ : ∃ k : Nat, key = k := ⟨key.toNat, by omega⟩
  have hlen : l.length ≤ 9223372036854775807 := by have := h.1; have := h.2.1; omega
  have hx := hg.cell 0
  simp only [List.getElem?_toArray, List.getElem?_cons_zero] at hx
  clear hg
  by_cases hlt : k < l.length
  · rw [vf_in hlt]
    obtain ⟨b, o, rfl, hbl, _, hc⟩ := h.get (Below.refl _ _) hlt
    clear h
    go_enter Try.func103, Try.ntmps103
    go_wp2_with fail
    go_ret
    exact ⟨rfl, rfl⟩
  · rw [vf_out hlt]
    clear h
    go_enter Try.func103, Try.ntmps103
    go_wp2_with fail
    go_ret
    exact ⟨rfl, rfl⟩

theorem below_drewN {B : Nat} {w w' : World} (h : Below B w w') (n : Nat) : Below B w (w'.drewN n) := ⟨h.os, h.tape, h.output, h.size, h.block⟩

/-- eqIntS of two readings of one list -/
theorem eqInts_any (w : World) (S S' : Nat → Prop) (l : List Int) (a a' : Option Addr) (c c' : Nat) (h : IntsAt w S l a c) (h' : IntsAt w S' l a' c') :
    Calls Try.prog 11 #[.slice a l.length c, .slice a' l.length c'] w fun e w' => e = .returned (.bool true) ∧ Below w.heap.size w w' := by
  have hlen : l.length ≤ 9223372036854775807 := by have := h.1; have := h.2.1; omega
  have H := Lib.hid h
  have H' := Lib.hid h'
  clear h h'
  have hne : (((l.length : Nat) : Int) != ((l.length : Nat) : Int)) = false := by simp
  go_enter Try.func11, Try.ntmps11
  go_wp2_with fail
  clear hne
  go_loopw [5] (fun i wr => ∃ k : Nat, k ≤ l.length ∧ i = .int .i64 k ∧ Below w.heap.size w wr) (fun i _ => l.length - (intOf i).toNat)
  case atStart => exact ⟨0, by omega, rfl, Below.refl _ _⟩
  case round =>
    obtain ⟨k, hk, rfl, hb⟩ := hrel
    have HB := Lib.hid hb
    clear hb
    by_cases hlt : k < l.length
    · obtain ⟨b, o, rfl, hbl, _, hc⟩ := H.out.get HB.out hlt
      obtain ⟨b', o', rfl, hbl', _, hc'⟩ := H'.out.get HB.out hlt
      have hne : (l[k] != l[k]) = false := by simp
      obtain ⟨v, hv⟩ : ∃ v, v = l[k] := ⟨_, rfl⟩
      rw [← hv] at hc hc' hne
      clear hv
      go_wp2_with fail
      go_quiet (fail)
      go_wp2_with fail
      go_roundw
      case rel => exact ⟨k + 1, by omega, by go_num, below_drewN HB.out _⟩
      case measure => simp [intOf]; omega
    · go_wp2_with fail
      go_ret
      exact ⟨rfl, HB.out⟩
end Go.Proofs.Ytochgmbeomfkpaa
/- a list of numbers that came in, opened -/
namespace Go.Proofs.Ytochgmbeomfkpaa
open Go.ChangeShapes Go.WideShapes Go.ChangeAt Go.RowKit Go.Joins

/-- A list of numbers that came in, opened. -/
theorem open_nums {H : Type} {enc : TypeId × Value → H} {P : Program} {w : World} {spare : Nat → Bool} {held : Bool} {tS tE : TypeId} (hS : P.underlying tS = some (.slice tE)) (hE : P.underlying tE = some (.int .i64)) (hC : P.cellsOf tE = 1)
    {v : Value} {d : DataW H} {p : List MemPlace} (hv : ∃ a n c, v = .slice a n c) (h : DataW.Trod enc P w 0 spare held tS v d p) : ∃ a l c, v = .slice a (List.length l) c ∧ IntsAt w (fun _ => True) l a c := by
  obtain ⟨a, n, c, rfl⟩ := hv
  obtain ⟨fuel, hf⟩ := h
  rcases open_ints hS hE hC hf with ⟨hcs, _⟩ | ⟨a', len', cap', zs, hcs, _, hl, hm, hz, _, hcell, hwz⟩
  · simp [Value.cells] at hcs
    obtain ⟨rfl, rfl, rfl⟩ := hcs
    exact ⟨none, [], 0, rfl, IntsAt.nil (by omega)⟩
  · simp [Value.cells] at hcs
    obtain ⟨rfl, rfl, rfl⟩ := hcs
    have hm' : c ≤ 9223372036854775807 := hm
    have hzl : n ≤ zs.length := by rw [hz]; split <;> omega
    have hlen : (zs.take n).length = n := by simp; omega
    by_cases h0 : n = 0
    · subst h0
      exact ⟨_, [], _, rfl, IntsAt.nil hm'⟩
    obtain ⟨b, o, rfl, hc⟩ := ints_at hcell (by omega)
    refine ⟨_, zs.take n, _, by rw [hlen], by rw [hlen]; exact hl, hm', fun x hx => i64ok_of (hwz x (List.mem_of_mem_take hx)), .inr ⟨b, o, rfl, trivial, fun i hi => ?_⟩⟩
    have hi' : i < zs.length := by rw [hlen] at hi; omega
    rw [hc i hi', List.getD_eq_getElem?_getD, List.getElem?_eq_getElem hi']
    simp
end Go.Proofs.Ytochgmbeomfkpaa
/- spec.l2Tape.get, spec.l2Do: a task that fetches off a tape -/
namespace Go.Proofs.Ytochgmbeomfkpaa
open Go.RowKit

/-- The tape in block g: what it has been given, how many it has taken, the key that it lacks. -/
def TpAt (w : World) (g : Nat) (L : List Int) (i : Nat) (lk : Int) : Prop :=
  ∃ a c, Blk w g 126 #[.slice a L.length c, .int .i64 i, .int .i64 lk] ∧ IntsAt w (fun b => b ≠ g) L a c

theorem IntsAt.only {w w' : World} {S : Nat → Prop} {l : List Int} {a : Option Addr} {c g : Nat} (h : IntsAt w S l a c) (ho : Only g w w') (hg : ∀ b, S b → b ≠ g) : IntsAt w' S l a c :=
  h.keep (fun _ h => h) (fun b hb hl => ho.block b hl (by intro e; injection e with e; exact hg b hb e))
theorem AtS.only {w w' : World} {S : Nat → Prop} {ps : List T} {a : Option Addr} {c g : Nat} (h : AtS w S ps a c) (ho : Only g w w') (hg : ∀ b, S b → b ≠ g) : AtS w' S ps a c :=
  h.keep (fun _ h => h) (fun b hb hl => ho.block b hl (by intro e; injection e with e; exact hg b hb e))

section
variable {w w' : World} {g i : Nat} {L : List Int} {lk : Int}
theorem TpAt.lt (h : TpAt w g L i lk) : g < w.heap.size := by obtain ⟨_, _, h, _⟩ := h; exact h.lt
theorem TpAt.alloc (h : TpAt w g L i lk) (o : Obj) : TpAt (w.alloc o) g L i lk := by obtain ⟨a, c, h1, h2⟩ := h; exact ⟨a, c, h1.alloc o, h2.alloc o⟩
theorem TpAt.drewN (h : TpAt w g L i lk) (n : Nat) : TpAt (w.drewN n) g L i lk := by obtain ⟨a, c, h1, h2⟩ := h; exact ⟨a, c, h1.drewN n, h2.drewN n⟩
theorem TpAt.set_at (h : TpAt w g L i lk) (j : Nat) : TpAt (w.setCell ⟨g, 1, none⟩ (.int .i64 j)) g L j lk := by
  obtain ⟨a, c, h1, h2⟩ := h
  refine ⟨a, c, ?_, h2.setCell (fun b hb => hb) _⟩
  have := h1.set_ 1 (.int .i64 j)
  simpa using this
theorem TpAt.set_lk (h : TpAt w g L i lk) (k : Int) : TpAt (w.setCell ⟨g, 2, none⟩ (.int .i64 k)) g L i k := by
  obtain ⟨a, c, h1, h2⟩ := h
  refine ⟨a, c, ?_, h2.setCell (fun b hb => hb) _⟩
  have := h1.set_ 2 (.int .i64 k)
  simpa using this
end

/-- get, where there is one more. -/
theorem get_some (w : World) (g i : Nat) (L : List Int) (lk key : Int) (h : TpAt w g L i lk) (hi : i < L.length) :
    Calls Try.prog 104 #[.pointer (some ⟨g, 0, none⟩), .int .i64 key] w fun e w' => e = .returned (.tuple #[.int .i64 L[i], .bool true]) ∧ TpAt w' g L (i + 1) lk ∧ Only g w w' := by
  have H := Lib.hid h
  obtain ⟨a, c, hb, hl⟩ := h
  have hlc := hl.1
  have hcm := hl.2.1
  obtain ⟨b, o, rfl, hbl, hbg, hc⟩ := hl.get (Below.refl _ _) hi
  obtain ⟨v, hv⟩ : ∃ v, v = L[i] := ⟨_, rfl⟩
  rw [← hv] at hc ⊢
  clear hv
  obtain ⟨x0, x1, x2, f0, f1, f2⟩ := hb.three
  clear hb hl
  have hbg' : g ≠ b := fun h => hbg h.symm
  have hne : ((i : Int) == (L.length : Int)) = false := by simp; omega
  have W1 : IntKind.i64.wrap ((i : Int) + 1 - 1) = i := by rw [show (i : Int) + 1 - 1 = i by omega]; exact IntWalk.i64_in _ ⟨by omega, by omega⟩
  go_enter Try.func104, Try.ntmps104
  go_wp2_with fail
  go_quiet (fail)
  revert nq
  intro n1
  clear hne
  go_wp2_with fail
  go_quiet (fail)
  revert nq
  intro n2
  go_wp2_with fail
  go_ret2
  rw [show ((i : Int) + 1) = ((i + 1 : Nat) : Int) by omega]
  exact ⟨rfl, ((H.out.drewN n1).set_at (i + 1)).drewN n2, (((Only.refl g w).drewN n1).set (.inl rfl) _).drewN n2⟩

/-- get, where there is none. -/
theorem get_none (w : World) (g : Nat) (L : List Int) (lk key : Int) (h : TpAt w g L L.length lk) :
    Calls Try.prog 104 #[.pointer (some ⟨g, 0, none⟩), .int .i64 key] w fun e w' => e = .returned (.tuple #[.int .i64 0, .bool false]) ∧ TpAt w' g L L.length key ∧ Only g w w' := by
  have H := Lib.hid h
  obtain ⟨a, c, hb, hl⟩ := h
  obtain ⟨x0, x1, x2, f0, f1, f2⟩ := hb.three
  obtain ⟨m, hm⟩ : ∃ m, m = L.length := ⟨_, rfl⟩
  rw [← hm] at x0 x1 ⊢
  have HM := Lib.hid hm
  clear hb hl hm
  have hne : ((m : Int) == (m : Int)) = true := by simp
  go_enter Try.func104, Try.ntmps104
  go_wp2_with fail
  go_quiet (fail)
  revert nq
  intro n1
  go_wp2_with fail
  go_ret2
  rw [HM.out]
  exact ⟨rfl, (H.out.drewN _).set_lk key, ((Only.refl g w).drewN _).set (.inl rfl) _⟩

/-- What l2Do leaves: the value, and so many more are taken; or there are too few, and the key that comes then. -/
def DoPost (vs : Int → Int) (K : List Int) (m i g : Nat) (w : World) (v : Int) (n : Nat) (e : Ending) (w' : World) : Prop :=
  Only g w w' ∧ ((i + n ≤ m ∧ e = .returned (.tuple #[.int .i64 v, .bool true]) ∧ ∃ lk, TpAt w' g ((K.take m).map vs) (i + n) lk) ∨
    (m < i + n ∧ (∃ u, e = .returned (.tuple #[.int .i64 u, .bool false])) ∧ ∃ key, K[m]? = some key ∧ TpAt w' g ((K.take m).map vs) m key))

def DoT (vs : Int → Int) (K : List Int) (m : Nat) (t : T) : Prop := ∀ (w : World) (S : Nat → Prop) (a : Option Addr) (c g i : Nat) (lk : Int),
  AtS w S t.ps a c → (∀ b, S b → b ≠ g) → TpAt w g ((K.take m).map vs) i lk → i ≤ m → t.kys vs <+: K.drop i →
  Calls Try.prog 93 #[.agg #[.int .i64 t.k, .int .i64 t.n, .slice a t.ps.length c], .pointer (some ⟨g, 0, none⟩)] w (DoPost vs K m i g w (t.val vs) (t.kys vs).length)

theorem pre_left {p q l : List Int} (h : p ++ q <+: l) : p <+: l := (List.prefix_append p q).trans h
theorem pre_right {p q K : List Int} {i : Nat} (h : p ++ q <+: K.drop i) : q <+: K.drop (i + p.length) := by
  obtain ⟨r, hr⟩ := h
  refine ⟨r, ?_⟩
  rw [← List.drop_drop, ← hr]
  simp
theorem pre_one {n : Int} {K : List Int} {i : Nat} (h : [n] <+: K.drop i) : K[i]? = some n := by
  obtain ⟨r, hr⟩ := h
  have : (K.drop i)[0]? = some n := by rw [← hr]; rfl
  simpa using this
theorem pre_len {p K : List Int} {i : Nat} (h : p <+: K.drop i) (hp : p ≠ [] ∨ i ≤ K.length) : i + p.length ≤ K.length := by
  have := h.length_le
  rw [List.length_drop] at this
  rcases hp with hp | hp
  · have := List.length_pos_iff.2 hp; omega
  · omega
theorem got_len {vs : Int → Int} {K : List Int} {m : Nat} (hm : m ≤ K.length) : ((K.take m).map vs).length = m := by simp; omega
theorem got_at {vs : Int → Int} {K : List Int} {m i : Nat} {n : Int} (hi : i < m) (hm : m ≤ K.length) (h : K[i]? = some n) : ((K.take m).map vs)[i]'(by rw [got_len hm]; exact hi) = vs n := by
  have hlt : i < K.length := by omega
  rw [List.getElem?_eq_getElem hlt] at h
  simp only [Option.some.injEq] at h
  simp [h]

/-- get, of the key that comes next. -/
theorem get_next (vs : Int → Int) (K : List Int) (m i g : Nat) (w : World) (lk key : Int) (h : TpAt w g ((K.take m).map vs) i lk) (hm : m ≤ K.length) (hi : i ≤ m) (hk : K[i]? = some key) :
    Calls Try.prog 104 #[.pointer (some ⟨g, 0, none⟩), .int .i64 key] w (DoPost vs K m i g w (vs key) 1) := by
  by_cases hlt : i < m
  · refine (get_some w g i _ lk key h (by rw [got_len hm]; exact hlt)).mono ?_
    rintro e w' ⟨rfl, h1, h2⟩
    rw [got_at hlt hm hk]
    exact ⟨h2, .inl ⟨hlt, rfl, lk, h1⟩⟩
  · obtain rfl : i = m := by omega
    have hl := got_len (vs := vs) hm
    refine (get_none w g ((K.take i).map vs) lk key (by rw [hl]; exact h)).mono ?_
    rintro e w' ⟨rfl, h1, h2⟩
    rw [hl] at h1
    exact ⟨h2, .inr ⟨by omega, ⟨0, rfl⟩, key, hk, h1⟩⟩

theorem DoPost.box {vs : Int → Int} {K : List Int} {m i g : Nat} {w w1 : World} {v : Int} {n : Nat} {e : Ending} {w' : World} (ho : Only g w w1) (h : DoPost vs K m i g w1 v n e w') : DoPost vs K m i g w v n e w' := ⟨ho.trans h.1, h.2⟩

set_option maxRecDepth 100000 in
theorem do_0 (vs : Int → Int) (K : List Int) (m : Nat) (n : Int) : DoT vs K m (.mk 0 n []) := by
  intro w S a c g i lk hat hS ht hi hp
  simp only [T.k, T.n, T.ps, List.length_nil] at *
  have HT := Lib.hid (ht.alloc (.cells #[.int .i64 0, .int .i64 n, .slice a 0 c] 71))
  clear hat ht hp
  go_enter Try.func93, Try.ntmps93
  go_wp2_with fail
  go_ret2
  rw [val_0, kys_0]
  exact ⟨(Only.refl g w).alloc _, .inl ⟨hi, rfl, lk, HT.out⟩⟩

set_option maxRecDepth 100000 in
theorem do_1 (vs : Int → Int) (K : List Int) (m : Nat) (hm : m ≤ K.length) (n : Int) : DoT vs K m (.mk 1 n []) := by
  intro w S a c g i lk hat hS ht hi hp
  simp only [T.k, T.n, T.ps, List.length_nil, val_1, kys_1] at *
  have HT := Lib.hid (ht.alloc (.cells #[.int .i64 1, .int .i64 n, .slice a 0 c] 71))
  have hk := pre_one hp
  have HK := Lib.hid hk
  clear hat ht hp hk
  go_enter Try.func93, Try.ntmps93
  go_wp2_with fail
  refine (get_next vs K m i g _ lk n HT.out hm hi HK.out).mono ?_
  rintro e w1 ⟨ho, ⟨h1, rfl, lk1, h2⟩ | ⟨h1, ⟨u, rfl⟩, key, h2, h3⟩⟩
  · have H1 := Lib.hid (And.intro ho h2)
    clear ho h2
    go_wp2_with fail
    go_ret2
    exact ⟨((Only.refl g w).alloc _).trans H1.out.1, .inl ⟨h1, rfl, lk1, H1.out.2⟩⟩
  · have H1 := Lib.hid (And.intro ho (And.intro h2 h3))
    clear ho h2 h3
    go_wp2_with fail
    go_ret2
    exact ⟨((Only.refl g w).alloc _).trans H1.out.1, .inr ⟨h1, ⟨u, rfl⟩, key, H1.out.2⟩⟩

set_option maxRecDepth 100000 in
set_option maxHeartbeats 1000000 in
theorem do_2 (vs : Int → Int) (hvs : ∀ k, 0 ≤ vs k ∧ vs k ≤ 96) (K : List Int) (m : Nat) (x y : T) (fx : x.fit = true) (fy : y.fit = true) (hx : DoT vs K m x) (hy : DoT vs K m y) : DoT vs K m (.mk 2 0 [x, y]) := by
  intro w S a c g i lk hat hS ht hi hp
  simp only [T.k, T.n, T.ps, List.length_cons, List.length_nil, kys_2] at *
  have HT := Lib.hid (ht.alloc (.cells #[.int .i64 2, .int .i64 0, .slice a 2 c] 71))
  have hgl := ht.lt
  have HA := Lib.hid (hat.alloc (.cells #[.int .i64 2, .int .i64 0, .slice a 2 c] 71))
  have HB := Lib.hid (Blk.new w 71 #[.int .i64 2, .int .i64 0, .slice a 2 c])
  have HO := Lib.hid ((Only.refl g w).alloc (.cells #[.int .i64 2, .int .i64 0, .slice a 2 c] 71))
  have HX := Lib.hid hx
  have HS := Lib.hid hS
  have HPR := Lib.hid hp
  obtain ⟨b, o, a0, c0, rfl, hbl, hSb, e0, e1, e2, hps, _, _⟩ := hat.elem (w' := w.alloc (.cells #[.int .i64 2, .int .i64 0, .slice a 2 c] 71)) ((Below.refl _ _).alloc (Nat.le_refl _) _) (i := 0) (by simp)
  simp only [Nat.zero_mul, Nat.add_zero, List.getElem_cons_zero] at e0 e1 e2 hps
  have HP := Lib.hid hps
  clear hat hS hx hps ht hp
  go_enter Try.func93, Try.ntmps93
  go_wp2_with fail
  refine (HX.out _ S a0 c0 g i lk HP.out HS.out HT.out hi (pre_left HPR.out)).mono ?_
  rintro e w1 ⟨ho, ⟨h1, rfl, lk1, h2⟩ | ⟨h1, ⟨u, rfl⟩, key, h2, h3⟩⟩
  rotate_left
  · have H1 := Lib.hid (And.intro (HO.out.trans ho) (And.intro h2 h3))
    clear ho h2 h3
    go_wp2_with fail
    go_ret2
    exact ⟨H1.out.1, .inr ⟨by simp only [List.length_append]; omega, ⟨_, rfl⟩, key, H1.out.2⟩⟩
  obtain ⟨v1, hv1⟩ : ∃ v1, v1 = x.val vs := ⟨_, rfl⟩
  have hvb1 := T.val_bd vs hvs x fx
  rw [← hv1] at hvb1 ⊢
  have HV1 := Lib.hid hv1
  have hB1 := HB.out.only ho (by omega)
  have HA1 := Lib.hid (HA.out.only ho HS.out)
  have hsz := ho.size
  simp only [World.size_alloc] at hsz
  have H1 := Lib.hid (And.intro (HO.out.trans ho) h2)
  obtain ⟨x0, x1, x2, f0, f1, f2⟩ := hB1.three
  have HB1 := Lib.hid hB1
  clear ho h2 hv1 hB1 HX HA HB HT HP HO
  have HY := Lib.hid hy
  clear hy
  obtain ⟨b', o', a1, c1, he, hbl1, _, e0, e1, e2, hps, _, _⟩ := HA1.out.elem (w' := w1) (Below.refl _ _) (i := 1) (by simp)
  injection he with he
  injection he with he1 he2
  subst he1 he2
  simp only [Nat.one_mul, List.getElem_cons_succ, List.getElem_cons_zero] at e0 e1 e2 hps
  have HP1 := Lib.hid hps
  clear hps
  go_wp2_with fail
  refine (HY.out _ S a1 c1 g _ lk1 HP1.out HS.out H1.out.2 h1 (pre_right HPR.out)).mono ?_
  rintro e w2 ⟨ho, ⟨h3, rfl, lk2, h4⟩ | ⟨h3, ⟨u, rfl⟩, key, h4, h5⟩⟩
  · obtain ⟨v2, hv2⟩ : ∃ v2, v2 = y.val vs := ⟨_, rfl⟩
    have hvb2 := T.val_bd vs hvs y fy
    rw [← hv2] at hvb2 ⊢
    have HV2 := Lib.hid hv2
    have H2 := Lib.hid (And.intro (H1.out.1.trans ho) h4)
    have hB2 := HB1.out.only ho (by omega)
    clear x0 x1 x2 f0 f1 f2 e0 e1 e2
    obtain ⟨x0, x1, x2, f0, f1, f2⟩ := hB2.three
    clear ho h4 hv2 hB2
    go_wp2_with fail
    go_ret2
    rw [val_2, ← HV1.out, ← HV2.out]
    exact ⟨H2.out.1, .inl ⟨by simp only [List.length_append]; omega, rfl, lk2, by rw [List.length_append, ← Nat.add_assoc]; exact H2.out.2⟩⟩
  · have H2 := Lib.hid (And.intro (H1.out.1.trans ho) (And.intro h4 h5))
    clear ho h4 h5 x0 x1 x2 f0 f1 f2 e0 e1 e2
    go_wp2_with fail
    go_ret2
    exact ⟨H2.out.1, .inr ⟨by simp only [List.length_append]; omega, ⟨_, rfl⟩, key, H2.out.2⟩⟩

set_option maxRecDepth 100000 in
set_option maxHeartbeats 1000000 in
theorem do_3 (vs : Int → Int) (hvs : ∀ k, 0 ≤ vs k ∧ vs k ≤ 96) (K : List Int) (m : Nat) (x y : T) (fx : x.fit = true) (fy : y.fit = true) (hx : DoT vs K m x) (hy : DoT vs K m y) : DoT vs K m (.mk 3 0 [x, y]) := by
  intro w S a c g i lk hat hS ht hi hp
  simp only [T.k, T.n, T.ps, List.length_cons, List.length_nil, kys_3] at *
  have HT := Lib.hid (ht.alloc (.cells #[.int .i64 3, .int .i64 0, .slice a 2 c] 71))
  have hgl := ht.lt
  have HA := Lib.hid (hat.alloc (.cells #[.int .i64 3, .int .i64 0, .slice a 2 c] 71))
  have HB := Lib.hid (Blk.new w 71 #[.int .i64 3, .int .i64 0, .slice a 2 c])
  have HO := Lib.hid ((Only.refl g w).alloc (.cells #[.int .i64 3, .int .i64 0, .slice a 2 c] 71))
  have HX := Lib.hid hx
  have HS := Lib.hid hS
  have HPR := Lib.hid hp
  obtain ⟨b, o, a0, c0, rfl, hbl, hSb, e0, e1, e2, hps, _, _⟩ := hat.elem (w' := w.alloc (.cells #[.int .i64 3, .int .i64 0, .slice a 2 c] 71)) ((Below.refl _ _).alloc (Nat.le_refl _) _) (i := 0) (by simp)
  simp only [Nat.zero_mul, Nat.add_zero, List.getElem_cons_zero] at e0 e1 e2 hps
  have HP := Lib.hid hps
  clear hat hS hx hps ht hp
  go_enter Try.func93, Try.ntmps93
  go_wp2_with fail
  refine (HX.out _ S a0 c0 g i lk HP.out HS.out HT.out hi (pre_left HPR.out)).mono ?_
  rintro e w1 ⟨ho, ⟨h1, rfl, lk1, h2⟩ | ⟨h1, ⟨u, rfl⟩, key, h2, h3⟩⟩
  rotate_left
  · have H1 := Lib.hid (And.intro (HO.out.trans ho) (And.intro h2 h3))
    clear ho h2 h3
    go_wp2_with fail
    go_ret2
    exact ⟨H1.out.1, .inr ⟨by simp only [List.length_append]; omega, ⟨_, rfl⟩, key, H1.out.2⟩⟩
  obtain ⟨v1, hv1⟩ : ∃ v1, v1 = x.val vs := ⟨_, rfl⟩
  have hvb1 := T.val_bd vs hvs x fx
  rw [← hv1] at hvb1 ⊢
  have HV1 := Lib.hid hv1
  have hB1 := HB.out.only ho (by omega)
  have HA1 := Lib.hid (HA.out.only ho HS.out)
  have hsz := ho.size
  simp only [World.size_alloc] at hsz
  have H1 := Lib.hid (And.intro (HO.out.trans ho) h2)
  obtain ⟨x0, x1, x2, f0, f1, f2⟩ := hB1.three
  have HB1 := Lib.hid hB1
  clear ho h2 hv1 hB1 HX HA HB HT HP HO
  have HY := Lib.hid hy
  clear hy
  obtain ⟨b', o', a1, c1, he, hbl1, _, e0, e1, e2, hps, _, _⟩ := HA1.out.elem (w' := w1) (Below.refl _ _) (i := 1) (by simp)
  injection he with he
  injection he with he1 he2
  subst he1 he2
  simp only [Nat.one_mul, List.getElem_cons_succ, List.getElem_cons_zero] at e0 e1 e2 hps
  have HP1 := Lib.hid hps
  clear hps
  go_wp2_with fail
  refine (HY.out _ S a1 c1 g _ lk1 HP1.out HS.out H1.out.2 h1 (pre_right HPR.out)).mono ?_
  rintro e w2 ⟨ho, ⟨h3, rfl, lk2, h4⟩ | ⟨h3, ⟨u, rfl⟩, key, h4, h5⟩⟩
  · obtain ⟨v2, hv2⟩ : ∃ v2, v2 = y.val vs := ⟨_, rfl⟩
    have hvb2 := T.val_bd vs hvs y fy
    rw [← hv2] at hvb2 ⊢
    have HV2 := Lib.hid hv2
    have H2 := Lib.hid (And.intro (H1.out.1.trans ho) h4)
    have hB2 := HB1.out.only ho (by omega)
    clear x0 x1 x2 f0 f1 f2 e0 e1 e2
    obtain ⟨x0, x1, x2, f0, f1, f2⟩ := hB2.three
    clear ho h4 hv2 hB2
    have hm0 : 0 ≤ v1 * v2 := Int.mul_nonneg hvb1.1 hvb2.1
    have hm1 : v1 * v2 ≤ 96 * 96 := Int.mul_le_mul hvb1.2 hvb2.2 hvb2.1 (by omega)
    have hm2 : v1 * v2 ≤ 9216 := hm1
    clear hm1
    go_wp2_with fail
    go_ret2
    rw [val_3, ← HV1.out, ← HV2.out]
    exact ⟨H2.out.1, .inl ⟨by simp only [List.length_append]; omega, rfl, lk2, by rw [List.length_append, ← Nat.add_assoc]; exact H2.out.2⟩⟩
  · have H2 := Lib.hid (And.intro (H1.out.1.trans ho) (And.intro h4 h5))
    clear ho h4 h5 x0 x1 x2 f0 f1 f2 e0 e1 e2
    go_wp2_with fail
    go_ret2
    exact ⟨H2.out.1, .inr ⟨by simp only [List.length_append]; omega, ⟨_, rfl⟩, key, H2.out.2⟩⟩

set_option maxRecDepth 100000 in
set_option maxHeartbeats 1000000 in
theorem do_4 (vs : Int → Int) (hvs : ∀ k, 0 ≤ vs k ∧ vs k ≤ 96) (K : List Int) (m : Nat) (x y z : T) (fx : x.fit = true) (hx : DoT vs K m x) (hy : DoT vs K m y) (hz : DoT vs K m z) : DoT vs K m (.mk 4 0 [x, y, z]) := by
  intro w S a c g i lk hat hS ht hi hp
  simp only [T.k, T.n, T.ps, List.length_cons, List.length_nil, kys_4] at *
  obtain ⟨q, hq⟩ : ∃ q, q = (if x.val vs = 0 then z.kys vs else y.kys vs) := ⟨_, rfl⟩
  rw [← hq] at hp ⊢
  have HQ := Lib.hid hq
  clear hq
  have HT := Lib.hid (ht.alloc (.cells #[.int .i64 4, .int .i64 0, .slice a 3 c] 71))
  have hgl := ht.lt
  have HA := Lib.hid (hat.alloc (.cells #[.int .i64 4, .int .i64 0, .slice a 3 c] 71))
  have HB := Lib.hid (Blk.new w 71 #[.int .i64 4, .int .i64 0, .slice a 3 c])
  have HO := Lib.hid ((Only.refl g w).alloc (.cells #[.int .i64 4, .int .i64 0, .slice a 3 c] 71))
  have HX := Lib.hid hx
  have HS := Lib.hid hS
  have HPR := Lib.hid hp
  obtain ⟨b, o, a0, c0, rfl, hbl, hSb, e0, e1, e2, hps, _, _⟩ := hat.elem (w' := w.alloc (.cells #[.int .i64 4, .int .i64 0, .slice a 3 c] 71)) ((Below.refl _ _).alloc (Nat.le_refl _) _) (i := 0) (by simp)
  simp only [Nat.zero_mul, Nat.add_zero, List.getElem_cons_zero] at e0 e1 e2 hps
  have HP := Lib.hid hps
  clear hat hS hx hps ht hp
  go_enter Try.func93, Try.ntmps93
  go_wp2_with fail
  refine (HX.out _ S a0 c0 g i lk HP.out HS.out HT.out hi (pre_left HPR.out)).mono ?_
  rintro e w1 ⟨ho, ⟨h1, rfl, lk1, h2⟩ | ⟨h1, ⟨u, rfl⟩, key, h2, h3⟩⟩
  rotate_left
  · have H1 := Lib.hid (And.intro (HO.out.trans ho) (And.intro h2 h3))
    clear ho h2 h3
    go_wp2_with fail
    go_ret2
    exact ⟨H1.out.1, .inr ⟨by simp only [List.length_append]; omega, ⟨_, rfl⟩, key, H1.out.2⟩⟩
  obtain ⟨v1, hv1⟩ : ∃ v1, v1 = x.val vs := ⟨_, rfl⟩
  have hvb1 := T.val_bd vs hvs x fx
  rw [← hv1] at hvb1 ⊢
  have HV1 := Lib.hid hv1
  have hB1 := HB.out.only ho (by omega)
  have HA1 := Lib.hid (HA.out.only ho HS.out)
  have hsz := ho.size
  simp only [World.size_alloc] at hsz
  have H1 := Lib.hid (And.intro (HO.out.trans ho) h2)
  obtain ⟨x0, x1, x2, f0, f1, f2⟩ := hB1.three
  have HB1 := Lib.hid hB1
  clear ho h2 hv1 hB1 HX HA HB HT HP HO
  have HY := Lib.hid hy
  have HZ := Lib.hid hz
  clear hy hz
  by_cases hv0 : v1 = 0
  · have hnz : (v1 != 0) = false := by simpa using hv0
    have HQ2 := Lib.hid (HQ.out.trans (if_pos (by rw [← HV1.out]; exact hv0)))
    have hpr := HPR.out
    rw [HQ2.out] at hpr
    have HPR := Lib.hid hpr
    clear hpr
    obtain ⟨b', o', a1, c1, he, hbl1, _, e0, e1, e2, hps, _, _⟩ := HA1.out.elem (w' := w1) (Below.refl _ _) (i := 2) (by simp)
    injection he with he
    injection he with he1 he2
    subst he1 he2
    simp only [List.getElem_cons_succ, List.getElem_cons_zero] at e0 e1 e2 hps
    have HP1 := Lib.hid hps
    clear hps
    go_wp2_with fail
    refine (HZ.out _ S a1 c1 g _ lk1 HP1.out HS.out H1.out.2 h1 (pre_right HPR.out)).mono ?_
    rintro e w2 ⟨ho, ⟨h3, rfl, lk2, h4⟩ | ⟨h3, ⟨u, rfl⟩, key, h4, h5⟩⟩
    · have H2 := Lib.hid (And.intro (H1.out.1.trans ho) h4)
      clear ho h4 x0 x1 x2 f0 f1 f2 e0 e1 e2
      go_wp2_with fail
      go_ret2
      rw [val_4, ← HV1.out, if_pos hv0, HQ2.out]
      exact ⟨H2.out.1, .inl ⟨by simp only [List.length_append]; omega, rfl, lk2, by rw [List.length_append, ← Nat.add_assoc]; exact H2.out.2⟩⟩
    · have H2 := Lib.hid (And.intro (H1.out.1.trans ho) (And.intro h4 h5))
      clear ho h4 h5 x0 x1 x2 f0 f1 f2 e0 e1 e2
      go_wp2_with fail
      go_ret2
      rw [HQ2.out]
      exact ⟨H2.out.1, .inr ⟨by simp only [List.length_append]; omega, ⟨_, rfl⟩, key, H2.out.2⟩⟩
  · have hnz : (v1 != 0) = true := by simpa using hv0
    have HQ2 := Lib.hid (HQ.out.trans (if_neg (by rw [← HV1.out]; exact hv0)))
    have hpr := HPR.out
    rw [HQ2.out] at hpr
    have HPR := Lib.hid hpr
    clear hpr
    obtain ⟨b', o', a1, c1, he, hbl1, _, e0, e1, e2, hps, _, _⟩ := HA1.out.elem (w' := w1) (Below.refl _ _) (i := 1) (by simp)
    injection he with he
    injection he with he1 he2
    subst he1 he2
    simp only [Nat.one_mul, List.getElem_cons_succ, List.getElem_cons_zero] at e0 e1 e2 hps
    have HP1 := Lib.hid hps
    clear hps
    go_wp2_with fail
    refine (HY.out _ S a1 c1 g _ lk1 HP1.out HS.out H1.out.2 h1 (pre_right HPR.out)).mono ?_
    rintro e w2 ⟨ho, ⟨h3, rfl, lk2, h4⟩ | ⟨h3, ⟨u, rfl⟩, key, h4, h5⟩⟩
    · have H2 := Lib.hid (And.intro (H1.out.1.trans ho) h4)
      clear ho h4 x0 x1 x2 f0 f1 f2 e0 e1 e2
      go_wp2_with fail
      go_ret2
      rw [val_4, ← HV1.out, if_neg hv0, HQ2.out]
      exact ⟨H2.out.1, .inl ⟨by simp only [List.length_append]; omega, rfl, lk2, by rw [List.length_append, ← Nat.add_assoc]; exact H2.out.2⟩⟩
    · have H2 := Lib.hid (And.intro (H1.out.1.trans ho) (And.intro h4 h5))
      clear ho h4 h5 x0 x1 x2 f0 f1 f2 e0 e1 e2
      go_wp2_with fail
      go_ret2
      rw [HQ2.out]
      exact ⟨H2.out.1, .inr ⟨by simp only [List.length_append]; omega, ⟨_, rfl⟩, key, H2.out.2⟩⟩

set_option maxRecDepth 100000 in
set_option maxHeartbeats 1000000 in
theorem do_5 (vs : Int → Int) (hvs : ∀ k, 0 ≤ vs k ∧ vs k ≤ 96) (K : List Int) (m : Nat) (hm : m ≤ K.length) (n : Int) (h0 : 0 ≤ n) (h9 : n ≤ 9) (x : T) (fx : x.fit = true) (hx : DoT vs K m x) : DoT vs K m (.mk 5 n [x]) := by
  intro w S a c g i lk hat hS ht hi hp
  simp only [T.k, T.n, T.ps, List.length_cons, List.length_nil, kys_5] at *
  have HT := Lib.hid (ht.alloc (.cells #[.int .i64 5, .int .i64 n, .slice a 1 c] 71))
  have hgl := ht.lt
  have HA := Lib.hid (hat.alloc (.cells #[.int .i64 5, .int .i64 n, .slice a 1 c] 71))
  have HB := Lib.hid (Blk.new w 71 #[.int .i64 5, .int .i64 n, .slice a 1 c])
  have HO := Lib.hid ((Only.refl g w).alloc (.cells #[.int .i64 5, .int .i64 n, .slice a 1 c] 71))
  have HX := Lib.hid hx
  have HS := Lib.hid hS
  have HPR := Lib.hid hp
  obtain ⟨b, o, a0, c0, rfl, hbl, hSb, e0, e1, e2, hps, _, _⟩ := hat.elem (w' := w.alloc (.cells #[.int .i64 5, .int .i64 n, .slice a 1 c] 71)) ((Below.refl _ _).alloc (Nat.le_refl _) _) (i := 0) (by simp)
  simp only [Nat.zero_mul, Nat.add_zero, List.getElem_cons_zero] at e0 e1 e2 hps
  have HP := Lib.hid hps
  clear hat hS hx hps ht hp
  go_enter Try.func93, Try.ntmps93
  go_wp2_with fail
  refine (HX.out _ S a0 c0 g i lk HP.out HS.out HT.out hi (pre_left HPR.out)).mono ?_
  rintro e w1 ⟨ho, ⟨h1, rfl, lk1, h2⟩ | ⟨h1, ⟨u, rfl⟩, key, h2, h3⟩⟩
  rotate_left
  · have H1 := Lib.hid (And.intro (HO.out.trans ho) (And.intro h2 h3))
    clear ho h2 h3
    go_wp2_with fail
    go_ret2
    exact ⟨H1.out.1, .inr ⟨by simp only [List.length_append]; omega, ⟨_, rfl⟩, key, H1.out.2⟩⟩
  obtain ⟨v1, hv1⟩ : ∃ v1, v1 = x.val vs := ⟨_, rfl⟩
  have hvb1 := T.val_bd vs hvs x fx
  rw [← hv1] at hvb1 ⊢
  have HV1 := Lib.hid hv1
  have hB1 := HB.out.only ho (by omega)
  have HA1 := Lib.hid (HA.out.only ho HS.out)
  have hsz := ho.size
  simp only [World.size_alloc] at hsz
  have H1 := Lib.hid (And.intro (HO.out.trans ho) h2)
  obtain ⟨x0, x1, x2, f0, f1, f2⟩ := hB1.three
  have HB1 := Lib.hid hB1
  clear ho h2 hv1 hB1 HX HA HB HT HP HO
  have hk := pre_one (pre_right HPR.out)
  rw [← HV1.out] at hk
  have HK := Lib.hid hk
  clear hk
  go_wp2_with fail
  refine (get_next vs K m _ g _ lk1 ((n + v1) % 10) H1.out.2 hm h1 HK.out).mono ?_
  rintro e w2 ⟨ho, ⟨h3, rfl, lk2, h4⟩ | ⟨h3, ⟨u, rfl⟩, key, h4, h5⟩⟩
  · have H2 := Lib.hid (And.intro (H1.out.1.trans ho) h4)
    clear ho h4 x0 x1 x2 f0 f1 f2 e0 e1 e2
    go_wp2_with fail
    go_ret2
    rw [val_5, ← HV1.out]
    exact ⟨H2.out.1, .inl ⟨by simp only [List.length_append, List.length_cons, List.length_nil]; omega, rfl, lk2, by rw [List.length_append, ← Nat.add_assoc]; exact H2.out.2⟩⟩
  · have H2 := Lib.hid (And.intro (H1.out.1.trans ho) (And.intro h4 h5))
    clear ho h4 h5 x0 x1 x2 f0 f1 f2 e0 e1 e2
    go_wp2_with fail
    go_ret2
    exact ⟨H2.out.1, .inr ⟨by simp only [List.length_append, List.length_cons, List.length_nil]; omega, ⟨_, rfl⟩, key, H2.out.2⟩⟩

theorem do_all (vs : Int → Int) (hvs : ∀ k, 0 ≤ vs k ∧ vs k ≤ 96) (K : List Int) (m : Nat) (hm : m ≤ K.length) : ∀ t, t.fit = true → DoT vs K m t := T.ind fun k n ps ih hf => by
  generalize ht : T.mk k n ps = t at hf ⊢
  refine T.cases_fit (P := fun t => DoT vs K m t) t hf ?_ ?_ ?_ ?_ ?_ ?_
  · rintro n _ _ rfl; exact do_0 vs K m n
  · rintro n a0 a1 rfl; exact do_1 vs K m hm n
  · rintro a b ha hb rfl; injection ht with _ _ hps; subst hps; exact do_2 vs hvs K m a b ha hb (ih a (by simp) ha) (ih b (by simp) hb)
  · rintro a b ha hb rfl; injection ht with _ _ hps; subst hps; exact do_3 vs hvs K m a b ha hb (ih a (by simp) ha) (ih b (by simp) hb)
  · rintro a b c ha hb hc rfl; injection ht with _ _ hps; subst hps; exact do_4 vs hvs K m a b c ha (ih a (by simp) ha) (ih b (by simp) hb) (ih c (by simp) hc)
  · rintro n a a0 a1 ha rfl; injection ht with _ _ hps; subst hps; exact do_5 vs hvs K m hm n a0 a1 a ha (ih a (by simp) ha)
end Go.Proofs.Ytochgmbeomfkpaa
/- spec.l2Next, spec.l2Run -/
namespace Go.Proofs.Ytochgmbeomfkpaa
open Go.RowKit

theorem infoInt : (Try.prog.info? 3).map (fun i => (i.zero, i.size, i.bytes)) = some (some (.int .i64 0), 1, 8) := by kernel_rfl
theorem infoFetch : (Try.prog.info? 106).map (fun i => (i.zero, i.size, i.bytes)) = some (some (.agg #[.int .i64 0, .int .i64 0]), 2, 16) := by kernel_rfl

/-- v holds the numbers l, in memory of the call's own. -/
def NumRow (w : World) (base : Nat) (v : Value) (l : List Int) : Prop := w.ownsRow base 3 1 v l.length (l.map (Value.int .i64))
/-- The cells of what was fetched of keys. -/
def fc (vs : Int → Int) : List Int → List Value
  | [] => []
  | k :: r => .int .i64 k :: .int .i64 (vs k) :: fc vs r
theorem fc_append (vs : Int → Int) : ∀ a b : List Int, fc vs (a ++ b) = fc vs a ++ fc vs b
  | [], b => rfl
  | k :: r, b => by simp [fc, fc_append vs r b]
theorem fc_length (vs : Int → Int) : ∀ l : List Int, (fc vs l).length = l.length * 2
  | [] => rfl
  | k :: r => by simp [fc, fc_length vs r]; omega
/-- v holds what was fetched of the keys l. -/
def FeRow (vs : Int → Int) (w : World) (base : Nat) (v : Value) (l : List Int) : Prop := w.ownsRow base 106 2 v l.length (fc vs l)

theorem own_ne {w : World} {b1 b2 : Nat} {e1 e2 : TypeId} {s1 s2 : Nat} {v1 v2 : Value} {n1 n2 : Nat} {l1 l2 : List Value} (h1 : w.ownsRow b1 e1 s1 v1 n1 l1) (h2 : w.ownsRow b2 e2 s2 v2 n2 l2) (he : e1 ≠ e2) : v1.ownBlock = none ∨ v1.ownBlock ≠ v2.ownBlock := by
  obtain ⟨_, ⟨rfl, _⟩ | ⟨g1, c1, cur1, rfl, _, hh1, _⟩⟩ := h1
  · exact .inl rfl
  obtain ⟨_, ⟨rfl, _⟩ | ⟨g2, c2, cur2, rfl, _, hh2, _⟩⟩ := h2
  · exact .inr (by simp [Value.ownBlock])
  · refine .inr ?_
    simp only [Value.ownBlock, ne_eq, Option.some.injEq]
    rintro rfl
    rw [hh1] at hh2
    simp at hh2
    exact he hh2.2

theorem own_ge {w : World} {b : Nat} {e : TypeId} {s : Nat} {v : Value} {n : Nat} {l : List Value} (h : w.ownsRow b e s v n l) : ∀ k, v.ownBlock = some k → b ≤ k := fun k hk => (h.lt k hk).1

theorem below_grown {B : Nat} {w w' : World} {row : Option Nat} (h : w.grownBy w' row) (hB : B ≤ w.heap.size) (hr : ∀ k, row = some k → B ≤ k) : Below B w w' :=
  ⟨h.os, h.tape, h.output, h.size, fun i hi => h.block i (by omega) (by intro e; have := hr i e.symm; omega)⟩

theorem NumRow.at {w : World} {base : Nat} {v : Value} {l : List Int} (h : NumRow w base v l) (hl : ∀ x ∈ l, i64ok x) : ∃ a c, v = .slice a l.length c ∧ IntsAt w (fun b => base ≤ b) l a c := by
  have h' := h
  obtain ⟨_, ⟨rfl, h0⟩ | ⟨g, cap, cur, rfl, hb, hh, hn, hc, hz, _⟩⟩ := h
  · obtain rfl : l = [] := List.length_eq_zero_iff.1 h0
    exact ⟨none, 0, rfl, IntsAt.nil (by omega)⟩
  · refine ⟨_, _, rfl, hn, hc, hl, .inr ⟨g, 0, rfl, hb, fun i hi => ?_⟩⟩
    have := h'.cells (g := g) rfl i (.int .i64 l[i]) (by rw [List.getElem?_map, List.getElem?_eq_getElem hi]; rfl)
    have e : (⟨g, 0, none⟩ : Addr).add i = ⟨g, 0 + i, none⟩ := by unfold Addr.add; split <;> simp_all
    rw [e] at this
    exact this

/-- What l2Next leaves. -/
def NextPost (K : List Int) (m : Nat) (w : World) (v : Int) (e : Ending) (w' : World) : Prop :=
  Below w.heap.size w w' ∧ ((m = K.length ∧ ∃ lk, e = .returned (.tuple #[.int .i64 v, .int .i64 lk, .bool true])) ∨ (m < K.length ∧ ∃ u key, K[m]? = some key ∧ e = .returned (.tuple #[.int .i64 u, .int .i64 key, .bool false])))

set_option maxHeartbeats 1000000 in
theorem next_any (vs : Int → Int) (hvs : ∀ k, 0 ≤ vs k ∧ vs k ≤ 96) (t : T) (hf : t.fit = true) (m : Nat) (hm : m ≤ (t.kys vs).length) (w : World) (S S' : Nat → Prop) (a a' : Option Addr) (c c' : Nat)
    (hat : AtS w S t.ps a c) (hgot : IntsAt w S' (((t.kys vs).take m).map vs) a' c') :
    Calls Try.prog 79 #[.agg #[.int .i64 t.k, .int .i64 t.n, .slice a t.ps.length c], .slice a' m c'] w (NextPost (t.kys vs) m w (t.val vs)) := by
  have hl := got_len (vs := vs) hm
  have hta := hat.lim
  have HS := Lib.hid ((hta.alloc (.cells #[.int .i64 t.k, .int .i64 t.n, .slice a t.ps.length c] 71)).alloc (.cells #[.slice a' m c', .int .i64 0, .int .i64 0] 126))
  have hB := Blk.new (w.alloc (.cells #[.int .i64 t.k, .int .i64 t.n, .slice a t.ps.length c] 71)) 126 #[.slice a' m c', .int .i64 0, .int .i64 0]
  rw [World.size_alloc] at hB
  have hgl := (hgot.lim.alloc (.cells #[.int .i64 t.k, .int .i64 t.n, .slice a t.ps.length c] 71)).alloc (.cells #[.slice a' m c', .int .i64 0, .int .i64 0] 126)
  have HT := Lib.hid (show TpAt _ (w.heap.size + 1) (((t.kys vs).take m).map vs) 0 0 from ⟨a', c', by rw [hl]; exact hB, hgl.weaken (fun b hb => by omega)⟩)
  have HB0 := Lib.hid (((Below.refl w.heap.size w).alloc (Nat.le_refl _) (.cells #[.int .i64 t.k, .int .i64 t.n, .slice a t.ps.length c] 71)).alloc (by simp) (.cells #[.slice a' m c', .int .i64 0, .int .i64 0] 126))
  have HL := Lib.hid hl
  clear hat hgot hta hB hgl hl
  go_enter Try.func79, Try.ntmps79
  go_wp2_with fail
  refine (do_all vs hvs (t.kys vs) m hm t hf _ _ a c (w.heap.size + 1) 0 0 HS.out (fun b hb => by omega) HT.out (Nat.zero_le _) (List.prefix_rfl)).mono ?_
  rintro e w1 ⟨ho, ⟨h1, rfl, lk1, h2⟩ | ⟨h1, ⟨u, rfl⟩, key, h2, h3⟩⟩
  · have hb : Below w.heap.size w w1 := HB0.out.trans ⟨ho.os, ho.tape, ho.output, ho.size, fun k hk => ho.block k (by simp; omega) (by intro e; injection e; omega)⟩
    have HB1 := Lib.hid hb
    obtain ⟨a2, c2, hbk, _⟩ := h2
    obtain ⟨x0, x1, x2, f0, f1, f2⟩ := hbk.three
    obtain ⟨v, hv⟩ : ∃ v, v = t.val vs := ⟨_, rfl⟩
    rw [← hv]
    have HV := Lib.hid hv
    clear ho hb hbk hv
    go_wp2_with fail
    go_quiet (fail)
    go_wp2_with fail
    go_ret3
    refine ⟨below_drewN HB1.out _, .inl ⟨by omega, lk1, ?_⟩⟩
    rw [← HV.out]
    rfl
  · have hb : Below w.heap.size w w1 := HB0.out.trans ⟨ho.os, ho.tape, ho.output, ho.size, fun k hk => ho.block k (by simp; omega) (by intro e; injection e; omega)⟩
    have HB1 := Lib.hid hb
    have HK := Lib.hid h2
    obtain ⟨a2, c2, hbk, _⟩ := h3
    obtain ⟨x0, x1, x2, f0, f1, f2⟩ := hbk.three
    clear ho hb hbk h2
    go_wp2_with fail
    go_quiet (fail)
    go_wp2_with fail
    go_ret3
    exact ⟨below_drewN HB1.out _, .inr ⟨by omega, u, key, HK.out, rfl⟩⟩

/-- What l2Run leaves. -/
def RunPost (vs : Int → Int) (K : List Int) (w : World) (v : Int) (e : Ending) (w' : World) : Prop :=
  ∃ vo, e = .returned (.tuple #[.int .i64 v, vo]) ∧ FeRow vs w' w.heap.size vo K ∧ Below w.heap.size w w'

theorem rowF_new (vs : Int → Int) (w : World) : FeRow vs (w.alloc (.cells #[] 106)) w.heap.size (.slice (some ⟨w.heap.size, 0, none⟩) 0 0) [] :=
  ⟨by simp [fc], .inr ⟨w.heap.size, 0, #[], rfl, Nat.le_refl _, heap_alloc_new w _, Nat.le_refl _, by decide, by simp, by simp [fc]⟩⟩
theorem rowN_new (w : World) : NumRow (w.alloc (.cells #[] 3)) w.heap.size (.slice (some ⟨w.heap.size, 0, none⟩) 0 0) [] :=
  ⟨by simp, .inr ⟨w.heap.size, 0, #[], rfl, Nat.le_refl _, heap_alloc_new w _, Nat.le_refl _, by decide, by simp, by simp⟩⟩

theorem news2 (W : World) (t : TypeId) (x y : Value) : ∀ j u, [x, y][j]? = some u → (W.alloc (.cells #[x, y] t)).cell? ((⟨W.heap.size, 0, none⟩ : Addr).add j) = some u := by
  intro j u hj
  have e : (⟨W.heap.size, 0, none⟩ : Addr).add j = ⟨W.heap.size, j, none⟩ := by unfold Addr.add; split <;> simp_all
  rw [e, World.cell?_alloc_new, ← hj]
  simp
theorem news1 (W : World) (t : TypeId) (x : Value) : ∀ j u, [x][j]? = some u → (W.alloc (.cells #[x] t)).cell? ((⟨W.heap.size, 0, none⟩ : Addr).add j) = some u := by
  intro j u hj
  have e : (⟨W.heap.size, 0, none⟩ : Addr).add j = ⟨W.heap.size, j, none⟩ := by unfold Addr.add; split <;> simp_all
  rw [e, World.cell?_alloc_new, ← hj]
  simp

/-- Where the loop of l2Run stands. -/
def RunRel (vs : Int → Int) (K : List Int) (v : Int) (w0 : World) (B : Nat) (vo vg vv vk vb : Value) (wr : World) : Prop :=
  ∃ (m : Nat) (uv uk : Int) (ub : Bool), m ≤ K.length ∧ vv = .int .i64 uv ∧ vk = .int .i64 uk ∧ vb = .bool ub ∧ FeRow vs wr B vo (K.take m) ∧ NumRow wr B vg ((K.take m).map vs) ∧ Below B w0 wr ∧
    ((ub = true ∧ m = K.length ∧ uv = v) ∨ (ub = false ∧ m < K.length ∧ K[m]? = some uk))
def slLen : Value → Nat
  | .slice _ n _ => n
  | _ => 0
theorem NumRow.len {w : World} {base : Nat} {v : Value} {l : List Int} (h : NumRow w base v l) : slLen v = l.length := by
  obtain ⟨_, ⟨rfl, h0⟩ | ⟨g, cap, cur, rfl, _⟩⟩ := h
  · simpa [slLen] using h0.symm
  · rfl
theorem take_succ_map {K : List Int} {m : Nat} {k : Int} (h : K[m]? = some k) : K.take (m + 1) = K.take m ++ [k] := by
  rw [List.take_add_one, h]; rfl

end Go.Proofs.Ytochgmbeomfkpaa
/- impl.reckon with whatever fetches -/
namespace Go.Proofs.Ytochgmbeomfkpaa
open Go.RowKit

/-- Of what was there only blocks that meet D may have turned. -/
def Fr (D : Nat → Prop) (w w' : World) : Prop := w'.os = w.os ∧ w'.tape = w.tape ∧ w'.output = w.output ∧ w.heap.size ≤ w'.heap.size ∧ ∀ b, b < w.heap.size → ¬ D b → w'.heap[b]? = w.heap[b]?
theorem Fr.of_below {D : Nat → Prop} {w w' : World} (h : Below w.heap.size w w') : Fr D w w' := ⟨h.os, h.tape, h.output, h.size, fun b hb _ => h.block b hb⟩
theorem Fr.trans {D D' : Nat → Prop} {w w1 w2 : World} (h : Fr D w w1) (k : Fr D' w1 w2) (hd : ∀ b, D' b → D b ∨ w.heap.size ≤ b) : Fr D w w2 :=
  ⟨k.1.trans h.1, k.2.1.trans h.2.1, k.2.2.1.trans h.2.2.1, Nat.le_trans h.2.2.2.1 k.2.2.2.1, fun b hb hn => (k.2.2.2.2 b (Nat.lt_of_lt_of_le hb h.2.2.2.1) (fun hd' => by
    rcases hd b hd' with h1 | h1
    · exact hn h1
    · omega)).trans (h.2.2.2.2 b hb hn)⟩
theorem Fr.size {D : Nat → Prop} {w w' : World} (h : Fr D w w') : w.heap.size ≤ w'.heap.size := h.2.2.2.1

/-- The function f, with what it has captured, fetches: key by key it gives vs, and keeps track by I of the keys so far. -/
structure Fetcher (f : FuncId) (caps : Array Value) (vs : Int → Int) (I : List Int → (Nat → Prop) → World → Prop) : Prop where
  call : ∀ ks D w k, 0 ≤ k → k ≤ 9 → ks.length ≤ 100 → I ks D w → Calls Try.prog f (#[.int .i64 k] ++ caps) w fun e w' => e = .returned (.int .i64 (vs k)) ∧ ∃ D', I (ks ++ [k]) D' w' ∧ Fr D w w' ∧ ∀ b, D' b → D b ∨ w.heap.size ≤ b
  below : ∀ ks D w w', I ks D w → Below w.heap.size w w' → I ks D w'
  bd : ∀ k, 0 ≤ vs k ∧ vs k ≤ 96
  lt : ∀ ks D w, I ks D w → ∀ b, D b → b < w.heap.size
  enters : ∀ args w, (callFunc f args).run Try.prog w = .ok (.enter f args) w

/-- What reckon leaves. -/
def RkPost (I : List Int → (Nat → Prop) → World → Prop) (ks : List Int) (D : Nat → Prop) (w : World) (v : Int) (new : List Int) (e : Ending) (w' : World) : Prop :=
  e = .returned (.int .i64 v) ∧ ∃ D', I (ks ++ new) D' w' ∧ Fr D w w' ∧ ∀ b, D' b → D b ∨ w.heap.size ≤ b

def RkT (f : FuncId) (caps : Array Value) (vs : Int → Int) (I : List Int → (Nat → Prop) → World → Prop) (t : T) : Prop := ∀ (w : World) (S : Nat → Prop) (a : Option Addr) (c : Nat) (ks : List Int) (D : Nat → Prop),
  t.fit = true → AtS w S t.ps a c → (∀ b, S b → b < w.heap.size ∧ ¬ D b) → I ks D w → ks.length + t.nodes ≤ 100 →
  Calls Try.prog 76 #[.agg #[.int .i64 t.k, .int .i64 t.n, .slice a t.ps.length c], .func (.func f) #[] caps] w (RkPost I ks D w (t.val vs) (t.kys vs))

theorem AtS.fr {w w' : World} {S D : Nat → Prop} {ps : List T} {a : Option Addr} {c : Nat} (h : AtS w S ps a c) (hf : Fr D w w') (hS : ∀ b, S b → ¬ D b) : AtS w' S ps a c :=
  h.keep (fun _ h => h) (fun b hb hl => hf.2.2.2.2 b hl (hS b hb))
theorem Blk.fr {w w' : World} {D : Nat → Prop} {g : Nat} {t : TypeId} {cs : Array Value} (h : Blk w g t cs) (hf : Fr D w w') (hg : ¬ D g) : Blk w' g t cs := (hf.2.2.2.2 g h.lt hg).trans h

theorem reck_0 {f : FuncId} {caps : Array Value} {vs : Int → Int} {I : List Int → (Nat → Prop) → World → Prop} (H : Fetcher f caps vs I) (n : Int) : RkT f caps vs I (.mk 0 n []) := by
  intro w S a c ks D hf hat hS hI hle
  simp only [T.k, T.n, T.ps, List.length_nil] at *
  have HI := Lib.hid (H.below ks D w _ hI ((Below.refl _ _).alloc (Nat.le_refl _) (.cells #[.int .i64 0, .int .i64 n, .slice a 0 c] 71)))
  clear hat hI
  go_enter Try.func76, Try.ntmps76
  go_wp2_with fail
  go_ret
  rw [val_0, kys_0]
  exact ⟨rfl, D, by rw [List.append_nil]; exact HI.out, .of_below ((Below.refl _ _).alloc (Nat.le_refl _) _), fun b hb => .inl hb⟩

set_option maxRecDepth 100000 in
theorem reck_1 {f : FuncId} {caps : Array Value} {vs : Int → Int} {I : List Int → (Nat → Prop) → World → Prop} (H : Fetcher f caps vs I) (n : Int) (h0 : 0 ≤ n) (h1 : n ≤ 9) : RkT f caps vs I (.mk 1 n []) := by
  intro w S a c ks D hf hat hS hI hle
  have hk : ks.length ≤ 100 := by simp [T.nodes] at hle; omega
  simp only [T.k, T.n, T.ps, List.length_nil] at *
  have HI := Lib.hid (H.below ks D w _ hI ((Below.refl _ _).alloc (Nat.le_refl _) (.cells #[.int .i64 1, .int .i64 n, .slice a 0 c] 71)))
  have HH := Lib.hid H
  have eg := H.enters
  clear hat hI H hS hle
  go_enter Try.func76, Try.ntmps76
  go_wp2_with fail
  refine (HH.out.call ks D _ n h0 h1 hk HI.out).mono ?_
  rintro e w1 ⟨rfl, D', hI', hfr, hd⟩
  have HF := Lib.hid (And.intro hI' (And.intro hfr hd))
  clear hI' hfr hd HI
  go_wp2_with fail
  go_ret
  rw [val_1, kys_1]
  exact ⟨rfl, D', HF.out.1, (Fr.of_below ((Below.refl _ _).alloc (Nat.le_refl _) _)).trans HF.out.2.1 (fun b hb => .inl hb), fun b hb => (HF.out.2.2 b hb).imp id (fun h => by simp at h; omega)⟩

set_option maxRecDepth 100000 in
set_option maxHeartbeats 1000000 in
theorem reck_2 {f : FuncId} {caps : Array Value} {vs : Int → Int} {I : List Int → (Nat → Prop) → World → Prop} (H : Fetcher f caps vs I) (x y : T) (fx : x.fit = true) (fy : y.fit = true) (hx : RkT f caps vs I x) (hy : RkT f caps vs I y) : RkT f caps vs I (.mk 2 0 [x, y]) := by
  intro w S a c ks D hf hat hS hI hle
  simp only [T.k, T.n, T.ps, List.length_cons, List.length_nil, T.nodes, nodesL] at *
  have hD := H.lt ks D w hI
  have HI := Lib.hid (H.below ks D w _ hI ((Below.refl _ _).alloc (Nat.le_refl _) (.cells #[.int .i64 2, .int .i64 0, .slice a 2 c] 71)))
  have HA := Lib.hid (hat.alloc (.cells #[.int .i64 2, .int .i64 0, .slice a 2 c] 71))
  have HB := Lib.hid (Blk.new w 71 #[.int .i64 2, .int .i64 0, .slice a 2 c])
  have HX := Lib.hid hx
  have HY := Lib.hid hy
  have HH := Lib.hid H
  have HS := Lib.hid hS
  have HD := Lib.hid hD
  obtain ⟨b, o, a0, c0, rfl, hbl, hSb, e0, e1, e2, hp, _, _⟩ := hat.elem (w' := w.alloc (.cells #[.int .i64 2, .int .i64 0, .slice a 2 c] 71)) ((Below.refl _ _).alloc (Nat.le_refl _) _) (i := 0) (by simp)
  simp only [Nat.zero_mul, Nat.add_zero, List.getElem_cons_zero] at e0 e1 e2 hp
  have HP := Lib.hid hp
  have hk1 := (T.kys_bd vs x fx).2
  clear hat hI H hS hD hx hy hp hf
  go_enter Try.func76, Try.ntmps76
  go_wp2_with fail
  refine (HX.out _ S a0 c0 ks D fx HP.out (fun b hb => ⟨by have := (HS.out b hb).1; simp; omega, (HS.out b hb).2⟩) HI.out (by omega)).mono ?_
  rintro e w1 ⟨rfl, D1, hI1, hfr, hd1⟩
  obtain ⟨v1, hv1⟩ : ∃ v1, v1 = x.val vs := ⟨_, rfl⟩
  have hvb1 := T.val_bd vs HH.out.bd x fx
  rw [← hv1] at hvb1 ⊢
  have HV1 := Lib.hid hv1
  have hA1 := HA.out.fr hfr (fun b hb => (HS.out b hb).2)
  have hB1 := HB.out.fr hfr (fun h => by have := HD.out _ h; omega)
  have hsz := hfr.size
  simp only [World.size_alloc] at hsz hd1
  have H1 := Lib.hid (And.intro hI1 (And.intro hfr hd1))
  obtain ⟨x0, x1, x2, f0, f1, f2⟩ := hB1.three
  obtain ⟨b', o', a1, c1, he, hbl1, _, e0, e1, e2, hp, _, _⟩ := hA1.elem (w' := w1) (Below.refl _ _) (i := 1) (by simp)
  injection he with he
  injection he with he1 he2
  subst he1 he2
  simp only [Nat.one_mul, List.getElem_cons_succ, List.getElem_cons_zero] at e0 e1 e2 hp
  have HP1 := Lib.hid hp
  clear hp hA1 hB1 hfr hd1 hI1 hv1 HX HA HB HI HP
  go_wp2_with fail
  refine (HY.out _ S a1 c1 _ D1 fy HP1.out (fun b hb => ⟨by have := (HS.out b hb).1; omega, fun h => ?_⟩) H1.out.1 (by simp only [List.length_append]; omega)).mono ?_
  · rcases H1.out.2.2 b h with h | h
    · exact (HS.out b hb).2 h
    · have := (HS.out b hb).1; omega
  rintro e w2 ⟨rfl, D2, hI2, hfr, hd2⟩
  obtain ⟨v2, hv2⟩ : ∃ v2, v2 = y.val vs := ⟨_, rfl⟩
  have hvb2 := T.val_bd vs HH.out.bd y fy
  rw [← hv2] at hvb2 ⊢
  have HV2 := Lib.hid hv2
  have H2 := Lib.hid (And.intro hI2 (And.intro hfr hd2))
  clear hfr hd2 hI2 hv2 x0 x1 x2 f0 f1 f2 e0 e1 e2
  go_wp2_with fail
  go_ret
  rw [val_2, kys_2, ← HV1.out, ← HV2.out]
  exact ⟨rfl, D2, by rw [← List.append_assoc]; exact H2.out.1, ((Fr.of_below ((Below.refl _ _).alloc (Nat.le_refl _) _)).trans H1.out.2.1 (fun b hb => .inl hb)).trans H2.out.2.1 (fun b hb => (H1.out.2.2 b hb).imp id (fun h => by omega)), fun b hb => by
    rcases H2.out.2.2 b hb with h | h
    · exact (H1.out.2.2 b h).imp id (fun h => by omega)
    · exact .inr (by omega)⟩

set_option maxRecDepth 100000 in
set_option maxHeartbeats 1000000 in
theorem reck_3 {f : FuncId} {caps : Array Value} {vs : Int → Int} {I : List Int → (Nat → Prop) → World → Prop} (H : Fetcher f caps vs I) (x y : T) (fx : x.fit = true) (fy : y.fit = true) (hx : RkT f caps vs I x) (hy : RkT f caps vs I y) : RkT f caps vs I (.mk 3 0 [x, y]) := by
  intro w S a c ks D hf hat hS hI hle
  simp only [T.k, T.n, T.ps, List.length_cons, List.length_nil, T.nodes, nodesL] at *
  have hD := H.lt ks D w hI
  have HI := Lib.hid (H.below ks D w _ hI ((Below.refl _ _).alloc (Nat.le_refl _) (.cells #[.int .i64 3, .int .i64 0, .slice a 2 c] 71)))
  have HA := Lib.hid (hat.alloc (.cells #[.int .i64 3, .int .i64 0, .slice a 2 c] 71))
  have HB := Lib.hid (Blk.new w 71 #[.int .i64 3, .int .i64 0, .slice a 2 c])
  have HX := Lib.hid hx
  have HY := Lib.hid hy
  have HH := Lib.hid H
  have HS := Lib.hid hS
  have HD := Lib.hid hD
  obtain ⟨b, o, a0, c0, rfl, hbl, hSb, e0, e1, e2, hp, _, _⟩ := hat.elem (w' := w.alloc (.cells #[.int .i64 3, .int .i64 0, .slice a 2 c] 71)) ((Below.refl _ _).alloc (Nat.le_refl _) _) (i := 0) (by simp)
  simp only [Nat.zero_mul, Nat.add_zero, List.getElem_cons_zero] at e0 e1 e2 hp
  have HP := Lib.hid hp
  have hk1 := (T.kys_bd vs x fx).2
  clear hat hI H hS hD hx hy hp hf
  go_enter Try.func76, Try.ntmps76
  go_wp2_with fail
  refine (HX.out _ S a0 c0 ks D fx HP.out (fun b hb => ⟨by have := (HS.out b hb).1; simp; omega, (HS.out b hb).2⟩) HI.out (by omega)).mono ?_
  rintro e w1 ⟨rfl, D1, hI1, hfr, hd1⟩
  obtain ⟨v1, hv1⟩ : ∃ v1, v1 = x.val vs := ⟨_, rfl⟩
  have hvb1 := T.val_bd vs HH.out.bd x fx
  rw [← hv1] at hvb1 ⊢
  have HV1 := Lib.hid hv1
  have hA1 := HA.out.fr hfr (fun b hb => (HS.out b hb).2)
  have hB1 := HB.out.fr hfr (fun h => by have := HD.out _ h; omega)
  have hsz := hfr.size
  simp only [World.size_alloc] at hsz hd1
  have H1 := Lib.hid (And.intro hI1 (And.intro hfr hd1))
  obtain ⟨x0, x1, x2, f0, f1, f2⟩ := hB1.three
  obtain ⟨b', o', a1, c1, he, hbl1, _, e0, e1, e2, hp, _, _⟩ := hA1.elem (w' := w1) (Below.refl _ _) (i := 1) (by simp)
  injection he with he
  injection he with he1 he2
  subst he1 he2
  simp only [Nat.one_mul, List.getElem_cons_succ, List.getElem_cons_zero] at e0 e1 e2 hp
  have HP1 := Lib.hid hp
  clear hp hA1 hB1 hfr hd1 hI1 hv1 HX HA HB HI HP
  go_wp2_with fail
  refine (HY.out _ S a1 c1 _ D1 fy HP1.out (fun b hb => ⟨by have := (HS.out b hb).1; omega, fun h => ?_⟩) H1.out.1 (by simp only [List.length_append]; omega)).mono ?_
  · rcases H1.out.2.2 b h with h | h
    · exact (HS.out b hb).2 h
    · have := (HS.out b hb).1; omega
  rintro e w2 ⟨rfl, D2, hI2, hfr, hd2⟩
  obtain ⟨v2, hv2⟩ : ∃ v2, v2 = y.val vs := ⟨_, rfl⟩
  have hvb2 := T.val_bd vs HH.out.bd y fy
  rw [← hv2] at hvb2 ⊢
  have HV2 := Lib.hid hv2
  have H2 := Lib.hid (And.intro hI2 (And.intro hfr hd2))
  clear hfr hd2 hI2 hv2 x0 x1 x2 f0 f1 f2 e0 e1 e2
  have hm0 : 0 ≤ v1 * v2 := Int.mul_nonneg hvb1.1 hvb2.1
  have hm1 : v1 * v2 ≤ 96 * 96 := Int.mul_le_mul hvb1.2 hvb2.2 hvb2.1 (by omega)
  have hm2 : v1 * v2 ≤ 9216 := hm1
  clear hm1
  go_wp2_with fail
  go_ret
  rw [val_3, kys_3, ← HV1.out, ← HV2.out]
  exact ⟨rfl, D2, by rw [← List.append_assoc]; exact H2.out.1, ((Fr.of_below ((Below.refl _ _).alloc (Nat.le_refl _) _)).trans H1.out.2.1 (fun b hb => .inl hb)).trans H2.out.2.1 (fun b hb => (H1.out.2.2 b hb).imp id (fun h => by omega)), fun b hb => by
    rcases H2.out.2.2 b hb with h | h
    · exact (H1.out.2.2 b h).imp id (fun h => by omega)
    · exact .inr (by omega)⟩

set_option maxRecDepth 100000 in
set_option maxHeartbeats 1000000 in
theorem reck_4 {f : FuncId} {caps : Array Value} {vs : Int → Int} {I : List Int → (Nat → Prop) → World → Prop} (H : Fetcher f caps vs I) (x y z : T) (fx : x.fit = true) (fy : y.fit = true) (fz : z.fit = true) (hx : RkT f caps vs I x) (hy : RkT f caps vs I y) (hz : RkT f caps vs I z) : RkT f caps vs I (.mk 4 0 [x, y, z]) := by
  intro w S a c ks D hf hat hS hI hle
  simp only [T.k, T.n, T.ps, List.length_cons, List.length_nil, T.nodes, nodesL] at *
  have hD := H.lt ks D w hI
  have HI := Lib.hid (H.below ks D w _ hI ((Below.refl _ _).alloc (Nat.le_refl _) (.cells #[.int .i64 4, .int .i64 0, .slice a 3 c] 71)))
  have HA := Lib.hid (hat.alloc (.cells #[.int .i64 4, .int .i64 0, .slice a 3 c] 71))
  have HB := Lib.hid (Blk.new w 71 #[.int .i64 4, .int .i64 0, .slice a 3 c])
  have HX := Lib.hid hx
  have HY := Lib.hid hy
  have HZ := Lib.hid hz
  have HH := Lib.hid H
  have HS := Lib.hid hS
  have HD := Lib.hid hD
  obtain ⟨b, o, a0, c0, rfl, hbl, hSb, e0, e1, e2, hp, _, _⟩ := hat.elem (w' := w.alloc (.cells #[.int .i64 4, .int .i64 0, .slice a 3 c] 71)) ((Below.refl _ _).alloc (Nat.le_refl _) _) (i := 0) (by simp)
  simp only [Nat.zero_mul, Nat.add_zero, List.getElem_cons_zero] at e0 e1 e2 hp
  have HP := Lib.hid hp
  have hk1 := (T.kys_bd vs x fx).2
  clear hat hI H hS hD hx hy hz hp hf
  go_enter Try.func76, Try.ntmps76
  go_wp2_with fail
  refine (HX.out _ S a0 c0 ks D fx HP.out (fun b hb => ⟨by have := (HS.out b hb).1; simp; omega, (HS.out b hb).2⟩) HI.out (by omega)).mono ?_
  rintro e w1 ⟨rfl, D1, hI1, hfr, hd1⟩
  obtain ⟨v1, hv1⟩ : ∃ v1, v1 = x.val vs := ⟨_, rfl⟩
  have hvb1 := T.val_bd vs HH.out.bd x fx
  rw [← hv1] at hvb1 ⊢
  have HV1 := Lib.hid hv1
  have hA1 := HA.out.fr hfr (fun b hb => (HS.out b hb).2)
  have hB1 := HB.out.fr hfr (fun h => by have := HD.out _ h; omega)
  have hsz := hfr.size
  simp only [World.size_alloc] at hsz hd1
  have H1 := Lib.hid (And.intro hI1 (And.intro hfr hd1))
  obtain ⟨x0, x1, x2, f0, f1, f2⟩ := hB1.three
  have HA1 := Lib.hid hA1
  clear hA1 hB1 hfr hd1 hI1 hv1 HX HA HB HI HP
  by_cases hv0 : v1 = 0
  · have hnz : (v1 != 0) = false := by simpa using hv0
    obtain ⟨b', o', a1, c1, he, hbl1, _, e0, e1, e2, hp, _, _⟩ := HA1.out.elem (w' := w1) (Below.refl _ _) (i := 2) (by simp)
    injection he with he
    injection he with he1 he2
    subst he1 he2
    simp only [List.getElem_cons_succ, List.getElem_cons_zero] at e0 e1 e2 hp
    have HP1 := Lib.hid hp
    clear hp
    go_wp2_with fail
    refine (HZ.out _ S a1 c1 _ D1 fz HP1.out (fun b hb => ⟨by have := (HS.out b hb).1; omega, fun h => ?_⟩) H1.out.1 (by simp only [List.length_append]; omega)).mono ?_
    · rcases H1.out.2.2 b h with h | h
      · exact (HS.out b hb).2 h
      · have := (HS.out b hb).1; omega
    rintro e w2 ⟨rfl, D2, hI2, hfr, hd2⟩
    obtain ⟨v2, hv2⟩ : ∃ v2, v2 = z.val vs := ⟨_, rfl⟩
    have hvb2 := T.val_bd vs HH.out.bd z fz
    rw [← hv2] at hvb2 ⊢
    have HV2 := Lib.hid hv2
    have H2 := Lib.hid (And.intro hI2 (And.intro hfr hd2))
    clear hfr hd2 hI2 hv2 x0 x1 x2 f0 f1 f2 e0 e1 e2
    go_wp2_with fail
    go_ret
    rw [val_4, kys_4, ← HV1.out, if_pos (by omega), if_pos (by omega), ← HV2.out]
    exact ⟨rfl, D2, by rw [← List.append_assoc]; exact H2.out.1, ((Fr.of_below ((Below.refl _ _).alloc (Nat.le_refl _) _)).trans H1.out.2.1 (fun b hb => .inl hb)).trans H2.out.2.1 (fun b hb => (H1.out.2.2 b hb).imp id (fun h => by omega)), fun b hb => by
      rcases H2.out.2.2 b hb with h | h
      · exact (H1.out.2.2 b h).imp id (fun h => by omega)
      · exact .inr (by omega)⟩
  · have hnz : (v1 != 0) = true := by simpa using hv0
    obtain ⟨b', o', a1, c1, he, hbl1, _, e0, e1, e2, hp, _, _⟩ := HA1.out.elem (w' := w1) (Below.refl _ _) (i := 1) (by simp)
    injection he with he
    injection he with he1 he2
    subst he1 he2
    simp only [Nat.one_mul, List.getElem_cons_succ, List.getElem_cons_zero] at e0 e1 e2 hp
    have HP1 := Lib.hid hp
    clear hp
    go_wp2_with fail
    refine (HY.out _ S a1 c1 _ D1 fy HP1.out (fun b hb => ⟨by have := (HS.out b hb).1; omega, fun h => ?_⟩) H1.out.1 (by simp only [List.length_append]; omega)).mono ?_
    · rcases H1.out.2.2 b h with h | h
      · exact (HS.out b hb).2 h
      · have := (HS.out b hb).1; omega
    rintro e w2 ⟨rfl, D2, hI2, hfr, hd2⟩
    obtain ⟨v2, hv2⟩ : ∃ v2, v2 = y.val vs := ⟨_, rfl⟩
    have hvb2 := T.val_bd vs HH.out.bd y fy
    rw [← hv2] at hvb2 ⊢
    have HV2 := Lib.hid hv2
    have H2 := Lib.hid (And.intro hI2 (And.intro hfr hd2))
    clear hfr hd2 hI2 hv2 x0 x1 x2 f0 f1 f2 e0 e1 e2
    go_wp2_with fail
    go_ret
    rw [val_4, kys_4, ← HV1.out, if_neg (by omega), if_neg (by omega), ← HV2.out]
    exact ⟨rfl, D2, by rw [← List.append_assoc]; exact H2.out.1, ((Fr.of_below ((Below.refl _ _).alloc (Nat.le_refl _) _)).trans H1.out.2.1 (fun b hb => .inl hb)).trans H2.out.2.1 (fun b hb => (H1.out.2.2 b hb).imp id (fun h => by omega)), fun b hb => by
      rcases H2.out.2.2 b hb with h | h
      · exact (H1.out.2.2 b h).imp id (fun h => by omega)
      · exact .inr (by omega)⟩

set_option maxRecDepth 100000 in
set_option maxHeartbeats 1000000 in
theorem reck_5 {f : FuncId} {caps : Array Value} {vs : Int → Int} {I : List Int → (Nat → Prop) → World → Prop} (H : Fetcher f caps vs I) (n : Int) (x : T) (h0 : 0 ≤ n) (h9 : n ≤ 9) (fx : x.fit = true) (hx : RkT f caps vs I x) : RkT f caps vs I (.mk 5 n [x]) := by
  intro w S a c ks D hf hat hS hI hle
  simp only [T.k, T.n, T.ps, List.length_cons, List.length_nil, T.nodes, nodesL] at *
  have hD := H.lt ks D w hI
  have HI := Lib.hid (H.below ks D w _ hI ((Below.refl _ _).alloc (Nat.le_refl _) (.cells #[.int .i64 5, .int .i64 n, .slice a 1 c] 71)).drew)
  have HB := Lib.hid (Blk.new w 71 #[.int .i64 5, .int .i64 n, .slice a 1 c])
  have HX := Lib.hid hx
  have HH := Lib.hid H
  have HS := Lib.hid hS
  have HD := Lib.hid hD
  obtain ⟨b, o, a0, c0, rfl, hbl, hSb, e0, e1, e2, hp, _, _⟩ := hat.elem (w' := w.alloc (.cells #[.int .i64 5, .int .i64 n, .slice a 1 c] 71)) ((Below.refl _ _).alloc (Nat.le_refl _) _) (i := 0) (by simp)
  simp only [Nat.zero_mul, Nat.add_zero, List.getElem_cons_zero] at e0 e1 e2 hp
  have HP := Lib.hid hp.drew
  have hk1 := (T.kys_bd vs x fx).2
  have eg := H.enters
  clear hat hI H hS hD hx hp hf
  go_enter Try.func76, Try.ntmps76
  go_wp2_with fail
  go_region_with (first | (go_at_call 76; refine (HX.out _ S a0 c0 ks D fx HP.out (fun b hb => ⟨by have := (HS.out b hb).1; simp; omega, (HS.out b hb).2⟩) HI.out (by omega)).mono ?_; rintro e w1 ⟨rfl, D1, hI1, hfr, hd1⟩; obtain ⟨v1, hv1⟩ : ∃ v1, v1 = x.val vs := ⟨_, rfl⟩; have hvb1 := T.val_bd vs HH.out.bd x fx; rw [← hv1] at hvb1 ⊢; have HV1 := Lib.hid hv1; have H1 := Lib.hid (And.intro hI1 (And.intro hfr hd1)); obtain ⟨z0, z1, z2, g0, g1, g2⟩ := (HB.out.drew.fr hfr (fun h => by have := HD.out _ h; omega)).three; clear hfr hd1 hI1 hv1; have W1 : IntKind.i64.wrap (n + v1) = n + v1 := IntWalk.i64_in _ ⟨by omega, by omega⟩; have E1 : (n + v1).tmod 10 = (n + v1) % 10 := Int.tmod_eq_emod_of_nonneg (by omega)) | (go_at_fn f; clear W1 E1; refine (HH.out.call _ D1 _ _ (Int.emod_nonneg _ (by omega)) (by have := Int.emod_lt_of_pos (n + v1) (show (0 : Int) < 10 by omega); omega) (by simp only [List.length_append]; omega) H1.out.1).mono ?_; rintro e w2 ⟨rfl, D2, hI2, hfr, hd2⟩))
  all_goals
    have H2 := Lib.hid (And.intro hI2 (And.intro hfr hd2))
    clear hfr hd2 hI2
    go_wp2_with fail
    go_ret
    rw [val_5, kys_5, ← HV1.out]
    exact ⟨rfl, D2, by rw [← List.append_assoc]; exact H2.out.1, ((Fr.of_below ((Below.refl _ _).alloc (Nat.le_refl _) _).drew).trans H1.out.2.1 (fun b hb => .inl hb)).trans H2.out.2.1 (fun b hb => (H1.out.2.2 b hb).imp id (fun h => by simp at h; omega)), fun b hb => by
      rcases H2.out.2.2 b hb with h | h
      · exact (H1.out.2.2 b h).imp id (fun h => by simp at h; omega)
      · have := H1.out.2.1.size; simp at this; exact .inr (by omega)⟩

theorem reck_all {f : FuncId} {caps : Array Value} {vs : Int → Int} {I : List Int → (Nat → Prop) → World → Prop} (H : Fetcher f caps vs I) : ∀ t, RkT f caps vs I t := T.ind fun k n ps ih => by
  intro w S a c ks D hf
  generalize ht : T.mk k n ps = t at hf ⊢
  revert w S a c ks D
  suffices h : RkT f caps vs I t from fun w S a c ks D => h w S a c ks D hf
  refine T.cases_fit (P := fun t => RkT f caps vs I t) t hf ?_ ?_ ?_ ?_ ?_ ?_
  · rintro n _ _ rfl; exact reck_0 H n
  · rintro n a0 a1 rfl; exact reck_1 H n a0 a1
  · rintro a b ha hb rfl; injection ht with _ _ hps; subst hps; exact reck_2 H a b ha hb (ih a (by simp)) (ih b (by simp))
  · rintro a b ha hb rfl; injection ht with _ _ hps; subst hps; exact reck_3 H a b ha hb (ih a (by simp)) (ih b (by simp))
  · rintro a b c ha hb hc rfl; injection ht with _ _ hps; subst hps; exact reck_4 H a b c ha hb hc (ih a (by simp)) (ih b (by simp)) (ih c (by simp))
  · rintro n a a0 a1 ha rfl; injection ht with _ _ hps; subst hps; exact reck_5 H n a a0 a1 ha (ih a (by simp))
end Go.Proofs.Ytochgmbeomfkpaa
/- the closure of impl.fetchFrom fetches; impl.TaskValue, spec.TaskValue -/
namespace Go.Proofs.Ytochgmbeomfkpaa
open Go.RowKit

/-- The values lie in memory, and the closure's block holds their slice; nothing turns. -/
def FromI (S : Nat → Prop) (lv : List Int) (a : Option Addr) (c g : Nat) (_ : List Int) (D : Nat → Prop) (w : World) : Prop :=
  (∀ b, ¬ D b) ∧ IntsAt w S lv a c ∧ Blk w g 26 #[.slice a lv.length c]

theorem from_fetcher (S : Nat → Prop) (lv : List Int) (a : Option Addr) (c g : Nat) (hv : vok lv = true) : Fetcher 103 #[.pointer (some ⟨g, 0, none⟩)] (vf lv) (FromI S lv a c g) where
  call := by
    rintro ks D w k h0 h9 _ ⟨hD, hl, hb⟩
    refine (fetch_any w S lv a c g hl hb k h0 (by omega)).mono ?_
    rintro e w' ⟨rfl, rfl⟩
    exact ⟨rfl, D, ⟨hD, hl, hb⟩, .of_below (Below.refl _ _), fun b hb => .inl hb⟩
  below := by
    rintro ks D w w' ⟨hD, hl, hb⟩ h
    exact ⟨hD, hl.below h, hb.below h hb.lt⟩
  bd := vf_bd (vok_mem hv).2
  lt := by
    rintro ks D w ⟨hD, _⟩ b hb
    exact absurd hb (hD b)
  enters := enters_of Try.func103 (by kernel_rfl) rfl

theorem fetchFrom_any (w : World) (n c : Nat) (a : Option Addr) : Calls Try.prog 90 #[.slice a n c] w fun e w' => e = .returned (.func (.func 103) #[] #[.pointer (some ⟨w.heap.size, 0, none⟩)]) ∧ w' = w.alloc (.cells #[.slice a n c] 26) := by
  have hmf : ∀ (fn : Fn) (first cap : Array Value) (w : World), (Instr.makeFunc fn first cap).run Try.prog w = .ok (.func fn first cap) w := fun _ _ _ _ => rfl
  go_enter Try.func90, Try.ntmps90
  go_wp2_with fail
  go_ret
  exact ⟨rfl, rfl⟩

/-- The value of a task with values of keys, 0 if there is none. -/
def tvV (t : T) (lv : List Int) : Int := if (t.ok && vok lv) = true then t.val (vf lv) else 0
def TvPost (t : T) (lv : List Int) (w : World) (e : Ending) (w' : World) : Prop := e = .returned (.tuple #[.int .i64 (tvV t lv), .bool (t.ok && vok lv)]) ∧ Below w.heap.size w w'

theorem Fr.below {D : Nat → Prop} {w w' : World} (h : Fr D w w') (hD : ∀ b, ¬ D b) : Below w.heap.size w w' := ⟨h.1, h.2.1, h.2.2.1, h.2.2.2.1, fun b hb => h.2.2.2.2 b hb (hD b)⟩

end Go.Proofs.Ytochgmbeomfkpaa
/- spec.TaskValue; toIntS -/
namespace Go.Proofs.Ytochgmbeomfkpaa
open Go.RowKit

/-- toIntS: the same numbers in memory of its own. -/
def CopiedI (l : List Int) (w : World) (e : Ending) (w' : World) : Prop := ∃ (a : Option Addr) (c : Nat), e = .returned (.slice a l.length c) ∧ IntsAt w' (fun b => w.heap.size ≤ b) l a c ∧ Below w.heap.size w w'

/-- A block with n numbers, of which the first are those of l. -/
def IRow (w : World) (g n : Nat) (l : List Int) : Prop := ∃ cs : Array Value, Blk w g 3 cs ∧ cs.size = n ∧ ∀ i (h : i < l.length), cs[i]? = some (.int .i64 l[i])

theorem copyI_any (w : World) (S : Nat → Prop) (l : List Int) (a : Option Addr) (c : Nat) (h : IntsAt w S l a c) (hle : l.length ≤ 1048576) :
    Calls Try.prog 9 #[.slice a l.length c] w (CopiedI l w) := by
  have H := Lib.hid h
  obtain ⟨i0, hi, hz0, hz1, hz2⟩ := info_parts infoInt
  have hmk := fun W => run_make_rowN (P := Try.prog) 26 3 i0 _ Try.underlying26 hi hz0 .i64 .i64 l.length l.length (Nat.le_refl _) (by rw [hz2]; omega) (by omega) W
  rw [hz1] at hmk
  clear h
  go_enter Try.func9, Try.ntmps9
  go_wp2_with fail
  clear hmk
  have hm1 : (madeCells #[Value.int IntKind.i64 0] l.length).size = l.length := by rw [size_madeCells]
  have HI0 := Lib.hid (show IRow (w.alloc (.cells (madeCells #[Value.int IntKind.i64 0] l.length) 3)) w.heap.size l.length [] from ⟨_, heap_alloc_new w _, hm1, by simp⟩)
  clear hm1
  go_loopw [4] (fun i wr => ∃ k : Nat, k ≤ l.length ∧ i = .int .i64 k ∧ IRow wr w.heap.size l.length (l.take k) ∧ Below w.heap.size w wr) (fun i _ => l.length - (intOf i).toNat)
  case atStart => exact ⟨0, by omega, rfl, by simpa using HI0.out, (Below.refl _ _).alloc (Nat.le_refl _) _⟩
  case round =>
    obtain ⟨k, hk, rfl, hr, hb⟩ := hrel
    have HB := Lib.hid hb
    have HR := Lib.hid hr
    clear hb HI0
    by_cases hlt : k < l.length
    · obtain ⟨b, o, rfl, hbl, _, hc⟩ := H.out.get HB.out hlt
      obtain ⟨cs, hbk, hcs, hcl⟩ := hr
      have hf := hbk.frozen k
      have hx : wr.cell? ⟨w.heap.size, k, none⟩ = some (cs[k]'(by omega)) := by rw [hbk.cell k]; simp
      obtain ⟨y, hy⟩ : ∃ y, y = cs[k]'(by omega) := ⟨_, rfl⟩
      rw [← hy] at hx
      have hset := hbk.set_ k (.int .i64 l[k])
      have HN := Lib.hid (show IRow (wr.setCell ⟨w.heap.size, k, none⟩ (.int .i64 l[k])) w.heap.size l.length (l.take (k + 1)) from ⟨_, hset, by simp [hcs], fun i hi => by
        have hi' : i < k + 1 ∧ i < l.length := by rw [List.length_take] at hi; omega
        by_cases hik : i = k
        · subst hik
          simp [Array.getElem?_setIfInBounds, hcs]
          omega
        · have := hcl i (by simp; omega)
          simp only [List.getElem_take] at this ⊢
          simp [Array.getElem?_setIfInBounds, this]
          omega⟩)
      have HB' := Lib.hid (HB.out.setCell (p := ⟨w.heap.size, k, none⟩) (Nat.le_refl _) (.int .i64 l[k]))
      clear hset hcl hbk hcs hy
      obtain ⟨x, hxe⟩ : ∃ x, x = l[k] := ⟨_, rfl⟩
      rw [← hxe] at hc HN HB'
      clear hxe
      go_wp2_with fail
      go_roundw
      case rel => exact ⟨k + 1, by omega, by go_num, HN.out, HB'.out⟩
      case measure => simp [intOf]; omega
    · have hq : l.take k = l := List.take_of_length_le (by omega)
      rw [hq] at HR
      clear hq hr
      go_wp2_with fail
      go_ret
      obtain ⟨cs, hbk, hcs, hcl⟩ := HR.out
      exact ⟨_, _, rfl, ⟨Nat.le_refl _, by omega, H.out.2.2.1, .inr ⟨w.heap.size, 0, rfl, Nat.le_refl _, fun i hi => by rw [Nat.zero_add, hbk.cell i]; exact hcl i hi⟩⟩, HB.out⟩
end Go.Proofs.Ytochgmbeomfkpaa
/- append onto a row of the call's own, told where the row lies behind it -/
namespace Go.Proofs.Ytochgmbeomfkpaa
open Go.RowKit

theorem ownsRow_low {w : World} {b b' : Nat} {e : TypeId} {size : Nat} {v : Value} {n : Nat} {xs : List Value} (h : w.ownsRow b e size v n xs) (hb : b' ≤ b) : w.ownsRow b' e size v n xs := by
  refine ⟨h.1, ?_⟩
  rcases h.2 with h | ⟨g, cap, cur, h1, h2, h3⟩
  · exact .inl h
  · exact .inr ⟨g, cap, cur, h1, by omega, h3⟩

theorem own_some {w : World} {b : Nat} {e : TypeId} {size : Nat} {v : Value} {n : Nat} {xs : List Value} (h : w.ownsRow b e size v n xs) (hn : 0 < n) : ∃ g cap, v = .slice (some ⟨g, 0, none⟩) n cap := by
  obtain ⟨_, ⟨_, h0⟩ | ⟨g, cap, cur, h1, _⟩⟩ := h
  · omega
  · exact ⟨g, cap, h1⟩

theorem wpList_append_row {P : Program} (w : World) {ops : Array Oper} {rest : List Oper} {o : Oper} {a : Act} {Q : Exit → Act → World → Prop}
    (hg : o.guard = none) (s x : Operand) (t : TypeId) (hop : o.op = Op.call { callee := Callee.builtin Builtin.append, args := #[s, x], argTypes := #[t, t] })
    (base : Nat) (e : TypeId) (i : TypeInfo) (z : Value) (size bytes : Nat) (h1 : P.underlying t = some (.slice e)) (h2 : P.info? e = some i) (h3 : i.zero = some z) (h4 : i.size = size) (h5 : i.bytes = bytes) (h6 : z.cells.size = size) (h7 : 0 < size)
    (v : Value) (n : Nat) (xs : List Value) (hs : a.eval s = v) (hown : w.ownsRow base e size v n xs)
    (ad : Addr) (m c : Nat) (news : List Value) (hx : a.eval x = .slice (some ad) m c) (hn : news.length = m * size) (hc : ∀ j u, news[j]? = some u → w.cell? (ad.add j) = some u) (h1c : ∀ u ∈ news, u.oneCell' = true) (hm : 0 < m)
    (b1 : n + m ≤ maxLen) (b2 : (n + m) * bytes ≤ 140737488355328) (hbase : base ≤ w.heap.size)
    (hK : ∀ v' w', w'.ownsRow base e size v' (n + m) (xs ++ news) → w.grownBy w' v.ownBlock → (∀ b, v'.ownBlock = some b → v.ownBlock = some b ∨ w.heap.size ≤ b) → wpList P ops Q rest (a.put o.dst v') w') : wpList P ops Q (o :: rest) a w := by
  have hown0 := hown
  obtain ⟨hl, ⟨rfl, rfl⟩ | ⟨g, cap, cur, rfl, hb, hh, hnc, hcm, hz, ht⟩⟩ := hown
  · obtain rfl : xs = [] := List.length_eq_zero_iff.1 (by simpa using hl)
    refine wpList_append_grows w hg s x t hop e i z size bytes h1 h2 h3 h4 h5 h6 h7 none 0 0 [] hs (fun _ => ⟨rfl, rfl⟩) (by simp) (by intro b hb; cases hb) ad m c news hx hn hc h1c (by omega) b1 b2 ?_
    intro v' w' hr hgr
    exact hK v' w' (ownsRow_low hr hbase) hgr (fun b hb => .inr (own_ge hr b hb))
  · by_cases hf : n + m ≤ cap
    · refine wpList_append_fits w hg s x t hop base e i size h1 h2 h4 g n cap xs hs hown0 ad m c news hx hn hc h1c hf ?_
      intro w' hr hgr
      exact hK _ w' hr hgr (fun b hb => .inl (by simpa [Value.ownBlock] using hb))
    · refine wpList_append_grows w hg s x t hop e i z size bytes h1 h2 h3 h4 h5 h6 h7 (some ⟨g, 0, none⟩) n cap xs hs (fun h => by cases h) hl (fun b hb => by
        obtain rfl : (⟨g, 0, none⟩ : Addr) = b := by simpa using hb
        exact hown0.cells rfl) ad m c news hx hn hc h1c (by omega) b1 b2 ?_
      intro v' w' hr hgr
      exact hK v' w' (ownsRow_low hr hbase) ⟨hgr.os, hgr.tape, hgr.output, hgr.size, fun i hi _ => hgr.block i hi (by simp)⟩ (fun b hb => .inr (own_ge hr b hb))
end Go.Proofs.Ytochgmbeomfkpaa
/- markTask: a task in memory of its own is marked; toTask once more, with what marking needs -/
namespace Go.Proofs.Ytochgmbeomfkpaa
open Go.RowKit

/-- Blocks that meet F hold tasks: two numbers in each three cells. -/
def TWf (w : World) (F : Nat → Prop) : Prop := ∀ b, F b → ∃ (cs : Array Value) (m : Nat), Blk w b 71 cs ∧ cs.size = 3 * m ∧ ∀ i, i < m → (∃ x, cs[3 * i]? = some (.int .i64 x)) ∧ (∃ x, cs[3 * i + 1]? = some (.int .i64 x))

mutual
def ShC (w : World) (F : Nat → Prop) : T → Nat → Nat → Prop
  | .mk _ _ ps, b, o => ∃ a c, w.cell? ⟨b, o + 2, none⟩ = some (.slice a ps.length c) ∧ ps.length ≤ c ∧ c ≤ 9223372036854775807 ∧ (ps = [] ∨ ∃ g, a = some ⟨g, 0, none⟩ ∧ F g ∧ ShL w F ps g 0)
def ShL (w : World) (F : Nat → Prop) : List T → Nat → Nat → Prop
  | [], _, _ => True
  | t :: r, b, o => ShC w F t b o ∧ ShL w F r b (o + 3)
end
/-- The slice has the shape of the tasks ps, in blocks that meet F. -/
def ShS (w : World) (F : Nat → Prop) (ps : List T) (a : Option Addr) (c : Nat) : Prop :=
  ps.length ≤ c ∧ c ≤ 9223372036854775807 ∧ (ps = [] ∨ ∃ g, a = some ⟨g, 0, none⟩ ∧ F g ∧ ShL w F ps g 0)
theorem ShC.iff {w : World} {F : Nat → Prop} {t : T} {b o : Nat} : ShC w F t b o ↔ ∃ a c, w.cell? ⟨b, o + 2, none⟩ = some (.slice a t.ps.length c) ∧ ShS w F t.ps a c := by
  cases t; simp only [ShC, ShS, T.ps]

mutual
theorem ShC.keep {w w' : World} {F F' : Nat → Prop} (hF : ∀ b, F b → F' b) (hk : ∀ b o, F b → o % 3 = 2 → ∀ v, w.cell? ⟨b, o, none⟩ = some v → w'.cell? ⟨b, o, none⟩ = some v) :
    ∀ (t : T) (b o : Nat), F b → o % 3 = 0 → ShC w F t b o → ShC w' F' t b o
  | .mk k n ps, b, o, hb, ho, h => by
    simp only [ShC] at h ⊢
    obtain ⟨a, c, h1, h2, h3, h4⟩ := h
    refine ⟨a, c, hk b (o + 2) hb (by omega) _ h1, h2, h3, ?_⟩
    rcases h4 with h4 | ⟨g, ha, hg, hl⟩
    · exact .inl h4
    · exact .inr ⟨g, ha, hF g hg, ShL.keep hF hk ps g 0 hg rfl hl⟩
theorem ShL.keep {w w' : World} {F F' : Nat → Prop} (hF : ∀ b, F b → F' b) (hk : ∀ b o, F b → o % 3 = 2 → ∀ v, w.cell? ⟨b, o, none⟩ = some v → w'.cell? ⟨b, o, none⟩ = some v) :
    ∀ (ps : List T) (b o : Nat), F b → o % 3 = 0 → ShL w F ps b o → ShL w' F' ps b o
  | [], _, _, _, _, _ => by simp [ShL]
  | t :: r, b, o, hb, ho, h => by
    simp only [ShL] at h ⊢
    exact ⟨ShC.keep hF hk t b o hb ho h.1, ShL.keep hF hk r b (o + 3) hb (by omega) h.2⟩
end
theorem ShS.keep {w w' : World} {F F' : Nat → Prop} {ps : List T} {a : Option Addr} {c : Nat} (hF : ∀ b, F b → F' b) (hk : ∀ b o, F b → o % 3 = 2 → ∀ v, w.cell? ⟨b, o, none⟩ = some v → w'.cell? ⟨b, o, none⟩ = some v) (h : ShS w F ps a c) : ShS w' F' ps a c := by
  obtain ⟨h1, h2, h3⟩ := h
  refine ⟨h1, h2, ?_⟩
  rcases h3 with h3 | ⟨g, ha, hg, hl⟩
  · exact .inl h3
  · exact .inr ⟨g, ha, hF g hg, ShL.keep hF hk ps g 0 hg rfl hl⟩
theorem ShL.get {w : World} {F : Nat → Prop} : ∀ {ps : List T} {b o : Nat}, ShL w F ps b o → ∀ i (h : i < ps.length), ShC w F ps[i] b (o + i * 3)
  | [], _, _, _, _, h => by simp at h
  | t :: r, b, o, hl, 0, _ => by simpa using hl.1
  | t :: r, b, o, hl, i + 1, h => by
    have := ShL.get (ps := r) hl.2 i (by simpa using h)
    rw [show o + (i + 1) * 3 = o + 3 + i * 3 by omega]
    simpa using this
theorem ShL.snoc {w : World} {F : Nat → Prop} : ∀ {ps : List T} {b o : Nat} {t : T}, ShL w F ps b o → ShC w F t b (o + 3 * ps.length) → ShL w F (ps ++ [t]) b o
  | [], b, o, t, _, ht => by simpa [ShL] using ht
  | u :: r, b, o, t, h, ht => by
    simp only [List.cons_append, ShL] at h ⊢
    exact ⟨h.1, ShL.snoc h.2 (by rw [show o + 3 + 3 * r.length = o + 3 * (u :: r).length by simp; omega]; exact ht)⟩

/-- Only numbers in blocks that meet F have turned. -/
def ThS (F : Nat → Prop) (w w' : World) : Prop := Fr F w w' ∧ (∀ b o, F b → o % 3 = 2 → ∀ v, w.cell? ⟨b, o, none⟩ = some v → w'.cell? ⟨b, o, none⟩ = some v) ∧ TWf w' F
theorem ThS.trans {F : Nat → Prop} {w w1 w2 : World} (h : ThS F w w1) (k : ThS F w1 w2) : ThS F w w2 :=
  ⟨h.1.trans k.1 (fun _ hb => .inl hb), fun b o hb ho v hv => k.2.1 b o hb ho v (h.2.1 b o hb ho v hv), k.2.2⟩
theorem TWf.below {w w' : World} {F : Nat → Prop} (h : TWf w F) (hb : Below w.heap.size w w') : TWf w' F := by
  intro b hF
  obtain ⟨cs, m, h1, h2⟩ := h b hF
  exact ⟨cs, m, h1.below hb h1.lt, h2⟩
theorem TWf.set {w : World} {F : Nat → Prop} (h : TWf w F) (g j : Nat) (x : Int) : TWf (w.setCell ⟨g, j, none⟩ (.int .i64 x)) F := by
  intro b hF
  obtain ⟨cs, m, h1, h2, h3⟩ := h b hF
  by_cases hbg : b = g
  · subst hbg
    refine ⟨_, m, h1.set_ j (.int .i64 x), by simp [h2], fun i hi => ?_⟩
    obtain ⟨⟨y, hy⟩, ⟨z, hz⟩⟩ := h3 i hi
    constructor
    · rw [Array.getElem?_setIfInBounds]
      by_cases he : j = 3 * i
      · rw [if_pos he, if_pos (by omega)]; exact ⟨x, rfl⟩
      · rw [if_neg he]; exact ⟨y, hy⟩
    · rw [Array.getElem?_setIfInBounds]
      by_cases he : j = 3 * i + 1
      · rw [if_pos he, if_pos (by omega)]; exact ⟨x, rfl⟩
      · rw [if_neg he]; exact ⟨z, hz⟩
  · exact ⟨cs, m, h1.far (by simpa using hbg) _, h2, h3⟩
theorem ThS.set {w w' : World} {F : Nat → Prop} (h : ThS F w w') (g j : Nat) (hg : F g) (hj : j % 3 ≠ 2) (x : Int) : ThS F w (w'.setCell ⟨g, j, none⟩ (.int .i64 x)) := by
  refine ⟨⟨h.1.1, h.1.2.1, h.1.2.2.1, by simpa [World.setCell] using h.1.2.2.2.1, fun b hb hn => ?_⟩, fun b o hb ho v hv => ?_, h.2.2.set g j x⟩
  · rw [Below.heap_setCell _ _ _ _ (by simp; rintro rfl; exact hn hg)]
    exact h.1.2.2.2.2 b hb hn
  · rw [World.cell?_setCell_other _ _ _ _ (by intro e; injection e with e1 e2; omega)]
    exact h.2.1 b o hb ho v hv
theorem ThS.refl {F : Nat → Prop} {w : World} (h : TWf w F) : ThS F w w := ⟨.of_below (Below.refl _ _), fun _ _ _ _ _ hv => hv, h⟩
theorem ThS.below {F : Nat → Prop} {w w' : World} (h : TWf w F) (hb : Below w.heap.size w w') : ThS F w w' :=
  ⟨.of_below hb, fun b o hF _ v hv => by
    obtain ⟨cs, m, h1, _⟩ := h b hF
    exact (hb.cell (p := ⟨b, o, none⟩) h1.lt).trans hv, h.below hb⟩

def MkS (ps : List T) : Prop := ∀ (w : World) (F : Nat → Prop) (a : Option Addr) (c k : Nat), ShS w F ps a c → TWf w F → k + 2 * nodesL ps ≤ 100000000 →
  Calls Try.prog 41 #[.slice a ps.length c, .int .i64 k] w fun e w' => e = .returned (.int .i64 ((k + 2 * nodesL ps : Nat) : Int)) ∧ ThS F w w'

set_option maxHeartbeats 1000000 in
theorem mkS_of (ps : List T) (hT : ∀ t ∈ ps, MkS t.ps) : MkS ps := by
  intro w F a c k hsh hwf hk
  have HT := Lib.hid hT
  have HSH := Lib.hid hsh
  have HW := Lib.hid hwf
  have hlen : ps.length ≤ 100000000 := by have := nodesL_ge ps; omega
  have HK := Lib.hid hk
  clear hT hsh hwf hk
  go_enter Try.func41, Try.ntmps41
  go_wp2_with fail
  go_loopw [1, 5] (fun q i wr => ∃ (j m : Nat), j ≤ ps.length ∧ i = .int .i64 j ∧ q = .int .i64 m ∧ m = k + 2 * nodesL (ps.take j) ∧ ThS F w wr) (fun _ i _ => ps.length - (intOf i).toNat)
  case atStart => exact ⟨0, k, by omega, rfl, rfl, by simp [nodesL], ThS.refl HW.out⟩
  case round =>
    obtain ⟨j, m, hj, rfl, rfl, hm, hth⟩ := hrel
    have HTH := Lib.hid hth
    have HM := Lib.hid hm
    have hmb : m ≤ 100000000 := by have := HK.out; have := nodesL_rest ps j; omega
    clear hth hm
    by_cases hlt : j < ps.length
    · obtain ⟨g, rfl, hg, hl⟩ : ∃ g, a = some ⟨g, 0, none⟩ ∧ F g ∧ ShL w F ps g 0 := by
        rcases HSH.out.2.2 with h | h
        · rw [h] at hlt; simp at hlt
        · exact h
      obtain ⟨a', c', hcell, hsub⟩ := ShC.iff.1 ((ShL.keep (fun _ h => h) HTH.out.2.1 ps g 0 hg rfl hl).get j hlt)
      rw [Nat.zero_add] at hcell
      obtain ⟨cs, mm, hbk, hcs, hints⟩ := HTH.out.2.2 g hg
      have hjm : j < mm := by
        have h := (hbk.cell (j * 3 + 2)).symm.trans hcell
        have : j * 3 + 2 < cs.size := by
          rcases Nat.lt_or_ge (j * 3 + 2) cs.size with h1 | h1
          · exact h1
          · rw [Array.getElem?_eq_none h1] at h; cases h
        omega
      obtain ⟨⟨y0, hy0⟩, ⟨y1, hy1⟩⟩ := hints j hjm
      have x0 : wr.cell? ⟨g, j * 3, none⟩ = some (.int .i64 y0) := by rw [hbk.cell (j * 3), show j * 3 = 3 * j by omega]; exact hy0
      have x1 : wr.cell? ⟨g, j * 3 + 1, none⟩ = some (.int .i64 y1) := by rw [hbk.cell (j * 3 + 1), show j * 3 + 1 = 3 * j + 1 by omega]; exact hy1
      have f0 := hbk.frozen (j * 3)
      have f1 := hbk.frozen (j * 3 + 1)
      have HTW := Lib.hid ((HTH.out.set g (j * 3) hg (by omega) m).set g (j * 3 + 1) hg (by omega) ((m : Int) + 1))
      have HSUB := Lib.hid hsub
      have hnn := nodesL_snoc ps j hlt
      have hnr := nodesL_rest ps (j + 1)
      have hne := T.nodes_eq ps[j]
      have HN := Lib.hid (And.intro hnn (And.intro hnr hne))
      have hkk := HK.out
      have hmm := HM.out
      have hb2 : m + 2 + 2 * nodesL ps[j].ps ≤ 100000000 := by omega
      have hsum : m + 2 + 2 * nodesL ps[j].ps = k + 2 * nodesL (ps.take (j + 1)) := by omega
      have HSUM := Lib.hid hsum
      clear hsub hbk hcs hints hy0 hy1 hnn hnr hne hkk hmm hsum hl
      go_wp2_with fail
      rw [show (m : Int) + 1 + 1 = ((m + 2 : Nat) : Int) by omega]
      refine (HT.out ps[j] (List.getElem_mem _) _ F a' c' (m + 2) (HSUB.out.keep (fun _ h => h) ?_) HTW.out.2.2 hb2).mono ?_
      · intro b o hF ho v hv
        exact ((ThS.refl HTH.out.2.2).set g (j * 3) hg (by omega) m).set g (j * 3 + 1) hg (by omega) ((m : Int) + 1) |>.2.1 b o hF ho v hv
      rintro e w5 ⟨rfl, hth5⟩
      have H5 := Lib.hid (HTW.out.trans hth5)
      rw [HSUM.out]
      clear hth5 x0 x1 f0 f1 hcell
      go_wp2_with fail
      go_roundw
      case rel => exact ⟨j + 1, _, by omega, by go_num, rfl, rfl, H5.out⟩
      case measure => simp [intOf]; omega
    · have hq : m = k + 2 * nodesL ps := by have := HM.out; rwa [List.take_of_length_le (by omega)] at this
      have HQ := Lib.hid hq
      clear hq
      go_wp2_with fail
      go_ret
      exact ⟨by rw [← HQ.out]; rfl, HTH.out⟩
theorem mkT_all : ∀ t : T, MkS t.ps := T.ind fun _ _ ps ih => mkS_of ps ih

end Go.Proofs.Ytochgmbeomfkpaa
/- toTask once more: with what marking needs -/
namespace Go.Proofs.Ytochgmbeomfkpaa
open Go.RowKit

def CopiedS2 (ps : List T) (w : World) (e : Ending) (w' : World) : Prop := ∃ (a : Option Addr) (c : Nat) (F : Nat → Prop), e = .returned (.slice a ps.length c) ∧ AtS w' F ps a c ∧ ShS w' F ps a c ∧ TWf w' F ∧ (∀ b, F b → w.heap.size ≤ b ∧ b < w'.heap.size) ∧ Below w.heap.size w w'
def CopiedT2 (t : T) (w : World) (e : Ending) (w' : World) : Prop := ∃ (a : Option Addr) (c : Nat) (F : Nat → Prop), e = .returned (.agg #[.int .i64 t.k, .int .i64 t.n, .slice a t.ps.length c]) ∧ AtS w' F t.ps a c ∧ ShS w' F t.ps a c ∧ TWf w' F ∧ (∀ b, F b → w.heap.size ≤ b ∧ b < w'.heap.size) ∧ Below w.heap.size w w'
def CopyS2 (ps : List T) : Prop := ∀ (w : World) (S : Nat → Prop) (a : Option Addr) (c : Nat), AtS w S ps a c → nodesL ps ≤ 1048576 →
  Calls Try.prog 33 #[.slice a ps.length c] w (CopiedS2 ps w)
def CopyT2 (t : T) : Prop := ∀ (w : World) (S : Nat → Prop) (a : Option Addr) (c : Nat), AtS w S t.ps a c → nodesL t.ps ≤ 1048576 →
  Calls Try.prog 62 #[.agg #[.int .i64 t.k, .int .i64 t.n, .slice a t.ps.length c]] w (CopiedT2 t w)

theorem ShL.keepC {w w' : World} {F F' : Nat → Prop} (hF : ∀ b, F b → F' b) (hk : ∀ b o, F b → o % 3 = 2 → ∀ v, w.cell? ⟨b, o, none⟩ = some v → w'.cell? ⟨b, o, none⟩ = some v) :
    ∀ (ps : List T) (b o : Nat), (∀ j, o ≤ j → j < o + 3 * ps.length → w'.cell? ⟨b, j, none⟩ = w.cell? ⟨b, j, none⟩) → ShL w F ps b o → ShL w' F' ps b o
  | [], _, _, _, _ => by simp [ShL]
  | t :: r, b, o, e, h => by
    simp only [ShL] at h ⊢
    refine ⟨?_, ShL.keepC hF hk r b (o + 3) (fun j h1 h2 => e j (by omega) (by simp; omega)) h.2⟩
    obtain ⟨a, c, h1, h2⟩ := ShC.iff.1 h.1
    exact ShC.iff.2 ⟨a, c, (e (o + 2) (by omega) (by simp; omega)).trans h1, h2.keep hF hk⟩

theorem TWf.set2 {w : World} {F : Nat → Prop} (h : TWf w F) (g j : Nat) (hj : j % 3 = 2) (u : Value) : TWf (w.setCell ⟨g, j, none⟩ u) F := by
  intro b hF
  obtain ⟨cs, m, h1, h2, h3⟩ := h b hF
  by_cases hbg : b = g
  · subst hbg
    refine ⟨_, m, h1.set_ j u, by simp [h2], fun i hi => ?_⟩
    obtain ⟨⟨y, hy⟩, ⟨z, hz⟩⟩ := h3 i hi
    rw [Array.getElem?_setIfInBounds, if_neg (by omega), Array.getElem?_setIfInBounds, if_neg (by omega)]
    exact ⟨⟨y, hy⟩, ⟨z, hz⟩⟩
  · exact ⟨cs, m, h1.far (by simpa using hbg) _, h2, h3⟩

/-- Where toTaskS stands: the block g of n tasks, of which the first are ps. -/
def CpRel (w : World) (g n : Nat) (ps : List T) : Prop := ∃ F : Nat → Prop, F g ∧ (∀ b, F b → g ≤ b ∧ b < w.heap.size) ∧ TWf w F ∧ AtL w (fun b => F b ∧ b ≠ g) ps g 0 ∧ ShL w (fun b => F b ∧ b ≠ g) ps g 0 ∧ (∃ cs, Blk w g 71 cs ∧ cs.size = 3 * n) ∧ ps.length ≤ n

theorem CpRel.lt {w : World} {g n : Nat} {ps : List T} (h : CpRel w g n ps) : g < w.heap.size := by
  obtain ⟨F, _, _, _, _, _, ⟨cs, h, _⟩, _⟩ := h; exact h.lt
theorem CpRel.cells {w : World} {g n : Nat} {ps : List T} (h : CpRel w g n ps) (j : Nat) (hj : j < 3 * n) : (∃ v, w.cell? ⟨g, j, none⟩ = some v) ∧ w.frozen? ⟨g, j, none⟩ = false := by
  obtain ⟨F, _, _, _, _, _, ⟨cs, h, hs⟩, _⟩ := h
  exact ⟨⟨cs[j]'(by omega), by rw [h.cell j]; simp⟩, h.frozen j⟩
theorem CpRel.below {w w' : World} {g n : Nat} {ps : List T} (h : CpRel w g n ps) (hb : Below w.heap.size w w') : CpRel w' g n ps := by
  have hg := h.lt
  obtain ⟨F, h1, h2, h3, h4, h5, ⟨cs, h6, h7⟩, h8⟩ := h
  refine ⟨F, h1, fun b hb' => ⟨(h2 b hb').1, Nat.lt_of_lt_of_le (h2 b hb').2 hb.size⟩, h3.below hb, AtL.keep (fun _ h => h) (fun b _ hl => hb.block b hl) _ _ _ (fun _ => hb.block g hg) h4, ?_, ⟨cs, h6.below hb hg, h7⟩, h8⟩
  exact ShL.keepC (fun _ h => h) (fun b o hF _ v hv => (hb.cell (p := ⟨b, o, none⟩) (h2 b hF.1).2).trans hv) _ _ _ (fun j _ _ => hb.cell (p := ⟨g, j, none⟩) hg) h5
theorem cp_start (w : World) (n : Nat) : CpRel (w.alloc (.cells (madeCells #[Value.int IntKind.i64 0, Value.int IntKind.i64 0, Value.slice none 0 0] (n * 3)) 71)) w.heap.size n [] := by
  refine ⟨fun b => b = w.heap.size, rfl, fun b hb => by subst hb; simp, ?_, by simp [AtL], by simp [ShL], ⟨_, heap_alloc_new w _, by rw [size_madeCells]; omega⟩, by simp⟩
  rintro b rfl
  refine ⟨_, n, heap_alloc_new w _, by rw [size_madeCells]; omega, fun i hi => ⟨⟨0, ?_⟩, ⟨0, ?_⟩⟩⟩
  · have : 3 * i < n * 3 := by omega
    simp [madeCells, this]
  · have : 3 * i + 1 < n * 3 := by omega
    simp [madeCells, this, Nat.add_mod]
/-- One more task is stored. -/
theorem CpRel.step {w : World} {g n : Nat} {ps : List T} (h : CpRel w g n ps) (hl : ps.length < n) (t : T) (a : Option Addr) (c : Nat) (F2 : Nat → Prop) (ok1 : i64ok t.k) (ok2 : i64ok t.n) (hat : AtS w F2 t.ps a c) (hsh : ShS w F2 t.ps a c) (hwf : TWf w F2) (hF2 : ∀ b, F2 b → g < b ∧ b < w.heap.size) :
    CpRel (((w.setCell ⟨g, ps.length * 3, none⟩ (.int .i64 t.k)).setCell ⟨g, ps.length * 3 + 1, none⟩ (.int .i64 t.n)).setCell ⟨g, ps.length * 3 + 2, none⟩ (.slice a t.ps.length c)) g n (ps ++ [t]) := by
  obtain ⟨F, h1, h2, h3, h4, h5, ⟨cs, h6, h7⟩, h8⟩ := h
  have hT : TWf w (fun b => F b ∨ F2 b) := fun b hb => hb.elim (h3 b) (hwf b)
  have hT' := ((hT.set g (ps.length * 3) t.k).set g (ps.length * 3 + 1) t.n).set2 g (ps.length * 3 + 2) (by omega) (.slice a t.ps.length c)
  have hblk := ((h6.set_ (ps.length * 3) (.int .i64 t.k)).set_ (ps.length * 3 + 1) (.int .i64 t.n)).set_ (ps.length * 3 + 2) (.slice a t.ps.length c)
  have hsz : (((w.setCell ⟨g, ps.length * 3, none⟩ (.int .i64 t.k)).setCell ⟨g, ps.length * 3 + 1, none⟩ (.int .i64 t.n)).setCell ⟨g, ps.length * 3 + 2, none⟩ (.slice a t.ps.length c)).heap.size = w.heap.size := by simp [World.setCell]
  have ho : ∀ b, b ≠ g → (((w.setCell ⟨g, ps.length * 3, none⟩ (.int .i64 t.k)).setCell ⟨g, ps.length * 3 + 1, none⟩ (.int .i64 t.n)).setCell ⟨g, ps.length * 3 + 2, none⟩ (.slice a t.ps.length c)).heap[b]? = w.heap[b]? := by
    intro b hb
    rw [Below.heap_setCell _ _ _ _ (by simpa using hb), Below.heap_setCell _ _ _ _ (by simpa using hb), Below.heap_setCell _ _ _ _ (by simpa using hb)]
  have hc := fun m => hblk.cell m
  have hold : ∀ m, w.cell? ⟨g, m, none⟩ = cs[m]? := fun m => h6.cell m
  generalize (((w.setCell ⟨g, ps.length * 3, none⟩ (.int .i64 t.k)).setCell ⟨g, ps.length * 3 + 1, none⟩ (.int .i64 t.n)).setCell ⟨g, ps.length * 3 + 2, none⟩ (.slice a t.ps.length c)) = w' at *
  have hcells : ∀ m, m < 3 * ps.length → w'.cell? ⟨g, m, none⟩ = w.cell? ⟨g, m, none⟩ := by
    intro m hm
    rw [hc m, hold m]
    simp only [Array.getElem?_setIfInBounds]
    rw [if_neg (by omega), if_neg (by omega), if_neg (by omega)]
  have hinner : ∀ b o v, b ≠ g → w.cell? ⟨b, o, none⟩ = some v → w'.cell? ⟨b, o, none⟩ = some v := fun b o v hb hv => (World.cell?_of_block (w := w) (a := ⟨b, o, none⟩) (ho b hb)).trans hv
  refine ⟨fun b => F b ∨ F2 b, .inl h1, fun b hb => ?_, hT', ?_, ?_, ⟨_, hblk, by simp; omega⟩, by simp; omega⟩
  · rw [hsz]
    rcases hb with hb | hb
    · exact h2 b hb
    · have := hF2 b hb; omega
  · refine AtL.snoc (AtL.keepC (fun b hb => ⟨.inl hb.1, hb.2⟩) (fun b hb _ => ho b hb.2) ps g 0 (fun m _ hm => hcells m (by omega)) h4) ?_
    rw [show 0 + 3 * ps.length = ps.length * 3 by omega]
    refine AtC.mk ok1 ok2 ?_ ?_ ?_ (hat.keep (fun b hb => ⟨.inr hb, by have := hF2 b hb; omega⟩) (fun b hb _ => ho b (by have := hF2 b hb; omega)))
    · rw [hc _, Array.getElem?_setIfInBounds, if_neg (by omega), Array.getElem?_setIfInBounds, if_neg (by omega), Array.getElem?_setIfInBounds, if_pos rfl, if_pos (by omega)]
    · rw [hc _, Array.getElem?_setIfInBounds, if_neg (by omega), Array.getElem?_setIfInBounds, if_pos rfl, if_pos (by simp; omega)]
    · rw [hc _, Array.getElem?_setIfInBounds, if_pos rfl, if_pos (by simp; omega)]
  · refine ShL.snoc (ShL.keepC (fun b hb => ⟨.inl hb.1, hb.2⟩) (fun b o hb _ v hv => hinner b o v hb.2 hv) ps g 0 (fun m _ hm => hcells m (by omega)) h5) ?_
    rw [show 0 + 3 * ps.length = ps.length * 3 by omega]
    refine ShC.iff.2 ⟨a, c, ?_, hsh.keep (fun b hb => ⟨.inr hb, by have := hF2 b hb; omega⟩) (fun b o hb _ v hv => hinner b o v (by have := hF2 b hb; omega) hv)⟩
    rw [hc _, Array.getElem?_setIfInBounds, if_pos rfl, if_pos (by simp; omega)]
theorem CpRel.done {w wr : World} {ps : List T} (h : CpRel wr w.heap.size ps.length ps) (hl : ps.length ≤ 9223372036854775807) (hb : Below w.heap.size w wr) : CopiedS2 ps w (.returned (.slice (some ⟨w.heap.size, 0, none⟩) ps.length ps.length)) wr := by
  obtain ⟨F, h1, h2, h3, h4, h5, _, _⟩ := h
  exact ⟨_, _, F, rfl, ⟨Nat.le_refl _, hl, .inr ⟨w.heap.size, 0, rfl, h1, AtL.keepC (fun _ h => h.1) (fun _ _ _ => rfl) _ _ _ (fun _ _ _ => rfl) h4⟩⟩,
    ⟨Nat.le_refl _, hl, .inr ⟨w.heap.size, rfl, h1, ShL.keepC (fun _ h => h.1) (fun _ _ _ _ _ h => h) _ _ _ (fun _ _ _ => rfl) h5⟩⟩, h3, h2, hb⟩

theorem copyT2_of (t : T) (hS : CopyS2 t.ps) : CopyT2 t := by
  intro w S a c hat hle
  have H := Lib.hid hS
  have HA := Lib.hid hat
  have HL := Lib.hid hle
  clear hS hat hle
  go_enter Try.func62, Try.ntmps62
  go_wp2_with fail
  refine (H.out _ S a c ?_ HL.out).mono ?_
  · exact ((HA.out.alloc _).alloc _).alloc _
  rintro e w1 ⟨a', c', F, rfl, hat, hsh, hwf, hF, hb⟩
  obtain ⟨hc, hf⟩ := bcell hb
  have hz : w.heap.size + 1 + 1 < w1.heap.size := by have := hb.size; simp at this; omega
  have hz1 : w.heap.size + 1 < w1.heap.size := by omega
  have hz0 : w.heap.size < w1.heap.size := by omega
  simp only [World.size_alloc] at hc hf
  have HB := Lib.hid hb
  simp only [World.size_alloc] at hF
  have HAT := Lib.hid (And.intro hat (And.intro hsh (And.intro hwf hF)))
  clear hb hat hsh hwf hF
  go_wp2_with fail
  refine bodyPost_ret (v := .agg #[.int .i64 t.k, .int .i64 t.n, .slice a' t.ps.length c']) (by simp [results, Try.results62, go_sem, hc]) rfl ?_
  have hF := HAT.out.2.2.2
  have hF0 : ∀ b, F b → w.heap.size + 2 < b := fun b hb => by have := hF b hb; omega
  refine ⟨a', c', F, rfl, ?_, ?_, ?_, ?_, ?_⟩
  · exact ((((HAT.out.1.setCell (by intro b hb; have := hF0 b hb; simp; omega) _).setCell (by intro b hb; have := hF0 b hb; simp; omega) _).setCell (by intro b hb; have := hF0 b hb; simp; omega) _).setCell (by intro b hb; have := hF0 b hb; simp; omega) _)
  · refine HAT.out.2.1.keep (fun _ h => h) (fun b o hb _ v hv => ?_)
    have := hF0 b hb
    repeat rw [World.cell?_setCell_other _ _ _ _ (by intro e; injection e with e1 e2; omega)]
    exact hv
  · intro b hb
    have := hF0 b hb
    obtain ⟨cs, m, h1, h2⟩ := HAT.out.2.2.1 b hb
    exact ⟨cs, m, (((h1.far (by simp; omega) _).far (by simp; omega) _).far (by simp; omega) _).far (by simp; omega) _, h2⟩
  · intro b hb
    have := hF b hb
    simp [World.setCell]
    omega
  · exact (((((((((Below.refl _ _).alloc (Nat.le_refl _) _).alloc (by simp) _).alloc (by simp; omega) _).trans (HB.out.mono (by simp; omega))).setCell (by simp; omega) _).setCell (by simp) _).setCell (by simp) _).setCell (by simp) _)

theorem copyS2_of (ps : List T) (hT : ∀ t ∈ ps, CopyT2 t) : CopyS2 ps := by
  intro w S a c hat hle
  have H := Lib.hid hT
  have HA := Lib.hid hat
  have HL := Lib.hid hle
  have hlen : ps.length ≤ 1048576 := by have := nodesL_ge ps; omega
  clear hT hat hle
  obtain ⟨i0, hi, hz0, hz1, hz2⟩ := info_parts infoTask
  have hmk := fun W => run_make_rowN (P := Try.prog) 30 71 i0 _ Try.underlying30 hi hz0 .i64 .i64 ps.length ps.length (Nat.le_refl _) (by rw [hz2]; omega) (by omega) W
  rw [hz1] at hmk
  go_enter Try.func33, Try.ntmps33
  go_wp2_with fail
  clear hmk
  have hc0 := cp_start w ps.length
  have HC0 := Lib.hid hc0
  clear hc0
  go_loopw [4] (fun i wr => ∃ k : Nat, k ≤ ps.length ∧ i = .int .i64 k ∧ CpRel wr w.heap.size ps.length (ps.take k) ∧ Below w.heap.size w wr) (fun i _ => ps.length - (intOf i).toNat)
  case atStart => exact ⟨0, by omega, rfl, by simpa using HC0.out, (Below.refl _ _).alloc (Nat.le_refl _) _⟩
  case round =>
    obtain ⟨k, hk, rfl, hp, hb⟩ := hrel
    have HB := Lib.hid hb
    have HP := Lib.hid hp
    clear hb hp HC0
    by_cases hlt : k < ps.length
    · obtain ⟨b, o, a', c', rfl, hbl, _, e0, e1, e2, hs, ok1, ok2⟩ := HA.out.elem HB.out hlt
      have HS' := Lib.hid hs
      have hnn := nodesL_snoc ps k hlt
      have hnr := nodesL_rest ps (k + 1)
      have hn1 := T.nodes_eq ps[k]
      have hle := HL.out
      have hpl : nodesL ps[k].ps ≤ 1048576 := by omega
      have HOK := Lib.hid (And.intro ok1 ok2)
      clear hs hnn hnr hn1 hle ok1 ok2
      go_wp2_with fail
      refine (H.out ps[k] (List.getElem_mem _) _ S a' c' HS'.out hpl).mono ?_
      rintro e w1 ⟨a2, c2, F2, rfl, hat, hsh, hwf, hF, hb⟩
      have hp1 := HP.out.below hb
      have hlk : (ps.take k).length = k := by simp; omega
      obtain ⟨⟨y0, hy0⟩, f0⟩ := hp1.cells (k * 3) (by omega)
      obtain ⟨⟨y1, hy1⟩, f1⟩ := hp1.cells (k * 3 + 1) (by omega)
      obtain ⟨⟨y2, hy2⟩, f2⟩ := hp1.cells (k * 3 + 2) (by omega)
      have hglt := HP.out.lt
      have hsn := hp1.step (by omega) ps[k] a2 c2 F2 HOK.out.1 HOK.out.2 hat hsh hwf (fun b hb => by have := hF b hb; omega)
      rw [hlk, ← List.take_succ_eq_append_getElem hlt] at hsn
      have HSN := Lib.hid hsn
      have HB' := Lib.hid (((((HB.out.trans (hb.mono HB.out.size)).setCell (p := ⟨w.heap.size, k * 3, none⟩) (Nat.le_refl _) (.int .i64 ps[k].k)).setCell (p := ⟨w.heap.size, k * 3 + 1, none⟩) (Nat.le_refl _) (.int .i64 ps[k].n)).setCell (p := ⟨w.heap.size, k * 3 + 2, none⟩) (Nat.le_refl _) (.slice a2 ps[k].ps.length c2)))
      clear hb hat hsh hwf hF hp1 hsn hglt hlk
      go_wp2_with fail
      go_roundw
      case rel => exact ⟨k + 1, by omega, by go_num, HSN.out, HB'.out⟩
      case measure => simp [intOf]; omega
    · have hk' : k = ps.length := by omega
      have hq := HP.out
      rw [hk', List.take_of_length_le (Nat.le_refl _)] at hq
      have HQ := Lib.hid hq
      clear hk' hq
      go_wp2_with fail
      go_ret
      exact HQ.out.done (by omega) HB.out

theorem copyT2_all : ∀ t, CopyT2 t := T.ind fun k n ps ih => copyT2_of (.mk k n ps) (copyS2_of ps ih)
end Go.Proofs.Ytochgmbeomfkpaa
/- lists of one-cell elements in memory: truths, pointers -/
namespace Go.Proofs.Ytochgmbeomfkpaa
open Go.RowKit

/-- The slice value '.slice a l.length c' has the elements l, each told by f, in a block that meets S. -/
def ElAt {α : Type} (f : α → Value) (w : World) (S : Nat → Prop) (l : List α) (a : Option Addr) (c : Nat) : Prop :=
  l.length ≤ c ∧ c ≤ 9223372036854775807 ∧ (l = [] ∨ ∃ b o, a = some ⟨b, o, none⟩ ∧ S b ∧ ∀ i (h : i < l.length), w.cell? ⟨b, o + i, none⟩ = some (f l[i]))

section
variable {α : Type} {f : α → Value} {w w' : World} {S S' : Nat → Prop} {l : List α} {a : Option Addr} {c : Nat}
theorem ElAt.keep (hS : ∀ b, S b → S' b) (hk : ∀ b, S b → b < w.heap.size → w'.heap[b]? = w.heap[b]?) (h : ElAt f w S l a c) : ElAt f w' S' l a c := by
  obtain ⟨h1, h2, h4⟩ := h
  refine ⟨h1, h2, ?_⟩
  rcases h4 with h4 | ⟨b, o, ha, hb, hc⟩
  · exact .inl h4
  · refine .inr ⟨b, o, ha, hS b hb, fun i hi => ?_⟩
    have := hc i hi
    exact (World.cell?_of_block (w := w) (hk b hb (cell_lt this))).trans this
theorem ElAt.below (h : ElAt f w S l a c) (hb : Below w.heap.size w w') : ElAt f w' S l a c := h.keep (fun _ h => h) (fun b _ hl => hb.block b hl)
theorem ElAt.alloc (h : ElAt f w S l a c) (o : Obj) : ElAt f (w.alloc o) S l a c := h.below ((Below.refl _ _).alloc (Nat.le_refl _) o)
theorem ElAt.drew (h : ElAt f w S l a c) : ElAt f w.drew S l a c := ElAt.keep (w := w) (w' := w.drew) (fun _ h => h) (fun _ _ _ => rfl) h
theorem ElAt.drewN (h : ElAt f w S l a c) (n : Nat) : ElAt f (w.drewN n) S l a c := ElAt.keep (w := w) (w' := w.drewN n) (fun _ h => h) (fun _ _ _ => rfl) h
theorem ElAt.setCell (h : ElAt f w S l a c) {p : Addr} (hp : ∀ b, S b → b ≠ p.block) (v : Value) : ElAt f (w.setCell p v) S l a c := h.keep (fun _ h => h) (fun b hb _ => Below.heap_setCell _ _ _ _ (hp b hb))
theorem ElAt.weaken (h : ElAt f w S l a c) (hS : ∀ b, S b → S' b) : ElAt f w S' l a c := h.keep hS (fun _ _ _ => rfl)
theorem ElAt.fr {D : Nat → Prop} (h : ElAt f w S l a c) (hf : Fr D w w') (hS : ∀ b, S b → ¬ D b) : ElAt f w' S l a c := h.keep (fun _ h => h) (fun b hb hl => hf.2.2.2.2 b hl (hS b hb))
theorem ElAt.lim (h : ElAt f w S l a c) : ElAt f w (fun b => S b ∧ b < w.heap.size) l a c := by
  obtain ⟨h1, h2, h4⟩ := h
  refine ⟨h1, h2, ?_⟩
  rcases h4 with h4 | ⟨b, o, ha, hb, hc⟩
  · exact .inl h4
  · by_cases hl : l = []
    · exact .inl hl
    · exact .inr ⟨b, o, ha, ⟨hb, cell_lt (hc 0 (List.length_pos_iff.2 hl))⟩, hc⟩
theorem ElAt.get (h : ElAt f w S l a c) (hb : Below w.heap.size w w') {i : Nat} (hi : i < l.length) :
    ∃ b o, a = some ⟨b, o, none⟩ ∧ b < w.heap.size ∧ S b ∧ w'.cell? ⟨b, o + i, none⟩ = some (f l[i]) := by
  rcases h.2.2 with rfl | ⟨b, o, ha, hS, hc⟩
  · simp at hi
  · have := hc i hi
    have hlt := cell_lt this
    exact ⟨b, o, ha, hlt, hS, (hb.cell (p := ⟨b, o + i, none⟩) hlt).trans this⟩
theorem ElAt.nil (hc : c ≤ 9223372036854775807) : ElAt f w S [] a c := ⟨by simp, hc, .inl rfl⟩
theorem ElAt.take (h : ElAt f w S l a c) (n : Nat) : ElAt f w S (l.take n) a c := by
  obtain ⟨h1, h2, h4⟩ := h
  refine ⟨by rw [List.length_take]; omega, h2, ?_⟩
  rcases h4 with rfl | ⟨b, o, ha, hb, hc⟩
  · exact .inl (by simp)
  · refine .inr ⟨b, o, ha, hb, fun i hi => ?_⟩
    rw [List.length_take] at hi
    rw [List.getElem_take]
    exact hc i (by omega)
end

/-- A row of the call's own. -/
def ElRow {α : Type} (f : α → Value) (e : TypeId) (w : World) (base : Nat) (v : Value) (l : List α) : Prop := w.ownsRow base e 1 v l.length (l.map f)
section
variable {α : Type} {f : α → Value} {e : TypeId} {w w' : World} {base : Nat} {v : Value} {l : List α}
theorem ElRow.at (h : ElRow f e w base v l) : ∃ a c, v = .slice a l.length c ∧ ElAt f w (fun b => base ≤ b) l a c := by
  have h' := h
  obtain ⟨_, ⟨rfl, h0⟩ | ⟨g, cap, cur, rfl, hb, hh, hn, hc, hz, _⟩⟩ := h
  · obtain rfl : l = [] := List.length_eq_zero_iff.1 h0
    exact ⟨none, 0, rfl, ElAt.nil (by omega)⟩
  · refine ⟨_, _, rfl, hn, hc, .inr ⟨g, 0, rfl, hb, fun i hi => ?_⟩⟩
    have := h'.cells (g := g) rfl i (f l[i]) (by rw [List.getElem?_map, List.getElem?_eq_getElem hi]; rfl)
    have e : (⟨g, 0, none⟩ : Addr).add i = ⟨g, 0 + i, none⟩ := by unfold Addr.add; split <;> simp_all
    rw [e] at this
    exact this
theorem ElRow.below (h : ElRow f e w base v l) (hb : Below w.heap.size w w') : ElRow f e w' base v l :=
  World.ownsRow.kept (row := none) h ⟨hb.os, hb.tape, hb.output, hb.size, fun i hi _ => hb.block i hi⟩ (Classical.em _)
theorem ElRow.drew (h : ElRow f e w base v l) : ElRow f e w.drew base v l := h.below (Below.refl _ _).drew
theorem ElRow.alloc (h : ElRow f e w base v l) (o : Obj) : ElRow f e (w.alloc o) base v l := h.below ((Below.refl _ _).alloc (Nat.le_refl _) o)
theorem ElRow.frO {D : Nat → Prop} (h : ElRow f e w base v l) (hf : Fr D w w') (hD : ∀ b, v.ownBlock = some b → ¬ D b) : ElRow f e w' base v l := by
  have hlt := World.ownsRow.lt h
  refine ⟨h.1, ?_⟩
  rcases h.2 with hn | ⟨g, cap, cur, rfl, hb, hgg, rest⟩
  · exact .inl hn
  · exact .inr ⟨g, cap, cur, rfl, hb, (hf.2.2.2.2 g (hlt g rfl).2 (hD g rfl)).trans hgg, rest⟩
theorem ElRow.fr {D : Nat → Prop} (h : ElRow f e w base v l) (hf : Fr D w w') (hD : ∀ b, D b → b < base) : ElRow f e w' base v l :=
  h.frO hf (fun b hb hd => by have := (World.ownsRow.lt h b hb).1; have := hD b hd; omega)
/-- A whole block is a row. -/
theorem ElRow.of_blk {g : Nat} {cs : Array Value} (h : Blk w g e cs) (hb : base ≤ g) (hcs : cs.toList = l.map f) (hl : l.length ≤ 9223372036854775807) : ElRow f e w base (.slice (some ⟨g, 0, none⟩) l.length l.length) l := by
  have hs : cs.size = l.length := by rw [← Array.length_toList, hcs, List.length_map]
  exact ⟨by simp, .inr ⟨g, l.length, cs, rfl, hb, h, Nat.le_refl _, (by show l.length ≤ 9223372036854775807; omega), by omega, by rw [hcs, Nat.mul_one, List.take_of_length_le (by simp)]⟩⟩
end
end Go.Proofs.Ytochgmbeomfkpaa
/- the closures of impl.TaskFetches: what is fetched is noted -/
namespace Go.Proofs.Ytochgmbeomfkpaa
open Go.RowKit

/-- One more fetch is put to the list in block gl. -/
def NotePost (vs : Int → Int) (w : World) (base gl : Nat) (vo : Value) (ks : List Int) (e : Ending) (w' : World) : Prop :=
  e = .returned (.tuple #[]) ∧ ∃ v', Blk w' gl 102 #[v'] ∧ FeRow vs w' base v' ks ∧ Fr (fun b => b = gl ∨ vo.ownBlock = some b) w w' ∧ ∀ b, v'.ownBlock = some b → vo.ownBlock = some b ∨ w.heap.size ≤ b

set_option maxHeartbeats 1000000 in
theorem note_any (vs : Int → Int) (w : World) (base gl : Nat) (vo : Value) (ks : List Int) (k x : Int) (hx : x = vs k) (hk : ks.length ≤ 100) (hb : Blk w gl 102 #[vo]) (hr : FeRow vs w base vo ks) (hgl : gl < base) (hbs : base ≤ w.heap.size) :
    Calls Try.prog 91 #[.agg #[.int .i64 k, .int .i64 x], .pointer (some ⟨gl, 0, none⟩)] w (NotePost vs w base gl vo (ks ++ [k])) := by
  obtain ⟨iF, fi, fz0, fz1, fz2⟩ := info_parts infoFetch
  have HIF := Lib.hid (And.intro fi (And.intro fz0 (And.intro fz1 fz2)))
  have hml : maxLen = 9223372036854775807 := rfl
  have HML := Lib.hid hml
  have HX := Lib.hid hx
  have HR := Lib.hid (hr.alloc (.cells #[.int .i64 k, .int .i64 x] 106))
  have HB := Lib.hid hb
  have hx0 : w.cell? ⟨gl, 0, none⟩ = some vo := hb.cell 0
  have hlt : gl < w.heap.size := hb.lt
  clear fi fz0 fz1 fz2 hml hx hr hb
  go_enter Try.func91, Try.ntmps91
  go_wp2_with (at_builtin; refine wpList_append_row _ rfl (.tmp 3) (.tmp 5) 102 rfl base 106 iF (.agg #[.int .i64 0, .int .i64 0]) 2 16 Try.underlying102 HIF.out.1 HIF.out.2.1 HIF.out.2.2.1 HIF.out.2.2.2 rfl (by decide) vo ks.length (fc vs ks) rfl (HR.out.alloc _) ⟨w.heap.size + 1, 0, none⟩ 1 1 [.int .i64 k, .int .i64 x] rfl rfl ?c1 ?c2 (by decide) ?c3 ?c4 ?c5 ?_)
  case c1 => have h := news2 (w.alloc (.cells #[.int .i64 k, .int .i64 x] 106)) 106 (.int .i64 k) (.int .i64 x); rw [World.size_alloc] at h; exact h
  case c2 => simp [Value.oneCell']
  case c3 => rw [HML.out]; omega
  case c4 => omega
  case c5 => simp; omega
  intro v' w1 hown hgr hnew
  obtain ⟨gr, cap, rfl⟩ := own_some hown (by omega)
  have hge := own_ge HR.out
  have hb1 : Blk w1 gl 102 #[vo] := (hgr.block gl (by simp; omega) (by intro e; have := hge gl e.symm; omega)).trans ((HB.out.alloc (.cells #[.int .i64 k, .int .i64 x] 106)).alloc (.cells #[.int .i64 k, .int .i64 x] 106))
  have hfc : fc vs [k] = [.int .i64 k, .int .i64 x] := by simp [fc, HX.out]
  have hF1 : FeRow vs w1 base (.slice (some ⟨gr, 0, none⟩) (ks.length + 1) cap) (ks ++ [k]) := by
    unfold FeRow
    rw [fc_append, hfc, show (ks ++ [k]).length = ks.length + 1 by simp]
    exact hown
  have hge' := own_ge hF1
  have hF2 : FeRow vs (w1.setCell ⟨gl, 0, none⟩ (.slice (some ⟨gr, 0, none⟩) (ks.length + 1) cap)) base (.slice (some ⟨gr, 0, none⟩) (ks.length + 1) cap) (ks ++ [k]) := ownsRow_setCell_other hF1 (a := ⟨gl, 0, none⟩) (by
    intro e; have := hge' gl e; omega) (.slice (some ⟨gr, 0, none⟩) (ks.length + 1) cap)
  have hfr : Fr (fun b => b = gl ∨ vo.ownBlock = some b) w (w1.setCell ⟨gl, 0, none⟩ (.slice (some ⟨gr, 0, none⟩) (ks.length + 1) cap)) := by
    have hs := hgr.size
    simp only [World.size_alloc] at hs
    refine ⟨hgr.os, hgr.tape, hgr.output, by simp [World.setCell]; omega, fun b hb hn => ?_⟩
    rw [Below.heap_setCell w1 ⟨gl, 0, none⟩ (.slice (some ⟨gr, 0, none⟩) (ks.length + 1) cap) b (fun e => hn (.inl e)), hgr.block b (by simp; omega) (fun e => hn (.inr e.symm)), Below.heap_alloc _ _ _ (by simp; omega), Below.heap_alloc _ _ _ hb]
  have hB2 := hb1.set_ 0 (.slice (some ⟨gr, 0, none⟩) (ks.length + 1) cap)
  have hN : ∀ b, (Value.slice (some ⟨gr, 0, none⟩) (ks.length + 1) cap).ownBlock = some b → vo.ownBlock = some b ∨ w.heap.size ≤ b := fun b hb => by
    rcases hnew b hb with h | h
    · exact .inl h
    · exact .inr (by omega)
  have H := Lib.hid (And.intro (show Blk (w1.setCell ⟨gl, 0, none⟩ (.slice (some ⟨gr, 0, none⟩) (ks.length + 1) cap)) gl 102 #[(.slice (some ⟨gr, 0, none⟩) (ks.length + 1) cap)] from hB2) (And.intro hF2 (And.intro hfr hN)))
  have hy0 : w1.cell? ⟨gl, 0, none⟩ = some vo := hb1.cell 0
  have hyf : w1.frozen? ⟨gl, 0, none⟩ = false := hb1.frozen 0
  clear hown hgr hnew hge hb1 hfc hF1 hge' hF2 hfr hB2 hN HB HR HX
  go_wp2_with fail
  go_end0
  exact ⟨rfl, _, H.out.1, H.out.2.1, H.out.2.2.1, H.out.2.2.2⟩

/-- What the closure of impl.noting keeps track of. -/
def NoteI (S : Nat → Prop) (lv : List Int) (a : Option Addr) (c gv gf gn gl base : Nat) (ks : List Int) (D : Nat → Prop) (w : World) : Prop :=
  IntsAt w S lv a c ∧ Blk w gv 26 #[.slice a lv.length c] ∧ Blk w gf 119 #[.func (.func 103) #[] #[.pointer (some ⟨gv, 0, none⟩)]] ∧
    Blk w gn 122 #[.func (.func 91) #[] #[.pointer (some ⟨gl, 0, none⟩)]] ∧
    (gv < base ∧ gf < base ∧ gn < base ∧ gl < base ∧ gl ≠ gv ∧ gl ≠ gf ∧ gl ≠ gn ∧ (∀ b, S b → b < base ∧ b ≠ gl) ∧ base ≤ w.heap.size) ∧
    ∃ vo, Blk w gl 102 #[vo] ∧ FeRow (vf lv) w base vo ks ∧ ∀ b, D b ↔ (b = gl ∨ vo.ownBlock = some b)

theorem IntsAt.fr {w w' : World} {S D : Nat → Prop} {l : List Int} {a : Option Addr} {c : Nat} (h : IntsAt w S l a c) (hf : Fr D w w') (hS : ∀ b, S b → ¬ D b) : IntsAt w' S l a c :=
  h.keep (fun _ h => h) (fun b hb hl => hf.2.2.2.2 b hl (hS b hb))

theorem Fr.weaken {D D' : Nat → Prop} {w w' : World} (h : Fr D w w') (hd : ∀ b, D b → D' b) : Fr D' w w' := ⟨h.1, h.2.1, h.2.2.1, h.2.2.2.1, fun b hb hn => h.2.2.2.2 b hb (fun hx => hn (hd b hx))⟩

set_option maxHeartbeats 1000000 in
theorem noting_any (S : Nat → Prop) (lv : List Int) (a : Option Addr) (c gv gf gn gl base : Nat) (ks : List Int) (D : Nat → Prop) (w : World) (k : Int) (h0 : 0 ≤ k) (h9 : k ≤ 9) (hk : ks.length ≤ 100) (hI : NoteI S lv a c gv gf gn gl base ks D w) :
    Calls Try.prog 102 #[.int .i64 k, .pointer (some ⟨gf, 0, none⟩), .pointer (some ⟨gn, 0, none⟩)] w fun e w' => e = .returned (.int .i64 (vf lv k)) ∧ ∃ D', NoteI S lv a c gv gf gn gl base (ks ++ [k]) D' w' ∧ Fr D w w' ∧ ∀ b, D' b → D b ∨ w.heap.size ≤ b := by
  have HI := Lib.hid hI
  obtain ⟨hl, hv, hf, hn, ⟨b1, b2, b3, b4, b5, b6, b7, b8, b9⟩, vo, ho, hr, hD⟩ := hI
  have hx0 := hf.cell 0
  have hx1 := hn.cell 0
  simp only [List.getElem?_toArray, List.getElem?_cons_zero] at hx0 hx1
  have HL := Lib.hid hl
  have HV := Lib.hid hv
  have HO := Lib.hid ho
  have HR := Lib.hid hr
  have HD := Lib.hid hD
  have HB8 := Lib.hid b8
  obtain ⟨x, hx⟩ : ∃ x, x = vf lv k := ⟨_, rfl⟩
  have HX := Lib.hid hx
  rw [← hx]
  clear hl hv hf hn ho hr hD hx b8
  have eg : ∀ args w, (callFunc 103 args).run Try.prog w = .ok (.enter 103 args) w := enters_of Try.func103 (by kernel_rfl) rfl
  have eg2 : ∀ args w, (callFunc 91 args).run Try.prog w = .ok (.enter 91 args) w := enters_of Try.func91 (by kernel_rfl) rfl
  go_enter Try.func102, Try.ntmps102
  go_wp2_with fail
  refine (fetch_any w S lv a c gv HL.out HV.out k h0 (by omega)).mono ?_
  rintro e w' ⟨rfl, rfl⟩
  rw [← HX.out]
  go_wp2_with fail
  refine (note_any (vf lv) w base gl vo ks k x HX.out hk HO.out HR.out b4 b9).mono ?_
  rintro e w1 ⟨rfl, v', h1, h2, h3, h4⟩
  have hge := own_ge HR.out
  have hnd : ∀ b, b < base → b ≠ gl → ¬ (b = gl ∨ vo.ownBlock = some b) := fun b hb hne h => by
    rcases h with h | h
    · exact hne h
    · have := hge b h; omega
  have hsz := h3.size
  have HN := Lib.hid (show NoteI S lv a c gv gf gn gl base (ks ++ [k]) (fun b => b = gl ∨ v'.ownBlock = some b) w1 from
    ⟨HL.out.fr h3 (fun b hb => hnd b (HB8.out b hb).1 (HB8.out b hb).2), HV.out.fr h3 (hnd gv b1 b5.symm), HI.out.2.2.1.fr h3 (hnd gf b2 b6.symm), HI.out.2.2.2.1.fr h3 (hnd gn b3 b7.symm),
      ⟨b1, b2, b3, b4, b5, b6, b7, HB8.out, by omega⟩, v', h1, h2, fun b => Iff.rfl⟩)
  have HF := Lib.hid (And.intro (h3.weaken (fun b hb => (HD.out b).2 hb)) h4)
  clear h1 h2 h3 h4 hge hnd
  go_wp2_with fail
  go_ret
  refine ⟨rfl, _, HN.out, HF.out.1, fun b hb => ?_⟩
  rcases hb with hb | hb
  · exact .inl ((HD.out b).2 (.inl hb))
  · rcases HF.out.2 b hb with h | h
    · exact .inl ((HD.out b).2 (.inr h))
    · exact .inr h
end Go.Proofs.Ytochgmbeomfkpaa
