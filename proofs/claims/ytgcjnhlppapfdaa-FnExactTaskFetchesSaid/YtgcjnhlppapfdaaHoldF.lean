/- eqFetchS, markFetchS, heldFetchS -/
import Derived.Test.YtgcjnhlppapfdaaHoldU
import Derived.Test.YtgcjnhlppapfdaaSameI
namespace Go.Proofs.Ytgcjnhlppapfdaa
open Go.RowKit

/-- A row of pairs, given by its cells. -/
def FRow (w : World) (base : Nat) (v : Value) (n : Nat) (l : List Int) : Prop := w.ownsRow base 41 2 v n (l.map (Value.int .i64))
theorem FRow.len {w : World} {base n : Nat} {v : Value} {l : List Int} (h : FRow w base v n l) : l.length = n * 2 := by simpa using h.1
def fcl (vs : Int → Int) : List Int → List Int
  | [] => []
  | k :: r => k :: vs k :: fcl vs r
theorem fcl_map (vs : Int → Int) : ∀ ks, (fcl vs ks).map (Value.int .i64) = fc vs ks
  | [] => rfl
  | k :: r => by simp [fcl, fc, fcl_map vs r]
theorem FeRow.fcl {vs : Int → Int} {w : World} {base : Nat} {v : Value} {ks : List Int} (h : FeRow vs w base v ks) : FRow w base v ks.length (fcl vs ks) := by
  unfold FRow; rw [fcl_map]; exact h

theorem FRow.set_ {w : World} {base g n cap : Nat} {l : List Int} (h : FRow w base (.slice (some ⟨g, 0, none⟩) n cap) n l) (i : Nat) (x : Int) :
    FRow (w.setCell ⟨g, i, none⟩ (.int .i64 x)) base (.slice (some ⟨g, 0, none⟩) n cap) n (l.set i x) := by
  obtain ⟨hl, ⟨h1, _⟩ | ⟨g', cap', cur, h1, h2, h3, h4, h5, h6, h7⟩⟩ := h
  · simp at h1
  · simp only [Value.slice.injEq, Option.some.injEq, Addr.mk.injEq, and_true] at h1
    obtain ⟨rfl, _, rfl⟩ := h1
    refine ⟨by simpa using hl, .inr ⟨g, cap, cur.setIfInBounds i (.int .i64 x), rfl, h2, Blk.set_ (w := w) h3 i (.int .i64 x), h4, h5, by simpa using h6, ?_⟩⟩
    rw [Array.toList_setIfInBounds, List.take_set, h7, List.map_set]
theorem FRow.cell {w : World} {base g n cap : Nat} {l : List Int} (h : FRow w base (.slice (some ⟨g, 0, none⟩) n cap) n l) (i : Nat) (hi : i < l.length) :
    w.cell? ⟨g, i, none⟩ = some (.int .i64 l[i]) ∧ w.frozen? ⟨g, i, none⟩ = false := by
  have hc := World.ownsRow.cells h (g := g) rfl i (.int .i64 l[i]) (by rw [List.getElem?_map, List.getElem?_eq_getElem hi]; rfl)
  rw [addr0] at hc
  obtain ⟨hl, ⟨h1, _⟩ | ⟨g', cap', cur, h1, h2, h3, h4, h5, h6, h7⟩⟩ := h
  · simp at h1
  · simp only [Value.slice.injEq, Option.some.injEq, Addr.mk.injEq, and_true] at h1
    obtain ⟨rfl, _, rfl⟩ := h1
    exact ⟨hc, Blk.frozen (w := w) h3 i⟩
theorem FRow.fr {w w' : World} {D : Nat → Prop} {base n : Nat} {v : Value} {l : List Int} (h : FRow w base v n l) (hf : Fr D w w') (hD : ∀ b, D b → b < base) : FRow w' base v n l :=
  ownsRow_fr h hf (fun b hb hd => by have := (World.ownsRow.lt h b hb).1; have := hD b hd; omega)
theorem FRow.below {w w' : World} {base n : Nat} {v : Value} {l : List Int} (h : FRow w base v n l) (hb : Below w.heap.size w w') : FRow w' base v n l :=
  FRow.fr (D := fun _ => False) h (Fr.of_below hb) (fun _ hf => hf.elim)
theorem FeRow.fr {vs : Int → Int} {w w' : World} {D : Nat → Prop} {base : Nat} {v : Value} {l : List Int} (h : FeRow vs w base v l) (hf : Fr D w w') (hD : ∀ b, D b → b < base) : FeRow vs w' base v l :=
  ownsRow_fr h hf (fun b hb hd => by have := (World.ownsRow.lt h b hb).1; have := hD b hd; omega)
theorem FeRow.below {vs : Int → Int} {w w' : World} {base : Nat} {v : Value} {l : List Int} (h : FeRow vs w base v l) (hb : Below w.heap.size w w') : FeRow vs w' base v l :=
  FeRow.fr (D := fun _ => False) h (Fr.of_below hb) (fun _ hf => hf.elim)
theorem FeRow.drew {vs : Int → Int} {w : World} {base : Nat} {v : Value} {l : List Int} (h : FeRow vs w base v l) : FeRow vs w.drew base v l := h.below (Below.refl _ _).drew
theorem FetAt.fr {vs : Int → Int} {w w' : World} {S D : Nat → Prop} {l : List Int} {a : Option Addr} {c : Nat} (h : FetAt vs w S l a c) (hf : Fr D w w') (hS : ∀ b, S b → ¬ D b) : FetAt vs w' S l a c :=
  h.keep (fun _ h => h) (fun b hb hl => hf.2.2.2.2 b hl (hS b hb))
theorem FetAt.alloc {vs : Int → Int} {w : World} {S : Nat → Prop} {l : List Int} {a : Option Addr} {c : Nat} (h : FetAt vs w S l a c) (o : Obj) : FetAt vs (w.alloc o) S l a c := h.below ((Below.refl _ _).alloc (Nat.le_refl _) o)
theorem FetAt.drew {vs : Int → Int} {w : World} {S : Nat → Prop} {l : List Int} {a : Option Addr} {c : Nat} (h : FetAt vs w S l a c) : FetAt vs w.drew S l a c := h.below (Below.refl _ _).drew

/-- eqFetch -/
theorem eqFetch_any (w : World) (u v : Int) : Calls Try.prog 79 #[.agg #[.int .i64 u, .int .i64 v], .agg #[.int .i64 u, .int .i64 v]] w fun e w' => e = .returned (.bool true) ∧ Below w.heap.size w w' := by
  have hu : (u != u) = false := by simp
  have hv : (v != v) = false := by simp
  have HB := Lib.hid (((Below.refl w.heap.size w).alloc (Nat.le_refl _) (.cells #[.int .i64 u, .int .i64 v] 41)).alloc (by simp) (.cells #[.int .i64 u, .int .i64 v] 41))
  go_enter Try.func79, Try.ntmps79
  go_wp2_with fail
  go_ret
  exact ⟨rfl, HB.out⟩

/-- eqFetchS of two readings of what was fetched -/
theorem eqFetchS_any (vs : Int → Int) (w : World) (S S' : Nat → Prop) (ks : List Int) (a a' : Option Addr) (c c' : Nat) (h : FetAt vs w S ks a c) (h' : FetAt vs w S' ks a' c') :
    Calls Try.prog 47 #[.slice a ks.length c, .slice a' ks.length c'] w fun e w' => e = .returned (.bool true) ∧ Below w.heap.size w w' := by
  have hlen : ks.length ≤ 9223372036854775807 := by have := h.1; have := h.2.1; omega
  have H := Lib.hid h
  have H' := Lib.hid h'
  clear h h'
  have hne : (((ks.length : Nat) : Int) != ((ks.length : Nat) : Int)) = false := by simp
  go_enter Try.func47, Try.ntmps47
  go_wp2_with fail
  clear hne
  go_loopw [5] (fun i wr => ∃ k : Nat, k ≤ ks.length ∧ i = .int .i64 k ∧ Below w.heap.size w wr) (fun i _ => ks.length - (intOf i).toNat)
  case atStart => exact ⟨0, by omega, rfl, Below.refl _ _⟩
  case round =>
    obtain ⟨k, hk, rfl, hb⟩ := hrel
    have HB := Lib.hid hb
    clear hb
    by_cases hlt : k < ks.length
    · obtain ⟨b, o, rfl, hbl, _, e0, e1⟩ := H.out.get HB.out hlt
      obtain ⟨b', o', rfl, hbl', _, e0', e1'⟩ := H'.out.get HB.out hlt
      obtain ⟨u, hu⟩ : ∃ u, u = ks[k] := ⟨_, rfl⟩
      obtain ⟨v, hv⟩ : ∃ v, v = vs ks[k] := ⟨_, rfl⟩
      rw [← hu] at e0 e0'
      rw [← hv] at e1 e1'
      clear hu hv
      go_wp2_with fail
      go_region_with (go_at_call 79; refine (eqFetch_any _ u v).mono ?_; rintro e w1 ⟨rfl, hb⟩)
      all_goals
        have HB' := Lib.hid (HB.out.drew.trans (hb.mono HB.out.size))
        clear hb
        go_wp2_with fail
        go_roundw
        case rel => exact ⟨k + 1, by omega, by go_num, HB'.out⟩
        case measure => simp [intOf]; omega
    · go_wp2_with fail
      go_ret
      exact ⟨rfl, HB.out⟩

def MarkedF (w : World) (base : Nat) (v : Value) (k n : Nat) (e : Ending) (w' : World) : Prop := e = .returned (.int .i64 ((k + n * 2 : Nat) : Int)) ∧ FRow w' base v n (marks k (n * 2)) ∧ w.grownBy w' v.ownBlock
theorem FRow.frM {w w' : World} {base : Nat} {v : Value} {k n m : Nat} {l : List Int} {e : Ending} (h : FRow w base v m l) (hf : MarkedF w base v k n e w') : Fr (fun b => base ≤ b) w w' :=
  ⟨hf.2.2.os, hf.2.2.tape, hf.2.2.output, hf.2.2.size, fun b hb hn => hf.2.2.block b hb (by intro e; exact hn (own_ge h b e.symm))⟩

set_option maxHeartbeats 1000000 in
theorem markF_any (w : World) (base : Nat) (v : Value) (n : Nat) (l : List Int) (k : Nat) (h : FRow w base v n l) (hl : n ≤ 2000000) (hk : k ≤ 100000000) :
    Calls Try.prog 49 #[v, .int .i64 k] w (MarkedF w base v k n) := by
  by_cases h0 : n = 0
  · subst h0
    have hl0 : l = marks k 0 := by
      have e0 : l = [] := List.length_eq_zero_iff.1 (by have := h.len; omega)
      rw [e0]; rfl
    subst hl0
    have H := Lib.hid h
    obtain ⟨_, ⟨rfl, _⟩ | ⟨g, cap, cur, rfl, _⟩⟩ := h
    all_goals
      go_enter Try.func49, Try.ntmps49
      go_wp2_with fail
      go_loopw [1, 5] (fun q i wr => i = .int .i64 0 ∧ q = .int .i64 k ∧ wr = w) (fun _ _ _ => 0)
      case atStart => exact ⟨rfl, rfl, rfl⟩
      case round =>
        obtain ⟨rfl, rfl, rfl⟩ := hrel
        go_wp2_with fail
        go_ret
        exact ⟨rfl, H.out, grown_refl _ _⟩
  · obtain ⟨g, cap, rfl⟩ := own_some h (by omega)
    have H := Lib.hid h
    have HLEN := Lib.hid h.len
    clear h h0
    go_enter Try.func49, Try.ntmps49
    go_wp2_with fail
    go_loopw [1, 5] (fun q i wr => ∃ (j m : Nat), j ≤ n ∧ i = .int .i64 j ∧ q = .int .i64 m ∧ m = k + j * 2 ∧ FRow wr base (.slice (some ⟨g, 0, none⟩) n cap) n (mk_ l k (j * 2)) ∧ w.grownBy wr (some g)) (fun _ i _ => n - (intOf i).toNat)
    case atStart => exact ⟨0, k, by omega, rfl, rfl, by omega, by rw [Nat.zero_mul, mk_zero]; exact H.out, grown_refl _ _⟩
    case round =>
      obtain ⟨j, m, hj, rfl, rfl, hm, hn, hg⟩ := hrel
      have HN := Lib.hid hn
      have HG := Lib.hid hg
      have HM := Lib.hid hm
      have hmb : m ≤ 104000000 := by omega
      by_cases hlt : j < n
      · have hL := HLEN.out
        have hlen := mk_len l k (j * 2) (by omega)
        obtain ⟨c0, f0⟩ := HN.out.cell (j * 2) (by omega)
        obtain ⟨c1, f1⟩ := HN.out.cell (j * 2 + 1) (by omega)
        obtain ⟨x0, hx0⟩ : ∃ x, x = (mk_ l k (j * 2))[j * 2]'(by omega) := ⟨_, rfl⟩
        obtain ⟨x1, hx1⟩ : ∃ x, x = (mk_ l k (j * 2))[j * 2 + 1]'(by omega) := ⟨_, rfl⟩
        rw [← hx0] at c0
        rw [← hx1] at c1
        have hs := (HN.out.set_ (j * 2) (m : Int)).set_ (j * 2 + 1) ((m : Int) + 1)
        have e1 := mk_succ l k (j * 2) (by omega)
        have e2 := mk_succ l k (j * 2 + 1) (by omega)
        rw [← hm] at e1
        rw [show ((k + (j * 2 + 1) : Nat) : Int) = (m : Int) + 1 by omega] at e2
        rw [e1, e2, show j * 2 + 1 + 1 = (j + 1) * 2 by omega] at hs
        have HS := Lib.hid hs
        have HG2 := Lib.hid (grown_set (grown_set HG.out ⟨g, j * 2, none⟩ rfl (.int .i64 (m : Int))) ⟨g, j * 2 + 1, none⟩ rfl (.int .i64 ((m : Int) + 1)))
        have HM2 := Lib.hid (show m + 2 = k + (j + 1) * 2 by omega)
        clear hn hg hm hlen hL hx0 hx1 e1 e2 hs
        go_wp2_with fail
        rw [show (m : Int) + 1 + 1 = ((m + 2 : Nat) : Int) by omega]
        go_roundw
        case rel => exact ⟨j + 1, m + 2, by omega, by go_num, rfl, HM2.out, HS.out, HG2.out⟩
        case measure => simp [intOf]; omega
      · obtain rfl : j = n := by omega
        have hq := HN.out
        rw [← HLEN.out, mk_all, HLEN.out] at hq
        have HQ := Lib.hid hq
        clear hn hg hm hq
        go_wp2_with fail
        go_ret
        exact ⟨by have e := HM.out; subst e; rfl, HQ.out, HG.out⟩

set_option maxHeartbeats 1000000 in
theorem heldF_any (w : World) (base : Nat) (v : Value) (k n : Nat) (h : FRow w base v n (marks k (n * 2))) (hn : n ≤ 1000000) (hk : k ≤ 100000000) :
    Calls Try.prog 50 #[v, .int .i64 k] w fun e w' => e = .returned (.int .i64 ((k + n * 2 : Nat) : Int)) ∧ w = w' := by
  obtain ⟨r, hr⟩ : ∃ r : Nat, r = k + n * 2 := ⟨_, rfl⟩
  rw [← hr]
  by_cases h0 : n = 0
  · subst h0
    have hrk : r = k := by omega
    rw [hrk]
    clear hrk hr
    obtain ⟨_, ⟨rfl, _⟩ | ⟨g, cap, cur, rfl, _⟩⟩ := h
    all_goals
      go_enter Try.func50, Try.ntmps50
      go_wp2_with fail
      go_loop [1, 5] (fun q i => i = .int .i64 0 ∧ q = .int .i64 k) (fun _ _ => 0)
      case atStart => exact ⟨rfl, rfl⟩
      case round =>
        obtain ⟨rfl, rfl⟩ := hrel
        go_wp2_with fail
        go_ret
        exact ⟨rfl, rfl⟩
  · obtain ⟨g, cap, rfl⟩ := own_some h (by omega)
    have H := Lib.hid h
    have HR := Lib.hid hr
    clear h h0 hr
    go_enter Try.func50, Try.ntmps50
    go_wp2_with fail
    go_loop [1, 5] (fun q i => ∃ (j m : Nat), j ≤ n ∧ i = .int .i64 j ∧ q = .int .i64 m ∧ m = k + j * 2) (fun _ i => n - (intOf i).toNat)
    case atStart => exact ⟨0, k, by omega, rfl, rfl, by omega⟩
    case round =>
      obtain ⟨j, m, hj, rfl, rfl, hm⟩ := hrel
      have HM := Lib.hid hm
      have hmb : m ≤ 102000000 := by omega
      by_cases hlt : j < n
      · obtain ⟨c0, _⟩ := H.out.cell (j * 2) (by rw [marks_len]; omega)
        obtain ⟨c1, _⟩ := H.out.cell (j * 2 + 1) (by rw [marks_len]; omega)
        rw [marks_get, ← hm] at c0
        rw [marks_get, show ((k + (j * 2 + 1) : Nat) : Int) = (m : Int) + 1 by omega] at c1
        have HM2 := Lib.hid (show m + 2 = k + (j + 1) * 2 by omega)
        have hn0 : ((m : Int) != (m : Int)) = false := by simp
        have hn1 : ((m : Int) + 1 != (m : Int) + 1) = false := by simp
        clear hm
        go_wp2_with fail
        rw [show (m : Int) + 1 + 1 = ((m + 2 : Nat) : Int) by omega]
        go_round
        case rel => exact ⟨j + 1, m + 2, by omega, by go_num, rfl, HM2.out⟩
        case measure => simp [intOf]; omega
      · obtain rfl : j = n := by omega
        obtain rfl : m = r := by rw [HM.out, HR.out]
        clear hm
        go_wp2_with fail
        go_ret
        exact ⟨rfl, rfl⟩
end Go.Proofs.Ytgcjnhlppapfdaa
