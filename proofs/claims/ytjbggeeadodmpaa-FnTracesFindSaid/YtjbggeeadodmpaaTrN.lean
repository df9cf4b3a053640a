/- spec.l5Find, spec.TracesFind, impl.TracesFind -/
import Derived.Test.YtjbggeeadodmpaaTrM2
import Derived.Test.YtjbggeeadodmpaaTr2
import Derived.Test.YtjbggeeadodmpaaTrG
namespace Go.Proofs.Ytjbggeeadodmpaa
open Go.RowKit

theorem find_snoc {α : Type} (P : α → Bool) (l : List α) (k : Nat) (h : k < l.length) : (l.take k).all (fun x => !P x) = true → P l[k] = false → (l.take (k + 1)).all (fun x => !P x) = true := by
  intro h1 h2
  rw [List.take_succ_eq_append_getElem h, List.all_append, h1]; simp [h2]
theorem find_some {α : Type} (P : α → Bool) (l : List α) (k : Nat) (h : k < l.length) : (l.take k).all (fun x => !P x) = true → P l[k] = true → l.find? P = some l[k] := by
  intro h1 h2
  have e : l = l.take k ++ (l[k] :: l.drop (k + 1)) := by rw [← List.drop_eq_getElem_cons h, List.take_append_drop]
  have hn : (l.take k).find? P = none := by
    rw [List.find?_eq_none]
    intro x hx
    have := (List.all_eq_true.1 h1) x hx
    simpa using this
  have : (l.take k ++ (l[k] :: l.drop (k + 1))).find? P = some l[k] := by
    rw [List.find?_append, hn, List.find?_cons_of_pos h2]; rfl
  rwa [← e] at this
theorem find_none {α : Type} (P : α → Bool) (l : List α) (k : Nat) (h : l.length ≤ k) : (l.take k).all (fun x => !P x) = true → l.find? P = none := by
  intro h1
  rw [List.take_of_length_le h] at h1
  rw [List.find?_eq_none]
  intro x hx
  have := (List.all_eq_true.1 h1) x hx
  simpa using this

def fdP (key : Int) (y : List Int) (t : Tr) : Bool := decide (t.k = key) && t.holds (vf y)
theorem fdP_no {key : Int} {y : List Int} {t : Tr} (h : t.k ≠ key) : fdP key y t = false := by unfold fdP; rw [decide_eq_false h]; rfl
theorem fdP_yes {key : Int} {y : List Int} {t : Tr} (h : t.k = key) : fdP key y t = t.holds (vf y) := by unfold fdP; rw [decide_eq_true h]; rfl
def FdI (l : List Tr) (P : Tr → Bool) (i : Int) : Prop := (i = -1 ∧ l.find? P = none) ∨ ∃ (k : Nat) (h : k < l.length), i = k ∧ l.find? P = some l[k]
def fdO (l : List Tr) (key : Int) (y : List Int) : Tr := if (trsOk l && vok y) = true then (l.find? (fdP key y)).getD trZ else trZ
def fdB (l : List Tr) (key : Int) (y : List Int) : Bool := (trsOk l && vok y) && (l.find? (fdP key y)).isSome
theorem trsOk_all {l : List Tr} (h : trsOk l = true) : l.length ≤ 60 ∧ ∀ t ∈ l, t.ok = true := by
  unfold trsOk at h
  rw [Bool.and_eq_true] at h
  exact ⟨of_decide_eq_true h.1, fun t ht => (List.all_eq_true.1 h.2) t ht⟩
theorem ret_int {i j : Int} (h : i = j) : Ending.returned (.int .i64 i) = .returned (.int .i64 j) := by rw [h]

set_option maxRecDepth 100000 in
set_option maxHeartbeats 4000000 in
theorem l5Find_any (w : World) (S S2 : Nat → Prop) (l : List Tr) (key : Int) (y : List Int) (a a2 : Option Addr) (c c2 : Nat) (h : TrsAt w S l a c) (hok : ∀ t ∈ l, t.ok = true) (hy : IntsAt w S2 y a2 c2) :
    Calls Try.prog 44 #[.slice a l.length c, .int .i64 key, .slice a2 y.length c2] w fun e w' => ∃ i, e = .returned (.int .i64 i) ∧ FdI l (fdP key y) i ∧ Below w.heap.size w w' := by
  have hlen : l.length ≤ 9223372036854775807 := RwAt.len h
  have H := Lib.hid h
  have HY := Lib.hid hy
  have HO := Lib.hid hok
  clear h hy hok
  go_enter Try.func44, Try.ntmps44
  go_wp2_with fail
  go_loopw [7] (fun i wr => ∃ k : Nat, k ≤ l.length ∧ i = .int .i64 k ∧ (l.take k).all (fun x => !fdP key y x) = true ∧ Below w.heap.size w wr) (fun i _ => l.length - (intOf i).toNat)
  case atStart => exact ⟨0, by omega, rfl, rfl, Below.refl _ _⟩
  case round =>
    obtain ⟨k, hk, rfl, hq, hb⟩ := hrel
    have HQ := Lib.hid hq
    have HB := Lib.hid hb
    clear hq hb
    by_cases hlt : k < l.length
    · obtain ⟨b, o, a', c', rfl, hbl, _, e0, e1, e2, hs, _, _⟩ := H.out.get HB.out hlt
      have HSN := Lib.hid (find_snoc (fdP key y) l k hlt HQ.out)
      have HSO := Lib.hid (show fdP key y l[k] = true → FdI l (fdP key y) k from fun hp => .inr ⟨k, hlt, rfl, find_some _ l k hlt HQ.out hp⟩)
      have HTO := Lib.hid (HO.out l[k] (List.getElem_mem hlt))
      obtain ⟨t, ht⟩ : ∃ t, t = l[k] := ⟨_, rfl⟩
      rw [← ht] at e0 e1 e2 hs HSN HSO HTO
      have HS := Lib.hid hs
      have hwr := HB.out.size
      clear hs ht
      by_cases hx : t.k = key
      · have t0 : (t.k == key) = true := by simpa using hx
        have HPX := Lib.hid (fdP_yes (y := y) hx)
        clear hx
        go_wp2_with fail
        refine (l5Holds_any _ S S2 t a' a2 c' c2 y HS.out HTO.out (HY.out.below HB.out)).mono ?_
        rintro e w1 ⟨rfl, hb⟩
        have HB1 := Lib.hid (HB.out.trans (hb.mono hwr))
        clear hb
        rw [← HPX.out]
        cases hp : fdP key y t
        · have HN := Lib.hid (HSN.out hp)
          clear hp
          go_wp2_with fail
          go_roundw
          case rel => exact ⟨k + 1, by omega, by go_num, HN.out, HB1.out⟩
          case measure => simp [intOf]; omega
        · have HF := Lib.hid (HSO.out hp)
          clear hp
          go_wp2_with fail
          go_ret
          exact ⟨_, rfl, HF.out, HB1.out⟩
      · have t0 : (t.k == key) = false := by simpa using hx
        have HN := Lib.hid (HSN.out (fdP_no hx))
        clear hx
        go_wp2_with fail
        go_roundw
        case rel => exact ⟨k + 1, by omega, by go_num, HN.out, HB.out⟩
        case measure => simp [intOf]; omega
    · have HF := Lib.hid (show FdI l (fdP key y) (-1) from .inl ⟨rfl, find_none _ l k (by omega) HQ.out⟩)
      go_wp2_with fail
      go_ret
      exact ⟨_, rfl, HF.out, HB.out⟩

set_option maxRecDepth 100000 in
set_option maxHeartbeats 4000000 in
theorem specFind_any (w : World) (S S2 : Nat → Prop) (l : List Tr) (key : Int) (y : List Int) (a a2 : Option Addr) (c c2 : Nat) (h : TrsAt w S l a c) (hy : IntsAt w S2 y a2 c2) :
    Calls Try.prog 16 #[.slice a l.length c, .int .i64 key, .slice a2 y.length c2] w (TrPost (fdO l key y) (fdB l key y) w) := by
  have hlen : l.length ≤ 9223372036854775807 := RwAt.len h
  have H := Lib.hid (h.alloc (.cells #[.int .i64 0, .slice none 0 0, .int .i64 0] 25))
  have HY := Lib.hid (hy.alloc (.cells #[.int .i64 0, .slice none 0 0, .int .i64 0] 25))
  have HR := Lib.hid (Blk.new w 25 #[.int .i64 0, .slice none 0 0, .int .i64 0])
  have HW := Lib.hid (show Below w.heap.size w (w.alloc (.cells #[.int .i64 0, .slice none 0 0, .int .i64 0] 25)) from (Below.refl _ _).alloc (Nat.le_refl _) _)
  have hsz : (w.alloc (.cells #[.int .i64 0, .slice none 0 0, .int .i64 0] 25)).heap.size = w.heap.size + 1 := by simp
  clear h hy
  obtain ⟨W, hW⟩ : ∃ W, W = w.alloc (.cells #[.int .i64 0, .slice none 0 0, .int .i64 0] 25) := ⟨_, rfl⟩
  have HWW := Lib.hid hW
  rw [← hW] at H HY HR HW hsz
  have HSZ := Lib.hid hsz
  clear hW
  have zero : ∀ w1 : World, Blk w1 w.heap.size 25 #[.int .i64 0, .slice none 0 0, .int .i64 0] → Below w.heap.size w w1 → TrPost trZ false w (.returned (.tuple #[.agg #[.int .i64 0, .slice none 0 0, .int .i64 0], .bool false])) (((w1.setCell ⟨w.heap.size, 0, none⟩ (.int .i64 0)).setCell ⟨w.heap.size, 1, none⟩ (.slice none 0 0)).setCell ⟨w.heap.size, 2, none⟩ (.int .i64 0)) :=
    fun w1 hb hw => ⟨((hw.setCell (by simp) _).setCell (by simp) _).setCell (by simp) _, _, rfl, World.ownsRow_nil _ _ _ _⟩
  have HZ := Lib.hid zero
  clear zero
  cases ht : trsOk l
  · have HT := Lib.hid ht
    have hr : fdO l key y = trZ := by unfold fdO; rw [ht]; rfl
    have hr2 : fdB l key y = false := by unfold fdB; rw [ht]; rfl
    rw [hr, hr2]
    clear hr hr2 ht
    go_enter Try.func16, Try.ntmps16
    go_wp2_with fail
    rw [← HWW.out]
    refine (specTrsOk_any _ S l a c H.out).mono ?_
    rintro e w1 ⟨rfl, hb⟩
    rw [HT.out]
    have R1 := Lib.hid (HR.out.below hb HR.out.lt)
    have BW1 := Lib.hid (HW.out.trans (hb.mono (by have := HSZ.out; omega)))
    clear hb
    obtain ⟨y0, y1, y2, f0, f1, f2⟩ := R1.out.three
    have hlt := R1.out.lt
    go_wp2_with fail
    exact bodyPost_ret (v := .tuple #[.agg #[.int .i64 0, .slice none 0 0, .int .i64 0], .bool false]) (by simp [results, Try.results16, go_sem, y0, y1, y2]) rfl (HZ.out _ R1.out BW1.out)
  cases hv : vok y
  · have HT := Lib.hid ht
    have HV := Lib.hid hv
    have hr : fdO l key y = trZ := by unfold fdO; rw [ht, hv]; rfl
    have hr2 : fdB l key y = false := by unfold fdB; rw [ht, hv]; rfl
    rw [hr, hr2]
    clear hr hr2 ht hv
    go_enter Try.func16, Try.ntmps16
    go_wp2_with fail
    rw [← HWW.out]
    refine (specTrsOk_any _ S l a c H.out).mono ?_
    rintro e w1 ⟨rfl, hb⟩
    rw [HT.out]
    have R1 := Lib.hid (HR.out.below hb HR.out.lt)
    have BW1 := Lib.hid (HW.out.trans (hb.mono (by have := HSZ.out; omega)))
    have Y1 := Lib.hid (HY.out.below hb)
    clear hb
    obtain ⟨y0, y1, y2, f0, f1, f2⟩ := R1.out.three
    have hlt := R1.out.lt
    go_wp2_with (go_at_call 38; refine (specVals_any _ S2 y a2 c2 Y1.out).mono ?_; rw [HV.out]; rintro e w2 ⟨rfl, rfl⟩)
    exact bodyPost_ret (v := .tuple #[.agg #[.int .i64 0, .slice none 0 0, .int .i64 0], .bool false]) (by simp [results, Try.results16, go_sem, y0, y1, y2]) rfl (HZ.out _ R1.out BW1.out)
  · have HT := Lib.hid ht
    have HV := Lib.hid hv
    have HOK := Lib.hid (trsOk_all ht)
    have hr : fdO l key y = (l.find? (fdP key y)).getD trZ := by unfold fdO; rw [ht, hv]; rfl
    have hr2 : fdB l key y = (l.find? (fdP key y)).isSome := by unfold fdB; rw [ht, hv]; rfl
    rw [hr, hr2]
    clear hr hr2 ht hv
    go_enter Try.func16, Try.ntmps16
    go_wp2_with fail
    rw [← HWW.out]
    refine (specTrsOk_any _ S l a c H.out).mono ?_
    rintro e w1 ⟨rfl, hb⟩
    rw [HT.out]
    have R1 := Lib.hid (HR.out.below hb HR.out.lt)
    have BW1 := Lib.hid (HW.out.trans (hb.mono (by have := HSZ.out; omega)))
    have Y1 := Lib.hid (HY.out.below hb)
    have H1 := Lib.hid (H.out.below hb)
    have HS1 := Lib.hid hb.size
    clear hb
    go_wp2_with (go_at_call 38; refine (specVals_any _ S2 y a2 c2 Y1.out).mono ?_; rw [HV.out]; rintro e w2 ⟨rfl, rfl⟩)
    refine (l5Find_any _ S S2 l key y a a2 c c2 H1.out HOK.out.2 Y1.out).mono ?_
    rintro e w3 ⟨i, rfl, hi, hb⟩
    have R3 := Lib.hid (R1.out.below hb R1.out.lt)
    have BW3 := Lib.hid (BW1.out.trans (hb.mono BW1.out.size))
    rcases hi with ⟨rfl, hn⟩ | ⟨k, hk, rfl, hn⟩
    · have HNN := Lib.hid hn
      clear hb hn
      obtain ⟨y0, y1, y2, f0, f1, f2⟩ := R3.out.three
      have hlt := R3.out.lt
      go_wp2_with fail
      exact bodyPost_ret (v := .tuple #[.agg #[.int .i64 0, .slice none 0 0, .int .i64 0], .bool false]) (by simp [results, Try.results16, go_sem, y0, y1, y2]) rfl (by rw [HNN.out]; exact HZ.out _ R3.out BW3.out)
    · obtain ⟨b, o, a', c', rfl, hbl, _, e0, e1, e2, hs, _, _⟩ := H1.out.get hb hk
      have HUL := Lib.hid (Tr.ok_len (HOK.out.2 l[k] (List.getElem_mem hk)))
      obtain ⟨t, ht⟩ : ∃ t, t = l[k] := ⟨_, rfl⟩
      rw [← ht] at e0 e1 e2 hs HUL hn
      have HS := Lib.hid hs
      have HNN := Lib.hid hn
      have HS3 := Lib.hid hb.size
      clear hs ht hb hn
      go_wp2_with fail
      refine (l5Copy_any _ S t a' c' HS.out (by have := HUL.out; omega)).mono ?_
      rintro e w4 ⟨v, rfl, hfr, hb⟩
      have hr4 := R3.out.below hb R3.out.lt
      obtain ⟨z0, z1, z2, f0, f1, f2⟩ := hr4.three
      have hlt := hr4.lt
      have HF := Lib.hid (ownsRow_low hfr (show w.heap.size + 1 ≤ w3.heap.size by have := HSZ.out; have := HS1.out; have := HS3.out; omega))
      have HW4 := Lib.hid (BW3.out.trans (hb.mono BW3.out.size))
      obtain ⟨av, cv, rfl⟩ := own_shape' hfr
      clear hb hfr hr4 e0 e1 e2
      go_wp2_with fail
      refine bodyPost_ret (v := .tuple #[.agg #[.int .i64 t.k, .slice av t.u.length cv, .int .i64 t.v], .bool true]) (by simp [results, Try.results16, go_sem, z0, z1, z2]) rfl ?_
      rw [HNN.out]
      refine ⟨((HW4.out.setCell (by simp) _).setCell (by simp) _).setCell (by simp) _, _, rfl, ?_⟩
      have hfr : Fr (fun b => b = w.heap.size) w4 w4 := Fr.of_below (Below.refl _ _)
      exact ownsRow_low (FRow.fr HF.out (((hfr.set' ⟨w.heap.size, 0, none⟩ rfl _).set' ⟨w.heap.size, 1, none⟩ rfl _).set' ⟨w.heap.size, 2, none⟩ rfl _) (fun b hb => by omega)) (by omega)
end Go.Proofs.Ytjbggeeadodmpaa
