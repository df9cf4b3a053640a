/- impl.firstHolding with values of keys; impl.TracesFind -/
import Derived.Test.YtjbggeeadodmpaaTrN
namespace Go.Proofs.Ytjbggeeadodmpaa
open Go.RowKit

def FhPost (l : List Tr) (key : Int) (y : List Int) (S : Nat → Prop) (w : World) (e : Ending) (w' : World) : Prop :=
  ∃ (au : Option Addr) (cu : Nat), e = .returned (.tuple #[.agg #[.int .i64 ((l.find? (fdP key y)).getD trZ).k, .slice au ((l.find? (fdP key y)).getD trZ).u.length cu, .int .i64 ((l.find? (fdP key y)).getD trZ).v], .bool (l.find? (fdP key y)).isSome]) ∧
    PrsAt w' S ((l.find? (fdP key y)).getD trZ).u au cu ∧ Below w.heap.size w w'

set_option maxRecDepth 100000 in
set_option maxHeartbeats 4000000 in
theorem firstHolding_any (w : World) (S0 S2 : Nat → Prop) (l : List Tr) (key : Int) (y : List Int) (a a2 : Option Addr) (c c2 g : Nat) (h0 : TrsAt w S0 l a c) (hok : ∀ t ∈ l, t.ok = true) (hy : IntsAt w S2 y a2 c2) (hg : Blk w g 26 #[.slice a2 y.length c2]) :
    Calls Try.prog 42 #[.slice a l.length c, .int .i64 key, .func (.func 70) #[] #[.pointer (some ⟨g, 0, none⟩)]] w (FhPost l key y S0 w) := by
  have hlen : l.length ≤ 9223372036854775807 := RwAt.len h0
  obtain ⟨S, hSd⟩ : ∃ S : Nat → Prop, S = fun b => S0 b ∧ b < w.heap.size := ⟨_, rfl⟩
  have hSl : ∀ b, S b → S0 b ∧ b < w.heap.size := by rw [hSd]; exact fun b h => h
  have h : TrsAt w S l a c := by rw [hSd]; exact h0.lim
  have HSL := Lib.hid hSl
  have HOK := Lib.hid hok
  have H1 := Lib.hid (h.alloc (.cells #[.int .i64 0, .slice none 0 0, .int .i64 0] 25))
  have Y1 := Lib.hid (hy.alloc (.cells #[.int .i64 0, .slice none 0 0, .int .i64 0] 25))
  have G1 := Lib.hid (hg.alloc (.cells #[.int .i64 0, .slice none 0 0, .int .i64 0] 25))
  have R1 := Lib.hid (Blk.new w 25 #[.int .i64 0, .slice none 0 0, .int .i64 0])
  have BW1 := Lib.hid (show Below w.heap.size w (w.alloc (.cells #[.int .i64 0, .slice none 0 0, .int .i64 0] 25)) from (Below.refl _ _).alloc (Nat.le_refl _) _)
  have hsz : (w.alloc (.cells #[.int .i64 0, .slice none 0 0, .int .i64 0] 25)).heap.size = w.heap.size + 1 := by simp
  clear h h0 hy hg hok hSl hSd
  obtain ⟨W1, hW⟩ : ∃ W, W = w.alloc (.cells #[.int .i64 0, .slice none 0 0, .int .i64 0] 25) := ⟨_, rfl⟩
  have HWW := Lib.hid hW
  rw [← hW] at H1 Y1 G1 R1 BW1 hsz
  have HSZ := Lib.hid hsz
  clear hW
  go_enter Try.func42, Try.ntmps42
  go_wp2_with fail
  rw [← HWW.out]
  go_loopw [12] (fun i wr => ∃ k : Nat, k ≤ l.length ∧ i = .int .i64 k ∧ (l.take k).all (fun x => !fdP key y x) = true ∧ Below W1.heap.size W1 wr) (fun i _ => l.length - (intOf i).toNat)
  case atStart => exact ⟨0, by omega, rfl, rfl, Below.refl _ _⟩
  case round =>
    obtain ⟨k, hk, rfl, hq, hb⟩ := hrel
    have HQ := Lib.hid hq
    have HB := Lib.hid hb
    have hwr := hb.size
    clear hq hb
    by_cases hlt : k < l.length
    · obtain ⟨b, o, a', c', rfl, hbl, _, e0, e1, e2, hs, _, _⟩ := H1.out.get HB.out hlt
      have HSN := Lib.hid (find_snoc (fdP key y) l k hlt HQ.out)
      have HSO := Lib.hid (find_some (fdP key y) l k hlt HQ.out)
      have HTO := Lib.hid (HOK.out l[k] (List.getElem_mem hlt))
      obtain ⟨t, ht⟩ : ∃ t, t = l[k] := ⟨_, rfl⟩
      rw [← ht] at e0 e1 e2 hs HSN HSO HTO
      have HUL := Lib.hid (Tr.ok_len HTO.out)
      have HS := Lib.hid (hs.alloc (.cells #[.int .i64 t.k, .slice a' t.u.length c', .int .i64 t.v] 25))
      have HBA := Lib.hid (HB.out.alloc hwr (.cells #[.int .i64 t.k, .slice a' t.u.length c', .int .i64 t.v] 25))
      have BT := Lib.hid (Blk.new wr 25 #[.int .i64 t.k, .slice a' t.u.length c', .int .i64 t.v])
      have YA := Lib.hid (Y1.out.below HBA.out)
      have GA := Lib.hid (G1.out.below HBA.out G1.out.lt)
      have RA := Lib.hid (R1.out.below HBA.out R1.out.lt)
      have BWA := Lib.hid (BW1.out.trans (HBA.out.mono BW1.out.size))
      obtain ⟨WA, hWA⟩ : ∃ WA, WA = wr.alloc (.cells #[.int .i64 t.k, .slice a' t.u.length c', .int .i64 t.v] 25) := ⟨_, rfl⟩
      have HWA := Lib.hid hWA
      have HSA := Lib.hid (show WA.heap.size = wr.heap.size + 1 by rw [hWA]; simp)
      rw [← hWA] at HS HBA BT YA GA RA BWA
      clear hs ht hWA
      obtain ⟨x0, x1, x2, -⟩ := BT.out.three
      rw [HWA.out] at x0 x1 x2
      by_cases hx : t.k = key
      · have t0 : (t.k == key) = true := by simpa using hx
        have HPX := Lib.hid (fdP_yes (y := y) hx)
        clear hx
        go_wp2_with fail
        rw [← HWA.out]
        refine (holdsFrom_any _ S S2 t a' a2 c' c2 _ y HS.out HTO.out YA.out GA.out).mono ?_
        rintro e w4 ⟨rfl, hb⟩
        have HB1 := Lib.hid (HBA.out.trans (hb.mono (by have := HSA.out; omega)))
        have B4 := Lib.hid (BT.out.below hb BT.out.lt)
        have S4 := Lib.hid (HS.out.below hb)
        have R4 := Lib.hid (RA.out.below hb RA.out.lt)
        have BW4 := Lib.hid (BWA.out.trans (hb.mono BWA.out.size))
        have HS4 := Lib.hid hb.size
        clear hb x0 x1 x2
        rw [← HPX.out]
        cases hp : fdP key y t
        · have HN := Lib.hid (HSN.out hp)
          clear hp
          go_wp2_with fail
          go_roundw
          case rel => exact ⟨k + 1, by omega, by go_num, HN.out, HB1.out⟩
          case measure => simp [intOf]; omega
        · have HF := Lib.hid (HSO.out hp)
          clear hp
          obtain ⟨x0, x1, x2, -⟩ := B4.out.three
          obtain ⟨z0, z1, z2, f0, f1, f2⟩ := R4.out.three
          have hlt4 := R4.out.lt
          go_wp2_with fail
          refine bodyPost_ret (v := .tuple #[.agg #[.int .i64 t.k, .slice a' t.u.length c', .int .i64 t.v], .bool true]) (by simp [results, Try.results42, go_sem, z0, z1, z2]) rfl ?_
          have hfr : Fr (fun b => b = w.heap.size) w4 w4 := Fr.of_below (Below.refl _ _)
          unfold FhPost
          rw [HF.out]
          refine ⟨a', c', rfl, ?_, ((BW4.out.setCell (by simp) _).setCell (by simp) _).setCell (by simp) _⟩
          exact (S4.out.fr (((hfr.set' ⟨w.heap.size, 0, none⟩ rfl _).set' ⟨w.heap.size, 1, none⟩ rfl _).set' ⟨w.heap.size, 2, none⟩ rfl _) (fun b hb => by have := HSL.out b hb; omega)).weaken (fun b hb => (HSL.out b hb).1)
      · have t0 : (t.k == key) = false := by simpa using hx
        have HN := Lib.hid (HSN.out (fdP_no hx))
        clear hx
        go_wp2_with fail
        go_roundw
        case rel => exact ⟨k + 1, by omega, by go_num, HN.out, by first | exact HBA.out | (rw [← HWA.out]; exact HBA.out)⟩
        case measure => simp [intOf]; omega
    · have HF := Lib.hid (find_none (fdP key y) l k (by omega) HQ.out)
      have R2 := Lib.hid (R1.out.below HB.out R1.out.lt)
      have BW2 := Lib.hid (BW1.out.trans (HB.out.mono BW1.out.size))
      obtain ⟨y0, y1, y2, f0, f1, f2⟩ := R2.out.three
      have hlt2 := R2.out.lt
      go_wp2_with fail
      refine bodyPost_ret (v := .tuple #[.agg #[.int .i64 0, .slice none 0 0, .int .i64 0], .bool false]) (by simp [results, Try.results42, go_sem, y0, y1, y2]) rfl ?_
      unfold FhPost
      rw [HF.out]
      exact ⟨none, 0, rfl, RwAt.nil (by decide), ((BW2.out.setCell (by simp) _).setCell (by simp) _).setCell (by simp) _⟩

set_option maxRecDepth 100000 in
set_option maxHeartbeats 4000000 in
theorem implFind_any (w : World) (S S2 : Nat → Prop) (l : List Tr) (key : Int) (y : List Int) (a a2 : Option Addr) (c c2 : Nat) (h : TrsAt w S l a c) (hy : IntsAt w S2 y a2 c2) :
    Calls Try.prog 15 #[.slice a l.length c, .int .i64 key, .slice a2 y.length c2] w (TrPost (fdO l key y) (fdB l key y) w) := by
  have hlen : l.length ≤ 9223372036854775807 := RwAt.len h
  have H := Lib.hid (h.alloc (.cells #[.int .i64 0, .slice none 0 0, .int .i64 0] 25))
  have HY := Lib.hid (hy.alloc (.cells #[.int .i64 0, .slice none 0 0, .int .i64 0] 25))
  have HR := Lib.hid (Blk.new w 25 #[.int .i64 0, .slice none 0 0, .int .i64 0])
  have HW := Lib.hid (show Below w.heap.size w (w.alloc (.cells #[.int .i64 0, .slice none 0 0, .int .i64 0] 25)) from (Below.refl _ _).alloc (Nat.le_refl _) _)
  have hsz : (w.alloc (.cells #[.int .i64 0, .slice none 0 0, .int .i64 0] 25)).heap.size = w.heap.size + 1 := by simp
  clear h hy
  obtain ⟨W, hW⟩ : ∃ W, W = w.alloc (.cells #[.int .i64 0, .slice none 0 0, .int .i64 0] 25) := ⟨_, rfl⟩
  have HWW := Lib.hid hW
  rw [← hW] at H HY HR HW hsz
  have HSZ := Lib.hid hsz
  clear hW
  have zero : ∀ w1 : World, Blk w1 w.heap.size 25 #[.int .i64 0, .slice none 0 0, .int .i64 0] → Below w.heap.size w w1 → TrPost trZ false w (.returned (.tuple #[.agg #[.int .i64 0, .slice none 0 0, .int .i64 0], .bool false])) (((w1.setCell ⟨w.heap.size, 0, none⟩ (.int .i64 0)).setCell ⟨w.heap.size, 1, none⟩ (.slice none 0 0)).setCell ⟨w.heap.size, 2, none⟩ (.int .i64 0)) :=
    fun w1 hb hw => ⟨((hw.setCell (by simp) _).setCell (by simp) _).setCell (by simp) _, _, rfl, World.ownsRow_nil _ _ _ _⟩
  have HZ := Lib.hid zero
  clear zero
  cases ht : trsOk l
  · have HT := Lib.hid ht
    have hr : fdO l key y = trZ := by unfold fdO; rw [ht]; rfl
    have hr2 : fdB l key y = false := by unfold fdB; rw [ht]; rfl
    rw [hr, hr2]
    clear hr hr2 ht
    go_enter Try.func15, Try.ntmps15
    go_wp2_with fail
    rw [← HWW.out]
    refine (tracesOk_any _ S l a c H.out).mono ?_
    rintro e w1 ⟨rfl, hb⟩
    rw [HT.out]
    have R1 := Lib.hid (HR.out.below hb HR.out.lt)
    have BW1 := Lib.hid (HW.out.trans (hb.mono (by have := HSZ.out; omega)))
    clear hb
    obtain ⟨y0, y1, y2, f0, f1, f2⟩ := R1.out.three
    have hlt := R1.out.lt
    go_wp2_with fail
    exact bodyPost_ret (v := .tuple #[.agg #[.int .i64 0, .slice none 0 0, .int .i64 0], .bool false]) (by simp [results, Try.results15, go_sem, y0, y1, y2]) rfl (HZ.out _ R1.out BW1.out)
  cases hv : vok y
  · have HT := Lib.hid ht
    have HV := Lib.hid hv
    have hr : fdO l key y = trZ := by unfold fdO; rw [ht, hv]; rfl
    have hr2 : fdB l key y = false := by unfold fdB; rw [ht, hv]; rfl
    rw [hr, hr2]
    clear hr hr2 ht hv
    go_enter Try.func15, Try.ntmps15
    go_wp2_with fail
    rw [← HWW.out]
    refine (tracesOk_any _ S l a c H.out).mono ?_
    rintro e w1 ⟨rfl, hb⟩
    rw [HT.out]
    have R1 := Lib.hid (HR.out.below hb HR.out.lt)
    have BW1 := Lib.hid (HW.out.trans (hb.mono (by have := HSZ.out; omega)))
    have Y1 := Lib.hid (HY.out.below hb)
    clear hb
    obtain ⟨y0, y1, y2, f0, f1, f2⟩ := R1.out.three
    have hlt := R1.out.lt
    go_wp2_with (go_at_call 34; refine (implVals_any _ S2 y a2 c2 Y1.out).mono ?_; rw [HV.out]; rintro e w2 ⟨rfl, rfl⟩)
    exact bodyPost_ret (v := .tuple #[.agg #[.int .i64 0, .slice none 0 0, .int .i64 0], .bool false]) (by simp [results, Try.results15, go_sem, y0, y1, y2]) rfl (HZ.out _ R1.out BW1.out)
  · have HT := Lib.hid ht
    have HV := Lib.hid hv
    have HOK := Lib.hid (trsOk_all ht)
    have hr : fdO l key y = (l.find? (fdP key y)).getD trZ := by unfold fdO; rw [ht, hv]; rfl
    have hr2 : fdB l key y = (l.find? (fdP key y)).isSome := by unfold fdB; rw [ht, hv]; rfl
    rw [hr, hr2]
    clear hr hr2 ht hv
    go_enter Try.func15, Try.ntmps15
    go_wp2_with fail
    rw [← HWW.out]
    refine (tracesOk_any _ S l a c H.out).mono ?_
    rintro e w1 ⟨rfl, hb⟩
    rw [HT.out]
    have R1 := Lib.hid ((HR.out.below hb HR.out.lt).alloc (.cells #[.slice a2 y.length c2] 26))
    have BW1 := Lib.hid ((HW.out.trans (hb.mono (by have := HSZ.out; omega))).alloc (by have := hb.size; have := HSZ.out; omega) (.cells #[.slice a2 y.length c2] 26))
    have Y0 := Lib.hid (HY.out.below hb)
    have Y1 := Lib.hid ((HY.out.below hb).alloc (.cells #[.slice a2 y.length c2] 26))
    have H1 := Lib.hid ((H.out.below hb).alloc (.cells #[.slice a2 y.length c2] 26))
    have G1 := Lib.hid (Blk.new w1 26 #[.slice a2 y.length c2])
    have HS1 := Lib.hid hb.size
    clear hb
    obtain ⟨W1, hW1⟩ : ∃ W1, W1 = w1.alloc (.cells #[.slice a2 y.length c2] 26) := ⟨_, rfl⟩
    have HWE := Lib.hid hW1
    have HSW := Lib.hid (show W1.heap.size = w1.heap.size + 1 by rw [hW1]; simp)
    rw [← hW1] at R1 BW1 Y1 H1 G1
    clear hW1
    obtain ⟨r, hr⟩ : ∃ r, r = (l.find? (fdP key y)).getD trZ := ⟨_, rfl⟩
    obtain ⟨bb, hbb⟩ : ∃ bb, bb = (l.find? (fdP key y)).isSome := ⟨_, rfl⟩
    have hrl : r.u.length ≤ 1000000 := by
      rw [hr]
      cases hf : l.find? (fdP key y) with
      | none => exact Nat.zero_le _
      | some t => exact Nat.le_trans (Tr.ok_len (HOK.out.2 t (List.mem_of_find?_eq_some hf))) (by decide)
    have HFH := Lib.hid (firstHolding_any W1 S S2 l key y a a2 c c2 w1.heap.size H1.out HOK.out.2 Y1.out G1.out)
    unfold FhPost at HFH
    rw [← hr, ← hbb] at HFH
    have HRR := Lib.hid hr
    have HBB := Lib.hid hbb
    clear hr hbb
    go_wp2_with (go_at_call 34; refine (implVals_any _ S2 y a2 c2 Y0.out).mono ?_; rw [HV.out]; rintro e w2 ⟨rfl, rfl⟩)
    refine (fetchFrom_any _ _ _ _).mono ?_
    rintro e w3 ⟨rfl, rfl⟩
    rw [← HWE.out]
    clear Y0
    go_wp2_with fail
    refine HFH.out.mono ?_
    rintro e w4 ⟨au, cu, rfl, hpr, hb⟩
    have HP4 := Lib.hid (hpr.alloc (.cells #[.int .i64 r.k, .slice au r.u.length cu, .int .i64 r.v] 25))
    have R4 := Lib.hid ((R1.out.below hb R1.out.lt).alloc (.cells #[.int .i64 r.k, .slice au r.u.length cu, .int .i64 r.v] 25))
    have BT := Lib.hid (Blk.new w4 25 #[.int .i64 r.k, .slice au r.u.length cu, .int .i64 r.v])
    have HS4 := Lib.hid hb.size
    have BW4 := Lib.hid ((BW1.out.trans (hb.mono BW1.out.size)).alloc (by have := BW1.out.size; have := hb.size; omega) (.cells #[.int .i64 r.k, .slice au r.u.length cu, .int .i64 r.v] 25))
    clear hpr hb
    obtain ⟨W4, hW4⟩ : ∃ W, W = w4.alloc (.cells #[.int .i64 r.k, .slice au r.u.length cu, .int .i64 r.v] 25) := ⟨_, rfl⟩
    have HWE4 := Lib.hid hW4
    have HSW4 := Lib.hid (show W4.heap.size = w4.heap.size + 1 by rw [hW4]; simp)
    rw [← hW4] at HP4 R4 BT BW4
    clear hW4
    obtain ⟨x0, x1, x2, -⟩ := BT.out.three
    rw [HWE4.out] at x0 x1 x2
    go_wp2_with fail
    rw [← HWE4.out]
    refine (copyTrace_any _ S r au cu HP4.out hrl).mono ?_
    rintro e w5 ⟨v, rfl, hfr, hb⟩
    have hr4 := R4.out.below hb R4.out.lt
    obtain ⟨z0, z1, z2, f0, f1, f2⟩ := hr4.three
    have hlt4 := hr4.lt
    have HF5 := Lib.hid (ownsRow_low hfr (show w.heap.size + 1 ≤ W4.heap.size by have := HSZ.out; have := HS1.out; have := HSW.out; have := HS4.out; have := HSW4.out; omega))
    have HW5 := Lib.hid (BW4.out.trans (hb.mono BW4.out.size))
    obtain ⟨av, cv, rfl⟩ := own_shape' hfr
    clear hb hfr hr4 x0 x1 x2
    go_wp2_with fail
    refine bodyPost_ret (v := .tuple #[.agg #[.int .i64 r.k, .slice av r.u.length cv, .int .i64 r.v], .bool bb]) (by simp [results, Try.results15, go_sem, z0, z1, z2]) rfl ?_
    unfold TrPost
    rw [← HRR.out, ← HBB.out]
    refine ⟨((HW5.out.setCell (by simp) _).setCell (by simp) _).setCell (by simp) _, _, rfl, ?_⟩
    have hfr : Fr (fun b => b = w.heap.size) w5 w5 := Fr.of_below (Below.refl _ _)
    exact ownsRow_low (FRow.fr HF5.out (((hfr.set' ⟨w.heap.size, 0, none⟩ rfl _).set' ⟨w.heap.size, 1, none⟩ rfl _).set' ⟨w.heap.size, 2, none⟩ rfl _) (fun b hb => by omega)) (by omega)
end Go.Proofs.Ytjbggeeadodmpaa
