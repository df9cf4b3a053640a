/- spec.l6Made, spec.l6Deep, spec.StateFits (written by wip/tools/gen_fitx.py) -/
import Derived.Test.YtjakhiafkjaghaaGreatFitXV
import Derived.Test.YtjakhiafkjaghaaGreatFitXI
import Derived.Test.YtjakhiafkjaghaaGreatHonS
import Derived.Test.YtjakhiafkjaghaaGreatStOkS
import Derived.Test.YtjakhiafkjaghaaGreatSafeS
import Derived.BigQuiet
import Derived.Deep.Quiet
namespace Go.Proofs.YtjakhiafkjaghaaGreat
open Go.RowKit

/-- A world in which all that is old reads the same. -/
structure WB (wr : World) where
  w : World
  h : Below wr.heap.size wr w
instance {wr : World} : Nonempty (WB wr) := ⟨⟨wr, Below.refl _ _⟩⟩
/-- A region that draws its order and whose operations read what is old, or make what is new: one walk in the order of the text. -/
theorem wp_quietB {P : Program} {id : Nat} {Q : Exit → Act → World → Prop} {a : Act} {w : World} {l : List Oper} (wr : World) (hm : P.follows .mixedOrders = true) (hB : Region.lexB .any l.toArray = true) (h0 : Below wr.heap.size wr w)
    (h : wpQuiet P l.toArray (fun w' => ∃ k : WB wr, w' = k.w) (fun a' => ∀ w', (∃ k : WB wr, w' = k.w) → Q .normal a' w') l a) : (Code.region id l.toArray true).wp P Q a w :=
  wp_region_quiet (C := fun w' => ∃ k : WB wr, w' = k.w) hm hB ⟨⟨w.drew, h0.drew⟩, rfl⟩ (by simpa using h)
theorem ints_some {w : World} {S : Nat → Prop} {l : List Int} {a : Option Addr} {c : Nat} (h : IntsAt w S l a c) (hl : 0 < l.length) : ∃ b o, a = some ⟨b, o, none⟩ := by
  rcases h.2.2.2 with h0 | ⟨b, o, ha, _⟩
  · subst h0; simp at hl
  · exact ⟨b, o, ha⟩
theorem ints_take {w : World} {S : Nat → Prop} {l : List Int} {a : Option Addr} {c : Nat} (h : IntsAt w S l a c) (i : Nat) : IntsAt w S (l.take i) a c := by
  obtain ⟨h1, h2, h3, h4⟩ := h
  refine ⟨by rw [List.length_take]; omega, h2, fun x hx => h3 x (List.mem_of_mem_take hx), ?_⟩
  rcases h4 with rfl | ⟨b, o, ha, hb, hc⟩
  · exact .inl (by simp)
  · refine .inr ⟨b, o, ha, hb, fun j hj => ?_⟩
    rw [List.length_take] at hj
    rw [List.getElem_take]
    exact hc j (by omega)
set_option maxHeartbeats 1000000 in
theorem l6Made_any (s : Sh) (k : Nat) (w : World) (S : Nat → Prop) (a : Option Addr) (c : Nat) (a' : Option Addr) (c' : Nat) (h : ShAt w S s a c a' c') :
    Calls Tryz.prog 50 #[.agg #[.slice a s.m.length c, .slice a' s.t.length c'], .int .i64 k] w fun e w' => e = .returned (.bool (s.mdI k)) ∧ Below w.heap.size w w' := by
  have hnl : s.m.length ≤ 9223372036854775807 := by have := h.1.1; have := h.1.2.1; omega
  have HB := Lib.hid ((Below.refl w.heap.size w).alloc (Nat.le_refl _) (.cells #[.slice a s.m.length c, .slice a' s.t.length c'] 35))
  have hk0 : (0 : Int) ≤ k := by omega
  by_cases hk : k < s.m.length
  · obtain ⟨bm, om, hma, hbm, hcm⟩ := md_cell h hk
    subst hma
    have c1 := (HB.out.cell (p := ⟨bm, om + k, none⟩) hbm).trans hcm
    obtain ⟨p0, p1, -⟩ := (Blk.new w 35 #[.slice (some ⟨bm, om, none⟩) s.m.length c, .slice a' s.t.length c']).two
    obtain ⟨v, hv⟩ : ∃ v, v = s.mdI (k : Int) := ⟨_, rfl⟩
    rw [← hv] at c1 ⊢
    have hki : (k : Int) < s.m.length := by omega
    have hd : decide (k < s.m.length) = true := decide_eq_true hk
    clear h hv hcm hbm hk
    go_enter Tryz.func50, Tryz.ntmps50
    go_wp2_with fail
    go_ret
    exact ⟨rfl, HB.out⟩
  · have hmd : s.mdI (k : Int) = false := by
      cases hx : s.mdI (k : Int)
      · rfl
      · have := mdI_bd hx; omega
    obtain ⟨p0, p1, -⟩ := (Blk.new w 35 #[.slice a s.m.length c, .slice a' s.t.length c']).two
    have hd : decide (k < s.m.length) = false := decide_eq_false hk
    have hki : ¬ (k : Int) < s.m.length := by omega
    rw [hmd]
    clear h hmd
    go_enter Tryz.func50, Tryz.ntmps50
    go_wp2_with fail
    go_ret
    exact ⟨rfl, HB.out⟩

set_option maxRecDepth 100000 in
set_option maxHeartbeats 8000000 in
theorem l6Deep_any (s : Sh) (t : Tr) (w : World) (S S' : Nat → Prop) (a : Option Addr) (c : Nat) (a' : Option Addr) (c' : Nat) (au : Option Addr) (cu : Nat) (h : ShAt w S s a c a' c') (hu : PrsAt w S' t.u au cu) (hok : t.ok = true) (hs : s.ok = true) (hns : nodesL s.t ≤ 1048576) :
    Calls Tryz.prog 21 #[.agg #[.slice a s.m.length c, .slice a' s.t.length c'], .agg #[.int .i64 t.k, .slice au t.u.length cu, .int .i64 t.v]] w fun e w' => e = .returned (.bool (deepT s t)) ∧ Below w.heap.size w w' := by
  have hn10 := (Sh.ok_iff.1 hs).1
  have hup := Tr.ok_u hok
  have hkb := Tr.ok_k hok
  have hul : t.u.length ≤ 9223372036854775807 := RwAt.len hu
  have HNS := Lib.hid hns
  have HUP := Lib.hid hup
  have HBI := Lib.hid (ok_mem (backF_mem fun p hp => (hup p hp).2))
  have HBT := Lib.hid (backF_take hn10 t.u)
  obtain ⟨W, hW⟩ : ∃ W, W = (w.alloc (.cells #[.slice a s.m.length c, .slice a' s.t.length c'] 35)).alloc (.cells #[.int .i64 t.k, .slice au t.u.length cu, .int .i64 t.v] 55) := ⟨_, rfl⟩
  have HWW := Lib.hid hW
  have S0 := Lib.hid (show ShAt W S s a c a' c' by rw [hW]; exact (h.alloc _).alloc _)
  have U0 := Lib.hid (show PrsAt W S' t.u au cu by rw [hW]; exact (hu.alloc _).alloc _)
  have B0 := Lib.hid (show Below w.heap.size w W by rw [hW]; exact ((Below.refl w.heap.size w).alloc (Nat.le_refl _) _).alloc (by simp) _)
  have P0 := Lib.hid (show Blk W w.heap.size 35 #[.slice a s.m.length c, .slice a' s.t.length c'] by rw [hW]; exact (Blk.new w 35 #[.slice a s.m.length c, .slice a' s.t.length c']).alloc _)
  have Q0 := Lib.hid (show Blk W (w.heap.size + 1) 55 #[.int .i64 t.k, .slice au t.u.length cu, .int .i64 t.v] by rw [hW]; have := Blk.new (w.alloc (.cells #[.slice a s.m.length c, .slice a' s.t.length c'] 35)) 55 #[.int .i64 t.k, .slice au t.u.length cu, .int .i64 t.v]; simpa using this)
  obtain ⟨r, hr⟩ : ∃ r, r = deepT s t := ⟨_, rfl⟩
  have HR := Lib.hid (show r = (t.u.all (deepP s) && (bkOk s (backN s.m.length t.u) t.k && decide (bkV s (backN s.m.length t.u) t.k = t.v))) from hr)
  rw [← hr]
  clear h hu hup hok hs hr hW hns
  go_enter Tryz.func21, Tryz.ntmps21
  go_wp2_with fail
  rw [← HWW.out]
  go_loopw [5] (fun i wr => ∃ k : Nat, k ≤ t.u.length ∧ i = .int .i64 k ∧ (t.u.take k).all (deepP s) = true ∧ Below W.heap.size W wr) (fun i _ => t.u.length - (intOf i).toNat)
  case atStart => exact ⟨0, by omega, rfl, rfl, Below.refl _ _⟩
  case round =>
    obtain ⟨k, hk, rfl, hq, hb⟩ := hrel
    have HQ := Lib.hid hq
    have HB := Lib.hid hb
    have S1 := Lib.hid (S0.out.below hb)
    have U1 := Lib.hid (U0.out.below hb)
    have B1 := Lib.hid (B0.out.trans (hb.mono B0.out.size))
    have P1 := Lib.hid (P0.out.below hb P0.out.lt)
    have Q1 := Lib.hid (Q0.out.below hb Q0.out.lt)
    clear hq hb
    by_cases hlt : k < t.u.length
    · obtain ⟨b, o, hau, hbl, _, e0, e1, _, _⟩ := PrsAt.get U1.out (Below.refl _ _) hlt
      subst hau
      have hpk := HUP.out t.u[k] (List.getElem_mem hlt)
      have HQS := Lib.hid (all_snocp (deepP s) t.u k hlt)
      have HQF := Lib.hid (all_falsep (deepP s) t.u k hlt)
      obtain ⟨p, hp⟩ : ∃ p, p = t.u[k] := ⟨_, rfl⟩
      rw [← hp] at e0 e1 HQS HQF hpk
      obtain ⟨y1, y2⟩ := p
      simp only at e0 e1 hpk
      obtain ⟨⟨h0, h9⟩, h2, _⟩ := hpk
      obtain ⟨q, rfl⟩ : ∃ q : Nat, y1 = q := ⟨y1.toNat, by omega⟩
      have HDP := Lib.hid (show deepP s ((q : Int), y2) = (!s.mdI q && (decide ((q : Int) < s.m.length) || decide (y2 = 0))) from rfl)
      have HCC := Lib.hid (show ∀ w' : World, Below wr.heap.size wr w' → (w'.cell? ⟨w.heap.size, 0, none⟩ = some (.slice a s.m.length c) ∧ w'.cell? ⟨w.heap.size, 1, none⟩ = some (.slice a' s.t.length c') ∧ w'.cell? ⟨w.heap.size + 1, 0, none⟩ = some (.int .i64 t.k) ∧ w'.cell? ⟨w.heap.size + 1, 1, none⟩ = some (.slice (some ⟨b, o, none⟩) t.u.length cu) ∧ w'.cell? ⟨w.heap.size + 1, 2, none⟩ = some (.int .i64 t.v) ∧ w'.cell? ⟨b, o + k * 2, none⟩ = some (.int .i64 q) ∧ w'.cell? ⟨b, o + k * 2 + 1, none⟩ = some (.int .i64 y2)) from fun w' hb =>
        ⟨(P1.out.below hb P1.out.lt).two.1, (P1.out.below hb P1.out.lt).two.2.1, (Q1.out.below hb Q1.out.lt).three.1, (Q1.out.below hb Q1.out.lt).three.2.1, (Q1.out.below hb Q1.out.lt).three.2.2.1, (hb.cell (p := ⟨b, o + k * 2, none⟩) hbl).trans e0, (hb.cell (p := ⟨b, o + k * 2 + 1, none⟩) hbl).trans e1⟩)
      have hki : (k : Int) < t.u.length := by omega
      have hk0 : (0 : Int) ≤ k := by omega
      obtain ⟨p0, p1, q0, q1, q2, -, -⟩ := HCC.out wr (Below.refl _ _)
      have x0 := fun kw : WB wr => (HCC.out kw.w kw.h).1
      have x1 := fun kw : WB wr => (HCC.out kw.w kw.h).2.1
      have x2 := fun kw : WB wr => (HCC.out kw.w kw.h).2.2.1
      have x3 := fun kw : WB wr => (HCC.out kw.w kw.h).2.2.2.1
      have x4 := fun kw : WB wr => (HCC.out kw.w kw.h).2.2.2.2.1
      have x5 := fun kw : WB wr => (HCC.out kw.w kw.h).2.2.2.2.2.1
      have x6 := fun kw : WB wr => (HCC.out kw.w kw.h).2.2.2.2.2.2
      have HLT := Lib.hid hlt
      clear hp h0 h9 e0 e1 hbl
      obtain ⟨v, hv⟩ : ∃ v, v = s.mdI (q : Int) := ⟨_, rfl⟩
      have HV := Lib.hid hv
      clear hv
      cases v
      · by_cases hge : s.m.length ≤ q
        · have hd : decide (s.m.length ≤ q) = true := decide_eq_true hge
          have hnk : decide ((q : Int) < s.m.length) = false := decide_eq_false (by omega)
          by_cases hy2 : y2 = 0
          · have HD := Lib.hid (show deepP s ((q : Int), y2) = true by rw [HDP.out, ← HV.out, decide_eq_true hy2]; simp)
            have hne : ((y2 != 0) : Bool) = false := by rw [hy2]; rfl
            clear hnk hge hy2
            go_wp2_with fail
            refine wp_quietB wr (by kernel_rfl) (by kernel_rfl) (Below.refl _ _) ?_
            repeat (go_big_quiet_step ((go_at_call 50; rename_i kw; refine (l6Made_any s q kw.w S a c a' c' (S1.out.below kw.h)).mono ?_; rw [← HV.out]; rintro e w3 ⟨rfl, hb⟩; exact ⟨rfl, ⟨w3, kw.h.trans (hb.mono kw.h.size)⟩, rfl⟩)))
            refine wpQuiet_nil ?_
            rintro _ ⟨⟨w3, hb⟩, rfl⟩
            have HB3 := Lib.hid (HB.out.trans (hb.mono HB.out.size))
            clear hb p0 p1 q0 q1 q2 x0 x1 x2 x3 x4 x5 x6
            go_wp2_with fail
            go_roundw
            case rel => exact ⟨k + 1, by omega, by go_num, by rw [HQS.out, HQ.out, HD.out]; rfl, HB3.out⟩
            case measure => simp [intOf]; omega
          · have HRF := Lib.hid (show r = false by rw [HR.out, HQF.out (by rw [HDP.out, ← HV.out, hnk, decide_eq_false hy2]; rfl)]; rfl)
            have hne : ((y2 != 0) : Bool) = true := by simp [hy2]
            clear hnk hge hy2
            go_wp2_with fail
            refine wp_quietB wr (by kernel_rfl) (by kernel_rfl) (Below.refl _ _) ?_
            repeat (go_big_quiet_step ((go_at_call 50; rename_i kw; refine (l6Made_any s q kw.w S a c a' c' (S1.out.below kw.h)).mono ?_; rw [← HV.out]; rintro e w3 ⟨rfl, hb⟩; exact ⟨rfl, ⟨w3, kw.h.trans (hb.mono kw.h.size)⟩, rfl⟩)))
            refine wpQuiet_nil ?_
            rintro _ ⟨⟨w3, hb⟩, rfl⟩
            have B3 := Lib.hid (B1.out.trans (hb.mono B1.out.size))
            clear hb p0 p1 q0 q1 q2 x0 x1 x2 x3 x4 x5 x6
            go_wp2_with fail
            go_ret
            exact ⟨ret_bool HRF.out.symm, B3.out⟩
        · have hd : decide (s.m.length ≤ q) = false := decide_eq_false hge
          have HD := Lib.hid (show deepP s ((q : Int), y2) = true by rw [HDP.out, ← HV.out, decide_eq_true (show (q : Int) < s.m.length by omega)]; rfl)
          clear hge
          go_wp2_with fail
          refine wp_quietB wr (by kernel_rfl) (by kernel_rfl) (Below.refl _ _) ?_
          repeat (go_big_quiet_step ((go_at_call 50; rename_i kw; refine (l6Made_any s q kw.w S a c a' c' (S1.out.below kw.h)).mono ?_; rw [← HV.out]; rintro e w3 ⟨rfl, hb⟩; exact ⟨rfl, ⟨w3, kw.h.trans (hb.mono kw.h.size)⟩, rfl⟩)))
          refine wpQuiet_nil ?_
          rintro _ ⟨⟨w3, hb⟩, rfl⟩
          all_goals
            have HB3 := Lib.hid (HB.out.trans (hb.mono HB.out.size))
            clear hb p0 p1 q0 q1 q2 x0 x1 x2 x3 x4 x5 x6
            go_wp2_with fail
            go_roundw
            case rel => exact ⟨k + 1, by omega, by go_num, by rw [HQS.out, HQ.out, HD.out]; rfl, HB3.out⟩
            case measure => simp [intOf]; omega
      · have HRF := Lib.hid (show r = false by rw [HR.out, HQF.out (by rw [HDP.out, ← HV.out]; rfl)]; rfl)
        go_wp2_with fail
        refine wp_quietB wr (by kernel_rfl) (by kernel_rfl) (Below.refl _ _) ?_
        repeat (go_big_quiet_step ((go_at_call 50; rename_i kw; refine (l6Made_any s q kw.w S a c a' c' (S1.out.below kw.h)).mono ?_; rw [← HV.out]; rintro e w3 ⟨rfl, hb⟩; exact ⟨rfl, ⟨w3, kw.h.trans (hb.mono kw.h.size)⟩, rfl⟩)))
        refine wpQuiet_nil ?_
        rintro _ ⟨⟨w3, hb⟩, rfl⟩
        all_goals
          have B3 := Lib.hid (B1.out.trans (hb.mono B1.out.size))
          clear hb p0 p1 q0 q1 q2 x0 x1 x2 x3 x4 x5 x6
          go_wp2_with fail
          go_ret
          exact ⟨ret_bool HRF.out.symm, B3.out⟩
    · have hq := HQ.out
      rw [List.take_of_length_le (by omega)] at hq
      have hfl := backF_len t.u
      have hn10' : (s.m.length : Int) ≤ (backF t.u).length := by rw [hfl]; omega
      have HFL := Lib.hid hfl
      obtain ⟨ok, hok⟩ : ∃ ok, ok = bkOk s (backN s.m.length t.u) t.k := ⟨_, rfl⟩
      obtain ⟨vl, hvl⟩ : ∃ vl, vl = bkV s (backN s.m.length t.u) t.k := ⟨_, rfl⟩
      have HRF := Lib.hid (show r = (ok && decide (vl = t.v)) by rw [HR.out, hq, hok, hvl]; rfl)
      have HOV := Lib.hid (And.intro hok hvl)
      have HCC := Lib.hid (show ∀ w' : World, Below wr.heap.size wr w' → (w'.cell? ⟨w.heap.size, 0, none⟩ = some (.slice a s.m.length c) ∧ w'.cell? ⟨w.heap.size, 1, none⟩ = some (.slice a' s.t.length c') ∧ w'.cell? ⟨w.heap.size + 1, 0, none⟩ = some (.int .i64 t.k) ∧ w'.cell? ⟨w.heap.size + 1, 1, none⟩ = some (.slice au t.u.length cu) ∧ w'.cell? ⟨w.heap.size + 1, 2, none⟩ = some (.int .i64 t.v)) from fun w' hb =>
        ⟨(P1.out.below hb P1.out.lt).two.1, (P1.out.below hb P1.out.lt).two.2.1, (Q1.out.below hb Q1.out.lt).three.1, (Q1.out.below hb Q1.out.lt).three.2.1, (Q1.out.below hb Q1.out.lt).three.2.2.1⟩)
      obtain ⟨p0, p1, q0, q1, q2⟩ := HCC.out wr (Below.refl _ _)
      obtain ⟨x0, x1, x2, x3, x4⟩ := HCC.out wr.drew (Below.refl _ _).drew
      clear hq hok hvl hfl
      have HDV := Lib.hid (show ok = bkOk s ((backF t.u).take s.m.length) t.k ∧ vl = bkV s ((backF t.u).take s.m.length) t.k by rw [HBT.out]; exact HOV.out)
      have hmin : ((backF t.u).take s.m.length).length = s.m.length := by rw [List.length_take, HFL.out]; omega
      have HMIN := Lib.hid hmin
      have hnm : (0 : Int) ≤ s.m.length := by omega
      clear hmin
      go_wp2_with fail
      go_region_held3 (fun w' => w'.cell? ⟨w.heap.size, 0, none⟩ = some (.slice a s.m.length c) ∧ w'.cell? ⟨w.heap.size, 1, none⟩ = some (.slice a' s.t.length c') ∧ w'.cell? ⟨w.heap.size + 1, 0, none⟩ = some (.int .i64 t.k) ∧ w'.cell? ⟨w.heap.size + 1, 1, none⟩ = some (.slice au t.u.length cu) ∧ w'.cell? ⟨w.heap.size + 1, 2, none⟩ = some (.int .i64 t.v)) (first | exact ⟨x0, x1, x2, x3, x4⟩ | exact ⟨z0, z1, z2, z3, z4⟩ | exact ⟨v0, v1, v2, v3, v4⟩ | go_keep) (first | (go_at_call 49; refine (l5Back_any _ S' t au cu U1.out.drew HUP.out).mono ?_; rintro e w3 ⟨bv, rfl, hn3, hb3⟩; obtain ⟨av, cv, rfl, hia⟩ := hn3.at HBI.out; obtain ⟨z0, z1, z2, z3, z4⟩ := HCC.out w3 ((Below.refl _ _).drew.trans hb3); obtain ⟨g5, o5, rfl⟩ := ints_some hia (by rw [HFL.out]; decide); have hcv := hia.1; have hcv2 := hia.2.1; rw [HFL.out] at hcv ⊢; have hcn : (s.m.length : Int) ≤ cv := by omega) | (go_at_call 45; have hcall := specBuildKey_any s ((backF t.u).take s.m.length) t.k w3 S _ a c a' c' (some ⟨g5, o5, none⟩) _ (S1.out.drew.below hb3) HNS.out (ints_take hia s.m.length); unfold BkPost at hcall; rw [HMIN.out, ← HDV.out.1, ← HDV.out.2] at hcall; refine hcall.mono ?_; rintro e w4 ⟨rfl, hb4⟩; obtain ⟨v0, v1, v2, v3, v4⟩ := HCC.out w4 (((Below.refl _ _).drew.trans hb3).trans (hb4.mono hb3.size))))
      have B2 := Lib.hid ((B1.out.drew.trans (hb3.mono B1.out.size)).trans (hb4.mono (Nat.le_trans B1.out.size hb3.size)))
      clear hb3 hb4 hn3 hia p0 p1 q0 q1 q2 x0 x1 x2 x3 x4 z0 z1 z2 z3 z4
      cases ok
      · go_wp2_with fail
        go_ret
        exact ⟨ret_bool HRF.out.symm, B2.out⟩
      · go_wp2_with fail
        go_ret
        exact ⟨ret_bool (by rw [HRF.out]; simp only [eq_dec, Bool.true_and]), B2.out⟩
end Go.Proofs.YtjakhiafkjaghaaGreat
