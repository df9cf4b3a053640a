/- impl.kept.isByInputs (written by wip/tools/gen_fitx.py) -/
import Derived.Test.YtjakhiafkjaghaaGreatFitXT
namespace Go.Proofs.YtjakhiafkjaghaaGreat
open Go.RowKit

set_option maxRecDepth 100000 in
set_option maxHeartbeats 4000000 in
theorem isByInputs_any (s : Sh) (x : St) (t : Tr) (w : World) (S S' : Nat → Prop) (a : Option Addr) (c : Nat) (a' : Option Addr) (c' : Nat) (a1 : Option Addr) (c1 : Nat) (a2 : Option Addr) (c2 : Nat) (a3 : Option Addr) (c3 : Nat) (a4 : Option Addr) (c4 : Nat) (au : Option Addr) (cu : Nat) (h : ShAt w S s a c a' c') (hu : PrsAt w S' t.u au cu) (hok : t.ok = true) (hs : s.ok = true) :
    Calls Tryz.prog 33 #[.agg #[.slice a s.m.length c, .slice a' s.t.length c', .slice a1 x.v.length c1, .slice a2 x.b.length c2, .slice a3 x.i.length c3, .slice a4 x.t.length c4], .agg #[.int .i64 t.k, .slice au t.u.length cu, .int .i64 t.v]] w fun e w' => e = .returned (.bool (deepT s t)) ∧ Below w.heap.size w w' := by
  have hn10 := (Sh.ok_iff.1 hs).1
  have hup := Tr.ok_u hok
  have hul : t.u.length ≤ 9223372036854775807 := RwAt.len hu
  have HUP := Lib.hid hup
  have HBI := Lib.hid (ok_mem (backN_mem (n := s.m.length) fun p hp => (hup p hp).2))
  have HBL := Lib.hid (backN_len t.u s.m.length)
  obtain ⟨i0, hi, hz0, hz1, hz2⟩ := info_parts infoInt
  have hnb : s.m.length ≤ 10 := hn10
  have hmk : ∀ W : World, (Instr.makeSlice 26 (.int .i64 s.m.length) (.int .i64 s.m.length)).run Tryz.prog W = .ok (.slice (some ⟨W.heap.size, 0, none⟩) s.m.length s.m.length) (W.alloc (.cells (madeCells #[.int .i64 0] s.m.length) 3)) := fun W => by
    have h := run_make_rowN (P := Tryz.prog) 26 3 i0 _ Tryz.underlying26 hi hz0 .i64 .i64 s.m.length s.m.length (Nat.le_refl _) (by rw [hz2]; omega) (by omega) W
    rw [hz1, Nat.mul_one] at h
    exact h
  obtain ⟨W, hW⟩ : ∃ W, W = ((w.alloc (.cells #[.slice a s.m.length c, .slice a' s.t.length c', .slice a1 x.v.length c1, .slice a2 x.b.length c2, .slice a3 x.i.length c3, .slice a4 x.t.length c4] 61)).alloc (.cells #[.int .i64 t.k, .slice au t.u.length cu, .int .i64 t.v] 55)).alloc (.cells (madeCells #[.int .i64 0] s.m.length) 3) := ⟨_, rfl⟩
  have HWW := Lib.hid hW
  have S0 := Lib.hid (show ShAt W (fun b => S b ∧ b < w.heap.size) s a c a' c' by rw [hW]; exact ((h.lim.alloc _).alloc _).alloc _)
  have U0 := Lib.hid (show PrsAt W (fun b => S' b ∧ b < w.heap.size) t.u au cu by rw [hW]; exact ((hu.lim.alloc _).alloc _).alloc _)
  have B0 := Lib.hid (show Below w.heap.size w W by rw [hW]; exact (((Below.refl w.heap.size w).alloc (Nat.le_refl _) _).alloc (by simp) _).alloc (by simp <;> omega) _)
  have P0 := Lib.hid (show Blk W w.heap.size 61 #[.slice a s.m.length c, .slice a' s.t.length c', .slice a1 x.v.length c1, .slice a2 x.b.length c2, .slice a3 x.i.length c3, .slice a4 x.t.length c4] by rw [hW]; exact ((Blk.new w 61 _).alloc _).alloc _)
  have Q0 := Lib.hid (show Blk W (w.heap.size + 1) 55 #[.int .i64 t.k, .slice au t.u.length cu, .int .i64 t.v] by rw [hW]; have := (Blk.new (w.alloc (.cells #[.slice a s.m.length c, .slice a' s.t.length c', .slice a1 x.v.length c1, .slice a2 x.b.length c2, .slice a3 x.i.length c3, .slice a4 x.t.length c4] 61)) 55 #[.int .i64 t.k, .slice au t.u.length cu, .int .i64 t.v]).alloc (.cells (madeCells #[.int .i64 0] s.m.length) 3); simpa using this)
  have N0 := Lib.hid (show NumRow W (w.heap.size + 1 + 1) (.slice (some ⟨w.heap.size + 1 + 1, 0, none⟩) s.m.length s.m.length) (backN s.m.length (t.u.take 0)) by
    have := num_madeN ((w.alloc (.cells #[.slice a s.m.length c, .slice a' s.t.length c', .slice a1 x.v.length c1, .slice a2 x.b.length c2, .slice a3 x.i.length c3, .slice a4 x.t.length c4] 61)).alloc (.cells #[.int .i64 t.k, .slice au t.u.length cu, .int .i64 t.v] 55)) s.m.length (by omega)
    rw [show backN s.m.length (t.u.take 0) = List.replicate s.m.length 0 from rfl, hW]; simpa using this)
  have HWS := Lib.hid (show W.heap.size = w.heap.size + 1 + 1 + 1 by rw [hW]; simp)
  obtain ⟨p0, p1, p2, p3, p4, p5⟩ := P0.out.six
  obtain ⟨q0, q1, q2, -⟩ := Q0.out.three
  rw [hW] at p0 p1 p2 p3 p4 p5 q0 q1 q2
  obtain ⟨r, hr⟩ : ∃ r, r = deepT s t := ⟨_, rfl⟩
  have HR := Lib.hid (show r = (t.u.all (deepP s) && (bkOk s (backN s.m.length t.u) t.k && decide (bkV s (backN s.m.length t.u) t.k = t.v))) from hr)
  rw [← hr]
  clear h hu hup hok hs hr hW
  go_enter Tryz.func33, Tryz.ntmps33
  go_wp2_with fail
  rw [← HWW.out]
  clear hmk p0 p1 p2 p3 p4 p5 q0 q1 q2
  go_loopw [18] (fun i wr => ∃ k : Nat, k ≤ t.u.length ∧ i = .int .i64 k ∧ (t.u.take k).all (deepP s) = true ∧ NumRow wr (w.heap.size + 1 + 1) (.slice (some ⟨w.heap.size + 1 + 1, 0, none⟩) s.m.length s.m.length) (backN s.m.length (t.u.take k)) ∧ Fr (fun b => b = w.heap.size + 1 + 1) W wr) (fun i _ => t.u.length - (intOf i).toNat)
  case atStart => exact ⟨0, by omega, rfl, rfl, N0.out, Fr.of_below (Below.refl _ _)⟩
  case round =>
    obtain ⟨k, hk, rfl, hq, hn, hf⟩ := hrel
    have HQ := Lib.hid hq
    have HN := Lib.hid hn
    have HF := Lib.hid hf
    have S1 := Lib.hid (S0.out.fr hf (fun b hb e => by omega))
    have U1 := Lib.hid (U0.out.fr hf (fun b hb e => by omega))
    have P1 := Lib.hid (P0.out.fr hf (by omega))
    have Q1 := Lib.hid (Q0.out.fr hf (by omega))
    have hwr := hf.size
    have B1 := Lib.hid (show Below w.heap.size w wr from B0.out.trans ⟨hf.1, hf.2.1, hf.2.2.1, hf.2.2.2.1, fun b hb => hf.2.2.2.2 b (by have := HWS.out; omega) (by omega)⟩)
    clear hq hn hf
    by_cases hlt : k < t.u.length
    · obtain ⟨b, o, hau, hbl, _, e0, e1, _, _⟩ := PrsAt.get U1.out (Below.refl _ _) hlt
      subst hau
      have hpk := HUP.out t.u[k] (List.getElem_mem hlt)
      have HBS := Lib.hid (backN_snoc (n := s.m.length) hlt)
      have HQS := Lib.hid (all_snocp (deepP s) t.u k hlt)
      have HQF := Lib.hid (all_falsep (deepP s) t.u k hlt)
      obtain ⟨p, hp⟩ : ∃ p, p = t.u[k] := ⟨_, rfl⟩
      rw [← hp] at e0 e1 HBS HQS HQF hpk
      obtain ⟨y1, y2⟩ := p
      simp only at e0 e1 HBS hpk
      obtain ⟨⟨h0, h9⟩, h2, _⟩ := hpk
      obtain ⟨q, rfl⟩ : ∃ q : Nat, y1 = q := ⟨y1.toNat, by omega⟩
      rw [Int.toNat_natCast] at HBS
      have hqi : (0 : Int) ≤ q := by omega
      have HDP := Lib.hid (show deepP s ((q : Int), y2) = (!s.mdI q && (decide ((q : Int) < s.m.length) || decide (y2 = 0))) from rfl)
      have SA := Lib.hid (S1.out.alloc (.cells #[.int .i64 q, .int .i64 y2] 91))
      have PA := Lib.hid (P1.out.alloc (.cells #[.int .i64 q, .int .i64 y2] 91))
      have NA := Lib.hid (show NumRow (wr.alloc (.cells #[.int .i64 q, .int .i64 y2] 91)) _ _ _ from World.ownsRow.alloc HN.out (.cells #[.int .i64 q, .int .i64 y2] 91))
      have BA := Lib.hid (Blk.new wr 91 #[.int .i64 q, .int .i64 y2])
      have BW := Lib.hid (B1.out.alloc B1.out.size (.cells #[.int .i64 q, .int .i64 y2] 91))
      have FA := Lib.hid (HF.out.trans (Fr.of_below (D := fun b => b = w.heap.size + 1 + 1) ((Below.refl wr.heap.size wr).alloc (Nat.le_refl _) (.cells #[.int .i64 q, .int .i64 y2] 91))) (fun b hb => .inl hb))
      obtain ⟨p0, p1, p2, p3, p4, p5⟩ := PA.out.six
      obtain ⟨b0, b1, -⟩ := BA.out.two
      clear hp h0 h9
      go_wp2_with fail
      refine (isMade_any s _ _ a c a' c' q SA.out).mono ?_
      rintro e w1 ⟨rfl, hb⟩
      have S2 := Lib.hid (SA.out.below hb)
      have P2 := Lib.hid (PA.out.below hb PA.out.lt)
      have N2 := Lib.hid (NumRow.below NA.out hb)
      have BX := Lib.hid (BA.out.below hb BA.out.lt)
      have BW2 := Lib.hid (BW.out.trans (hb.mono BW.out.size))
      have F2 := Lib.hid (FA.out.trans (Fr.of_below (D := fun b => b = w.heap.size + 1 + 1) hb) (fun b hb => .inl hb))
      clear hb p0 p1 p2 p3 p4 p5 b0 b1
      cases hmd : s.mdI (q : Int)
      · have HMD := Lib.hid hmd
        obtain ⟨p0, p1, p2, p3, p4, p5⟩ := P2.out.six
        obtain ⟨b0, b1, -⟩ := BX.out.two
        clear hmd
        go_wp2_with fail
        refine (hasKey_any s _ _ a c a' c' q S2.out).mono ?_
        rintro e w2 ⟨rfl, hb⟩
        have P3 := Lib.hid (P2.out.below hb P2.out.lt)
        have N3 := Lib.hid (NumRow.below N2.out hb)
        have BX3 := Lib.hid (BX.out.below hb BX.out.lt)
        have BW3 := Lib.hid (BW2.out.trans (hb.mono BW2.out.size))
        have F3 := Lib.hid (F2.out.trans (Fr.of_below (D := fun b => b = w.heap.size + 1 + 1) hb) (fun b hb => .inl hb))
        clear hb p0 p1 p2 p3 p4 p5 b0 b1
        obtain ⟨b0, b1, -⟩ := BX3.out.two
        by_cases hkn : q < s.m.length
        · rw [decide_eq_true (show (0 : Int) ≤ q ∧ (q : Int) < s.m.length by omega)]
          have hbl3 := backN_len (t.u.take k) s.m.length
          have hki : (q : Int) < s.m.length := by omega
          obtain ⟨c0, f0⟩ := N3.out.cellX q (by rw [hbl3]; exact hkn)
          obtain ⟨y, hy⟩ : ∃ y, y = (backN s.m.length (t.u.take k))[q]'(by rw [hbl3]; exact hkn) := ⟨_, rfl⟩
          rw [← hy] at c0
          have HS := Lib.hid (show NumRow (w2.setCell ⟨w.heap.size + 1 + 1, q, none⟩ (.int .i64 y2)) (w.heap.size + 1 + 1) (.slice (some ⟨w.heap.size + 1 + 1, 0, none⟩) s.m.length s.m.length) (backN s.m.length (t.u.take (k + 1))) by
            have := NumRow.set_ (g := w.heap.size + 1 + 1) (n := s.m.length) (cap := s.m.length) (by have := N3.out; exact this) q y2
            rw [← HBS.out] at this
            exact this)
          have HF4 := Lib.hid (F3.out.set' ⟨w.heap.size + 1 + 1, q, none⟩ rfl (.int .i64 y2))
          have HD := Lib.hid (show deepP s ((q : Int), y2) = true by rw [HDP.out, HMD.out, decide_eq_true hki]; rfl)
          clear hy hbl3 hkn
          go_wp2_with fail
          go_roundw
          case rel => exact ⟨k + 1, by omega, by go_num, by rw [HQS.out, HQ.out, HD.out]; rfl, HS.out, HF4.out⟩
          case measure => simp [intOf]; omega
        · rw [decide_eq_false (show ¬ ((0 : Int) ≤ q ∧ (q : Int) < s.m.length) by omega)]
          have HE := Lib.hid (show backN s.m.length (t.u.take (k + 1)) = backN s.m.length (t.u.take k) by rw [HBS.out]; exact List.set_eq_of_length_le (by rw [backN_len]; omega))
          have hnk : decide ((q : Int) < s.m.length) = false := decide_eq_false (by omega)
          by_cases hy2 : y2 = 0
          · have HD := Lib.hid (show deepP s ((q : Int), y2) = true by rw [HDP.out, HMD.out, decide_eq_true hy2]; simp)
            have hne : ((y2 != 0) : Bool) = false := by rw [hy2]; rfl
            have hne2 : (((0 : Int) != 0) : Bool) = false := rfl
            clear hnk hkn hy2
            go_wp2_with fail
            go_roundw
            case rel => exact ⟨k + 1, by omega, by go_num, by rw [HQS.out, HQ.out, HD.out]; rfl, by rw [HE.out]; exact N3.out, F3.out⟩
            case measure => simp [intOf]; omega
          · have HRF := Lib.hid (show r = false by rw [HR.out, HQF.out (by rw [HDP.out, HMD.out, hnk, decide_eq_false hy2]; rfl)]; rfl)
            have hne : ((y2 != 0) : Bool) = true := by simp [hy2]
            clear hnk hkn hy2
            go_wp2_with fail
            go_ret
            exact ⟨ret_bool HRF.out.symm, BW3.out⟩
      · have HRF := Lib.hid (show r = false by rw [HR.out, HQF.out (by rw [HDP.out, hmd]; rfl)]; rfl)
        clear hmd
        go_wp2_with fail
        go_ret
        exact ⟨ret_bool HRF.out.symm, BW2.out⟩
    · have hq := HQ.out
      rw [List.take_of_length_le (by omega)] at hq
      have hn := HN.out
      rw [List.take_of_length_le (by omega)] at hn
      obtain ⟨av, cv, he, hia⟩ := hn.at HBI.out
      rw [HBL.out] at he
      simp only [Value.slice.injEq] at he
      obtain ⟨rfl, -, rfl⟩ := he
      obtain ⟨ok, hok⟩ : ∃ ok, ok = bkOk s (backN s.m.length t.u) t.k := ⟨_, rfl⟩
      obtain ⟨vl, hvl⟩ : ∃ vl, vl = bkV s (backN s.m.length t.u) t.k := ⟨_, rfl⟩
      have hcall := implBuildKey_any s (backN s.m.length t.u) t.k wr _ _ a c a' c' (some ⟨w.heap.size + 1 + 1, 0, none⟩) s.m.length S1.out hia
      unfold BkPost at hcall
      rw [HBL.out, ← hok, ← hvl] at hcall
      have HC := Lib.hid hcall
      have HRF := Lib.hid (show r = (ok && decide (vl = t.v)) by rw [HR.out, hq, hok, hvl]; rfl)
      obtain ⟨p0, p1, p2, p3, p4, p5⟩ := P1.out.six
      obtain ⟨q0, q1, q2, -⟩ := Q1.out.three
      clear hq hn hia hok hvl hcall
      go_wp2_with fail
      refine HC.out.mono ?_
      rintro e w1 ⟨rfl, hb⟩
      have B2 := Lib.hid (B1.out.trans (hb.mono B1.out.size))
      have Q2 := Lib.hid (Q1.out.below hb Q1.out.lt)
      clear hb p0 p1 p2 p3 p4 p5 q0 q1 q2
      obtain ⟨q0, q1, q2, -⟩ := Q2.out.three
      cases ok
      · go_wp2_with fail
        go_ret
        exact ⟨ret_bool HRF.out.symm, B2.out⟩
      · go_wp2_with fail
        go_ret
        exact ⟨ret_bool (by rw [HRF.out]; simp only [eq_dec, Bool.true_and]), B2.out⟩
end Go.Proofs.YtjakhiafkjaghaaGreat
