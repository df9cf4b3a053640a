/- the walk of laws.FnCircleOf -/
import Derived.Test.YtmbgglmnbllpjaaDrawBK
import Derived.Test.YtmbgglmnbllpjaaBuildI
import Derived.Test.YtmbgglmnbllpjaaCircI
import Derived.Test.YtmbgglmnbllpjaaRing
import Derived.Test.YtmbgglmnbllpjaaLawDMay
import Derived.IntWalk
import Derived.Test.YtmbgglmnbllpjaaAllS
import Derived.Test.YtmbgglmnbllpjaaBs2
namespace Go.Proofs.Ytmbgglmnbllpjaa
open Go.RowKit


theorem co_no {s : Sh} {l : List Int} {key : Int} (h : coB s l key = true) : bkOk s l key = false := by
  unfold coB at h
  simp only [Bool.and_eq_true, Bool.not_eq_true'] at h
  unfold bkOk
  rw [h.2]; simp

set_option maxRecDepth 100000 in
set_option maxHeartbeats 4000000 in
theorem walk_circleOf (w : World) (a : Option Addr) (n c : Nat) (h : CodeAt w a n c) :
    Calls Try.prog 10 #[.slice a n c] w fun e w' => e = .returned (.bool true) ∧ Below w.heap.size w w' := by
  have hn := h.1
  have hc := h.2.1
  have HC := Lib.hid h
  clear h
  by_cases hl : 1048576 < n
  · go_enter Try.func10, Try.ntmps10
    go_wp2_with fail
    go_ret
    exact ⟨rfl, Below.refl _ _⟩
  go_enter Try.func10, Try.ntmps10
  go_wp2_with fail
  refine (drawCircleOf_any _ a n c HC.out).mono ?_
  rintro e w1 ⟨s, av, cv, a', c', l, ai, ci, key, rfl, hat, hin, htl, hml, hnl, hll, hb⟩
  have hsz1 := hb.size
  have HT1 := Lib.hid (hat.alloc (.cells #[.slice av s.m.length cv, .slice a' s.t.length c'] 50))
  have HI1 := Lib.hid (hin.alloc (.cells #[.slice av s.m.length cv, .slice a' s.t.length c'] 50))
  have HB1 := Lib.hid (Blk.new w1 50 #[.slice av s.m.length cv, .slice a' s.t.length c'])
  have HX1 := Lib.hid (hb.alloc hsz1 (.cells #[.slice av s.m.length cv, .slice a' s.t.length c'] 50))
  have HTL := Lib.hid htl
  have hbd := coL_bd s l key
  obtain ⟨L, hL⟩ : ∃ L, L = coL s l key := ⟨_, rfl⟩
  obtain ⟨z, hz⟩ : ∃ z, z = coB s l key := ⟨_, rfl⟩
  rw [← hL] at hbd
  have hup : ∀ w e w', CoPost s l key w e w' → Below w.heap.size w w' ∧ ∃ (a : Option Addr) (c : Nat), e = .returned (.tuple #[.slice a L.length c, .bool z]) ∧ IntsAt w' (fun b => w.heap.size ≤ b) L a c := by
    rintro w e w' ⟨hb, v, rfl, hr⟩
    rw [← hL] at hr
    obtain ⟨a, c, rfl, hi⟩ := hr.at (fun x hx => by have := hbd.1 x hx; unfold i64ok; omega)
    exact ⟨hb, a, c, by rw [hz], hi⟩
  have HUP := Lib.hid hup
  have HLL := Lib.hid hL
  have HZ := Lib.hid hz
  have hL10 : L.length ≤ 11 := hbd.2
  clear hat hin hb HC htl hup hL hz hbd
  go_wp2_with fail
  refine (implCircle_any s l key _ _ _ av cv a' c' ai ci HT1.out HI1.out).mono ?_
  intro e w2 hp
  obtain ⟨hb, a2, c2, rfl, hi2⟩ := HUP.out _ _ _ hp
  have hsz2 := hb.size
  simp only [World.size_alloc] at hsz2
  have HT2 := Lib.hid (HT1.out.below hb)
  have HI2 := Lib.hid (HI1.out.below hb)
  have HB2 := Lib.hid (HB1.out.below hb (by simp))
  have HX2 := Lib.hid (HX1.out.trans (hb.mono (by simp; omega)))
  have HL2 := Lib.hid hi2
  clear hb hp hi2 HT1 HI1 HB1 HX1
  obtain ⟨x0, x1, f0, f1⟩ := HB2.out.two
  go_wp2_with fail
  refine (specCircle_any s l key _ _ _ av cv a' c' ai ci HT2.out (by omega) HI2.out).mono ?_
  intro e w3 hp
  obtain ⟨hb, a3, c3, rfl, hi3⟩ := HUP.out _ _ _ hp
  have hsz3 := hb.size
  have HT3 := Lib.hid (HT2.out.below hb)
  have HI3 := Lib.hid (HI2.out.below hb)
  have HB3 := Lib.hid (HB2.out.below hb (by omega))
  have HX3 := Lib.hid (HX2.out.trans (hb.mono (by omega)))
  have HL3 := Lib.hid (HL2.out.below hb)
  have HM3 := Lib.hid hi3
  clear hb hp hi3 HT2 HI2 HB2 HX2 HL2 x0 x1 f0 f1
  have hnb : (z != z) = false := by simp
  go_wp2_with fail
  refine (brInts_any _ _ _ L a2 a3 c2 c3 HL3.out HM3.out).mono ?_
  rintro e w4 ⟨rfl, hb⟩
  have hsz4 := hb.size
  have HT4 := Lib.hid (HT3.out.below hb)
  have HI4 := Lib.hid (HI3.out.below hb)
  have HB4 := Lib.hid (HB3.out.below hb (by omega))
  have HX4 := Lib.hid (HX3.out.trans (hb.mono (by omega)))
  have HL4 := Lib.hid (HL3.out.below hb)
  clear hb HT3 HI3 HB3 HX3 HL3 HM3
  obtain ⟨x0, x1, f0, f1⟩ := HB4.out.two
  go_wp2_with fail
  clear hnb
  refine (implBuildKey_any s l key _ _ _ av cv a' c' ai ci HT4.out HI4.out).mono ?_
  rintro e w5 ⟨rfl, hb⟩
  obtain ⟨v, hv⟩ : ∃ v, v = bkV s l key := ⟨_, rfl⟩
  obtain ⟨o, ho⟩ : ∃ b, b = bkOk s l key := ⟨_, rfl⟩
  rw [← hv, ← ho]
  have hzo : z = true → o = false := fun h => by rw [ho]; exact co_no (by rw [← HZ.out]; exact h)
  have hsz5 := hb.size
  have HT5 := Lib.hid (HT4.out.below hb)
  have HB5 := Lib.hid (HB4.out.below hb (by omega))
  have HX5 := Lib.hid (HX4.out.trans (hb.mono (by omega)))
  have HL5 := Lib.hid (HL4.out.below hb)
  clear hb HT4 HI4 HB4 HX4 HL4 x0 x1 f0 f1 hv ho
  cases z
  · have hL0 : L = [] := by rw [HLL.out]; unfold coL; rw [if_neg (by rw [← HZ.out]; simp)]
    subst hL0
    clear hzo
    go_wp2_with fail
    go_loopw [12, 13, 14] (fun i _ _ wr => i = .int .i64 0 ∧ wr = w5) (fun _ _ _ _ => 0)
    case atStart => exact ⟨rfl, rfl⟩
    case round =>
      obtain ⟨rfl, rfl⟩ := hrel
      go_wp2_with fail
      go_ret
      exact ⟨rfl, HX5.out⟩
  · obtain rfl := hzo rfl
    have hring := coL_ring HZ.out.symm
    rw [← HLL.out] at hring
    have hpos : 0 < L.length := List.length_pos_iff.2 hring.1
    have HRG := Lib.hid hring.2
    have hposb : decide (0 < L.length) = true := by simp [hpos]
    clear hring
    go_wp2_with fail
    go_loopw [12, 13, 14] (fun i _ _ wr => ∃ k : Nat, k ≤ L.length ∧ i = .int .i64 k ∧ Below w5.heap.size w5 wr) (fun i _ _ _ => L.length - (intOf i).toNat)
    case atStart => exact ⟨0, by omega, rfl, Below.refl _ _⟩
    case round =>
      obtain ⟨k, hk, rfl, hb⟩ := hrel
      have hszr := hb.size
      have HXR := Lib.hid (HX5.out.trans (hb.mono (by omega)))
      have HBW := Lib.hid hb
      have HBR := Lib.hid (HB5.out.below hb (by omega))
      have HTR := Lib.hid (HT5.out.below hb)
      have HLR := Lib.hid (HL5.out.below hb)
      clear hb
      by_cases hlt : k < L.length
      · obtain ⟨hmd, y, hy, hmay, hy0, hy9⟩ := HRG.out k hlt
        obtain ⟨m, hm⟩ : ∃ m, m = (k + 1) % L.length := ⟨_, rfl⟩
        rw [← hm] at hy
        have hml : m < L.length := by rw [hm]; exact Nat.mod_lt _ hpos
        rw [List.getElem?_eq_getElem hml, Option.some.injEq] at hy
        obtain ⟨bi, oi, rfl, _, _, hci⟩ := HLR.out.get (Below.refl _ _) hlt
        obtain ⟨bj, oj, hbj, _, _, hcj⟩ := HLR.out.get (Below.refl _ _) hml
        simp only [Option.some.injEq, Addr.mk.injEq, and_true] at hbj
        obtain ⟨rfl, rfl⟩ := hbj
        rw [hy] at hcj
        have hkb := mdI_bd hmd
        obtain ⟨q, hq⟩ : ∃ q : Nat, L[k] = (q : Int) := ⟨L[k].toNat, by omega⟩
        rw [hq] at hci hmd hmay hkb
        have hqm : q < s.m.length := by omega
        have hqt : q < s.t.length := by have := HTL.out; omega
        have hmq : s.m[q] = true := by rw [mdI_nat] at hmd; unfold Sh.md at hmd; rw [getD_len hqm] at hmd; exact hmd
        have htk : s.tkI (q : Int) = s.t[q] := by unfold Sh.tkI; rw [Int.toNat_natCast]; exact getD_len hqt
        rw [htk] at hmay
        have htok : s.t[q].ok = true := by
          have h := HZ.out.symm
          unfold coB at h
          rw [Bool.and_eq_true, Bool.and_eq_true] at h
          have := Sh.tk_ok (inOk_of h.1.1).1 q
          rw [show s.tk q = s.t[q] from getD_len hqt] at this
          exact this
        obtain ⟨t, ht⟩ : ∃ t, t = s.t[q] := ⟨_, rfl⟩
        rw [← ht] at hmay htok
        have hmem : y ∈ mayO t := by unfold mayO; rw [if_pos htok]; exact mayI_mem.2 ⟨hy0, by omega, hmay⟩
        have HME := Lib.hid hmem
        have HT := Lib.hid ht
        have HMQ := Lib.hid hmq
        have hw1 : IntKind.i64.wrap ((k : Int) + 1) = (k : Int) + 1 := IntWalk.i64_in _ ⟨by omega, by omega⟩
        have hw2 : ((k : Int) + 1).tmod (L.length : Int) = (m : Int) := by
          have e1 : ((k : Int) + 1).tmod (L.length : Int) = ((k : Int) + 1) % (L.length : Int) := Int.tmod_eq_emod_of_nonneg (by omega)
          rw [e1, hm, Int.natCast_emod]; simp
        have hmi : (m : Int) < (L.length : Int) := by omega
        have hLne : ((L.length : Int) == 0) = false := beq_eq_false_iff_ne.2 (by omega)
        clear hy hkb hq htk hmay hmd htok hmem ht hm hmq
        go_wp2_with fail
        go_quiet (fail)
        revert nq
        intro n1
        obtain ⟨W, hW⟩ : ∃ W, W = wr.drewN n1 := ⟨_, rfl⟩
        have hbW : Below wr.heap.size wr W := by rw [hW]; exact below_drewN (Below.refl _ _) n1
        rw [← hW]
        clear hW
        have hbk := HBR.out.below hbW HBR.out.lt
        obtain ⟨bt, ot, at_, ct, rfl, _, _, e0, e1, e2, hs, ok1, ok2⟩ := (HTR.out.below hbW).2.elem (Below.refl _ _) hqt
        obtain ⟨bm, om, rfl, _, _, hcm⟩ := (HTR.out.below hbW).1.get (Below.refl _ _) hqm
        rw [← HT.out] at e0 e1 e2 hs
        rw [HMQ.out] at hcm
        have HS := Lib.hid hs
        have HBW2 := Lib.hid (HBW.out.trans (hbW.mono hszr))
        have hsW := hbW.size
        obtain ⟨x0, x1, f0, f1⟩ := hbk.two
        clear hbW hs hbk hci hcj hw1 hw2 hmi hLne
        go_wp2_with fail
        refine (implMay_any t _ _ at_ ct HS.out).mono ?_
        rintro e w6 ⟨hb, v6, rfl, hr6⟩
        obtain ⟨a6, c6, rfl, hi6⟩ := hr6.at (fun x hx => by
          unfold mayO at hx
          split at hx
          · have := mayI_mem.1 hx; unfold i64ok; omega
          · simp at hx)
        have HB6 := Lib.hid (HBW2.out.trans (hb.mono (by omega)))
        have HI6 := Lib.hid hi6
        obtain ⟨K, hK⟩ : ∃ K, K = mayO t := ⟨_, rfl⟩
        have hin6 : decide (y ∈ K) = true := by rw [hK]; simp [HME.out]
        have HIN6 := Lib.hid hin6
        rw [← hK] at HI6 ⊢
        clear hb hr6 hi6 x0 x1 f0 f1 e0 e1 e2 hcm hK hin6
        go_wp2_with fail
        refine (brHas_any _ _ K a6 c6 y HI6.out).mono ?_
        rintro e _ ⟨rfl, rfl⟩
        rw [HIN6.out]
        go_wp2_with fail
        go_roundw
        case rel => exact ⟨k + 1, by omega, by go_num, HB6.out⟩
        case measure => simp [intOf]; omega
      · have HLE := Lib.hid (show k = L.length by omega)
        go_wp2_with fail
        go_ret
        exact ⟨rfl, HXR.out⟩
end Go.Proofs.Ytmbgglmnbllpjaa
