/- the walk of laws.FnTracesPut -/
import Derived.Test.YtjbggeeadodmpaaDrawTP
import Derived.Test.YtjbggeeadodmpaaBrTr
import Derived.Test.YtjbggeeadodmpaaTrFp
namespace Go.Proofs.Ytjbggeeadodmpaa
open Go.RowKit

theorem put_facts {l : List Tr} {t : Tr} (h : ptB l t = true) : (ptO l t).any (fun x => trEq x t) = true ∧ trsOk (ptO l t) = true ∧ ptB (ptO l t) t = true ∧ ptO (ptO l t) t = ptO l t := by
  have e : ptO l t = trPut l t := by unfold ptO; rw [if_pos h]
  have hb := h
  unfold ptB at hb
  rw [Bool.and_eq_true] at hb
  obtain ⟨h1, h2⟩ := hb
  have h3 := trsOk_all' h1
  have hany : (trPut l t).any (fun x => trEq x t) = true := by
    unfold trPut
    split
    · assumption
    · rw [List.any_append]
      have : trEq t t = true := (trEq_iff t t).2 rfl
      simp [this]
  have hok : trsOk (trPut l t) = true := by
    have hl := (ptO_ok l t).1
    rw [e] at hl
    unfold trsOk
    rw [Bool.and_eq_true, decide_eq_true_eq, List.all_eq_true]
    refine ⟨?_, hl⟩
    unfold trPut
    split
    · exact h3.1
    · rw [List.length_append]
      split <;> simp <;> omega
  rw [e]
  have hb2 : ptB (trPut l t) t = true := by unfold ptB; rw [hok, h2]; rfl
  refine ⟨hany, hok, hb2, ?_⟩
  have e2 : ptO (trPut l t) t = trPut (trPut l t) t := by unfold ptO; rw [if_pos hb2]
  rw [e2]
  show (if (trPut l t).any (fun x => trEq x t) then _ else _) = _
  rw [if_pos hany]

theorem any_snocT {α : Type} (P : α → Bool) (l : List α) (k : Nat) (h : k < l.length) : (l.take (k + 1)).any P = ((l.take k).any P || P l[k]) := by
  rw [List.take_succ_eq_append_getElem h, List.any_append]; simp

set_option maxRecDepth 100000 in
set_option maxHeartbeats 4000000 in
theorem walk_tracesPut (w : World) (a : Option Addr) (n c : Nat) (h : CodeAt w a n c) :
    Calls Try.prog 6 #[.slice a n c] w fun e w' => e = .returned (.bool true) ∧ Below w.heap.size w w' := by
  have hn := h.1
  have hc := h.2.1
  have HC := Lib.hid h
  clear h
  by_cases hl : 1048576 < n
  · go_enter Try.func6, Try.ntmps6
    go_wp2_with fail
    go_ret
    exact ⟨rfl, Below.refl _ _⟩
  go_enter Try.func6, Try.ntmps6
  go_wp2_with fail
  refine (drawTracesPut_any _ a n c HC.out).mono ?_
  rintro e w1 ⟨ts, a1, c1, t, au, cu, S, S2, rfl, hat, hpr, hk, hv, hb⟩
  have hg1 := hb.size
  have HT1 := Lib.hid (hat.alloc (.cells #[.int .i64 t.k, .slice au t.u.length cu, .int .i64 t.v] 25))
  have HP1 := Lib.hid (hpr.alloc (.cells #[.int .i64 t.k, .slice au t.u.length cu, .int .i64 t.v] 25))
  have HX1 := Lib.hid (hb.alloc hg1 (.cells #[.int .i64 t.k, .slice au t.u.length cu, .int .i64 t.v] 25))
  have HB1 := Lib.hid (Blk.new w1 25 #[.int .i64 t.k, .slice au t.u.length cu, .int .i64 t.v])
  have HKV := Lib.hid (And.intro hk hv)
  have hpure := @put_facts ts t
  obtain ⟨r, hr⟩ : ∃ r, r = ptO ts t := ⟨_, rfl⟩
  obtain ⟨b, hbb⟩ : ∃ b, b = ptB ts t := ⟨_, rfl⟩
  have HFR := Lib.hid (show ∀ x ∈ r, trFine x by rw [hr]; exact ptO_fine ts t)
  have hrl : r.length ≤ 61 := by rw [hr]; exact (ptO_ok ts t).2
  have HSP := Lib.hid (show ∀ w e w', TrsPost (ptO ts t) (ptB ts t) w e w' → Below w.heap.size w w' ∧ ∃ a c S, e = .returned (.tuple #[.slice a r.length c, .bool b]) ∧ TrsAt w' S r a c by rw [← hr, ← hbb]; exact fun w e w' h => h.at HFR.out)
  rw [← hr, ← hbb] at hpure
  have HP := Lib.hid hpure
  have HAG := Lib.hid (show ∀ w e w', TrsPost (ptO r t) (ptB r t) w e w' → Below w.heap.size w w' ∧ ∃ r2 b2 a c S, (b = true → r2 = r ∧ b2 = true) ∧ e = .returned (.tuple #[.slice a r2.length c, .bool b2]) ∧ TrsAt w' S r2 a c from fun w e w' h => by
    obtain ⟨hb, a, c, S, he, hat⟩ := h.at (ptO_fine r t)
    exact ⟨hb, _, _, a, c, S, fun hbt => ⟨(HP.out hbt).2.2.2, (HP.out hbt).2.2.1⟩, he, hat⟩)
  clear hat hpr hk hv hb hpure hr hbb HC
  obtain ⟨x0, x1, x2, -⟩ := HB1.out.three
  go_wp2_with fail
  clear x0 x1 x2
  refine (implPut_any _ _ _ ts t a1 au c1 cu HT1.out HP1.out).mono ?_
  intro e w2 hp
  obtain ⟨hb, a2, c2, S2', rfl, hat⟩ := HSP.out _ _ _ hp
  clear hp
  have HT2 := Lib.hid (HT1.out.below hb)
  have HP2 := Lib.hid (HP1.out.below hb)
  have HX2 := Lib.hid (HX1.out.trans (hb.mono HX1.out.size))
  have HB2 := Lib.hid (HB1.out.below hb HB1.out.lt)
  have HR2 := Lib.hid hat
  clear hb hat HT1 HP1 HX1 HB1
  obtain ⟨x0, x1, x2, -⟩ := HB2.out.three
  go_wp2_with fail
  clear x0 x1 x2
  refine (specPut_any _ _ _ ts t a1 au c1 cu HT2.out HP2.out HKV.out).mono ?_
  intro e w3 hp
  obtain ⟨hb, a3, c3, S3, rfl, hat⟩ := HSP.out _ _ _ hp
  clear hp
  have HP3 := Lib.hid (HP2.out.below hb)
  have HX3 := Lib.hid (HX2.out.trans (hb.mono HX2.out.size))
  have HB3 := Lib.hid (HB2.out.below hb HB2.out.lt)
  have HR3 := Lib.hid (HR2.out.below hb)
  have HQ3 := Lib.hid hat
  clear hb hat HT2 HP2 HX2 HB2 HR2
  go_wp2_with fail
  refine (brTraces_any _ _ _ r a2 a3 c2 c3 HR3.out HQ3.out).mono ?_
  rintro e w4 ⟨rfl, hb⟩
  have HP4 := Lib.hid (HP3.out.below hb)
  have HX4 := Lib.hid (HX3.out.trans (hb.mono HX3.out.size))
  have HB4 := Lib.hid (HB3.out.below hb HB3.out.lt)
  have HR4 := Lib.hid (HR3.out.below hb)
  clear hb HP3 HX3 HB3 HR3 HQ3
  have hnb : (b != b) = false := by simp
  obtain ⟨W4, hW4⟩ : ∃ W, W = w4 := ⟨_, rfl⟩
  subst hW4
  go_wp2_with fail
  clear hnb
  go_loopw [9, 10] (fun nv i wr => ∃ m k : Nat, k ≤ r.length ∧ i = .int .i64 k ∧ nv = .int .i64 m ∧ m ≤ k ∧ ((r.take k).any (fun x => trEq x t) = true → 1 ≤ m) ∧ Below W4.heap.size W4 wr) (fun _ i _ => r.length - (intOf i).toNat)
  case atStart => exact ⟨0, 0, by omega, rfl, rfl, by omega, by simp, Below.refl _ _⟩
  case round =>
    obtain ⟨m, k, hk, rfl, rfl, hmk, hany, hb⟩ := hrel
    have HA := Lib.hid hany
    have HB := Lib.hid hb
    have HP5 := Lib.hid (HP4.out.below hb)
    have HX5 := Lib.hid (HX4.out.trans (hb.mono HX4.out.size))
    have HB5 := Lib.hid (HB4.out.below hb HB4.out.lt)
    have HR5 := Lib.hid (HR4.out.below hb)
    obtain ⟨x0, x1, x2, -⟩ := HB5.out.three
    clear hany hb
    by_cases hlt : k < r.length
    · obtain ⟨bb, oo, a6, c6, ha6, hbl, _, e0, e1, e2, hs, _, _⟩ := HR5.out.get (Below.refl _ _) hlt
      have HAS := Lib.hid (any_snocT (fun x => trEq x t) r k hlt)
      obtain ⟨s, hs'⟩ : ∃ s, s = r[k] := ⟨_, rfl⟩
      rw [← hs'] at e0 e1 e2 hs HAS
      have HS := Lib.hid hs.drew
      have HPD := Lib.hid HP5.out.drew
      have HA6 := Lib.hid ha6
      obtain ⟨tv, htv⟩ : ∃ v, v = trEq s t := ⟨_, rfl⟩
      have HC2 := Lib.hid (brTrace2_any wr.drew _ _ s t a6 au c6 cu HS.out HPD.out)
      rw [← htv] at HC2 HAS
      clear hs hs' ha6 htv
      obtain rfl := HA6.out
      cases tv
      · have HAN := Lib.hid (show (r.take (k + 1)).any (fun x => trEq x t) = true → 1 ≤ m by rw [HAS.out, Bool.or_false]; exact HA.out)
        go_wp2_with fail
        go_region_with (go_at_call 17; refine HC2.out.mono ?_; rintro e w6 ⟨rfl, hb⟩)
        all_goals
          have HB' := Lib.hid (HB.out.drew.trans (hb.mono HB.out.size))
          clear hb
          go_wp2_with fail
          go_roundw
          case rel => exact ⟨m, k + 1, by omega, by go_num, rfl, by omega, HAN.out, HB'.out⟩
          case measure => simp [intOf]; omega
      · have hm1 : (1 : Nat) ≤ m + 1 := by omega
        go_wp2_with fail
        go_region_with (go_at_call 17; refine HC2.out.mono ?_; rintro e w6 ⟨rfl, hb⟩)
        all_goals
          have HB' := Lib.hid (HB.out.drew.trans (hb.mono HB.out.size))
          clear hb
          go_wp2_with fail
          go_roundw
          case rel => exact ⟨m + 1, k + 1, by omega, by go_num, by go_num, by omega, fun _ => by omega, HB'.out⟩
          case measure => simp [intOf]; omega
    · have HA2 := Lib.hid (show r.any (fun x => trEq x t) = true → 1 ≤ m by have h := HA.out; rwa [List.take_of_length_le (by omega)] at h)
      clear HA
      go_wp2_with fail
      refine (implPut_any _ _ _ r t a2 au c2 cu HR5.out HP5.out).mono ?_
      intro e w6 hp
      obtain ⟨hb, r2, b2, a7, c7, S7, h7, rfl, hat⟩ := HAG.out _ _ _ hp
      clear hp x0 x1 x2
      have HX6 := Lib.hid (HX5.out.trans (hb.mono HX5.out.size))
      have HR6 := Lib.hid (HR5.out.below hb)
      have HQ6 := Lib.hid hat
      have H7 := Lib.hid h7
      clear hb hat h7
      cases b
      · go_wp2_with fail
        go_ret
        exact ⟨rfl, HX6.out⟩
      · have hp2 := HP.out rfl
        have hm1 := HA2.out hp2.1
        have HOK := Lib.hid hp2.2.1
        obtain ⟨rfl, rfl⟩ := H7.out rfl
        have hmi : (1 : Int) ≤ (m : Int) := by omega
        clear hp2 HP
        go_wp2_with fail
        refine (brTraces_any _ _ _ r2 a7 a2 c7 c2 HQ6.out HR6.out).mono ?_
        rintro e w7 ⟨rfl, hb⟩
        have HX7 := Lib.hid (HX6.out.trans (hb.mono HX6.out.size))
        have HR7 := Lib.hid (HR6.out.below hb)
        clear hb
        go_wp2_with fail
        refine (tracesOk_any _ _ r2 a2 c2 HR7.out).mono ?_
        rintro e w8 ⟨rfl, hb⟩
        rw [HOK.out]
        have HX8 := Lib.hid (HX7.out.trans (hb.mono HX7.out.size))
        clear hb
        go_wp2_with fail
        go_ret
        exact ⟨rfl, HX8.out⟩
end Go.Proofs.Ytjbggeeadodmpaa
