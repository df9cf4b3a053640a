/- the walk of laws.FnTracesFind -/
import Derived.Test.YtjbggeeadodmpaaDrawTF
import Derived.Test.YtjbggeeadodmpaaTrN2
import Derived.Test.YtjbggeeadodmpaaTrFd
namespace Go.Proofs.Ytjbggeeadodmpaa
open Go.RowKit

/-- What is found is of the key, and holds. -/
theorem fd_holds {l : List Tr} {key : Int} {y : List Int} (h : fdB l key y = true) : (fdO l key y).k = key ∧ trH (fdO l key y) y = true := by
  unfold fdB at h
  rw [Bool.and_eq_true] at h
  obtain ⟨h1, h2⟩ := h
  obtain ⟨t, ht⟩ := Option.isSome_iff_exists.1 h2
  have e : fdO l key y = t := by unfold fdO; rw [if_pos h1, ht]; rfl
  rw [e]
  have hp := List.find?_some ht
  have hm := List.mem_of_find?_eq_some ht
  rw [Bool.and_eq_true] at h1
  unfold fdP at hp
  rw [Bool.and_eq_true, decide_eq_true_eq] at hp
  refine ⟨hp.1, ?_⟩
  unfold trH
  rw [(trsOk_all h1.1).2 t hm, h1.2, hp.2]
  rfl

set_option maxRecDepth 100000 in
set_option maxHeartbeats 4000000 in
theorem walk_tracesFind (w : World) (a : Option Addr) (n c : Nat) (h : CodeAt w a n c) :
    Calls Try.prog 5 #[.slice a n c] w fun e w' => e = .returned (.bool true) ∧ Below w.heap.size w w' := by
  have hn := h.1
  have hc := h.2.1
  have HC := Lib.hid h
  clear h
  by_cases hl : 1048576 < n
  · go_enter Try.func5, Try.ntmps5
    go_wp2_with fail
    go_ret
    exact ⟨rfl, Below.refl _ _⟩
  go_enter Try.func5, Try.ntmps5
  go_wp2_with fail
  refine (drawTracesFind_any _ a n c HC.out).mono ?_
  rintro e w1 ⟨ts, a1, c1, key, l, av, cv, S, S2, rfl, hat, hia, hb⟩
  have HT1 := Lib.hid hat
  have HI1 := Lib.hid hia
  have HX1 := Lib.hid hb
  have hpure := @fd_holds ts key l
  have hbd := (fdO_bd ts key l).2
  obtain ⟨r, hr⟩ : ∃ r, r = fdO ts key l := ⟨_, rfl⟩
  obtain ⟨b, hbb⟩ : ∃ b, b = fdB ts key l := ⟨_, rfl⟩
  have HFR := Lib.hid (show ∀ p ∈ r.u, i64ok p.1 ∧ i64ok p.2 by rw [hr]; exact (fdO_bd ts key l).1)
  have HSP := Lib.hid (show ∀ w e w', TrPost (fdO ts key l) (fdB ts key l) w e w' → Below w.heap.size w w' ∧ ∃ a c S, e = .returned (.tuple #[.agg #[.int .i64 r.k, .slice a r.u.length c, .int .i64 r.v], .bool b]) ∧ PrsAt w' S r.u a c by rw [← hr, ← hbb]; exact fun w e w' h => h.at HFR.out)
  rw [← hr, ← hbb] at hpure
  rw [← hr] at hbd
  have HP := Lib.hid hpure
  clear hat hia hb HC hr hbb hpure
  go_wp2_with fail
  refine (implFind_any _ _ _ ts key l a1 av c1 cv HT1.out HI1.out).mono ?_
  intro e w2 hp
  obtain ⟨hb, a2, c2, S2, rfl, hpr⟩ := HSP.out _ _ _ hp
  clear hp
  have HT2 := Lib.hid ((HT1.out.below hb).alloc (.cells #[.int .i64 r.k, .slice a2 r.u.length c2, .int .i64 r.v] 25))
  have HI2 := Lib.hid ((HI1.out.below hb).alloc (.cells #[.int .i64 r.k, .slice a2 r.u.length c2, .int .i64 r.v] 25))
  have HX2 := Lib.hid ((HX1.out.trans (hb.mono HX1.out.size)).alloc (Nat.le_trans HX1.out.size hb.size) (.cells #[.int .i64 r.k, .slice a2 r.u.length c2, .int .i64 r.v] 25))
  have HP2 := Lib.hid (hpr.alloc (.cells #[.int .i64 r.k, .slice a2 r.u.length c2, .int .i64 r.v] 25))
  have XB2 := Lib.hid (Blk.new w2 25 #[.int .i64 r.k, .slice a2 r.u.length c2, .int .i64 r.v])
  clear hb hpr HT1 HI1 HX1
  go_wp2_with fail
  refine (specFind_any _ _ _ ts key l a1 av c1 cv HT2.out HI2.out).mono ?_
  intro e w3 hp
  obtain ⟨hb, a3, c3, S3, rfl, hpr⟩ := HSP.out _ _ _ hp
  clear hp
  have HI3 := Lib.hid ((HI2.out.below hb).alloc (.cells #[.int .i64 r.k, .slice a3 r.u.length c3, .int .i64 r.v] 25))
  have HX3 := Lib.hid ((HX2.out.trans (hb.mono HX2.out.size)).alloc (Nat.le_trans HX2.out.size hb.size) (.cells #[.int .i64 r.k, .slice a3 r.u.length c3, .int .i64 r.v] 25))
  have HP3 := Lib.hid ((HP2.out.below hb).alloc (.cells #[.int .i64 r.k, .slice a3 r.u.length c3, .int .i64 r.v] 25))
  have XB3 := Lib.hid ((XB2.out.below hb XB2.out.lt).alloc (.cells #[.int .i64 r.k, .slice a3 r.u.length c3, .int .i64 r.v] 25))
  have HQ3 := Lib.hid (hpr.alloc (.cells #[.int .i64 r.k, .slice a3 r.u.length c3, .int .i64 r.v] 25))
  have XQ3 := Lib.hid (Blk.new w3 25 #[.int .i64 r.k, .slice a3 r.u.length c3, .int .i64 r.v])
  clear hb hpr HT2 HI2 HX2 HP2 XB2
  obtain ⟨y0, y1, y2, -⟩ := XB3.out.three
  obtain ⟨z0, z1, z2, -⟩ := XQ3.out.three
  go_wp2_with fail
  clear y0 y1 y2 z0 z1 z2
  refine (brTrace_any _ _ _ r.k r.v r.u a2 a3 c2 c3 HP3.out HQ3.out).mono ?_
  rintro e w4 ⟨rfl, hb⟩
  have HI4 := Lib.hid (HI3.out.below hb)
  have HX4 := Lib.hid (HX3.out.trans (hb.mono HX3.out.size))
  have HP4 := Lib.hid (HP3.out.below hb)
  have XB4 := Lib.hid (XB3.out.below hb XB3.out.lt)
  clear hb HI3 HX3 HP3 XB3 HQ3 XQ3
  obtain ⟨y0, y1, y2, -⟩ := XB4.out.three
  have hnb : (b != b) = false := by simp
  cases b
  · go_wp2_with fail
    go_ret
    exact ⟨rfl, HX4.out⟩
  · have hp2 := HP.out rfl
    have hH := Lib.hid hp2.2
    have heq : (r.k == key) = true := by simpa using hp2.1
    clear hp2 HP
    go_wp2_with fail
    refine (implHolds_any _ _ _ r a2 av c2 cv l HP4.out HI4.out).mono ?_
    rintro e w6 ⟨rfl, hb⟩
    rw [hH.out]
    have HX6 := Lib.hid (HX4.out.trans (hb.mono HX4.out.size))
    clear hb y0 y1 y2 XB4 HP4
    go_wp2_with fail
    go_ret
    exact ⟨rfl, HX6.out⟩
end Go.Proofs.Ytjbggeeadodmpaa
