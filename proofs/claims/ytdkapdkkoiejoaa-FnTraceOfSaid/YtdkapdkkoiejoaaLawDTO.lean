/- brTrace; the walk of laws.FnTraceOf -/
import Derived.Test.YtdkapdkkoiejoaaDrawTO
import Derived.Test.YtdkapdkkoiejoaaTrA
import Derived.Test.YtdkapdkkoiejoaaTr2
import Derived.Test.YtdkapdkkoiejoaaBs0
import Derived.Laws.StructEq
namespace Go.Proofs.Ytdkapdkkoiejoaa
open Go.RowKit

theorem ustep_nd : ∀ (ks acc : List Int), acc.Nodup → (ks.foldl ustep acc).Nodup
  | [], acc, h => h
  | k :: r, acc, h => by
    rw [List.foldl_cons]
    refine ustep_nd r _ ?_
    unfold ustep
    split
    · exact h
    · rename_i hk
      rw [List.nodup_append]
      refine ⟨h, by simp, ?_⟩
      intro a ha b hb
      simp at hb
      subst hb
      intro e
      subst e
      exact hk ha
/-- A trace that was made holds, and its value is the task's. -/
theorem trO_holds (key : Int) (t : T) (lv : List Int) (h : trB key t lv = true) : trH (trO key t lv) lv = true ∧ tvV t lv = (trO key t lv).v := by
  have hb := (trO_bd key t lv).1
  have hu : (trO key t lv) = trOf key t (vf lv) := by unfold trO; rw [if_pos h]
  rw [hu] at hb ⊢
  unfold trB at h
  have hkey : kin key = true := by simp only [Bool.and_eq_true] at h; exact h.2
  have htv : (t.ok && vok lv) = true := by rw [Bool.and_eq_true] at h; exact h.1
  have hv : vok lv = true := by simp only [Bool.and_eq_true] at htv; exact htv.2
  have hfit : t.fit = true := by
    have h1 : t.ok = true := by simp only [Bool.and_eq_true] at htv; exact htv.1
    have : t.fit = true ∧ t.nodes ≤ 15 := by simpa [T.ok] using h1
    exact this.1
  have hok : (trOf key t (vf lv)).ok = true := by
    refine (Tr.ok_iff _).2 ⟨by simpa [kin, trOf] using hkey, ?_, hb, ?_⟩
    · exact T.val_bd (vf lv) (vf_bd (vok_mem hv).2) t hfit
    · have : keysOf (trOf key t (vf lv)).u = usesL (t.kys (vf lv)) := by simp [keysOf, trOf, Function.comp_def]
      rw [this]
      exact ustep_nd _ [] (by simp)
  have hh : (trOf key t (vf lv)).holds (vf lv) = true := by
    unfold Tr.holds
    rw [List.all_eq_true]
    intro p hp
    obtain ⟨k, hk, rfl⟩ := List.mem_map.1 (show p ∈ (usesL (t.kys (vf lv))).map (fun k => (k, vf lv k)) from hp)
    simp
  refine ⟨by unfold trH; rw [hok, hv, hh]; rfl, ?_⟩
  unfold tvV
  rw [if_pos htv]
  rfl

set_option maxHeartbeats 2000000 in
/-- brFetches of two readings of the same pairs -/
theorem brPrs_any (w : World) (S S' : Nat → Prop) (l : List (Int × Int)) (a a' : Option Addr) (c c' : Nat) (h : PrsAt w S l a c) (h' : PrsAt w S' l a' c') :
    Calls Try.prog 28 #[.slice a l.length c, .slice a' l.length c'] w fun e w' => e = .returned (.bool true) ∧ Below w.heap.size w w' := by
  have hlen : l.length ≤ 9223372036854775807 := RwAt.len h
  have H := Lib.hid h
  have H' := Lib.hid h'
  clear h h'
  have hne : (((l.length : Nat) : Int) != ((l.length : Nat) : Int)) = false := by simp
  go_enter Try.func28, Try.ntmps28
  go_wp2_with fail
  clear hne
  go_loopw [5] (fun i wr => ∃ k : Nat, k ≤ l.length ∧ i = .int .i64 k ∧ Below w.heap.size w wr) (fun i _ => l.length - (intOf i).toNat)
  case atStart => exact ⟨0, by omega, rfl, Below.refl _ _⟩
  case round =>
    obtain ⟨k, hk, rfl, hb⟩ := hrel
    have HB := Lib.hid hb
    clear hb
    by_cases hlt : k < l.length
    · obtain ⟨b, o, rfl, hbl, _, e0, e1, _, _⟩ := H.out.get HB.out hlt
      obtain ⟨b', o', rfl, hbl', _, e0', e1', _, _⟩ := H'.out.get HB.out hlt
      obtain ⟨u, hu⟩ : ∃ u, u = l[k].1 := ⟨_, rfl⟩
      obtain ⟨v, hv⟩ : ∃ v, v = l[k].2 := ⟨_, rfl⟩
      rw [← hu] at e0 e0'
      rw [← hv] at e1 e1'
      clear hu hv
      have hu1 : (u == u) = true := by simp
      have hv1 : (v == v) = true := by simp
      have hu2 : (u != u) = false := by simp
      have hv2 : (v != v) = false := by simp
      go_wp2_with fail
      go_quiet (fail)
      go_wp2_with fail
      go_roundw
      case rel => exact ⟨k + 1, by omega, by go_num, below_drewN HB.out _⟩
      case measure => simp [intOf]; omega
    · go_wp2_with fail
      go_ret
      exact ⟨rfl, HB.out⟩

set_option maxRecDepth 100000 in
set_option maxHeartbeats 4000000 in
theorem brTrace_any (w : World) (S S' : Nat → Prop) (k v : Int) (l : List (Int × Int)) (a a' : Option Addr) (c c' : Nat) (h : PrsAt w S l a c) (h' : PrsAt w S' l a' c') :
    Calls Try.prog 9 #[.agg #[.int .i64 k, .slice a l.length c, .int .i64 v], .agg #[.int .i64 k, .slice a' l.length c', .int .i64 v]] w fun e w' => e = .returned (.bool true) ∧ Below w.heap.size w w' := by
  have hl1 : l.length ≤ 9223372036854775807 := RwAt.len h
  have B0 := Lib.hid ((Blk.new w 31 #[.int .i64 k, .slice a l.length c, .int .i64 v]).alloc (.cells #[.int .i64 k, .slice a' l.length c', .int .i64 v] 31))
  have B1 := Lib.hid (show Blk ((w.alloc (.cells #[.int .i64 k, .slice a l.length c, .int .i64 v] 31)).alloc (.cells #[.int .i64 k, .slice a' l.length c', .int .i64 v] 31)) (w.heap.size + 1) 31 #[.int .i64 k, .slice a' l.length c', .int .i64 v] by
    have := Blk.new (w.alloc (.cells #[.int .i64 k, .slice a l.length c, .int .i64 v] 31)) 31 #[.int .i64 k, .slice a' l.length c', .int .i64 v]; simpa using this)
  have H := Lib.hid ((h.alloc (.cells #[.int .i64 k, .slice a l.length c, .int .i64 v] 31)).alloc (.cells #[.int .i64 k, .slice a' l.length c', .int .i64 v] 31))
  have H' := Lib.hid ((h'.alloc (.cells #[.int .i64 k, .slice a l.length c, .int .i64 v] 31)).alloc (.cells #[.int .i64 k, .slice a' l.length c', .int .i64 v] 31))
  have HB0 := Lib.hid (show Below w.heap.size w ((w.alloc (.cells #[.int .i64 k, .slice a l.length c, .int .i64 v] 31)).alloc (.cells #[.int .i64 k, .slice a' l.length c', .int .i64 v] 31)) from ((Below.refl _ _).alloc (Nat.le_refl _) _).alloc (by simp) _)
  clear h h'
  obtain ⟨x0, x1, x2, -⟩ := B0.out.three
  obtain ⟨y0, y1, y2, -⟩ := B1.out.three
  have t0 : (k == k) = true := by simp
  have t1 : (v == v) = true := by simp
  go_enter Try.func9, Try.ntmps9
  go_wp2_with fail
  refine (brPrs_any _ _ _ l a a' c c' H.out H'.out).mono ?_
  rintro e w1 ⟨rfl, hb⟩
  have HX := Lib.hid (HB0.out.trans (hb.mono (by simp <;> omega)))
  clear hb x0 x1 x2 y0 y1 y2 t0 t1
  go_wp2_with fail
  go_ret
  exact ⟨rfl, HX.out⟩

set_option maxRecDepth 100000 in
set_option maxHeartbeats 4000000 in
theorem walk_traceOf (w : World) (a : Option Addr) (n c : Nat) (h : CodeAt w a n c) :
    Calls Try.prog 3 #[.slice a n c] w fun e w' => e = .returned (.bool true) ∧ Below w.heap.size w w' := by
  have hn := h.1
  have hc := h.2.1
  have HC := Lib.hid h
  clear h
  by_cases hl : 1048576 < n
  · go_enter Try.func3, Try.ntmps3
    go_wp2_with fail
    go_ret
    exact ⟨rfl, Below.refl _ _⟩
  go_enter Try.func3, Try.ntmps3
  go_wp2_with fail
  refine (drawTraceOf_any _ a n c HC.out).mono ?_
  rintro e w1 ⟨key, t, a1, c1, l, v, rfl, hkey, hat, ok1, ok2, hm, hnr, hll, hlb, hb⟩
  obtain ⟨av, cv, rfl, hia⟩ := hnr.at (by intro x hx; have := hlb x hx; unfold i64ok; omega)
  have hsz1 := hb.size
  have HT1 := Lib.hid (hat.alloc (.cells #[.int .i64 t.k, .int .i64 t.n, .slice a1 t.ps.length c1] 25))
  have HI1 := Lib.hid (hia.alloc (.cells #[.int .i64 t.k, .int .i64 t.n, .slice a1 t.ps.length c1] 25))
  have HB1 := Lib.hid (Blk.new w1 25 #[.int .i64 t.k, .int .i64 t.n, .slice a1 t.ps.length c1])
  have HX1 := Lib.hid (hb.alloc hsz1 (.cells #[.int .i64 t.k, .int .i64 t.n, .slice a1 t.ps.length c1] 25))
  have HNL := Lib.hid (show nodesL t.ps ≤ 1048576 by have := t.nodes_eq; omega)
  have hpure := trO_holds key t l
  have hbd := (trO_bd key t l).2
  obtain ⟨r, hr⟩ : ∃ r, r = trO key t l := ⟨_, rfl⟩
  obtain ⟨b, hbb⟩ : ∃ b, b = trB key t l := ⟨_, rfl⟩
  have HFR := Lib.hid (show ∀ p ∈ r.u, i64ok p.1 ∧ i64ok p.2 by rw [hr]; exact trO_fine key t l)
  have HSP := Lib.hid (show ∀ w e w', TrPost (trO key t l) (trB key t l) w e w' → Below w.heap.size w w' ∧ ∃ a c S, e = .returned (.tuple #[.agg #[.int .i64 r.k, .slice a r.u.length c, .int .i64 r.v], .bool b]) ∧ PrsAt w' S r.u a c by rw [← hr, ← hbb]; exact fun w e w' h => h.at HFR.out)
  rw [← hr, ← hbb] at hpure
  rw [← hr] at hbd
  have HP := Lib.hid hpure
  clear hat hb HC ok1 ok2 hnr hia hlb hr hbb hpure hkey hm
  obtain ⟨x0, x1, x2, -⟩ := HB1.out.three
  go_wp2_with fail
  clear x0 x1 x2
  refine (implTraceOf_any key t l _ _ _ a1 av c1 cv HT1.out HI1.out).mono ?_
  intro e w2 hp
  obtain ⟨hb, a2, c2, S2, rfl, hpr⟩ := HSP.out _ _ _ hp
  clear hp
  have hsz2 := hb.size
  simp only [World.size_alloc] at hsz2
  have HT2 := Lib.hid ((HT1.out.below hb).alloc (.cells #[.int .i64 r.k, .slice a2 r.u.length c2, .int .i64 r.v] 31))
  have HI2 := Lib.hid ((HI1.out.below hb).alloc (.cells #[.int .i64 r.k, .slice a2 r.u.length c2, .int .i64 r.v] 31))
  have HB2 := Lib.hid ((HB1.out.below hb (by simp)).alloc (.cells #[.int .i64 r.k, .slice a2 r.u.length c2, .int .i64 r.v] 31))
  have HX2 := Lib.hid ((HX1.out.trans (hb.mono (by simp <;> omega))).alloc (by omega) (.cells #[.int .i64 r.k, .slice a2 r.u.length c2, .int .i64 r.v] 31))
  have HP2 := Lib.hid (hpr.alloc (.cells #[.int .i64 r.k, .slice a2 r.u.length c2, .int .i64 r.v] 31))
  have XB2 := Lib.hid (Blk.new w2 31 #[.int .i64 r.k, .slice a2 r.u.length c2, .int .i64 r.v])
  clear hb hpr HT1 HI1 HB1 HX1
  obtain ⟨x0, x1, x2, -⟩ := HB2.out.three
  obtain ⟨y0, y1, y2, -⟩ := XB2.out.three
  go_wp2_with fail
  clear x0 x1 x2 y0 y1 y2
  refine (specTraceOf_any key t l _ _ _ a1 av c1 cv HT2.out HI2.out HNL.out).mono ?_
  intro e w3 hp
  obtain ⟨hb, a3, c3, S3, rfl, hpr⟩ := HSP.out _ _ _ hp
  clear hp
  have hsz3 := hb.size
  simp only [World.size_alloc] at hsz3
  have HT3 := Lib.hid ((HT2.out.below hb).alloc (.cells #[.int .i64 r.k, .slice a3 r.u.length c3, .int .i64 r.v] 31))
  have HI3 := Lib.hid ((HI2.out.below hb).alloc (.cells #[.int .i64 r.k, .slice a3 r.u.length c3, .int .i64 r.v] 31))
  have HB3 := Lib.hid ((HB2.out.below hb HB2.out.lt).alloc (.cells #[.int .i64 r.k, .slice a3 r.u.length c3, .int .i64 r.v] 31))
  have HX3 := Lib.hid ((HX2.out.trans (hb.mono HX2.out.size)).alloc (by omega) (.cells #[.int .i64 r.k, .slice a3 r.u.length c3, .int .i64 r.v] 31))
  have HP3 := Lib.hid ((HP2.out.below hb).alloc (.cells #[.int .i64 r.k, .slice a3 r.u.length c3, .int .i64 r.v] 31))
  have XB3 := Lib.hid ((XB2.out.below hb XB2.out.lt).alloc (.cells #[.int .i64 r.k, .slice a3 r.u.length c3, .int .i64 r.v] 31))
  have HQ3 := Lib.hid (hpr.alloc (.cells #[.int .i64 r.k, .slice a3 r.u.length c3, .int .i64 r.v] 31))
  have XQ3 := Lib.hid (Blk.new w3 31 #[.int .i64 r.k, .slice a3 r.u.length c3, .int .i64 r.v])
  clear hb hpr HT2 HI2 HB2 HX2 HP2 XB2
  obtain ⟨x0, x1, x2, -⟩ := HB3.out.three
  obtain ⟨y0, y1, y2, -⟩ := XB3.out.three
  obtain ⟨z0, z1, z2, -⟩ := XQ3.out.three
  go_wp2_with fail
  clear x0 x1 x2 y0 y1 y2 z0 z1 z2
  refine (brTrace_any _ _ _ r.k r.v r.u a2 a3 c2 c3 HP3.out HQ3.out).mono ?_
  rintro e w4 ⟨rfl, hb⟩
  have HT4 := Lib.hid (HT3.out.below hb)
  have HI4 := Lib.hid (HI3.out.below hb)
  have HB4 := Lib.hid (HB3.out.below hb HB3.out.lt)
  have HX4 := Lib.hid (HX3.out.trans (hb.mono HX3.out.size))
  have HP4 := Lib.hid (HP3.out.below hb)
  have XB4 := Lib.hid (XB3.out.below hb XB3.out.lt)
  clear hb HT3 HI3 HB3 HX3 HP3 XB3 HQ3 XQ3
  obtain ⟨x0, x1, x2, -⟩ := HB4.out.three
  obtain ⟨y0, y1, y2, -⟩ := XB4.out.three
  have hnb : (b != b) = false := by simp
  go_wp2_with fail
  clear x0 x1 x2 y0 y1 y2 hnb
  refine (implValue_any t l _ _ _ a1 av c1 cv HT4.out HI4.out).mono ?_
  rintro e w5 ⟨rfl, hb⟩
  have HI5 := Lib.hid (HI4.out.below hb)
  have HX5 := Lib.hid (HX4.out.trans (hb.mono HX4.out.size))
  have HP5 := Lib.hid (HP4.out.below hb)
  have XB5 := Lib.hid (XB4.out.below hb XB4.out.lt)
  clear hb HT4 HI4 HB4 HX4 HP4 XB4
  obtain ⟨y0, y1, y2, -⟩ := XB5.out.three
  obtain ⟨tv, htv⟩ : ∃ x, x = tvV t l := ⟨_, rfl⟩
  rw [← htv]
  cases b
  · clear htv
    go_wp2_with fail
    go_ret
    exact ⟨rfl, HX5.out⟩
  · have hp2 := HP.out rfl
    have hH := Lib.hid hp2.1
    have htr : tv = r.v := htv.trans hp2.2
    subst htr
    clear hp2 htv HP
    have heq : (r.v == r.v) = true := by simp
    go_wp2_with fail
    refine (implHolds_any _ _ _ r a2 av c2 cv l HP5.out HI5.out).mono ?_
    rintro e w6 ⟨rfl, hb⟩
    rw [hH.out]
    have HX6 := Lib.hid (HX5.out.trans (hb.mono HX5.out.size))
    have XB6 := Lib.hid (XB5.out.below hb XB5.out.lt)
    clear hb y0 y1 y2 XB5 HP5
    obtain ⟨y0, y1, y2, -⟩ := XB6.out.three
    go_wp2_with fail
    go_ret
    exact ⟨rfl, HX6.out⟩
end Go.Proofs.Ytdkapdkkoiejoaa
