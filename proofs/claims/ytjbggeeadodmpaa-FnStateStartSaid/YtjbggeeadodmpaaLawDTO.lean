/- brTrace; the walk of laws.FnTraceOf -/
import Derived.Test.YtjbggeeadodmpaaDrawTO
import Derived.Test.YtjbggeeadodmpaaTrA
import Derived.Test.YtjbggeeadodmpaaTr2
import Derived.Test.YtjbggeeadodmpaaBs0
import Derived.Laws.StructEq
namespace Go.Proofs.Ytjbggeeadodmpaa
open Go.RowKit

theorem ustep_nd : ∀ (ks acc : List Int), acc.Nodup → (ks.foldl ustep acc).Nodup
  | [], acc, h => h
  | k :: r, acc, h => by
    rw [List.foldl_cons]
    refine ustep_nd r _ ?_
    unfold ustep
    split
    · exact h
    · rename_i hk
      rw [List.nodup_append]
      refine ⟨h, by simp, ?_⟩
      intro a ha b hb
      simp at hb
      subst hb
      intro e
      subst e
      exact hk ha
/-- A trace that was made holds, and its value is the task's. -/
theorem trO_holds (key : Int) (t : T) (lv : List Int) (h : trB key t lv = true) : trH (trO key t lv) lv = true ∧ tvV t lv = (trO key t lv).v := by
  have hb := (trO_bd key t lv).1
  have hu : (trO key t lv) = trOf key t (vf lv) := by unfold trO; rw [if_pos h]
  rw [hu] at hb ⊢
  unfold trB at h
  have hkey : kin key = true := by simp only [Bool.and_eq_true] at h; exact h.2
  have htv : (t.ok && vok lv) = true := by rw [Bool.and_eq_true] at h; exact h.1
  have hv : vok lv = true := by simp only [Bool.and_eq_true] at htv; exact htv.2
  have hfit : t.fit = true := by
    have h1 : t.ok = true := by simp only [Bool.and_eq_true] at htv; exact htv.1
    have : t.fit = true ∧ t.nodes ≤ 15 := by simpa [T.ok] using h1
    exact this.1
  have hok : (trOf key t (vf lv)).ok = true := by
    refine (Tr.ok_iff _).2 ⟨by simpa [kin, trOf] using hkey, ?_, hb, ?_⟩
    · exact T.val_bd (vf lv) (vf_bd (vok_mem hv).2) t hfit
    · have : keysOf (trOf key t (vf lv)).u = usesL (t.kys (vf lv)) := by simp [keysOf, trOf, Function.comp_def]
      rw [this]
      exact ustep_nd _ [] (by simp)
  have hh : (trOf key t (vf lv)).holds (vf lv) = true := by
    unfold Tr.holds
    rw [List.all_eq_true]
    intro p hp
    obtain ⟨k, hk, rfl⟩ := List.mem_map.1 (show p ∈ (usesL (t.kys (vf lv))).map (fun k => (k, vf lv k)) from hp)
    simp
  refine ⟨by unfold trH; rw [hok, hv, hh]; rfl, ?_⟩
  unfold tvV
  rw [if_pos htv]
  rfl

set_option maxHeartbeats 2000000 in
/-- brFetches of two readings of the same pairs -/
theorem brPrs_any (w : World) (S S' : Nat → Prop) (l : List (Int × Int)) (a a' : Option Addr) (c c' : Nat) (h : PrsAt w S l a c) (h' : PrsAt w S' l a' c') :
    Calls Try.prog 46 #[.slice a l.length c, .slice a' l.length c'] w fun e w' => e = .returned (.bool true) ∧ Below w.heap.size w w' := by
  have hlen : l.length ≤ 9223372036854775807 := RwAt.len h
  have H := Lib.hid h
  have H' := Lib.hid h'
  clear h h'
  have hne : (((l.length : Nat) : Int) != ((l.length : Nat) : Int)) = false := by simp
  go_enter Try.func46, Try.ntmps46
  go_wp2_with fail
  clear hne
  go_loopw [5] (fun i wr => ∃ k : Nat, k ≤ l.length ∧ i = .int .i64 k ∧ Below w.heap.size w wr) (fun i _ => l.length - (intOf i).toNat)
  case atStart => exact ⟨0, by omega, rfl, Below.refl _ _⟩
  case round =>
    obtain ⟨k, hk, rfl, hb⟩ := hrel
    have HB := Lib.hid hb
    clear hb
    by_cases hlt : k < l.length
    · obtain ⟨b, o, rfl, hbl, _, e0, e1, _, _⟩ := H.out.get HB.out hlt
      obtain ⟨b', o', rfl, hbl', _, e0', e1', _, _⟩ := H'.out.get HB.out hlt
      obtain ⟨u, hu⟩ : ∃ u, u = l[k].1 := ⟨_, rfl⟩
      obtain ⟨v, hv⟩ : ∃ v, v = l[k].2 := ⟨_, rfl⟩
      rw [← hu] at e0 e0'
      rw [← hv] at e1 e1'
      clear hu hv
      have hu1 : (u == u) = true := by simp
      have hv1 : (v == v) = true := by simp
      have hu2 : (u != u) = false := by simp
      have hv2 : (v != v) = false := by simp
      go_wp2_with fail
      go_quiet (fail)
      go_wp2_with fail
      go_roundw
      case rel => exact ⟨k + 1, by omega, by go_num, below_drewN HB.out _⟩
      case measure => simp [intOf]; omega
    · go_wp2_with fail
      go_ret
      exact ⟨rfl, HB.out⟩

set_option maxRecDepth 100000 in
set_option maxHeartbeats 4000000 in
theorem brTrace_any (w : World) (S S' : Nat → Prop) (k v : Int) (l : List (Int × Int)) (a a' : Option Addr) (c c' : Nat) (h : PrsAt w S l a c) (h' : PrsAt w S' l a' c') :
    Calls Try.prog 17 #[.agg #[.int .i64 k, .slice a l.length c, .int .i64 v], .agg #[.int .i64 k, .slice a' l.length c', .int .i64 v]] w fun e w' => e = .returned (.bool true) ∧ Below w.heap.size w w' := by
  have hl1 : l.length ≤ 9223372036854775807 := RwAt.len h
  have B0 := Lib.hid ((Blk.new w 25 #[.int .i64 k, .slice a l.length c, .int .i64 v]).alloc (.cells #[.int .i64 k, .slice a' l.length c', .int .i64 v] 25))
  have B1 := Lib.hid (show Blk ((w.alloc (.cells #[.int .i64 k, .slice a l.length c, .int .i64 v] 25)).alloc (.cells #[.int .i64 k, .slice a' l.length c', .int .i64 v] 25)) (w.heap.size + 1) 25 #[.int .i64 k, .slice a' l.length c', .int .i64 v] by
    have := Blk.new (w.alloc (.cells #[.int .i64 k, .slice a l.length c, .int .i64 v] 25)) 25 #[.int .i64 k, .slice a' l.length c', .int .i64 v]; simpa using this)
  have H := Lib.hid ((h.alloc (.cells #[.int .i64 k, .slice a l.length c, .int .i64 v] 25)).alloc (.cells #[.int .i64 k, .slice a' l.length c', .int .i64 v] 25))
  have H' := Lib.hid ((h'.alloc (.cells #[.int .i64 k, .slice a l.length c, .int .i64 v] 25)).alloc (.cells #[.int .i64 k, .slice a' l.length c', .int .i64 v] 25))
  have HB0 := Lib.hid (show Below w.heap.size w ((w.alloc (.cells #[.int .i64 k, .slice a l.length c, .int .i64 v] 25)).alloc (.cells #[.int .i64 k, .slice a' l.length c', .int .i64 v] 25)) from ((Below.refl _ _).alloc (Nat.le_refl _) _).alloc (by simp) _)
  clear h h'
  obtain ⟨x0, x1, x2, -⟩ := B0.out.three
  obtain ⟨y0, y1, y2, -⟩ := B1.out.three
  have t0 : (k == k) = true := by simp
  have t1 : (v == v) = true := by simp
  go_enter Try.func17, Try.ntmps17
  go_wp2_with fail
  refine (brPrs_any _ _ _ l a a' c c' H.out H'.out).mono ?_
  rintro e w1 ⟨rfl, hb⟩
  have HX := Lib.hid (HB0.out.trans (hb.mono (by simp <;> omega)))
  clear hb x0 x1 x2 y0 y1 y2 t0 t1
  go_wp2_with fail
  go_ret
  exact ⟨rfl, HX.out⟩

end Go.Proofs.Ytjbggeeadodmpaa
