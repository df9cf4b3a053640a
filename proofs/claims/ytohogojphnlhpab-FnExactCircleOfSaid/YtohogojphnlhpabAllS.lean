/- spec.CircleOf, spec.BuildAll -/
import Derived.Test.YtohogojphnlhpabBuildS
namespace Go.Proofs.Ytohogojphnlhpab
open Go.RowKit

noncomputable def coB (s : Sh) (l : List Int) (key : Int) : Bool := (inOk s l && decide (0 ≤ key ∧ key < s.m.length)) && !okS s l key
noncomputable def coL (s : Sh) (l : List Int) (key : Int) : List Int := if coB s l key = true then circ s.m.length (chS s l) (okS s l) [] key else []
def CoPost (s : Sh) (l : List Int) (key : Int) (w : World) (e : Ending) (w' : World) : Prop := Below w.heap.size w w' ∧ ∃ v, e = .returned (.tuple #[v, .bool (coB s l key)]) ∧ NumRow w' w.heap.size v (coL s l key)
theorem CoPost.no {s : Sh} {l : List Int} {key : Int} {w w' : World} {v : Value} (h : coB s l key = false) (hb : Below w.heap.size w w') (hv : NumRow w' w.heap.size v []) : CoPost s l key w (.returned (.tuple #[v, .bool false])) w' := by
  refine ⟨hb, v, by rw [h], ?_⟩
  unfold coL
  rw [h]; exact hv
theorem CoPost.yes {s : Sh} {l : List Int} {key : Int} {w w' : World} {v : Value} (h : coB s l key = true) (hb : Below w.heap.size w w') (hv : NumRow w' w.heap.size v (circ s.m.length (chS s l) (okS s l) [] key)) : CoPost s l key w (.returned (.tuple #[v, .bool true])) w' := by
  refine ⟨hb, v, by rw [h], ?_⟩
  unfold coL
  rw [h]; exact hv

set_option maxRecDepth 100000 in
set_option maxHeartbeats 2000000 in
theorem specCircle_any (s : Sh) (l : List Int) (key : Int) (w : World) (S0 S0' : Nat → Prop) (a : Option Addr) (c : Nat) (a' : Option Addr) (c' : Nat) (ai : Option Addr) (ci : Nat) (h0 : ShAt w S0 s a c a' c') (hn : nodesL s.t ≤ 1048576) (hl0 : IntsAt w S0' l ai ci) :
    Calls Try.prog 7 #[.agg #[.slice a s.m.length c, .slice a' s.t.length c'], .slice ai l.length ci, .int .i64 key] w (CoPost s l key w) := by
  obtain ⟨S, hSd⟩ : ∃ S : Nat → Prop, S = fun b => S0 b ∧ b < w.heap.size := ⟨_, rfl⟩
  have hSl : ∀ b, S b → b < w.heap.size := by rw [hSd]; exact fun b h => h.2
  have h : ShAt w S s a c a' c' := by rw [hSd]; exact h0.lim
  obtain ⟨S', hSd'⟩ : ∃ S : Nat → Prop, S = fun b => S0' b ∧ b < w.heap.size := ⟨_, rfl⟩
  have hSl' : ∀ b, S' b → b < w.heap.size := by rw [hSd']; exact fun b h => h.2
  have hl : IntsAt w S' l ai ci := by rw [hSd']; exact hl0.lim
  have K0 := Lib.hid (Ks.start (ty := 32) h)
  have L0 := Lib.hid (hl.alloc (.cells #[.slice a s.m.length c, .slice a' s.t.length c'] 32))
  have HSL := Lib.hid (And.intro hSl hSl')
  have HN := Lib.hid hn
  have hlm : s.m.length ≤ 9223372036854775807 := by have := h.1.1; have := h.1.2.1; omega
  clear h hl h0 hl0 hSd hSd' hSl hSl' hn
  obtain ⟨x0, x1⟩ := K0.out.box
  have hrn : ∀ W : World, w.heap.size ≤ W.heap.size → NumRow (W.alloc (.cells #[] 3)) w.heap.size (.slice (some ⟨W.heap.size, 0, none⟩) 0 0) [] := fun W hW => ownsRow_low (rowN_new W) hW
  have HRN := Lib.hid hrn
  clear hrn
  cases hin : inOk s l
  · have HNO := Lib.hid (show coB s l key = false by unfold coB; rw [hin]; rfl)
    have HI := Lib.hid hin
    clear hin
    go_enter Try.func7, Try.ntmps7
    go_wp2_with fail
    refine (specInputs_any s l _ S S' a c a' c' ai ci K0.out.2 HN.out L0.out).mono ?_
    rintro e w1 ⟨rfl, hb⟩
    rw [HI.out]
    have K1 := Lib.hid (K0.out.step hb)
    clear hb x0 x1
    go_wp2_with fail
    go_ret2
    exact CoPost.no HNO.out (K1.out.alloc _).done (HRN.out _ K1.out.done.size)
  have hmb : s.m.length ≤ 10 := (Sh.ok_iff.1 (inOk_of hin).1).1
  have hdk : decide (0 ≤ key ∧ key ≤ (s.m.length : Int) - 1) = decide (0 ≤ key ∧ key < s.m.length) := by
    by_cases hk : 0 ≤ key ∧ key < s.m.length
    · rw [decide_eq_true hk, decide_eq_true (by omega)]
    · rw [decide_eq_false hk, decide_eq_false (by omega)]
  cases hk : decide (0 ≤ key ∧ key < s.m.length)
  · have HNO := Lib.hid (show coB s l key = false by unfold coB; rw [hk]; simp)
    have HI := Lib.hid hin
    rw [hk] at hdk
    have HK := Lib.hid hdk
    clear hin hk hdk
    go_enter Try.func7, Try.ntmps7
    go_wp2_with fail
    refine (specInputs_any s l _ S S' a c a' c' ai ci K0.out.2 HN.out L0.out).mono ?_
    rintro e w1 ⟨rfl, hb⟩
    rw [HI.out]
    have K1 := Lib.hid (K0.out.step hb)
    clear hb x0 x1
    obtain ⟨x0, x1⟩ := K1.out.box
    go_wp2_with fail
    refine (in_any _ _ _ _).mono ?_
    rintro e w2 ⟨rfl, rfl⟩
    rw [HK.out]
    go_wp2_with fail
    go_ret2
    exact CoPost.no HNO.out (K1.out.alloc _).done (HRN.out _ K1.out.done.size)
  · have hk2 : 0 ≤ key ∧ key < s.m.length := by simpa using hk
    have hbk : coB s l key = !okS s l key := by unfold coB; rw [hin, hk]; rfl
    have HBK := Lib.hid hbk
    have HI := Lib.hid hin
    rw [hk] at hdk
    have HK := Lib.hid hdk
    clear hin hk hdk hbk
    go_enter Try.func7, Try.ntmps7
    go_wp2_with fail
    refine (specInputs_any s l _ S S' a c a' c' ai ci K0.out.2 HN.out L0.out).mono ?_
    rintro e w1 ⟨rfl, hb⟩
    rw [HI.out]
    have K1 := Lib.hid (K0.out.step hb)
    have L1 := Lib.hid (L0.out.below hb)
    clear hb x0 x1
    obtain ⟨x0, x1⟩ := K1.out.box
    go_wp2_with fail
    refine (in_any _ _ _ _).mono ?_
    rintro e w2 ⟨rfl, rfl⟩
    rw [HK.out]
    go_wp2_with fail
    have hsz := K1.out.size
    have hbd := Blk.new w1 48 #[.slice a s.m.length c, .slice a' s.t.length c', .slice ai l.length ci, .slice none 0 0, .slice none 0 0]
    refine (key_top (S := S) (S' := S') w1.heap.size HI.out (K1.out.2.alloc _) (L1.out.alloc _) (fun b hb => by have := HSL.out.1 b hb; omega) (fun b hb => by have := HSL.out.2 b hb; omega) hbd key hk2.1 (by omega)).mono ?_
    rintro e w3 ⟨uv, cv, v, b, rfl, hbd3, _, hfr, _, hor⟩
    have hb3 : Below w.heap.size w w3 := (K1.out.done.alloc (by omega) _).trans ⟨hfr.1, hfr.2.1, hfr.2.2.1, hfr.2.2.2.1, fun i hi => hfr.2.2.2.2 i (by simp; omega) (fun h => by
      rcases h with h | h
      · omega
      · simp [Value.ownBlock] at h)⟩
    have HB3 := Lib.hid hb3
    obtain ⟨y0, y1, y2, y3, y4, _⟩ := Blk.five hbd3
    have hs3 := hfr.size
    simp only [World.size_alloc] at hs3
    rcases hor with ⟨rfl, ho, hv, _⟩ | ⟨rfl, ho, hrow⟩
    · have HNO := Lib.hid (show coB s l key = false by rw [HBK.out, ho]; rfl)
      clear hb3 hfr hbd ho hv hbd3
      go_wp2_with fail
      go_ret2
      exact CoPost.no HNO.out (HB3.out.alloc (by omega) _) (HRN.out _ (by omega))
    · have HY := Lib.hid (And.intro (show coB s l key = true by rw [HBK.out, ho]; rfl) (ownsRow_low hrow (show w.heap.size ≤ _ by simp; omega)))
      obtain ⟨a5, c5, rfl, _⟩ := ElRow.at (f := Value.int .i64) (e := 3) hrow
      clear hb3 hfr hbd ho hrow hbd3
      go_wp2_with fail
      go_ret2
      exact CoPost.yes HY.out.1 HB3.out HY.out.2

noncomputable def baTo (s : Sh) (l : List Int) (k : Nat) : Bool := (List.range k).all fun (i : Nat) => okS s l (i : Int)
noncomputable def baVs (s : Sh) (l : List Int) (k : Nat) : List Int := (List.range k).map fun (i : Nat) => vsS s l (i : Int)
noncomputable def baB (s : Sh) (l : List Int) : Bool := inOk s l && baTo s l s.m.length
noncomputable def baL (s : Sh) (l : List Int) : List Int := if baB s l = true then baVs s l s.m.length else []
def BaPost (s : Sh) (l : List Int) (w : World) (e : Ending) (w' : World) : Prop := Below w.heap.size w w' ∧ ∃ v, e = .returned (.tuple #[v, .bool (baB s l)]) ∧ NumRow w' w.heap.size v (baL s l)
theorem BaPost.no {s : Sh} {l : List Int} {w w' : World} {v : Value} (h : baB s l = false) (hb : Below w.heap.size w w') (hv : NumRow w' w.heap.size v []) : BaPost s l w (.returned (.tuple #[v, .bool false])) w' := by
  refine ⟨hb, v, by rw [h], ?_⟩
  unfold baL
  rw [h]; exact hv
theorem BaPost.yes {s : Sh} {l : List Int} {w w' : World} {v : Value} (h : baB s l = true) (hb : Below w.heap.size w w') (hv : NumRow w' w.heap.size v (baVs s l s.m.length)) : BaPost s l w (.returned (.tuple #[v, .bool true])) w' := by
  refine ⟨hb, v, by rw [h], ?_⟩
  unfold baL
  rw [h]; exact hv
theorem baTo_succ (s : Sh) (l : List Int) (k : Nat) : baTo s l (k + 1) = (baTo s l k && okS s l (k : Int)) := by unfold baTo; rw [List.range_succ, List.all_append]; simp
theorem baVs_succ (s : Sh) (l : List Int) (k : Nat) : baVs s l (k + 1) = baVs s l k ++ [vsS s l (k : Int)] := by unfold baVs; rw [List.range_succ, List.map_append]; rfl
theorem baVs_len (s : Sh) (l : List Int) (k : Nat) : (baVs s l k).length = k := by simp [baVs]
theorem baTo_false {s : Sh} {l : List Int} {k n : Nat} (h : k < n) (ho : okS s l (k : Int) = false) : baTo s l n = false := by
  cases hx : baTo s l n
  · rfl
  · unfold baTo at hx
    rw [List.all_eq_true] at hx
    rw [hx k (List.mem_range.2 h)] at ho
    cases ho
theorem bkOk_in {s : Sh} {l : List Int} {k : Nat} (hin : inOk s l = true) (hk : k < s.m.length) : bkOk s l (k : Int) = okS s l (k : Int) := by
  unfold bkOk
  rw [hin, decide_eq_true (by omega)]; rfl

end Go.Proofs.Ytohogojphnlhpab
