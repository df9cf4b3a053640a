/- spec.CircleOf, spec.BuildAll -/
import Derived.Test.YtmbgglmnbllpjaaBuildS
namespace Go.Proofs.Ytmbgglmnbllpjaa
open Go.RowKit

noncomputable def coB (s : Sh) (l : List Int) (key : Int) : Bool := (inOk s l && decide (0 ≤ key ∧ key < s.m.length)) && !okS s l key
noncomputable def coL (s : Sh) (l : List Int) (key : Int) : List Int := if coB s l key = true then circ s.m.length (chS s l) (okS s l) [] key else []
def CoPost (s : Sh) (l : List Int) (key : Int) (w : World) (e : Ending) (w' : World) : Prop := Below w.heap.size w w' ∧ ∃ v, e = .returned (.tuple #[v, .bool (coB s l key)]) ∧ NumRow w' w.heap.size v (coL s l key)
theorem CoPost.no {s : Sh} {l : List Int} {key : Int} {w w' : World} {v : Value} (h : coB s l key = false) (hb : Below w.heap.size w w') (hv : NumRow w' w.heap.size v []) : CoPost s l key w (.returned (.tuple #[v, .bool false])) w' := by
  refine ⟨hb, v, by rw [h], ?_⟩
  unfold coL
  rw [h]; exact hv
theorem CoPost.yes {s : Sh} {l : List Int} {key : Int} {w w' : World} {v : Value} (h : coB s l key = true) (hb : Below w.heap.size w w') (hv : NumRow w' w.heap.size v (circ s.m.length (chS s l) (okS s l) [] key)) : CoPost s l key w (.returned (.tuple #[v, .bool true])) w' := by
  refine ⟨hb, v, by rw [h], ?_⟩
  unfold coL
  rw [h]; exact hv

set_option maxRecDepth 100000 in
set_option maxHeartbeats 2000000 in
theorem specCircle_any (s : Sh) (l : List Int) (key : Int) (w : World) (S0 S0' : Nat → Prop) (a : Option Addr) (c : Nat) (a' : Option Addr) (c' : Nat) (ai : Option Addr) (ci : Nat) (h0 : ShAt w S0 s a c a' c') (hn : nodesL s.t ≤ 1048576) (hl0 : IntsAt w S0' l ai ci) :
    Calls Try.prog 42 #[.agg #[.slice a s.m.length c, .slice a' s.t.length c'], .slice ai l.length ci, .int .i64 key] w (CoPost s l key w) := by
  obtain ⟨S, hSd⟩ : ∃ S : Nat → Prop, S = fun b => S0 b ∧ b < w.heap.size := ⟨_, rfl⟩
  have hSl : ∀ b, S b → b < w.heap.size := by rw [hSd]; exact fun b h => h.2
  have h : ShAt w S s a c a' c' := by rw [hSd]; exact h0.lim
  obtain ⟨S', hSd'⟩ : ∃ S : Nat → Prop, S = fun b => S0' b ∧ b < w.heap.size := ⟨_, rfl⟩
  have hSl' : ∀ b, S' b → b < w.heap.size := by rw [hSd']; exact fun b h => h.2
  have hl : IntsAt w S' l ai ci := by rw [hSd']; exact hl0.lim
  have K0 := Lib.hid (Ks.start (ty := 50) h)
  have L0 := Lib.hid (hl.alloc (.cells #[.slice a s.m.length c, .slice a' s.t.length c'] 50))
  have HSL := Lib.hid (And.intro hSl hSl')
  have HN := Lib.hid hn
  have hlm : s.m.length ≤ 9223372036854775807 := by have := h.1.1; have := h.1.2.1; omega
  clear h hl h0 hl0 hSd hSd' hSl hSl' hn
  obtain ⟨x0, x1⟩ := K0.out.box
  have hrn : ∀ W : World, w.heap.size ≤ W.heap.size → NumRow (W.alloc (.cells #[] 3)) w.heap.size (.slice (some ⟨W.heap.size, 0, none⟩) 0 0) [] := fun W hW => ownsRow_low (rowN_new W) hW
  have HRN := Lib.hid hrn
  clear hrn
  cases hin : inOk s l
  · have HNO := Lib.hid (show coB s l key = false by unfold coB; rw [hin]; rfl)
    have HI := Lib.hid hin
    clear hin
    go_enter Try.func42, Try.ntmps42
    go_wp2_with fail
    refine (specInputs_any s l _ S S' a c a' c' ai ci K0.out.2 HN.out L0.out).mono ?_
    rintro e w1 ⟨rfl, hb⟩
    rw [HI.out]
    have K1 := Lib.hid (K0.out.step hb)
    clear hb x0 x1
    go_wp2_with fail
    go_ret2
    exact CoPost.no HNO.out (K1.out.alloc _).done (HRN.out _ K1.out.done.size)
  have hmb : s.m.length ≤ 10 := (Sh.ok_iff.1 (inOk_of hin).1).1
  have hdk : decide (0 ≤ key ∧ key ≤ (s.m.length : Int) - 1) = decide (0 ≤ key ∧ key < s.m.length) := by
    by_cases hk : 0 ≤ key ∧ key < s.m.length
    · rw [decide_eq_true hk, decide_eq_true (by omega)]
    · rw [decide_eq_false hk, decide_eq_false (by omega)]
  cases hk : decide (0 ≤ key ∧ key < s.m.length)
  · have HNO := Lib.hid (show coB s l key = false by unfold coB; rw [hk]; simp)
    have HI := Lib.hid hin
    rw [hk] at hdk
    have HK := Lib.hid hdk
    clear hin hk hdk
    go_enter Try.func42, Try.ntmps42
    go_wp2_with fail
    refine (specInputs_any s l _ S S' a c a' c' ai ci K0.out.2 HN.out L0.out).mono ?_
    rintro e w1 ⟨rfl, hb⟩
    rw [HI.out]
    have K1 := Lib.hid (K0.out.step hb)
    clear hb x0 x1
    obtain ⟨x0, x1⟩ := K1.out.box
    go_wp2_with fail
    refine (in_any _ _ _ _).mono ?_
    rintro e w2 ⟨rfl, rfl⟩
    rw [HK.out]
    go_wp2_with fail
    go_ret2
    exact CoPost.no HNO.out (K1.out.alloc _).done (HRN.out _ K1.out.done.size)
  · have hk2 : 0 ≤ key ∧ key < s.m.length := by simpa using hk
    have hbk : coB s l key = !okS s l key := by unfold coB; rw [hin, hk]; rfl
    have HBK := Lib.hid hbk
    have HI := Lib.hid hin
    rw [hk] at hdk
    have HK := Lib.hid hdk
    clear hin hk hdk hbk
    go_enter Try.func42, Try.ntmps42
    go_wp2_with fail
    refine (specInputs_any s l _ S S' a c a' c' ai ci K0.out.2 HN.out L0.out).mono ?_
    rintro e w1 ⟨rfl, hb⟩
    rw [HI.out]
    have K1 := Lib.hid (K0.out.step hb)
    have L1 := Lib.hid (L0.out.below hb)
    clear hb x0 x1
    obtain ⟨x0, x1⟩ := K1.out.box
    go_wp2_with fail
    refine (in_any _ _ _ _).mono ?_
    rintro e w2 ⟨rfl, rfl⟩
    rw [HK.out]
    go_wp2_with fail
    have hsz := K1.out.size
    have hbd := Blk.new w1 99 #[.slice a s.m.length c, .slice a' s.t.length c', .slice ai l.length ci, .slice none 0 0, .slice none 0 0]
    refine (key_top (S := S) (S' := S') w1.heap.size HI.out (K1.out.2.alloc _) (L1.out.alloc _) (fun b hb => by have := HSL.out.1 b hb; omega) (fun b hb => by have := HSL.out.2 b hb; omega) hbd key hk2.1 (by omega)).mono ?_
    rintro e w3 ⟨uv, cv, v, b, rfl, hbd3, _, hfr, _, hor⟩
    have hb3 : Below w.heap.size w w3 := (K1.out.done.alloc (by omega) _).trans ⟨hfr.1, hfr.2.1, hfr.2.2.1, hfr.2.2.2.1, fun i hi => hfr.2.2.2.2 i (by simp; omega) (fun h => by
      rcases h with h | h
      · omega
      · simp [Value.ownBlock] at h)⟩
    have HB3 := Lib.hid hb3
    obtain ⟨y0, y1, y2, y3, y4, _⟩ := Blk.five hbd3
    have hs3 := hfr.size
    simp only [World.size_alloc] at hs3
    rcases hor with ⟨rfl, ho, hv, _⟩ | ⟨rfl, ho, hrow⟩
    · have HNO := Lib.hid (show coB s l key = false by rw [HBK.out, ho]; rfl)
      clear hb3 hfr hbd ho hv hbd3
      go_wp2_with fail
      go_ret2
      exact CoPost.no HNO.out (HB3.out.alloc (by omega) _) (HRN.out _ (by omega))
    · have HY := Lib.hid (And.intro (show coB s l key = true by rw [HBK.out, ho]; rfl) (ownsRow_low hrow (show w.heap.size ≤ _ by simp; omega)))
      obtain ⟨a5, c5, rfl, _⟩ := ElRow.at (f := Value.int .i64) (e := 3) hrow
      clear hb3 hfr hbd ho hrow hbd3
      go_wp2_with fail
      go_ret2
      exact CoPost.yes HY.out.1 HB3.out HY.out.2

noncomputable def baTo (s : Sh) (l : List Int) (k : Nat) : Bool := (List.range k).all fun (i : Nat) => okS s l (i : Int)
noncomputable def baVs (s : Sh) (l : List Int) (k : Nat) : List Int := (List.range k).map fun (i : Nat) => vsS s l (i : Int)
noncomputable def baB (s : Sh) (l : List Int) : Bool := inOk s l && baTo s l s.m.length
noncomputable def baL (s : Sh) (l : List Int) : List Int := if baB s l = true then baVs s l s.m.length else []
def BaPost (s : Sh) (l : List Int) (w : World) (e : Ending) (w' : World) : Prop := Below w.heap.size w w' ∧ ∃ v, e = .returned (.tuple #[v, .bool (baB s l)]) ∧ NumRow w' w.heap.size v (baL s l)
theorem BaPost.no {s : Sh} {l : List Int} {w w' : World} {v : Value} (h : baB s l = false) (hb : Below w.heap.size w w') (hv : NumRow w' w.heap.size v []) : BaPost s l w (.returned (.tuple #[v, .bool false])) w' := by
  refine ⟨hb, v, by rw [h], ?_⟩
  unfold baL
  rw [h]; exact hv
theorem BaPost.yes {s : Sh} {l : List Int} {w w' : World} {v : Value} (h : baB s l = true) (hb : Below w.heap.size w w') (hv : NumRow w' w.heap.size v (baVs s l s.m.length)) : BaPost s l w (.returned (.tuple #[v, .bool true])) w' := by
  refine ⟨hb, v, by rw [h], ?_⟩
  unfold baL
  rw [h]; exact hv
theorem baTo_succ (s : Sh) (l : List Int) (k : Nat) : baTo s l (k + 1) = (baTo s l k && okS s l (k : Int)) := by unfold baTo; rw [List.range_succ, List.all_append]; simp
theorem baVs_succ (s : Sh) (l : List Int) (k : Nat) : baVs s l (k + 1) = baVs s l k ++ [vsS s l (k : Int)] := by unfold baVs; rw [List.range_succ, List.map_append]; rfl
theorem baVs_len (s : Sh) (l : List Int) (k : Nat) : (baVs s l k).length = k := by simp [baVs]
theorem baTo_false {s : Sh} {l : List Int} {k n : Nat} (h : k < n) (ho : okS s l (k : Int) = false) : baTo s l n = false := by
  cases hx : baTo s l n
  · rfl
  · unfold baTo at hx
    rw [List.all_eq_true] at hx
    rw [hx k (List.mem_range.2 h)] at ho
    cases ho
theorem bkOk_in {s : Sh} {l : List Int} {k : Nat} (hin : inOk s l = true) (hk : k < s.m.length) : bkOk s l (k : Int) = okS s l (k : Int) := by
  unfold bkOk
  rw [hin, decide_eq_true (by omega)]; rfl

set_option maxRecDepth 100000 in
set_option maxHeartbeats 2000000 in
theorem specAll_any (s : Sh) (l : List Int) (w : World) (S0 S0' : Nat → Prop) (a : Option Addr) (c : Nat) (a' : Option Addr) (c' : Nat) (ai : Option Addr) (ci : Nat) (h0 : ShAt w S0 s a c a' c') (hn : nodesL s.t ≤ 1048576) (hl0 : IntsAt w S0' l ai ci) :
    Calls Try.prog 39 #[.agg #[.slice a s.m.length c, .slice a' s.t.length c'], .slice ai l.length ci] w (BaPost s l w) := by
  obtain ⟨S, hSd⟩ : ∃ S : Nat → Prop, S = fun b => S0 b ∧ b < w.heap.size := ⟨_, rfl⟩
  have hSl : ∀ b, S b → b < w.heap.size := by rw [hSd]; exact fun b h => h.2
  have h : ShAt w S s a c a' c' := by rw [hSd]; exact h0.lim
  obtain ⟨S', hSd'⟩ : ∃ S : Nat → Prop, S = fun b => S0' b ∧ b < w.heap.size := ⟨_, rfl⟩
  have hSl' : ∀ b, S' b → b < w.heap.size := by rw [hSd']; exact fun b h => h.2
  have hl : IntsAt w S' l ai ci := by rw [hSd']; exact hl0.lim
  have HSL := Lib.hid (And.intro hSl hSl')
  have K0 := Lib.hid ((Ks.start (ty := 50) h).alloc (.cells #[] 3))
  have L0 := Lib.hid ((hl.alloc (.cells #[.slice a s.m.length c, .slice a' s.t.length c'] 50)).alloc (.cells #[] 3))
  have HN := Lib.hid hn
  have hlm : s.m.length ≤ 9223372036854775807 := by have := h.1.1; have := h.1.2.1; omega
  have hr0 := rowN_new (w.alloc (.cells #[.slice a s.m.length c, .slice a' s.t.length c'] 50))
  simp only [World.size_alloc] at hr0
  have HR0 := Lib.hid hr0
  clear h hl hn hr0 h0 hl0 hSd hSd' hSl hSl'
  obtain ⟨x0, x1⟩ := K0.out.box
  cases hin : inOk s l
  · have HNO := Lib.hid (show baB s l = false by unfold baB; rw [hin]; rfl)
    have HI := Lib.hid hin
    clear hin
    go_enter Try.func39, Try.ntmps39
    go_wp2_with fail
    refine (specInputs_any s l _ S S' a c a' c' ai ci K0.out.2 HN.out L0.out).mono ?_
    rintro e w1 ⟨rfl, hb⟩
    rw [HI.out]
    have K1 := Lib.hid (K0.out.step hb)
    have R1 := Lib.hid (ownsRow_low (ElRow.below (f := Value.int .i64) (e := 3) HR0.out hb) (Nat.le_succ _))
    clear hb x0 x1
    go_wp2_with fail
    go_ret2
    exact BaPost.no HNO.out K1.out.done R1.out
  · have hmb : s.m.length ≤ 10 := (Sh.ok_iff.1 (inOk_of hin).1).1
    have hbb : baB s l = baTo s l s.m.length := by unfold baB; rw [hin]; rfl
    have HBB := Lib.hid hbb
    have HI := Lib.hid hin
    obtain ⟨iN, ni, nz0, nz1, nz2⟩ := info_parts infoInt
    have HIN := Lib.hid (And.intro ni (And.intro nz0 (And.intro nz1 nz2)))
    have hml : maxLen = 9223372036854775807 := rfl
    have HML := Lib.hid hml
    clear hin hbb ni nz0 nz1 nz2 hml
    go_enter Try.func39, Try.ntmps39
    go_wp2_with fail
    refine (specInputs_any s l _ S S' a c a' c' ai ci K0.out.2 HN.out L0.out).mono ?_
    rintro e w1 ⟨rfl, hb⟩
    rw [HI.out]
    have K1 := Lib.hid (K0.out.step hb)
    have L1 := Lib.hid (L0.out.below hb)
    have R1 := Lib.hid (ElRow.below (f := Value.int .i64) (e := 3) HR0.out hb)
    clear hb x0 x1 K0 L0 HR0
    go_wp2_with fail
    go_loopw [6, 7] (fun v i wr => ∃ k : Nat, k ≤ s.m.length ∧ i = .int .i64 k ∧ baTo s l k = true ∧ NumRow wr (w.heap.size + 1) v (baVs s l k) ∧ Ks S s a c a' c' 50 w wr ∧ IntsAt wr S' l ai ci) (fun _ i _ => s.m.length - (intOf i).toNat)
    case atStart => exact ⟨0, by omega, rfl, rfl, R1.out, K1.out, L1.out⟩
    case round =>
      obtain ⟨k, hk, rfl, hq, hr, hks, hil⟩ := hrel
      have HQ := Lib.hid hq
      have HR := Lib.hid hr
      have K2 := Lib.hid hks
      have L2 := Lib.hid hil
      clear hq hr hks hil K1 L1 R1
      obtain ⟨x0, x1⟩ := K2.out.box
      by_cases hlt : k < s.m.length
      · have hbk := bkOk_in HI.out hlt
        have HBK := Lib.hid hbk
        have hwsz := K2.out.size
        clear hbk
        go_wp2_with fail
        refine (specBuildKey_any s l k _ S S' a c a' c' ai ci K2.out.2 HN.out L2.out).mono ?_
        rintro e w2 ⟨rfl, hb⟩
        have K3 := Lib.hid (K2.out.step hb)
        have L3 := Lib.hid (L2.out.below hb)
        have R3 := Lib.hid (ElRow.below (f := Value.int .i64) (e := 3) HR.out hb)
        have hs2 := hb.size
        clear hb x0 x1 K2 L2 HR
        cases ho : okS s l (k : Int)
        · have hv : bkV s l (k : Int) = 0 := by unfold bkV; rw [HBK.out, ho]; rfl
          rw [hv, HBK.out, ho]
          have HX := Lib.hid (show baB s l = false by rw [HBB.out]; exact baTo_false hlt ho)
          clear hv ho
          go_wp2_with fail
          go_ret2
          exact BaPost.no HX.out (K3.out.alloc _).done (ownsRow_low (rowN_new w2) (by omega))
        · have hv : bkV s l (k : Int) = vsS s l (k : Int) := by unfold bkV; rw [HBK.out, ho]; rfl
          rw [hv, HBK.out, ho]
          have HX := Lib.hid (show baTo s l (k + 1) = true by rw [baTo_succ, HQ.out, ho]; rfl)
          obtain ⟨x, hx⟩ : ∃ x, x = vsS s l (k : Int) := ⟨_, rfl⟩
          rw [← hx]
          have HXE := Lib.hid hx
          obtain ⟨G, hG⟩ : ∃ G, G = baVs s l k := ⟨_, rfl⟩
          have hgow : w2.ownsRow (w.heap.size + 1) 3 1 u6 k (G.map (.int .i64)) := by
            have h := R3.out
            unfold ElRow at h
            rw [baVs_len] at h
            rw [hG]; exact h
          have HGO := Lib.hid hgow
          have HG := Lib.hid hG
          clear hv ho hx hG hgow
          go_wp2_with (at_builtin; refine wpList_append_row _ rfl (.tmp 33) (.tmp 35) 28 rfl (w.heap.size + 1) 3 iN (.int .i64 0) 1 8 Try.underlying28 HIN.out.1 HIN.out.2.1 HIN.out.2.2.1 HIN.out.2.2.2 rfl (by decide) _ k (G.map (.int .i64)) rfl (World.ownsRow.alloc HGO.out _) ⟨w2.heap.size, 0, none⟩ 1 1 [.int .i64 x] rfl rfl ?d1 ?d2 (by decide) ?d3 ?d4 ?d5 ?_)
          case d1 => exact news1 _ _ _
          case d2 => simp [Value.oneCell']
          case d3 => rw [HML.out]; omega
          case d4 => omega
          case d5 => simp; omega
          intro v2 w3 hown hgr hnew
          have hr3 : NumRow w3 (w.heap.size + 1) v2 (baVs s l (k + 1)) := by
            unfold NumRow
            rw [baVs_len, baVs_succ, List.map_append, ← HG.out, ← HXE.out]
            exact hown
          have hgfr : Fr (fun b => u6.ownBlock = some b) w2 w3 := (show Fr (fun b => u6.ownBlock = some b) w2 _ from Fr.of_below ((Below.refl w2.heap.size w2).alloc (Nat.le_refl _) (.cells #[.int .i64 x] 3))).trans (fr_grown hgr) (fun b hb => .inl hb)
          have hge := own_ge HGO.out
          have H3 := Lib.hid (And.intro hr3 (And.intro (K3.out.fr hgfr hge HSL.out.1) (L3.out.fr hgfr (fun b hb h => by have := hge b h; have := HSL.out.2 b hb; omega))))
          clear hown hgr hnew hr3 hgfr hge
          go_wp2_with fail
          go_roundw
          case rel => exact ⟨k + 1, by omega, by go_num, HX.out, H3.out.1, H3.out.2.1, H3.out.2.2⟩
          case measure => simp [intOf]; omega
      · have hf : baB s l = true := by rw [HBB.out]; have := HQ.out; rwa [show k = s.m.length by omega] at this
        have HF := Lib.hid (And.intro hf (show NumRow wr w.heap.size u6 (baVs s l s.m.length) from by
          have h := HR.out
          rw [show k = s.m.length by omega] at h
          exact ownsRow_low h (Nat.le_succ _)))
        clear hf
        go_wp2_with fail
        go_ret2
        exact BaPost.yes HF.out.1 K2.out.done HF.out.2
end Go.Proofs.Ytmbgglmnbllpjaa
