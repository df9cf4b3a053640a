/- DrawTracesPut -/
import Derived.Test.YtjbggeeadodmpaaDrawTH
namespace Go.Proofs.Ytjbggeeadodmpaa
open Go.RowKit

/-- Traces and a trace were drawn off a code. -/
def DrawnTP (w : World) (e : Ending) (w' : World) : Prop := ∃ (ts : List Tr) (a : Option Addr) (c : Nat) (t : Tr) (au : Option Addr) (cu : Nat) (S S2 : Nat → Prop), e = .returned (.tuple #[.slice a ts.length c, .agg #[.int .i64 t.k, .slice au t.u.length cu, .int .i64 t.v]]) ∧
  TrsAt w' S ts a c ∧ PrsAt w' S2 t.u au cu ∧ i64ok t.k ∧ i64ok t.v ∧ Below w.heap.size w w'

theorem fr_own {w w' : World} {v : Value} (hg : w.grownBy w' v.ownBlock) : Fr (fun b => v.ownBlock = some b) w w' := ⟨hg.os, hg.tape, hg.output, hg.size, fun b hb hne => hg.block b hb (fun e => hne e.symm)⟩
/-- Where the last loop stands. -/
def TpI (w : World) (g B : Nat) (D : Nat → Prop) (t : Tr) (au : Option Addr) (cu bt p : Nat) (ts : List Tr) (us : List Value) (v : Value) (wr : World) : Prop :=
  (TrsOw wr B v (ts.map Tr.raw) us ∧ (∀ x ∈ ts, drT x) ∧ PrsAt wr D t.u au cu) ∧ ((∀ b, D b → v.ownBlock ≠ some b) ∧ (∀ b, D b → b < wr.heap.size)) ∧ Blk wr bt 25 #[.int .i64 t.k, .slice au t.u.length cu, .int .i64 t.v] ∧ v.ownBlock ≠ some bt ∧
  Blk wr w.heap.size 25 #[.int .i64 0, .slice none 0 0, .int .i64 0] ∧ RdAt wr g p ∧ Below w.heap.size w wr

set_option maxRecDepth 100000 in
set_option maxHeartbeats 4000000 in
theorem drawTracesPut_any (w : World) (a : Option Addr) (n c : Nat) (h : CodeAt w a n c) : Calls Try.prog 18 #[.slice a n c] w (DrawnTP w) := by
  obtain ⟨i0, hi, hz0, hz1, hz2⟩ := info_parts infoTrace
  have HI := Lib.hid (And.intro hi (And.intro hz0 (And.intro hz1 hz2)))
  have HML := Lib.hid (show maxLen = 9223372036854775807 from rfl)
  have HC := Lib.hid (h.alloc (.cells #[.int .i64 0, .slice none 0 0, .int .i64 0] 25))
  have HB0 := Lib.hid (Blk.new w 25 #[.int .i64 0, .slice none 0 0, .int .i64 0])
  have HX0 := Lib.hid ((Below.refl w.heap.size w).alloc (Nat.le_refl _) (.cells #[.int .i64 0, .slice none 0 0, .int .i64 0] 25))
  clear h hi hz0 hz1 hz2
  go_enter Try.func18, Try.ntmps18
  go_wp2_with fail
  refine (open_any _ a n c HC.out).mono ?_
  rintro e w1 ⟨rfl, hrd, hb⟩
  simp only [World.size_alloc] at hrd hb
  have hsz1 := hb.size
  simp only [World.size_alloc] at hsz1
  have HR1 := Lib.hid hrd
  have HB1 := Lib.hid (HB0.out.below hb (by simp))
  have HX1 := Lib.hid (HX0.out.trans (hb.mono (by omega)))
  have hg1 := hrd.lt
  clear hrd hb HB0 HX0 HC
  go_wp2_with fail
  refine (traces_any w1 (w.heap.size + 1) 0 HR1.out (by omega)).mono ?_
  rintro e w2 ⟨ts, v, us, p2, rfl, ht, hd, hll, hp2, hp3, hrd, ho⟩
  obtain ⟨av, cv, hvv⟩ := own_shape' ht.row
  rw [List.length_map] at hvv
  subst hvv
  have HT2 := Lib.hid ht
  have HD := Lib.hid hd
  have HR2 := Lib.hid hrd
  have HB2 := Lib.hid (HB1.out.only ho (by omega))
  have HX2 := Lib.hid (below_only HX1.out ho (by omega))
  have hs2 := ho.size
  clear ht hd hrd ho HR1 HB1 HX1
  go_wp2_with fail
  refine (trace_any w2 (w.heap.size + 1) p2 HR2.out (by omega)).mono ?_
  rintro e w3 ⟨t, vu, p3, rfl, hfr, hk, hv, hu, hul, hp4, hp5, hrd, ho⟩
  have hdt : drT t := ⟨hk, hv, hu, hul⟩
  obtain ⟨au, cu, rfl, hpr⟩ := FRow.prs hfr hdt.fine.2.2
  have hs3 := ho.size
  have HPF := Lib.hid (fun b (hb : (Value.slice au t.u.length cu).ownBlock = some b) => World.ownsRow.lt hfr b hb)
  have HDT := Lib.hid hdt
  have HP3 := Lib.hid (hpr.alloc (.cells #[.int .i64 t.k, .slice au t.u.length cu, .int .i64 t.v] 25))
  have HT3 := Lib.hid ((HT2.out.only ho (by omega)).alloc (.cells #[.int .i64 t.k, .slice au t.u.length cu, .int .i64 t.v] 25))
  have HTL := Lib.hid (fun b (hb : trD (.slice av ts.length cv) us b) => HT2.out.lt hb)
  have HR3 := Lib.hid (hrd.alloc (.cells #[.int .i64 t.k, .slice au t.u.length cu, .int .i64 t.v] 25))
  have HB3 := Lib.hid ((HB2.out.only ho (by omega)).alloc (.cells #[.int .i64 t.k, .slice au t.u.length cu, .int .i64 t.v] 25))
  have HX3 := Lib.hid ((below_only HX2.out ho (by omega)).alloc (by omega) (.cells #[.int .i64 t.k, .slice au t.u.length cu, .int .i64 t.v] 25))
  have HK3 := Lib.hid (Blk.new w3 25 #[.int .i64 t.k, .slice au t.u.length cu, .int .i64 t.v])
  clear hfr hk hv hu hul hdt hpr hrd ho HT2 HR2 HB2 HX2
  obtain ⟨W3, hW3⟩ : ∃ W, W = w3.alloc (.cells #[.int .i64 t.k, .slice au t.u.length cu, .int .i64 t.v] 25) := ⟨_, rfl⟩
  have HWE := Lib.hid hW3
  have hsW : W3.heap.size = w3.heap.size + 1 := by rw [hW3]; simp
  have HSW := Lib.hid hsW
  rw [← hW3] at HP3 HT3 HR3 HB3 HX3 HK3
  clear hW3 hsW
  have HSZ := Lib.hid (show w.heap.size + 1 < w1.heap.size ∧ w1.heap.size ≤ w2.heap.size ∧ w2.heap.size ≤ w3.heap.size from ⟨by omega, by omega, by omega⟩)
  by_cases hts : ts.length = 0
  · have hts0 : ¬ (0 : Int) < (ts.length : Int) := by omega
    have HTI := Lib.hid (show TpI w (w.heap.size + 1) w1.heap.size (fun b => (Value.slice au t.u.length cu).ownBlock = some b) t au cu w3.heap.size p3 ts us (.slice av ts.length cv) W3 from
      ⟨⟨HT3.out, HD.out, HP3.out⟩, ⟨fun b hb e => by have := (HPF.out b hb).1; have := (HTL.out b (.inl e)).2; omega, fun b hb => by have := (HPF.out b hb).2; have := HSW.out; omega⟩, HK3.out, fun e => by have := (HTL.out _ (.inl e)).2; omega, HB3.out, HR3.out, HX3.out⟩)
    have HDD := Lib.hid (show ∀ b, (Value.slice au t.u.length cu).ownBlock = some b → w.heap.size + 1 < b from fun b hb => by have := (HPF.out b hb).1; omega)
    have HTF := Lib.hid (And.intro HDT.out.fine.1 HDT.out.fine.2.1)
    clear hts HT3 HP3 HK3 HB3 HR3 HX3
    go_wp2_with fail
    rw [← HWE.out]
    obtain ⟨b1, hb1⟩ : ∃ b, b = w1.heap.size := ⟨_, rfl⟩
    have HB1 := Lib.hid hb1
    go_loopw [5, 7] (fun v i wr => ∃ (q p' : Nat) (ts' : List Tr) (us' : List Value), i = .int .i64 q ∧ q ≤ 60 ∧ p' ≤ 1000 + q ∧ ts'.length ≤ 5 + q ∧ TpI w (w.heap.size + 1) w1.heap.size (fun b => (Value.slice au t.u.length cu).ownBlock = some b) t au cu w3.heap.size p' ts' us' v wr) (fun _ i _ => 60 - (intOf i).toNat)
    case atStart => exact ⟨0, _, ts, us, rfl, by omega, by omega, by omega, HTI.out⟩
    case round =>
      obtain ⟨q, p', ts', us', rfl, hq, hpq, hll', ⟨h1, h2, h3⟩, ⟨h4, h5⟩, h6, h7, h8, h9, h10⟩ := hrel
      have H1 := Lib.hid h1
      have H2 := Lib.hid h2
      have H3 := Lib.hid h3
      have H4 := Lib.hid h4
      have H5 := Lib.hid h5
      have H6 := Lib.hid h6
      have H7 := Lib.hid h7
      have H8 := Lib.hid h8
      have H9 := Lib.hid h9
      have H10 := Lib.hid h10
      have hlt9 := h9.lt
      clear h1 h2 h3 h4 h5 h6 h7 h8 h9 h10 HTI
      have hend : ∀ (w' : World) (vv : Value), TrsOw w' w1.heap.size vv (ts'.map Tr.raw) us' → PrsAt w' (fun b => (Value.slice au t.u.length cu).ownBlock = some b) t.u au cu → Blk w' w3.heap.size 25 #[.int .i64 t.k, .slice au t.u.length cu, .int .i64 t.v] → Blk w' w.heap.size 25 #[.int .i64 0, .slice none 0 0, .int .i64 0] → Below w.heap.size w w' → (∀ b, (fun b => (Value.slice au t.u.length cu).ownBlock = some b) b → w.heap.size < b) →
          ∃ av cv, vv = .slice av ts'.length cv ∧ DrawnTP w (.returned (.tuple #[vv, .agg #[.int .i64 t.k, .slice au t.u.length cu, .int .i64 t.v]])) (((w'.setCell ⟨w.heap.size, 0, none⟩ (.int .i64 t.k)).setCell ⟨w.heap.size, 1, none⟩ (.slice au t.u.length cu)).setCell ⟨w.heap.size, 2, none⟩ (.int .i64 t.v)).drew := by
        intro w' vv ht hp hk hb hx hdd
        obtain ⟨av, cv, rfl, hat⟩ := ht.at (fun t h => (H2.out t h).fine)
        have hfr : Fr (fun b => b = w.heap.size) w' w' := Fr.of_below (Below.refl _ _)
        have hfr3 := ((hfr.set' ⟨w.heap.size, 0, none⟩ rfl (.int .i64 t.k)).set' ⟨w.heap.size, 1, none⟩ rfl (.slice au t.u.length cu)).set' ⟨w.heap.size, 2, none⟩ rfl (.int .i64 t.v)
        exact ⟨av, cv, rfl, ts', av, cv, t, au, cu, _, _, rfl, (hat.fr hfr3 (fun b hb e => by have := (ht.lt hb).1; omega)).drew, (hp.fr hfr3 (fun b hb e => by have := hdd b hb; omega)).drew, HTF.out.1, HTF.out.2, (((hx.setCell (by simp) _).setCell (by simp) _).setCell (by simp) _).drew⟩
      have HEND := Lib.hid hend
      clear hend
      by_cases hq60 : q < 60
      · have hqi : (q : Int) < 60 := by omega
        go_wp2_with fail
        refine (pick_any _ (w.heap.size + 1) p' 400 H9.out (by omega) (by omega) (by omega)).mono ?_
        rintro e w8 ⟨x, rfl, x0, x1, hrd, ho⟩
        have hs8 := ho.size
        have G1 := Lib.hid (H1.out.only ho (by omega))
        have G3 := Lib.hid (H3.out.fr (fr_of_only ho) (fun b hb e => by have := HDD.out b hb; omega))
        have G5 := Lib.hid (show ∀ b, (fun b => (Value.slice au t.u.length cu).ownBlock = some b) b → b < w8.heap.size from fun b hb => Nat.lt_of_lt_of_le (H5.out b hb) hs8)
        have G6 := Lib.hid (H6.out.only ho (by omega))
        have G8 := Lib.hid (H8.out.only ho (by omega))
        have G9 := Lib.hid hrd
        have G10 := Lib.hid (below_only H10.out ho (by omega))
        clear hrd ho H1 H3 H5 H6 H8 H9 H10 x1
        by_cases hx0 : x = 0
        · subst hx0
          obtain ⟨ls, hls⟩ : ∃ ls, ls = ts'.map Tr.raw := ⟨_, rfl⟩
          have HLS := Lib.hid hls
          have HLL := Lib.hid (show ls.length ≤ 70 by rw [hls, List.length_map]; omega)
          rw [← hls] at G1
          clear hls
          have hlo : w1.heap.size ≤ w8.heap.size := by have := G6.out.lt; have := HSZ.out; omega
          go_wp2_with (at_builtin; refine wpList_append_row _ rfl (.tmp 38) (.tmp 43) 31 rfl w1.heap.size 25 i0 (.agg #[.int .i64 0, .slice none 0 0, .int .i64 0]) 3 40 Try.underlying31 HI.out.1 HI.out.2.1 HI.out.2.2.1 HI.out.2.2.2 rfl (by decide) _ ls.length (tcl ls us') rfl (World.ownsRow.alloc G1.out.row _) ⟨w8.heap.size, 0, none⟩ 1 1 [.int .i64 ((q : Int) % 10), .slice none 0 0, .int .i64 q] rfl rfl ?c1 ?c2 (by decide) ?c3 ?c4 ?c5 ?_)
          case c1 =>
            intro j u hj
            have e : (⟨w8.heap.size, 0, none⟩ : Addr).add j = ⟨w8.heap.size, j, none⟩ := by unfold Addr.add; split <;> simp_all
            rw [e, World.cell?_alloc_new, ← hj]
            simp
          case c2 => simp [Value.oneCell']
          case c3 => rw [HML.out]; have := HLL.out; omega
          case c4 => have := HLL.out; omega
          case c5 => first | omega | (simp; omega)
          intro v' w9 hown hgr hnew
          have hgf := fr_own hgr
          have hge := fun b hb => (G1.out.lt (b := b) (.inl hb)).1
          have hpush : TrsOw w9 w1.heap.size v' ((ts' ++ [(⟨(q : Int) % 10, [], q⟩ : Tr)]).map Tr.raw) (us' ++ [.slice none 0 0]) := by
            rw [List.map_append, ← HLS.out]
            refine TrsOw.push (w := w8.alloc (.cells #[.int .i64 ((q : Int) % 10), .slice none 0 0, .int .i64 q] 25)) (G1.out.alloc _) (Tr.raw ⟨(q : Int) % 10, [], q⟩) (.slice none 0 0) (by show FRow _ _ _ ((pcl []).length / 2) (pcl []); rw [show pcl [] = [] from rfl]; simp only [List.length_nil, Nat.zero_div]; exact World.ownsRow_nil _ _ _ _) (fun b hb => by simp [Value.ownBlock] at hb) hown hgr (fun b hb => (hnew b hb).imp id (fun h => by rw [World.size_alloc]; exact h))
          have hs9 := hgr.size
          simp only [World.size_alloc] at hs9
          have HNX := Lib.hid (show TpI w (w.heap.size + 1) w1.heap.size (fun b => (Value.slice au t.u.length cu).ownBlock = some b) t au cu w3.heap.size (p' + 1) (ts' ++ [(⟨(q : Int) % 10, [], q⟩ : Tr)]) (us' ++ [.slice none 0 0]) v' w9 from
            ⟨⟨hpush, fun x hx => by
                rcases List.mem_append.1 hx with h | h
                · exact H2.out x h
                · rw [List.mem_singleton] at h; rw [h]; exact ⟨by simp only; omega, by simp only; omega, (by intro q hq; cases hq), Nat.zero_le _⟩, (G3.out.alloc _).fr hgf (fun b hb e => H4.out b hb e)⟩,
              ⟨fun b hb e => by
                rcases hnew b e with h | h
                · exact H4.out b hb h
                · have := G5.out b hb; first | omega | (simp at h; omega), fun b hb => by have := G5.out b hb; omega⟩,
              (G6.out.alloc _).fr hgf (fun e => H7.out e), fun e => by
                rcases hnew _ e with h | h
                · exact H7.out h
                · have := G6.out.lt; first | omega | (simp at h; omega),
              (G8.out.alloc _).fr hgf (fun e => by have := hge _ e; omega), (G9.out.alloc _).grown hgr (fun k hk => by have := hge k hk; omega), (G10.out.alloc G10.out.size _).trans (below_grown hgr (by have := G10.out.size; simp; omega) (fun k hk => by have := hge k hk; omega))⟩)
          clear hown hgr hgf hnew hge hpush G1 G3 G5 G6 G8 G9 G10 HEND
          go_wp2_with fail
          go_roundw
          case rel => exact ⟨q + 1, p' + 1, _, _, by go_num, by omega, by omega, by simp; omega, HNX.out⟩
          case measure => simp [intOf]; omega
        · have hne : (x == 0) = false := by simpa using hx0
          obtain ⟨x0, x1, x2, -⟩ := G6.out.three
          obtain ⟨y0, y1, y2, f0, f1, f2⟩ := G8.out.three
          have hlt8 := G8.out.lt
          obtain ⟨av9, cv9, hve, hfin⟩ := HEND.out w8 _ G1.out G3.out G6.out G8.out G10.out (fun b hb => by have := HDD.out b hb; omega)
          have HVE := Lib.hid hve
          have HFIN := Lib.hid hfin
          clear hve hfin
          go_wp2_with fail
          go_still_tail 3, (by kernel_rfl)
          go_wp2_with fail
          refine bodyPost_ret (v := .tuple #[.slice av9 ts'.length cv9, .agg #[.int .i64 t.k, .slice au t.u.length cu, .int .i64 t.v]]) (by rw [HVE.out]; simp [results, Try.results18, go_sem, y0, y1, y2]) rfl ?_
          rw [HVE.out] at HFIN
          exact HFIN.out
      · have hqi : ¬ (q : Int) < 60 := by omega
        obtain ⟨x0, x1, x2, -⟩ := H6.out.three
        obtain ⟨y0, y1, y2, f0, f1, f2⟩ := H8.out.three
        have hlt8 := H8.out.lt
        obtain ⟨av9, cv9, hve, hfin⟩ := HEND.out wr _ H1.out H3.out H6.out H8.out H10.out (fun b hb => by have := HDD.out b hb; omega)
        have HVE := Lib.hid hve
        have HFIN := Lib.hid hfin
        clear hve hfin
        go_wp2_with fail
        go_still_tail 3, (by kernel_rfl)
        go_wp2_with fail
        refine bodyPost_ret (v := .tuple #[.slice av9 ts'.length cv9, .agg #[.int .i64 t.k, .slice au t.u.length cu, .int .i64 t.v]]) (by rw [HVE.out]; simp [results, Try.results18, go_sem, y0, y1, y2]) rfl ?_
        rw [HVE.out] at HFIN
        exact HFIN.out
  have hts0 : (0 : Int) < (ts.length : Int) := by omega
  go_wp2_with fail
  rw [← HWE.out]
  refine (pick_any _ (w.heap.size + 1) p3 3 HR3.out (by omega) (by omega) (by omega)).mono ?_
  rintro e w4 ⟨x, rfl, x0, x1, hrd, ho⟩
  have hs4 := ho.size
  have HT4 := Lib.hid (HT3.out.only ho (by have := HSZ.out; omega))
  have HP4 := Lib.hid (HP3.out.fr (fr_of_only ho) (fun b hb e => by have := (HPF.out b hb).1; omega))
  have HK4 := Lib.hid (HK3.out.only ho (by omega))
  have HB4 := Lib.hid (HB3.out.only ho (by omega))
  have HX4 := Lib.hid (below_only HX3.out ho (by omega))
  have HR4 := Lib.hid hrd
  have hW34 : w3.heap.size + 1 ≤ w4.heap.size := by have := HSW.out; omega
  clear hrd ho x1 HT3 HP3 HK3 HB3 HX3 HR3
  by_cases hx0 : x = 0
  · subst hx0
    go_wp2_with fail
    refine (pick_any _ (w.heap.size + 1) (p3 + 1) ts.length HR4.out (by omega) (by omega) (by omega)).mono ?_
    rintro e w5 ⟨x, rfl, x0, x1, hrd, ho⟩
    have hx1 := x1 (by omega)
    obtain ⟨k, rfl⟩ : ∃ k : Nat, x = k := ⟨x.toNat, by omega⟩
    have hs5 := ho.size
    have HT5 := Lib.hid (HT4.out.only ho (by have := HSZ.out; omega))
    have HK5 := Lib.hid (HK4.out.only ho (by omega))
    have HB5 := Lib.hid (HB4.out.only ho (by omega))
    have HX5 := Lib.hid (below_only HX4.out ho (by omega))
    have HR5 := Lib.hid hrd
    clear hrd ho x1 HT4 HP4 HK4 HB4 HX4 HR4
    have hlt : k < ts.length := by omega
    obtain ⟨gg, cap, u, hvv, hgl, hgb, hus, hfu, c0, c1, c2, _⟩ := HT5.out.get k (by rw [List.length_map]; exact hlt)
    simp only [List.getElem_map, List.length_map] at hvv hfu c0 c1 c2
    have HD5 := Lib.hid (HD.out ts[k] (List.getElem_mem hlt))
    have HNE := Lib.hid (fun b hb => HT5.out.ne u (List.mem_of_getElem? hus) b hb)
    have HUS := Lib.hid (List.mem_of_getElem? hus)
    have HUL := Lib.hid (fun b hb => HT5.out.lt (b := b) (.inr ⟨u, List.mem_of_getElem? hus, hb⟩))
    obtain ⟨t2, ht2⟩ : ∃ t2, t2 = ts[k] := ⟨_, rfl⟩
    rw [← ht2] at hfu c0 c2 HD5
    have hfu' : FRow w5 w1.heap.size u t2.u.length (pcl t2.u) := by
      have h : FRow w5 w1.heap.size u ((pcl t2.u).length / 2) (pcl t2.u) := hfu
      rwa [pcl_len, Nat.mul_div_cancel _ (by decide)] at h
    obtain ⟨au2, cu2, rfl, hpr2⟩ := FRow.prs hfu' HD5.out.fine.2.2
    have HVV := Lib.hid hvv
    simp only [Value.slice.injEq, true_and] at hvv
    obtain ⟨rfl, rfl⟩ := hvv
    have c0' : w5.cell? ⟨gg, k * 3, none⟩ = some (.int .i64 t2.k) := c0
    have c2' : w5.cell? ⟨gg, k * 3 + 2, none⟩ = some (.int .i64 t2.v) := c2
    have HPP := Lib.hid hpr2
    have hgw : gg < w3.heap.size := by have := (HTL.out gg (.inl rfl)).2; have := HSZ.out; omega
    clear ht2 hfu hfu' hus hpr2 c0 c2 HVV
    have hfr : Fr (fun b => b = w3.heap.size) w5 w5 := Fr.of_below (Below.refl _ _)
    have hfr3 := ((hfr.set' ⟨w3.heap.size, 0, none⟩ rfl (.int .i64 t2.k)).set' ⟨w3.heap.size, 1, none⟩ rfl (.slice au2 t2.u.length cu2)).set' ⟨w3.heap.size, 2, none⟩ rfl (.int .i64 t2.v)
    have hTI : TpI w (w.heap.size + 1) w1.heap.size (fun b => (Value.slice au2 t2.u.length cu2).ownBlock = some b) t2 au2 cu2 w3.heap.size (p3 + 1 + 1) ts us (.slice (some ⟨gg, 0, none⟩) ts.length cv) (((w5.setCell ⟨w3.heap.size, 0, none⟩ (.int .i64 t2.k)).setCell ⟨w3.heap.size, 1, none⟩ (.slice au2 t2.u.length cu2)).setCell ⟨w3.heap.size, 2, none⟩ (.int .i64 t2.v)) :=
      ⟨⟨HT5.out.fr hfr3 (fun b hb e => by have := (HTL.out b hb).2; have := HSZ.out; omega), HD.out, HPP.out.fr hfr3 (fun b hb e => by have := HTL.out b (.inr ⟨_, HUS.out, hb⟩); have := HSZ.out; omega)⟩, ⟨fun b hb => HNE.out b hb, fun b hb => by have := (HTL.out b (.inr ⟨_, HUS.out, hb⟩)).2; have := HSZ.out; simp [World.setCell]; omega⟩,
        (((HK5.out.set_ 0 (.int .i64 t2.k)).set_ 1 (.slice au2 t2.u.length cu2)).set_ 2 (.int .i64 t2.v)), fun e => by have := (HTL.out _ (.inl e)).2; have := HSZ.out; omega,
        HB5.out.fr hfr3 (by have := HSZ.out; omega), HR5.out.keep (fun j hj => by have := HSZ.out; exact hfr3.2.2.2.2 j (by omega) (by omega)), Below.frD HX5.out hfr3 (fun b hb => by have := HSZ.out; omega)⟩
    have HTI := Lib.hid hTI
    have HDD := Lib.hid (show ∀ b, (Value.slice au2 t2.u.length cu2).ownBlock = some b → w.heap.size + 1 < b from fun b hb => by have := (HTL.out b (.inr ⟨_, HUS.out, hb⟩)).1; have := HSZ.out; omega)
    have HTF := Lib.hid (And.intro HD5.out.fine.1 HD5.out.fine.2.1)
    obtain ⟨x0, x1, x2, f0, f1, f2⟩ := HK5.out.three
    have hlt5 := HK5.out.lt
    clear hfr hfr3 hTI HT5 HK5 HB5 HX5 HR5 HPP HD5
    go_wp2_with fail
    clear x0 x1 x2 f0 f1 f2 c0' c1 c2'
    obtain ⟨b1, hb1⟩ : ∃ b, b = w1.heap.size := ⟨_, rfl⟩
    have HB1 := Lib.hid hb1
    go_loopw [5, 7] (fun v i wr => ∃ (q p' : Nat) (ts' : List Tr) (us' : List Value), i = .int .i64 q ∧ q ≤ 60 ∧ p' ≤ 1000 + q ∧ ts'.length ≤ 5 + q ∧ TpI w (w.heap.size + 1) w1.heap.size (fun b => (Value.slice au2 t2.u.length cu2).ownBlock = some b) t2 au2 cu2 w3.heap.size p' ts' us' v wr) (fun _ i _ => 60 - (intOf i).toNat)
    case atStart => exact ⟨0, _, ts, us, rfl, by omega, by omega, by omega, HTI.out⟩
    case round =>
      obtain ⟨q, p', ts', us', rfl, hq, hpq, hll', ⟨h1, h2, h3⟩, ⟨h4, h5⟩, h6, h7, h8, h9, h10⟩ := hrel
      have H1 := Lib.hid h1
      have H2 := Lib.hid h2
      have H3 := Lib.hid h3
      have H4 := Lib.hid h4
      have H5 := Lib.hid h5
      have H6 := Lib.hid h6
      have H7 := Lib.hid h7
      have H8 := Lib.hid h8
      have H9 := Lib.hid h9
      have H10 := Lib.hid h10
      have hlt9 := h9.lt
      clear h1 h2 h3 h4 h5 h6 h7 h8 h9 h10 HTI
      have hend : ∀ (w' : World) (vv : Value), TrsOw w' w1.heap.size vv (ts'.map Tr.raw) us' → PrsAt w' (fun b => (Value.slice au2 t2.u.length cu2).ownBlock = some b) t2.u au2 cu2 → Blk w' w3.heap.size 25 #[.int .i64 t2.k, .slice au2 t2.u.length cu2, .int .i64 t2.v] → Blk w' w.heap.size 25 #[.int .i64 0, .slice none 0 0, .int .i64 0] → Below w.heap.size w w' → (∀ b, (fun b => (Value.slice au2 t2.u.length cu2).ownBlock = some b) b → w.heap.size < b) →
          ∃ av cv, vv = .slice av ts'.length cv ∧ DrawnTP w (.returned (.tuple #[vv, .agg #[.int .i64 t2.k, .slice au2 t2.u.length cu2, .int .i64 t2.v]])) (((w'.setCell ⟨w.heap.size, 0, none⟩ (.int .i64 t2.k)).setCell ⟨w.heap.size, 1, none⟩ (.slice au2 t2.u.length cu2)).setCell ⟨w.heap.size, 2, none⟩ (.int .i64 t2.v)).drew := by
        intro w' vv ht hp hk hb hx hdd
        obtain ⟨av, cv, rfl, hat⟩ := ht.at (fun t h => (H2.out t h).fine)
        have hfr : Fr (fun b => b = w.heap.size) w' w' := Fr.of_below (Below.refl _ _)
        have hfr3 := ((hfr.set' ⟨w.heap.size, 0, none⟩ rfl (.int .i64 t2.k)).set' ⟨w.heap.size, 1, none⟩ rfl (.slice au2 t2.u.length cu2)).set' ⟨w.heap.size, 2, none⟩ rfl (.int .i64 t2.v)
        exact ⟨av, cv, rfl, ts', av, cv, t2, au2, cu2, _, _, rfl, (hat.fr hfr3 (fun b hb e => by have := (ht.lt hb).1; omega)).drew, (hp.fr hfr3 (fun b hb e => by have := hdd b hb; omega)).drew, HTF.out.1, HTF.out.2, (((hx.setCell (by simp) _).setCell (by simp) _).setCell (by simp) _).drew⟩
      have HEND := Lib.hid hend
      clear hend
      by_cases hq60 : q < 60
      · have hqi : (q : Int) < 60 := by omega
        go_wp2_with fail
        refine (pick_any _ (w.heap.size + 1) p' 400 H9.out (by omega) (by omega) (by omega)).mono ?_
        rintro e w8 ⟨x, rfl, x0, x1, hrd, ho⟩
        have hs8 := ho.size
        have G1 := Lib.hid (H1.out.only ho (by omega))
        have G3 := Lib.hid (H3.out.fr (fr_of_only ho) (fun b hb e => by have := HDD.out b hb; omega))
        have G5 := Lib.hid (show ∀ b, (fun b => (Value.slice au2 t2.u.length cu2).ownBlock = some b) b → b < w8.heap.size from fun b hb => Nat.lt_of_lt_of_le (H5.out b hb) hs8)
        have G6 := Lib.hid (H6.out.only ho (by omega))
        have G8 := Lib.hid (H8.out.only ho (by omega))
        have G9 := Lib.hid hrd
        have G10 := Lib.hid (below_only H10.out ho (by omega))
        clear hrd ho H1 H3 H5 H6 H8 H9 H10 x1
        by_cases hx0 : x = 0
        · subst hx0
          obtain ⟨ls, hls⟩ : ∃ ls, ls = ts'.map Tr.raw := ⟨_, rfl⟩
          have HLS := Lib.hid hls
          have HLL := Lib.hid (show ls.length ≤ 70 by rw [hls, List.length_map]; omega)
          rw [← hls] at G1
          clear hls
          have hlo : w1.heap.size ≤ w8.heap.size := by have := G6.out.lt; have := HSZ.out; omega
          go_wp2_with (at_builtin; refine wpList_append_row _ rfl (.tmp 38) (.tmp 43) 31 rfl w1.heap.size 25 i0 (.agg #[.int .i64 0, .slice none 0 0, .int .i64 0]) 3 40 Try.underlying31 HI.out.1 HI.out.2.1 HI.out.2.2.1 HI.out.2.2.2 rfl (by decide) _ ls.length (tcl ls us') rfl (World.ownsRow.alloc G1.out.row _) ⟨w8.heap.size, 0, none⟩ 1 1 [.int .i64 ((q : Int) % 10), .slice none 0 0, .int .i64 q] rfl rfl ?c1 ?c2 (by decide) ?c3 ?c4 ?c5 ?_)
          case c1 =>
            intro j u hj
            have e : (⟨w8.heap.size, 0, none⟩ : Addr).add j = ⟨w8.heap.size, j, none⟩ := by unfold Addr.add; split <;> simp_all
            rw [e, World.cell?_alloc_new, ← hj]
            simp
          case c2 => simp [Value.oneCell']
          case c3 => rw [HML.out]; have := HLL.out; omega
          case c4 => have := HLL.out; omega
          case c5 => first | omega | (simp; omega)
          intro v' w9 hown hgr hnew
          have hgf := fr_own hgr
          have hge := fun b hb => (G1.out.lt (b := b) (.inl hb)).1
          have hpush : TrsOw w9 w1.heap.size v' ((ts' ++ [(⟨(q : Int) % 10, [], q⟩ : Tr)]).map Tr.raw) (us' ++ [.slice none 0 0]) := by
            rw [List.map_append, ← HLS.out]
            refine TrsOw.push (w := w8.alloc (.cells #[.int .i64 ((q : Int) % 10), .slice none 0 0, .int .i64 q] 25)) (G1.out.alloc _) (Tr.raw ⟨(q : Int) % 10, [], q⟩) (.slice none 0 0) (by show FRow _ _ _ ((pcl []).length / 2) (pcl []); rw [show pcl [] = [] from rfl]; simp only [List.length_nil, Nat.zero_div]; exact World.ownsRow_nil _ _ _ _) (fun b hb => by simp [Value.ownBlock] at hb) hown hgr (fun b hb => (hnew b hb).imp id (fun h => by rw [World.size_alloc]; exact h))
          have hs9 := hgr.size
          simp only [World.size_alloc] at hs9
          have HNX := Lib.hid (show TpI w (w.heap.size + 1) w1.heap.size (fun b => (Value.slice au2 t2.u.length cu2).ownBlock = some b) t2 au2 cu2 w3.heap.size (p' + 1) (ts' ++ [(⟨(q : Int) % 10, [], q⟩ : Tr)]) (us' ++ [.slice none 0 0]) v' w9 from
            ⟨⟨hpush, fun x hx => by
                rcases List.mem_append.1 hx with h | h
                · exact H2.out x h
                · rw [List.mem_singleton] at h; rw [h]; exact ⟨by simp only; omega, by simp only; omega, (by intro q hq; cases hq), Nat.zero_le _⟩, (G3.out.alloc _).fr hgf (fun b hb e => H4.out b hb e)⟩,
              ⟨fun b hb e => by
                rcases hnew b e with h | h
                · exact H4.out b hb h
                · have := G5.out b hb; first | omega | (simp at h; omega), fun b hb => by have := G5.out b hb; omega⟩,
              (G6.out.alloc _).fr hgf (fun e => H7.out e), fun e => by
                rcases hnew _ e with h | h
                · exact H7.out h
                · have := G6.out.lt; first | omega | (simp at h; omega),
              (G8.out.alloc _).fr hgf (fun e => by have := hge _ e; omega), (G9.out.alloc _).grown hgr (fun k hk => by have := hge k hk; omega), (G10.out.alloc G10.out.size _).trans (below_grown hgr (by have := G10.out.size; simp; omega) (fun k hk => by have := hge k hk; omega))⟩)
          clear hown hgr hgf hnew hge hpush G1 G3 G5 G6 G8 G9 G10 HEND
          go_wp2_with fail
          go_roundw
          case rel => exact ⟨q + 1, p' + 1, _, _, by go_num, by omega, by omega, by simp; omega, HNX.out⟩
          case measure => simp [intOf]; omega
        · have hne : (x == 0) = false := by simpa using hx0
          obtain ⟨x0, x1, x2, -⟩ := G6.out.three
          obtain ⟨y0, y1, y2, f0, f1, f2⟩ := G8.out.three
          have hlt8 := G8.out.lt
          obtain ⟨av9, cv9, hve, hfin⟩ := HEND.out w8 _ G1.out G3.out G6.out G8.out G10.out (fun b hb => by have := HDD.out b hb; omega)
          have HVE := Lib.hid hve
          have HFIN := Lib.hid hfin
          clear hve hfin
          go_wp2_with fail
          go_still_tail 3, (by kernel_rfl)
          go_wp2_with fail
          refine bodyPost_ret (v := .tuple #[.slice av9 ts'.length cv9, .agg #[.int .i64 t2.k, .slice au2 t2.u.length cu2, .int .i64 t2.v]]) (by rw [HVE.out]; simp [results, Try.results18, go_sem, y0, y1, y2]) rfl ?_
          rw [HVE.out] at HFIN
          exact HFIN.out
      · have hqi : ¬ (q : Int) < 60 := by omega
        obtain ⟨x0, x1, x2, -⟩ := H6.out.three
        obtain ⟨y0, y1, y2, f0, f1, f2⟩ := H8.out.three
        have hlt8 := H8.out.lt
        obtain ⟨av9, cv9, hve, hfin⟩ := HEND.out wr _ H1.out H3.out H6.out H8.out H10.out (fun b hb => by have := HDD.out b hb; omega)
        have HVE := Lib.hid hve
        have HFIN := Lib.hid hfin
        clear hve hfin
        go_wp2_with fail
        go_still_tail 3, (by kernel_rfl)
        go_wp2_with fail
        refine bodyPost_ret (v := .tuple #[.slice av9 ts'.length cv9, .agg #[.int .i64 t2.k, .slice au2 t2.u.length cu2, .int .i64 t2.v]]) (by rw [HVE.out]; simp [results, Try.results18, go_sem, y0, y1, y2]) rfl ?_
        rw [HVE.out] at HFIN
        exact HFIN.out
  · have hne : (x == 0) = false := by simpa using hx0
    have HTI := Lib.hid (show TpI w (w.heap.size + 1) w1.heap.size (fun b => (Value.slice au t.u.length cu).ownBlock = some b) t au cu w3.heap.size (p3 + 1) ts us (.slice av ts.length cv) w4 from
      ⟨⟨HT4.out, HD.out, HP4.out⟩, ⟨fun b hb e => by have := (HPF.out b hb).1; have := (HTL.out b (.inl e)).2; omega, fun b hb => by have := (HPF.out b hb).2; omega⟩, HK4.out, fun e => by have := (HTL.out _ (.inl e)).2; have := HSZ.out; omega, HB4.out, HR4.out, HX4.out⟩)
    have HDD := Lib.hid (show ∀ b, (Value.slice au t.u.length cu).ownBlock = some b → w.heap.size + 1 < b from fun b hb => by have := (HPF.out b hb).1; have := HSZ.out; omega)
    have HTF := Lib.hid (And.intro HDT.out.fine.1 HDT.out.fine.2.1)
    clear HT4 HP4 HK4 HB4 HR4 HX4 hx0
    go_wp2_with fail
    obtain ⟨b1, hb1⟩ : ∃ b, b = w1.heap.size := ⟨_, rfl⟩
    have HB1 := Lib.hid hb1
    go_loopw [5, 7] (fun v i wr => ∃ (q p' : Nat) (ts' : List Tr) (us' : List Value), i = .int .i64 q ∧ q ≤ 60 ∧ p' ≤ 1000 + q ∧ ts'.length ≤ 5 + q ∧ TpI w (w.heap.size + 1) w1.heap.size (fun b => (Value.slice au t.u.length cu).ownBlock = some b) t au cu w3.heap.size p' ts' us' v wr) (fun _ i _ => 60 - (intOf i).toNat)
    case atStart => exact ⟨0, _, ts, us, rfl, by omega, by omega, by omega, HTI.out⟩
    case round =>
      obtain ⟨q, p', ts', us', rfl, hq, hpq, hll', ⟨h1, h2, h3⟩, ⟨h4, h5⟩, h6, h7, h8, h9, h10⟩ := hrel
      have H1 := Lib.hid h1
      have H2 := Lib.hid h2
      have H3 := Lib.hid h3
      have H4 := Lib.hid h4
      have H5 := Lib.hid h5
      have H6 := Lib.hid h6
      have H7 := Lib.hid h7
      have H8 := Lib.hid h8
      have H9 := Lib.hid h9
      have H10 := Lib.hid h10
      have hlt9 := h9.lt
      clear h1 h2 h3 h4 h5 h6 h7 h8 h9 h10 HTI
      have hend : ∀ (w' : World) (vv : Value), TrsOw w' w1.heap.size vv (ts'.map Tr.raw) us' → PrsAt w' (fun b => (Value.slice au t.u.length cu).ownBlock = some b) t.u au cu → Blk w' w3.heap.size 25 #[.int .i64 t.k, .slice au t.u.length cu, .int .i64 t.v] → Blk w' w.heap.size 25 #[.int .i64 0, .slice none 0 0, .int .i64 0] → Below w.heap.size w w' → (∀ b, (fun b => (Value.slice au t.u.length cu).ownBlock = some b) b → w.heap.size < b) →
          ∃ av cv, vv = .slice av ts'.length cv ∧ DrawnTP w (.returned (.tuple #[vv, .agg #[.int .i64 t.k, .slice au t.u.length cu, .int .i64 t.v]])) (((w'.setCell ⟨w.heap.size, 0, none⟩ (.int .i64 t.k)).setCell ⟨w.heap.size, 1, none⟩ (.slice au t.u.length cu)).setCell ⟨w.heap.size, 2, none⟩ (.int .i64 t.v)).drew := by
        intro w' vv ht hp hk hb hx hdd
        obtain ⟨av, cv, rfl, hat⟩ := ht.at (fun t h => (H2.out t h).fine)
        have hfr : Fr (fun b => b = w.heap.size) w' w' := Fr.of_below (Below.refl _ _)
        have hfr3 := ((hfr.set' ⟨w.heap.size, 0, none⟩ rfl (.int .i64 t.k)).set' ⟨w.heap.size, 1, none⟩ rfl (.slice au t.u.length cu)).set' ⟨w.heap.size, 2, none⟩ rfl (.int .i64 t.v)
        exact ⟨av, cv, rfl, ts', av, cv, t, au, cu, _, _, rfl, (hat.fr hfr3 (fun b hb e => by have := (ht.lt hb).1; omega)).drew, (hp.fr hfr3 (fun b hb e => by have := hdd b hb; omega)).drew, HTF.out.1, HTF.out.2, (((hx.setCell (by simp) _).setCell (by simp) _).setCell (by simp) _).drew⟩
      have HEND := Lib.hid hend
      clear hend
      by_cases hq60 : q < 60
      · have hqi : (q : Int) < 60 := by omega
        go_wp2_with fail
        refine (pick_any _ (w.heap.size + 1) p' 400 H9.out (by omega) (by omega) (by omega)).mono ?_
        rintro e w8 ⟨x, rfl, x0, x1, hrd, ho⟩
        have hs8 := ho.size
        have G1 := Lib.hid (H1.out.only ho (by omega))
        have G3 := Lib.hid (H3.out.fr (fr_of_only ho) (fun b hb e => by have := HDD.out b hb; omega))
        have G5 := Lib.hid (show ∀ b, (fun b => (Value.slice au t.u.length cu).ownBlock = some b) b → b < w8.heap.size from fun b hb => Nat.lt_of_lt_of_le (H5.out b hb) hs8)
        have G6 := Lib.hid (H6.out.only ho (by omega))
        have G8 := Lib.hid (H8.out.only ho (by omega))
        have G9 := Lib.hid hrd
        have G10 := Lib.hid (below_only H10.out ho (by omega))
        clear hrd ho H1 H3 H5 H6 H8 H9 H10 x1
        by_cases hx0 : x = 0
        · subst hx0
          obtain ⟨ls, hls⟩ : ∃ ls, ls = ts'.map Tr.raw := ⟨_, rfl⟩
          have HLS := Lib.hid hls
          have HLL := Lib.hid (show ls.length ≤ 70 by rw [hls, List.length_map]; omega)
          rw [← hls] at G1
          clear hls
          have hlo : w1.heap.size ≤ w8.heap.size := by have := G6.out.lt; have := HSZ.out; omega
          go_wp2_with (at_builtin; refine wpList_append_row _ rfl (.tmp 38) (.tmp 43) 31 rfl w1.heap.size 25 i0 (.agg #[.int .i64 0, .slice none 0 0, .int .i64 0]) 3 40 Try.underlying31 HI.out.1 HI.out.2.1 HI.out.2.2.1 HI.out.2.2.2 rfl (by decide) _ ls.length (tcl ls us') rfl (World.ownsRow.alloc G1.out.row _) ⟨w8.heap.size, 0, none⟩ 1 1 [.int .i64 ((q : Int) % 10), .slice none 0 0, .int .i64 q] rfl rfl ?c1 ?c2 (by decide) ?c3 ?c4 ?c5 ?_)
          case c1 =>
            intro j u hj
            have e : (⟨w8.heap.size, 0, none⟩ : Addr).add j = ⟨w8.heap.size, j, none⟩ := by unfold Addr.add; split <;> simp_all
            rw [e, World.cell?_alloc_new, ← hj]
            simp
          case c2 => simp [Value.oneCell']
          case c3 => rw [HML.out]; have := HLL.out; omega
          case c4 => have := HLL.out; omega
          case c5 => first | omega | (simp; omega)
          intro v' w9 hown hgr hnew
          have hgf := fr_own hgr
          have hge := fun b hb => (G1.out.lt (b := b) (.inl hb)).1
          have hpush : TrsOw w9 w1.heap.size v' ((ts' ++ [(⟨(q : Int) % 10, [], q⟩ : Tr)]).map Tr.raw) (us' ++ [.slice none 0 0]) := by
            rw [List.map_append, ← HLS.out]
            refine TrsOw.push (w := w8.alloc (.cells #[.int .i64 ((q : Int) % 10), .slice none 0 0, .int .i64 q] 25)) (G1.out.alloc _) (Tr.raw ⟨(q : Int) % 10, [], q⟩) (.slice none 0 0) (by show FRow _ _ _ ((pcl []).length / 2) (pcl []); rw [show pcl [] = [] from rfl]; simp only [List.length_nil, Nat.zero_div]; exact World.ownsRow_nil _ _ _ _) (fun b hb => by simp [Value.ownBlock] at hb) hown hgr (fun b hb => (hnew b hb).imp id (fun h => by rw [World.size_alloc]; exact h))
          have hs9 := hgr.size
          simp only [World.size_alloc] at hs9
          have HNX := Lib.hid (show TpI w (w.heap.size + 1) w1.heap.size (fun b => (Value.slice au t.u.length cu).ownBlock = some b) t au cu w3.heap.size (p' + 1) (ts' ++ [(⟨(q : Int) % 10, [], q⟩ : Tr)]) (us' ++ [.slice none 0 0]) v' w9 from
            ⟨⟨hpush, fun x hx => by
                rcases List.mem_append.1 hx with h | h
                · exact H2.out x h
                · rw [List.mem_singleton] at h; rw [h]; exact ⟨by simp only; omega, by simp only; omega, (by intro q hq; cases hq), Nat.zero_le _⟩, (G3.out.alloc _).fr hgf (fun b hb e => H4.out b hb e)⟩,
              ⟨fun b hb e => by
                rcases hnew b e with h | h
                · exact H4.out b hb h
                · have := G5.out b hb; first | omega | (simp at h; omega), fun b hb => by have := G5.out b hb; omega⟩,
              (G6.out.alloc _).fr hgf (fun e => H7.out e), fun e => by
                rcases hnew _ e with h | h
                · exact H7.out h
                · have := G6.out.lt; first | omega | (simp at h; omega),
              (G8.out.alloc _).fr hgf (fun e => by have := hge _ e; omega), (G9.out.alloc _).grown hgr (fun k hk => by have := hge k hk; omega), (G10.out.alloc G10.out.size _).trans (below_grown hgr (by have := G10.out.size; simp; omega) (fun k hk => by have := hge k hk; omega))⟩)
          clear hown hgr hgf hnew hge hpush G1 G3 G5 G6 G8 G9 G10 HEND
          go_wp2_with fail
          go_roundw
          case rel => exact ⟨q + 1, p' + 1, _, _, by go_num, by omega, by omega, by simp; omega, HNX.out⟩
          case measure => simp [intOf]; omega
        · have hne : (x == 0) = false := by simpa using hx0
          obtain ⟨x0, x1, x2, -⟩ := G6.out.three
          obtain ⟨y0, y1, y2, f0, f1, f2⟩ := G8.out.three
          have hlt8 := G8.out.lt
          obtain ⟨av9, cv9, hve, hfin⟩ := HEND.out w8 _ G1.out G3.out G6.out G8.out G10.out (fun b hb => by have := HDD.out b hb; omega)
          have HVE := Lib.hid hve
          have HFIN := Lib.hid hfin
          clear hve hfin
          go_wp2_with fail
          go_still_tail 3, (by kernel_rfl)
          go_wp2_with fail
          refine bodyPost_ret (v := .tuple #[.slice av9 ts'.length cv9, .agg #[.int .i64 t.k, .slice au t.u.length cu, .int .i64 t.v]]) (by rw [HVE.out]; simp [results, Try.results18, go_sem, y0, y1, y2]) rfl ?_
          rw [HVE.out] at HFIN
          exact HFIN.out
      · have hqi : ¬ (q : Int) < 60 := by omega
        obtain ⟨x0, x1, x2, -⟩ := H6.out.three
        obtain ⟨y0, y1, y2, f0, f1, f2⟩ := H8.out.three
        have hlt8 := H8.out.lt
        obtain ⟨av9, cv9, hve, hfin⟩ := HEND.out wr _ H1.out H3.out H6.out H8.out H10.out (fun b hb => by have := HDD.out b hb; omega)
        have HVE := Lib.hid hve
        have HFIN := Lib.hid hfin
        clear hve hfin
        go_wp2_with fail
        go_still_tail 3, (by kernel_rfl)
        go_wp2_with fail
        refine bodyPost_ret (v := .tuple #[.slice av9 ts'.length cv9, .agg #[.int .i64 t.k, .slice au t.u.length cu, .int .i64 t.v]]) (by rw [HVE.out]; simp [results, Try.results18, go_sem, y0, y1, y2]) rfl ?_
        rw [HVE.out] at HFIN
        exact HFIN.out
end Go.Proofs.Ytjbggeeadodmpaa
