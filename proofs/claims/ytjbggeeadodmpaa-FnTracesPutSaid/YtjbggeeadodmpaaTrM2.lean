/- impl.copyTrace, spec.l5Copy, impl.copyTraces, spec.l5All -/
import Derived.Test.YtjbggeeadodmpaaTrM
namespace Go.Proofs.Ytjbggeeadodmpaa
open Go.RowKit

set_option maxRecDepth 100000 in
set_option maxHeartbeats 4000000 in
theorem copyTrace_any (w : World) (S : Nat → Prop) (t : Tr) (a : Option Addr) (c : Nat) (h : PrsAt w S t.u a c) (hm : t.u.length ≤ 1000000) :
    Calls Try.prog 43 #[.agg #[.int .i64 t.k, .slice a t.u.length c, .int .i64 t.v]] w (CopiedTr t w) := by
  obtain ⟨W, hW⟩ : ∃ W, W = (w.alloc (.cells #[.int .i64 t.k, .slice a t.u.length c, .int .i64 t.v] 25)).alloc (.cells #[.int .i64 0, .slice none 0 0, .int .i64 0] 25) := ⟨_, rfl⟩
  have HWW := Lib.hid hW
  have hWs : W.heap.size = w.heap.size + 1 + 1 := by rw [hW]; simp
  have HSZ := Lib.hid hWs
  have HP := Lib.hid (show PrsAt W.drew S t.u a c by rw [hW]; exact ((h.alloc _).alloc _).drew)
  have B0 := Lib.hid (show Blk W.drew w.heap.size 25 #[.int .i64 t.k, .slice a t.u.length c, .int .i64 t.v] by rw [hW]; exact ((Blk.new w _ _).alloc _).drew)
  have B1 := Lib.hid (show Blk W.drew (w.heap.size + 1) 25 #[.int .i64 0, .slice none 0 0, .int .i64 0] by
    have := (Blk.new (w.alloc (.cells #[.int .i64 t.k, .slice a t.u.length c, .int .i64 t.v] 25)) 25 #[.int .i64 0, .slice none 0 0, .int .i64 0]).drew
    rw [hW]; simpa using this)
  have HB0 := Lib.hid (show Below w.heap.size w W.drew by rw [hW]; exact (((Below.refl _ _).alloc (Nat.le_refl _) _).alloc (by simp) _).drew)
  have HM := Lib.hid (show ([] : List (Int × Int)).length + t.u.length ≤ 10000000 by simp; omega)
  have HN0 := Lib.hid (show FRow W.drew W.heap.size (.slice none 0 0) ([] : List (Int × Int)).length (pcl []) from World.ownsRow_nil _ _ _ _)
  clear h hm hW hWs
  obtain ⟨x0, x1, x2, -⟩ := B0.out.three
  go_enter Try.func43, Try.ntmps43
  go_wp2_with fail
  rw [← HWW.out]
  go_region_held3 (fun w' => w'.cell? ⟨w.heap.size, 0, none⟩ = some (.int .i64 t.k) ∧ w'.cell? ⟨w.heap.size, 1, none⟩ = some (.slice a t.u.length c) ∧ w'.cell? ⟨w.heap.size, 2, none⟩ = some (.int .i64 t.v)) (first | exact ⟨x0, x1, x2⟩ | exact ⟨y0, y1, y2⟩ | go_keep) ((refine step_append_prs rfl (.const (.slice none 0 0)) (.tmp 6) rfl W.heap.size (.slice none 0 0) [] rfl HN0.out S t.u a c rfl HP.out HM.out (Nat.le_refl _) ?_; intro v1 w1 hr hgr hnw; obtain ⟨av, cv, rfl⟩ := own_shape' hr; have hb1 := below_grown (B := W.heap.size) hgr (Nat.le_refl _) (by intro k hk; simp [Value.ownBlock] at hk); obtain ⟨y0, y1, y2, -⟩ := (B0.out.below hb1 B0.out.lt).three; obtain ⟨z0, z1, z2, f0, f1, f2⟩ := (B1.out.below hb1 B1.out.lt).three))
  all_goals
    have HR := Lib.hid hr
    have HB := Lib.hid (HB0.out.trans (hb1.mono (by have := HSZ.out; omega)))
    clear hr hgr hnw hb1 x0 x1 x2 y0 y1 y2
    go_wp2_with fail
    refine bodyPost_ret (v := .agg #[.int .i64 t.k, .slice av ([] ++ t.u).length cv, .int .i64 t.v]) (by simp [results, Try.results43, go_sem, z0, z1, z2]) rfl ?_
    have hr := ownsRow_low HR.out (show w.heap.size + 1 + 1 ≤ W.heap.size by have := HSZ.out; omega)
    have hfr : Fr (fun b => b = w.heap.size + 1) w1 w1 := Fr.of_below (Below.refl _ _)
    refine ⟨_, rfl, ?_, ?_⟩
    · exact ownsRow_low (FRow.fr hr (((hfr.set' ⟨w.heap.size + 1, 0, none⟩ rfl _).set' ⟨w.heap.size + 1, 1, none⟩ rfl _).set' ⟨w.heap.size + 1, 2, none⟩ rfl _) (fun b hb => by omega)) (by omega)
    · exact ((HB.out.setCell (by simp) _).setCell (by simp) _).setCell (by simp) _

set_option maxRecDepth 100000 in
set_option maxHeartbeats 4000000 in
theorem l5Copy_any (w : World) (S : Nat → Prop) (t : Tr) (a : Option Addr) (c : Nat) (h : PrsAt w S t.u a c) (hm : t.u.length ≤ 1000000) :
    Calls Try.prog 45 #[.agg #[.int .i64 t.k, .slice a t.u.length c, .int .i64 t.v]] w (CopiedTr t w) := by
  obtain ⟨W, hW⟩ : ∃ W, W = (w.alloc (.cells #[.int .i64 t.k, .slice a t.u.length c, .int .i64 t.v] 25)).alloc (.cells #[.int .i64 0, .slice none 0 0, .int .i64 0] 25) := ⟨_, rfl⟩
  have HWW := Lib.hid hW
  have hWs : W.heap.size = w.heap.size + 1 + 1 := by rw [hW]; simp
  have HSZ := Lib.hid hWs
  have HP := Lib.hid (show PrsAt (W.drew.alloc (.cells #[] 63)) S t.u a c by rw [hW]; exact (((h.alloc _).alloc _).drew).alloc _)
  have B0 := Lib.hid (show Blk W.drew w.heap.size 25 #[.int .i64 t.k, .slice a t.u.length c, .int .i64 t.v] by rw [hW]; exact ((Blk.new w _ _).alloc _).drew)
  have B1 := Lib.hid (show Blk W.drew (w.heap.size + 1) 25 #[.int .i64 0, .slice none 0 0, .int .i64 0] by
    have := (Blk.new (w.alloc (.cells #[.int .i64 t.k, .slice a t.u.length c, .int .i64 t.v] 25)) 25 #[.int .i64 0, .slice none 0 0, .int .i64 0]).drew
    rw [hW]; simpa using this)
  have HB0 := Lib.hid (show Below w.heap.size w W.drew by rw [hW]; exact (((Below.refl _ _).alloc (Nat.le_refl _) _).alloc (by simp) _).drew)
  have HM := Lib.hid (show ([] : List (Int × Int)).length + t.u.length ≤ 10000000 by simp; omega)
  have HN0 := Lib.hid (show FRow (W.drew.alloc (.cells #[] 63)) W.heap.size (.slice (some ⟨W.heap.size, 0, none⟩) 0 0) ([] : List (Int × Int)).length (pcl []) from frow_nil W.drew)
  have HLE := Lib.hid (show W.heap.size ≤ (W.drew.alloc (.cells #[] 63)).heap.size by rw [World.size_alloc]; exact Nat.le_succ _)
  have HBA := Lib.hid (show Below W.heap.size W.drew (W.drew.alloc (.cells #[] 63)) from (Below.refl W.heap.size W.drew).alloc (show W.heap.size ≤ W.drew.heap.size from Nat.le_refl _) _)
  clear h hm hW hWs
  obtain ⟨x0, x1, x2, -⟩ := B0.out.three
  obtain ⟨u0, u1, u2, -⟩ := (B0.out.alloc (.cells #[] 63)).three
  go_enter Try.func45, Try.ntmps45
  go_wp2_with fail
  rw [← HWW.out]
  go_region_held3 (fun w' => w'.cell? ⟨w.heap.size, 0, none⟩ = some (.int .i64 t.k) ∧ w'.cell? ⟨w.heap.size, 1, none⟩ = some (.slice a t.u.length c) ∧ w'.cell? ⟨w.heap.size, 2, none⟩ = some (.int .i64 t.v)) (first | exact ⟨x0, x1, x2⟩ | exact ⟨u0, u1, u2⟩ | exact ⟨y0, y1, y2⟩ | go_keep) ((refine step_append_prs rfl (.tmp 5) (.tmp 7) rfl W.heap.size (.slice (some ⟨W.heap.size, 0, none⟩) 0 0) [] rfl HN0.out S t.u a c rfl HP.out HM.out HLE.out ?_; intro v1 w1 hr hgr hnw; obtain ⟨av, cv, rfl⟩ := own_shape' hr; have hb1 := HBA.out.trans (below_grown (B := W.heap.size) hgr HLE.out (by intro k hk; simp [Value.ownBlock] at hk; omega)); obtain ⟨y0, y1, y2, -⟩ := (B0.out.below hb1 B0.out.lt).three; obtain ⟨z0, z1, z2, f0, f1, f2⟩ := (B1.out.below hb1 B1.out.lt).three))
  all_goals
    have HR := Lib.hid hr
    have HB := Lib.hid (HB0.out.trans (hb1.mono (by have := HSZ.out; omega)))
    clear hr hgr hnw hb1 x0 x1 x2 y0 y1 y2 u0 u1 u2
    go_wp2_with fail
    refine bodyPost_ret (v := .agg #[.int .i64 t.k, .slice av ([] ++ t.u).length cv, .int .i64 t.v]) (by simp [results, Try.results45, go_sem, z0, z1, z2]) rfl ?_
    have hr := ownsRow_low HR.out (show w.heap.size + 1 + 1 ≤ W.heap.size by have := HSZ.out; omega)
    have hfr : Fr (fun b => b = w.heap.size + 1) w1 w1 := Fr.of_below (Below.refl _ _)
    refine ⟨_, rfl, ?_, ?_⟩
    · exact ownsRow_low (FRow.fr hr (((hfr.set' ⟨w.heap.size + 1, 0, none⟩ rfl _).set' ⟨w.heap.size + 1, 1, none⟩ rfl _).set' ⟨w.heap.size + 1, 2, none⟩ rfl _) (fun b hb => by omega)) (by omega)
    · exact ((HB.out.setCell (by simp) _).setCell (by simp) _).setCell (by simp) _

/-- What a copy of traces leaves. -/
def CopiedTrs (l : List Tr) (w : World) (e : Ending) (w' : World) : Prop := ∃ v us, e = .returned v ∧ TrsOw w' w.heap.size v (l.map Tr.raw) us ∧ Below w.heap.size w w'
def CtRel (w : World) (l : List Tr) (v i : Value) (wr : World) : Prop := ∃ (k : Nat) (us : List Value), k ≤ l.length ∧ i = .int .i64 k ∧ TrsOw wr w.heap.size v ((l.take k).map Tr.raw) us ∧ Below w.heap.size w wr

theorem trs_empty (w : World) (n : Nat) (cs : Array Value) (hcs : cs.size = 3 * n) (hn : n ≤ 9223372036854775807) : TrsOw (w.alloc (.cells cs 25)) w.heap.size (.slice (some ⟨w.heap.size, 0, none⟩) 0 n) [] [] :=
  ⟨⟨by simp [tcl], .inr ⟨w.heap.size, n, cs, rfl, Nat.le_refl _, heap_alloc_new w _, Nat.zero_le _, hn, by omega, by simp [tcl]⟩⟩, trivial, (fun _ h => by cases h), List.Pairwise.nil⟩

set_option maxRecDepth 100000 in
set_option maxHeartbeats 4000000 in
theorem copyTraces_any (w : World) (S : Nat → Prop) (l : List Tr) (a : Option Addr) (c : Nat) (h : TrsAt w S l a c) (hle : l.length ≤ 1000) (hu : ∀ t ∈ l, t.u.length ≤ 1000) :
    Calls Try.prog 48 #[.slice a l.length c] w (CopiedTrs l w) := by
  have H := Lib.hid h
  have HU := Lib.hid hu
  obtain ⟨i0, hi, hz0, hz1, hz2⟩ := info_parts infoTrace
  have HI := Lib.hid (And.intro hi (And.intro hz0 (And.intro hz1 hz2)))
  have hmk : ∀ W : World, (Instr.makeSlice 31 (.int .i64 0) (.int .i64 ((l.length : Int) + 1))).run Try.prog W = .ok (.slice (some ⟨W.heap.size, 0, none⟩) 0 (l.length + 1)) (W.alloc (.cells (madeCells #[.int .i64 0, .slice none 0 0, .int .i64 0] ((l.length + 1) * 3)) 25)) := fun W => by
    have h := run_make_rowN (P := Try.prog) 31 25 i0 _ Try.underlying31 hi hz0 .i64 .i64 0 (l.length + 1) (Nat.zero_le _) (by rw [hz2]; omega) (by omega) W
    rw [hz1] at h
    exact h
  have HML := Lib.hid (show maxLen = 9223372036854775807 from rfl)
  clear h hu hi hz0 hz1 hz2
  go_enter Try.func48, Try.ntmps48
  go_wp2_with fail
  clear hmk
  have HR0 := Lib.hid (trs_empty w (l.length + 1) (madeCells #[.int .i64 0, .slice none 0 0, .int .i64 0] ((l.length + 1) * 3)) (by rw [size_madeCells]; omega) (by omega))
  have HB0 := Lib.hid ((Below.refl w.heap.size w).alloc (Nat.le_refl _) (.cells (madeCells #[.int .i64 0, .slice none 0 0, .int .i64 0] ((l.length + 1) * 3)) 25))
  go_loopw [3, 12] (fun v i wr => CtRel w l v i wr ∧ True) (fun _ i _ => l.length - (intOf i).toNat)
  case atStart => exact ⟨⟨0, [], by omega, rfl, HR0.out, HB0.out⟩, trivial⟩
  case round =>
    obtain ⟨⟨k, us, hk, rfl, hr, hb⟩, -⟩ := hrel
    have HB := Lib.hid hb
    have HR := Lib.hid hr
    have hwr := hb.size
    clear hb hr HR0 HB0
    by_cases hlt : k < l.length
    · obtain ⟨b, o, a', c', rfl, hbl, _, e0, e1, e2, hs, _, _⟩ := H.out.get HB.out hlt
      have hul := HU.out l[k] (List.getElem_mem hlt)
      have HTS := Lib.hid (show (l.take (k + 1)).map Tr.raw = (l.take k).map Tr.raw ++ [l[k].raw] by rw [List.take_succ_eq_append_getElem hlt, List.map_append]; rfl)
      have HTL := Lib.hid (show ((l.take k).map Tr.raw).length = k by simp; omega)
      obtain ⟨t, ht⟩ : ∃ t, t = l[k] := ⟨_, rfl⟩
      rw [← ht] at e0 e1 e2 hs hul HTS
      obtain ⟨ls, hls⟩ : ∃ ls, ls = (l.take k).map Tr.raw := ⟨_, rfl⟩
      rw [← hls] at HTS HTL HR
      have HS := Lib.hid (hs.alloc (.cells #[.int .i64 t.k, .slice a' t.u.length c', .int .i64 t.v] 25))
      have HRA := Lib.hid (HR.out.alloc (.cells #[.int .i64 t.k, .slice a' t.u.length c', .int .i64 t.v] 25))
      have HBA := Lib.hid (HB.out.alloc hwr (.cells #[.int .i64 t.k, .slice a' t.u.length c', .int .i64 t.v] 25))
      clear hs ht hls
      go_wp2_with fail
      refine (copyTrace_any _ S t a' c' HS.out (by omega)).mono ?_
      rintro e w1 ⟨u, rfl, hfr, hb⟩
      obtain ⟨au, cu, rfl⟩ := own_shape' hfr
      have hr1 := HRA.out.below hb
      obtain ⟨av, cv, hv⟩ := own_shape' hr1.row
      subst hv
      have HR1 := Lib.hid hr1
      have HF1 := Lib.hid hfr
      have HB1 := Lib.hid (HBA.out.trans (hb.mono (by simp; omega)))
      have hs1 := HB1.out.size
      have HFN := Lib.hid (fun b (hb1 : (Value.slice au t.u.length cu).ownBlock = some b) (hd : trD (.slice av ls.length cv) us b) => show False from by
        have h1 := (World.ownsRow.lt hfr b hb1).1
        have h2 := (HRA.out.lt hd).2
        omega)
      have hll := HTL.out
      have hls1 : ls.length ≤ 1000 := by omega
      have HLS := Lib.hid hls1
      clear hb hfr hr1 HS HRA HBA hll hls1
      go_wp2_with (at_builtin; refine wpList_append_row _ rfl (.tmp 16) (.tmp 19) 31 rfl w.heap.size 25 i0 (.agg #[.int .i64 0, .slice none 0 0, .int .i64 0]) 3 40 Try.underlying31 HI.out.1 HI.out.2.1 HI.out.2.2.1 HI.out.2.2.2 rfl (by decide) _ ls.length (tcl ls us) rfl (World.ownsRow.alloc HR1.out.row _) ⟨w1.heap.size, 0, none⟩ 1 1 [.int .i64 t.k, .slice au t.u.length cu, .int .i64 t.v] rfl rfl ?c1 ?c2 (by decide) ?c3 ?c4 ?c5 ?_)
      case c1 =>
        intro j u hj
        have e : (⟨w1.heap.size, 0, none⟩ : Addr).add j = ⟨w1.heap.size, j, none⟩ := by unfold Addr.add; split <;> simp_all
        rw [e, World.cell?_alloc_new, ← hj]
        simp
      case c2 => simp [Value.oneCell']
      case c3 => rw [HML.out]; have := HLS.out; omega
      case c4 => have := HLS.out; omega
      case c5 => simp; omega
      intro v' w2 hown hgr hnew
      have hpush : TrsOw w2 w.heap.size v' ((l.take (k + 1)).map Tr.raw) (us ++ [.slice au t.u.length cu]) := by
        rw [HTS.out]
        refine TrsOw.push (w := w1.alloc (.cells #[.int .i64 t.k, .slice au t.u.length cu, .int .i64 t.v] 25)) (HR1.out.alloc _) t.raw (.slice au t.u.length cu) ?_ (fun b hb hd => HFN.out b hb hd) hown hgr (fun b hb => (hnew b hb).imp id (fun h => by rw [World.size_alloc]; exact h))
        show FRow _ _ _ ((pcl t.u).length / 2) (pcl t.u)
        rw [pcl_len, Nat.mul_div_cancel _ (by decide)]
        exact ownsRow_low (World.ownsRow.alloc HF1.out _) (by first | omega | (simp; omega))
      have HPU := Lib.hid hpush
      have HB2 := Lib.hid ((HB1.out.alloc hs1 (.cells #[.int .i64 t.k, .slice au t.u.length cu, .int .i64 t.v] 25)).trans (below_grown hgr (by simp; omega) (own_ge HR1.out.row)))
      clear hown hgr hnew hpush HR1 HF1 HFN
      go_wp2_with fail
      go_roundw
      case rel => exact ⟨⟨k + 1, _, by omega, by go_num, HPU.out, HB2.out⟩, trivial⟩
      case measure => simp [intOf]; omega
    · have hq := HR.out
      rw [List.take_of_length_le (by omega)] at hq
      have HQ := Lib.hid hq
      clear hq
      go_wp2_with fail
      go_ret
      exact ⟨_, us, rfl, HQ.out, HB.out⟩
set_option maxRecDepth 100000 in
set_option maxHeartbeats 4000000 in
theorem l5All_any (w : World) (S : Nat → Prop) (l : List Tr) (a : Option Addr) (c : Nat) (h : TrsAt w S l a c) (hle : l.length ≤ 1000) (hu : ∀ t ∈ l, t.u.length ≤ 1000) :
    Calls Try.prog 49 #[.slice a l.length c] w (CopiedTrs l w) := by
  have H := Lib.hid h
  have HU := Lib.hid hu
  obtain ⟨i0, hi, hz0, hz1, hz2⟩ := info_parts infoTrace
  have HI := Lib.hid (And.intro hi (And.intro hz0 (And.intro hz1 hz2)))
  have HML := Lib.hid (show maxLen = 9223372036854775807 from rfl)
  clear h hu hi hz0 hz1 hz2
  go_enter Try.func49, Try.ntmps49
  go_wp2_with fail
  have HR0 := Lib.hid (trs_empty w 0 #[] (by simp) (by omega))
  have HB0 := Lib.hid ((Below.refl w.heap.size w).alloc (Nat.le_refl _) (.cells #[] 25))
  go_loopw [3, 4] (fun v i wr => CtRel w l v i wr ∧ True) (fun _ i _ => l.length - (intOf i).toNat)
  case atStart => exact ⟨⟨0, [], by omega, rfl, HR0.out, HB0.out⟩, trivial⟩
  case round =>
    obtain ⟨⟨k, us, hk, rfl, hr, hb⟩, -⟩ := hrel
    have HB := Lib.hid hb
    have HR := Lib.hid hr
    have hwr := hb.size
    clear hb hr HR0 HB0
    by_cases hlt : k < l.length
    · obtain ⟨b, o, a', c', rfl, hbl, _, e0, e1, e2, hs, _, _⟩ := H.out.get HB.out hlt
      have hul := HU.out l[k] (List.getElem_mem hlt)
      have HTS := Lib.hid (show (l.take (k + 1)).map Tr.raw = (l.take k).map Tr.raw ++ [l[k].raw] by rw [List.take_succ_eq_append_getElem hlt, List.map_append]; rfl)
      have HTL := Lib.hid (show ((l.take k).map Tr.raw).length = k by simp; omega)
      obtain ⟨t, ht⟩ : ∃ t, t = l[k] := ⟨_, rfl⟩
      rw [← ht] at e0 e1 e2 hs hul HTS
      obtain ⟨ls, hls⟩ : ∃ ls, ls = (l.take k).map Tr.raw := ⟨_, rfl⟩
      rw [← hls] at HTS HTL HR
      have HS := Lib.hid hs
      have HRA := Lib.hid HR.out
      have HBA := Lib.hid HB.out
      clear hs ht hls
      go_wp2_with fail
      refine (l5Copy_any _ S t a' c' HS.out (by omega)).mono ?_
      rintro e w1 ⟨u, rfl, hfr, hb⟩
      obtain ⟨au, cu, rfl⟩ := own_shape' hfr
      have hr1 := HRA.out.below hb
      obtain ⟨av, cv, hv⟩ := own_shape' hr1.row
      subst hv
      have HR1 := Lib.hid hr1
      have HF1 := Lib.hid hfr
      have HB1 := Lib.hid (HBA.out.trans (hb.mono hwr))
      have hs1 := HB1.out.size
      have HFN := Lib.hid (fun b (hb1 : (Value.slice au t.u.length cu).ownBlock = some b) (hd : trD (.slice av ls.length cv) us b) => show False from by
        have h1 := (World.ownsRow.lt hfr b hb1).1
        have h2 := (HRA.out.lt hd).2
        omega)
      have hll := HTL.out
      have hls1 : ls.length ≤ 1000 := by omega
      have HLS := Lib.hid hls1
      clear hb hfr hr1 HS HRA HBA hll hls1
      go_wp2_with (at_builtin; refine wpList_append_row _ rfl (.tmp 12) (.tmp 18) 31 rfl w.heap.size 25 i0 (.agg #[.int .i64 0, .slice none 0 0, .int .i64 0]) 3 40 Try.underlying31 HI.out.1 HI.out.2.1 HI.out.2.2.1 HI.out.2.2.2 rfl (by decide) _ ls.length (tcl ls us) rfl (World.ownsRow.alloc HR1.out.row _) ⟨w1.heap.size, 0, none⟩ 1 1 [.int .i64 t.k, .slice au t.u.length cu, .int .i64 t.v] rfl rfl ?c1 ?c2 (by decide) ?c3 ?c4 ?c5 ?_)
      case c1 =>
        intro j u hj
        have e : (⟨w1.heap.size, 0, none⟩ : Addr).add j = ⟨w1.heap.size, j, none⟩ := by unfold Addr.add; split <;> simp_all
        rw [e, World.cell?_alloc_new, ← hj]
        simp
      case c2 => simp [Value.oneCell']
      case c3 => rw [HML.out]; have := HLS.out; omega
      case c4 => have := HLS.out; omega
      case c5 => simp; omega
      intro v' w2 hown hgr hnew
      have hpush : TrsOw w2 w.heap.size v' ((l.take (k + 1)).map Tr.raw) (us ++ [.slice au t.u.length cu]) := by
        rw [HTS.out]
        refine TrsOw.push (w := w1.alloc (.cells #[.int .i64 t.k, .slice au t.u.length cu, .int .i64 t.v] 25)) (HR1.out.alloc _) t.raw (.slice au t.u.length cu) ?_ (fun b hb hd => HFN.out b hb hd) hown hgr (fun b hb => (hnew b hb).imp id (fun h => by rw [World.size_alloc]; exact h))
        show FRow _ _ _ ((pcl t.u).length / 2) (pcl t.u)
        rw [pcl_len, Nat.mul_div_cancel _ (by decide)]
        exact ownsRow_low (World.ownsRow.alloc HF1.out _) (by first | omega | (simp; omega))
      have HPU := Lib.hid hpush
      have HB2 := Lib.hid ((HB1.out.alloc hs1 (.cells #[.int .i64 t.k, .slice au t.u.length cu, .int .i64 t.v] 25)).trans (below_grown hgr (by simp; omega) (own_ge HR1.out.row)))
      clear hown hgr hnew hpush HR1 HF1 HFN
      go_wp2_with fail
      go_roundw
      case rel => exact ⟨⟨k + 1, _, by omega, by go_num, HPU.out, HB2.out⟩, trivial⟩
      case measure => simp [intOf]; omega
    · have hq := HR.out
      rw [List.take_of_length_le (by omega)] at hq
      have HQ := Lib.hid hq
      clear hq
      go_wp2_with fail
      go_ret
      exact ⟨_, us, rfl, HQ.out, HB.out⟩
end Go.Proofs.Ytjbggeeadodmpaa
