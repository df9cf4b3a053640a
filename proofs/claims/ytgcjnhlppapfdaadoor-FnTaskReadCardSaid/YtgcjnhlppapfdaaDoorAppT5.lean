/- impl.appendTask: kind 5 -/
import Derived.Test.YtgcjnhlppapfdaaDoorAppT0
namespace Go.Proofs.YtgcjnhlppapfdaaDoor
open Go.RowKit Go.Lib
set_option maxHeartbeats 400000 in
theorem appT_5 (t : T) (hF : ∀ u ∈ t.ps, AppT u) (hk : t.k = 5) : AppT t := by
  intro w S a c base v bs hat hS hfit hnodes hv hbl hbase
  obtain ⟨hk0, hk5, hn0, hn1⟩ := fit_n hfit
  obtain ⟨i0, hi, hz0, hz1, hz2⟩ := info_parts infoByte
  have HI := Lib.hid (And.intro hi (And.intro hz0 (And.intro hz1 hz2)))
  have HF := Lib.hid hF
  have HFIT := Lib.hid hfit
  have hlen : t.ps.length ≤ 9223372036854775807 := by have := hat.1; have := hat.2.1; omega
  have HA := Lib.hid hat
  have HV := Lib.hid hv
  have HSB := Lib.hid hS
  have hml : maxLen = 9223372036854775807 := rfl
  have HML := Lib.hid hml
  clear hat hF hfit hv hS hi hz0 hz1 hz2 hml
  obtain ⟨n, hn⟩ : ∃ n : Nat, t.n = n := ⟨t.n.toNat, by omega⟩
  have hn96 : n ≤ 96 := by omega
  have htx : t.text = if t.k = 0 then dec n else if t.k = 1 then 107 :: dec n else headB t.k n ++ textL t.ps ++ [41] := by
    cases t; simp only [T.text, T.k, T.n, T.ps] at hn ⊢; rw [hn]; rfl
  rw [hn]
  have hpos := t.nodes_pos
  have HN := Lib.hid hn
  have HT := Lib.hid htx
  clear htx hn hn0 hn1
  have HTX := Lib.hid (show t.text = headB 5 n ++ textL t.ps ++ [41] by rw [HT.out]; simp [hk])
  have HK := Lib.hid hk
  rw [hk]
  clear hk hk0 hk5
  go_enter Tryd.func15, Tryd.ntmps15
  go_wp2_with fail
  go_region_law (first
    | (fail_if_success (have := hx1)
       refine step_append_own_string rfl (.tmp 37) (.const (.string ⟨#[40, 64]⟩)) 22 9 rfl base 5 i0 Tryd.underlying22 Tryd.underlying9 HI.out.1 HI.out.2.1 HI.out.2.2.1 HI.out.2.2.2 v bs.length (bc bs) rfl (by repeat (first | exact HV.out | refine Byt.drew ?_ | refine Byt.alloc ?_ _)) ⟨#[40, 64]⟩ rfl (by rw [HML.out]; show bs.length + 2 ≤ _; omega) (by show bs.length + 2 ≤ _; omega) (by simp; omega) ?_
       intro v1 w1 hown1 hgr1
       have hx1 : Byt w1 base v1 (bs ++ [40, 64]) := Byt.app (l := [40, 64]) hown1
       have hg1 := (show Byt _ base v bs by repeat (first | exact HV.out | refine Byt.drew ?_ | refine Byt.alloc ?_ _)).grown hgr1 (by simp; omega)
       obtain ⟨z0, z1, z2, _, _, _⟩ := (hg1.2 w.heap.size #[.int .i64 5, .int .i64 n, .slice a t.ps.length c] (Blk.new w _ _).drew).three
       clear hown1 hgr1)
    | (go_simp; go_at_call 26; refine (app_any n (by omega) _ base v1 (bs ++ [40, 64]) hx1 (by simp; omega) ?_).mono ?_; exact Nat.le_trans (by simp; omega) hg1.1.size; rintro e w2 ⟨v2, rfl, hown2, hgr2⟩; have hg2 := hx1.grown hgr2 (Nat.le_trans (by simp; omega) hg1.1.size)))
  all_goals
    have HB0 := Lib.hid (show Byt w2 base v2 (bs ++ headB 5 n) by have := hown2; simpa [headB] using this)
    have HG0 := Lib.hid (And.intro ((((Below.refl base w).alloc hbase _).drew.trans hg1.1).trans hg2.1) (show KeepT (w.alloc (.cells #[.int .i64 5, .int .i64 n, .slice a t.ps.length c] 25)) w2 from (KeepT.of_below (Below.refl _ _).drew).trans (hg1.2.trans hg2.2)))
    obtain ⟨y0, y1, y2, _, _, _⟩ := (HG0.out.2 _ _ (Blk.new w _ _)).three
    clear z0 z1 z2 hown2 hgr2 hg1 hg2 hx1
    go_wp2_with fail
    clear y0 y1 y2
    go_loopw [0, 45] (fun b i wr => ∃ (q : Nat) (b' : Value), q ≤ t.ps.length ∧ i = .int .i64 q ∧ b' = b ∧ Byt wr base b' (bs ++ (headB 5 n ++ textL (t.ps.take q))) ∧ Below base w wr ∧ KeepT (w.alloc (.cells #[.int .i64 t.k, .int .i64 t.n, .slice a t.ps.length c] 25)) wr) (fun _ i _ => t.ps.length - (intOf i).toNat)
    case atStart => exact ⟨0, _, by omega, rfl, rfl, by simpa [textL] using HB0.out, HG0.out.1, by rw [HK.out, HN.out]; exact HG0.out.2⟩
    case round =>
      obtain ⟨q, b0, hq, rfl, rfl, hby, hbl, hkt⟩ := hrel
      have HR := Lib.hid (And.intro hby (And.intro hbl hkt))
      clear hby hbl hkt HB0 HG0
      have hwr : w.heap.size + 1 ≤ wr.heap.size := by have := (HR.out.2.2 _ _ (Blk.new w _ _)).lt; omega
      obtain ⟨x0, x1, x2, _, _, _⟩ := (HR.out.2.2 _ _ (Blk.new w _ _)).three
      rw [HK.out] at x0
      rw [HN.out] at x1
      have hbw : base ≤ wr.heap.size := by omega
      by_cases hlt : q < t.ps.length
      · obtain ⟨bb, o, a', c', rfl, hbl', _, e0, e1, e2, hs', _, _⟩ := (HA.out.base HSB.out HR.out.2.1).elem (Below.refl _ _) hlt
        have hbl'' : bb < wr.heap.size := hbl'
        have HS' := Lib.hid hs'
        have hfp := fit_part HFIT.out hlt
        have hnn := nodesL_snoc t.ps q hlt
        have hnr := nodesL_rest t.ps (q + 1)
        have hne := t.nodes_eq
        have hpn : t.ps[q].nodes ≤ 1000 := by omega
        have htl := textL_len (t.ps.take q)
        have hhl := headB_len 5 n
        have hlb : (bs ++ (headB 5 n ++ textL (t.ps.take q))).length + 1 + 7 * t.ps[q].nodes ≤ 900000 := by simp; omega
        have HFP := Lib.hid hfp
        have HX := Lib.hid (textL_snoc t.ps q hlt)
        obtain ⟨cur, hcur⟩ : ∃ cur, cur = bs ++ (headB 5 n ++ textL (t.ps.take q)) := ⟨_, rfl⟩
        have HCUR := Lib.hid hcur
        rw [← hcur] at hlb
        have HRB := Lib.hid (show Byt wr base b0 cur by rw [hcur]; exact HR.out.1)
        clear hs' hfp hnn hnr hne htl hhl hcur
        go_wp2_with fail
        go_region_law (first
          | (refine step_append_own rfl (.tmp 49) (.tmp 50) 22 rfl base 5 i0 (.int .u8 0) 1 1 Tryd.underlying22 HI.out.1 HI.out.2.1 HI.out.2.2.1 HI.out.2.2.2 rfl (by decide) b0 cur.length (bc cur) rfl (by repeat (first | exact HRB.out | refine Byt.drew ?_ | refine Byt.alloc ?_ _)) ⟨wr.heap.size + 1, 0, none⟩ 1 1 [.int .u8 32] rfl rfl (byte_new (blk_new1 _ _ _ _).drew) (by simp [Value.oneCell']) (by rw [HML.out]; omega) (by omega) (by simp; omega) ?_
             intro v1 w1 hown1 hgr1
             have hx1 := Byt.app (l := [32]) hown1
             have hg1 := (show Byt _ base b0 cur by repeat (first | exact HRB.out | refine Byt.drew ?_ | refine Byt.alloc ?_ _)).grown hgr1 (by simp; omega)
             obtain ⟨z0, z1, z2, _, _, _⟩ := (hg1.2 wr.heap.size #[.int .i64 t.ps[q].k, .int .i64 t.ps[q].n, .slice a' t.ps[q].ps.length c'] (by repeat (first | exact Blk.new _ _ _ | refine Blk.drew ?_ | refine Blk.alloc ?_ _))).three
             have hw1 : Below base wr w1 := ((((Below.refl base wr).alloc hbw _).alloc (by simp; omega) _).drew).trans hg1.1
             clear hown1 hgr1)
          | (go_simp; go_at_call 15; refine (HF.out t.ps[q] (List.getElem_mem _) _ S a' c' base v1 (cur ++ [32]) (HS'.out.base HSB.out hw1) HSB.out HFP.out hpn hx1 (by simp; omega) (Nat.le_trans hbw hw1.size)).mono ?_; rintro e w2 ⟨v2, rfl, hown2, hbl2, hkt2⟩))
        all_goals
          have HO := Lib.hid (And.intro hown2 (And.intro ((HR.out.2.1.trans hw1).trans hbl2) (HR.out.2.2.trans ((KeepT.of_below ((((Below.refl wr.heap.size wr).alloc (Nat.le_refl _) _).alloc (by simp) _).drew)).trans (hg1.2.trans hkt2)))))
          clear z0 z1 z2 hown2 hbl2 hkt2 hg1 hx1 hw1
          go_wp2_with fail
          go_roundw
          case rel => exact ⟨q + 1, _, by omega, by go_num, rfl, by have := HO.out.1; rw [HCUR.out] at this; rw [HX.out]; simpa using this, HO.out.2.1, HO.out.2.2⟩
          case measure => simp [intOf]; omega
      · have hqe : q = t.ps.length := by omega
        obtain ⟨cur, hcur⟩ : ∃ cur, cur = bs ++ (headB 5 n ++ textL t.ps) := ⟨_, rfl⟩
        have HRB := Lib.hid (show Byt wr base b0 cur by have := HR.out.1; rw [hqe, List.take_of_length_le (Nat.le_refl _)] at this; rw [hcur]; exact this)
        have htl := textL_len t.ps
        have hhl := headB_len 5 n
        have hne := t.nodes_eq
        have hlb : cur.length ≤ 900000 := by rw [hcur]; simp; omega
        have HFN := Lib.hid (show bs ++ t.text = cur ++ [41] by rw [HTX.out, hcur]; simp)
        clear htl hhl hne hcur hqe
        go_wp2_with (at_builtin; refine wpList_append_own _ rfl (.tmp 55) (.tmp 56) 22 rfl base 5 i0 (.int .u8 0) 1 1 Tryd.underlying22 HI.out.1 HI.out.2.1 HI.out.2.2.1 HI.out.2.2.2 rfl (by decide) b0 cur.length (bc cur) rfl (HRB.out.alloc _) ⟨wr.heap.size, 0, none⟩ 1 1 [.int .u8 41] rfl rfl (byte_new (Blk.new _ _ _)) (by simp [Value.oneCell']) (by rw [HML.out]; omega) (by omega) (by simp; omega) ?_; intro v1 w1 hown1 hgr1 _; have hx1 := Byt.app (l := [41]) hown1; have hg1 := (HRB.out.alloc _).grown hgr1 (by simp; omega); have HO := Lib.hid (And.intro hx1 (And.intro (HR.out.2.1.trans (((Below.refl base wr).alloc hbw _).trans hg1.1)) (HR.out.2.2.trans ((KeepT.of_below ((Below.refl wr.heap.size wr).alloc (Nat.le_refl _) _)).trans hg1.2)))); clear hown1 hgr1 hx1 hg1)
        go_ret
        exact ⟨v1, rfl, by rw [HFN.out]; exact HO.out.1, HO.out.2.1, (KeepT.of_below ((Below.refl w.heap.size w).alloc (Nat.le_refl _) _)).trans HO.out.2.2⟩
end Go.Proofs.YtgcjnhlppapfdaaDoor
