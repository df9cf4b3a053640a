/- impl.CircleOf -/
import Derived.Test.YtmbgglmnbllpjaaAllI
namespace Go.Proofs.Ytmbgglmnbllpjaa
open Go.RowKit

set_option maxRecDepth 100000 in
set_option maxHeartbeats 4000000 in
theorem implCircle_any (s : Sh) (l : List Int) (key : Int) (w : World) (S S' : Nat → Prop) (a : Option Addr) (c : Nat) (a' : Option Addr) (c' : Nat) (ai : Option Addr) (ci : Nat) (h : ShAt w S s a c a' c') (hl : IntsAt w S' l ai ci) :
    Calls Try.prog 41 #[.agg #[.slice a s.m.length c, .slice a' s.t.length c'], .slice ai l.length ci, .int .i64 key] w (CoPost s l key w) := by
  have K0 := Lib.hid (Ks.start (ty := 50) h)
  have L0 := Lib.hid (hl.alloc (.cells #[.slice a s.m.length c, .slice a' s.t.length c'] 50))
  clear h hl
  obtain ⟨x0, x1⟩ := K0.out.box
  cases hin : inOk s l
  · have HNO := Lib.hid (show coB s l key = false by unfold coB; rw [hin]; rfl)
    have HI := Lib.hid hin
    clear hin
    go_enter Try.func41, Try.ntmps41
    go_wp2_with fail
    refine (implInputs_any s l _ S S' a c a' c' ai ci K0.out.2 L0.out).mono ?_
    rintro e w1 ⟨rfl, hb⟩
    rw [HI.out]
    have K1 := Lib.hid (K0.out.step hb)
    clear hb x0 x1
    go_wp2_with fail
    go_ret2
    exact CoPost.no HNO.out K1.out.done (World.ownsRow_nil _ _ _ _)
  cases hk : decide (0 ≤ key ∧ key < s.m.length)
  · have HNO := Lib.hid (show coB s l key = false by unfold coB; rw [hk]; simp)
    have HI := Lib.hid hin
    have HK := Lib.hid hk
    clear hin hk
    go_enter Try.func41, Try.ntmps41
    go_wp2_with fail
    refine (implInputs_any s l _ S S' a c a' c' ai ci K0.out.2 L0.out).mono ?_
    rintro e w1 ⟨rfl, hb⟩
    rw [HI.out]
    have K1 := Lib.hid (K0.out.step hb)
    clear hb x0 x1
    obtain ⟨x0, x1⟩ := K1.out.box
    go_wp2_with fail
    refine (hasKey_any s _ S a c a' c' key K1.out.2).mono ?_
    rintro e w2 ⟨rfl, hb⟩
    rw [HK.out]
    have K2 := Lib.hid (K1.out.step hb)
    clear hb x0 x1
    go_wp2_with fail
    go_ret2
    exact CoPost.no HNO.out K2.out.done (World.ownsRow_nil _ _ _ _)
  · have hk2 : 0 ≤ key ∧ key < s.m.length := by simpa using hk
    obtain ⟨kn, rfl⟩ : ∃ kn : Nat, key = kn := ⟨key.toNat, by omega⟩
    have hkn : kn < s.m.length := by omega
    have hbk : coB s l kn = !okS s l kn := by unfold coB; rw [hin, hk]; rfl
    have HBK := Lib.hid hbk
    have HI := Lib.hid hin
    have HK := Lib.hid hk
    have h10 : s.m.length ≤ 10 := (Sh.ok_iff.1 (inOk_of hin).1).1
    obtain ⟨iN, ni, nz0, nz1, nz2⟩ := info_parts infoInt
    have HIN := Lib.hid (And.intro ni (And.intro nz0 (And.intro nz1 nz2)))
    have hml : maxLen = 9223372036854775807 := rfl
    have HML := Lib.hid hml
    clear hin hk hbk hk2 ni nz0 nz1 nz2 hml
    go_enter Try.func41, Try.ntmps41
    go_wp2_with fail
    refine (implInputs_any s l _ S S' a c a' c' ai ci K0.out.2 L0.out).mono ?_
    rintro e w1 ⟨rfl, hb⟩
    rw [HI.out]
    have K1 := Lib.hid (K0.out.step hb)
    have L1 := Lib.hid (L0.out.below hb)
    clear hb x0 x1
    obtain ⟨x0, x1⟩ := K1.out.box
    go_wp2_with fail
    refine (hasKey_any s _ S a c a' c' kn K1.out.2).mono ?_
    rintro e w2 ⟨rfl, hb⟩
    rw [HK.out]
    have K2 := Lib.hid (K1.out.step hb)
    have L2 := Lib.hid (L1.out.below hb)
    clear hb x0 x1
    obtain ⟨x0, x1⟩ := K2.out.box
    go_wp2_with fail
    refine (nodes_any' s l _ S S' a c a' c' ai ci K2.out.2 L2.out HI.out).mono ?_
    rintro e w3 ⟨g, b, rfl, hb1, hg1, hnb, hp, hnd, hb⟩
    have K3 := Lib.hid (K2.out.step hb)
    have HND := Lib.hid hnd
    have HG := Lib.hid (And.intro hg1 hb.size)
    have hcell := hp.cell hkn
    have hbl : b < w3.heap.size := cell_lt hcell
    clear hb hp hnd x0 x1 hg1
    go_wp2_with fail
    have hok := (inOk_of HI.out).1
    have hS : ∀ b, (fun b => S b ∧ b < w2.heap.size) b → b < g := fun b hb => by have := HG.out.1; have := hb.2; omega
    refine (finish_any (gr_S hok l) (try_step HI.out hS) h10 hS w3 (fun k => !s.mdI k) kn hkn (fun _ h => h) (fun k h => (gr_S hok l).d0ok k h) (nds_start hok HND.out)).mono ?_
    rintro e w4 ⟨d, L, a4, c4, rfl, hat, hnd, _, hdo, hfr, hLb, hor⟩
    have hb4 : Below w.heap.size w w4 := below_nd K3.out.done hfr (by have := HG.out.1; have := K2.out.size; omega) (by have := K3.out.size; omega)
    have hgw : g + s.m.length ≤ w4.heap.size := by
      obtain ⟨_, _, hl, _⟩ := hnd.node (i := s.m.length - 1) (by omega)
      omega
    have hs4 := hfr.size
    have hwg : w.heap.size + 1 ≤ g := by have := HG.out.1; have := K2.out.size; omega
    have H4 := Lib.hid (And.intro hat (And.intro hnd (And.intro hb4 hLb.2)))
    have HOR := Lib.hid (show (L = [] ∧ coB s l kn = false) ∨ (L ≠ [] ∧ coB s l kn = true ∧ L = circ s.m.length (chS s l) (okS s l) [] kn) from by
      rcases hor with ⟨h1, h2⟩ | ⟨h1, h2, h3⟩
      · exact .inl ⟨h1, by rw [HBK.out, hdo _ h2]; rfl⟩
      · exact .inr ⟨h1, by rw [HBK.out, h2]; rfl, h3⟩)
    have hLm : L.length ≤ 9223372036854775807 := by have := hat.1; have := hat.2.1; omega
    have hLn : L.length ≤ 10 := by have := hLb.1; omega
    clear hat hnd hdo hfr hLb hor hb4 hok hS hcell
    go_wp2_with fail
    go_loopw [8, 29] (fun v i wr => ∃ k : Nat, k ≤ L.length ∧ i = .int .i64 k ∧ NumRow wr w4.heap.size v (L.take k) ∧ Below w4.heap.size w4 wr) (fun _ i _ => L.length - (intOf i).toNat)
    case atStart => exact ⟨0, by omega, rfl, World.ownsRow_nil _ _ _ _, Below.refl _ _⟩
    case round =>
      obtain ⟨k, hk, rfl, hr, hb⟩ := hrel
      have HR := Lib.hid hr
      have HB := Lib.hid hb
      have hwr := hb.size
      clear hr hb
      by_cases hlt : k < L.length
      · obtain ⟨b4, o4, rfl, hbl4, _, hx⟩ := ElAt.get H4.out.1 HB.out hlt
        have hLk := H4.out.2.2.2 L[k] (List.getElem_mem _)
        obtain ⟨xn, hxn⟩ : ∃ xn : Nat, L[k] = (xn : Int) := ⟨L[k].toNat, by omega⟩
        have hxp : ndP g L[k] = .pointer (some ⟨g + xn, 0, none⟩) := by rw [hxn]; simp [ndP]
        rw [hxp] at hx
        obtain ⟨_, _, hgx, e0, _⟩ := (H4.out.2.1.below HB.out).node (i := xn) (by omega)
        have HXN := Lib.hid hxn
        obtain ⟨G, hG⟩ : ∃ G, G = L.take k := ⟨_, rfl⟩
        have hgow : wr.ownsRow w4.heap.size 3 1 u8 k (G.map (.int .i64)) := by
          have h := HR.out
          unfold NumRow at h
          rw [show (L.take k).length = k by rw [List.length_take]; omega] at h
          rw [hG]; exact h
        have HGO := Lib.hid hgow
        have HGE := Lib.hid hG
        have hLl : L.length ≤ 10 := hLn
        clear hLk hxn hxp hG hgow
        go_wp2_with (at_builtin; refine wpList_append_row _ rfl (.tmp 33) (.tmp 38) 28 rfl w4.heap.size 3 iN (.int .i64 0) 1 8 Try.underlying28 HIN.out.1 HIN.out.2.1 HIN.out.2.2.1 HIN.out.2.2.2 rfl (by decide) _ k (G.map (.int .i64)) rfl (World.ownsRow.alloc HGO.out _) ⟨wr.heap.size, 0, none⟩ 1 1 [.int .i64 (xn : Int)] rfl rfl ?d1 ?d2 (by decide) ?d3 ?d4 ?d5 ?_)
        case d1 => exact news1 _ _ _
        case d2 => simp [Value.oneCell']
        case d3 => rw [HML.out]; omega
        case d4 => omega
        case d5 => simp; omega
        intro v2 w5 hown hgr hnew
        have hr5 : NumRow w5 w4.heap.size v2 (L.take (k + 1)) := by
          unfold NumRow
          rw [show (L.take (k + 1)).length = k + 1 by rw [List.length_take]; omega, List.take_succ_eq_append_getElem hlt, List.map_append, ← HGE.out, HXN.out]
          exact hown
        have hge := own_ge HGO.out
        have hb5 : Below w4.heap.size w4 w5 := (HB.out.alloc hwr _).trans (below_grown hgr (by simp; omega) hge)
        have H5 := Lib.hid (And.intro hr5 hb5)
        clear hown hgr hnew hr5 hge hb5 hx e0
        go_wp2_with fail
        go_roundw
        case rel => exact ⟨k + 1, by omega, by go_num, H5.out.1, H5.out.2⟩
        case measure => simp [intOf]; omega
      · have hr6 : NumRow wr w.heap.size u8 L := by
          have h := HR.out
          rw [List.take_of_length_le (by omega)] at h
          exact ownsRow_low h (by omega)
        have hb6 : Below w.heap.size w wr := H4.out.2.2.1.trans (HB.out.mono (by omega))
        have H6 := Lib.hid (And.intro hr6 hb6)
        obtain ⟨a6, c6, rfl, _⟩ := ElRow.at (f := Value.int .i64) (e := 3) hr6
        clear hr6 hb6
        rcases HOR.out with ⟨rfl, hno⟩ | ⟨hne, hyes, hLc⟩
        · have HNO := Lib.hid hno
          clear hno hlt
          go_wp2_with fail
          go_ret2
          exact CoPost.no HNO.out H6.out.2 H6.out.1
        · have HY := Lib.hid (And.intro hyes hLc)
          have hlp2 : 0 < L.length := List.length_pos_iff.2 hne
          have hlp : decide ((0 : Int) < (L.length : Int)) = true := decide_eq_true (by omega)
          have hlp3 : decide (0 < L.length) = true := decide_eq_true hlp2
          clear hyes hLc hne
          go_wp2_with fail
          go_ret2
          exact CoPost.yes HY.out.1 H6.out.2 (by rw [← HY.out.2]; exact H6.out.1)
end Go.Proofs.Ytmbgglmnbllpjaa
