/- spec.OrderRestart -/
import Derived.Test.YtmbgglmnbllpjaaRsA
import Derived.Test.YtmbgglmnbllpjaaFitS
import Derived.Test.YtmbgglmnbllpjaaStepN
namespace Go.Proofs.Ytmbgglmnbllpjaa
open Go.RowKit

theorem num_blk {w : World} {base g n c : Nat} {l : List Int} (h : NumRow w base (.slice (some ⟨g, 0, none⟩) n c) l) : ∃ cs, Blk w g 3 cs := by
  obtain ⟨_, ⟨hx, _⟩ | ⟨gb, cap', cur, hx, _, hh, _⟩⟩ := h
  · cases hx
  · simp only [Value.slice.injEq, Option.some.injEq, Addr.mk.injEq, and_true] at hx
    obtain ⟨rfl, _, _⟩ := hx
    exact ⟨cur, hh⟩
theorem vf_set {vl : List Int} {k : Nat} (hk : k < vl.length) (v x : Int) (h0 : 0 ≤ x) : vf (vl.set k v) x = if x = k then v else vf vl x := by
  unfold vf
  rw [List.length_set]
  by_cases hx : x < vl.length
  · rw [if_pos hx, if_pos hx, List.getD_eq_getElem?_getD, List.getD_eq_getElem?_getD, List.getElem?_set]
    by_cases he : x = k
    · subst he
      simp [hk]
    · rw [if_neg (by omega), if_neg he]
  · rw [if_neg hx, if_neg hx, if_neg (by omega)]

/-- The values, as far as keys are done. -/
def ValsOk (s : Sh) (l vl D : List Int) : Prop := vl.length = l.length ∧ ∀ x, 0 ≤ x → vf vl x = if dnS s D x = true then vsS s l x else vf l x

set_option maxRecDepth 100000 in
set_option maxHeartbeats 2000000 in
theorem specRestart_any (s : Sh) (l ks : List Int) (w : World) (S0 S1 S2 : Nat → Prop) (a : Option Addr) (c : Nat) (a' : Option Addr) (c' : Nat) (ai : Option Addr) (ci : Nat) (ak : Option Addr) (ck : Nat) (h0 : ShAt w S0 s a c a' c') (hn : nodesL s.t ≤ 1048576) (hl : IntsAt w S1 l ai ci) (hk0 : IntsAt w S2 ks ak ck) (hkl : ks.length ≤ 1048576) :
    Calls Try.prog 48 #[.agg #[.slice a s.m.length c, .slice a' s.t.length c'], .slice ai l.length ci, .slice ak ks.length ck] w (OrP (rsB s l ks) (rsL s l ks) w) := by
  have K0 := Lib.hid ((Ks.start (ty := 50) h0.lim).alloc (.cells #[] 3))
  have L0 := Lib.hid ((hl.alloc (.cells #[.slice a s.m.length c, .slice a' s.t.length c'] 50)).alloc (.cells #[] 3))
  have Q0 := Lib.hid ((hk0.lim.alloc (.cells #[.slice a s.m.length c, .slice a' s.t.length c'] 50)).alloc (.cells #[] 3))
  have ho0 := rowN_new (w.alloc (.cells #[.slice a s.m.length c, .slice a' s.t.length c'] 50))
  simp only [World.size_alloc] at ho0
  have HO0 := Lib.hid ho0
  have HNN := Lib.hid hn
  obtain ⟨KL, hKL⟩ : ∃ n, n = ks.length := ⟨_, rfl⟩
  have HKL := Lib.hid hKL
  rw [← hKL] at hkl ⊢
  obtain ⟨LL, hLL⟩ : ∃ n, n = l.length := ⟨_, rfl⟩
  have HLL := Lib.hid hLL
  rw [← hLL]
  obtain ⟨b, hb⟩ : ∃ b, b = rsB s l ks := ⟨_, rfl⟩
  obtain ⟨L, hL⟩ : ∃ L, L = rsL s l ks := ⟨_, rfl⟩
  have HNO := Lib.hid (show ∀ (w' : World) (v : Value), rsB s l ks = false → Below w.heap.size w w' → NumRow w' w.heap.size v [] → OrP b L w (.returned (.tuple #[v, .bool false])) w' from fun w' v h1 h2 h3 => by rw [hb, hL]; exact OrP.rs_no h1 h2 h3)
  have HYES := Lib.hid (show ∀ (w' : World) (v : Value) (o : List Int) (m : Nat), rsB s l ks = true → Ends emR (chS s l) (d0S s) ks o m → Below w.heap.size w w' → NumRow w' w.heap.size v o → OrP b L w (.returned (.tuple #[v, .bool true])) w' from fun w' v o m h1 h2 h3 h4 => by rw [hb, hL]; exact OrP.rs_yes h1 h2 h3 h4)
  rw [← hb, ← hL]
  clear h0 hl hk0 hKL hLL hb hL ho0 hn
  obtain ⟨x0, x1⟩ := K0.out.box
  cases hin : inOk s l
  · have HI := Lib.hid hin
    clear hin
    go_enter Try.func48, Try.ntmps48
    go_wp2_with fail
    have hc := specInputs_any s l _ _ _ a c a' c' ai ci K0.out.2 HNN.out L0.out
    rw [← HLL.out] at hc
    refine hc.mono ?_
    clear hc
    rintro e w1 ⟨rfl, hb⟩
    rw [HI.out]
    have K1 := Lib.hid (K0.out.step hb)
    have O1 := Lib.hid (ElRow.below (f := Value.int .i64) (e := 3) HO0.out hb)
    clear hb x0 x1
    go_wp2_with fail
    go_ret2
    exact HNO.out _ _ (by unfold rsB; rw [HI.out]; rfl) K1.out.done (ownsRow_low O1.out (by omega))
  cases hkb : kyB s ks
  · have HI := Lib.hid hin
    have HK := Lib.hid hkb
    clear hin hkb
    go_enter Try.func48, Try.ntmps48
    go_wp2_with fail
    have hc := specInputs_any s l _ _ _ a c a' c' ai ci K0.out.2 HNN.out L0.out
    rw [← HLL.out] at hc
    refine hc.mono ?_
    clear hc
    rintro e w1 ⟨rfl, hb⟩
    rw [HI.out]
    have K1 := Lib.hid (K0.out.step hb)
    have Q1 := Lib.hid (Q0.out.below hb)
    have O1 := Lib.hid (ElRow.below (f := Value.int .i64) (e := 3) HO0.out hb)
    clear hb x0 x1
    obtain ⟨x0, x1⟩ := K1.out.box
    go_wp2_with fail
    have hc := l4Keys_any s ks w1 _ _ a c a' c' ak ck K1.out.2 HNN.out Q1.out
    rw [← HKL.out] at hc
    refine hc.mono ?_
    clear hc
    rintro e w2 ⟨rfl, hb⟩
    rw [HK.out]
    have K2 := Lib.hid (K1.out.step hb)
    have O2 := Lib.hid (ElRow.below (f := Value.int .i64) (e := 3) O1.out hb)
    clear hb x0 x1
    go_wp2_with fail
    go_ret2
    have hno : hkB s ks = false := by
      have h := HK.out
      unfold kyB at h
      rw [(inOk_of HI.out).1, Bool.and_true] at h
      exact h
    exact HNO.out _ _ (by unfold rsB; rw [hno]; simp) K2.out.done (ownsRow_low O2.out (by omega))
  have hhk : hkB s ks = true := by
    unfold kyB at hkb
    rw [Bool.and_eq_true] at hkb
    exact hkb.1
  cases hsf : safeB s
  · have HI := Lib.hid hin
    have HK := Lib.hid hkb
    have HSF := Lib.hid hsf
    clear hin hkb hsf hhk
    go_enter Try.func48, Try.ntmps48
    go_wp2_with fail
    have hc := specInputs_any s l _ _ _ a c a' c' ai ci K0.out.2 HNN.out L0.out
    rw [← HLL.out] at hc
    refine hc.mono ?_
    clear hc
    rintro e w1 ⟨rfl, hb⟩
    rw [HI.out]
    have K1 := Lib.hid (K0.out.step hb)
    have Q1 := Lib.hid (Q0.out.below hb)
    have O1 := Lib.hid (ElRow.below (f := Value.int .i64) (e := 3) HO0.out hb)
    clear hb x0 x1
    obtain ⟨x0, x1⟩ := K1.out.box
    go_wp2_with fail
    have hc := l4Keys_any s ks w1 _ _ a c a' c' ak ck K1.out.2 HNN.out Q1.out
    rw [← HKL.out] at hc
    refine hc.mono ?_
    clear hc
    rintro e w2 ⟨rfl, hb⟩
    rw [HK.out]
    have K2 := Lib.hid (K1.out.step hb)
    have O2 := Lib.hid (ElRow.below (f := Value.int .i64) (e := 3) O1.out hb)
    clear hb x0 x1
    obtain ⟨x0, x1⟩ := K2.out.box
    go_wp2_with fail
    refine (specSafe_any s w2 _ a c a' c' K2.out.2 HNN.out).mono ?_
    rintro e w3 ⟨rfl, hb⟩
    rw [HSF.out]
    have K3 := Lib.hid (K2.out.step hb)
    have O3 := Lib.hid (ElRow.below (f := Value.int .i64) (e := 3) O2.out hb)
    clear hb x0 x1
    go_wp2_with fail
    go_ret2
    exact HNO.out _ _ (by unfold rsB; rw [HSF.out]; simp) K3.out.done (ownsRow_low O3.out (by omega))
  have hok := (inOk_of hin).1
  have h10 : s.m.length ≤ 10 := (Sh.ok_iff.1 hok).1
  have HLM := Lib.hid (show LL = s.m.length by rw [HLL.out]; exact (inOk_of hin).2.1)
  have hll10 : LL ≤ 10 := by have := HLM.out; omega
  have hoks : ∀ x, okS s l x = true := fun x => safe_oks hin hsf x
  obtain ⟨O, M, hends, hcnt⟩ := ends_all (em := emR) (gr_S hok l) emR_cnt ks (fun x _ => hoks x) (d0S s) (fun _ h => h) (fun x _ => hoks x)
  have hOb := (ends_bd hok hcnt).2
  have hyes : rsB s l ks = true := by unfold rsB; rw [hin, hhk, hsf]; rfl
  have HY := Lib.hid (And.intro hyes hends)
  have HI := Lib.hid hin
  have HK := Lib.hid hkb
  have HHK := Lib.hid hhk
  have HSF := Lib.hid hsf
  have HOK := Lib.hid hoks
  have HSO := Lib.hid hok
  clear hin hkb hhk hsf hok hoks hends hcnt hyes
  go_enter Try.func48, Try.ntmps48
  go_wp2_with fail
  have hc := specInputs_any s l _ _ _ a c a' c' ai ci K0.out.2 HNN.out L0.out
  rw [← HLL.out] at hc
  refine hc.mono ?_
  clear hc
  rintro e w1 ⟨rfl, hb⟩
  rw [HI.out]
  have K1 := Lib.hid (K0.out.step hb)
  have L1 := Lib.hid (L0.out.below hb)
  have Q1 := Lib.hid (Q0.out.below hb)
  have O1 := Lib.hid (ElRow.below (f := Value.int .i64) (e := 3) HO0.out hb)
  clear hb x0 x1 K0 L0 Q0 HO0
  obtain ⟨x0, x1⟩ := K1.out.box
  go_wp2_with fail
  have hc := l4Keys_any s ks w1 _ _ a c a' c' ak ck K1.out.2 HNN.out Q1.out
  rw [← HKL.out] at hc
  refine hc.mono ?_
  clear hc
  rintro e w2 ⟨rfl, hb⟩
  rw [HK.out]
  have K2 := Lib.hid (K1.out.step hb)
  have L2 := Lib.hid (L1.out.below hb)
  have Q2 := Lib.hid (Q1.out.below hb)
  have O2 := Lib.hid (ElRow.below (f := Value.int .i64) (e := 3) O1.out hb)
  clear hb x0 x1 K1 L1 Q1 O1
  obtain ⟨x0, x1⟩ := K2.out.box
  go_wp2_with fail
  refine (specSafe_any s w2 _ a c a' c' K2.out.2 HNN.out).mono ?_
  rintro e w3 ⟨rfl, hb⟩
  rw [HSF.out]
  have K3 := Lib.hid (K2.out.step hb)
  have L3 := Lib.hid (L2.out.below hb)
  have Q3 := Lib.hid (Q2.out.below hb)
  have O3 := Lib.hid (ElRow.below (f := Value.int .i64) (e := 3) O2.out hb)
  have hs3 := (K2.out.step hb).size
  clear hb x0 x1 K2 L2 Q2 O2
  go_wp2_with (at_builtin; refine wpList_append_ints _ rfl (.tmp 33) (.tmp 34) rfl w3.heap.size _ [] rfl (rowN_new w3) _ l LL ai ci HLL.out rfl (L3.out.alloc _) ?d1 ?d2 ?_)
  case d1 => rw [← HLL.out]; simp; omega
  case d2 => simp
  intro vv w4 hr4 hgr4 hn4
  have hB34 : Below w3.heap.size w3 w4 := ((Below.refl w3.heap.size w3).alloc (Nat.le_refl _) (.cells #[] 3)).trans (below_grown hgr4 (by simp) (by intro k hk; simp [Value.ownBlock] at hk; omega))
  obtain ⟨av, cv, rfl, _⟩ := ElRow.at (f := Value.int .i64) (e := 3) hr4
  have K4 := Lib.hid (K3.out.step hB34)
  have Q4 := Lib.hid (Q3.out.below hB34)
  have O4 := Lib.hid (ElRow.below (f := Value.int .i64) (e := 3) O3.out hB34)
  have V4 := Lib.hid hr4
  have HO3L := Lib.hid (World.ownsRow.lt O3.out)
  have hs4 := hB34.size
  have hd4 := rowN_new w4
  have hq4 := rowN_new (w4.alloc (.cells #[] 3))
  simp only [World.size_alloc] at hq4
  have HD4 := Lib.hid hd4
  have HQ4 := Lib.hid hq4
  clear hr4 hgr4 hn4 hB34 hd4 hq4 K3 L3 Q3 O3
  rw [← HLL.out]
  go_wp2_with (at_builtin; refine wpList_append_ints _ rfl (.tmp 37) (.tmp 38) rfl (w4.heap.size + 1) _ [] rfl HQ4.out _ ks KL ak ck HKL.out rfl ((Q4.out.alloc _).alloc _) ?d3 ?d4 ?_)
  case d3 => rw [← HKL.out]; simp; omega
  case d4 => simp
  intro vq w5 hr5 hgr5 hn5
  have hB45 : Below (w4.heap.size + 1) (w4.alloc (.cells #[] 3)) w5 := ((Below.refl _ _).alloc (by simp) (.cells #[] 3)).trans (below_grown hgr5 (by simp) (by intro k hk; simp [Value.ownBlock] at hk; omega))
  have hB5 : Below w4.heap.size w4 w5 := ((Below.refl w4.heap.size w4).alloc (Nat.le_refl _) (.cells #[] 3)).trans (hB45.mono (by omega))
  have hs5 := hB5.size
  have hki : ∀ x ∈ ks, 0 ≤ x ∧ x < s.m.length := fun x hx => by
    have h := HHK.out
    unfold hkB at h
    rw [List.all_eq_true] at h
    have h := h x hx
    rwa [decide_eq_true_eq] at h
  obtain ⟨aq, cq, rfl, hiq⟩ := hr5.at (fun x hx => by have := hki x hx; unfold i64ok; omega)
  have hrs : RsAt w5 (w.heap.size + 1) (.slice av l.length cv) (.slice (some ⟨w4.heap.size, 0, none⟩) 0 0) (.slice (some ⟨w.heap.size + 1, 0, none⟩) 0 0) l [] [] ks aq cq := by
    have hvl := World.ownsRow.lt V4.out
    refine ⟨ownsRow_low (ElRow.below (f := Value.int .i64) (e := 3) V4.out hB5) (by omega), ownsRow_low (ElRow.below (f := Value.int .i64) (e := 3) HD4.out (by simpa using hB45)) (by omega), ownsRow_low (ElRow.below (f := Value.int .i64) (e := 3) O4.out hB5) (by omega), ?_, fun b hb h => ?_, fun b hb h => ?_, fun b hb h => ?_⟩
    · refine ⟨_, hiq.lim, fun b hs => ⟨by omega, hs.2, fun e => ?_, fun e => ?_, fun e => ?_⟩⟩
      · have := (hvl b e).2; omega
      · simp [Value.ownBlock] at e; omega
      · have := (HO3L.out b e).2; omega
    · have := (hvl b hb).2; simp [Value.ownBlock] at h; omega
    · have := (hvl b hb).1; have := (HO3L.out b h).2; omega
    · have := (HO3L.out b h).2; simp [Value.ownBlock] at hb; omega
  have hv0 : ValsOk s l l [] := ⟨rfl, fun x _ => by
    rw [dnS_nil]
    unfold d0S
    cases hm : s.mdI x
    · rw [vsS_free HSO.out hm]; simp
    · simp⟩
  have H5 := Lib.hid (And.intro hrs (And.intro hv0 (And.intro (K4.out.step hB5) hki)))
  clear hr5 hgr5 hn5 hB45 hB5 hki hiq hrs hv0 K4 Q4 O4 V4 HD4 HQ4 HO3L
  rw [← HKL.out]
  go_wp2_with fail
  go_loopg [8, 10, 11] M (fun gk vo vd vq wr => ∃ (vl D O' q : List Int) (aq : Option Addr) (cq : Nat) (o : List Int), vq = .slice aq q.length cq ∧ RsAt wr (w.heap.size + 1) (.slice av l.length cv) vd vo vl D O' q aq cq ∧ Ends emR (chS s l) (dnS s D) q o gk ∧ O' ++ o = O ∧ ValsOk s l vl D ∧ (∀ x ∈ q, 0 ≤ x ∧ x < s.m.length) ∧
    Ks (fun b => S0 b ∧ b < w.heap.size) s a c a' c' 50 w wr ∧ q.length ≤ KL + O'.length ∧ D.length ≤ O'.length ∧ (∀ x ∈ D, 0 ≤ x ∧ x < s.m.length))
  case atStart => exact ⟨l, [], [], ks, aq, cq, O, by rw [HKL.out], H5.out.1, by rw [dnS_nil]; exact HY.out.2, rfl, H5.out.2.1, H5.out.2.2.2, H5.out.2.2.1, by rw [HKL.out]; simp, by simp, by simp⟩
  case round =>
    obtain ⟨vl, D, O', q, aq, cq, o, rfl, hrs, hends, hoo, hvo, hqr, hKs, hql, hdl, hdr⟩ := hrel
    have hol : O'.length ≤ 160 := by rw [← hoo, List.length_append] at hOb; omega
    have hws := hKs.size
    cases q with
    | nil =>
      have hoe : O' = O := by rw [← hoo, hends.inv_nil, List.append_nil]
      have H6 := Lib.hid (And.intro hrs (And.intro hKs hoe))
      obtain ⟨ao, co, rfl, _⟩ := ElRow.at (f := Value.int .i64) (e := 3) hrs.o
      clear H5 hrs hends hoo hvo hqr hKs hql hdl hdr hoe
      go_wp2_with fail
      go_ret2
      exact HYES.out _ _ _ _ HY.out.1 HY.out.2 H6.out.2.1.done (by rw [← H6.out.2.2]; exact ownsRow_low H6.out.1.o (by omega))
    | cons key q =>
      have hkr := hqr key (by simp)
      obtain ⟨kn, rfl⟩ : ∃ kn : Nat, key = kn := ⟨key.toNat, by omega⟩
      have hkn : kn < s.m.length := by omega
      obtain ⟨bq, oq, haq, hcq, hcap, hcapm⟩ := hrs.head
      subst haq
      obtain ⟨x0, x1⟩ := hKs.box
      obtain ⟨bm, om, ha, hbml, hcm⟩ := md_cell hKs.2 hkn
      have HA := Lib.hid ha
      have hqr2 : ∀ x ∈ q, 0 ≤ x ∧ x < s.m.length := fun x hx => hqr x (by simp [hx])
      have hql2 : q.length + 1 ≤ KL + O'.length := by simpa using hql
      have H6 := Lib.hid (And.intro hrs (And.intro hends (And.intro hoo (And.intro hvo (And.intro hqr2 (And.intro hKs (And.intro hql2 (And.intro hdl hdr))))))))
      obtain ⟨mk, hmk⟩ : ∃ mk, mk = s.mdI (kn : Int) := ⟨_, rfl⟩
      rw [← hmk] at hcm
      have HMK := Lib.hid hmk
      clear hmk H5 hrs hends hoo hvo hqr hqr2 hKs hql hql2 hdl hdr ha
      obtain rfl := HA.out
      have hlen1 : ((kn : Int) :: q).length = q.length + 1 := rfl
      rw [hlen1]
      clear hlen1
      rcases Nat.eq_zero_or_pos (cq - 1) with hc1 | hc1
      case' inl => have HT := Lib.hid (H6.out.1.tail0 hc1)
      case' inr =>
        have HT := Lib.hid H6.out.1.tail
        have hc2 : ¬ cq - 1 = 0 := by omega
      all_goals
        cases mk
        · have hdd : dnS s D (kn : Int) = true := by unfold dnS; rw [← HMK.out]; rfl
          obtain ⟨m', hm', he'⟩ := H6.out.2.1.inv_skip hdd
          have H7 := Lib.hid (And.intro he' hm')
          clear hdd hm' he'
          go_wp2_with fail
          go_roundg m'
          case rel => exact ⟨vl, D, O', q, _, _, o, rfl, HT.out, H7.out.1, H6.out.2.2.1, H6.out.2.2.2.1, H6.out.2.2.2.2.1, H6.out.2.2.2.2.2.1, by have := H6.out.2.2.2.2.2.2.1; omega, H6.out.2.2.2.2.2.2.2.1, H6.out.2.2.2.2.2.2.2.2⟩
          case measure => have := H7.out.2; omega
        · obtain ⟨p, hp⟩ : ∃ p, p = decide ((kn : Int) ∈ D) := ⟨_, rfl⟩
          have HP := Lib.hid hp
          obtain ⟨add, cdd, rfl, hiD⟩ := H6.out.1.d.at (fun x hx => by have := H6.out.2.2.2.2.2.2.2.2 x hx; unfold i64ok; omega)
          have HID := Lib.hid hiD
          clear hp hiD
          go_wp2_with fail
          refine (has_any wr _ D add cdd (kn : Int) HID.out).mono ?_
          rintro e w6 ⟨rfl, rfl⟩
          rw [← HP.out]
          cases p
          · have hdd : dnS s D (kn : Int) = false := by unfold dnS; rw [← HMK.out, ← HP.out]; rfl
            have HDD := Lib.hid hdd
            obtain ⟨iN, ni, nz0, nz1, nz2⟩ := info_parts infoInt
            have HIN := Lib.hid (And.intro ni (And.intro nz0 (And.intro nz1 nz2)))
            have hml : maxLen = 9223372036854775807 := rfl
            have HML := Lib.hid hml
            clear hdd ni nz0 nz1 nz2 hml
            go_wp2_with (at_builtin; refine wpList_append_row _ rfl (.tmp 59) (.tmp 61) 28 rfl (w.heap.size + 1) 3 iN (.int .i64 0) 1 8 Try.underlying28 HIN.out.1 HIN.out.2.1 HIN.out.2.2.1 HIN.out.2.2.2 rfl (by decide) _ O'.length (O'.map (Value.int .i64)) rfl (World.ownsRow.alloc H6.out.1.o _) ⟨wr.heap.size, 0, none⟩ 1 1 [.int .i64 (kn : Int)] rfl rfl ?e1 ?e2 (by decide) ?e3 ?e4 ?e5 ?_)
            case e1 => exact news1 _ _ _
            case e2 => simp [Value.oneCell']
            case e3 => rw [HML.out]; omega
            case e4 => omega
            case e5 => simp; omega
            intro vo2 w7 hown hgr hnew
            have hr7 : NumRow w7 (w.heap.size + 1) vo2 (O' ++ [(kn : Int)]) := by
              unfold NumRow
              rw [List.map_append, List.length_append]
              exact hown
            have hf7 : Fr (fun b => u8.ownBlock = some b) wr w7 := (Fr.of_below (D := fun b => u8.ownBlock = some b) ((Below.refl wr.heap.size wr).alloc (Nat.le_refl _) (.cells #[.int .i64 (kn : Int)] 3))).trans (gr_fr hgr) (fun b hb => .inl hb)
            have hrs7 := H6.out.1.pushO hf7 hr7 (fun b hb => (hnew b hb).imp id (fun h => by first | omega | (simp at h; omega)))
            have hol7 := World.ownsRow.lt H6.out.1.o
            have hK7 := H6.out.2.2.2.2.2.1.fr hf7 (fun b hb => (hol7 b hb).1) (fun _ h => h.2)
            have hvb : ∀ x ∈ vl, i64ok x := fun x hx => by
              obtain ⟨i, hi, rfl⟩ := List.getElem_of_mem hx
              have h1 := H6.out.2.2.2.1.2 (i : Int) (by omega)
              rw [vf_in hi] at h1
              rw [h1]
              have h2 := vsS_bd HI.out (i : Int)
              have h3 := vf_bd (vok_mem (inOk_of HI.out).2.2).2 (i : Int)
              unfold i64ok
              split <;> omega
            obtain ⟨av2, cv2, hav, hiv⟩ := hrs7.v.at hvb
            have hvll : vl.length = l.length := H6.out.2.2.2.1.1
            obtain ⟨rfl, rfl⟩ : av = av2 ∧ cv = cv2 := by
              simp only [Value.slice.injEq] at hav
              exact ⟨hav.1, hav.2.2⟩
            obtain ⟨ad2, cd2, had, hiD7⟩ := hrs7.d.at (fun x hx => by have := H6.out.2.2.2.2.2.2.2.2 x hx; unfold i64ok; omega)
            obtain ⟨rfl, rfl⟩ : add = ad2 ∧ cdd = cd2 := by
              simp only [Value.slice.injEq, true_and] at had
              exact had
            have htry := try4_any s l vl D kn w7 _ _ _ (some ⟨bm, om, none⟩) c a' c' av cv add cdd hK7.2 hiv hiD7 HI.out hkn HMK.out.symm H6.out.2.2.2.1.2 (fun x _ => HOK.out x)
            rw [hvll, ← HLL.out] at htry
            have HTRY := Lib.hid htry
            have hs7 := hf7.size
            have H7 := Lib.hid (And.intro hrs7 (And.intro hK7 (And.intro hvb (And.intro hvll hf7))))
            obtain ⟨x0, x1⟩ := hK7.box
            have hov : ∃ ao co, vo2 = .slice ao (O'.length + 1) co := by
              obtain ⟨ao, co, h, _⟩ := ElRow.at (f := Value.int .i64) (e := 3) hr7
              rw [List.length_append, List.length_singleton] at h
              exact ⟨ao, co, h⟩
            obtain ⟨ao, co, rfl⟩ := hov
            clear hown hgr hnew hr7 hf7 hrs7 hol7 hK7 hvb hiv hvll hav had hiD7 htry HID hcm hbml
            go_wp2_with fail
            refine HTRY.out.mono ?_
            rintro e w8 ⟨hb, hcase⟩
            have hs8 := hb.size
            have H8 := Lib.hid (And.intro (H7.out.1.below hb) (And.intro (H7.out.2.1.step hb) hb))
            clear hb HTRY x0 x1
            rcases hcase with ⟨j, hnx, rfl⟩ | ⟨hnx, rfl⟩
            · obtain ⟨m', o', hm', ho', he'⟩ := H6.out.2.1.inv_more HDD.out hnx
              have hj2 : d0S s j = false := by
                cases hx : d0S s j
                · rfl
                · have := (nxt_some hnx).2; rw [dnS_lo hx] at this; cases this
              have hjm := mdI_bd (show s.mdI j = true by unfold d0S at hj2; simpa using hj2)
              have H9 := Lib.hid (And.intro he' (And.intro hm' (And.intro ho' hjm)))
              obtain ⟨Sq, hq1, hq2⟩ := HT.out.q
              have hqi := ((hq1.fr H7.out.2.2.2.2 (fun b hb => (hq2 b hb).2.2.2.2)).below H8.out.2.2).weaken (S' := fun _ => True) (fun _ _ => trivial)
              clear hq1 hq2
              have HQI := Lib.hid (hqi.alloc (.cells #[.int .i64 j, .int .i64 (kn : Int)] 3))
              have hq2 : NumRow (w8.alloc (.cells #[.int .i64 j, .int .i64 (kn : Int)] 3)) w8.heap.size (.slice (some ⟨w8.heap.size, 0, none⟩) 2 2) [j, (kn : Int)] :=
                ElRow.of_blk (f := Value.int .i64) (e := 3) (l := [j, (kn : Int)]) (Blk.new w8 3 #[.int .i64 j, .int .i64 (kn : Int)]) (Nat.le_refl _) (by simp) (by simp)
              have HQ2 := Lib.hid hq2
              clear hnx hm' ho' he' hj2 hjm hqi hq2
              go_wp2_with (at_builtin; refine wpList_append_ints _ rfl (.tmp 83) (.tmp 84) rfl w8.heap.size _ [j, (kn : Int)] rfl HQ2.out _ q q.length _ _ rfl rfl HQI.out ?g1 ?g2 ?_)
              case g1 => have := H6.out.2.2.2.2.2.2.1; simp; omega
              case g2 => simp
              intro vq2 w9 hr9 hgr9 _
              have hB9 : Below w8.heap.size w8 w9 := ((Below.refl w8.heap.size w8).alloc (Nat.le_refl _) (.cells #[.int .i64 j, .int .i64 (kn : Int)] 3)).trans (below_grown hgr9 (by simp) (by intro k hk; simp [Value.ownBlock] at hk; omega))
              obtain ⟨aq9, cq9, rfl, hrs9⟩ := H8.out.1.newQ hB9 (by omega) hr9 (fun x hx => by
                have hxx : 0 ≤ x ∧ x < s.m.length := by
                  simp only [List.mem_cons] at hx
                  rcases hx with rfl | rfl | hx
                  · exact H9.out.2.2.2
                  · exact ⟨by omega, by omega⟩
                  · exact H6.out.2.2.2.2.1 x hx
                unfold i64ok; omega)
              have HR := Lib.hid (And.intro hrs9 (H8.out.2.1.step hB9))
              clear hr9 hgr9 hB9 hrs9
              go_wp2_with fail
              go_roundg m'
              case rel => exact ⟨vl, D, O' ++ [(kn : Int)], j :: (kn : Int) :: q, _, _, o', rfl, HR.out.1, H9.out.1, by rw [← H6.out.2.2.1, H9.out.2.2.1, List.append_assoc]; rfl, H6.out.2.2.2.1, fun x hx => by
                  simp only [List.mem_cons] at hx
                  rcases hx with rfl | rfl | hx
                  · exact H9.out.2.2.2
                  · exact ⟨by omega, by omega⟩
                  · exact H6.out.2.2.2.2.1 x hx, HR.out.2, by have := H6.out.2.2.2.2.2.2.1; simp; omega, by have := H6.out.2.2.2.2.2.2.2.1; simp; omega, H6.out.2.2.2.2.2.2.2.2⟩
              case measure => have := H9.out.2.1; omega
            · obtain ⟨m', o', hm', ho', he'⟩ := H6.out.2.1.inv_fin HDD.out hnx
              rw [← dnS_snoc] at he'
              have H9 := Lib.hid (And.intro he' (And.intro hm' ho'))
              obtain ⟨x, hx⟩ : ∃ x, x = vsS s l (kn : Int) := ⟨_, rfl⟩
              rw [← hx]
              have HX := Lib.hid hx
              have hvll : vl.length = l.length := H7.out.2.2.2.1
              have hknl : kn < vl.length := by have := HLM.out; have := HLL.out; omega
              obtain ⟨gv, capv, hgv⟩ := own_some H8.out.1.v (by omega)
              obtain ⟨rfl, rfl⟩ : av = some ⟨gv, 0, none⟩ ∧ cv = capv := by
                simp only [Value.slice.injEq] at hgv
                exact ⟨hgv.1, hgv.2.2⟩
              obtain ⟨csv, hbv⟩ := num_blk H8.out.1.v
              have hcv : w8.cell? ⟨gv, kn, none⟩ = some (.int .i64 (vl[kn]'hknl)) := by
                have hc := World.ownsRow.cells H8.out.1.v (g := gv) rfl kn (.int .i64 (vl[kn]'hknl)) (by rw [List.getElem?_map, List.getElem?_eq_getElem hknl]; rfl)
                rwa [addr0] at hc
              obtain ⟨ov, hov⟩ : ∃ ov, ov = Value.int .i64 (vl[kn]'hknl) := ⟨_, rfl⟩
              rw [← hov] at hcv
              have hfv := hbv.frozen kn
              have hgl := hbv.lt
              have hknLL : kn < LL := by have := HLL.out; omega
              have hset := H8.out.1.setV kn x
              have hfs : Fr (fun b => b = gv) w8 (w8.setCell ⟨gv, kn, none⟩ (.int .i64 x)) := Fr.set' (D := fun b => b = gv) (Fr.of_below (Below.refl _ _)) ⟨gv, kn, none⟩ rfl _
              have hvlt := World.ownsRow.lt H8.out.1.v
              have hKs := H8.out.2.1.fr hfs (fun b hb => by have := (hvlt gv rfl).1; omega) (fun _ h => h.2)
              have hsz : (w8.setCell ⟨gv, kn, none⟩ (.int .i64 x)).heap.size = w8.heap.size := by simp [World.setCell]
              have hvo2 : ValsOk s l (vl.set kn x) (D ++ [(kn : Int)]) := by
                refine ⟨by rw [List.length_set]; exact hvll, fun y hy => ?_⟩
                rw [vf_set hknl x y hy, dnS_snoc]
                unfold upd
                by_cases hyk : y = (kn : Int)
                · subst hyk
                  rw [if_pos rfl, hx]; simp
                · rw [if_neg hyk, decide_eq_false hyk, Bool.or_false]
                  exact H6.out.2.2.2.1.2 y hy
              have HS := Lib.hid (And.intro hset (And.intro hKs hvo2))
              have hrow8 : (w8.setCell ⟨gv, kn, none⟩ (.int .i64 x)).ownsRow (w.heap.size + 1) 3 1 (.slice add D.length cdd) D.length (D.map (Value.int .i64)) := hset.d
              have HROW8 := Lib.hid hrow8
              have hdl := H6.out.2.2.2.2.2.2.2.1
              clear hnx hm' ho' he' hx hvll hgv hbv hov hset hfs hvlt hKs hvo2 hknl hrow8
              go_wp2_with (at_builtin; refine wpList_append_row _ rfl (.tmp 77) (.tmp 79) 28 rfl (w.heap.size + 1) 3 iN (.int .i64 0) 1 8 Try.underlying28 HIN.out.1 HIN.out.2.1 HIN.out.2.2.1 HIN.out.2.2.2 rfl (by decide) _ D.length (D.map (Value.int .i64)) rfl (World.ownsRow.alloc HROW8.out _) _ 1 1 [.int .i64 (kn : Int)] rfl rfl ?h1 ?h2 (by decide) ?h3 ?h4 ?h5 ?_)
              case h1 => first | exact news1 _ _ _ | (have h := news1 (w8.setCell ⟨gv, kn, none⟩ (.int .i64 x)) 3 (.int .i64 (kn : Int)); rw [hsz] at h; exact h)
              case h2 => simp [Value.oneCell']
              case h3 => rw [HML.out]; omega
              case h4 => omega
              case h5 => simp [hsz]; omega
              intro vd2 w9 hown hgr hnew
              have hr9 : NumRow w9 (w.heap.size + 1) vd2 (D ++ [(kn : Int)]) := by
                unfold NumRow
                rw [List.map_append, List.length_append]
                exact hown
              have hf9 : Fr (fun b => (Value.slice add D.length cdd).ownBlock = some b) (w8.setCell ⟨gv, kn, none⟩ (.int .i64 x)) w9 := (Fr.of_below (D := fun b => (Value.slice add D.length cdd).ownBlock = some b) ((Below.refl (w8.setCell ⟨gv, kn, none⟩ (.int .i64 x)).heap.size (w8.setCell ⟨gv, kn, none⟩ (.int .i64 x))).alloc (Nat.le_refl _) (.cells #[.int .i64 (kn : Int)] 3))).trans (gr_fr hgr) (fun b hb => .inl hb)
              have hrs9 := HS.out.1.pushD hf9 hr9 (fun b hb => (hnew b hb).imp id (fun h => by rw [hsz]; first | omega | (simp [hsz] at h; omega)))
              have hdlt := World.ownsRow.lt HS.out.1.d
              have hK9 := HS.out.2.1.fr hf9 (fun b hb => (hdlt b hb).1) (fun _ h => h.2)
              have H10 := Lib.hid (And.intro hrs9 (And.intro hK9 HS.out.2.2))
              obtain ⟨ad9, cd9, rfl, _⟩ := ElRow.at (f := Value.int .i64) (e := 3) hr9
              clear hown hgr hnew hr9 hf9 hrs9 hdlt hK9 HS HROW8
              go_wp2_with fail
              go_roundg m'
              case rel => exact ⟨vl.set kn x, D ++ [(kn : Int)], O' ++ [(kn : Int)], q, _, _, o', rfl, (by first | exact H10.out.1.tail0 hc1 | exact H10.out.1.tail), H9.out.1, by rw [← H6.out.2.2.1, H9.out.2.2, List.append_assoc]; rfl, H10.out.2.2, H6.out.2.2.2.2.1, H10.out.2.1, by have := H6.out.2.2.2.2.2.2.1; simp; omega, by simp; omega, fun y hy => by
                  rw [List.mem_append, List.mem_singleton] at hy
                  rcases hy with hy | rfl
                  · exact H6.out.2.2.2.2.2.2.2.2 y hy
                  · exact ⟨by omega, by omega⟩⟩
              case measure => have := H9.out.2.1; omega
          · have hdd : dnS s D (kn : Int) = true := by unfold dnS; rw [← HP.out]; simp
            obtain ⟨m', hm', he'⟩ := H6.out.2.1.inv_skip hdd
            have H7 := Lib.hid (And.intro he' hm')
            clear hdd hm' he' HID
            go_wp2_with fail
            go_roundg m'
            case rel => exact ⟨vl, D, O', q, _, _, o, rfl, HT.out, H7.out.1, H6.out.2.2.1, H6.out.2.2.2.1, H6.out.2.2.2.2.1, H6.out.2.2.2.2.2.1, by have := H6.out.2.2.2.2.2.2.1; omega, H6.out.2.2.2.2.2.2.2.1, H6.out.2.2.2.2.2.2.2.2⟩
            case measure => have := H7.out.2; omega
end Go.Proofs.Ytmbgglmnbllpjaa
