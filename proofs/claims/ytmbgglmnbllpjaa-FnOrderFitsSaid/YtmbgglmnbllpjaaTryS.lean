/- spec.l4Try -/
import Derived.Test.YtmbgglmnbllpjaaOrdE
import Derived.Test.YtmbgglmnbllpjaaKeyM
namespace Go.Proofs.Ytmbgglmnbllpjaa
open Go.RowKit

/-- What is done: what is not made, and what is on the list. -/
def dnS (s : Sh) (D : List Int) : Int → Bool := fun k => !s.mdI k || decide (k ∈ D)
theorem dnS_nil (s : Sh) : dnS s [] = d0S s := by funext k; simp [dnS, d0S]
theorem dnS_snoc (s : Sh) (D : List Int) (k : Int) : dnS s (D ++ [k]) = upd (dnS s D) k := by
  funext x
  simp [dnS, upd, Bool.or_assoc]
theorem dnS_lo {s : Sh} {D : List Int} {x : Int} (h : d0S s x = true) : dnS s D x = true := by unfold dnS; unfold d0S at h; rw [h]; rfl

/-- What a try leaves. -/
def TryPost (s : Sh) (l D : List Int) (k : Nat) (w : World) (e : Ending) (w' : World) : Prop :=
  Below w.heap.size w w' ∧ ((∃ j, nxt (chS s l) (dnS s D) k = some j ∧ e = .returned (.tuple #[.int .i64 0, .int .i64 j, .bool false])) ∨ (nxt (chS s l) (dnS s D) k = none ∧ e = .returned (.tuple #[.int .i64 (vsS s l k), .int .i64 (-1), .bool true])))

/-- What l2Next gives, in two. -/
theorem NextPost.both {K : List Int} {m : Nat} {w : World} {v : Int} {e : Ending} {w' : World} (h : NextPost K m w v e w') : ∃ x y b, e = .returned (.tuple #[.int .i64 x, .int .i64 y, .bool b]) ∧ Below w.heap.size w w' ∧ ((b = true ∧ m = K.length ∧ x = v) ∨ (b = false ∧ m < K.length ∧ K[m]? = some y)) := by
  obtain ⟨hb, ⟨h1, lk, rfl⟩ | ⟨h1, u, key, hk, rfl⟩⟩ := h
  · exact ⟨_, _, _, rfl, hb, .inl ⟨rfl, h1, rfl⟩⟩
  · exact ⟨_, _, _, rfl, hb, .inr ⟨rfl, h1, hk⟩⟩

set_option maxRecDepth 100000 in
set_option maxHeartbeats 4000000 in
theorem try4_any (s : Sh) (l vl D : List Int) (k : Nat) (w : World) (S0 S1 S2 : Nat → Prop) (a : Option Addr) (c : Nat) (a' : Option Addr) (c' : Nat) (av : Option Addr) (cv : Nat) (ad : Option Addr) (cd : Nat) (hat : ShAt w S0 s a c a' c') (hv : IntsAt w S1 vl av cv) (hd : IntsAt w S2 D ad cd)
    (hin : inOk s l = true) (hk : k < s.m.length) (hmk : s.mdI (k : Int) = true) (hvl : ∀ x, 0 ≤ x → vf vl x = if dnS s D x = true then vsS s l x else vf l x) (hok : ∀ x, dnS s D x = true → okS s l x = true) :
    Calls Try.prog 92 #[.agg #[.slice a s.m.length c, .slice a' s.t.length c'], .slice av vl.length cv, .slice ad D.length cd, .int .i64 (k : Int)] w (TryPost s l D k w) := by
  obtain ⟨h1, h2, h3⟩ := inOk_of hin
  have hlm : s.m.length ≤ 10 := (Sh.ok_iff.1 h1).1
  have htl : s.t.length = s.m.length := (Sh.ok_iff.1 h1).2.1
  have hkt : k < s.t.length := by omega
  have K0 := Lib.hid (Ks.start (ty := 50) hat.lim)
  have V0 := Lib.hid (hv.lim.alloc (.cells #[.slice a s.m.length c, .slice a' s.t.length c'] 50))
  have D0 := Lib.hid (hd.lim.alloc (.cells #[.slice a s.m.length c, .slice a' s.t.length c'] 50))
  have HOK := Lib.hid h1
  have HIN := Lib.hid hin
  have HMK := Lib.hid hmk
  have HVL := Lib.hid hvl
  have HDO := Lib.hid hok
  have HTL := Lib.hid htl
  have htk : s.t[k] = s.tkI (k : Int) := by unfold Sh.tkI; rw [Int.toNat_natCast]; exact (getD_len hkt).symm
  have HTK := Lib.hid htk
  obtain ⟨K, hK⟩ : ∃ K, K = chS s l (k : Int) := ⟨_, rfl⟩
  have hKb := (T.kys_bd (vsS s l) (s.tkI (k : Int)) (tkI_fit h1 _))
  have hkl15 : K.length ≤ 15 := by
    rw [hK]
    have h2 := (Sh.tk_fit h1 (k : Int).toNat).2
    have h3 : (chS s l k).length ≤ (s.tkI (k : Int)).nodes := hKb.2
    have h4 : (s.tkI (k : Int)).nodes ≤ 15 := h2
    omega
  have HKB := Lib.hid (show ∀ y ∈ K, 0 ≤ y ∧ y ≤ 9 from by rw [hK]; exact hKb.1)
  have hvb := vsS_bd hin
  have HNX := Lib.hid (show ∀ (m : Nat), m ≤ K.length → ∀ (w : World) (S S' : Nat → Prop) (a a' : Option Addr) (c c' : Nat), AtS w S (s.tkI (k : Int)).ps a c → IntsAt w S' ((K.take m).map (vsS s l)) a' c' → Calls Try.prog 107 #[.agg #[.int .i64 (s.tkI (k : Int)).k, .int .i64 (s.tkI (k : Int)).n, .slice a (s.tkI (k : Int)).ps.length c], .slice a' m c'] w (NextPost K m w ((s.tkI (k : Int)).val (vsS s l))) from by
    rw [hK]
    exact next_any (vsS s l) hvb (s.tkI (k : Int)) (tkI_fit h1 _))
  have HVB := Lib.hid hvb
  have HK := Lib.hid hK
  obtain ⟨iN, ni, nz0, nz1, nz2⟩ := info_parts infoInt
  have HI2 := Lib.hid (And.intro ni (And.intro nz0 (And.intro nz1 nz2)))
  have hml : maxLen = 9223372036854775807 := rfl
  have HML := Lib.hid hml
  clear hat hv hd h1 h2 h3 htl hin hmk hvl hok htk hK hKb hvb ni nz0 nz1 nz2 hml
  obtain ⟨x0, x1⟩ := K0.out.box
  have K1 := Lib.hid (K0.out.alloc (.cells #[] 3))
  have V1 := Lib.hid (V0.out.alloc (.cells #[] 3))
  have D1 := Lib.hid (D0.out.alloc (.cells #[] 3))
  have hg1 := rowN_new (w.alloc (.cells #[.slice a s.m.length c, .slice a' s.t.length c'] 50))
  simp only [World.size_alloc] at hg1
  have HG1 := Lib.hid hg1
  clear hg1
  obtain ⟨b', o', a2, c2, rfl, hbl', hSb', e0, e1, e2, hat, _, _⟩ := K1.out.2.2.elem (Below.refl _ _) hkt
  rw [HTK.out] at hat e0 e1 e2
  have HAT := Lib.hid hat
  clear hat K0 V0 D0 x0 x1
  obtain ⟨x0, x1⟩ := K1.out.box
  go_enter Try.func92, Try.ntmps92
  go_wp2_with fail
  refine (HNX.out 0 (Nat.zero_le _) _ _ (fun _ => True) a2 _ c2 0 HAT.out (IntsAt.nil (by omega))).mono ?_
  intro e w2 hp
  obtain ⟨x, y, bb, rfl, hb, hcase⟩ := hp.both
  have hg2 := ElRow.below (f := Value.int .i64) (e := 3) HG1.out hb
  have H2 := Lib.hid (And.intro (K1.out.step hb) (And.intro (V1.out.below hb) (And.intro (D1.out.below hb) (And.intro hg2 hcase))))
  clear hp hb hcase hg2 K1 V1 D1 HG1 HAT e0 e1 e2 x0 x1 hbl'
  go_wp2_with fail
  go_loopw [11, 12, 13, 14] (fun vg vx vy vb wr => ∃ (m : Nat) (x y : Int) (b : Bool), m ≤ K.length ∧ vx = .int .i64 x ∧ vy = .int .i64 y ∧ vb = .bool b ∧ (∀ j ∈ K.take m, dnS s D j = true) ∧ NumRow wr (w.heap.size + 1) vg ((K.take m).map (vsS s l)) ∧
    Ks (fun b => S0 b ∧ b < w.heap.size) s a c (some ⟨b', o', none⟩) c' 50 w wr ∧ IntsAt wr (fun b => S1 b ∧ b < w.heap.size) vl av cv ∧ IntsAt wr (fun b => S2 b ∧ b < w.heap.size) D ad cd ∧ ((b = true ∧ m = K.length ∧ x = (s.tkI (k : Int)).val (vsS s l)) ∨ (b = false ∧ m < K.length ∧ K[m]? = some y))) (fun vg _ _ _ _ => K.length - slLen vg)
  case atStart => exact ⟨0, x, y, bb, Nat.zero_le _, rfl, rfl, rfl, by simp, H2.out.2.2.2.1, H2.out.1, H2.out.2.1, H2.out.2.2.1, H2.out.2.2.2.2⟩
  case round =>
    obtain ⟨m, x, y, b, hm, rfl, rfl, rfl, hdn, hg, hKs, hV, hD, hcase⟩ := hrel
    have H3 := Lib.hid (And.intro hdn (And.intro hg (And.intro hKs (And.intro hV hD))))
    have hws := hKs.size
    obtain ⟨x0, x1⟩ := hKs.box
    have HSL := Lib.hid (show slLen u11 = m from by rw [NumRow.len hg, got_len hm])
    obtain ⟨ag, cg, hvg, hia⟩ := NumRow.at hg (fun x hx => by
      obtain ⟨j, _, rfl⟩ := List.mem_map.1 hx
      have := HVB.out j
      unfold i64ok; omega)
    rw [got_len hm] at hvg
    subst hvg
    have HM := Lib.hid hm
    clear hdn hg hKs hV hD H2 hm hia
    rcases hcase with ⟨rfl, hmK, hx⟩ | ⟨rfl, hlt, hky⟩
    · have hall : ∀ j ∈ K, dnS s D j = true := fun j hj => H3.out.1 j (by rw [List.take_of_length_le (by omega)]; exact hj)
      have hno : nxt (chS s l) (dnS s D) (k : Int) = none := by
        unfold nxt
        rw [← HK.out, List.find?_eq_none]
        intro j hj
        rw [hall j hj]; simp
      have hval : x = vsS s l (k : Int) := by
        rw [hx]
        exact (vsS_made HOK.out HMK.out ((gr_S HOK.out l).up (k : Int) (fun j hj => HDO.out j (hall j (by rw [HK.out]; exact hj))))).symm
      have HV := Lib.hid (And.intro hno hval)
      clear hmK hx hall hno hval
      go_wp2_with fail
      go_ret3
      exact ⟨H3.out.2.2.1.done, .inr ⟨HV.out.1, by rw [← HV.out.2]; rfl⟩⟩
    · have hyb := HKB.out y (List.mem_of_getElem? hky)
      obtain ⟨yn, rfl⟩ : ∃ yn : Nat, y = yn := ⟨y.toNat, by omega⟩
      have HKY := Lib.hid (And.intro hlt hky)
      have hmle : m ≤ 15 := by omega
      clear hlt hky
      cases hyd : dnS s D (yn : Int)
      · have hno : nxt (chS s l) (dnS s D) (k : Int) = some (yn : Int) := by
          unfold nxt
          rw [← HK.out]
          exact find_at H3.out.1 HKY.out.2 hyd
        have HNO := Lib.hid hno
        have hym : s.mdI (yn : Int) = true := by
          cases hz : s.mdI (yn : Int)
          · unfold dnS at hyd; rw [hz] at hyd; simp at hyd
          · rfl
        have hyD : decide ((yn : Int) ∈ D) = false := by
          unfold dnS at hyd
          rw [Bool.or_eq_false_iff] at hyd
          exact hyd.2
        have hyl : yn < s.m.length := by have := (mdI_bd hym).2; omega
        obtain ⟨bm, om, ha, hbml, hcm⟩ := md_cell H3.out.2.2.1.2 hyl
        rw [hym] at hcm
        have HYD := Lib.hid hyD
        have HA := Lib.hid ha
        clear hno hym hyD hyd ha
        obtain rfl := HA.out
        go_wp2_with fail
        refine (has_any wr _ D ad cd (yn : Int) H3.out.2.2.2.2).mono ?_
        rintro e w4 ⟨rfl, rfl⟩
        rw [HYD.out]
        go_wp2_with fail
        go_ret3
        exact ⟨H3.out.2.2.1.done, .inl ⟨_, HNO.out, rfl⟩⟩
      · have hvy : vf vl (yn : Int) = vsS s l (yn : Int) := by rw [HVL.out _ (by omega), hyd, if_pos rfl]
        obtain ⟨v4, hv4⟩ : ∃ v, v = vsS s l (yn : Int) := ⟨_, rfl⟩
        rw [← hv4] at hvy
        have HV4 := Lib.hid (And.intro hyd (And.intro hvy hv4))
        have hml : (((K.take m).map (vsS s l))).length = m := got_len HM.out
        obtain ⟨G, hG⟩ : ∃ G, G = (K.take m).map (vsS s l) := ⟨_, rfl⟩
        have HGE := Lib.hid hG
        have HGN := Lib.hid (show G.length = m by rw [hG]; exact hml)
        have hgow2 : wr.ownsRow (w.heap.size + 1) 3 1 (.slice ag m cg) m (G.map (.int .i64)) := by
          have h := H3.out.2.1
          unfold NumRow at h
          rwa [hml, ← hG] at h
        have HGO := Lib.hid hgow2
        have htri : (yn < s.m.length ∧ s.mdI (yn : Int) = true ∧ decide ((yn : Int) ∈ D) = true) ∨ (yn < s.m.length ∧ s.mdI (yn : Int) = false) ∨ s.m.length ≤ yn := by
          by_cases h1 : yn < s.m.length
          · cases h2 : s.mdI (yn : Int)
            · exact .inr (.inl ⟨h1, rfl⟩)
            · refine .inl ⟨h1, rfl, ?_⟩
              unfold dnS at hyd
              rw [h2] at hyd
              simpa using hyd
          · exact .inr (.inr (by omega))
        clear hml hG hgow2 hvy hv4 hyd
        rcases htri with ⟨hyl, hym, hyD⟩ | ⟨hyl, hym⟩ | hyl
        case' inl =>
          obtain ⟨bm, om, ha, hbml, hcm⟩ := md_cell H3.out.2.2.1.2 hyl
          rw [hym] at hcm
          have HYD := Lib.hid hyD
          have HA := Lib.hid ha
          clear hym hyD ha
          obtain rfl := HA.out
          go_wp2_with fail
          refine (has_any wr _ D ad cd (yn : Int) H3.out.2.2.2.2).mono ?_
          rintro e w4 ⟨rfl, rfl⟩
          rw [HYD.out]
          go_wp2_with fail
          clear hcm hbml HA HYD
        case' inr.inl =>
          obtain ⟨bm, om, ha, hbml, hcm⟩ := md_cell H3.out.2.2.1.2 hyl
          rw [hym] at hcm
          have HA := Lib.hid ha
          clear hym ha
          obtain rfl := HA.out
          go_wp2_with fail
          clear hcm hbml HA
        case' inr.inr => go_wp2_with fail
        all_goals
          refine (of_any wr _ vl av cv H3.out.2.2.2.1 (yn : Int) (by omega) (by omega)).mono ?_
          rintro e w4 ⟨rfl, rfl⟩
          rw [HV4.out.2.1]
          clear hyl
          go_wp2_with (at_builtin; refine wpList_append_row _ rfl (.tmp 48) (.tmp 52) 28 rfl (w.heap.size + 1) 3 iN (.int .i64 0) 1 8 Try.underlying28 HI2.out.1 HI2.out.2.1 HI2.out.2.2.1 HI2.out.2.2.2 rfl (by decide) _ m (G.map (.int .i64)) rfl (World.ownsRow.alloc HGO.out _) ⟨wr.heap.size, 0, none⟩ 1 1 [.int .i64 v4] rfl rfl ?f1 ?f2 (by decide) ?f3 ?f4 ?f5 ?_)
          case f1 => exact news1 _ _ _
          case f2 => simp [Value.oneCell']
          case f3 => rw [HML.out]; omega
          case f4 => omega
          case f5 => simp; omega
          intro vg6 w6 hown hgr hnew
          have hltg := World.ownsRow.lt HGO.out
          have hB6 : Below (w.heap.size + 1) wr w6 := ((Below.refl _ _).alloc (by omega) (.cells #[.int .i64 v4] 3)).trans (below_grown hgr (by simp; omega) (fun b hb => (hltg b hb).1))
          have hFr : Fr (fun b => w.heap.size + 1 ≤ b) wr w6 := ⟨hB6.os, hB6.tape, hB6.output, hB6.size, fun b _ hn => hB6.block b (by omega)⟩
          have hK6 := H3.out.2.2.1.fr hFr (fun _ h => h) (fun _ h => h.2)
          clear hFr
          have hV6 := H3.out.2.2.2.1.keep (w' := w6) (fun _ h => h) (fun b hb _ => hB6.block b (by have := hb.2; omega))
          have hD6 := H3.out.2.2.2.2.keep (w' := w6) (fun _ h => h) (fun b hb _ => hB6.block b (by have := hb.2; omega))
          have htk1 : K.take (m + 1) = K.take m ++ [(yn : Int)] := take_succ_map HKY.out.2
          have hl6 : ((K.take (m + 1)).map (vsS s l)).length = m + 1 := got_len (by have := HKY.out.1; omega)
          have hg6 : NumRow w6 (w.heap.size + 1) vg6 ((K.take (m + 1)).map (vsS s l)) := by
            unfold NumRow
            rw [hl6, htk1, List.map_append, List.map_append, ← HGE.out]
            simp only [List.map_cons, List.map_nil]
            rw [← HV4.out.2.2]
            exact hown
          have hdn6 : ∀ j ∈ K.take (m + 1), dnS s D j = true := by
            rw [htk1]
            intro j hj
            rw [List.mem_append, List.mem_singleton] at hj
            rcases hj with hj | rfl
            · exact H3.out.1 j hj
            · exact HV4.out.1
          obtain ⟨ag6, cg6, hv6, hia6⟩ := NumRow.at hg6 (fun x hx => by
            obtain ⟨j, _, rfl⟩ := List.mem_map.1 hx
            have := HVB.out j
            unfold i64ok; omega)
          rw [hl6] at hv6
          subst hv6
          have hcg6 : m + 1 ≤ cg6 ∧ cg6 ≤ 9223372036854775807 := by have h1 := hia6.1; have h2 := hia6.2.1; rw [hl6] at h1; omega
          obtain ⟨b7, o7, a7, c7, he7, hbl7, hSb7, e0, e1, e2, hat, _, _⟩ := hK6.2.2.elem (Below.refl _ _) hkt
          injection he7 with he7
          injection he7 with he7 he7'
          subst he7 he7'
          rw [HTK.out] at hat e0 e1 e2
          have HAT := Lib.hid hat
          have HIA := Lib.hid hia6
          have H6 := Lib.hid (And.intro hdn6 (And.intro hg6 (And.intro hK6 (And.intro hV6 hD6))))
          obtain ⟨x0, x1⟩ := hK6.box
          have HLT := Lib.hid (show m + 1 ≤ K.length by have := HKY.out.1; omega)
          clear hown hgr hnew hltg hB6 hK6 hV6 hD6 htk1 hl6 hg6 hdn6 hia6 hat hSb7
          go_wp2_with fail
          refine (HNX.out (m + 1) HLT.out w6 _ _ a7 ag6 c7 cg6 HAT.out HIA.out).mono ?_
          intro e w7 hp
          obtain ⟨x7, y7, b8, rfl, hb, hcase⟩ := hp.both
          have H7 := Lib.hid (And.intro (ElRow.below (f := Value.int .i64) (e := 3) H6.out.2.1 hb) (And.intro (H6.out.2.2.1.step hb) (And.intro (H6.out.2.2.2.1.below hb) (And.intro (H6.out.2.2.2.2.below hb) hcase))))
          clear hp hb hcase e0 e1 e2
          go_wp2_with fail
          refine ⟨⟨m + 1, x7, y7, b8, HLT.out, rfl, rfl, rfl, H6.out.1, H7.out.1, H7.out.2.1, H7.out.2.2.1, H7.out.2.2.2.1, H7.out.2.2.2.2⟩, ?_⟩
          rw [HSL.out]
          simp only [slLen]
          have := HKY.out.1
          omega
end Go.Proofs.Ytmbgglmnbllpjaa
