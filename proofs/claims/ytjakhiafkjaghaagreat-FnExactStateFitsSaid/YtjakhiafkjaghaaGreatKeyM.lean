/- spec.l3Build.key: a key that is made, and not under way -/
import Derived.Test.YtjakhiafkjaghaaGreatKeyS
namespace Go.Proofs.YtjakhiafkjaghaaGreat
open Go.RowKit

/-- Where the loop over fetches stands. -/
def KRel (s : Sh) (l : List Int) (q : Nat) (a : Option Addr) (c : Nat) (a' : Option Addr) (c' : Nat) (ai : Option Addr) (ci : Nat) (uv cv : Value) (U : List Int) (kn : Nat) (w : World) (vg vv vk vb : Value) (wr : World) : Prop :=
  ∃ (m : Nat) (x y : Int) (b : Bool) (uv2 : Value), m ≤ (chS s l kn).length ∧ vv = .int .i64 x ∧ vk = .int .i64 y ∧ vb = .bool b ∧ (∀ j ∈ (chS s l kn).take m, okS s l j = true) ∧
    NumRow wr (q + 1) vg (((chS s l kn).take m).map (vsS s l)) ∧ BdAt wr q s l a c a' c' ai ci uv2 cv ∧ NumRow wr (q + 1) uv2 (U ++ [(kn : Int)]) ∧ (∀ b, vg.ownBlock = some b → ¬ uv2.ownBlock = some b) ∧
    Fr (fun b => b = q ∨ uv.ownBlock = some b) w wr ∧ (∀ b, uv2.ownBlock = some b → uv.ownBlock = some b ∨ w.heap.size ≤ b) ∧ (∀ b, vg.ownBlock = some b → w.heap.size ≤ b) ∧
    ((b = true ∧ m = (chS s l kn).length ∧ x = (s.tkI kn).val (vsS s l)) ∨ (b = false ∧ m < (chS s l kn).length ∧ (chS s l kn)[m]? = some y))

section
variable {S S' : Nat → Prop} {s : Sh} {l : List Int} {q : Nat} {a : Option Addr} {c : Nat} {a' : Option Addr} {c' : Nat} {ai : Option Addr} {ci : Nat} {uv cv : Value} {U : List Int} {w : World}

/-- The end of the building: what is under is cut back. -/
theorem KRel.cut {kn : Nat} {w4 : World} {uv2 cv2 : Value} {x : Int} {b : Bool} {au : Option Addr} {cu : Nat} (hu : uv2 = .slice au (U.length + 1) cu)
    (hbd : BdAt w4 q s l a c a' c' ai ci uv2 cv2) (hrow : NumRow w4 (q + 1) uv2 (U ++ [(kn : Int)])) (hfr : Fr (fun b => b = q ∨ uv.ownBlock = some b) w w4) (hq : q < w.heap.size) (how : ∀ b, uv2.ownBlock = some b → uv.ownBlock = some b ∨ w.heap.size ≤ b)
    (hor : (b = true ∧ okS s l kn = true ∧ x = vsS s l kn ∧ cv2 = cv) ∨ (b = false ∧ okS s l kn = false ∧ NumRow w4 w.heap.size cv2 (circ s.m.length (chS s l) (okS s l) U kn))) :
    KeyPost s l q a c a' c' ai ci uv cv U kn w (.returned (.tuple #[.int .i64 x, .bool b])) (w4.setCell ⟨q, 3, none⟩ (.slice au U.length cu)) := by
  have hfq : Fr (fun b => b = q) w4 (w4.setCell ⟨q, 3, none⟩ (.slice au U.length cu)) := Fr.set' (D := fun b => b = q) (Fr.of_below (Below.refl _ _)) ⟨q, 3, none⟩ rfl _
  have hrow2 : NumRow w4 (q + 1) (.slice au U.length cu) U := by
    obtain ⟨g, cap, he⟩ := own_some hrow (by simp)
    rw [hu] at he hrow
    obtain ⟨rfl, rfl⟩ : au = some ⟨g, 0, none⟩ ∧ cu = cap := by simpa using he
    have h := ElRow.take (f := Value.int .i64) (e := 3) hrow U.length (by simp)
    rw [List.take_left] at h
    exact h
  refine ⟨_, cv2, x, b, rfl, hbd.set_ 3 _, ElRow.fr (f := Value.int .i64) (e := 3) hrow2 hfq (fun b hb => by omega), hfr.set' ⟨q, 3, none⟩ (.inl rfl) _, fun b hb => how b (by rw [hu]; cases au <;> exact hb), ?_⟩
  rcases hor with h | ⟨h1, h2, h3⟩
  · exact .inl h
  · exact .inr ⟨h1, h2, ElRow.fr (f := Value.int .i64) (e := 3) h3 hfq (fun b hb => by omega)⟩

/-- What l2Next gives the loop. -/
theorem KRel.next {kn m : Nat} {w1 wr : World} {vg uv2 : Value} {e : Ending} (hm : m ≤ (chS s l kn).length) (hok : ∀ j ∈ (chS s l kn).take m, okS s l j = true) (hg : NumRow w1 (q + 1) vg (((chS s l kn).take m).map (vsS s l)))
    (hbd : BdAt w1 q s l a c a' c' ai ci uv2 cv) (hq : q < w1.heap.size) (hu : NumRow w1 (q + 1) uv2 (U ++ [(kn : Int)])) (hne : ∀ b, vg.ownBlock = some b → ¬ uv2.ownBlock = some b) (hfr : Fr (fun b => b = q ∨ uv.ownBlock = some b) w w1)
    (how : ∀ b, uv2.ownBlock = some b → uv.ownBlock = some b ∨ w.heap.size ≤ b) (hgo : ∀ b, vg.ownBlock = some b → w.heap.size ≤ b)
    (hp : NextPost (chS s l kn) m w1 ((s.tkI kn).val (vsS s l)) e wr) : ∃ x y b, e = .returned (.tuple #[.int .i64 x, .int .i64 y, .bool b]) ∧ KRel s l q a c a' c' ai ci uv cv U kn w vg (.int .i64 x) (.int .i64 y) (.bool b) wr := by
  obtain ⟨hb, h⟩ := hp
  have hg2 := ElRow.below (f := Value.int .i64) (e := 3) hg hb
  have hu2 := ElRow.below (f := Value.int .i64) (e := 3) hu hb
  have hbd2 : BdAt wr q s l a c a' c' ai ci uv2 cv := Blk.below hbd hb hq
  have hfr2 : Fr (fun b => b = q ∨ uv.ownBlock = some b) w wr := hfr.trans (D' := fun b => b = q ∨ uv.ownBlock = some b) (Fr.of_below hb) (fun b hb => .inl hb)
  rcases h with ⟨h1, lk, rfl⟩ | ⟨h1, u, key, hk, rfl⟩
  · exact ⟨_, lk, true, rfl, m, _, lk, true, uv2, hm, rfl, rfl, rfl, hok, hg2, hbd2, hu2, hne, hfr2, how, hgo, .inl ⟨rfl, h1, rfl⟩⟩
  · exact ⟨u, key, false, rfl, m, u, key, false, uv2, hm, rfl, rfl, rfl, hok, hg2, hbd2, hu2, hne, hfr2, how, hgo, .inr ⟨rfl, h1, hk⟩⟩

theorem KeyPost.drew {k : Int} {e : Ending} {w' : World} (h : KeyPost s l q a c a' c' ai ci uv cv U k w e w') : KeyPost s l q a c a' c' ai ci uv cv U k w e w'.drew := by
  obtain ⟨uv', cv', v, b, h1, h2, h3, h4, h5, h6⟩ := h
  refine ⟨uv', cv', v, b, h1, Blk.drew h2, ElRow.drew (f := Value.int .i64) (e := 3) h3, h4.trans (D' := fun b => b = q ∨ uv.ownBlock = some b) (Fr.of_below (Below.refl _ _).drew) (fun b hb => .inl hb), h5, ?_⟩
  rcases h6 with h6 | ⟨h6, h7, h8⟩
  · exact .inl h6
  · exact .inr ⟨h6, h7, ElRow.drew (f := Value.int .i64) (e := 3) h8⟩

theorem find_at {ok : Int → Bool} {K : List Int} {m : Nat} {y : Int} (h : ∀ j ∈ K.take m, ok j = true) (hy : K[m]? = some y) (hn : ok y = false) : K.find? (fun j => !ok j) = some y := by
  obtain ⟨hlt, hyy⟩ := List.getElem?_eq_some_iff.1 hy
  have e : K.take m ++ K.drop m = K := List.take_append_drop m K
  rw [← e, List.find?_append, List.find?_eq_none.2 (fun j hj => by simp [h j hj]), Option.none_or, List.drop_eq_getElem_cons hlt, List.find?_cons, hyy]
  simp [hn]

theorem fr_grown {w1 w2 : World} {row : Option Nat} (h : w1.grownBy w2 row) : Fr (fun b => row = some b) w1 w2 := ⟨h.os, h.tape, h.output, h.size, fun b hb hn => h.block b hb (fun e => hn e.symm)⟩

set_option maxRecDepth 100000 in
set_option maxHeartbeats 4000000 in
theorem key_main {kn r : Nat} (hIH : KeyT S S' s l q a c a' c' ai ci r) (hr : U.length + (r + 1) = s.m.length + 1) (hp : KeyPre S S' s l q a c a' c' ai ci uv cv U (kn : Int) w) (hmk : s.mdI (kn : Int) = true) (hU : ¬ (kn : Int) ∈ U) :
    Calls Tryz.prog 74 #[.pointer (some ⟨q, 0, none⟩), .int .i64 (kn : Int)] w (KeyPost s l q a c a' c' ai ci uv cv U kn w) := by
  have H := Lib.hid hp
  obtain ⟨x0, x1, x2, x3, x4, hfz⟩ := Blk.five hp.bd
  have f3 := hfz 3
  obtain ⟨h1, h2, h3⟩ := inOk_of hp.inn
  have hkn : kn < s.m.length := by have := (mdI_bd hmk).2; omega
  have hlm : s.m.length ≤ 10 := (Sh.ok_iff.1 h1).1
  have htl : s.t.length = s.m.length := (Sh.ok_iff.1 h1).2.1
  obtain ⟨b, o, ha, _, _, hc⟩ := ElAt.get hp.sh.1 (Below.refl _ _) hkn
  have hmd : s.m[kn] = true := by rw [mdI_nat] at hmk; unfold Sh.md at hmk; rwa [getD_len hkn] at hmk
  rw [hmd] at hc
  have hUl := hp.undL
  have hUb := hp.undB
  obtain ⟨au, cu, he, hua⟩ := NumRow.at hp.un (fun x hx => by have := hUb x hx; unfold i64ok; omega)
  have HUA := Lib.hid hua
  have hcu := hua.1
  have hcm := hua.2.1
  have HA := Lib.hid ha
  have HMK := Lib.hid hmk
  have HOK := Lib.hid h1
  have HIN := Lib.hid hp.inn
  have hql : q < w.heap.size := hp.bd.lt
  have HUB := Lib.hid hUb
  have HU := Lib.hid hU
  have HIH := Lib.hid hIH
  have HR := Lib.hid hr
  have HTL := Lib.hid htl
  clear hp h1 h2 h3 ha hmd hmk hU hUb hfz hua hIH hr htl
  obtain rfl := HA.out
  subst he
  go_enter Tryz.func74, Tryz.ntmps74
  go_wp2_with fail
  go_loop [6] (fun i => ∃ j : Nat, j ≤ U.length ∧ i = .int .i64 j) (fun i => U.length - (intOf i).toNat)
  case atStart => exact ⟨0, by omega, rfl⟩
  case round =>
    obtain ⟨j, hj, rfl⟩ := hrel
    by_cases hlt : j < U.length
    · obtain ⟨gu, ou, rfl, _, _, hx⟩ := HUA.out.get (Below.refl _ _) hlt
      have hub := HUB.out U[j] (List.getElem_mem _)
      obtain ⟨u, hu⟩ : ∃ u : Nat, U[j] = (u : Int) := ⟨U[j].toNat, by omega⟩
      rw [hu] at hx
      have hk : u ≠ kn := by
        rintro rfl
        exact HU.out (by rw [← hu]; exact List.getElem_mem _)
      have hne : ((u : Int) == (kn : Int)) = false := by
        cases hx : ((u : Int) == (kn : Int))
        · rfl
        · rw [beq_iff_eq] at hx; omega
      clear hk hub hu
      go_wp2_with fail
      go_round
      case rel => exact ⟨j + 1, by omega, by go_num⟩
      case measure => simp [intOf]; omega
    · obtain rfl : j = U.length := by omega
      obtain ⟨iN, ni, nz0, nz1, nz2⟩ := info_parts infoInt
      have HIN2 := Lib.hid (And.intro ni (And.intro nz0 (And.intro nz1 nz2)))
      have hmle : maxLen = 9223372036854775807 := rfl
      have HML := Lib.hid hmle
      clear ni nz0 nz1 nz2 hmle hj hlt
      go_wp2_with (at_builtin; refine wpList_append_row _ rfl (.tmp 70) (.tmp 72) 26 rfl (q + 1) 3 iN (.int .i64 0) 1 8 Tryz.underlying26 HIN2.out.1 HIN2.out.2.1 HIN2.out.2.2.1 HIN2.out.2.2.2 rfl (by decide) _ U.length (U.map (.int .i64)) rfl (World.ownsRow.alloc H.out.un _) ⟨w.heap.size, 0, none⟩ 1 1 [.int .i64 (kn : Int)] rfl rfl ?d1 ?d2 (by decide) ?d3 ?d4 ?d5 ?_)
      case d2 => simp [Value.oneCell']
      case d3 => rw [HML.out]; omega
      case d4 => omega
      case d5 => omega
      intro uv2 w3 hown hgr hnew
      have hs3 := hgr.size
      simp only [World.size_alloc] at hs3
      have hf3 : Fr (fun b => (Value.slice au U.length cu).ownBlock = some b) w w3 := (show Fr (fun b => (Value.slice au U.length cu).ownBlock = some b) w _ from Fr.of_below ((Below.refl w.heap.size w).alloc (Nat.le_refl _) (.cells #[.int .i64 (kn : Int)] 3))).trans (fr_grown hgr) (fun b hb => .inl hb)
      have hu3 : NumRow w3 (q + 1) uv2 (U ++ [(kn : Int)]) := by
        unfold NumRow
        rw [List.map_append, List.length_append]
        exact hown
      have hqo : ¬ (Value.slice au U.length cu).ownBlock = some q := fun e => by have := (World.ownsRow.lt H.out.un q e).1; omega
      have hbd3 : BdAt w3 q s l (some ⟨b, o, none⟩) c a' c' ai ci (.slice au U.length cu) cv := Blk.fr H.out.bd hf3 hqo
      obtain ⟨y0, y1, y2, y3, y4, hfz⟩ := Blk.five hbd3
      have g3 := hfz 3
      have hq3 : q < w3.heap.size := hbd3.lt
      have HU3 := Lib.hid (And.intro hu3 (And.intro hf3 (And.intro hbd3 hnew)))
      obtain ⟨au2, cu2, rfl, _⟩ := ElRow.at (f := Value.int .i64) (e := 3) hu3
      have hul : (U ++ [(kn : Int)]).length = U.length + 1 := by simp
      rw [hul] at HU3 ⊢
      clear hown hgr hnew hf3 hu3 hqo hbd3 hfz x0 x1 x2 x3 x4 f3 hc hul
      have hkt : kn < s.t.length := by have := HTL.out; omega
      have hts : AtS w3 S s.t a' c' := H.out.sh.2.fr HU3.out.2.1 (fun b hb h => by have := H.out.lo b hb; have := (World.ownsRow.lt H.out.un b h).1; omega)
      obtain ⟨b', o', a2, c2, rfl, hbl', hSb', e0, e1, e2, hat, _, _⟩ := hts.elem (Below.refl _ _) hkt
      have hb'q : b' < q := H.out.lo b' hSb'
      have HAT := Lib.hid hat
      have htk : s.t[kn] = s.tkI (kn : Int) := by unfold Sh.tkI; rw [Int.toNat_natCast]; exact (getD_len hkt).symm
      rw [htk] at HAT e0 e1 e2
      clear hts hat htk hSb'
      go_wp2_with fail
      obtain ⟨hu3, hf3, hbd3, hnew⟩ := HU3.out
      have hfq : Fr (fun b => b = q) w3 (w3.setCell ⟨q, 3, none⟩ (.slice au2 (U.length + 1) cu2)) := Fr.set' (D := fun b => b = q) (Fr.of_below (Below.refl _ _)) ⟨q, 3, none⟩ rfl _
      have hsz : (w3.setCell ⟨q, 3, none⟩ (.slice au2 (U.length + 1) cu2)).heap.size = w3.heap.size := by simp [World.setCell]
      have hbd4 : BdAt (w3.setCell ⟨q, 3, none⟩ (.slice au2 (U.length + 1) cu2)) q s l (some ⟨b, o, none⟩) c (some ⟨b', o', none⟩) c' ai ci (.slice au2 (U.length + 1) cu2) cv := hbd3.set_ 3 _
      have hu4 : NumRow (w3.setCell ⟨q, 3, none⟩ (.slice au2 (U.length + 1) cu2)) (q + 1) (.slice au2 (U.length + 1) cu2) (U ++ [(kn : Int)]) := ElRow.fr (f := Value.int .i64) (e := 3) hu3 hfq (fun b hb => by omega)
      have hfr4 : Fr (fun b => b = q ∨ (Value.slice au U.length cu).ownBlock = some b) w (w3.setCell ⟨q, 3, none⟩ (.slice au2 (U.length + 1) cu2)) := (hf3.weaken (fun b hb => .inr hb)).trans hfq (fun b hb => .inl (.inl hb))
      have hat4 : AtS (w3.setCell ⟨q, 3, none⟩ (.slice au2 (U.length + 1) cu2)) S (s.tkI (kn : Int)).ps a2 c2 := HAT.out.setCell (fun b hb => by have := H.out.lo b hb; simp; omega) _
      have hg4 := rowN_new (w3.setCell ⟨q, 3, none⟩ (.slice au2 (U.length + 1) cu2))
      have how4 : ∀ b, (Value.slice au2 (U.length + 1) cu2).ownBlock = some b → (Value.slice au U.length cu).ownBlock = some b ∨ w.heap.size ≤ b := fun b hb => (hnew b hb).imp id (fun h => by omega)
      have hul4 := World.ownsRow.lt hu4
      obtain ⟨W, hW⟩ : ∃ W, W = w3.setCell ⟨q, 3, none⟩ (.slice au2 (U.length + 1) cu2) := ⟨_, rfl⟩
      rw [← hW] at hbd4 hu4 hfr4 hat4 hg4 hsz hul4 ⊢
      rw [hsz] at hg4 hul4
      have hvb := vsS_bd HIN.out
      have HNX := Lib.hid (fun (m : Nat) => next_any (vsS s l) hvb (s.tkI (kn : Int)) (tkI_fit HOK.out _) m)
      have HG4 := Lib.hid (ownsRow_low hg4 (show q + 1 ≤ w3.heap.size by omega))
      have H4 := Lib.hid (And.intro hbd4 (And.intro hu4 (And.intro hfr4 (And.intro how4 hul4))))
      have HAT4 := Lib.hid hat4
      have HSZ := Lib.hid hsz
      clear hu3 hf3 hbd3 hnew hfq hbd4 hu4 hfr4 hat4 hg4 how4 hul4 hW hvb y0 y1 y2 y3 y4 g3 e0 e1 e2 HU3 HAT hsz
      refine (HNX.out 0 (Nat.zero_le _) _ S (fun _ => True) a2 _ c2 0 (HAT4.out.alloc _) (IntsAt.nil (by omega))).mono ?_
      intro e w5 hp
      obtain ⟨x, y, bb, rfl, hrel⟩ := KRel.next (s := s) (l := l) (q := q) (uv := .slice au U.length cu) (kn := kn) (m := 0) (Nat.zero_le _) (by simp) HG4.out (H4.out.1.alloc _) (by simp; have := HSZ.out; omega) (ElRow.alloc (f := Value.int .i64) (e := 3) H4.out.2.1 _)
        (fun b hb h => by have := (H4.out.2.2.2.2 b h).2; simp [Value.ownBlock] at hb; omega) (H4.out.2.2.1.trans (D' := fun b => b = q) (Fr.of_below ((Below.refl _ _).alloc (Nat.le_refl _) _)) (fun b hb => .inl (.inl hb))) H4.out.2.2.2.1 (fun b hb => by simp [Value.ownBlock] at hb; omega) hp
      have HREL := Lib.hid hrel
      clear hp hrel
      go_wp2_with fail
      clear HG4 H4 HAT4 HUA
      obtain ⟨KL, hKL⟩ : ∃ n, n = (chS s l kn).length := ⟨_, rfl⟩
      go_loopw [7, 8, 9, 10] (fun vg vv vk vb wr => KRel s l q (some ⟨b, o, none⟩) c (some ⟨b', o', none⟩) c' ai ci (.slice au U.length cu) cv U kn w vg vv vk vb wr ∧ True) (fun vg _ _ _ _ => KL - slLen vg)
      case atStart => exact ⟨HREL.out, trivial⟩
      case round =>
        obtain ⟨⟨m, x, y, b2, uv3, hm, rfl, rfl, rfl, hok, hg, hbd, hu, hne, hfr, how, hgo, hcase⟩, _⟩ := hrel
        have hql2 : q < wr.heap.size := hbd.lt
        have hwsz := hfr.size
        obtain ⟨z0, z1, z2, z3, z4, hfz⟩ := Blk.five hbd
        have g3 := hfz 3
        obtain ⟨au3, cu3, rfl, hua3⟩ := ElRow.at (f := Value.int .i64) (e := 3) hu
        have hul : (U ++ [(kn : Int)]).length = U.length + 1 := by simp
        rw [hul] at hbd hu hne how z3
        have hc3 : U.length + 1 ≤ cu3 ∧ cu3 ≤ 9223372036854775807 := by
          have h5 := hua3.1; have h6 := hua3.2.1; rw [hul] at h5; omega
        have HKL := Lib.hid hKL
        have H5 := Lib.hid (And.intro hok (And.intro hg (And.intro hbd (And.intro hu (And.intro hne (And.intro hfr (And.intro how hgo)))))))
        have HM := Lib.hid hm
        clear HREL hok hg hbd hu hne hfr how hgo hfz hua3 hul hm hKL
        rcases hcase with ⟨rfl, hmK, hx⟩ | ⟨rfl, hlt, hky⟩
        · have HMK2 := Lib.hid (And.intro hmK hx)
          clear hmK hx
          go_wp2_with fail
          go_region
          go_wp2_with fail
          go_ret2
          obtain ⟨hok, hg, hbd, hu, hne, hfr, how, hgo⟩ := H5.out
          have hall : ∀ j ∈ chS s l kn, okS s l j = true := by
            have h := hok
            rwa [List.take_of_length_le (by have := HMK2.out.1; omega)] at h
          have hokk := (gr_S HOK.out l).up (kn : Int) hall
          exact (KRel.cut rfl hbd hu hfr hql how (.inl ⟨rfl, hokk, by rw [HMK2.out.2]; exact (vsS_made HOK.out HMK.out hokk).symm, rfl⟩)).drew
        · have hyK : y ∈ chS s l kn := List.mem_of_getElem? hky
          have hyb := (T.kys_bd (vsS s l) (s.tkI (kn : Int)) (tkI_fit HOK.out _)).1 y hyK
          have hpre : KeyPre S S' s l q (some ⟨b, o, none⟩) c (some ⟨b', o', none⟩) c' ai ci (.slice au3 (U.length + 1) cu3) cv (U ++ [(kn : Int)]) y wr := by
            obtain ⟨hok, hg, hbd, hu, hne, hfr, how, hgo⟩ := H5.out
            have hD : ∀ b, b < q → ¬ (b = q ∨ (Value.slice au U.length cu).ownBlock = some b) := fun b hb h => by
              rcases h with h | h
              · omega
              · have := (World.ownsRow.lt H.out.un b h).1; omega
            exact ⟨HIN.out, H.out.sh.fr hfr (fun b hb => hD b (H.out.lo b hb)), H.out.il.fr hfr (fun b hb => hD b (H.out.lo' b hb)), H.out.lo, H.out.lo', hbd, hu, hyb.1, hyb.2, H.out.hyp.next (gr_S HOK.out l) (by simp only [HMK.out]; rfl) hyK, by
              rw [List.nodup_append]
              refine ⟨H.out.nod, by simp, fun x hx z hz => ?_⟩
              rw [List.mem_singleton] at hz
              subst hz
              rintro rfl
              exact HU.out hx⟩
          have HPRE := Lib.hid hpre
          have HKY := Lib.hid (And.intro hlt hky)
          have HIHC := Lib.hid (HIH.out (.slice au3 (U.length + 1) cu3) cv (U ++ [(kn : Int)]) y wr (by rw [List.length_append, List.length_singleton]; have := HR.out; omega) hpre)
          clear hyK hyb hpre hlt hky
          go_wp2_with fail
          refine HIHC.out.mono ?_
          rintro e w5 ⟨uv4, cv4, v4, b4, rfl, hbd4, hu4, hfr4, how4, hor⟩
          have hs5 := hfr4.size
          have hq5 : q < w5.heap.size := hbd4.lt
          obtain ⟨au4, cu4, rfl, hua4⟩ := ElRow.at (f := Value.int .i64) (e := 3) hu4
          have hul : (U ++ [(kn : Int)]).length = U.length + 1 := by simp
          rw [hul] at hbd4 hu4 how4
          have hc4 : U.length + 1 ≤ cu4 ∧ cu4 ≤ 9223372036854775807 := by
            have h5 := hua4.1; have h6 := hua4.2.1; rw [hul] at h5; omega
          obtain ⟨z0, z1, z2, z3, z4, hfz⟩ := Blk.five hbd4
          have g3 := hfz 3
          have hfr5 : Fr (fun b => b = q ∨ (Value.slice au U.length cu).ownBlock = some b) w w5 := H5.out.2.2.2.2.2.1.trans hfr4 (fun b hb => by
            rcases hb with hb | hb
            · exact .inl (.inl hb)
            · exact (H5.out.2.2.2.2.2.2.1 b hb).imp .inr id)
          have how5 : ∀ b, (Value.slice au4 (U.length + 1) cu4).ownBlock = some b → (Value.slice au U.length cu).ownBlock = some b ∨ w.heap.size ≤ b := fun b hb => by
            rcases how4 b hb with h | h
            · exact H5.out.2.2.2.2.2.2.1 b h
            · exact .inr (by omega)
          have H6 := Lib.hid (And.intro hbd4 (And.intro hu4 (And.intro hfr4 (And.intro how4 (And.intro hfr5 how5)))))
          clear hbd4 hu4 hfr4 how4 hfr5 how5 hua4 hul hfz HIHC
          rcases hor with ⟨rfl, hoky, hv4, rfl⟩ | ⟨rfl, hnoky, hcirc⟩
          · have HV4 := Lib.hid (And.intro hoky hv4)
            have hg5 : NumRow w5 (q + 1) u7 (((chS s l kn).take m).map (vsS s l)) := ElRow.frO (f := Value.int .i64) (e := 3) H5.out.2.1 H6.out.2.2.1 (fun b hb h => by
              rcases h with h | h
              · have := (World.ownsRow.lt H5.out.2.1 b hb).1; omega
              · exact H5.out.2.2.2.2.1 b hb h)
            have hgl := (World.ownsRow.lt H5.out.2.1)
            have HG5 := Lib.hid (And.intro hg5 hgl)
            have hml : (((chS s l kn).take m).map (vsS s l)).length = m := got_len HM.out
            have hm15 : m ≤ 15 := by
              have h1 := (T.kys_bd (vsS s l) (s.tkI (kn : Int)) (tkI_fit HOK.out _)).2
              have h2 := (Sh.tk_fit HOK.out (kn : Int).toNat).2
              have h3 : (chS s l kn).length ≤ (s.tkI (kn : Int)).nodes := h1
              have h4 : (s.tkI (kn : Int)).nodes ≤ 15 := h2
              have := HM.out
              omega
            obtain ⟨G, hG⟩ : ∃ G, G = ((chS s l kn).take m).map (vsS s l) := ⟨_, rfl⟩
            have HGE := Lib.hid hG
            have hgow : w5.ownsRow (q + 1) 3 1 u7 m (G.map (.int .i64)) := by
              rw [hG]
              have h := hg5
              unfold NumRow at h
              rwa [hml] at h
            have HGO := Lib.hid hgow
            have hslg : slLen u7 = m := by rw [NumRow.len H5.out.2.1, hml]
            have HSL := Lib.hid hslg
            clear hoky hv4 hg5 hgl hml hslg hG hgow
            go_wp2_with (at_builtin; refine wpList_append_row _ rfl (.tmp 101) (.tmp 103) 26 rfl (q + 1) 3 iN (.int .i64 0) 1 8 Tryz.underlying26 HIN2.out.1 HIN2.out.2.1 HIN2.out.2.2.1 HIN2.out.2.2.2 rfl (by decide) _ m (G.map (.int .i64)) rfl (World.ownsRow.alloc HGO.out _) ⟨w5.heap.size, 0, none⟩ 1 1 [.int .i64 v4] rfl rfl ?f1 ?f2 (by decide) ?f3 ?f4 ?f5 ?_)
            case f1 => exact news1 _ _ _
            case f2 => simp [Value.oneCell']
            case f3 => rw [HML.out]; omega
            case f4 => omega
            case f5 => simp; omega
            intro vg6 w6 hown hgr hnew
            rw [HGE.out] at hown
            have hs6 := hgr.size
            simp only [World.size_alloc] at hs6
            have hgr2 : Fr (fun b => u7.ownBlock = some b) w5 w6 := (show Fr (fun b => u7.ownBlock = some b) w5 _ from Fr.of_below ((Below.refl w5.heap.size w5).alloc (Nat.le_refl _) (.cells #[.int .i64 v4] 3))).trans (fr_grown hgr) (fun b hb => .inl hb)
            have htk1 : (chS s l kn).take (m + 1) = (chS s l kn).take m ++ [y] := take_succ_map HKY.out.2
            have hg6 : NumRow w6 (q + 1) vg6 (((chS s l kn).take (m + 1)).map (vsS s l)) := by
              have hl6 : (((chS s l kn).take (m + 1)).map (vsS s l)).length = m + 1 := got_len (by have := HKY.out.1; omega)
              unfold NumRow
              rw [hl6, htk1, List.map_append, List.map_append]
              simp only [List.map_cons, List.map_nil]
              rw [← HV4.out.2]
              exact hown
            obtain ⟨hbd4, hu4, hfr4, how4, hfr5, how5⟩ := H6.out
            have hgne : ∀ b, u7.ownBlock = some b → b ≠ q := fun b hb => by have := (HG5.out.2 b hb).1; omega
            have hgl5 : ∀ b, u7.ownBlock = some b → b < wr.heap.size := fun b hb => (HG5.out.2 b hb).2
            have hgu : ∀ b, u7.ownBlock = some b → ¬ (Value.slice au4 (U.length + 1) cu4).ownBlock = some b := fun b hb h => by
              rcases how4 b h with h2 | h2
              · exact H5.out.2.2.2.2.1 b hb h2
              · have := hgl5 b hb; omega
            have hbd6 : BdAt w6 q s l (some ⟨b, o, none⟩) c (some ⟨b', o', none⟩) c' ai ci (.slice au4 (U.length + 1) cu4) cv4 := Blk.fr hbd4 hgr2 (fun h => hgne q h rfl)
            have hu6 : NumRow w6 (q + 1) (.slice au4 (U.length + 1) cu4) (U ++ [(kn : Int)]) := ElRow.frO (f := Value.int .i64) (e := 3) hu4 hgr2 (fun b hb h => hgu b h hb)
            have hfr6 : Fr (fun b => b = q ∨ (Value.slice au U.length cu).ownBlock = some b) w w6 := hfr5.trans hgr2 (fun b hb => .inr (H5.out.2.2.2.2.2.2.2 b hb))
            have hne6 : ∀ b, vg6.ownBlock = some b → ¬ (Value.slice au4 (U.length + 1) cu4).ownBlock = some b := fun b hb h => by
              rcases hnew b hb with h2 | h2
              · exact hgu b h2 h
              · have := (World.ownsRow.lt hu4 b h).2; omega
            have hgo6 : ∀ b, vg6.ownBlock = some b → w.heap.size ≤ b := fun b hb => by
              rcases hnew b hb with h2 | h2
              · exact H5.out.2.2.2.2.2.2.2 b h2
              · omega
            have hok6 : ∀ j ∈ (chS s l kn).take (m + 1), okS s l j = true := by
              rw [htk1]
              intro j hj
              rw [List.mem_append, List.mem_singleton] at hj
              rcases hj with hj | rfl
              · exact H5.out.1 j hj
              · exact HV4.out.1
            have hts : AtS w6 S s.t (some ⟨b', o', none⟩) c' := H.out.sh.2.fr hfr6 (fun b hb h => by
              rcases h with h | h
              · have := H.out.lo b hb; omega
              · have := H.out.lo b hb; have := (World.ownsRow.lt H.out.un b h).1; omega)
            obtain ⟨b7, o7, a7, c7, he7, hbl7, hSb7, e0, e1, e2, hat, _, _⟩ := hts.elem (Below.refl _ _) hkt
            injection he7 with he7
            injection he7 with he7 he7'
            subst he7 he7'
            have htk : s.t[kn] = s.tkI (kn : Int) := by unfold Sh.tkI; rw [Int.toNat_natCast]; exact (getD_len hkt).symm
            rw [htk] at hat e0 e1 e2
            have HAT := Lib.hid hat
            obtain ⟨ag6, cg6, hv6, hia6⟩ := NumRow.at hg6 (fun x hx => by
              obtain ⟨j, _, rfl⟩ := List.mem_map.1 hx
              have := vsS_bd HIN.out j
              unfold i64ok; omega)
            have hl6 : (((chS s l kn).take (m + 1)).map (vsS s l)).length = m + 1 := got_len (by have := HKY.out.1; omega)
            rw [hl6] at hv6
            subst hv6
            have HIA := Lib.hid hia6
            obtain ⟨z0, z1, z2, z3, z4, _⟩ := Blk.five hbd6
            have H7 := Lib.hid (And.intro hg6 (And.intro hbd6 (And.intro hu6 (And.intro hfr6 (And.intro hne6 (And.intro hgo6 (And.intro hok6 how5)))))))
            have hq6 : q < w6.heap.size := hbd6.lt
            have hcg6 : m + 1 ≤ cg6 ∧ cg6 ≤ 9223372036854775807 := by have h1 := hia6.1; have h2 := hia6.2.1; rw [hl6] at h1; omega
            clear hown hgr hnew hgr2 htk1 hg6 hbd4 hu4 hfr4 how4 hfr5 how5 hgne hgl5 hgu hbd6 hu6 hfr6 hne6 hgo6 hok6 hts hat htk hia6 hl6 hSb7 g3
            have HLT := Lib.hid (show m + 1 ≤ (chS s l kn).length by have := HKY.out.1; omega)
            go_wp2_with fail
            refine (HNX.out (m + 1) HLT.out w6 S _ a7 ag6 c7 cg6 HAT.out HIA.out).mono ?_
            intro e w7 hp
            obtain ⟨x7, y7, b7, rfl, hrel⟩ := KRel.next (s := s) (l := l) (q := q) (uv := .slice au U.length cu) (kn := kn) (m := m + 1) HLT.out H7.out.2.2.2.2.2.2.1 H7.out.1 H7.out.2.1 hq6 H7.out.2.2.1 H7.out.2.2.2.2.1 H7.out.2.2.2.1 H7.out.2.2.2.2.2.2.2 H7.out.2.2.2.2.2.1 hp
            have HREL := Lib.hid hrel
            clear hp hrel e0 e1 e2 z0 z1 z2 z3 z4
            go_wp2_with fail
            refine ⟨⟨HREL.out, trivial⟩, ?_⟩
            rw [HSL.out]
            simp only [slLen]
            have := HKY.out.1
            have := HKL.out
            omega
          · have HNO := Lib.hid (And.intro hnoky hcirc)
            clear hnoky hcirc
            go_wp2_with fail
            go_region
            go_wp2_with fail
            go_ret2
            obtain ⟨hbd4, hu4, hfr4, how4, hfr5, how5⟩ := H6.out
            have hnx : nxt (chS s l) (okS s l) (kn : Int) = some y := find_at H5.out.1 HKY.out.2 HNO.out.1
            have hnk : okS s l (kn : Int) = false := by
              cases hx : okS s l (kn : Int)
              · rfl
              · have := ((gr_S HOK.out l).down (kn : Int) hx (by simp only [HMK.out]; rfl) y (List.mem_of_getElem? HKY.out.2)).1
                rw [HNO.out.1] at this; cases this
            refine (KRel.cut rfl hbd4 hu4 hfr5 hql how5 (.inr ⟨rfl, hnk, ?_⟩)).drew
            rw [circ_next hUl HU.out hnx]
            exact ownsRow_low HNO.out.2 (by omega)
end
end Go.Proofs.YtjakhiafkjaghaaGreat
