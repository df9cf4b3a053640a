/- spec.l7Hangs, spec.l7Dirty, spec.DirtyKeys -/
import Derived.Test.YthjfmpeicjmlkaaDkJ
import Derived.Test.YthjfmpeicjmlkaaStOkS
namespace Go.Proofs.Ythjfmpeicjmlkaa
open Go.RowKit

theorem tuB_far {s : Sh} {o y : List Int} {k : Nat} (h : s.m.length ≤ k) : tuB s o y (k : Int) = false := by
  unfold tuB
  rw [decide_eq_false (show ¬ (k : Int) < s.m.length by omega)]
  simp

set_option maxRecDepth 100000 in
set_option maxHeartbeats 4000000 in
theorem l7Hangs_any (s : Sh) (k : Nat) (o y : List Int) (w : World) (S0 S1 S2 : Nat → Prop) (a : Option Addr) (c : Nat) (a' : Option Addr) (c' : Nat) (a3 : Option Addr) (c3 : Nat) (a5 : Option Addr) (c5 : Nat) (h : ShAt w S0 s a c a' c') (hn : nodesL s.t ≤ 1048576) (hok : s.ok = true) (hk : k < s.m.length) (ho : IntsAt w S1 o a3 c3) (hy : IntsAt w S2 y a5 c5) (hol : o.length = s.m.length) (hyl : y.length = s.m.length) :
    Calls Try.prog 71 #[.agg #[.slice a s.m.length c, .slice a' s.t.length c'], .int .i64 k, .slice a3 o.length c3, .slice a5 y.length c5] w fun e w' => e = .returned (.bool (hgB s (tuB s o y) k)) ∧ Below w.heap.size w w' := by
  have hm10 : s.m.length ≤ 10 := (Sh.ok_iff.1 hok).1
  have htl := (Sh.ok_iff.1 hok).2.1
  have K0 := Lib.hid (Ks.start (ty := 51) h)
  have HO0 := Lib.hid (ho.alloc (.cells #[.slice a s.m.length c, .slice a' s.t.length c'] 51))
  have HY0 := Lib.hid (hy.alloc (.cells #[.slice a s.m.length c, .slice a' s.t.length c'] 51))
  have hkt : k < s.t.length := by omega
  obtain ⟨b', o', a2, c2, ha', hbl, _, e0, e1, e2, hat, _, _⟩ := K0.out.2.2.elem (Below.refl _ _) hkt
  have htk : s.t[k] = s.tk k := (getD_len hkt).symm
  rw [htk] at e0 e1 e2 hat
  have HA := Lib.hid ha'
  have HAT := Lib.hid hat
  have hnk : nodesL (s.tk k).ps ≤ 1048576 := by have := T.nodes_le hkt; rw [htk] at this; have := (s.tk k).nodes_eq; omega
  have hmo : mayO (s.tk k) = mayI (s.tk k) 10 := by unfold mayO; rw [if_pos (s.tk_ok hok k)]
  have HNK := Lib.hid (And.intro hnk hmo)
  have HLL := Lib.hid (And.intro hol hyl)
  have HP := Lib.hid (show hgB s (tuB s o y) k = (mayI (s.tk k) 10).any (tuB s o y) from rfl)
  obtain ⟨r, hr⟩ : ∃ r, r = hgB s (tuB s o y) k := ⟨_, rfl⟩
  rw [← hr] at HP ⊢
  clear h hn hok htl hat htk hnk hmo ha' ho hy hol hyl hr hk
  obtain rfl := HA.out
  obtain ⟨x0, x1⟩ := K0.out.box
  go_enter Try.func71, Try.ntmps71
  go_wp2_with fail
  refine (specMay_any (s.tk k) _ S0 a2 c2 HAT.out HNK.out.1).mono ?_
  rintro e w1 ⟨hb, v, rfl, hr⟩
  rw [HNK.out.2] at hr
  obtain ⟨L, hL⟩ : ∃ L, L = mayI (s.tk k) 10 := ⟨_, rfl⟩
  have hLb : ∀ x ∈ L, 0 ≤ x ∧ x < 10 := by rw [hL]; exact fun x hx => by have := mayI_mem.1 hx; omega
  have hLl : L.length ≤ 10 := by rw [hL]; exact mayI_len _ _
  rw [← hL] at hr HP
  obtain ⟨a4, c4, rfl, hia⟩ := hr.at (fun x hx => by have := hLb x hx; unfold i64ok; omega)
  have K1 := Lib.hid (K0.out.step hb)
  have HO1 := Lib.hid (HO0.out.below hb)
  have HY1 := Lib.hid (HY0.out.below hb)
  have HI1 := Lib.hid hia
  have HLB := Lib.hid hLb
  clear hb hr hia hL hLb e0 e1 e2 x0 x1 K0 HO0 HY0
  obtain ⟨W1, hW1⟩ : ∃ W, W = w1 := ⟨_, rfl⟩
  subst hW1
  go_wp2_with fail
  go_loopw [10] (fun i wr => ∃ q : Nat, q ≤ L.length ∧ i = .int .i64 q ∧ (L.take q).any (tuB s o y) = false ∧ Below W1.heap.size W1 wr) (fun i _ => L.length - (intOf i).toNat)
  case atStart => exact ⟨0, by omega, rfl, by simp, Below.refl _ _⟩
  case round =>
    obtain ⟨q, hq, rfl, hqa, hb⟩ := hrel
    have HQ := Lib.hid hqa
    have HB := Lib.hid hb
    have K2 := Lib.hid (K1.out.step hb)
    clear hqa
    obtain ⟨x0, x1⟩ := K2.out.box
    by_cases hlt : q < L.length
    · obtain ⟨bi, oi, hai, hbi, _, hx⟩ := HI1.out.get hb hlt
      have hxb := HLB.out L[q] (List.getElem_mem _)
      have HE := Lib.hid (List.getElem_mem hlt)
      obtain ⟨xn, hxn⟩ : ∃ xn : Nat, L[q] = (xn : Int) := ⟨L[q].toNat, by omega⟩
      have HSN := Lib.hid (any_snoc (tuB s o y) L q hlt)
      rw [hxn] at hx HSN HE
      have HAI := Lib.hid hai
      clear hxb hxn hai
      obtain rfl := HAI.out
      by_cases hxm : xn < s.m.length
      · obtain ⟨bm, om, ham, hbm, hc⟩ := md_cell K2.out.2 hxm
        obtain ⟨bo, oo, hao, hbo, co⟩ := ints_cell (HO1.out.below hb) (show xn < o.length by have := HLL.out; omega)
        obtain ⟨by_, oy, hay, hby, cy⟩ := ints_cell (HY1.out.below hb) (show xn < y.length by have := HLL.out; omega)
        have HTM := Lib.hid (@tuB_made s o y xn)
        have HTI := Lib.hid (@tuB_in s o y xn hxm)
        obtain ⟨mv, hmv⟩ : ∃ v, v = s.md xn := ⟨_, rfl⟩
        rw [mdI_nat, ← hmv] at hc
        have HMV := Lib.hid hmv
        obtain ⟨yk, hyk⟩ : ∃ v, v = y.getD xn 0 := ⟨_, rfl⟩
        rw [← hyk] at cy HTI
        obtain ⟨ik, hik⟩ : ∃ v, v = o.getD xn 0 := ⟨_, rfl⟩
        rw [← hik] at co HTI
        have d1 : decide ((xn : Int) < ((s.m.length : Nat) : Int)) = true := decide_eq_true (by omega)
        have d2 : decide (xn < s.m.length) = true := decide_eq_true hxm
        have hki : (xn : Int) < o.length := by have := HLL.out; omega
        have hky : (xn : Int) < y.length := by have := HLL.out; omega
        have hkm : (xn : Int) < s.m.length := by omega
        have hk0 : (0 : Int) ≤ (xn : Int) := by omega
        have HAM := Lib.hid ham
        have HAO := Lib.hid hao
        have HAY := Lib.hid hay
        clear ham hao hay hmv hyk hik hb
        obtain rfl := HAM.out
        obtain rfl := HAO.out
        obtain rfl := HAY.out
        cases mv
        · by_cases hyi : yk = ik
          · have hne : (ik != yk) = false := by simpa using hyi.symm
            have HS2 := Lib.hid (show (L.take (q + 1)).any (tuB s o y) = false by rw [HSN.out, HQ.out, HTI.out HMV.out.symm, decide_eq_false (by simpa using hyi)]; rfl)
            clear hyi
            go_wp2_with fail
            go_quiet (fail)
            go_wp2_with fail
            exact ⟨⟨q + 1, by omega, by go_num, HS2.out, below_drewN HB.out _⟩, by simp [intOf]; omega⟩
          · have hne : (ik != yk) = true := by simpa using fun h => hyi h.symm
            have HS2 := Lib.hid (show r = true by rw [HP.out, List.any_eq_true]; exact ⟨_, HE.out, by rw [HTI.out HMV.out.symm]; exact decide_eq_true hyi⟩)
            clear hyi
            go_wp2_with fail
            go_quiet (fail)
            go_wp2_with fail
            go_ret
            exact ⟨ret_bool HS2.out.symm, K2.out.done.trans (below_drewN ((Below.refl wr.heap.size wr).mono K2.out.done.size) _)⟩
        · have HS2 := Lib.hid (show (L.take (q + 1)).any (tuB s o y) = false by rw [HSN.out, HQ.out, HTM.out HMV.out.symm]; rfl)
          go_wp2_with fail
          go_quiet (fail)
          go_wp2_with fail
          exact ⟨⟨q + 1, by omega, by go_num, HS2.out, below_drewN HB.out _⟩, by simp [intOf]; omega⟩
      · have d1 : decide ((xn : Int) < ((s.m.length : Nat) : Int)) = false := decide_eq_false (by omega)
        have d2 : decide (xn < s.m.length) = false := decide_eq_false hxm
        have HS2 := Lib.hid (show (L.take (q + 1)).any (tuB s o y) = false by rw [HSN.out, HQ.out, tuB_far (by omega)]; rfl)
        clear hb
        go_wp2_with fail
        go_quiet (fail)
        go_wp2_with fail
        exact ⟨⟨q + 1, by omega, by go_num, HS2.out, below_drewN HB.out _⟩, by simp [intOf]; omega⟩
    · have HF := Lib.hid (show r = false by have := HQ.out; rw [List.take_of_length_le (by omega)] at this; rw [HP.out, this])
      clear hb
      go_wp2_with fail
      go_ret
      exact ⟨ret_bool HF.out.symm, K2.out.done⟩

theorem one_at (w : World) (k : Nat) (hk : k < 10) : IntsAt (w.alloc (.cells #[.int .i64 (k : Int)] 3)) (fun b => b = w.heap.size) [(k : Int)] (some ⟨w.heap.size, 0, none⟩) 1 := by
  refine ⟨by simp, by omega, fun v hv => ?_, .inr ⟨w.heap.size, 0, rfl, rfl, fun i hi => ?_⟩⟩
  · rw [List.mem_singleton] at hv; subst hv; unfold i64ok; omega
  · have hi0 : i = 0 := by simpa using hi
    subst hi0
    simp
/-- Whether one of the first keys that are below may fetch such a one. -/
def dyB (s : Sh) (p : Int → Bool) (D : Nat → Bool) (q : Nat) : Bool := (List.range q).any fun m => D m && hgB s p m
theorem dyB_succ (s : Sh) (p : Int → Bool) (D : Nat → Bool) (q : Nat) : dyB s p D (q + 1) = (dyB s p D q || (D q && hgB s p q)) := by unfold dyB; rw [List.range_succ, List.any_append]; simp
theorem dyB_all {s : Sh} (hok : s.ok = true) (p : Int → Bool) (k : Nat) (hm : s.md k = true) (D : Nat → Bool) (hD : ∀ j : Nat, j < s.m.length → (D j = true ↔ Rch s.mdI (chL s) [(k : Int)] (j : Int))) : dyB s p D s.m.length = leadB s p k := by
  have h := below_iff hok p k hm
  cases hl : leadB s p k
  · cases hd : dyB s p D s.m.length
    · rfl
    · unfold dyB at hd
      rw [List.any_eq_true] at hd
      obtain ⟨m, hm1, hm2⟩ := hd
      rw [Bool.and_eq_true] at hm2
      have hml := List.mem_range.1 hm1
      rw [h.1 ⟨m, hml, (hD m hml).1 hm2.1, hm2.2⟩] at hl
      cases hl
  · obtain ⟨m, hml, h1, h2⟩ := h.2 hl
    unfold dyB
    rw [List.any_eq_true]
    exact ⟨m, List.mem_range.2 hml, by rw [(hD m hml).2 h1, h2]; rfl⟩

def DlPost (s : Sh) (x : St) (y : List Int) (w : World) (e : Ending) (w' : World) : Prop := ∃ v, e = .returned v ∧ NumRow w' w.heap.size v (dkL s x y s.m.length) ∧ Below w.heap.size w w'

set_option maxRecDepth 100000 in
set_option maxHeartbeats 4000000 in
theorem l7Dirty_any (s : Sh) (x : St) (y : List Int) (w : World) (S0 S10 S20 : Nat → Prop) (a : Option Addr) (c : Nat) (a' : Option Addr) (c' : Nat) (a1 : Option Addr) (c1 : Nat) (a2 : Option Addr) (c2 : Nat) (a3 : Option Addr) (c3 : Nat) (a4 : Option Addr) (c4 : Nat) (a5 : Option Addr) (c5 : Nat) (h : ShAt w S0 s a c a' c') (hx : StAt w S10 x a1 c1 a2 c2 a3 c3 a4 c4) (hy : IntsAt w S20 y a5 c5) (hn : nodesL s.t ≤ 1048576) (hok : s.ok = true) (hf : x.fitN s.m.length) (hyl : y.length = s.m.length) (hbm : ∀ k, x.b.getD k false = true → s.md k = true) :
    Calls Try.prog 47 #[.agg #[.slice a s.m.length c, .slice a' s.t.length c'], .agg #[.slice a1 x.v.length c1, .slice a2 x.b.length c2, .slice a3 x.i.length c3, .slice a4 x.t.length c4], .slice a5 y.length c5] w (DlPost s x y w) := by
  have D0 := Lib.hid (DkI.start h hx hy)
  obtain ⟨W, hW⟩ : ∃ W, W = ((w.alloc (.cells #[.slice a s.m.length c, .slice a' s.t.length c'] 51)).alloc (.cells #[.slice a1 x.v.length c1, .slice a2 x.b.length c2, .slice a3 x.i.length c3, .slice a4 x.t.length c4] 54)) := ⟨_, rfl⟩
  have HWW := Lib.hid hW
  rw [← hW] at D0
  obtain ⟨p0, p1, -⟩ := D0.out.p.two
  obtain ⟨q0, q1, q2, q3, -⟩ := D0.out.q.four
  rw [hW] at p0 p1 q0 q1 q2 q3
  obtain ⟨P, hP⟩ : ∃ P, P = DlPost s x y w := ⟨_, rfl⟩
  have HPP := Lib.hid hP
  rw [← hP]
  obtain ⟨iN, ni, nz0, nz1, nz2⟩ := info_parts infoInt
  have HIN := Lib.hid (And.intro ni (And.intro nz0 (And.intro nz1 nz2)))
  have hml : maxLen = 9223372036854775807 := rfl
  have HML := Lib.hid hml
  have HO := Lib.hid hok
  have HNN := Lib.hid hn
  have HBM := Lib.hid hbm
  have hm10 : s.m.length ≤ 10 := (Sh.ok_iff.1 hok).1
  have HL := Lib.hid (And.intro hf.1.2 (And.intro hf.2 hyl))
  obtain ⟨n, hnn⟩ : ∃ n, n = s.m.length := ⟨_, rfl⟩
  have HN := Lib.hid hnn
  have hn10 : n ≤ 10 := by omega
  obtain ⟨nb, hnb⟩ : ∃ n, n = x.b.length := ⟨_, rfl⟩
  have HNB := Lib.hid hnb
  clear h hx hy hW hP ni nz0 nz1 nz2 hml hn hok hf hyl hm10 hnn hnb hbm
  go_enter Try.func47, Try.ntmps47
  go_wp2_with fail
  rw [← HWW.out]
  clear p0 p1 q0 q1 q2 q3
  obtain ⟨W2, hW2⟩ : ∃ W2, W2 = W := ⟨_, rfl⟩
  subst hW2
  have hws : W2.heap.size = w.heap.size + 1 + 1 := by rw [HWW.out]; simp
  have hrn : NumRow (W2.alloc (.cells #[] 3)) w.heap.size (.slice (some ⟨w.heap.size + 1 + 1, 0, none⟩) 0 0) [] := by rw [← hws]; exact ownsRow_low (rowN_new W2) D0.out.bl.size
  have HWS := Lib.hid hws
  have HR0 := Lib.hid hrn
  have hsz2 := D0.out.sz
  clear hrn hws
  go_loopw [7, 8] (fun v i wi => ∃ k : Nat, k ≤ n ∧ i = .int .i64 k ∧ NumRow wi w.heap.size v (dkL s x y k) ∧ Below W2.heap.size W2 wi ∧ (∀ b, v.ownBlock = some b → W2.heap.size ≤ b)) (fun _ i _ => n - (intOf i).toNat)
  case atStart => exact ⟨0, by omega, rfl, HR0.out, (Below.refl _ _).alloc (Nat.le_refl _) _, fun b hb => by simp [Value.ownBlock] at hb; have := HWS.out; omega⟩
  case round =>
    obtain ⟨k, hk, rfl, hr, hb, hne⟩ := hrel
    have HR := Lib.hid hr
    have HB := Lib.hid hb
    have HNE := Lib.hid hne
    have D1 := Lib.hid (D0.out.below hb)
    have hszw := hb.size
    clear hr hb hne
    obtain ⟨p0, p1, -⟩ := D1.out.p.two
    rw [← HN.out] at p0
    by_cases hlt : k < n
    · have hks : k < s.m.length := by have := HN.out; omega
      obtain ⟨bb, ob, hab, hbb, cb⟩ := bools_cell D1.out.st.2.1 (show k < x.b.length by have := HL.out; omega)
      obtain ⟨q0, q1, q2, q3, -⟩ := D1.out.q.four
      rw [← HNB.out] at q1
      have hkb : (k : Int) < nb := by have := HL.out; have := HNB.out; have := HN.out; omega
      have hk0 : (0 : Int) ≤ (k : Int) := by omega
      have HAB := Lib.hid hab
      have HSU := Lib.hid (show dkL s x y (k + 1) = dkL s x y k ++ (if dkB s x y k = true then [(k : Int)] else []) from fl_succ _ k)
      have HDK := Lib.hid (show dkB s x y k = (x.b.getD k false && leadB s (tuB s x.i y) k) from rfl)
      have HMK := Lib.hid (HBM.out k)
      obtain ⟨bv, hbv⟩ : ∃ v, v = x.b.getD k false := ⟨_, rfl⟩
      rw [← hbv] at cb HDK HMK
      have HKS := Lib.hid hks
      clear hab hbv hks
      obtain rfl := HAB.out
      cases bv
      · have HS2 := Lib.hid (show dkL s x y (k + 1) = dkL s x y k by rw [HSU.out, HDK.out]; simp)
        go_wp2_with fail
        go_roundw
        case rel => exact ⟨k + 1, by omega, by go_num, by rw [HS2.out]; exact HR.out, HB.out, HNE.out⟩
        case measure => simp [intOf]; omega
      · have HDK2 := Lib.hid (show dkB s x y k = leadB s (tuB s x.i y) k by rw [HDK.out]; rfl)
        have HMD := Lib.hid (HMK.out rfl)
        have HONE := Lib.hid (one_at wr k (by omega))
        have D2 := Lib.hid (D1.out.below ((Below.refl wr.heap.size wr).alloc (Nat.le_refl _) (.cells #[.int .i64 (k : Int)] 3)))
        have HR2 := Lib.hid (ElRow.alloc (f := Value.int .i64) (e := 3) HR.out (.cells #[.int .i64 (k : Int)] 3))
        have HB2 := Lib.hid (HB.out.alloc hszw (.cells #[.int .i64 (k : Int)] 3))
        have HBL := Lib.hid (l4Below_any s [(k : Int)] _ S0 _ a c a' c' (some ⟨wr.heap.size, 0, none⟩) 1 D2.out.sh HNN.out HO.out HONE.out (by unfold hkB; simp; have := HKS.out; omega) (by simp))
        rw [← HN.out] at HBL
        clear HDK HMK HONE
        go_wp2_with fail
        refine HBL.out.mono ?_
        rintro e w3 ⟨g, D, rfl, htr, hgl, hD, hb⟩
        have HD := Lib.hid hD
        have HDY := Lib.hid (dyB_all HO.out (tuB s x.i y) k HMD.out D hD)
        have HT3 := Lib.hid htr
        have D3 := Lib.hid (D2.out.below hb)
        have HR3 := Lib.hid (ElRow.below (f := Value.int .i64) (e := 3) HR2.out hb)
        have HB3 := Lib.hid (HB2.out.trans (hb.mono HB2.out.size))
        have hsz3 := HB3.out.size
        clear htr hgl hD hb D2 HR2 HB2 HBL p0 p1 q0 q1 q2 q3 cb
        obtain ⟨W3, hW3⟩ : ∃ W, W = w3 := ⟨_, rfl⟩
        subst hW3
        have hmlen : s.m.length ≤ 10 := by have := HN.out; omega
        go_wp2_with fail
        go_loopw [10, 11] (fun dv i wi => ∃ q : Nat, q ≤ s.m.length ∧ i = .int .i64 q ∧ dv = .bool (dyB s (tuB s x.i y) D q) ∧ Below W3.heap.size W3 wi) (fun _ i _ => s.m.length - (intOf i).toNat)
        case atStart => exact ⟨0, by omega, rfl, rfl, Below.refl _ _⟩
        case round =>
          obtain ⟨q, hq, rfl, rfl, hb⟩ := hrel
          have HB4 := Lib.hid hb
          have D4 := Lib.hid (D3.out.below hb)
          have HT4 := Lib.hid (HT3.out.below hb)
          have hsz4 := hb.size
          clear hb
          by_cases hlq : q < s.m.length
          · obtain ⟨hcd, hfd⟩ := HT4.out.cell hlq
            have HSD := Lib.hid (dyB_succ s (tuB s x.i y) D q)
            obtain ⟨p0, p1, -⟩ := D4.out.p.two
            obtain ⟨q0, q1, q2, q3, -⟩ := D4.out.q.four
            obtain ⟨dq, hdq⟩ : ∃ v, v = D q := ⟨_, rfl⟩
            rw [← hdq] at hcd HSD
            obtain ⟨dy, hdy⟩ : ∃ v, v = dyB s (tuB s x.i y) D q := ⟨_, rfl⟩
            rw [← hdy] at HSD ⊢
            clear hdq hdy hfd
            cases dq
            · have HS3 := Lib.hid (show dyB s (tuB s x.i y) D (q + 1) = dy by rw [HSD.out]; simp)
              go_wp2_with fail
              go_roundw
              case rel => exact ⟨q + 1, by omega, by go_num, by rw [HS3.out], HB4.out⟩
              case measure => simp [intOf]; omega
            · have HHG := Lib.hid (l7Hangs_any s q x.i y wr S0 S10 S20 a c a' c' a3 c3 a5 c5 D4.out.sh HNN.out HO.out (by have := HN.out; omega) D4.out.st.2.2.1 D4.out.yy HL.out.2.1 HL.out.2.2)
              obtain ⟨hg, hhg⟩ : ∃ v, v = hgB s (tuB s x.i y) q := ⟨_, rfl⟩
              rw [← hhg] at HHG HSD
              clear hhg
              go_wp2_with fail
              refine HHG.out.mono ?_
              rintro e w5 ⟨rfl, hb⟩
              have HB5 := Lib.hid (HB4.out.trans (hb.mono hsz4))
              clear hb HHG p0 p1 q0 q1 q2 q3 hcd
              cases hg
              · have HS3 := Lib.hid (show dyB s (tuB s x.i y) D (q + 1) = dy by rw [HSD.out]; simp)
                go_wp2_with fail
                go_roundw
                case rel => exact ⟨q + 1, by omega, by go_num, by rw [HS3.out], HB5.out⟩
                case measure => simp [intOf]; omega
              · have HS3 := Lib.hid (show dyB s (tuB s x.i y) D (q + 1) = true by rw [HSD.out]; simp)
                go_wp2_with fail
                go_roundw
                case rel => exact ⟨q + 1, by omega, by go_num, by rw [HS3.out], HB5.out⟩
                case measure => simp [intOf]; omega
          · obtain rfl : q = s.m.length := by omega
            rw [HDY.out]
            have HR5 := Lib.hid (ElRow.below (f := Value.int .i64) (e := 3) HR3.out HB4.out)
            have HB5 := Lib.hid (HB3.out.trans (HB4.out.mono HB3.out.size))
            have hal : (dkL s x y k).length ≤ k := fl_len _ k
            obtain ⟨acc, hacc⟩ : ∃ acc, acc = dkL s x y k := ⟨_, rfl⟩
            obtain ⟨lb, hlb⟩ : ∃ v, v = leadB s (tuB s x.i y) k := ⟨_, rfl⟩
            rw [← hlb] at HDK2 ⊢
            rw [← hacc] at HR5 HSU hal
            clear hlb hacc HDY
            cases lb
            · have HS2 := Lib.hid (show dkL s x y (k + 1) = acc by rw [HSU.out, HDK2.out]; simp)
              go_wp2_with fail
              go_roundw
              case rel => exact ⟨k + 1, by omega, by go_num, by rw [HS2.out]; exact HR5.out, HB5.out, HNE.out⟩
              case measure => simp [intOf]; omega
            · have HS2 := Lib.hid (show dkL s x y (k + 1) = acc ++ [(k : Int)] by rw [HSU.out, HDK2.out]; simp)
              have hlo : w.heap.size + 1 + 1 ≤ wr.heap.size := by have := HB5.out.size; omega
              go_wp2_with (at_builtin; refine wpList_append_row _ rfl (.tmp 49) (.tmp 51) 23 rfl w.heap.size 3 iN (.int .i64 0) 1 8 Try.underlying23 HIN.out.1 HIN.out.2.1 HIN.out.2.2.1 HIN.out.2.2.2 rfl (by decide) _ acc.length (acc.map (Value.int .i64)) rfl (World.ownsRow.alloc HR5.out _) ⟨wr.heap.size, 0, none⟩ 1 1 [.int .i64 k] rfl rfl ?d1 ?d2 (by decide) ?d3 ?d4 ?d5 ?_)
              case d1 => exact news1 _ _ _
              case d2 => simp [Value.oneCell']
              case d3 => rw [HML.out]; omega
              case d4 => omega
              case d5 => first | omega | (simp; omega)
              intro v2 w6 hown hgr hnew
              have hN2 : NumRow w6 w.heap.size v2 (acc ++ [(k : Int)]) := by
                unfold NumRow
                rw [List.map_append, show (acc ++ [(k : Int)]).length = acc.length + 1 by simp]
                exact hown
              have hB2 : Below W2.heap.size W2 w6 := (HB5.out.alloc HB5.out.size _).trans (below_grown hgr (by have := HB5.out.size; simp; omega) HNE.out)
              have hG2 : ∀ b, v2.ownBlock = some b → W2.heap.size ≤ b := fun b hb => by
                have := HB5.out.size
                rcases hnew b hb with h | h
                · exact HNE.out b h
                · omega
              have H2 := Lib.hid (And.intro hN2 (And.intro hB2 hG2))
              clear hown hgr hnew hN2 hB2 hG2
              go_wp2_with fail
              go_roundw
              case rel => exact ⟨k + 1, by omega, by go_num, by rw [HS2.out]; exact H2.out.1, H2.out.2.1, H2.out.2.2⟩
              case measure => simp [intOf]; omega
    · obtain rfl : k = n := by omega
      go_wp2_with fail
      rw [HPP.out]
      exact ⟨_, rfl, by rw [← HN.out]; exact HR.out, D1.out.bl⟩

theorem stOk_built {s : Sh} {x : St} (h : stOk s x = true) (k : Nat) (hk : x.b.getD k false = true) : s.md k = true := by
  have hf := (stOk_of h).2
  unfold stOk at h
  rw [Bool.and_eq_true, Bool.and_eq_true, Bool.and_eq_true] at h
  have h3 := List.all_eq_true.1 h.2.2.1
  by_cases hkl : k < s.m.length
  · have h4 := h3 k (List.mem_range.2 hkl)
    unfold keepK at h4
    split at h4
    · assumption
    · rw [hk] at h4; simp at h4
  · have : x.b.getD k false = false := by rw [List.getD_eq_getElem?_getD, List.getElem?_eq_none (by have := hf.1.2; omega)]; rfl
    rw [this] at hk; cases hk

set_option maxRecDepth 100000 in
set_option maxHeartbeats 4000000 in
theorem specDirty_any (s : Sh) (x : St) (y : List Int) (w : World) (S0 S10 S20 : Nat → Prop) (a : Option Addr) (c : Nat) (a' : Option Addr) (c' : Nat) (a1 : Option Addr) (c1 : Nat) (a2 : Option Addr) (c2 : Nat) (a3 : Option Addr) (c3 : Nat) (a4 : Option Addr) (c4 : Nat) (a5 : Option Addr) (c5 : Nat) (h : ShAt w S0 s a c a' c') (hx : StAt w S10 x a1 c1 a2 c2 a3 c3 a4 c4) (hy : IntsAt w S20 y a5 c5) (hn : nodesL s.t ≤ 1048576) :
    Calls Try.prog 19 #[.agg #[.slice a s.m.length c, .slice a' s.t.length c'], .agg #[.slice a1 x.v.length c1, .slice a2 x.b.length c2, .slice a3 x.i.length c3, .slice a4 x.t.length c4], .slice a5 y.length c5] w (DkPost s x y w) := by
  have D0 := Lib.hid (DkI.start h hx hy)
  obtain ⟨W, hW⟩ : ∃ W, W = ((w.alloc (.cells #[.slice a s.m.length c, .slice a' s.t.length c'] 51)).alloc (.cells #[.slice a1 x.v.length c1, .slice a2 x.b.length c2, .slice a3 x.i.length c3, .slice a4 x.t.length c4] 54)) := ⟨_, rfl⟩
  have HWW := Lib.hid hW
  rw [← hW] at D0
  obtain ⟨p0, p1, -⟩ := D0.out.p.two
  obtain ⟨q0, q1, q2, q3, -⟩ := D0.out.q.four
  rw [hW] at p0 p1 q0 q1 q2 q3
  obtain ⟨P, hP⟩ : ∃ P, P = DkPost s x y w := ⟨_, rfl⟩
  have HPP := Lib.hid hP
  rw [← hP]
  have HNN := Lib.hid hn
  have HNIL := Lib.hid (show ∀ w2, dkO s x y = [] → Below w.heap.size w w2 → P (.returned (.slice (some ⟨w2.heap.size, 0, none⟩) 0 0)) (w2.alloc (.cells #[] 3)) from fun w2 h1 h2 => by rw [hP]; exact ⟨_, rfl, by rw [h1]; exact ownsRow_low (rowN_new w2) h2.size, h2.alloc h2.size _⟩)
  clear h hx hy hW hP hn
  go_enter Try.func19, Try.ntmps19
  go_wp2_with fail
  rw [← HWW.out]
  clear p0 p1 q0 q1 q2 q3
  refine (specStateOk_any s x W S0 S10 a c a' c' a1 c1 a2 c2 a3 c3 a4 c4 D0.out.sh D0.out.st HNN.out).mono ?_
  rintro e w1 ⟨rfl, hb⟩
  have D1 := Lib.hid (D0.out.below hb)
  clear hb D0
  obtain ⟨p0, p1, -⟩ := D1.out.p.two
  cases hso : stOk s x
  · have HF := Lib.hid (show dkO s x y = [] by unfold dkO; rw [hso]; rfl)
    clear hso
    go_wp2_with fail
    exact HNIL.out _ HF.out D1.out.bl
  have HSO := Lib.hid hso
  clear hso
  go_wp2_with fail
  refine (specInputs_any s y w1 S0 S20 a c a' c' a5 c5 D1.out.sh HNN.out D1.out.yy).mono ?_
  rintro e w2 ⟨rfl, hb⟩
  have D2 := Lib.hid (D1.out.below hb)
  clear hb D1 p0 p1
  cases hio : inOk s y
  · have HF := Lib.hid (show dkO s x y = [] by unfold dkO; rw [hio, Bool.and_false]; rfl)
    clear hio
    go_wp2_with fail
    exact HNIL.out _ HF.out D2.out.bl
  have HIO := Lib.hid hio
  clear hio HNIL
  obtain ⟨p0, p1, -⟩ := D2.out.p.two
  obtain ⟨q0, q1, q2, q3, -⟩ := D2.out.q.four
  have HLD := Lib.hid (l7Dirty_any s x y w2 S0 S10 S20 a c a' c' a1 c1 a2 c2 a3 c3 a4 c4 a5 c5 D2.out.sh D2.out.st D2.out.yy HNN.out (stOk_of HSO.out).1 (stOk_of HSO.out).2 (inOk_of HIO.out).2.1 (stOk_built HSO.out))
  go_wp2_with fail
  refine HLD.out.mono ?_
  rintro e w3 ⟨v, rfl, hr, hb⟩
  have HR := Lib.hid hr
  have HB := Lib.hid hb
  clear hr hb HLD
  go_wp2_with fail
  rw [HPP.out]
  exact ⟨_, rfl, by rw [dk_yes HSO.out HIO.out]; exact ownsRow_low HR.out D2.out.bl.size, D2.out.bl.trans (HB.out.mono D2.out.bl.size)⟩
end Go.Proofs.Ythjfmpeicjmlkaa
