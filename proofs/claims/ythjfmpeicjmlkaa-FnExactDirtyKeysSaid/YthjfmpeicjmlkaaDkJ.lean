/- what stands while not-built keys are looked for; impl.DirtyKeys -/
import Derived.Test.YthjfmpeicjmlkaaDkI
import Derived.Test.YthjfmpeicjmlkaaStOkI
namespace Go.Proofs.Ythjfmpeicjmlkaa
open Go.RowKit

theorem tuP (s : Sh) (o y : List Int) : (fun j => decide (j ∈ tuL s o y s.m.length)) = tuB s o y := by
  funext j
  cases h : tuB s o y j
  · exact decide_eq_false (fun hm => by rw [tuL_mem.1 hm] at h; cases h)
  · exact decide_eq_true (tuL_mem.2 h)
theorem tuB_made {s : Sh} {o y : List Int} {k : Nat} (h : s.md k = true) : tuB s o y (k : Int) = false := by
  unfold tuB
  rw [Int.toNat_natCast, h]
  simp
theorem tuB_in {s : Sh} {o y : List Int} {k : Nat} (hk : k < s.m.length) (h : s.md k = false) : tuB s o y (k : Int) = decide (y.getD k 0 ≠ o.getD k 0) := by
  unfold tuB
  rw [Int.toNat_natCast, h, decide_eq_true (show (0 : Int) ≤ (k : Int) by omega), decide_eq_true (show (k : Int) < s.m.length by omega)]
  rfl
theorem dkL_cut {s : Sh} (hok : s.ok = true) (x : St) (y : List Int) : dkL s x y 10 = dkL s x y s.m.length := by
  have h10 := (Sh.ok_iff.1 hok).1
  unfold dkL
  rw [show 10 = s.m.length + (10 - s.m.length) by omega, fl_cut _ _ _ (fun k hk => by unfold dkB; rw [leadB_out hok _ k hk, Bool.and_false])]
theorem dk_yes {s : Sh} {x : St} {y : List Int} (h1 : stOk s x = true) (h2 : inOk s y = true) : dkO s x y = dkL s x y s.m.length := by unfold dkO; rw [h1, h2]; rfl
theorem stOk_of {s : Sh} {x : St} (h : stOk s x = true) : s.ok = true ∧ x.fitN s.m.length := by
  unfold stOk at h
  rw [Bool.and_eq_true, Bool.and_eq_true] at h
  have h1 := stA_of h.1
  have h2 := h.2.1
  unfold stL at h2
  rw [Bool.and_eq_true, decide_eq_true_eq, decide_eq_true_eq] at h2
  exact ⟨h1.1, ⟨h2, h1.2.1⟩⟩

/-- What stands: the sheet, the state, the inputs; their boxes. -/
structure DkI (s : Sh) (x : St) (y : List Int) (S S1 S2 : Nat → Prop) (a : Option Addr) (c : Nat) (a' : Option Addr) (c' : Nat) (a1 : Option Addr) (c1 : Nat) (a2 : Option Addr) (c2 : Nat) (a3 : Option Addr) (c3 : Nat) (a4 : Option Addr) (c4 : Nat) (a5 : Option Addr) (c5 : Nat) (w wr : World) : Prop where
  sh : ShAt wr S s a c a' c'
  st : StAt wr S1 x a1 c1 a2 c2 a3 c3 a4 c4
  yy : IntsAt wr S2 y a5 c5
  p : Blk wr w.heap.size 51 #[.slice a s.m.length c, .slice a' s.t.length c']
  q : Blk wr (w.heap.size + 1) 54 #[.slice a1 x.v.length c1, .slice a2 x.b.length c2, .slice a3 x.i.length c3, .slice a4 x.t.length c4]
  bl : Below w.heap.size w wr
  sz : w.heap.size + 1 + 1 ≤ wr.heap.size
section
variable {s : Sh} {x : St} {y : List Int} {S S1 S2 : Nat → Prop} {a a' a1 a2 a3 a4 a5 : Option Addr} {c c' c1 c2 c3 c4 c5 : Nat} {w wr wj : World}
theorem DkI.start (h : ShAt w S s a c a' c') (hx : StAt w S1 x a1 c1 a2 c2 a3 c3 a4 c4) (hy : IntsAt w S2 y a5 c5) : DkI s x y S S1 S2 a c a' c' a1 c1 a2 c2 a3 c3 a4 c4 a5 c5 w ((w.alloc (.cells #[.slice a s.m.length c, .slice a' s.t.length c'] 51)).alloc (.cells #[.slice a1 x.v.length c1, .slice a2 x.b.length c2, .slice a3 x.i.length c3, .slice a4 x.t.length c4] 54)) := by
  refine ⟨(h.alloc _).alloc _, (hx.alloc _).alloc _, (hy.alloc _).alloc _, (Blk.new w 51 #[.slice a s.m.length c, .slice a' s.t.length c']).alloc _, ?_, ((Below.refl w.heap.size w).alloc (Nat.le_refl _) _).alloc (by simp) _, by simp⟩
  have := Blk.new (w.alloc (.cells #[.slice a s.m.length c, .slice a' s.t.length c'] 51)) 54 #[.slice a1 x.v.length c1, .slice a2 x.b.length c2, .slice a3 x.i.length c3, .slice a4 x.t.length c4]
  simpa using this
theorem DkI.below (h : DkI s x y S S1 S2 a c a' c' a1 c1 a2 c2 a3 c3 a4 c4 a5 c5 w wr) (hb : Below wr.heap.size wr wj) : DkI s x y S S1 S2 a c a' c' a1 c1 a2 c2 a3 c3 a4 c4 a5 c5 w wj :=
  ⟨h.sh.below hb, h.st.below hb, h.yy.below hb, h.p.below hb h.p.lt, h.q.below hb h.q.lt, h.bl.trans (hb.mono h.bl.size), Nat.le_trans h.sz hb.size⟩
end

def DkPost (s : Sh) (x : St) (y : List Int) (w : World) (e : Ending) (w' : World) : Prop := ∃ v, e = .returned v ∧ NumRow w' w.heap.size v (dkO s x y) ∧ Below w.heap.size w w'

set_option maxRecDepth 100000 in
set_option maxHeartbeats 4000000 in
theorem implDirty_any (s : Sh) (x : St) (y : List Int) (w : World) (S0 S10 S20 : Nat → Prop) (a : Option Addr) (c : Nat) (a' : Option Addr) (c' : Nat) (a1 : Option Addr) (c1 : Nat) (a2 : Option Addr) (c2 : Nat) (a3 : Option Addr) (c3 : Nat) (a4 : Option Addr) (c4 : Nat) (a5 : Option Addr) (c5 : Nat) (h : ShAt w S0 s a c a' c') (hx : StAt w S10 x a1 c1 a2 c2 a3 c3 a4 c4) (hy : IntsAt w S20 y a5 c5) :
    Calls Try.prog 22 #[.agg #[.slice a s.m.length c, .slice a' s.t.length c'], .agg #[.slice a1 x.v.length c1, .slice a2 x.b.length c2, .slice a3 x.i.length c3, .slice a4 x.t.length c4], .slice a5 y.length c5] w (DkPost s x y w) := by
  have D0 := Lib.hid (DkI.start h hx hy)
  obtain ⟨W, hW⟩ : ∃ W, W = ((w.alloc (.cells #[.slice a s.m.length c, .slice a' s.t.length c'] 51)).alloc (.cells #[.slice a1 x.v.length c1, .slice a2 x.b.length c2, .slice a3 x.i.length c3, .slice a4 x.t.length c4] 54)) := ⟨_, rfl⟩
  have HWW := Lib.hid hW
  rw [← hW] at D0
  obtain ⟨p0, p1, -⟩ := D0.out.p.two
  obtain ⟨q0, q1, q2, q3, -⟩ := D0.out.q.four
  rw [hW] at p0 p1 q0 q1 q2 q3
  obtain ⟨⟨hl1, hl2⟩, hl3, hl4⟩ := hx.lens
  obtain ⟨P, hP⟩ : ∃ P, P = DkPost s x y w := ⟨_, rfl⟩
  have HPP := Lib.hid hP
  rw [← hP]
  obtain ⟨iN, ni, nz0, nz1, nz2⟩ := info_parts infoInt
  have HIN := Lib.hid (And.intro ni (And.intro nz0 (And.intro nz1 nz2)))
  have hml : maxLen = 9223372036854775807 := rfl
  have HML := Lib.hid hml
  have HNIL := Lib.hid (show ∀ w', dkO s x y = [] → Below w.heap.size w w' → P (.returned (.slice none 0 0)) w' from fun w' h1 h2 => by rw [hP]; exact ⟨_, rfl, by rw [h1]; exact World.ownsRow_nil _ _ _ _, h2⟩)
  clear h hx hy hW hP ni nz0 nz1 nz2 hml
  go_enter Try.func22, Try.ntmps22
  go_wp2_with fail
  rw [← HWW.out]
  clear p0 p1 q0 q1 q2 q3
  refine (implStateOk_any s x W S0 S10 a c a' c' a1 c1 a2 c2 a3 c3 a4 c4 D0.out.sh D0.out.st).mono ?_
  rintro e w1 ⟨rfl, hb⟩
  have D1 := Lib.hid (D0.out.below hb)
  clear hb D0
  obtain ⟨p0, p1, -⟩ := D1.out.p.two
  cases hso : stOk s x
  · have HF := Lib.hid (show dkO s x y = [] by unfold dkO; rw [hso]; rfl)
    clear hso
    go_wp2_with fail
    exact HNIL.out _ HF.out D1.out.bl
  have HSO := Lib.hid hso
  clear hso
  go_wp2_with fail
  refine (implInputs_any s y w1 S0 S20 a c a' c' a5 c5 D1.out.sh D1.out.yy).mono ?_
  rintro e w2 ⟨rfl, hb⟩
  have D2 := Lib.hid (D1.out.below hb)
  clear hb D1 p0 p1
  cases hio : inOk s y
  · have HF := Lib.hid (show dkO s x y = [] by unfold dkO; rw [hio, Bool.and_false]; rfl)
    clear hio
    go_wp2_with fail
    exact HNIL.out _ HF.out D2.out.bl
  have HIO := Lib.hid hio
  obtain ⟨hok, ⟨hfv, hfb⟩, hfi⟩ := stOk_of HSO.out
  have HO := Lib.hid hok
  have hyl : y.length = s.m.length := (inOk_of hio).2.1
  have hm10 : s.m.length ≤ 10 := (Sh.ok_iff.1 hok).1
  obtain ⟨n, hnn⟩ : ∃ n, n = s.m.length := ⟨_, rfl⟩
  have HN := Lib.hid hnn
  have hn10 : n ≤ 10 := by omega
  have HL := Lib.hid (show x.b.length = n ∧ x.i.length = n ∧ y.length = n by omega)
  obtain ⟨p0, p1, -⟩ := D2.out.p.two
  rw [← hnn] at p0
  clear hio hok hfv hfb hfi hyl hm10 hnn HNIL
  obtain ⟨W2, hW2⟩ : ∃ W, W = w2 := ⟨_, rfl⟩
  subst hW2
  go_wp2_with fail
  clear p0 p1
  go_loopw [7, 26] (fun v i wi => ∃ k : Nat, k ≤ n ∧ i = .int .i64 k ∧ NumRow wi w.heap.size v (tuL s x.i y k) ∧ Below W2.heap.size W2 wi ∧ (∀ b, v.ownBlock = some b → W2.heap.size ≤ b)) (fun _ i _ => n - (intOf i).toNat)
  case atStart => exact ⟨0, by omega, rfl, World.ownsRow_nil _ _ _ _, Below.refl _ _, by simp [Value.ownBlock]⟩
  case round =>
    obtain ⟨k, hk, rfl, hr, hb, hne⟩ := hrel
    have HR := Lib.hid hr
    have HB := Lib.hid hb
    have HNE := Lib.hid hne
    have D3 := Lib.hid (D2.out.below hb)
    have hszw := hb.size
    clear hr hb hne
    by_cases hlt : k < n
    · have hks : k < s.m.length := by have := HN.out; omega
      obtain ⟨bm, om, ham, hbm, cm⟩ := md_cell D3.out.sh hks
      obtain ⟨bi, oi, hai, hbi, ci⟩ := ints_cell D3.out.st.2.2.1 (show k < x.i.length by have := HL.out; omega)
      obtain ⟨by_, oy, hay, hby, cy⟩ := ints_cell D3.out.yy (show k < y.length by have := HL.out; omega)
      obtain ⟨q0, q1, q2, q3, -⟩ := D3.out.q.four
      have hki : (k : Int) < x.i.length := by have := HL.out; omega
      have hky : (k : Int) < y.length := by have := HL.out; omega
      have hk0 : (0 : Int) ≤ (k : Int) := by omega
      have HAM := Lib.hid ham
      have HAI := Lib.hid hai
      have HAY := Lib.hid hay
      have HTM := Lib.hid (@tuB_made s x.i y k)
      have HTI := Lib.hid (@tuB_in s x.i y k hks)
      have HSU := Lib.hid (show tuL s x.i y (k + 1) = tuL s x.i y k ++ (if tuB s x.i y (k : Int) = true then [(k : Int)] else []) from fl_succ _ k)
      obtain ⟨mv, hmv⟩ : ∃ v, v = s.md k := ⟨_, rfl⟩
      have HMV := Lib.hid hmv
      rw [mdI_nat, ← hmv] at cm
      obtain ⟨yk, hyk⟩ : ∃ v, v = y.getD k 0 := ⟨_, rfl⟩
      rw [← hyk] at cy HTI
      obtain ⟨ik, hik⟩ : ∃ v, v = x.i.getD k 0 := ⟨_, rfl⟩
      rw [← hik] at ci HTI
      clear ham hai hay hmv hyk hik hks
      obtain rfl := HAM.out
      obtain rfl := HAI.out
      obtain rfl := HAY.out
      cases mv
      · by_cases hyi : yk = ik
        · have hne : (yk != ik) = false := by simpa using hyi
          have HS2 := Lib.hid (show tuL s x.i y (k + 1) = tuL s x.i y k by rw [HSU.out, HTI.out HMV.out.symm, decide_eq_false (by simpa using hyi)]; simp)
          clear hyi
          go_wp2_with fail
          go_quiet (fail)
          go_wp2_with fail
          refine ⟨⟨k + 1, by omega, by go_num, ?_, below_drewN HB.out _, HNE.out⟩, by simp [intOf]; omega⟩
          rw [HS2.out]
          exact ElRow.below (f := Value.int .i64) (e := 3) HR.out (below_drewN (Below.refl _ _) _)
        · have hne : (yk != ik) = true := by simpa using hyi
          have HS2 := Lib.hid (show tuL s x.i y (k + 1) = tuL s x.i y k ++ [(k : Int)] by rw [HSU.out, HTI.out HMV.out.symm, decide_eq_true (by simpa using hyi)]; simp)
          have hal : (tuL s x.i y k).length ≤ k := fl_len _ k
          obtain ⟨acc, hacc⟩ : ∃ acc, acc = tuL s x.i y k := ⟨_, rfl⟩
          rw [← hacc] at HR HS2 hal
          clear hyi hacc HSU HTI HTM
          go_wp2_with fail
          go_quiet (fail)
          revert nq
          intro n1
          have HR1 := Lib.hid (ElRow.below (f := Value.int .i64) (e := 3) HR.out (below_drewN (Below.refl _ _) n1))
          have HB1 := Lib.hid (below_drewN HB.out n1)
          have hsd : (wr.drewN n1).heap.size = wr.heap.size := rfl
          obtain ⟨W3, hW3⟩ : ∃ W, W = wr.drewN n1 := ⟨_, rfl⟩
          rw [← hW3] at HR1 HB1 hsd ⊢
          have HSD := Lib.hid hsd
          have hlo : w.heap.size + 1 + 1 ≤ W3.heap.size := by have := D2.out.sz; omega
          clear hW3 hsd cm ci cy q0 q1 q2 q3
          go_wp2_with (at_builtin; refine wpList_append_row _ rfl (.tmp 45) (.tmp 47) 23 rfl w.heap.size 3 iN (.int .i64 0) 1 8 Try.underlying23 HIN.out.1 HIN.out.2.1 HIN.out.2.2.1 HIN.out.2.2.2 rfl (by decide) _ acc.length (acc.map (Value.int .i64)) rfl (World.ownsRow.alloc HR1.out _) ⟨W3.heap.size, 0, none⟩ 1 1 [.int .i64 k] rfl rfl ?d1 ?d2 (by decide) ?d3 ?d4 ?d5 ?_)
          case d1 => exact news1 _ _ _
          case d2 => simp [Value.oneCell']
          case d3 => rw [HML.out]; omega
          case d4 => omega
          case d5 => first | omega | (simp; omega)
          intro v2 w3 hown hgr hnew
          have hN2 : NumRow w3 w.heap.size v2 (acc ++ [(k : Int)]) := by
            unfold NumRow
            rw [List.map_append, show (acc ++ [(k : Int)]).length = acc.length + 1 by simp]
            exact hown
          have hB2 : Below W2.heap.size W2 w3 := (HB1.out.alloc (by have := HSD.out; omega) _).trans (below_grown hgr (by have := HSD.out; simp; omega) HNE.out)
          have hG2 : ∀ b, v2.ownBlock = some b → W2.heap.size ≤ b := fun b hb => by
            have := HSD.out
            rcases hnew b hb with h | h
            · exact HNE.out b h
            · omega
          have H2 := Lib.hid (And.intro hN2 (And.intro hB2 hG2))
          clear hown hgr hnew hN2 hB2 hG2
          go_wp2_with fail
          go_roundw
          case rel => exact ⟨k + 1, by omega, by go_num, by rw [HS2.out]; exact H2.out.1, H2.out.2.1, H2.out.2.2⟩
          case measure => simp [intOf]; omega
      · have HS2 := Lib.hid (show tuL s x.i y (k + 1) = tuL s x.i y k by rw [HSU.out, HTM.out HMV.out.symm]; simp)
        go_wp2_with fail
        go_quiet (fail)
        go_wp2_with fail
        refine ⟨⟨k + 1, by omega, by go_num, ?_, below_drewN HB.out _, HNE.out⟩, by simp [intOf]; omega⟩
        rw [HS2.out]
        exact ElRow.below (f := Value.int .i64) (e := 3) HR.out (below_drewN (Below.refl _ _) _)
    · obtain rfl : k = n := by omega
      have hTb : ∀ j ∈ tuL s x.i y k, 0 ≤ j ∧ j < k := fl_bd
      have HTP := Lib.hid (show (fun j => decide (j ∈ tuL s x.i y k)) = tuB s x.i y by rw [HN.out]; exact tuP s x.i y)
      obtain ⟨T, hT⟩ : ∃ T, T = tuL s x.i y k := ⟨_, rfl⟩
      rw [← hT] at HR hTb HTP
      obtain ⟨a6, c6, rfl, hia⟩ := HR.out.at (fun z hz => by have := hTb z hz; unfold i64ok; omega)
      have HLD := Lib.hid (leadingTo_any s T wr S0 _ a c a' c' a6 c6 D3.out.sh HO.out hia)
      obtain ⟨p0, p1, -⟩ := D3.out.p.two
      have HBW := Lib.hid HB.out
      clear hTb hT hia HR HNE
      go_wp2_with fail
      refine HLD.out.mono ?_
      rintro e w4 ⟨v, rfl, hrow, hb⟩
      have D4 := Lib.hid (D3.out.below hb)
      have hLb : ∀ j ∈ leadL s (fun j => decide (j ∈ T)) 10, 0 ≤ j ∧ j < k := by
        rw [leadL_cut HO.out, HN.out]
        exact fl_bd
      have HFL := Lib.hid (show (leadL s (fun j => decide (j ∈ T)) 10).filter (fun j => x.b.getD j.toNat false) = dkL s x y k by rw [HTP.out, dk_of_lead, dkL_cut HO.out, ← HN.out])
      have hLl : (leadL s (fun j => decide (j ∈ T)) 10).length ≤ 10 := fl_len _ 10
      obtain ⟨L, hL⟩ : ∃ L, L = leadL s (fun j => decide (j ∈ T)) 10 := ⟨_, rfl⟩
      rw [← hL] at hLb HFL hrow hLl
      obtain ⟨a7, c7, rfl, hia⟩ := hrow.at (fun z hz => by have := hLb z hz; unfold i64ok; omega)
      have HIA := Lib.hid hia
      have HLB := Lib.hid hLb
      clear hb hrow hL hia hLb p0 p1 HLD HTP
      obtain ⟨W4, hW4⟩ : ∃ W, W = w4 := ⟨_, rfl⟩
      subst hW4
      go_wp2_with fail
      go_loopw [8, 54] (fun v i wi => ∃ q : Nat, q ≤ L.length ∧ i = .int .i64 q ∧ NumRow wi w.heap.size v ((L.take q).filter (fun j => x.b.getD j.toNat false)) ∧ Below W4.heap.size W4 wi ∧ (∀ b, v.ownBlock = some b → W4.heap.size ≤ b)) (fun _ i _ => L.length - (intOf i).toNat)
      case atStart => exact ⟨0, by omega, rfl, World.ownsRow_nil _ _ _ _, Below.refl _ _, by simp [Value.ownBlock]⟩
      case round =>
        obtain ⟨q, hq, rfl, hr, hb, hne⟩ := hrel
        have HR := Lib.hid hr
        have HB := Lib.hid hb
        have HNE := Lib.hid hne
        have D5 := Lib.hid (D4.out.below hb)
        have hszw := hb.size
        have hsz4 := D4.out.sz
        clear hr hne
        by_cases hlt2 : q < L.length
        · obtain ⟨b7, o7, ha7, hb7, _, hx7⟩ := HIA.out.get hb hlt2
          have hxb := HLB.out L[q] (List.getElem_mem _)
          have HSU := Lib.hid (filter_snoc (fun j => x.b.getD j.toNat false) L q hlt2)
          obtain ⟨xn, hxn⟩ : ∃ xn : Nat, L[q] = (xn : Int) := ⟨L[q].toNat, by omega⟩
          rw [hxn] at hx7 hxb HSU
          rw [Int.toNat_natCast] at HSU
          obtain ⟨bb, ob, hab, hbb, cb⟩ := bools_cell D5.out.st.2.1 (show xn < x.b.length by have := HL.out; omega)
          obtain ⟨q0, q1, q2, q3, -⟩ := D5.out.q.four
          have hxbl : (xn : Int) < x.b.length := by have := HL.out; omega
          have hx0 : (0 : Int) ≤ (xn : Int) := by omega
          have HAB := Lib.hid hab
          have HA7 := Lib.hid ha7
          have hal : ((L.take q).filter (fun j => x.b.getD j.toNat false)).length ≤ q := by have := List.length_filter_le (fun j : Int => x.b.getD j.toNat false) (L.take q); rw [List.length_take] at this; omega
          obtain ⟨acc, hacc⟩ : ∃ acc, acc = (L.take q).filter (fun j => x.b.getD j.toNat false) := ⟨_, rfl⟩
          obtain ⟨bv, hbv⟩ : ∃ v, v = x.b.getD xn false := ⟨_, rfl⟩
          rw [← hbv] at cb HSU
          rw [← hacc] at HR HSU hal
          clear hb hxb hxn hab ha7 hacc hbv
          obtain rfl := HAB.out
          obtain rfl := HA7.out
          cases bv
          · have HS2 := Lib.hid (show (L.take (q + 1)).filter (fun j => x.b.getD j.toNat false) = acc by rw [HSU.out]; simp)
            clear HSU
            go_wp2_with fail
            go_roundw
            case rel => exact ⟨q + 1, by omega, by go_num, by rw [HS2.out]; exact HR.out, HB.out, HNE.out⟩
            case measure => simp [intOf]; omega
          · have HS2 := Lib.hid (show (L.take (q + 1)).filter (fun j => x.b.getD j.toNat false) = acc ++ [(xn : Int)] by rw [HSU.out]; simp)
            clear HSU
            go_wp2_with (at_builtin; refine wpList_append_row _ rfl (.tmp 63) (.tmp 65) 23 rfl w.heap.size 3 iN (.int .i64 0) 1 8 Try.underlying23 HIN.out.1 HIN.out.2.1 HIN.out.2.2.1 HIN.out.2.2.2 rfl (by decide) _ acc.length (acc.map (Value.int .i64)) rfl (World.ownsRow.alloc HR.out _) ⟨wr.heap.size, 0, none⟩ 1 1 [.int .i64 xn] rfl rfl ?d1 ?d2 (by decide) ?d3 ?d4 ?d5 ?_)
            case d2 => simp [Value.oneCell']
            case d3 => rw [HML.out]; omega
            case d4 => omega
            case d5 => first | omega | (simp; omega)
            intro v2 w3 hown hgr hnew
            have hN2 : NumRow w3 w.heap.size v2 (acc ++ [(xn : Int)]) := by
              unfold NumRow
              rw [List.map_append, show (acc ++ [(xn : Int)]).length = acc.length + 1 by simp]
              exact hown
            have hB2 : Below W4.heap.size W4 w3 := (HB.out.alloc (by omega) _).trans (below_grown hgr (by simp; omega) HNE.out)
            have hG2 : ∀ b, v2.ownBlock = some b → W4.heap.size ≤ b := fun b hb => by
              rcases hnew b hb with h | h
              · exact HNE.out b h
              · omega
            have H2 := Lib.hid (And.intro hN2 (And.intro hB2 hG2))
            clear hown hgr hnew hN2 hB2 hG2 cb q0 q1 q2 q3
            go_wp2_with fail
            go_roundw
            case rel => exact ⟨q + 1, by omega, by go_num, by rw [HS2.out]; exact H2.out.1, H2.out.2.1, H2.out.2.2⟩
            case measure => simp [intOf]; omega
        · have HFF := Lib.hid (show (L.take q).filter (fun j => x.b.getD j.toNat false) = dkO s x y by rw [List.take_of_length_le (by omega), HFL.out, dk_yes HSO.out HIO.out, ← HN.out])
          rw [HFF.out] at HR
          go_wp2_with fail
          rw [HPP.out]
          exact ⟨_, rfl, HR.out, D5.out.bl⟩
end Go.Proofs.Ythjfmpeicjmlkaa
