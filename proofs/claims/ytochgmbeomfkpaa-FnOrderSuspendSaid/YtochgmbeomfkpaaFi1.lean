/- several texts in one: FitP, FitS, FitI -/
import Derived.Test.YtochgmbeomfkpaaOrdP
import Derived.Test.YtochgmbeomfkpaaBnds
import Derived.Deep.RegionWith
import Derived.BigQuiet
/- an order that fits: what is asked of each of its keys; plain words, no program -/
namespace Go.Proofs.Ytochgmbeomfkpaa
open Go.RowKit

/-- What is asked of the key k behind the keys pre. -/
def ofOne (s : Sh) (vs : Int → Int) (pre : List Int) (k : Int) : Bool := s.mdI k && (!decide (k ∈ pre) && ((usesL ((s.tkI k).kys vs)).filter s.mdI).all (fun u => decide (u ∈ pre)))
def ofTo (s : Sh) (vs : Int → Int) (o : List Int) (n : Nat) : Bool := (List.range n).all fun i => ofOne s vs (o.take i) (o.getD i 0)
noncomputable def ofB (s : Sh) (l o : List Int) : Bool := baB s l && ofTo s (vf (baL s l)) o o.length

theorem ofTo_zero (s : Sh) (vs : Int → Int) (o : List Int) : ofTo s vs o 0 = true := rfl
theorem ofTo_succ (s : Sh) (vs : Int → Int) (o : List Int) {k : Nat} (hk : k < o.length) : ofTo s vs o (k + 1) = (ofTo s vs o k && ofOne s vs (o.take k) o[k]) := by
  unfold ofTo
  rw [List.range_succ, List.all_append, List.all_cons, List.all_nil, Bool.and_true, List.getD_eq_getElem?_getD, List.getElem?_eq_getElem hk]
  rfl
theorem ofTo_false {s : Sh} {vs : Int → Int} {o : List Int} {k n : Nat} (h : k < n) (hn : n ≤ o.length) (ho : ofOne s vs (o.take k) (o[k]'(by omega)) = false) : ofTo s vs o n = false := by
  cases hx : ofTo s vs o n
  · rfl
  · unfold ofTo at hx
    rw [List.all_eq_true] at hx
    have := hx k (List.mem_range.2 h)
    rw [List.getD_eq_getElem?_getD, List.getElem?_eq_getElem (by omega)] at this
    simp only [Option.getD_some] at this
    rw [ho] at this
    cases this

theorem ok_of_ba {s : Sh} {l : List Int} (h : baB s l = true) : s.ok = true := by
  unfold baB at h
  rw [Bool.and_eq_true] at h
  exact (inOk_of h.1).1
theorem tkI_ok {s : Sh} {l : List Int} (h : baB s l = true) (k : Int) : ((s.tkI k).ok && vok (baL s l)) = true := by
  obtain ⟨h1, h2⟩ := Sh.tk_fit (ok_of_ba h) k.toNat
  have h3 := baL_bd s l
  rw [Bool.and_eq_true]
  refine ⟨by unfold Sh.tkI; simp [T.ok]; exact ⟨h1, h2⟩, ?_⟩
  unfold vok
  rw [Bool.and_eq_true, decide_eq_true_eq, List.all_eq_true]
  refine ⟨h3.2, fun x hx => ?_⟩
  have := h3.1 x hx
  simp [vin]
  omega
/-- Keys of an order that fits are keys. -/
theorem ofTo_hk {s : Sh} {vs : Int → Int} {o : List Int} (h : ofTo s vs o o.length = true) : hkB s o = true := by
  unfold hkB
  rw [List.all_eq_true]
  intro x hx
  obtain ⟨i, hi, rfl⟩ := List.getElem_of_mem hx
  rw [decide_eq_true_eq]
  refine mdI_bd ?_
  cases hm : s.mdI o[i]
  · have : ofTo s vs o o.length = false := ofTo_false hi (Nat.le_refl _) (by unfold ofOne; rw [hm]; rfl)
    rw [h] at this; cases this
  · rfl
end Go.Proofs.Ytochgmbeomfkpaa
/- spec.l4Keys, spec.OrderFits -/
namespace Go.Proofs.Ytochgmbeomfkpaa
open Go.RowKit

theorem IntsAt.upto {w : World} {S : Nat → Prop} {l : List Int} {a : Option Addr} {c : Nat} (h : IntsAt w S l a c) (i : Nat) : IntsAt w S (l.take i) a c := by
  obtain ⟨h1, h2, h3, h4⟩ := h
  refine ⟨by rw [List.length_take]; omega, h2, fun v hv => h3 v (List.mem_of_mem_take hv), ?_⟩
  rcases h4 with h4 | ⟨b, o, ha, hS, hc⟩
  · exact .inl (by rw [h4]; simp)
  · refine .inr ⟨b, o, ha, hS, fun j hj => ?_⟩
    rw [List.getElem_take]
    exact hc j (by rw [List.length_take] at hj; omega)

/-- They are keys of a sheet. -/
def kyB (s : Sh) (ks : List Int) : Bool := hkB s ks && s.ok

set_option maxRecDepth 100000 in
set_option maxHeartbeats 2000000 in
theorem l4Keys_any (s : Sh) (ks : List Int) (w : World) (S S' : Nat → Prop) (a : Option Addr) (c : Nat) (a' : Option Addr) (c' : Nat) (ak : Option Addr) (ck : Nat) (h : ShAt w S s a c a' c') (hn : nodesL s.t ≤ 1048576) (hks : IntsAt w S' ks ak ck) :
    Calls Try.prog 27 #[.agg #[.slice a s.m.length c, .slice a' s.t.length c'], .slice ak ks.length ck] w fun e w' => e = .returned (.bool (kyB s ks)) ∧ Below w.heap.size w w' := by
  have K0 := Lib.hid (Ks.start (ty := 32) h)
  have HI := Lib.hid (hks.alloc (.cells #[.slice a s.m.length c, .slice a' s.t.length c'] 32))
  have hkl : ks.length ≤ 9223372036854775807 := by have := hks.1; have := hks.2.1; omega
  have hlm : s.m.length ≤ 9223372036854775807 := by have := h.1.1; have := h.1.2.1; omega
  have HN := Lib.hid hn
  obtain ⟨KL, hKL⟩ : ∃ n, n = ks.length := ⟨_, rfl⟩
  have HKL := Lib.hid hKL
  rw [← hKL] at hkl ⊢
  obtain ⟨r, hr⟩ : ∃ r, r = kyB s ks := ⟨_, rfl⟩
  have HR := Lib.hid hr
  rw [← hr]
  clear h hks hKL hr hn
  go_enter Try.func27, Try.ntmps27
  go_wp2_with fail
  go_loopw [5] (fun i wr => ∃ k : Nat, k ≤ KL ∧ i = .int .i64 k ∧ (ks.take k).all (fun k => decide (0 ≤ k ∧ k < s.m.length)) = true ∧ Ks S s a c a' c' 32 w wr ∧ IntsAt wr S' ks ak ck) (fun i _ => KL - (intOf i).toNat)
  case atStart => exact ⟨0, by omega, rfl, by simp, K0.out, HI.out⟩
  case round =>
    obtain ⟨k, hk, rfl, hall, hK, hI⟩ := hrel
    have HA := Lib.hid hall
    have HK := Lib.hid (And.intro hK hI)
    obtain ⟨x0, x1⟩ := hK.box
    clear hall hK hI K0 HI
    by_cases hlt : k < KL
    · have hlt2 : k < ks.length := by have := HKL.out; omega
      obtain ⟨b, o, rfl, hbl, _, hc⟩ := HK.out.2.get (Below.refl _ _) hlt2
      obtain ⟨key, hkey⟩ : ∃ key, key = ks[k] := ⟨_, rfl⟩
      rw [← hkey] at hc
      have HKEY := Lib.hid hkey
      obtain ⟨p, hp⟩ : ∃ p, p = decide (0 ≤ key ∧ key < s.m.length) := ⟨_, rfl⟩
      have hdk : decide ((0 : Int) ≤ key ∧ key ≤ (s.m.length : Int) - 1) = p := by
        rw [hp]
        by_cases h : 0 ≤ key ∧ key < s.m.length
        · rw [decide_eq_true h, decide_eq_true (by omega)]
        · rw [decide_eq_false h, decide_eq_false (by omega)]
      have hwr : IntKind.i64.wrap ((s.m.length : Int) - 1) = (s.m.length : Int) - 1 := IntWalk.i64_in _ ⟨by omega, by omega⟩
      rw [← hwr] at hdk
      have HD := Lib.hid hdk
      have HP := Lib.hid hp
      have HL2 := Lib.hid hlt2
      clear hkey hp hdk hwr
      go_wp2_with fail
      go_region_with (go_at_call 60; refine (in_any _ _ _ _).mono ?_; rw [HD.out]; rintro e w9 ⟨rfl, rfl⟩)
      all_goals
        have K1 := Lib.hid (And.intro (HK.out.1.drewN 1) (HK.out.2.drewN 1))
        cases p
        · go_wp2_with fail
          go_ret
          exact ⟨ret_bool (by rw [HR.out]; unfold kyB hkB; rw [all_fls HL2.out (by rw [← HKEY.out]; exact HP.out.symm)]; rfl), below_drewN HK.out.1.done _⟩
        · go_wp2_with fail
          go_roundw
          case rel => exact ⟨k + 1, by omega, by go_num, by rw [all_tk HL2.out, HA.out, ← HKEY.out, ← HP.out]; rfl, HK.out.1.drewN _, HK.out.2.drewN _⟩
          case measure => simp [intOf]; omega
    · have hall : hkB s ks = true := by
        have := HA.out
        rwa [List.take_of_length_le (by have := HKL.out; omega)] at this
      have hrk : s.ok = r := by rw [HR.out]; unfold kyB; rw [hall]; rfl
      have HALL := Lib.hid hrk
      clear hall hrk
      go_wp2_with fail
      refine (specSheetOk_any s _ S a c a' c' HK.out.1.2 HN.out).mono ?_
      rintro e w1 ⟨rfl, hb⟩
      rw [HALL.out]
      have K1 := Lib.hid (HK.out.1.step hb)
      clear hb x0 x1
      go_wp2_with fail
      go_ret
      exact ⟨rfl, K1.out.done⟩

end Go.Proofs.Ytochgmbeomfkpaa
/- impl.OrderFits -/
namespace Go.Proofs.Ytochgmbeomfkpaa
open Go.RowKit

set_option maxRecDepth 100000 in
set_option maxHeartbeats 4000000 in
theorem implFits_any (s : Sh) (l o : List Int) (w : World) (S0 S1 S2 : Nat → Prop) (a : Option Addr) (c : Nat) (a' : Option Addr) (c' : Nat) (ai : Option Addr) (ci : Nat) (ao : Option Addr) (co : Nat) (h0 : ShAt w S0 s a c a' c') (hl : IntsAt w S1 l ai ci) (ho : IntsAt w S2 o ao co) :
    Calls Try.prog 18 #[.agg #[.slice a s.m.length c, .slice a' s.t.length c'], .slice ai l.length ci, .slice ao o.length co] w fun e w' => e = .returned (.bool (ofB s l o)) ∧ Below w.heap.size w w' := by
  obtain ⟨S, hSd⟩ : ∃ S : Nat → Prop, S = fun b => S0 b ∧ b < w.heap.size := ⟨_, rfl⟩
  have hSl : ∀ b, S b → b < w.heap.size := by rw [hSd]; exact fun b h => h.2
  have h : ShAt w S s a c a' c' := by rw [hSd]; exact h0.lim
  have HSL := Lib.hid hSl
  have K0 := Lib.hid (Ks.start (ty := 32) h)
  have L0 := Lib.hid (hl.alloc (.cells #[.slice a s.m.length c, .slice a' s.t.length c'] 32))
  have O0 := Lib.hid (ho.lim.alloc (.cells #[.slice a s.m.length c, .slice a' s.t.length c'] 32))
  have hol : o.length ≤ 9223372036854775807 := by have := ho.1; have := ho.2.1; omega
  obtain ⟨OL, hOL⟩ : ∃ n, n = o.length := ⟨_, rfl⟩
  have HOL := Lib.hid hOL
  rw [← hOL] at hol ⊢
  obtain ⟨r, hr⟩ : ∃ r, r = ofB s l o := ⟨_, rfl⟩
  have HR := Lib.hid hr
  rw [← hr]
  clear h h0 hl ho hSd hSl hOL hr
  obtain ⟨x0, x1⟩ := K0.out.box
  have hmm := @run_makeMap Try.prog
  cases hba : baB s l
  · have HB := Lib.hid hba
    clear hba
    go_enter Try.func18, Try.ntmps18
    go_wp2_with fail
    refine (implAll_any s l _ S _ a c a' c' ai ci K0.out.2 L0.out).mono ?_
    rintro e w1 ⟨hb, v, rfl, _⟩
    rw [HB.out]
    have K1 := Lib.hid (K0.out.step hb)
    clear hb x0 x1
    go_wp2_with fail
    go_ret
    exact ⟨ret_bool (by rw [HR.out]; unfold ofB; rw [HB.out]; rfl), K1.out.done⟩
  · have HB := Lib.hid hba
    have hrr : r = ofTo s (vf (baL s l)) o o.length := by rw [HR.out]; unfold ofB; rw [hba]; rfl
    have HRR := Lib.hid hrr
    clear hba hrr
    go_enter Try.func18, Try.ntmps18
    go_wp2_with fail
    refine (implAll_any s l _ S _ a c a' c' ai ci K0.out.2 L0.out).mono ?_
    rintro e w1 ⟨hb, v, rfl, hrow⟩
    rw [HB.out]
    obtain ⟨av, cv, rfl, hia⟩ := hrow.at (fun x hx => by have := (baL_bd s l).1 x hx; unfold i64ok; omega)
    have hs1 := (K0.out.step hb).size
    have K1 := Lib.hid ((K0.out.step hb).alloc (.map #[] 0))
    have O1 := Lib.hid ((O0.out.below hb).alloc (.map #[] 0))
    have V1 := Lib.hid (hia.lim.alloc (.map #[] 0))
    have M1 := Lib.hid (MapB.made w1)
    clear hb hrow hia x0 x1 K0 L0 O0
    go_wp2_with fail
    go_loopw [25] (fun i wr => ∃ k : Nat, k ≤ OL ∧ i = .int .i64 k ∧ ofTo s (vf (baL s l)) o k = true ∧ Ks S s a c a' c' 32 w wr ∧ IntsAt wr (fun b => S2 b ∧ b < w.heap.size) o ao co ∧ IntsAt wr (fun b => w.heap.size + 1 ≤ b ∧ b < w1.heap.size) (baL s l) av cv ∧ MapB wr w1.heap.size k (fun x => decide (x ∈ o.take k)) ∧ w1.heap.size < wr.heap.size) (fun i _ => OL - (intOf i).toNat)
    case atStart => exact ⟨0, by omega, rfl, ofTo_zero _ _ _, K1.out, O1.out, V1.out.weaken (fun b hb => ⟨by simpa using hb.1, by simpa using hb.2⟩), M1.out.congr (fun _ _ => by simp), by simp⟩
    case round =>
      obtain ⟨k, hk, rfl, hall, hK, hO, hV, hM, hgl⟩ := hrel
      have H2 := Lib.hid (And.intro hK (And.intro hO (And.intro hV hM)))
      have HA := Lib.hid hall
      obtain ⟨x0, x1⟩ := hK.box
      clear hall hK hO hV hM K1 O1 V1 M1
      by_cases hlt : k < OL
      · have hlt2 : k < o.length := by have := HOL.out; omega
        obtain ⟨b, ob, rfl, hbl, _, hc⟩ := H2.out.2.1.get (Below.refl _ _) hlt2
        obtain ⟨key, hkey⟩ : ∃ key, key = o[k] := ⟨_, rfl⟩
        have hkok : i64ok key := by rw [hkey]; exact H2.out.2.1.2.2.1 _ (List.getElem_mem _)
        rw [← hkey] at hc
        have HKEY := Lib.hid (And.intro hkey hkok)
        have HL2 := Lib.hid hlt2
        have HSUC := Lib.hid (ofTo_succ s (vf (baL s l)) o hlt2)
        have HNO := Lib.hid (show ofOne s (vf (baL s l)) (o.take k) key = false → r = false from fun h => by
          rw [HRR.out]
          exact ofTo_false hlt2 (Nat.le_refl _) (by rw [← hkey]; exact h))
        cases hmk : s.mdI key
        · have HMK := Lib.hid hmk
          clear hkey hmk hkok
          go_wp2_with fail
          refine (isMade_any s _ S a c a' c' key H2.out.1.2).mono ?_
          rintro e w2 ⟨rfl, hb⟩
          rw [HMK.out]
          have K2 := Lib.hid (H2.out.1.step hb)
          clear hb x0 x1 hc
          go_wp2_with fail
          go_ret
          exact ⟨ret_bool (HNO.out (by unfold ofOne; rw [HMK.out]; rfl)).symm, K2.out.done⟩
        · have HMK := Lib.hid hmk
          have hkb := mdI_bd hmk
          obtain ⟨kn, rfl⟩ : ∃ kn : Nat, key = kn := ⟨key.toNat, by omega⟩
          have hkn : kn < s.m.length := by omega
          have HTL := Lib.hid (show s.t.length = s.m.length from (Sh.ok_iff.1 (ok_of_ba HB.out)).2.1)
          have h10 : s.m.length ≤ 10 := (Sh.ok_iff.1 (ok_of_ba HB.out)).1
          clear hkey hmk hkok hkb
          obtain ⟨p, hp⟩ : ∃ p, p = decide ((kn : Int) ∈ o.take k) := ⟨_, rfl⟩
          have HP := Lib.hid hp
          clear hp
          go_wp2_with fail
          refine (isMade_any s _ S a c a' c' kn H2.out.1.2).mono ?_
          rintro e w2 ⟨rfl, hb⟩
          rw [HMK.out]
          have hlook := (H2.out.2.2.2.step hb).look Try.underlying67 HKEY.out.2
          rw [← HP.out] at hlook
          have H3 := Lib.hid (And.intro (H2.out.1.step hb) (And.intro (H2.out.2.1.below hb) (And.intro (H2.out.2.2.1.below hb) (H2.out.2.2.2.step hb))))
          have hgl3 : w1.heap.size < w2.heap.size := Nat.lt_of_lt_of_le hgl hb.size
          clear hb x0 x1 hc H2 hgl
          obtain ⟨x0, x1⟩ := H3.out.1.box
          cases p
          · have hkt : kn < s.t.length := by have := HTL.out; omega
            obtain ⟨b', o', a2, c2, rfl, hbl', hSb', e0, e1, e2, hat, _, _⟩ := H3.out.1.2.2.elem (Below.refl _ _) hkt
            have htk : s.t[kn] = s.tkI (kn : Int) := by unfold Sh.tkI; rw [Int.toNat_natCast]; exact (getD_len hkt).symm
            rw [htk] at hat e0 e1 e2
            have HAT := Lib.hid hat
            clear hat htk
            go_wp2_with fail
            refine (implUses_any (s.tkI (kn : Int)) (baL s l) w2 _ _ a2 av c2 cv HAT.out H3.out.2.2.1).mono ?_
            rintro e w4 ⟨hb, v, rfl, hrow⟩
            rw [if_pos (tkI_ok HB.out _)] at hrow
            have hks := (kys_ok (tkI_ok HB.out (kn : Int)))
            obtain ⟨us, hus⟩ : ∃ us, us = usesL ((s.tkI (kn : Int)).kys (vf (baL s l))) := ⟨_, rfl⟩
            have hul : us.length ≤ 15 := by
              rw [hus]
              have := usesL_len ((s.tkI (kn : Int)).kys (vf (baL s l)))
              omega
            rw [← hus] at hrow
            have hub : ∀ x ∈ us, i64ok x := fun x hx => by
              rw [hus] at hx
              have := hks.1 x (usesL_mem.1 hx)
              unfold i64ok; omega
            obtain ⟨au, cu, rfl, hiu⟩ := hrow.at hub
            have HUS := Lib.hid (And.intro hus (And.intro hul hub))
            have H4 := Lib.hid (And.intro (H3.out.1.step hb) (And.intro (H3.out.2.1.below hb) (And.intro (H3.out.2.2.1.below hb) (H3.out.2.2.2.step hb))))
            have HIU := Lib.hid hiu
            have hgl4 : w1.heap.size < w4.heap.size := Nat.lt_of_lt_of_le hgl3 hb.size
            clear hb hrow hks hus hul hub hiu x0 x1 e0 e1 e2 hlook H3 HAT hgl3
            obtain ⟨x0, x1⟩ := H4.out.1.box
            go_wp2_with fail
            refine (madeOf_any s us _ S _ a c (some ⟨b', o', none⟩) c' au cu H4.out.1.2 HIU.out (by have := HUS.out.2.1; omega)).mono ?_
            rintro e w5 ⟨v, rfl, hrow, hb⟩
            obtain ⟨am, cm, rfl, him⟩ := hrow.at (fun x hx => HUS.out.2.2 x (List.mem_filter.1 hx).1)
            have H5 := Lib.hid (And.intro (H4.out.1.step hb) (And.intro (H4.out.2.1.below hb) (And.intro (H4.out.2.2.1.below hb) (H4.out.2.2.2.step hb))))
            have HIM := Lib.hid him
            have hgl5 : w1.heap.size < w5.heap.size := Nat.lt_of_lt_of_le hgl4 hb.size
            clear hb hrow him x0 x1 HIU H4 hgl4
            go_wp2_with fail
            refine (allBuilt_any (us.filter s.mdI) w5 _ am cm w1.heap.size k _ HIM.out H5.out.2.2.2).mono ?_
            rintro e w6 ⟨rfl, rfl⟩
            obtain ⟨p, hp⟩ : ∃ p, p = (us.filter s.mdI).all (fun x => decide (x ∈ o.take k)) := ⟨_, rfl⟩
            rw [← hp]
            have hone : ofOne s (vf (baL s l)) (o.take k) (kn : Int) = p := by
              unfold ofOne
              rw [HMK.out, ← HP.out, ← HUS.out.1, hp]
              rfl
            have HONE := Lib.hid hone
            clear hp hone HIM
            cases p
            · go_wp2_with fail
              go_ret
              exact ⟨ret_bool (HNO.out HONE.out).symm, H5.out.1.done⟩
            · have hml : maxLen = 9223372036854775807 := rfl
              have HML := Lib.hid hml
              clear hml
              go_wp2_with (at_mapUpdate; refine wpList_put_mapB _ rfl _ _ _ 67 rfl Try.underlying67 w1.heap.size k _ rfl H5.out.2.2.2 (by rw [HML.out]; omega) (kn : Int) rfl HKEY.out.2 rfl ?_)
              intro w7 hM7 hf7
              have hK7 : Ks S s a c (some ⟨b', o', none⟩) c' 32 w w7 := H5.out.1.fr hf7 (fun b hb => by omega) HSL.out
              have hO7 := H5.out.2.1.fr hf7 (fun b hb h => by have := hb.2; omega)
              have hV7 := H5.out.2.2.1.fr hf7 (fun b hb h => by have := hb.2; omega)
              have hM8 : MapB w7 w1.heap.size (k + 1) (fun x => decide (x ∈ o.take (k + 1))) := hM7.congr (fun x _ => by
                rw [List.take_succ_eq_append_getElem HL2.out, ← HKEY.out.1]
                simp only [List.mem_append, List.mem_singleton, Bool.decide_or])
              have hgl7 : w1.heap.size < w7.heap.size := Nat.lt_of_lt_of_le hgl5 hf7.size
              have hall7 : ofTo s (vf (baL s l)) o (k + 1) = true := by rw [HSUC.out, HA.out, ← HKEY.out.1, HONE.out]; rfl
              have H7 := Lib.hid (And.intro hK7 (And.intro hO7 (And.intro hV7 (And.intro hM8 (And.intro hgl7 hall7)))))
              clear hM7 hf7 hK7 hO7 hV7 hM8 hgl7 hall7 H5 hgl5
              go_wp2_with fail
              go_roundw
              case rel => exact ⟨k + 1, by omega, by go_num, H7.out.2.2.2.2.2, H7.out.1, H7.out.2.1, H7.out.2.2.1, H7.out.2.2.2.1, H7.out.2.2.2.2.1⟩
              case measure => simp [intOf]; omega
          · go_wp2_with fail
            go_ret
            exact ⟨ret_bool (HNO.out (by unfold ofOne; rw [HMK.out, ← HP.out]; rfl)).symm, H3.out.1.done⟩
      · have hall : r = true := by
          have := HA.out
          rw [HRR.out, ← HOL.out]
          obtain rfl : k = OL := by omega
          exact this
        have HALL := Lib.hid hall
        clear hall
        go_wp2_with fail
        go_ret
        exact ⟨ret_bool HALL.out.symm, H2.out.1.done⟩
end Go.Proofs.Ytochgmbeomfkpaa
