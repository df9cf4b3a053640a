/- impl.isMade, impl.hasKeys, impl.madeOf, impl.allBuilt; spec.l4Keys -/
import Derived.Test.YtochgmbeomfkpaaAllI
import Derived.Test.YtochgmbeomfkpaaBs2
import Derived.Test.YtochgmbeomfkpaaMapB
import Derived.WalkSpells
namespace Go.Proofs.Ytochgmbeomfkpaa
open Go.RowKit

theorem md_cell {s : Sh} {w : World} {S : Nat → Prop} {a : Option Addr} {c : Nat} {a' : Option Addr} {c' : Nat} (h : ShAt w S s a c a' c') {k : Nat} (hk : k < s.m.length) : ∃ b o, a = some ⟨b, o, none⟩ ∧ b < w.heap.size ∧ w.cell? ⟨b, o + k, none⟩ = some (.bool (s.mdI (k : Int))) := by
  obtain ⟨b, o, ha, hb, _, hc⟩ := ElAt.get h.1 (Below.refl _ _) hk
  refine ⟨b, o, ha, hb, ?_⟩
  rw [mdI_nat]
  unfold Sh.md
  rw [getD_len hk]
  exact hc

set_option maxHeartbeats 1000000 in
theorem isMade_any (s : Sh) (w : World) (S : Nat → Prop) (a : Option Addr) (c : Nat) (a' : Option Addr) (c' : Nat) (key : Int) (h : ShAt w S s a c a' c') :
    Calls Try.prog 45 #[.agg #[.slice a s.m.length c, .slice a' s.t.length c'], .int .i64 key] w fun e w' => e = .returned (.bool (s.mdI key)) ∧ Below w.heap.size w w' := by
  have K0 := Lib.hid (Ks.start (ty := 32) h)
  have hlm : s.m.length ≤ 9223372036854775807 := by have := h.1.1; have := h.1.2.1; omega
  clear h
  obtain ⟨x0, x1⟩ := K0.out.box
  cases hk : decide (0 ≤ key ∧ key < s.m.length)
  · have hv : s.mdI key = false := by
      cases hx : s.mdI key
      · rfl
      · have := mdI_bd hx
        rw [decide_eq_true this] at hk
        cases hk
    have HK := Lib.hid hk
    rw [hv]
    clear hk hv
    go_enter Try.func45, Try.ntmps45
    go_wp2_with fail
    refine (hasKey_any s _ S a c a' c' key K0.out.2).mono ?_
    rintro e w1 ⟨rfl, hb⟩
    rw [HK.out]
    have K1 := Lib.hid (K0.out.step hb)
    clear hb x0 x1
    go_wp2_with fail
    go_ret
    exact ⟨rfl, K1.out.done⟩
  · have hk2 : 0 ≤ key ∧ key < s.m.length := by simpa using hk
    obtain ⟨kn, rfl⟩ : ∃ kn : Nat, key = kn := ⟨key.toNat, by omega⟩
    have hkn : kn < s.m.length := by omega
    have HK := Lib.hid hk
    obtain ⟨v, hv⟩ : ∃ v, v = s.mdI (kn : Int) := ⟨_, rfl⟩
    have HV := Lib.hid hv
    rw [← hv]
    clear hk hv hk2
    go_enter Try.func45, Try.ntmps45
    go_wp2_with fail
    refine (hasKey_any s _ S a c a' c' kn K0.out.2).mono ?_
    rintro e w1 ⟨rfl, hb⟩
    rw [HK.out]
    have K1 := Lib.hid (K0.out.step hb)
    clear hb x0 x1
    obtain ⟨x0, x1⟩ := K1.out.box
    obtain ⟨b, o, ha, hbl, hc⟩ := md_cell K1.out.2 hkn
    rw [← HV.out] at hc
    subst ha
    go_wp2_with fail
    go_ret
    exact ⟨rfl, K1.out.done⟩

/-- All numbers are keys. -/
def hkB (s : Sh) (ks : List Int) : Bool := ks.all fun k => decide (0 ≤ k ∧ k < s.m.length)
theorem all_tk {p : Int → Bool} {l : List Int} {k : Nat} (h : k < l.length) : (l.take (k + 1)).all p = ((l.take k).all p && p l[k]) := by
  rw [List.take_succ_eq_append_getElem h, List.all_append]; simp
theorem all_fls {p : Int → Bool} {l : List Int} {k : Nat} (h : k < l.length) (hp : p l[k] = false) : l.all p = false := by
  cases hx : l.all p
  · rfl
  · rw [List.all_eq_true] at hx
    have := hx l[k] (List.getElem_mem h)
    rw [hp] at this; cases this

set_option maxHeartbeats 1000000 in
theorem hasKeys_any (s : Sh) (ks : List Int) (w : World) (S S' : Nat → Prop) (a : Option Addr) (c : Nat) (a' : Option Addr) (c' : Nat) (ak : Option Addr) (ck : Nat) (h : ShAt w S s a c a' c') (hks : IntsAt w S' ks ak ck) :
    Calls Try.prog 35 #[.agg #[.slice a s.m.length c, .slice a' s.t.length c'], .slice ak ks.length ck] w fun e w' => e = .returned (.bool (hkB s ks)) ∧ Below w.heap.size w w' := by
  have K0 := Lib.hid (Ks.start (ty := 32) h)
  have HI := Lib.hid (hks.alloc (.cells #[.slice a s.m.length c, .slice a' s.t.length c'] 32))
  have hkl : ks.length ≤ 9223372036854775807 := by have := hks.1; have := hks.2.1; omega
  obtain ⟨KL, hKL⟩ : ∃ n, n = ks.length := ⟨_, rfl⟩
  have HKL := Lib.hid hKL
  rw [← hKL] at hkl ⊢
  obtain ⟨r, hr⟩ : ∃ r, r = hkB s ks := ⟨_, rfl⟩
  have HR := Lib.hid hr
  rw [← hr]
  clear h hks hKL hr
  go_enter Try.func35, Try.ntmps35
  go_wp2_with fail
  go_loopw [9] (fun i wr => ∃ k : Nat, k ≤ KL ∧ i = .int .i64 k ∧ (ks.take k).all (fun k => decide (0 ≤ k ∧ k < s.m.length)) = true ∧ Ks S s a c a' c' 32 w wr ∧ IntsAt wr S' ks ak ck) (fun i _ => KL - (intOf i).toNat)
  case atStart => exact ⟨0, by omega, rfl, by simp, K0.out, HI.out⟩
  case round =>
    obtain ⟨k, hk, rfl, hall, hK, hI⟩ := hrel
    have HA := Lib.hid hall
    have HK := Lib.hid (And.intro hK hI)
    obtain ⟨x0, x1⟩ := hK.box
    clear hall hK hI K0 HI
    by_cases hlt : k < KL
    · have hlt2 : k < ks.length := by have := HKL.out; omega
      obtain ⟨b, o, rfl, hbl, _, hc⟩ := HK.out.2.get (Below.refl _ _) hlt2
      obtain ⟨key, hkey⟩ : ∃ key, key = ks[k] := ⟨_, rfl⟩
      rw [← hkey] at hc
      have HKEY := Lib.hid hkey
      obtain ⟨p, hp⟩ : ∃ p, p = decide (0 ≤ key ∧ key < s.m.length) := ⟨_, rfl⟩
      have HP := Lib.hid hp
      have HL2 := Lib.hid hlt2
      clear hkey hp
      go_wp2_with fail
      refine (hasKey_any s _ S a c a' c' key HK.out.1.2).mono ?_
      rintro e w1 ⟨rfl, hb⟩
      rw [← HP.out]
      have K1 := Lib.hid (And.intro (HK.out.1.step hb) (HK.out.2.below hb))
      clear hb x0 x1 hc
      cases p
      · go_wp2_with fail
        go_ret
        exact ⟨ret_bool (by rw [HR.out]; exact (all_fls HL2.out (by rw [← HKEY.out]; exact HP.out.symm)).symm), K1.out.1.done⟩
      · go_wp2_with fail
        go_roundw
        case rel => exact ⟨k + 1, by omega, by go_num, by rw [all_tk HL2.out, HA.out, ← HKEY.out, ← HP.out]; rfl, K1.out.1, K1.out.2⟩
        case measure => simp [intOf]; omega
    · have hall : hkB s ks = true := by
        have := HA.out
        rwa [List.take_of_length_le (by have := HKL.out; omega)] at this
      have HALL := Lib.hid hall
      clear hall
      go_wp2_with fail
      go_ret
      exact ⟨ret_bool (by rw [HR.out, HALL.out]), HK.out.1.done⟩

/-- Those of some keys that are made. -/
def MoPost (s : Sh) (ks : List Int) (w : World) (e : Ending) (w' : World) : Prop := ∃ v, e = .returned v ∧ NumRow w' w.heap.size v (ks.filter s.mdI) ∧ Below w.heap.size w w'

set_option maxRecDepth 100000 in
set_option maxHeartbeats 2000000 in
theorem madeOf_any (s : Sh) (ks : List Int) (w : World) (S S' : Nat → Prop) (a : Option Addr) (c : Nat) (a' : Option Addr) (c' : Nat) (ak : Option Addr) (ck : Nat) (h : ShAt w S s a c a' c') (hks : IntsAt w S' ks ak ck) (h100 : ks.length ≤ 1000000) :
    Calls Try.prog 48 #[.agg #[.slice a s.m.length c, .slice a' s.t.length c'], .slice ak ks.length ck] w (MoPost s ks w) := by
  have K0 := Lib.hid (Ks.start (ty := 32) h.lim)
  have HI := Lib.hid (hks.alloc (.cells #[.slice a s.m.length c, .slice a' s.t.length c'] 32))
  have hkl : ks.length ≤ 9223372036854775807 := by omega
  obtain ⟨KL, hKL⟩ : ∃ n, n = ks.length := ⟨_, rfl⟩
  have HKL := Lib.hid hKL
  rw [← hKL] at hkl h100 ⊢
  obtain ⟨iN, ni, nz0, nz1, nz2⟩ := info_parts infoInt
  have HIN := Lib.hid (And.intro ni (And.intro nz0 (And.intro nz1 nz2)))
  have hml : maxLen = 9223372036854775807 := rfl
  have HML := Lib.hid hml
  clear h hks hKL ni nz0 nz1 nz2 hml
  go_enter Try.func48, Try.ntmps48
  go_wp2_with fail
  go_loopw [5, 10] (fun v i wr => ∃ k : Nat, k ≤ KL ∧ i = .int .i64 k ∧ NumRow wr (w.heap.size + 1) v ((ks.take k).filter s.mdI) ∧ Ks (fun b => S b ∧ b < w.heap.size) s a c a' c' 32 w wr ∧ IntsAt wr (fun b => S' b ∧ b < w.heap.size + 1) ks ak ck) (fun _ i _ => KL - (intOf i).toNat)
  case atStart => exact ⟨0, by omega, rfl, World.ownsRow_nil _ _ _ _, K0.out, by have := HI.out.lim; simpa using this⟩
  case round =>
    obtain ⟨k, hk, rfl, hrow, hK, hI⟩ := hrel
    have HK := Lib.hid (And.intro hK (And.intro hI hrow))
    obtain ⟨x0, x1⟩ := hK.box
    have hwr := hK.size
    clear hK hI K0 HI
    obtain ⟨acc, hacc⟩ : ∃ acc, acc = (ks.take k).filter s.mdI := ⟨_, rfl⟩
    have HAC := Lib.hid hacc
    have hal : acc.length ≤ k := by
      rw [hacc]
      have h1 := List.length_filter_le s.mdI (ks.take k)
      have h2 : (ks.take k).length ≤ k := by rw [List.length_take]; omega
      omega
    rw [← hacc] at hrow
    have HROW := Lib.hid hrow
    obtain ⟨av, cv, rfl, _⟩ := ElRow.at (f := Value.int .i64) (e := 3) hrow
    have HAL := Lib.hid hal
    clear hrow hacc hal
    by_cases hlt : k < KL
    · have hlt2 : k < ks.length := by have := HKL.out; omega
      obtain ⟨b, o, rfl, hbl, _, hc⟩ := HK.out.2.1.get (Below.refl _ _) hlt2
      obtain ⟨key, hkey⟩ : ∃ key, key = ks[k] := ⟨_, rfl⟩
      rw [← hkey] at hc
      obtain ⟨p, hp⟩ : ∃ p, p = s.mdI key := ⟨_, rfl⟩
      have HP := Lib.hid hp
      have HST := Lib.hid (show (ks.take (k + 1)).filter s.mdI = acc ++ (if p = true then [key] else []) by
        rw [List.take_succ_eq_append_getElem hlt2, List.filter_append, ← HAC.out, ← hkey, hp]
        congr 1
        rw [List.filter_cons]
        split <;> rfl)
      clear hkey hp
      go_wp2_with fail
      refine (isMade_any s _ _ a c a' c' key HK.out.1.2).mono ?_
      rintro e w1 ⟨rfl, hb⟩
      rw [← HP.out]
      have K1 := Lib.hid (And.intro (HK.out.1.step hb) (And.intro (HK.out.2.1.below hb) (ElRow.below (f := Value.int .i64) (e := 3) HROW.out hb)))
      have hs1 := hb.size
      clear hb x0 x1 hc
      cases p
      · go_wp2_with fail
        go_roundw
        case rel => exact ⟨k + 1, by omega, by go_num, by rw [HST.out, if_neg (by decide), List.append_nil]; exact K1.out.2.2, K1.out.1, K1.out.2.1⟩
        case measure => simp [intOf]; omega
      · have hal := HAL.out
        have hrow : w1.ownsRow (w.heap.size + 1) 3 1 (.slice av acc.length cv) acc.length (acc.map (Value.int .i64)) := K1.out.2.2
        have HR2 := Lib.hid hrow
        clear hrow
        go_wp2_with (at_builtin; refine wpList_append_row _ rfl (.tmp 17) (.tmp 19) 26 rfl (w.heap.size + 1) 3 iN (.int .i64 0) 1 8 Try.underlying26 HIN.out.1 HIN.out.2.1 HIN.out.2.2.1 HIN.out.2.2.2 rfl (by decide) _ acc.length (acc.map (Value.int .i64)) rfl (World.ownsRow.alloc HR2.out _) ⟨w1.heap.size, 0, none⟩ 1 1 [.int .i64 key] rfl rfl ?d1 ?d2 (by decide) ?d3 ?d4 ?d5 ?_)
        case d1 => exact news1 _ _ _
        case d2 => simp [Value.oneCell']
        case d3 => rw [HML.out]; omega
        case d4 => omega
        case d5 => simp; omega
        intro v2 w2 hown hgr hnew
        have hN2 : NumRow w2 (w.heap.size + 1) v2 (acc ++ [key]) := by
          unfold NumRow
          rw [List.map_append, show (acc ++ [key]).length = acc.length + 1 by simp]
          exact hown
        have hlt1 := World.ownsRow.lt HR2.out
        have hB2 : Below (w.heap.size + 1) w1 w2 := ((Below.refl _ _).alloc (by omega) (.cells #[.int .i64 key] 3)).trans (below_grown hgr (by simp; omega) (fun b hb => (hlt1 b hb).1))
        have hK2 : Ks (fun b => S b ∧ b < w.heap.size) s a c a' c' 32 w w2 := K1.out.1.fr (D := fun b => w.heap.size + 1 ≤ b) ⟨hB2.os, hB2.tape, hB2.output, hB2.size, fun b _ hn => hB2.block b (by omega)⟩ (fun _ h => h) (fun _ h => h.2)
        have hI2 : IntsAt w2 (fun b => S' b ∧ b < w.heap.size + 1) ks (some ⟨b, o, none⟩) ck := K1.out.2.1.keep (fun _ h => h) (fun b hb _ => hB2.block b hb.2)
        have H2 := Lib.hid (And.intro hN2 (And.intro hK2 hI2))
        clear hown hgr hnew hN2 hB2 hK2 hI2 hlt1 hal
        go_wp2_with fail
        go_roundw
        case rel => exact ⟨k + 1, by omega, by go_num, by rw [HST.out, if_pos trivial]; exact H2.out.1, H2.out.2.1, H2.out.2.2⟩
        case measure => simp [intOf]; omega
    · have hq : ks.take k = ks := List.take_of_length_le (by have := HKL.out; omega)
      have HQ := Lib.hid hq
      clear hq
      go_wp2_with fail
      go_ret
      exact ⟨_, rfl, by rw [← HQ.out, ← HAC.out]; exact ownsRow_low HROW.out (by omega), HK.out.1.done⟩

/-- All keys of a list are built. -/
theorem allBuilt_any (ks : List Int) (w : World) (S : Nat → Prop) (ak : Option Addr) (ck : Nat) (bm nm : Nat) (f : Int → Bool) (hks : IntsAt w S ks ak ck) (hm : MapB w bm nm f) :
    Calls Try.prog 47 #[.slice ak ks.length ck, .map (some bm)] w fun e w' => e = .returned (.bool (ks.all f)) ∧ w = w' := by
  have HI := Lib.hid hks
  have HM := Lib.hid hm
  have hkl : ks.length ≤ 9223372036854775807 := by have := hks.1; have := hks.2.1; omega
  obtain ⟨KL, hKL⟩ : ∃ n, n = ks.length := ⟨_, rfl⟩
  have HKL := Lib.hid hKL
  rw [← hKL] at hkl ⊢
  obtain ⟨r, hr⟩ : ∃ r, r = ks.all f := ⟨_, rfl⟩
  have HR := Lib.hid hr
  rw [← hr]
  clear hks hKL hr hm
  go_enter Try.func47, Try.ntmps47
  go_wp2_with fail
  go_loop [9] (fun i => ∃ k : Nat, k ≤ KL ∧ i = .int .i64 k ∧ (ks.take k).all f = true) (fun i => KL - (intOf i).toNat)
  case atStart => exact ⟨0, by omega, rfl, by simp⟩
  case round =>
    obtain ⟨k, hk, rfl, hall⟩ := hrel
    have HA := Lib.hid hall
    clear hall
    by_cases hlt : k < KL
    · have hlt2 : k < ks.length := by have := HKL.out; omega
      obtain ⟨b, o, rfl, hbl, _, hc⟩ := HI.out.get (Below.refl _ _) hlt2
      obtain ⟨key, hkey⟩ : ∃ key, key = ks[k] := ⟨_, rfl⟩
      have hkok : i64ok key := by rw [hkey]; exact HI.out.2.2.1 _ (List.getElem_mem _)
      rw [← hkey] at hc
      have HKEY := Lib.hid hkey
      have hlook := HM.out.look Try.underlying67 hkok
      obtain ⟨p, hp⟩ : ∃ p, p = f key := ⟨_, rfl⟩
      rw [← hp] at hlook
      have HP := Lib.hid hp
      have HL2 := Lib.hid hlt2
      clear hkey hp hkok
      cases p
      · go_wp2_with fail
        go_ret
        exact ⟨ret_bool (by rw [HR.out]; exact (all_fls HL2.out (by rw [← HKEY.out]; exact HP.out.symm)).symm), rfl⟩
      · go_wp2_with fail
        go_round
        case rel => exact ⟨k + 1, by omega, by go_num, by rw [all_tk HL2.out, HA.out, ← HKEY.out, ← HP.out]; rfl⟩
        case measure => simp [intOf]; omega
    · have hall : ks.all f = true := by
        have := HA.out
        rwa [List.take_of_length_le (by have := HKL.out; omega)] at this
      have HALL := Lib.hid hall
      clear hall
      go_wp2_with fail
      go_ret
      exact ⟨ret_bool (by rw [HR.out, HALL.out]), rfl⟩
end Go.Proofs.Ytochgmbeomfkpaa
