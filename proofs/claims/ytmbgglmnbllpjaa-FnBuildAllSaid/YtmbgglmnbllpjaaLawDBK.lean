/- the walk of laws.FnBuildKey -/
import Derived.Test.YtmbgglmnbllpjaaDrawBK
import Derived.Test.YtmbgglmnbllpjaaBuildI
import Derived.Test.YtmbgglmnbllpjaaBuildS
import Derived.Test.YtmbgglmnbllpjaaAllI
import Derived.Test.YtmbgglmnbllpjaaBnds
import Derived.Test.YtmbgglmnbllpjaaBs1
namespace Go.Proofs.Ytmbgglmnbllpjaa
open Go.RowKit

/-- What BuildAll answers, key by key. -/
theorem ba_get {s : Sh} {l : List Int} (h : baB s l = true) {k : Nat} (hk : k < s.m.length) (hk' : k < (baL s l).length) : (baL s l)[k] = vsS s l k := by
  have e : baL s l = baVs s l s.m.length := by unfold baL; rw [if_pos h]
  apply Option.some.inj
  rw [← List.getElem?_eq_getElem hk', e]
  unfold baVs
  simp [hk]
theorem ba_len {s : Sh} {l : List Int} (h : baB s l = true) : (baL s l).length = s.m.length := by
  unfold baL; rw [if_pos h, baVs_len]
/-- A made key has the value of its task with all values. -/
theorem ba_task {s : Sh} {l : List Int} (h : baB s l = true) {k : Nat} (hm : s.mdI (k : Int) = true) (hk : k < s.m.length) : tvV (s.tk k) (baL s l) = vsS s l (k : Int) := by
  have h' := h
  unfold baB baTo at h'
  rw [Bool.and_eq_true, List.all_eq_true] at h'
  obtain ⟨hok, hll, _⟩ := inOk_of h'.1
  have hb := baL_bd s l
  have hv : vok (baL s l) = true := by
    unfold vok
    rw [Bool.and_eq_true, decide_eq_true_eq, List.all_eq_true]
    exact ⟨hb.2, fun x hx => by have := hb.1 x hx; simp [vin]; omega⟩
  unfold tvV
  rw [Sh.tk_ok hok k, hv]
  simp only [Bool.and_self, if_true]
  have hf := (Sh.tk_fit hok k).1
  have h1 := (pre_keys (fun j => decide (0 ≤ j)) (vsS s l) (vf (baL s l)) (fun j hj => by
    have hj0 : 0 ≤ j := by simpa using hj
    obtain ⟨i, rfl⟩ : ∃ i : Nat, j = i := ⟨j.toNat, by omega⟩
    by_cases hi : i < s.m.length
    · have hi' : i < (baL s l).length := by rw [ba_len h]; exact hi
      rw [vf_in hi', ba_get h hi hi']
    · rw [vf_out (by rw [ba_len h]; exact hi), vsS_free hok (by
        cases hx : s.mdI (i : Int)
        · rfl
        · have := mdI_bd hx; omega), vf_out (by omega)]) (s.tk k) hf).2 (fun j hj => by have := (T.kys_bd _ _ hf).1 j hj; simpa using this.1)
  rw [h1.1, vsS_made hok hm (h'.2 k (by simpa using hk))]
  rfl

theorem bk_in {s : Sh} {l : List Int} {key : Int} (h : bkOk s l key = true) : 0 ≤ key ∧ key < s.m.length := by
  unfold bkOk at h
  simp only [Bool.and_eq_true, decide_eq_true_eq] at h
  exact h.2.1

set_option maxRecDepth 100000 in
set_option maxHeartbeats 4000000 in
theorem walk_buildKey (w : World) (a : Option Addr) (n c : Nat) (h : CodeAt w a n c) :
    Calls Try.prog 8 #[.slice a n c] w fun e w' => e = .returned (.bool true) ∧ Below w.heap.size w w' := by
  have hn := h.1
  have hc := h.2.1
  have HC := Lib.hid h
  clear h
  by_cases hl : 1048576 < n
  · go_enter Try.func8, Try.ntmps8
    go_wp2_with fail
    go_ret
    exact ⟨rfl, Below.refl _ _⟩
  go_enter Try.func8, Try.ntmps8
  go_wp2_with fail
  refine (drawBuildKey_any _ a n c HC.out).mono ?_
  rintro e w1 ⟨s, av, cv, a', c', l, ai, ci, key, rfl, hat, hin, htl, hml, hnl, hll, hb⟩
  have hsz1 := hb.size
  have HT1 := Lib.hid (hat.alloc (.cells #[.slice av s.m.length cv, .slice a' s.t.length c'] 50))
  have HI1 := Lib.hid (hin.alloc (.cells #[.slice av s.m.length cv, .slice a' s.t.length c'] 50))
  have HB1 := Lib.hid (Blk.new w1 50 #[.slice av s.m.length cv, .slice a' s.t.length c'])
  have HX1 := Lib.hid (hb.alloc hsz1 (.cells #[.slice av s.m.length cv, .slice a' s.t.length c'] 50))
  obtain ⟨v, hv⟩ : ∃ v, v = bkV s l key := ⟨_, rfl⟩
  obtain ⟨b, hbb⟩ : ∃ b, b = bkOk s l key := ⟨_, rfl⟩
  have HV := Lib.hid hv
  have HBB := Lib.hid hbb
  have HTL := Lib.hid htl
  clear hat hin hb HC hv hbb htl
  go_wp2_with fail
  refine (implBuildKey_any s l key _ _ _ av cv a' c' ai ci HT1.out HI1.out).mono ?_
  rintro e w2 ⟨rfl, hb⟩
  rw [← HV.out, ← HBB.out]
  have hsz2 := hb.size
  simp only [World.size_alloc] at hsz2
  have HT2 := Lib.hid (HT1.out.below hb)
  have HI2 := Lib.hid (HI1.out.below hb)
  have HB2 := Lib.hid (HB1.out.below hb (by simp))
  have HX2 := Lib.hid (HX1.out.trans (hb.mono (by simp; omega)))
  clear hb HT1 HI1 HB1 HX1
  obtain ⟨x0, x1, f0, f1⟩ := HB2.out.two
  go_wp2_with fail
  refine (specBuildKey_any s l key _ _ _ av cv a' c' ai ci HT2.out (by omega) HI2.out).mono ?_
  rintro e w3 ⟨rfl, hb⟩
  rw [← HV.out, ← HBB.out]
  have hsz3 := hb.size
  have HT3 := Lib.hid (HT2.out.below hb)
  have HI3 := Lib.hid (HI2.out.below hb)
  have HB3 := Lib.hid (HB2.out.below hb (by omega))
  have HX3 := Lib.hid (HX2.out.trans (hb.mono (by omega)))
  clear hb HT2 HI2 HB2 HX2 x0 x1 f0 f1
  obtain ⟨x0, x1, f0, f1⟩ := HB3.out.two
  have hnv : (v != v) = false := by simp
  have hnb : (b != b) = false := by simp
  go_wp2_with fail
  clear hnv hnb
  refine (implAll_any s l _ _ _ av cv a' c' ai ci HT3.out HI3.out).mono ?_
  rintro e w4 ⟨hb, v4, rfl, hr4⟩
  have hbd := baL_bd s l
  obtain ⟨L, hL⟩ : ∃ L, L = baL s l := ⟨_, rfl⟩
  rw [← hL] at hr4 hbd
  obtain ⟨a4, c4, rfl, hi4⟩ := hr4.at (fun x hx => by have := hbd.1 x hx; unfold i64ok; omega)
  obtain ⟨z, hz⟩ : ∃ z, z = baB s l := ⟨_, rfl⟩
  rw [← hz]
  have hsz4 := hb.size
  have HT4 := Lib.hid (HT3.out.below hb)
  have HL4 := Lib.hid hi4
  have HB4 := Lib.hid (HB3.out.below hb (by omega))
  have HX4 := Lib.hid (HX3.out.trans (hb.mono (by omega)))
  have HLL := Lib.hid hL
  have HZ := Lib.hid hz
  clear hb HT3 HI3 HB3 HX3 x0 x1 f0 f1 hr4 hi4 hL hz hbd
  cases z
  · go_wp2_with fail
    go_ret
    exact ⟨rfl, HX4.out⟩
  cases b
  · go_wp2_with fail
    go_ret
    exact ⟨rfl, HX4.out⟩
  have hkey := bk_in HBB.out.symm
  obtain ⟨k, rfl⟩ : ∃ k : Nat, key = k := ⟨key.toNat, by omega⟩
  have hkm : k < s.m.length := by omega
  have hkt : k < s.t.length := by have := HTL.out; omega
  have hlen : L.length = s.m.length := by rw [HLL.out]; exact ba_len HZ.out.symm
  have hkl : k < L.length := by omega
  have hvv : v = vsS s l (k : Int) := by
    have := HV.out
    unfold bkV at this
    rw [if_pos HBB.out.symm] at this
    exact this
  have hLk : L[k] = v := by
    rw [hvv]
    have e := HLL.out
    subst e
    exact ba_get HZ.out.symm hkm hkl
  have htk : s.tk k = s.t[k] := getD_len hkt
  have hmd : s.m[k] = true → tvV s.t[k] L = v := fun hm => by
    rw [hvv, HLL.out, ← htk]
    refine ba_task HZ.out.symm ?_ hkm
    rw [mdI_nat]
    unfold Sh.md
    rw [getD_len hkm]
    exact hm
  obtain ⟨bt, ot, a2, c2, rfl, _, _, e0, e1, e2, hs, ok1, ok2⟩ := HT4.out.2.elem (Below.refl _ _) hkt
  obtain ⟨t, ht⟩ : ∃ t, t = s.t[k] := ⟨_, rfl⟩
  rw [← ht] at e0 e1 e2 hs hmd
  obtain ⟨mk, hmk⟩ : ∃ m, m = s.m[k] := ⟨_, rfl⟩
  rw [← hmk] at hmd
  have HMD := Lib.hid hmd
  have HMK := Lib.hid hmk
  have HLK := Lib.hid hLk
  have HS := Lib.hid hs
  have HLN := Lib.hid hlen
  obtain ⟨x0, x1, f0, f1⟩ := HB4.out.two
  clear hmd hmk hLk hs hlen hvv htk ht hkey
  go_wp2_with fail
  refine (implValue_any t L _ _ _ a2 a4 c2 c4 HS.out HL4.out).mono ?_
  rintro e w5 ⟨rfl, hb⟩
  obtain ⟨u, hu⟩ : ∃ u, u = tvV t L := ⟨_, rfl⟩
  obtain ⟨o, ho⟩ : ∃ u, u = (t.ok && vok L) := ⟨_, rfl⟩
  rw [← hu, ← ho]
  have HU := Lib.hid hu
  have hbk := HB4.out.below hb (by omega)
  obtain ⟨bi, oi, rfl, _, _, hci⟩ := HL4.out.get hb hkl
  obtain ⟨bm, om, rfl, _, _, hcm⟩ := HT4.out.1.get hb hkm
  rw [HLK.out] at hci
  rw [← HMK.out] at hcm
  have HX5 := Lib.hid (HX4.out.trans (hb.mono (by omega)))
  clear hb x0 x1 f0 f1 e0 e1 e2 hu ho
  obtain ⟨x0, x1, f0, f1⟩ := hbk.two
  clear hbk
  have hvv : (v == v) = true := by simp
  cases mk
  · go_wp2_with fail
    go_ret
    exact ⟨rfl, HX5.out⟩
  · have huv : u = v := by rw [HU.out]; exact HMD.out rfl
    subst huv
    go_wp2_with fail
    go_ret
    exact ⟨rfl, HX5.out⟩
end Go.Proofs.Ytmbgglmnbllpjaa
