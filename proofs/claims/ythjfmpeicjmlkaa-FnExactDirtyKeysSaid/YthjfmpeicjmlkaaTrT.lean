/- markTraceS, heldTraceS -/
import Derived.Test.YthjfmpeicjmlkaaTrQ
namespace Go.Proofs.Ythjfmpeicjmlkaa
open Go.RowKit

theorem ret_num {i j : Nat} (h : i = j) : Ending.returned (.int .i64 (i : Int)) = .returned (.int .i64 (j : Int)) := by rw [h]
/-- A marked trace. -/
def mt (t : Tr) (K : Nat) : Rt := ⟨(K : Int), marks (K + 1) (t.u.length * 2), ((K + 1 + t.u.length * 2 : Nat) : Int)⟩
/-- The marks that the first k take. -/
def mN : List Tr → Nat → Nat
  | [], _ => 0
  | _ :: _, 0 => 0
  | t :: r, k + 1 => t.u.length * 2 + 2 + mN r k
def trM (l : List Tr) : Nat := mN l l.length
/-- Traces of which the first k are marked. -/
def mkK : List Tr → Nat → Nat → List Rt
  | [], _, _ => []
  | t :: r, _, 0 => (t :: r).map Tr.raw
  | t :: r, K, k + 1 => mt t K :: mkK r (K + (t.u.length * 2 + 2)) k
theorem mN_zero : ∀ l, mN l 0 = 0
  | [] => rfl
  | _ :: _ => rfl
theorem mkK_zero : ∀ l K, mkK l K 0 = l.map Tr.raw
  | [], _ => rfl
  | _ :: _, _ => rfl
theorem mkK_len : ∀ l K k, (mkK l K k).length = l.length
  | [], _, _ => rfl
  | t :: r, K, 0 => by simp [mkK]
  | t :: r, K, k + 1 => by simp [mkK, mkK_len r]
theorem mN_succ : ∀ (l : List Tr) (k : Nat) (h : k < l.length), mN l (k + 1) = mN l k + (l[k].u.length * 2 + 2)
  | [], _, h => by simp at h
  | t :: r, 0, _ => by simp [mN, mN_zero]
  | t :: r, k + 1, h => by
    have := mN_succ r k (by simpa using h)
    rw [mN, this]
    simp only [mN, List.getElem_cons_succ]
    omega
theorem mN_le : ∀ (l : List Tr) (k : Nat), mN l k ≤ 2 * trN l
  | [], _ => by simp [mN]
  | t :: r, 0 => by simp [mN]
  | t :: r, k + 1 => by have := mN_le r k; simp only [mN, trN]; omega
theorem mkK_at : ∀ (l : List Tr) (K k : Nat) (h : k < l.length), (mkK l K k)[k]? = some l[k].raw
  | [], _, _, h => by simp at h
  | t :: r, K, 0, _ => by simp [mkK]
  | t :: r, K, k + 1, h => by
    have := mkK_at r (K + (t.u.length * 2 + 2)) k (by simpa using h)
    simp only [mkK, List.getElem?_cons_succ, List.getElem_cons_succ]
    exact this
theorem mkK_set : ∀ (l : List Tr) (K k : Nat) (h : k < l.length), (mkK l K k).set k (mt l[k] (K + mN l k)) = mkK l K (k + 1)
  | [], _, _, h => by simp at h
  | t :: r, K, 0, _ => by simp [mkK, mN, mkK_zero]
  | t :: r, K, k + 1, h => by
    have := mkK_set r (K + (t.u.length * 2 + 2)) k (by simpa using h)
    simp only [mkK, mN, List.set_cons_succ, List.getElem_cons_succ]
    rw [← this]
    congr 3
    omega
theorem mkK_done : ∀ (l : List Tr) (K k j : Nat) (h : k < l.length), k < j → (mkK l K j)[k]? = some (mt l[k] (K + mN l k))
  | [], _, _, _, h, _ => by simp at h
  | t :: r, K, k, 0, _, hj => by omega
  | t :: r, K, 0, j + 1, _, _ => by simp [mkK, mN]
  | t :: r, K, k + 1, j + 1, h, hj => by
    have := mkK_done r (K + (t.u.length * 2 + 2)) k j (by simpa using h) (by omega)
    simp only [mkK, mN, List.getElem?_cons_succ, List.getElem_cons_succ]
    rw [this]
    congr 2
    omega

/-- Traces, all marked, in memory of their own. -/
def TrsMk (w : World) (D : Nat → Prop) (l : List Tr) (K : Nat) (a : Option Addr) (c : Nat) : Prop := ∃ us, TrsOw w 0 (.slice a l.length c) (mkK l K l.length) us ∧ ∀ b, trD (.slice a l.length c) us b → D b
section
variable {w w' : World} {D : Nat → Prop} {l : List Tr} {K : Nat} {a : Option Addr} {c : Nat}
theorem TrsMk.fr {D' : Nat → Prop} (h : TrsMk w D l K a c) (hf : Fr D' w w') (hD : ∀ b, D b → ¬ D' b) : TrsMk w' D l K a c := by
  obtain ⟨us, h1, h2⟩ := h
  exact ⟨us, h1.fr hf (fun b hb => hD b (h2 b hb)), h2⟩
theorem TrsMk.below (h : TrsMk w D l K a c) (hb : Below w.heap.size w w') : TrsMk w' D l K a c := TrsMk.fr (D' := fun _ => False) h (Fr.of_below hb) (fun _ _ hf => hf)
end
def MarkedQO (l : List Tr) (k : Nat) (D : Nat → Prop) (a : Option Addr) (c : Nat) (w : World) (e : Ending) (w' : World) : Prop := e = .returned (.int .i64 ((k + trM l : Nat) : Int)) ∧ Fr D w w' ∧ TrsMk w' D l k a c
def MqRel (l : List Tr) (K : Nat) (D : Nat → Prop) (v : Value) (us : List Value) (w : World) (i q : Value) (wr : World) : Prop := ∃ k : Nat, k ≤ l.length ∧ i = .int .i64 k ∧ q = .int .i64 ((K + mN l k : Nat) : Int) ∧ TrsOw wr 0 v (mkK l K k) us ∧ Fr D w wr

set_option maxRecDepth 100000 in
set_option maxHeartbeats 4000000 in
theorem markQ_ow (w : World) (D : Nat → Prop) (l : List Tr) (a : Option Addr) (c K : Nat) (h : TracesOw w D l a c) (hl : trN l ≤ 1048576) (hk : K ≤ 90000000) :
    Calls Try.prog 13 #[.slice a l.length c, .int .i64 K] w (MarkedQO l K D a c w) := by
  obtain ⟨us, h, hD⟩ := h
  have HO := Lib.hid h
  have HD := Lib.hid hD
  have HN := Lib.hid hl
  have hlen : l.length ≤ 1048576 := by have := trN_ge l; omega
  clear h hD hl
  go_enter Try.func13, Try.ntmps13
  go_wp2_with fail
  go_loopw [5, 1] (fun i q wr => MqRel l K D (.slice a l.length c) us w i q wr ∧ True) (fun i _ _ => l.length - (intOf i).toNat)
  case atStart => exact ⟨⟨0, by omega, rfl, by rw [mN_zero]; rfl, by rw [mkK_zero]; exact HO.out, Fr.of_below (Below.refl _ _)⟩, trivial⟩
  case round =>
    obtain ⟨⟨k, hk, rfl, rfl, hr, hf⟩, -⟩ := hrel
    have HF := Lib.hid hf
    have HR := Lib.hid hr
    have hml := mN_le l k
    have hnn := HN.out
    obtain ⟨m, hm⟩ : ∃ m, m = K + mN l k := ⟨_, rfl⟩
    have HM := Lib.hid hm
    have hmb : m ≤ 95000000 := by omega
    rw [← hm]
    clear hf hr hml hnn hm HO
    by_cases hlt : k < l.length
    · have hkl : k < (mkK l K k).length := by rw [mkK_len]; exact hlt
      have hge : (mkK l K k)[k] = l[k].raw := by have := mkK_at l K k hlt; rw [List.getElem?_eq_getElem hkl] at this; injection this
      obtain ⟨g, cap, u, hv, hgl, -, hu, hfu, c0, c1, c2, fz⟩ := HR.out.get k hkl
      rw [mkK_len] at hv
      simp only [Value.slice.injEq, true_and] at hv
      obtain ⟨rfl, rfl⟩ := hv
      have HSET := Lib.hid (mkK_set l K k hlt)
      rw [← HM.out] at HSET
      have hun : l[k].u.length ≤ 1048576 := by have := trN_snoc l k hlt; have := trN_rest l (k + 1); have := HN.out; omega
      have HNX := Lib.hid (mN_succ l k hlt)
      obtain ⟨t, ht⟩ : ∃ t, t = l[k] := ⟨_, rfl⟩
      rw [hge] at hfu c0 c2
      rw [← ht] at hfu c0 c2 hge HSET hun HNX
      rw [show (t.raw.f.length / 2) = t.u.length by show (pcl t.u).length / 2 = _; rw [pcl_len, Nat.mul_div_cancel _ (by decide)]] at hfu
      have f0 := fz (k * 3)
      have f1 := fz (k * 3 + 1)
      have f2 := fz (k * 3 + 2)
      have HDG := Lib.hid (HD.out g (.inl rfl))
      have HDU := Lib.hid (fun b (hb : u.ownBlock = some b) => HD.out b (.inr ⟨u, List.mem_of_getElem? hu, hb⟩))
      have hug : u.ownBlock ≠ some g := fun hb => HR.out.ne u (List.mem_of_getElem? hu) g hb rfl
      -- the key
      have s1 := HR.out.setN k hkl (k * 3) m ⟨m, pcl t.u, t.v⟩ (by rw [hge]; rfl) (.inl ⟨rfl, rfl, by rw [hge]; rfl⟩)
      have hkl1 : k < ((mkK l K k).set k ⟨m, pcl t.u, t.v⟩).length := by rw [List.length_set]; exact hkl
      obtain ⟨W, hW⟩ : ∃ W, W = wr.setCell ⟨g, k * 3, none⟩ (.int .i64 m) := ⟨_, rfl⟩
      have HWW := Lib.hid hW
      have hfW : FRow W 0 u t.u.length (pcl t.u) := by rw [hW]; exact ownsRow_setCell_other hfu (a := ⟨g, k * 3, none⟩) hug _
      have HFR1 := Lib.hid (show Fr D w W by rw [hW]; exact HF.out.set' ⟨g, k * 3, none⟩ HDG.out _)
      rw [← hW] at s1
      have HS1 := Lib.hid s1
      have HKL := Lib.hid hkl1
      have HU := Lib.hid hu
      have HFW := Lib.hid hfW
      clear s1 hkl1 hu hfW hW hge hfu fz hkl hug
      have hm1 : m + 1 ≤ 95000001 := by omega
      go_wp2_with fail
      rw [← HWW.out]
      refine (markF_any W 0 u t.u.length _ (m + 1) HFW.out (by omega) (by omega)).mono ?_
      rintro e w1 ⟨rfl, hg, hgr⟩
      have hfr2 : Fr (fun b => u.ownBlock = some b) W w1 := ⟨hgr.os, hgr.tape, hgr.output, hgr.size, fun b hb hn => hgr.block b hb (fun e => hn e.symm)⟩
      have s2 := TrsOw.turn HS1.out k HKL.out ⟨m, marks (m + 1) (t.u.length * 2), t.v⟩ u HU.out (by simp) (by simp) (by show FRow w1 0 u ((marks (m + 1) (t.u.length * 2)).length / 2) _; rw [marks_len, Nat.mul_div_cancel _ (by decide)]; exact hg) hfr2
      have hkl2 : k < (((mkK l K k).set k ⟨m, pcl t.u, t.v⟩).set k ⟨m, marks (m + 1) (t.u.length * 2), t.v⟩).length := by rw [List.length_set]; exact HKL.out
      obtain ⟨g', cap', u', hv', -, -, -, -, d0, d1, d2, fz⟩ := s2.get k hkl2
      simp only [Value.slice.injEq, Option.some.injEq, Addr.mk.injEq, and_true] at hv'
      obtain ⟨rfl, -⟩ := hv'
      have s3 := s2.setN k hkl2 (k * 3 + 2) ((m + 1 + t.u.length * 2 : Nat) : Int) (mt t m) (by simp [mt]) (.inr ⟨rfl, rfl, by simp [mt]⟩)
      rw [List.set_set, List.set_set, HSET.out] at s3
      have HS3 := Lib.hid s3
      have HFR3 := Lib.hid ((HFR1.out.trans (D' := D) ⟨hfr2.1, hfr2.2.1, hfr2.2.2.1, hfr2.2.2.2.1, fun b hb hn => hfr2.2.2.2.2 b hb (fun hu => hn (HDU.out b hu))⟩ (fun b hb => .inl hb)).set' ⟨g, k * 3 + 2, none⟩ HDG.out (.int .i64 ((m + 1 + t.u.length * 2 : Nat) : Int)))
      have h2f := fz (k * 3 + 2)
      obtain ⟨y2, hy2⟩ : ∃ y, y = (((mkK l K k).set k ⟨m, pcl t.u, t.v⟩).set k ⟨m, marks (m + 1) (t.u.length * 2), t.v⟩)[k].v := ⟨_, rfl⟩
      rw [← hy2] at d2
      obtain ⟨q, hq⟩ : ∃ q : Nat, q = m + 1 + t.u.length * 2 := ⟨_, rfl⟩
      have hqb : q ≤ 99000000 := by omega
      have HQ := Lib.hid (show K + mN l (k + 1) = q + 1 by rw [HNX.out]; have := HM.out; omega)
      rw [← hq] at HS3 HFR3 ⊢
      clear hg hgr hfr2 s2 hkl2 fz s3 d0 d1 hy2 hq c0 c1 c2 f0 f1 f2
      go_wp2_with fail
      go_roundw
      case rel => exact ⟨⟨k + 1, by omega, by go_num, by rw [HQ.out]; rfl, HS3.out, HFR3.out⟩, trivial⟩
      case measure => simp [intOf]; omega
    · have he : k = l.length := by omega
      have HE := Lib.hid he
      have HMM := Lib.hid (show m = K + trM l by rw [HM.out, he]; rfl)
      have hq := HR.out
      rw [he] at hq
      have HQ := Lib.hid hq
      clear hq he
      go_wp2_with fail
      go_ret
      exact ⟨ret_num HMM.out, HF.out, us, HQ.out, HD.out⟩

end Go.Proofs.Ythjfmpeicjmlkaa
