/- impl.BuildKey -/
import Derived.Test.YtjbggeeadodmpaaShG
namespace Go.Proofs.Ytjbggeeadodmpaa
open Go.RowKit

noncomputable def bkOk (s : Sh) (l : List Int) (key : Int) : Bool := inOk s l && (decide (0 ≤ key ∧ key < s.m.length) && okS s l key)
noncomputable def bkV (s : Sh) (l : List Int) (key : Int) : Int := if bkOk s l key = true then vsS s l key else 0
def BkPost (s : Sh) (l : List Int) (key : Int) (w : World) (e : Ending) (w' : World) : Prop := e = .returned (.tuple #[.int .i64 (bkV s l key), .bool (bkOk s l key)]) ∧ Below w.heap.size w w'
theorem BkPost.no {s : Sh} {l : List Int} {key : Int} {w w' : World} (h : bkOk s l key = false) (hb : Below w.heap.size w w') : BkPost s l key w (.returned (.tuple #[.int .i64 0, .bool false])) w' := by
  unfold BkPost bkV
  rw [h]; exact ⟨rfl, hb⟩
theorem BkPost.yes {s : Sh} {l : List Int} {key : Int} {w w' : World} {v : Int} (h : bkOk s l key = true) (hv : v = vsS s l key) (hb : Below w.heap.size w w') : BkPost s l key w (.returned (.tuple #[.int .i64 v, .bool true])) w' := by
  unfold BkPost bkV
  rw [h, hv]; exact ⟨rfl, hb⟩

theorem PRow.cell {w : World} {b g n k i : Nat} (h : PRow w b g n k) (hi : i < k) : w.cell? ⟨b, i, none⟩ = some (.pointer (some ⟨g + i, 0, none⟩)) := by
  obtain ⟨cs, h1, _, h3⟩ := h
  rw [h1.cell i, h3 i hi]; simp [ndP]
theorem PRow.fr {D : Nat → Prop} {w w' : World} {b g n k : Nat} (h : PRow w b g n k) (hf : Fr D w w') (hD : ¬ D b) : PRow w' b g n k := by
  obtain ⟨cs, h1, h2, h3⟩ := h
  exact ⟨cs, h1.fr hf hD, h2, h3⟩
theorem below_nd {B : Nat} {w w1 w2 : World} {g n : Nat} (h : Below B w w1) (hf : Fr (ndB g n) w1 w2) (hg : B ≤ g) (hB : B ≤ w1.heap.size) : Below B w w2 :=
  h.trans ⟨hf.1, hf.2.1, hf.2.2.1, hf.2.2.2.1, fun b hb => hf.2.2.2.2 b (by omega) (fun h => by have := h.1; omega)⟩

theorem nds_start {w : World} {S : Nat → Prop} {s : Sh} {l : List Int} {g n : Nat} {m : Nat → Nat → Value} (hok : s.ok = true) (h : Nds w S s g n m (vf l) (fun k => !s.mdI k)) :
    Nds w S s g n m (fun k => if (!s.mdI k) = true then vsS s l k else vf l k) (fun k => !s.mdI k) :=
  h.congr (fun _ _ _ _ => rfl) (fun k _ => by
    show vf l (k : Int) = if (!s.mdI (k : Int)) = true then vsS s l k else vf l k
    cases hm : s.mdI (k : Int)
    · rw [vsS_free hok hm]; simp
    · simp) (fun _ _ => rfl)

set_option maxRecDepth 100000 in
set_option maxHeartbeats 2000000 in
theorem implBuildKey_any (s : Sh) (l : List Int) (key : Int) (w : World) (S S' : Nat → Prop) (a : Option Addr) (c : Nat) (a' : Option Addr) (c' : Nat) (ai : Option Addr) (ci : Nat) (h : ShAt w S s a c a' c') (hl : IntsAt w S' l ai ci) :
    Calls Try.prog 84 #[.agg #[.slice a s.m.length c, .slice a' s.t.length c'], .slice ai l.length ci, .int .i64 key] w (BkPost s l key w) := by
  have K0 := Lib.hid (Ks.start (ty := 47) h)
  have L0 := Lib.hid (hl.alloc (.cells #[.slice a s.m.length c, .slice a' s.t.length c'] 47))
  clear h hl
  obtain ⟨x0, x1⟩ := K0.out.box
  cases hin : inOk s l
  · have HNO := Lib.hid (show bkOk s l key = false by unfold bkOk; rw [hin]; rfl)
    have HI := Lib.hid hin
    clear hin
    go_enter Try.func84, Try.ntmps84
    go_wp2_with fail
    refine (implInputs_any s l _ S S' a c a' c' ai ci K0.out.2 L0.out).mono ?_
    rintro e w1 ⟨rfl, hb⟩
    rw [HI.out]
    have K1 := Lib.hid (K0.out.step hb)
    clear hb x0 x1
    go_wp2_with fail
    go_ret2
    exact BkPost.no HNO.out K1.out.done
  cases hk : decide (0 ≤ key ∧ key < s.m.length)
  · have HNO := Lib.hid (show bkOk s l key = false by unfold bkOk; rw [hk]; simp)
    have HI := Lib.hid hin
    have HK := Lib.hid hk
    clear hin hk
    go_enter Try.func84, Try.ntmps84
    go_wp2_with fail
    refine (implInputs_any s l _ S S' a c a' c' ai ci K0.out.2 L0.out).mono ?_
    rintro e w1 ⟨rfl, hb⟩
    rw [HI.out]
    have K1 := Lib.hid (K0.out.step hb)
    clear hb x0 x1
    obtain ⟨x0, x1⟩ := K1.out.box
    go_wp2_with fail
    refine (hasKey_any s _ S a c a' c' key K1.out.2).mono ?_
    rintro e w2 ⟨rfl, hb⟩
    rw [HK.out]
    have K2 := Lib.hid (K1.out.step hb)
    clear hb x0 x1
    go_wp2_with fail
    go_ret2
    exact BkPost.no HNO.out K2.out.done
  · have hk2 : 0 ≤ key ∧ key < s.m.length := by simpa using hk
    obtain ⟨kn, rfl⟩ : ∃ kn : Nat, key = kn := ⟨key.toNat, by omega⟩
    have hkn : kn < s.m.length := by omega
    have hbk : bkOk s l kn = okS s l kn := by unfold bkOk; rw [hin, hk]; rfl
    have HBK := Lib.hid hbk
    have HI := Lib.hid hin
    have HK := Lib.hid hk
    have h10 : s.m.length ≤ 10 := (Sh.ok_iff.1 (inOk_of hin).1).1
    clear hin hk hbk hk2
    go_enter Try.func84, Try.ntmps84
    go_wp2_with fail
    refine (implInputs_any s l _ S S' a c a' c' ai ci K0.out.2 L0.out).mono ?_
    rintro e w1 ⟨rfl, hb⟩
    rw [HI.out]
    have K1 := Lib.hid (K0.out.step hb)
    have L1 := Lib.hid (L0.out.below hb)
    clear hb x0 x1
    obtain ⟨x0, x1⟩ := K1.out.box
    go_wp2_with fail
    refine (hasKey_any s _ S a c a' c' kn K1.out.2).mono ?_
    rintro e w2 ⟨rfl, hb⟩
    rw [HK.out]
    have K2 := Lib.hid (K1.out.step hb)
    have L2 := Lib.hid (L1.out.below hb)
    clear hb x0 x1
    obtain ⟨x0, x1⟩ := K2.out.box
    go_wp2_with fail
    refine (nodes_any' s l _ S S' a c a' c' ai ci K2.out.2 L2.out HI.out).mono ?_
    rintro e w3 ⟨g, b, rfl, hb1, hg1, hnb, hp, hnd, hb⟩
    have K3 := Lib.hid (K2.out.step hb)
    have HND := Lib.hid hnd
    have HG := Lib.hid (And.intro hg1 hb.size)
    have hcell := hp.cell hkn
    have hbl : b < w3.heap.size := cell_lt hcell
    clear hb hp hnd x0 x1 hg1
    go_wp2_with fail
    have hok := (inOk_of HI.out).1
    have hS : ∀ b, (fun b => S b ∧ b < w2.heap.size) b → b < g := fun b hb => by have := HG.out.1; have := hb.2; omega
    refine (finish_any (gr_S hok l) (try_step HI.out hS) h10 hS w3 (fun k => !s.mdI k) kn hkn (fun _ h => h) (fun k h => (gr_S hok l).d0ok k h) (nds_start hok HND.out)).mono ?_
    rintro e w4 ⟨d, L, a4, c4, rfl, hat, hnd, _, hdo, hfr, _, ⟨rfl, hdf⟩ | ⟨hne, hnok, hLc⟩⟩
    · have K4 := Lib.hid (below_nd K3.out.done hfr (by have := HG.out.1; have := K2.out.size; omega) (by have := K3.out.size; omega))
      obtain ⟨_, _, hgk, _, _, _, _, _, e14, _, _, _⟩ := hnd.node hkn
      have e : (fun d k => if d k = true then vsS s l k else vf l k) d (kn : Int) = vsS s l kn := by simp only [hdf, if_true]
      rw [e] at e14
      obtain ⟨v, hv⟩ : ∃ v, v = vsS s l kn := ⟨_, rfl⟩
      rw [← hv] at e14
      have HV := Lib.hid hv
      have HY := Lib.hid (show bkOk s l kn = true by rw [HBK.out]; exact hdo _ hdf)
      clear hnd hdo hfr hdf e hok hS hv hat
      go_wp2_with fail
      go_ret2
      exact BkPost.yes HY.out HV.out K4.out
    · have K4 := Lib.hid (below_nd K3.out.done hfr (by have := HG.out.1; have := K2.out.size; omega) (by have := K3.out.size; omega))
      have HNO := Lib.hid (show bkOk s l kn = false by rw [HBK.out]; exact hnok)
      have hlp : decide ((0 : Int) < (L.length : Int)) = true := decide_eq_true (by have := List.length_pos_iff.2 hne; omega)
      have hlp2 : 0 < L.length := List.length_pos_iff.2 hne
      have hlp3 : decide (0 < L.length) = true := decide_eq_true hlp2
      have hLm : L.length ≤ 9223372036854775807 := by have := hat.1; have := hat.2.1; omega
      clear hnd hdo hfr hnok hok hS hne hat hLc
      go_wp2_with fail
      go_ret2
      exact BkPost.no HNO.out K4.out
end Go.Proofs.Ytjbggeeadodmpaa
