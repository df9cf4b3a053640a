/- spec.BuildKey, spec.CircleOf -/
import Derived.Test.YtjakhiafkjaghaaGreatKeyM
import Derived.Test.YtjakhiafkjaghaaGreatBuildI
namespace Go.Proofs.YtjakhiafkjaghaaGreat
open Go.RowKit

section
variable {S S' : Nat → Prop} {s : Sh} {l : List Int} {q : Nat} {a : Option Addr} {c : Nat} {a' : Option Addr} {c' : Nat} {ai : Option Addr} {ci : Nat}
theorem key_all : ∀ r, KeyT S S' s l q a c a' c' ai ci r
  | 0 => fun uv cv U k w hr hp => by
    have := hp.undL
    omega
  | r + 1 => fun uv cv U k w hr hp => by
    by_cases hk : (s.m.length : Int) ≤ k
    · exact key_far hp hk
    cases hm : s.mdI k
    · exact key_in hp (by omega) hm
    by_cases hU : k ∈ U
    · exact key_circ hp hm hU
    obtain ⟨kn, rfl⟩ : ∃ kn : Nat, k = kn := ⟨k.toNat, by have := hp.k0; omega⟩
    exact key_main (key_all r) (by omega) hp hm hU
end

/-- What building a key from nothing leaves, the builder in block q. -/
theorem key_top {s : Sh} {l : List Int} {w : World} {S S' : Nat → Prop} {a : Option Addr} {c : Nat} {a' : Option Addr} {c' : Nat} {ai : Option Addr} {ci : Nat} (q : Nat) (hin : inOk s l = true) (hs : ShAt w S s a c a' c') (hl : IntsAt w S' l ai ci) (hS : ∀ b, S b → b < q) (hS' : ∀ b, S' b → b < q)
    (hbd : BdAt w q s l a c a' c' ai ci (.slice none 0 0) (.slice none 0 0)) (k : Int) (h0 : 0 ≤ k) (h9 : k ≤ 9) :
    Calls Tryz.prog 74 #[.pointer (some ⟨q, 0, none⟩), .int .i64 k] w (KeyPost s l q a c a' c' ai ci (.slice none 0 0) (.slice none 0 0) [] k w) :=
  key_all (s.m.length + 1) (.slice none 0 0) (.slice none 0 0) [] k w (by simp) ⟨hin, hs, hl, hS, hS', hbd, World.ownsRow_nil _ _ _ _, h0, h9, Hyp.nil, by simp⟩

theorem specBuildKey_pre {s : Sh} {l : List Int} {key : Int} (h : (inOk s l && decide (0 ≤ key ∧ key < s.m.length)) = false) : bkOk s l key = false := by
  unfold bkOk
  rw [← Bool.and_assoc, h]; rfl

set_option maxRecDepth 100000 in
set_option maxHeartbeats 2000000 in
theorem specBuildKey_any (s : Sh) (l : List Int) (key : Int) (w : World) (S0 S0' : Nat → Prop) (a : Option Addr) (c : Nat) (a' : Option Addr) (c' : Nat) (ai : Option Addr) (ci : Nat) (h0 : ShAt w S0 s a c a' c') (hn : nodesL s.t ≤ 1048576) (hl0 : IntsAt w S0' l ai ci) :
    Calls Tryz.prog 45 #[.agg #[.slice a s.m.length c, .slice a' s.t.length c'], .slice ai l.length ci, .int .i64 key] w (BkPost s l key w) := by
  obtain ⟨S, hSd⟩ : ∃ S : Nat → Prop, S = fun b => S0 b ∧ b < w.heap.size := ⟨_, rfl⟩
  have hSl : ∀ b, S b → b < w.heap.size := by rw [hSd]; exact fun b h => h.2
  have h : ShAt w S s a c a' c' := by rw [hSd]; exact h0.lim
  obtain ⟨S', hSd'⟩ : ∃ S : Nat → Prop, S = fun b => S0' b ∧ b < w.heap.size := ⟨_, rfl⟩
  have hSl' : ∀ b, S' b → b < w.heap.size := by rw [hSd']; exact fun b h => h.2
  have hl : IntsAt w S' l ai ci := by rw [hSd']; exact hl0.lim
  have K0 := Lib.hid (Ks.start (ty := 35) h)
  have L0 := Lib.hid (hl.alloc (.cells #[.slice a s.m.length c, .slice a' s.t.length c'] 35))
  have HSL := Lib.hid (And.intro hSl hSl')
  have HN := Lib.hid hn
  have hlm : s.m.length ≤ 9223372036854775807 := by have := h.1.1; have := h.1.2.1; omega
  clear h hl h0 hl0 hSd hSd' hSl hSl' hn
  obtain ⟨x0, x1⟩ := K0.out.box
  cases hin : inOk s l
  · have HNO := Lib.hid (show bkOk s l key = false from specBuildKey_pre (by rw [hin]; rfl))
    have HI := Lib.hid hin
    clear hin
    go_enter Tryz.func45, Tryz.ntmps45
    go_wp2_with fail
    refine (specInputs_any s l _ S S' a c a' c' ai ci K0.out.2 HN.out L0.out).mono ?_
    rintro e w1 ⟨rfl, hb⟩
    rw [HI.out]
    have K1 := Lib.hid (K0.out.step hb)
    clear hb x0 x1
    go_wp2_with fail
    go_ret2
    exact BkPost.no HNO.out K1.out.done
  have hmb : s.m.length ≤ 10 := (Sh.ok_iff.1 (inOk_of hin).1).1
  have hdk : decide (0 ≤ key ∧ key ≤ (s.m.length : Int) - 1) = decide (0 ≤ key ∧ key < s.m.length) := by
    by_cases hk : 0 ≤ key ∧ key < s.m.length
    · rw [decide_eq_true hk, decide_eq_true (by omega)]
    · rw [decide_eq_false hk, decide_eq_false (by omega)]
  cases hk : decide (0 ≤ key ∧ key < s.m.length)
  · have HNO := Lib.hid (show bkOk s l key = false from specBuildKey_pre (by rw [hk, Bool.and_false]))
    have HI := Lib.hid hin
    rw [hk] at hdk
    have HK := Lib.hid hdk
    clear hin hk hdk
    go_enter Tryz.func45, Tryz.ntmps45
    go_wp2_with fail
    refine (specInputs_any s l _ S S' a c a' c' ai ci K0.out.2 HN.out L0.out).mono ?_
    rintro e w1 ⟨rfl, hb⟩
    rw [HI.out]
    have K1 := Lib.hid (K0.out.step hb)
    clear hb x0 x1
    obtain ⟨x0, x1⟩ := K1.out.box
    go_wp2_with fail
    refine (in_any _ _ _ _).mono ?_
    rintro e w2 ⟨rfl, rfl⟩
    rw [HK.out]
    go_wp2_with fail
    go_ret2
    exact BkPost.no HNO.out K1.out.done
  · have hk2 : 0 ≤ key ∧ key < s.m.length := by simpa using hk
    have hbk : bkOk s l key = okS s l key := by unfold bkOk; rw [hin, hk]; rfl
    have HBK := Lib.hid hbk
    have HI := Lib.hid hin
    rw [hk] at hdk
    have HK := Lib.hid hdk
    clear hin hk hdk hbk
    go_enter Tryz.func45, Tryz.ntmps45
    go_wp2_with fail
    refine (specInputs_any s l _ S S' a c a' c' ai ci K0.out.2 HN.out L0.out).mono ?_
    rintro e w1 ⟨rfl, hb⟩
    rw [HI.out]
    have K1 := Lib.hid (K0.out.step hb)
    have L1 := Lib.hid (L0.out.below hb)
    clear hb x0 x1
    obtain ⟨x0, x1⟩ := K1.out.box
    go_wp2_with fail
    refine (in_any _ _ _ _).mono ?_
    rintro e w2 ⟨rfl, rfl⟩
    rw [HK.out]
    go_wp2_with fail
    have hsz := K1.out.size
    have hbd := Blk.new w1 109 #[.slice a s.m.length c, .slice a' s.t.length c', .slice ai l.length ci, .slice none 0 0, .slice none 0 0]
    refine (key_top (S := S) (S' := S') w1.heap.size HI.out (K1.out.2.alloc _) (L1.out.alloc _) (fun b hb => by have := HSL.out.1 b hb; omega) (fun b hb => by have := HSL.out.2 b hb; omega) hbd key hk2.1 (by omega)).mono ?_
    rintro e w3 ⟨uv, cv, v, b, rfl, _, _, hfr, _, hor⟩
    have hb3 : Below w.heap.size w w3 := (K1.out.done.alloc (by omega) _).trans ⟨hfr.1, hfr.2.1, hfr.2.2.1, hfr.2.2.2.1, fun i hi => hfr.2.2.2.2 i (by simp; omega) (fun h => by
      rcases h with h | h
      · omega
      · simp [Value.ownBlock] at h)⟩
    have HB3 := Lib.hid hb3
    rcases hor with ⟨rfl, ho, hv, _⟩ | ⟨rfl, ho, _⟩
    · have HY := Lib.hid (And.intro (show bkOk s l key = true by rw [HBK.out]; exact ho) hv)
      clear hb3 hfr hbd ho hv
      go_wp2_with fail
      go_ret2
      exact BkPost.yes HY.out.1 HY.out.2 HB3.out
    · have HNO := Lib.hid (show bkOk s l key = false by rw [HBK.out]; exact ho)
      clear hb3 hfr hbd ho
      go_wp2_with fail
      go_ret2
      exact BkPost.no HNO.out HB3.out
end Go.Proofs.YtjakhiafkjaghaaGreat
