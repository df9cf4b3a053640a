/- a state in memory; szIntS, szState, eqState (written by wip/tools/gen_st.py) -/
import Derived.Test.YthjfmpeicjmlkaaTrQ
import Derived.Test.YthjfmpeicjmlkaaAdS
namespace Go.Proofs.Ythjfmpeicjmlkaa
open Go.RowKit

/-- A state: values, what was built, inputs, traces. -/
structure St where
  v : List Int
  b : List Bool
  i : List Int
  t : List Tr

def StAt (w : World) (S : Nat → Prop) (s : St) (a1 : Option Addr) (c1 : Nat) (a2 : Option Addr) (c2 : Nat) (a3 : Option Addr) (c3 : Nat) (a4 : Option Addr) (c4 : Nat) : Prop := IntsAt w S s.v a1 c1 ∧ BoolsAt w S s.b a2 c2 ∧ IntsAt w S s.i a3 c3 ∧ TrsAt w S s.t a4 c4
section
variable {w w' : World} {S S' D : Nat → Prop} {s : St} {a1 a2 a3 a4 : Option Addr} {c1 c2 c3 c4 : Nat}
theorem StAt.keep (hS : ∀ b, S b → S' b) (hk : ∀ b, S b → b < w.heap.size → w'.heap[b]? = w.heap[b]?) (h : StAt w S s a1 c1 a2 c2 a3 c3 a4 c4) : StAt w' S' s a1 c1 a2 c2 a3 c3 a4 c4 :=
  ⟨h.1.keep hS hk, ElAt.keep hS hk h.2.1, h.2.2.1.keep hS hk, TrsAt.keep hS hk h.2.2.2⟩
theorem StAt.below (h : StAt w S s a1 c1 a2 c2 a3 c3 a4 c4) (hb : Below w.heap.size w w') : StAt w' S s a1 c1 a2 c2 a3 c3 a4 c4 := h.keep (fun _ h => h) (fun b _ hl => hb.block b hl)
theorem StAt.alloc (h : StAt w S s a1 c1 a2 c2 a3 c3 a4 c4) (o : Obj) : StAt (w.alloc o) S s a1 c1 a2 c2 a3 c3 a4 c4 := h.below ((Below.refl _ _).alloc (Nat.le_refl _) o)
theorem StAt.drew (h : StAt w S s a1 c1 a2 c2 a3 c3 a4 c4) : StAt w.drew S s a1 c1 a2 c2 a3 c3 a4 c4 := h.below (Below.refl _ _).drew
theorem StAt.drewN (h : StAt w S s a1 c1 a2 c2 a3 c3 a4 c4) (n : Nat) : StAt (w.drewN n) S s a1 c1 a2 c2 a3 c3 a4 c4 := h.below (below_drewN (Below.refl _ _) n)
theorem StAt.weaken (h : StAt w S s a1 c1 a2 c2 a3 c3 a4 c4) (hS : ∀ b, S b → S' b) : StAt w S' s a1 c1 a2 c2 a3 c3 a4 c4 := h.keep hS (fun _ _ _ => rfl)
theorem StAt.fr (h : StAt w S s a1 c1 a2 c2 a3 c3 a4 c4) (hf : Fr D w w') (hS : ∀ b, S b → ¬ D b) : StAt w' S s a1 c1 a2 c2 a3 c3 a4 c4 := h.keep (fun _ h => h) (fun b hb hl => hf.2.2.2.2 b hl (hS b hb))
theorem StAt.lim (h : StAt w S s a1 c1 a2 c2 a3 c3 a4 c4) : StAt w (fun b => S b ∧ b < w.heap.size) s a1 c1 a2 c2 a3 c3 a4 c4 := ⟨h.1.lim, ElAt.lim h.2.1, h.2.2.1.lim, TrsAt.lim h.2.2.2⟩
theorem StAt.lens (h : StAt w S s a1 c1 a2 c2 a3 c3 a4 c4) : (s.v.length ≤ 9223372036854775807 ∧ s.b.length ≤ 9223372036854775807) ∧ (s.i.length ≤ 9223372036854775807 ∧ s.t.length ≤ 9223372036854775807) := by
  obtain ⟨h1, h2, h3, h4⟩ := h
  have := h1.1; have := h1.2.1; have := h2.1; have := h2.2.1; have := h3.1; have := h3.2.1; have := RwAt.len h4
  refine ⟨⟨?_, ?_⟩, ?_, ?_⟩ <;> omega
theorem Blk.four {g : Nat} {t : TypeId} {x y z u : Value} (h : Blk w g t #[x, y, z, u]) : w.cell? ⟨g, 0, none⟩ = some x ∧ w.cell? ⟨g, 1, none⟩ = some y ∧ w.cell? ⟨g, 2, none⟩ = some z ∧ w.cell? ⟨g, 3, none⟩ = some u ∧
    w.frozen? ⟨g, 0, none⟩ = false ∧ w.frozen? ⟨g, 1, none⟩ = false ∧ w.frozen? ⟨g, 2, none⟩ = false ∧ w.frozen? ⟨g, 3, none⟩ = false :=
  ⟨by rw [h.cell 0]; rfl, by rw [h.cell 1]; rfl, by rw [h.cell 2]; rfl, by rw [h.cell 3]; rfl, h.frozen 0, h.frozen 1, h.frozen 2, h.frozen 3⟩
end
/-- What each state is: of numbers that fit, and traces that do. -/
def St.fine (s : St) : Prop := (∀ x ∈ s.v, i64ok x) ∧ (∀ x ∈ s.i, i64ok x) ∧ ∀ t ∈ s.t, trFine t
theorem StAt.fine {w : World} {S : Nat → Prop} {s : St} {a1 a2 a3 a4 : Option Addr} {c1 c2 c3 c4 : Nat} (h : StAt w S s a1 c1 a2 c2 a3 c3 a4 c4) : s.fine := ⟨h.1.2.2.1, h.2.2.1.2.2.1, TrsAt.fine h.2.2.2⟩
def St.n (s : St) : Nat := s.v.length + s.b.length + s.i.length + trN s.t

theorem szInts_any (w : World) (S : Nat → Prop) (l : List Int) (a : Option Addr) (c left : Nat) (h : IntsAt w S l a c) (hl : left ≤ 1048576) :
    Calls Try.prog 44 #[.slice a l.length c, .int .i64 left] w fun e w' => e = .returned (.int .i64 (szN l.length left)) ∧ w = w' := by
  have hlen : l.length ≤ 9223372036854775807 := by have := h.1; have := h.2.1; omega
  clear h
  by_cases hle : l.length ≤ left
  · have hv : szN l.length left = (left : Int) - l.length := by unfold szN; rw [if_pos hle]
    rw [hv]; clear hv
    go_enter Try.func44, Try.ntmps44
    go_wp2_with fail
    go_ret
    exact ⟨rfl, rfl⟩
  · have hv : szN l.length left = -1 := by unfold szN; rw [if_neg hle]
    rw [hv]; clear hv
    go_enter Try.func44, Try.ntmps44
    go_wp2_with fail
    go_ret
    exact ⟨rfl, rfl⟩

set_option maxHeartbeats 2000000 in
theorem szX_ow (w : World) (S : Nat → Prop) (s : St) (a1 : Option Addr) (c1 : Nat) (a2 : Option Addr) (c2 : Nat) (a3 : Option Addr) (c3 : Nat) (a4 : Option Addr) (c4 : Nat) (left : Nat) (h : StAt w S s a1 c1 a2 c2 a3 c3 a4 c4) (hl : left ≤ 1048576) :
    Calls Try.prog 18 #[.agg #[.slice a1 s.v.length c1, .slice a2 s.b.length c2, .slice a3 s.i.length c3, .slice a4 s.t.length c4], .int .i64 left] w fun e w' => e = .returned (.int .i64 (szN s.n left)) ∧ Below w.heap.size w w' := by
  have HA := Lib.hid (h.alloc (.cells #[.slice a1 s.v.length c1, .slice a2 s.b.length c2, .slice a3 s.i.length c3, .slice a4 s.t.length c4] 45))
  have HB := Lib.hid ((Below.refl w.heap.size w).alloc (Nat.le_refl _) (.cells #[.slice a1 s.v.length c1, .slice a2 s.b.length c2, .slice a3 s.i.length c3, .slice a4 s.t.length c4] 45))
  have HK := Lib.hid (Blk.new w 45 #[.slice a1 s.v.length c1, .slice a2 s.b.length c2, .slice a3 s.i.length c3, .slice a4 s.t.length c4])
  have HN := Lib.hid (show s.n = s.v.length + s.b.length + s.i.length + trN s.t from rfl)
  obtain ⟨x0, x1, x2, x3, -⟩ := HK.out.four
  clear h
  by_cases h0 : s.v.length ≤ left
  · obtain ⟨q0, hq0⟩ : ∃ q : Nat, q = left - s.v.length := ⟨_, rfl⟩
    have HZ0 := Lib.hid (show szN (s.v.length) left = (q0 : Int) by unfold szN; rw [if_pos h0, hq0]; omega)
    have hqb0 : q0 ≤ 1048576 := by omega
    by_cases h1 : s.b.length ≤ q0
    · obtain ⟨q1, hq1⟩ : ∃ q : Nat, q = q0 - s.b.length := ⟨_, rfl⟩
      have HZ1 := Lib.hid (show szN (s.b.length) q0 = (q1 : Int) by unfold szN; rw [if_pos h1, hq1]; omega)
      have hqb1 : q1 ≤ 1048576 := by omega
      by_cases h2 : s.i.length ≤ q1
      · obtain ⟨q2, hq2⟩ : ∃ q : Nat, q = q1 - s.i.length := ⟨_, rfl⟩
        have HZ2 := Lib.hid (show szN (s.i.length) q1 = (q2 : Int) by unfold szN; rw [if_pos h2, hq2]; omega)
        have hqb2 : q2 ≤ 1048576 := by omega
        by_cases h3 : trN s.t ≤ q2
        · obtain ⟨q3, hq3⟩ : ∃ q : Nat, q = q2 - trN s.t := ⟨_, rfl⟩
          have HZ3 := Lib.hid (show szN (trN s.t) q2 = (q3 : Int) by unfold szN; rw [if_pos h3, hq3]; omega)
          have hqb3 : q3 ≤ 1048576 := by omega
          have hr : szN s.n left = (q3 : Int) := by have := HN.out; unfold szN; rw [if_pos (by omega)]; omega
          rw [hr]
          clear hr h0 h1 h2 h3 hq0 hq1 hq2 hq3
          go_enter Try.func18, Try.ntmps18
          go_wp2_with fail
          refine (szInts_any _ S s.v a1 c1 left HA.out.1 (by omega)).mono ?_
          rintro e w1 ⟨rfl, rfl⟩
          rw [HZ0.out]
          go_wp2_with fail
          refine (szBools_any _ S s.b a2 c2 q0 HA.out.2.1 (by omega)).mono ?_
          rintro e w1 ⟨rfl, rfl⟩
          rw [HZ1.out]
          go_wp2_with fail
          refine (szInts_any _ S s.i a3 c3 q1 HA.out.2.2.1 (by omega)).mono ?_
          rintro e w1 ⟨rfl, rfl⟩
          rw [HZ2.out]
          go_wp2_with fail
          refine (szTraces_any _ S s.t a4 c4 q2 HA.out.2.2.2 (by omega)).mono ?_
          rintro e w1 ⟨rfl, hb⟩
          have HB1 := Lib.hid (HB.out.trans (hb.mono (by simp)))
          clear hb x0 x1 x2 x3
          rw [HZ3.out]
          go_wp2_with fail
          go_ret
          exact ⟨rfl, HB1.out⟩
        · have HZ3 := Lib.hid (show szN (trN s.t) q2 = -1 by unfold szN; rw [if_neg h3])
          have hr : szN s.n left = -1 := by have := HN.out; unfold szN; rw [if_neg (by omega)]
          rw [hr]
          clear hr h0 h1 h2 h3 hq0 hq1 hq2
          go_enter Try.func18, Try.ntmps18
          go_wp2_with fail
          refine (szInts_any _ S s.v a1 c1 left HA.out.1 (by omega)).mono ?_
          rintro e w1 ⟨rfl, rfl⟩
          rw [HZ0.out]
          go_wp2_with fail
          refine (szBools_any _ S s.b a2 c2 q0 HA.out.2.1 (by omega)).mono ?_
          rintro e w1 ⟨rfl, rfl⟩
          rw [HZ1.out]
          go_wp2_with fail
          refine (szInts_any _ S s.i a3 c3 q1 HA.out.2.2.1 (by omega)).mono ?_
          rintro e w1 ⟨rfl, rfl⟩
          rw [HZ2.out]
          go_wp2_with fail
          refine (szTraces_any _ S s.t a4 c4 q2 HA.out.2.2.2 (by omega)).mono ?_
          rintro e w1 ⟨rfl, hb⟩
          have HB1 := Lib.hid (HB.out.trans (hb.mono (by simp)))
          clear hb x0 x1 x2 x3
          rw [HZ3.out]
          go_wp2_with fail
          go_ret
          exact ⟨rfl, HB1.out⟩
      · have HZ2 := Lib.hid (show szN (s.i.length) q1 = -1 by unfold szN; rw [if_neg h2])
        have hr : szN s.n left = -1 := by have := HN.out; unfold szN; rw [if_neg (by omega)]
        rw [hr]
        clear hr h0 h1 h2 hq0 hq1
        go_enter Try.func18, Try.ntmps18
        go_wp2_with fail
        refine (szInts_any _ S s.v a1 c1 left HA.out.1 (by omega)).mono ?_
        rintro e w1 ⟨rfl, rfl⟩
        rw [HZ0.out]
        go_wp2_with fail
        refine (szBools_any _ S s.b a2 c2 q0 HA.out.2.1 (by omega)).mono ?_
        rintro e w1 ⟨rfl, rfl⟩
        rw [HZ1.out]
        go_wp2_with fail
        refine (szInts_any _ S s.i a3 c3 q1 HA.out.2.2.1 (by omega)).mono ?_
        rintro e w1 ⟨rfl, rfl⟩
        rw [HZ2.out]
        go_wp2_with fail
        go_ret
        exact ⟨rfl, HB.out⟩
    · have HZ1 := Lib.hid (show szN (s.b.length) q0 = -1 by unfold szN; rw [if_neg h1])
      have hr : szN s.n left = -1 := by have := HN.out; unfold szN; rw [if_neg (by omega)]
      rw [hr]
      clear hr h0 h1 hq0
      go_enter Try.func18, Try.ntmps18
      go_wp2_with fail
      refine (szInts_any _ S s.v a1 c1 left HA.out.1 (by omega)).mono ?_
      rintro e w1 ⟨rfl, rfl⟩
      rw [HZ0.out]
      go_wp2_with fail
      refine (szBools_any _ S s.b a2 c2 q0 HA.out.2.1 (by omega)).mono ?_
      rintro e w1 ⟨rfl, rfl⟩
      rw [HZ1.out]
      go_wp2_with fail
      go_ret
      exact ⟨rfl, HB.out⟩
  · have HZ0 := Lib.hid (show szN (s.v.length) left = -1 by unfold szN; rw [if_neg h0])
    have hr : szN s.n left = -1 := by have := HN.out; unfold szN; rw [if_neg (by omega)]
    rw [hr]
    clear hr h0 
    go_enter Try.func18, Try.ntmps18
    go_wp2_with fail
    refine (szInts_any _ S s.v a1 c1 left HA.out.1 (by omega)).mono ?_
    rintro e w1 ⟨rfl, rfl⟩
    rw [HZ0.out]
    go_wp2_with fail
    go_ret
    exact ⟨rfl, HB.out⟩

set_option maxHeartbeats 2000000 in
/-- eqState of two readings of one state -/
theorem eqX_ow (w : World) (S S2 : Nat → Prop) (s : St) (a1 : Option Addr) (c1 : Nat) (a2 : Option Addr) (c2 : Nat) (a3 : Option Addr) (c3 : Nat) (a4 : Option Addr) (c4 : Nat) (b1 : Option Addr) (d1 : Nat) (b2 : Option Addr) (d2 : Nat) (b3 : Option Addr) (d3 : Nat) (b4 : Option Addr) (d4 : Nat) (h : StAt w S s a1 c1 a2 c2 a3 c3 a4 c4) (h' : StAt w S2 s b1 d1 b2 d2 b3 d3 b4 d4) :
    Calls Try.prog 24 #[.agg #[.slice a1 s.v.length c1, .slice a2 s.b.length c2, .slice a3 s.i.length c3, .slice a4 s.t.length c4], .agg #[.slice b1 s.v.length d1, .slice b2 s.b.length d2, .slice b3 s.i.length d3, .slice b4 s.t.length d4]] w fun e w' => e = .returned (.bool true) ∧ Below w.heap.size w w' := by
  have A0 := Lib.hid ((h.alloc (.cells #[.slice a1 s.v.length c1, .slice a2 s.b.length c2, .slice a3 s.i.length c3, .slice a4 s.t.length c4] 54)).alloc (.cells #[.slice b1 s.v.length d1, .slice b2 s.b.length d2, .slice b3 s.i.length d3, .slice b4 s.t.length d4] 54))
  have B0 := Lib.hid ((h'.alloc (.cells #[.slice a1 s.v.length c1, .slice a2 s.b.length c2, .slice a3 s.i.length c3, .slice a4 s.t.length c4] 54)).alloc (.cells #[.slice b1 s.v.length d1, .slice b2 s.b.length d2, .slice b3 s.i.length d3, .slice b4 s.t.length d4] 54))
  have HB0 := Lib.hid (((Below.refl w.heap.size w).alloc (Nat.le_refl _) (.cells #[.slice a1 s.v.length c1, .slice a2 s.b.length c2, .slice a3 s.i.length c3, .slice a4 s.t.length c4] 54)).alloc (by simp) (.cells #[.slice b1 s.v.length d1, .slice b2 s.b.length d2, .slice b3 s.i.length d3, .slice b4 s.t.length d4] 54))
  have P0 := Lib.hid ((Blk.new w 54 #[.slice a1 s.v.length c1, .slice a2 s.b.length c2, .slice a3 s.i.length c3, .slice a4 s.t.length c4]).alloc (.cells #[.slice b1 s.v.length d1, .slice b2 s.b.length d2, .slice b3 s.i.length d3, .slice b4 s.t.length d4] 54))
  have Q0 := Lib.hid (show Blk ((w.alloc (.cells #[.slice a1 s.v.length c1, .slice a2 s.b.length c2, .slice a3 s.i.length c3, .slice a4 s.t.length c4] 54)).alloc (.cells #[.slice b1 s.v.length d1, .slice b2 s.b.length d2, .slice b3 s.i.length d3, .slice b4 s.t.length d4] 54)) (w.heap.size + 1) 54 #[.slice b1 s.v.length d1, .slice b2 s.b.length d2, .slice b3 s.i.length d3, .slice b4 s.t.length d4] by have := Blk.new (w.alloc (.cells #[.slice a1 s.v.length c1, .slice a2 s.b.length c2, .slice a3 s.i.length c3, .slice a4 s.t.length c4] 54)) 54 #[.slice b1 s.v.length d1, .slice b2 s.b.length d2, .slice b3 s.i.length d3, .slice b4 s.t.length d4]; simpa using this)
  obtain ⟨W, hW⟩ : ∃ W, W = (w.alloc (.cells #[.slice a1 s.v.length c1, .slice a2 s.b.length c2, .slice a3 s.i.length c3, .slice a4 s.t.length c4] 54)).alloc (.cells #[.slice b1 s.v.length d1, .slice b2 s.b.length d2, .slice b3 s.i.length d3, .slice b4 s.t.length d4] 54) := ⟨_, rfl⟩
  have HWW := Lib.hid hW
  obtain ⟨x0, x1, x2, x3, -⟩ := P0.out.four
  obtain ⟨y0, y1, y2, y3, -⟩ := Q0.out.four
  rw [← hW] at A0 B0 HB0 P0 Q0
  clear h h' hW
  go_enter Try.func24, Try.ntmps24
  go_wp2_with fail
  rw [← HWW.out]
  clear x0 x1 x2 x3 y0 y1 y2 y3
  refine (eqInts_any _ S S2 s.v a1 b1 c1 d1 A0.out.1 B0.out.1).mono ?_
  rintro e w1 ⟨rfl, hb⟩
  have A1 := Lib.hid (A0.out.below hb)
  have B1 := Lib.hid (B0.out.below hb)
  have P1 := Lib.hid (P0.out.below hb P0.out.lt)
  have Q1 := Lib.hid (Q0.out.below hb Q0.out.lt)
  have HB1 := Lib.hid (HB0.out.trans (hb.mono HB0.out.size))
  clear hb A0 B0 P0 Q0 HB0
  obtain ⟨x0, x1, x2, x3, -⟩ := P1.out.four
  obtain ⟨y0, y1, y2, y3, -⟩ := Q1.out.four
  go_wp2_with fail
  clear x0 x1 x2 x3 y0 y1 y2 y3
  refine (eqBools_any _ S S2 s.b a2 b2 c2 d2 A1.out.2.1 B1.out.2.1).mono ?_
  rintro e w2 ⟨rfl, hb⟩
  have A2 := Lib.hid (A1.out.below hb)
  have B2 := Lib.hid (B1.out.below hb)
  have P2 := Lib.hid (P1.out.below hb P1.out.lt)
  have Q2 := Lib.hid (Q1.out.below hb Q1.out.lt)
  have HB2 := Lib.hid (HB1.out.trans (hb.mono HB1.out.size))
  clear hb A1 B1 P1 Q1 HB1
  obtain ⟨x0, x1, x2, x3, -⟩ := P2.out.four
  obtain ⟨y0, y1, y2, y3, -⟩ := Q2.out.four
  go_wp2_with fail
  clear x0 x1 x2 x3 y0 y1 y2 y3
  refine (eqInts_any _ S S2 s.i a3 b3 c3 d3 A2.out.2.2.1 B2.out.2.2.1).mono ?_
  rintro e w3 ⟨rfl, hb⟩
  have A3 := Lib.hid (A2.out.below hb)
  have B3 := Lib.hid (B2.out.below hb)
  have P3 := Lib.hid (P2.out.below hb P2.out.lt)
  have Q3 := Lib.hid (Q2.out.below hb Q2.out.lt)
  have HB3 := Lib.hid (HB2.out.trans (hb.mono HB2.out.size))
  clear hb A2 B2 P2 Q2 HB2
  obtain ⟨x0, x1, x2, x3, -⟩ := P3.out.four
  obtain ⟨y0, y1, y2, y3, -⟩ := Q3.out.four
  go_wp2_with fail
  clear x0 x1 x2 x3 y0 y1 y2 y3
  refine (eqTraces_any _ S S2 s.t a4 b4 c4 d4 A3.out.2.2.2 B3.out.2.2.2).mono ?_
  rintro e w4 ⟨rfl, hb⟩
  have A4 := Lib.hid (A3.out.below hb)
  have B4 := Lib.hid (B3.out.below hb)
  have P4 := Lib.hid (P3.out.below hb P3.out.lt)
  have Q4 := Lib.hid (Q3.out.below hb Q3.out.lt)
  have HB4 := Lib.hid (HB3.out.trans (hb.mono HB3.out.size))
  clear hb A3 B3 P3 Q3 HB3
  go_wp2_with fail
  go_ret
  exact ⟨rfl, HB4.out⟩
end Go.Proofs.Ythjfmpeicjmlkaa
