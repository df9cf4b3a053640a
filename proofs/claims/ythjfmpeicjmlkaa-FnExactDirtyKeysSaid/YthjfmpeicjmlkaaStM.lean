/- markBoolS, heldBoolS, markState, heldState (written by wip/tools/gen_st.py) -/
import Derived.Test.YthjfmpeicjmlkaaStC
import Derived.Test.YthjfmpeicjmlkaaTrT
namespace Go.Proofs.Ythjfmpeicjmlkaa
open Go.RowKit

def bmarks (k n : Nat) : List Bool := (List.range n).map fun i => decide ((k + i) % 3 = 0)
theorem bmarks_len (k n : Nat) : (bmarks k n).length = n := by simp [bmarks]
theorem bmarks_get (k n i : Nat) (h : i < (bmarks k n).length) : (bmarks k n)[i] = decide ((k + i) % 3 = 0) := by simp [bmarks]
def BoolsMk (w : World) (D : Nat → Prop) (n k : Nat) (a : Option Addr) (c : Nat) : Prop := w.ownsRow 0 4 1 (.slice a n c) n ((bmarks k n).map Value.bool) ∧ ∀ b, (Value.slice a n c).ownBlock = some b → D b
section
variable {w w' : World} {D : Nat → Prop} {a : Option Addr} {c n k : Nat}
theorem BoolsMk.fr {D' : Nat → Prop} (h : BoolsMk w D n k a c) (hf : Fr D' w w') (hD : ∀ b, D b → ¬ D' b) : BoolsMk w' D n k a c := ⟨ownsRow_fr h.1 hf (fun b hb => hD b (h.2 b hb)), h.2⟩
theorem BoolsMk.below (h : BoolsMk w D n k a c) (hb : Below w.heap.size w w') : BoolsMk w' D n k a c := BoolsMk.fr (D' := fun _ => False) h (Fr.of_below hb) (fun _ _ hf => hf)
end
/-- A number by three. -/
theorem rem3 (m : Nat) (hm : m ≤ 200000000) : ((m : Int)).tmod 3 = ((m % 3 : Nat) : Int) := by
  rw [Int.tmod_eq_emod_of_nonneg (by omega)]; omega
theorem rem3_b (m : Nat) : (((m % 3 : Nat) : Int) == 0) = decide (m % 3 = 0) := by
  rw [Bool.eq_iff_iff, beq_iff_eq, decide_eq_true_eq]; omega
theorem rem3_d (m : Nat) : decide (((m % 3 : Nat) : Int) = 0) = decide (m % 3 = 0) := by
  rw [Bool.eq_iff_iff, decide_eq_true_eq, decide_eq_true_eq]; omega

def MarkedBO (n k : Nat) (D : Nat → Prop) (a : Option Addr) (c : Nat) (w : World) (e : Ending) (w' : World) : Prop := e = .returned (.int .i64 ((k + n : Nat) : Int)) ∧ Fr D w w' ∧ BoolsMk w' D n k a c
set_option maxHeartbeats 1000000 in
theorem markB_ow (w : World) (D : Nat → Prop) (l : List Bool) (a : Option Addr) (c k : Nat) (h : BoolsOw w D l a c) (hl : l.length ≤ 2000000) (hk : k ≤ 100000000) :
    Calls Try.prog 55 #[.slice a l.length c, .int .i64 k] w (MarkedBO l.length k D a c w) := by
  have frr : ∀ (W : World) D, Fr D W W := fun W D => Fr.of_below (Below.refl _ _)
  have FRR := Lib.hid frr
  clear frr
  obtain ⟨⟨_, ⟨hv, h0⟩ | ⟨g, cap, cur, hv, hb, hh, hn, hc, hz, _⟩⟩, hD⟩ := h
  · simp only [Value.slice.injEq] at hv
    obtain ⟨rfl, -, rfl⟩ := hv
    rw [h0]
    have HD := Lib.hid hD
    clear hD
    go_enter Try.func55, Try.ntmps55
    go_wp2_with fail
    go_loopw [1, 5] (fun q i wr => i = .int .i64 0 ∧ q = .int .i64 k ∧ wr = w) (fun _ _ _ => 0)
    case atStart => exact ⟨rfl, rfl, rfl⟩
    case round =>
      obtain ⟨rfl, rfl, rfl⟩ := hrel
      go_wp2_with fail
      go_ret
      exact ⟨rfl, FRR.out _ _, World.ownsRow_nil _ _ _ _, fun b hb => by simp [Value.ownBlock] at hb⟩
  · simp only [Value.slice.injEq] at hv
    obtain ⟨rfl, -, rfl⟩ := hv
    have HZ := Lib.hid (show l.length ≤ cur.size by omega)
    have HH := Lib.hid (show Blk w g 4 cur from hh)
    have HX := Lib.hid (And.intro hb (And.intro hn (And.intro hc hz)))
    have HD := Lib.hid (hD g rfl)
    have hcm : l.length ≤ 9223372036854775807 := by omega
    clear hb hh hn hc hz hD
    go_enter Try.func55, Try.ntmps55
    go_wp2_with fail
    go_loopw [1, 5] (fun q i wr => ∃ (j : Nat) (cs : Array Value), j ≤ l.length ∧ i = .int .i64 j ∧ q = .int .i64 ((k + j : Nat) : Int) ∧ Blk wr g 4 cs ∧ cs.size = cur.size ∧ (∀ i, i < j → cs[i]? = some (.bool (decide ((k + i) % 3 = 0)))) ∧ Fr D w wr) (fun _ i _ => l.length - (intOf i).toNat)
    case atStart => exact ⟨0, cur, by omega, rfl, rfl, HH.out, rfl, fun i hi => by omega, FRR.out _ _⟩
    case round =>
      obtain ⟨j, cs, hj, rfl, rfl, hbk, hcs, hcl, hfr⟩ := hrel
      have HFR := Lib.hid hfr
      have HCL := Lib.hid hcl
      have HCS := Lib.hid hcs
      clear hcl
      by_cases hlt : j < l.length
      · have hf := hbk.frozen j
        have hjs : j < cs.size := by have := HZ.out; omega
        have hx : wr.cell? ⟨g, j, none⟩ = some (cs[j]'hjs) := by rw [hbk.cell j]; simp
        obtain ⟨y, hy⟩ : ∃ y, y = cs[j]'hjs := ⟨_, rfl⟩
        rw [← hy] at hx
        have hs := fun u => hbk.set_ j u
        have HS := Lib.hid hs
        have HJS := Lib.hid hjs
        obtain ⟨m, hm⟩ : ∃ m, m = k + j := ⟨_, rfl⟩
        have HM := Lib.hid hm
        have hmb : m ≤ 200000000 := by omega
        have q2 := rem3 m hmb
        have q3 := rem3_b m
        have q4 := rem3_d m
        obtain ⟨z, hz⟩ : ∃ z : Nat, z = m % 3 := ⟨_, rfl⟩
        have hzb : z < 3 := by omega
        obtain ⟨d, hd⟩ : ∃ d, d = decide (m % 3 = 0) := ⟨_, rfl⟩
        have HDD := Lib.hid hd
        rw [← hd] at q3 q4
        rw [← hz] at q2 q3 q4
        rw [← hm]
        clear hbk hfr hs hy hcs hjs hm hz hd
        go_wp2_with fail
        go_roundw
        case rel =>
          refine ⟨j + 1, _, by omega, by go_num, by have := HM.out; go_num, HS.out (.bool d), by rw [Array.size_setIfInBounds]; exact HCS.out, fun i hi => ?_, ?_⟩
          · by_cases hij : i = j
            · subst hij
              rw [Array.getElem?_setIfInBounds_self]
              rw [if_pos HJS.out, HDD.out, HM.out]
            · rw [Array.getElem?_setIfInBounds_ne (by omega)]
              exact HCL.out i (by omega)
          · exact HFR.out.set' ⟨g, j, none⟩ HD.out _
        case measure => simp [intOf]; omega
      · obtain rfl : j = l.length := by omega
        have HBK := Lib.hid hbk
        clear hbk hfr hcs
        go_wp2_with fail
        go_ret
        obtain ⟨h1, h2, h3, h4⟩ := HX.out
        refine ⟨rfl, HFR.out, ⟨by simp [bmarks], .inr ⟨g, c, cs, rfl, h1, HBK.out, h2, h3, by rw [HCS.out]; exact h4, ?_⟩⟩, fun b hb => by simp only [Value.ownBlock, Option.some.injEq] at hb; subst hb; exact HD.out⟩
        refine List.ext_getElem? fun i => ?_
        by_cases hi : i < l.length
        · rw [List.getElem?_take_of_lt (by omega), Array.getElem?_toList, HCL.out i hi, List.getElem?_map, List.getElem?_eq_getElem (by rw [bmarks_len]; exact hi), bmarks_get]; rfl
        · have e1 : ((bmarks k l.length).map Value.bool)[i]? = none := List.getElem?_eq_none (by rw [List.length_map, bmarks_len]; omega)
          have e2 : (cs.toList.take (l.length * 1))[i]? = none := List.getElem?_eq_none (by rw [List.length_take]; omega)
          rw [e1, e2]


def stM (s : St) : Nat := s.v.length + s.b.length + s.i.length + trM s.t
/-- A state, marked, in blocks that meet D. -/
def StMk (w : World) (D : Nat → Prop) (s : St) (K : Nat) (a1 : Option Addr) (c1 : Nat) (a2 : Option Addr) (c2 : Nat) (a3 : Option Addr) (c3 : Nat) (a4 : Option Addr) (c4 : Nat) : Prop := (IntsMk w D s.v.length K a1 c1 ∧ BoolsMk w D s.b.length (K + s.v.length) a2 c2) ∧ IntsMk w D s.i.length (K + s.v.length + s.b.length) a3 c3 ∧ TrsMk w D s.t (K + s.v.length + s.b.length + s.i.length) a4 c4
section
variable {w w' : World} {D : Nat → Prop} {s : St} {K : Nat} {a1 a2 a3 a4 : Option Addr} {c1 c2 c3 c4 : Nat}
theorem StMk.fr {D' : Nat → Prop} (h : StMk w D s K a1 c1 a2 c2 a3 c3 a4 c4) (hf : Fr D' w w') (hD : ∀ b, D b → ¬ D' b) : StMk w' D s K a1 c1 a2 c2 a3 c3 a4 c4 := ⟨⟨h.1.1.fr hf hD, h.1.2.fr hf hD⟩, h.2.1.fr hf hD, h.2.2.fr hf hD⟩
theorem StMk.below (h : StMk w D s K a1 c1 a2 c2 a3 c3 a4 c4) (hb : Below w.heap.size w w') : StMk w' D s K a1 c1 a2 c2 a3 c3 a4 c4 := StMk.fr (D' := fun _ => False) h (Fr.of_below hb) (fun _ _ hf => hf)
end
def MarkedXO (s : St) (K : Nat) (D : Nat → Prop) (a1 : Option Addr) (c1 : Nat) (a2 : Option Addr) (c2 : Nat) (a3 : Option Addr) (c3 : Nat) (a4 : Option Addr) (c4 : Nat) (w : World) (e : Ending) (w' : World) : Prop := e = .returned (.int .i64 ((K + stM s : Nat) : Int)) ∧ Fr D w w' ∧ StMk w' D s K a1 c1 a2 c2 a3 c3 a4 c4
set_option maxRecDepth 100000 in
set_option maxHeartbeats 2000000 in
theorem markX_ow (w : World) (D : Nat → Prop) (s : St) (a1 : Option Addr) (c1 : Nat) (a2 : Option Addr) (c2 : Nat) (a3 : Option Addr) (c3 : Nat) (a4 : Option Addr) (c4 : Nat) (K : Nat) (h : StOw w D s a1 c1 a2 c2 a3 c3 a4 c4) (hn : s.n ≤ 1048576) (hk : K ≤ 50000000) :
    Calls Try.prog 26 #[.agg #[.slice a1 s.v.length c1, .slice a2 s.b.length c2, .slice a3 s.i.length c3, .slice a4 s.t.length c4], .int .i64 K] w (MarkedXO s K D a1 c1 a2 c2 a3 c3 a4 c4 w) := by
  have hl : (s.v.length ≤ 1048576 ∧ s.b.length ≤ 1048576) ∧ s.i.length ≤ 1048576 ∧ trN s.t ≤ 1048576 := by unfold St.n at hn; refine ⟨⟨?_, ?_⟩, ?_, ?_⟩ <;> omega
  have HL := Lib.hid hl
  have htm : trM s.t ≤ 2 * trN s.t := mN_le _ _
  obtain ⟨D1, D2, D3, D4, ho, ha, hd⟩ := h
  have HLT := Lib.hid ho.lt
  have HA := Lib.hid ha
  have HD := Lib.hid hd
  have hb0 : Below w.heap.size w (w.alloc (.cells #[.slice a1 s.v.length c1, .slice a2 s.b.length c2, .slice a3 s.i.length c3, .slice a4 s.t.length c4] 54)) := (Below.refl _ _).alloc (Nat.le_refl _) _
  have P0 := Lib.hid (Blk.new w 54 #[.slice a1 s.v.length c1, .slice a2 s.b.length c2, .slice a3 s.i.length c3, .slice a4 s.t.length c4])
  have E0 := Lib.hid (And.intro (And.intro (ho.o1.below hb0) (ho.o2.below hb0)) (And.intro (ho.o3.below hb0) (ho.o4.below hb0)))
  have F0 := Lib.hid (show Fr D w (w.alloc (.cells #[.slice a1 s.v.length c1, .slice a2 s.b.length c2, .slice a3 s.i.length c3, .slice a4 s.t.length c4] 54)) from Fr.of_below hb0)
  obtain ⟨W0, hW⟩ : ∃ W, W = w.alloc (.cells #[.slice a1 s.v.length c1, .slice a2 s.b.length c2, .slice a3 s.i.length c3, .slice a4 s.t.length c4] 54) := ⟨_, rfl⟩
  have HWW := Lib.hid hW
  obtain ⟨x0, x1, x2, x3, -⟩ := P0.out.four
  rw [← hW] at P0 E0 F0
  obtain ⟨k1, hk1⟩ : ∃ k1, k1 = K + s.v.length := ⟨_, rfl⟩
  obtain ⟨k2, hk2⟩ : ∃ k2, k2 = K + s.v.length + s.b.length := ⟨_, rfl⟩
  obtain ⟨k3, hk3⟩ : ∃ k3, k3 = K + s.v.length + s.b.length + s.i.length := ⟨_, rfl⟩
  obtain ⟨k4, hk4⟩ : ∃ k4, k4 = K + s.v.length + s.b.length + s.i.length + trM s.t := ⟨_, rfl⟩
  have hkb : ((k1 ≤ 90000000 ∧ k2 ≤ 90000000) ∧ k3 ≤ 90000000) ∧ k4 ≤ 90000000 := by refine ⟨⟨⟨?_, ?_⟩, ?_⟩, ?_⟩ <;> omega
  obtain ⟨⟨⟨hkb1, hkb2⟩, hkb3⟩, hkb4⟩ := hkb
  have HK := Lib.hid (And.intro (And.intro hk1 hk2) (And.intro hk3 hk4))
  have HR1 := Lib.hid (show K + s.v.length = k1 by omega)
  have HR2 := Lib.hid (show k1 + s.b.length = k2 by omega)
  have HR3 := Lib.hid (show k2 + s.i.length = k3 by omega)
  have HR4 := Lib.hid (show k3 + trM s.t = k4 by omega)
  clear hn hl ho ha hd hb0 hW htm hk1 hk2 hk3 hk4
  go_enter Try.func26, Try.ntmps26
  go_wp2_with fail
  rw [← HWW.out]
  clear x0 x1 x2 x3
  refine (markI_ow _ D1 s.v a1 c1 K E0.out.1.1 (by have := HL.out.1.1; omega) (by omega)).mono ?_
  rintro e W1 ⟨rfl, hf, hm⟩
  rw [HR1.out]
  have P1 := Lib.hid (P0.out.fr hf (fun h => Nat.lt_irrefl _ (HLT.out _ (.inl h))))
  have F1 := Lib.hid (F0.out.trans (D' := D) (hf.weaken fun b h => HD.out b (.inl h)) (fun b hb => .inl hb))
  have O2_1 := Lib.hid (show BoolsOw W1 D2 s.b a2 c2 from (E0.out.1.2).fr hf (fun b d h => HA.out.d12 b h d))
  have O3_1 := Lib.hid (show IntsOw W1 D3 s.i a3 c3 from (E0.out.2.1).fr hf (fun b d h => HA.out.d13 b h d))
  have O4_1 := Lib.hid (show TracesOw W1 D4 s.t a4 c4 from (E0.out.2.2).fr hf (fun b d h => HA.out.d14 b h d))
  have M1_1 := Lib.hid (show IntsMk W1 D1 s.v.length K a1 c1 from hm)
  clear hf hm P0 F0 E0
  obtain ⟨x0, x1, x2, x3, -⟩ := P1.out.four
  go_wp2_with fail
  clear x0 x1 x2 x3
  refine (markB_ow _ D2 s.b a2 c2 k1 O2_1.out (by have := HL.out.1.2; omega) (by omega)).mono ?_
  rintro e W2 ⟨rfl, hf, hm⟩
  rw [HR2.out]
  have P2 := Lib.hid (P1.out.fr hf (fun h => Nat.lt_irrefl _ (HLT.out _ (.inr (.inl h)))))
  have F2 := Lib.hid (F1.out.trans (D' := D) (hf.weaken fun b h => HD.out b (.inr (.inl h))) (fun b hb => .inl hb))
  have O3_2 := Lib.hid (show IntsOw W2 D3 s.i a3 c3 from (O3_1.out).fr hf (fun b d h => HA.out.d23 b h d))
  have O4_2 := Lib.hid (show TracesOw W2 D4 s.t a4 c4 from (O4_1.out).fr hf (fun b d h => HA.out.d24 b h d))
  have M1_2 := Lib.hid (show IntsMk W2 D1 s.v.length K a1 c1 from M1_1.out.fr hf (fun b h d => HA.out.d12 b h d))
  have M2_2 := Lib.hid (show BoolsMk W2 D2 s.b.length k1 a2 c2 from hm)
  clear hf hm P1 F1 O3_1 O4_1 O2_1 M1_1
  obtain ⟨x0, x1, x2, x3, -⟩ := P2.out.four
  go_wp2_with fail
  clear x0 x1 x2 x3
  refine (markI_ow _ D3 s.i a3 c3 k2 O3_2.out (by have := HL.out.2.1; omega) (by omega)).mono ?_
  rintro e W3 ⟨rfl, hf, hm⟩
  rw [HR3.out]
  have P3 := Lib.hid (P2.out.fr hf (fun h => Nat.lt_irrefl _ (HLT.out _ (.inr (.inr (.inl h))))))
  have F3 := Lib.hid (F2.out.trans (D' := D) (hf.weaken fun b h => HD.out b (.inr (.inr (.inl h)))) (fun b hb => .inl hb))
  have O4_3 := Lib.hid (show TracesOw W3 D4 s.t a4 c4 from (O4_2.out).fr hf (fun b d h => HA.out.d34 b h d))
  have M1_3 := Lib.hid (show IntsMk W3 D1 s.v.length K a1 c1 from M1_2.out.fr hf (fun b h d => HA.out.d13 b h d))
  have M2_3 := Lib.hid (show BoolsMk W3 D2 s.b.length k1 a2 c2 from M2_2.out.fr hf (fun b h d => HA.out.d23 b h d))
  have M3_3 := Lib.hid (show IntsMk W3 D3 s.i.length k2 a3 c3 from hm)
  clear hf hm P2 F2 O4_2 O3_2 M1_2 M2_2
  obtain ⟨x0, x1, x2, x3, -⟩ := P3.out.four
  go_wp2_with fail
  clear x0 x1 x2 x3
  refine (markQ_ow _ D4 s.t a4 c4 k3 O4_3.out (by have := HL.out.2.2; omega) (by omega)).mono ?_
  rintro e W4 ⟨rfl, hf, hm⟩
  rw [HR4.out]
  have P4 := Lib.hid (P3.out.fr hf (fun h => Nat.lt_irrefl _ (HLT.out _ (.inr (.inr (.inr h))))))
  have F4 := Lib.hid (F3.out.trans (D' := D) (hf.weaken fun b h => HD.out b (.inr (.inr (.inr h)))) (fun b hb => .inl hb))
  have M1_4 := Lib.hid (show IntsMk W4 D1 s.v.length K a1 c1 from M1_3.out.fr hf (fun b h d => HA.out.d14 b h d))
  have M2_4 := Lib.hid (show BoolsMk W4 D2 s.b.length k1 a2 c2 from M2_3.out.fr hf (fun b h d => HA.out.d24 b h d))
  have M3_4 := Lib.hid (show IntsMk W4 D3 s.i.length k2 a3 c3 from M3_3.out.fr hf (fun b h d => HA.out.d34 b h d))
  have M4_4 := Lib.hid (show TrsMk W4 D4 s.t k3 a4 c4 from hm)
  clear hf hm P3 F3 O4_3 M1_3 M2_3 M3_3
  go_wp2_with fail
  go_ret
  obtain ⟨⟨e1, e2⟩, e3, e4⟩ := HK.out
  refine ⟨ret_num (by rw [e4]; unfold stM; omega), F4.out, ⟨?_, ?_⟩, ?_, ?_⟩
  · exact ⟨M1_4.out.1, fun b hb => HD.out b (.inl (M1_4.out.2 b hb))⟩
  · rw [← e1]; exact ⟨M2_4.out.1, fun b hb => HD.out b (.inr (.inl (M2_4.out.2 b hb)))⟩
  · rw [← e2]; exact ⟨M3_4.out.1, fun b hb => HD.out b (.inr (.inr (.inl (M3_4.out.2 b hb))))⟩
  · rw [← e3]
    obtain ⟨us, h1, h2⟩ := M4_4.out
    exact ⟨us, h1, fun b hb => HD.out b (.inr (.inr (.inr (h2 b hb))))⟩

end Go.Proofs.Ythjfmpeicjmlkaa
