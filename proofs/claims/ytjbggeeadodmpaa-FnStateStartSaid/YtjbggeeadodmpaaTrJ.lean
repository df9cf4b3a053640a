/- impl.sameTrace, impl.hasTrace, spec.l5Same -/
import Derived.Test.YtjbggeeadodmpaaTrQ
import Derived.BigQuiet
namespace Go.Proofs.Ytjbggeeadodmpaa
open Go.RowKit

theorem trEq_false {a b : Tr} (h : a.k ≠ b.k ∨ a.v ≠ b.v ∨ a.u ≠ b.u) : trEq a b = false := by
  cases hx : trEq a b
  · rfl
  · have := (trEq_iff a b).1 hx
    subst this
    rcases h with h | h | h <;> exact absurd rfl h
theorem take_eq_snoc {α : Type} {l m : List α} {k : Nat} (h1 : k < l.length) (h2 : k < m.length) (h : l.take k = m.take k) (he : l[k] = m[k]) : l.take (k + 1) = m.take (k + 1) := by
  rw [List.take_succ_eq_append_getElem h1, List.take_succ_eq_append_getElem h2, h, he]
theorem ne_of_get {α : Type} {l m : List α} {k : Nat} (h1 : k < l.length) (h2 : k < m.length) (he : l[k] ≠ m[k]) : l ≠ m := by
  intro e; subst e; exact he rfl

set_option maxRecDepth 100000 in
set_option maxHeartbeats 4000000 in
theorem sameTrace_any (w : World) (S S' : Nat → Prop) (t t' : Tr) (a a' : Option Addr) (c c' : Nat) (h : PrsAt w S t.u a c) (h' : PrsAt w S' t'.u a' c') :
    Calls Try.prog 74 #[.agg #[.int .i64 t.k, .slice a t.u.length c, .int .i64 t.v], .agg #[.int .i64 t'.k, .slice a' t'.u.length c', .int .i64 t'.v]] w fun e w' => e = .returned (.bool (trEq t t')) ∧ Below w.heap.size w w' := by
  obtain ⟨k1, l, v1⟩ := t
  obtain ⟨k2, m, v2⟩ := t'
  simp only at *
  have hl1 : l.length ≤ 9223372036854775807 := RwAt.len h
  have hl2 : m.length ≤ 9223372036854775807 := RwAt.len h'
  obtain ⟨W, hW⟩ : ∃ W, W = (w.alloc (.cells #[.int .i64 k1, .slice a l.length c, .int .i64 v1] 25)).alloc (.cells #[.int .i64 k2, .slice a' m.length c', .int .i64 v2] 25) := ⟨_, rfl⟩
  have B0 := Lib.hid ((Blk.new w 25 #[.int .i64 k1, .slice a l.length c, .int .i64 v1]).alloc (.cells #[.int .i64 k2, .slice a' m.length c', .int .i64 v2] 25))
  have B1 := Lib.hid (show Blk ((w.alloc (.cells #[.int .i64 k1, .slice a l.length c, .int .i64 v1] 25)).alloc (.cells #[.int .i64 k2, .slice a' m.length c', .int .i64 v2] 25)) (w.heap.size + 1) 25 #[.int .i64 k2, .slice a' m.length c', .int .i64 v2] by
    have := Blk.new (w.alloc (.cells #[.int .i64 k1, .slice a l.length c, .int .i64 v1] 25)) 25 #[.int .i64 k2, .slice a' m.length c', .int .i64 v2]; simpa using this)
  have H := Lib.hid ((h.alloc (.cells #[.int .i64 k1, .slice a l.length c, .int .i64 v1] 25)).alloc (.cells #[.int .i64 k2, .slice a' m.length c', .int .i64 v2] 25))
  have H' := Lib.hid ((h'.alloc (.cells #[.int .i64 k1, .slice a l.length c, .int .i64 v1] 25)).alloc (.cells #[.int .i64 k2, .slice a' m.length c', .int .i64 v2] 25))
  have HB0 := Lib.hid (show Below w.heap.size w ((w.alloc (.cells #[.int .i64 k1, .slice a l.length c, .int .i64 v1] 25)).alloc (.cells #[.int .i64 k2, .slice a' m.length c', .int .i64 v2] 25)) from ((Below.refl _ _).alloc (Nat.le_refl _) _).alloc (by simp) _)
  have HWW := Lib.hid hW
  clear h h' hW
  obtain ⟨x0, x1, x2, -⟩ := B0.out.three
  obtain ⟨y0, y1, y2, -⟩ := B1.out.three
  by_cases hk : k1 = k2
  · by_cases hv : v1 = v2
    · by_cases hn : l.length = m.length
      · subst hk hv
        have t0 : (k1 != k1) = false := by simp
        have t1 : (v1 != v1) = false := by simp
        have t2 : ((l.length : Int) != (m.length : Int)) = false := by rw [hn]; simp
        have t3 : (l.length != m.length) = false := by rw [hn]; simp
        have HN := Lib.hid hn
        rw [← HWW.out] at B0 B1 H H' HB0
        have hWs : w.heap.size + 1 < W.heap.size := by rw [HWW.out]; simp
        clear hn
        go_enter Try.func74, Try.ntmps74
        go_wp2_with fail
        rw [← HWW.out]
        clear x0 x1 x2 y0 y1 y2 t0 t1 t2 t3
        go_loopw [31] (fun i wr => ∃ k : Nat, k ≤ l.length ∧ i = .int .i64 k ∧ l.take k = m.take k ∧ Below W.heap.size W wr) (fun i _ => l.length - (intOf i).toNat)
        case atStart => exact ⟨0, by omega, rfl, by simp, Below.refl _ _⟩
        case round =>
          obtain ⟨k, hk, rfl, hq, hb⟩ := hrel
          have HQ := Lib.hid hq
          have HB := Lib.hid hb
          have hwr := hb.size
          have HD := Lib.hid (HB0.out.trans (hb.mono (by omega)))
          clear hq hb
          obtain ⟨z0, z1, -⟩ := (B0.out.below HB.out (by omega)).three
          by_cases hlt : k < l.length
          · have hlt2 : k < m.length := by have := HN.out; omega
            obtain ⟨b, o, rfl, hbl, _, e0, e1, _, _⟩ := H.out.get HB.out hlt
            have HSN := Lib.hid (take_eq_snoc hlt hlt2 HQ.out)
            have HNE := Lib.hid (ne_of_get hlt hlt2)
            obtain ⟨p, hp⟩ : ∃ p, p = l[k] := ⟨_, rfl⟩
            rw [← hp] at e0 e1 HSN HNE
            obtain ⟨p1, p2⟩ := p
            obtain ⟨b', o', rfl, hbl', _, e0', e1', _, _⟩ := ((H'.out.below HB.out).alloc (.cells #[.int .i64 p1, .int .i64 p2] 63)).get (Below.refl _ _) hlt2
            obtain ⟨q, hq⟩ : ∃ q, q = m[k] := ⟨_, rfl⟩
            rw [← hq] at e0' e1' HSN HNE
            obtain ⟨q1, q2⟩ := q
            simp only at e0 e1 e0' e1'
            have b1 := (B1.out.below HB.out (by omega)).alloc (.cells #[.int .i64 p1, .int .i64 p2] 63)
            obtain ⟨y0, y1, y2, -⟩ := b1.three
            have HBA := Lib.hid (HB.out.alloc hwr (.cells #[.int .i64 p1, .int .i64 p2] 63))
            clear hp hq b1
            by_cases hx : p1 = q1
            · by_cases hy : p2 = q2
              · subst hx hy
                have t0 : (p1 == p1) = true := by simp
                have t1 : (p2 == p2) = true := by simp
                have t2 : (p1 != p1) = false := by simp
                have t3 : (p2 != p2) = false := by simp
                go_wp2_with fail
                go_quiet (fail)
                go_wp2_with fail
                go_roundw
                case rel => exact ⟨k + 1, by omega, by go_num, HSN.out (by first | rfl | trivial), below_drewN HBA.out _⟩
                case measure => simp [intOf]; omega
              · have t0 : (p1 == q1) = true := by simpa using hx
                have t1 : (p2 == q2) = false := by simpa using hy
                have t2 : (p1 != q1) = false := by simpa using hx
                have t3 : (p2 != q2) = true := by simpa using hy
                have HF := Lib.hid (show trEq ⟨k1, l, v1⟩ ⟨k1, m, v1⟩ = false from trEq_false (.inr (.inr (HNE.out (fun e => hy (by injection e))))))
                clear hx hy
                go_wp2_with fail
                go_quiet (fail)
                go_wp2_with fail
                go_ret
                exact ⟨ret_bool HF.out.symm, HB0.out.trans ((below_drewN HBA.out _).mono (by omega))⟩
            · have t0 : (p1 == q1) = false := by simpa using hx
              have t2 : (p1 != q1) = true := by simpa using hx
              have HF := Lib.hid (show trEq ⟨k1, l, v1⟩ ⟨k1, m, v1⟩ = false from trEq_false (.inr (.inr (HNE.out (fun e => hx (by injection e))))))
              clear hx
              go_wp2_with fail
              go_quiet (fail)
              go_wp2_with fail
              go_ret
              exact ⟨ret_bool HF.out.symm, HB0.out.trans ((below_drewN HBA.out _).mono (by omega))⟩
          · have hlm : l = m := by
              have := HQ.out
              have := HN.out
              rwa [List.take_of_length_le (by omega), List.take_of_length_le (by omega)] at *
            have HF := Lib.hid (show trEq ⟨k1, l, v1⟩ ⟨k1, m, v1⟩ = true from (trEq_iff _ _).2 (by rw [hlm]))
            clear hlm
            go_wp2_with fail
            go_ret
            exact ⟨ret_bool HF.out.symm, HD.out⟩
      · rw [trEq_false (.inr (.inr (fun e => hn (congrArg List.length e))))]
        subst hk hv
        have t0 : (k1 != k1) = false := by simp
        have t1 : (v1 != v1) = false := by simp
        have t2 : ((l.length : Int) != (m.length : Int)) = true := by rw [bne_iff_ne]; omega
        have t3 : (l.length != m.length) = true := by rw [bne_iff_ne]; omega
        clear hn
        go_enter Try.func74, Try.ntmps74
        go_wp2_with fail
        go_ret
        exact ⟨rfl, HB0.out⟩
    · rw [trEq_false (.inr (.inl hv))]
      subst hk
      have t0 : (k1 != k1) = false := by simp
      have t1 : (v1 != v2) = true := by simpa using hv
      clear hv
      go_enter Try.func74, Try.ntmps74
      go_wp2_with fail
      go_ret
      exact ⟨rfl, HB0.out⟩
  · rw [trEq_false (.inl hk)]
    have t0 : (k1 != k2) = true := by simpa using hk
    clear hk
    go_enter Try.func74, Try.ntmps74
    go_wp2_with fail
    go_ret
    exact ⟨rfl, HB0.out⟩
set_option maxRecDepth 100000 in
set_option maxHeartbeats 4000000 in
theorem l5Same_any (w : World) (S S' : Nat → Prop) (t t' : Tr) (a a' : Option Addr) (c c' : Nat) (h : PrsAt w S t.u a c) (h' : PrsAt w S' t'.u a' c') :
    Calls Try.prog 75 #[.agg #[.int .i64 t.k, .slice a t.u.length c, .int .i64 t.v], .agg #[.int .i64 t'.k, .slice a' t'.u.length c', .int .i64 t'.v]] w fun e w' => e = .returned (.bool (trEq t t')) ∧ Below w.heap.size w w' := by
  obtain ⟨k1, l, v1⟩ := t
  obtain ⟨k2, m, v2⟩ := t'
  simp only at *
  have hl1 : l.length ≤ 9223372036854775807 := RwAt.len h
  have hl2 : m.length ≤ 9223372036854775807 := RwAt.len h'
  obtain ⟨W, hW⟩ : ∃ W, W = (w.alloc (.cells #[.int .i64 k1, .slice a l.length c, .int .i64 v1] 25)).alloc (.cells #[.int .i64 k2, .slice a' m.length c', .int .i64 v2] 25) := ⟨_, rfl⟩
  have B0 := Lib.hid ((Blk.new w 25 #[.int .i64 k1, .slice a l.length c, .int .i64 v1]).alloc (.cells #[.int .i64 k2, .slice a' m.length c', .int .i64 v2] 25))
  have B1 := Lib.hid (show Blk ((w.alloc (.cells #[.int .i64 k1, .slice a l.length c, .int .i64 v1] 25)).alloc (.cells #[.int .i64 k2, .slice a' m.length c', .int .i64 v2] 25)) (w.heap.size + 1) 25 #[.int .i64 k2, .slice a' m.length c', .int .i64 v2] by
    have := Blk.new (w.alloc (.cells #[.int .i64 k1, .slice a l.length c, .int .i64 v1] 25)) 25 #[.int .i64 k2, .slice a' m.length c', .int .i64 v2]; simpa using this)
  have H := Lib.hid ((h.alloc (.cells #[.int .i64 k1, .slice a l.length c, .int .i64 v1] 25)).alloc (.cells #[.int .i64 k2, .slice a' m.length c', .int .i64 v2] 25))
  have H' := Lib.hid ((h'.alloc (.cells #[.int .i64 k1, .slice a l.length c, .int .i64 v1] 25)).alloc (.cells #[.int .i64 k2, .slice a' m.length c', .int .i64 v2] 25))
  have HB0 := Lib.hid (show Below w.heap.size w ((w.alloc (.cells #[.int .i64 k1, .slice a l.length c, .int .i64 v1] 25)).alloc (.cells #[.int .i64 k2, .slice a' m.length c', .int .i64 v2] 25)) from ((Below.refl _ _).alloc (Nat.le_refl _) _).alloc (by simp) _)
  have HWW := Lib.hid hW
  clear h h' hW
  obtain ⟨x0, x1, x2, -⟩ := B0.out.three
  obtain ⟨y0, y1, y2, -⟩ := B1.out.three
  by_cases hk : k1 = k2
  · by_cases hv : v1 = v2
    · by_cases hn : l.length = m.length
      · subst hk hv
        have t0 : (k1 != k1) = false := by simp
        have t1 : (v1 != v1) = false := by simp
        have t2 : ((l.length : Int) != (m.length : Int)) = false := by rw [hn]; simp
        have t3 : (l.length != m.length) = false := by rw [hn]; simp
        have HN := Lib.hid hn
        rw [← HWW.out] at B0 B1 H H' HB0
        have hWs : w.heap.size + 1 < W.heap.size := by rw [HWW.out]; simp
        clear hn
        go_enter Try.func75, Try.ntmps75
        go_wp2_with fail
        rw [← HWW.out]
        clear x0 x1 x2 y0 y1 y2 t0 t1 t2 t3
        go_loopw [5] (fun i wr => ∃ k : Nat, k ≤ l.length ∧ i = .int .i64 k ∧ l.take k = m.take k ∧ Below W.heap.size W wr) (fun i _ => l.length - (intOf i).toNat)
        case atStart => exact ⟨0, by omega, rfl, by simp, Below.refl _ _⟩
        case round =>
          obtain ⟨k, hk, rfl, hq, hb⟩ := hrel
          have HQ := Lib.hid hq
          have HB := Lib.hid hb
          have hwr := hb.size
          have HD := Lib.hid (HB0.out.trans (hb.mono (by omega)))
          clear hq hb
          obtain ⟨z0, z1, -⟩ := (B0.out.below HB.out (by omega)).three
          by_cases hlt : k < l.length
          · have hlt2 : k < m.length := by have := HN.out; omega
            obtain ⟨b, o, rfl, hbl, _, e0, e1, _, _⟩ := H.out.get HB.out hlt
            have HSN := Lib.hid (take_eq_snoc hlt hlt2 HQ.out)
            have HNE := Lib.hid (ne_of_get hlt hlt2)
            obtain ⟨p, hp⟩ : ∃ p, p = l[k] := ⟨_, rfl⟩
            rw [← hp] at e0 e1 HSN HNE
            obtain ⟨p1, p2⟩ := p
            obtain ⟨b', o', rfl, hbl', _, e0', e1', _, _⟩ := (H'.out.below HB.out).get (Below.refl _ _) hlt2
            obtain ⟨q, hq⟩ : ∃ q, q = m[k] := ⟨_, rfl⟩
            rw [← hq] at e0' e1' HSN HNE
            obtain ⟨q1, q2⟩ := q
            simp only at e0 e1 e0' e1'
            have b1 := B1.out.below HB.out (by omega)
            obtain ⟨y0, y1, y2, -⟩ := b1.three
            have HBA := Lib.hid HB.out
            clear hp hq b1
            by_cases hx : p1 = q1
            · by_cases hy : p2 = q2
              · subst hx hy
                have t0 : (p1 == p1) = true := by simp
                have t1 : (p2 == p2) = true := by simp
                have t2 : (p1 != p1) = false := by simp
                have t3 : (p2 != p2) = false := by simp
                go_wp2_with fail
                go_quiet (fail)
                go_wp2_with fail
                go_roundw
                case rel => exact ⟨k + 1, by omega, by go_num, HSN.out (by first | rfl | trivial), below_drewN HBA.out _⟩
                case measure => simp [intOf]; omega
              · have t0 : (p1 == q1) = true := by simpa using hx
                have t1 : (p2 == q2) = false := by simpa using hy
                have t2 : (p1 != q1) = false := by simpa using hx
                have t3 : (p2 != q2) = true := by simpa using hy
                have HF := Lib.hid (show trEq ⟨k1, l, v1⟩ ⟨k1, m, v1⟩ = false from trEq_false (.inr (.inr (HNE.out (fun e => hy (by injection e))))))
                clear hx hy
                go_wp2_with fail
                go_quiet (fail)
                go_wp2_with fail
                go_ret
                exact ⟨ret_bool HF.out.symm, HB0.out.trans ((below_drewN HBA.out _).mono (by omega))⟩
            · have t0 : (p1 == q1) = false := by simpa using hx
              have t2 : (p1 != q1) = true := by simpa using hx
              have HF := Lib.hid (show trEq ⟨k1, l, v1⟩ ⟨k1, m, v1⟩ = false from trEq_false (.inr (.inr (HNE.out (fun e => hx (by injection e))))))
              clear hx
              go_wp2_with fail
              go_quiet (fail)
              go_wp2_with fail
              go_ret
              exact ⟨ret_bool HF.out.symm, HB0.out.trans ((below_drewN HBA.out _).mono (by omega))⟩
          · have hlm : l = m := by
              have := HQ.out
              have := HN.out
              rwa [List.take_of_length_le (by omega), List.take_of_length_le (by omega)] at *
            have HF := Lib.hid (show trEq ⟨k1, l, v1⟩ ⟨k1, m, v1⟩ = true from (trEq_iff _ _).2 (by rw [hlm]))
            clear hlm
            go_wp2_with fail
            go_ret
            exact ⟨ret_bool HF.out.symm, HD.out⟩
      · rw [trEq_false (.inr (.inr (fun e => hn (congrArg List.length e))))]
        subst hk hv
        have t0 : (k1 != k1) = false := by simp
        have t1 : (v1 != v1) = false := by simp
        have t2 : ((l.length : Int) != (m.length : Int)) = true := by rw [bne_iff_ne]; omega
        have t3 : (l.length != m.length) = true := by rw [bne_iff_ne]; omega
        clear hn
        go_enter Try.func75, Try.ntmps75
        go_wp2_with fail
        go_ret
        exact ⟨rfl, HB0.out⟩
    · rw [trEq_false (.inr (.inl hv))]
      subst hk
      have t0 : (k1 != k1) = false := by simp
      have t1 : (v1 != v2) = true := by simpa using hv
      clear hv
      go_enter Try.func75, Try.ntmps75
      go_wp2_with fail
      go_ret
      exact ⟨rfl, HB0.out⟩
  · rw [trEq_false (.inl hk)]
    have t0 : (k1 != k2) = true := by simpa using hk
    clear hk
    go_enter Try.func75, Try.ntmps75
    go_wp2_with fail
    go_ret
    exact ⟨rfl, HB0.out⟩

set_option maxHeartbeats 2000000 in
theorem hasTrace_any (w : World) (S S' : Nat → Prop) (l : List Tr) (t : Tr) (a a' : Option Addr) (c c' : Nat) (h : TrsAt w S l a c) (h' : PrsAt w S' t.u a' c') :
    Calls Try.prog 47 #[.slice a l.length c, .agg #[.int .i64 t.k, .slice a' t.u.length c', .int .i64 t.v]] w fun e w' => e = .returned (.bool (l.any fun x => trEq x t)) ∧ Below w.heap.size w w' := by
  have hlen : l.length ≤ 9223372036854775807 := RwAt.len h
  have K0 := Lib.hid (Kt.start (ty := 25) h')
  have H := Lib.hid (h.alloc (.cells #[.int .i64 t.k, .slice a' t.u.length c', .int .i64 t.v] 25))
  obtain ⟨W, hW⟩ : ∃ W, W = w.alloc (.cells #[.int .i64 t.k, .slice a' t.u.length c', .int .i64 t.v] 25) := ⟨_, rfl⟩
  have HWW := Lib.hid hW
  rw [← hW] at K0 H
  have hWs := K0.out.size
  clear h h' hW
  go_enter Try.func47, Try.ntmps47
  go_wp2_with fail
  rw [← HWW.out]
  go_loopw [9] (fun i wr => ∃ k : Nat, k ≤ l.length ∧ i = .int .i64 k ∧ ((l.take k).any fun x => trEq x t) = false ∧ Below W.heap.size W wr) (fun i _ => l.length - (intOf i).toNat)
  case atStart => exact ⟨0, by omega, rfl, rfl, Below.refl _ _⟩
  case round =>
    obtain ⟨k, hk, rfl, hq, hb⟩ := hrel
    have HQ := Lib.hid hq
    have HB := Lib.hid hb
    have hwr := hb.size
    have K1 := Lib.hid (K0.out.step hb)
    clear hq hb
    by_cases hlt : k < l.length
    · obtain ⟨b, o, a2, c2, rfl, hbl, _, e0, e1, e2, hs, _, _⟩ := H.out.get HB.out hlt
      have HSN := Lib.hid (show ((l.take (k + 1)).any fun x => trEq x t) = (((l.take k).any fun x => trEq x t) || trEq l[k] t) by rw [List.take_succ_eq_append_getElem hlt, List.any_append]; simp)
      have HTR := Lib.hid (show trEq l[k] t = true → (l.any fun x => trEq x t) = true from fun he => List.any_eq_true.2 ⟨_, List.getElem_mem hlt, he⟩)
      obtain ⟨u, hu⟩ : ∃ u, u = l[k] := ⟨_, rfl⟩
      rw [← hu] at e0 e1 e2 hs HSN HTR
      have HS := Lib.hid (hs.alloc (.cells #[.int .i64 u.k, .slice a2 u.u.length c2, .int .i64 u.v] 25))
      have K2 := Lib.hid (K1.out.alloc (.cells #[.int .i64 u.k, .slice a2 u.u.length c2, .int .i64 u.v] 25))
      have HBA := Lib.hid (HB.out.alloc hwr (.cells #[.int .i64 u.k, .slice a2 u.u.length c2, .int .i64 u.v] 25))
      obtain ⟨x0, x1, x2⟩ := K2.out.box
      clear hs hu
      go_wp2_with fail
      refine (sameTrace_any _ S S' u t a2 a' c2 c' HS.out K2.out.2).mono ?_
      rintro e w1 ⟨rfl, hb⟩
      have K3 := Lib.hid (K2.out.step hb)
      have HB1 := Lib.hid (HBA.out.trans (hb.mono (by simp; omega)))
      clear hb x0 x1 x2 K2 HBA
      cases he : trEq u t
      · have HE := Lib.hid he
        clear he
        go_wp2_with fail
        go_roundw
        case rel => exact ⟨k + 1, by omega, by go_num, by rw [HSN.out, HQ.out, HE.out]; rfl, HB1.out⟩
        case measure => simp [intOf]; omega
      · have HE := Lib.hid (HTR.out he)
        clear he
        go_wp2_with fail
        go_ret
        exact ⟨ret_bool HE.out.symm, K3.out.done⟩
    · have hf : (l.any fun x => trEq x t) = false := by have := HQ.out; rwa [List.take_of_length_le (by omega)] at this
      have HF := Lib.hid hf
      clear hf
      go_wp2_with fail
      go_ret
      exact ⟨ret_bool HF.out.symm, K1.out.done⟩
end Go.Proofs.Ytjbggeeadodmpaa
