/- copies of traces that the program and the model make: impl.copyTrace, impl.copyTraces, spec.l5Copy, spec.l5All -/
import Derived.Test.YtjbggeeadodmpaaTrQ
import Derived.Test.YtjbggeeadodmpaaStepN
import Derived.Deep.RegionHeld3
import Derived.Deep.RegionLaw
namespace Go.Proofs.Ytjbggeeadodmpaa
open Go.RowKit

/-- append of pairs, be they none -/
theorem run_append_prs (w : World) (ty : TypeId) (base : Nat) (v : Value) (l : List (Int × Int)) (hown : FRow w base v l.length (pcl l)) (S : Nat → Prop) (l2 : List (Int × Int)) (ax : Option Addr) (cx : Nat) (hsrc : PrsAt w S l2 ax cx)
    (hl : l.length + l2.length ≤ 10000000) (hbase : base ≤ w.heap.size) :
    ∃ v' w', (Builtin.append_ #[23, 23] ty #[v, .slice ax l2.length cx]).run Try.prog w = .ok v' w' ∧ FRow w' base v' (l ++ l2).length (pcl (l ++ l2)) ∧ w.grownBy w' v.ownBlock ∧ (∀ b, v'.ownBlock = some b → v.ownBlock = some b ∨ w.heap.size ≤ b) := by
  obtain ⟨i, hi, hz0, hz1, hz2⟩ := info_parts infoFetch
  have hml : maxLen = 9223372036854775807 := rfl
  rcases Nat.eq_zero_or_pos l2.length with h0 | hp
  · obtain rfl : l2 = [] := List.length_eq_zero_iff.1 h0
    have hgr : w.grownBy w v.ownBlock := ⟨rfl, rfl, rfl, Nat.le_refl _, fun _ _ _ => rfl⟩
    obtain ⟨ao, cap, rfl⟩ := own_shape' hown
    have hat := (ownsRow_at hown).1
    exact ⟨_, w, run_append_zero w 23 ty 63 i Try.underlying23 hi ao l.length cap ax cx hat, by rw [List.append_nil]; exact hown, hgr, fun b hb => .inl hb⟩
  · rcases hsrc.2.2 with h0 | ⟨b, off, ha, _, hc⟩
    · rw [h0] at hp; simp at hp
    · subst ha
      obtain ⟨v', w', hrun, r1, r2, r3⟩ := run_append_row (P := Try.prog) w base 23 ty 63 i (.agg #[.int .i64 0, .int .i64 0]) 2 16 Try.underlying23 hi hz0 hz1 hz2 rfl (by decide) v l.length ((pcl l).map (Value.int .i64)) hown ⟨b, off, none⟩ l2.length cx ((pcl l2).map (Value.int .i64)) (by rw [List.length_map, pcl_len])
        (fun j u hj => by
          rw [List.getElem?_map] at hj
          obtain ⟨y, hy, rfl⟩ := Option.map_eq_some_iff.1 hj
          obtain ⟨hlt, _⟩ := List.getElem?_eq_some_iff.1 hy
          rw [pcl_len] at hlt
          have e : (⟨b, off, none⟩ : Addr).add j = ⟨b, off + j, none⟩ := by unfold Addr.add; split <;> simp_all
          rw [e]
          have hi2 : j / 2 < l2.length := by omega
          obtain ⟨_, _, c0, c1⟩ := hc (j / 2) hi2
          obtain ⟨p0, p1⟩ := pcl_get l2 (j / 2) hi2
          rcases Nat.mod_two_eq_zero_or_one j with hm | hm
          · rw [show j / 2 * 2 = j by omega] at c0 p0
            have hye := Option.some.inj (hy.symm.trans p0)
            rw [hye]; exact c0
          · rw [show off + j / 2 * 2 + 1 = off + j by omega] at c1
            rw [show j / 2 * 2 + 1 = j by omega] at p1
            have hye := Option.some.inj (hy.symm.trans p1)
            rw [hye]; exact c1) (fun u hu => by obtain ⟨y, _, rfl⟩ := List.mem_map.1 hu; simp [Value.oneCell']) (by rw [hml]; omega) (by omega) hbase
      refine ⟨v', w', hrun, ?_, r2, r3⟩
      unfold FRow
      rw [pcl_append, List.map_append, List.length_append]
      exact r1
theorem step_append_prs {ops : Array Oper} {o : Oper} {a : Act} {w : World} {K : Act → World → Prop} {Q : Exit → Act → World → Prop} {E : Prop}
    (hg : o.guard = none) (s x : Operand) (hop : o.op = Op.call { callee := Callee.builtin Builtin.append, args := #[s, x], argTypes := #[23, 23] })
    (base : Nat) (v : Value) (l : List (Int × Int)) (hs : a.eval s = v) (hown : FRow w base v l.length (pcl l)) (S : Nat → Prop) (l2 : List (Int × Int)) (ax : Option Addr) (cx : Nat) (hx : a.eval x = .slice ax l2.length cx) (hsrc : PrsAt w S l2 ax cx)
    (hl : l.length + l2.length ≤ 10000000) (hbase : base ≤ w.heap.size)
    (hK : ∀ v' w', FRow w' base v' (l ++ l2).length (pcl (l ++ l2)) → w.grownBy w' v.ownBlock → (∀ b, v'.ownBlock = some b → v.ownBlock = some b ∨ w.heap.size ≤ b) → K (a.put o.dst v') w') :
    if Region.wanted o (yielded ops a.tmps) = true then Oper.wp Try.prog o a w K Q else E := by
  have hw : Region.wanted o (yielded ops a.tmps) = true := by simp [Region.wanted, hg]
  rw [if_pos hw]
  obtain ⟨v', w', hrun, r1, r2, r3⟩ := run_append_prs w o.type base v l hown S l2 ax cx hsrc hl hbase
  unfold Oper.wp
  simp [execOp, hop, resolve, invoke, builtin, hs, hx, hrun, Result.andThen]
  exact hK v' w' r1 r2 r3

/-- One more trace is put to traces of the call's own. -/
theorem TrsOw.push {w w' : World} {base : Nat} {v v' : Value} {l : List Rt} {us : List Value} (h : TrsOw w base v l us) (t : Rt) (u : Value) (hu : FRow w base u (t.f.length / 2) t.f) (hfr : ∀ b, u.ownBlock = some b → ¬ trD v us b)
    (hr : w'.ownsRow base 25 3 v' (l.length + 1) (tcl l us ++ [.int .i64 t.k, u, .int .i64 t.v])) (hg : w.grownBy w' v.ownBlock) (hn : ∀ b, v'.ownBlock = some b → v.ownBlock = some b ∨ w.heap.size ≤ b) :
    TrsOw w' base v' (l ++ [t]) (us ++ [u]) := by
  have hf : Fr (fun b => v.ownBlock = some b) w w' := ⟨hg.os, hg.tape, hg.output, hg.size, fun b hb hne => hg.block b hb (fun e => hne e.symm)⟩
  have hul : ∀ b, u.ownBlock = some b → b < w.heap.size := fun b hb => (World.ownsRow.lt hu b hb).2
  refine ⟨by rw [tcl_snoc h.len, List.length_append, List.length_singleton]; exact hr, ?_, ?_, ?_⟩
  · refine SubR.snoc (SubR.of h.len fun i hi u' hu' => ?_) (ownsRow_fr hu hf (fun b hb hd => hfr b hb (.inl hd)))
    obtain ⟨u2, hu2, hr2⟩ := h.sub.get i hi
    rw [hu'] at hu2
    injection hu2 with hu2
    subst hu2
    exact ownsRow_fr hr2 hf (fun b hb hd => h.ne u' (List.mem_of_getElem? hu') b hb hd)
  · intro x hx b hb hv
    rw [List.mem_append, List.mem_singleton] at hx
    rcases hn b hv with hv | hv
    · rcases hx with hx | rfl
      · exact h.ne x hx b hb hv
      · exact hfr b hb (.inl hv)
    · rcases hx with hx | rfl
      · have := (h.lt (.inr ⟨x, hx, hb⟩)).2; omega
      · have := hul b hb; omega
  · rw [List.pairwise_append]
    refine ⟨h.dis, by simp, fun x hx y hy b hb => ?_⟩
    rw [List.mem_singleton] at hy
    subst hy
    intro e
    exact hfr b e (.inr ⟨x, hx, hb⟩)
end Go.Proofs.Ytjbggeeadodmpaa
