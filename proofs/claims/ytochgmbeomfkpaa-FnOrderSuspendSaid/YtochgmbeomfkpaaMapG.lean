/- a map of the call's own, from numbers to slices: what is read of a slice is its header; ranged over -/
import Derived.Maps.RangeWalk
import Derived.Test.YtochgmbeomfkpaaMapB
namespace Go.Proofs.Ytochgmbeomfkpaa
open Go.RowKit

/-- The headers of slices. -/
def mkH : Option (Nat × Nat × Nat) → Value
  | none => .slice none 0 0
  | some (g, n, c) => .slice (some ⟨g, 0, none⟩) n c
def encH : Option (Nat × Nat × Nat) → DataW Unit
  | none => .nil
  | some (g, n, c) => .agg [.lit (.int .i64 g), .lit (.int .i64 n), .lit (.int .i64 c)]
open Classical in
noncomputable def rdH (v : Value) : Option (DataW Unit × List MemPlace) := if h : ∃ x, v = mkH x then some (encH h.choose, []) else none
theorem mkH_inj {x y : Option (Nat × Nat × Nat)} (h : mkH x = mkH y) : x = y := by
  cases x with
  | none => cases y with
    | none => rfl
    | some y => obtain ⟨g, n, c⟩ := y; simp [mkH] at h
  | some x =>
    obtain ⟨g, n, c⟩ := x
    cases y with
    | none => simp [mkH] at h
    | some y => obtain ⟨g', n', c'⟩ := y; simp [mkH] at h; obtain ⟨rfl, rfl, rfl⟩ := h; rfl
theorem encH_inj {x y : Option (Nat × Nat × Nat)} (h : encH x = encH y) : x = y := by
  cases x with
  | none => cases y with
    | none => rfl
    | some y => obtain ⟨g, n, c⟩ := y; simp [encH] at h
  | some x =>
    obtain ⟨g, n, c⟩ := x
    cases y with
    | none => simp [encH] at h
    | some y => obtain ⟨g', n', c'⟩ := y; simp [encH] at h; obtain ⟨h1, h2, h3⟩ := h; congr <;> omega
theorem rdH_mk (x : Option (Nat × Nat × Nat)) : rdH (mkH x) = some (encH x, []) := by
  have h : ∃ y, mkH x = mkH y := ⟨x, rfl⟩
  unfold rdH
  rw [dif_pos h, mkH_inj h.choose_spec.symm]
theorem rdH_inv {v : Value} {z : DataW Unit × List MemPlace} (h : rdH v = some z) : ∃ x, v = mkH x ∧ z = (encH x, []) := by
  unfold rdH at h
  split at h
  · rename_i hx
    injection h with h
    exact ⟨_, hx.choose_spec, h.symm⟩
  · cases h

/-- Block b is a map of at most n entries: at the key x the header f x, or none. -/
def MapG (w : World) (b n : Nat) (f : Int → Option (Option (Nat × Nat × Nat))) : Prop :=
  ∃ D : DataW Unit, w.ownsMap Try.prog 3 rdH b n D ∧ ∀ x : Int, i64ok x → Maps.has D (.int .i64 x) = (f x).isSome ∧ ∀ zd, D.atKey (.int .i64 x) zd = (match f x with | some h => encH h | none => zd)
theorem MapG.made (w : World) : MapG (w.alloc (.map #[] 0)) w.heap.size 0 (fun _ => none) := ⟨.map [], World.ownsMap_made _ _ _ _, fun _ _ => ⟨rfl, fun _ => rfl⟩⟩
theorem MapG.lt {w : World} {b n : Nat} {f : Int → Option (Option (Nat × Nat × Nat))} (h : MapG w b n f) : b < w.heap.size := h.choose_spec.1.lt
theorem MapG.mono {w : World} {b n n' : Nat} {f : Int → Option (Option (Nat × Nat × Nat))} (h : MapG w b n f) (hn : n ≤ n') : MapG w b n' f := by
  obtain ⟨D, h1, h2⟩ := h
  exact ⟨D, h1.mono hn, h2⟩
theorem MapG.fr {D : Nat → Prop} {w w' : World} {b n : Nat} {f : Int → Option (Option (Nat × Nat × Nat))} (h : MapG w b n f) (hf : Fr D w w') (hD : ¬ D b) : MapG w' b n f := by
  obtain ⟨D', h1, h2⟩ := h
  have hlt := h1.lt
  obtain ⟨es, clock, hb, F, hs, hd⟩ := h1
  exact ⟨D', ⟨es, clock, (hf.2.2.2.2 b hlt hD).trans hb, F, hs, hd⟩, h2⟩
theorem MapG.step {w w' : World} {b n : Nat} {f : Int → Option (Option (Nat × Nat × Nat))} (h : MapG w b n f) (hb : Below w.heap.size w w') : MapG w' b n f := h.fr (D := fun _ => False) (Fr.of_below hb) (fun h => h)

theorem zeroSlice (w : World) : (zeroValue 26).run Try.prog w = .ok (mkH none) w := by kernel_rfl

/-- 'm[k]', 'v, ok := m[k]' : equations for the walk. -/
theorem MapG.look {w : World} {b n : Nat} {f : Int → Option (Option (Nat × Nat × Nat))} (h : MapG w b n f) {t : TypeId} (ht : Try.prog.underlying t = some (.map 3 26)) {k : Int} (hk : i64ok k) :
    (Instr.lookup t (.map (some b)) (.int .i64 k) false).run Try.prog w = .ok (mkH ((f k).getD none)) w := by
  obtain ⟨D, h1, h2⟩ := h
  obtain ⟨v, ps, hrun, hv⟩ := h1.lookup keyedInt ht (zeroSlice w) (rdH_mk none) (Go.Maps.keyOf_int_mk Try.underlying3 (WalkArith.wf_i64 hk))
  rw [(h2 k hk).2] at hv
  obtain ⟨x, rfl, hx⟩ := rdH_inv hv
  simp only [Prod.mk.injEq] at hx
  have e : (f k).getD none = x := by
    cases hf : f k with
    | none => rw [hf] at hx; exact encH_inj hx.1
    | some y => rw [hf] at hx; exact encH_inj hx.1
  rw [e]
  exact hrun
theorem MapG.look_ok {w : World} {b n : Nat} {f : Int → Option (Option (Nat × Nat × Nat))} (h : MapG w b n f) {t : TypeId} (ht : Try.prog.underlying t = some (.map 3 26)) {k : Int} (hk : i64ok k) :
    (Instr.lookup t (.map (some b)) (.int .i64 k) true).run Try.prog w = .ok (.tuple #[mkH ((f k).getD none), .bool (f k).isSome]) w := by
  obtain ⟨D, h1, h2⟩ := h
  obtain ⟨v, ps, hrun, hv⟩ := h1.look_ok keyedInt ht (zeroSlice w) (rdH_mk none) (Go.Maps.keyOf_int_mk Try.underlying3 (WalkArith.wf_i64 hk))
  rw [(h2 k hk).2] at hv
  rw [(h2 k hk).1] at hrun
  obtain ⟨x, rfl, hx⟩ := rdH_inv hv
  simp only [Prod.mk.injEq] at hx
  have e : (f k).getD none = x := by
    cases hf : f k with
    | none => rw [hf] at hx; exact encH_inj hx.1
    | some y => rw [hf] at hx; exact encH_inj hx.1
  rw [e]
  exact hrun
def updG (f : Int → Option (Option (Nat × Nat × Nat))) (k : Int) (h : Option (Nat × Nat × Nat)) : Int → Option (Option (Nat × Nat × Nat)) := fun y => if y = k then some h else f y
/-- 'm[k] = v' -/
theorem wpList_put_mapG (w : World) {ops : Array Oper} {rest : List Oper} {o : Oper} {a : Act} {Q : Exit → Act → World → Prop}
    (hg : o.guard = none) (m x v : Operand) (t : TypeId) (hop : o.op = Op.mapUpdate t m x v) (ht : Try.prog.underlying t = some (.map 3 26)) (b n : Nat) (f : Int → Option (Option (Nat × Nat × Nat)))
    (hm : a.eval m = .map (some b)) (h : MapG w b n f) (hn : n < maxLen) (k : Int) (hx : a.eval x = .int .i64 k) (hk : i64ok k) (hd : Option (Nat × Nat × Nat)) (hv : a.eval v = mkH hd)
    (hK : ∀ w', MapG w' b (n + 1) (updG f k hd) → Fr (fun y => y = b) w w' → wpList Try.prog ops Q rest (a.put o.dst undef) w') : wpList Try.prog ops Q (o :: rest) a w := by
  refine wpList_plain hg fun K' hK' => ?_
  obtain ⟨D, h1, h2⟩ := h
  have hdm : Maps.IsMap D := h1.isMap
  obtain ⟨w', hrun, r1, r2⟩ := h1.update (t := t) keyedInt ht hn (Go.Maps.keyOf_int_mk Try.underlying3 (WalkArith.wf_i64 hk)) (rdH_mk hd)
  unfold Oper.wp
  simp [execOp, hop, hm, hx, hv, hrun, Result.andThen]
  refine hK' _ _ (hK w' ⟨_, r1, fun y hy => ?_⟩ ⟨r2.os, r2.tape, r2.output, r2.size, fun y hy hn => r2.block y hy (fun e => hn (by injection e))⟩)
  unfold updG
  by_cases hyk : y = k
  · subst hyk
    rw [if_pos rfl]
    exact ⟨Maps.has_put_same hdm (by exact trivial) _, fun zd => Maps.atKey_put_same hdm (by exact trivial) _ zd⟩
  · rw [if_neg hyk]
    have hne : Lit.int .i64 y ≠ Lit.int .i64 k := by intro e; injection e with _ e; exact hyk e
    exact ⟨by rw [Maps.has_put_other hne]; exact (h2 y hy).1, fun zd => by rw [Maps.atKey_put_other hne]; exact (h2 y hy).2 zd⟩

/-- 'for k, v := range m' under way: the keys that left says are still to come. -/
def RgG (w : World) (b r n : Nat) (f : Int → Option (Option (Nat × Nat × Nat))) (left : Int → Bool) : Prop :=
  ∃ (D : DataW Unit) (lf : Lit → Bool) (cnt : Nat), w.ranges Try.prog 3 rdH b r n D lf cnt ∧ (∀ x : Int, i64ok x → Maps.has D (.int .i64 x) = (f x).isSome ∧ ∀ zd, D.atKey (.int .i64 x) zd = (match f x with | some h => encH h | none => zd)) ∧ ∀ x : Int, i64ok x → lf (.int .i64 x) = left x
section
variable {w w' : World} {b r n : Nat} {f : Int → Option (Option (Nat × Nat × Nat))} {left : Int → Bool}
theorem RgG.map (h : RgG w b r n f left) : MapG w b n f := by
  obtain ⟨D, lf, cnt, h1, h2, _⟩ := h
  exact ⟨D, h1.owns, h2⟩
theorem RgG.fr {D : Nat → Prop} (h : RgG w b r n f left) (hf : Fr D w w') (hb : ¬ D b) (hr : ¬ D r) : RgG w' b r n f left := by
  obtain ⟨D', lf, cnt, h1, h2, h3⟩ := h
  have l1 := h1.owns.lt
  have l2 := h1.lt
  obtain ⟨es, clock, since, seen, c0, hbb, F, hs, hD, hrr, r1, r2, r3, r4, r5, r6⟩ := h1
  exact ⟨D', lf, cnt, ⟨es, clock, since, seen, c0, (hf.2.2.2.2 b l1 hb).trans hbb, F, hs, hD, (hf.2.2.2.2 r l2 hr).trans hrr, r1, r2, r3, r4, r5, r6⟩, h2, h3⟩
theorem RgG.ne (h : RgG w b r n f left) : r ≠ b := by
  obtain ⟨D, lf, cnt, h1, _⟩ := h
  exact h1.ne
theorem RgG.lt (h : RgG w b r n f left) : r < w.heap.size := by
  obtain ⟨D, lf, cnt, h1, _⟩ := h
  exact h1.lt
end
/-- How many are still to come: for a loop's measure. -/
theorem rangeLeft_fr {w w' : World} {b r : Nat} (h1 : w'.heap[b]? = w.heap[b]?) (h2 : w'.heap[r]? = w.heap[r]?) : w'.rangeLeft b r = w.rangeLeft b r := by unfold World.rangeLeft; rw [h1, h2]
/-- 'range m' -/
theorem wpList_range_mapG (w : World) {ops : Array Oper} {rest : List Oper} {o : Oper} {a : Act} {Q : Exit → Act → World → Prop}
    (hg : o.guard = none) (m : Operand) (t : TypeId) (hop : o.op = Op.range t m) (ht : Try.prog.underlying t = some (.map 3 26)) (b n : Nat) (f : Int → Option (Option (Nat × Nat × Nat)))
    (hm : a.eval m = .map (some b)) (h : MapG w b n f)
    (hK : ∀ w', RgG w' b w.heap.size n f (fun x => (f x).isSome) → Below w.heap.size w w' → w'.heap.size = w.heap.size + 1 → wpList Try.prog ops Q rest (a.put o.dst (.pointer (some ⟨w.heap.size, 0, none⟩))) w') :
    wpList Try.prog ops Q (o :: rest) a w := by
  obtain ⟨D, h1, h2⟩ := h
  exact wpList_range_own w hg m t hop 3 26 keyedInt ht rdH b n D hm h1 (fun w' hr hgr hs => hK w' ⟨D, _, _, hr, h2, fun x hx => (h2 x hx).1⟩ ⟨hgr.os, hgr.tape, hgr.output, hgr.size, fun i hi => hgr.block i hi (by simp)⟩ hs)
set_option maxRecDepth 100000 in
/-- A step of the range. -/
theorem wpList_next_mapG (w : World) {ops : Array Oper} {rest : List Oper} {o : Oper} {a : Act} {Q : Exit → Act → World → Prop}
    (hg : o.guard = none) (it : Operand) (hop : o.op = Op.next it false) (b r n : Nat) (f : Int → Option (Option (Nat × Nat × Nat))) (left : Int → Bool)
    (hit : a.eval it = .pointer (some ⟨r, 0, none⟩)) (h : RgG w b r n f left)
    (hDone : (∀ x : Int, i64ok x → left x = false) → wpList Try.prog ops Q rest (a.put o.dst (.tuple #[.bool false])) w)
    (hMore : ∀ (x : Int) (hd : Option (Nat × Nat × Nat)) (w' : World), i64ok x → left x = true → f x = some hd → RgG w' b r n f (fun z => left z && !decide (z = x)) → w'.rangeLeft b r < w.rangeLeft b r → Fr (fun y => y = r) w w' → w'.heap.size = w.heap.size →
      (Instr.entry (.pointer (some ⟨r, 0, none⟩))).run Try.prog w' = .ok (.tuple #[.int .i64 x, mkH hd]) w' → wpList Try.prog ops Q rest (a.put o.dst (.tuple #[.bool true, .int .i64 x, mkH hd])) w') :
    wpList Try.prog ops Q (o :: rest) a w := by
  obtain ⟨D, lf, cnt, h1, h2, h3⟩ := h
  refine wpList_next_ranges w hg it hop 3 keyedInt rdH (Value.int .i64) mkH (fun key kl hkey => by obtain ⟨x, rfl, _⟩ := Maps.keyOf_int_inv Try.underlying3 hkey; exact ⟨x, rfl⟩) (fun v y hv => by obtain ⟨x, rfl, _⟩ := rdH_inv hv; exact ⟨x, rfl⟩)
    b r n D lf cnt hit h1 (fun h0 hl => hDone (fun x hx => by rw [← h3 x hx]; exact hl _)) (fun x c kl y w' cnt' hkey hlk hv hat hrg hlt hgr hsz hen => ?_)
  obtain ⟨x', ex, rfl, hwx⟩ := Maps.keyOf_int_inv Try.underlying3 hkey
  cases ex
  have hx : i64ok x := by
    simp [Lit.wf, IntKind.min, IntKind.max, IntKind.signed, IntKind.bits] at hwx
    unfold i64ok
    omega
  obtain ⟨c', ec, hy⟩ := rdH_inv hv
  obtain rfl := mkH_inj ec
  have hf : f x = some c := by
    have e1 := hat (.agg [])
    have e2 := hat .nil
    rw [(h2 x hx).2] at e1 e2
    cases hfx : f x with
    | none => rw [hfx] at e1 e2; rw [← e1] at e2; cases e2
    | some z => rw [hfx, hy] at e1; rw [encH_inj e1]
  have hl : left x = true := by rw [← h3 x hx]; exact hlk
  refine hMore x c w' hx hl hf ⟨D, _, _, hrg, h2, fun z hz => ?_⟩ (by rw [hrg.left_eq, h1.left_eq]; exact hlt) ⟨hgr.os, hgr.tape, hgr.output, hgr.size, fun i hi hn => hgr.block i hi (fun e => hn (by injection e))⟩ hsz hen
  show (lf (.int .i64 z) && !(Lit.int .i64 z).sameKey (.int .i64 x)) = _
  rw [h3 z hz]
  congr 2
  by_cases hzx : z = x
  · subst hzx
    rw [decide_eq_true rfl]
    exact WideAt.sameKey_self (by exact trivial)
  · rw [decide_eq_false hzx]
    exact Maps.sameKey_ne (by intro e; injection e with _ e; exact hzx e)
end Go.Proofs.Ytochgmbeomfkpaa
