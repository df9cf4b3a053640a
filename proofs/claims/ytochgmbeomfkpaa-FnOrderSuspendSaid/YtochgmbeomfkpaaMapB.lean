/- a map of the call's own, from numbers to bools: what is looked up, what is put -/
import Derived.Maps.OwnOps
import Derived.Maps.OwnSet
import Derived.Test.YtochgmbeomfkpaaBs1
namespace Go.Proofs.Ytochgmbeomfkpaa
open Go.RowKit

theorem keyedInt : Go.Maps.Keyed Try.prog 3 := Go.Maps.int_keyed Try.underlying3
theorem zeroBool (w : World) : (zeroValue 4).run Try.prog w = .ok (.bool false) w := by kernel_rfl

theorem plainElem_bool_inv {H : Type} {e : TypeId} (he : Try.prog.underlying e = some .bool) {v : Value} {z : DataW H × List MemPlace} (h : plainElem Try.prog e v = some z) : ∃ x, v = .bool x ∧ z = (.lit (.bool x), []) := by
  unfold plainElem at h
  rw [he] at h
  cases v with
  | bool x => simp at h; exact ⟨x, rfl, h.symm⟩
  | _ => simp at h

/-- Block b is a map of at most n entries: at the key x the bool f x. -/
def MapB (w : World) (b n : Nat) (f : Int → Bool) : Prop :=
  ∃ D : DataW Unit, w.ownsMap Try.prog 3 (plainElem Try.prog 4) b n D ∧ ∀ x : Int, i64ok x → D.atKey (.int .i64 x) (.lit (.bool false)) = .lit (.bool (f x))

theorem MapB.made (w : World) : MapB (w.alloc (.map #[] 0)) w.heap.size 0 (fun _ => false) :=
  ⟨.map [], World.ownsMap_made _ _ _ _, fun _ _ => rfl⟩
theorem MapB.lt {w : World} {b n : Nat} {f : Int → Bool} (h : MapB w b n f) : b < w.heap.size := h.choose_spec.1.lt
theorem MapB.mono {w : World} {b n n' : Nat} {f : Int → Bool} (h : MapB w b n f) (hn : n ≤ n') : MapB w b n' f := by
  obtain ⟨D, h1, h2⟩ := h
  exact ⟨D, h1.mono hn, h2⟩
theorem MapB.fr {D : Nat → Prop} {w w' : World} {b n : Nat} {f : Int → Bool} (h : MapB w b n f) (hf : Fr D w w') (hD : ¬ D b) : MapB w' b n f := by
  obtain ⟨D', h1, h2⟩ := h
  have hlt := h1.lt
  obtain ⟨es, clock, hb, F, hs, hd⟩ := h1
  exact ⟨D', ⟨es, clock, (hf.2.2.2.2 b hlt hD).trans hb, F, hs, hd⟩, h2⟩
theorem MapB.below {w w' : World} {b n B : Nat} {f : Int → Bool} (h : MapB w b n f) (hb : Below B w w') (hB : b < B) : MapB w' b n f := by
  obtain ⟨D', h1, h2⟩ := h
  obtain ⟨es, clock, hh, F, hs, hd⟩ := h1
  exact ⟨D', ⟨es, clock, (hb.block b hB).trans hh, F, hs, hd⟩, h2⟩
theorem MapB.step {w w' : World} {b n : Nat} {f : Int → Bool} (h : MapB w b n f) (hb : Below w.heap.size w w') : MapB w' b n f := h.below hb h.lt
theorem MapB.alloc {w : World} {b n : Nat} {f : Int → Bool} (h : MapB w b n f) (o : Obj) : MapB (w.alloc o) b n f := h.step ((Below.refl _ _).alloc (Nat.le_refl _) o)
theorem MapB.congr {w : World} {b n : Nat} {f f' : Int → Bool} (h : MapB w b n f) (hf : ∀ x, i64ok x → f x = f' x) : MapB w b n f' := by
  obtain ⟨D, h1, h2⟩ := h
  exact ⟨D, h1, fun x hx => by rw [h2 x hx, hf x hx]⟩

/-- 'm[k]', an equation for the walk. -/
theorem MapB.look {w : World} {b n : Nat} {f : Int → Bool} (h : MapB w b n f) {t : TypeId} (ht : Try.prog.underlying t = some (.map 3 4)) {k : Int} (hk : i64ok k) : (Instr.lookup t (.map (some b)) (.int .i64 k) false).run Try.prog w = .ok (.bool (f k)) w := by
  obtain ⟨D, h1, h2⟩ := h
  obtain ⟨v, ps, hrun, hv⟩ := h1.lookup keyedInt ht (zeroBool w) (plainElem_bool Try.underlying4 false) (Go.Maps.keyOf_int_mk Try.underlying3 (WalkArith.wf_i64 hk))
  rw [h2 k hk] at hv
  obtain ⟨c, rfl, hc⟩ := plainElem_bool_inv Try.underlying4 hv
  simp only [Prod.mk.injEq] at hc
  have hcf : f k = c := by simpa using hc.1
  rw [hcf]
  exact hrun

/-- 'm[k]' -/
theorem wpList_lookup_mapB (w : World) {ops : Array Oper} {rest : List Oper} {o : Oper} {a : Act} {Q : Exit → Act → World → Prop}
    (hg : o.guard = none) (m x : Operand) (t : TypeId) (hop : o.op = Op.lookup t m x false) (ht : Try.prog.underlying t = some (.map 3 4)) (b n : Nat) (f : Int → Bool)
    (hm : a.eval m = .map (some b)) (h : MapB w b n f) (k : Int) (hx : a.eval x = .int .i64 k) (hk : i64ok k)
    (hK : wpList Try.prog ops Q rest (a.put o.dst (.bool (f k))) w) : wpList Try.prog ops Q (o :: rest) a w := by
  refine wpList_plain hg fun K' hK' => ?_
  obtain ⟨D, h1, h2⟩ := h
  obtain ⟨v, ps, hrun, hv⟩ := h1.lookup keyedInt ht (zeroBool w) (plainElem_bool Try.underlying4 false) (Go.Maps.keyOf_int_mk Try.underlying3 (WalkArith.wf_i64 hk))
  rw [h2 k hk] at hv
  obtain ⟨c, rfl, hc⟩ := plainElem_bool_inv Try.underlying4 hv
  simp only [Prod.mk.injEq] at hc
  have hcf : f k = c := by simpa using hc.1
  rw [hcf] at hK
  unfold Oper.wp
  simp [execOp, hop, hm, hx, hrun, Result.andThen]
  exact hK' _ _ hK

/-- 'm[k] = true' -/
theorem wpList_put_mapB (w : World) {ops : Array Oper} {rest : List Oper} {o : Oper} {a : Act} {Q : Exit → Act → World → Prop}
    (hg : o.guard = none) (m x v : Operand) (t : TypeId) (hop : o.op = Op.mapUpdate t m x v) (ht : Try.prog.underlying t = some (.map 3 4)) (b n : Nat) (f : Int → Bool)
    (hm : a.eval m = .map (some b)) (h : MapB w b n f) (hn : n < maxLen) (k : Int) (hx : a.eval x = .int .i64 k) (hk : i64ok k) (hv : a.eval v = .bool true)
    (hK : ∀ w', MapB w' b (n + 1) (fun y => f y || decide (y = k)) → Fr (fun y => y = b) w w' → wpList Try.prog ops Q rest (a.put o.dst undef) w') : wpList Try.prog ops Q (o :: rest) a w := by
  refine wpList_plain hg fun K' hK' => ?_
  obtain ⟨D, h1, h2⟩ := h
  have hd : Maps.IsMap D := h1.isMap
  obtain ⟨w', hrun, r1, r2⟩ := h1.update (t := t) keyedInt ht hn (Go.Maps.keyOf_int_mk Try.underlying3 (WalkArith.wf_i64 hk)) (plainElem_bool Try.underlying4 true)
  unfold Oper.wp
  simp [execOp, hop, hm, hx, hv, hrun, Result.andThen]
  refine hK' _ _ (hK w' ⟨_, r1, fun y hy => ?_⟩ ⟨r2.os, r2.tape, r2.output, r2.size, fun y hy hn => r2.block y hy (fun e => hn (by injection e))⟩)
  by_cases hyk : y = k
  · subst hyk
    rw [Maps.atKey_put_same hd (by exact trivial)]
    simp
  · rw [Maps.atKey_put_other (by intro e; injection e with _ e; exact hyk e), h2 y hy]
    simp only [decide_eq_false hyk, Bool.or_false]
end Go.Proofs.Ytochgmbeomfkpaa
