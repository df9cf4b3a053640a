/- append of a number onto a row of the call's own, as one step of a region that draws -/
import Derived.Test.YtochgmbeomfkpaaBs1
import Derived.Deep.RegionWith
namespace Go.Proofs.Ytochgmbeomfkpaa
open Go.RowKit

theorem run_append_row {P : Program} (w : World) (base : Nat) (t ty e : TypeId) (i : TypeInfo) (z : Value) (size bytes : Nat) (h1 : P.underlying t = some (.slice e)) (h2 : P.info? e = some i) (h3 : i.zero = some z) (h4 : i.size = size) (h5 : i.bytes = bytes) (h6 : z.cells.size = size) (h7 : 0 < size)
    (v : Value) (n : Nat) (xs : List Value) (hown : w.ownsRow base e size v n xs)
    (ad : Addr) (m c : Nat) (news : List Value) (hn : news.length = m * size) (hc : ∀ j u, news[j]? = some u → w.cell? (ad.add j) = some u) (h1c : ∀ u ∈ news, u.oneCell' = true)
    (b1 : n + m ≤ maxLen) (b2 : (n + m) * bytes ≤ 140737488355328) (hbase : base ≤ w.heap.size) :
    ∃ v' w', (Builtin.append_ #[t, t] ty #[v, .slice (some ad) m c]).run P w = .ok v' w' ∧ w'.ownsRow base e size v' (n + m) (xs ++ news) ∧ w.grownBy w' v.ownBlock ∧ (∀ b, v'.ownBlock = some b → v.ownBlock = some b ∨ w.heap.size ≤ b) := by
  have hown0 := hown
  obtain ⟨hl, ⟨rfl, rfl⟩ | ⟨g, cap, cur, rfl, hb, hh, hnc, hcm, hz, ht⟩⟩ := hown
  · obtain rfl : xs = [] := List.length_eq_zero_iff.1 (by simpa using hl)
    obtain ⟨v', w', hr, r1, r2, _⟩ := run_append_own (P := P) w w.heap.size t ty e i z size bytes h1 h2 h3 h4 h5 h6 h7 (.slice none 0 0) 0 [] (World.ownsRow_nil w _ e size) ad m c news hn hc h1c b1 b2 (Nat.le_refl _)
    exact ⟨v', w', hr, ownsRow_low r1 hbase, r2, fun b hb => .inr (own_ge r1 b hb)⟩
  · by_cases hf : n + m ≤ cap
    · obtain ⟨w', hr, r1, r2⟩ := run_append_fits (P := P) w base t ty e i size h1 h2 h4 g n cap xs hown0 ad m c news hn hc h1c hf
      exact ⟨_, w', hr, r1, r2, fun b hb => .inl (by simpa [Value.ownBlock] using hb)⟩
    · obtain ⟨v', w', hr, r1, r2⟩ := run_append_arg_grows (P := P) w t ty e i z size bytes h1 h2 h3 h4 h5 h6 h7 ⟨g, 0, none⟩ n cap xs hl (fun j u hj => hown0.cells rfl j u hj) ad m c news hn hc (by omega) b1 b2
      exact ⟨v', w', hr, ownsRow_low r1 hbase, ⟨r2.os, r2.tape, r2.output, r2.size, fun k hk _ => r2.block k hk (by simp)⟩, fun b hb => .inr (own_ge r1 b hb)⟩

theorem step_append_num {ops : Array Oper} {o : Oper} {a : Act} {w : World} {K : Act → World → Prop} {Q : Exit → Act → World → Prop} {E : Prop}
    (hg : o.guard = none) (s x : Operand) (hop : o.op = Op.call { callee := Callee.builtin Builtin.append, args := #[s, x], argTypes := #[26, 26] })
    (base : Nat) (v : Value) (l : List Int) (hs : a.eval s = v) (hown : NumRow w base v l) (ad : Addr) (k : Int) (hx : a.eval x = .slice (some ad) 1 1) (hc : w.cell? (ad.add 0) = some (.int .i64 k))
    (hl : l.length ≤ 1000000) (hbase : base ≤ w.heap.size)
    (hK : ∀ v' w', NumRow w' base v' (l ++ [k]) → w.grownBy w' v.ownBlock → (∀ b, v'.ownBlock = some b → v.ownBlock = some b ∨ w.heap.size ≤ b) → K (a.put o.dst v') w') :
    if Region.wanted o (yielded ops a.tmps) = true then Oper.wp Try.prog o a w K Q else E := by
  have hw : Region.wanted o (yielded ops a.tmps) = true := by simp [Region.wanted, hg]
  rw [if_pos hw]
  obtain ⟨i, hi, hz0, hz1, hz2⟩ := info_parts infoInt
  have hml : maxLen = 9223372036854775807 := rfl
  obtain ⟨v', w', hrun, h2, h3, h4⟩ := run_append_row (P := Try.prog) w base 26 o.type 3 i (.int .i64 0) 1 8 Try.underlying26 hi hz0 hz1 hz2 rfl (by decide) v l.length (l.map (Value.int .i64)) hown ad 1 1 [.int .i64 k] rfl
    (fun j u hj => by
      match j with
      | 0 => simp at hj; subst hj; exact hc
      | j + 1 => simp at hj) (by simp [Value.oneCell']) (by rw [hml]; omega) (by omega) hbase
  unfold Oper.wp
  simp [execOp, hop, resolve, invoke, builtin, hs, hx, hrun, Result.andThen]
  refine hK v' w' ?_ h3 h4
  unfold NumRow
  rw [List.map_append, List.length_append]
  exact h2

/-- append of nothing -/
theorem run_append_zero {P : Program} (w : World) (t ty e : TypeId) (i : TypeInfo) (h1 : P.underlying t = some (.slice e)) (h2 : P.info? e = some i) (ao : Option Addr) (n cap : Nat) (ax : Option Addr) (c : Nat) (hn : n ≤ cap) :
    (Builtin.append_ #[t, t] ty #[.slice ao n cap, .slice ax 0 c]).run P w = .ok (.slice ao n cap) w := by
  have hfc : (Builtin.firstCells i.size 0 (.slice ax 0 c)).run P w = .ok #[] w := by
    cases ax with
    | none => exact run_firstCells_none w i.size 0 0 c
    | some b => exact run_firstCells_some w i.size 0 b 0 c [] (by simp) (by simp)
  cases ao with
  | none => simp [Builtin.append_, run_underlying h1, sizeOf, typeInfo, h2, Builtin.lenOf, hn, hfc]
  | some b => simp [Builtin.append_, run_underlying h1, sizeOf, typeInfo, h2, Builtin.lenOf, hn, hfc, storeCells]

/-- append of numbers, be they none -/
theorem run_append_ints (w : World) (ty : TypeId) (base : Nat) (v : Value) (l : List Int) (hown : NumRow w base v l) (S : Nat → Prop) (l2 : List Int) (n2 : Nat) (ax : Option Addr) (cx : Nat) (hn2 : n2 = l2.length) (hsrc : IntsAt w S l2 ax cx)
    (hl : l.length + l2.length ≤ 10000000) (hbase : base ≤ w.heap.size) :
    ∃ v' w', (Builtin.append_ #[26, 26] ty #[v, .slice ax n2 cx]).run Try.prog w = .ok v' w' ∧ NumRow w' base v' (l ++ l2) ∧ w.grownBy w' v.ownBlock ∧ (∀ b, v'.ownBlock = some b → v.ownBlock = some b ∨ w.heap.size ≤ b) := by
  obtain ⟨i, hi, hz0, hz1, hz2⟩ := info_parts infoInt
  have hml : maxLen = 9223372036854775807 := rfl
  subst hn2
  rcases Nat.eq_zero_or_pos l2.length with h0 | hp
  · obtain rfl : l2 = [] := List.length_eq_zero_iff.1 h0
    have hgr : w.grownBy w v.ownBlock := ⟨rfl, rfl, rfl, Nat.le_refl _, fun _ _ _ => rfl⟩
    obtain ⟨ao, cap, rfl, hat⟩ := ElRow.at (f := Value.int .i64) (e := 3) hown
    exact ⟨_, w, run_append_zero w 26 ty 3 i Try.underlying26 hi ao l.length cap ax cx hat.1, by rw [List.append_nil]; exact hown, hgr, fun b hb => .inl hb⟩
  · rcases hsrc.2.2.2 with h0 | ⟨b, off, ha, _, hc⟩
    · rw [h0] at hp; simp at hp
    · subst ha
      obtain ⟨v', w', hrun, r1, r2, r3⟩ := run_append_row (P := Try.prog) w base 26 ty 3 i (.int .i64 0) 1 8 Try.underlying26 hi hz0 hz1 hz2 rfl (by decide) v l.length (l.map (Value.int .i64)) hown ⟨b, off, none⟩ l2.length cx (l2.map (Value.int .i64)) (by simp)
        (fun j u hj => by
          rw [List.getElem?_map] at hj
          obtain ⟨y, hy, rfl⟩ := Option.map_eq_some_iff.1 hj
          obtain ⟨hlt, rfl⟩ := List.getElem?_eq_some_iff.1 hy
          have e : (⟨b, off, none⟩ : Addr).add j = ⟨b, off + j, none⟩ := by unfold Addr.add; split <;> simp_all
          rw [e]
          exact hc j hlt) (fun u hu => by obtain ⟨y, _, rfl⟩ := List.mem_map.1 hu; simp [Value.oneCell']) (by rw [hml]; omega) (by omega) hbase
      refine ⟨v', w', hrun, ?_, r2, r3⟩
      unfold NumRow
      rw [List.map_append, List.length_append]
      exact r1
theorem wpList_append_ints (w : World) {ops : Array Oper} {rest : List Oper} {o : Oper} {a : Act} {Q : Exit → Act → World → Prop}
    (hg : o.guard = none) (s x : Operand) (hop : o.op = Op.call { callee := Callee.builtin Builtin.append, args := #[s, x], argTypes := #[26, 26] })
    (base : Nat) (v : Value) (l : List Int) (hs : a.eval s = v) (hown : NumRow w base v l) (S : Nat → Prop) (l2 : List Int) (n2 : Nat) (ax : Option Addr) (cx : Nat) (hn2 : n2 = l2.length) (hx : a.eval x = .slice ax n2 cx) (hsrc : IntsAt w S l2 ax cx)
    (hl : l.length + l2.length ≤ 10000000) (hbase : base ≤ w.heap.size)
    (hK : ∀ v' w', NumRow w' base v' (l ++ l2) → w.grownBy w' v.ownBlock → (∀ b, v'.ownBlock = some b → v.ownBlock = some b ∨ w.heap.size ≤ b) → wpList Try.prog ops Q rest (a.put o.dst v') w') : wpList Try.prog ops Q (o :: rest) a w := by
  refine wpList_plain hg fun K' hK' => ?_
  obtain ⟨v', w', hrun, r1, r2, r3⟩ := run_append_ints w o.type base v l hown S l2 n2 ax cx hn2 hsrc hl hbase
  unfold Oper.wp
  simp [execOp, hop, resolve, invoke, builtin, hs, hx, hrun, Result.andThen]
  exact hK' _ _ (hK v' w' r1 r2 r3)
theorem step_append_ints {ops : Array Oper} {o : Oper} {a : Act} {w : World} {K : Act → World → Prop} {Q : Exit → Act → World → Prop} {E : Prop}
    (hg : o.guard = none) (s x : Operand) (hop : o.op = Op.call { callee := Callee.builtin Builtin.append, args := #[s, x], argTypes := #[26, 26] })
    (base : Nat) (v : Value) (l : List Int) (hs : a.eval s = v) (hown : NumRow w base v l) (S : Nat → Prop) (l2 : List Int) (n2 : Nat) (ax : Option Addr) (cx : Nat) (hn2 : n2 = l2.length) (hx : a.eval x = .slice ax n2 cx) (hsrc : IntsAt w S l2 ax cx)
    (hl : l.length + l2.length ≤ 10000000) (hbase : base ≤ w.heap.size)
    (hK : ∀ v' w', NumRow w' base v' (l ++ l2) → w.grownBy w' v.ownBlock → (∀ b, v'.ownBlock = some b → v.ownBlock = some b ∨ w.heap.size ≤ b) → K (a.put o.dst v') w') :
    if Region.wanted o (yielded ops a.tmps) = true then Oper.wp Try.prog o a w K Q else E := by
  have hw : Region.wanted o (yielded ops a.tmps) = true := by simp [Region.wanted, hg]
  rw [if_pos hw]
  obtain ⟨v', w', hrun, r1, r2, r3⟩ := run_append_ints w o.type base v l hown S l2 n2 ax cx hn2 hsrc hl hbase
  unfold Oper.wp
  simp [execOp, hop, resolve, invoke, builtin, hs, hx, hrun, Result.andThen]
  exact hK v' w' r1 r2 r3
end Go.Proofs.Ytochgmbeomfkpaa
