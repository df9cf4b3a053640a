/- toTraceS, eqTraceS, markTraceS, heldTraceS: lists of traces as arguments and results of an exact law -/
import Derived.Test.YtjbggeeadodmpaaTr1
namespace Go.Proofs.Ytjbggeeadodmpaa
open Go.RowKit

def rt0 : Rt := ⟨0, [], 0⟩
def ovt (l : List Tr) (k : Nat) : List Rt := (l.take k).map Tr.raw ++ List.replicate (l.length - k) rt0
theorem ovt_len (l : List Tr) (k : Nat) (h : k ≤ l.length) : (ovt l k).length = l.length := by unfold ovt; simp; omega
theorem ovt_get (l : List Tr) (k : Nat) (h : k < l.length) : ∀ (h' : k < (ovt l k).length), (ovt l k)[k] = rt0 := by
  have e : (ovt l k)[k]? = some rt0 := by
    unfold ovt
    have hl : ((l.take k).map Tr.raw).length = k := by simp; omega
    rw [List.getElem?_append_right (by omega), hl, Nat.sub_self, List.getElem?_replicate, if_pos (by omega)]
  intro h'
  obtain ⟨_, e⟩ := List.getElem?_eq_some_iff.1 e
  exact e
theorem ovt_set (l : List Tr) (k : Nat) (h : k < l.length) : (ovt l k).set k l[k].raw = ovt l (k + 1) := by
  unfold ovt
  have hl : ((l.take k).map Tr.raw).length = k := by simp; omega
  rw [List.take_succ_eq_append_getElem h, List.map_append, List.set_append_right _ _ (by omega), hl, Nat.sub_self, List.append_assoc, show l.length - k = (l.length - (k + 1)) + 1 by omega, List.replicate_succ]
  rfl
theorem ovt_all (l : List Tr) : ovt l l.length = l.map Tr.raw := by unfold ovt; simp
theorem ovt_zero (l : List Tr) : ovt l 0 = List.replicate l.length rt0 := by unfold ovt; simp

theorem tcl_rep : ∀ n, tcl (List.replicate n rt0) (List.replicate n (.slice none 0 0)) = (List.replicate n [Value.int .i64 0, .slice none 0 0, .int .i64 0]).flatten
  | 0 => rfl
  | n + 1 => by rw [List.replicate_succ, List.replicate_succ, List.replicate_succ, List.flatten_cons, ← tcl_rep n]; rfl
theorem sub_rep (w : World) (base : Nat) : ∀ n, SubR w base (List.replicate n rt0) (List.replicate n (.slice none 0 0))
  | 0 => trivial
  | n + 1 => by rw [List.replicate_succ, List.replicate_succ]; exact ⟨World.ownsRow_nil _ _ _ _, sub_rep w base n⟩
theorem made_three (n : Nat) : (madeCells #[Value.int .i64 0, .slice none 0 0, .int .i64 0] (n * 3)).toList = (List.replicate n [Value.int .i64 0, .slice none 0 0, .int .i64 0]).flatten := by
  have hlen : ∀ n, (List.replicate n [Value.int .i64 0, .slice none 0 0, .int .i64 0]).flatten.length = n * 3 := by intro n; simp
  have hget : ∀ (n i : Nat), i < n * 3 → (List.replicate n [Value.int .i64 0, .slice none 0 0, .int .i64 0]).flatten[i]? = some (if i % 3 = 1 then .slice none 0 0 else .int .i64 0) := by
    intro n
    induction n with
    | zero => intro i hi; omega
    | succ n ih =>
      intro i hi
      rw [List.replicate_succ, List.flatten_cons]
      match i with
      | 0 => rfl
      | 1 => rfl
      | 2 => rfl
      | i + 3 =>
        rw [List.getElem?_append_right (by simp)]
        have := ih i (by omega)
        simpa using this
  refine List.ext_getElem (by simp [size_madeCells]) fun i h1 h2 => ?_
  have h2' : i < n * 3 := by rw [hlen] at h2; exact h2
  have hr := hget n i h2'
  obtain ⟨_, he⟩ := List.getElem?_eq_some_iff.1 hr
  rw [he]
  have key : (madeCells #[Value.int IntKind.i64 0, .slice none 0 0, .int .i64 0] (n * 3))[i]? = some (if i % 3 = 1 then .slice none 0 0 else .int .i64 0) := by
    have : i % 3 = 0 ∨ i % 3 = 1 ∨ i % 3 = 2 := by omega
    rcases this with h | h | h <;> simp [madeCells, h2', h]
  obtain ⟨hx, he⟩ := Array.getElem?_eq_some_iff.1 key
  simpa using he

theorem trs_made (w : World) (n : Nat) (hn : n ≤ 1048576) : TrsOw (w.alloc (.cells (madeCells #[.int .i64 0, .slice none 0 0, .int .i64 0] (n * 3)) 25)) w.heap.size (.slice (some ⟨w.heap.size, 0, none⟩) n n) (List.replicate n rt0) (List.replicate n (.slice none 0 0)) := by
  have hml : maxLen = 9223372036854775807 := rfl
  have hne : ∀ u ∈ List.replicate n (Value.slice none 0 0), ∀ b, u.ownBlock ≠ some b := by
    intro u hu b
    rw [List.eq_of_mem_replicate hu]
    simp [Value.ownBlock]
  refine ⟨⟨by rw [tcl_rep]; simp, .inr ⟨w.heap.size, n, _, by rw [List.length_replicate], Nat.le_refl _, heap_alloc_new w _, by simp, by rw [hml]; omega, by rw [size_madeCells], ?_⟩⟩, sub_rep _ _ n, fun u hu b hb => absurd hb (hne u hu b), ?_⟩
  · rw [made_three, tcl_rep, List.length_replicate]
    exact List.take_of_length_le (by simp)
  · rw [List.pairwise_iff_getElem]
    intro i j hi hj _ b hb
    exact absurd hb (hne _ (List.getElem_mem hi) b)

/-- Where toTraceS stands. -/
def TsRel (w : World) (l : List Tr) (i : Value) (wr : World) : Prop := ∃ (k : Nat) (us : List Value), k ≤ l.length ∧ i = .int .i64 k ∧ TrsOw wr w.heap.size (.slice (some ⟨w.heap.size, 0, none⟩) l.length l.length) (ovt l k) us ∧ Below w.heap.size w wr

/-- Traces in memory of their own, in blocks that meet D. -/
def TracesOw (w : World) (D : Nat → Prop) (l : List Tr) (a : Option Addr) (c : Nat) : Prop := ∃ us, TrsOw w 0 (.slice a l.length c) (l.map Tr.raw) us ∧ ∀ b, trD (.slice a l.length c) us b → D b
section
variable {w w' : World} {D : Nat → Prop} {l : List Tr} {a : Option Addr} {c : Nat}
theorem TracesOw.at (h : TracesOw w D l a c) (hok : ∀ t ∈ l, trFine t) : TrsAt w D l a c := by
  obtain ⟨us, h1, h2⟩ := h
  obtain ⟨a', c', he, hat⟩ := h1.at hok
  simp only [Value.slice.injEq] at he
  obtain ⟨rfl, _, rfl⟩ := he
  exact hat.weaken h2
theorem TracesOw.fr {D' : Nat → Prop} (h : TracesOw w D l a c) (hf : Fr D' w w') (hD : ∀ b, D b → ¬ D' b) : TracesOw w' D l a c := by
  obtain ⟨us, h1, h2⟩ := h
  exact ⟨us, h1.fr hf (fun b hb => hD b (h2 b hb)), h2⟩
theorem TracesOw.below (h : TracesOw w D l a c) (hb : Below w.heap.size w w') : TracesOw w' D l a c := TracesOw.fr (D' := fun _ => False) h (Fr.of_below hb) (fun _ _ hf => hf)
end
def CopiedQO (l : List Tr) (w : World) (e : Ending) (w' : World) : Prop := ∃ a c D, e = .returned (.slice a l.length c) ∧ TracesOw w' D l a c ∧ (∀ b, D b → w.heap.size ≤ b ∧ b < w'.heap.size) ∧ Below w.heap.size w w'
end Go.Proofs.Ytjbggeeadodmpaa
