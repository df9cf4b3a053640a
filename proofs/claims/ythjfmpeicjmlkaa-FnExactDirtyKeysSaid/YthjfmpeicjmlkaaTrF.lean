/- slices.Contains at pairs; impl.firstFetches, impl.TraceOf, spec.l5Of, spec.TraceOf -/
import Derived.Test.YthjfmpeicjmlkaaTr1
import Derived.Test.YthjfmpeicjmlkaaTr2
import Derived.Test.YthjfmpeicjmlkaaBs2
import Derived.BigQuiet
namespace Go.Proofs.Ythjfmpeicjmlkaa
open Go.RowKit

def IndexP (l : List (Int × Int)) (p : Int × Int) (w : World) (e : Ending) (w' : World) : Prop := ∃ r : Int, e = .returned (.int .i64 r) ∧ decide (0 ≤ r) = decide (p ∈ l) ∧ Below w.heap.size w w'

theorem memP_take_succ {l : List (Int × Int)} {k : Nat} (h : k < l.length) (n : Int × Int) : n ∈ l.take (k + 1) ↔ n ∈ l.take k ∨ n = l[k] := by
  rw [List.take_succ_eq_append_getElem h, List.mem_append, List.mem_singleton]

theorem foldl_ostep_mem : ∀ (l acc : List (Int × Int)) (p : Int × Int), p ∈ l.foldl ostep acc → p ∈ acc ∨ p ∈ l
  | [], acc, p, hp => .inl hp
  | q :: r, acc, p, hp => by
    rcases foldl_ostep_mem r _ p hp with h | h
    · unfold ostep at h
      split at h
      · exact .inl h
      · rw [List.mem_append, List.mem_singleton] at h
        rcases h with h | rfl
        · exact .inl h
        · exact .inr (by simp)
    · exact .inr (by simp [h])
theorem onceP_mem {l : List (Int × Int)} {p : Int × Int} (h : p ∈ onceP l) : p ∈ l := by
  rcases foldl_ostep_mem l [] p h with h | h
  · cases h
  · exact h

theorem FetAt.prs {vs : Int → Int} {w : World} {S : Nat → Prop} {ks : List Int} {a : Option Addr} {c : Nat} (h : FetAt vs w S ks a c) (hk : ∀ k ∈ ks, i64ok k) (hv : ∀ k, i64ok (vs k)) : PrsAt w S (ks.map fun k => (k, vs k)) a c := by
  obtain ⟨h1, h2, h3⟩ := h
  refine ⟨by simpa using h1, h2, ?_⟩
  rcases h3 with rfl | ⟨b, o, ha, hb, hc⟩
  · exact .inl rfl
  · refine .inr ⟨b, o, ha, hb, fun i hi => ?_⟩
    have hi' : i < ks.length := by simpa using hi
    have := hc i hi'
    simp only [List.getElem_map]
    exact ⟨hk _ (List.getElem_mem hi'), hv _, this.1, this.2⟩
theorem pairs_con (vs : Int → Int) (ks : List Int) : ∀ p ∈ ks.map (fun k => (k, vs k)), ∀ q ∈ ks.map (fun k => (k, vs k)), p.1 = q.1 → p = q := by
  intro p hp q hq e
  obtain ⟨x, _, rfl⟩ := List.mem_map.1 hp
  obtain ⟨y, _, rfl⟩ := List.mem_map.1 hq
  simp only at e
  rw [e]

/-- What TraceOf answers. -/
def trB (key : Int) (t : T) (lv : List Int) : Bool := (t.ok && vok lv) && kin key
def trZ : Tr := ⟨0, [], 0⟩
def trO (key : Int) (t : T) (lv : List Int) : Tr := if trB key t lv = true then trOf key t (vf lv) else trZ
def TrPost (r : Tr) (b : Bool) (w : World) (e : Ending) (w' : World) : Prop := Below w.heap.size w w' ∧ ∃ v, e = .returned (.tuple #[.agg #[.int .i64 r.k, v, .int .i64 r.v], .bool b]) ∧ FRow w' w.heap.size v r.u.length (pcl r.u)

theorem vf_ok {lv : List Int} (h : vok lv = true) (k : Int) : i64ok (vf lv k) := by have := vf_bd (vok_mem h).2 k; unfold i64ok; omega

end Go.Proofs.Ythjfmpeicjmlkaa
