/- values as a trace used them: spec.l5Back, impl.isTraceOf -/
import Derived.Test.YthjfmpeicjmlkaaTrJ
import Derived.Test.YthjfmpeicjmlkaaTrG
import Derived.StillTailTactics
namespace Go.Proofs.Ythjfmpeicjmlkaa
open Go.RowKit

/-- Ten values, as a trace used them, and 0 for all others. -/
def backF (l : List (Int × Int)) : List Int := l.foldl (fun acc p => acc.set p.1.toNat p.2) (List.replicate 10 0)
theorem backF_snoc {l : List (Int × Int)} {k : Nat} (h : k < l.length) : backF (l.take (k + 1)) = (backF (l.take k)).set l[k].1.toNat l[k].2 := by
  unfold backF; rw [List.take_succ_eq_append_getElem h, List.foldl_append]; rfl
theorem foldl_back_len : ∀ (l : List (Int × Int)) (acc : List Int), (l.foldl (fun acc p => acc.set p.1.toNat p.2) acc).length = acc.length
  | [], _ => rfl
  | p :: r, acc => by rw [List.foldl_cons, foldl_back_len r]; simp
theorem backF_len (l : List (Int × Int)) : (backF l).length = 10 := by unfold backF; rw [foldl_back_len]; simp
theorem foldl_back_mem : ∀ (l : List (Int × Int)) (acc : List Int), (∀ p ∈ l, 0 ≤ p.2 ∧ p.2 ≤ 96) → (∀ x ∈ acc, 0 ≤ x ∧ x ≤ 96) → ∀ x ∈ l.foldl (fun acc p => acc.set p.1.toNat p.2) acc, 0 ≤ x ∧ x ≤ 96
  | [], _, _, h => h
  | p :: r, acc, hl, h => by
    rw [List.foldl_cons]
    refine foldl_back_mem r _ (fun q hq => hl q (by simp [hq])) (fun x hx => ?_)
    rcases List.mem_or_eq_of_mem_set hx with hx | rfl
    · exact h x hx
    · exact hl p (by simp)
theorem backF_mem {l : List (Int × Int)} (h : ∀ p ∈ l, 0 ≤ p.2 ∧ p.2 ≤ 96) : ∀ x ∈ backF l, 0 ≤ x ∧ x ≤ 96 :=
  foldl_back_mem l _ h (fun x hx => by rw [List.eq_of_mem_replicate hx]; omega)
theorem backF_vok {l : List (Int × Int)} (h : ∀ p ∈ l, 0 ≤ p.2 ∧ p.2 ≤ 96) : vok (backF l) = true := by
  unfold vok
  rw [backF_len, decide_eq_true (by omega), Bool.true_and, List.all_eq_true]
  intro x hx
  have := backF_mem h x hx
  unfold vin
  exact decide_eq_true this
theorem ok_mem {l : List Int} (h : ∀ x ∈ l, 0 ≤ x ∧ x ≤ 96) : ∀ x ∈ l, i64ok x := fun x hx => by have := h x hx; unfold i64ok; omega

theorem num_made (w : World) : NumRow (w.alloc (.cells (madeCells #[.int .i64 0] 10) 3)) w.heap.size (.slice (some ⟨w.heap.size, 0, none⟩) 10 10) (List.replicate 10 0) :=
  ⟨by simp, .inr ⟨w.heap.size, 10, _, rfl, Nat.le_refl _, heap_alloc_new w _, by simp, by decide, by simp [size_madeCells], by
    refine List.ext_getElem (by simp [size_madeCells]) fun i h1 h2 => ?_
    have h2' : i < 10 := by simpa using h2
    have key : (madeCells #[Value.int IntKind.i64 0] 10)[i]? = some (.int .i64 0) := by
      have hm := Nat.mod_one i
      simp [madeCells, h2', hm]
    obtain ⟨hx, he⟩ := Array.getElem?_eq_some_iff.1 key
    rw [List.getElem_map, List.getElem_replicate, List.getElem_take, Array.getElem_toList, he]⟩⟩

theorem NumRow.cellX {w : World} {base g n cap : Nat} {l : List Int} (h : NumRow w base (.slice (some ⟨g, 0, none⟩) n cap) l) (i : Nat) (hi : i < l.length) :
    w.cell? ⟨g, i, none⟩ = some (.int .i64 l[i]) ∧ w.frozen? ⟨g, i, none⟩ = false := by
  have hc := World.ownsRow.cells h (g := g) rfl i (.int .i64 l[i]) (by rw [List.getElem?_map, List.getElem?_eq_getElem hi]; rfl)
  rw [addr0'] at hc
  obtain ⟨hl, ⟨h1, _⟩ | ⟨g', cap', cur, h1, h2, h3, h4, h5, h6, h7⟩⟩ := h
  · simp at h1
  · simp only [Value.slice.injEq, Option.some.injEq, Addr.mk.injEq, and_true] at h1
    obtain ⟨rfl, _, rfl⟩ := h1
    exact ⟨hc, Blk.frozen (w := w) h3 i⟩

end Go.Proofs.Ythjfmpeicjmlkaa
