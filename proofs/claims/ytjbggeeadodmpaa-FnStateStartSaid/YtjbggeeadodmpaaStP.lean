/- states: what one is; plain words -/
import Derived.Test.YtjbggeeadodmpaaSt
import Derived.Test.YtjbggeeadodmpaaHonP
import Derived.Test.YtjbggeeadodmpaaShOkS
namespace Go.Proofs.Ytjbggeeadodmpaa

/-- What is kept of a key is ok. -/
def keepK (s : Sh) (x : St) (k : Nat) : Bool := if s.md k = true then decide (x.i.getD k 0 = 0) else !x.b.getD k false && decide (x.i.getD k 0 = x.v.getD k 0)
def stA (s : Sh) (x : St) : Bool := inOk s x.i && (vok x.v && trsOk x.t)
def stL (s : Sh) (x : St) : Bool := decide (x.v.length = s.m.length) && decide (x.b.length = s.m.length)
def stT (s : Sh) (x : St) : Bool := x.t.all fun t => s.mdI t.k
/-- A state is ok for a sheet. -/
def stOk (s : Sh) (x : St) : Bool := stA s x && (stL s x && ((List.range s.m.length).all (keepK s x) && stT s x))

theorem all_rng {p : Nat → Bool} {k : Nat} : (List.range (k + 1)).all p = ((List.range k).all p && p k) := by
  rw [List.range_succ, List.all_append]; simp
theorem all_rng_false {p : Nat → Bool} {k n : Nat} (h : k < n) (hp : p k = false) : (List.range n).all p = false := by
  cases hx : (List.range n).all p
  · rfl
  · rw [List.all_eq_true] at hx
    rw [hx k (List.mem_range.2 h)] at hp
    cases hp
/-- The state of a sheet at first. -/
def st0 (n : Nat) : St := ⟨List.replicate n 0, List.replicate n false, List.replicate n 0, []⟩
def stS (s : Sh) : St := if s.ok = true then st0 s.m.length else ⟨[], [], [], []⟩
theorem st0_fine (n : Nat) : (st0 n).fine := ⟨fun x hx => by rw [List.eq_of_mem_replicate hx]; exact ⟨by decide, by decide⟩, fun x hx => by rw [List.eq_of_mem_replicate hx]; exact ⟨by decide, by decide⟩, fun t ht => by cases ht⟩
theorem stS_fine (s : Sh) : (stS s).fine := by
  unfold stS; split
  · exact st0_fine _
  · exact ⟨(by intro _ hx; cases hx), (by intro _ hx; cases hx), (by intro _ hx; cases hx)⟩
theorem stS_n (s : Sh) : (stS s).n ≤ 30 := by
  unfold stS; split
  · have := (Sh.ok_iff.1 (by assumption)).1
    simp only [St.n, st0, List.length_replicate, trN]; omega
  · simp [St.n, trN]
end Go.Proofs.Ytjbggeeadodmpaa
