/- markBoolS, heldBoolS, markState, heldState (written by wip/tools/gen_st.py) -/
import Derived.Test.YtjbggeeadodmpaaStC
import Derived.Test.YtjbggeeadodmpaaTrT
namespace Go.Proofs.Ytjbggeeadodmpaa
open Go.RowKit

def bmarks (k n : Nat) : List Bool := (List.range n).map fun i => decide ((k + i) % 3 = 0)
theorem bmarks_len (k n : Nat) : (bmarks k n).length = n := by simp [bmarks]
theorem bmarks_get (k n i : Nat) (h : i < (bmarks k n).length) : (bmarks k n)[i] = decide ((k + i) % 3 = 0) := by simp [bmarks]
def BoolsMk (w : World) (D : Nat → Prop) (n k : Nat) (a : Option Addr) (c : Nat) : Prop := w.ownsRow 0 4 1 (.slice a n c) n ((bmarks k n).map Value.bool) ∧ ∀ b, (Value.slice a n c).ownBlock = some b → D b
section
variable {w w' : World} {D : Nat → Prop} {a : Option Addr} {c n k : Nat}
theorem BoolsMk.fr {D' : Nat → Prop} (h : BoolsMk w D n k a c) (hf : Fr D' w w') (hD : ∀ b, D b → ¬ D' b) : BoolsMk w' D n k a c := ⟨ownsRow_fr h.1 hf (fun b hb => hD b (h.2 b hb)), h.2⟩
theorem BoolsMk.below (h : BoolsMk w D n k a c) (hb : Below w.heap.size w w') : BoolsMk w' D n k a c := BoolsMk.fr (D' := fun _ => False) h (Fr.of_below hb) (fun _ _ hf => hf)
end
/-- A number by three. -/
theorem rem3 (m : Nat) (hm : m ≤ 200000000) : ((m : Int)).tmod 3 = ((m % 3 : Nat) : Int) := by
  rw [Int.tmod_eq_emod_of_nonneg (by omega)]; omega
theorem rem3_b (m : Nat) : (((m % 3 : Nat) : Int) == 0) = decide (m % 3 = 0) := by
  rw [Bool.eq_iff_iff, beq_iff_eq, decide_eq_true_eq]; omega
theorem rem3_d (m : Nat) : decide (((m % 3 : Nat) : Int) = 0) = decide (m % 3 = 0) := by
  rw [Bool.eq_iff_iff, decide_eq_true_eq, decide_eq_true_eq]; omega

def MarkedBO (n k : Nat) (D : Nat → Prop) (a : Option Addr) (c : Nat) (w : World) (e : Ending) (w' : World) : Prop := e = .returned (.int .i64 ((k + n : Nat) : Int)) ∧ Fr D w w' ∧ BoolsMk w' D n k a c


def stM (s : St) : Nat := s.v.length + s.b.length + s.i.length + trM s.t
/-- A state, marked, in blocks that meet D. -/
def StMk (w : World) (D : Nat → Prop) (s : St) (K : Nat) (a1 : Option Addr) (c1 : Nat) (a2 : Option Addr) (c2 : Nat) (a3 : Option Addr) (c3 : Nat) (a4 : Option Addr) (c4 : Nat) : Prop := (IntsMk w D s.v.length K a1 c1 ∧ BoolsMk w D s.b.length (K + s.v.length) a2 c2) ∧ IntsMk w D s.i.length (K + s.v.length + s.b.length) a3 c3 ∧ TrsMk w D s.t (K + s.v.length + s.b.length + s.i.length) a4 c4
section
variable {w w' : World} {D : Nat → Prop} {s : St} {K : Nat} {a1 a2 a3 a4 : Option Addr} {c1 c2 c3 c4 : Nat}
theorem StMk.fr {D' : Nat → Prop} (h : StMk w D s K a1 c1 a2 c2 a3 c3 a4 c4) (hf : Fr D' w w') (hD : ∀ b, D b → ¬ D' b) : StMk w' D s K a1 c1 a2 c2 a3 c3 a4 c4 := ⟨⟨h.1.1.fr hf hD, h.1.2.fr hf hD⟩, h.2.1.fr hf hD, h.2.2.fr hf hD⟩
theorem StMk.below (h : StMk w D s K a1 c1 a2 c2 a3 c3 a4 c4) (hb : Below w.heap.size w w') : StMk w' D s K a1 c1 a2 c2 a3 c3 a4 c4 := StMk.fr (D' := fun _ => False) h (Fr.of_below hb) (fun _ _ hf => hf)
end
def MarkedXO (s : St) (K : Nat) (D : Nat → Prop) (a1 : Option Addr) (c1 : Nat) (a2 : Option Addr) (c2 : Nat) (a3 : Option Addr) (c3 : Nat) (a4 : Option Addr) (c4 : Nat) (w : World) (e : Ending) (w' : World) : Prop := e = .returned (.int .i64 ((K + stM s : Nat) : Int)) ∧ Fr D w w' ∧ StMk w' D s K a1 c1 a2 c2 a3 c3 a4 c4

end Go.Proofs.Ytjbggeeadodmpaa
