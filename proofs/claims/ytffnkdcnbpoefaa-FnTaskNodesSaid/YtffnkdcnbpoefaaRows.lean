/-
  NARROWER THAN 'FOR EVERY INPUT', by the rows' own cells (each row's printed sentence says how): FnExactTaskOk: loops · FnExactTaskNodes: loops · FnExactTaskFixed: loops.
  DERIVED. THE GIVEN ROWS OF THIS SEAT. 6 by the template 'for every input the law returns true; each argument reads behind the call as it read before'; 0 by the template 'total and deterministic' (their statements: YtffnkdcnbpoefaaTotals.lean).
  GIVEN WITH THE SEED: the statements are not yours to turn. If you find one false, say at which input.
  Laid BY PROGRAM, IN A SANDBOX (cutbox-rows.mjs): the forced cells as the released guide's own fill.sh prints them over the translation 088236c4ef2ff459… (all of the seat's roots in one cut). By AI agents, Wed Nov 11 2026. No macro, syntax, notation, axiom, sorry.
-/
import Derived.Test.YtffnkdcnbpoefaaChecked
import GoSem.Claim
import GoSem.ClaimJoined
import GoSem.ClaimMapViews
import Derived.JoinedTies
import Derived.KernelRfl
namespace Go.Proofs.Ytffnkdcnbpoefaa
/- THE CELL 'sum', in the pinned program and in every row, IS THE sha256 OF THE DUMP (.gsa) THAT YtffnkdcnbpoefaaProg.lean LOADS. Nothing in Lean hashes anything: it is a label: what it is worth is what the hold of that sum in a sandbox is worth. -/
noncomputable def Try.pinned : Pinned := { name := "ytffnkdcnbpoefaa", sum := "088236c4ef2ff459e26132041d58b99f40c1d980da116ce9a88fd2aecb035123", checked := Try.checked }
namespace Rows
def none {H : Type} : Left H := { results := [], args := [] }

/-- 'laws.FnTaskNodes': WHATEVER THE INPUT: true; the input reads as it did. -/
def fnTaskNodesSpec : ChangeSpec := { name := "fnTaskNodes", fn := fun _ => fun
  | [d] => { results := [.lit (.bool true)], args := [d] }
  | _ => none }
def fnTaskNodesRow : OpenClaim := { program := "ytffnkdcnbpoefaa", sum := "088236c4ef2ff459e26132041d58b99f40c1d980da116ce9a88fd2aecb035123", func := "loop.example/buildroads/laws.FnTaskNodes", spec := "fnTaskNodes", recurses := true, apart := false }
def FnTaskNodesSaid : Prop := fnTaskNodesRow.holds Try.pinned (OpenSpec.ofChange fnTaskNodesSpec)

/-- ITS FALSE NEIGHBOUR: 'it returns false'. Refute it at one input. -/
def fnTaskNodesWrong : ChangeSpec := { name := "fnTaskNodes", fn := fun _ => fun
  | [d] => { results := [.lit (.bool false)], args := [d] }
  | _ => none }
def FnTaskNodesWrongFalsely : Prop := fnTaskNodesRow.holds Try.pinned (OpenSpec.ofChange fnTaskNodesWrong)

/-- 'laws.FnTaskFixed': WHATEVER THE INPUT: true; the input reads as it did. -/
def fnTaskFixedSpec : ChangeSpec := { name := "fnTaskFixed", fn := fun _ => fun
  | [d] => { results := [.lit (.bool true)], args := [d] }
  | _ => none }
def fnTaskFixedRow : OpenClaim := { program := "ytffnkdcnbpoefaa", sum := "088236c4ef2ff459e26132041d58b99f40c1d980da116ce9a88fd2aecb035123", func := "loop.example/buildroads/laws.FnTaskFixed", spec := "fnTaskFixed", recurses := true, apart := false }
def FnTaskFixedSaid : Prop := fnTaskFixedRow.holds Try.pinned (OpenSpec.ofChange fnTaskFixedSpec)

/-- ITS FALSE NEIGHBOUR: 'it returns false'. Refute it at one input. -/
def fnTaskFixedWrong : ChangeSpec := { name := "fnTaskFixed", fn := fun _ => fun
  | [d] => { results := [.lit (.bool false)], args := [d] }
  | _ => none }
def FnTaskFixedWrongFalsely : Prop := fnTaskFixedRow.holds Try.pinned (OpenSpec.ofChange fnTaskFixedWrong)

/-- 'laws.FnExactTaskOk': WHATEVER THE INPUT: true; the input reads as it did. -/
def fnExactTaskOkSpec : ChangeSpec := { name := "fnExactTaskOk", fn := fun _ => fun
  | [d] => { results := [.lit (.bool true)], args := [d] }
  | _ => none }
def fnExactTaskOkRow : OpenClaim := { program := "ytffnkdcnbpoefaa", sum := "088236c4ef2ff459e26132041d58b99f40c1d980da116ce9a88fd2aecb035123", func := "loop.example/buildroads/laws.FnExactTaskOk", spec := "fnExactTaskOk", recurses := true, loops := true, apart := false }
def FnExactTaskOkSaid : Prop := fnExactTaskOkRow.holds Try.pinned (OpenSpec.ofChange fnExactTaskOkSpec)

/-- ITS FALSE NEIGHBOUR: 'it returns false'. Refute it at one input. -/
def fnExactTaskOkWrong : ChangeSpec := { name := "fnExactTaskOk", fn := fun _ => fun
  | [d] => { results := [.lit (.bool false)], args := [d] }
  | _ => none }
def FnExactTaskOkWrongFalsely : Prop := fnExactTaskOkRow.holds Try.pinned (OpenSpec.ofChange fnExactTaskOkWrong)

/-- 'laws.FnExactTaskNodes': WHATEVER THE INPUT: true; the input reads as it did. -/
def fnExactTaskNodesSpec : ChangeSpec := { name := "fnExactTaskNodes", fn := fun _ => fun
  | [d] => { results := [.lit (.bool true)], args := [d] }
  | _ => none }
def fnExactTaskNodesRow : OpenClaim := { program := "ytffnkdcnbpoefaa", sum := "088236c4ef2ff459e26132041d58b99f40c1d980da116ce9a88fd2aecb035123", func := "loop.example/buildroads/laws.FnExactTaskNodes", spec := "fnExactTaskNodes", recurses := true, loops := true, apart := false }
def FnExactTaskNodesSaid : Prop := fnExactTaskNodesRow.holds Try.pinned (OpenSpec.ofChange fnExactTaskNodesSpec)

/-- ITS FALSE NEIGHBOUR: 'it returns false'. Refute it at one input. -/
def fnExactTaskNodesWrong : ChangeSpec := { name := "fnExactTaskNodes", fn := fun _ => fun
  | [d] => { results := [.lit (.bool false)], args := [d] }
  | _ => none }
def FnExactTaskNodesWrongFalsely : Prop := fnExactTaskNodesRow.holds Try.pinned (OpenSpec.ofChange fnExactTaskNodesWrong)

/-- 'laws.FnExactTaskRead': WHATEVER THE INPUT: true; the input reads as it did. -/
def fnExactTaskReadSpec : ChangeSpec := { name := "fnExactTaskRead", fn := fun _ => fun
  | [d] => { results := [.lit (.bool true)], args := [d] }
  | _ => none }
def fnExactTaskReadRow : OpenClaim := { program := "ytffnkdcnbpoefaa", sum := "088236c4ef2ff459e26132041d58b99f40c1d980da116ce9a88fd2aecb035123", func := "loop.example/buildroads/laws.FnExactTaskRead", spec := "fnExactTaskRead", recurses := true, apart := false }
def FnExactTaskReadSaid : Prop := fnExactTaskReadRow.holds Try.pinned (OpenSpec.ofChange fnExactTaskReadSpec)

/-- ITS FALSE NEIGHBOUR: 'it returns false'. Refute it at one input. -/
def fnExactTaskReadWrong : ChangeSpec := { name := "fnExactTaskRead", fn := fun _ => fun
  | [d] => { results := [.lit (.bool false)], args := [d] }
  | _ => none }
def FnExactTaskReadWrongFalsely : Prop := fnExactTaskReadRow.holds Try.pinned (OpenSpec.ofChange fnExactTaskReadWrong)

/-- 'laws.FnExactTaskFixed': WHATEVER THE INPUT: true; the input reads as it did. -/
def fnExactTaskFixedSpec : ChangeSpec := { name := "fnExactTaskFixed", fn := fun _ => fun
  | [d] => { results := [.lit (.bool true)], args := [d] }
  | _ => none }
def fnExactTaskFixedRow : OpenClaim := { program := "ytffnkdcnbpoefaa", sum := "088236c4ef2ff459e26132041d58b99f40c1d980da116ce9a88fd2aecb035123", func := "loop.example/buildroads/laws.FnExactTaskFixed", spec := "fnExactTaskFixed", recurses := true, loops := true, apart := false }
def FnExactTaskFixedSaid : Prop := fnExactTaskFixedRow.holds Try.pinned (OpenSpec.ofChange fnExactTaskFixedSpec)

/-- ITS FALSE NEIGHBOUR: 'it returns false'. Refute it at one input. -/
def fnExactTaskFixedWrong : ChangeSpec := { name := "fnExactTaskFixed", fn := fun _ => fun
  | [d] => { results := [.lit (.bool false)], args := [d] }
  | _ => none }
def FnExactTaskFixedWrongFalsely : Prop := fnExactTaskFixedRow.holds Try.pinned (OpenSpec.ofChange fnExactTaskFixedWrong)

/- THE SECOND FORM. 'bulk': how many values and letters a reading holds, each counted each time it is reached (what is shared counts as often as it is met; a slice's spare places count too). A statement '..UptoSaid' is the law's where the arguments, and the package variables that the reading takes, are together of bulk at most 1048576: NARROWER than '..Said'. Prove '..Said' where nothing that the law and all that it calls make is longer than what came in: it says more and counts as full. Else prove '..UptoSaid'. A law counts once. -/
mutual
def uptoBulk {H : Type} : DataW H → Nat
  | .lit (.string bytes) => bytes.length + 1
  | .lit _ => 1
  | .nil => 1
  | .ptr d => uptoBulk d + 1
  | .slice elems spare => uptoBulkAll elems + uptoBulkAll spare + 1
  | .agg parts => uptoBulkAll parts + 1
  | .iface _ d => uptoBulk d + 1
  | .map entries => uptoBulkEntries entries + 1
  | .held _ => 1
def uptoBulkAll {H : Type} : List (DataW H) → Nat
  | [] => 0
  | d :: r => uptoBulk d + uptoBulkAll r
def uptoBulkEntries {H : Type} : List (Lit × DataW H) → Nat
  | [] => 0
  | x :: r => uptoBulkEntry x + uptoBulkEntries r
def uptoBulkEntry {H : Type} : Lit × DataW H → Nat
  | (.string bytes, d) => bytes.length + uptoBulk d + 1
  | (_, d) => uptoBulk d + 1
 end
def uptoSmall : (H : Type) → List (DataW H) → Bool := fun _ ds => decide (uptoBulkAll ds ≤ 1048576)
def OpenSpec.upto (s : _root_.Go.ChangeSpec) : _root_.Go.OpenSpec := { _root_.Go.OpenSpec.ofChange s with cond := some uptoSmall }

/-- 'laws.FnTaskNodes', WHERE WHAT IT READS IS OF BULK AT MOST 1048576: true; the input reads as it did. -/
def fnTaskNodesUptoRow : OpenClaim := { program := "ytffnkdcnbpoefaa", sum := "088236c4ef2ff459e26132041d58b99f40c1d980da116ce9a88fd2aecb035123", func := "loop.example/buildroads/laws.FnTaskNodes", spec := "fnTaskNodes", recurses := true, apart := false, narrowed := true }
def FnTaskNodesUptoSaid : Prop := fnTaskNodesUptoRow.holds Try.pinned (OpenSpec.upto fnTaskNodesSpec)

/-- 'laws.FnTaskFixed', WHERE WHAT IT READS IS OF BULK AT MOST 1048576: true; the input reads as it did. -/
def fnTaskFixedUptoRow : OpenClaim := { program := "ytffnkdcnbpoefaa", sum := "088236c4ef2ff459e26132041d58b99f40c1d980da116ce9a88fd2aecb035123", func := "loop.example/buildroads/laws.FnTaskFixed", spec := "fnTaskFixed", recurses := true, apart := false, narrowed := true }
def FnTaskFixedUptoSaid : Prop := fnTaskFixedUptoRow.holds Try.pinned (OpenSpec.upto fnTaskFixedSpec)

/-- 'laws.FnExactTaskOk', WHERE WHAT IT READS IS OF BULK AT MOST 1048576: true; the input reads as it did. -/
def fnExactTaskOkUptoRow : OpenClaim := { program := "ytffnkdcnbpoefaa", sum := "088236c4ef2ff459e26132041d58b99f40c1d980da116ce9a88fd2aecb035123", func := "loop.example/buildroads/laws.FnExactTaskOk", spec := "fnExactTaskOk", recurses := true, loops := true, apart := false, narrowed := true }
def FnExactTaskOkUptoSaid : Prop := fnExactTaskOkUptoRow.holds Try.pinned (OpenSpec.upto fnExactTaskOkSpec)

/-- 'laws.FnExactTaskNodes', WHERE WHAT IT READS IS OF BULK AT MOST 1048576: true; the input reads as it did. -/
def fnExactTaskNodesUptoRow : OpenClaim := { program := "ytffnkdcnbpoefaa", sum := "088236c4ef2ff459e26132041d58b99f40c1d980da116ce9a88fd2aecb035123", func := "loop.example/buildroads/laws.FnExactTaskNodes", spec := "fnExactTaskNodes", recurses := true, loops := true, apart := false, narrowed := true }
def FnExactTaskNodesUptoSaid : Prop := fnExactTaskNodesUptoRow.holds Try.pinned (OpenSpec.upto fnExactTaskNodesSpec)

/-- 'laws.FnExactTaskRead', WHERE WHAT IT READS IS OF BULK AT MOST 1048576: true; the input reads as it did. -/
def fnExactTaskReadUptoRow : OpenClaim := { program := "ytffnkdcnbpoefaa", sum := "088236c4ef2ff459e26132041d58b99f40c1d980da116ce9a88fd2aecb035123", func := "loop.example/buildroads/laws.FnExactTaskRead", spec := "fnExactTaskRead", recurses := true, apart := false, narrowed := true }
def FnExactTaskReadUptoSaid : Prop := fnExactTaskReadUptoRow.holds Try.pinned (OpenSpec.upto fnExactTaskReadSpec)

/-- 'laws.FnExactTaskFixed', WHERE WHAT IT READS IS OF BULK AT MOST 1048576: true; the input reads as it did. -/
def fnExactTaskFixedUptoRow : OpenClaim := { program := "ytffnkdcnbpoefaa", sum := "088236c4ef2ff459e26132041d58b99f40c1d980da116ce9a88fd2aecb035123", func := "loop.example/buildroads/laws.FnExactTaskFixed", spec := "fnExactTaskFixed", recurses := true, loops := true, apart := false, narrowed := true }
def FnExactTaskFixedUptoSaid : Prop := fnExactTaskFixedUptoRow.holds Try.pinned (OpenSpec.upto fnExactTaskFixedSpec)

end Rows
end Go.Proofs.Ytffnkdcnbpoefaa
