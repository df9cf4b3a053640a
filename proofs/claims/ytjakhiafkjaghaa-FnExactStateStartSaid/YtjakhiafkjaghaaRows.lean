/-
  NARROWER THAN 'FOR EVERY INPUT', by the rows' own cells (each row's printed sentence says how): FnExactTracesHonest: loops · FnExactStateStart: loops · FnExactStateOk: loops · FnExactOrderTopo: loops.
  DERIVED. THE GIVEN ROWS OF THIS SEAT. 5 by the template 'for every input the law returns true; each argument reads behind the call as it read before'; 0 by the template 'total and deterministic' (their statements: YtjakhiafkjaghaaTotals.lean).
  GIVEN WITH THE SEED: the statements are not yours to turn. If you find one false, say at which input.
  Laid BY PROGRAM, IN A SANDBOX (cutbox-rows.mjs): the forced cells as the released guide's own fill.sh prints them over the translation 325c179ff3d6fcf0… (all of the seat's roots in one cut). By AI agents, Wed Nov 11 2026. No macro, syntax, notation, axiom, sorry.
-/
import Derived.Test.YtjakhiafkjaghaaChecked
import GoSem.Claim
import GoSem.ClaimJoined
import GoSem.ClaimMapViews
import Derived.JoinedTies
import Derived.KernelRfl
namespace Go.Proofs.Ytjakhiafkjaghaa
/- THE CELL 'sum', in the pinned program and in every row, IS THE sha256 OF THE DUMP (.gsa) THAT YtjakhiafkjaghaaProg.lean LOADS. Nothing in Lean hashes anything: it is a label: what it is worth is what the hold of that sum in a sandbox is worth. -/
noncomputable def Try.pinned : Pinned := { name := "ytjakhiafkjaghaa", sum := "325c179ff3d6fcf046b6a4828059a4be6e8ff9ef4ecde704f3cb90eee9dd807c", checked := Try.checked }
namespace Rows
def none {H : Type} : Left H := { results := [], args := [] }

/-- 'laws.FnExactTracesHonest': WHATEVER THE INPUT: true; the input reads as it did. -/
def fnExactTracesHonestSpec : ChangeSpec := { name := "fnExactTracesHonest", fn := fun _ => fun
  | [d1, d2] => { results := [.lit (.bool true)], args := [d1, d2] }
  | _ => none }
def fnExactTracesHonestRow : OpenClaim := { program := "ytjakhiafkjaghaa", sum := "325c179ff3d6fcf046b6a4828059a4be6e8ff9ef4ecde704f3cb90eee9dd807c", func := "loop.example/buildroads/laws.FnExactTracesHonest", spec := "fnExactTracesHonest", unfollowed := true, recurses := true, loops := true, apart := false }
def FnExactTracesHonestSaid : Prop := fnExactTracesHonestRow.holds Try.pinned (OpenSpec.ofChange fnExactTracesHonestSpec)

/-- ITS FALSE NEIGHBOUR: 'it returns false'. Refute it at one input. -/
def fnExactTracesHonestWrong : ChangeSpec := { name := "fnExactTracesHonest", fn := fun _ => fun
  | [d1, d2] => { results := [.lit (.bool false)], args := [d1, d2] }
  | _ => none }
def FnExactTracesHonestWrongFalsely : Prop := fnExactTracesHonestRow.holds Try.pinned (OpenSpec.ofChange fnExactTracesHonestWrong)

/-- 'laws.FnExactStateStart': WHATEVER THE INPUT: true; the input reads as it did. -/
def fnExactStateStartSpec : ChangeSpec := { name := "fnExactStateStart", fn := fun _ => fun
  | [d] => { results := [.lit (.bool true)], args := [d] }
  | _ => none }
def fnExactStateStartRow : OpenClaim := { program := "ytjakhiafkjaghaa", sum := "325c179ff3d6fcf046b6a4828059a4be6e8ff9ef4ecde704f3cb90eee9dd807c", func := "loop.example/buildroads/laws.FnExactStateStart", spec := "fnExactStateStart", recurses := true, loops := true, apart := false }
def FnExactStateStartSaid : Prop := fnExactStateStartRow.holds Try.pinned (OpenSpec.ofChange fnExactStateStartSpec)

/-- ITS FALSE NEIGHBOUR: 'it returns false'. Refute it at one input. -/
def fnExactStateStartWrong : ChangeSpec := { name := "fnExactStateStart", fn := fun _ => fun
  | [d] => { results := [.lit (.bool false)], args := [d] }
  | _ => none }
def FnExactStateStartWrongFalsely : Prop := fnExactStateStartRow.holds Try.pinned (OpenSpec.ofChange fnExactStateStartWrong)

/-- 'laws.FnExactStateOk': WHATEVER THE INPUT: true; the input reads as it did. -/
def fnExactStateOkSpec : ChangeSpec := { name := "fnExactStateOk", fn := fun _ => fun
  | [d1, d2] => { results := [.lit (.bool true)], args := [d1, d2] }
  | _ => none }
def fnExactStateOkRow : OpenClaim := { program := "ytjakhiafkjaghaa", sum := "325c179ff3d6fcf046b6a4828059a4be6e8ff9ef4ecde704f3cb90eee9dd807c", func := "loop.example/buildroads/laws.FnExactStateOk", spec := "fnExactStateOk", unfollowed := true, recurses := true, loops := true, apart := false }
def FnExactStateOkSaid : Prop := fnExactStateOkRow.holds Try.pinned (OpenSpec.ofChange fnExactStateOkSpec)

/-- ITS FALSE NEIGHBOUR: 'it returns false'. Refute it at one input. -/
def fnExactStateOkWrong : ChangeSpec := { name := "fnExactStateOk", fn := fun _ => fun
  | [d1, d2] => { results := [.lit (.bool false)], args := [d1, d2] }
  | _ => none }
def FnExactStateOkWrongFalsely : Prop := fnExactStateOkRow.holds Try.pinned (OpenSpec.ofChange fnExactStateOkWrong)

/-- 'laws.FnExactOrderTopo': WHATEVER THE INPUT: true; the input reads as it did. -/
def fnExactOrderTopoSpec : ChangeSpec := { name := "fnExactOrderTopo", fn := fun _ => fun
  | [d1, d2] => { results := [.lit (.bool true)], args := [d1, d2] }
  | _ => none }
def fnExactOrderTopoRow : OpenClaim := { program := "ytjakhiafkjaghaa", sum := "325c179ff3d6fcf046b6a4828059a4be6e8ff9ef4ecde704f3cb90eee9dd807c", func := "loop.example/buildroads/laws.FnExactOrderTopo", spec := "fnExactOrderTopo", inPlace := ["slices.overlaps[int]"], unfollowed := true, recurses := true, loops := true, apart := false }
def FnExactOrderTopoSaid : Prop := fnExactOrderTopoRow.holds Try.pinned (OpenSpec.ofChange fnExactOrderTopoSpec)

/-- ITS FALSE NEIGHBOUR: 'it returns false'. Refute it at one input. -/
def fnExactOrderTopoWrong : ChangeSpec := { name := "fnExactOrderTopo", fn := fun _ => fun
  | [d1, d2] => { results := [.lit (.bool false)], args := [d1, d2] }
  | _ => none }
def FnExactOrderTopoWrongFalsely : Prop := fnExactOrderTopoRow.holds Try.pinned (OpenSpec.ofChange fnExactOrderTopoWrong)

/-- 'laws.FnExactTaskRead': WHATEVER THE INPUT: true; the input reads as it did. -/
def fnExactTaskReadSpec : ChangeSpec := { name := "fnExactTaskRead", fn := fun _ => fun
  | [d] => { results := [.lit (.bool true)], args := [d] }
  | _ => none }
def fnExactTaskReadRow : OpenClaim := { program := "ytjakhiafkjaghaa", sum := "325c179ff3d6fcf046b6a4828059a4be6e8ff9ef4ecde704f3cb90eee9dd807c", func := "loop.example/buildroads/laws.FnExactTaskRead", spec := "fnExactTaskRead", recurses := true, apart := false }
def FnExactTaskReadSaid : Prop := fnExactTaskReadRow.holds Try.pinned (OpenSpec.ofChange fnExactTaskReadSpec)

/-- ITS FALSE NEIGHBOUR: 'it returns false'. Refute it at one input. -/
def fnExactTaskReadWrong : ChangeSpec := { name := "fnExactTaskRead", fn := fun _ => fun
  | [d] => { results := [.lit (.bool false)], args := [d] }
  | _ => none }
def FnExactTaskReadWrongFalsely : Prop := fnExactTaskReadRow.holds Try.pinned (OpenSpec.ofChange fnExactTaskReadWrong)

/- THE SECOND FORM. 'bulk': how many values and letters a reading holds, each counted each time it is reached (what is shared counts as often as it is met; a slice's spare places count too). A statement '..UptoSaid' is the law's where the arguments, and the package variables that the reading takes, are together of bulk at most 1048576: NARROWER than '..Said'. Prove '..Said' where nothing that the law and all that it calls make is longer than what came in: it says more and counts as full. Else prove '..UptoSaid'. A law counts once. -/
mutual
def uptoBulk {H : Type} : DataW H → Nat
  | .lit (.string bytes) => bytes.length + 1
  | .lit _ => 1
  | .nil => 1
  | .ptr d => uptoBulk d + 1
  | .slice elems spare => uptoBulkAll elems + uptoBulkAll spare + 1
  | .agg parts => uptoBulkAll parts + 1
  | .iface _ d => uptoBulk d + 1
  | .map entries => uptoBulkEntries entries + 1
  | .held _ => 1
def uptoBulkAll {H : Type} : List (DataW H) → Nat
  | [] => 0
  | d :: r => uptoBulk d + uptoBulkAll r
def uptoBulkEntries {H : Type} : List (Lit × DataW H) → Nat
  | [] => 0
  | x :: r => uptoBulkEntry x + uptoBulkEntries r
def uptoBulkEntry {H : Type} : Lit × DataW H → Nat
  | (.string bytes, d) => bytes.length + uptoBulk d + 1
  | (_, d) => uptoBulk d + 1
 end
def uptoSmall : (H : Type) → List (DataW H) → Bool := fun _ ds => decide (uptoBulkAll ds ≤ 1048576)
def OpenSpec.upto (s : _root_.Go.ChangeSpec) : _root_.Go.OpenSpec := { _root_.Go.OpenSpec.ofChange s with cond := some uptoSmall }

/-- 'laws.FnExactTracesHonest', WHERE WHAT IT READS IS OF BULK AT MOST 1048576: true; the input reads as it did. -/
def fnExactTracesHonestUptoRow : OpenClaim := { program := "ytjakhiafkjaghaa", sum := "325c179ff3d6fcf046b6a4828059a4be6e8ff9ef4ecde704f3cb90eee9dd807c", func := "loop.example/buildroads/laws.FnExactTracesHonest", spec := "fnExactTracesHonest", unfollowed := true, recurses := true, loops := true, apart := false, narrowed := true }
def FnExactTracesHonestUptoSaid : Prop := fnExactTracesHonestUptoRow.holds Try.pinned (OpenSpec.upto fnExactTracesHonestSpec)

/-- 'laws.FnExactStateStart', WHERE WHAT IT READS IS OF BULK AT MOST 1048576: true; the input reads as it did. -/
def fnExactStateStartUptoRow : OpenClaim := { program := "ytjakhiafkjaghaa", sum := "325c179ff3d6fcf046b6a4828059a4be6e8ff9ef4ecde704f3cb90eee9dd807c", func := "loop.example/buildroads/laws.FnExactStateStart", spec := "fnExactStateStart", recurses := true, loops := true, apart := false, narrowed := true }
def FnExactStateStartUptoSaid : Prop := fnExactStateStartUptoRow.holds Try.pinned (OpenSpec.upto fnExactStateStartSpec)

/-- 'laws.FnExactStateOk', WHERE WHAT IT READS IS OF BULK AT MOST 1048576: true; the input reads as it did. -/
def fnExactStateOkUptoRow : OpenClaim := { program := "ytjakhiafkjaghaa", sum := "325c179ff3d6fcf046b6a4828059a4be6e8ff9ef4ecde704f3cb90eee9dd807c", func := "loop.example/buildroads/laws.FnExactStateOk", spec := "fnExactStateOk", unfollowed := true, recurses := true, loops := true, apart := false, narrowed := true }
def FnExactStateOkUptoSaid : Prop := fnExactStateOkUptoRow.holds Try.pinned (OpenSpec.upto fnExactStateOkSpec)

/-- 'laws.FnExactOrderTopo', WHERE WHAT IT READS IS OF BULK AT MOST 1048576: true; the input reads as it did. -/
def fnExactOrderTopoUptoRow : OpenClaim := { program := "ytjakhiafkjaghaa", sum := "325c179ff3d6fcf046b6a4828059a4be6e8ff9ef4ecde704f3cb90eee9dd807c", func := "loop.example/buildroads/laws.FnExactOrderTopo", spec := "fnExactOrderTopo", inPlace := ["slices.overlaps[int]"], unfollowed := true, recurses := true, loops := true, apart := false, narrowed := true }
def FnExactOrderTopoUptoSaid : Prop := fnExactOrderTopoUptoRow.holds Try.pinned (OpenSpec.upto fnExactOrderTopoSpec)

/-- 'laws.FnExactTaskRead', WHERE WHAT IT READS IS OF BULK AT MOST 1048576: true; the input reads as it did. -/
def fnExactTaskReadUptoRow : OpenClaim := { program := "ytjakhiafkjaghaa", sum := "325c179ff3d6fcf046b6a4828059a4be6e8ff9ef4ecde704f3cb90eee9dd807c", func := "loop.example/buildroads/laws.FnExactTaskRead", spec := "fnExactTaskRead", recurses := true, apart := false, narrowed := true }
def FnExactTaskReadUptoSaid : Prop := fnExactTaskReadUptoRow.holds Try.pinned (OpenSpec.upto fnExactTaskReadSpec)

end Rows
end Go.Proofs.Ytjakhiafkjaghaa
