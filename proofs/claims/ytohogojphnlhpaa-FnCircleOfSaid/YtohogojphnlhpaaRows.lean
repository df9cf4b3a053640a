/-
  NARROWER THAN 'FOR EVERY INPUT', by the rows' own cells (each row's printed sentence says how): FnExactSheetOk: loops · FnExactBuildKey: loops · FnExactBuildAll: loops.
  DERIVED. THE GIVEN ROWS OF THIS SEAT. 10 by the template 'for every input the law returns true; each argument reads behind the call as it read before'; 0 by the template 'total and deterministic' (their statements: YtohogojphnlhpaaTotals.lean).
  GIVEN WITH THE SEED: the statements are not yours to turn. If you find one false, say at which input.
  Laid BY PROGRAM, IN A SANDBOX (cutbox-rows.mjs): the forced cells as the released guide's own fill.sh prints them over the translation 471393f728849dc1… (all of the seat's roots in one cut). By AI agents, Wed Nov 11 2026. No macro, syntax, notation, axiom, sorry.
-/
import Derived.Test.YtohogojphnlhpaaChecked
import GoSem.Claim
import GoSem.ClaimJoined
import GoSem.ClaimMapViews
import Derived.JoinedTies
import Derived.KernelRfl
namespace Go.Proofs.Ytohogojphnlhpaa
/- THE CELL 'sum', in the pinned program and in every row, IS THE sha256 OF THE DUMP (.gsa) THAT YtohogojphnlhpaaProg.lean LOADS. Nothing in Lean hashes anything: it is a label: what it is worth is what the hold of that sum in a sandbox is worth. -/
noncomputable def Try.pinned : Pinned := { name := "ytohogojphnlhpaa", sum := "471393f728849dc1b3b98c2ab4c7facb6ca74222a9111d3f58160589c234bbb0", checked := Try.checked }
namespace Rows
def none {H : Type} : Left H := { results := [], args := [] }

/-- 'laws.FnSheetOk': WHATEVER THE INPUT: true; the input reads as it did. -/
def fnSheetOkSpec : ChangeSpec := { name := "fnSheetOk", fn := fun _ => fun
  | [d] => { results := [.lit (.bool true)], args := [d] }
  | _ => none }
def fnSheetOkRow : OpenClaim := { program := "ytohogojphnlhpaa", sum := "471393f728849dc1b3b98c2ab4c7facb6ca74222a9111d3f58160589c234bbb0", func := "loop.example/buildroads/laws.FnSheetOk", spec := "fnSheetOk", recurses := true, apart := false }
def FnSheetOkSaid : Prop := fnSheetOkRow.holds Try.pinned (OpenSpec.ofChange fnSheetOkSpec)

/-- ITS FALSE NEIGHBOUR: 'it returns false'. Refute it at one input. -/
def fnSheetOkWrong : ChangeSpec := { name := "fnSheetOk", fn := fun _ => fun
  | [d] => { results := [.lit (.bool false)], args := [d] }
  | _ => none }
def FnSheetOkWrongFalsely : Prop := fnSheetOkRow.holds Try.pinned (OpenSpec.ofChange fnSheetOkWrong)

/-- 'laws.FnBuildKey': WHATEVER THE INPUT: true; the input reads as it did. -/
def fnBuildKeySpec : ChangeSpec := { name := "fnBuildKey", fn := fun _ => fun
  | [d] => { results := [.lit (.bool true)], args := [d] }
  | _ => none }
def fnBuildKeyRow : OpenClaim := { program := "ytohogojphnlhpaa", sum := "471393f728849dc1b3b98c2ab4c7facb6ca74222a9111d3f58160589c234bbb0", func := "loop.example/buildroads/laws.FnBuildKey", spec := "fnBuildKey", unfollowed := true, recurses := true, apart := false }
def FnBuildKeySaid : Prop := fnBuildKeyRow.holds Try.pinned (OpenSpec.ofChange fnBuildKeySpec)

/-- ITS FALSE NEIGHBOUR: 'it returns false'. Refute it at one input. -/
def fnBuildKeyWrong : ChangeSpec := { name := "fnBuildKey", fn := fun _ => fun
  | [d] => { results := [.lit (.bool false)], args := [d] }
  | _ => none }
def FnBuildKeyWrongFalsely : Prop := fnBuildKeyRow.holds Try.pinned (OpenSpec.ofChange fnBuildKeyWrong)

/-- 'laws.FnBuildAll': WHATEVER THE INPUT: true; the input reads as it did. -/
def fnBuildAllSpec : ChangeSpec := { name := "fnBuildAll", fn := fun _ => fun
  | [d] => { results := [.lit (.bool true)], args := [d] }
  | _ => none }
def fnBuildAllRow : OpenClaim := { program := "ytohogojphnlhpaa", sum := "471393f728849dc1b3b98c2ab4c7facb6ca74222a9111d3f58160589c234bbb0", func := "loop.example/buildroads/laws.FnBuildAll", spec := "fnBuildAll", unfollowed := true, recurses := true, apart := false }
def FnBuildAllSaid : Prop := fnBuildAllRow.holds Try.pinned (OpenSpec.ofChange fnBuildAllSpec)

/-- ITS FALSE NEIGHBOUR: 'it returns false'. Refute it at one input. -/
def fnBuildAllWrong : ChangeSpec := { name := "fnBuildAll", fn := fun _ => fun
  | [d] => { results := [.lit (.bool false)], args := [d] }
  | _ => none }
def FnBuildAllWrongFalsely : Prop := fnBuildAllRow.holds Try.pinned (OpenSpec.ofChange fnBuildAllWrong)

/-- 'laws.FnCircleOf': WHATEVER THE INPUT: true; the input reads as it did. -/
def fnCircleOfSpec : ChangeSpec := { name := "fnCircleOf", fn := fun _ => fun
  | [d] => { results := [.lit (.bool true)], args := [d] }
  | _ => none }
def fnCircleOfRow : OpenClaim := { program := "ytohogojphnlhpaa", sum := "471393f728849dc1b3b98c2ab4c7facb6ca74222a9111d3f58160589c234bbb0", func := "loop.example/buildroads/laws.FnCircleOf", spec := "fnCircleOf", unfollowed := true, recurses := true, apart := false }
def FnCircleOfSaid : Prop := fnCircleOfRow.holds Try.pinned (OpenSpec.ofChange fnCircleOfSpec)

/-- ITS FALSE NEIGHBOUR: 'it returns false'. Refute it at one input. -/
def fnCircleOfWrong : ChangeSpec := { name := "fnCircleOf", fn := fun _ => fun
  | [d] => { results := [.lit (.bool false)], args := [d] }
  | _ => none }
def FnCircleOfWrongFalsely : Prop := fnCircleOfRow.holds Try.pinned (OpenSpec.ofChange fnCircleOfWrong)

/-- 'laws.FnSheetFixed': WHATEVER THE INPUT: true; the input reads as it did. -/
def fnSheetFixedSpec : ChangeSpec := { name := "fnSheetFixed", fn := fun _ => fun
  | [d] => { results := [.lit (.bool true)], args := [d] }
  | _ => none }
def fnSheetFixedRow : OpenClaim := { program := "ytohogojphnlhpaa", sum := "471393f728849dc1b3b98c2ab4c7facb6ca74222a9111d3f58160589c234bbb0", func := "loop.example/buildroads/laws.FnSheetFixed", spec := "fnSheetFixed", recurses := true, apart := false }
def FnSheetFixedSaid : Prop := fnSheetFixedRow.holds Try.pinned (OpenSpec.ofChange fnSheetFixedSpec)

/-- ITS FALSE NEIGHBOUR: 'it returns false'. Refute it at one input. -/
def fnSheetFixedWrong : ChangeSpec := { name := "fnSheetFixed", fn := fun _ => fun
  | [d] => { results := [.lit (.bool false)], args := [d] }
  | _ => none }
def FnSheetFixedWrongFalsely : Prop := fnSheetFixedRow.holds Try.pinned (OpenSpec.ofChange fnSheetFixedWrong)

/-- 'laws.FnSheetSafe': WHATEVER THE INPUT: true; the input reads as it did. -/
def fnSheetSafeSpec : ChangeSpec := { name := "fnSheetSafe", fn := fun _ => fun
  | [d] => { results := [.lit (.bool true)], args := [d] }
  | _ => none }
def fnSheetSafeRow : OpenClaim := { program := "ytohogojphnlhpaa", sum := "471393f728849dc1b3b98c2ab4c7facb6ca74222a9111d3f58160589c234bbb0", func := "loop.example/buildroads/laws.FnSheetSafe", spec := "fnSheetSafe", unfollowed := true, recurses := true, apart := false }
def FnSheetSafeSaid : Prop := fnSheetSafeRow.holds Try.pinned (OpenSpec.ofChange fnSheetSafeSpec)

/-- ITS FALSE NEIGHBOUR: 'it returns false'. Refute it at one input. -/
def fnSheetSafeWrong : ChangeSpec := { name := "fnSheetSafe", fn := fun _ => fun
  | [d] => { results := [.lit (.bool false)], args := [d] }
  | _ => none }
def FnSheetSafeWrongFalsely : Prop := fnSheetSafeRow.holds Try.pinned (OpenSpec.ofChange fnSheetSafeWrong)

/-- 'laws.FnExactTaskRead': WHATEVER THE INPUT: true; the input reads as it did. -/
def fnExactTaskReadSpec : ChangeSpec := { name := "fnExactTaskRead", fn := fun _ => fun
  | [d] => { results := [.lit (.bool true)], args := [d] }
  | _ => none }
def fnExactTaskReadRow : OpenClaim := { program := "ytohogojphnlhpaa", sum := "471393f728849dc1b3b98c2ab4c7facb6ca74222a9111d3f58160589c234bbb0", func := "loop.example/buildroads/laws.FnExactTaskRead", spec := "fnExactTaskRead", recurses := true, apart := false }
def FnExactTaskReadSaid : Prop := fnExactTaskReadRow.holds Try.pinned (OpenSpec.ofChange fnExactTaskReadSpec)

/-- ITS FALSE NEIGHBOUR: 'it returns false'. Refute it at one input. -/
def fnExactTaskReadWrong : ChangeSpec := { name := "fnExactTaskRead", fn := fun _ => fun
  | [d] => { results := [.lit (.bool false)], args := [d] }
  | _ => none }
def FnExactTaskReadWrongFalsely : Prop := fnExactTaskReadRow.holds Try.pinned (OpenSpec.ofChange fnExactTaskReadWrong)

/-- 'laws.FnExactSheetOk': WHATEVER THE INPUT: true; the input reads as it did. -/
def fnExactSheetOkSpec : ChangeSpec := { name := "fnExactSheetOk", fn := fun _ => fun
  | [d] => { results := [.lit (.bool true)], args := [d] }
  | _ => none }
def fnExactSheetOkRow : OpenClaim := { program := "ytohogojphnlhpaa", sum := "471393f728849dc1b3b98c2ab4c7facb6ca74222a9111d3f58160589c234bbb0", func := "loop.example/buildroads/laws.FnExactSheetOk", spec := "fnExactSheetOk", recurses := true, loops := true, apart := false }
def FnExactSheetOkSaid : Prop := fnExactSheetOkRow.holds Try.pinned (OpenSpec.ofChange fnExactSheetOkSpec)

/-- ITS FALSE NEIGHBOUR: 'it returns false'. Refute it at one input. -/
def fnExactSheetOkWrong : ChangeSpec := { name := "fnExactSheetOk", fn := fun _ => fun
  | [d] => { results := [.lit (.bool false)], args := [d] }
  | _ => none }
def FnExactSheetOkWrongFalsely : Prop := fnExactSheetOkRow.holds Try.pinned (OpenSpec.ofChange fnExactSheetOkWrong)

/-- 'laws.FnExactBuildKey': WHATEVER THE INPUT: true; the input reads as it did. -/
def fnExactBuildKeySpec : ChangeSpec := { name := "fnExactBuildKey", fn := fun _ => fun
  | [d1, d2, d3] => { results := [.lit (.bool true)], args := [d1, d2, d3] }
  | _ => none }
def fnExactBuildKeyRow : OpenClaim := { program := "ytohogojphnlhpaa", sum := "471393f728849dc1b3b98c2ab4c7facb6ca74222a9111d3f58160589c234bbb0", func := "loop.example/buildroads/laws.FnExactBuildKey", spec := "fnExactBuildKey", unfollowed := true, recurses := true, loops := true, apart := false }
def FnExactBuildKeySaid : Prop := fnExactBuildKeyRow.holds Try.pinned (OpenSpec.ofChange fnExactBuildKeySpec)

/-- ITS FALSE NEIGHBOUR: 'it returns false'. Refute it at one input. -/
def fnExactBuildKeyWrong : ChangeSpec := { name := "fnExactBuildKey", fn := fun _ => fun
  | [d1, d2, d3] => { results := [.lit (.bool false)], args := [d1, d2, d3] }
  | _ => none }
def FnExactBuildKeyWrongFalsely : Prop := fnExactBuildKeyRow.holds Try.pinned (OpenSpec.ofChange fnExactBuildKeyWrong)

/-- 'laws.FnExactBuildAll': WHATEVER THE INPUT: true; the input reads as it did. -/
def fnExactBuildAllSpec : ChangeSpec := { name := "fnExactBuildAll", fn := fun _ => fun
  | [d1, d2] => { results := [.lit (.bool true)], args := [d1, d2] }
  | _ => none }
def fnExactBuildAllRow : OpenClaim := { program := "ytohogojphnlhpaa", sum := "471393f728849dc1b3b98c2ab4c7facb6ca74222a9111d3f58160589c234bbb0", func := "loop.example/buildroads/laws.FnExactBuildAll", spec := "fnExactBuildAll", unfollowed := true, recurses := true, loops := true, apart := false }
def FnExactBuildAllSaid : Prop := fnExactBuildAllRow.holds Try.pinned (OpenSpec.ofChange fnExactBuildAllSpec)

/-- ITS FALSE NEIGHBOUR: 'it returns false'. Refute it at one input. -/
def fnExactBuildAllWrong : ChangeSpec := { name := "fnExactBuildAll", fn := fun _ => fun
  | [d1, d2] => { results := [.lit (.bool false)], args := [d1, d2] }
  | _ => none }
def FnExactBuildAllWrongFalsely : Prop := fnExactBuildAllRow.holds Try.pinned (OpenSpec.ofChange fnExactBuildAllWrong)

/- THE SECOND FORM. 'bulk': how many values and letters a reading holds, each counted each time it is reached (what is shared counts as often as it is met; a slice's spare places count too). A statement '..UptoSaid' is the law's where the arguments, and the package variables that the reading takes, are together of bulk at most 1048576: NARROWER than '..Said'. Prove '..Said' where nothing that the law and all that it calls make is longer than what came in: it says more and counts as full. Else prove '..UptoSaid'. A law counts once. -/
mutual
def uptoBulk {H : Type} : DataW H → Nat
  | .lit (.string bytes) => bytes.length + 1
  | .lit _ => 1
  | .nil => 1
  | .ptr d => uptoBulk d + 1
  | .slice elems spare => uptoBulkAll elems + uptoBulkAll spare + 1
  | .agg parts => uptoBulkAll parts + 1
  | .iface _ d => uptoBulk d + 1
  | .map entries => uptoBulkEntries entries + 1
  | .held _ => 1
def uptoBulkAll {H : Type} : List (DataW H) → Nat
  | [] => 0
  | d :: r => uptoBulk d + uptoBulkAll r
def uptoBulkEntries {H : Type} : List (Lit × DataW H) → Nat
  | [] => 0
  | x :: r => uptoBulkEntry x + uptoBulkEntries r
def uptoBulkEntry {H : Type} : Lit × DataW H → Nat
  | (.string bytes, d) => bytes.length + uptoBulk d + 1
  | (_, d) => uptoBulk d + 1
 end
def uptoSmall : (H : Type) → List (DataW H) → Bool := fun _ ds => decide (uptoBulkAll ds ≤ 1048576)
def OpenSpec.upto (s : _root_.Go.ChangeSpec) : _root_.Go.OpenSpec := { _root_.Go.OpenSpec.ofChange s with cond := some uptoSmall }

/-- 'laws.FnSheetOk', WHERE WHAT IT READS IS OF BULK AT MOST 1048576: true; the input reads as it did. -/
def fnSheetOkUptoRow : OpenClaim := { program := "ytohogojphnlhpaa", sum := "471393f728849dc1b3b98c2ab4c7facb6ca74222a9111d3f58160589c234bbb0", func := "loop.example/buildroads/laws.FnSheetOk", spec := "fnSheetOk", recurses := true, apart := false, narrowed := true }
def FnSheetOkUptoSaid : Prop := fnSheetOkUptoRow.holds Try.pinned (OpenSpec.upto fnSheetOkSpec)

/-- 'laws.FnBuildKey', WHERE WHAT IT READS IS OF BULK AT MOST 1048576: true; the input reads as it did. -/
def fnBuildKeyUptoRow : OpenClaim := { program := "ytohogojphnlhpaa", sum := "471393f728849dc1b3b98c2ab4c7facb6ca74222a9111d3f58160589c234bbb0", func := "loop.example/buildroads/laws.FnBuildKey", spec := "fnBuildKey", unfollowed := true, recurses := true, apart := false, narrowed := true }
def FnBuildKeyUptoSaid : Prop := fnBuildKeyUptoRow.holds Try.pinned (OpenSpec.upto fnBuildKeySpec)

/-- 'laws.FnBuildAll', WHERE WHAT IT READS IS OF BULK AT MOST 1048576: true; the input reads as it did. -/
def fnBuildAllUptoRow : OpenClaim := { program := "ytohogojphnlhpaa", sum := "471393f728849dc1b3b98c2ab4c7facb6ca74222a9111d3f58160589c234bbb0", func := "loop.example/buildroads/laws.FnBuildAll", spec := "fnBuildAll", unfollowed := true, recurses := true, apart := false, narrowed := true }
def FnBuildAllUptoSaid : Prop := fnBuildAllUptoRow.holds Try.pinned (OpenSpec.upto fnBuildAllSpec)

/-- 'laws.FnCircleOf', WHERE WHAT IT READS IS OF BULK AT MOST 1048576: true; the input reads as it did. -/
def fnCircleOfUptoRow : OpenClaim := { program := "ytohogojphnlhpaa", sum := "471393f728849dc1b3b98c2ab4c7facb6ca74222a9111d3f58160589c234bbb0", func := "loop.example/buildroads/laws.FnCircleOf", spec := "fnCircleOf", unfollowed := true, recurses := true, apart := false, narrowed := true }
def FnCircleOfUptoSaid : Prop := fnCircleOfUptoRow.holds Try.pinned (OpenSpec.upto fnCircleOfSpec)

/-- 'laws.FnSheetFixed', WHERE WHAT IT READS IS OF BULK AT MOST 1048576: true; the input reads as it did. -/
def fnSheetFixedUptoRow : OpenClaim := { program := "ytohogojphnlhpaa", sum := "471393f728849dc1b3b98c2ab4c7facb6ca74222a9111d3f58160589c234bbb0", func := "loop.example/buildroads/laws.FnSheetFixed", spec := "fnSheetFixed", recurses := true, apart := false, narrowed := true }
def FnSheetFixedUptoSaid : Prop := fnSheetFixedUptoRow.holds Try.pinned (OpenSpec.upto fnSheetFixedSpec)

/-- 'laws.FnSheetSafe', WHERE WHAT IT READS IS OF BULK AT MOST 1048576: true; the input reads as it did. -/
def fnSheetSafeUptoRow : OpenClaim := { program := "ytohogojphnlhpaa", sum := "471393f728849dc1b3b98c2ab4c7facb6ca74222a9111d3f58160589c234bbb0", func := "loop.example/buildroads/laws.FnSheetSafe", spec := "fnSheetSafe", unfollowed := true, recurses := true, apart := false, narrowed := true }
def FnSheetSafeUptoSaid : Prop := fnSheetSafeUptoRow.holds Try.pinned (OpenSpec.upto fnSheetSafeSpec)

/-- 'laws.FnExactTaskRead', WHERE WHAT IT READS IS OF BULK AT MOST 1048576: true; the input reads as it did. -/
def fnExactTaskReadUptoRow : OpenClaim := { program := "ytohogojphnlhpaa", sum := "471393f728849dc1b3b98c2ab4c7facb6ca74222a9111d3f58160589c234bbb0", func := "loop.example/buildroads/laws.FnExactTaskRead", spec := "fnExactTaskRead", recurses := true, apart := false, narrowed := true }
def FnExactTaskReadUptoSaid : Prop := fnExactTaskReadUptoRow.holds Try.pinned (OpenSpec.upto fnExactTaskReadSpec)

/-- 'laws.FnExactSheetOk', WHERE WHAT IT READS IS OF BULK AT MOST 1048576: true; the input reads as it did. -/
def fnExactSheetOkUptoRow : OpenClaim := { program := "ytohogojphnlhpaa", sum := "471393f728849dc1b3b98c2ab4c7facb6ca74222a9111d3f58160589c234bbb0", func := "loop.example/buildroads/laws.FnExactSheetOk", spec := "fnExactSheetOk", recurses := true, loops := true, apart := false, narrowed := true }
def FnExactSheetOkUptoSaid : Prop := fnExactSheetOkUptoRow.holds Try.pinned (OpenSpec.upto fnExactSheetOkSpec)

/-- 'laws.FnExactBuildKey', WHERE WHAT IT READS IS OF BULK AT MOST 1048576: true; the input reads as it did. -/
def fnExactBuildKeyUptoRow : OpenClaim := { program := "ytohogojphnlhpaa", sum := "471393f728849dc1b3b98c2ab4c7facb6ca74222a9111d3f58160589c234bbb0", func := "loop.example/buildroads/laws.FnExactBuildKey", spec := "fnExactBuildKey", unfollowed := true, recurses := true, loops := true, apart := false, narrowed := true }
def FnExactBuildKeyUptoSaid : Prop := fnExactBuildKeyUptoRow.holds Try.pinned (OpenSpec.upto fnExactBuildKeySpec)

/-- 'laws.FnExactBuildAll', WHERE WHAT IT READS IS OF BULK AT MOST 1048576: true; the input reads as it did. -/
def fnExactBuildAllUptoRow : OpenClaim := { program := "ytohogojphnlhpaa", sum := "471393f728849dc1b3b98c2ab4c7facb6ca74222a9111d3f58160589c234bbb0", func := "loop.example/buildroads/laws.FnExactBuildAll", spec := "fnExactBuildAll", unfollowed := true, recurses := true, loops := true, apart := false, narrowed := true }
def FnExactBuildAllUptoSaid : Prop := fnExactBuildAllUptoRow.holds Try.pinned (OpenSpec.upto fnExactBuildAllSpec)

end Rows
end Go.Proofs.Ytohogojphnlhpaa
