/-
  NARROWER THAN 'FOR EVERY INPUT', by the rows' own cells (each row's printed sentence says how): FnExactTaskValue: loops · FnExactTaskFetches: loops · FnExactTaskUses: loops · FnExactTaskSame: loops · FnExactBuildKey: loops · FnExactBuildAll: loops · FnExactCircleOf: loops · FnExactOrderSuspend: loops · FnExactOrderRestart: loops · FnExactOrderFits: loops.
  DERIVED. THE GIVEN ROWS OF THIS SEAT. 10 by the template 'for every input the law returns true; each argument reads behind the call as it read before'; 0 by the template 'total and deterministic' (their statements: YtoaihkgllmmdlaaTotals.lean).
  GIVEN WITH THE SEED: the statements are not yours to turn. If you find one false, say at which input.
  Laid BY PROGRAM, IN A SANDBOX (cutbox-rows.mjs): the forced cells as the released guide's own fill.sh prints them over the translation 6ade702268e43c95… (all of the seat's roots in one cut). By AI agents, Wed Nov 11 2026. No macro, syntax, notation, axiom, sorry.
-/
import Derived.Test.YtoaihkgllmmdlaaChecked
import GoSem.Claim
import GoSem.ClaimJoined
import GoSem.ClaimMapViews
import Derived.JoinedTies
import Derived.KernelRfl
namespace Go.Proofs.Ytoaihkgllmmdlaa
/- THE CELL 'sum', in the pinned program and in every row, IS THE sha256 OF THE DUMP (.gsa) THAT YtoaihkgllmmdlaaProg.lean LOADS. Nothing in Lean hashes anything: it is a label: what it is worth is what the hold of that sum in a sandbox is worth. -/
noncomputable def Try.pinned : Pinned := { name := "ytoaihkgllmmdlaa", sum := "6ade702268e43c95ad4793de6ee3a2f4b3df7d198e6d60a086620ab3f3790e46", checked := Try.checked }
namespace Rows
def none {H : Type} : Left H := { results := [], args := [] }

/-- 'laws.FnExactTaskValue': WHATEVER THE INPUT: true; the input reads as it did. -/
def fnExactTaskValueSpec : ChangeSpec := { name := "fnExactTaskValue", fn := fun _ => fun
  | [d1, d2] => { results := [.lit (.bool true)], args := [d1, d2] }
  | _ => none }
def fnExactTaskValueRow : OpenClaim := { program := "ytoaihkgllmmdlaa", sum := "6ade702268e43c95ad4793de6ee3a2f4b3df7d198e6d60a086620ab3f3790e46", func := "loop.example/buildroads/laws.FnExactTaskValue", spec := "fnExactTaskValue", unfollowed := true, recurses := true, loops := true, apart := false }
def FnExactTaskValueSaid : Prop := fnExactTaskValueRow.holds Try.pinned (OpenSpec.ofChange fnExactTaskValueSpec)

/-- ITS FALSE NEIGHBOUR: 'it returns false'. Refute it at one input. -/
def fnExactTaskValueWrong : ChangeSpec := { name := "fnExactTaskValue", fn := fun _ => fun
  | [d1, d2] => { results := [.lit (.bool false)], args := [d1, d2] }
  | _ => none }
def FnExactTaskValueWrongFalsely : Prop := fnExactTaskValueRow.holds Try.pinned (OpenSpec.ofChange fnExactTaskValueWrong)

/-- 'laws.FnExactTaskFetches': WHATEVER THE INPUT: true; the input reads as it did. -/
def fnExactTaskFetchesSpec : ChangeSpec := { name := "fnExactTaskFetches", fn := fun _ => fun
  | [d1, d2] => { results := [.lit (.bool true)], args := [d1, d2] }
  | _ => none }
def fnExactTaskFetchesRow : OpenClaim := { program := "ytoaihkgllmmdlaa", sum := "6ade702268e43c95ad4793de6ee3a2f4b3df7d198e6d60a086620ab3f3790e46", func := "loop.example/buildroads/laws.FnExactTaskFetches", spec := "fnExactTaskFetches", unfollowed := true, recurses := true, loops := true, apart := false }
def FnExactTaskFetchesSaid : Prop := fnExactTaskFetchesRow.holds Try.pinned (OpenSpec.ofChange fnExactTaskFetchesSpec)

/-- ITS FALSE NEIGHBOUR: 'it returns false'. Refute it at one input. -/
def fnExactTaskFetchesWrong : ChangeSpec := { name := "fnExactTaskFetches", fn := fun _ => fun
  | [d1, d2] => { results := [.lit (.bool false)], args := [d1, d2] }
  | _ => none }
def FnExactTaskFetchesWrongFalsely : Prop := fnExactTaskFetchesRow.holds Try.pinned (OpenSpec.ofChange fnExactTaskFetchesWrong)

/-- 'laws.FnExactTaskUses': WHATEVER THE INPUT: true; the input reads as it did. -/
def fnExactTaskUsesSpec : ChangeSpec := { name := "fnExactTaskUses", fn := fun _ => fun
  | [d1, d2] => { results := [.lit (.bool true)], args := [d1, d2] }
  | _ => none }
def fnExactTaskUsesRow : OpenClaim := { program := "ytoaihkgllmmdlaa", sum := "6ade702268e43c95ad4793de6ee3a2f4b3df7d198e6d60a086620ab3f3790e46", func := "loop.example/buildroads/laws.FnExactTaskUses", spec := "fnExactTaskUses", unfollowed := true, recurses := true, loops := true, apart := false }
def FnExactTaskUsesSaid : Prop := fnExactTaskUsesRow.holds Try.pinned (OpenSpec.ofChange fnExactTaskUsesSpec)

/-- ITS FALSE NEIGHBOUR: 'it returns false'. Refute it at one input. -/
def fnExactTaskUsesWrong : ChangeSpec := { name := "fnExactTaskUses", fn := fun _ => fun
  | [d1, d2] => { results := [.lit (.bool false)], args := [d1, d2] }
  | _ => none }
def FnExactTaskUsesWrongFalsely : Prop := fnExactTaskUsesRow.holds Try.pinned (OpenSpec.ofChange fnExactTaskUsesWrong)

/-- 'laws.FnExactTaskSame': WHATEVER THE INPUT: true; the input reads as it did. -/
def fnExactTaskSameSpec : ChangeSpec := { name := "fnExactTaskSame", fn := fun _ => fun
  | [d1, d2, d3] => { results := [.lit (.bool true)], args := [d1, d2, d3] }
  | _ => none }
def fnExactTaskSameRow : OpenClaim := { program := "ytoaihkgllmmdlaa", sum := "6ade702268e43c95ad4793de6ee3a2f4b3df7d198e6d60a086620ab3f3790e46", func := "loop.example/buildroads/laws.FnExactTaskSame", spec := "fnExactTaskSame", unfollowed := true, recurses := true, loops := true, apart := false }
def FnExactTaskSameSaid : Prop := fnExactTaskSameRow.holds Try.pinned (OpenSpec.ofChange fnExactTaskSameSpec)

/-- ITS FALSE NEIGHBOUR: 'it returns false'. Refute it at one input. -/
def fnExactTaskSameWrong : ChangeSpec := { name := "fnExactTaskSame", fn := fun _ => fun
  | [d1, d2, d3] => { results := [.lit (.bool false)], args := [d1, d2, d3] }
  | _ => none }
def FnExactTaskSameWrongFalsely : Prop := fnExactTaskSameRow.holds Try.pinned (OpenSpec.ofChange fnExactTaskSameWrong)

/-- 'laws.FnExactBuildKey': WHATEVER THE INPUT: true; the input reads as it did. -/
def fnExactBuildKeySpec : ChangeSpec := { name := "fnExactBuildKey", fn := fun _ => fun
  | [d1, d2, d3] => { results := [.lit (.bool true)], args := [d1, d2, d3] }
  | _ => none }
def fnExactBuildKeyRow : OpenClaim := { program := "ytoaihkgllmmdlaa", sum := "6ade702268e43c95ad4793de6ee3a2f4b3df7d198e6d60a086620ab3f3790e46", func := "loop.example/buildroads/laws.FnExactBuildKey", spec := "fnExactBuildKey", unfollowed := true, recurses := true, loops := true, apart := false }
def FnExactBuildKeySaid : Prop := fnExactBuildKeyRow.holds Try.pinned (OpenSpec.ofChange fnExactBuildKeySpec)

/-- ITS FALSE NEIGHBOUR: 'it returns false'. Refute it at one input. -/
def fnExactBuildKeyWrong : ChangeSpec := { name := "fnExactBuildKey", fn := fun _ => fun
  | [d1, d2, d3] => { results := [.lit (.bool false)], args := [d1, d2, d3] }
  | _ => none }
def FnExactBuildKeyWrongFalsely : Prop := fnExactBuildKeyRow.holds Try.pinned (OpenSpec.ofChange fnExactBuildKeyWrong)

/-- 'laws.FnExactBuildAll': WHATEVER THE INPUT: true; the input reads as it did. -/
def fnExactBuildAllSpec : ChangeSpec := { name := "fnExactBuildAll", fn := fun _ => fun
  | [d1, d2] => { results := [.lit (.bool true)], args := [d1, d2] }
  | _ => none }
def fnExactBuildAllRow : OpenClaim := { program := "ytoaihkgllmmdlaa", sum := "6ade702268e43c95ad4793de6ee3a2f4b3df7d198e6d60a086620ab3f3790e46", func := "loop.example/buildroads/laws.FnExactBuildAll", spec := "fnExactBuildAll", unfollowed := true, recurses := true, loops := true, apart := false }
def FnExactBuildAllSaid : Prop := fnExactBuildAllRow.holds Try.pinned (OpenSpec.ofChange fnExactBuildAllSpec)

/-- ITS FALSE NEIGHBOUR: 'it returns false'. Refute it at one input. -/
def fnExactBuildAllWrong : ChangeSpec := { name := "fnExactBuildAll", fn := fun _ => fun
  | [d1, d2] => { results := [.lit (.bool false)], args := [d1, d2] }
  | _ => none }
def FnExactBuildAllWrongFalsely : Prop := fnExactBuildAllRow.holds Try.pinned (OpenSpec.ofChange fnExactBuildAllWrong)

/-- 'laws.FnExactCircleOf': WHATEVER THE INPUT: true; the input reads as it did. -/
def fnExactCircleOfSpec : ChangeSpec := { name := "fnExactCircleOf", fn := fun _ => fun
  | [d1, d2, d3] => { results := [.lit (.bool true)], args := [d1, d2, d3] }
  | _ => none }
def fnExactCircleOfRow : OpenClaim := { program := "ytoaihkgllmmdlaa", sum := "6ade702268e43c95ad4793de6ee3a2f4b3df7d198e6d60a086620ab3f3790e46", func := "loop.example/buildroads/laws.FnExactCircleOf", spec := "fnExactCircleOf", unfollowed := true, recurses := true, loops := true, apart := false }
def FnExactCircleOfSaid : Prop := fnExactCircleOfRow.holds Try.pinned (OpenSpec.ofChange fnExactCircleOfSpec)

/-- ITS FALSE NEIGHBOUR: 'it returns false'. Refute it at one input. -/
def fnExactCircleOfWrong : ChangeSpec := { name := "fnExactCircleOf", fn := fun _ => fun
  | [d1, d2, d3] => { results := [.lit (.bool false)], args := [d1, d2, d3] }
  | _ => none }
def FnExactCircleOfWrongFalsely : Prop := fnExactCircleOfRow.holds Try.pinned (OpenSpec.ofChange fnExactCircleOfWrong)

/-- 'laws.FnExactOrderSuspend': WHATEVER THE INPUT: true; the input reads as it did. -/
def fnExactOrderSuspendSpec : ChangeSpec := { name := "fnExactOrderSuspend", fn := fun _ => fun
  | [d1, d2, d3] => { results := [.lit (.bool true)], args := [d1, d2, d3] }
  | _ => none }
def fnExactOrderSuspendRow : OpenClaim := { program := "ytoaihkgllmmdlaa", sum := "6ade702268e43c95ad4793de6ee3a2f4b3df7d198e6d60a086620ab3f3790e46", func := "loop.example/buildroads/laws.FnExactOrderSuspend", spec := "fnExactOrderSuspend", unfollowed := true, recurses := true, loops := true, apart := false }
def FnExactOrderSuspendSaid : Prop := fnExactOrderSuspendRow.holds Try.pinned (OpenSpec.ofChange fnExactOrderSuspendSpec)

/-- ITS FALSE NEIGHBOUR: 'it returns false'. Refute it at one input. -/
def fnExactOrderSuspendWrong : ChangeSpec := { name := "fnExactOrderSuspend", fn := fun _ => fun
  | [d1, d2, d3] => { results := [.lit (.bool false)], args := [d1, d2, d3] }
  | _ => none }
def FnExactOrderSuspendWrongFalsely : Prop := fnExactOrderSuspendRow.holds Try.pinned (OpenSpec.ofChange fnExactOrderSuspendWrong)

/-- 'laws.FnExactOrderRestart': WHATEVER THE INPUT: true; the input reads as it did. -/
def fnExactOrderRestartSpec : ChangeSpec := { name := "fnExactOrderRestart", fn := fun _ => fun
  | [d1, d2, d3] => { results := [.lit (.bool true)], args := [d1, d2, d3] }
  | _ => none }
def fnExactOrderRestartRow : OpenClaim := { program := "ytoaihkgllmmdlaa", sum := "6ade702268e43c95ad4793de6ee3a2f4b3df7d198e6d60a086620ab3f3790e46", func := "loop.example/buildroads/laws.FnExactOrderRestart", spec := "fnExactOrderRestart", unfollowed := true, recurses := true, loops := true, apart := false }
def FnExactOrderRestartSaid : Prop := fnExactOrderRestartRow.holds Try.pinned (OpenSpec.ofChange fnExactOrderRestartSpec)

/-- ITS FALSE NEIGHBOUR: 'it returns false'. Refute it at one input. -/
def fnExactOrderRestartWrong : ChangeSpec := { name := "fnExactOrderRestart", fn := fun _ => fun
  | [d1, d2, d3] => { results := [.lit (.bool false)], args := [d1, d2, d3] }
  | _ => none }
def FnExactOrderRestartWrongFalsely : Prop := fnExactOrderRestartRow.holds Try.pinned (OpenSpec.ofChange fnExactOrderRestartWrong)

/-- 'laws.FnExactOrderFits': WHATEVER THE INPUT: true; the input reads as it did. -/
def fnExactOrderFitsSpec : ChangeSpec := { name := "fnExactOrderFits", fn := fun _ => fun
  | [d1, d2, d3] => { results := [.lit (.bool true)], args := [d1, d2, d3] }
  | _ => none }
def fnExactOrderFitsRow : OpenClaim := { program := "ytoaihkgllmmdlaa", sum := "6ade702268e43c95ad4793de6ee3a2f4b3df7d198e6d60a086620ab3f3790e46", func := "loop.example/buildroads/laws.FnExactOrderFits", spec := "fnExactOrderFits", unfollowed := true, recurses := true, loops := true, apart := false }
def FnExactOrderFitsSaid : Prop := fnExactOrderFitsRow.holds Try.pinned (OpenSpec.ofChange fnExactOrderFitsSpec)

/-- ITS FALSE NEIGHBOUR: 'it returns false'. Refute it at one input. -/
def fnExactOrderFitsWrong : ChangeSpec := { name := "fnExactOrderFits", fn := fun _ => fun
  | [d1, d2, d3] => { results := [.lit (.bool false)], args := [d1, d2, d3] }
  | _ => none }
def FnExactOrderFitsWrongFalsely : Prop := fnExactOrderFitsRow.holds Try.pinned (OpenSpec.ofChange fnExactOrderFitsWrong)

/- THE SECOND FORM. 'bulk': how many values and letters a reading holds, each counted each time it is reached (what is shared counts as often as it is met; a slice's spare places count too). A statement '..UptoSaid' is the law's where the arguments, and the package variables that the reading takes, are together of bulk at most 1048576: NARROWER than '..Said'. Prove '..Said' where nothing that the law and all that it calls make is longer than what came in: it says more and counts as full. Else prove '..UptoSaid'. A law counts once. -/
mutual
def uptoBulk {H : Type} : DataW H → Nat
  | .lit (.string bytes) => bytes.length + 1
  | .lit _ => 1
  | .nil => 1
  | .ptr d => uptoBulk d + 1
  | .slice elems spare => uptoBulkAll elems + uptoBulkAll spare + 1
  | .agg parts => uptoBulkAll parts + 1
  | .iface _ d => uptoBulk d + 1
  | .map entries => uptoBulkEntries entries + 1
  | .held _ => 1
def uptoBulkAll {H : Type} : List (DataW H) → Nat
  | [] => 0
  | d :: r => uptoBulk d + uptoBulkAll r
def uptoBulkEntries {H : Type} : List (Lit × DataW H) → Nat
  | [] => 0
  | x :: r => uptoBulkEntry x + uptoBulkEntries r
def uptoBulkEntry {H : Type} : Lit × DataW H → Nat
  | (.string bytes, d) => bytes.length + uptoBulk d + 1
  | (_, d) => uptoBulk d + 1
 end
def uptoSmall : (H : Type) → List (DataW H) → Bool := fun _ ds => decide (uptoBulkAll ds ≤ 1048576)
def OpenSpec.upto (s : _root_.Go.ChangeSpec) : _root_.Go.OpenSpec := { _root_.Go.OpenSpec.ofChange s with cond := some uptoSmall }

/-- 'laws.FnExactTaskValue', WHERE WHAT IT READS IS OF BULK AT MOST 1048576: true; the input reads as it did. -/
def fnExactTaskValueUptoRow : OpenClaim := { program := "ytoaihkgllmmdlaa", sum := "6ade702268e43c95ad4793de6ee3a2f4b3df7d198e6d60a086620ab3f3790e46", func := "loop.example/buildroads/laws.FnExactTaskValue", spec := "fnExactTaskValue", unfollowed := true, recurses := true, loops := true, apart := false, narrowed := true }
def FnExactTaskValueUptoSaid : Prop := fnExactTaskValueUptoRow.holds Try.pinned (OpenSpec.upto fnExactTaskValueSpec)

/-- 'laws.FnExactTaskFetches', WHERE WHAT IT READS IS OF BULK AT MOST 1048576: true; the input reads as it did. -/
def fnExactTaskFetchesUptoRow : OpenClaim := { program := "ytoaihkgllmmdlaa", sum := "6ade702268e43c95ad4793de6ee3a2f4b3df7d198e6d60a086620ab3f3790e46", func := "loop.example/buildroads/laws.FnExactTaskFetches", spec := "fnExactTaskFetches", unfollowed := true, recurses := true, loops := true, apart := false, narrowed := true }
def FnExactTaskFetchesUptoSaid : Prop := fnExactTaskFetchesUptoRow.holds Try.pinned (OpenSpec.upto fnExactTaskFetchesSpec)

/-- 'laws.FnExactTaskUses', WHERE WHAT IT READS IS OF BULK AT MOST 1048576: true; the input reads as it did. -/
def fnExactTaskUsesUptoRow : OpenClaim := { program := "ytoaihkgllmmdlaa", sum := "6ade702268e43c95ad4793de6ee3a2f4b3df7d198e6d60a086620ab3f3790e46", func := "loop.example/buildroads/laws.FnExactTaskUses", spec := "fnExactTaskUses", unfollowed := true, recurses := true, loops := true, apart := false, narrowed := true }
def FnExactTaskUsesUptoSaid : Prop := fnExactTaskUsesUptoRow.holds Try.pinned (OpenSpec.upto fnExactTaskUsesSpec)

/-- 'laws.FnExactTaskSame', WHERE WHAT IT READS IS OF BULK AT MOST 1048576: true; the input reads as it did. -/
def fnExactTaskSameUptoRow : OpenClaim := { program := "ytoaihkgllmmdlaa", sum := "6ade702268e43c95ad4793de6ee3a2f4b3df7d198e6d60a086620ab3f3790e46", func := "loop.example/buildroads/laws.FnExactTaskSame", spec := "fnExactTaskSame", unfollowed := true, recurses := true, loops := true, apart := false, narrowed := true }
def FnExactTaskSameUptoSaid : Prop := fnExactTaskSameUptoRow.holds Try.pinned (OpenSpec.upto fnExactTaskSameSpec)

/-- 'laws.FnExactBuildKey', WHERE WHAT IT READS IS OF BULK AT MOST 1048576: true; the input reads as it did. -/
def fnExactBuildKeyUptoRow : OpenClaim := { program := "ytoaihkgllmmdlaa", sum := "6ade702268e43c95ad4793de6ee3a2f4b3df7d198e6d60a086620ab3f3790e46", func := "loop.example/buildroads/laws.FnExactBuildKey", spec := "fnExactBuildKey", unfollowed := true, recurses := true, loops := true, apart := false, narrowed := true }
def FnExactBuildKeyUptoSaid : Prop := fnExactBuildKeyUptoRow.holds Try.pinned (OpenSpec.upto fnExactBuildKeySpec)

/-- 'laws.FnExactBuildAll', WHERE WHAT IT READS IS OF BULK AT MOST 1048576: true; the input reads as it did. -/
def fnExactBuildAllUptoRow : OpenClaim := { program := "ytoaihkgllmmdlaa", sum := "6ade702268e43c95ad4793de6ee3a2f4b3df7d198e6d60a086620ab3f3790e46", func := "loop.example/buildroads/laws.FnExactBuildAll", spec := "fnExactBuildAll", unfollowed := true, recurses := true, loops := true, apart := false, narrowed := true }
def FnExactBuildAllUptoSaid : Prop := fnExactBuildAllUptoRow.holds Try.pinned (OpenSpec.upto fnExactBuildAllSpec)

/-- 'laws.FnExactCircleOf', WHERE WHAT IT READS IS OF BULK AT MOST 1048576: true; the input reads as it did. -/
def fnExactCircleOfUptoRow : OpenClaim := { program := "ytoaihkgllmmdlaa", sum := "6ade702268e43c95ad4793de6ee3a2f4b3df7d198e6d60a086620ab3f3790e46", func := "loop.example/buildroads/laws.FnExactCircleOf", spec := "fnExactCircleOf", unfollowed := true, recurses := true, loops := true, apart := false, narrowed := true }
def FnExactCircleOfUptoSaid : Prop := fnExactCircleOfUptoRow.holds Try.pinned (OpenSpec.upto fnExactCircleOfSpec)

/-- 'laws.FnExactOrderSuspend', WHERE WHAT IT READS IS OF BULK AT MOST 1048576: true; the input reads as it did. -/
def fnExactOrderSuspendUptoRow : OpenClaim := { program := "ytoaihkgllmmdlaa", sum := "6ade702268e43c95ad4793de6ee3a2f4b3df7d198e6d60a086620ab3f3790e46", func := "loop.example/buildroads/laws.FnExactOrderSuspend", spec := "fnExactOrderSuspend", unfollowed := true, recurses := true, loops := true, apart := false, narrowed := true }
def FnExactOrderSuspendUptoSaid : Prop := fnExactOrderSuspendUptoRow.holds Try.pinned (OpenSpec.upto fnExactOrderSuspendSpec)

/-- 'laws.FnExactOrderRestart', WHERE WHAT IT READS IS OF BULK AT MOST 1048576: true; the input reads as it did. -/
def fnExactOrderRestartUptoRow : OpenClaim := { program := "ytoaihkgllmmdlaa", sum := "6ade702268e43c95ad4793de6ee3a2f4b3df7d198e6d60a086620ab3f3790e46", func := "loop.example/buildroads/laws.FnExactOrderRestart", spec := "fnExactOrderRestart", unfollowed := true, recurses := true, loops := true, apart := false, narrowed := true }
def FnExactOrderRestartUptoSaid : Prop := fnExactOrderRestartUptoRow.holds Try.pinned (OpenSpec.upto fnExactOrderRestartSpec)

/-- 'laws.FnExactOrderFits', WHERE WHAT IT READS IS OF BULK AT MOST 1048576: true; the input reads as it did. -/
def fnExactOrderFitsUptoRow : OpenClaim := { program := "ytoaihkgllmmdlaa", sum := "6ade702268e43c95ad4793de6ee3a2f4b3df7d198e6d60a086620ab3f3790e46", func := "loop.example/buildroads/laws.FnExactOrderFits", spec := "fnExactOrderFits", unfollowed := true, recurses := true, loops := true, apart := false, narrowed := true }
def FnExactOrderFitsUptoSaid : Prop := fnExactOrderFitsUptoRow.holds Try.pinned (OpenSpec.upto fnExactOrderFitsSpec)

end Rows
end Go.Proofs.Ytoaihkgllmmdlaa
