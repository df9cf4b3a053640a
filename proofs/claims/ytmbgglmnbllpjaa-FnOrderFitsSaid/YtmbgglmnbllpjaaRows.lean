/-
  No cell of these rows narrows 'for every input' (looked for: loops, veiled, ifaces, maps, wideKeys, modest, calm, conditions, laid).
  DERIVED. THE GIVEN ROWS OF THIS SEAT. 11 by the template 'for every input the law returns true; each argument reads behind the call as it read before'; 0 by the template 'total and deterministic' (their statements: YtmbgglmnbllpjaaTotals.lean).
  GIVEN WITH THE SEED: the statements are not yours to turn. If you find one false, say at which input.
  Laid BY PROGRAM, IN A SANDBOX (cutbox-rows.mjs): the forced cells as the released guide's own fill.sh prints them over the translation b4efa7f436f0398b… (all of the seat's roots in one cut). By AI agents, Wed Nov 11 2026. No macro, syntax, notation, axiom, sorry.
-/
import Derived.Test.YtmbgglmnbllpjaaChecked
import GoSem.Claim
import GoSem.ClaimJoined
import GoSem.ClaimMapViews
import Derived.JoinedTies
import Derived.KernelRfl
namespace Go.Proofs.Ytmbgglmnbllpjaa
/- THE CELL 'sum', in the pinned program and in every row, IS THE sha256 OF THE DUMP (.gsa) THAT YtmbgglmnbllpjaaProg.lean LOADS. Nothing in Lean hashes anything: it is a label: what it is worth is what the hold of that sum in a sandbox is worth. -/
noncomputable def Try.pinned : Pinned := { name := "ytmbgglmnbllpjaa", sum := "b4efa7f436f0398b62001eff5e7f8292b8acd04605e89004da53b153e2718780", checked := Try.checked }
namespace Rows
def none {H : Type} : Left H := { results := [], args := [] }

/-- 'laws.FnTaskFixed': WHATEVER THE INPUT: true; the input reads as it did. -/
def fnTaskFixedSpec : ChangeSpec := { name := "fnTaskFixed", fn := fun _ => fun
  | [d] => { results := [.lit (.bool true)], args := [d] }
  | _ => none }
def fnTaskFixedRow : OpenClaim := { program := "ytmbgglmnbllpjaa", sum := "b4efa7f436f0398b62001eff5e7f8292b8acd04605e89004da53b153e2718780", func := "loop.example/buildroads/laws.FnTaskFixed", spec := "fnTaskFixed", unfollowed := true, recurses := true, apart := false }
def FnTaskFixedSaid : Prop := fnTaskFixedRow.holds Try.pinned (OpenSpec.ofChange fnTaskFixedSpec)

/-- ITS FALSE NEIGHBOUR: 'it returns false'. Refute it at one input. -/
def fnTaskFixedWrong : ChangeSpec := { name := "fnTaskFixed", fn := fun _ => fun
  | [d] => { results := [.lit (.bool false)], args := [d] }
  | _ => none }
def FnTaskFixedWrongFalsely : Prop := fnTaskFixedRow.holds Try.pinned (OpenSpec.ofChange fnTaskFixedWrong)

/-- 'laws.FnTaskValue': WHATEVER THE INPUT: true; the input reads as it did. -/
def fnTaskValueSpec : ChangeSpec := { name := "fnTaskValue", fn := fun _ => fun
  | [d] => { results := [.lit (.bool true)], args := [d] }
  | _ => none }
def fnTaskValueRow : OpenClaim := { program := "ytmbgglmnbllpjaa", sum := "b4efa7f436f0398b62001eff5e7f8292b8acd04605e89004da53b153e2718780", func := "loop.example/buildroads/laws.FnTaskValue", spec := "fnTaskValue", unfollowed := true, recurses := true, apart := false }
def FnTaskValueSaid : Prop := fnTaskValueRow.holds Try.pinned (OpenSpec.ofChange fnTaskValueSpec)

/-- ITS FALSE NEIGHBOUR: 'it returns false'. Refute it at one input. -/
def fnTaskValueWrong : ChangeSpec := { name := "fnTaskValue", fn := fun _ => fun
  | [d] => { results := [.lit (.bool false)], args := [d] }
  | _ => none }
def FnTaskValueWrongFalsely : Prop := fnTaskValueRow.holds Try.pinned (OpenSpec.ofChange fnTaskValueWrong)

/-- 'laws.FnTaskFetches': WHATEVER THE INPUT: true; the input reads as it did. -/
def fnTaskFetchesSpec : ChangeSpec := { name := "fnTaskFetches", fn := fun _ => fun
  | [d] => { results := [.lit (.bool true)], args := [d] }
  | _ => none }
def fnTaskFetchesRow : OpenClaim := { program := "ytmbgglmnbllpjaa", sum := "b4efa7f436f0398b62001eff5e7f8292b8acd04605e89004da53b153e2718780", func := "loop.example/buildroads/laws.FnTaskFetches", spec := "fnTaskFetches", unfollowed := true, recurses := true, apart := false }
def FnTaskFetchesSaid : Prop := fnTaskFetchesRow.holds Try.pinned (OpenSpec.ofChange fnTaskFetchesSpec)

/-- ITS FALSE NEIGHBOUR: 'it returns false'. Refute it at one input. -/
def fnTaskFetchesWrong : ChangeSpec := { name := "fnTaskFetches", fn := fun _ => fun
  | [d] => { results := [.lit (.bool false)], args := [d] }
  | _ => none }
def FnTaskFetchesWrongFalsely : Prop := fnTaskFetchesRow.holds Try.pinned (OpenSpec.ofChange fnTaskFetchesWrong)

/-- 'laws.FnTaskUses': WHATEVER THE INPUT: true; the input reads as it did. -/
def fnTaskUsesSpec : ChangeSpec := { name := "fnTaskUses", fn := fun _ => fun
  | [d] => { results := [.lit (.bool true)], args := [d] }
  | _ => none }
def fnTaskUsesRow : OpenClaim := { program := "ytmbgglmnbllpjaa", sum := "b4efa7f436f0398b62001eff5e7f8292b8acd04605e89004da53b153e2718780", func := "loop.example/buildroads/laws.FnTaskUses", spec := "fnTaskUses", unfollowed := true, recurses := true, apart := false }
def FnTaskUsesSaid : Prop := fnTaskUsesRow.holds Try.pinned (OpenSpec.ofChange fnTaskUsesSpec)

/-- ITS FALSE NEIGHBOUR: 'it returns false'. Refute it at one input. -/
def fnTaskUsesWrong : ChangeSpec := { name := "fnTaskUses", fn := fun _ => fun
  | [d] => { results := [.lit (.bool false)], args := [d] }
  | _ => none }
def FnTaskUsesWrongFalsely : Prop := fnTaskUsesRow.holds Try.pinned (OpenSpec.ofChange fnTaskUsesWrong)

/-- 'laws.FnTaskSame': WHATEVER THE INPUT: true; the input reads as it did. -/
def fnTaskSameSpec : ChangeSpec := { name := "fnTaskSame", fn := fun _ => fun
  | [d] => { results := [.lit (.bool true)], args := [d] }
  | _ => none }
def fnTaskSameRow : OpenClaim := { program := "ytmbgglmnbllpjaa", sum := "b4efa7f436f0398b62001eff5e7f8292b8acd04605e89004da53b153e2718780", func := "loop.example/buildroads/laws.FnTaskSame", spec := "fnTaskSame", unfollowed := true, recurses := true, apart := false }
def FnTaskSameSaid : Prop := fnTaskSameRow.holds Try.pinned (OpenSpec.ofChange fnTaskSameSpec)

/-- ITS FALSE NEIGHBOUR: 'it returns false'. Refute it at one input. -/
def fnTaskSameWrong : ChangeSpec := { name := "fnTaskSame", fn := fun _ => fun
  | [d] => { results := [.lit (.bool false)], args := [d] }
  | _ => none }
def FnTaskSameWrongFalsely : Prop := fnTaskSameRow.holds Try.pinned (OpenSpec.ofChange fnTaskSameWrong)

/-- 'laws.FnBuildKey': WHATEVER THE INPUT: true; the input reads as it did. -/
def fnBuildKeySpec : ChangeSpec := { name := "fnBuildKey", fn := fun _ => fun
  | [d] => { results := [.lit (.bool true)], args := [d] }
  | _ => none }
def fnBuildKeyRow : OpenClaim := { program := "ytmbgglmnbllpjaa", sum := "b4efa7f436f0398b62001eff5e7f8292b8acd04605e89004da53b153e2718780", func := "loop.example/buildroads/laws.FnBuildKey", spec := "fnBuildKey", unfollowed := true, recurses := true, apart := false }
def FnBuildKeySaid : Prop := fnBuildKeyRow.holds Try.pinned (OpenSpec.ofChange fnBuildKeySpec)

/-- ITS FALSE NEIGHBOUR: 'it returns false'. Refute it at one input. -/
def fnBuildKeyWrong : ChangeSpec := { name := "fnBuildKey", fn := fun _ => fun
  | [d] => { results := [.lit (.bool false)], args := [d] }
  | _ => none }
def FnBuildKeyWrongFalsely : Prop := fnBuildKeyRow.holds Try.pinned (OpenSpec.ofChange fnBuildKeyWrong)

/-- 'laws.FnBuildAll': WHATEVER THE INPUT: true; the input reads as it did. -/
def fnBuildAllSpec : ChangeSpec := { name := "fnBuildAll", fn := fun _ => fun
  | [d] => { results := [.lit (.bool true)], args := [d] }
  | _ => none }
def fnBuildAllRow : OpenClaim := { program := "ytmbgglmnbllpjaa", sum := "b4efa7f436f0398b62001eff5e7f8292b8acd04605e89004da53b153e2718780", func := "loop.example/buildroads/laws.FnBuildAll", spec := "fnBuildAll", unfollowed := true, recurses := true, apart := false }
def FnBuildAllSaid : Prop := fnBuildAllRow.holds Try.pinned (OpenSpec.ofChange fnBuildAllSpec)

/-- ITS FALSE NEIGHBOUR: 'it returns false'. Refute it at one input. -/
def fnBuildAllWrong : ChangeSpec := { name := "fnBuildAll", fn := fun _ => fun
  | [d] => { results := [.lit (.bool false)], args := [d] }
  | _ => none }
def FnBuildAllWrongFalsely : Prop := fnBuildAllRow.holds Try.pinned (OpenSpec.ofChange fnBuildAllWrong)

/-- 'laws.FnCircleOf': WHATEVER THE INPUT: true; the input reads as it did. -/
def fnCircleOfSpec : ChangeSpec := { name := "fnCircleOf", fn := fun _ => fun
  | [d] => { results := [.lit (.bool true)], args := [d] }
  | _ => none }
def fnCircleOfRow : OpenClaim := { program := "ytmbgglmnbllpjaa", sum := "b4efa7f436f0398b62001eff5e7f8292b8acd04605e89004da53b153e2718780", func := "loop.example/buildroads/laws.FnCircleOf", spec := "fnCircleOf", unfollowed := true, recurses := true, apart := false }
def FnCircleOfSaid : Prop := fnCircleOfRow.holds Try.pinned (OpenSpec.ofChange fnCircleOfSpec)

/-- ITS FALSE NEIGHBOUR: 'it returns false'. Refute it at one input. -/
def fnCircleOfWrong : ChangeSpec := { name := "fnCircleOf", fn := fun _ => fun
  | [d] => { results := [.lit (.bool false)], args := [d] }
  | _ => none }
def FnCircleOfWrongFalsely : Prop := fnCircleOfRow.holds Try.pinned (OpenSpec.ofChange fnCircleOfWrong)

/-- 'laws.FnSheetSafe': WHATEVER THE INPUT: true; the input reads as it did. -/
def fnSheetSafeSpec : ChangeSpec := { name := "fnSheetSafe", fn := fun _ => fun
  | [d] => { results := [.lit (.bool true)], args := [d] }
  | _ => none }
def fnSheetSafeRow : OpenClaim := { program := "ytmbgglmnbllpjaa", sum := "b4efa7f436f0398b62001eff5e7f8292b8acd04605e89004da53b153e2718780", func := "loop.example/buildroads/laws.FnSheetSafe", spec := "fnSheetSafe", unfollowed := true, recurses := true, apart := false }
def FnSheetSafeSaid : Prop := fnSheetSafeRow.holds Try.pinned (OpenSpec.ofChange fnSheetSafeSpec)

/-- ITS FALSE NEIGHBOUR: 'it returns false'. Refute it at one input. -/
def fnSheetSafeWrong : ChangeSpec := { name := "fnSheetSafe", fn := fun _ => fun
  | [d] => { results := [.lit (.bool false)], args := [d] }
  | _ => none }
def FnSheetSafeWrongFalsely : Prop := fnSheetSafeRow.holds Try.pinned (OpenSpec.ofChange fnSheetSafeWrong)

/-- 'laws.FnOrderRestart': WHATEVER THE INPUT: true; the input reads as it did. -/
def fnOrderRestartSpec : ChangeSpec := { name := "fnOrderRestart", fn := fun _ => fun
  | [d] => { results := [.lit (.bool true)], args := [d] }
  | _ => none }
def fnOrderRestartRow : OpenClaim := { program := "ytmbgglmnbllpjaa", sum := "b4efa7f436f0398b62001eff5e7f8292b8acd04605e89004da53b153e2718780", func := "loop.example/buildroads/laws.FnOrderRestart", spec := "fnOrderRestart", unfollowed := true, recurses := true, apart := false }
def FnOrderRestartSaid : Prop := fnOrderRestartRow.holds Try.pinned (OpenSpec.ofChange fnOrderRestartSpec)

/-- ITS FALSE NEIGHBOUR: 'it returns false'. Refute it at one input. -/
def fnOrderRestartWrong : ChangeSpec := { name := "fnOrderRestart", fn := fun _ => fun
  | [d] => { results := [.lit (.bool false)], args := [d] }
  | _ => none }
def FnOrderRestartWrongFalsely : Prop := fnOrderRestartRow.holds Try.pinned (OpenSpec.ofChange fnOrderRestartWrong)

/-- 'laws.FnOrderFits': WHATEVER THE INPUT: true; the input reads as it did. -/
def fnOrderFitsSpec : ChangeSpec := { name := "fnOrderFits", fn := fun _ => fun
  | [d] => { results := [.lit (.bool true)], args := [d] }
  | _ => none }
def fnOrderFitsRow : OpenClaim := { program := "ytmbgglmnbllpjaa", sum := "b4efa7f436f0398b62001eff5e7f8292b8acd04605e89004da53b153e2718780", func := "loop.example/buildroads/laws.FnOrderFits", spec := "fnOrderFits", unfollowed := true, recurses := true, apart := false }
def FnOrderFitsSaid : Prop := fnOrderFitsRow.holds Try.pinned (OpenSpec.ofChange fnOrderFitsSpec)

/-- ITS FALSE NEIGHBOUR: 'it returns false'. Refute it at one input. -/
def fnOrderFitsWrong : ChangeSpec := { name := "fnOrderFits", fn := fun _ => fun
  | [d] => { results := [.lit (.bool false)], args := [d] }
  | _ => none }
def FnOrderFitsWrongFalsely : Prop := fnOrderFitsRow.holds Try.pinned (OpenSpec.ofChange fnOrderFitsWrong)

/- THE SECOND FORM. 'bulk': how many values and letters a reading holds, each counted each time it is reached (what is shared counts as often as it is met; a slice's spare places count too). A statement '..UptoSaid' is the law's where the arguments, and the package variables that the reading takes, are together of bulk at most 1048576: NARROWER than '..Said'. Prove '..Said' where nothing that the law and all that it calls make is longer than what came in: it says more and counts as full. Else prove '..UptoSaid'. A law counts once. -/
mutual
def uptoBulk {H : Type} : DataW H → Nat
  | .lit (.string bytes) => bytes.length + 1
  | .lit _ => 1
  | .nil => 1
  | .ptr d => uptoBulk d + 1
  | .slice elems spare => uptoBulkAll elems + uptoBulkAll spare + 1
  | .agg parts => uptoBulkAll parts + 1
  | .iface _ d => uptoBulk d + 1
  | .map entries => uptoBulkEntries entries + 1
  | .held _ => 1
def uptoBulkAll {H : Type} : List (DataW H) → Nat
  | [] => 0
  | d :: r => uptoBulk d + uptoBulkAll r
def uptoBulkEntries {H : Type} : List (Lit × DataW H) → Nat
  | [] => 0
  | x :: r => uptoBulkEntry x + uptoBulkEntries r
def uptoBulkEntry {H : Type} : Lit × DataW H → Nat
  | (.string bytes, d) => bytes.length + uptoBulk d + 1
  | (_, d) => uptoBulk d + 1
 end
def uptoSmall : (H : Type) → List (DataW H) → Bool := fun _ ds => decide (uptoBulkAll ds ≤ 1048576)
def OpenSpec.upto (s : _root_.Go.ChangeSpec) : _root_.Go.OpenSpec := { _root_.Go.OpenSpec.ofChange s with cond := some uptoSmall }

/-- 'laws.FnTaskFixed', WHERE WHAT IT READS IS OF BULK AT MOST 1048576: true; the input reads as it did. -/
def fnTaskFixedUptoRow : OpenClaim := { program := "ytmbgglmnbllpjaa", sum := "b4efa7f436f0398b62001eff5e7f8292b8acd04605e89004da53b153e2718780", func := "loop.example/buildroads/laws.FnTaskFixed", spec := "fnTaskFixed", unfollowed := true, recurses := true, apart := false, narrowed := true }
def FnTaskFixedUptoSaid : Prop := fnTaskFixedUptoRow.holds Try.pinned (OpenSpec.upto fnTaskFixedSpec)

/-- 'laws.FnTaskValue', WHERE WHAT IT READS IS OF BULK AT MOST 1048576: true; the input reads as it did. -/
def fnTaskValueUptoRow : OpenClaim := { program := "ytmbgglmnbllpjaa", sum := "b4efa7f436f0398b62001eff5e7f8292b8acd04605e89004da53b153e2718780", func := "loop.example/buildroads/laws.FnTaskValue", spec := "fnTaskValue", unfollowed := true, recurses := true, apart := false, narrowed := true }
def FnTaskValueUptoSaid : Prop := fnTaskValueUptoRow.holds Try.pinned (OpenSpec.upto fnTaskValueSpec)

/-- 'laws.FnTaskFetches', WHERE WHAT IT READS IS OF BULK AT MOST 1048576: true; the input reads as it did. -/
def fnTaskFetchesUptoRow : OpenClaim := { program := "ytmbgglmnbllpjaa", sum := "b4efa7f436f0398b62001eff5e7f8292b8acd04605e89004da53b153e2718780", func := "loop.example/buildroads/laws.FnTaskFetches", spec := "fnTaskFetches", unfollowed := true, recurses := true, apart := false, narrowed := true }
def FnTaskFetchesUptoSaid : Prop := fnTaskFetchesUptoRow.holds Try.pinned (OpenSpec.upto fnTaskFetchesSpec)

/-- 'laws.FnTaskUses', WHERE WHAT IT READS IS OF BULK AT MOST 1048576: true; the input reads as it did. -/
def fnTaskUsesUptoRow : OpenClaim := { program := "ytmbgglmnbllpjaa", sum := "b4efa7f436f0398b62001eff5e7f8292b8acd04605e89004da53b153e2718780", func := "loop.example/buildroads/laws.FnTaskUses", spec := "fnTaskUses", unfollowed := true, recurses := true, apart := false, narrowed := true }
def FnTaskUsesUptoSaid : Prop := fnTaskUsesUptoRow.holds Try.pinned (OpenSpec.upto fnTaskUsesSpec)

/-- 'laws.FnTaskSame', WHERE WHAT IT READS IS OF BULK AT MOST 1048576: true; the input reads as it did. -/
def fnTaskSameUptoRow : OpenClaim := { program := "ytmbgglmnbllpjaa", sum := "b4efa7f436f0398b62001eff5e7f8292b8acd04605e89004da53b153e2718780", func := "loop.example/buildroads/laws.FnTaskSame", spec := "fnTaskSame", unfollowed := true, recurses := true, apart := false, narrowed := true }
def FnTaskSameUptoSaid : Prop := fnTaskSameUptoRow.holds Try.pinned (OpenSpec.upto fnTaskSameSpec)

/-- 'laws.FnBuildKey', WHERE WHAT IT READS IS OF BULK AT MOST 1048576: true; the input reads as it did. -/
def fnBuildKeyUptoRow : OpenClaim := { program := "ytmbgglmnbllpjaa", sum := "b4efa7f436f0398b62001eff5e7f8292b8acd04605e89004da53b153e2718780", func := "loop.example/buildroads/laws.FnBuildKey", spec := "fnBuildKey", unfollowed := true, recurses := true, apart := false, narrowed := true }
def FnBuildKeyUptoSaid : Prop := fnBuildKeyUptoRow.holds Try.pinned (OpenSpec.upto fnBuildKeySpec)

/-- 'laws.FnBuildAll', WHERE WHAT IT READS IS OF BULK AT MOST 1048576: true; the input reads as it did. -/
def fnBuildAllUptoRow : OpenClaim := { program := "ytmbgglmnbllpjaa", sum := "b4efa7f436f0398b62001eff5e7f8292b8acd04605e89004da53b153e2718780", func := "loop.example/buildroads/laws.FnBuildAll", spec := "fnBuildAll", unfollowed := true, recurses := true, apart := false, narrowed := true }
def FnBuildAllUptoSaid : Prop := fnBuildAllUptoRow.holds Try.pinned (OpenSpec.upto fnBuildAllSpec)

/-- 'laws.FnCircleOf', WHERE WHAT IT READS IS OF BULK AT MOST 1048576: true; the input reads as it did. -/
def fnCircleOfUptoRow : OpenClaim := { program := "ytmbgglmnbllpjaa", sum := "b4efa7f436f0398b62001eff5e7f8292b8acd04605e89004da53b153e2718780", func := "loop.example/buildroads/laws.FnCircleOf", spec := "fnCircleOf", unfollowed := true, recurses := true, apart := false, narrowed := true }
def FnCircleOfUptoSaid : Prop := fnCircleOfUptoRow.holds Try.pinned (OpenSpec.upto fnCircleOfSpec)

/-- 'laws.FnSheetSafe', WHERE WHAT IT READS IS OF BULK AT MOST 1048576: true; the input reads as it did. -/
def fnSheetSafeUptoRow : OpenClaim := { program := "ytmbgglmnbllpjaa", sum := "b4efa7f436f0398b62001eff5e7f8292b8acd04605e89004da53b153e2718780", func := "loop.example/buildroads/laws.FnSheetSafe", spec := "fnSheetSafe", unfollowed := true, recurses := true, apart := false, narrowed := true }
def FnSheetSafeUptoSaid : Prop := fnSheetSafeUptoRow.holds Try.pinned (OpenSpec.upto fnSheetSafeSpec)

/-- 'laws.FnOrderRestart', WHERE WHAT IT READS IS OF BULK AT MOST 1048576: true; the input reads as it did. -/
def fnOrderRestartUptoRow : OpenClaim := { program := "ytmbgglmnbllpjaa", sum := "b4efa7f436f0398b62001eff5e7f8292b8acd04605e89004da53b153e2718780", func := "loop.example/buildroads/laws.FnOrderRestart", spec := "fnOrderRestart", unfollowed := true, recurses := true, apart := false, narrowed := true }
def FnOrderRestartUptoSaid : Prop := fnOrderRestartUptoRow.holds Try.pinned (OpenSpec.upto fnOrderRestartSpec)

/-- 'laws.FnOrderFits', WHERE WHAT IT READS IS OF BULK AT MOST 1048576: true; the input reads as it did. -/
def fnOrderFitsUptoRow : OpenClaim := { program := "ytmbgglmnbllpjaa", sum := "b4efa7f436f0398b62001eff5e7f8292b8acd04605e89004da53b153e2718780", func := "loop.example/buildroads/laws.FnOrderFits", spec := "fnOrderFits", unfollowed := true, recurses := true, apart := false, narrowed := true }
def FnOrderFitsUptoSaid : Prop := fnOrderFitsUptoRow.holds Try.pinned (OpenSpec.upto fnOrderFitsSpec)

end Rows
end Go.Proofs.Ytmbgglmnbllpjaa
