/-
  NARROWER THAN 'FOR EVERY INPUT', by the rows' own cells (each row's printed sentence says how): FnExactTaskValue: loops · FnExactTaskFetches: loops · FnExactTaskUses: loops · FnExactTaskMay: loops · FnExactTaskSame: loops.
  DERIVED. THE GIVEN ROWS OF THIS SEAT. 12 by the template 'for every input the law returns true; each argument reads behind the call as it read before'; 0 by the template 'total and deterministic' (their statements: YtgcjnhlppapfdaaTotals.lean).
  GIVEN WITH THE SEED: the statements are not yours to turn. If you find one false, say at which input.
  Laid BY PROGRAM, IN A SANDBOX (cutbox-rows.mjs): the forced cells as the released guide's own fill.sh prints them over the translation 2f8c794d9c4be570… (all of the seat's roots in one cut). By AI agents, Wed Nov 11 2026. No macro, syntax, notation, axiom, sorry.
-/
import Derived.Test.YtgcjnhlppapfdaaChecked
import GoSem.Claim
import GoSem.ClaimJoined
import GoSem.ClaimMapViews
import Derived.JoinedTies
import Derived.KernelRfl
namespace Go.Proofs.Ytgcjnhlppapfdaa
/- THE CELL 'sum', in the pinned program and in every row, IS THE sha256 OF THE DUMP (.gsa) THAT YtgcjnhlppapfdaaProg.lean LOADS. Nothing in Lean hashes anything: it is a label: what it is worth is what the hold of that sum in a sandbox is worth. -/
noncomputable def Try.pinned : Pinned := { name := "ytgcjnhlppapfdaa", sum := "2f8c794d9c4be5702bbd32084b59dc0bd631b68fca8025f9abeadef315795d3d", checked := Try.checked }
namespace Rows
def none {H : Type} : Left H := { results := [], args := [] }

/-- 'laws.FnTaskFixed': WHATEVER THE INPUT: true; the input reads as it did. -/
def fnTaskFixedSpec : ChangeSpec := { name := "fnTaskFixed", fn := fun _ => fun
  | [d] => { results := [.lit (.bool true)], args := [d] }
  | _ => none }
def fnTaskFixedRow : OpenClaim := { program := "ytgcjnhlppapfdaa", sum := "2f8c794d9c4be5702bbd32084b59dc0bd631b68fca8025f9abeadef315795d3d", func := "loop.example/buildroads/laws.FnTaskFixed", spec := "fnTaskFixed", unfollowed := true, recurses := true, apart := false }
def FnTaskFixedSaid : Prop := fnTaskFixedRow.holds Try.pinned (OpenSpec.ofChange fnTaskFixedSpec)

/-- ITS FALSE NEIGHBOUR: 'it returns false'. Refute it at one input. -/
def fnTaskFixedWrong : ChangeSpec := { name := "fnTaskFixed", fn := fun _ => fun
  | [d] => { results := [.lit (.bool false)], args := [d] }
  | _ => none }
def FnTaskFixedWrongFalsely : Prop := fnTaskFixedRow.holds Try.pinned (OpenSpec.ofChange fnTaskFixedWrong)

/-- 'laws.FnTaskValue': WHATEVER THE INPUT: true; the input reads as it did. -/
def fnTaskValueSpec : ChangeSpec := { name := "fnTaskValue", fn := fun _ => fun
  | [d] => { results := [.lit (.bool true)], args := [d] }
  | _ => none }
def fnTaskValueRow : OpenClaim := { program := "ytgcjnhlppapfdaa", sum := "2f8c794d9c4be5702bbd32084b59dc0bd631b68fca8025f9abeadef315795d3d", func := "loop.example/buildroads/laws.FnTaskValue", spec := "fnTaskValue", unfollowed := true, recurses := true, apart := false }
def FnTaskValueSaid : Prop := fnTaskValueRow.holds Try.pinned (OpenSpec.ofChange fnTaskValueSpec)

/-- ITS FALSE NEIGHBOUR: 'it returns false'. Refute it at one input. -/
def fnTaskValueWrong : ChangeSpec := { name := "fnTaskValue", fn := fun _ => fun
  | [d] => { results := [.lit (.bool false)], args := [d] }
  | _ => none }
def FnTaskValueWrongFalsely : Prop := fnTaskValueRow.holds Try.pinned (OpenSpec.ofChange fnTaskValueWrong)

/-- 'laws.FnTaskFetches': WHATEVER THE INPUT: true; the input reads as it did. -/
def fnTaskFetchesSpec : ChangeSpec := { name := "fnTaskFetches", fn := fun _ => fun
  | [d] => { results := [.lit (.bool true)], args := [d] }
  | _ => none }
def fnTaskFetchesRow : OpenClaim := { program := "ytgcjnhlppapfdaa", sum := "2f8c794d9c4be5702bbd32084b59dc0bd631b68fca8025f9abeadef315795d3d", func := "loop.example/buildroads/laws.FnTaskFetches", spec := "fnTaskFetches", unfollowed := true, recurses := true, apart := false }
def FnTaskFetchesSaid : Prop := fnTaskFetchesRow.holds Try.pinned (OpenSpec.ofChange fnTaskFetchesSpec)

/-- ITS FALSE NEIGHBOUR: 'it returns false'. Refute it at one input. -/
def fnTaskFetchesWrong : ChangeSpec := { name := "fnTaskFetches", fn := fun _ => fun
  | [d] => { results := [.lit (.bool false)], args := [d] }
  | _ => none }
def FnTaskFetchesWrongFalsely : Prop := fnTaskFetchesRow.holds Try.pinned (OpenSpec.ofChange fnTaskFetchesWrong)

/-- 'laws.FnTaskUses': WHATEVER THE INPUT: true; the input reads as it did. -/
def fnTaskUsesSpec : ChangeSpec := { name := "fnTaskUses", fn := fun _ => fun
  | [d] => { results := [.lit (.bool true)], args := [d] }
  | _ => none }
def fnTaskUsesRow : OpenClaim := { program := "ytgcjnhlppapfdaa", sum := "2f8c794d9c4be5702bbd32084b59dc0bd631b68fca8025f9abeadef315795d3d", func := "loop.example/buildroads/laws.FnTaskUses", spec := "fnTaskUses", unfollowed := true, recurses := true, apart := false }
def FnTaskUsesSaid : Prop := fnTaskUsesRow.holds Try.pinned (OpenSpec.ofChange fnTaskUsesSpec)

/-- ITS FALSE NEIGHBOUR: 'it returns false'. Refute it at one input. -/
def fnTaskUsesWrong : ChangeSpec := { name := "fnTaskUses", fn := fun _ => fun
  | [d] => { results := [.lit (.bool false)], args := [d] }
  | _ => none }
def FnTaskUsesWrongFalsely : Prop := fnTaskUsesRow.holds Try.pinned (OpenSpec.ofChange fnTaskUsesWrong)

/-- 'laws.FnTaskMay': WHATEVER THE INPUT: true; the input reads as it did. -/
def fnTaskMaySpec : ChangeSpec := { name := "fnTaskMay", fn := fun _ => fun
  | [d] => { results := [.lit (.bool true)], args := [d] }
  | _ => none }
def fnTaskMayRow : OpenClaim := { program := "ytgcjnhlppapfdaa", sum := "2f8c794d9c4be5702bbd32084b59dc0bd631b68fca8025f9abeadef315795d3d", func := "loop.example/buildroads/laws.FnTaskMay", spec := "fnTaskMay", recurses := true, apart := false }
def FnTaskMaySaid : Prop := fnTaskMayRow.holds Try.pinned (OpenSpec.ofChange fnTaskMaySpec)

/-- ITS FALSE NEIGHBOUR: 'it returns false'. Refute it at one input. -/
def fnTaskMayWrong : ChangeSpec := { name := "fnTaskMay", fn := fun _ => fun
  | [d] => { results := [.lit (.bool false)], args := [d] }
  | _ => none }
def FnTaskMayWrongFalsely : Prop := fnTaskMayRow.holds Try.pinned (OpenSpec.ofChange fnTaskMayWrong)

/-- 'laws.FnTaskSame': WHATEVER THE INPUT: true; the input reads as it did. -/
def fnTaskSameSpec : ChangeSpec := { name := "fnTaskSame", fn := fun _ => fun
  | [d] => { results := [.lit (.bool true)], args := [d] }
  | _ => none }
def fnTaskSameRow : OpenClaim := { program := "ytgcjnhlppapfdaa", sum := "2f8c794d9c4be5702bbd32084b59dc0bd631b68fca8025f9abeadef315795d3d", func := "loop.example/buildroads/laws.FnTaskSame", spec := "fnTaskSame", unfollowed := true, recurses := true, apart := false }
def FnTaskSameSaid : Prop := fnTaskSameRow.holds Try.pinned (OpenSpec.ofChange fnTaskSameSpec)

/-- ITS FALSE NEIGHBOUR: 'it returns false'. Refute it at one input. -/
def fnTaskSameWrong : ChangeSpec := { name := "fnTaskSame", fn := fun _ => fun
  | [d] => { results := [.lit (.bool false)], args := [d] }
  | _ => none }
def FnTaskSameWrongFalsely : Prop := fnTaskSameRow.holds Try.pinned (OpenSpec.ofChange fnTaskSameWrong)

/-- 'laws.FnExactTaskRead': WHATEVER THE INPUT: true; the input reads as it did. -/
def fnExactTaskReadSpec : ChangeSpec := { name := "fnExactTaskRead", fn := fun _ => fun
  | [d] => { results := [.lit (.bool true)], args := [d] }
  | _ => none }
def fnExactTaskReadRow : OpenClaim := { program := "ytgcjnhlppapfdaa", sum := "2f8c794d9c4be5702bbd32084b59dc0bd631b68fca8025f9abeadef315795d3d", func := "loop.example/buildroads/laws.FnExactTaskRead", spec := "fnExactTaskRead", recurses := true, apart := false }
def FnExactTaskReadSaid : Prop := fnExactTaskReadRow.holds Try.pinned (OpenSpec.ofChange fnExactTaskReadSpec)

/-- ITS FALSE NEIGHBOUR: 'it returns false'. Refute it at one input. -/
def fnExactTaskReadWrong : ChangeSpec := { name := "fnExactTaskRead", fn := fun _ => fun
  | [d] => { results := [.lit (.bool false)], args := [d] }
  | _ => none }
def FnExactTaskReadWrongFalsely : Prop := fnExactTaskReadRow.holds Try.pinned (OpenSpec.ofChange fnExactTaskReadWrong)

/-- 'laws.FnExactTaskValue': WHATEVER THE INPUT: true; the input reads as it did. -/
def fnExactTaskValueSpec : ChangeSpec := { name := "fnExactTaskValue", fn := fun _ => fun
  | [d1, d2] => { results := [.lit (.bool true)], args := [d1, d2] }
  | _ => none }
def fnExactTaskValueRow : OpenClaim := { program := "ytgcjnhlppapfdaa", sum := "2f8c794d9c4be5702bbd32084b59dc0bd631b68fca8025f9abeadef315795d3d", func := "loop.example/buildroads/laws.FnExactTaskValue", spec := "fnExactTaskValue", unfollowed := true, recurses := true, loops := true, apart := false }
def FnExactTaskValueSaid : Prop := fnExactTaskValueRow.holds Try.pinned (OpenSpec.ofChange fnExactTaskValueSpec)

/-- ITS FALSE NEIGHBOUR: 'it returns false'. Refute it at one input. -/
def fnExactTaskValueWrong : ChangeSpec := { name := "fnExactTaskValue", fn := fun _ => fun
  | [d1, d2] => { results := [.lit (.bool false)], args := [d1, d2] }
  | _ => none }
def FnExactTaskValueWrongFalsely : Prop := fnExactTaskValueRow.holds Try.pinned (OpenSpec.ofChange fnExactTaskValueWrong)

/-- 'laws.FnExactTaskFetches': WHATEVER THE INPUT: true; the input reads as it did. -/
def fnExactTaskFetchesSpec : ChangeSpec := { name := "fnExactTaskFetches", fn := fun _ => fun
  | [d1, d2] => { results := [.lit (.bool true)], args := [d1, d2] }
  | _ => none }
def fnExactTaskFetchesRow : OpenClaim := { program := "ytgcjnhlppapfdaa", sum := "2f8c794d9c4be5702bbd32084b59dc0bd631b68fca8025f9abeadef315795d3d", func := "loop.example/buildroads/laws.FnExactTaskFetches", spec := "fnExactTaskFetches", unfollowed := true, recurses := true, loops := true, apart := false }
def FnExactTaskFetchesSaid : Prop := fnExactTaskFetchesRow.holds Try.pinned (OpenSpec.ofChange fnExactTaskFetchesSpec)

/-- ITS FALSE NEIGHBOUR: 'it returns false'. Refute it at one input. -/
def fnExactTaskFetchesWrong : ChangeSpec := { name := "fnExactTaskFetches", fn := fun _ => fun
  | [d1, d2] => { results := [.lit (.bool false)], args := [d1, d2] }
  | _ => none }
def FnExactTaskFetchesWrongFalsely : Prop := fnExactTaskFetchesRow.holds Try.pinned (OpenSpec.ofChange fnExactTaskFetchesWrong)

/-- 'laws.FnExactTaskUses': WHATEVER THE INPUT: true; the input reads as it did. -/
def fnExactTaskUsesSpec : ChangeSpec := { name := "fnExactTaskUses", fn := fun _ => fun
  | [d1, d2] => { results := [.lit (.bool true)], args := [d1, d2] }
  | _ => none }
def fnExactTaskUsesRow : OpenClaim := { program := "ytgcjnhlppapfdaa", sum := "2f8c794d9c4be5702bbd32084b59dc0bd631b68fca8025f9abeadef315795d3d", func := "loop.example/buildroads/laws.FnExactTaskUses", spec := "fnExactTaskUses", unfollowed := true, recurses := true, loops := true, apart := false }
def FnExactTaskUsesSaid : Prop := fnExactTaskUsesRow.holds Try.pinned (OpenSpec.ofChange fnExactTaskUsesSpec)

/-- ITS FALSE NEIGHBOUR: 'it returns false'. Refute it at one input. -/
def fnExactTaskUsesWrong : ChangeSpec := { name := "fnExactTaskUses", fn := fun _ => fun
  | [d1, d2] => { results := [.lit (.bool false)], args := [d1, d2] }
  | _ => none }
def FnExactTaskUsesWrongFalsely : Prop := fnExactTaskUsesRow.holds Try.pinned (OpenSpec.ofChange fnExactTaskUsesWrong)

/-- 'laws.FnExactTaskMay': WHATEVER THE INPUT: true; the input reads as it did. -/
def fnExactTaskMaySpec : ChangeSpec := { name := "fnExactTaskMay", fn := fun _ => fun
  | [d] => { results := [.lit (.bool true)], args := [d] }
  | _ => none }
def fnExactTaskMayRow : OpenClaim := { program := "ytgcjnhlppapfdaa", sum := "2f8c794d9c4be5702bbd32084b59dc0bd631b68fca8025f9abeadef315795d3d", func := "loop.example/buildroads/laws.FnExactTaskMay", spec := "fnExactTaskMay", recurses := true, loops := true, apart := false }
def FnExactTaskMaySaid : Prop := fnExactTaskMayRow.holds Try.pinned (OpenSpec.ofChange fnExactTaskMaySpec)

/-- ITS FALSE NEIGHBOUR: 'it returns false'. Refute it at one input. -/
def fnExactTaskMayWrong : ChangeSpec := { name := "fnExactTaskMay", fn := fun _ => fun
  | [d] => { results := [.lit (.bool false)], args := [d] }
  | _ => none }
def FnExactTaskMayWrongFalsely : Prop := fnExactTaskMayRow.holds Try.pinned (OpenSpec.ofChange fnExactTaskMayWrong)

/-- 'laws.FnExactTaskSame': WHATEVER THE INPUT: true; the input reads as it did. -/
def fnExactTaskSameSpec : ChangeSpec := { name := "fnExactTaskSame", fn := fun _ => fun
  | [d1, d2, d3] => { results := [.lit (.bool true)], args := [d1, d2, d3] }
  | _ => none }
def fnExactTaskSameRow : OpenClaim := { program := "ytgcjnhlppapfdaa", sum := "2f8c794d9c4be5702bbd32084b59dc0bd631b68fca8025f9abeadef315795d3d", func := "loop.example/buildroads/laws.FnExactTaskSame", spec := "fnExactTaskSame", unfollowed := true, recurses := true, loops := true, apart := false }
def FnExactTaskSameSaid : Prop := fnExactTaskSameRow.holds Try.pinned (OpenSpec.ofChange fnExactTaskSameSpec)

/-- ITS FALSE NEIGHBOUR: 'it returns false'. Refute it at one input. -/
def fnExactTaskSameWrong : ChangeSpec := { name := "fnExactTaskSame", fn := fun _ => fun
  | [d1, d2, d3] => { results := [.lit (.bool false)], args := [d1, d2, d3] }
  | _ => none }
def FnExactTaskSameWrongFalsely : Prop := fnExactTaskSameRow.holds Try.pinned (OpenSpec.ofChange fnExactTaskSameWrong)

/- THE SECOND FORM. 'bulk': how many values and letters a reading holds, each counted each time it is reached (what is shared counts as often as it is met; a slice's spare places count too). A statement '..UptoSaid' is the law's where the arguments, and the package variables that the reading takes, are together of bulk at most 1048576: NARROWER than '..Said'. Prove '..Said' where nothing that the law and all that it calls make is longer than what came in: it says more and counts as full. Else prove '..UptoSaid'. A law counts once. -/
mutual
def uptoBulk {H : Type} : DataW H → Nat
  | .lit (.string bytes) => bytes.length + 1
  | .lit _ => 1
  | .nil => 1
  | .ptr d => uptoBulk d + 1
  | .slice elems spare => uptoBulkAll elems + uptoBulkAll spare + 1
  | .agg parts => uptoBulkAll parts + 1
  | .iface _ d => uptoBulk d + 1
  | .map entries => uptoBulkEntries entries + 1
  | .held _ => 1
def uptoBulkAll {H : Type} : List (DataW H) → Nat
  | [] => 0
  | d :: r => uptoBulk d + uptoBulkAll r
def uptoBulkEntries {H : Type} : List (Lit × DataW H) → Nat
  | [] => 0
  | x :: r => uptoBulkEntry x + uptoBulkEntries r
def uptoBulkEntry {H : Type} : Lit × DataW H → Nat
  | (.string bytes, d) => bytes.length + uptoBulk d + 1
  | (_, d) => uptoBulk d + 1
 end
def uptoSmall : (H : Type) → List (DataW H) → Bool := fun _ ds => decide (uptoBulkAll ds ≤ 1048576)
def OpenSpec.upto (s : _root_.Go.ChangeSpec) : _root_.Go.OpenSpec := { _root_.Go.OpenSpec.ofChange s with cond := some uptoSmall }

/-- 'laws.FnTaskFixed', WHERE WHAT IT READS IS OF BULK AT MOST 1048576: true; the input reads as it did. -/
def fnTaskFixedUptoRow : OpenClaim := { program := "ytgcjnhlppapfdaa", sum := "2f8c794d9c4be5702bbd32084b59dc0bd631b68fca8025f9abeadef315795d3d", func := "loop.example/buildroads/laws.FnTaskFixed", spec := "fnTaskFixed", unfollowed := true, recurses := true, apart := false, narrowed := true }
def FnTaskFixedUptoSaid : Prop := fnTaskFixedUptoRow.holds Try.pinned (OpenSpec.upto fnTaskFixedSpec)

/-- 'laws.FnTaskValue', WHERE WHAT IT READS IS OF BULK AT MOST 1048576: true; the input reads as it did. -/
def fnTaskValueUptoRow : OpenClaim := { program := "ytgcjnhlppapfdaa", sum := "2f8c794d9c4be5702bbd32084b59dc0bd631b68fca8025f9abeadef315795d3d", func := "loop.example/buildroads/laws.FnTaskValue", spec := "fnTaskValue", unfollowed := true, recurses := true, apart := false, narrowed := true }
def FnTaskValueUptoSaid : Prop := fnTaskValueUptoRow.holds Try.pinned (OpenSpec.upto fnTaskValueSpec)

/-- 'laws.FnTaskFetches', WHERE WHAT IT READS IS OF BULK AT MOST 1048576: true; the input reads as it did. -/
def fnTaskFetchesUptoRow : OpenClaim := { program := "ytgcjnhlppapfdaa", sum := "2f8c794d9c4be5702bbd32084b59dc0bd631b68fca8025f9abeadef315795d3d", func := "loop.example/buildroads/laws.FnTaskFetches", spec := "fnTaskFetches", unfollowed := true, recurses := true, apart := false, narrowed := true }
def FnTaskFetchesUptoSaid : Prop := fnTaskFetchesUptoRow.holds Try.pinned (OpenSpec.upto fnTaskFetchesSpec)

/-- 'laws.FnTaskUses', WHERE WHAT IT READS IS OF BULK AT MOST 1048576: true; the input reads as it did. -/
def fnTaskUsesUptoRow : OpenClaim := { program := "ytgcjnhlppapfdaa", sum := "2f8c794d9c4be5702bbd32084b59dc0bd631b68fca8025f9abeadef315795d3d", func := "loop.example/buildroads/laws.FnTaskUses", spec := "fnTaskUses", unfollowed := true, recurses := true, apart := false, narrowed := true }
def FnTaskUsesUptoSaid : Prop := fnTaskUsesUptoRow.holds Try.pinned (OpenSpec.upto fnTaskUsesSpec)

/-- 'laws.FnTaskMay', WHERE WHAT IT READS IS OF BULK AT MOST 1048576: true; the input reads as it did. -/
def fnTaskMayUptoRow : OpenClaim := { program := "ytgcjnhlppapfdaa", sum := "2f8c794d9c4be5702bbd32084b59dc0bd631b68fca8025f9abeadef315795d3d", func := "loop.example/buildroads/laws.FnTaskMay", spec := "fnTaskMay", recurses := true, apart := false, narrowed := true }
def FnTaskMayUptoSaid : Prop := fnTaskMayUptoRow.holds Try.pinned (OpenSpec.upto fnTaskMaySpec)

/-- 'laws.FnTaskSame', WHERE WHAT IT READS IS OF BULK AT MOST 1048576: true; the input reads as it did. -/
def fnTaskSameUptoRow : OpenClaim := { program := "ytgcjnhlppapfdaa", sum := "2f8c794d9c4be5702bbd32084b59dc0bd631b68fca8025f9abeadef315795d3d", func := "loop.example/buildroads/laws.FnTaskSame", spec := "fnTaskSame", unfollowed := true, recurses := true, apart := false, narrowed := true }
def FnTaskSameUptoSaid : Prop := fnTaskSameUptoRow.holds Try.pinned (OpenSpec.upto fnTaskSameSpec)

/-- 'laws.FnExactTaskRead', WHERE WHAT IT READS IS OF BULK AT MOST 1048576: true; the input reads as it did. -/
def fnExactTaskReadUptoRow : OpenClaim := { program := "ytgcjnhlppapfdaa", sum := "2f8c794d9c4be5702bbd32084b59dc0bd631b68fca8025f9abeadef315795d3d", func := "loop.example/buildroads/laws.FnExactTaskRead", spec := "fnExactTaskRead", recurses := true, apart := false, narrowed := true }
def FnExactTaskReadUptoSaid : Prop := fnExactTaskReadUptoRow.holds Try.pinned (OpenSpec.upto fnExactTaskReadSpec)

/-- 'laws.FnExactTaskValue', WHERE WHAT IT READS IS OF BULK AT MOST 1048576: true; the input reads as it did. -/
def fnExactTaskValueUptoRow : OpenClaim := { program := "ytgcjnhlppapfdaa", sum := "2f8c794d9c4be5702bbd32084b59dc0bd631b68fca8025f9abeadef315795d3d", func := "loop.example/buildroads/laws.FnExactTaskValue", spec := "fnExactTaskValue", unfollowed := true, recurses := true, loops := true, apart := false, narrowed := true }
def FnExactTaskValueUptoSaid : Prop := fnExactTaskValueUptoRow.holds Try.pinned (OpenSpec.upto fnExactTaskValueSpec)

/-- 'laws.FnExactTaskFetches', WHERE WHAT IT READS IS OF BULK AT MOST 1048576: true; the input reads as it did. -/
def fnExactTaskFetchesUptoRow : OpenClaim := { program := "ytgcjnhlppapfdaa", sum := "2f8c794d9c4be5702bbd32084b59dc0bd631b68fca8025f9abeadef315795d3d", func := "loop.example/buildroads/laws.FnExactTaskFetches", spec := "fnExactTaskFetches", unfollowed := true, recurses := true, loops := true, apart := false, narrowed := true }
def FnExactTaskFetchesUptoSaid : Prop := fnExactTaskFetchesUptoRow.holds Try.pinned (OpenSpec.upto fnExactTaskFetchesSpec)

/-- 'laws.FnExactTaskUses', WHERE WHAT IT READS IS OF BULK AT MOST 1048576: true; the input reads as it did. -/
def fnExactTaskUsesUptoRow : OpenClaim := { program := "ytgcjnhlppapfdaa", sum := "2f8c794d9c4be5702bbd32084b59dc0bd631b68fca8025f9abeadef315795d3d", func := "loop.example/buildroads/laws.FnExactTaskUses", spec := "fnExactTaskUses", unfollowed := true, recurses := true, loops := true, apart := false, narrowed := true }
def FnExactTaskUsesUptoSaid : Prop := fnExactTaskUsesUptoRow.holds Try.pinned (OpenSpec.upto fnExactTaskUsesSpec)

/-- 'laws.FnExactTaskMay', WHERE WHAT IT READS IS OF BULK AT MOST 1048576: true; the input reads as it did. -/
def fnExactTaskMayUptoRow : OpenClaim := { program := "ytgcjnhlppapfdaa", sum := "2f8c794d9c4be5702bbd32084b59dc0bd631b68fca8025f9abeadef315795d3d", func := "loop.example/buildroads/laws.FnExactTaskMay", spec := "fnExactTaskMay", recurses := true, loops := true, apart := false, narrowed := true }
def FnExactTaskMayUptoSaid : Prop := fnExactTaskMayUptoRow.holds Try.pinned (OpenSpec.upto fnExactTaskMaySpec)

/-- 'laws.FnExactTaskSame', WHERE WHAT IT READS IS OF BULK AT MOST 1048576: true; the input reads as it did. -/
def fnExactTaskSameUptoRow : OpenClaim := { program := "ytgcjnhlppapfdaa", sum := "2f8c794d9c4be5702bbd32084b59dc0bd631b68fca8025f9abeadef315795d3d", func := "loop.example/buildroads/laws.FnExactTaskSame", spec := "fnExactTaskSame", unfollowed := true, recurses := true, loops := true, apart := false, narrowed := true }
def FnExactTaskSameUptoSaid : Prop := fnExactTaskSameUptoRow.holds Try.pinned (OpenSpec.upto fnExactTaskSameSpec)

end Rows
end Go.Proofs.Ytgcjnhlppapfdaa
