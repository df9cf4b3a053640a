/-
  NARROWER THAN 'FOR EVERY INPUT', by the rows' own cells (each row's printed sentence says how): FnExactCircleOf: loops · FnExactSheetFixed: loops · FnExactSheetSafe: loops.
  DERIVED. THE GIVEN ROWS OF THIS SEAT. 3 by the template 'for every input the law returns true; each argument reads behind the call as it read before'; 0 by the template 'total and deterministic' (their statements: YtohogojphnlhpabTotals.lean).
  GIVEN WITH THE SEED: the statements are not yours to turn. If you find one false, say at which input.
  Laid BY PROGRAM, IN A SANDBOX (cutbox-rows.mjs): the forced cells as the released guide's own fill.sh prints them over the translation 6d65d711730e74d4… (all of the seat's roots in one cut). By AI agents, Wed Nov 11 2026. No macro, syntax, notation, axiom, sorry.
-/
import Derived.Test.YtohogojphnlhpabChecked
import GoSem.Claim
import GoSem.ClaimJoined
import GoSem.ClaimMapViews
import Derived.JoinedTies
import Derived.KernelRfl
namespace Go.Proofs.Ytohogojphnlhpab
/- THE CELL 'sum', in the pinned program and in every row, IS THE sha256 OF THE DUMP (.gsa) THAT YtohogojphnlhpabProg.lean LOADS. Nothing in Lean hashes anything: it is a label: what it is worth is what the hold of that sum in a sandbox is worth. -/
noncomputable def Try.pinned : Pinned := { name := "ytohogojphnlhpab", sum := "6d65d711730e74d4d5fed7464683e37e40a40c07b36ac78a4cc5257b67716443", checked := Try.checked }
namespace Rows
def none {H : Type} : Left H := { results := [], args := [] }

/-- 'laws.FnExactCircleOf': WHATEVER THE INPUT: true; the input reads as it did. -/
def fnExactCircleOfSpec : ChangeSpec := { name := "fnExactCircleOf", fn := fun _ => fun
  | [d1, d2, d3] => { results := [.lit (.bool true)], args := [d1, d2, d3] }
  | _ => none }
def fnExactCircleOfRow : OpenClaim := { program := "ytohogojphnlhpab", sum := "6d65d711730e74d4d5fed7464683e37e40a40c07b36ac78a4cc5257b67716443", func := "loop.example/buildroads/laws.FnExactCircleOf", spec := "fnExactCircleOf", unfollowed := true, recurses := true, loops := true, apart := false }
def FnExactCircleOfSaid : Prop := fnExactCircleOfRow.holds Try.pinned (OpenSpec.ofChange fnExactCircleOfSpec)

/-- ITS FALSE NEIGHBOUR: 'it returns false'. Refute it at one input. -/
def fnExactCircleOfWrong : ChangeSpec := { name := "fnExactCircleOf", fn := fun _ => fun
  | [d1, d2, d3] => { results := [.lit (.bool false)], args := [d1, d2, d3] }
  | _ => none }
def FnExactCircleOfWrongFalsely : Prop := fnExactCircleOfRow.holds Try.pinned (OpenSpec.ofChange fnExactCircleOfWrong)

/-- 'laws.FnExactSheetFixed': WHATEVER THE INPUT: true; the input reads as it did. -/
def fnExactSheetFixedSpec : ChangeSpec := { name := "fnExactSheetFixed", fn := fun _ => fun
  | [d] => { results := [.lit (.bool true)], args := [d] }
  | _ => none }
def fnExactSheetFixedRow : OpenClaim := { program := "ytohogojphnlhpab", sum := "6d65d711730e74d4d5fed7464683e37e40a40c07b36ac78a4cc5257b67716443", func := "loop.example/buildroads/laws.FnExactSheetFixed", spec := "fnExactSheetFixed", recurses := true, loops := true, apart := false }
def FnExactSheetFixedSaid : Prop := fnExactSheetFixedRow.holds Try.pinned (OpenSpec.ofChange fnExactSheetFixedSpec)

/-- ITS FALSE NEIGHBOUR: 'it returns false'. Refute it at one input. -/
def fnExactSheetFixedWrong : ChangeSpec := { name := "fnExactSheetFixed", fn := fun _ => fun
  | [d] => { results := [.lit (.bool false)], args := [d] }
  | _ => none }
def FnExactSheetFixedWrongFalsely : Prop := fnExactSheetFixedRow.holds Try.pinned (OpenSpec.ofChange fnExactSheetFixedWrong)

/-- 'laws.FnExactSheetSafe': WHATEVER THE INPUT: true; the input reads as it did. -/
def fnExactSheetSafeSpec : ChangeSpec := { name := "fnExactSheetSafe", fn := fun _ => fun
  | [d] => { results := [.lit (.bool true)], args := [d] }
  | _ => none }
def fnExactSheetSafeRow : OpenClaim := { program := "ytohogojphnlhpab", sum := "6d65d711730e74d4d5fed7464683e37e40a40c07b36ac78a4cc5257b67716443", func := "loop.example/buildroads/laws.FnExactSheetSafe", spec := "fnExactSheetSafe", unfollowed := true, recurses := true, loops := true, apart := false }
def FnExactSheetSafeSaid : Prop := fnExactSheetSafeRow.holds Try.pinned (OpenSpec.ofChange fnExactSheetSafeSpec)

/-- ITS FALSE NEIGHBOUR: 'it returns false'. Refute it at one input. -/
def fnExactSheetSafeWrong : ChangeSpec := { name := "fnExactSheetSafe", fn := fun _ => fun
  | [d] => { results := [.lit (.bool false)], args := [d] }
  | _ => none }
def FnExactSheetSafeWrongFalsely : Prop := fnExactSheetSafeRow.holds Try.pinned (OpenSpec.ofChange fnExactSheetSafeWrong)

/- THE SECOND FORM. 'bulk': how many values and letters a reading holds, each counted each time it is reached (what is shared counts as often as it is met; a slice's spare places count too). A statement '..UptoSaid' is the law's where the arguments, and the package variables that the reading takes, are together of bulk at most 1048576: NARROWER than '..Said'. Prove '..Said' where nothing that the law and all that it calls make is longer than what came in: it says more and counts as full. Else prove '..UptoSaid'. A law counts once. -/
mutual
def uptoBulk {H : Type} : DataW H → Nat
  | .lit (.string bytes) => bytes.length + 1
  | .lit _ => 1
  | .nil => 1
  | .ptr d => uptoBulk d + 1
  | .slice elems spare => uptoBulkAll elems + uptoBulkAll spare + 1
  | .agg parts => uptoBulkAll parts + 1
  | .iface _ d => uptoBulk d + 1
  | .map entries => uptoBulkEntries entries + 1
  | .held _ => 1
def uptoBulkAll {H : Type} : List (DataW H) → Nat
  | [] => 0
  | d :: r => uptoBulk d + uptoBulkAll r
def uptoBulkEntries {H : Type} : List (Lit × DataW H) → Nat
  | [] => 0
  | x :: r => uptoBulkEntry x + uptoBulkEntries r
def uptoBulkEntry {H : Type} : Lit × DataW H → Nat
  | (.string bytes, d) => bytes.length + uptoBulk d + 1
  | (_, d) => uptoBulk d + 1
 end
def uptoSmall : (H : Type) → List (DataW H) → Bool := fun _ ds => decide (uptoBulkAll ds ≤ 1048576)
def OpenSpec.upto (s : _root_.Go.ChangeSpec) : _root_.Go.OpenSpec := { _root_.Go.OpenSpec.ofChange s with cond := some uptoSmall }

/-- 'laws.FnExactCircleOf', WHERE WHAT IT READS IS OF BULK AT MOST 1048576: true; the input reads as it did. -/
def fnExactCircleOfUptoRow : OpenClaim := { program := "ytohogojphnlhpab", sum := "6d65d711730e74d4d5fed7464683e37e40a40c07b36ac78a4cc5257b67716443", func := "loop.example/buildroads/laws.FnExactCircleOf", spec := "fnExactCircleOf", unfollowed := true, recurses := true, loops := true, apart := false, narrowed := true }
def FnExactCircleOfUptoSaid : Prop := fnExactCircleOfUptoRow.holds Try.pinned (OpenSpec.upto fnExactCircleOfSpec)

/-- 'laws.FnExactSheetFixed', WHERE WHAT IT READS IS OF BULK AT MOST 1048576: true; the input reads as it did. -/
def fnExactSheetFixedUptoRow : OpenClaim := { program := "ytohogojphnlhpab", sum := "6d65d711730e74d4d5fed7464683e37e40a40c07b36ac78a4cc5257b67716443", func := "loop.example/buildroads/laws.FnExactSheetFixed", spec := "fnExactSheetFixed", recurses := true, loops := true, apart := false, narrowed := true }
def FnExactSheetFixedUptoSaid : Prop := fnExactSheetFixedUptoRow.holds Try.pinned (OpenSpec.upto fnExactSheetFixedSpec)

/-- 'laws.FnExactSheetSafe', WHERE WHAT IT READS IS OF BULK AT MOST 1048576: true; the input reads as it did. -/
def fnExactSheetSafeUptoRow : OpenClaim := { program := "ytohogojphnlhpab", sum := "6d65d711730e74d4d5fed7464683e37e40a40c07b36ac78a4cc5257b67716443", func := "loop.example/buildroads/laws.FnExactSheetSafe", spec := "fnExactSheetSafe", unfollowed := true, recurses := true, loops := true, apart := false, narrowed := true }
def FnExactSheetSafeUptoSaid : Prop := fnExactSheetSafeUptoRow.holds Try.pinned (OpenSpec.upto fnExactSheetSafeSpec)

end Rows
end Go.Proofs.Ytohogojphnlhpab
