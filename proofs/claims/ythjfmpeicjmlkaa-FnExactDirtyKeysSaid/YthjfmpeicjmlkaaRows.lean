/-
  NARROWER THAN 'FOR EVERY INPUT', by the rows' own cells (each row's printed sentence says how): FnExactDirtyKeys: loops.
  DERIVED. THE GIVEN ROWS OF THIS SEAT. 2 by the template 'for every input the law returns true; each argument reads behind the call as it read before'; 0 by the template 'total and deterministic' (their statements: YthjfmpeicjmlkaaTotals.lean).
  GIVEN WITH THE SEED: the statements are not yours to turn. If you find one false, say at which input.
  Laid BY PROGRAM, IN A SANDBOX (cutbox-rows.mjs): the forced cells as the released guide's own fill.sh prints them over the translation 4b23c93c78574900… (all of the seat's roots in one cut). By AI agents, Wed Nov 11 2026. No macro, syntax, notation, axiom, sorry.
-/
import Derived.Test.YthjfmpeicjmlkaaChecked
import GoSem.Claim
import GoSem.ClaimJoined
import GoSem.ClaimMapViews
import Derived.JoinedTies
import Derived.KernelRfl
namespace Go.Proofs.Ythjfmpeicjmlkaa
/- THE CELL 'sum', in the pinned program and in every row, IS THE sha256 OF THE DUMP (.gsa) THAT YthjfmpeicjmlkaaProg.lean LOADS. Nothing in Lean hashes anything: it is a label: what it is worth is what the hold of that sum in a sandbox is worth. -/
noncomputable def Try.pinned : Pinned := { name := "ythjfmpeicjmlkaa", sum := "4b23c93c785749001758b7c9ffbd326cbb50d42ada6fc7a548e6b94263ab9e28", checked := Try.checked }
namespace Rows
def none {H : Type} : Left H := { results := [], args := [] }

/-- 'laws.FnExactTracesFind': WHATEVER THE INPUT: true; the input reads as it did. -/
def fnExactTracesFindSpec : ChangeSpec := { name := "fnExactTracesFind", fn := fun _ => fun
  | [d1, d2, d3] => { results := [.lit (.bool true)], args := [d1, d2, d3] }
  | _ => none }
def fnExactTracesFindRow : OpenClaim := { program := "ythjfmpeicjmlkaa", sum := "4b23c93c785749001758b7c9ffbd326cbb50d42ada6fc7a548e6b94263ab9e28", func := "loop.example/buildroads/laws.FnExactTracesFind", spec := "fnExactTracesFind", unfollowed := true, recurses := true, apart := false }
def FnExactTracesFindSaid : Prop := fnExactTracesFindRow.holds Try.pinned (OpenSpec.ofChange fnExactTracesFindSpec)

/-- ITS FALSE NEIGHBOUR: 'it returns false'. Refute it at one input. -/
def fnExactTracesFindWrong : ChangeSpec := { name := "fnExactTracesFind", fn := fun _ => fun
  | [d1, d2, d3] => { results := [.lit (.bool false)], args := [d1, d2, d3] }
  | _ => none }
def FnExactTracesFindWrongFalsely : Prop := fnExactTracesFindRow.holds Try.pinned (OpenSpec.ofChange fnExactTracesFindWrong)

/-- 'laws.FnExactDirtyKeys': WHATEVER THE INPUT: true; the input reads as it did. -/
def fnExactDirtyKeysSpec : ChangeSpec := { name := "fnExactDirtyKeys", fn := fun _ => fun
  | [d1, d2, d3] => { results := [.lit (.bool true)], args := [d1, d2, d3] }
  | _ => none }
def fnExactDirtyKeysRow : OpenClaim := { program := "ythjfmpeicjmlkaa", sum := "4b23c93c785749001758b7c9ffbd326cbb50d42ada6fc7a548e6b94263ab9e28", func := "loop.example/buildroads/laws.FnExactDirtyKeys", spec := "fnExactDirtyKeys", unfollowed := true, recurses := true, loops := true, apart := false }
def FnExactDirtyKeysSaid : Prop := fnExactDirtyKeysRow.holds Try.pinned (OpenSpec.ofChange fnExactDirtyKeysSpec)

/-- ITS FALSE NEIGHBOUR: 'it returns false'. Refute it at one input. -/
def fnExactDirtyKeysWrong : ChangeSpec := { name := "fnExactDirtyKeys", fn := fun _ => fun
  | [d1, d2, d3] => { results := [.lit (.bool false)], args := [d1, d2, d3] }
  | _ => none }
def FnExactDirtyKeysWrongFalsely : Prop := fnExactDirtyKeysRow.holds Try.pinned (OpenSpec.ofChange fnExactDirtyKeysWrong)

/- THE SECOND FORM. 'bulk': how many values and letters a reading holds, each counted each time it is reached (what is shared counts as often as it is met; a slice's spare places count too). A statement '..UptoSaid' is the law's where the arguments, and the package variables that the reading takes, are together of bulk at most 1048576: NARROWER than '..Said'. Prove '..Said' where nothing that the law and all that it calls make is longer than what came in: it says more and counts as full. Else prove '..UptoSaid'. A law counts once. -/
mutual
def uptoBulk {H : Type} : DataW H → Nat
  | .lit (.string bytes) => bytes.length + 1
  | .lit _ => 1
  | .nil => 1
  | .ptr d => uptoBulk d + 1
  | .slice elems spare => uptoBulkAll elems + uptoBulkAll spare + 1
  | .agg parts => uptoBulkAll parts + 1
  | .iface _ d => uptoBulk d + 1
  | .map entries => uptoBulkEntries entries + 1
  | .held _ => 1
def uptoBulkAll {H : Type} : List (DataW H) → Nat
  | [] => 0
  | d :: r => uptoBulk d + uptoBulkAll r
def uptoBulkEntries {H : Type} : List (Lit × DataW H) → Nat
  | [] => 0
  | x :: r => uptoBulkEntry x + uptoBulkEntries r
def uptoBulkEntry {H : Type} : Lit × DataW H → Nat
  | (.string bytes, d) => bytes.length + uptoBulk d + 1
  | (_, d) => uptoBulk d + 1
 end
def uptoSmall : (H : Type) → List (DataW H) → Bool := fun _ ds => decide (uptoBulkAll ds ≤ 1048576)
def OpenSpec.upto (s : _root_.Go.ChangeSpec) : _root_.Go.OpenSpec := { _root_.Go.OpenSpec.ofChange s with cond := some uptoSmall }

/-- 'laws.FnExactTracesFind', WHERE WHAT IT READS IS OF BULK AT MOST 1048576: true; the input reads as it did. -/
def fnExactTracesFindUptoRow : OpenClaim := { program := "ythjfmpeicjmlkaa", sum := "4b23c93c785749001758b7c9ffbd326cbb50d42ada6fc7a548e6b94263ab9e28", func := "loop.example/buildroads/laws.FnExactTracesFind", spec := "fnExactTracesFind", unfollowed := true, recurses := true, apart := false, narrowed := true }
def FnExactTracesFindUptoSaid : Prop := fnExactTracesFindUptoRow.holds Try.pinned (OpenSpec.upto fnExactTracesFindSpec)

/-- 'laws.FnExactDirtyKeys', WHERE WHAT IT READS IS OF BULK AT MOST 1048576: true; the input reads as it did. -/
def fnExactDirtyKeysUptoRow : OpenClaim := { program := "ythjfmpeicjmlkaa", sum := "4b23c93c785749001758b7c9ffbd326cbb50d42ada6fc7a548e6b94263ab9e28", func := "loop.example/buildroads/laws.FnExactDirtyKeys", spec := "fnExactDirtyKeys", unfollowed := true, recurses := true, loops := true, apart := false, narrowed := true }
def FnExactDirtyKeysUptoSaid : Prop := fnExactDirtyKeysUptoRow.holds Try.pinned (OpenSpec.upto fnExactDirtyKeysSpec)

end Rows
end Go.Proofs.Ythjfmpeicjmlkaa
