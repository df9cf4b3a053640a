/-
  NARROWER THAN 'FOR EVERY INPUT', by the rows' own cells (each row's printed sentence says how): FnExactOrderTopo: loops · FnExactTraceOf: loops · FnExactTracesHonest: loops.
  DERIVED. THE GIVEN ROWS OF THIS SEAT. 15 by the template 'for every input the law returns true; each argument reads behind the call as it read before'; 0 by the template 'total and deterministic' (their statements: YtjjojnmhhmdlpaaTotals.lean).
  GIVEN WITH THE SEED: the statements are not yours to turn. If you find one false, say at which input.
  Laid BY PROGRAM, IN A SANDBOX (cutbox-rows.mjs): the forced cells as the released guide's own fill.sh prints them over the translation 7af356ebb23fb737… (all of the seat's roots in one cut). By AI agents, Wed Nov 11 2026. No macro, syntax, notation, axiom, sorry.
-/
import Derived.Test.YtjjojnmhhmdlpaaChecked
import GoSem.Claim
import GoSem.ClaimJoined
import GoSem.ClaimMapViews
import Derived.JoinedTies
import Derived.KernelRfl
namespace Go.Proofs.Ytjjojnmhhmdlpaa
/- THE CELL 'sum', in the pinned program and in every row, IS THE sha256 OF THE DUMP (.gsa) THAT YtjjojnmhhmdlpaaProg.lean LOADS. Nothing in Lean hashes anything: it is a label: what it is worth is what the hold of that sum in a sandbox is worth. -/
noncomputable def Try.pinned : Pinned := { name := "ytjjojnmhhmdlpaa", sum := "7af356ebb23fb737456bfc3f188f541df2eb3711d45331c7ca0580dc4c8b2e82", checked := Try.checked }
namespace Rows
def none {H : Type} : Left H := { results := [], args := [] }

/-- 'laws.FnExactTaskRead': WHATEVER THE INPUT: true; the input reads as it did. -/
def fnExactTaskReadSpec : ChangeSpec := { name := "fnExactTaskRead", fn := fun _ => fun
  | [d] => { results := [.lit (.bool true)], args := [d] }
  | _ => none }
def fnExactTaskReadRow : OpenClaim := { program := "ytjjojnmhhmdlpaa", sum := "7af356ebb23fb737456bfc3f188f541df2eb3711d45331c7ca0580dc4c8b2e82", func := "loop.example/buildroads/laws.FnExactTaskRead", spec := "fnExactTaskRead", recurses := true, apart := false }
def FnExactTaskReadSaid : Prop := fnExactTaskReadRow.holds Try.pinned (OpenSpec.ofChange fnExactTaskReadSpec)

/-- ITS FALSE NEIGHBOUR: 'it returns false'. Refute it at one input. -/
def fnExactTaskReadWrong : ChangeSpec := { name := "fnExactTaskRead", fn := fun _ => fun
  | [d] => { results := [.lit (.bool false)], args := [d] }
  | _ => none }
def FnExactTaskReadWrongFalsely : Prop := fnExactTaskReadRow.holds Try.pinned (OpenSpec.ofChange fnExactTaskReadWrong)

/-- 'laws.FnExactOrderTopo': WHATEVER THE INPUT: true; the input reads as it did. -/
def fnExactOrderTopoSpec : ChangeSpec := { name := "fnExactOrderTopo", fn := fun _ => fun
  | [d1, d2] => { results := [.lit (.bool true)], args := [d1, d2] }
  | _ => none }
def fnExactOrderTopoRow : OpenClaim := { program := "ytjjojnmhhmdlpaa", sum := "7af356ebb23fb737456bfc3f188f541df2eb3711d45331c7ca0580dc4c8b2e82", func := "loop.example/buildroads/laws.FnExactOrderTopo", spec := "fnExactOrderTopo", inPlace := ["slices.overlaps[int]"], unfollowed := true, recurses := true, loops := true, apart := false }
def FnExactOrderTopoSaid : Prop := fnExactOrderTopoRow.holds Try.pinned (OpenSpec.ofChange fnExactOrderTopoSpec)

/-- ITS FALSE NEIGHBOUR: 'it returns false'. Refute it at one input. -/
def fnExactOrderTopoWrong : ChangeSpec := { name := "fnExactOrderTopo", fn := fun _ => fun
  | [d1, d2] => { results := [.lit (.bool false)], args := [d1, d2] }
  | _ => none }
def FnExactOrderTopoWrongFalsely : Prop := fnExactOrderTopoRow.holds Try.pinned (OpenSpec.ofChange fnExactOrderTopoWrong)

/-- 'laws.FnOrderTopo': WHATEVER THE INPUT: true; the input reads as it did. -/
def fnOrderTopoSpec : ChangeSpec := { name := "fnOrderTopo", fn := fun _ => fun
  | [d] => { results := [.lit (.bool true)], args := [d] }
  | _ => none }
def fnOrderTopoRow : OpenClaim := { program := "ytjjojnmhhmdlpaa", sum := "7af356ebb23fb737456bfc3f188f541df2eb3711d45331c7ca0580dc4c8b2e82", func := "loop.example/buildroads/laws.FnOrderTopo", spec := "fnOrderTopo", inPlace := ["slices.overlaps[int]"], unfollowed := true, recurses := true, apart := false }
def FnOrderTopoSaid : Prop := fnOrderTopoRow.holds Try.pinned (OpenSpec.ofChange fnOrderTopoSpec)

/-- ITS FALSE NEIGHBOUR: 'it returns false'. Refute it at one input. -/
def fnOrderTopoWrong : ChangeSpec := { name := "fnOrderTopo", fn := fun _ => fun
  | [d] => { results := [.lit (.bool false)], args := [d] }
  | _ => none }
def FnOrderTopoWrongFalsely : Prop := fnOrderTopoRow.holds Try.pinned (OpenSpec.ofChange fnOrderTopoWrong)

/-- 'laws.FnOrderSuspend': WHATEVER THE INPUT: true; the input reads as it did. -/
def fnOrderSuspendSpec : ChangeSpec := { name := "fnOrderSuspend", fn := fun _ => fun
  | [d] => { results := [.lit (.bool true)], args := [d] }
  | _ => none }
def fnOrderSuspendRow : OpenClaim := { program := "ytjjojnmhhmdlpaa", sum := "7af356ebb23fb737456bfc3f188f541df2eb3711d45331c7ca0580dc4c8b2e82", func := "loop.example/buildroads/laws.FnOrderSuspend", spec := "fnOrderSuspend", inPlace := ["slices.overlaps[int]"], unfollowed := true, recurses := true, apart := false }
def FnOrderSuspendSaid : Prop := fnOrderSuspendRow.holds Try.pinned (OpenSpec.ofChange fnOrderSuspendSpec)

/-- ITS FALSE NEIGHBOUR: 'it returns false'. Refute it at one input. -/
def fnOrderSuspendWrong : ChangeSpec := { name := "fnOrderSuspend", fn := fun _ => fun
  | [d] => { results := [.lit (.bool false)], args := [d] }
  | _ => none }
def FnOrderSuspendWrongFalsely : Prop := fnOrderSuspendRow.holds Try.pinned (OpenSpec.ofChange fnOrderSuspendWrong)

/-- 'laws.FnExactTraceOf': WHATEVER THE INPUT: true; the input reads as it did. -/
def fnExactTraceOfSpec : ChangeSpec := { name := "fnExactTraceOf", fn := fun _ => fun
  | [d1, d2, d3] => { results := [.lit (.bool true)], args := [d1, d2, d3] }
  | _ => none }
def fnExactTraceOfRow : OpenClaim := { program := "ytjjojnmhhmdlpaa", sum := "7af356ebb23fb737456bfc3f188f541df2eb3711d45331c7ca0580dc4c8b2e82", func := "loop.example/buildroads/laws.FnExactTraceOf", spec := "fnExactTraceOf", unfollowed := true, recurses := true, loops := true, apart := false }
def FnExactTraceOfSaid : Prop := fnExactTraceOfRow.holds Try.pinned (OpenSpec.ofChange fnExactTraceOfSpec)

/-- ITS FALSE NEIGHBOUR: 'it returns false'. Refute it at one input. -/
def fnExactTraceOfWrong : ChangeSpec := { name := "fnExactTraceOf", fn := fun _ => fun
  | [d1, d2, d3] => { results := [.lit (.bool false)], args := [d1, d2, d3] }
  | _ => none }
def FnExactTraceOfWrongFalsely : Prop := fnExactTraceOfRow.holds Try.pinned (OpenSpec.ofChange fnExactTraceOfWrong)

/-- 'laws.FnExactTraceHolds': WHATEVER THE INPUT: true; the input reads as it did. -/
def fnExactTraceHoldsSpec : ChangeSpec := { name := "fnExactTraceHolds", fn := fun _ => fun
  | [d1, d2] => { results := [.lit (.bool true)], args := [d1, d2] }
  | _ => none }
def fnExactTraceHoldsRow : OpenClaim := { program := "ytjjojnmhhmdlpaa", sum := "7af356ebb23fb737456bfc3f188f541df2eb3711d45331c7ca0580dc4c8b2e82", func := "loop.example/buildroads/laws.FnExactTraceHolds", spec := "fnExactTraceHolds", unfollowed := true, recurses := true, apart := false }
def FnExactTraceHoldsSaid : Prop := fnExactTraceHoldsRow.holds Try.pinned (OpenSpec.ofChange fnExactTraceHoldsSpec)

/-- ITS FALSE NEIGHBOUR: 'it returns false'. Refute it at one input. -/
def fnExactTraceHoldsWrong : ChangeSpec := { name := "fnExactTraceHolds", fn := fun _ => fun
  | [d1, d2] => { results := [.lit (.bool false)], args := [d1, d2] }
  | _ => none }
def FnExactTraceHoldsWrongFalsely : Prop := fnExactTraceHoldsRow.holds Try.pinned (OpenSpec.ofChange fnExactTraceHoldsWrong)

/-- 'laws.FnExactTracesOk': WHATEVER THE INPUT: true; the input reads as it did. -/
def fnExactTracesOkSpec : ChangeSpec := { name := "fnExactTracesOk", fn := fun _ => fun
  | [d] => { results := [.lit (.bool true)], args := [d] }
  | _ => none }
def fnExactTracesOkRow : OpenClaim := { program := "ytjjojnmhhmdlpaa", sum := "7af356ebb23fb737456bfc3f188f541df2eb3711d45331c7ca0580dc4c8b2e82", func := "loop.example/buildroads/laws.FnExactTracesOk", spec := "fnExactTracesOk", apart := false }
def FnExactTracesOkSaid : Prop := fnExactTracesOkRow.holds Try.pinned (OpenSpec.ofChange fnExactTracesOkSpec)

/-- ITS FALSE NEIGHBOUR: 'it returns false'. Refute it at one input. -/
def fnExactTracesOkWrong : ChangeSpec := { name := "fnExactTracesOk", fn := fun _ => fun
  | [d] => { results := [.lit (.bool false)], args := [d] }
  | _ => none }
def FnExactTracesOkWrongFalsely : Prop := fnExactTracesOkRow.holds Try.pinned (OpenSpec.ofChange fnExactTracesOkWrong)

/-- 'laws.FnExactTracesHonest': WHATEVER THE INPUT: true; the input reads as it did. -/
def fnExactTracesHonestSpec : ChangeSpec := { name := "fnExactTracesHonest", fn := fun _ => fun
  | [d1, d2] => { results := [.lit (.bool true)], args := [d1, d2] }
  | _ => none }
def fnExactTracesHonestRow : OpenClaim := { program := "ytjjojnmhhmdlpaa", sum := "7af356ebb23fb737456bfc3f188f541df2eb3711d45331c7ca0580dc4c8b2e82", func := "loop.example/buildroads/laws.FnExactTracesHonest", spec := "fnExactTracesHonest", unfollowed := true, recurses := true, loops := true, apart := false }
def FnExactTracesHonestSaid : Prop := fnExactTracesHonestRow.holds Try.pinned (OpenSpec.ofChange fnExactTracesHonestSpec)

/-- ITS FALSE NEIGHBOUR: 'it returns false'. Refute it at one input. -/
def fnExactTracesHonestWrong : ChangeSpec := { name := "fnExactTracesHonest", fn := fun _ => fun
  | [d1, d2] => { results := [.lit (.bool false)], args := [d1, d2] }
  | _ => none }
def FnExactTracesHonestWrongFalsely : Prop := fnExactTracesHonestRow.holds Try.pinned (OpenSpec.ofChange fnExactTracesHonestWrong)

/-- 'laws.FnExactTracesFind': WHATEVER THE INPUT: true; the input reads as it did. -/
def fnExactTracesFindSpec : ChangeSpec := { name := "fnExactTracesFind", fn := fun _ => fun
  | [d1, d2, d3] => { results := [.lit (.bool true)], args := [d1, d2, d3] }
  | _ => none }
def fnExactTracesFindRow : OpenClaim := { program := "ytjjojnmhhmdlpaa", sum := "7af356ebb23fb737456bfc3f188f541df2eb3711d45331c7ca0580dc4c8b2e82", func := "loop.example/buildroads/laws.FnExactTracesFind", spec := "fnExactTracesFind", unfollowed := true, recurses := true, apart := false }
def FnExactTracesFindSaid : Prop := fnExactTracesFindRow.holds Try.pinned (OpenSpec.ofChange fnExactTracesFindSpec)

/-- ITS FALSE NEIGHBOUR: 'it returns false'. Refute it at one input. -/
def fnExactTracesFindWrong : ChangeSpec := { name := "fnExactTracesFind", fn := fun _ => fun
  | [d1, d2, d3] => { results := [.lit (.bool false)], args := [d1, d2, d3] }
  | _ => none }
def FnExactTracesFindWrongFalsely : Prop := fnExactTracesFindRow.holds Try.pinned (OpenSpec.ofChange fnExactTracesFindWrong)

/-- 'laws.FnExactTracesPut': WHATEVER THE INPUT: true; the input reads as it did. -/
def fnExactTracesPutSpec : ChangeSpec := { name := "fnExactTracesPut", fn := fun _ => fun
  | [d1, d2] => { results := [.lit (.bool true)], args := [d1, d2] }
  | _ => none }
def fnExactTracesPutRow : OpenClaim := { program := "ytjjojnmhhmdlpaa", sum := "7af356ebb23fb737456bfc3f188f541df2eb3711d45331c7ca0580dc4c8b2e82", func := "loop.example/buildroads/laws.FnExactTracesPut", spec := "fnExactTracesPut", apart := false }
def FnExactTracesPutSaid : Prop := fnExactTracesPutRow.holds Try.pinned (OpenSpec.ofChange fnExactTracesPutSpec)

/-- ITS FALSE NEIGHBOUR: 'it returns false'. Refute it at one input. -/
def fnExactTracesPutWrong : ChangeSpec := { name := "fnExactTracesPut", fn := fun _ => fun
  | [d1, d2] => { results := [.lit (.bool false)], args := [d1, d2] }
  | _ => none }
def FnExactTracesPutWrongFalsely : Prop := fnExactTracesPutRow.holds Try.pinned (OpenSpec.ofChange fnExactTracesPutWrong)

/-- 'laws.FnTraceOf': WHATEVER THE INPUT: true; the input reads as it did. -/
def fnTraceOfSpec : ChangeSpec := { name := "fnTraceOf", fn := fun _ => fun
  | [d] => { results := [.lit (.bool true)], args := [d] }
  | _ => none }
def fnTraceOfRow : OpenClaim := { program := "ytjjojnmhhmdlpaa", sum := "7af356ebb23fb737456bfc3f188f541df2eb3711d45331c7ca0580dc4c8b2e82", func := "loop.example/buildroads/laws.FnTraceOf", spec := "fnTraceOf", unfollowed := true, recurses := true, apart := false }
def FnTraceOfSaid : Prop := fnTraceOfRow.holds Try.pinned (OpenSpec.ofChange fnTraceOfSpec)

/-- ITS FALSE NEIGHBOUR: 'it returns false'. Refute it at one input. -/
def fnTraceOfWrong : ChangeSpec := { name := "fnTraceOf", fn := fun _ => fun
  | [d] => { results := [.lit (.bool false)], args := [d] }
  | _ => none }
def FnTraceOfWrongFalsely : Prop := fnTraceOfRow.holds Try.pinned (OpenSpec.ofChange fnTraceOfWrong)

/-- 'laws.FnTraceHolds': WHATEVER THE INPUT: true; the input reads as it did. -/
def fnTraceHoldsSpec : ChangeSpec := { name := "fnTraceHolds", fn := fun _ => fun
  | [d] => { results := [.lit (.bool true)], args := [d] }
  | _ => none }
def fnTraceHoldsRow : OpenClaim := { program := "ytjjojnmhhmdlpaa", sum := "7af356ebb23fb737456bfc3f188f541df2eb3711d45331c7ca0580dc4c8b2e82", func := "loop.example/buildroads/laws.FnTraceHolds", spec := "fnTraceHolds", unfollowed := true, recurses := true, apart := false }
def FnTraceHoldsSaid : Prop := fnTraceHoldsRow.holds Try.pinned (OpenSpec.ofChange fnTraceHoldsSpec)

/-- ITS FALSE NEIGHBOUR: 'it returns false'. Refute it at one input. -/
def fnTraceHoldsWrong : ChangeSpec := { name := "fnTraceHolds", fn := fun _ => fun
  | [d] => { results := [.lit (.bool false)], args := [d] }
  | _ => none }
def FnTraceHoldsWrongFalsely : Prop := fnTraceHoldsRow.holds Try.pinned (OpenSpec.ofChange fnTraceHoldsWrong)

/-- 'laws.FnTracesOk': WHATEVER THE INPUT: true; the input reads as it did. -/
def fnTracesOkSpec : ChangeSpec := { name := "fnTracesOk", fn := fun _ => fun
  | [d] => { results := [.lit (.bool true)], args := [d] }
  | _ => none }
def fnTracesOkRow : OpenClaim := { program := "ytjjojnmhhmdlpaa", sum := "7af356ebb23fb737456bfc3f188f541df2eb3711d45331c7ca0580dc4c8b2e82", func := "loop.example/buildroads/laws.FnTracesOk", spec := "fnTracesOk", recurses := true, apart := false }
def FnTracesOkSaid : Prop := fnTracesOkRow.holds Try.pinned (OpenSpec.ofChange fnTracesOkSpec)

/-- ITS FALSE NEIGHBOUR: 'it returns false'. Refute it at one input. -/
def fnTracesOkWrong : ChangeSpec := { name := "fnTracesOk", fn := fun _ => fun
  | [d] => { results := [.lit (.bool false)], args := [d] }
  | _ => none }
def FnTracesOkWrongFalsely : Prop := fnTracesOkRow.holds Try.pinned (OpenSpec.ofChange fnTracesOkWrong)

/-- 'laws.FnTracesFind': WHATEVER THE INPUT: true; the input reads as it did. -/
def fnTracesFindSpec : ChangeSpec := { name := "fnTracesFind", fn := fun _ => fun
  | [d] => { results := [.lit (.bool true)], args := [d] }
  | _ => none }
def fnTracesFindRow : OpenClaim := { program := "ytjjojnmhhmdlpaa", sum := "7af356ebb23fb737456bfc3f188f541df2eb3711d45331c7ca0580dc4c8b2e82", func := "loop.example/buildroads/laws.FnTracesFind", spec := "fnTracesFind", unfollowed := true, recurses := true, apart := false }
def FnTracesFindSaid : Prop := fnTracesFindRow.holds Try.pinned (OpenSpec.ofChange fnTracesFindSpec)

/-- ITS FALSE NEIGHBOUR: 'it returns false'. Refute it at one input. -/
def fnTracesFindWrong : ChangeSpec := { name := "fnTracesFind", fn := fun _ => fun
  | [d] => { results := [.lit (.bool false)], args := [d] }
  | _ => none }
def FnTracesFindWrongFalsely : Prop := fnTracesFindRow.holds Try.pinned (OpenSpec.ofChange fnTracesFindWrong)

/-- 'laws.FnTracesPut': WHATEVER THE INPUT: true; the input reads as it did. -/
def fnTracesPutSpec : ChangeSpec := { name := "fnTracesPut", fn := fun _ => fun
  | [d] => { results := [.lit (.bool true)], args := [d] }
  | _ => none }
def fnTracesPutRow : OpenClaim := { program := "ytjjojnmhhmdlpaa", sum := "7af356ebb23fb737456bfc3f188f541df2eb3711d45331c7ca0580dc4c8b2e82", func := "loop.example/buildroads/laws.FnTracesPut", spec := "fnTracesPut", recurses := true, apart := false }
def FnTracesPutSaid : Prop := fnTracesPutRow.holds Try.pinned (OpenSpec.ofChange fnTracesPutSpec)

/-- ITS FALSE NEIGHBOUR: 'it returns false'. Refute it at one input. -/
def fnTracesPutWrong : ChangeSpec := { name := "fnTracesPut", fn := fun _ => fun
  | [d] => { results := [.lit (.bool false)], args := [d] }
  | _ => none }
def FnTracesPutWrongFalsely : Prop := fnTracesPutRow.holds Try.pinned (OpenSpec.ofChange fnTracesPutWrong)

/- THE SECOND FORM. 'bulk': how many values and letters a reading holds, each counted each time it is reached (what is shared counts as often as it is met; a slice's spare places count too). A statement '..UptoSaid' is the law's where the arguments, and the package variables that the reading takes, are together of bulk at most 1048576: NARROWER than '..Said'. Prove '..Said' where nothing that the law and all that it calls make is longer than what came in: it says more and counts as full. Else prove '..UptoSaid'. A law counts once. -/
mutual
def uptoBulk {H : Type} : DataW H → Nat
  | .lit (.string bytes) => bytes.length + 1
  | .lit _ => 1
  | .nil => 1
  | .ptr d => uptoBulk d + 1
  | .slice elems spare => uptoBulkAll elems + uptoBulkAll spare + 1
  | .agg parts => uptoBulkAll parts + 1
  | .iface _ d => uptoBulk d + 1
  | .map entries => uptoBulkEntries entries + 1
  | .held _ => 1
def uptoBulkAll {H : Type} : List (DataW H) → Nat
  | [] => 0
  | d :: r => uptoBulk d + uptoBulkAll r
def uptoBulkEntries {H : Type} : List (Lit × DataW H) → Nat
  | [] => 0
  | x :: r => uptoBulkEntry x + uptoBulkEntries r
def uptoBulkEntry {H : Type} : Lit × DataW H → Nat
  | (.string bytes, d) => bytes.length + uptoBulk d + 1
  | (_, d) => uptoBulk d + 1
 end
def uptoSmall : (H : Type) → List (DataW H) → Bool := fun _ ds => decide (uptoBulkAll ds ≤ 1048576)
def OpenSpec.upto (s : _root_.Go.ChangeSpec) : _root_.Go.OpenSpec := { _root_.Go.OpenSpec.ofChange s with cond := some uptoSmall }

/-- 'laws.FnExactTaskRead', WHERE WHAT IT READS IS OF BULK AT MOST 1048576: true; the input reads as it did. -/
def fnExactTaskReadUptoRow : OpenClaim := { program := "ytjjojnmhhmdlpaa", sum := "7af356ebb23fb737456bfc3f188f541df2eb3711d45331c7ca0580dc4c8b2e82", func := "loop.example/buildroads/laws.FnExactTaskRead", spec := "fnExactTaskRead", recurses := true, apart := false, narrowed := true }
def FnExactTaskReadUptoSaid : Prop := fnExactTaskReadUptoRow.holds Try.pinned (OpenSpec.upto fnExactTaskReadSpec)

/-- 'laws.FnExactOrderTopo', WHERE WHAT IT READS IS OF BULK AT MOST 1048576: true; the input reads as it did. -/
def fnExactOrderTopoUptoRow : OpenClaim := { program := "ytjjojnmhhmdlpaa", sum := "7af356ebb23fb737456bfc3f188f541df2eb3711d45331c7ca0580dc4c8b2e82", func := "loop.example/buildroads/laws.FnExactOrderTopo", spec := "fnExactOrderTopo", inPlace := ["slices.overlaps[int]"], unfollowed := true, recurses := true, loops := true, apart := false, narrowed := true }
def FnExactOrderTopoUptoSaid : Prop := fnExactOrderTopoUptoRow.holds Try.pinned (OpenSpec.upto fnExactOrderTopoSpec)

/-- 'laws.FnOrderTopo', WHERE WHAT IT READS IS OF BULK AT MOST 1048576: true; the input reads as it did. -/
def fnOrderTopoUptoRow : OpenClaim := { program := "ytjjojnmhhmdlpaa", sum := "7af356ebb23fb737456bfc3f188f541df2eb3711d45331c7ca0580dc4c8b2e82", func := "loop.example/buildroads/laws.FnOrderTopo", spec := "fnOrderTopo", inPlace := ["slices.overlaps[int]"], unfollowed := true, recurses := true, apart := false, narrowed := true }
def FnOrderTopoUptoSaid : Prop := fnOrderTopoUptoRow.holds Try.pinned (OpenSpec.upto fnOrderTopoSpec)

/-- 'laws.FnOrderSuspend', WHERE WHAT IT READS IS OF BULK AT MOST 1048576: true; the input reads as it did. -/
def fnOrderSuspendUptoRow : OpenClaim := { program := "ytjjojnmhhmdlpaa", sum := "7af356ebb23fb737456bfc3f188f541df2eb3711d45331c7ca0580dc4c8b2e82", func := "loop.example/buildroads/laws.FnOrderSuspend", spec := "fnOrderSuspend", inPlace := ["slices.overlaps[int]"], unfollowed := true, recurses := true, apart := false, narrowed := true }
def FnOrderSuspendUptoSaid : Prop := fnOrderSuspendUptoRow.holds Try.pinned (OpenSpec.upto fnOrderSuspendSpec)

/-- 'laws.FnExactTraceOf', WHERE WHAT IT READS IS OF BULK AT MOST 1048576: true; the input reads as it did. -/
def fnExactTraceOfUptoRow : OpenClaim := { program := "ytjjojnmhhmdlpaa", sum := "7af356ebb23fb737456bfc3f188f541df2eb3711d45331c7ca0580dc4c8b2e82", func := "loop.example/buildroads/laws.FnExactTraceOf", spec := "fnExactTraceOf", unfollowed := true, recurses := true, loops := true, apart := false, narrowed := true }
def FnExactTraceOfUptoSaid : Prop := fnExactTraceOfUptoRow.holds Try.pinned (OpenSpec.upto fnExactTraceOfSpec)

/-- 'laws.FnExactTraceHolds', WHERE WHAT IT READS IS OF BULK AT MOST 1048576: true; the input reads as it did. -/
def fnExactTraceHoldsUptoRow : OpenClaim := { program := "ytjjojnmhhmdlpaa", sum := "7af356ebb23fb737456bfc3f188f541df2eb3711d45331c7ca0580dc4c8b2e82", func := "loop.example/buildroads/laws.FnExactTraceHolds", spec := "fnExactTraceHolds", unfollowed := true, recurses := true, apart := false, narrowed := true }
def FnExactTraceHoldsUptoSaid : Prop := fnExactTraceHoldsUptoRow.holds Try.pinned (OpenSpec.upto fnExactTraceHoldsSpec)

/-- 'laws.FnExactTracesOk', WHERE WHAT IT READS IS OF BULK AT MOST 1048576: true; the input reads as it did. -/
def fnExactTracesOkUptoRow : OpenClaim := { program := "ytjjojnmhhmdlpaa", sum := "7af356ebb23fb737456bfc3f188f541df2eb3711d45331c7ca0580dc4c8b2e82", func := "loop.example/buildroads/laws.FnExactTracesOk", spec := "fnExactTracesOk", apart := false, narrowed := true }
def FnExactTracesOkUptoSaid : Prop := fnExactTracesOkUptoRow.holds Try.pinned (OpenSpec.upto fnExactTracesOkSpec)

/-- 'laws.FnExactTracesHonest', WHERE WHAT IT READS IS OF BULK AT MOST 1048576: true; the input reads as it did. -/
def fnExactTracesHonestUptoRow : OpenClaim := { program := "ytjjojnmhhmdlpaa", sum := "7af356ebb23fb737456bfc3f188f541df2eb3711d45331c7ca0580dc4c8b2e82", func := "loop.example/buildroads/laws.FnExactTracesHonest", spec := "fnExactTracesHonest", unfollowed := true, recurses := true, loops := true, apart := false, narrowed := true }
def FnExactTracesHonestUptoSaid : Prop := fnExactTracesHonestUptoRow.holds Try.pinned (OpenSpec.upto fnExactTracesHonestSpec)

/-- 'laws.FnExactTracesFind', WHERE WHAT IT READS IS OF BULK AT MOST 1048576: true; the input reads as it did. -/
def fnExactTracesFindUptoRow : OpenClaim := { program := "ytjjojnmhhmdlpaa", sum := "7af356ebb23fb737456bfc3f188f541df2eb3711d45331c7ca0580dc4c8b2e82", func := "loop.example/buildroads/laws.FnExactTracesFind", spec := "fnExactTracesFind", unfollowed := true, recurses := true, apart := false, narrowed := true }
def FnExactTracesFindUptoSaid : Prop := fnExactTracesFindUptoRow.holds Try.pinned (OpenSpec.upto fnExactTracesFindSpec)

/-- 'laws.FnExactTracesPut', WHERE WHAT IT READS IS OF BULK AT MOST 1048576: true; the input reads as it did. -/
def fnExactTracesPutUptoRow : OpenClaim := { program := "ytjjojnmhhmdlpaa", sum := "7af356ebb23fb737456bfc3f188f541df2eb3711d45331c7ca0580dc4c8b2e82", func := "loop.example/buildroads/laws.FnExactTracesPut", spec := "fnExactTracesPut", apart := false, narrowed := true }
def FnExactTracesPutUptoSaid : Prop := fnExactTracesPutUptoRow.holds Try.pinned (OpenSpec.upto fnExactTracesPutSpec)

/-- 'laws.FnTraceOf', WHERE WHAT IT READS IS OF BULK AT MOST 1048576: true; the input reads as it did. -/
def fnTraceOfUptoRow : OpenClaim := { program := "ytjjojnmhhmdlpaa", sum := "7af356ebb23fb737456bfc3f188f541df2eb3711d45331c7ca0580dc4c8b2e82", func := "loop.example/buildroads/laws.FnTraceOf", spec := "fnTraceOf", unfollowed := true, recurses := true, apart := false, narrowed := true }
def FnTraceOfUptoSaid : Prop := fnTraceOfUptoRow.holds Try.pinned (OpenSpec.upto fnTraceOfSpec)

/-- 'laws.FnTraceHolds', WHERE WHAT IT READS IS OF BULK AT MOST 1048576: true; the input reads as it did. -/
def fnTraceHoldsUptoRow : OpenClaim := { program := "ytjjojnmhhmdlpaa", sum := "7af356ebb23fb737456bfc3f188f541df2eb3711d45331c7ca0580dc4c8b2e82", func := "loop.example/buildroads/laws.FnTraceHolds", spec := "fnTraceHolds", unfollowed := true, recurses := true, apart := false, narrowed := true }
def FnTraceHoldsUptoSaid : Prop := fnTraceHoldsUptoRow.holds Try.pinned (OpenSpec.upto fnTraceHoldsSpec)

/-- 'laws.FnTracesOk', WHERE WHAT IT READS IS OF BULK AT MOST 1048576: true; the input reads as it did. -/
def fnTracesOkUptoRow : OpenClaim := { program := "ytjjojnmhhmdlpaa", sum := "7af356ebb23fb737456bfc3f188f541df2eb3711d45331c7ca0580dc4c8b2e82", func := "loop.example/buildroads/laws.FnTracesOk", spec := "fnTracesOk", recurses := true, apart := false, narrowed := true }
def FnTracesOkUptoSaid : Prop := fnTracesOkUptoRow.holds Try.pinned (OpenSpec.upto fnTracesOkSpec)

/-- 'laws.FnTracesFind', WHERE WHAT IT READS IS OF BULK AT MOST 1048576: true; the input reads as it did. -/
def fnTracesFindUptoRow : OpenClaim := { program := "ytjjojnmhhmdlpaa", sum := "7af356ebb23fb737456bfc3f188f541df2eb3711d45331c7ca0580dc4c8b2e82", func := "loop.example/buildroads/laws.FnTracesFind", spec := "fnTracesFind", unfollowed := true, recurses := true, apart := false, narrowed := true }
def FnTracesFindUptoSaid : Prop := fnTracesFindUptoRow.holds Try.pinned (OpenSpec.upto fnTracesFindSpec)

/-- 'laws.FnTracesPut', WHERE WHAT IT READS IS OF BULK AT MOST 1048576: true; the input reads as it did. -/
def fnTracesPutUptoRow : OpenClaim := { program := "ytjjojnmhhmdlpaa", sum := "7af356ebb23fb737456bfc3f188f541df2eb3711d45331c7ca0580dc4c8b2e82", func := "loop.example/buildroads/laws.FnTracesPut", spec := "fnTracesPut", recurses := true, apart := false, narrowed := true }
def FnTracesPutUptoSaid : Prop := fnTracesPutUptoRow.holds Try.pinned (OpenSpec.upto fnTracesPutSpec)

end Rows
end Go.Proofs.Ytjjojnmhhmdlpaa
