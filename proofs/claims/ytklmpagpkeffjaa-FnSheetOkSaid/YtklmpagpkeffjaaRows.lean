/-
  NARROWER THAN 'FOR EVERY INPUT', by the rows' own cells (each row's printed sentence says how): FnExactOrderTopo: loops · FnExactOrderSuspend: loops · FnExactOrderRestart: loops · FnExactOrderFits: loops.
  DERIVED. THE GIVEN ROWS OF THIS SEAT. 10 by the template 'for every input the law returns true; each argument reads behind the call as it read before'; 0 by the template 'total and deterministic' (their statements: YtklmpagpkeffjaaTotals.lean).
  GIVEN WITH THE SEED: the statements are not yours to turn. If you find one false, say at which input.
  Laid BY PROGRAM, IN A SANDBOX (cutbox-rows.mjs): the forced cells as the released guide's own fill.sh prints them over the translation 161f427459e75eed… (all of the seat's roots in one cut). By AI agents, Wed Nov 11 2026. No macro, syntax, notation, axiom, sorry.
-/
import Derived.Test.YtklmpagpkeffjaaChecked
import GoSem.Claim
import GoSem.ClaimJoined
import GoSem.ClaimMapViews
import Derived.JoinedTies
import Derived.KernelRfl
namespace Go.Proofs.Ytklmpagpkeffjaa
/- THE CELL 'sum', in the pinned program and in every row, IS THE sha256 OF THE DUMP (.gsa) THAT YtklmpagpkeffjaaProg.lean LOADS. Nothing in Lean hashes anything: it is a label: what it is worth is what the hold of that sum in a sandbox is worth. -/
noncomputable def Try.pinned : Pinned := { name := "ytklmpagpkeffjaa", sum := "161f427459e75eeddef0e60c065f82526ab06c8bb0b2509f674aa3552ca282be", checked := Try.checked }
namespace Rows
def none {H : Type} : Left H := { results := [], args := [] }

/-- 'laws.FnSheetOk': WHATEVER THE INPUT: true; the input reads as it did. -/
def fnSheetOkSpec : ChangeSpec := { name := "fnSheetOk", fn := fun _ => fun
  | [d] => { results := [.lit (.bool true)], args := [d] }
  | _ => none }
def fnSheetOkRow : OpenClaim := { program := "ytklmpagpkeffjaa", sum := "161f427459e75eeddef0e60c065f82526ab06c8bb0b2509f674aa3552ca282be", func := "loop.example/buildroads/laws.FnSheetOk", spec := "fnSheetOk", recurses := true, apart := false }
def FnSheetOkSaid : Prop := fnSheetOkRow.holds Try.pinned (OpenSpec.ofChange fnSheetOkSpec)

/-- ITS FALSE NEIGHBOUR: 'it returns false'. Refute it at one input. -/
def fnSheetOkWrong : ChangeSpec := { name := "fnSheetOk", fn := fun _ => fun
  | [d] => { results := [.lit (.bool false)], args := [d] }
  | _ => none }
def FnSheetOkWrongFalsely : Prop := fnSheetOkRow.holds Try.pinned (OpenSpec.ofChange fnSheetOkWrong)

/-- 'laws.FnOrderTopo': WHATEVER THE INPUT: true; the input reads as it did. -/
def fnOrderTopoSpec : ChangeSpec := { name := "fnOrderTopo", fn := fun _ => fun
  | [d] => { results := [.lit (.bool true)], args := [d] }
  | _ => none }
def fnOrderTopoRow : OpenClaim := { program := "ytklmpagpkeffjaa", sum := "161f427459e75eeddef0e60c065f82526ab06c8bb0b2509f674aa3552ca282be", func := "loop.example/buildroads/laws.FnOrderTopo", spec := "fnOrderTopo", inPlace := ["slices.overlaps[int]"], unfollowed := true, recurses := true, apart := false }
def FnOrderTopoSaid : Prop := fnOrderTopoRow.holds Try.pinned (OpenSpec.ofChange fnOrderTopoSpec)

/-- ITS FALSE NEIGHBOUR: 'it returns false'. Refute it at one input. -/
def fnOrderTopoWrong : ChangeSpec := { name := "fnOrderTopo", fn := fun _ => fun
  | [d] => { results := [.lit (.bool false)], args := [d] }
  | _ => none }
def FnOrderTopoWrongFalsely : Prop := fnOrderTopoRow.holds Try.pinned (OpenSpec.ofChange fnOrderTopoWrong)

/-- 'laws.FnOrderSuspend': WHATEVER THE INPUT: true; the input reads as it did. -/
def fnOrderSuspendSpec : ChangeSpec := { name := "fnOrderSuspend", fn := fun _ => fun
  | [d] => { results := [.lit (.bool true)], args := [d] }
  | _ => none }
def fnOrderSuspendRow : OpenClaim := { program := "ytklmpagpkeffjaa", sum := "161f427459e75eeddef0e60c065f82526ab06c8bb0b2509f674aa3552ca282be", func := "loop.example/buildroads/laws.FnOrderSuspend", spec := "fnOrderSuspend", inPlace := ["slices.overlaps[int]"], unfollowed := true, recurses := true, apart := false }
def FnOrderSuspendSaid : Prop := fnOrderSuspendRow.holds Try.pinned (OpenSpec.ofChange fnOrderSuspendSpec)

/-- ITS FALSE NEIGHBOUR: 'it returns false'. Refute it at one input. -/
def fnOrderSuspendWrong : ChangeSpec := { name := "fnOrderSuspend", fn := fun _ => fun
  | [d] => { results := [.lit (.bool false)], args := [d] }
  | _ => none }
def FnOrderSuspendWrongFalsely : Prop := fnOrderSuspendRow.holds Try.pinned (OpenSpec.ofChange fnOrderSuspendWrong)

/-- 'laws.FnOrderRestart': WHATEVER THE INPUT: true; the input reads as it did. -/
def fnOrderRestartSpec : ChangeSpec := { name := "fnOrderRestart", fn := fun _ => fun
  | [d] => { results := [.lit (.bool true)], args := [d] }
  | _ => none }
def fnOrderRestartRow : OpenClaim := { program := "ytklmpagpkeffjaa", sum := "161f427459e75eeddef0e60c065f82526ab06c8bb0b2509f674aa3552ca282be", func := "loop.example/buildroads/laws.FnOrderRestart", spec := "fnOrderRestart", unfollowed := true, recurses := true, apart := false }
def FnOrderRestartSaid : Prop := fnOrderRestartRow.holds Try.pinned (OpenSpec.ofChange fnOrderRestartSpec)

/-- ITS FALSE NEIGHBOUR: 'it returns false'. Refute it at one input. -/
def fnOrderRestartWrong : ChangeSpec := { name := "fnOrderRestart", fn := fun _ => fun
  | [d] => { results := [.lit (.bool false)], args := [d] }
  | _ => none }
def FnOrderRestartWrongFalsely : Prop := fnOrderRestartRow.holds Try.pinned (OpenSpec.ofChange fnOrderRestartWrong)

/-- 'laws.FnOrderFits': WHATEVER THE INPUT: true; the input reads as it did. -/
def fnOrderFitsSpec : ChangeSpec := { name := "fnOrderFits", fn := fun _ => fun
  | [d] => { results := [.lit (.bool true)], args := [d] }
  | _ => none }
def fnOrderFitsRow : OpenClaim := { program := "ytklmpagpkeffjaa", sum := "161f427459e75eeddef0e60c065f82526ab06c8bb0b2509f674aa3552ca282be", func := "loop.example/buildroads/laws.FnOrderFits", spec := "fnOrderFits", unfollowed := true, recurses := true, apart := false }
def FnOrderFitsSaid : Prop := fnOrderFitsRow.holds Try.pinned (OpenSpec.ofChange fnOrderFitsSpec)

/-- ITS FALSE NEIGHBOUR: 'it returns false'. Refute it at one input. -/
def fnOrderFitsWrong : ChangeSpec := { name := "fnOrderFits", fn := fun _ => fun
  | [d] => { results := [.lit (.bool false)], args := [d] }
  | _ => none }
def FnOrderFitsWrongFalsely : Prop := fnOrderFitsRow.holds Try.pinned (OpenSpec.ofChange fnOrderFitsWrong)

/-- 'laws.FnExactTaskRead': WHATEVER THE INPUT: true; the input reads as it did. -/
def fnExactTaskReadSpec : ChangeSpec := { name := "fnExactTaskRead", fn := fun _ => fun
  | [d] => { results := [.lit (.bool true)], args := [d] }
  | _ => none }
def fnExactTaskReadRow : OpenClaim := { program := "ytklmpagpkeffjaa", sum := "161f427459e75eeddef0e60c065f82526ab06c8bb0b2509f674aa3552ca282be", func := "loop.example/buildroads/laws.FnExactTaskRead", spec := "fnExactTaskRead", recurses := true, apart := false }
def FnExactTaskReadSaid : Prop := fnExactTaskReadRow.holds Try.pinned (OpenSpec.ofChange fnExactTaskReadSpec)

/-- ITS FALSE NEIGHBOUR: 'it returns false'. Refute it at one input. -/
def fnExactTaskReadWrong : ChangeSpec := { name := "fnExactTaskRead", fn := fun _ => fun
  | [d] => { results := [.lit (.bool false)], args := [d] }
  | _ => none }
def FnExactTaskReadWrongFalsely : Prop := fnExactTaskReadRow.holds Try.pinned (OpenSpec.ofChange fnExactTaskReadWrong)

/-- 'laws.FnExactOrderTopo': WHATEVER THE INPUT: true; the input reads as it did. -/
def fnExactOrderTopoSpec : ChangeSpec := { name := "fnExactOrderTopo", fn := fun _ => fun
  | [d1, d2] => { results := [.lit (.bool true)], args := [d1, d2] }
  | _ => none }
def fnExactOrderTopoRow : OpenClaim := { program := "ytklmpagpkeffjaa", sum := "161f427459e75eeddef0e60c065f82526ab06c8bb0b2509f674aa3552ca282be", func := "loop.example/buildroads/laws.FnExactOrderTopo", spec := "fnExactOrderTopo", inPlace := ["slices.overlaps[int]"], unfollowed := true, recurses := true, loops := true, apart := false }
def FnExactOrderTopoSaid : Prop := fnExactOrderTopoRow.holds Try.pinned (OpenSpec.ofChange fnExactOrderTopoSpec)

/-- ITS FALSE NEIGHBOUR: 'it returns false'. Refute it at one input. -/
def fnExactOrderTopoWrong : ChangeSpec := { name := "fnExactOrderTopo", fn := fun _ => fun
  | [d1, d2] => { results := [.lit (.bool false)], args := [d1, d2] }
  | _ => none }
def FnExactOrderTopoWrongFalsely : Prop := fnExactOrderTopoRow.holds Try.pinned (OpenSpec.ofChange fnExactOrderTopoWrong)

/-- 'laws.FnExactOrderSuspend': WHATEVER THE INPUT: true; the input reads as it did. -/
def fnExactOrderSuspendSpec : ChangeSpec := { name := "fnExactOrderSuspend", fn := fun _ => fun
  | [d1, d2, d3] => { results := [.lit (.bool true)], args := [d1, d2, d3] }
  | _ => none }
def fnExactOrderSuspendRow : OpenClaim := { program := "ytklmpagpkeffjaa", sum := "161f427459e75eeddef0e60c065f82526ab06c8bb0b2509f674aa3552ca282be", func := "loop.example/buildroads/laws.FnExactOrderSuspend", spec := "fnExactOrderSuspend", unfollowed := true, recurses := true, loops := true, apart := false }
def FnExactOrderSuspendSaid : Prop := fnExactOrderSuspendRow.holds Try.pinned (OpenSpec.ofChange fnExactOrderSuspendSpec)

/-- ITS FALSE NEIGHBOUR: 'it returns false'. Refute it at one input. -/
def fnExactOrderSuspendWrong : ChangeSpec := { name := "fnExactOrderSuspend", fn := fun _ => fun
  | [d1, d2, d3] => { results := [.lit (.bool false)], args := [d1, d2, d3] }
  | _ => none }
def FnExactOrderSuspendWrongFalsely : Prop := fnExactOrderSuspendRow.holds Try.pinned (OpenSpec.ofChange fnExactOrderSuspendWrong)

/-- 'laws.FnExactOrderRestart': WHATEVER THE INPUT: true; the input reads as it did. -/
def fnExactOrderRestartSpec : ChangeSpec := { name := "fnExactOrderRestart", fn := fun _ => fun
  | [d1, d2, d3] => { results := [.lit (.bool true)], args := [d1, d2, d3] }
  | _ => none }
def fnExactOrderRestartRow : OpenClaim := { program := "ytklmpagpkeffjaa", sum := "161f427459e75eeddef0e60c065f82526ab06c8bb0b2509f674aa3552ca282be", func := "loop.example/buildroads/laws.FnExactOrderRestart", spec := "fnExactOrderRestart", unfollowed := true, recurses := true, loops := true, apart := false }
def FnExactOrderRestartSaid : Prop := fnExactOrderRestartRow.holds Try.pinned (OpenSpec.ofChange fnExactOrderRestartSpec)

/-- ITS FALSE NEIGHBOUR: 'it returns false'. Refute it at one input. -/
def fnExactOrderRestartWrong : ChangeSpec := { name := "fnExactOrderRestart", fn := fun _ => fun
  | [d1, d2, d3] => { results := [.lit (.bool false)], args := [d1, d2, d3] }
  | _ => none }
def FnExactOrderRestartWrongFalsely : Prop := fnExactOrderRestartRow.holds Try.pinned (OpenSpec.ofChange fnExactOrderRestartWrong)

/-- 'laws.FnExactOrderFits': WHATEVER THE INPUT: true; the input reads as it did. -/
def fnExactOrderFitsSpec : ChangeSpec := { name := "fnExactOrderFits", fn := fun _ => fun
  | [d1, d2, d3] => { results := [.lit (.bool true)], args := [d1, d2, d3] }
  | _ => none }
def fnExactOrderFitsRow : OpenClaim := { program := "ytklmpagpkeffjaa", sum := "161f427459e75eeddef0e60c065f82526ab06c8bb0b2509f674aa3552ca282be", func := "loop.example/buildroads/laws.FnExactOrderFits", spec := "fnExactOrderFits", unfollowed := true, recurses := true, loops := true, apart := false }
def FnExactOrderFitsSaid : Prop := fnExactOrderFitsRow.holds Try.pinned (OpenSpec.ofChange fnExactOrderFitsSpec)

/-- ITS FALSE NEIGHBOUR: 'it returns false'. Refute it at one input. -/
def fnExactOrderFitsWrong : ChangeSpec := { name := "fnExactOrderFits", fn := fun _ => fun
  | [d1, d2, d3] => { results := [.lit (.bool false)], args := [d1, d2, d3] }
  | _ => none }
def FnExactOrderFitsWrongFalsely : Prop := fnExactOrderFitsRow.holds Try.pinned (OpenSpec.ofChange fnExactOrderFitsWrong)

/- THE SECOND FORM. 'bulk': how many values and letters a reading holds, each counted each time it is reached (what is shared counts as often as it is met; a slice's spare places count too). A statement '..UptoSaid' is the law's where the arguments, and the package variables that the reading takes, are together of bulk at most 1048576: NARROWER than '..Said'. Prove '..Said' where nothing that the law and all that it calls make is longer than what came in: it says more and counts as full. Else prove '..UptoSaid'. A law counts once. -/
mutual
def uptoBulk {H : Type} : DataW H → Nat
  | .lit (.string bytes) => bytes.length + 1
  | .lit _ => 1
  | .nil => 1
  | .ptr d => uptoBulk d + 1
  | .slice elems spare => uptoBulkAll elems + uptoBulkAll spare + 1
  | .agg parts => uptoBulkAll parts + 1
  | .iface _ d => uptoBulk d + 1
  | .map entries => uptoBulkEntries entries + 1
  | .held _ => 1
def uptoBulkAll {H : Type} : List (DataW H) → Nat
  | [] => 0
  | d :: r => uptoBulk d + uptoBulkAll r
def uptoBulkEntries {H : Type} : List (Lit × DataW H) → Nat
  | [] => 0
  | x :: r => uptoBulkEntry x + uptoBulkEntries r
def uptoBulkEntry {H : Type} : Lit × DataW H → Nat
  | (.string bytes, d) => bytes.length + uptoBulk d + 1
  | (_, d) => uptoBulk d + 1
 end
def uptoSmall : (H : Type) → List (DataW H) → Bool := fun _ ds => decide (uptoBulkAll ds ≤ 1048576)
def OpenSpec.upto (s : _root_.Go.ChangeSpec) : _root_.Go.OpenSpec := { _root_.Go.OpenSpec.ofChange s with cond := some uptoSmall }

/-- 'laws.FnSheetOk', WHERE WHAT IT READS IS OF BULK AT MOST 1048576: true; the input reads as it did. -/
def fnSheetOkUptoRow : OpenClaim := { program := "ytklmpagpkeffjaa", sum := "161f427459e75eeddef0e60c065f82526ab06c8bb0b2509f674aa3552ca282be", func := "loop.example/buildroads/laws.FnSheetOk", spec := "fnSheetOk", recurses := true, apart := false, narrowed := true }
def FnSheetOkUptoSaid : Prop := fnSheetOkUptoRow.holds Try.pinned (OpenSpec.upto fnSheetOkSpec)

/-- 'laws.FnOrderTopo', WHERE WHAT IT READS IS OF BULK AT MOST 1048576: true; the input reads as it did. -/
def fnOrderTopoUptoRow : OpenClaim := { program := "ytklmpagpkeffjaa", sum := "161f427459e75eeddef0e60c065f82526ab06c8bb0b2509f674aa3552ca282be", func := "loop.example/buildroads/laws.FnOrderTopo", spec := "fnOrderTopo", inPlace := ["slices.overlaps[int]"], unfollowed := true, recurses := true, apart := false, narrowed := true }
def FnOrderTopoUptoSaid : Prop := fnOrderTopoUptoRow.holds Try.pinned (OpenSpec.upto fnOrderTopoSpec)

/-- 'laws.FnOrderSuspend', WHERE WHAT IT READS IS OF BULK AT MOST 1048576: true; the input reads as it did. -/
def fnOrderSuspendUptoRow : OpenClaim := { program := "ytklmpagpkeffjaa", sum := "161f427459e75eeddef0e60c065f82526ab06c8bb0b2509f674aa3552ca282be", func := "loop.example/buildroads/laws.FnOrderSuspend", spec := "fnOrderSuspend", inPlace := ["slices.overlaps[int]"], unfollowed := true, recurses := true, apart := false, narrowed := true }
def FnOrderSuspendUptoSaid : Prop := fnOrderSuspendUptoRow.holds Try.pinned (OpenSpec.upto fnOrderSuspendSpec)

/-- 'laws.FnOrderRestart', WHERE WHAT IT READS IS OF BULK AT MOST 1048576: true; the input reads as it did. -/
def fnOrderRestartUptoRow : OpenClaim := { program := "ytklmpagpkeffjaa", sum := "161f427459e75eeddef0e60c065f82526ab06c8bb0b2509f674aa3552ca282be", func := "loop.example/buildroads/laws.FnOrderRestart", spec := "fnOrderRestart", unfollowed := true, recurses := true, apart := false, narrowed := true }
def FnOrderRestartUptoSaid : Prop := fnOrderRestartUptoRow.holds Try.pinned (OpenSpec.upto fnOrderRestartSpec)

/-- 'laws.FnOrderFits', WHERE WHAT IT READS IS OF BULK AT MOST 1048576: true; the input reads as it did. -/
def fnOrderFitsUptoRow : OpenClaim := { program := "ytklmpagpkeffjaa", sum := "161f427459e75eeddef0e60c065f82526ab06c8bb0b2509f674aa3552ca282be", func := "loop.example/buildroads/laws.FnOrderFits", spec := "fnOrderFits", unfollowed := true, recurses := true, apart := false, narrowed := true }
def FnOrderFitsUptoSaid : Prop := fnOrderFitsUptoRow.holds Try.pinned (OpenSpec.upto fnOrderFitsSpec)

/-- 'laws.FnExactTaskRead', WHERE WHAT IT READS IS OF BULK AT MOST 1048576: true; the input reads as it did. -/
def fnExactTaskReadUptoRow : OpenClaim := { program := "ytklmpagpkeffjaa", sum := "161f427459e75eeddef0e60c065f82526ab06c8bb0b2509f674aa3552ca282be", func := "loop.example/buildroads/laws.FnExactTaskRead", spec := "fnExactTaskRead", recurses := true, apart := false, narrowed := true }
def FnExactTaskReadUptoSaid : Prop := fnExactTaskReadUptoRow.holds Try.pinned (OpenSpec.upto fnExactTaskReadSpec)

/-- 'laws.FnExactOrderTopo', WHERE WHAT IT READS IS OF BULK AT MOST 1048576: true; the input reads as it did. -/
def fnExactOrderTopoUptoRow : OpenClaim := { program := "ytklmpagpkeffjaa", sum := "161f427459e75eeddef0e60c065f82526ab06c8bb0b2509f674aa3552ca282be", func := "loop.example/buildroads/laws.FnExactOrderTopo", spec := "fnExactOrderTopo", inPlace := ["slices.overlaps[int]"], unfollowed := true, recurses := true, loops := true, apart := false, narrowed := true }
def FnExactOrderTopoUptoSaid : Prop := fnExactOrderTopoUptoRow.holds Try.pinned (OpenSpec.upto fnExactOrderTopoSpec)

/-- 'laws.FnExactOrderSuspend', WHERE WHAT IT READS IS OF BULK AT MOST 1048576: true; the input reads as it did. -/
def fnExactOrderSuspendUptoRow : OpenClaim := { program := "ytklmpagpkeffjaa", sum := "161f427459e75eeddef0e60c065f82526ab06c8bb0b2509f674aa3552ca282be", func := "loop.example/buildroads/laws.FnExactOrderSuspend", spec := "fnExactOrderSuspend", unfollowed := true, recurses := true, loops := true, apart := false, narrowed := true }
def FnExactOrderSuspendUptoSaid : Prop := fnExactOrderSuspendUptoRow.holds Try.pinned (OpenSpec.upto fnExactOrderSuspendSpec)

/-- 'laws.FnExactOrderRestart', WHERE WHAT IT READS IS OF BULK AT MOST 1048576: true; the input reads as it did. -/
def fnExactOrderRestartUptoRow : OpenClaim := { program := "ytklmpagpkeffjaa", sum := "161f427459e75eeddef0e60c065f82526ab06c8bb0b2509f674aa3552ca282be", func := "loop.example/buildroads/laws.FnExactOrderRestart", spec := "fnExactOrderRestart", unfollowed := true, recurses := true, loops := true, apart := false, narrowed := true }
def FnExactOrderRestartUptoSaid : Prop := fnExactOrderRestartUptoRow.holds Try.pinned (OpenSpec.upto fnExactOrderRestartSpec)

/-- 'laws.FnExactOrderFits', WHERE WHAT IT READS IS OF BULK AT MOST 1048576: true; the input reads as it did. -/
def fnExactOrderFitsUptoRow : OpenClaim := { program := "ytklmpagpkeffjaa", sum := "161f427459e75eeddef0e60c065f82526ab06c8bb0b2509f674aa3552ca282be", func := "loop.example/buildroads/laws.FnExactOrderFits", spec := "fnExactOrderFits", unfollowed := true, recurses := true, loops := true, apart := false, narrowed := true }
def FnExactOrderFitsUptoSaid : Prop := fnExactOrderFitsUptoRow.holds Try.pinned (OpenSpec.upto fnExactOrderFitsSpec)

end Rows
end Go.Proofs.Ytklmpagpkeffjaa
