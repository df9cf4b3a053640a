/-
  No cell of these rows narrows 'for every input' (looked for: loops, veiled, ifaces, maps, wideKeys, modest, calm, conditions, laid).
  DERIVED. THE GIVEN ROWS OF THIS SEAT. 3 by the template 'for every input the law returns true; each argument reads behind the call as it read before'; 0 by the template 'total and deterministic' (their statements: YtdkapdkkoiejoaaTotals.lean).
  GIVEN WITH THE SEED: the statements are not yours to turn. If you find one false, say at which input.
  Laid BY PROGRAM, IN A SANDBOX (cutbox-rows.mjs): the forced cells as the released guide's own fill.sh prints them over the translation 74b50d4a25fbb0b7… (all of the seat's roots in one cut). By AI agents, Wed Nov 11 2026. No macro, syntax, notation, axiom, sorry.
-/
import Derived.Test.YtdkapdkkoiejoaaChecked
import GoSem.Claim
import GoSem.ClaimJoined
import GoSem.ClaimMapViews
import Derived.JoinedTies
import Derived.KernelRfl
namespace Go.Proofs.Ytdkapdkkoiejoaa
/- THE CELL 'sum', in the pinned program and in every row, IS THE sha256 OF THE DUMP (.gsa) THAT YtdkapdkkoiejoaaProg.lean LOADS. Nothing in Lean hashes anything: it is a label: what it is worth is what the hold of that sum in a sandbox is worth. -/
noncomputable def Try.pinned : Pinned := { name := "ytdkapdkkoiejoaa", sum := "74b50d4a25fbb0b72192ae9bc66f84f6951e44951d747fb6c87b5a57cca49020", checked := Try.checked }
namespace Rows
def none {H : Type} : Left H := { results := [], args := [] }

/-- 'laws.FnTraceOf': WHATEVER THE INPUT: true; the input reads as it did. -/
def fnTraceOfSpec : ChangeSpec := { name := "fnTraceOf", fn := fun _ => fun
  | [d] => { results := [.lit (.bool true)], args := [d] }
  | _ => none }
def fnTraceOfRow : OpenClaim := { program := "ytdkapdkkoiejoaa", sum := "74b50d4a25fbb0b72192ae9bc66f84f6951e44951d747fb6c87b5a57cca49020", func := "loop.example/buildroads/laws.FnTraceOf", spec := "fnTraceOf", unfollowed := true, recurses := true, apart := false }
def FnTraceOfSaid : Prop := fnTraceOfRow.holds Try.pinned (OpenSpec.ofChange fnTraceOfSpec)

/-- ITS FALSE NEIGHBOUR: 'it returns false'. Refute it at one input. -/
def fnTraceOfWrong : ChangeSpec := { name := "fnTraceOf", fn := fun _ => fun
  | [d] => { results := [.lit (.bool false)], args := [d] }
  | _ => none }
def FnTraceOfWrongFalsely : Prop := fnTraceOfRow.holds Try.pinned (OpenSpec.ofChange fnTraceOfWrong)

/-- 'laws.FnTraceHolds': WHATEVER THE INPUT: true; the input reads as it did. -/
def fnTraceHoldsSpec : ChangeSpec := { name := "fnTraceHolds", fn := fun _ => fun
  | [d] => { results := [.lit (.bool true)], args := [d] }
  | _ => none }
def fnTraceHoldsRow : OpenClaim := { program := "ytdkapdkkoiejoaa", sum := "74b50d4a25fbb0b72192ae9bc66f84f6951e44951d747fb6c87b5a57cca49020", func := "loop.example/buildroads/laws.FnTraceHolds", spec := "fnTraceHolds", unfollowed := true, recurses := true, apart := false }
def FnTraceHoldsSaid : Prop := fnTraceHoldsRow.holds Try.pinned (OpenSpec.ofChange fnTraceHoldsSpec)

/-- ITS FALSE NEIGHBOUR: 'it returns false'. Refute it at one input. -/
def fnTraceHoldsWrong : ChangeSpec := { name := "fnTraceHolds", fn := fun _ => fun
  | [d] => { results := [.lit (.bool false)], args := [d] }
  | _ => none }
def FnTraceHoldsWrongFalsely : Prop := fnTraceHoldsRow.holds Try.pinned (OpenSpec.ofChange fnTraceHoldsWrong)

/-- 'laws.FnTracesOk': WHATEVER THE INPUT: true; the input reads as it did. -/
def fnTracesOkSpec : ChangeSpec := { name := "fnTracesOk", fn := fun _ => fun
  | [d] => { results := [.lit (.bool true)], args := [d] }
  | _ => none }
def fnTracesOkRow : OpenClaim := { program := "ytdkapdkkoiejoaa", sum := "74b50d4a25fbb0b72192ae9bc66f84f6951e44951d747fb6c87b5a57cca49020", func := "loop.example/buildroads/laws.FnTracesOk", spec := "fnTracesOk", recurses := true, apart := false }
def FnTracesOkSaid : Prop := fnTracesOkRow.holds Try.pinned (OpenSpec.ofChange fnTracesOkSpec)

/-- ITS FALSE NEIGHBOUR: 'it returns false'. Refute it at one input. -/
def fnTracesOkWrong : ChangeSpec := { name := "fnTracesOk", fn := fun _ => fun
  | [d] => { results := [.lit (.bool false)], args := [d] }
  | _ => none }
def FnTracesOkWrongFalsely : Prop := fnTracesOkRow.holds Try.pinned (OpenSpec.ofChange fnTracesOkWrong)

/- THE SECOND FORM. 'bulk': how many values and letters a reading holds, each counted each time it is reached (what is shared counts as often as it is met; a slice's spare places count too). A statement '..UptoSaid' is the law's where the arguments, and the package variables that the reading takes, are together of bulk at most 1048576: NARROWER than '..Said'. Prove '..Said' where nothing that the law and all that it calls make is longer than what came in: it says more and counts as full. Else prove '..UptoSaid'. A law counts once. -/
mutual
def uptoBulk {H : Type} : DataW H → Nat
  | .lit (.string bytes) => bytes.length + 1
  | .lit _ => 1
  | .nil => 1
  | .ptr d => uptoBulk d + 1
  | .slice elems spare => uptoBulkAll elems + uptoBulkAll spare + 1
  | .agg parts => uptoBulkAll parts + 1
  | .iface _ d => uptoBulk d + 1
  | .map entries => uptoBulkEntries entries + 1
  | .held _ => 1
def uptoBulkAll {H : Type} : List (DataW H) → Nat
  | [] => 0
  | d :: r => uptoBulk d + uptoBulkAll r
def uptoBulkEntries {H : Type} : List (Lit × DataW H) → Nat
  | [] => 0
  | x :: r => uptoBulkEntry x + uptoBulkEntries r
def uptoBulkEntry {H : Type} : Lit × DataW H → Nat
  | (.string bytes, d) => bytes.length + uptoBulk d + 1
  | (_, d) => uptoBulk d + 1
 end
def uptoSmall : (H : Type) → List (DataW H) → Bool := fun _ ds => decide (uptoBulkAll ds ≤ 1048576)
def OpenSpec.upto (s : _root_.Go.ChangeSpec) : _root_.Go.OpenSpec := { _root_.Go.OpenSpec.ofChange s with cond := some uptoSmall }

/-- 'laws.FnTraceOf', WHERE WHAT IT READS IS OF BULK AT MOST 1048576: true; the input reads as it did. -/
def fnTraceOfUptoRow : OpenClaim := { program := "ytdkapdkkoiejoaa", sum := "74b50d4a25fbb0b72192ae9bc66f84f6951e44951d747fb6c87b5a57cca49020", func := "loop.example/buildroads/laws.FnTraceOf", spec := "fnTraceOf", unfollowed := true, recurses := true, apart := false, narrowed := true }
def FnTraceOfUptoSaid : Prop := fnTraceOfUptoRow.holds Try.pinned (OpenSpec.upto fnTraceOfSpec)

/-- 'laws.FnTraceHolds', WHERE WHAT IT READS IS OF BULK AT MOST 1048576: true; the input reads as it did. -/
def fnTraceHoldsUptoRow : OpenClaim := { program := "ytdkapdkkoiejoaa", sum := "74b50d4a25fbb0b72192ae9bc66f84f6951e44951d747fb6c87b5a57cca49020", func := "loop.example/buildroads/laws.FnTraceHolds", spec := "fnTraceHolds", unfollowed := true, recurses := true, apart := false, narrowed := true }
def FnTraceHoldsUptoSaid : Prop := fnTraceHoldsUptoRow.holds Try.pinned (OpenSpec.upto fnTraceHoldsSpec)

/-- 'laws.FnTracesOk', WHERE WHAT IT READS IS OF BULK AT MOST 1048576: true; the input reads as it did. -/
def fnTracesOkUptoRow : OpenClaim := { program := "ytdkapdkkoiejoaa", sum := "74b50d4a25fbb0b72192ae9bc66f84f6951e44951d747fb6c87b5a57cca49020", func := "loop.example/buildroads/laws.FnTracesOk", spec := "fnTracesOk", recurses := true, apart := false, narrowed := true }
def FnTracesOkUptoSaid : Prop := fnTracesOkUptoRow.holds Try.pinned (OpenSpec.upto fnTracesOkSpec)

end Rows
end Go.Proofs.Ytdkapdkkoiejoaa
