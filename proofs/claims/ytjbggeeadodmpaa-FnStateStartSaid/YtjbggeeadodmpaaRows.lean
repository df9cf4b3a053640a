/-
  No cell of these rows narrows 'for every input' (looked for: loops, veiled, ifaces, maps, wideKeys, modest, calm, conditions, laid).
  DERIVED. THE GIVEN ROWS OF THIS SEAT. 5 by the template 'for every input the law returns true; each argument reads behind the call as it read before'; 0 by the template 'total and deterministic' (their statements: YtjbggeeadodmpaaTotals.lean).
  GIVEN WITH THE SEED: the statements are not yours to turn. If you find one false, say at which input.
  Laid BY PROGRAM, IN A SANDBOX (cutbox-rows.mjs): the forced cells as the released guide's own fill.sh prints them over the translation 25ead30b8b53b253… (all of the seat's roots in one cut). By AI agents, Wed Nov 11 2026. No macro, syntax, notation, axiom, sorry.
-/
import Derived.Test.YtjbggeeadodmpaaChecked
import GoSem.Claim
import GoSem.ClaimJoined
import GoSem.ClaimMapViews
import Derived.JoinedTies
import Derived.KernelRfl
namespace Go.Proofs.Ytjbggeeadodmpaa
/- THE CELL 'sum', in the pinned program and in every row, IS THE sha256 OF THE DUMP (.gsa) THAT YtjbggeeadodmpaaProg.lean LOADS. Nothing in Lean hashes anything: it is a label: what it is worth is what the hold of that sum in a sandbox is worth. -/
noncomputable def Try.pinned : Pinned := { name := "ytjbggeeadodmpaa", sum := "25ead30b8b53b253b19582cdb35b6526f4f5e095822081a22f1f111dbaef63d1", checked := Try.checked }
namespace Rows
def none {H : Type} : Left H := { results := [], args := [] }

/-- 'laws.FnTraceHolds': WHATEVER THE INPUT: true; the input reads as it did. -/
def fnTraceHoldsSpec : ChangeSpec := { name := "fnTraceHolds", fn := fun _ => fun
  | [d] => { results := [.lit (.bool true)], args := [d] }
  | _ => none }
def fnTraceHoldsRow : OpenClaim := { program := "ytjbggeeadodmpaa", sum := "25ead30b8b53b253b19582cdb35b6526f4f5e095822081a22f1f111dbaef63d1", func := "loop.example/buildroads/laws.FnTraceHolds", spec := "fnTraceHolds", unfollowed := true, recurses := true, apart := false }
def FnTraceHoldsSaid : Prop := fnTraceHoldsRow.holds Try.pinned (OpenSpec.ofChange fnTraceHoldsSpec)

/-- ITS FALSE NEIGHBOUR: 'it returns false'. Refute it at one input. -/
def fnTraceHoldsWrong : ChangeSpec := { name := "fnTraceHolds", fn := fun _ => fun
  | [d] => { results := [.lit (.bool false)], args := [d] }
  | _ => none }
def FnTraceHoldsWrongFalsely : Prop := fnTraceHoldsRow.holds Try.pinned (OpenSpec.ofChange fnTraceHoldsWrong)

/-- 'laws.FnTracesOk': WHATEVER THE INPUT: true; the input reads as it did. -/
def fnTracesOkSpec : ChangeSpec := { name := "fnTracesOk", fn := fun _ => fun
  | [d] => { results := [.lit (.bool true)], args := [d] }
  | _ => none }
def fnTracesOkRow : OpenClaim := { program := "ytjbggeeadodmpaa", sum := "25ead30b8b53b253b19582cdb35b6526f4f5e095822081a22f1f111dbaef63d1", func := "loop.example/buildroads/laws.FnTracesOk", spec := "fnTracesOk", recurses := true, apart := false }
def FnTracesOkSaid : Prop := fnTracesOkRow.holds Try.pinned (OpenSpec.ofChange fnTracesOkSpec)

/-- ITS FALSE NEIGHBOUR: 'it returns false'. Refute it at one input. -/
def fnTracesOkWrong : ChangeSpec := { name := "fnTracesOk", fn := fun _ => fun
  | [d] => { results := [.lit (.bool false)], args := [d] }
  | _ => none }
def FnTracesOkWrongFalsely : Prop := fnTracesOkRow.holds Try.pinned (OpenSpec.ofChange fnTracesOkWrong)

/-- 'laws.FnTracesFind': WHATEVER THE INPUT: true; the input reads as it did. -/
def fnTracesFindSpec : ChangeSpec := { name := "fnTracesFind", fn := fun _ => fun
  | [d] => { results := [.lit (.bool true)], args := [d] }
  | _ => none }
def fnTracesFindRow : OpenClaim := { program := "ytjbggeeadodmpaa", sum := "25ead30b8b53b253b19582cdb35b6526f4f5e095822081a22f1f111dbaef63d1", func := "loop.example/buildroads/laws.FnTracesFind", spec := "fnTracesFind", unfollowed := true, recurses := true, apart := false }
def FnTracesFindSaid : Prop := fnTracesFindRow.holds Try.pinned (OpenSpec.ofChange fnTracesFindSpec)

/-- ITS FALSE NEIGHBOUR: 'it returns false'. Refute it at one input. -/
def fnTracesFindWrong : ChangeSpec := { name := "fnTracesFind", fn := fun _ => fun
  | [d] => { results := [.lit (.bool false)], args := [d] }
  | _ => none }
def FnTracesFindWrongFalsely : Prop := fnTracesFindRow.holds Try.pinned (OpenSpec.ofChange fnTracesFindWrong)

/-- 'laws.FnTracesPut': WHATEVER THE INPUT: true; the input reads as it did. -/
def fnTracesPutSpec : ChangeSpec := { name := "fnTracesPut", fn := fun _ => fun
  | [d] => { results := [.lit (.bool true)], args := [d] }
  | _ => none }
def fnTracesPutRow : OpenClaim := { program := "ytjbggeeadodmpaa", sum := "25ead30b8b53b253b19582cdb35b6526f4f5e095822081a22f1f111dbaef63d1", func := "loop.example/buildroads/laws.FnTracesPut", spec := "fnTracesPut", recurses := true, apart := false }
def FnTracesPutSaid : Prop := fnTracesPutRow.holds Try.pinned (OpenSpec.ofChange fnTracesPutSpec)

/-- ITS FALSE NEIGHBOUR: 'it returns false'. Refute it at one input. -/
def fnTracesPutWrong : ChangeSpec := { name := "fnTracesPut", fn := fun _ => fun
  | [d] => { results := [.lit (.bool false)], args := [d] }
  | _ => none }
def FnTracesPutWrongFalsely : Prop := fnTracesPutRow.holds Try.pinned (OpenSpec.ofChange fnTracesPutWrong)

/-- 'laws.FnStateStart': WHATEVER THE INPUT: true; the input reads as it did. -/
def fnStateStartSpec : ChangeSpec := { name := "fnStateStart", fn := fun _ => fun
  | [d] => { results := [.lit (.bool true)], args := [d] }
  | _ => none }
def fnStateStartRow : OpenClaim := { program := "ytjbggeeadodmpaa", sum := "25ead30b8b53b253b19582cdb35b6526f4f5e095822081a22f1f111dbaef63d1", func := "loop.example/buildroads/laws.FnStateStart", spec := "fnStateStart", unfollowed := true, recurses := true, apart := false }
def FnStateStartSaid : Prop := fnStateStartRow.holds Try.pinned (OpenSpec.ofChange fnStateStartSpec)

/-- ITS FALSE NEIGHBOUR: 'it returns false'. Refute it at one input. -/
def fnStateStartWrong : ChangeSpec := { name := "fnStateStart", fn := fun _ => fun
  | [d] => { results := [.lit (.bool false)], args := [d] }
  | _ => none }
def FnStateStartWrongFalsely : Prop := fnStateStartRow.holds Try.pinned (OpenSpec.ofChange fnStateStartWrong)

/- THE SECOND FORM. 'bulk': how many values and letters a reading holds, each counted each time it is reached (what is shared counts as often as it is met; a slice's spare places count too). A statement '..UptoSaid' is the law's where the arguments, and the package variables that the reading takes, are together of bulk at most 1048576: NARROWER than '..Said'. Prove '..Said' where nothing that the law and all that it calls make is longer than what came in: it says more and counts as full. Else prove '..UptoSaid'. A law counts once. -/
mutual
def uptoBulk {H : Type} : DataW H → Nat
  | .lit (.string bytes) => bytes.length + 1
  | .lit _ => 1
  | .nil => 1
  | .ptr d => uptoBulk d + 1
  | .slice elems spare => uptoBulkAll elems + uptoBulkAll spare + 1
  | .agg parts => uptoBulkAll parts + 1
  | .iface _ d => uptoBulk d + 1
  | .map entries => uptoBulkEntries entries + 1
  | .held _ => 1
def uptoBulkAll {H : Type} : List (DataW H) → Nat
  | [] => 0
  | d :: r => uptoBulk d + uptoBulkAll r
def uptoBulkEntries {H : Type} : List (Lit × DataW H) → Nat
  | [] => 0
  | x :: r => uptoBulkEntry x + uptoBulkEntries r
def uptoBulkEntry {H : Type} : Lit × DataW H → Nat
  | (.string bytes, d) => bytes.length + uptoBulk d + 1
  | (_, d) => uptoBulk d + 1
 end
def uptoSmall : (H : Type) → List (DataW H) → Bool := fun _ ds => decide (uptoBulkAll ds ≤ 1048576)
def OpenSpec.upto (s : _root_.Go.ChangeSpec) : _root_.Go.OpenSpec := { _root_.Go.OpenSpec.ofChange s with cond := some uptoSmall }

/-- 'laws.FnTraceHolds', WHERE WHAT IT READS IS OF BULK AT MOST 1048576: true; the input reads as it did. -/
def fnTraceHoldsUptoRow : OpenClaim := { program := "ytjbggeeadodmpaa", sum := "25ead30b8b53b253b19582cdb35b6526f4f5e095822081a22f1f111dbaef63d1", func := "loop.example/buildroads/laws.FnTraceHolds", spec := "fnTraceHolds", unfollowed := true, recurses := true, apart := false, narrowed := true }
def FnTraceHoldsUptoSaid : Prop := fnTraceHoldsUptoRow.holds Try.pinned (OpenSpec.upto fnTraceHoldsSpec)

/-- 'laws.FnTracesOk', WHERE WHAT IT READS IS OF BULK AT MOST 1048576: true; the input reads as it did. -/
def fnTracesOkUptoRow : OpenClaim := { program := "ytjbggeeadodmpaa", sum := "25ead30b8b53b253b19582cdb35b6526f4f5e095822081a22f1f111dbaef63d1", func := "loop.example/buildroads/laws.FnTracesOk", spec := "fnTracesOk", recurses := true, apart := false, narrowed := true }
def FnTracesOkUptoSaid : Prop := fnTracesOkUptoRow.holds Try.pinned (OpenSpec.upto fnTracesOkSpec)

/-- 'laws.FnTracesFind', WHERE WHAT IT READS IS OF BULK AT MOST 1048576: true; the input reads as it did. -/
def fnTracesFindUptoRow : OpenClaim := { program := "ytjbggeeadodmpaa", sum := "25ead30b8b53b253b19582cdb35b6526f4f5e095822081a22f1f111dbaef63d1", func := "loop.example/buildroads/laws.FnTracesFind", spec := "fnTracesFind", unfollowed := true, recurses := true, apart := false, narrowed := true }
def FnTracesFindUptoSaid : Prop := fnTracesFindUptoRow.holds Try.pinned (OpenSpec.upto fnTracesFindSpec)

/-- 'laws.FnTracesPut', WHERE WHAT IT READS IS OF BULK AT MOST 1048576: true; the input reads as it did. -/
def fnTracesPutUptoRow : OpenClaim := { program := "ytjbggeeadodmpaa", sum := "25ead30b8b53b253b19582cdb35b6526f4f5e095822081a22f1f111dbaef63d1", func := "loop.example/buildroads/laws.FnTracesPut", spec := "fnTracesPut", recurses := true, apart := false, narrowed := true }
def FnTracesPutUptoSaid : Prop := fnTracesPutUptoRow.holds Try.pinned (OpenSpec.upto fnTracesPutSpec)

/-- 'laws.FnStateStart', WHERE WHAT IT READS IS OF BULK AT MOST 1048576: true; the input reads as it did. -/
def fnStateStartUptoRow : OpenClaim := { program := "ytjbggeeadodmpaa", sum := "25ead30b8b53b253b19582cdb35b6526f4f5e095822081a22f1f111dbaef63d1", func := "loop.example/buildroads/laws.FnStateStart", spec := "fnStateStart", unfollowed := true, recurses := true, apart := false, narrowed := true }
def FnStateStartUptoSaid : Prop := fnStateStartUptoRow.holds Try.pinned (OpenSpec.upto fnStateStartSpec)

end Rows
end Go.Proofs.Ytjbggeeadodmpaa
