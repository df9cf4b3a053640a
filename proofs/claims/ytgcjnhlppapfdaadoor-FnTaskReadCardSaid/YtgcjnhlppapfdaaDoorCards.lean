/-
  DERIVED. GIVEN WITH THE SEED: THE CARDS: each row of YtgcjnhlppapfdaaDoorRows.lean that lists a variable, with what it lists TIED to the program's text (the seventh form; the later family's looks); each row that meets fmt, with fmt's text TOLD by the authors' own Lean function (tested against real Go, not proved from fmt's source: count such statements apart). THE CARD IS WHAT COUNTS. Prove the row's statement (the work); the ties are given (YtgcjnhlppapfdaaDoorTie.lean); close each card by the builder's one call (the guide's Derived/Test/ToyasCard.lean, 'card_holds'). Laid BY PROGRAM, IN A SANDBOX (cutbox-door.mjs). By AI agents, Wed Nov 11 2026. No macro, syntax, notation, axiom, sorry.
-/
import Derived.Test.YtgcjnhlppapfdaaDoorRows
import GoSem.ClaimSeven
namespace Go.Proofs.YtgcjnhlppapfdaaDoor
namespace Rows

/-- THE TIED CARD OF 'laws.FnTaskText'. -/
def fnTaskTextCard : Claim7 := { stood := { row := fnTaskTextRow, standIns := [], harness := (true, "0eaded9f4d2a857d62bb92701c0e0b923355e7fe662f99aba3053e8641aecbac"), looks := false }, kinds := [], alts := [], laidByText := true, laidKinds := [.data, .data, .data], laidTests := true, laidLooks := .later }
def FnTaskTextCardSaid : Prop := Claim7.holds Tryd.pinned (.plain (OpenSpec.ofChange fnTaskTextSpec)) fnTaskTextCard

/-- THE TIED CARD OF 'laws.FnTaskRead'. -/
def fnTaskReadCard : Claim7 := { stood := { row := fnTaskReadRow, standIns := [], harness := (true, "0eaded9f4d2a857d62bb92701c0e0b923355e7fe662f99aba3053e8641aecbac"), looks := false }, kinds := [], alts := [], laidByText := true, laidKinds := [.data, .data, .data], laidTests := true, laidLooks := .later }
def FnTaskReadCardSaid : Prop := Claim7.holds Tryd.pinned (.plain (OpenSpec.ofChange fnTaskReadSpec)) fnTaskReadCard

/-- THE SECOND FORM's CARD OF 'laws.FnTaskText'. -/
def fnTaskTextUptoCard : Claim7 := { stood := { row := fnTaskTextUptoRow, standIns := [], harness := (true, "0eaded9f4d2a857d62bb92701c0e0b923355e7fe662f99aba3053e8641aecbac"), looks := false }, kinds := [], alts := [], laidByText := true, laidKinds := [.data, .data, .data], laidTests := true, laidLooks := .later }
def FnTaskTextUptoCardSaid : Prop := Claim7.holds Tryd.pinned (.plain (OpenSpec.upto fnTaskTextSpec)) fnTaskTextUptoCard

/-- THE SECOND FORM's CARD OF 'laws.FnTaskRead'. -/
def fnTaskReadUptoCard : Claim7 := { stood := { row := fnTaskReadUptoRow, standIns := [], harness := (true, "0eaded9f4d2a857d62bb92701c0e0b923355e7fe662f99aba3053e8641aecbac"), looks := false }, kinds := [], alts := [], laidByText := true, laidKinds := [.data, .data, .data], laidTests := true, laidLooks := .later }
def FnTaskReadUptoCardSaid : Prop := Claim7.holds Tryd.pinned (.plain (OpenSpec.upto fnTaskReadSpec)) fnTaskReadUptoCard
end Rows
end Go.Proofs.YtgcjnhlppapfdaaDoor
