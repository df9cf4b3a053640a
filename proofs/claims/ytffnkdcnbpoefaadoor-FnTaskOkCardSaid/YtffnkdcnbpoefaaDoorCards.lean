/-
  DERIVED. GIVEN WITH THE SEED: THE CARDS: each row of YtffnkdcnbpoefaaDoorRows.lean that lists a variable, with what it lists TIED to the program's text (the seventh form; the later family's looks); each row that meets fmt, with fmt's text TOLD by the authors' own Lean function (tested against real Go, not proved from fmt's source: count such statements apart). THE CARD IS WHAT COUNTS. Prove the row's statement (the work); the ties are given (YtffnkdcnbpoefaaDoorTie.lean); close each card by the builder's one call (the guide's Derived/Test/ToyasCard.lean, 'card_holds'). Laid BY PROGRAM, IN A SANDBOX (cutbox-door.mjs). By AI agents, Wed Nov 11 2026. No macro, syntax, notation, axiom, sorry.
-/
import Derived.Test.YtffnkdcnbpoefaaDoorRows
import GoSem.ClaimSeven
namespace Go.Proofs.YtffnkdcnbpoefaaDoor
namespace Rows

/-- THE TIED CARD OF 'laws.FnTaskOk'. -/
def fnTaskOkCard : Claim7 := { stood := { row := fnTaskOkRow, standIns := [], harness := (true, "481b4024afc67d5c75f56fb4ad514576f954bb8b2cffb4c87c0659236266a452"), looks := false }, kinds := [], alts := [], laidByText := true, laidKinds := [.data, .data, .data], laidTests := true, laidLooks := .later }
def FnTaskOkCardSaid : Prop := Claim7.holds Tryd.pinned (.plain (OpenSpec.ofChange fnTaskOkSpec)) fnTaskOkCard

/-- THE TIED CARD OF 'laws.FnTaskText'. -/
def fnTaskTextCard : Claim7 := { stood := { row := fnTaskTextRow, standIns := [], harness := (true, "481b4024afc67d5c75f56fb4ad514576f954bb8b2cffb4c87c0659236266a452"), looks := false }, kinds := [], alts := [], laidByText := true, laidKinds := [.data, .data, .data], laidTests := true, laidLooks := .later }
def FnTaskTextCardSaid : Prop := Claim7.holds Tryd.pinned (.plain (OpenSpec.ofChange fnTaskTextSpec)) fnTaskTextCard

/-- THE TIED CARD OF 'laws.FnTaskRead'. -/
def fnTaskReadCard : Claim7 := { stood := { row := fnTaskReadRow, standIns := [], harness := (true, "481b4024afc67d5c75f56fb4ad514576f954bb8b2cffb4c87c0659236266a452"), looks := false }, kinds := [], alts := [], laidByText := true, laidKinds := [.data, .data, .data], laidTests := true, laidLooks := .later }
def FnTaskReadCardSaid : Prop := Claim7.holds Tryd.pinned (.plain (OpenSpec.ofChange fnTaskReadSpec)) fnTaskReadCard

/-- THE TIED CARD OF 'laws.FnExactTaskText'. -/
def fnExactTaskTextCard : Claim7 := { stood := { row := fnExactTaskTextRow, standIns := [], harness := (true, "481b4024afc67d5c75f56fb4ad514576f954bb8b2cffb4c87c0659236266a452"), looks := false }, kinds := [], alts := [], laidByText := true, laidKinds := [.data, .data, .data], laidTests := true, laidLooks := .later }
def FnExactTaskTextCardSaid : Prop := Claim7.holds Tryd.pinned (.plain (OpenSpec.ofChange fnExactTaskTextSpec)) fnExactTaskTextCard

/-- THE SECOND FORM's CARD OF 'laws.FnTaskOk'. -/
def fnTaskOkUptoCard : Claim7 := { stood := { row := fnTaskOkUptoRow, standIns := [], harness := (true, "481b4024afc67d5c75f56fb4ad514576f954bb8b2cffb4c87c0659236266a452"), looks := false }, kinds := [], alts := [], laidByText := true, laidKinds := [.data, .data, .data], laidTests := true, laidLooks := .later }
def FnTaskOkUptoCardSaid : Prop := Claim7.holds Tryd.pinned (.plain (OpenSpec.upto fnTaskOkSpec)) fnTaskOkUptoCard

/-- THE SECOND FORM's CARD OF 'laws.FnTaskText'. -/
def fnTaskTextUptoCard : Claim7 := { stood := { row := fnTaskTextUptoRow, standIns := [], harness := (true, "481b4024afc67d5c75f56fb4ad514576f954bb8b2cffb4c87c0659236266a452"), looks := false }, kinds := [], alts := [], laidByText := true, laidKinds := [.data, .data, .data], laidTests := true, laidLooks := .later }
def FnTaskTextUptoCardSaid : Prop := Claim7.holds Tryd.pinned (.plain (OpenSpec.upto fnTaskTextSpec)) fnTaskTextUptoCard

/-- THE SECOND FORM's CARD OF 'laws.FnTaskRead'. -/
def fnTaskReadUptoCard : Claim7 := { stood := { row := fnTaskReadUptoRow, standIns := [], harness := (true, "481b4024afc67d5c75f56fb4ad514576f954bb8b2cffb4c87c0659236266a452"), looks := false }, kinds := [], alts := [], laidByText := true, laidKinds := [.data, .data, .data], laidTests := true, laidLooks := .later }
def FnTaskReadUptoCardSaid : Prop := Claim7.holds Tryd.pinned (.plain (OpenSpec.upto fnTaskReadSpec)) fnTaskReadUptoCard

/-- THE SECOND FORM's CARD OF 'laws.FnExactTaskText'. -/
def fnExactTaskTextUptoCard : Claim7 := { stood := { row := fnExactTaskTextUptoRow, standIns := [], harness := (true, "481b4024afc67d5c75f56fb4ad514576f954bb8b2cffb4c87c0659236266a452"), looks := false }, kinds := [], alts := [], laidByText := true, laidKinds := [.data, .data, .data], laidTests := true, laidLooks := .later }
def FnExactTaskTextUptoCardSaid : Prop := Claim7.holds Tryd.pinned (.plain (OpenSpec.upto fnExactTaskTextSpec)) fnExactTaskTextUptoCard
end Rows
end Go.Proofs.YtffnkdcnbpoefaaDoor
