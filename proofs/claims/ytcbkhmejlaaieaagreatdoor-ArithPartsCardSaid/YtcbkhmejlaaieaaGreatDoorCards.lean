/-
  DERIVED. GIVEN WITH THE SEED: THE CARDS: each row of YtcbkhmejlaaieaaGreatDoorRows.lean that lists a variable, with what it lists TIED to the program's text (the seventh form; the later family's looks); each row that meets fmt, with fmt's text TOLD by the authors' own Lean function (tested against real Go, not proved from fmt's source: count such statements apart). THE CARD IS WHAT COUNTS. Prove the row's statement (the work); the ties are given (YtcbkhmejlaaieaaGreatDoorTie.lean); close each card by the builder's one call (the guide's Derived/Test/ToyasCard.lean, 'card_holds'). Laid BY PROGRAM, IN A SANDBOX (cutbox-door.mjs). By AI agents, Wed Nov 11 2026. No macro, syntax, notation, axiom, sorry.
-/
import Derived.Test.YtcbkhmejlaaieaaGreatDoorRows
import GoSem.ClaimSeven
namespace Go.Proofs.YtcbkhmejlaaieaaGreatDoor
namespace Rows

/-- THE TIED CARD OF 'sluicewaylaw6.ArithAsks'. -/
def arithAsksCard : Claim7 := { stood := { row := arithAsksRow, standIns := [], harness := (true, "0a872de3fe72575c1220b7274eaae874a8fee52a2d8c42f907ef0ffde597e897"), looks := true }, kinds := [], alts := [], laidByText := true, laidKinds := [.data], laidTests := true, laidLooks := .later }
def ArithAsksCardSaid : Prop := Claim7.holds Tryz.pinned (.plain (OpenSpec.ofChange arithAsksSpec)) arithAsksCard

/-- THE TIED CARD OF 'sluicewaylaw6.ArithParts'. -/
def arithPartsCard : Claim7 := { stood := { row := arithPartsRow, standIns := [], harness := (true, "0a872de3fe72575c1220b7274eaae874a8fee52a2d8c42f907ef0ffde597e897"), looks := true }, kinds := [], alts := [], laidByText := true, laidKinds := [.data], laidTests := true, laidLooks := .later }
def ArithPartsCardSaid : Prop := Claim7.holds Tryz.pinned (.plain (OpenSpec.ofChange arithPartsSpec)) arithPartsCard

/-- THE TIED CARD OF 'sluicewaylaw6.ArithGrows'. -/
def arithGrowsCard : Claim7 := { stood := { row := arithGrowsRow, standIns := [], harness := (true, "0a872de3fe72575c1220b7274eaae874a8fee52a2d8c42f907ef0ffde597e897"), looks := true }, kinds := [], alts := [], laidByText := true, laidKinds := [.data], laidTests := true, laidLooks := .later }
def ArithGrowsCardSaid : Prop := Claim7.holds Tryz.pinned (.plain (OpenSpec.ofChange arithGrowsSpec)) arithGrowsCard

/-- THE TIED CARD OF 'sluicewaylaw6.ArithPoints'. -/
def arithPointsCard : Claim7 := { stood := { row := arithPointsRow, standIns := [], harness := (true, "0a872de3fe72575c1220b7274eaae874a8fee52a2d8c42f907ef0ffde597e897"), looks := true }, kinds := [], alts := [], laidByText := true, laidKinds := [.data], laidTests := true, laidLooks := .later }
def ArithPointsCardSaid : Prop := Claim7.holds Tryz.pinned (.plain (OpenSpec.ofChange arithPointsSpec)) arithPointsCard

/-- THE TIED CARD OF 'sluicewaylaw6.ArithTurns'. -/
def arithTurnsCard : Claim7 := { stood := { row := arithTurnsRow, standIns := [], harness := (true, "0a872de3fe72575c1220b7274eaae874a8fee52a2d8c42f907ef0ffde597e897"), looks := true }, kinds := [], alts := [], laidByText := true, laidKinds := [.data], laidTests := true, laidLooks := .later }
def ArithTurnsCardSaid : Prop := Claim7.holds Tryz.pinned (.plain (OpenSpec.ofChange arithTurnsSpec)) arithTurnsCard

/-- THE TIED CARD OF 'sluicewaylaw6.ArithUndo'. -/
def arithUndoCard : Claim7 := { stood := { row := arithUndoRow, standIns := [], harness := (true, "0a872de3fe72575c1220b7274eaae874a8fee52a2d8c42f907ef0ffde597e897"), looks := true }, kinds := [], alts := [], laidByText := true, laidKinds := [.data], laidTests := true, laidLooks := .later }
def ArithUndoCardSaid : Prop := Claim7.holds Tryz.pinned (.plain (OpenSpec.ofChange arithUndoSpec)) arithUndoCard

/-- THE SECOND FORM's CARD OF 'sluicewaylaw6.ArithAsks'. -/
def arithAsksUptoCard : Claim7 := { stood := { row := arithAsksUptoRow, standIns := [], harness := (true, "0a872de3fe72575c1220b7274eaae874a8fee52a2d8c42f907ef0ffde597e897"), looks := true }, kinds := [], alts := [], laidByText := true, laidKinds := [.data], laidTests := true, laidLooks := .later }
def ArithAsksUptoCardSaid : Prop := Claim7.holds Tryz.pinned (.plain (OpenSpec.upto arithAsksSpec)) arithAsksUptoCard

/-- THE SECOND FORM's CARD OF 'sluicewaylaw6.ArithParts'. -/
def arithPartsUptoCard : Claim7 := { stood := { row := arithPartsUptoRow, standIns := [], harness := (true, "0a872de3fe72575c1220b7274eaae874a8fee52a2d8c42f907ef0ffde597e897"), looks := true }, kinds := [], alts := [], laidByText := true, laidKinds := [.data], laidTests := true, laidLooks := .later }
def ArithPartsUptoCardSaid : Prop := Claim7.holds Tryz.pinned (.plain (OpenSpec.upto arithPartsSpec)) arithPartsUptoCard

/-- THE SECOND FORM's CARD OF 'sluicewaylaw6.ArithGrows'. -/
def arithGrowsUptoCard : Claim7 := { stood := { row := arithGrowsUptoRow, standIns := [], harness := (true, "0a872de3fe72575c1220b7274eaae874a8fee52a2d8c42f907ef0ffde597e897"), looks := true }, kinds := [], alts := [], laidByText := true, laidKinds := [.data], laidTests := true, laidLooks := .later }
def ArithGrowsUptoCardSaid : Prop := Claim7.holds Tryz.pinned (.plain (OpenSpec.upto arithGrowsSpec)) arithGrowsUptoCard

/-- THE SECOND FORM's CARD OF 'sluicewaylaw6.ArithPoints'. -/
def arithPointsUptoCard : Claim7 := { stood := { row := arithPointsUptoRow, standIns := [], harness := (true, "0a872de3fe72575c1220b7274eaae874a8fee52a2d8c42f907ef0ffde597e897"), looks := true }, kinds := [], alts := [], laidByText := true, laidKinds := [.data], laidTests := true, laidLooks := .later }
def ArithPointsUptoCardSaid : Prop := Claim7.holds Tryz.pinned (.plain (OpenSpec.upto arithPointsSpec)) arithPointsUptoCard

/-- THE SECOND FORM's CARD OF 'sluicewaylaw6.ArithTurns'. -/
def arithTurnsUptoCard : Claim7 := { stood := { row := arithTurnsUptoRow, standIns := [], harness := (true, "0a872de3fe72575c1220b7274eaae874a8fee52a2d8c42f907ef0ffde597e897"), looks := true }, kinds := [], alts := [], laidByText := true, laidKinds := [.data], laidTests := true, laidLooks := .later }
def ArithTurnsUptoCardSaid : Prop := Claim7.holds Tryz.pinned (.plain (OpenSpec.upto arithTurnsSpec)) arithTurnsUptoCard

/-- THE SECOND FORM's CARD OF 'sluicewaylaw6.ArithUndo'. -/
def arithUndoUptoCard : Claim7 := { stood := { row := arithUndoUptoRow, standIns := [], harness := (true, "0a872de3fe72575c1220b7274eaae874a8fee52a2d8c42f907ef0ffde597e897"), looks := true }, kinds := [], alts := [], laidByText := true, laidKinds := [.data], laidTests := true, laidLooks := .later }
def ArithUndoUptoCardSaid : Prop := Claim7.holds Tryz.pinned (.plain (OpenSpec.upto arithUndoSpec)) arithUndoUptoCard
end Rows
end Go.Proofs.YtcbkhmejlaaieaaGreatDoor
