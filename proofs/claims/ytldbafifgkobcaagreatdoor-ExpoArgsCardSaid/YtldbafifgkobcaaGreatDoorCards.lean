/-
  DERIVED. GIVEN WITH THE SEED: THE CARDS: each row of YtldbafifgkobcaaGreatDoorRows.lean that lists a variable, with what it lists TIED to the program's text (the seventh form; the later family's looks); each row that meets fmt, with fmt's text TOLD by the authors' own Lean function (tested against real Go, not proved from fmt's source: count such statements apart). THE CARD IS WHAT COUNTS. Prove the row's statement (the work); the ties are given (YtldbafifgkobcaaGreatDoorTie.lean); close each card by the builder's one call (the guide's Derived/Test/ToyasCard.lean, 'card_holds'). Laid BY PROGRAM, IN A SANDBOX (cutbox-door.mjs). By AI agents, Wed Nov 11 2026. No macro, syntax, notation, axiom, sorry.
-/
import Derived.Test.YtldbafifgkobcaaGreatDoorRows
import GoSem.ClaimSeven
namespace Go.Proofs.YtldbafifgkobcaaGreatDoor
namespace Rows

/-- THE TIED CARD OF 'sluicewaylaw7.ExpoAsks'. -/
def expoAsksCard : Claim7 := { stood := { row := expoAsksRow, standIns := [], harness := (true, "edcb94a67f6e8ff198065a3dc16d4c46943cfcae3c0ad23ba709c94dd92047a3"), looks := true }, kinds := [], alts := [], laidByText := true, laidKinds := [.data], laidTests := true, laidLooks := .later }
def ExpoAsksCardSaid : Prop := Claim7.holds Tryz.pinned (.plain (OpenSpec.ofChange expoAsksSpec)) expoAsksCard

/-- THE TIED CARD OF 'sluicewaylaw7.ExpoArgs'. -/
def expoArgsCard : Claim7 := { stood := { row := expoArgsRow, standIns := [], harness := (true, "edcb94a67f6e8ff198065a3dc16d4c46943cfcae3c0ad23ba709c94dd92047a3"), looks := true }, kinds := [], alts := [], laidByText := true, laidKinds := [.data], laidTests := true, laidLooks := .later }
def ExpoArgsCardSaid : Prop := Claim7.holds Tryz.pinned (.plain (OpenSpec.ofChange expoArgsSpec)) expoArgsCard

/-- THE TIED CARD OF 'sluicewaylaw7.ExpoRises'. -/
def expoRisesCard : Claim7 := { stood := { row := expoRisesRow, standIns := [], harness := (true, "edcb94a67f6e8ff198065a3dc16d4c46943cfcae3c0ad23ba709c94dd92047a3"), looks := true }, kinds := [], alts := [], laidByText := true, laidKinds := [.data], laidTests := true, laidLooks := .later }
def ExpoRisesCardSaid : Prop := Claim7.holds Tryz.pinned (.plain (OpenSpec.ofChange expoRisesSpec)) expoRisesCard

/-- THE TIED CARD OF 'sluicewaylaw7.ExpoSums'. -/
def expoSumsCard : Claim7 := { stood := { row := expoSumsRow, standIns := [], harness := (true, "edcb94a67f6e8ff198065a3dc16d4c46943cfcae3c0ad23ba709c94dd92047a3"), looks := true }, kinds := [], alts := [], laidByText := true, laidKinds := [.data], laidTests := true, laidLooks := .later }
def ExpoSumsCardSaid : Prop := Claim7.holds Tryz.pinned (.plain (OpenSpec.ofChange expoSumsSpec)) expoSumsCard

/-- THE TIED CARD OF 'sluicewaylaw7.ExpoOver'. -/
def expoOverCard : Claim7 := { stood := { row := expoOverRow, standIns := [], harness := (true, "edcb94a67f6e8ff198065a3dc16d4c46943cfcae3c0ad23ba709c94dd92047a3"), looks := true }, kinds := [], alts := [], laidByText := true, laidKinds := [.data], laidTests := true, laidLooks := .later }
def ExpoOverCardSaid : Prop := Claim7.holds Tryz.pinned (.plain (OpenSpec.ofChange expoOverSpec)) expoOverCard

/-- THE TIED CARD OF 'sluicewaylaw7.ExpoBounds'. -/
def expoBoundsCard : Claim7 := { stood := { row := expoBoundsRow, standIns := [], harness := (true, "edcb94a67f6e8ff198065a3dc16d4c46943cfcae3c0ad23ba709c94dd92047a3"), looks := true }, kinds := [], alts := [], laidByText := true, laidKinds := [.data], laidTests := true, laidLooks := .later }
def ExpoBoundsCardSaid : Prop := Claim7.holds Tryz.pinned (.plain (OpenSpec.ofChange expoBoundsSpec)) expoBoundsCard

/-- THE TIED CARD OF 'sluicewaylaw7.ExpoBits'. -/
def expoBitsCard : Claim7 := { stood := { row := expoBitsRow, standIns := [], harness := (true, "edcb94a67f6e8ff198065a3dc16d4c46943cfcae3c0ad23ba709c94dd92047a3"), looks := true }, kinds := [], alts := [], laidByText := true, laidKinds := [.data], laidTests := true, laidLooks := .later }
def ExpoBitsCardSaid : Prop := Claim7.holds Tryz.pinned (.plain (OpenSpec.ofChange expoBitsSpec)) expoBitsCard

/-- THE SECOND FORM's CARD OF 'sluicewaylaw7.ExpoAsks'. -/
def expoAsksUptoCard : Claim7 := { stood := { row := expoAsksUptoRow, standIns := [], harness := (true, "edcb94a67f6e8ff198065a3dc16d4c46943cfcae3c0ad23ba709c94dd92047a3"), looks := true }, kinds := [], alts := [], laidByText := true, laidKinds := [.data], laidTests := true, laidLooks := .later }
def ExpoAsksUptoCardSaid : Prop := Claim7.holds Tryz.pinned (.plain (OpenSpec.upto expoAsksSpec)) expoAsksUptoCard

/-- THE SECOND FORM's CARD OF 'sluicewaylaw7.ExpoArgs'. -/
def expoArgsUptoCard : Claim7 := { stood := { row := expoArgsUptoRow, standIns := [], harness := (true, "edcb94a67f6e8ff198065a3dc16d4c46943cfcae3c0ad23ba709c94dd92047a3"), looks := true }, kinds := [], alts := [], laidByText := true, laidKinds := [.data], laidTests := true, laidLooks := .later }
def ExpoArgsUptoCardSaid : Prop := Claim7.holds Tryz.pinned (.plain (OpenSpec.upto expoArgsSpec)) expoArgsUptoCard

/-- THE SECOND FORM's CARD OF 'sluicewaylaw7.ExpoRises'. -/
def expoRisesUptoCard : Claim7 := { stood := { row := expoRisesUptoRow, standIns := [], harness := (true, "edcb94a67f6e8ff198065a3dc16d4c46943cfcae3c0ad23ba709c94dd92047a3"), looks := true }, kinds := [], alts := [], laidByText := true, laidKinds := [.data], laidTests := true, laidLooks := .later }
def ExpoRisesUptoCardSaid : Prop := Claim7.holds Tryz.pinned (.plain (OpenSpec.upto expoRisesSpec)) expoRisesUptoCard

/-- THE SECOND FORM's CARD OF 'sluicewaylaw7.ExpoSums'. -/
def expoSumsUptoCard : Claim7 := { stood := { row := expoSumsUptoRow, standIns := [], harness := (true, "edcb94a67f6e8ff198065a3dc16d4c46943cfcae3c0ad23ba709c94dd92047a3"), looks := true }, kinds := [], alts := [], laidByText := true, laidKinds := [.data], laidTests := true, laidLooks := .later }
def ExpoSumsUptoCardSaid : Prop := Claim7.holds Tryz.pinned (.plain (OpenSpec.upto expoSumsSpec)) expoSumsUptoCard

/-- THE SECOND FORM's CARD OF 'sluicewaylaw7.ExpoOver'. -/
def expoOverUptoCard : Claim7 := { stood := { row := expoOverUptoRow, standIns := [], harness := (true, "edcb94a67f6e8ff198065a3dc16d4c46943cfcae3c0ad23ba709c94dd92047a3"), looks := true }, kinds := [], alts := [], laidByText := true, laidKinds := [.data], laidTests := true, laidLooks := .later }
def ExpoOverUptoCardSaid : Prop := Claim7.holds Tryz.pinned (.plain (OpenSpec.upto expoOverSpec)) expoOverUptoCard

/-- THE SECOND FORM's CARD OF 'sluicewaylaw7.ExpoBounds'. -/
def expoBoundsUptoCard : Claim7 := { stood := { row := expoBoundsUptoRow, standIns := [], harness := (true, "edcb94a67f6e8ff198065a3dc16d4c46943cfcae3c0ad23ba709c94dd92047a3"), looks := true }, kinds := [], alts := [], laidByText := true, laidKinds := [.data], laidTests := true, laidLooks := .later }
def ExpoBoundsUptoCardSaid : Prop := Claim7.holds Tryz.pinned (.plain (OpenSpec.upto expoBoundsSpec)) expoBoundsUptoCard

/-- THE SECOND FORM's CARD OF 'sluicewaylaw7.ExpoBits'. -/
def expoBitsUptoCard : Claim7 := { stood := { row := expoBitsUptoRow, standIns := [], harness := (true, "edcb94a67f6e8ff198065a3dc16d4c46943cfcae3c0ad23ba709c94dd92047a3"), looks := true }, kinds := [], alts := [], laidByText := true, laidKinds := [.data], laidTests := true, laidLooks := .later }
def ExpoBitsUptoCardSaid : Prop := Claim7.holds Tryz.pinned (.plain (OpenSpec.upto expoBitsSpec)) expoBitsUptoCard
end Rows
end Go.Proofs.YtldbafifgkobcaaGreatDoor
