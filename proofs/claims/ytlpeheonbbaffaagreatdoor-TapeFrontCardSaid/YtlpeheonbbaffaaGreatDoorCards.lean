/-
  DERIVED. GIVEN WITH THE SEED: THE CARDS: each row of YtlpeheonbbaffaaGreatDoorRows.lean that lists a variable, with what it lists TIED to the program's text (the seventh form; the later family's looks); each row that meets fmt, with fmt's text TOLD by the authors' own Lean function (tested against real Go, not proved from fmt's source: count such statements apart). THE CARD IS WHAT COUNTS. Prove the row's statement (the work); the ties are given (YtlpeheonbbaffaaGreatDoorTie.lean); close each card by the builder's one call (the guide's Derived/Test/ToyasCard.lean, 'card_holds'). Laid BY PROGRAM, IN A SANDBOX (cutbox-door.mjs). By AI agents, Wed Nov 11 2026. No macro, syntax, notation, axiom, sorry.
-/
import Derived.Test.YtlpeheonbbaffaaGreatDoorRows
import GoSem.ClaimSeven
namespace Go.Proofs.YtlpeheonbbaffaaGreatDoor
namespace Rows

/-- THE TIED CARD OF 'sluicewaylaw9.JetKnown'. -/
def jetKnownCard : Claim7 := { stood := { row := jetKnownRow, standIns := [], harness := (true, "e049a13e8301323855ac68a187b3c74853eeac4c4d23277b2567f68f022df96c"), looks := true }, kinds := [], alts := [], laidByText := true, laidKinds := [.data, .data], laidTests := true, laidLooks := .later }
def JetKnownCardSaid : Prop := Claim7.holds Tryz.pinned (.plain (OpenSpec.ofChange jetKnownSpec)) jetKnownCard

/-- THE TIED CARD OF 'sluicewaylaw9.JetExp'. -/
def jetExpCard : Claim7 := { stood := { row := jetExpRow, standIns := [], harness := (true, "e049a13e8301323855ac68a187b3c74853eeac4c4d23277b2567f68f022df96c"), looks := true }, kinds := [], alts := [], laidByText := true, laidKinds := [.data, .data], laidTests := true, laidLooks := .later }
def JetExpCardSaid : Prop := Claim7.holds Tryz.pinned (.plain (OpenSpec.ofChange jetExpSpec)) jetExpCard

/-- THE TIED CARD OF 'sluicewaylaw9.JetRules'. -/
def jetRulesCard : Claim7 := { stood := { row := jetRulesRow, standIns := [], harness := (true, "e049a13e8301323855ac68a187b3c74853eeac4c4d23277b2567f68f022df96c"), looks := true }, kinds := [], alts := [], laidByText := true, laidKinds := [.data, .data], laidTests := true, laidLooks := .later }
def JetRulesCardSaid : Prop := Claim7.holds Tryz.pinned (.plain (OpenSpec.ofChange jetRulesSpec)) jetRulesCard

/-- THE TIED CARD OF 'sluicewaylaw9.JetFront'. -/
def jetFrontCard : Claim7 := { stood := { row := jetFrontRow, standIns := [], harness := (true, "e049a13e8301323855ac68a187b3c74853eeac4c4d23277b2567f68f022df96c"), looks := true }, kinds := [], alts := [], laidByText := true, laidKinds := [.data, .data], laidTests := true, laidLooks := .later }
def JetFrontCardSaid : Prop := Claim7.holds Tryz.pinned (.plain (OpenSpec.ofChange jetFrontSpec)) jetFrontCard

/-- THE TIED CARD OF 'sluicewaylaw9.JetRoots'. -/
def jetRootsCard : Claim7 := { stood := { row := jetRootsRow, standIns := [], harness := (true, "e049a13e8301323855ac68a187b3c74853eeac4c4d23277b2567f68f022df96c"), looks := true }, kinds := [], alts := [], laidByText := true, laidKinds := [.data, .data], laidTests := true, laidLooks := .later }
def JetRootsCardSaid : Prop := Claim7.holds Tryz.pinned (.plain (OpenSpec.ofChange jetRootsSpec)) jetRootsCard

/-- THE TIED CARD OF 'sluicewaylaw8.TapeFront'. -/
def tapeFrontCard : Claim7 := { stood := { row := tapeFrontRow, standIns := [], harness := (true, "e049a13e8301323855ac68a187b3c74853eeac4c4d23277b2567f68f022df96c"), looks := true }, kinds := [], alts := [], laidByText := true, laidKinds := [.data], laidTests := true, laidLooks := .later }
def TapeFrontCardSaid : Prop := Claim7.holds Tryz.pinned (.plain (OpenSpec.ofChange tapeFrontSpec)) tapeFrontCard

/-- THE TIED CARD OF 'sluicewaylaw8.TapeUses'. -/
def tapeUsesCard : Claim7 := { stood := { row := tapeUsesRow, standIns := [], harness := (true, "e049a13e8301323855ac68a187b3c74853eeac4c4d23277b2567f68f022df96c"), looks := true }, kinds := [], alts := [], laidByText := true, laidKinds := [.data], laidTests := true, laidLooks := .later }
def TapeUsesCardSaid : Prop := Claim7.holds Tryz.pinned (.plain (OpenSpec.ofChange tapeUsesSpec)) tapeUsesCard

/-- THE TIED CARD OF 'sluicewaylaw8.TapeBits'. -/
def tapeBitsCard : Claim7 := { stood := { row := tapeBitsRow, standIns := [], harness := (true, "e049a13e8301323855ac68a187b3c74853eeac4c4d23277b2567f68f022df96c"), looks := true }, kinds := [], alts := [], laidByText := true, laidKinds := [.data], laidTests := true, laidLooks := .later }
def TapeBitsCardSaid : Prop := Claim7.holds Tryz.pinned (.plain (OpenSpec.ofChange tapeBitsSpec)) tapeBitsCard

/-- THE SECOND FORM's CARD OF 'sluicewaylaw9.JetKnown'. -/
def jetKnownUptoCard : Claim7 := { stood := { row := jetKnownUptoRow, standIns := [], harness := (true, "e049a13e8301323855ac68a187b3c74853eeac4c4d23277b2567f68f022df96c"), looks := true }, kinds := [], alts := [], laidByText := true, laidKinds := [.data, .data], laidTests := true, laidLooks := .later }
def JetKnownUptoCardSaid : Prop := Claim7.holds Tryz.pinned (.plain (OpenSpec.upto jetKnownSpec)) jetKnownUptoCard

/-- THE SECOND FORM's CARD OF 'sluicewaylaw9.JetExp'. -/
def jetExpUptoCard : Claim7 := { stood := { row := jetExpUptoRow, standIns := [], harness := (true, "e049a13e8301323855ac68a187b3c74853eeac4c4d23277b2567f68f022df96c"), looks := true }, kinds := [], alts := [], laidByText := true, laidKinds := [.data, .data], laidTests := true, laidLooks := .later }
def JetExpUptoCardSaid : Prop := Claim7.holds Tryz.pinned (.plain (OpenSpec.upto jetExpSpec)) jetExpUptoCard

/-- THE SECOND FORM's CARD OF 'sluicewaylaw9.JetRules'. -/
def jetRulesUptoCard : Claim7 := { stood := { row := jetRulesUptoRow, standIns := [], harness := (true, "e049a13e8301323855ac68a187b3c74853eeac4c4d23277b2567f68f022df96c"), looks := true }, kinds := [], alts := [], laidByText := true, laidKinds := [.data, .data], laidTests := true, laidLooks := .later }
def JetRulesUptoCardSaid : Prop := Claim7.holds Tryz.pinned (.plain (OpenSpec.upto jetRulesSpec)) jetRulesUptoCard

/-- THE SECOND FORM's CARD OF 'sluicewaylaw9.JetFront'. -/
def jetFrontUptoCard : Claim7 := { stood := { row := jetFrontUptoRow, standIns := [], harness := (true, "e049a13e8301323855ac68a187b3c74853eeac4c4d23277b2567f68f022df96c"), looks := true }, kinds := [], alts := [], laidByText := true, laidKinds := [.data, .data], laidTests := true, laidLooks := .later }
def JetFrontUptoCardSaid : Prop := Claim7.holds Tryz.pinned (.plain (OpenSpec.upto jetFrontSpec)) jetFrontUptoCard

/-- THE SECOND FORM's CARD OF 'sluicewaylaw9.JetRoots'. -/
def jetRootsUptoCard : Claim7 := { stood := { row := jetRootsUptoRow, standIns := [], harness := (true, "e049a13e8301323855ac68a187b3c74853eeac4c4d23277b2567f68f022df96c"), looks := true }, kinds := [], alts := [], laidByText := true, laidKinds := [.data, .data], laidTests := true, laidLooks := .later }
def JetRootsUptoCardSaid : Prop := Claim7.holds Tryz.pinned (.plain (OpenSpec.upto jetRootsSpec)) jetRootsUptoCard

/-- THE SECOND FORM's CARD OF 'sluicewaylaw8.TapeFront'. -/
def tapeFrontUptoCard : Claim7 := { stood := { row := tapeFrontUptoRow, standIns := [], harness := (true, "e049a13e8301323855ac68a187b3c74853eeac4c4d23277b2567f68f022df96c"), looks := true }, kinds := [], alts := [], laidByText := true, laidKinds := [.data], laidTests := true, laidLooks := .later }
def TapeFrontUptoCardSaid : Prop := Claim7.holds Tryz.pinned (.plain (OpenSpec.upto tapeFrontSpec)) tapeFrontUptoCard

/-- THE SECOND FORM's CARD OF 'sluicewaylaw8.TapeUses'. -/
def tapeUsesUptoCard : Claim7 := { stood := { row := tapeUsesUptoRow, standIns := [], harness := (true, "e049a13e8301323855ac68a187b3c74853eeac4c4d23277b2567f68f022df96c"), looks := true }, kinds := [], alts := [], laidByText := true, laidKinds := [.data], laidTests := true, laidLooks := .later }
def TapeUsesUptoCardSaid : Prop := Claim7.holds Tryz.pinned (.plain (OpenSpec.upto tapeUsesSpec)) tapeUsesUptoCard

/-- THE SECOND FORM's CARD OF 'sluicewaylaw8.TapeBits'. -/
def tapeBitsUptoCard : Claim7 := { stood := { row := tapeBitsUptoRow, standIns := [], harness := (true, "e049a13e8301323855ac68a187b3c74853eeac4c4d23277b2567f68f022df96c"), looks := true }, kinds := [], alts := [], laidByText := true, laidKinds := [.data], laidTests := true, laidLooks := .later }
def TapeBitsUptoCardSaid : Prop := Claim7.holds Tryz.pinned (.plain (OpenSpec.upto tapeBitsSpec)) tapeBitsUptoCard
end Rows
end Go.Proofs.YtlpeheonbbaffaaGreatDoor
