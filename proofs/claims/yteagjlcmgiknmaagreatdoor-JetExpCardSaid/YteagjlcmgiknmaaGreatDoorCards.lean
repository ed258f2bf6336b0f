/-
  DERIVED. GIVEN WITH THE SEED: THE CARDS: each row of YteagjlcmgiknmaaGreatDoorRows.lean that lists a variable, with what it lists TIED to the program's text (the seventh form; the later family's looks); each row that meets fmt, with fmt's text TOLD by the authors' own Lean function (tested against real Go, not proved from fmt's source: count such statements apart). THE CARD IS WHAT COUNTS. Prove the row's statement (the work); the ties are given (YteagjlcmgiknmaaGreatDoorTie.lean); close each card by the builder's one call (the guide's Derived/Test/ToyasCard.lean, 'card_holds'). Laid BY PROGRAM, IN A SANDBOX (cutbox-door.mjs). By AI agents, Wed Nov 11 2026. No macro, syntax, notation, axiom, sorry.
-/
import Derived.Test.YteagjlcmgiknmaaGreatDoorRows
import GoSem.ClaimSeven
namespace Go.Proofs.YteagjlcmgiknmaaGreatDoor
namespace Rows

/-- THE TIED CARD OF 'sluicewaylaw9.JetKnown'. -/
def jetKnownCard : Claim7 := { stood := { row := jetKnownRow, standIns := [], harness := (true, "f74e38fb4853b838653548521a6dc813e969cc2d6645f106219cecaf3620c1e0"), looks := true }, kinds := [], alts := [], laidByText := true, laidKinds := [.data, .data], laidTests := true, laidLooks := .later }
def JetKnownCardSaid : Prop := Claim7.holds Tryz.pinned (.plain (OpenSpec.ofChange jetKnownSpec)) jetKnownCard

/-- THE TIED CARD OF 'sluicewaylaw9.JetExp'. -/
def jetExpCard : Claim7 := { stood := { row := jetExpRow, standIns := [], harness := (true, "f74e38fb4853b838653548521a6dc813e969cc2d6645f106219cecaf3620c1e0"), looks := true }, kinds := [], alts := [], laidByText := true, laidKinds := [.data, .data], laidTests := true, laidLooks := .later }
def JetExpCardSaid : Prop := Claim7.holds Tryz.pinned (.plain (OpenSpec.ofChange jetExpSpec)) jetExpCard

/-- THE SECOND FORM's CARD OF 'sluicewaylaw9.JetKnown'. -/
def jetKnownUptoCard : Claim7 := { stood := { row := jetKnownUptoRow, standIns := [], harness := (true, "f74e38fb4853b838653548521a6dc813e969cc2d6645f106219cecaf3620c1e0"), looks := true }, kinds := [], alts := [], laidByText := true, laidKinds := [.data, .data], laidTests := true, laidLooks := .later }
def JetKnownUptoCardSaid : Prop := Claim7.holds Tryz.pinned (.plain (OpenSpec.upto jetKnownSpec)) jetKnownUptoCard

/-- THE SECOND FORM's CARD OF 'sluicewaylaw9.JetExp'. -/
def jetExpUptoCard : Claim7 := { stood := { row := jetExpUptoRow, standIns := [], harness := (true, "f74e38fb4853b838653548521a6dc813e969cc2d6645f106219cecaf3620c1e0"), looks := true }, kinds := [], alts := [], laidByText := true, laidKinds := [.data, .data], laidTests := true, laidLooks := .later }
def JetExpUptoCardSaid : Prop := Claim7.holds Tryz.pinned (.plain (OpenSpec.upto jetExpSpec)) jetExpUptoCard
end Rows
end Go.Proofs.YteagjlcmgiknmaaGreatDoor
