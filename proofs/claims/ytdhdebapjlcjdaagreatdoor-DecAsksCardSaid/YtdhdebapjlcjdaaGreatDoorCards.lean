/-
  DERIVED. GIVEN WITH THE SEED: THE CARDS: each row of YtdhdebapjlcjdaaGreatDoorRows.lean that lists a variable, with what it lists TIED to the program's text (the seventh form; the later family's looks); each row that meets fmt, with fmt's text TOLD by the authors' own Lean function (tested against real Go, not proved from fmt's source: count such statements apart). THE CARD IS WHAT COUNTS. Prove the row's statement (the work); the ties are given (YtdhdebapjlcjdaaGreatDoorTie.lean); close each card by the builder's one call (the guide's Derived/Test/ToyasCard.lean, 'card_holds'). Laid BY PROGRAM, IN A SANDBOX (cutbox-door.mjs). By AI agents, Wed Nov 11 2026. No macro, syntax, notation, axiom, sorry.
-/
import Derived.Test.YtdhdebapjlcjdaaGreatDoorRows
import GoSem.ClaimSeven
namespace Go.Proofs.YtdhdebapjlcjdaaGreatDoor
namespace Rows

/-- THE TIED CARD OF 'sluicewaylaw4.DecAsks'. -/
def decAsksCard : Claim7 := { stood := { row := decAsksRow, standIns := [], harness := (true, "76093358371bf6a76a25368f46d409fe014d3ab34dc32caf5056cb9304f10068"), looks := true }, kinds := [], alts := [], laidByText := true, laidKinds := [.data, .data, .data, .data, .sentinel, .sentinel, .pinned], laidTests := true, laidLooks := .later }
def DecAsksCardSaid : Prop := Claim7.holds Tryz.pinned (.plain (OpenSpec.ofChange decAsksSpec)) decAsksCard

/-- THE TIED CARD OF 'sluicewaylaw4.DecSame'. -/
def decSameCard : Claim7 := { stood := { row := decSameRow, standIns := [], harness := (true, "76093358371bf6a76a25368f46d409fe014d3ab34dc32caf5056cb9304f10068"), looks := true }, kinds := [], alts := [], laidByText := true, laidKinds := [.data, .data, .data, .data, .sentinel, .sentinel, .pinned], laidTests := true, laidLooks := .later }
def DecSameCardSaid : Prop := Claim7.holds Tryz.pinned (.plain (OpenSpec.ofChange decSameSpec)) decSameCard

/-- THE SECOND FORM's CARD OF 'sluicewaylaw4.DecAsks'. -/
def decAsksUptoCard : Claim7 := { stood := { row := decAsksUptoRow, standIns := [], harness := (true, "76093358371bf6a76a25368f46d409fe014d3ab34dc32caf5056cb9304f10068"), looks := true }, kinds := [], alts := [], laidByText := true, laidKinds := [.data, .data, .data, .data, .sentinel, .sentinel, .pinned], laidTests := true, laidLooks := .later }
def DecAsksUptoCardSaid : Prop := Claim7.holds Tryz.pinned (.plain (OpenSpec.upto decAsksSpec)) decAsksUptoCard

/-- THE SECOND FORM's CARD OF 'sluicewaylaw4.DecSame'. -/
def decSameUptoCard : Claim7 := { stood := { row := decSameUptoRow, standIns := [], harness := (true, "76093358371bf6a76a25368f46d409fe014d3ab34dc32caf5056cb9304f10068"), looks := true }, kinds := [], alts := [], laidByText := true, laidKinds := [.data, .data, .data, .data, .sentinel, .sentinel, .pinned], laidTests := true, laidLooks := .later }
def DecSameUptoCardSaid : Prop := Claim7.holds Tryz.pinned (.plain (OpenSpec.upto decSameSpec)) decSameUptoCard
end Rows
end Go.Proofs.YtdhdebapjlcjdaaGreatDoor
