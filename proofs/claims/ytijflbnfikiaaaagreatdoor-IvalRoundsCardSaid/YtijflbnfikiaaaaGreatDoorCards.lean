/-
  DERIVED. GIVEN WITH THE SEED: THE CARDS: each row of YtijflbnfikiaaaaGreatDoorRows.lean that lists a variable, with what it lists TIED to the program's text (the seventh form; the later family's looks); each row that meets fmt, with fmt's text TOLD by the authors' own Lean function (tested against real Go, not proved from fmt's source: count such statements apart). THE CARD IS WHAT COUNTS. Prove the row's statement (the work); the ties are given (YtijflbnfikiaaaaGreatDoorTie.lean); close each card by the builder's one call (the guide's Derived/Test/ToyasCard.lean, 'card_holds'). Laid BY PROGRAM, IN A SANDBOX (cutbox-door.mjs). By AI agents, Wed Nov 11 2026. No macro, syntax, notation, axiom, sorry.
-/
import Derived.Test.YtijflbnfikiaaaaGreatDoorRows
import GoSem.ClaimSeven
namespace Go.Proofs.YtijflbnfikiaaaaGreatDoor
namespace Rows

/-- THE TIED CARD OF 'sluicewaylaw5.IvalAsks'. -/
def ivalAsksCard : Claim7 := { stood := { row := ivalAsksRow, standIns := [], harness := (true, "6af3311279a38189a4c8b5e0a93edbc1c03d3385dc82377f12dda5270d86cf3d"), looks := true }, kinds := [], alts := [], laidByText := true, laidKinds := [.data], laidTests := true, laidLooks := .later }
def IvalAsksCardSaid : Prop := Claim7.holds Tryz.pinned (.plain (OpenSpec.ofChange ivalAsksSpec)) ivalAsksCard

/-- THE TIED CARD OF 'sluicewaylaw5.IvalRounds'. -/
def ivalRoundsCard : Claim7 := { stood := { row := ivalRoundsRow, standIns := [], harness := (true, "6af3311279a38189a4c8b5e0a93edbc1c03d3385dc82377f12dda5270d86cf3d"), looks := true }, kinds := [], alts := [], laidByText := true, laidKinds := [.data], laidTests := true, laidLooks := .later }
def IvalRoundsCardSaid : Prop := Claim7.holds Tryz.pinned (.plain (OpenSpec.ofChange ivalRoundsSpec)) ivalRoundsCard

/-- THE SECOND FORM's CARD OF 'sluicewaylaw5.IvalAsks'. -/
def ivalAsksUptoCard : Claim7 := { stood := { row := ivalAsksUptoRow, standIns := [], harness := (true, "6af3311279a38189a4c8b5e0a93edbc1c03d3385dc82377f12dda5270d86cf3d"), looks := true }, kinds := [], alts := [], laidByText := true, laidKinds := [.data], laidTests := true, laidLooks := .later }
def IvalAsksUptoCardSaid : Prop := Claim7.holds Tryz.pinned (.plain (OpenSpec.upto ivalAsksSpec)) ivalAsksUptoCard

/-- THE SECOND FORM's CARD OF 'sluicewaylaw5.IvalRounds'. -/
def ivalRoundsUptoCard : Claim7 := { stood := { row := ivalRoundsUptoRow, standIns := [], harness := (true, "6af3311279a38189a4c8b5e0a93edbc1c03d3385dc82377f12dda5270d86cf3d"), looks := true }, kinds := [], alts := [], laidByText := true, laidKinds := [.data], laidTests := true, laidLooks := .later }
def IvalRoundsUptoCardSaid : Prop := Claim7.holds Tryz.pinned (.plain (OpenSpec.upto ivalRoundsSpec)) ivalRoundsUptoCard
end Rows
end Go.Proofs.YtijflbnfikiaaaaGreatDoor
