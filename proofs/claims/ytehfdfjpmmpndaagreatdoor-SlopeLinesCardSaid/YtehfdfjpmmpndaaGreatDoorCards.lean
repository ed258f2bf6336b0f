/-
  DERIVED. GIVEN WITH THE SEED: THE CARDS: each row of YtehfdfjpmmpndaaGreatDoorRows.lean that lists a variable, with what it lists TIED to the program's text (the seventh form; the later family's looks); each row that meets fmt, with fmt's text TOLD by the authors' own Lean function (tested against real Go, not proved from fmt's source: count such statements apart). THE CARD IS WHAT COUNTS. Prove the row's statement (the work); the ties are given (YtehfdfjpmmpndaaGreatDoorTie.lean); close each card by the builder's one call (the guide's Derived/Test/ToyasCard.lean, 'card_holds'). Laid BY PROGRAM, IN A SANDBOX (cutbox-door.mjs). By AI agents, Wed Nov 11 2026. No macro, syntax, notation, axiom, sorry.
-/
import Derived.Test.YtehfdfjpmmpndaaGreatDoorRows
import GoSem.ClaimSeven
namespace Go.Proofs.YtehfdfjpmmpndaaGreatDoor
namespace Rows

/-- THE TIED CARD OF 'sluicewaylaw10.SlopeEval'. -/
def slopeEvalCard : Claim7 := { stood := { row := slopeEvalRow, standIns := [], harness := (true, "671699e6211d1e7cdded853e0fec7f4c50f17e39e29d269cefd4b9c7d84e6095"), looks := true }, kinds := [], alts := [], laidByText := true, laidKinds := [.data], laidTests := true, laidLooks := .later }
def SlopeEvalCardSaid : Prop := Claim7.holds Tryz.pinned (.plain (OpenSpec.ofChange slopeEvalSpec)) slopeEvalCard

/-- THE TIED CARD OF 'sluicewaylaw10.SlopeMean'. -/
def slopeMeanCard : Claim7 := { stood := { row := slopeMeanRow, standIns := [], harness := (true, "671699e6211d1e7cdded853e0fec7f4c50f17e39e29d269cefd4b9c7d84e6095"), looks := true }, kinds := [], alts := [], laidByText := true, laidKinds := [.data], laidTests := true, laidLooks := .later }
def SlopeMeanCardSaid : Prop := Claim7.holds Tryz.pinned (.plain (OpenSpec.ofChange slopeMeanSpec)) slopeMeanCard

/-- THE TIED CARD OF 'sluicewaylaw10.SlopeLines'. -/
def slopeLinesCard : Claim7 := { stood := { row := slopeLinesRow, standIns := [], harness := (true, "671699e6211d1e7cdded853e0fec7f4c50f17e39e29d269cefd4b9c7d84e6095"), looks := true }, kinds := [], alts := [], laidByText := true, laidKinds := [.data], laidTests := true, laidLooks := .later }
def SlopeLinesCardSaid : Prop := Claim7.holds Tryz.pinned (.plain (OpenSpec.ofChange slopeLinesSpec)) slopeLinesCard

/-- THE SECOND FORM's CARD OF 'sluicewaylaw10.SlopeEval'. -/
def slopeEvalUptoCard : Claim7 := { stood := { row := slopeEvalUptoRow, standIns := [], harness := (true, "671699e6211d1e7cdded853e0fec7f4c50f17e39e29d269cefd4b9c7d84e6095"), looks := true }, kinds := [], alts := [], laidByText := true, laidKinds := [.data], laidTests := true, laidLooks := .later }
def SlopeEvalUptoCardSaid : Prop := Claim7.holds Tryz.pinned (.plain (OpenSpec.upto slopeEvalSpec)) slopeEvalUptoCard

/-- THE SECOND FORM's CARD OF 'sluicewaylaw10.SlopeMean'. -/
def slopeMeanUptoCard : Claim7 := { stood := { row := slopeMeanUptoRow, standIns := [], harness := (true, "671699e6211d1e7cdded853e0fec7f4c50f17e39e29d269cefd4b9c7d84e6095"), looks := true }, kinds := [], alts := [], laidByText := true, laidKinds := [.data], laidTests := true, laidLooks := .later }
def SlopeMeanUptoCardSaid : Prop := Claim7.holds Tryz.pinned (.plain (OpenSpec.upto slopeMeanSpec)) slopeMeanUptoCard

/-- THE SECOND FORM's CARD OF 'sluicewaylaw10.SlopeLines'. -/
def slopeLinesUptoCard : Claim7 := { stood := { row := slopeLinesUptoRow, standIns := [], harness := (true, "671699e6211d1e7cdded853e0fec7f4c50f17e39e29d269cefd4b9c7d84e6095"), looks := true }, kinds := [], alts := [], laidByText := true, laidKinds := [.data], laidTests := true, laidLooks := .later }
def SlopeLinesUptoCardSaid : Prop := Claim7.holds Tryz.pinned (.plain (OpenSpec.upto slopeLinesSpec)) slopeLinesUptoCard
end Rows
end Go.Proofs.YtehfdfjpmmpndaaGreatDoor
