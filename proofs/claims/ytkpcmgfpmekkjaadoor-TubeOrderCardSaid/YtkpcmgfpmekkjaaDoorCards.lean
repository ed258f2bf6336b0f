/-
  DERIVED. GIVEN WITH THE SEED: THE CARDS: each row of YtkpcmgfpmekkjaaDoorRows.lean that lists a variable, with what it lists TIED to the program's text (the seventh form; the later family's looks); each row that meets fmt, with fmt's text TOLD by the authors' own Lean function (tested against real Go, not proved from fmt's source: count such statements apart). THE CARD IS WHAT COUNTS. Prove the row's statement (the work); the ties are given (YtkpcmgfpmekkjaaDoorTie.lean); close each card by the builder's one call (the guide's Derived/Test/ToyasCard.lean, 'card_holds'). Laid BY PROGRAM, IN A SANDBOX (cutbox-door.mjs). By AI agents, Wed Nov 11 2026. No macro, syntax, notation, axiom, sorry.
-/
import Derived.Test.YtkpcmgfpmekkjaaDoorRows
import GoSem.ClaimSeven
namespace Go.Proofs.YtkpcmgfpmekkjaaDoor
namespace Rows

/-- THE TIED CARD OF 'sluicewaylaw13.TubeTimes'. -/
def tubeTimesCard : Claim7 := { stood := { row := tubeTimesRow, standIns := [], harness := (true, "d87e6b2693e26727eb4a9c7a4b63e66e700d9d934a40d02c30f7b3980ee272e0"), looks := true }, kinds := [], alts := [], laidByText := true, laidKinds := [.data], laidTests := true, laidLooks := .later }
def TubeTimesCardSaid : Prop := Claim7.holds Tryd.pinned (.plain (OpenSpec.ofChange tubeTimesSpec)) tubeTimesCard

/-- THE TIED CARD OF 'sluicewaylaw13.TubeSpans'. -/
def tubeSpansCard : Claim7 := { stood := { row := tubeSpansRow, standIns := [], harness := (true, "d87e6b2693e26727eb4a9c7a4b63e66e700d9d934a40d02c30f7b3980ee272e0"), looks := true }, kinds := [], alts := [], laidByText := true, laidKinds := [.data], laidTests := true, laidLooks := .later }
def TubeSpansCardSaid : Prop := Claim7.holds Tryd.pinned (.plain (OpenSpec.ofChange tubeSpansSpec)) tubeSpansCard

/-- THE TIED CARD OF 'sluicewaylaw13.TubeOrder'. -/
def tubeOrderCard : Claim7 := { stood := { row := tubeOrderRow, standIns := [], harness := (true, "d87e6b2693e26727eb4a9c7a4b63e66e700d9d934a40d02c30f7b3980ee272e0"), looks := true }, kinds := [], alts := [], laidByText := true, laidKinds := [.data], laidTests := true, laidLooks := .later }
def TubeOrderCardSaid : Prop := Claim7.holds Tryd.pinned (.plain (OpenSpec.ofChange tubeOrderSpec)) tubeOrderCard

/-- THE SECOND FORM's CARD OF 'sluicewaylaw13.TubeTimes'. -/
def tubeTimesUptoCard : Claim7 := { stood := { row := tubeTimesUptoRow, standIns := [], harness := (true, "d87e6b2693e26727eb4a9c7a4b63e66e700d9d934a40d02c30f7b3980ee272e0"), looks := true }, kinds := [], alts := [], laidByText := true, laidKinds := [.data], laidTests := true, laidLooks := .later }
def TubeTimesUptoCardSaid : Prop := Claim7.holds Tryd.pinned (.plain (OpenSpec.upto tubeTimesSpec)) tubeTimesUptoCard

/-- THE SECOND FORM's CARD OF 'sluicewaylaw13.TubeSpans'. -/
def tubeSpansUptoCard : Claim7 := { stood := { row := tubeSpansUptoRow, standIns := [], harness := (true, "d87e6b2693e26727eb4a9c7a4b63e66e700d9d934a40d02c30f7b3980ee272e0"), looks := true }, kinds := [], alts := [], laidByText := true, laidKinds := [.data], laidTests := true, laidLooks := .later }
def TubeSpansUptoCardSaid : Prop := Claim7.holds Tryd.pinned (.plain (OpenSpec.upto tubeSpansSpec)) tubeSpansUptoCard

/-- THE SECOND FORM's CARD OF 'sluicewaylaw13.TubeOrder'. -/
def tubeOrderUptoCard : Claim7 := { stood := { row := tubeOrderUptoRow, standIns := [], harness := (true, "d87e6b2693e26727eb4a9c7a4b63e66e700d9d934a40d02c30f7b3980ee272e0"), looks := true }, kinds := [], alts := [], laidByText := true, laidKinds := [.data], laidTests := true, laidLooks := .later }
def TubeOrderUptoCardSaid : Prop := Claim7.holds Tryd.pinned (.plain (OpenSpec.upto tubeOrderSpec)) tubeOrderUptoCard
end Rows
end Go.Proofs.YtkpcmgfpmekkjaaDoor
