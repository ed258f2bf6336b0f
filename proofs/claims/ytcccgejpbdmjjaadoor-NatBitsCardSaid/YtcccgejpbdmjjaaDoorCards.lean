/-
  DERIVED. GIVEN WITH THE SEED: THE CARDS: each row of YtcccgejpbdmjjaaDoorRows.lean that lists a variable, with what it lists TIED to the program's text (the seventh form; the later family's looks); each row that meets fmt, with fmt's text TOLD by the authors' own Lean function (tested against real Go, not proved from fmt's source: count such statements apart). THE CARD IS WHAT COUNTS. Prove the row's statement (the work); the ties are given (YtcccgejpbdmjjaaDoorTie.lean); close each card by the builder's one call (the guide's Derived/Test/ToyasCard.lean, 'card_holds'). Laid BY PROGRAM, IN A SANDBOX (cutbox-door.mjs). By AI agents, Wed Nov 11 2026. No macro, syntax, notation, axiom, sorry.
-/
import Derived.Test.YtcccgejpbdmjjaaDoorRows
import GoSem.ClaimSeven
namespace Go.Proofs.YtcccgejpbdmjjaaDoor
namespace Rows

/-- THE TIED CARD OF 'sluicewaylaw1.NatAsks'. -/
def natAsksCard : Claim7 := { stood := { row := natAsksRow, standIns := [], harness := (true, "d759df76cbffb806e6af79b84b3b53abf6c1ec4ca40077e4e5f3176a7ea0210f"), looks := false }, kinds := [], alts := [], laidByText := true, laidKinds := [.data], laidTests := true, laidLooks := .later }
def NatAsksCardSaid : Prop := Claim7.holds Tryd.pinned (.plain (OpenSpec.ofChange natAsksSpec)) natAsksCard

/-- THE TIED CARD OF 'sluicewaylaw1.NatParts'. -/
def natPartsCard : Claim7 := { stood := { row := natPartsRow, standIns := [], harness := (true, "d759df76cbffb806e6af79b84b3b53abf6c1ec4ca40077e4e5f3176a7ea0210f"), looks := false }, kinds := [], alts := [], laidByText := true, laidKinds := [.data], laidTests := true, laidLooks := .later }
def NatPartsCardSaid : Prop := Claim7.holds Tryd.pinned (.plain (OpenSpec.ofChange natPartsSpec)) natPartsCard

/-- THE TIED CARD OF 'sluicewaylaw1.NatBits'. -/
def natBitsCard : Claim7 := { stood := { row := natBitsRow, standIns := [], harness := (true, "d759df76cbffb806e6af79b84b3b53abf6c1ec4ca40077e4e5f3176a7ea0210f"), looks := false }, kinds := [], alts := [], laidByText := true, laidKinds := [.data], laidTests := true, laidLooks := .later }
def NatBitsCardSaid : Prop := Claim7.holds Tryd.pinned (.plain (OpenSpec.ofChange natBitsSpec)) natBitsCard

/-- THE TIED CARD OF 'sluicewaylaw1.NatRing'. -/
def natRingCard : Claim7 := { stood := { row := natRingRow, standIns := [], harness := (true, "d759df76cbffb806e6af79b84b3b53abf6c1ec4ca40077e4e5f3176a7ea0210f"), looks := false }, kinds := [], alts := [], laidByText := true, laidKinds := [.data], laidTests := true, laidLooks := .later }
def NatRingCardSaid : Prop := Claim7.holds Tryd.pinned (.plain (OpenSpec.ofChange natRingSpec)) natRingCard

/-- THE TIED CARD OF 'sluicewaylaw1.NatDivides'. -/
def natDividesCard : Claim7 := { stood := { row := natDividesRow, standIns := [], harness := (true, "d759df76cbffb806e6af79b84b3b53abf6c1ec4ca40077e4e5f3176a7ea0210f"), looks := false }, kinds := [], alts := [], laidByText := true, laidKinds := [.data], laidTests := true, laidLooks := .later }
def NatDividesCardSaid : Prop := Claim7.holds Tryd.pinned (.plain (OpenSpec.ofChange natDividesSpec)) natDividesCard

/-- THE TIED CARD OF 'sluicewaylaw1.NatShifts'. -/
def natShiftsCard : Claim7 := { stood := { row := natShiftsRow, standIns := [], harness := (true, "d759df76cbffb806e6af79b84b3b53abf6c1ec4ca40077e4e5f3176a7ea0210f"), looks := false }, kinds := [], alts := [], laidByText := true, laidKinds := [.data], laidTests := true, laidLooks := .later }
def NatShiftsCardSaid : Prop := Claim7.holds Tryd.pinned (.plain (OpenSpec.ofChange natShiftsSpec)) natShiftsCard

/-- THE TIED CARD OF 'sluicewaylaw1.NatCaps'. -/
def natCapsCard : Claim7 := { stood := { row := natCapsRow, standIns := [], harness := (true, "d759df76cbffb806e6af79b84b3b53abf6c1ec4ca40077e4e5f3176a7ea0210f"), looks := false }, kinds := [], alts := [], laidByText := true, laidKinds := [.data], laidTests := true, laidLooks := .later }
def NatCapsCardSaid : Prop := Claim7.holds Tryd.pinned (.plain (OpenSpec.ofChange natCapsSpec)) natCapsCard

/-- THE SECOND FORM's CARD OF 'sluicewaylaw1.NatAsks'. -/
def natAsksUptoCard : Claim7 := { stood := { row := natAsksUptoRow, standIns := [], harness := (true, "d759df76cbffb806e6af79b84b3b53abf6c1ec4ca40077e4e5f3176a7ea0210f"), looks := false }, kinds := [], alts := [], laidByText := true, laidKinds := [.data], laidTests := true, laidLooks := .later }
def NatAsksUptoCardSaid : Prop := Claim7.holds Tryd.pinned (.plain (OpenSpec.upto natAsksSpec)) natAsksUptoCard

/-- THE SECOND FORM's CARD OF 'sluicewaylaw1.NatParts'. -/
def natPartsUptoCard : Claim7 := { stood := { row := natPartsUptoRow, standIns := [], harness := (true, "d759df76cbffb806e6af79b84b3b53abf6c1ec4ca40077e4e5f3176a7ea0210f"), looks := false }, kinds := [], alts := [], laidByText := true, laidKinds := [.data], laidTests := true, laidLooks := .later }
def NatPartsUptoCardSaid : Prop := Claim7.holds Tryd.pinned (.plain (OpenSpec.upto natPartsSpec)) natPartsUptoCard

/-- THE SECOND FORM's CARD OF 'sluicewaylaw1.NatBits'. -/
def natBitsUptoCard : Claim7 := { stood := { row := natBitsUptoRow, standIns := [], harness := (true, "d759df76cbffb806e6af79b84b3b53abf6c1ec4ca40077e4e5f3176a7ea0210f"), looks := false }, kinds := [], alts := [], laidByText := true, laidKinds := [.data], laidTests := true, laidLooks := .later }
def NatBitsUptoCardSaid : Prop := Claim7.holds Tryd.pinned (.plain (OpenSpec.upto natBitsSpec)) natBitsUptoCard

/-- THE SECOND FORM's CARD OF 'sluicewaylaw1.NatRing'. -/
def natRingUptoCard : Claim7 := { stood := { row := natRingUptoRow, standIns := [], harness := (true, "d759df76cbffb806e6af79b84b3b53abf6c1ec4ca40077e4e5f3176a7ea0210f"), looks := false }, kinds := [], alts := [], laidByText := true, laidKinds := [.data], laidTests := true, laidLooks := .later }
def NatRingUptoCardSaid : Prop := Claim7.holds Tryd.pinned (.plain (OpenSpec.upto natRingSpec)) natRingUptoCard

/-- THE SECOND FORM's CARD OF 'sluicewaylaw1.NatDivides'. -/
def natDividesUptoCard : Claim7 := { stood := { row := natDividesUptoRow, standIns := [], harness := (true, "d759df76cbffb806e6af79b84b3b53abf6c1ec4ca40077e4e5f3176a7ea0210f"), looks := false }, kinds := [], alts := [], laidByText := true, laidKinds := [.data], laidTests := true, laidLooks := .later }
def NatDividesUptoCardSaid : Prop := Claim7.holds Tryd.pinned (.plain (OpenSpec.upto natDividesSpec)) natDividesUptoCard

/-- THE SECOND FORM's CARD OF 'sluicewaylaw1.NatShifts'. -/
def natShiftsUptoCard : Claim7 := { stood := { row := natShiftsUptoRow, standIns := [], harness := (true, "d759df76cbffb806e6af79b84b3b53abf6c1ec4ca40077e4e5f3176a7ea0210f"), looks := false }, kinds := [], alts := [], laidByText := true, laidKinds := [.data], laidTests := true, laidLooks := .later }
def NatShiftsUptoCardSaid : Prop := Claim7.holds Tryd.pinned (.plain (OpenSpec.upto natShiftsSpec)) natShiftsUptoCard

/-- THE SECOND FORM's CARD OF 'sluicewaylaw1.NatCaps'. -/
def natCapsUptoCard : Claim7 := { stood := { row := natCapsUptoRow, standIns := [], harness := (true, "d759df76cbffb806e6af79b84b3b53abf6c1ec4ca40077e4e5f3176a7ea0210f"), looks := false }, kinds := [], alts := [], laidByText := true, laidKinds := [.data], laidTests := true, laidLooks := .later }
def NatCapsUptoCardSaid : Prop := Claim7.holds Tryd.pinned (.plain (OpenSpec.upto natCapsSpec)) natCapsUptoCard
end Rows
end Go.Proofs.YtcccgejpbdmjjaaDoor
