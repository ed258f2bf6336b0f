/-
  DERIVED. GIVEN WITH THE SEED: THE CARDS: each row of YtdklekiknhhfdaaDoorRows.lean that lists a variable, with what it lists TIED to the program's text (the seventh form; the later family's looks); each row that meets fmt, with fmt's text TOLD by the authors' own Lean function (tested against real Go, not proved from fmt's source: count such statements apart). THE CARD IS WHAT COUNTS. Prove the row's statement (the work); the ties are given (YtdklekiknhhfdaaDoorTie.lean); close each card by the builder's one call (the guide's Derived/Test/ToyasCard.lean, 'card_holds'). Laid BY PROGRAM, IN A SANDBOX (cutbox-door.mjs). By AI agents, Wed Nov 11 2026. No macro, syntax, notation, axiom, sorry.
-/
import Derived.Test.YtdklekiknhhfdaaDoorRows
import GoSem.ClaimSeven
namespace Go.Proofs.YtdklekiknhhfdaaDoor
namespace Rows

/-- THE TIED CARD OF 'sluicewaylaw1.NatAsks'. -/
def natAsksCard : Claim7 := { stood := { row := natAsksRow, standIns := [], harness := (true, "14a503aeca3bae57a723720292b0fe359edc0044e4ace19b9abdd367a69b5404"), looks := true }, kinds := [], alts := [], laidByText := true, laidKinds := [.data], laidTests := true, laidLooks := .later }
def NatAsksCardSaid : Prop := Claim7.holds Tryd.pinned (.plain (OpenSpec.ofChange natAsksSpec)) natAsksCard

/-- THE TIED CARD OF 'sluicewaylaw1.NatParts'. -/
def natPartsCard : Claim7 := { stood := { row := natPartsRow, standIns := [], harness := (true, "14a503aeca3bae57a723720292b0fe359edc0044e4ace19b9abdd367a69b5404"), looks := true }, kinds := [], alts := [], laidByText := true, laidKinds := [.data], laidTests := true, laidLooks := .later }
def NatPartsCardSaid : Prop := Claim7.holds Tryd.pinned (.plain (OpenSpec.ofChange natPartsSpec)) natPartsCard

/-- THE TIED CARD OF 'sluicewaylaw1.NatBits'. -/
def natBitsCard : Claim7 := { stood := { row := natBitsRow, standIns := [], harness := (true, "14a503aeca3bae57a723720292b0fe359edc0044e4ace19b9abdd367a69b5404"), looks := true }, kinds := [], alts := [], laidByText := true, laidKinds := [.data], laidTests := true, laidLooks := .later }
def NatBitsCardSaid : Prop := Claim7.holds Tryd.pinned (.plain (OpenSpec.ofChange natBitsSpec)) natBitsCard

/-- THE TIED CARD OF 'sluicewaylaw1.NatRing'. -/
def natRingCard : Claim7 := { stood := { row := natRingRow, standIns := [], harness := (true, "14a503aeca3bae57a723720292b0fe359edc0044e4ace19b9abdd367a69b5404"), looks := true }, kinds := [], alts := [], laidByText := true, laidKinds := [.data], laidTests := true, laidLooks := .later }
def NatRingCardSaid : Prop := Claim7.holds Tryd.pinned (.plain (OpenSpec.ofChange natRingSpec)) natRingCard

/-- THE TIED CARD OF 'sluicewaylaw1.NatDivides'. -/
def natDividesCard : Claim7 := { stood := { row := natDividesRow, standIns := [], harness := (true, "14a503aeca3bae57a723720292b0fe359edc0044e4ace19b9abdd367a69b5404"), looks := true }, kinds := [], alts := [], laidByText := true, laidKinds := [.data], laidTests := true, laidLooks := .later }
def NatDividesCardSaid : Prop := Claim7.holds Tryd.pinned (.plain (OpenSpec.ofChange natDividesSpec)) natDividesCard

/-- THE TIED CARD OF 'sluicewaylaw1.NatShifts'. -/
def natShiftsCard : Claim7 := { stood := { row := natShiftsRow, standIns := [], harness := (true, "14a503aeca3bae57a723720292b0fe359edc0044e4ace19b9abdd367a69b5404"), looks := true }, kinds := [], alts := [], laidByText := true, laidKinds := [.data], laidTests := true, laidLooks := .later }
def NatShiftsCardSaid : Prop := Claim7.holds Tryd.pinned (.plain (OpenSpec.ofChange natShiftsSpec)) natShiftsCard

/-- THE TIED CARD OF 'sluicewaylaw1.NatCaps'. -/
def natCapsCard : Claim7 := { stood := { row := natCapsRow, standIns := [], harness := (true, "14a503aeca3bae57a723720292b0fe359edc0044e4ace19b9abdd367a69b5404"), looks := true }, kinds := [], alts := [], laidByText := true, laidKinds := [.data], laidTests := true, laidLooks := .later }
def NatCapsCardSaid : Prop := Claim7.holds Tryd.pinned (.plain (OpenSpec.ofChange natCapsSpec)) natCapsCard

/-- THE TIED CARD OF 'sluicewaylaw2.DyadAsks'. -/
def dyadAsksCard : Claim7 := { stood := { row := dyadAsksRow, standIns := [], harness := (true, "14a503aeca3bae57a723720292b0fe359edc0044e4ace19b9abdd367a69b5404"), looks := true }, kinds := [], alts := [], laidByText := true, laidKinds := [.data], laidTests := true, laidLooks := .later }
def DyadAsksCardSaid : Prop := Claim7.holds Tryd.pinned (.plain (OpenSpec.ofChange dyadAsksSpec)) dyadAsksCard

/-- THE TIED CARD OF 'sluicewaylaw2.DyadNorm'. -/
def dyadNormCard : Claim7 := { stood := { row := dyadNormRow, standIns := [], harness := (true, "14a503aeca3bae57a723720292b0fe359edc0044e4ace19b9abdd367a69b5404"), looks := true }, kinds := [], alts := [], laidByText := true, laidKinds := [.data], laidTests := true, laidLooks := .later }
def DyadNormCardSaid : Prop := Claim7.holds Tryd.pinned (.plain (OpenSpec.ofChange dyadNormSpec)) dyadNormCard

/-- THE TIED CARD OF 'sluicewaylaw2.DyadRing'. -/
def dyadRingCard : Claim7 := { stood := { row := dyadRingRow, standIns := [], harness := (true, "14a503aeca3bae57a723720292b0fe359edc0044e4ace19b9abdd367a69b5404"), looks := true }, kinds := [], alts := [], laidByText := true, laidKinds := [.data], laidTests := true, laidLooks := .later }
def DyadRingCardSaid : Prop := Claim7.holds Tryd.pinned (.plain (OpenSpec.ofChange dyadRingSpec)) dyadRingCard

/-- THE TIED CARD OF 'sluicewaylaw2.DyadOrder'. -/
def dyadOrderCard : Claim7 := { stood := { row := dyadOrderRow, standIns := [], harness := (true, "14a503aeca3bae57a723720292b0fe359edc0044e4ace19b9abdd367a69b5404"), looks := true }, kinds := [], alts := [], laidByText := true, laidKinds := [.data], laidTests := true, laidLooks := .later }
def DyadOrderCardSaid : Prop := Claim7.holds Tryd.pinned (.plain (OpenSpec.ofChange dyadOrderSpec)) dyadOrderCard

/-- THE TIED CARD OF 'sluicewaylaw2.DyadOnes'. -/
def dyadOnesCard : Claim7 := { stood := { row := dyadOnesRow, standIns := [], harness := (true, "14a503aeca3bae57a723720292b0fe359edc0044e4ace19b9abdd367a69b5404"), looks := true }, kinds := [], alts := [], laidByText := true, laidKinds := [.data], laidTests := true, laidLooks := .later }
def DyadOnesCardSaid : Prop := Claim7.holds Tryd.pinned (.plain (OpenSpec.ofChange dyadOnesSpec)) dyadOnesCard

/-- THE TIED CARD OF 'sluicewaylaw2.DyadFar'. -/
def dyadFarCard : Claim7 := { stood := { row := dyadFarRow, standIns := [], harness := (true, "14a503aeca3bae57a723720292b0fe359edc0044e4ace19b9abdd367a69b5404"), looks := true }, kinds := [], alts := [], laidByText := true, laidKinds := [.data], laidTests := true, laidLooks := .later }
def DyadFarCardSaid : Prop := Claim7.holds Tryd.pinned (.plain (OpenSpec.ofChange dyadFarSpec)) dyadFarCard

/-- THE SECOND FORM's CARD OF 'sluicewaylaw1.NatAsks'. -/
def natAsksUptoCard : Claim7 := { stood := { row := natAsksUptoRow, standIns := [], harness := (true, "14a503aeca3bae57a723720292b0fe359edc0044e4ace19b9abdd367a69b5404"), looks := true }, kinds := [], alts := [], laidByText := true, laidKinds := [.data], laidTests := true, laidLooks := .later }
def NatAsksUptoCardSaid : Prop := Claim7.holds Tryd.pinned (.plain (OpenSpec.upto natAsksSpec)) natAsksUptoCard

/-- THE SECOND FORM's CARD OF 'sluicewaylaw1.NatParts'. -/
def natPartsUptoCard : Claim7 := { stood := { row := natPartsUptoRow, standIns := [], harness := (true, "14a503aeca3bae57a723720292b0fe359edc0044e4ace19b9abdd367a69b5404"), looks := true }, kinds := [], alts := [], laidByText := true, laidKinds := [.data], laidTests := true, laidLooks := .later }
def NatPartsUptoCardSaid : Prop := Claim7.holds Tryd.pinned (.plain (OpenSpec.upto natPartsSpec)) natPartsUptoCard

/-- THE SECOND FORM's CARD OF 'sluicewaylaw1.NatBits'. -/
def natBitsUptoCard : Claim7 := { stood := { row := natBitsUptoRow, standIns := [], harness := (true, "14a503aeca3bae57a723720292b0fe359edc0044e4ace19b9abdd367a69b5404"), looks := true }, kinds := [], alts := [], laidByText := true, laidKinds := [.data], laidTests := true, laidLooks := .later }
def NatBitsUptoCardSaid : Prop := Claim7.holds Tryd.pinned (.plain (OpenSpec.upto natBitsSpec)) natBitsUptoCard

/-- THE SECOND FORM's CARD OF 'sluicewaylaw1.NatRing'. -/
def natRingUptoCard : Claim7 := { stood := { row := natRingUptoRow, standIns := [], harness := (true, "14a503aeca3bae57a723720292b0fe359edc0044e4ace19b9abdd367a69b5404"), looks := true }, kinds := [], alts := [], laidByText := true, laidKinds := [.data], laidTests := true, laidLooks := .later }
def NatRingUptoCardSaid : Prop := Claim7.holds Tryd.pinned (.plain (OpenSpec.upto natRingSpec)) natRingUptoCard

/-- THE SECOND FORM's CARD OF 'sluicewaylaw1.NatDivides'. -/
def natDividesUptoCard : Claim7 := { stood := { row := natDividesUptoRow, standIns := [], harness := (true, "14a503aeca3bae57a723720292b0fe359edc0044e4ace19b9abdd367a69b5404"), looks := true }, kinds := [], alts := [], laidByText := true, laidKinds := [.data], laidTests := true, laidLooks := .later }
def NatDividesUptoCardSaid : Prop := Claim7.holds Tryd.pinned (.plain (OpenSpec.upto natDividesSpec)) natDividesUptoCard

/-- THE SECOND FORM's CARD OF 'sluicewaylaw1.NatShifts'. -/
def natShiftsUptoCard : Claim7 := { stood := { row := natShiftsUptoRow, standIns := [], harness := (true, "14a503aeca3bae57a723720292b0fe359edc0044e4ace19b9abdd367a69b5404"), looks := true }, kinds := [], alts := [], laidByText := true, laidKinds := [.data], laidTests := true, laidLooks := .later }
def NatShiftsUptoCardSaid : Prop := Claim7.holds Tryd.pinned (.plain (OpenSpec.upto natShiftsSpec)) natShiftsUptoCard

/-- THE SECOND FORM's CARD OF 'sluicewaylaw1.NatCaps'. -/
def natCapsUptoCard : Claim7 := { stood := { row := natCapsUptoRow, standIns := [], harness := (true, "14a503aeca3bae57a723720292b0fe359edc0044e4ace19b9abdd367a69b5404"), looks := true }, kinds := [], alts := [], laidByText := true, laidKinds := [.data], laidTests := true, laidLooks := .later }
def NatCapsUptoCardSaid : Prop := Claim7.holds Tryd.pinned (.plain (OpenSpec.upto natCapsSpec)) natCapsUptoCard

/-- THE SECOND FORM's CARD OF 'sluicewaylaw2.DyadAsks'. -/
def dyadAsksUptoCard : Claim7 := { stood := { row := dyadAsksUptoRow, standIns := [], harness := (true, "14a503aeca3bae57a723720292b0fe359edc0044e4ace19b9abdd367a69b5404"), looks := true }, kinds := [], alts := [], laidByText := true, laidKinds := [.data], laidTests := true, laidLooks := .later }
def DyadAsksUptoCardSaid : Prop := Claim7.holds Tryd.pinned (.plain (OpenSpec.upto dyadAsksSpec)) dyadAsksUptoCard

/-- THE SECOND FORM's CARD OF 'sluicewaylaw2.DyadNorm'. -/
def dyadNormUptoCard : Claim7 := { stood := { row := dyadNormUptoRow, standIns := [], harness := (true, "14a503aeca3bae57a723720292b0fe359edc0044e4ace19b9abdd367a69b5404"), looks := true }, kinds := [], alts := [], laidByText := true, laidKinds := [.data], laidTests := true, laidLooks := .later }
def DyadNormUptoCardSaid : Prop := Claim7.holds Tryd.pinned (.plain (OpenSpec.upto dyadNormSpec)) dyadNormUptoCard

/-- THE SECOND FORM's CARD OF 'sluicewaylaw2.DyadRing'. -/
def dyadRingUptoCard : Claim7 := { stood := { row := dyadRingUptoRow, standIns := [], harness := (true, "14a503aeca3bae57a723720292b0fe359edc0044e4ace19b9abdd367a69b5404"), looks := true }, kinds := [], alts := [], laidByText := true, laidKinds := [.data], laidTests := true, laidLooks := .later }
def DyadRingUptoCardSaid : Prop := Claim7.holds Tryd.pinned (.plain (OpenSpec.upto dyadRingSpec)) dyadRingUptoCard

/-- THE SECOND FORM's CARD OF 'sluicewaylaw2.DyadOrder'. -/
def dyadOrderUptoCard : Claim7 := { stood := { row := dyadOrderUptoRow, standIns := [], harness := (true, "14a503aeca3bae57a723720292b0fe359edc0044e4ace19b9abdd367a69b5404"), looks := true }, kinds := [], alts := [], laidByText := true, laidKinds := [.data], laidTests := true, laidLooks := .later }
def DyadOrderUptoCardSaid : Prop := Claim7.holds Tryd.pinned (.plain (OpenSpec.upto dyadOrderSpec)) dyadOrderUptoCard

/-- THE SECOND FORM's CARD OF 'sluicewaylaw2.DyadOnes'. -/
def dyadOnesUptoCard : Claim7 := { stood := { row := dyadOnesUptoRow, standIns := [], harness := (true, "14a503aeca3bae57a723720292b0fe359edc0044e4ace19b9abdd367a69b5404"), looks := true }, kinds := [], alts := [], laidByText := true, laidKinds := [.data], laidTests := true, laidLooks := .later }
def DyadOnesUptoCardSaid : Prop := Claim7.holds Tryd.pinned (.plain (OpenSpec.upto dyadOnesSpec)) dyadOnesUptoCard

/-- THE SECOND FORM's CARD OF 'sluicewaylaw2.DyadFar'. -/
def dyadFarUptoCard : Claim7 := { stood := { row := dyadFarUptoRow, standIns := [], harness := (true, "14a503aeca3bae57a723720292b0fe359edc0044e4ace19b9abdd367a69b5404"), looks := true }, kinds := [], alts := [], laidByText := true, laidKinds := [.data], laidTests := true, laidLooks := .later }
def DyadFarUptoCardSaid : Prop := Claim7.holds Tryd.pinned (.plain (OpenSpec.upto dyadFarSpec)) dyadFarUptoCard
end Rows
end Go.Proofs.YtdklekiknhhfdaaDoor
