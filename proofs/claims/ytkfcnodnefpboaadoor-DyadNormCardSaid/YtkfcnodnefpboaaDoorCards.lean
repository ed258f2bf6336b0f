/-
  DERIVED. GIVEN WITH THE SEED: THE CARDS: each row of YtkfcnodnefpboaaDoorRows.lean that lists a variable, with what it lists TIED to the program's text (the seventh form; the later family's looks); each row that meets fmt, with fmt's text TOLD by the authors' own Lean function (tested against real Go, not proved from fmt's source: count such statements apart). THE CARD IS WHAT COUNTS. Prove the row's statement (the work); the ties are given (YtkfcnodnefpboaaDoorTie.lean); close each card by the builder's one call (the guide's Derived/Test/ToyasCard.lean, 'card_holds'). Laid BY PROGRAM, IN A SANDBOX (cutbox-door.mjs). By AI agents, Wed Nov 11 2026. No macro, syntax, notation, axiom, sorry.
-/
import Derived.Test.YtkfcnodnefpboaaDoorRows
import GoSem.ClaimSeven
namespace Go.Proofs.YtkfcnodnefpboaaDoor
namespace Rows

/-- THE TIED CARD OF 'sluicewaylaw2.DyadAsks'. -/
def dyadAsksCard : Claim7 := { stood := { row := dyadAsksRow, standIns := [], harness := (true, "3e53d3a319b5a8729d83aad0951f8814da70b62463aa3fdb74c23fb8958cf93d"), looks := true }, kinds := [], alts := [], laidByText := true, laidKinds := [.data], laidTests := true, laidLooks := .later }
def DyadAsksCardSaid : Prop := Claim7.holds Tryd.pinned (.plain (OpenSpec.ofChange dyadAsksSpec)) dyadAsksCard

/-- THE TIED CARD OF 'sluicewaylaw2.DyadNorm'. -/
def dyadNormCard : Claim7 := { stood := { row := dyadNormRow, standIns := [], harness := (true, "3e53d3a319b5a8729d83aad0951f8814da70b62463aa3fdb74c23fb8958cf93d"), looks := true }, kinds := [], alts := [], laidByText := true, laidKinds := [.data], laidTests := true, laidLooks := .later }
def DyadNormCardSaid : Prop := Claim7.holds Tryd.pinned (.plain (OpenSpec.ofChange dyadNormSpec)) dyadNormCard

/-- THE TIED CARD OF 'sluicewaylaw2.DyadRing'. -/
def dyadRingCard : Claim7 := { stood := { row := dyadRingRow, standIns := [], harness := (true, "3e53d3a319b5a8729d83aad0951f8814da70b62463aa3fdb74c23fb8958cf93d"), looks := true }, kinds := [], alts := [], laidByText := true, laidKinds := [.data], laidTests := true, laidLooks := .later }
def DyadRingCardSaid : Prop := Claim7.holds Tryd.pinned (.plain (OpenSpec.ofChange dyadRingSpec)) dyadRingCard

/-- THE TIED CARD OF 'sluicewaylaw2.DyadOrder'. -/
def dyadOrderCard : Claim7 := { stood := { row := dyadOrderRow, standIns := [], harness := (true, "3e53d3a319b5a8729d83aad0951f8814da70b62463aa3fdb74c23fb8958cf93d"), looks := true }, kinds := [], alts := [], laidByText := true, laidKinds := [.data], laidTests := true, laidLooks := .later }
def DyadOrderCardSaid : Prop := Claim7.holds Tryd.pinned (.plain (OpenSpec.ofChange dyadOrderSpec)) dyadOrderCard

/-- THE TIED CARD OF 'sluicewaylaw2.DyadOnes'. -/
def dyadOnesCard : Claim7 := { stood := { row := dyadOnesRow, standIns := [], harness := (true, "3e53d3a319b5a8729d83aad0951f8814da70b62463aa3fdb74c23fb8958cf93d"), looks := true }, kinds := [], alts := [], laidByText := true, laidKinds := [.data], laidTests := true, laidLooks := .later }
def DyadOnesCardSaid : Prop := Claim7.holds Tryd.pinned (.plain (OpenSpec.ofChange dyadOnesSpec)) dyadOnesCard

/-- THE TIED CARD OF 'sluicewaylaw2.DyadFar'. -/
def dyadFarCard : Claim7 := { stood := { row := dyadFarRow, standIns := [], harness := (true, "3e53d3a319b5a8729d83aad0951f8814da70b62463aa3fdb74c23fb8958cf93d"), looks := true }, kinds := [], alts := [], laidByText := true, laidKinds := [.data], laidTests := true, laidLooks := .later }
def DyadFarCardSaid : Prop := Claim7.holds Tryd.pinned (.plain (OpenSpec.ofChange dyadFarSpec)) dyadFarCard

/-- THE TIED CARD OF 'sluicewaylaw3.RoundAsks'. -/
def roundAsksCard : Claim7 := { stood := { row := roundAsksRow, standIns := [], harness := (true, "3e53d3a319b5a8729d83aad0951f8814da70b62463aa3fdb74c23fb8958cf93d"), looks := true }, kinds := [], alts := [], laidByText := true, laidKinds := [.data], laidTests := true, laidLooks := .later }
def RoundAsksCardSaid : Prop := Claim7.holds Tryd.pinned (.plain (OpenSpec.ofChange roundAsksSpec)) roundAsksCard

/-- THE TIED CARD OF 'sluicewaylaw3.RoundQuot'. -/
def roundQuotCard : Claim7 := { stood := { row := roundQuotRow, standIns := [], harness := (true, "3e53d3a319b5a8729d83aad0951f8814da70b62463aa3fdb74c23fb8958cf93d"), looks := true }, kinds := [], alts := [], laidByText := true, laidKinds := [.data], laidTests := true, laidLooks := .later }
def RoundQuotCardSaid : Prop := Claim7.holds Tryd.pinned (.plain (OpenSpec.ofChange roundQuotSpec)) roundQuotCard

/-- THE TIED CARD OF 'sluicewaylaw3.RoundRoot'. -/
def roundRootCard : Claim7 := { stood := { row := roundRootRow, standIns := [], harness := (true, "3e53d3a319b5a8729d83aad0951f8814da70b62463aa3fdb74c23fb8958cf93d"), looks := true }, kinds := [], alts := [], laidByText := true, laidKinds := [.data], laidTests := true, laidLooks := .later }
def RoundRootCardSaid : Prop := Claim7.holds Tryd.pinned (.plain (OpenSpec.ofChange roundRootSpec)) roundRootCard

/-- THE TIED CARD OF 'sluicewaylaw3.RoundBetween'. -/
def roundBetweenCard : Claim7 := { stood := { row := roundBetweenRow, standIns := [], harness := (true, "3e53d3a319b5a8729d83aad0951f8814da70b62463aa3fdb74c23fb8958cf93d"), looks := true }, kinds := [], alts := [], laidByText := true, laidKinds := [.data], laidTests := true, laidLooks := .later }
def RoundBetweenCardSaid : Prop := Claim7.holds Tryd.pinned (.plain (OpenSpec.ofChange roundBetweenSpec)) roundBetweenCard

/-- THE TIED CARD OF 'sluicewaylaw3.RoundNear'. -/
def roundNearCard : Claim7 := { stood := { row := roundNearRow, standIns := [], harness := (true, "3e53d3a319b5a8729d83aad0951f8814da70b62463aa3fdb74c23fb8958cf93d"), looks := true }, kinds := [], alts := [], laidByText := true, laidKinds := [.data], laidTests := true, laidLooks := .later }
def RoundNearCardSaid : Prop := Claim7.holds Tryd.pinned (.plain (OpenSpec.ofChange roundNearSpec)) roundNearCard

/-- THE TIED CARD OF 'sluicewaylaw3.RoundHolds'. -/
def roundHoldsCard : Claim7 := { stood := { row := roundHoldsRow, standIns := [], harness := (true, "3e53d3a319b5a8729d83aad0951f8814da70b62463aa3fdb74c23fb8958cf93d"), looks := true }, kinds := [], alts := [], laidByText := true, laidKinds := [.data], laidTests := true, laidLooks := .later }
def RoundHoldsCardSaid : Prop := Claim7.holds Tryd.pinned (.plain (OpenSpec.ofChange roundHoldsSpec)) roundHoldsCard

/-- THE TIED CARD OF 'sluicewaylaw3.RoundExact'. -/
def roundExactCard : Claim7 := { stood := { row := roundExactRow, standIns := [], harness := (true, "3e53d3a319b5a8729d83aad0951f8814da70b62463aa3fdb74c23fb8958cf93d"), looks := true }, kinds := [], alts := [], laidByText := true, laidKinds := [.data], laidTests := true, laidLooks := .later }
def RoundExactCardSaid : Prop := Claim7.holds Tryd.pinned (.plain (OpenSpec.ofChange roundExactSpec)) roundExactCard

/-- THE TIED CARD OF 'sluicewaylaw3.RoundTwice'. -/
def roundTwiceCard : Claim7 := { stood := { row := roundTwiceRow, standIns := [], harness := (true, "3e53d3a319b5a8729d83aad0951f8814da70b62463aa3fdb74c23fb8958cf93d"), looks := true }, kinds := [], alts := [], laidByText := true, laidKinds := [.data], laidTests := true, laidLooks := .later }
def RoundTwiceCardSaid : Prop := Claim7.holds Tryd.pinned (.plain (OpenSpec.ofChange roundTwiceSpec)) roundTwiceCard

/-- THE SECOND FORM's CARD OF 'sluicewaylaw2.DyadAsks'. -/
def dyadAsksUptoCard : Claim7 := { stood := { row := dyadAsksUptoRow, standIns := [], harness := (true, "3e53d3a319b5a8729d83aad0951f8814da70b62463aa3fdb74c23fb8958cf93d"), looks := true }, kinds := [], alts := [], laidByText := true, laidKinds := [.data], laidTests := true, laidLooks := .later }
def DyadAsksUptoCardSaid : Prop := Claim7.holds Tryd.pinned (.plain (OpenSpec.upto dyadAsksSpec)) dyadAsksUptoCard

/-- THE SECOND FORM's CARD OF 'sluicewaylaw2.DyadNorm'. -/
def dyadNormUptoCard : Claim7 := { stood := { row := dyadNormUptoRow, standIns := [], harness := (true, "3e53d3a319b5a8729d83aad0951f8814da70b62463aa3fdb74c23fb8958cf93d"), looks := true }, kinds := [], alts := [], laidByText := true, laidKinds := [.data], laidTests := true, laidLooks := .later }
def DyadNormUptoCardSaid : Prop := Claim7.holds Tryd.pinned (.plain (OpenSpec.upto dyadNormSpec)) dyadNormUptoCard

/-- THE SECOND FORM's CARD OF 'sluicewaylaw2.DyadRing'. -/
def dyadRingUptoCard : Claim7 := { stood := { row := dyadRingUptoRow, standIns := [], harness := (true, "3e53d3a319b5a8729d83aad0951f8814da70b62463aa3fdb74c23fb8958cf93d"), looks := true }, kinds := [], alts := [], laidByText := true, laidKinds := [.data], laidTests := true, laidLooks := .later }
def DyadRingUptoCardSaid : Prop := Claim7.holds Tryd.pinned (.plain (OpenSpec.upto dyadRingSpec)) dyadRingUptoCard

/-- THE SECOND FORM's CARD OF 'sluicewaylaw2.DyadOrder'. -/
def dyadOrderUptoCard : Claim7 := { stood := { row := dyadOrderUptoRow, standIns := [], harness := (true, "3e53d3a319b5a8729d83aad0951f8814da70b62463aa3fdb74c23fb8958cf93d"), looks := true }, kinds := [], alts := [], laidByText := true, laidKinds := [.data], laidTests := true, laidLooks := .later }
def DyadOrderUptoCardSaid : Prop := Claim7.holds Tryd.pinned (.plain (OpenSpec.upto dyadOrderSpec)) dyadOrderUptoCard

/-- THE SECOND FORM's CARD OF 'sluicewaylaw2.DyadOnes'. -/
def dyadOnesUptoCard : Claim7 := { stood := { row := dyadOnesUptoRow, standIns := [], harness := (true, "3e53d3a319b5a8729d83aad0951f8814da70b62463aa3fdb74c23fb8958cf93d"), looks := true }, kinds := [], alts := [], laidByText := true, laidKinds := [.data], laidTests := true, laidLooks := .later }
def DyadOnesUptoCardSaid : Prop := Claim7.holds Tryd.pinned (.plain (OpenSpec.upto dyadOnesSpec)) dyadOnesUptoCard

/-- THE SECOND FORM's CARD OF 'sluicewaylaw2.DyadFar'. -/
def dyadFarUptoCard : Claim7 := { stood := { row := dyadFarUptoRow, standIns := [], harness := (true, "3e53d3a319b5a8729d83aad0951f8814da70b62463aa3fdb74c23fb8958cf93d"), looks := true }, kinds := [], alts := [], laidByText := true, laidKinds := [.data], laidTests := true, laidLooks := .later }
def DyadFarUptoCardSaid : Prop := Claim7.holds Tryd.pinned (.plain (OpenSpec.upto dyadFarSpec)) dyadFarUptoCard

/-- THE SECOND FORM's CARD OF 'sluicewaylaw3.RoundAsks'. -/
def roundAsksUptoCard : Claim7 := { stood := { row := roundAsksUptoRow, standIns := [], harness := (true, "3e53d3a319b5a8729d83aad0951f8814da70b62463aa3fdb74c23fb8958cf93d"), looks := true }, kinds := [], alts := [], laidByText := true, laidKinds := [.data], laidTests := true, laidLooks := .later }
def RoundAsksUptoCardSaid : Prop := Claim7.holds Tryd.pinned (.plain (OpenSpec.upto roundAsksSpec)) roundAsksUptoCard

/-- THE SECOND FORM's CARD OF 'sluicewaylaw3.RoundQuot'. -/
def roundQuotUptoCard : Claim7 := { stood := { row := roundQuotUptoRow, standIns := [], harness := (true, "3e53d3a319b5a8729d83aad0951f8814da70b62463aa3fdb74c23fb8958cf93d"), looks := true }, kinds := [], alts := [], laidByText := true, laidKinds := [.data], laidTests := true, laidLooks := .later }
def RoundQuotUptoCardSaid : Prop := Claim7.holds Tryd.pinned (.plain (OpenSpec.upto roundQuotSpec)) roundQuotUptoCard

/-- THE SECOND FORM's CARD OF 'sluicewaylaw3.RoundRoot'. -/
def roundRootUptoCard : Claim7 := { stood := { row := roundRootUptoRow, standIns := [], harness := (true, "3e53d3a319b5a8729d83aad0951f8814da70b62463aa3fdb74c23fb8958cf93d"), looks := true }, kinds := [], alts := [], laidByText := true, laidKinds := [.data], laidTests := true, laidLooks := .later }
def RoundRootUptoCardSaid : Prop := Claim7.holds Tryd.pinned (.plain (OpenSpec.upto roundRootSpec)) roundRootUptoCard

/-- THE SECOND FORM's CARD OF 'sluicewaylaw3.RoundBetween'. -/
def roundBetweenUptoCard : Claim7 := { stood := { row := roundBetweenUptoRow, standIns := [], harness := (true, "3e53d3a319b5a8729d83aad0951f8814da70b62463aa3fdb74c23fb8958cf93d"), looks := true }, kinds := [], alts := [], laidByText := true, laidKinds := [.data], laidTests := true, laidLooks := .later }
def RoundBetweenUptoCardSaid : Prop := Claim7.holds Tryd.pinned (.plain (OpenSpec.upto roundBetweenSpec)) roundBetweenUptoCard

/-- THE SECOND FORM's CARD OF 'sluicewaylaw3.RoundNear'. -/
def roundNearUptoCard : Claim7 := { stood := { row := roundNearUptoRow, standIns := [], harness := (true, "3e53d3a319b5a8729d83aad0951f8814da70b62463aa3fdb74c23fb8958cf93d"), looks := true }, kinds := [], alts := [], laidByText := true, laidKinds := [.data], laidTests := true, laidLooks := .later }
def RoundNearUptoCardSaid : Prop := Claim7.holds Tryd.pinned (.plain (OpenSpec.upto roundNearSpec)) roundNearUptoCard

/-- THE SECOND FORM's CARD OF 'sluicewaylaw3.RoundHolds'. -/
def roundHoldsUptoCard : Claim7 := { stood := { row := roundHoldsUptoRow, standIns := [], harness := (true, "3e53d3a319b5a8729d83aad0951f8814da70b62463aa3fdb74c23fb8958cf93d"), looks := true }, kinds := [], alts := [], laidByText := true, laidKinds := [.data], laidTests := true, laidLooks := .later }
def RoundHoldsUptoCardSaid : Prop := Claim7.holds Tryd.pinned (.plain (OpenSpec.upto roundHoldsSpec)) roundHoldsUptoCard

/-- THE SECOND FORM's CARD OF 'sluicewaylaw3.RoundExact'. -/
def roundExactUptoCard : Claim7 := { stood := { row := roundExactUptoRow, standIns := [], harness := (true, "3e53d3a319b5a8729d83aad0951f8814da70b62463aa3fdb74c23fb8958cf93d"), looks := true }, kinds := [], alts := [], laidByText := true, laidKinds := [.data], laidTests := true, laidLooks := .later }
def RoundExactUptoCardSaid : Prop := Claim7.holds Tryd.pinned (.plain (OpenSpec.upto roundExactSpec)) roundExactUptoCard

/-- THE SECOND FORM's CARD OF 'sluicewaylaw3.RoundTwice'. -/
def roundTwiceUptoCard : Claim7 := { stood := { row := roundTwiceUptoRow, standIns := [], harness := (true, "3e53d3a319b5a8729d83aad0951f8814da70b62463aa3fdb74c23fb8958cf93d"), looks := true }, kinds := [], alts := [], laidByText := true, laidKinds := [.data], laidTests := true, laidLooks := .later }
def RoundTwiceUptoCardSaid : Prop := Claim7.holds Tryd.pinned (.plain (OpenSpec.upto roundTwiceSpec)) roundTwiceUptoCard
end Rows
end Go.Proofs.YtkfcnodnefpboaaDoor
