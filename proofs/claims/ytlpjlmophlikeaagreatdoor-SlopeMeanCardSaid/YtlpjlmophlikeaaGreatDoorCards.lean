/-
  DERIVED. GIVEN WITH THE SEED: THE CARDS: each row of YtlpjlmophlikeaaGreatDoorRows.lean that lists a variable, with what it lists TIED to the program's text (the seventh form; the later family's looks); each row that meets fmt, with fmt's text TOLD by the authors' own Lean function (tested against real Go, not proved from fmt's source: count such statements apart). THE CARD IS WHAT COUNTS. Prove the row's statement (the work); the ties are given (YtlpjlmophlikeaaGreatDoorTie.lean); close each card by the builder's one call (the guide's Derived/Test/ToyasCard.lean, 'card_holds'). Laid BY PROGRAM, IN A SANDBOX (cutbox-door.mjs). By AI agents, Wed Nov 11 2026. No macro, syntax, notation, axiom, sorry.
-/
import Derived.Test.YtlpjlmophlikeaaGreatDoorRows
import GoSem.ClaimSeven
namespace Go.Proofs.YtlpjlmophlikeaaGreatDoor
namespace Rows

/-- THE TIED CARD OF 'sluicewaylaw10.SlopeMean'. -/
def slopeMeanCard : Claim7 := { stood := { row := slopeMeanRow, standIns := [], harness := (true, "99c832aa3f1ab3c67cec90e9ebda739a859c8b801e0baa093d49ed71a95add49"), looks := true }, kinds := [], alts := [], laidByText := true, laidKinds := [.data], laidTests := true, laidLooks := .later }
def SlopeMeanCardSaid : Prop := Claim7.holds Tryz.pinned (.plain (OpenSpec.ofChange slopeMeanSpec)) slopeMeanCard

/-- THE TIED CARD OF 'sluicewaylaw11.BoxSets'. -/
def boxSetsCard : Claim7 := { stood := { row := boxSetsRow, standIns := [], harness := (true, "99c832aa3f1ab3c67cec90e9ebda739a859c8b801e0baa093d49ed71a95add49"), looks := true }, kinds := [], alts := [], laidByText := true, laidKinds := [.data], laidTests := true, laidLooks := .later }
def BoxSetsCardSaid : Prop := Claim7.holds Tryz.pinned (.plain (OpenSpec.ofChange boxSetsSpec)) boxSetsCard

/-- THE TIED CARD OF 'sluicewaylaw11.BoxRows'. -/
def boxRowsCard : Claim7 := { stood := { row := boxRowsRow, standIns := [], harness := (true, "99c832aa3f1ab3c67cec90e9ebda739a859c8b801e0baa093d49ed71a95add49"), looks := true }, kinds := [], alts := [], laidByText := true, laidKinds := [.data], laidTests := true, laidLooks := .later }
def BoxRowsCardSaid : Prop := Claim7.holds Tryz.pinned (.plain (OpenSpec.ofChange boxRowsSpec)) boxRowsCard

/-- THE SECOND FORM's CARD OF 'sluicewaylaw10.SlopeMean'. -/
def slopeMeanUptoCard : Claim7 := { stood := { row := slopeMeanUptoRow, standIns := [], harness := (true, "99c832aa3f1ab3c67cec90e9ebda739a859c8b801e0baa093d49ed71a95add49"), looks := true }, kinds := [], alts := [], laidByText := true, laidKinds := [.data], laidTests := true, laidLooks := .later }
def SlopeMeanUptoCardSaid : Prop := Claim7.holds Tryz.pinned (.plain (OpenSpec.upto slopeMeanSpec)) slopeMeanUptoCard

/-- THE SECOND FORM's CARD OF 'sluicewaylaw11.BoxSets'. -/
def boxSetsUptoCard : Claim7 := { stood := { row := boxSetsUptoRow, standIns := [], harness := (true, "99c832aa3f1ab3c67cec90e9ebda739a859c8b801e0baa093d49ed71a95add49"), looks := true }, kinds := [], alts := [], laidByText := true, laidKinds := [.data], laidTests := true, laidLooks := .later }
def BoxSetsUptoCardSaid : Prop := Claim7.holds Tryz.pinned (.plain (OpenSpec.upto boxSetsSpec)) boxSetsUptoCard

/-- THE SECOND FORM's CARD OF 'sluicewaylaw11.BoxRows'. -/
def boxRowsUptoCard : Claim7 := { stood := { row := boxRowsUptoRow, standIns := [], harness := (true, "99c832aa3f1ab3c67cec90e9ebda739a859c8b801e0baa093d49ed71a95add49"), looks := true }, kinds := [], alts := [], laidByText := true, laidKinds := [.data], laidTests := true, laidLooks := .later }
def BoxRowsUptoCardSaid : Prop := Claim7.holds Tryz.pinned (.plain (OpenSpec.upto boxRowsSpec)) boxRowsUptoCard
end Rows
end Go.Proofs.YtlpjlmophlikeaaGreatDoor
