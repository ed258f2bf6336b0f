/-
  DERIVED. GIVEN WITH THE SEED: THE CARDS: each row of YtefofejgogokpaaGreatDoorRows.lean that lists a variable, with what it lists TIED to the program's text (the seventh form; the later family's looks); each row that meets fmt, with fmt's text TOLD by the authors' own Lean function (tested against real Go, not proved from fmt's source: count such statements apart). THE CARD IS WHAT COUNTS. Prove the row's statement (the work); the ties are given (YtefofejgogokpaaGreatDoorTie.lean); close each card by the builder's one call (the guide's Derived/Test/ToyasCard.lean, 'card_holds'). Laid BY PROGRAM, IN A SANDBOX (cutbox-door.mjs). By AI agents, Wed Nov 11 2026. No macro, syntax, notation, axiom, sorry.
-/
import Derived.Test.YtefofejgogokpaaGreatDoorRows
import GoSem.ClaimSeven
namespace Go.Proofs.YtefofejgogokpaaGreatDoor
namespace Rows

/-- THE TIED CARD OF 'sluicewaylaw4.DecAsks'. -/
def decAsksCard : Claim7 := { stood := { row := decAsksRow, standIns := [], harness := (true, "ff01037a9f6cd4ec71f7b89b8d44558a1904d22ac3fb901271726df87e7bca32"), looks := true }, kinds := [], alts := [], laidByText := true, laidKinds := [.data, .data, .data, .data, .sentinel, .sentinel, .pinned], laidTests := true, laidLooks := .later }
def DecAsksCardSaid : Prop := Claim7.holds Tryz.pinned (.plain (OpenSpec.ofChange decAsksSpec)) decAsksCard

/-- THE TIED CARD OF 'sluicewaylaw4.DecTexts'. -/
def decTextsCard : Claim7 := { stood := { row := decTextsRow, standIns := [], harness := (true, "ff01037a9f6cd4ec71f7b89b8d44558a1904d22ac3fb901271726df87e7bca32"), looks := true }, kinds := [], alts := [], laidByText := true, laidKinds := [.data, .data, .data, .data, .sentinel, .sentinel, .pinned], laidTests := true, laidLooks := .later }
def DecTextsCardSaid : Prop := Claim7.holds Tryz.pinned (.plain (OpenSpec.ofChange decTextsSpec)) decTextsCard

/-- THE TIED CARD OF 'sluicewaylaw4.DecHolds'. -/
def decHoldsCard : Claim7 := { stood := { row := decHoldsRow, standIns := [], harness := (true, "ff01037a9f6cd4ec71f7b89b8d44558a1904d22ac3fb901271726df87e7bca32"), looks := true }, kinds := [], alts := [], laidByText := true, laidKinds := [.data, .data, .data, .data, .sentinel, .sentinel, .pinned], laidTests := true, laidLooks := .later }
def DecHoldsCardSaid : Prop := Claim7.holds Tryz.pinned (.plain (OpenSpec.ofChange decHoldsSpec)) decHoldsCard

/-- THE TIED CARD OF 'sluicewaylaw4.DecBack'. -/
def decBackCard : Claim7 := { stood := { row := decBackRow, standIns := [], harness := (true, "ff01037a9f6cd4ec71f7b89b8d44558a1904d22ac3fb901271726df87e7bca32"), looks := true }, kinds := [], alts := [], laidByText := true, laidKinds := [.data, .data, .data, .data, .sentinel, .sentinel, .pinned], laidTests := true, laidLooks := .later }
def DecBackCardSaid : Prop := Claim7.holds Tryz.pinned (.plain (OpenSpec.ofChange decBackSpec)) decBackCard

/-- THE TIED CARD OF 'sluicewaylaw4.DecSigns'. -/
def decSignsCard : Claim7 := { stood := { row := decSignsRow, standIns := [], harness := (true, "ff01037a9f6cd4ec71f7b89b8d44558a1904d22ac3fb901271726df87e7bca32"), looks := true }, kinds := [], alts := [], laidByText := true, laidKinds := [.data, .data, .data, .data, .sentinel, .sentinel, .pinned], laidTests := true, laidLooks := .later }
def DecSignsCardSaid : Prop := Claim7.holds Tryz.pinned (.plain (OpenSpec.ofChange decSignsSpec)) decSignsCard

/-- THE TIED CARD OF 'sluicewaylaw4.DecForms'. -/
def decFormsCard : Claim7 := { stood := { row := decFormsRow, standIns := [], harness := (true, "ff01037a9f6cd4ec71f7b89b8d44558a1904d22ac3fb901271726df87e7bca32"), looks := true }, kinds := [], alts := [], laidByText := true, laidKinds := [.data, .data, .data, .data, .sentinel, .sentinel, .pinned], laidTests := true, laidLooks := .later }
def DecFormsCardSaid : Prop := Claim7.holds Tryz.pinned (.plain (OpenSpec.ofChange decFormsSpec)) decFormsCard

/-- THE SECOND FORM's CARD OF 'sluicewaylaw4.DecAsks'. -/
def decAsksUptoCard : Claim7 := { stood := { row := decAsksUptoRow, standIns := [], harness := (true, "ff01037a9f6cd4ec71f7b89b8d44558a1904d22ac3fb901271726df87e7bca32"), looks := true }, kinds := [], alts := [], laidByText := true, laidKinds := [.data, .data, .data, .data, .sentinel, .sentinel, .pinned], laidTests := true, laidLooks := .later }
def DecAsksUptoCardSaid : Prop := Claim7.holds Tryz.pinned (.plain (OpenSpec.upto decAsksSpec)) decAsksUptoCard

/-- THE SECOND FORM's CARD OF 'sluicewaylaw4.DecTexts'. -/
def decTextsUptoCard : Claim7 := { stood := { row := decTextsUptoRow, standIns := [], harness := (true, "ff01037a9f6cd4ec71f7b89b8d44558a1904d22ac3fb901271726df87e7bca32"), looks := true }, kinds := [], alts := [], laidByText := true, laidKinds := [.data, .data, .data, .data, .sentinel, .sentinel, .pinned], laidTests := true, laidLooks := .later }
def DecTextsUptoCardSaid : Prop := Claim7.holds Tryz.pinned (.plain (OpenSpec.upto decTextsSpec)) decTextsUptoCard

/-- THE SECOND FORM's CARD OF 'sluicewaylaw4.DecHolds'. -/
def decHoldsUptoCard : Claim7 := { stood := { row := decHoldsUptoRow, standIns := [], harness := (true, "ff01037a9f6cd4ec71f7b89b8d44558a1904d22ac3fb901271726df87e7bca32"), looks := true }, kinds := [], alts := [], laidByText := true, laidKinds := [.data, .data, .data, .data, .sentinel, .sentinel, .pinned], laidTests := true, laidLooks := .later }
def DecHoldsUptoCardSaid : Prop := Claim7.holds Tryz.pinned (.plain (OpenSpec.upto decHoldsSpec)) decHoldsUptoCard

/-- THE SECOND FORM's CARD OF 'sluicewaylaw4.DecBack'. -/
def decBackUptoCard : Claim7 := { stood := { row := decBackUptoRow, standIns := [], harness := (true, "ff01037a9f6cd4ec71f7b89b8d44558a1904d22ac3fb901271726df87e7bca32"), looks := true }, kinds := [], alts := [], laidByText := true, laidKinds := [.data, .data, .data, .data, .sentinel, .sentinel, .pinned], laidTests := true, laidLooks := .later }
def DecBackUptoCardSaid : Prop := Claim7.holds Tryz.pinned (.plain (OpenSpec.upto decBackSpec)) decBackUptoCard

/-- THE SECOND FORM's CARD OF 'sluicewaylaw4.DecSigns'. -/
def decSignsUptoCard : Claim7 := { stood := { row := decSignsUptoRow, standIns := [], harness := (true, "ff01037a9f6cd4ec71f7b89b8d44558a1904d22ac3fb901271726df87e7bca32"), looks := true }, kinds := [], alts := [], laidByText := true, laidKinds := [.data, .data, .data, .data, .sentinel, .sentinel, .pinned], laidTests := true, laidLooks := .later }
def DecSignsUptoCardSaid : Prop := Claim7.holds Tryz.pinned (.plain (OpenSpec.upto decSignsSpec)) decSignsUptoCard

/-- THE SECOND FORM's CARD OF 'sluicewaylaw4.DecForms'. -/
def decFormsUptoCard : Claim7 := { stood := { row := decFormsUptoRow, standIns := [], harness := (true, "ff01037a9f6cd4ec71f7b89b8d44558a1904d22ac3fb901271726df87e7bca32"), looks := true }, kinds := [], alts := [], laidByText := true, laidKinds := [.data, .data, .data, .data, .sentinel, .sentinel, .pinned], laidTests := true, laidLooks := .later }
def DecFormsUptoCardSaid : Prop := Claim7.holds Tryz.pinned (.plain (OpenSpec.upto decFormsSpec)) decFormsUptoCard
end Rows
end Go.Proofs.YtefofejgogokpaaGreatDoor
