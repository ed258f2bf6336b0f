/-
  DERIVED. GIVEN WITH THE SEED: THE CARDS: each row of YtijflbnfikiaaaaDoorRows.lean that lists a variable, with what it lists TIED to the program's text (the seventh form; the later family's looks); each row that meets fmt, with fmt's text TOLD by the authors' own Lean function (tested against real Go, not proved from fmt's source: count such statements apart). THE CARD IS WHAT COUNTS. Prove the row's statement (the work); the ties are given (YtijflbnfikiaaaaDoorTie.lean); close each card by the builder's one call (the guide's Derived/Test/ToyasCard.lean, 'card_holds'). Laid BY PROGRAM, IN A SANDBOX (cutbox-door.mjs). By AI agents, Wed Nov 11 2026. No macro, syntax, notation, axiom, sorry.
-/
import Derived.Test.YtijflbnfikiaaaaDoorRows
import GoSem.ClaimSeven
namespace Go.Proofs.YtijflbnfikiaaaaDoor
namespace Rows

/-- THE TIED CARD OF 'sluicewaylaw5.IvalSets'. -/
def ivalSetsCard : Claim7 := { stood := { row := ivalSetsRow, standIns := [], harness := (true, "99725b118df92d20a21e1364b19f9da98e09099dd88b3804140e6bc69921396f"), looks := true }, kinds := [], alts := [], laidByText := true, laidKinds := [.data], laidTests := true, laidLooks := .later }
def IvalSetsCardSaid : Prop := Claim7.holds Tryd.pinned (.plain (OpenSpec.ofChange ivalSetsSpec)) ivalSetsCard

/-- THE TIED CARD OF 'sluicewaylaw5.IvalMany'. -/
def ivalManyCard : Claim7 := { stood := { row := ivalManyRow, standIns := [], harness := (true, "99725b118df92d20a21e1364b19f9da98e09099dd88b3804140e6bc69921396f"), looks := true }, kinds := [], alts := [], laidByText := true, laidKinds := [.data], laidTests := true, laidLooks := .later }
def IvalManyCardSaid : Prop := Claim7.holds Tryd.pinned (.plain (OpenSpec.ofChange ivalManySpec)) ivalManyCard

/-- THE SECOND FORM's CARD OF 'sluicewaylaw5.IvalSets'. -/
def ivalSetsUptoCard : Claim7 := { stood := { row := ivalSetsUptoRow, standIns := [], harness := (true, "99725b118df92d20a21e1364b19f9da98e09099dd88b3804140e6bc69921396f"), looks := true }, kinds := [], alts := [], laidByText := true, laidKinds := [.data], laidTests := true, laidLooks := .later }
def IvalSetsUptoCardSaid : Prop := Claim7.holds Tryd.pinned (.plain (OpenSpec.upto ivalSetsSpec)) ivalSetsUptoCard

/-- THE SECOND FORM's CARD OF 'sluicewaylaw5.IvalMany'. -/
def ivalManyUptoCard : Claim7 := { stood := { row := ivalManyUptoRow, standIns := [], harness := (true, "99725b118df92d20a21e1364b19f9da98e09099dd88b3804140e6bc69921396f"), looks := true }, kinds := [], alts := [], laidByText := true, laidKinds := [.data], laidTests := true, laidLooks := .later }
def IvalManyUptoCardSaid : Prop := Claim7.holds Tryd.pinned (.plain (OpenSpec.upto ivalManySpec)) ivalManyUptoCard
end Rows
end Go.Proofs.YtijflbnfikiaaaaDoor
