/-
  DERIVED. GIVEN WITH THE SEED: THE CARDS: each row of YtdjklanmkjbifaaDoorRows.lean that lists a variable, with what it lists TIED to the program's text (the seventh form; the later family's looks); each row that meets fmt, with fmt's text TOLD by the authors' own Lean function (tested against real Go, not proved from fmt's source: count such statements apart). THE CARD IS WHAT COUNTS. Prove the row's statement (the work); the ties are given (YtdjklanmkjbifaaDoorTie.lean); close each card by the builder's one call (the guide's Derived/Test/ToyasCard.lean, 'card_holds'). Laid BY PROGRAM, IN A SANDBOX (cutbox-door.mjs). By AI agents, Wed Nov 11 2026. No macro, syntax, notation, axiom, sorry.
-/
import Derived.Test.YtdjklanmkjbifaaDoorRows
import GoSem.ClaimSeven
namespace Go.Proofs.YtdjklanmkjbifaaDoor
namespace Rows

/-- THE TIED CARD OF 'sluicewaylaw2.DyadAsks'. -/
def dyadAsksCard : Claim7 := { stood := { row := dyadAsksRow, standIns := [], harness := (true, "7208eebb1b8c22ffb7b4c13ce8692294277a132fcd2e2417602f697bacd854ea"), looks := true }, kinds := [], alts := [], laidByText := true, laidKinds := [.data], laidTests := true, laidLooks := .later }
def DyadAsksCardSaid : Prop := Claim7.holds Tryd.pinned (.plain (OpenSpec.ofChange dyadAsksSpec)) dyadAsksCard

/-- THE TIED CARD OF 'sluicewaylaw3.RoundQuot'. -/
def roundQuotCard : Claim7 := { stood := { row := roundQuotRow, standIns := [], harness := (true, "7208eebb1b8c22ffb7b4c13ce8692294277a132fcd2e2417602f697bacd854ea"), looks := true }, kinds := [], alts := [], laidByText := true, laidKinds := [.data], laidTests := true, laidLooks := .later }
def RoundQuotCardSaid : Prop := Claim7.holds Tryd.pinned (.plain (OpenSpec.ofChange roundQuotSpec)) roundQuotCard

/-- THE TIED CARD OF 'sluicewaylaw3.RoundRoot'. -/
def roundRootCard : Claim7 := { stood := { row := roundRootRow, standIns := [], harness := (true, "7208eebb1b8c22ffb7b4c13ce8692294277a132fcd2e2417602f697bacd854ea"), looks := true }, kinds := [], alts := [], laidByText := true, laidKinds := [.data], laidTests := true, laidLooks := .later }
def RoundRootCardSaid : Prop := Claim7.holds Tryd.pinned (.plain (OpenSpec.ofChange roundRootSpec)) roundRootCard

/-- THE SECOND FORM's CARD OF 'sluicewaylaw2.DyadAsks'. -/
def dyadAsksUptoCard : Claim7 := { stood := { row := dyadAsksUptoRow, standIns := [], harness := (true, "7208eebb1b8c22ffb7b4c13ce8692294277a132fcd2e2417602f697bacd854ea"), looks := true }, kinds := [], alts := [], laidByText := true, laidKinds := [.data], laidTests := true, laidLooks := .later }
def DyadAsksUptoCardSaid : Prop := Claim7.holds Tryd.pinned (.plain (OpenSpec.upto dyadAsksSpec)) dyadAsksUptoCard

/-- THE SECOND FORM's CARD OF 'sluicewaylaw3.RoundQuot'. -/
def roundQuotUptoCard : Claim7 := { stood := { row := roundQuotUptoRow, standIns := [], harness := (true, "7208eebb1b8c22ffb7b4c13ce8692294277a132fcd2e2417602f697bacd854ea"), looks := true }, kinds := [], alts := [], laidByText := true, laidKinds := [.data], laidTests := true, laidLooks := .later }
def RoundQuotUptoCardSaid : Prop := Claim7.holds Tryd.pinned (.plain (OpenSpec.upto roundQuotSpec)) roundQuotUptoCard

/-- THE SECOND FORM's CARD OF 'sluicewaylaw3.RoundRoot'. -/
def roundRootUptoCard : Claim7 := { stood := { row := roundRootUptoRow, standIns := [], harness := (true, "7208eebb1b8c22ffb7b4c13ce8692294277a132fcd2e2417602f697bacd854ea"), looks := true }, kinds := [], alts := [], laidByText := true, laidKinds := [.data], laidTests := true, laidLooks := .later }
def RoundRootUptoCardSaid : Prop := Claim7.holds Tryd.pinned (.plain (OpenSpec.upto roundRootSpec)) roundRootUptoCard
end Rows
end Go.Proofs.YtdjklanmkjbifaaDoor
