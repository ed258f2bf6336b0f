/-
  Contract of nat.quotient at this translation where the dividend is not less than the divisor. Condition: both are canonical limbs, of at most 100,000 each, the divisor is not 0.
-/
import Derived.Test.YtkpcmgfpmekkjaaDoorQLower
import Derived.Test.YtkpcmgfpmekkjaaDoorQGuessN
import Derived.BigGuardPart
import Derived.Lib.ItoaNum
import Derived.Deep.DeepCutAuto
import Derived.Deep.CutBlock
import Derived.Test.YtkpcmgfpmekkjaaDoorQTake
import Derived.Deep.DeepFit
namespace Go.Proofs.YtkpcmgfpmekkjaaDoor


end Go.Proofs.YtkpcmgfpmekkjaaDoor

namespace Go.Proofs.YtkpcmgfpmekkjaaDoor
open Go.RowKit

end Go.Proofs.YtkpcmgfpmekkjaaDoor

namespace Go.Proofs.YtkpcmgfpmekkjaaDoor
open Go.RowKit

theorem below_row {w a b : World} {g : Nat} (h : Below w.heap.size w a) (hg : a.grownBy b (some g)) (h0 : w.heap.size ≤ g) : Below w.heap.size w b :=
  h.grown hg h.size (fun k e => by injection e with e; omega)

end Go.Proofs.YtkpcmgfpmekkjaaDoor
