/-
  NARROWER THAN 'FOR EVERY INPUT', by the rows' own cells (each row's printed sentence says how): ExpoAsks: laid · ExpoArgs: laid · ExpoRises: laid · ExpoSums: laid · ExpoOver: laid · ExpoBounds: laid · ExpoBits: laid.
  DERIVED. THE GIVEN ROWS OF THIS SEAT. 7 by the template 'for every input the law returns true; each argument reads behind the call as it read before'; 0 by the template 'total and deterministic' (their statements: YtldbafifgkobcaaGreatDoorTotals.lean).
  GIVEN WITH THE SEED: the statements are not yours to turn. If you find one false, say at which input.
  Laid BY PROGRAM, IN A SANDBOX (cutbox-rows.mjs): the forced cells as the released guide's own fill.sh prints them over the translation c93b72577be6dc67… (all of the seat's roots in one cut). By AI agents, Wed Nov 11 2026. No macro, syntax, notation, axiom, sorry.
-/
import Derived.Test.YtldbafifgkobcaaGreatDoorChecked
import GoSem.Claim
import GoSem.ClaimJoined
import GoSem.ClaimMapViews
import Derived.JoinedTies
import Derived.KernelRfl
namespace Go.Proofs.YtldbafifgkobcaaGreatDoor
/- THE CELL 'sum', in the pinned program and in every row, IS THE sha256 OF THE DUMP (.gsa) THAT YtldbafifgkobcaaGreatDoorProg.lean LOADS. Nothing in Lean hashes anything: it is a label: what it is worth is what the hold of that sum in a sandbox is worth. -/
noncomputable def Tryz.pinned : Pinned := { name := "ytldbafifgkobcaagreatdoor", sum := "c93b72577be6dc67b5ffff1756d4f7b31c56f4a49cf12f7b4cfd5f47bb4588ad", checked := Tryz.checked }
namespace Rows
def none {H : Type} : Left H := { results := [], args := [] }

/- WHAT THE LISTED PACKAGE-LEVEL VARIABLES READ AS WHEN THE CALL BEGINS. Each datum BY PROGRAM (the guide's laid-datum.mjs) off the statement by which the dump's own 'gosem.cut.vars' lays the variable. In a bare row this is a premise. The card (YtldbafifgkobcaaGreatDoorCards.lean) ties it to the program's text. -/
def laid_math_bits_deBruijn64tab {H : Type} : DataW H := .agg [.lit (.int .u8 0), .lit (.int .u8 1), .lit (.int .u8 56), .lit (.int .u8 2), .lit (.int .u8 57), .lit (.int .u8 49), .lit (.int .u8 28), .lit (.int .u8 3), .lit (.int .u8 61), .lit (.int .u8 58), .lit (.int .u8 42), .lit (.int .u8 50), .lit (.int .u8 38), .lit (.int .u8 29), .lit (.int .u8 17), .lit (.int .u8 4), .lit (.int .u8 62), .lit (.int .u8 47), .lit (.int .u8 59), .lit (.int .u8 36), .lit (.int .u8 45), .lit (.int .u8 43), .lit (.int .u8 51), .lit (.int .u8 22), .lit (.int .u8 53), .lit (.int .u8 39), .lit (.int .u8 33), .lit (.int .u8 30), .lit (.int .u8 24), .lit (.int .u8 18), .lit (.int .u8 12), .lit (.int .u8 5), .lit (.int .u8 63), .lit (.int .u8 55), .lit (.int .u8 48), .lit (.int .u8 27), .lit (.int .u8 60), .lit (.int .u8 41), .lit (.int .u8 37), .lit (.int .u8 16), .lit (.int .u8 46), .lit (.int .u8 35), .lit (.int .u8 44), .lit (.int .u8 21), .lit (.int .u8 52), .lit (.int .u8 32), .lit (.int .u8 23), .lit (.int .u8 11), .lit (.int .u8 54), .lit (.int .u8 26), .lit (.int .u8 40), .lit (.int .u8 15), .lit (.int .u8 34), .lit (.int .u8 20), .lit (.int .u8 31), .lit (.int .u8 10), .lit (.int .u8 25), .lit (.int .u8 14), .lit (.int .u8 19), .lit (.int .u8 9), .lit (.int .u8 13), .lit (.int .u8 8), .lit (.int .u8 7), .lit (.int .u8 6)]

/-- 'sluicewaylaw7.ExpoAsks': WHATEVER THE INPUT: true; the input reads as it did. -/
def expoAsksSpec : ChangeSpec := { name := "expoAsks", fn := fun _ => fun
  | [d1, d2, d3] => { results := [.lit (.bool true)], args := [d1, d2, d3] }
  | _ => none }
def expoAsksRow : OpenClaim := { program := "ytldbafifgkobcaagreatdoor", sum := "c93b72577be6dc67b5ffff1756d4f7b31c56f4a49cf12f7b4cfd5f47bb4588ad", func := "sluiceway/sluicewaylaw7.ExpoAsks", spec := "expoAsks", inPlace := ["math/bits.Add64", "math/bits.Sub64"], unfollowed := true, recurses := true, named := ["math/bits.deBruijn64tab", "math/bits.divideError", "math/bits.overflowError"], apart := false, laid := [("math/bits.deBruijn64tab", laid_math_bits_deBruijn64tab)] }
def ExpoAsksSaid : Prop := expoAsksRow.holds Tryz.pinned (OpenSpec.ofChange expoAsksSpec)

/-- ITS FALSE NEIGHBOUR: 'it returns false'. Refute it at one input. -/
def expoAsksWrong : ChangeSpec := { name := "expoAsks", fn := fun _ => fun
  | [d1, d2, d3] => { results := [.lit (.bool false)], args := [d1, d2, d3] }
  | _ => none }
def ExpoAsksWrongFalsely : Prop := expoAsksRow.holds Tryz.pinned (OpenSpec.ofChange expoAsksWrong)

/-- 'sluicewaylaw7.ExpoArgs': WHATEVER THE INPUT: true; the input reads as it did. -/
def expoArgsSpec : ChangeSpec := { name := "expoArgs", fn := fun _ => fun
  | [d1, d2, d3] => { results := [.lit (.bool true)], args := [d1, d2, d3] }
  | _ => none }
def expoArgsRow : OpenClaim := { program := "ytldbafifgkobcaagreatdoor", sum := "c93b72577be6dc67b5ffff1756d4f7b31c56f4a49cf12f7b4cfd5f47bb4588ad", func := "sluiceway/sluicewaylaw7.ExpoArgs", spec := "expoArgs", inPlace := ["math/bits.Add64", "math/bits.Sub64"], unfollowed := true, recurses := true, named := ["math/bits.deBruijn64tab", "math/bits.divideError", "math/bits.overflowError"], apart := false, laid := [("math/bits.deBruijn64tab", laid_math_bits_deBruijn64tab)] }
def ExpoArgsSaid : Prop := expoArgsRow.holds Tryz.pinned (OpenSpec.ofChange expoArgsSpec)

/-- ITS FALSE NEIGHBOUR: 'it returns false'. Refute it at one input. -/
def expoArgsWrong : ChangeSpec := { name := "expoArgs", fn := fun _ => fun
  | [d1, d2, d3] => { results := [.lit (.bool false)], args := [d1, d2, d3] }
  | _ => none }
def ExpoArgsWrongFalsely : Prop := expoArgsRow.holds Tryz.pinned (OpenSpec.ofChange expoArgsWrong)

/-- 'sluicewaylaw7.ExpoRises': WHATEVER THE INPUT: true; the input reads as it did. -/
def expoRisesSpec : ChangeSpec := { name := "expoRises", fn := fun _ => fun
  | [d1, d2, d3] => { results := [.lit (.bool true)], args := [d1, d2, d3] }
  | _ => none }
def expoRisesRow : OpenClaim := { program := "ytldbafifgkobcaagreatdoor", sum := "c93b72577be6dc67b5ffff1756d4f7b31c56f4a49cf12f7b4cfd5f47bb4588ad", func := "sluiceway/sluicewaylaw7.ExpoRises", spec := "expoRises", inPlace := ["math/bits.Add64", "math/bits.Sub64"], unfollowed := true, recurses := true, named := ["math/bits.deBruijn64tab", "math/bits.divideError", "math/bits.overflowError"], apart := false, laid := [("math/bits.deBruijn64tab", laid_math_bits_deBruijn64tab)] }
def ExpoRisesSaid : Prop := expoRisesRow.holds Tryz.pinned (OpenSpec.ofChange expoRisesSpec)

/-- ITS FALSE NEIGHBOUR: 'it returns false'. Refute it at one input. -/
def expoRisesWrong : ChangeSpec := { name := "expoRises", fn := fun _ => fun
  | [d1, d2, d3] => { results := [.lit (.bool false)], args := [d1, d2, d3] }
  | _ => none }
def ExpoRisesWrongFalsely : Prop := expoRisesRow.holds Tryz.pinned (OpenSpec.ofChange expoRisesWrong)

/-- 'sluicewaylaw7.ExpoSums': WHATEVER THE INPUT: true; the input reads as it did. -/
def expoSumsSpec : ChangeSpec := { name := "expoSums", fn := fun _ => fun
  | [d1, d2, d3] => { results := [.lit (.bool true)], args := [d1, d2, d3] }
  | _ => none }
def expoSumsRow : OpenClaim := { program := "ytldbafifgkobcaagreatdoor", sum := "c93b72577be6dc67b5ffff1756d4f7b31c56f4a49cf12f7b4cfd5f47bb4588ad", func := "sluiceway/sluicewaylaw7.ExpoSums", spec := "expoSums", inPlace := ["math/bits.Add64", "math/bits.Sub64"], unfollowed := true, recurses := true, named := ["math/bits.deBruijn64tab", "math/bits.divideError", "math/bits.overflowError"], apart := false, laid := [("math/bits.deBruijn64tab", laid_math_bits_deBruijn64tab)] }
def ExpoSumsSaid : Prop := expoSumsRow.holds Tryz.pinned (OpenSpec.ofChange expoSumsSpec)

/-- ITS FALSE NEIGHBOUR: 'it returns false'. Refute it at one input. -/
def expoSumsWrong : ChangeSpec := { name := "expoSums", fn := fun _ => fun
  | [d1, d2, d3] => { results := [.lit (.bool false)], args := [d1, d2, d3] }
  | _ => none }
def ExpoSumsWrongFalsely : Prop := expoSumsRow.holds Tryz.pinned (OpenSpec.ofChange expoSumsWrong)

/-- 'sluicewaylaw7.ExpoOver': WHATEVER THE INPUT: true; the input reads as it did. -/
def expoOverSpec : ChangeSpec := { name := "expoOver", fn := fun _ => fun
  | [d1, d2, d3] => { results := [.lit (.bool true)], args := [d1, d2, d3] }
  | _ => none }
def expoOverRow : OpenClaim := { program := "ytldbafifgkobcaagreatdoor", sum := "c93b72577be6dc67b5ffff1756d4f7b31c56f4a49cf12f7b4cfd5f47bb4588ad", func := "sluiceway/sluicewaylaw7.ExpoOver", spec := "expoOver", inPlace := ["math/bits.Add64", "math/bits.Sub64"], unfollowed := true, recurses := true, named := ["math/bits.deBruijn64tab", "math/bits.divideError", "math/bits.overflowError"], apart := false, laid := [("math/bits.deBruijn64tab", laid_math_bits_deBruijn64tab)] }
def ExpoOverSaid : Prop := expoOverRow.holds Tryz.pinned (OpenSpec.ofChange expoOverSpec)

/-- ITS FALSE NEIGHBOUR: 'it returns false'. Refute it at one input. -/
def expoOverWrong : ChangeSpec := { name := "expoOver", fn := fun _ => fun
  | [d1, d2, d3] => { results := [.lit (.bool false)], args := [d1, d2, d3] }
  | _ => none }
def ExpoOverWrongFalsely : Prop := expoOverRow.holds Tryz.pinned (OpenSpec.ofChange expoOverWrong)

/-- 'sluicewaylaw7.ExpoBounds': WHATEVER THE INPUT: true; the input reads as it did. -/
def expoBoundsSpec : ChangeSpec := { name := "expoBounds", fn := fun _ => fun
  | [d1, d2] => { results := [.lit (.bool true)], args := [d1, d2] }
  | _ => none }
def expoBoundsRow : OpenClaim := { program := "ytldbafifgkobcaagreatdoor", sum := "c93b72577be6dc67b5ffff1756d4f7b31c56f4a49cf12f7b4cfd5f47bb4588ad", func := "sluiceway/sluicewaylaw7.ExpoBounds", spec := "expoBounds", inPlace := ["math/bits.Add64", "math/bits.Sub64"], unfollowed := true, recurses := true, named := ["math/bits.deBruijn64tab", "math/bits.divideError", "math/bits.overflowError"], apart := false, laid := [("math/bits.deBruijn64tab", laid_math_bits_deBruijn64tab)] }
def ExpoBoundsSaid : Prop := expoBoundsRow.holds Tryz.pinned (OpenSpec.ofChange expoBoundsSpec)

/-- ITS FALSE NEIGHBOUR: 'it returns false'. Refute it at one input. -/
def expoBoundsWrong : ChangeSpec := { name := "expoBounds", fn := fun _ => fun
  | [d1, d2] => { results := [.lit (.bool false)], args := [d1, d2] }
  | _ => none }
def ExpoBoundsWrongFalsely : Prop := expoBoundsRow.holds Tryz.pinned (OpenSpec.ofChange expoBoundsWrong)

/-- 'sluicewaylaw7.ExpoBits': WHATEVER THE INPUT: true; the input reads as it did. -/
def expoBitsSpec : ChangeSpec := { name := "expoBits", fn := fun _ => fun
  | [d1, d2, d3] => { results := [.lit (.bool true)], args := [d1, d2, d3] }
  | _ => none }
def expoBitsRow : OpenClaim := { program := "ytldbafifgkobcaagreatdoor", sum := "c93b72577be6dc67b5ffff1756d4f7b31c56f4a49cf12f7b4cfd5f47bb4588ad", func := "sluiceway/sluicewaylaw7.ExpoBits", spec := "expoBits", inPlace := ["math/bits.Add64", "math/bits.Sub64"], unfollowed := true, recurses := true, named := ["math/bits.deBruijn64tab", "math/bits.divideError", "math/bits.overflowError"], apart := false, laid := [("math/bits.deBruijn64tab", laid_math_bits_deBruijn64tab)] }
def ExpoBitsSaid : Prop := expoBitsRow.holds Tryz.pinned (OpenSpec.ofChange expoBitsSpec)

/-- ITS FALSE NEIGHBOUR: 'it returns false'. Refute it at one input. -/
def expoBitsWrong : ChangeSpec := { name := "expoBits", fn := fun _ => fun
  | [d1, d2, d3] => { results := [.lit (.bool false)], args := [d1, d2, d3] }
  | _ => none }
def ExpoBitsWrongFalsely : Prop := expoBitsRow.holds Tryz.pinned (OpenSpec.ofChange expoBitsWrong)

/- THE SECOND FORM. 'bulk': how many values and letters a reading holds, each counted each time it is reached (what is shared counts as often as it is met; a slice's spare places count too). A statement '..UptoSaid' is the law's where the arguments, and the package variables that the reading takes, are together of bulk at most 1048576: NARROWER than '..Said'. Prove '..Said' where nothing that the law and all that it calls make is longer than what came in: it says more and counts as full. Else prove '..UptoSaid'. A law counts once. -/
mutual
def uptoBulk {H : Type} : DataW H → Nat
  | .lit (.string bytes) => bytes.length + 1
  | .lit _ => 1
  | .nil => 1
  | .ptr d => uptoBulk d + 1
  | .slice elems spare => uptoBulkAll elems + uptoBulkAll spare + 1
  | .agg parts => uptoBulkAll parts + 1
  | .iface _ d => uptoBulk d + 1
  | .map entries => uptoBulkEntries entries + 1
  | .held _ => 1
def uptoBulkAll {H : Type} : List (DataW H) → Nat
  | [] => 0
  | d :: r => uptoBulk d + uptoBulkAll r
def uptoBulkEntries {H : Type} : List (Lit × DataW H) → Nat
  | [] => 0
  | x :: r => uptoBulkEntry x + uptoBulkEntries r
def uptoBulkEntry {H : Type} : Lit × DataW H → Nat
  | (.string bytes, d) => bytes.length + uptoBulk d + 1
  | (_, d) => uptoBulk d + 1
 end
def uptoSmall : (H : Type) → List (DataW H) → Bool := fun _ ds => decide (uptoBulkAll ds ≤ 1048576)
def OpenSpec.upto (s : _root_.Go.ChangeSpec) : _root_.Go.OpenSpec := { _root_.Go.OpenSpec.ofChange s with cond := some uptoSmall }

/-- 'sluicewaylaw7.ExpoAsks', WHERE WHAT IT READS IS OF BULK AT MOST 1048576: true; the input reads as it did. -/
def expoAsksUptoRow : OpenClaim := { program := "ytldbafifgkobcaagreatdoor", sum := "c93b72577be6dc67b5ffff1756d4f7b31c56f4a49cf12f7b4cfd5f47bb4588ad", func := "sluiceway/sluicewaylaw7.ExpoAsks", spec := "expoAsks", inPlace := ["math/bits.Add64", "math/bits.Sub64"], unfollowed := true, recurses := true, named := ["math/bits.deBruijn64tab", "math/bits.divideError", "math/bits.overflowError"], apart := false, laid := [("math/bits.deBruijn64tab", laid_math_bits_deBruijn64tab)], narrowed := true }
def ExpoAsksUptoSaid : Prop := expoAsksUptoRow.holds Tryz.pinned (OpenSpec.upto expoAsksSpec)

/-- 'sluicewaylaw7.ExpoArgs', WHERE WHAT IT READS IS OF BULK AT MOST 1048576: true; the input reads as it did. -/
def expoArgsUptoRow : OpenClaim := { program := "ytldbafifgkobcaagreatdoor", sum := "c93b72577be6dc67b5ffff1756d4f7b31c56f4a49cf12f7b4cfd5f47bb4588ad", func := "sluiceway/sluicewaylaw7.ExpoArgs", spec := "expoArgs", inPlace := ["math/bits.Add64", "math/bits.Sub64"], unfollowed := true, recurses := true, named := ["math/bits.deBruijn64tab", "math/bits.divideError", "math/bits.overflowError"], apart := false, laid := [("math/bits.deBruijn64tab", laid_math_bits_deBruijn64tab)], narrowed := true }
def ExpoArgsUptoSaid : Prop := expoArgsUptoRow.holds Tryz.pinned (OpenSpec.upto expoArgsSpec)

/-- 'sluicewaylaw7.ExpoRises', WHERE WHAT IT READS IS OF BULK AT MOST 1048576: true; the input reads as it did. -/
def expoRisesUptoRow : OpenClaim := { program := "ytldbafifgkobcaagreatdoor", sum := "c93b72577be6dc67b5ffff1756d4f7b31c56f4a49cf12f7b4cfd5f47bb4588ad", func := "sluiceway/sluicewaylaw7.ExpoRises", spec := "expoRises", inPlace := ["math/bits.Add64", "math/bits.Sub64"], unfollowed := true, recurses := true, named := ["math/bits.deBruijn64tab", "math/bits.divideError", "math/bits.overflowError"], apart := false, laid := [("math/bits.deBruijn64tab", laid_math_bits_deBruijn64tab)], narrowed := true }
def ExpoRisesUptoSaid : Prop := expoRisesUptoRow.holds Tryz.pinned (OpenSpec.upto expoRisesSpec)

/-- 'sluicewaylaw7.ExpoSums', WHERE WHAT IT READS IS OF BULK AT MOST 1048576: true; the input reads as it did. -/
def expoSumsUptoRow : OpenClaim := { program := "ytldbafifgkobcaagreatdoor", sum := "c93b72577be6dc67b5ffff1756d4f7b31c56f4a49cf12f7b4cfd5f47bb4588ad", func := "sluiceway/sluicewaylaw7.ExpoSums", spec := "expoSums", inPlace := ["math/bits.Add64", "math/bits.Sub64"], unfollowed := true, recurses := true, named := ["math/bits.deBruijn64tab", "math/bits.divideError", "math/bits.overflowError"], apart := false, laid := [("math/bits.deBruijn64tab", laid_math_bits_deBruijn64tab)], narrowed := true }
def ExpoSumsUptoSaid : Prop := expoSumsUptoRow.holds Tryz.pinned (OpenSpec.upto expoSumsSpec)

/-- 'sluicewaylaw7.ExpoOver', WHERE WHAT IT READS IS OF BULK AT MOST 1048576: true; the input reads as it did. -/
def expoOverUptoRow : OpenClaim := { program := "ytldbafifgkobcaagreatdoor", sum := "c93b72577be6dc67b5ffff1756d4f7b31c56f4a49cf12f7b4cfd5f47bb4588ad", func := "sluiceway/sluicewaylaw7.ExpoOver", spec := "expoOver", inPlace := ["math/bits.Add64", "math/bits.Sub64"], unfollowed := true, recurses := true, named := ["math/bits.deBruijn64tab", "math/bits.divideError", "math/bits.overflowError"], apart := false, laid := [("math/bits.deBruijn64tab", laid_math_bits_deBruijn64tab)], narrowed := true }
def ExpoOverUptoSaid : Prop := expoOverUptoRow.holds Tryz.pinned (OpenSpec.upto expoOverSpec)

/-- 'sluicewaylaw7.ExpoBounds', WHERE WHAT IT READS IS OF BULK AT MOST 1048576: true; the input reads as it did. -/
def expoBoundsUptoRow : OpenClaim := { program := "ytldbafifgkobcaagreatdoor", sum := "c93b72577be6dc67b5ffff1756d4f7b31c56f4a49cf12f7b4cfd5f47bb4588ad", func := "sluiceway/sluicewaylaw7.ExpoBounds", spec := "expoBounds", inPlace := ["math/bits.Add64", "math/bits.Sub64"], unfollowed := true, recurses := true, named := ["math/bits.deBruijn64tab", "math/bits.divideError", "math/bits.overflowError"], apart := false, laid := [("math/bits.deBruijn64tab", laid_math_bits_deBruijn64tab)], narrowed := true }
def ExpoBoundsUptoSaid : Prop := expoBoundsUptoRow.holds Tryz.pinned (OpenSpec.upto expoBoundsSpec)

/-- 'sluicewaylaw7.ExpoBits', WHERE WHAT IT READS IS OF BULK AT MOST 1048576: true; the input reads as it did. -/
def expoBitsUptoRow : OpenClaim := { program := "ytldbafifgkobcaagreatdoor", sum := "c93b72577be6dc67b5ffff1756d4f7b31c56f4a49cf12f7b4cfd5f47bb4588ad", func := "sluiceway/sluicewaylaw7.ExpoBits", spec := "expoBits", inPlace := ["math/bits.Add64", "math/bits.Sub64"], unfollowed := true, recurses := true, named := ["math/bits.deBruijn64tab", "math/bits.divideError", "math/bits.overflowError"], apart := false, laid := [("math/bits.deBruijn64tab", laid_math_bits_deBruijn64tab)], narrowed := true }
def ExpoBitsUptoSaid : Prop := expoBitsUptoRow.holds Tryz.pinned (OpenSpec.upto expoBitsSpec)

end Rows
end Go.Proofs.YtldbafifgkobcaaGreatDoor
