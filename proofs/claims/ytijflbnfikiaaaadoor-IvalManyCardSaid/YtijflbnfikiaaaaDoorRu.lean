/-
  Contracts of the reference's SameDyad (of two that are the same), Of, Cut and Round, and of layer 3's same, at this translation. Condition: the slices read as limbs, or as digits of sixteen bits.
-/
import Derived.Test.YtijflbnfikiaaaaDoorRe
import Derived.Test.YtijflbnfikiaaaaDoorRf
import Derived.Test.YtijflbnfikiaaaaDoorRRoot
namespace Go.Proofs.YtijflbnfikiaaaaDoor
open Go.RowKit

/-- a reference's number -/
def NumIs (s : Bool) (x : Nat) (e : Int) (w : World) (en : Ending) (w' : World) : Prop := ∃ A n c, en = .returned (.agg #[.bool s, .slice A n c, .int .i64 e]) ∧ Dg w' A n c x ∧ Below w.heap.size w w'

theorem digits_le {w : World} {A : Option Addr} {n c x : Nat} (h : Dg w A n c x) (hx : x < Go.Proofs.YtijflbnfikiaaaaDoor.H ^ 600) : n ≤ 600 := dg_small h hx

end Go.Proofs.YtijflbnfikiaaaaDoor
