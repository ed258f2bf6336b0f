/-
 Contract of arith's corners, whatever is asked of each two ends, at this translation. Condition: the slices read as limbs, the table of math/bits reads as its text lays it.
-/
import Derived.Test.YtlpjlmophlikeaaGreatDoorQLe
namespace Go.Proofs.YtlpjlmophlikeaaGreatDoor
open Go.RowKit

theorem QRow.lt {w : World} {base : Nat} {v : Value} {L : List Rw} (h : QRow w base v L) : ∀ k, v.ownBlock = some k → base ≤ k ∧ k < w.heap.size := by
 obtain ⟨xs, h1, _⟩ := h
 exact h1.lt

end Go.Proofs.YtlpjlmophlikeaaGreatDoor
