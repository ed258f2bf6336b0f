/-
 Contracts of round's divided, quotient and root, at this translation. Condition: the slices read as naturals, the table of math/bits reads as its text lays it.
-/
import Derived.Test.YtldbafifgkobcaaGreatDoorQRa
import Derived.Test.YtldbafifgkobcaaGreatDoorQMv
import Derived.Test.YtldbafifgkobcaaGreatDoorQCaps
namespace Go.Proofs.YtldbafifgkobcaaGreatDoor
open Go.RowKit

instance {w w2 : World} {g : Nat} {s : Bool} {A : Option Addr} {n c : Nat} {e : Int} : Moves w w2 (Siz w g s A n c e) (Siz w2 g s A n c e) := ⟨fun _ b e h => h.next b e⟩
theorem cmpN_cases (x y : Nat) : (cmpN x y = -1 ∧ x < y) ∨ (cmpN x y = 0 ∧ x = y) ∨ (cmpN x y = 1 ∧ y < x) := by
 rcases Nat.lt_trichotomy x y with h | h | h
 ·exact .inl ⟨cmpN_lt h, h⟩
 ·exact .inr (.inl ⟨cmpN_eq h, h⟩)
 ·exact .inr (.inr ⟨cmpN_gt h, h⟩)
end Go.Proofs.YtldbafifgkobcaaGreatDoor
