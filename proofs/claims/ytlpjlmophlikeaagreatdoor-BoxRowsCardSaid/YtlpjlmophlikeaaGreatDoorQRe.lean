/-
 Plain facts on rounding of naturals to so many bits, down and up. No condition; nothing of the program is named here.
-/
import Derived.Test.YtlpjlmophlikeaaGreatDoorQDn
import Derived.Test.YtlpjlmophlikeaaGreatDoorQMv
namespace Go.Proofs.YtlpjlmophlikeaaGreatDoor

/-- has x at most p bits, its noughts at the end left out? -/
def Fits (p x : Nat) : Prop := ∃ a k, x = a * 2 ^ k ∧ a < 2 ^ p
theorem pow_pos2 (k : Nat) : 0 < 2 ^ k := Nat.pow_pos (by omega)
end Go.Proofs.YtlpjlmophlikeaaGreatDoor
namespace Go.Proofs.YtlpjlmophlikeaaGreatDoor
open Go.RowKit

theorem Dg.heap32 {w w2 : World} {A : Option Addr} {n c x : Nat} (h : Dg w A n c x) (e : w2.heap = w.heap) : Dg w2 A n c x := Rd.next' h e

end Go.Proofs.YtlpjlmophlikeaaGreatDoor
