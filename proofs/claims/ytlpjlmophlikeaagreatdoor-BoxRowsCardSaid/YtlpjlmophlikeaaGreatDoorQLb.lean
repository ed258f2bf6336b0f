/-
 Contracts of the reference's AddDyad and SubDyad, at this translation. Condition: the slices read as limbs.
-/
import Derived.Test.YtlpjlmophlikeaaGreatDoorQRs
import Derived.Test.YtlpjlmophlikeaaGreatDoorQRj
import Derived.Test.YtlpjlmophlikeaaGreatDoorQTm
import Derived.Test.YtlpjlmophlikeaaGreatDoorQRe
import Derived.Test.YtlpjlmophlikeaaGreatDoorQRt
import Derived.Test.YtlpjlmophlikeaaGreatDoorQRRoot
namespace Go.Proofs.YtlpjlmophlikeaaGreatDoor
open Go.RowKit

section
variable {w : World} {g g' k i n c x n0 c0 : Nat} {A A0 : Option Addr} {s s0 : Bool} {e e0 : Int} {v u0 u1 u2 : Value}
theorem Box.put3 (h : Box w g' s A n c e) (hne : g' ≠ g) (u0 u1 u2 : Value) : Box (((w.setCell ⟨g, 0, none⟩ u0).setCell ⟨g, 1, none⟩ u1).setCell ⟨g, 2, none⟩ u2) g' s A n c e := ((h.other hne 0 u0).other hne 1 u1).other hne 2 u2
end

end Go.Proofs.YtlpjlmophlikeaaGreatDoor
namespace Go.Proofs.YtlpjlmophlikeaaGreatDoor

section
variable {S : Sc} {a b c d : Rw} {x y r : Iv} {p : Int}
/-- the greatest of p bits that is not above, the least that is not below -/
def Dn (S : Sc) (p : Int) (A : Int) (c : Rw) : Prop := c.may = true ∧ c.v S.K ≤ A ∧ Fits p.toNat (val W c.l) ∧ ∀ d : Rw, d.may = true → Fits p.toNat (val W d.l) → d.v S.K ≤ A → d.v S.K ≤ c.v S.K
end
end Go.Proofs.YtlpjlmophlikeaaGreatDoor
