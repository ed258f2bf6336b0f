/-
 What dyad's functions tell of any two Dyads, raw ones too; contracts of the reference's SameDyad, Sign, NegDyad, size, CmpDyad, at this translation. Condition: the slices read as limbs.
-/
import Derived.Test.YtlpjlmophlikeaaGreatDoorQRe
import Derived.Test.YtlpjlmophlikeaaGreatDoorQRt
import Derived.Test.YtlpjlmophlikeaaGreatDoorQRRoot
namespace Go.Proofs.YtlpjlmophlikeaaGreatDoor
open Go.RowKit

def cmpR (K : Nat) (s : Bool) (l : List Nat) (e : Int) (t : Bool) (r : List Nat) (f : Int) : Int := if mayD s l e = true ∧ mayD t r f = true then cmpV (vz K s (val Go.Proofs.YtlpjlmophlikeaaGreatDoor.W l) e) (vz K t (val Go.Proofs.YtlpjlmophlikeaaGreatDoor.W r) f) else 0
def subR (K : Nat) (s : Bool) (l : List Nat) (e : Int) (t : Bool) (r : List Nat) (f : Int) : Int → Bool → Nat → Int → Prop := if mayD s l e = true ∧ mayD t r f = true then NmV K (vz K s (val Go.Proofs.YtlpjlmophlikeaaGreatDoor.W l) e - vz K t (val Go.Proofs.YtlpjlmophlikeaaGreatDoor.W r) f) else Wrong
/-- the reading of a slice whose Dyad may be -/
theorem rd_okd {w : World} {A1 : Option Addr} {n1 c1 : Nat} {l1 : List Nat} {s1 : Bool} {e1 : Int} (h1 : Rd w .u64 Go.Proofs.YtlpjlmophlikeaaGreatDoor.W A1 n1 c1 l1) (hd : mayD s1 l1 e1 = true) : Nt w A1 n1 c1 (val Go.Proofs.YtlpjlmophlikeaaGreatDoor.W l1) ∧ OkD s1 (val Go.Proofs.YtlpjlmophlikeaaGreatDoor.W l1) e1 ∧ dig Go.Proofs.YtlpjlmophlikeaaGreatDoor.W (val Go.Proofs.YtlpjlmophlikeaaGreatDoor.W l1) = l1 := by
 obtain ⟨hm, hok⟩ := mayD_of h1.lt hd
 obtain ⟨hN, hC, _⟩ := nt_of h1 hm
 refine ⟨hN, hok, ?_⟩
 have h2 := hN.rd
 have h3 : (dig Go.Proofs.YtlpjlmophlikeaaGreatDoor.W (val Go.Proofs.YtlpjlmophlikeaaGreatDoor.W l1)) = l1 := dig_val W_two hC
 exact h3
end Go.Proofs.YtlpjlmophlikeaaGreatDoor
