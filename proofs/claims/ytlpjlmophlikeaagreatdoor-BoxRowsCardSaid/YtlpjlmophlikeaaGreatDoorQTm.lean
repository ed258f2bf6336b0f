/-
 Contract of the reference's Quot, and what round.Quot tells of any two, raw ones too, at this translation. Condition: the slices read as limbs; at most 1000 bits, or more than may be.
-/
import Derived.Test.YtlpjlmophlikeaaGreatDoorQRs
import Derived.Test.YtlpjlmophlikeaaGreatDoorQRj
import Derived.Test.YtlpjlmophlikeaaGreatDoorQRt
import Derived.Test.YtlpjlmophlikeaaGreatDoorQMv
import Derived.Test.YtlpjlmophlikeaaGreatDoorQRe
import Derived.Test.YtlpjlmophlikeaaGreatDoorQRRoot
import Derived.Test.YtlpjlmophlikeaaGreatDoorQIl
namespace Go.Proofs.YtlpjlmophlikeaaGreatDoor
open Go.RowKit

theorem Dg.drew {w : World} {A : Option Addr} {n c x : Nat} (h : Dg w A n c x) : Dg w.drew A n c x := Dg.heap32 h rfl
end Go.Proofs.YtlpjlmophlikeaaGreatDoor

namespace Go.Proofs.YtlpjlmophlikeaaGreatDoor
open Go.RowKit

end Go.Proofs.YtlpjlmophlikeaaGreatDoor
namespace Go.Proofs.YtlpjlmophlikeaaGreatDoor
open Go.RowKit

theorem GivQ.of {s : Bool} {m : Nat} {e : Int} {w w' : World} {en : Ending} (h : Goods s m e w en w') : GivQ (Rw.of s m e) w en w' := by
 obtain ⟨A, n, c, h1, h2, h3⟩ := h
 exact ⟨A, n, c, h1, h2.rd, h3⟩

end Go.Proofs.YtlpjlmophlikeaaGreatDoor
namespace Go.Proofs.YtlpjlmophlikeaaGreatDoor

def Only (P : Int → Bool → Nat → Int → Prop) : Prop := ∀ k s m e k2 s2 m2 e2, P k s m e → P k2 s2 m2 e2 → k = k2 ∧ s = s2 ∧ m = m2 ∧ e = e2
/-- a scale, and a name for each answer that is the only one -/
structure Sc where
 K : Nat
 big : 4194304 ≤ K
 oc : (Int → Bool → Nat → Int → Prop) → Except Int Rw
 is : ∀ P k s m e, Only P → P k s m e → (k = 0 → oc P = .ok (Rw.of s m e)) ∧ (k ≠ 0 → oc P = .error k)
end Go.Proofs.YtlpjlmophlikeaaGreatDoor
namespace Go.Proofs.YtlpjlmophlikeaaGreatDoor

structure Ln where
 op : Int
 a : Int
 b : Int
 k : Iv
/-- what lines stand for: the time, states, inputs, parameters -/
structure En where
 t : Iv
 nx : Nat
 X : Nat → Iv
 nu : Nat
 U : Nat → Iv
 np : Nat
 P : Nat → Iv
end Go.Proofs.YtlpjlmophlikeaaGreatDoor
