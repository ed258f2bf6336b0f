/-
  Contract of the reference's Quot, and what round.Quot tells of any two, raw ones too, at this translation. Condition: the slices read as limbs; at most 1000 bits, or more than may be.
-/
import Derived.Test.YtkpcmgfpmekkjaaDoorQRj
import Derived.Test.YtkpcmgfpmekkjaaDoorQMv
import Derived.Test.YtkpcmgfpmekkjaaDoorQCaps
import Derived.Test.YtkpcmgfpmekkjaaDoorQRRoot
import Derived.Test.YtkpcmgfpmekkjaaDoorQIl
namespace Go.Proofs.YtkpcmgfpmekkjaaDoor
open Go.RowKit

theorem Dg.drew {w : World} {A : Option Addr} {n c x : Nat} (h : Dg w A n c x) : Dg w.drew A n c x := Dg.heap32 h rfl
end Go.Proofs.YtkpcmgfpmekkjaaDoor

namespace Go.Proofs.YtkpcmgfpmekkjaaDoor
open Go.RowKit

end Go.Proofs.YtkpcmgfpmekkjaaDoor
namespace Go.Proofs.YtkpcmgfpmekkjaaDoor
open Go.RowKit

theorem GivQ.of {s : Bool} {m : Nat} {e : Int} {w w' : World} {en : Ending} (h : Goods s m e w en w') : GivQ (Rw.of s m e) w en w' := by
  obtain ⟨A, n, c, h1, h2, h3⟩ := h
  exact ⟨A, n, c, h1, h2.rd, h3⟩

end Go.Proofs.YtkpcmgfpmekkjaaDoor
namespace Go.Proofs.YtkpcmgfpmekkjaaDoor

def Only (P : Int → Bool → Nat → Int → Prop) : Prop := ∀ k s m e k2 s2 m2 e2, P k s m e → P k2 s2 m2 e2 → k = k2 ∧ s = s2 ∧ m = m2 ∧ e = e2
/-- a scale, and a name for each answer that is the only one -/
structure Sc where
  K : Nat
  big : 4194304 ≤ K
  oc : (Int → Bool → Nat → Int → Prop) → Except Int Rw
  is : ∀ P k s m e, Only P → P k s m e → (k = 0 → oc P = .ok (Rw.of s m e)) ∧ (k ≠ 0 → oc P = .error k)
end Go.Proofs.YtkpcmgfpmekkjaaDoor
namespace Go.Proofs.YtkpcmgfpmekkjaaDoor

structure Ln where
  op : Int
  a : Int
  b : Int
  k : Iv
/-- what lines stand for: the time, states, inputs, parameters -/
structure En where
  t : Iv
  nx : Nat
  X : Nat → Iv
  nu : Nat
  U : Nat → Iv
  np : Nat
  P : Nat → Iv
end Go.Proofs.YtkpcmgfpmekkjaaDoor
namespace Go.Proofs.YtkpcmgfpmekkjaaDoor
open Go.RowKit

section
variable {w : World} {g g' k i n c x n0 c0 : Nat} {A A0 : Option Addr} {s s0 : Bool} {e e0 : Int} {v u0 u1 u2 : Value}
theorem Box.put3 (h : Box w g' s A n c e) (hne : g' ≠ g) (u0 u1 u2 : Value) : Box (((w.setCell ⟨g, 0, none⟩ u0).setCell ⟨g, 1, none⟩ u1).setCell ⟨g, 2, none⟩ u2) g' s A n c e := ((h.other hne 0 u0).other hne 1 u1).other hne 2 u2
end

end Go.Proofs.YtkpcmgfpmekkjaaDoor
namespace Go.Proofs.YtkpcmgfpmekkjaaDoor

section
variable {S : Sc} {a b c d : Rw} {x y r : Iv} {p : Int}
/-- the greatest of p bits that is not above, the least that is not below -/
def Dn (S : Sc) (p : Int) (A : Int) (c : Rw) : Prop := c.may = true ∧ c.v S.K ≤ A ∧ Fits p.toNat (val W c.l) ∧ ∀ d : Rw, d.may = true → Fits p.toNat (val W d.l) → d.v S.K ≤ A → d.v S.K ≤ c.v S.K
end
end Go.Proofs.YtkpcmgfpmekkjaaDoor
