/-
 Contracts of ival's Width and Mid with an answer that is known, and of the statements' own Few and same, at this translation. Condition: the slices read as limbs, the table of math/bits reads as its text lays it.
-/
import Derived.Test.YtldbafifgkobcaaGreatDoorQIi
import Derived.Test.YtldbafifgkobcaaGreatDoorQRt
namespace Go.Proofs.YtldbafifgkobcaaGreatDoor
open Go.RowKit

/-- a known answer -/
def IsD (s : Bool) (m : Nat) (e : Int) (k' : Int) (s' : Bool) (m' : Nat) (e' : Int) : Prop := k' = 0 ∧ s' = s ∧ m' = m ∧ e' = e
def Rw.of (s : Bool) (m : Nat) (e : Int) : Rw := ⟨s, dig Go.Proofs.YtldbafifgkobcaaGreatDoor.W m, e, (can_dig W_two m).1⟩
theorem Rw.of_may {s : Bool} {m : Nat} {e : Int} (h : OkD s m e) : (Rw.of s m e).may = true := mayD_ok h
theorem Rw.of_v {K : Nat} {s : Bool} {m : Nat} {e : Int} : (Rw.of s m e).v K = vz K s m e := by
 unfold Rw.of Rw.v
 rw [val_dig W_two]
theorem okd_1 : OkD false 1 0 := okd_small rfl (by omega) (by decide) (by decide)
theorem vz_1 (K m : Nat) : vz K false m 0 = (m : Int) * ((2 ^ K : Nat) : Int) := by
 unfold vz sg
 have e1 : ((0 : Int) + (K : Int)).toNat = K := by omega
 rw [e1, if_neg Bool.false_ne_true, Int.one_mul, Int.natCast_mul]
theorem vz_2 (K m j : Nat) : vz K false m (j : Int) = ((m * 2 ^ j : Nat) : Int) * ((2 ^ K : Nat) : Int) := by
 have h := vz_up (K := K) (s := false) (m := m) (e := 0) (by omega) j
 rw [Int.zero_add] at h
 rw [h, vz_1]
/-- 1, 3, and the interval from 1 to 3 -/
def q1 : Rw := Rw.of false 1 0
def q3 : Rw := Rw.of false 3 0
theorem q1_may : q1.may = true := Rw.of_may okd_1
theorem told_is' {f : FuncId} {args : Array Value} {P : Int → Bool → Nat → Int → Prop} {w : World} {s : Bool} {m : Nat} {e k : Int} (h : Calls Tryz.prog f args w (Tells P w)) (hP : ∀ k1 s1 m1 e1, P k1 s1 m1 e1 → k1 = k ∧ s1 = s ∧ m1 = m ∧ e1 = e) : Calls Tryz.prog f args w (ToldIs s m e k w) := h.mono fun _ _ h => told_is h hP

end Go.Proofs.YtldbafifgkobcaaGreatDoor
