/-
 Plain facts of expo's contracts: what is rounded up to a power of two, what the domain holds. No condition.
-/
import Derived.Test.YtldbafifgkobcaaGreatDoorQIm
import Derived.Test.YtldbafifgkobcaaGreatDoorQIl
namespace Go.Proofs.YtldbafifgkobcaaGreatDoor
open Go.RowKit

/-- x divided by 2^n, rounded up -/
def upN (x n : Nat) : Nat := x / 2 ^ n + if x % 2 ^ n = 0 then 0 else 1
theorem low_up {x k n : Nat} (h : IsLow x k) : k < n ↔ x % 2 ^ n ≠ 0 := (isLow_mod h).symm
theorem up_low {x k n : Nat} (h : IsLow x k) (hk : k < n) : upN x n = x / 2 ^ n + 1 := by
 unfold upN
 rw [if_neg ((low_up h).1 hk)]
theorem up_high {x k n : Nat} (h : IsLow x k) (hk : ¬ k < n) : upN x n = x / 2 ^ n := by
 unfold upN
 rw [if_pos (Classical.byContradiction fun h0 => hk ((low_up h).2 h0))]
 rfl
/-- the numbers that have an exp -/
def d64 : Iv := ⟨Rw.of true 1 6, Rw.of false 1 6⟩
theorem okd_64 (s : Bool) : OkD s 1 6 := .inr ⟨rfl, small64 (by omega), by decide, by decide⟩
theorem v_64 (K : Nat) : vz K false 1 6 = 64 * ((2 ^ K : Nat) : Int) ∧ vz K true 1 6 = -(64 * ((2 ^ K : Nat) : Int)) := by
 have h := vz_2 K 1 6
 have e1 : ((1 * 2 ^ 6 : Nat) : Int) = 64 := rfl
 have e2 : ((6 : Nat) : Int) = 6 := rfl
 rw [e1, e2] at h
 have h2 := vz_not K false 1 6
 rw [h] at h2
 exact ⟨h, h2⟩
theorem may_64 (K : Nat) : mayI K d64 = true := by
 have hv := v_64 K
 refine mayI_iff.2 ⟨Rw.of_may (okd_64 _), Rw.of_may (okd_64 _), ?_⟩
 unfold d64
 rw [Rw.of_v, Rw.of_v, hv.1, hv.2]
 have := pow_pos2 K
 generalize 2 ^ K = P at *
 omega
theorem may_abs {s : Bool} {l : List Nat} {e : Int} (h : mayD s l e = true) : mayD false l e = true := by
 unfold mayD at h ⊢
 by_cases h0 : l = []
 ·rw [if_pos h0] at h ⊢
  rw [Bool.and_eq_true] at h
  rw [h.2]
  rfl
 ·rw [if_neg h0] at h ⊢
  exact h
/-- above 64, without a sign: not within -/
theorem abs_within {K : Nat} {a : Rw} (h : a.may = true) : (0 < cmpR K false a.l a.e false [1] 6) ↔ withinI K ⟨a, a⟩ d64 = false := by
 have hv := v_64 K
 have hm : mayD false [1] 6 = true := rfl
 have e1 : val Go.Proofs.YtldbafifgkobcaaGreatDoor.W [1] = 1 := rfl
 have hvz : vz K false (val Go.Proofs.YtldbafifgkobcaaGreatDoor.W a.l) a.e = if a.s then - a.v K else a.v K := by
  unfold Rw.v
  cases a.s
  ·rfl
  ·have := vz_not K false (val Go.Proofs.YtldbafifgkobcaaGreatDoor.W a.l) a.e
   show _ = - vz K true _ _
   have e2 : (!false) = true := rfl
   rw [e2] at this
   rw [this, Int.neg_neg]
   try rfl
 have hp : 0 ≤ vz K false (val Go.Proofs.YtldbafifgkobcaaGreatDoor.W a.l) a.e := by
  unfold vz sg
  rw [if_neg Bool.false_ne_true, Int.one_mul]
  exact Int.natCast_nonneg _
 unfold cmpR
 rw [if_pos ⟨may_abs h, hm⟩, e1, hv.1]
 have hw : withinI K ⟨a, a⟩ d64 = true ↔ -(64 * ((2 ^ K : Nat) : Int)) ≤ a.v K ∧ a.v K ≤ 64 * ((2 ^ K : Nat) : Int) := by
  rw [withinI_iff]
  have e3 : d64.lo.v K = -(64 * ((2 ^ K : Nat) : Int)) := by
   unfold d64
   rw [Rw.of_v, hv.2]
  have e4 : d64.hi.v K = 64 * ((2 ^ K : Nat) : Int) := by
   unfold d64
   rw [Rw.of_v, hv.1]
  rw [e3, e4]
  exact ⟨fun h => h.2.2, fun h1 => ⟨mayI_point h, may_64 K, h1⟩⟩
 rw [Bool.eq_false_iff, ne_eq, hw]
 have hP := pow_pos2 K
 unfold cmpV
 generalize 2 ^ K = P at *
 split <;> (try split) <;> split at hvz <;> omega
end Go.Proofs.YtldbafifgkobcaaGreatDoor
