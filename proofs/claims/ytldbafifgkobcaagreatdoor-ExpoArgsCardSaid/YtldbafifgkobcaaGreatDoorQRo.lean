/-
 Plain facts on rounding of naturals to so many bits, down and up. No condition; nothing of the program is named here.
-/
import Derived.Test.YtldbafifgkobcaaGreatDoorQDn
namespace Go.Proofs.YtldbafifgkobcaaGreatDoor

/-- x cut to p bits, down; up: the next one, if anything was cut off -/
def cutN (p x : Nat) (up : Bool) : Nat := x / 2 ^ (blen x - p) + if up = true ∧ x % 2 ^ (blen x - p) ≠ 0 then 1 else 0
def rdN (p x : Nat) (up : Bool) : Nat := cutN p x up * 2 ^ (blen x - p)

theorem pow_pos2 (k : Nat) : 0 < 2 ^ k := Nat.pow_pos (by omega)
theorem cut_lt (p x : Nat) : x / 2 ^ (blen x - p) < 2 ^ p := by
 rw [Nat.div_lt_iff_lt_mul (pow_pos2 _), ← Nat.pow_add]
 refine Nat.lt_of_lt_of_le ((blen_le x (blen x)).1 (Nat.le_refl _)) (Nat.pow_le_pow_right (by omega) (by omega))
end Go.Proofs.YtldbafifgkobcaaGreatDoor
