/-
  Contract of the statement NatBits' function at this translation: it returns true, whatever its arguments. Condition: the slice reads as limbs, the table of math/bits reads as its text lays it.
-/
import Derived.Test.YtijflbnfikiaaaaGreatDoorRApi
namespace Go.Proofs.YtijflbnfikiaaaaGreatDoor
open Go.RowKit

theorem shifted_small {x p : Nat} (hx : x < W ^ 64) (hp : p ≤ 4096) : x * 2 ^ p < H ^ 600 := by
  obtain ⟨k, hk⟩ : ∃ k, k = 600 := ⟨_, rfl⟩
  obtain ⟨m, hm⟩ : ∃ m, m = 64 * 64 := ⟨_, rfl⟩
  rw [← hk]
  rw [W64_pow, ← hm] at hx
  have h1 : m + p ≤ 16 * k := by omega
  have h2 := pow_mono64 h1 hx
  rwa [Nat.pow_mul, ← H_pow] at h2

theorem far_over {x p : Nat} (hx : x ≠ 0) (hp : 64 * 64 ≤ p) : W ^ 64 ≤ x * 2 ^ p := by
  rw [W64_pow]
  generalize 64 * 64 = m at *
  have h1 : 2 ^ m ≤ 2 ^ p := Nat.pow_le_pow_right Nat.zero_lt_two hp
  exact Nat.le_trans h1 (Nat.le_mul_of_pos_left _ (by omega))
end Go.Proofs.YtijflbnfikiaaaaGreatDoor

namespace Go.Proofs.YtijflbnfikiaaaaGreatDoor
open Go.RowKit

theorem small_div {x p : Nat} (hx : x < W ^ 64) : x / 2 ^ p < H ^ 600 := by
  have h := shifted_small (p := 0) hx (by omega)
  rw [Nat.pow_zero, Nat.mul_one] at h
  exact Nat.lt_of_le_of_lt (Nat.div_le_self _ _) h

end Go.Proofs.YtijflbnfikiaaaaGreatDoor
