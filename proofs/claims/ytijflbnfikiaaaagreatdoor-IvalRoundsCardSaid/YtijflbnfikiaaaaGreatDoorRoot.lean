/-
  Contract of nat.Root at this translation. Condition: the number may be.
-/
import Derived.Test.YtijflbnfikiaaaaGreatDoorCaps
namespace Go.Proofs.YtijflbnfikiaaaaGreatDoor
open Go.RowKit

theorem sq_sum (u v : Nat) : (u + v) * (u + v) = u * u + v * v + 2 * (u * v) := by
  rw [Nat.add_mul, Nat.mul_add, Nat.mul_add, Nat.mul_comm v u]; omega
theorem four_le (u v : Nat) : 4 * (u * v) ≤ (u + v) * (u + v) := by
  rw [sq_sum]
  rcases Nat.le_total u v with h | h
  · obtain ⟨d, rfl⟩ : ∃ d, v = u + d := ⟨v - u, by omega⟩
    rw [sq_sum, Nat.mul_add]; omega
  · obtain ⟨d, rfl⟩ : ∃ d, u = v + d := ⟨u - v, by omega⟩
    rw [sq_sum, Nat.add_mul, Nat.mul_comm d v]; omega
theorem newton_next {a X : Nat} (hX : 1 ≤ X) (ha : 1 ≤ a) : a < ((X + a / X) / 2 + 1) * ((X + a / X) / 2 + 1) ∧ 1 ≤ (X + a / X) / 2 := by
  have h1 := Nat.div_add_mod a X
  have h2 := Nat.mod_lt a (show 0 < X by omega)
  obtain ⟨q, hq⟩ : ∃ q, q = a / X := ⟨_, rfl⟩
  rw [← hq] at h1 ⊢
  obtain ⟨y, hy⟩ : ∃ y, y = (X + q) / 2 := ⟨_, rfl⟩
  rw [← hy]
  have h3 : X + q + 1 ≤ 2 * (y + 1) := by omega
  have h4 : a < X * (q + 1) := by rw [Nat.mul_add, Nat.mul_one]; omega
  constructor
  · -- (X + q + 1)² is at least 4 X (q + 1)
    have h5 : 4 * (X * (q + 1)) ≤ (X + (q + 1)) * (X + (q + 1)) := four_le X (q + 1)
    have h7 : (X + (q + 1)) * (X + (q + 1)) ≤ 2 * (y + 1) * (2 * (y + 1)) := Nat.mul_le_mul (by omega) (by omega)
    have h8 : 2 * (y + 1) * (2 * (y + 1)) = 4 * ((y + 1) * (y + 1)) := by
      generalize y + 1 = z
      rw [Nat.mul_assoc, ← Nat.mul_assoc z 2 z, Nat.mul_comm z 2, Nat.mul_assoc 2 z z, ← Nat.mul_assoc 2 2]
    omega
  · rcases Nat.eq_zero_or_pos q with h0 | h0
    · have : 2 ≤ X := by
        rw [h0] at h4
        omega
      omega
    · omega
theorem newton_exit {a X : Nat} (h : X ≤ (X + a / X) / 2) : X * X ≤ a := by
  have h1 : X ≤ a / X := by omega
  have h2 : X * X ≤ a / X * X := Nat.mul_le_mul_right _ h1
  exact Nat.le_trans h2 (Nat.div_mul_le_self _ _)
theorem newton_first {a : Nat} : a < (2 ^ ((blen a + 1) / 2) + 1) * (2 ^ ((blen a + 1) / 2) + 1) := by
  have h1 := (blen_le a (blen a)).1 (Nat.le_refl _)
  have h2 : 2 ^ blen a ≤ 2 ^ ((blen a + 1) / 2) * 2 ^ ((blen a + 1) / 2) := by
    rw [← Nat.pow_add]; exact Nat.pow_le_pow_right (by omega) (by omega)
  generalize 2 ^ ((blen a + 1) / 2) = p at *
  rw [Nat.add_mul, Nat.mul_add]
  omega

theorem pow_step {k m : Nat} (h : k < m) : 1 ≤ 2 ^ k ∧ 1 * 2 ^ k < 2 ^ m := ⟨Nat.pow_pos Nat.zero_lt_two, by rw [Nat.one_mul]; exact Nat.pow_lt_pow_right Nat.one_lt_two h⟩
theorem root_fits {k : Nat} (h : k < 64 * 64) : Hid (1 ≤ 2 ^ k ∧ 1 * 2 ^ k < W ^ 64) := Lib.hid ⟨(pow_step h).1, Nat.lt_of_lt_of_eq (pow_step h).2 W64_pow.symm⟩

def RootOk (w : World) (x : Nat) (e : Ending) (w' : World) : Prop := ∃ s, s * s ≤ x ∧ x < (s + 1) * (s + 1) ∧ ResOk w s e w'

end Go.Proofs.YtijflbnfikiaaaaGreatDoor
