/-
  Plain arithmetic of a long division's half step. No condition; nothing of the program is named here.
-/
import Derived.Test.YtdklekiknhhfdaaDoorNum
namespace Go.Proofs.YtdklekiknhhfdaaDoor

structure HalfInv (b U un y yn1 yn0 q rh : Nat) : Prop where
  y_eq : yn1 * b + yn0 = y
  yn0_lt : yn0 < b
  U_lt : U < y
  un_lt : un < b
  eq : q * yn1 + rh = U
  rh_lt : rh < b
  q_le : q ≤ b + 1
  up : (U * b + un) / y ≤ q

theorem half_start {b U un y yn1 yn0 : Nat} (h1 : yn1 * b + yn0 = y) (h2 : yn0 < b) (h3 : U < y) (h4 : un < b) (h5 : b ≤ 2 * yn1) (h6 : yn1 < b) : HalfInv b U un y yn1 yn0 (U / yn1) (U - U / yn1 * yn1) ∧ U / yn1 * yn1 ≤ U := by
  have hp : 0 < yn1 := by omega
  have hm : U / yn1 * yn1 ≤ U := Nat.div_mul_le_self _ _
  have hr : U - U / yn1 * yn1 = U % yn1 := by
    have := Nat.mod_add_div U yn1
    rw [Nat.mul_comm] at this
    omega
  refine ⟨⟨h1, h2, h3, h4, by omega, by rw [hr]; exact Nat.lt_trans (Nat.mod_lt _ hp) h6, ?_, ?_⟩, hm⟩
  · apply Nat.le_of_lt_succ
    rw [Nat.div_lt_iff_lt_mul hp]
    have : (b + 1).succ * yn1 = yn1 * b + 2 * yn1 := by
      rw [Nat.succ_mul, Nat.add_mul, Nat.mul_comm b]; omega
    omega
  · rw [Nat.le_div_iff_mul_le hp]
    have hy : 0 < y := by omega
    have hq : (U * b + un) / y * y ≤ U * b + un := Nat.div_mul_le_self _ _
    rcases Nat.lt_or_ge U ((U * b + un) / y * yn1) with h | h
    · exfalso
      have e1 : (U * b + un) / y * y = (U * b + un) / y * yn1 * b + (U * b + un) / y * yn0 := by rw [← h1, Nat.mul_add, Nat.mul_assoc]
      have e2 : (U + 1) * b ≤ (U * b + un) / y * yn1 * b := Nat.mul_le_mul_right _ h
      rw [Nat.add_mul] at e2
      omega
    · exact h

theorem half_mul {b U un y yn1 yn0 q rh : Nat} (h : HalfInv b U un y yn1 yn0 q rh) : q * y + (rh * b + un) = (U * b + un) + q * yn0 := by
  have e1 : q * y = q * yn1 * b + q * yn0 := by rw [← h.y_eq, Nat.mul_add, Nat.mul_assoc]
  have e2 : U * b = q * yn1 * b + rh * b := by rw [← h.eq, Nat.add_mul]
  omega

theorem half_below {b U un y yn1 yn0 q rh : Nat} (h : HalfInv b U un y yn1 yn0 q rh) (hc : b ≤ q ∨ b * rh + un < q * yn0) : (U * b + un) / y < q := by
  have hy : 0 < y := by have := h.U_lt; omega
  rw [Nat.div_lt_iff_lt_mul hy]
  rcases hc with hc | hc
  · have e1 : (U + 1) * b ≤ y * b := Nat.mul_le_mul_right _ h.U_lt
    have e2 : b * y ≤ q * y := Nat.mul_le_mul_right _ hc
    have := h.un_lt
    rw [Nat.add_mul] at e1
    rw [Nat.mul_comm] at e2
    omega
  · have := half_mul h
    rw [Nat.mul_comm b rh] at hc
    omega
theorem half_next {b U un y yn1 yn0 q rh : Nat} (h : HalfInv b U un y yn1 yn0 q rh) (hc : b ≤ q ∨ b * rh + un < q * yn0) (hr : rh + yn1 < b) : HalfInv b U un y yn1 yn0 (q - 1) (rh + yn1) := by
  have hb := half_below h hc
  refine ⟨h.y_eq, h.yn0_lt, h.U_lt, h.un_lt, ?_, hr, by have := h.q_le; omega, Nat.le_pred_of_lt hb⟩
  have := h.eq
  have hq0 : 0 < q := Nat.lt_of_le_of_lt (Nat.zero_le _) hb
  obtain ⟨k, rfl⟩ : ∃ k, q = k + 1 := ⟨q - 1, by omega⟩
  rw [Nat.add_sub_cancel]
  rw [Nat.add_mul] at this
  omega
theorem half_break {b U un y yn1 yn0 q rh : Nat} (h : HalfInv b U un y yn1 yn0 q rh) (hc : b ≤ q ∨ b * rh + un < q * yn0) (hr : b ≤ rh + yn1) : q - 1 = (U * b + un) / y := by
  have hb := half_below h hc
  have hy : 0 < y := by have := h.U_lt; omega
  refine Nat.le_antisymm ?_ (Nat.le_pred_of_lt hb)
  rw [Nat.le_div_iff_mul_le hy]
  have hq0 : 0 < q := Nat.lt_of_le_of_lt (Nat.zero_le _) hb
  obtain ⟨k, rfl⟩ : ∃ k, q = k + 1 := ⟨q - 1, by omega⟩
  rw [Nat.add_sub_cancel]
  have h0 := h.eq
  rw [Nat.add_mul] at h0
  have e1 : k * y = k * yn1 * b + k * yn0 := by rw [← h.y_eq, Nat.mul_add, Nat.mul_assoc]
  have e2 : U * b = k * yn1 * b + (rh + yn1) * b := by rw [← Nat.add_mul]; congr 1; omega
  have e3 : k * yn0 ≤ b * b := Nat.mul_le_mul (by have := h.q_le; omega) (Nat.le_of_lt h.yn0_lt)
  have e4 : b * b ≤ (rh + yn1) * b := Nat.mul_le_mul_right _ hr
  omega
theorem half_exit {b U un y yn1 yn0 q rh : Nat} (h : HalfInv b U un y yn1 yn0 q rh) (hc : q * yn0 ≤ b * rh + un) : q = (U * b + un) / y := by
  have hy : 0 < y := by have := h.U_lt; omega
  apply Nat.le_antisymm _ h.up
  rw [Nat.le_div_iff_mul_le hy]
  have := half_mul h
  rw [Nat.mul_comm b rh] at hc
  omega
theorem half_all {b hi un1 un0 y : Nat} : ((hi * b + un1) / y * b + ((hi * b + un1) % y * b + un0) / y) * y + ((hi * b + un1) % y * b + un0) % y = hi * (b * b) + (un1 * b + un0) := by
  have h1 := Nat.mod_add_div (hi * b + un1) y
  have h2 := Nat.mod_add_div ((hi * b + un1) % y * b + un0) y
  have e1 : (hi * b + un1) * b = hi * (b * b) + un1 * b := by rw [Nat.add_mul, Nat.mul_assoc]
  have e2 : ((hi * b + un1) % y + y * ((hi * b + un1) / y)) * b = (hi * b + un1) % y * b + (hi * b + un1) / y * b * y := by
    rw [Nat.add_mul]; congr 1; ac_rfl
  rw [h1, e1] at e2
  rw [Nat.add_mul, Nat.mul_comm _ y, Nat.mul_comm (((hi * b + un1) % y * b + un0) / y) y, Nat.mul_comm y ((hi * b + un1) / y * b)]
  omega
end Go.Proofs.YtdklekiknhhfdaaDoor
