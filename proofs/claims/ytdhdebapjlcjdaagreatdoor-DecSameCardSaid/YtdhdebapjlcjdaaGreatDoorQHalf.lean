/-
 Plain arithmetic of a long division's half step. No condition; nothing of the program is named here.
-/
import Derived.Test.YtdhdebapjlcjdaaGreatDoorQMem
namespace Go.Proofs.YtdhdebapjlcjdaaGreatDoor
section
variable {B : Nat}

theorem carry_zero {n v ca s : Nat} (h : v + B ^ n * ca = s) (hs : s < B ^ n) : ca = 0 := by
 rcases Nat.eq_zero_or_pos ca with h0 | h0
 ·exact h0
 ·have : B ^ n * 1 ≤ B ^ n * ca := Nat.mul_le_mul_left _ h0
  omega

theorem sum_of (hB : 2 ≤ B) {l r : List Nat} {n m : Nat} {L xs' : List Nat} {ca : Nat} (hl : l.length = n) (hr : r.length = m) (hmn : m ≤ n) (hlt : Lt B l) (hrt : Lt B r) (hL : L = l ++ (List.replicate (n + 1) 0).drop n)
  (he : val B xs' + B ^ L.length * ca = val B L + 1 * val B r) : val B xs' = val B l + val B r := by
 have e1 : L = l ++ [0] := by rw [hL]; simp
 have e2 : L.length = n + 1 := by rw [e1]; simp [hl]
 have v1 : val B L = val B l := by rw [e1, val_snoc]; simp
 rw [v1, Nat.one_mul, e2] at he
 have h1 := val_lt hlt
 have h2 := val_lt hrt
 rw [hl] at h1
 rw [hr] at h2
 have h3 : B ^ m ≤ B ^ n := Nat.pow_le_pow_right (by omega) hmn
 have h4 : B ^ (n + 1) = B ^ n * B := Nat.pow_succ ..
 have h5 : B ^ n * 2 ≤ B ^ n * B := Nat.mul_le_mul_left _ hB
 have := carry_zero he (by omega)
 subst this
 omega

/-- one row of a product -/
theorem prod_step (hB : 2 ≤ B) {l r cur xs' : List Nat} {n m i ca : Nat} (hl : l.length = n) (hr : r.length = m) (hi : i < n) (hlt : Lt B l) (hrt : Lt B r) (hc : cur.length = n + m)
  (hv : val B cur = val B (l.take i) * val B r) (he : val B xs' + B ^ (cur.drop i).length * ca = val B (cur.drop i) + l.getD i 0 * val B r) :
  val B (cur.take i ++ xs') = val B (l.take (i + 1)) * val B r := by
 have hti : (cur.take i).length = i := by rw [List.length_take]; omega
 have hsplit := val_take_drop (B := B) cur i
 rw [hti] at hsplit
 have hr1 := val_lt hrt
 rw [hr] at hr1
 have hl1 := val_lt (hlt.take i)
 rw [List.length_take, Nat.min_eq_left (by omega)] at hl1
 have hx : l.getD i 0 < B := hlt.getD (by omega) i
 have hti1 : val B (l.take (i + 1)) = val B (l.take i) + B ^ i * l.getD i 0 := by
  rw [List.take_succ_eq_append_getElem (by omega), val_snoc, List.length_take, Nat.min_eq_left (by omega), List.getD_eq_getElem?_getD, List.getElem?_eq_getElem (by omega), Option.getD_some]
 -- the upper part is below B ^ m
 have hup : val B (cur.drop i) < B ^ m := by
  rcases Nat.lt_or_ge (val B (cur.drop i)) (B ^ m) with h | h
  ·exact h
  ·exfalso
   have h1 : B ^ i * B ^ m ≤ B ^ i * val B (cur.drop i) := Nat.mul_le_mul_left _ h
   have h2 : val B (l.take i) * val B r < B ^ i * B ^ m := Nat.mul_lt_mul_of_lt_of_le hl1 (Nat.le_of_lt hr1) (Nat.pow_pos (by omega))
   omega
 have hsum : val B (cur.drop i) + l.getD i 0 * val B r < B ^ (cur.drop i).length := by
  have hlen : (cur.drop i).length = n + m - i := by rw [List.length_drop]; omega
  rw [hlen]
  have h1 : B ^ (m + 1) ≤ B ^ (n + m - i) := Nat.pow_le_pow_right (by omega) (by omega)
  have h2 : B ^ (m + 1) = B ^ m * B := Nat.pow_succ ..
  have h3 : l.getD i 0 * val B r ≤ (B - 1) * val B r := Nat.mul_le_mul_right _ (by omega)
  have h4 : (B - 1) * val B r ≤ (B - 1) * (B ^ m - 1) := Nat.mul_le_mul_left _ (by omega)
  have h5 : (B - 1) * (B ^ m - 1) + (B ^ m - 1) = B * (B ^ m - 1) := by
   rw [← Nat.succ_mul]; congr 1; omega
  have h6 : B * (B ^ m - 1) + B = B ^ m * B := by
   rw [Nat.mul_sub, Nat.mul_one, Nat.mul_comm B (B ^ m)]
   have : B * 1 ≤ B ^ m * B := by rw [Nat.mul_comm]; exact Nat.mul_le_mul_right _ (Nat.pow_pos (by omega))
   omega
  omega
 have hca := carry_zero he hsum
 subst hca
 rw [val_append, hti, hti1, Nat.add_mul, ← hv, hsplit]
 have h7 : B ^ i * val B xs' = B ^ i * (val B (cur.drop i) + l.getD i 0 * val B r) := by rw [← he]; simp
 rw [h7, Nat.mul_add, Nat.mul_assoc, Nat.add_assoc]
end
end Go.Proofs.YtdhdebapjlcjdaaGreatDoor

namespace Go.Proofs.YtdhdebapjlcjdaaGreatDoor

structure HalfInv (b U un y yn1 yn0 q rh : Nat) : Prop where
 y_eq : yn1 * b + yn0 = y
 yn0_lt : yn0 < b
 U_lt : U < y
 un_lt : un < b
 eq : q * yn1 + rh = U
 rh_lt : rh < b
 q_le : q ≤ b + 1
 up : (U * b + un) / y ≤ q

theorem half_start {b U un y yn1 yn0 : Nat} (h1 : yn1 * b + yn0 = y) (h2 : yn0 < b) (h3 : U < y) (h4 : un < b) (h5 : b ≤ 2 * yn1) (h6 : yn1 < b) : HalfInv b U un y yn1 yn0 (U / yn1) (U - U / yn1 * yn1) ∧ U / yn1 * yn1 ≤ U := by
 have hp : 0 < yn1 := by omega
 have hm : U / yn1 * yn1 ≤ U := Nat.div_mul_le_self _ _
 have hr : U - U / yn1 * yn1 = U % yn1 := by
  have := Nat.mod_add_div U yn1
  rw [Nat.mul_comm] at this
  omega
 refine ⟨⟨h1, h2, h3, h4, by omega, by rw [hr]; exact Nat.lt_trans (Nat.mod_lt _ hp) h6, ?_, ?_⟩, hm⟩
 ·apply Nat.le_of_lt_succ
  rw [Nat.div_lt_iff_lt_mul hp]
  have : (b + 1).succ * yn1 = yn1 * b + 2 * yn1 := by
   rw [Nat.succ_mul, Nat.add_mul, Nat.mul_comm b]; omega
  omega
 ·rw [Nat.le_div_iff_mul_le hp]
  have hy : 0 < y := by omega
  have hq : (U * b + un) / y * y ≤ U * b + un := Nat.div_mul_le_self _ _
  rcases Nat.lt_or_ge U ((U * b + un) / y * yn1) with h | h
  ·exfalso
   have e1 : (U * b + un) / y * y = (U * b + un) / y * yn1 * b + (U * b + un) / y * yn0 := by rw [← h1, Nat.mul_add, Nat.mul_assoc]
   have e2 : (U + 1) * b ≤ (U * b + un) / y * yn1 * b := Nat.mul_le_mul_right _ h
   rw [Nat.add_mul] at e2
   omega
  ·exact h

theorem half_mul {b U un y yn1 yn0 q rh : Nat} (h : HalfInv b U un y yn1 yn0 q rh) : q * y + (rh * b + un) = (U * b + un) + q * yn0 := by
 have e1 : q * y = q * yn1 * b + q * yn0 := by rw [← h.y_eq, Nat.mul_add, Nat.mul_assoc]
 have e2 : U * b = q * yn1 * b + rh * b := by rw [← h.eq, Nat.add_mul]
 omega

theorem half_below {b U un y yn1 yn0 q rh : Nat} (h : HalfInv b U un y yn1 yn0 q rh) (hc : b ≤ q ∨ b * rh + un < q * yn0) : (U * b + un) / y < q := by
 have hy : 0 < y := by have := h.U_lt; omega
 rw [Nat.div_lt_iff_lt_mul hy]
 rcases hc with hc | hc
 ·have e1 : (U + 1) * b ≤ y * b := Nat.mul_le_mul_right _ h.U_lt
  have e2 : b * y ≤ q * y := Nat.mul_le_mul_right _ hc
  have := h.un_lt
  rw [Nat.add_mul] at e1
  rw [Nat.mul_comm] at e2
  omega
 ·have := half_mul h
  rw [Nat.mul_comm b rh] at hc
  omega
theorem half_next {b U un y yn1 yn0 q rh : Nat} (h : HalfInv b U un y yn1 yn0 q rh) (hc : b ≤ q ∨ b * rh + un < q * yn0) (hr : rh + yn1 < b) : HalfInv b U un y yn1 yn0 (q - 1) (rh + yn1) := by
 have hb := half_below h hc
 refine ⟨h.y_eq, h.yn0_lt, h.U_lt, h.un_lt, ?_, hr, by have := h.q_le; omega, Nat.le_pred_of_lt hb⟩
 have := h.eq
 have hq0 : 0 < q := Nat.lt_of_le_of_lt (Nat.zero_le _) hb
 obtain ⟨k, rfl⟩ : ∃ k, q = k + 1 := ⟨q - 1, by omega⟩
 rw [Nat.add_sub_cancel]
 rw [Nat.add_mul] at this
 omega
theorem half_break {b U un y yn1 yn0 q rh : Nat} (h : HalfInv b U un y yn1 yn0 q rh) (hc : b ≤ q ∨ b * rh + un < q * yn0) (hr : b ≤ rh + yn1) : q - 1 = (U * b + un) / y := by
 have hb := half_below h hc
 have hy : 0 < y := by have := h.U_lt; omega
 refine Nat.le_antisymm ?_ (Nat.le_pred_of_lt hb)
 rw [Nat.le_div_iff_mul_le hy]
 have hq0 : 0 < q := Nat.lt_of_le_of_lt (Nat.zero_le _) hb
 obtain ⟨k, rfl⟩ : ∃ k, q = k + 1 := ⟨q - 1, by omega⟩
 rw [Nat.add_sub_cancel]
 have h0 := h.eq
 rw [Nat.add_mul] at h0
 have e1 : k * y = k * yn1 * b + k * yn0 := by rw [← h.y_eq, Nat.mul_add, Nat.mul_assoc]
 have e2 : U * b = k * yn1 * b + (rh + yn1) * b := by rw [← Nat.add_mul]; congr 1; omega
 have e3 : k * yn0 ≤ b * b := Nat.mul_le_mul (by have := h.q_le; omega) (Nat.le_of_lt h.yn0_lt)
 have e4 : b * b ≤ (rh + yn1) * b := Nat.mul_le_mul_right _ hr
 omega
theorem half_exit {b U un y yn1 yn0 q rh : Nat} (h : HalfInv b U un y yn1 yn0 q rh) (hc : q * yn0 ≤ b * rh + un) : q = (U * b + un) / y := by
 have hy : 0 < y := by have := h.U_lt; omega
 apply Nat.le_antisymm _ h.up
 rw [Nat.le_div_iff_mul_le hy]
 have := half_mul h
 rw [Nat.mul_comm b rh] at hc
 omega
theorem half_all {b hi un1 un0 y : Nat} : ((hi * b + un1) / y * b + ((hi * b + un1) % y * b + un0) / y) * y + ((hi * b + un1) % y * b + un0) % y = hi * (b * b) + (un1 * b + un0) := by
 have h1 := Nat.mod_add_div (hi * b + un1) y
 have h2 := Nat.mod_add_div ((hi * b + un1) % y * b + un0) y
 have e1 : (hi * b + un1) * b = hi * (b * b) + un1 * b := by rw [Nat.add_mul, Nat.mul_assoc]
 have e2 : ((hi * b + un1) % y + y * ((hi * b + un1) / y)) * b = (hi * b + un1) % y * b + (hi * b + un1) / y * b * y := by
  rw [Nat.add_mul]; congr 1; ac_rfl
 rw [h1, e1] at e2
 rw [Nat.add_mul, Nat.mul_comm _ y, Nat.mul_comm (((hi * b + un1) % y * b + un0) / y) y, Nat.mul_comm y ((hi * b + un1) / y * b)]
 omega
end Go.Proofs.YtdhdebapjlcjdaaGreatDoor
