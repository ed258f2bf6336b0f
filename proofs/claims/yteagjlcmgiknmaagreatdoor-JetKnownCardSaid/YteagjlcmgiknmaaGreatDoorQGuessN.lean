/-
 Plain arithmetic of a long division's half step. No condition; nothing of the program is named here.
-/
import Derived.Test.YteagjlcmgiknmaaGreatDoorQMem
import Derived.Laws.Bits64b
namespace Go.Proofs.YteagjlcmgiknmaaGreatDoor
section
variable {B : Nat}

theorem carry_zero {n v ca s : Nat} (h : v + B ^ n * ca = s) (hs : s < B ^ n) : ca = 0 := by
 rcases Nat.eq_zero_or_pos ca with h0 | h0
 ·exact h0
 ·have : B ^ n * 1 ≤ B ^ n * ca := Nat.mul_le_mul_left _ h0
  omega

theorem sum_of (hB : 2 ≤ B) {l r : List Nat} {n m : Nat} {L xs' : List Nat} {ca : Nat} (hl : l.length = n) (hr : r.length = m) (hmn : m ≤ n) (hlt : Lt B l) (hrt : Lt B r) (hL : L = l ++ (List.replicate (n + 1) 0).drop n)
  (he : val B xs' + B ^ L.length * ca = val B L + 1 * val B r) : val B xs' = val B l + val B r := by
 have e1 : L = l ++ [0] := by rw [hL]; simp
 have e2 : L.length = n + 1 := by rw [e1]; simp [hl]
 have v1 : val B L = val B l := by rw [e1, val_snoc]; simp
 rw [v1, Nat.one_mul, e2] at he
 have h1 := val_lt hlt
 have h2 := val_lt hrt
 rw [hl] at h1
 rw [hr] at h2
 have h3 : B ^ m ≤ B ^ n := Nat.pow_le_pow_right (by omega) hmn
 have h4 : B ^ (n + 1) = B ^ n * B := Nat.pow_succ ..
 have h5 : B ^ n * 2 ≤ B ^ n * B := Nat.mul_le_mul_left _ hB
 have := carry_zero he (by omega)
 subst this
 omega

/-- one row of a product -/
theorem prod_step (hB : 2 ≤ B) {l r cur xs' : List Nat} {n m i ca : Nat} (hl : l.length = n) (hr : r.length = m) (hi : i < n) (hlt : Lt B l) (hrt : Lt B r) (hc : cur.length = n + m)
  (hv : val B cur = val B (l.take i) * val B r) (he : val B xs' + B ^ (cur.drop i).length * ca = val B (cur.drop i) + l.getD i 0 * val B r) :
  val B (cur.take i ++ xs') = val B (l.take (i + 1)) * val B r := by
 have hti : (cur.take i).length = i := by rw [List.length_take]; omega
 have hsplit := val_take_drop (B := B) cur i
 rw [hti] at hsplit
 have hr1 := val_lt hrt
 rw [hr] at hr1
 have hl1 := val_lt (hlt.take i)
 rw [List.length_take, Nat.min_eq_left (by omega)] at hl1
 have hx : l.getD i 0 < B := hlt.getD (by omega) i
 have hti1 : val B (l.take (i + 1)) = val B (l.take i) + B ^ i * l.getD i 0 := by
  rw [List.take_succ_eq_append_getElem (by omega), val_snoc, List.length_take, Nat.min_eq_left (by omega), List.getD_eq_getElem?_getD, List.getElem?_eq_getElem (by omega), Option.getD_some]
 -- the upper part is below B ^ m
 have hup : val B (cur.drop i) < B ^ m := by
  rcases Nat.lt_or_ge (val B (cur.drop i)) (B ^ m) with h | h
  ·exact h
  ·exfalso
   have h1 : B ^ i * B ^ m ≤ B ^ i * val B (cur.drop i) := Nat.mul_le_mul_left _ h
   have h2 : val B (l.take i) * val B r < B ^ i * B ^ m := Nat.mul_lt_mul_of_lt_of_le hl1 (Nat.le_of_lt hr1) (Nat.pow_pos (by omega))
   omega
 have hsum : val B (cur.drop i) + l.getD i 0 * val B r < B ^ (cur.drop i).length := by
  have hlen : (cur.drop i).length = n + m - i := by rw [List.length_drop]; omega
  rw [hlen]
  have h1 : B ^ (m + 1) ≤ B ^ (n + m - i) := Nat.pow_le_pow_right (by omega) (by omega)
  have h2 : B ^ (m + 1) = B ^ m * B := Nat.pow_succ ..
  have h3 : l.getD i 0 * val B r ≤ (B - 1) * val B r := Nat.mul_le_mul_right _ (by omega)
  have h4 : (B - 1) * val B r ≤ (B - 1) * (B ^ m - 1) := Nat.mul_le_mul_left _ (by omega)
  have h5 : (B - 1) * (B ^ m - 1) + (B ^ m - 1) = B * (B ^ m - 1) := by
   rw [← Nat.succ_mul]; congr 1; omega
  have h6 : B * (B ^ m - 1) + B = B ^ m * B := by
   rw [Nat.mul_sub, Nat.mul_one, Nat.mul_comm B (B ^ m)]
   have : B * 1 ≤ B ^ m * B := by rw [Nat.mul_comm]; exact Nat.mul_le_mul_right _ (Nat.pow_pos (by omega))
   omega
  omega
 have hca := carry_zero he hsum
 subst hca
 rw [val_append, hti, hti1, Nat.add_mul, ← hv, hsplit]
 have h7 : B ^ i * val B xs' = B ^ i * (val B (cur.drop i) + l.getD i 0 * val B r) := by rw [← he]; simp
 rw [h7, Nat.mul_add, Nat.mul_assoc, Nat.add_assoc]
end
end Go.Proofs.YteagjlcmgiknmaaGreatDoor

namespace Go.Proofs.YteagjlcmgiknmaaGreatDoor

structure HalfInv (b U un y yn1 yn0 q rh : Nat) : Prop where
 y_eq : yn1 * b + yn0 = y
 yn0_lt : yn0 < b
 U_lt : U < y
 un_lt : un < b
 eq : q * yn1 + rh = U
 rh_lt : rh < b
 q_le : q ≤ b + 1
 up : (U * b + un) / y ≤ q

theorem half_start {b U un y yn1 yn0 : Nat} (h1 : yn1 * b + yn0 = y) (h2 : yn0 < b) (h3 : U < y) (h4 : un < b) (h5 : b ≤ 2 * yn1) (h6 : yn1 < b) : HalfInv b U un y yn1 yn0 (U / yn1) (U - U / yn1 * yn1) ∧ U / yn1 * yn1 ≤ U := by
 have hp : 0 < yn1 := by omega
 have hm : U / yn1 * yn1 ≤ U := Nat.div_mul_le_self _ _
 have hr : U - U / yn1 * yn1 = U % yn1 := by
  have := Nat.mod_add_div U yn1
  rw [Nat.mul_comm] at this
  omega
 refine ⟨⟨h1, h2, h3, h4, by omega, by rw [hr]; exact Nat.lt_trans (Nat.mod_lt _ hp) h6, ?_, ?_⟩, hm⟩
 ·apply Nat.le_of_lt_succ
  rw [Nat.div_lt_iff_lt_mul hp]
  have : (b + 1).succ * yn1 = yn1 * b + 2 * yn1 := by
   rw [Nat.succ_mul, Nat.add_mul, Nat.mul_comm b]; omega
  omega
 ·rw [Nat.le_div_iff_mul_le hp]
  have hy : 0 < y := by omega
  have hq : (U * b + un) / y * y ≤ U * b + un := Nat.div_mul_le_self _ _
  rcases Nat.lt_or_ge U ((U * b + un) / y * yn1) with h | h
  ·exfalso
   have e1 : (U * b + un) / y * y = (U * b + un) / y * yn1 * b + (U * b + un) / y * yn0 := by rw [← h1, Nat.mul_add, Nat.mul_assoc]
   have e2 : (U + 1) * b ≤ (U * b + un) / y * yn1 * b := Nat.mul_le_mul_right _ h
   rw [Nat.add_mul] at e2
   omega
  ·exact h

theorem half_mul {b U un y yn1 yn0 q rh : Nat} (h : HalfInv b U un y yn1 yn0 q rh) : q * y + (rh * b + un) = (U * b + un) + q * yn0 := by
 have e1 : q * y = q * yn1 * b + q * yn0 := by rw [← h.y_eq, Nat.mul_add, Nat.mul_assoc]
 have e2 : U * b = q * yn1 * b + rh * b := by rw [← h.eq, Nat.add_mul]
 omega

theorem half_below {b U un y yn1 yn0 q rh : Nat} (h : HalfInv b U un y yn1 yn0 q rh) (hc : b ≤ q ∨ b * rh + un < q * yn0) : (U * b + un) / y < q := by
 have hy : 0 < y := by have := h.U_lt; omega
 rw [Nat.div_lt_iff_lt_mul hy]
 rcases hc with hc | hc
 ·have e1 : (U + 1) * b ≤ y * b := Nat.mul_le_mul_right _ h.U_lt
  have e2 : b * y ≤ q * y := Nat.mul_le_mul_right _ hc
  have := h.un_lt
  rw [Nat.add_mul] at e1
  rw [Nat.mul_comm] at e2
  omega
 ·have := half_mul h
  rw [Nat.mul_comm b rh] at hc
  omega
theorem half_next {b U un y yn1 yn0 q rh : Nat} (h : HalfInv b U un y yn1 yn0 q rh) (hc : b ≤ q ∨ b * rh + un < q * yn0) (hr : rh + yn1 < b) : HalfInv b U un y yn1 yn0 (q - 1) (rh + yn1) := by
 have hb := half_below h hc
 refine ⟨h.y_eq, h.yn0_lt, h.U_lt, h.un_lt, ?_, hr, by have := h.q_le; omega, Nat.le_pred_of_lt hb⟩
 have := h.eq
 have hq0 : 0 < q := Nat.lt_of_le_of_lt (Nat.zero_le _) hb
 obtain ⟨k, rfl⟩ : ∃ k, q = k + 1 := ⟨q - 1, by omega⟩
 rw [Nat.add_sub_cancel]
 rw [Nat.add_mul] at this
 omega
theorem half_break {b U un y yn1 yn0 q rh : Nat} (h : HalfInv b U un y yn1 yn0 q rh) (hc : b ≤ q ∨ b * rh + un < q * yn0) (hr : b ≤ rh + yn1) : q - 1 = (U * b + un) / y := by
 have hb := half_below h hc
 have hy : 0 < y := by have := h.U_lt; omega
 refine Nat.le_antisymm ?_ (Nat.le_pred_of_lt hb)
 rw [Nat.le_div_iff_mul_le hy]
 have hq0 : 0 < q := Nat.lt_of_le_of_lt (Nat.zero_le _) hb
 obtain ⟨k, rfl⟩ : ∃ k, q = k + 1 := ⟨q - 1, by omega⟩
 rw [Nat.add_sub_cancel]
 have h0 := h.eq
 rw [Nat.add_mul] at h0
 have e1 : k * y = k * yn1 * b + k * yn0 := by rw [← h.y_eq, Nat.mul_add, Nat.mul_assoc]
 have e2 : U * b = k * yn1 * b + (rh + yn1) * b := by rw [← Nat.add_mul]; congr 1; omega
 have e3 : k * yn0 ≤ b * b := Nat.mul_le_mul (by have := h.q_le; omega) (Nat.le_of_lt h.yn0_lt)
 have e4 : b * b ≤ (rh + yn1) * b := Nat.mul_le_mul_right _ hr
 omega
theorem half_exit {b U un y yn1 yn0 q rh : Nat} (h : HalfInv b U un y yn1 yn0 q rh) (hc : q * yn0 ≤ b * rh + un) : q = (U * b + un) / y := by
 have hy : 0 < y := by have := h.U_lt; omega
 apply Nat.le_antisymm _ h.up
 rw [Nat.le_div_iff_mul_le hy]
 have := half_mul h
 rw [Nat.mul_comm b rh] at hc
 omega
theorem half_all {b hi un1 un0 y : Nat} : ((hi * b + un1) / y * b + ((hi * b + un1) % y * b + un0) / y) * y + ((hi * b + un1) % y * b + un0) % y = hi * (b * b) + (un1 * b + un0) := by
 have h1 := Nat.mod_add_div (hi * b + un1) y
 have h2 := Nat.mod_add_div ((hi * b + un1) % y * b + un0) y
 have e1 : (hi * b + un1) * b = hi * (b * b) + un1 * b := by rw [Nat.add_mul, Nat.mul_assoc]
 have e2 : ((hi * b + un1) % y + y * ((hi * b + un1) / y)) * b = (hi * b + un1) % y * b + (hi * b + un1) / y * b * y := by
  rw [Nat.add_mul]; congr 1; ac_rfl
 rw [h1, e1] at e2
 rw [Nat.add_mul, Nat.mul_comm _ y, Nat.mul_comm (((hi * b + un1) % y * b + un0) / y) y, Nat.mul_comm y ((hi * b + un1) / y * b)]
 omega
end Go.Proofs.YteagjlcmgiknmaaGreatDoor
namespace Go.Proofs.YteagjlcmgiknmaaGreatDoor
section
variable {B : Nat}

theorem val_set {l : List Nat} {i : Nat} (hi : i < l.length) (y : Nat) : val B (l.set i y) + B ^ i * l.getD i 0 = val B l + B ^ i * y := by
 induction l generalizing i with
 | nil => simp at hi
 | cons x l ih =>
  cases i with
  | zero => simp [val]; omega
  | succ i =>
   have h1 := ih (i := i) (by simpa using hi)
   rw [List.set_cons_succ, val_cons, val_cons, List.getD_cons_succ, Nat.pow_succ, Nat.mul_comm (B ^ i) B, Nat.mul_assoc, Nat.mul_assoc]
   have h2 : B * (val B (l.set i y) + B ^ i * l.getD i 0) = B * (val B l + B ^ i * y) := by rw [h1]
   rw [Nat.mul_add, Nat.mul_add] at h2
   omega
theorem getD_set_self {l : List Nat} {i : Nat} (hi : i < l.length) (y : Nat) : (l.set i y).getD i 0 = y := by
 simp [List.getD_eq_getElem?_getD, hi]
theorem getD_set_other {l : List Nat} {i j : Nat} (h : i ≠ j) (y : Nat) : (l.set i y).getD j 0 = l.getD j 0 := by
 simp [List.getD_eq_getElem?_getD, List.getElem?_set_ne h]
theorem take_val' (l : List Nat) (i : Nat) : val B (l.take (i + 1)) = val B (l.take i) + B ^ i * l.getD i 0 := by
 by_cases h : i < l.length
 ·rw [List.take_succ_eq_append_getElem h, val_snoc, List.length_take, Nat.min_eq_left (by omega), List.getD_eq_getElem?_getD, List.getElem?_eq_getElem h, Option.getD_some]
 ·rw [List.take_of_length_le (by omega), List.take_of_length_le (by omega), List.getD_eq_getElem?_getD, List.getElem?_eq_none (by omega)]
  simp

/-- a digit that is shifted up by P: what stays, what goes over -/
theorem split_up {P Q x : Nat} (hB : P * Q = B) (hP : 0 < P) : x * P % B + B * (x / Q) = x * P := by
 have h1 : x * P / B = x / Q := by
  rw [← hB, Nat.mul_comm x P, Nat.mul_div_mul_left _ _ hP]
 rw [← h1]
 exact Nat.mod_add_div _ _
theorem part_lt {P Q x y : Nat} (hB : P * Q = B) (hQ : 0 < Q) (hy : y < P) : y + x * P % B < B := by
 have h1 : x * P % B = (x % Q) * P := by
  rw [← hB, Nat.mul_comm x P, Nat.mul_mod_mul_left, Nat.mul_comm]
 rw [h1]
 have h2 : x % Q < Q := Nat.mod_lt _ hQ
 have h3 : (x % Q) * P + P ≤ Q * P := by
  have : (x % Q + 1) * P ≤ Q * P := Nat.mul_le_mul_right _ h2
  rw [Nat.add_mul, Nat.one_mul] at this
  exact this
 rw [← hB, Nat.mul_comm P Q]
 omega
theorem over_lt {P Q x : Nat} (hB : P * Q = B) (hQ : 0 < Q) (hx : x < B) : x / Q < P := by
 rw [Nat.div_lt_iff_lt_mul hQ, hB]; exact hx

theorem spread_step {l cur : List Nat} {P Q wh i x y : Nat} (hB : P * Q = B) (hP : 0 < P) (hi : wh + i + 1 < cur.length) (hx : x = l.getD i 0) (hy : cur.getD (wh + i) 0 = y) (hz : cur.getD (wh + i + 1) 0 = 0)
  (hv : val B cur = val B (l.take i) * P * B ^ wh) : val B ((cur.set (wh + i) (y + x * P % B)).set (wh + i + 1) (x / Q)) = val B (l.take (i + 1)) * P * B ^ wh := by
 have h1 := val_set (B := B) (l := cur) (i := wh + i) (by omega) (y + x * P % B)
 have h2 := val_set (B := B) (l := cur.set (wh + i) (y + x * P % B)) (i := wh + i + 1) (by rw [List.length_set]; exact hi) (x / Q)
 rw [getD_set_other (by omega), hz, Nat.mul_zero, Nat.add_zero] at h2
 rw [hy, Nat.mul_add] at h1
 rw [h2, take_val', ← hx]
 have h3 : B ^ (wh + i) * (x * P) = B ^ (wh + i) * (x * P % B) + B ^ (wh + i + 1) * (x / Q) := by
  rw [← split_up hB hP, Nat.mul_add, split_up hB hP, Nat.pow_succ, Nat.mul_assoc]
 have h4 : (val B (l.take i) + B ^ i * x) * P * B ^ wh = val B (l.take i) * P * B ^ wh + B ^ (wh + i) * (x * P) := by
  rw [Nat.add_mul, Nat.add_mul, Nat.pow_add]
  congr 1
  ac_rfl
 rw [h4, h3]
 omega

theorem lower_first {l cur : List Nat} {P x : Nat} (hi : 0 < cur.length) (hx : x = l.getD 0 0) (hz : cur.getD 0 0 = 0) (hv : val B cur = 0) : val B (cur.set 0 (x / P)) = val B (l.take (0 + 1)) / P := by
 have h1 := val_set (B := B) (l := cur) (i := 0) hi (x / P)
 rw [hz, hv] at h1
 rw [take_val', ← hx]
 simp [val] at h1 ⊢
 exact h1

theorem lower_step {l cur : List Nat} {P Q i x y : Nat} (hB : P * Q = B) (hP : 0 < P) (hQ : 0 < Q) (hi : i + 1 < cur.length) (hx : x = l.getD (i + 1) 0) (hy : cur.getD i 0 = y) (hz : cur.getD (i + 1) 0 = 0)
  (hv : val B cur = val B (l.take (i + 1)) / P) : val B ((cur.set (i + 1) (x / P)).set i (y + x * Q % B)) = val B (l.take (i + 1 + 1)) / P := by
 have h1 := val_set (B := B) (l := cur) (i := i + 1) hi (x / P)
 have h2 := val_set (B := B) (l := cur.set (i + 1) (x / P)) (i := i) (by rw [List.length_set]; omega) (y + x * Q % B)
 rw [getD_set_other (by omega), hy, Nat.mul_add] at h2
 rw [hz, Nat.mul_zero, Nat.add_zero] at h1
 rw [take_val' l (i + 1), ← hx]
 have hB' : Q * P = B := by rw [Nat.mul_comm]; exact hB
 have h3 : B ^ i * (x * Q) = B ^ i * (x * Q % B) + B ^ (i + 1) * (x / P) := by
  rw [← split_up hB' hQ, Nat.mul_add, split_up hB' hQ, Nat.pow_succ, Nat.mul_assoc]
 have h4 : B ^ (i + 1) * x = P * (B ^ i * (x * Q)) := by
  have e : B ^ i * B * x = B ^ i * (P * Q) * x := by rw [hB]
  rw [Nat.pow_succ, e]
  ac_rfl
 rw [h4, Nat.add_mul_div_left _ _ hP, ← hv, h3]
 omega
end

theorem pow_shift (s : Nat) : 2 ^ (s % 64) * W ^ (s / 64) = 2 ^ s := by
 rw [W_pow, ← Nat.pow_mul, ← Nat.pow_add]
 congr 1
 omega
theorem two_pow_split {p : Nat} (hp : p ≤ 64) : 2 ^ p * 2 ^ (64 - p) = W := by
 rw [← Nat.pow_add, W_pow]
 congr 1
 omega

theorem or_shl {x y p : Nat} (hy : y < 2 ^ p) (hp : p ≤ 64) : bits .or .u64 (y : Int) (IntKind.u64.wrap ((x : Int) * 2 ^ p)) = ((y + x * 2 ^ p % 18446744073709551616 : Nat) : Int) := by
 have e1 : IntKind.u64.wrap ((x : Int) * 2 ^ p) = ((x * 2 ^ p % 18446744073709551616 : Nat) : Int) := by
  rw [IntKind.wrap_u64, Int.natCast_emod, Int.natCast_mul, Int.natCast_pow]
  rfl
 have hW : (18446744073709551616 : Nat) = 2 ^ p * 2 ^ (64 - p) := by rw [two_pow_split hp, W_eq]
 have hy2 : y < 18446744073709551616 := Nat.lt_of_lt_of_le hy (by rw [hW]; exact Nat.le_mul_of_pos_right _ (Nat.pow_pos (by omega)))
 rw [e1, bits_or_u64_nat y _ hy2 (Nat.mod_lt _ (by omega))]
 congr 1
 have e2 : x * 2 ^ p % 18446744073709551616 = 2 ^ p * (x % 2 ^ (64 - p)) := by
  rw [hW, Nat.mul_comm x, Nat.mul_mod_mul_left]
 rw [e2, Nat.or_comm, ← Nat.two_pow_add_eq_or_of_lt hy, Nat.add_comm]
theorem or_zero_shr {x p : Nat} (hx : x < 18446744073709551616) : bits .or .u64 ((0 : Nat) : Int) ((x : Int) / 2 ^ p) = ((x / 2 ^ p : Nat) : Int) := by
 have e1 : (x : Int) / 2 ^ p = ((x / 2 ^ p : Nat) : Int) := by rw [Int.natCast_ediv, Int.natCast_pow]; rfl
 have h2 : x / 2 ^ p < 18446744073709551616 := Nat.lt_of_le_of_lt (Nat.div_le_self _ _) hx
 rw [e1, bits_or_u64_nat 0 _ (by omega) h2, Nat.zero_or]
theorem shr_cast (x p : Nat) : (x : Int) / 2 ^ p = ((x / 2 ^ p : Nat) : Int) := by rw [Int.natCast_ediv, Int.natCast_pow]; rfl
end Go.Proofs.YteagjlcmgiknmaaGreatDoor

namespace Go.Proofs.YteagjlcmgiknmaaGreatDoor

/-- what holds of a guess d and its rest r, by the three highest digits of the one and the two of the other -/
structure GInv (B top next w2 w1 w0 d r : Nat) : Prop where
 eq : d * top + r = w2 * B + w1
 le : d ≤ B - 1
 up : (w0 + B * (w1 + B * w2)) / (next + B * top) ≤ d ∨ B - 1 ≤ d

theorem ginv_mul {B top next w2 w1 w0 d r : Nat} (h : GInv B top next w2 w1 w0 d r) : d * (next + B * top) + (r * B + w0) = (w0 + B * (w1 + B * w2)) + d * next := by
 have e1 : d * (next + B * top) = d * next + d * top * B := by rw [Nat.mul_add, Nat.mul_comm B top, Nat.mul_assoc]
 have e2 : (d * top + r) * B = (w2 * B + w1) * B := by rw [h.eq]
 rw [Nat.add_mul, Nat.add_mul] at e2
 have e3 : B * (w1 + B * w2) = w2 * B * B + w1 * B := by
  rw [Nat.mul_add, Nat.add_comm]
  congr 1
  ·rw [Nat.mul_comm w2 B]; ac_rfl
  ·exact Nat.mul_comm _ _
 omega

theorem ginv_start {B top next w2 w1 w0 d r : Nat} (hB : 2 ≤ B) (h : d * top + r = w2 * B + w1) (hr : r < top) (hw : w2 < top) (hw1 : w1 < B) (hw0 : w0 < B) : GInv B top next w2 w1 w0 d r := by
 have hp : 0 < top := by omega
 have hT : 0 < next + B * top := Nat.lt_of_lt_of_le (Nat.mul_pos (by omega) hp) (Nat.le_add_left _ _)
 have hd : d ≤ B - 1 := by
  have h1 : (w2 + 1) * B ≤ top * B := Nat.mul_le_mul_right _ hw
  rw [Nat.add_mul] at h1
  have h2 : d * top < B * top := by rw [Nat.mul_comm B]; omega
  have := Nat.lt_of_mul_lt_mul_right h2
  omega
 refine ⟨h, hd, .inl ?_⟩
 apply Nat.le_of_lt_succ
 rw [Nat.div_lt_iff_lt_mul hT]
 have h3 : (d + 1) * top = d * top + top := by rw [Nat.add_mul, Nat.one_mul]
 have h4 : w2 * B + w1 + 1 ≤ (d + 1) * top := by omega
 have h5 : (w2 * B + w1 + 1) * B ≤ (d + 1) * top * B := Nat.mul_le_mul_right _ h4
 have e3 : B * (w1 + B * w2) = (w2 * B + w1) * B := by rw [Nat.mul_comm, Nat.add_comm, Nat.mul_comm B w2]
 have e4 : d.succ * (next + B * top) = (d + 1) * next + (d + 1) * top * B := by rw [Nat.succ_eq_add_one, Nat.mul_add, Nat.mul_comm B top, Nat.mul_assoc]
 rw [Nat.add_mul, Nat.one_mul] at h5
 omega
theorem ginv_start_top {B top next w1 w0 : Nat} (hB : 2 ≤ B) : GInv B top next top w1 w0 (B - 1) (w1 + top) := by
 refine ⟨?_, Nat.le_refl _, .inr (Nat.le_refl _)⟩
 have : (B - 1) * top + top = B * top := by rw [← Nat.succ_mul]; congr 1; omega
 rw [Nat.mul_comm top B]
 omega
theorem ginv_next {B top next w2 w1 w0 d r : Nat} (hT : 0 < next + B * top) (h : GInv B top next w2 w1 w0 d r) (hc : r * B + w0 < d * next) : GInv B top next w2 w1 w0 (d - 1) (r + top) ∧ 0 < d := by
 have hd : 0 < d := by
  rcases Nat.eq_zero_or_pos d with h0 | h0
  ·rw [h0, Nat.zero_mul] at hc; omega
  ·exact h0
 have hm := ginv_mul h
 have hlt : (w0 + B * (w1 + B * w2)) / (next + B * top) < d := by
  rw [Nat.div_lt_iff_lt_mul hT]; omega
 refine ⟨⟨?_, by have := h.le; omega, .inl (Nat.le_pred_of_lt hlt)⟩, hd⟩
 have h0 := h.eq
 obtain ⟨k, rfl⟩ : ∃ k, d = k + 1 := ⟨d - 1, by omega⟩
 rw [Nat.add_sub_cancel]
 rw [Nat.add_mul] at h0
 omega
/-- the guess's end: by how much it may be wrong -/
theorem ginv_done {B top next w2 w1 w0 d r a c K V U : Nat} (hB : 2 ≤ B) (htop : 0 < top) (h : GInv B top next w2 w1 w0 d r) (hc : d * next ≤ r * B + w0) (ha : a < K) (hcK : c < K) (hV : V = c + K * (next + B * top)) (hU : U = a + K * (w0 + B * (w1 + B * w2))) (hq : U < B * V) :
  U / V ≤ d ∧ d ≤ U / V + 1 := by
 have hm := ginv_mul h
 have hTB : B ≤ next + B * top := by
  have : B * 1 ≤ B * top := Nat.mul_le_mul_left _ htop
  omega
 have hVp : 0 < V := by
  rw [hV]
  have : K * 1 ≤ K * (next + B * top) := Nat.mul_le_mul_left _ (by omega)
  omega
 have hqB : U / V ≤ B - 1 := by
  have : U / V < B := by rw [Nat.div_lt_iff_lt_mul hVp]; exact hq
  omega
 constructor
 ·rcases h.up with hup | hup
  ·refine Nat.le_trans ?_ hup
   rw [Nat.le_div_iff_mul_le (by omega)]
   have h1 : U / V * V ≤ U := Nat.div_mul_le_self _ _
   rcases Nat.lt_or_ge (w0 + B * (w1 + B * w2)) (U / V * (next + B * top)) with h2 | h2
   ·exfalso
    have h3 : K * (w0 + B * (w1 + B * w2) + 1) ≤ K * (U / V * (next + B * top)) := Nat.mul_le_mul_left _ h2
    have h4 : ∀ q : Nat, q * V = q * c + K * (q * (next + B * top)) := fun q => by
     rw [hV, Nat.mul_add]; congr 1; ac_rfl
    have h5 := h4 (U / V)
    have h6 : a < K := ha
    rw [Nat.mul_add, Nat.mul_one] at h3
    omega
   ·exact h2
  ·omega
 ·have hdT : d * (next + B * top) ≤ w0 + B * (w1 + B * w2) := by omega
  apply Nat.le_succ_of_pred_le
  rw [Nat.le_div_iff_mul_le hVp]
  rcases Nat.eq_zero_or_pos d with h0 | h0
  ·rw [h0]; simp
  ·obtain ⟨k, rfl⟩ : ∃ k, d = k + 1 := ⟨d - 1, by omega⟩
   show k * V ≤ U
   have h1 : K * ((k + 1) * (next + B * top)) ≤ K * (w0 + B * (w1 + B * w2)) := Nat.mul_le_mul_left _ hdT
   have h2 : k * V = k * c + K * (k * (next + B * top)) := by
    rw [hV, Nat.mul_add]; congr 1; ac_rfl
   have h3 : K * ((k + 1) * (next + B * top)) = K * (k * (next + B * top)) + K * (next + B * top) := by rw [Nat.add_mul, Nat.one_mul, Nat.mul_add]
   have h4 : K * B ≤ K * (next + B * top) := Nat.mul_le_mul_left _ hTB
   have h5 : k * c ≤ k * K := Nat.mul_le_mul_left _ (Nat.le_of_lt hcK)
   have h6 : k * K ≤ B * K := Nat.mul_le_mul_right _ (by have := h.le; omega)
   rw [Nat.mul_comm B K] at h6
   omega
end Go.Proofs.YteagjlcmgiknmaaGreatDoor
