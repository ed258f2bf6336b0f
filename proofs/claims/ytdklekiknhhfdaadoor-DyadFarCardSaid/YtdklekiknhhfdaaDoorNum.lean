/-
  Plain arithmetic of digits, to any base: sums, products. No condition; nothing of the program is named here.
-/
import Derived.Test.YtdklekiknhhfdaaDoorDig
namespace Go.Proofs.YtdklekiknhhfdaaDoor
section
variable {B : Nat}

theorem carry_zero {n v ca s : Nat} (h : v + B ^ n * ca = s) (hs : s < B ^ n) : ca = 0 := by
  rcases Nat.eq_zero_or_pos ca with h0 | h0
  · exact h0
  · have : B ^ n * 1 ≤ B ^ n * ca := Nat.mul_le_mul_left _ h0
    omega

theorem sum_of (hB : 2 ≤ B) {l r : List Nat} {n m : Nat} {L xs' : List Nat} {ca : Nat} (hl : l.length = n) (hr : r.length = m) (hmn : m ≤ n) (hlt : Lt B l) (hrt : Lt B r) (hL : L = l ++ (List.replicate (n + 1) 0).drop n)
    (he : val B xs' + B ^ L.length * ca = val B L + 1 * val B r) : val B xs' = val B l + val B r := by
  have e1 : L = l ++ [0] := by rw [hL]; simp
  have e2 : L.length = n + 1 := by rw [e1]; simp [hl]
  have v1 : val B L = val B l := by rw [e1, val_snoc]; simp
  rw [v1, Nat.one_mul, e2] at he
  have h1 := val_lt hlt
  have h2 := val_lt hrt
  rw [hl] at h1
  rw [hr] at h2
  have h3 : B ^ m ≤ B ^ n := Nat.pow_le_pow_right (by omega) hmn
  have h4 : B ^ (n + 1) = B ^ n * B := Nat.pow_succ ..
  have h5 : B ^ n * 2 ≤ B ^ n * B := Nat.mul_le_mul_left _ hB
  have := carry_zero he (by omega)
  subst this
  omega

/-- one row of a product -/
theorem prod_step (hB : 2 ≤ B) {l r cur xs' : List Nat} {n m i ca : Nat} (hl : l.length = n) (hr : r.length = m) (hi : i < n) (hlt : Lt B l) (hrt : Lt B r) (hc : cur.length = n + m)
    (hv : val B cur = val B (l.take i) * val B r) (he : val B xs' + B ^ (cur.drop i).length * ca = val B (cur.drop i) + l.getD i 0 * val B r) :
    val B (cur.take i ++ xs') = val B (l.take (i + 1)) * val B r := by
  have hti : (cur.take i).length = i := by rw [List.length_take]; omega
  have hsplit := val_take_drop (B := B) cur i
  rw [hti] at hsplit
  have hr1 := val_lt hrt
  rw [hr] at hr1
  have hl1 := val_lt (hlt.take i)
  rw [List.length_take, Nat.min_eq_left (by omega)] at hl1
  have hx : l.getD i 0 < B := hlt.getD (by omega) i
  have hti1 : val B (l.take (i + 1)) = val B (l.take i) + B ^ i * l.getD i 0 := by
    rw [List.take_succ_eq_append_getElem (by omega), val_snoc, List.length_take, Nat.min_eq_left (by omega), List.getD_eq_getElem?_getD, List.getElem?_eq_getElem (by omega), Option.getD_some]
  -- the upper part is below B ^ m
  have hup : val B (cur.drop i) < B ^ m := by
    rcases Nat.lt_or_ge (val B (cur.drop i)) (B ^ m) with h | h
    · exact h
    · exfalso
      have h1 : B ^ i * B ^ m ≤ B ^ i * val B (cur.drop i) := Nat.mul_le_mul_left _ h
      have h2 : val B (l.take i) * val B r < B ^ i * B ^ m := Nat.mul_lt_mul_of_lt_of_le hl1 (Nat.le_of_lt hr1) (Nat.pow_pos (by omega))
      omega
  have hsum : val B (cur.drop i) + l.getD i 0 * val B r < B ^ (cur.drop i).length := by
    have hlen : (cur.drop i).length = n + m - i := by rw [List.length_drop]; omega
    rw [hlen]
    have h1 : B ^ (m + 1) ≤ B ^ (n + m - i) := Nat.pow_le_pow_right (by omega) (by omega)
    have h2 : B ^ (m + 1) = B ^ m * B := Nat.pow_succ ..
    have h3 : l.getD i 0 * val B r ≤ (B - 1) * val B r := Nat.mul_le_mul_right _ (by omega)
    have h4 : (B - 1) * val B r ≤ (B - 1) * (B ^ m - 1) := Nat.mul_le_mul_left _ (by omega)
    have h5 : (B - 1) * (B ^ m - 1) + (B ^ m - 1) = B * (B ^ m - 1) := by
      rw [← Nat.succ_mul]; congr 1; omega
    have h6 : B * (B ^ m - 1) + B = B ^ m * B := by
      rw [Nat.mul_sub, Nat.mul_one, Nat.mul_comm B (B ^ m)]
      have : B * 1 ≤ B ^ m * B := by rw [Nat.mul_comm]; exact Nat.mul_le_mul_right _ (Nat.pow_pos (by omega))
      omega
    omega
  have hca := carry_zero he hsum
  subst hca
  rw [val_append, hti, hti1, Nat.add_mul, ← hv, hsplit]
  have h7 : B ^ i * val B xs' = B ^ i * (val B (cur.drop i) + l.getD i 0 * val B r) := by rw [← he]; simp
  rw [h7, Nat.mul_add, Nat.mul_assoc, Nat.add_assoc]
end
end Go.Proofs.YtdklekiknhhfdaaDoor
