/-
  Plain arithmetic of a long division's half step. No condition; nothing of the program is named here.
-/
import Derived.Test.YtkpcmgfpmekkjaaDoorQMem
import Derived.Laws.Bits64b
namespace Go.Proofs.YtkpcmgfpmekkjaaDoor
section
variable {B : Nat}

theorem carry_zero {n v ca s : Nat} (h : v + B ^ n * ca = s) (hs : s < B ^ n) : ca = 0 := by
  rcases Nat.eq_zero_or_pos ca with h0 | h0
  · exact h0
  · have : B ^ n * 1 ≤ B ^ n * ca := Nat.mul_le_mul_left _ h0
    omega

theorem sum_of (hB : 2 ≤ B) {l r : List Nat} {n m : Nat} {L xs' : List Nat} {ca : Nat} (hl : l.length = n) (hr : r.length = m) (hmn : m ≤ n) (hlt : Lt B l) (hrt : Lt B r) (hL : L = l ++ (List.replicate (n + 1) 0).drop n)
    (he : val B xs' + B ^ L.length * ca = val B L + 1 * val B r) : val B xs' = val B l + val B r := by
  have e1 : L = l ++ [0] := by rw [hL]; simp
  have e2 : L.length = n + 1 := by rw [e1]; simp [hl]
  have v1 : val B L = val B l := by rw [e1, val_snoc]; simp
  rw [v1, Nat.one_mul, e2] at he
  have h1 := val_lt hlt
  have h2 := val_lt hrt
  rw [hl] at h1
  rw [hr] at h2
  have h3 : B ^ m ≤ B ^ n := Nat.pow_le_pow_right (by omega) hmn
  have h4 : B ^ (n + 1) = B ^ n * B := Nat.pow_succ ..
  have h5 : B ^ n * 2 ≤ B ^ n * B := Nat.mul_le_mul_left _ hB
  have := carry_zero he (by omega)
  subst this
  omega

end
end Go.Proofs.YtkpcmgfpmekkjaaDoor

namespace Go.Proofs.YtkpcmgfpmekkjaaDoor

end Go.Proofs.YtkpcmgfpmekkjaaDoor
namespace Go.Proofs.YtkpcmgfpmekkjaaDoor
section
variable {B : Nat}

theorem val_set {l : List Nat} {i : Nat} (hi : i < l.length) (y : Nat) : val B (l.set i y) + B ^ i * l.getD i 0 = val B l + B ^ i * y := by
  induction l generalizing i with
  | nil => simp at hi
  | cons x l ih =>
    cases i with
    | zero => simp [val]; omega
    | succ i =>
      have h1 := ih (i := i) (by simpa using hi)
      rw [List.set_cons_succ, val_cons, val_cons, List.getD_cons_succ, Nat.pow_succ, Nat.mul_comm (B ^ i) B, Nat.mul_assoc, Nat.mul_assoc]
      have h2 : B * (val B (l.set i y) + B ^ i * l.getD i 0) = B * (val B l + B ^ i * y) := by rw [h1]
      rw [Nat.mul_add, Nat.mul_add] at h2
      omega
theorem getD_set_self {l : List Nat} {i : Nat} (hi : i < l.length) (y : Nat) : (l.set i y).getD i 0 = y := by
  simp [List.getD_eq_getElem?_getD, hi]
theorem getD_set_other {l : List Nat} {i j : Nat} (h : i ≠ j) (y : Nat) : (l.set i y).getD j 0 = l.getD j 0 := by
  simp [List.getD_eq_getElem?_getD, List.getElem?_set_ne h]
theorem take_val' (l : List Nat) (i : Nat) : val B (l.take (i + 1)) = val B (l.take i) + B ^ i * l.getD i 0 := by
  by_cases h : i < l.length
  · rw [List.take_succ_eq_append_getElem h, val_snoc, List.length_take, Nat.min_eq_left (by omega), List.getD_eq_getElem?_getD, List.getElem?_eq_getElem h, Option.getD_some]
  · rw [List.take_of_length_le (by omega), List.take_of_length_le (by omega), List.getD_eq_getElem?_getD, List.getElem?_eq_none (by omega)]
    simp

/-- a digit that is shifted up by P: what stays, what goes over -/
theorem split_up {P Q x : Nat} (hB : P * Q = B) (hP : 0 < P) : x * P % B + B * (x / Q) = x * P := by
  have h1 : x * P / B = x / Q := by
    rw [← hB, Nat.mul_comm x P, Nat.mul_div_mul_left _ _ hP]
  rw [← h1]
  exact Nat.mod_add_div _ _
theorem part_lt {P Q x y : Nat} (hB : P * Q = B) (hQ : 0 < Q) (hy : y < P) : y + x * P % B < B := by
  have h1 : x * P % B = (x % Q) * P := by
    rw [← hB, Nat.mul_comm x P, Nat.mul_mod_mul_left, Nat.mul_comm]
  rw [h1]
  have h2 : x % Q < Q := Nat.mod_lt _ hQ
  have h3 : (x % Q) * P + P ≤ Q * P := by
    have : (x % Q + 1) * P ≤ Q * P := Nat.mul_le_mul_right _ h2
    rw [Nat.add_mul, Nat.one_mul] at this
    exact this
  rw [← hB, Nat.mul_comm P Q]
  omega
theorem over_lt {P Q x : Nat} (hB : P * Q = B) (hQ : 0 < Q) (hx : x < B) : x / Q < P := by
  rw [Nat.div_lt_iff_lt_mul hQ, hB]; exact hx

theorem spread_step {l cur : List Nat} {P Q wh i x y : Nat} (hB : P * Q = B) (hP : 0 < P) (hi : wh + i + 1 < cur.length) (hx : x = l.getD i 0) (hy : cur.getD (wh + i) 0 = y) (hz : cur.getD (wh + i + 1) 0 = 0)
    (hv : val B cur = val B (l.take i) * P * B ^ wh) : val B ((cur.set (wh + i) (y + x * P % B)).set (wh + i + 1) (x / Q)) = val B (l.take (i + 1)) * P * B ^ wh := by
  have h1 := val_set (B := B) (l := cur) (i := wh + i) (by omega) (y + x * P % B)
  have h2 := val_set (B := B) (l := cur.set (wh + i) (y + x * P % B)) (i := wh + i + 1) (by rw [List.length_set]; exact hi) (x / Q)
  rw [getD_set_other (by omega), hz, Nat.mul_zero, Nat.add_zero] at h2
  rw [hy, Nat.mul_add] at h1
  rw [h2, take_val', ← hx]
  have h3 : B ^ (wh + i) * (x * P) = B ^ (wh + i) * (x * P % B) + B ^ (wh + i + 1) * (x / Q) := by
    rw [← split_up hB hP, Nat.mul_add, split_up hB hP, Nat.pow_succ, Nat.mul_assoc]
  have h4 : (val B (l.take i) + B ^ i * x) * P * B ^ wh = val B (l.take i) * P * B ^ wh + B ^ (wh + i) * (x * P) := by
    rw [Nat.add_mul, Nat.add_mul, Nat.pow_add]
    congr 1
    ac_rfl
  rw [h4, h3]
  omega

theorem lower_first {l cur : List Nat} {P x : Nat} (hi : 0 < cur.length) (hx : x = l.getD 0 0) (hz : cur.getD 0 0 = 0) (hv : val B cur = 0) : val B (cur.set 0 (x / P)) = val B (l.take (0 + 1)) / P := by
  have h1 := val_set (B := B) (l := cur) (i := 0) hi (x / P)
  rw [hz, hv] at h1
  rw [take_val', ← hx]
  simp [val] at h1 ⊢
  exact h1

theorem lower_step {l cur : List Nat} {P Q i x y : Nat} (hB : P * Q = B) (hP : 0 < P) (hQ : 0 < Q) (hi : i + 1 < cur.length) (hx : x = l.getD (i + 1) 0) (hy : cur.getD i 0 = y) (hz : cur.getD (i + 1) 0 = 0)
    (hv : val B cur = val B (l.take (i + 1)) / P) : val B ((cur.set (i + 1) (x / P)).set i (y + x * Q % B)) = val B (l.take (i + 1 + 1)) / P := by
  have h1 := val_set (B := B) (l := cur) (i := i + 1) hi (x / P)
  have h2 := val_set (B := B) (l := cur.set (i + 1) (x / P)) (i := i) (by rw [List.length_set]; omega) (y + x * Q % B)
  rw [getD_set_other (by omega), hy, Nat.mul_add] at h2
  rw [hz, Nat.mul_zero, Nat.add_zero] at h1
  rw [take_val' l (i + 1), ← hx]
  have hB' : Q * P = B := by rw [Nat.mul_comm]; exact hB
  have h3 : B ^ i * (x * Q) = B ^ i * (x * Q % B) + B ^ (i + 1) * (x / P) := by
    rw [← split_up hB' hQ, Nat.mul_add, split_up hB' hQ, Nat.pow_succ, Nat.mul_assoc]
  have h4 : B ^ (i + 1) * x = P * (B ^ i * (x * Q)) := by
    have e : B ^ i * B * x = B ^ i * (P * Q) * x := by rw [hB]
    rw [Nat.pow_succ, e]
    ac_rfl
  rw [h4, Nat.add_mul_div_left _ _ hP, ← hv, h3]
  omega
end

theorem pow_shift (s : Nat) : 2 ^ (s % 64) * W ^ (s / 64) = 2 ^ s := by
  rw [W_pow, ← Nat.pow_mul, ← Nat.pow_add]
  congr 1
  omega
theorem two_pow_split {p : Nat} (hp : p ≤ 64) : 2 ^ p * 2 ^ (64 - p) = W := by
  rw [← Nat.pow_add, W_pow]
  congr 1
  omega

theorem or_shl {x y p : Nat} (hy : y < 2 ^ p) (hp : p ≤ 64) : bits .or .u64 (y : Int) (IntKind.u64.wrap ((x : Int) * 2 ^ p)) = ((y + x * 2 ^ p % 18446744073709551616 : Nat) : Int) := by
  have e1 : IntKind.u64.wrap ((x : Int) * 2 ^ p) = ((x * 2 ^ p % 18446744073709551616 : Nat) : Int) := by
    rw [IntKind.wrap_u64, Int.natCast_emod, Int.natCast_mul, Int.natCast_pow]
    rfl
  have hW : (18446744073709551616 : Nat) = 2 ^ p * 2 ^ (64 - p) := by rw [two_pow_split hp, W_eq]
  have hy2 : y < 18446744073709551616 := Nat.lt_of_lt_of_le hy (by rw [hW]; exact Nat.le_mul_of_pos_right _ (Nat.pow_pos (by omega)))
  rw [e1, bits_or_u64_nat y _ hy2 (Nat.mod_lt _ (by omega))]
  congr 1
  have e2 : x * 2 ^ p % 18446744073709551616 = 2 ^ p * (x % 2 ^ (64 - p)) := by
    rw [hW, Nat.mul_comm x, Nat.mul_mod_mul_left]
  rw [e2, Nat.or_comm, ← Nat.two_pow_add_eq_or_of_lt hy, Nat.add_comm]
theorem or_zero_shr {x p : Nat} (hx : x < 18446744073709551616) : bits .or .u64 ((0 : Nat) : Int) ((x : Int) / 2 ^ p) = ((x / 2 ^ p : Nat) : Int) := by
  have e1 : (x : Int) / 2 ^ p = ((x / 2 ^ p : Nat) : Int) := by rw [Int.natCast_ediv, Int.natCast_pow]; rfl
  have h2 : x / 2 ^ p < 18446744073709551616 := Nat.lt_of_le_of_lt (Nat.div_le_self _ _) hx
  rw [e1, bits_or_u64_nat 0 _ (by omega) h2, Nat.zero_or]
theorem shr_cast (x p : Nat) : (x : Int) / 2 ^ p = ((x / 2 ^ p : Nat) : Int) := by rw [Int.natCast_ediv, Int.natCast_pow]; rfl
end Go.Proofs.YtkpcmgfpmekkjaaDoor

namespace Go.Proofs.YtkpcmgfpmekkjaaDoor

end Go.Proofs.YtkpcmgfpmekkjaaDoor
