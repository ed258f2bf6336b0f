/-
 Plain arithmetic of a long division's guess. No condition; nothing of the program is named here.
-/
import Derived.Test.YtdhdebapjlcjdaaGreatDoorQHalf
import Derived.Laws.Bits64b
namespace Go.Proofs.YtdhdebapjlcjdaaGreatDoor
section
variable {B : Nat}

theorem val_set {l : List Nat} {i : Nat} (hi : i < l.length) (y : Nat) : val B (l.set i y) + B ^ i * l.getD i 0 = val B l + B ^ i * y := by
 induction l generalizing i with
 | nil => simp at hi
 | cons x l ih =>
  cases i with
  | zero => simp [val]; omega
  | succ i =>
   have h1 := ih (i := i) (by simpa using hi)
   rw [List.set_cons_succ, val_cons, val_cons, List.getD_cons_succ, Nat.pow_succ, Nat.mul_comm (B ^ i) B, Nat.mul_assoc, Nat.mul_assoc]
   have h2 : B * (val B (l.set i y) + B ^ i * l.getD i 0) = B * (val B l + B ^ i * y) := by rw [h1]
   rw [Nat.mul_add, Nat.mul_add] at h2
   omega
theorem getD_set_self {l : List Nat} {i : Nat} (hi : i < l.length) (y : Nat) : (l.set i y).getD i 0 = y := by
 simp [List.getD_eq_getElem?_getD, hi]
theorem getD_set_other {l : List Nat} {i j : Nat} (h : i ≠ j) (y : Nat) : (l.set i y).getD j 0 = l.getD j 0 := by
 simp [List.getD_eq_getElem?_getD, List.getElem?_set_ne h]
theorem take_val' (l : List Nat) (i : Nat) : val B (l.take (i + 1)) = val B (l.take i) + B ^ i * l.getD i 0 := by
 by_cases h : i < l.length
 ·rw [List.take_succ_eq_append_getElem h, val_snoc, List.length_take, Nat.min_eq_left (by omega), List.getD_eq_getElem?_getD, List.getElem?_eq_getElem h, Option.getD_some]
 ·rw [List.take_of_length_le (by omega), List.take_of_length_le (by omega), List.getD_eq_getElem?_getD, List.getElem?_eq_none (by omega)]
  simp

/-- a digit that is shifted up by P: what stays, what goes over -/
theorem split_up {P Q x : Nat} (hB : P * Q = B) (hP : 0 < P) : x * P % B + B * (x / Q) = x * P := by
 have h1 : x * P / B = x / Q := by
  rw [← hB, Nat.mul_comm x P, Nat.mul_div_mul_left _ _ hP]
 rw [← h1]
 exact Nat.mod_add_div _ _
theorem part_lt {P Q x y : Nat} (hB : P * Q = B) (hQ : 0 < Q) (hy : y < P) : y + x * P % B < B := by
 have h1 : x * P % B = (x % Q) * P := by
  rw [← hB, Nat.mul_comm x P, Nat.mul_mod_mul_left, Nat.mul_comm]
 rw [h1]
 have h2 : x % Q < Q := Nat.mod_lt _ hQ
 have h3 : (x % Q) * P + P ≤ Q * P := by
  have : (x % Q + 1) * P ≤ Q * P := Nat.mul_le_mul_right _ h2
  rw [Nat.add_mul, Nat.one_mul] at this
  exact this
 rw [← hB, Nat.mul_comm P Q]
 omega
theorem over_lt {P Q x : Nat} (hB : P * Q = B) (hQ : 0 < Q) (hx : x < B) : x / Q < P := by
 rw [Nat.div_lt_iff_lt_mul hQ, hB]; exact hx

theorem spread_step {l cur : List Nat} {P Q wh i x y : Nat} (hB : P * Q = B) (hP : 0 < P) (hi : wh + i + 1 < cur.length) (hx : x = l.getD i 0) (hy : cur.getD (wh + i) 0 = y) (hz : cur.getD (wh + i + 1) 0 = 0)
  (hv : val B cur = val B (l.take i) * P * B ^ wh) : val B ((cur.set (wh + i) (y + x * P % B)).set (wh + i + 1) (x / Q)) = val B (l.take (i + 1)) * P * B ^ wh := by
 have h1 := val_set (B := B) (l := cur) (i := wh + i) (by omega) (y + x * P % B)
 have h2 := val_set (B := B) (l := cur.set (wh + i) (y + x * P % B)) (i := wh + i + 1) (by rw [List.length_set]; exact hi) (x / Q)
 rw [getD_set_other (by omega), hz, Nat.mul_zero, Nat.add_zero] at h2
 rw [hy, Nat.mul_add] at h1
 rw [h2, take_val', ← hx]
 have h3 : B ^ (wh + i) * (x * P) = B ^ (wh + i) * (x * P % B) + B ^ (wh + i + 1) * (x / Q) := by
  rw [← split_up hB hP, Nat.mul_add, split_up hB hP, Nat.pow_succ, Nat.mul_assoc]
 have h4 : (val B (l.take i) + B ^ i * x) * P * B ^ wh = val B (l.take i) * P * B ^ wh + B ^ (wh + i) * (x * P) := by
  rw [Nat.add_mul, Nat.add_mul, Nat.pow_add]
  congr 1
  ac_rfl
 rw [h4, h3]
 omega

theorem lower_first {l cur : List Nat} {P x : Nat} (hi : 0 < cur.length) (hx : x = l.getD 0 0) (hz : cur.getD 0 0 = 0) (hv : val B cur = 0) : val B (cur.set 0 (x / P)) = val B (l.take (0 + 1)) / P := by
 have h1 := val_set (B := B) (l := cur) (i := 0) hi (x / P)
 rw [hz, hv] at h1
 rw [take_val', ← hx]
 simp [val] at h1 ⊢
 exact h1

theorem lower_step {l cur : List Nat} {P Q i x y : Nat} (hB : P * Q = B) (hP : 0 < P) (hQ : 0 < Q) (hi : i + 1 < cur.length) (hx : x = l.getD (i + 1) 0) (hy : cur.getD i 0 = y) (hz : cur.getD (i + 1) 0 = 0)
  (hv : val B cur = val B (l.take (i + 1)) / P) : val B ((cur.set (i + 1) (x / P)).set i (y + x * Q % B)) = val B (l.take (i + 1 + 1)) / P := by
 have h1 := val_set (B := B) (l := cur) (i := i + 1) hi (x / P)
 have h2 := val_set (B := B) (l := cur.set (i + 1) (x / P)) (i := i) (by rw [List.length_set]; omega) (y + x * Q % B)
 rw [getD_set_other (by omega), hy, Nat.mul_add] at h2
 rw [hz, Nat.mul_zero, Nat.add_zero] at h1
 rw [take_val' l (i + 1), ← hx]
 have hB' : Q * P = B := by rw [Nat.mul_comm]; exact hB
 have h3 : B ^ i * (x * Q) = B ^ i * (x * Q % B) + B ^ (i + 1) * (x / P) := by
  rw [← split_up hB' hQ, Nat.mul_add, split_up hB' hQ, Nat.pow_succ, Nat.mul_assoc]
 have h4 : B ^ (i + 1) * x = P * (B ^ i * (x * Q)) := by
  have e : B ^ i * B * x = B ^ i * (P * Q) * x := by rw [hB]
  rw [Nat.pow_succ, e]
  ac_rfl
 rw [h4, Nat.add_mul_div_left _ _ hP, ← hv, h3]
 omega
end

theorem pow_shift (s : Nat) : 2 ^ (s % 64) * W ^ (s / 64) = 2 ^ s := by
 rw [W_pow, ← Nat.pow_mul, ← Nat.pow_add]
 congr 1
 omega
theorem two_pow_split {p : Nat} (hp : p ≤ 64) : 2 ^ p * 2 ^ (64 - p) = W := by
 rw [← Nat.pow_add, W_pow]
 congr 1
 omega

theorem or_shl {x y p : Nat} (hy : y < 2 ^ p) (hp : p ≤ 64) : bits .or .u64 (y : Int) (IntKind.u64.wrap ((x : Int) * 2 ^ p)) = ((y + x * 2 ^ p % 18446744073709551616 : Nat) : Int) := by
 have e1 : IntKind.u64.wrap ((x : Int) * 2 ^ p) = ((x * 2 ^ p % 18446744073709551616 : Nat) : Int) := by
  rw [IntKind.wrap_u64, Int.natCast_emod, Int.natCast_mul, Int.natCast_pow]
  rfl
 have hW : (18446744073709551616 : Nat) = 2 ^ p * 2 ^ (64 - p) := by rw [two_pow_split hp, W_eq]
 have hy2 : y < 18446744073709551616 := Nat.lt_of_lt_of_le hy (by rw [hW]; exact Nat.le_mul_of_pos_right _ (Nat.pow_pos (by omega)))
 rw [e1, bits_or_u64_nat y _ hy2 (Nat.mod_lt _ (by omega))]
 congr 1
 have e2 : x * 2 ^ p % 18446744073709551616 = 2 ^ p * (x % 2 ^ (64 - p)) := by
  rw [hW, Nat.mul_comm x, Nat.mul_mod_mul_left]
 rw [e2, Nat.or_comm, ← Nat.two_pow_add_eq_or_of_lt hy, Nat.add_comm]
theorem or_zero_shr {x p : Nat} (hx : x < 18446744073709551616) : bits .or .u64 ((0 : Nat) : Int) ((x : Int) / 2 ^ p) = ((x / 2 ^ p : Nat) : Int) := by
 have e1 : (x : Int) / 2 ^ p = ((x / 2 ^ p : Nat) : Int) := by rw [Int.natCast_ediv, Int.natCast_pow]; rfl
 have h2 : x / 2 ^ p < 18446744073709551616 := Nat.lt_of_le_of_lt (Nat.div_le_self _ _) hx
 rw [e1, bits_or_u64_nat 0 _ (by omega) h2, Nat.zero_or]
theorem shr_cast (x p : Nat) : (x : Int) / 2 ^ p = ((x / 2 ^ p : Nat) : Int) := by rw [Int.natCast_ediv, Int.natCast_pow]; rfl
end Go.Proofs.YtdhdebapjlcjdaaGreatDoor

namespace Go.Proofs.YtdhdebapjlcjdaaGreatDoor

/-- what holds of a guess d and its rest r, by the three highest digits of the one and the two of the other -/
structure GInv (B top next w2 w1 w0 d r : Nat) : Prop where
 eq : d * top + r = w2 * B + w1
 le : d ≤ B - 1
 up : (w0 + B * (w1 + B * w2)) / (next + B * top) ≤ d ∨ B - 1 ≤ d

theorem ginv_mul {B top next w2 w1 w0 d r : Nat} (h : GInv B top next w2 w1 w0 d r) : d * (next + B * top) + (r * B + w0) = (w0 + B * (w1 + B * w2)) + d * next := by
 have e1 : d * (next + B * top) = d * next + d * top * B := by rw [Nat.mul_add, Nat.mul_comm B top, Nat.mul_assoc]
 have e2 : (d * top + r) * B = (w2 * B + w1) * B := by rw [h.eq]
 rw [Nat.add_mul, Nat.add_mul] at e2
 have e3 : B * (w1 + B * w2) = w2 * B * B + w1 * B := by
  rw [Nat.mul_add, Nat.add_comm]
  congr 1
  ·rw [Nat.mul_comm w2 B]; ac_rfl
  ·exact Nat.mul_comm _ _
 omega

theorem ginv_start {B top next w2 w1 w0 d r : Nat} (hB : 2 ≤ B) (h : d * top + r = w2 * B + w1) (hr : r < top) (hw : w2 < top) (hw1 : w1 < B) (hw0 : w0 < B) : GInv B top next w2 w1 w0 d r := by
 have hp : 0 < top := by omega
 have hT : 0 < next + B * top := Nat.lt_of_lt_of_le (Nat.mul_pos (by omega) hp) (Nat.le_add_left _ _)
 have hd : d ≤ B - 1 := by
  have h1 : (w2 + 1) * B ≤ top * B := Nat.mul_le_mul_right _ hw
  rw [Nat.add_mul] at h1
  have h2 : d * top < B * top := by rw [Nat.mul_comm B]; omega
  have := Nat.lt_of_mul_lt_mul_right h2
  omega
 refine ⟨h, hd, .inl ?_⟩
 apply Nat.le_of_lt_succ
 rw [Nat.div_lt_iff_lt_mul hT]
 have h3 : (d + 1) * top = d * top + top := by rw [Nat.add_mul, Nat.one_mul]
 have h4 : w2 * B + w1 + 1 ≤ (d + 1) * top := by omega
 have h5 : (w2 * B + w1 + 1) * B ≤ (d + 1) * top * B := Nat.mul_le_mul_right _ h4
 have e3 : B * (w1 + B * w2) = (w2 * B + w1) * B := by rw [Nat.mul_comm, Nat.add_comm, Nat.mul_comm B w2]
 have e4 : d.succ * (next + B * top) = (d + 1) * next + (d + 1) * top * B := by rw [Nat.succ_eq_add_one, Nat.mul_add, Nat.mul_comm B top, Nat.mul_assoc]
 rw [Nat.add_mul, Nat.one_mul] at h5
 omega
theorem ginv_start_top {B top next w1 w0 : Nat} (hB : 2 ≤ B) : GInv B top next top w1 w0 (B - 1) (w1 + top) := by
 refine ⟨?_, Nat.le_refl _, .inr (Nat.le_refl _)⟩
 have : (B - 1) * top + top = B * top := by rw [← Nat.succ_mul]; congr 1; omega
 rw [Nat.mul_comm top B]
 omega
theorem ginv_next {B top next w2 w1 w0 d r : Nat} (hT : 0 < next + B * top) (h : GInv B top next w2 w1 w0 d r) (hc : r * B + w0 < d * next) : GInv B top next w2 w1 w0 (d - 1) (r + top) ∧ 0 < d := by
 have hd : 0 < d := by
  rcases Nat.eq_zero_or_pos d with h0 | h0
  ·rw [h0, Nat.zero_mul] at hc; omega
  ·exact h0
 have hm := ginv_mul h
 have hlt : (w0 + B * (w1 + B * w2)) / (next + B * top) < d := by
  rw [Nat.div_lt_iff_lt_mul hT]; omega
 refine ⟨⟨?_, by have := h.le; omega, .inl (Nat.le_pred_of_lt hlt)⟩, hd⟩
 have h0 := h.eq
 obtain ⟨k, rfl⟩ : ∃ k, d = k + 1 := ⟨d - 1, by omega⟩
 rw [Nat.add_sub_cancel]
 rw [Nat.add_mul] at h0
 omega
/-- the guess's end: by how much it may be wrong -/
theorem ginv_done {B top next w2 w1 w0 d r a c K V U : Nat} (hB : 2 ≤ B) (htop : 0 < top) (h : GInv B top next w2 w1 w0 d r) (hc : d * next ≤ r * B + w0) (ha : a < K) (hcK : c < K) (hV : V = c + K * (next + B * top)) (hU : U = a + K * (w0 + B * (w1 + B * w2))) (hq : U < B * V) :
  U / V ≤ d ∧ d ≤ U / V + 1 := by
 have hm := ginv_mul h
 have hTB : B ≤ next + B * top := by
  have : B * 1 ≤ B * top := Nat.mul_le_mul_left _ htop
  omega
 have hVp : 0 < V := by
  rw [hV]
  have : K * 1 ≤ K * (next + B * top) := Nat.mul_le_mul_left _ (by omega)
  omega
 have hqB : U / V ≤ B - 1 := by
  have : U / V < B := by rw [Nat.div_lt_iff_lt_mul hVp]; exact hq
  omega
 constructor
 ·rcases h.up with hup | hup
  ·refine Nat.le_trans ?_ hup
   rw [Nat.le_div_iff_mul_le (by omega)]
   have h1 : U / V * V ≤ U := Nat.div_mul_le_self _ _
   rcases Nat.lt_or_ge (w0 + B * (w1 + B * w2)) (U / V * (next + B * top)) with h2 | h2
   ·exfalso
    have h3 : K * (w0 + B * (w1 + B * w2) + 1) ≤ K * (U / V * (next + B * top)) := Nat.mul_le_mul_left _ h2
    have h4 : ∀ q : Nat, q * V = q * c + K * (q * (next + B * top)) := fun q => by
     rw [hV, Nat.mul_add]; congr 1; ac_rfl
    have h5 := h4 (U / V)
    have h6 : a < K := ha
    rw [Nat.mul_add, Nat.mul_one] at h3
    omega
   ·exact h2
  ·omega
 ·have hdT : d * (next + B * top) ≤ w0 + B * (w1 + B * w2) := by omega
  apply Nat.le_succ_of_pred_le
  rw [Nat.le_div_iff_mul_le hVp]
  rcases Nat.eq_zero_or_pos d with h0 | h0
  ·rw [h0]; simp
  ·obtain ⟨k, rfl⟩ : ∃ k, d = k + 1 := ⟨d - 1, by omega⟩
   show k * V ≤ U
   have h1 : K * ((k + 1) * (next + B * top)) ≤ K * (w0 + B * (w1 + B * w2)) := Nat.mul_le_mul_left _ hdT
   have h2 : k * V = k * c + K * (k * (next + B * top)) := by
    rw [hV, Nat.mul_add]; congr 1; ac_rfl
   have h3 : K * ((k + 1) * (next + B * top)) = K * (k * (next + B * top)) + K * (next + B * top) := by rw [Nat.add_mul, Nat.one_mul, Nat.mul_add]
   have h4 : K * B ≤ K * (next + B * top) := Nat.mul_le_mul_left _ hTB
   have h5 : k * c ≤ k * K := Nat.mul_le_mul_left _ (Nat.le_of_lt hcK)
   have h6 : k * K ≤ B * K := Nat.mul_le_mul_right _ (by have := h.le; omega)
   rw [Nat.mul_comm B K] at h6
   omega
end Go.Proofs.YtdhdebapjlcjdaaGreatDoor
