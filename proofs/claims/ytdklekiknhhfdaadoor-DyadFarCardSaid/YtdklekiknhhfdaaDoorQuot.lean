/-
  Contract of nat.quotient at this translation. Condition: both are canonical limbs, of at most 100,000 each, the divisor is not 0.
-/
import Derived.Test.YtdklekiknhhfdaaDoorGuess
import Derived.Test.YtdklekiknhhfdaaDoorQuotN
import Derived.Test.YtdklekiknhhfdaaDoorTake
import Derived.Test.YtdklekiknhhfdaaDoorOrder
namespace Go.Proofs.YtdklekiknhhfdaaDoor
open Go.RowKit

theorem lz_any (y : Nat) (h1 : y ≠ 0) (h2 : y < 18446744073709551616) : ∃ z : Nat, z ≤ 63 ∧ 9223372036854775808 ≤ y * 2 ^ z ∧ (y + 1) * 2 ^ z ≤ 18446744073709551616 ∧
    ∀ w : World, Calls Tryd.prog 106 #[.int .u64 y] w fun e w' => e = .returned (.int .i64 (z : Int)) ∧ w = w' := by
  have hb := Lib.bitLenAux_bounds 64 y h2 h1
  have hL : Lib.bitLen y ≤ 64 := Lib.bitLen_le y 64 (by omega) h2
  have hd : Lib.bitLen y = Lib.bitLenAux 64 y := rfl
  rw [← hd] at hb
  generalize hl : Lib.bitLen y = b at *
  obtain ⟨b1, b2, b3⟩ := hb
  refine ⟨64 - b, by omega, ?_, ?_, fun w => (Tryd.bits_LeadingZeros64 y w (by omega) (by omega)).mono fun e w' ⟨he, hw⟩ => ⟨?_, hw.symm⟩⟩
  · have h3 : 2 ^ (b - 1) * 2 ^ (64 - b) ≤ y * 2 ^ (64 - b) := Nat.mul_le_mul_right _ b2
    rw [← Nat.pow_add, show b - 1 + (64 - b) = 63 by omega] at h3
    exact h3
  · have h3 : (y + 1) * 2 ^ (64 - b) ≤ 2 ^ b * 2 ^ (64 - b) := Nat.mul_le_mul_right _ b3
    rw [← Nat.pow_add, show b + (64 - b) = 64 by omega] at h3
    exact h3
  · rw [he, Int.toNat_natCast, hl]
    congr 2
    omega

/-- what a divisor's raising comes to: one limb more where it has but one -/
theorem lead_raise {l : List Nat} {n x z : Nat} (hl : Can W l) (hn : l.length = n) (hn0 : 0 < n) (h1 : 9223372036854775808 ≤ l.getD (n - 1) 0 * 2 ^ z) (h2 : (l.getD (n - 1) 0 + 1) * 2 ^ z ≤ 18446744073709551616) :
    W ^ (n + x) ≤ val W l * 2 ^ (z + 64 * x) * 2 ∧ val W l * 2 ^ (z + 64 * x) < W ^ (n + x) := by
  obtain ⟨k, rfl⟩ : ∃ k, n = k + 1 := ⟨n - 1, by omega⟩
  rw [Nat.add_sub_cancel] at h1 h2
  have hv := take_val' (B := W) l k
  rw [List.take_of_length_le (by omega)] at hv
  have ht := val_lt (hl.1.take k)
  rw [List.length_take, Nat.min_eq_left (by omega)] at ht
  generalize l.getD k 0 = t at *
  have hWx : 2 ^ (64 * x) = W ^ x := by rw [W_pow, Nat.pow_mul]
  rw [Nat.pow_add 2 z, hWx, Nat.pow_add W (k + 1) x, ← Nat.mul_assoc]
  have hx0 : 0 < W ^ x := Nat.pow_pos (by rw [W_eq]; omega)
  have hz0 : 0 < 2 ^ z := Nat.pow_pos (by omega)
  have e0 : W ^ (k + 1) = W ^ k * W := Nat.pow_succ ..
  constructor
  · have h3 : W ^ k * t * 2 ^ z ≤ val W l * 2 ^ z := Nat.mul_le_mul_right _ (by omega)
    have h4 : W ^ k * 9223372036854775808 ≤ W ^ k * (t * 2 ^ z) := Nat.mul_le_mul_left _ h1
    have h5 : W ^ k * 9223372036854775808 * 2 = W ^ k * W := by rw [Nat.mul_assoc, W_eq]
    rw [Nat.mul_assoc] at h3
    have h6 : W ^ (k + 1) ≤ val W l * 2 ^ z * 2 := by omega
    have h7 : W ^ (k + 1) * W ^ x ≤ val W l * 2 ^ z * 2 * W ^ x := Nat.mul_le_mul_right _ h6
    rw [Nat.mul_right_comm (val W l * 2 ^ z)]
    exact h7
  · refine Nat.mul_lt_mul_of_pos_right ?_ hx0
    have h3 : val W l + 1 ≤ W ^ k * (t + 1) := by rw [Nat.mul_add]; omega
    have h4 : (val W l + 1) * 2 ^ z ≤ W ^ k * (t + 1) * 2 ^ z := Nat.mul_le_mul_right _ h3
    have h5 : W ^ k * ((t + 1) * 2 ^ z) ≤ W ^ k * 18446744073709551616 := Nat.mul_le_mul_left _ h2
    rw [Nat.mul_assoc] at h4
    rw [← W_eq] at h5
    rw [Nat.add_mul, Nat.one_mul] at h4
    omega

/-- nat.quotient's end: quotient and rest. -/
def QuotDone (w : World) (x y : Nat) (e : Ending) (w' : World) : Prop :=
  ∃ A n c B m d, e = .returned (.tuple #[.slice A n c, .slice B m d]) ∧ Rd w' .u64 W A n c (dig W (x / y)) ∧ Rd w' .u64 W B m d (dig W (x % y)) ∧ Below w.heap.size w w'

set_option maxHeartbeats 1000000 in
theorem quotient_less {w : World} {A B : Option Addr} {n c m d : Nat} {l r : List Nat} (h : Rd w .u64 W A n c l) (h' : Rd w .u64 W B m d r) (hl : Can W l) (hr : Can W r) (hn : n ≤ 100000) (hlt : val W l < val W r) :
    Calls Tryd.prog 78 #[.slice A n c, .slice B m d] w fun e w' => QuotDone w (val W l) (val W r) e w' := by
  have ho : ∀ wx, Below w.heap.size w wx → Calls Tryd.prog 72 #[.slice A n c, .slice B m d] wx fun e w' => e = .returned (.int .i64 (-1)) ∧ Below wx.heap.size wx w' := fun wx hb => by
    have := order_any (h.below hb) (h'.below hb) hl hr
    rwa [cmpN_lt hlt] at this
  have HO : Hid _ := ho
  clear ho
  go_enter Tryd.func78, Tryd.ntmps78
  go_wp2
  go_step3
  go_wp2_with fail
  refine (HO.out w (Below.refl _ _)).mono ?_
  rintro e w1 ⟨rfl, hb1⟩
  go_wp2_with fail
  refine (clone_any (h.below hb1) (by omega)).mono ?_
  rintro e w2 ⟨A', c', rfl, hrd, hb2, _⟩
  go_wp2
  rw [Exit.noGoto_ret]
  go_ret2
  refine ⟨none, 0, 0, A', n, c', rfl, ?_, ?_, hb1.trans (hb2.mono hb1.size)⟩
  · rw [Nat.div_eq_of_lt hlt, dig_zero]; exact Rd.nil _ _ _ _ (by omega)
  · rw [Nat.mod_eq_of_lt hlt, dig_val W_two hl]; exact hrd
end Go.Proofs.YtdklekiknhhfdaaDoor
