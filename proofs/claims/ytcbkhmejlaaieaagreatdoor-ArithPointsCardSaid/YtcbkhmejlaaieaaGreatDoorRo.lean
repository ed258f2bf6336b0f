/-
  Plain facts on rounding of naturals to so many bits, down and up. No condition; nothing of the program is named here.
-/
import Derived.Test.YtcbkhmejlaaieaaGreatDoorDn
namespace Go.Proofs.YtcbkhmejlaaieaaGreatDoor

/-- has x at most p bits, its noughts at the end left out? -/
def Fits (p x : Nat) : Prop := ∃ a k, x = a * 2 ^ k ∧ a < 2 ^ p
/-- x cut to p bits, down; up: the next one, if anything was cut off -/
def cutN (p x : Nat) (up : Bool) : Nat := x / 2 ^ (blen x - p) + if up = true ∧ x % 2 ^ (blen x - p) ≠ 0 then 1 else 0
def rdN (p x : Nat) (up : Bool) : Nat := cutN p x up * 2 ^ (blen x - p)

theorem pow_pos2 (k : Nat) : 0 < 2 ^ k := Nat.pow_pos (by omega)
theorem fits_mono {p q x : Nat} (h : Fits p x) (hpq : p ≤ q) : Fits q x := by
  obtain ⟨a, k, e, ha⟩ := h
  exact ⟨a, k, e, Nat.lt_of_lt_of_le ha (Nat.pow_le_pow_right (by omega) hpq)⟩
theorem fits_shift {p x j : Nat} (h : Fits p x) : Fits p (x * 2 ^ j) := by
  obtain ⟨a, k, e, ha⟩ := h
  exact ⟨a, k + j, by rw [e, Nat.pow_add, Nat.mul_assoc], ha⟩
theorem fits_zero (p : Nat) : Fits p 0 := ⟨0, 0, by simp, pow_pos2 p⟩
theorem fits_of {p x : Nat} (h : x < 2 ^ p) : Fits p x := ⟨x, 0, by simp, h⟩
/-- an odd number's bits are all there -/
theorem fits_odd {p q k : Nat} (h : Fits p (2 ^ k * (2 * q + 1))) : 2 * q + 1 < 2 ^ p := by
  obtain ⟨a, j, e, ha⟩ := h
  have ha0 : a ≠ 0 := by
    intro h0
    rw [h0, Nat.zero_mul] at e
    have : 0 < 2 ^ k * (2 * q + 1) := Nat.mul_pos (pow_pos2 k) (by omega)
    omega
  obtain ⟨i, b, hb⟩ := low_has ha0
  have e2 : 2 ^ k * (2 * q + 1) = 2 ^ (i + j) * (2 * b + 1) := by
    rw [e, hb, Nat.pow_add]; ac_rfl
  obtain ⟨_, h2⟩ := odd_uniq e2
  have h3 : 1 * (2 * b + 1) ≤ 2 ^ i * (2 * b + 1) := Nat.mul_le_mul_right _ (pow_pos2 i)
  omega
theorem fits_blen {p q k : Nat} : Fits p (2 ^ k * (2 * q + 1)) ↔ blen (2 * q + 1) ≤ p := by
  rw [blen_le]
  constructor
  · exact fits_odd
  · intro h
    exact ⟨2 * q + 1, k, Nat.mul_comm _ _, h⟩
theorem unfits {p x j : Nat} (h : Fits p (x * 2 ^ j)) : Fits p x := by
  rcases Nat.eq_zero_or_pos x with h0 | h0
  · rw [h0]; exact fits_zero p
  · obtain ⟨k, q, hq⟩ := low_has (x := x) (by omega)
    have e1 : x * 2 ^ j = 2 ^ (k + j) * (2 * q + 1) := by rw [hq, Nat.pow_add]; ac_rfl
    rw [e1, fits_blen] at h
    rw [hq, fits_blen]
    exact h

theorem cut_parts (p x : Nat) : x = x / 2 ^ (blen x - p) * 2 ^ (blen x - p) + x % 2 ^ (blen x - p) := by
  have := Nat.div_add_mod x (2 ^ (blen x - p))
  rw [Nat.mul_comm] at this
  omega
theorem cut_lt (p x : Nat) : x / 2 ^ (blen x - p) < 2 ^ p := by
  rw [Nat.div_lt_iff_lt_mul (pow_pos2 _), ← Nat.pow_add]
  refine Nat.lt_of_lt_of_le ((blen_le x (blen x)).1 (Nat.le_refl _)) (Nat.pow_le_pow_right (by omega) (by omega))
theorem rd_down_le (p x : Nat) : rdN p x false ≤ x := by
  unfold rdN cutN
  simp only [Bool.false_eq_true, false_and, if_false, Nat.add_zero]
  exact Nat.div_mul_le_self _ _
theorem rd_up_ge (p x : Nat) : x ≤ rdN p x true := by
  have h := cut_parts p x
  unfold rdN cutN
  by_cases hr : x % 2 ^ (blen x - p) = 0
  · rw [if_neg (by simp [hr])]
    rw [Nat.add_zero]; omega
  · rw [if_pos ⟨rfl, hr⟩, Nat.add_mul, Nat.one_mul]
    have := Nat.mod_lt x (pow_pos2 (blen x - p))
    omega
theorem rd_fits {p : Nat} (hp : 1 ≤ p) (x : Nat) (up : Bool) : Fits p (rdN p x up) := by
  unfold rdN
  apply fits_shift
  have h := cut_lt p x
  have h2 : cutN p x up ≤ x / 2 ^ (blen x - p) + 1 := by unfold cutN; split <;> omega
  by_cases h3 : cutN p x up < 2 ^ p
  · exact fits_of h3
  · have h4 : cutN p x up = 2 ^ p := by omega
    rw [h4]
    exact ⟨1, p, by omega, Nat.one_lt_two_pow (by omega)⟩
/-- what is cut off leaves the highest bit -/
theorem rd_top {p x : Nat} (hp : 1 ≤ p) (hx : x ≠ 0) : 2 ^ (blen x - 1) ≤ x / 2 ^ (blen x - p) * 2 ^ (blen x - p) := by
  obtain ⟨h1, h2, h3⟩ := blen_pos hx
  have e1 : 2 ^ (blen x - 1) = 2 ^ (blen x - 1 - (blen x - p)) * 2 ^ (blen x - p) := by rw [← Nat.pow_add]; congr 1; omega
  rw [e1] at h1 ⊢
  exact Nat.mul_le_mul_right _ ((Nat.le_div_iff_mul_le (pow_pos2 _)).2 h1)
theorem fits_cases {p c n : Nat} (h : Fits p c) : (∃ b, c = b * 2 ^ n) ∨ c < 2 ^ (p + n - 1) ∨ n = 0 := by
  obtain ⟨a, k, e, ha⟩ := h
  rcases Nat.lt_or_ge k n with h1 | h1
  · refine .inr (.inl ?_)
    rw [e]
    have h2 : a * 2 ^ k < 2 ^ p * 2 ^ k := Nat.mul_lt_mul_of_pos_right ha (pow_pos2 k)
    rw [← Nat.pow_add] at h2
    exact Nat.lt_of_lt_of_le h2 (Nat.pow_le_pow_right (by omega) (by omega))
  · refine .inl ⟨a * 2 ^ (k - n), ?_⟩
    rw [e, Nat.mul_assoc, ← Nat.pow_add]
    congr 2; omega
theorem rd_greatest {p x c : Nat} (hp : 1 ≤ p) (hc : Fits p c) (h : c ≤ x) : c ≤ rdN p x false := by
  unfold rdN cutN
  simp only [Bool.false_eq_true, false_and, if_false, Nat.add_zero]
  by_cases hx : x = 0
  · subst hx; simp; omega
  have ht := rd_top hp hx
  rcases fits_cases (n := blen x - p) hc with ⟨b, hb⟩ | h2 | h2
  · rw [hb] at h ⊢
    exact Nat.mul_le_mul_right _ ((Nat.le_div_iff_mul_le (pow_pos2 _)).2 h)
  · by_cases h3 : blen x - p = 0
    · rw [h3, Nat.pow_zero, Nat.div_one, Nat.mul_one]; exact h
    · have e1 : p + (blen x - p) - 1 = blen x - 1 := by omega
      rw [e1] at h2
      omega
  · rw [h2, Nat.pow_zero, Nat.div_one, Nat.mul_one]; exact h
theorem rd_least {p x c : Nat} (hp : 1 ≤ p) (hc : Fits p c) (h : x ≤ c) : rdN p x true ≤ c := by
  unfold rdN cutN
  have hq := cut_parts p x
  by_cases hr : x % 2 ^ (blen x - p) = 0
  · rw [if_neg (by simp [hr]), Nat.add_zero]; omega
  · rw [if_pos ⟨rfl, hr⟩]
    have hx : x ≠ 0 := by intro h0; rw [h0] at hr; simp at hr
    obtain ⟨h1, _, h3⟩ := blen_pos hx
    rcases fits_cases (n := blen x - p) hc with ⟨b, hb⟩ | h2 | h2
    · rw [hb] at h ⊢
      have h4 : x / 2 ^ (blen x - p) * 2 ^ (blen x - p) < b * 2 ^ (blen x - p) := by omega
      exact Nat.mul_le_mul_right _ (Nat.lt_of_mul_lt_mul_right h4)
    · exfalso
      by_cases h5 : blen x - p = 0
      · rw [h5, Nat.pow_zero, Nat.mod_one] at hr; exact hr rfl
      · have e1 : p + (blen x - p) - 1 = blen x - 1 := by omega
        rw [e1] at h2
        omega
    · exfalso
      rw [h2, Nat.pow_zero, Nat.mod_one] at hr; exact hr rfl
theorem rd_self {p x : Nat} (hp : 1 ≤ p) (h : Fits p x) (up : Bool) : rdN p x up = x := by
  cases up
  · exact Nat.le_antisymm (rd_down_le p x) (rd_greatest hp h (Nat.le_refl _))
  · exact Nat.le_antisymm (rd_least hp h (Nat.le_refl _)) (rd_up_ge p x)
theorem rd_twice {p q x : Nat} (hq : 1 ≤ q) (hpq : q ≤ p) (up : Bool) : rdN q (rdN p x up) up = rdN q x up := by
  have hp : 1 ≤ p := by omega
  cases up
  · apply Nat.le_antisymm
    · exact rd_greatest hq (rd_fits hq _ _) (Nat.le_trans (rd_down_le _ _) (rd_down_le _ _))
    · exact rd_greatest hq (rd_fits hq _ _) (rd_greatest hp (fits_mono (rd_fits hq _ _) hpq) (rd_down_le _ _))
  · apply Nat.le_antisymm
    · exact rd_least hq (rd_fits hq _ _) (rd_least hp (fits_mono (rd_fits hq _ _) hpq) (rd_up_ge _ _))
    · exact rd_least hq (rd_fits hq _ _) (Nat.le_trans (rd_up_ge _ _) (rd_up_ge _ _))
theorem rd_same {p x : Nat} (hp : 1 ≤ p) : rdN p x false = rdN p x true ↔ Fits p x := by
  constructor
  · intro h
    have h1 := rd_down_le p x
    have h2 := rd_up_ge p x
    have h3 : rdN p x false = x := by omega
    rw [← h3]; exact rd_fits hp _ _
  · intro h; rw [rd_self hp h, rd_self hp h]
theorem rd_zero (p : Nat) (up : Bool) : rdN p 0 up = 0 := by unfold rdN cutN; simp
theorem rd_bit {p x : Nat} (hp : 1 ≤ p) (hx : x ≠ 0) (up : Bool) : rdN p x up ≠ 0 := by
  have h := rd_top hp hx
  have h2 := pow_pos2 (blen x - 1)
  unfold rdN cutN
  rw [Nat.add_mul]
  omega
end Go.Proofs.YtcbkhmejlaaieaaGreatDoor
