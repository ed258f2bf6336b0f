/-
  Contracts of nat's Div, bitLen, Len, Shl, Shr, and of Same, at this translation. Condition: the numbers may be (at most 64 limbs, canonical).
-/
import Derived.Test.YtdklekiknhhfdaaDoorApi
namespace Go.Proofs.YtdklekiknhhfdaaDoor
open Go.RowKit

theorem W64_pow : W ^ 64 = 2 ^ (64 * 64) := by rw [W_pow, ← Nat.pow_mul]

def DivOk (w : World) (x y : Nat) (e : Ending) (w' : World) : Prop :=
  ∃ A n c B m d, e = .returned (.tuple #[.slice A n c, .slice B m d, .int .i64 0]) ∧ Nt w' A n c (x / y) ∧ Nt w' B m d (x % y) ∧ Below w.heap.size w w'

theorem quotient_any {w : World} {A B : Option Addr} {n c m d x y : Nat} (h : Nt w A n c x) (h' : Nt w B m d y) (h0 : y ≠ 0) :
    Calls Tryd.prog 78 #[.slice A n c, .slice B m d] w fun e w' => QuotDone w x y e w' := by
  have hn := h.le
  have hm := h'.le
  rcases Nat.lt_or_ge x y with hlt | hge
  · have := quotient_less h.rd h'.rd h.can h'.can (by omega) (by rw [h.val, h'.val]; exact hlt)
    rwa [h.val, h'.val] at this
  · have := quotient_more h.rd h'.rd h.can h'.can (by omega) (by omega) (by rw [ne_eq, h'.zero]; exact h0) (by rw [h.val, h'.val]; exact hge)
    rwa [h.val, h'.val] at this

theorem div_ok {w : World} {A B : Option Addr} {n c m d x y : Nat} (h : Nt w A n c x) (h' : Nt w B m d y) (h0 : y ≠ 0) :
    Calls Tryd.prog 30 #[.slice A n c, .slice B m d] w fun e w' => DivOk w x y e w' := by
  have hm0 : m ≠ 0 := by rw [ne_eq, h'.zero]; exact h0
  have f0 : ((m : Int) == 0) = false := by simp [hm0]
  go_enter Tryd.func30, Tryd.ntmps30
  go_wp2_with fail
  refine (may_nt h).mono ?_
  rintro e w' ⟨rfl, rfl⟩
  go_wp2_with fail
  refine (may_nt h').mono ?_
  rintro e w' ⟨rfl, rfl⟩
  go_wp2_with fail
  refine (quotient_any h h' h0).mono ?_
  rintro e w1 ⟨A1, n1, c1, B1, m1, d1, rfl, hr1, hr2, hb1⟩
  go_wp2
  go_ret3
  exact ⟨A1, n1, c1, B1, m1, d1, rfl, ⟨hr1, Nat.lt_of_le_of_lt (Nat.div_le_self _ _) h.lt⟩, ⟨hr2, Nat.lt_of_le_of_lt (Nat.mod_le _ _) h.lt⟩, hb1⟩
theorem div_zero {w : World} {A B : Option Addr} {n c d x : Nat} (h : Nt w A n c x) (h' : Nt w B 0 d 0) :
    Calls Tryd.prog 30 #[.slice A n c, .slice B 0 d] w fun e w' => e = .returned (.tuple #[.slice none 0 0, .slice none 0 0, .int .i64 4]) ∧ w = w' := by
  go_enter Tryd.func30, Tryd.ntmps30
  go_wp2_with fail
  refine (may_nt h).mono ?_
  rintro e w' ⟨rfl, rfl⟩
  go_wp2_with fail
  refine (may_nt h').mono ?_
  rintro e w' ⟨rfl, rfl⟩
  go_wp2
  go_ret3
  exact ⟨rfl, rfl⟩

/-- how many bits -/
def blen (x : Nat) : Nat := (dig 2 x).length
theorem blen_le (x k : Nat) : blen x ≤ k ↔ x < 2 ^ k := len_dig (by omega) x k
theorem blen_eq {x k : Nat} (h1 : 2 ^ k ≤ x) (h2 : x < 2 ^ (k + 1)) : blen x = k + 1 := by
  have a := (blen_le x (k + 1)).2 h2
  have b : ¬ blen x ≤ k := by rw [blen_le]; omega
  omega
theorem blen_zero : blen 0 = 0 := by unfold blen; rw [dig_zero]; rfl
theorem blen_pos {x : Nat} (h : x ≠ 0) : 2 ^ (blen x - 1) ≤ x ∧ x < 2 ^ blen x ∧ 1 ≤ blen x :=
  ⟨len_dig_pos (by omega) h, (blen_le x _).1 (Nat.le_refl _), by have := dig_ne_nil (B := 2) (by omega) h; unfold blen; omega⟩
theorem bitLen_blen {x : Nat} (h1 : x ≠ 0) (h2 : x < 18446744073709551616) : Lib.bitLen x = blen x := by
  have hb := Lib.bitLenAux_bounds 64 x h2 h1
  have hd : Lib.bitLen x = Lib.bitLenAux 64 x := rfl
  rw [← hd] at hb
  obtain ⟨k, hk⟩ : ∃ k, Lib.bitLen x = k + 1 := ⟨Lib.bitLen x - 1, by omega⟩
  rw [hk] at hb ⊢
  rw [Nat.add_sub_cancel] at hb
  exact (blen_eq hb.2.1 hb.2.2).symm
theorem blen_top {l : List Nat} {k t : Nat} (hl : Lt W l) (hn : l.length = k + 1) (ht : t = l.getD k 0) (h0 : t ≠ 0) : blen (val W l) = k * 64 + blen t := by
  have hv := take_val' (B := W) l k
  rw [List.take_of_length_le (by omega), ← ht] at hv
  have hlt := val_lt (hl.take k)
  rw [List.length_take, Nat.min_eq_left (by omega)] at hlt
  obtain ⟨b1, b2, b3⟩ := blen_pos h0
  obtain ⟨j, hj⟩ : ∃ j, blen t = j + 1 := ⟨blen t - 1, by omega⟩
  rw [hj] at b1 b2 ⊢
  rw [Nat.add_sub_cancel] at b1
  have hW : W ^ k = 2 ^ (k * 64) := by rw [W_pow, ← Nat.pow_mul, Nat.mul_comm]
  have e1 : 2 ^ (k * 64 + j) ≤ val W l := by
    rw [Nat.pow_add, ← hW]
    have : W ^ k * 2 ^ j ≤ W ^ k * t := Nat.mul_le_mul_left _ b1
    omega
  have e2 : val W l < 2 ^ (k * 64 + j + 1) := by
    rw [Nat.add_assoc, Nat.pow_add, ← hW]
    have : W ^ k * (t + 1) ≤ W ^ k * 2 ^ (j + 1) := Nat.mul_le_mul_left _ b2
    rw [Nat.mul_add, Nat.mul_one] at this
    omega
  rw [blen_eq e1 e2, Nat.add_assoc]

theorem bitLen_any {w : World} {A : Option Addr} {n c : Nat} {l : List Nat} (h : Rd w .u64 W A n c l) (hl : Can W l) (hn : n ≤ 1000000) (h0 : n ≠ 0) :
    Calls Tryd.prog 80 #[.slice A n c] w fun e w' => e = .returned (.int .i64 (blen (val W l) : Int)) ∧ w = w' := by
  obtain ⟨k, rfl⟩ : ∃ k, n = k + 1 := ⟨n - 1, by omega⟩
  obtain ⟨b, o, rfl, hb, hc⟩ := h.at_ (by omega)
  obtain ⟨t, ht⟩ : ∃ t, t = l.getD k 0 := ⟨_, rfl⟩
  have htB : t < 18446744073709551616 := by rw [ht, ← W_eq]; exact h.lt.getD (by rw [W_eq]; omega) _
  have ht0 : t ≠ 0 := by
    have := hl.2 (by rw [h.len]; omega)
    rw [h.len, Nat.add_sub_cancel, ← ht] at this
    exact this
  have hcell : w.cell? ⟨b, o + k, none⟩ = some (.int .u64 (t : Int)) := by rw [ht]; exact hc k (by omega)
  have HB := Lib.hid (blen_top h.lt h.len ht ht0)
  have hbt : blen t ≤ 64 := (blen_le t 64).2 htB
  have hcall : ∀ wx, Calls Tryd.prog 109 #[.int .u64 (t : Int)] wx fun e w' => e = .returned (.int .i64 (blen t : Int)) ∧ wx = w' := fun wx =>
    (Tryd.bits_Len64 t wx (by omega) (by omega)).mono fun e w' ⟨he, hw⟩ => ⟨by rw [he, Int.toNat_natCast, bitLen_blen ht0 htB], hw.symm⟩
  have HC := Lib.hid hcall
  rw [HB.out]
  obtain ⟨q, hq⟩ : ∃ q, q = blen t := ⟨_, rfl⟩
  rw [← hq] at HC hbt ⊢
  clear hcall hc ht ht0 hq HB
  have e1 : (((k + 1 : Nat)) : Int) - 1 = (k : Int) := by omega
  have e2 : ((k * 64 + q : Nat) : Int) = (k : Int) * 64 + (q : Int) := by omega
  rw [e2]
  clear e2
  go_enter Tryd.func80, Tryd.ntmps80
  go_wp2_with fail
  refine (HC.out _).mono ?_
  rintro e w' ⟨rfl, rfl⟩
  go_wp2
  go_ret
  exact ⟨rfl, rfl⟩

theorem len_nt {w : World} {A : Option Addr} {n c x : Nat} (h : Nt w A n c x) : Calls Tryd.prog 39 #[.slice A n c] w fun e w' => e = .returned (.int .i64 (blen x : Int)) ∧ w = w' := by
  have hn := h.le
  by_cases h0 : n = 0
  · have hx := h.zero.1 h0
    rw [hx, blen_zero]
    have f0 : ((n : Int) == 0) = true := by simp [h0]
    clear h0
    go_enter Tryd.func39, Tryd.ntmps39
    go_wp2_with fail
    refine (may_nt h).mono ?_
    rintro e w' ⟨rfl, rfl⟩
    go_wp2
    go_ret
    exact ⟨rfl, rfl⟩
  · have f0 : ((n : Int) == 0) = false := by simp [h0]
    go_enter Tryd.func39, Tryd.ntmps39
    go_wp2_with fail
    refine (may_nt h).mono ?_
    rintro e w' ⟨rfl, rfl⟩
    go_wp2_with fail
    refine (bitLen_any h.rd h.can (by omega) h0).mono ?_
    rintro e w' ⟨rfl, rfl⟩
    rw [h.val]
    go_wp2
    go_ret
    exact ⟨rfl, rfl⟩

theorem shr_ok {w : World} {A : Option Addr} {n c x s : Nat} (h : Nt w A n c x) (hs : s ≤ 64000000) :
    Calls Tryd.prog 35 #[.slice A n c, .int .i64 s] w fun e w' => ResOk w (x / 2 ^ s) e w' := by
  have hn := h.le
  go_enter Tryd.func35, Tryd.ntmps35
  go_wp2_with fail
  refine (may_nt h).mono ?_
  rintro e w' ⟨rfl, rfl⟩
  go_wp2_with fail
  refine (lowered_any h.rd (by omega) hs).mono ?_
  rintro e w1 ⟨A1, n1, c1, rfl, hr1, hb1⟩
  rw [h.val] at hr1
  go_wp2
  go_ret2
  exact ⟨A1, n1, c1, rfl, ⟨hr1, Nat.lt_of_le_of_lt (Nat.div_le_self _ _) h.lt⟩, hb1⟩

theorem shl_ok {w : World} {A : Option Addr} {n c x s : Nat} (h : Nt w A n c x) (hs : s ≤ 1000000) (hlt : x * 2 ^ s < W ^ 64) :
    Calls Tryd.prog 34 #[.slice A n c, .int .i64 s] w fun e w' => ResOk w (x * 2 ^ s) e w' := by
  have hn := h.le
  by_cases h0 : n = 0
  · have hx := h.zero.1 h0
    have f0 : ((n : Int) == 0) = true := by simp [h0]
    have HX := Lib.hid hx
    clear h0 hx
    go_enter Tryd.func34, Tryd.ntmps34
    go_wp2_with fail
    refine (may_nt h).mono ?_
    rintro e w' ⟨rfl, rfl⟩
    go_wp2
    go_ret2
    exact ⟨none, 0, 0, rfl, ⟨by rw [HX.out, Nat.zero_mul, dig_zero]; exact Rd.nil _ _ _ _ (by omega), hlt⟩, Below.refl _ _⟩
  · have f0 : ((n : Int) == 0) = false := by simp [h0]
    have hx0 : x ≠ 0 := by rw [ne_eq, ← h.zero]; exact h0
    have hbl : blen x + s ≤ 4096 := by
      obtain ⟨b1, b2, b3⟩ := blen_pos hx0
      have h1 : 2 ^ (blen x - 1) * 2 ^ s ≤ x * 2 ^ s := Nat.mul_le_mul_right _ b1
      have h2 : 2 ^ (blen x - 1 + s) < 2 ^ (64 * 64) := by
        rw [Nat.pow_add]
        exact Nat.lt_of_le_of_lt h1 (Nat.lt_of_lt_of_eq hlt W64_pow)
      have := (Nat.pow_lt_pow_iff_right (a := 2) (by omega)).1 h2
      omega
    obtain ⟨q, hq⟩ : ∃ q, q = blen x := ⟨_, rfl⟩
    have HQ := Lib.hid hq
    rw [← hq] at hbl
    clear hq
    go_enter Tryd.func34, Tryd.ntmps34
    go_wp2_with fail
    refine (may_nt h).mono ?_
    rintro e w' ⟨rfl, rfl⟩
    go_wp2_with fail
    refine (bitLen_any h.rd h.can (by omega) h0).mono ?_
    rintro e w' ⟨rfl, rfl⟩
    rw [h.val, ← HQ.out]
    go_wp2_with fail
    refine (raised_any h.rd (by omega) (by omega)).mono ?_
    rintro e w1 ⟨g1, n1, c1, rfl, hg1, hr1, hb1⟩
    rw [h.val] at hr1
    go_wp2
    go_ret2
    exact ⟨_, n1, c1, rfl, ⟨hr1, hlt⟩, hb1⟩
theorem shl_over {w : World} {A : Option Addr} {n c x s : Nat} (h : Nt w A n c x) (hx0 : x ≠ 0) (hov : W ^ 64 ≤ x * 2 ^ s) :
    Calls Tryd.prog 34 #[.slice A n c, .int .i64 s] w fun e w' => e = .returned (.tuple #[.slice none 0 0, .int .i64 2]) ∧ w = w' := by
  have hn := h.le
  have h0 : n ≠ 0 := by rw [ne_eq, h.zero]; exact hx0
  have f0 : ((n : Int) == 0) = false := by simp [h0]
  have hbl : 4096 < blen x + s := by
    obtain ⟨b1, b2, b3⟩ := blen_pos hx0
    have h1 : x * 2 ^ s < 2 ^ blen x * 2 ^ s := Nat.mul_lt_mul_of_pos_right b2 (Nat.pow_pos (by omega))
    rw [← Nat.pow_add] at h1
    have h2 : 2 ^ (64 * 64) < 2 ^ (blen x + s) := Nat.lt_of_le_of_lt (Nat.le_trans (Nat.le_of_eq W64_pow.symm) hov) h1
    have := (Nat.pow_lt_pow_iff_right (a := 2) (by omega)).1 h2
    omega
  have hbm : blen x ≤ 64 * 64 := (blen_le _ _).2 (Nat.lt_of_lt_of_eq h.lt W64_pow)
  obtain ⟨q, hq⟩ : ∃ q, q = blen x := ⟨_, rfl⟩
  have HQ := Lib.hid hq
  rw [← hq] at hbl hbm
  clear hq hov
  go_enter Tryd.func34, Tryd.ntmps34
  go_wp2_with fail
  refine (may_nt h).mono ?_
  rintro e w' ⟨rfl, rfl⟩
  go_wp2_with fail
  refine (bitLen_any h.rd h.can (by omega) h0).mono ?_
  rintro e w' ⟨rfl, rfl⟩
  rw [h.val, ← HQ.out]
  go_wp2
  go_ret2
  exact ⟨rfl, rfl⟩
end Go.Proofs.YtdklekiknhhfdaaDoor
