/-
  Contract of the statement NatCaps' function at this translation: it returns true, whatever its arguments. Condition: the table of math/bits reads as its text lays it.
-/
import Derived.Test.YtdklekiknhhfdaaDoorTold
namespace Go.Proofs.YtdklekiknhhfdaaDoor
open Go.RowKit

theorem may_no {w : World} {A : Option Addr} {n c : Nat} {l : List Nat} (h : Rd w .u64 W A n c l) (hb : mayB l = false) : Calls Tryd.prog 22 #[.slice A n c] w fun e w' => e = .returned (.bool false) ∧ w = w' := by
  have := may_any h
  rwa [hb] at this
theorem may_yes {w : World} {A : Option Addr} {n c : Nat} {l : List Nat} (h : Rd w .u64 W A n c l) (hb : mayB l = true) : Calls Tryd.prog 22 #[.slice A n c] w fun e w' => e = .returned (.bool true) ∧ w = w' := by
  have := may_any h
  rwa [hb] at this
theorem shl_bad {w : World} {A : Option Addr} {n c : Nat} {l : List Nat} {s : Int} (h : Rd w .u64 W A n c l) (hb : mayB l = false) :
    Calls Tryd.prog 34 #[.slice A n c, .int .i64 s] w fun e w' => e = .returned (.tuple #[.slice none 0 0, .int .i64 1]) ∧ w = w' := by
  go_enter Tryd.func34, Tryd.ntmps34
  go_wp2_with fail
  refine (may_no h hb).mono ?_
  rintro e w' ⟨rfl, rfl⟩
  go_wp2
  go_ret2
  exact ⟨rfl, rfl⟩
theorem add_bad1 {w : World} {A B : Option Addr} {n c m d : Nat} {l : List Nat} (h : Rd w .u64 W A n c l) (hb : mayB l = false) :
    Calls Tryd.prog 18 #[.slice A n c, .slice B m d] w fun e w' => e = .returned (.tuple #[.slice none 0 0, .int .i64 1]) ∧ w = w' := by
  go_enter Tryd.func18, Tryd.ntmps18
  go_wp2_with fail
  refine (may_no h hb).mono ?_
  rintro e w' ⟨rfl, rfl⟩
  go_wp2
  go_ret2
  exact ⟨rfl, rfl⟩

theorem top_list {B k t : Nat} (hB : 2 ≤ B) (h0 : t ≠ 0) (ht : t < B) : ((List.replicate (k + 1) 0).set k t).length = k + 1 ∧ Can B ((List.replicate (k + 1) 0).set k t) ∧ val B ((List.replicate (k + 1) 0).set k t) = B ^ k * t := by
  have hl : ((List.replicate (k + 1) 0).set k t).length = k + 1 := by simp
  refine ⟨hl, ⟨(Lt.replicate _ (by omega)).set _ ht, fun _ => ?_⟩, ?_⟩
  · rw [hl, Nat.add_sub_cancel, getD_set_self (by simp)]
    exact h0
  · have := val_set (B := B) (l := List.replicate (k + 1) 0) (i := k) (by simp) t
    rw [getD_replicate, val_replicate, Nat.mul_zero, Nat.add_zero, Nat.zero_add] at this
    exact this

theorem or_one (top : Nat) (h : top < 18446744073709551616) : ∃ t : Nat, bits .or .u64 (top : Int) 1 = (t : Int) ∧ t ≠ 0 ∧ t < 18446744073709551616 ∧ (t < 9223372036854775808 ↔ top < 9223372036854775808) := by
  have h1 := bits_or_u64_nat top 1 h (by omega)
  refine ⟨top ||| 1, h1, ?_, ?_, ?_⟩
  · have : 1 ≤ top ||| 1 := Nat.right_le_or
    omega
  · exact Nat.or_lt_two_pow (n := 64) h (by omega)
  · have h2 : top ≤ top ||| 1 := Nat.left_le_or
    constructor
    · intro h3; omega
    · intro h3
      exact Nat.or_lt_two_pow (n := 63) h3 (by omega)

theorem caps_low {t k : Nat} (htB : t < W) (hk : k ≤ 62) : W ^ k * t * 2 ^ 64 < W ^ 64 ∧ W ^ k * t + W ^ k * t < W ^ 64 := by
  have h1 : W ^ k * t < W ^ k * W := Nat.mul_lt_mul_of_pos_left htB (Nat.pow_pos (by rw [W_eq]; omega))
  rw [← Nat.pow_succ] at h1
  have h2 : W ^ (k + 1) * W ≤ W ^ 64 := by
    rw [← Nat.pow_succ]; exact Nat.pow_le_pow_right (by rw [W_eq]; omega) (by omega)
  have h3 : W ^ k * t * W < W ^ (k + 1) * W := Nat.mul_lt_mul_of_pos_right h1 (by rw [W_eq]; omega)
  have h4 : W ^ (k + 1) * 2 ≤ W ^ (k + 1) * W := Nat.mul_le_mul_left _ W_two
  rw [← W_pow]
  generalize W ^ 64 = p at *
  generalize W ^ (k + 1) * W = q at *
  generalize W ^ k * t * W = s at *
  generalize W ^ (k + 1) = u at *
  omega
theorem caps_len {t k : Nat} (h0 : t ≠ 0) (htB : t < W) : (dig W (W ^ k * t * 2 ^ 64)).length = k + 2 := by
  rw [← W_pow]
  have h1 : W ^ k * t < W ^ k * W := Nat.mul_lt_mul_of_pos_left htB (Nat.pow_pos (by rw [W_eq]; omega))
  have h3 : W ^ k * t * W < W ^ k * W * W := Nat.mul_lt_mul_of_pos_right h1 (by rw [W_eq]; omega)
  have h4 : W ^ k * 1 ≤ W ^ k * t := Nat.mul_le_mul_left _ (by omega)
  have h5 : W ^ k * 1 * W ≤ W ^ k * t * W := Nat.mul_le_mul_right _ h4
  rw [Nat.mul_one, ← Nat.pow_succ] at h5
  rw [← Nat.pow_succ, ← Nat.pow_succ] at h3
  have a := (len_dig W_two (W ^ k * t * W) (k + 2)).2 h3
  have b : ¬ (dig W (W ^ k * t * W)).length ≤ k + 1 := by
    rw [len_dig W_two]
    show ¬ W ^ k * t * W < W ^ (k + 1)
    exact Nat.not_lt.2 h5
  omega
theorem caps_full {t : Nat} (h0 : t ≠ 0) : W ^ 64 ≤ W ^ 63 * t * 2 ^ 64 := by
  rw [← W_pow]
  have h4 : W ^ 63 * 1 ≤ W ^ 63 * t := Nat.mul_le_mul_left _ (by omega)
  have h5 : W ^ 63 * 1 * W ≤ W ^ 63 * t * W := Nat.mul_le_mul_right _ h4
  rw [Nat.mul_one] at h5
  exact Nat.le_trans (Nat.le_of_eq (Nat.pow_succ ..)) h5
theorem caps_twice {t : Nat} : (t < 9223372036854775808 → W ^ 63 * t + W ^ 63 * t < W ^ 64) ∧ (9223372036854775808 ≤ t → W ^ 64 ≤ W ^ 63 * t + W ^ 63 * t) := by
  have e : W ^ 64 = W ^ 63 * W := Nat.pow_succ ..
  rw [e]
  have hp : 0 < W ^ 63 := Nat.pow_pos (by rw [W_eq]; omega)
  generalize W ^ 63 = p at *
  rw [← Nat.mul_add]
  constructor
  · intro h
    exact Nat.mul_lt_mul_of_pos_left (by rw [W_eq]; omega) hp
  · intro h
    exact Nat.mul_le_mul_left _ (by rw [W_eq]; omega)

set_option maxRecDepth 100000 in
set_option maxHeartbeats 1000000 in
theorem caps_any {w : World} {top : Nat} {n : Int} (hT : Tab w) (htop : top < 18446744073709551616) :
    Calls Tryd.prog 9 #[.int .u64 (top : Int), .int .i64 n] w fun e w' => e = .returned (.bool true) ∧ Below w.heap.size w w' := by
  obtain ⟨r, hr⟩ : ∃ r : Nat, IntKind.u64.wrap n % 4 = (r : Int) := ⟨(IntKind.u64.wrap n % 4).toNat, by rw [IntKind.wrap_u64]; omega⟩
  have hr4 : r < 4 := by rw [IntKind.wrap_u64] at hr; omega
  have hr0 : (0 : Int) ≤ IntKind.u64.wrap n := by rw [IntKind.wrap_u64]; omega
  obtain ⟨t, ht, ht0, htB, ht63⟩ := or_one top htop
  obtain ⟨k, hk⟩ : ∃ k, k = 62 + r := ⟨_, rfl⟩
  have hk2 : (62 : Int) + (r : Int) = (k : Int) := by omega
  have hk62 : 62 ≤ k := by omega
  have hk65 : k ≤ 65 := by omega
  have HK := Lib.hid hk
  clear hk
  go_enter Tryd.func9, Tryd.ntmps9
  go_wp2_with (at_make; refine law_make rfl (.tmp 18) rfl _ k rfl (by omega) (by omega) ?_; intro w1 hrow1 hgrow1; have hfz := hrow1.frozen (k - 1); have hcl := hrow1.cell0 (i := k - 1) (by simp; omega); have hp : (0 : Int) ≤ (k : Int) - 1 := by omega)
  obtain ⟨j, rfl⟩ : ∃ j, k = j + 1 := ⟨k - 1, by omega⟩
  rw [Nat.add_sub_cancel]
  have hrow := hrow1.set0 (i := j) (by simp) t
  obtain ⟨hlen, hcan, hval⟩ := top_list (k := j) W_two ht0 (by rw [W_eq]; exact htB)
  have hrd := hrow.rd' hcan.1 hlen (Nat.le_refl _) (by omega)
  have hb1 : Below w.heap.size w (w1.setCell ⟨w.heap.size, j, none⟩ (.int .u64 (t : Int))) := ((below_none hgrow1).setCell (p := ⟨w.heap.size, j, none⟩) (Nat.le_refl _) _)
  generalize hw2 : w1.setCell ⟨w.heap.size, j, none⟩ (.int .u64 (t : Int)) = w2 at *
  have hT2 := hT.below hb1
  have HT63 : Hid (t < 9223372036854775808 ↔ top < 9223372036854775808) := ht63
  clear hw2 hrow hrow1 hgrow1 hfz hcl ht63 hk2
  have HRD := Lib.hid hrd
  by_cases hj : j = 64
  · subst hj
    have hmb : mayB ((List.replicate (64 + 1) 0).set 64 t) = false := by unfold mayB; rw [hlen]; rfl
    refine (shl_bad hrd hmb).mono ?_
    rintro e w' ⟨rfl, rfl⟩
    go_wp2_with fail
    refine (add_bad1 HRD.out hmb).mono ?_
    rintro e w' ⟨rfl, rfl⟩
    go_wp2_with fail
    refine (may_no HRD.out hmb).mono ?_
    rintro e w' ⟨rfl, rfl⟩
    go_wp2_with fail
    refine (told_any hT2).mono ?_
    rintro e w3 ⟨rfl, hb3⟩
    have hB := hb1.trans (hb3.mono hb1.size)
    clear hrd hlen hcan hval HRD hmb hb1 hb3
    go_wp2
    go_ret
    exact ⟨rfl, hB⟩
  · have hj63 : j ≤ 63 := by omega
    have hN : Nt w2 (some ⟨w.heap.size, 0, none⟩) (j + 1) (j + 1) (W ^ j * t) := by
      have e := dig_val W_two hcan
      rw [hval] at e
      refine ⟨by rw [e]; exact hrd, ?_⟩
      have h1 := val_lt hcan.1
      rw [hval, hlen] at h1
      exact Nat.lt_of_lt_of_le h1 (Nat.pow_le_pow_right (by rw [W_eq]; omega) (by omega))
    have HN := Lib.hid hN
    clear hrd hlen hcan hval HRD
    by_cases hj2 : j = 63
    · subst hj2
      have hne : W ^ 63 * t ≠ 0 := Nat.mul_ne_zero (Nat.ne_of_gt (Nat.pow_pos (by rw [W_eq]; omega))) ht0
      refine (shl_over hN hne (caps_full ht0)).mono ?_
      rintro e w' ⟨rfl, rfl⟩
      clear hN hne
      go_wp2_with fail
      by_cases h63 : t < 9223372036854775808
      · have htop63 : top < 9223372036854775808 := HT63.out.1 h63
        refine (add_ok HN.out HN.out (caps_twice.1 h63)).mono ?_
        rintro e w3 ⟨A3, n3, c3, rfl, hN3, hb3⟩
        have HN3 := Lib.hid (HN.out.below hb3)
        have hB3 := hb1.trans (hb3.mono hb1.size)
        have hT3 := hT.below hB3
        clear h63 hN3 hb3 hb1 hT2 ht0 hj hj63
        go_wp2_with fail
        refine (may_nt HN3.out).mono ?_
        rintro e w' ⟨rfl, rfl⟩
        go_wp2_with fail
        refine (told_any hT3).mono ?_
        rintro e w4 ⟨rfl, hb4⟩
        have hB := hB3.trans (hb4.mono hB3.size)
        clear hb4 hT3 hB3 HN3 HN
        have i1 : (top : Int) < 9223372036854775808 := by omega
        have d1 : decide ((top : Int) < 9223372036854775808) = true := decide_eq_true i1
        clear htop63
        go_wp2
        go_ret
        exact ⟨rfl, hB⟩
      · have htop63 : ¬ top < 9223372036854775808 := fun h => h63 (HT63.out.2 h)
        refine (add_over HN.out HN.out (caps_twice.2 (by omega))).mono ?_
        rintro e w3 ⟨rfl, hb3⟩
        have HN3 := Lib.hid (HN.out.below hb3)
        have hB3 := hb1.trans (hb3.mono hb1.size)
        have hT3 := hT.below hB3
        clear h63 hb3 hb1 hT2 ht0 hj hj63
        go_wp2_with fail
        refine (may_nt HN3.out).mono ?_
        rintro e w' ⟨rfl, rfl⟩
        go_wp2_with fail
        refine (told_any hT3).mono ?_
        rintro e w4 ⟨rfl, hb4⟩
        have hB := hB3.trans (hb4.mono hB3.size)
        clear hb4 hT3 hB3 HN3 HN
        have i1 : (9223372036854775808 : Int) ≤ top := by omega
        have d1 : decide ((top : Int) < 9223372036854775808) = false := decide_eq_false (by omega)
        clear htop63
        go_wp2
        go_ret
        exact ⟨rfl, hB⟩
    · have hj62 : j ≤ 62 := by omega
      have hlow := caps_low (t := t) (by rw [W_eq]; exact htB) hj62
      refine (shl_ok (s := 64) hN (by omega) hlow.1).mono ?_
      rintro e w3 ⟨A3, n3, c3, rfl, hN3, hb3⟩
      have hn3 : n3 = j + 2 := by rw [← hN3.rd.len]; exact caps_len ht0 (by rw [W_eq]; exact htB)
      subst hn3
      have HL := Lib.hid hlow
      have HN3 := Lib.hid (HN.out.below hb3)
      have hB3 := hb1.trans (hb3.mono hb1.size)
      clear hlow hN hN3 hb3 hb1 ht0
      go_wp2_with fail
      refine (add_ok HN3.out HN3.out HL.out.2).mono ?_
      rintro e w4 ⟨A4, n4, c4, rfl, hN4, hb4⟩
      have HN4 := Lib.hid (HN3.out.below hb4)
      have hB4 := hB3.trans (hb4.mono hB3.size)
      have hT4 := hT.below hB4
      clear hN4 hb4 hT2
      have d0 : decide ((j : Int) + 1 ≤ 64) = true := decide_eq_true (by omega)
      go_wp2_with fail
      refine (may_nt HN4.out).mono ?_
      rintro e w' ⟨rfl, rfl⟩
      have f64 : (((j : Int) + 1) == 64) = false := by simp; omega
      go_wp2_with fail
      refine (told_any hT4).mono ?_
      rintro e w5 ⟨rfl, hb5⟩
      have hB := hB4.trans (hb5.mono hB4.size)
      clear hb5 hT4 hB4 HN4 HN3 HN hB3
      have f2 : (((j : Int) + 2) == (j : Int) + 1 + 1) = true := by simp; omega
      go_wp2
      go_ret
      exact ⟨rfl, hB⟩
end Go.Proofs.YtdklekiknhhfdaaDoor
