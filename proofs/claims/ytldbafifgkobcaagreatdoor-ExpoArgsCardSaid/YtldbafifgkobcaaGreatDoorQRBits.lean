/-
 Contracts of the reference's Bits, bit, Low, and of nat.Norm, at this translation. Condition: the slices read as digits of sixteen bits, at most ten thousand; as limbs.
-/
import Derived.Test.YtldbafifgkobcaaGreatDoorQRIs
namespace Go.Proofs.YtldbafifgkobcaaGreatDoor
open Go.RowKit

theorem low_lt {x l m : Nat} (h : IsLow x l) (hx : x < 2 ^ m) : l < m := by
 obtain ⟨a, rfl⟩ := h
 rcases Nat.lt_or_ge l m with h1 | h1
 ·exact h1
 ·exfalso
  have h2 : 2 ^ m ≤ 2 ^ l := Nat.pow_le_pow_right Nat.zero_lt_two h1
  have h3 : 2 ^ l * 1 ≤ 2 ^ l * (2 * a + 1) := Nat.mul_le_mul_left _ (by omega)
  generalize 2 ^ l * (2 * a + 1) = p at *
  generalize 2 ^ l = q at *
  generalize 2 ^ m = r at *
  omega
end Go.Proofs.YtldbafifgkobcaaGreatDoor

namespace Go.Proofs.YtldbafifgkobcaaGreatDoor
open Go.RowKit

theorem norm_any {w : World} {A : Option Addr} {n c : Nat} {l : List Nat} (h : Rd w .u64 W A n c l) (hn : n ≤ 1000000) :
  Calls Tryz.prog 161 #[.slice A n c] w fun e w' => ∃ A' n' c', e = .returned (.slice A' n' c') ∧ Rd w' .u64 W A' n' c' (dig W (val W l)) ∧ Below w.heap.size w w' := by
 have ht := rd_trimmed h
 have hle := (take_dig W_two h.lt).1
 rw [h.len] at hle
 go_enter Tryz.func161, Tryz.ntmps161
 go_wp2_with fail
 refine (trimmed_any h).mono ?_
 rintro e w' ⟨rfl, rfl⟩
 go_wp2_with fail
 refine (clone_any ht (by omega)).mono ?_
 rintro e w1 ⟨A', c', rfl, hr, hb, _⟩
 go_wp2
 go_ret
 exact ⟨_, _, _, rfl, hr, hb⟩

theorem blen_topH {l : List Nat} {k t : Nat} (hl : Lt H l) (hn : l.length = k + 1) (ht : t = l.getD k 0) (h0 : t ≠ 0) : blen (val H l) = k * 16 + blen t := by
 have hv := take_val' (B := H) l k
 rw [List.take_of_length_le (by omega), ← ht] at hv
 have hlt := val_lt (hl.take k)
 rw [List.length_take, Nat.min_eq_left (by omega)] at hlt
 obtain ⟨b1, b2, b3⟩ := blen_pos h0
 obtain ⟨j, hj⟩ : ∃ j, blen t = j + 1 := ⟨blen t - 1, by omega⟩
 rw [hj] at b1 b2 ⊢
 rw [Nat.add_sub_cancel] at b1
 have hH : H ^ k = 2 ^ (k * 16) := by rw [H_pow, ← Nat.pow_mul, Nat.mul_comm]
 have e1 : 2 ^ (k * 16 + j) ≤ val H l := by
  rw [Nat.pow_add, ← hH]
  have : H ^ k * 2 ^ j ≤ H ^ k * t := Nat.mul_le_mul_left _ b1
  omega
 have e2 : val H l < 2 ^ (k * 16 + j + 1) := by
  rw [Nat.add_assoc, Nat.pow_add, ← hH]
  have : H ^ k * (t + 1) ≤ H ^ k * 2 ^ (j + 1) := Nat.mul_le_mul_left _ b2
  rw [Nat.mul_add, Nat.mul_one] at this
  omega
 rw [blen_eq e1 e2, Nat.add_assoc]


theorem blen_half {y : Nat} (h : y ≠ 0) : blen y = blen (y / 2) + 1 := by
 unfold blen
 rw [dig_pos (by omega) h, List.length_cons]

theorem Dg.len {w : World} {A : Option Addr} {n c x : Nat} (h : Dg w A n c x) : (dig H x).length = n := Rd.len h
theorem Dg.cap {w : World} {A : Option Addr} {n c x : Nat} (h : Dg w A n c x) : n ≤ c := Rd.cap h
theorem Dg.max {w : World} {A : Option Addr} {n c x : Nat} (h : Dg w A n c x) : c ≤ 9223372036854775807 := Rd.max h
theorem Dg.zero {w : World} {A : Option Addr} {n c x : Nat} (h : Dg w A n c x) : n = 0 ↔ x = 0 := by
 rw [← h.len]; exact dig_len_zero H_two
theorem Dg.lt {w : World} {A : Option Addr} {n c x : Nat} (h : Dg w A n c x) : x < H ^ n := (len_dig H_two x n).1 (by rw [h.len]; exact Nat.le_refl _)

theorem rbits_any {w : World} {A : Option Addr} {n c x : Nat} (h : Dg w A n c x) (hn : n ≤ 10000) :
  Calls Tryz.prog 95 #[.slice A n c] w fun e w' => e = .returned (.int .i64 (blen x : Int)) ∧ w = w' := by
 have hcap := h.cap
 have hmax := h.max
 by_cases h0 : n = 0
 ·have hx := h.zero.1 h0
  rw [hx, blen_zero]
  subst h0
  go_enter Tryz.func95, Tryz.ntmps95
  go_wp2
  go_ret
  exact ⟨rfl, rfl⟩
 ·obtain ⟨b, o, rfl, hb, hc⟩ := Rd.at_ h h0
  obtain ⟨k, rfl⟩ : ∃ k, n = k + 1 := ⟨n - 1, by omega⟩
  obtain ⟨t, ht⟩ : ∃ t, t = (dig H x).getD k 0 := ⟨_, rfl⟩
  have hcell : w.cell? ⟨b, o + k, none⟩ = some (.int .u32 (t : Int)) := by rw [ht]; exact hc k (by omega)
  have htB : t < 65536 := by rw [ht, ← H_eq]; exact (lt_dig H_two x).getD (by rw [H_eq]; omega) _
  have ht0 : t ≠ 0 := by
   have := (can_dig H_two x).2 (by rw [h.len]; omega)
   rw [h.len, Nat.add_sub_cancel, ← ht] at this
   exact this
  have hbl := blen_topH (lt_dig H_two x) h.len ht ht0
  rw [val_dig H_two] at hbl
  have HB := Lib.hid hbl
  have hb16 : blen t ≤ 16 := (blen_le _ _).2 (by omega)
  have HT16 := Lib.hid hb16
  have b0 : (((k : Int) + 1) == 0) = false := by simp; omega
  clear hc ht hbl hb16 h0
  go_enter Tryz.func95, Tryz.ntmps95
  go_wp2
  go_loopg [3, 4] t (fun g v3 v4 wr => ∃ y m : Nat, y ≤ g ∧ y < 65536 ∧ m + blen y = blen x ∧ m ≤ 1000000 ∧ v4 = .int .u32 y ∧ v3 = .int .i64 m ∧ w = wr)
  case atStart => exact ⟨t, k * 16, Nat.le_refl _, htB, by rw [HB.out], by omega, rfl, by go_num, rfl⟩
  case round =>
   obtain ⟨y, m, hg, hy6, hm, hm6, rfl, rfl, rfl⟩ := hrel
   have HG := Lib.hid hg
   by_cases hy0 : y = 0
   ·subst hy0
    rw [blen_zero, Nat.add_zero] at hm
    subst hm
    go_wp2
    go_ret
    exact ⟨rfl, rfl⟩
   ·have hh := blen_half hy0
    have hp : 0 < y := by omega
    have d0 : decide (0 < y) = true := decide_eq_true hp
    have HH := Lib.hid hh
    have HM := Lib.hid hm
    have hm5 : m + 1 ≤ 1000000 := by have := HB.out; have := HT16.out; omega
    clear hh hg hm hy0
    go_wp2
    go_roundg (y / 2)
    case measure => have := HG.out; omega
    case rel => exact ⟨y / 2, m + 1, Nat.le_refl _, by omega, by have := HM.out; have := HH.out; omega, hm5, by go_num, by go_num, rfl⟩

theorem low_has {x : Nat} (h : x ≠ 0) : ∃ k, IsLow x k := by
 induction x using Nat.strongRecOn with
 | ind x ih =>
  by_cases h2 : x % 2 = 1
  ·exact ⟨0, x / 2, by rw [Nat.pow_zero]; omega⟩
  ·obtain ⟨k, m, hm⟩ := ih (x / 2) (by omega) (by omega)
   exact ⟨k + 1, m, by rw [Nat.pow_succ, Nat.mul_comm (2 ^ k) 2, Nat.mul_assoc, ← hm]; omega⟩

end Go.Proofs.YtldbafifgkobcaaGreatDoor
