/-
  Contracts of the reference's Bits, bit, Low, and of nat.Norm, at this translation. Condition: the slices read as digits of sixteen bits, at most ten thousand; as limbs.
-/
import Derived.Test.YtijflbnfikiaaaaGreatDoorRIs
namespace Go.Proofs.YtijflbnfikiaaaaGreatDoor
open Go.RowKit

theorem low_nil {w : World} {A : Option Addr} {c : Nat} (h : Nt w A 0 c 0) :
    Calls Tryz.prog 73 #[.slice A 0 c] w fun e w' => e = .returned (.int .i64 (-1)) ∧ w = w' := by
  go_enter Tryz.func73, Tryz.ntmps73
  go_wp2
  go_step3
  go_wp2_with fail
  refine (may_nt h).mono ?_
  rintro e w' ⟨rfl, rfl⟩
  go_wp2
  go_step3
  go_wp2
  go_loopg [3, 11] 0 (fun _ v3 v wr => v = .int .i64 0 ∧ v3 = .int .i64 0 ∧ w = wr)
  case atStart => exact ⟨rfl, rfl, rfl⟩
  case round =>
    obtain ⟨rfl, rfl, rfl⟩ := hrel
    go_wp2
    rw [Exit.noGoto_ret]
    go_ret
    exact ⟨rfl, rfl⟩

theorem blen_shift {x k : Nat} (h : x ≠ 0) : blen (x * 2 ^ k) = blen x + k := by
  obtain ⟨h1, h2, h3⟩ := blen_pos h
  have hp : 0 < 2 ^ k := Nat.pow_pos Nat.zero_lt_two
  have e : blen x + k = (blen x - 1 + k) + 1 := by omega
  rw [e]
  refine blen_eq ?_ ?_
  · rw [Nat.pow_add]; exact Nat.mul_le_mul_right _ h1
  · have e2 : blen x - 1 + k + 1 = blen x + k := by omega
    rw [e2, Nat.pow_add]
    exact Nat.mul_lt_mul_of_pos_right h2 hp
theorem low_shift {x k l : Nat} (h : IsLow x l) : IsLow (x * 2 ^ k) (l + k) := by
  obtain ⟨m, rfl⟩ := h
  exact ⟨m, by rw [Nat.pow_add, Nat.mul_right_comm]⟩
theorem low_lt {x l m : Nat} (h : IsLow x l) (hx : x < 2 ^ m) : l < m := by
  obtain ⟨a, rfl⟩ := h
  rcases Nat.lt_or_ge l m with h1 | h1
  · exact h1
  · exfalso
    have h2 : 2 ^ m ≤ 2 ^ l := Nat.pow_le_pow_right Nat.zero_lt_two h1
    have h3 : 2 ^ l * 1 ≤ 2 ^ l * (2 * a + 1) := Nat.mul_le_mul_left _ (by omega)
    generalize 2 ^ l * (2 * a + 1) = p at *
    generalize 2 ^ l = q at *
    generalize 2 ^ m = r at *
    omega
theorem pow_mono64 {a b m : Nat} (h : a + b ≤ m) {x : Nat} (hx : x < 2 ^ a) : x * 2 ^ b < 2 ^ m := by
  have h1 : x * 2 ^ b < 2 ^ a * 2 ^ b := Nat.mul_lt_mul_of_pos_right hx (Nat.pow_pos Nat.zero_lt_two)
  rw [← Nat.pow_add] at h1
  exact Nat.lt_of_lt_of_le h1 (Nat.pow_le_pow_right Nat.zero_lt_two h)
theorem shift_fits {x b : Nat} (hx : x < W ^ 20) (h : 64 * 20 + b ≤ 64 * 64) : x * 2 ^ b < W ^ 64 := by
  rw [W64_pow]
  rw [W_pow, ← Nat.pow_mul] at hx
  exact pow_mono64 h hx
theorem one_fits {b : Nat} (h : 64 * 20 + b ≤ 64 * 64) : 1 * 2 ^ b < W ^ 64 := shift_fits (Nat.one_lt_pow (by omega) (by rw [W_eq]; omega)) h
theorem two_fits {x k j q : Nat} (hx : x < W ^ 20) (h : 64 * 20 + q ≤ 64 * 64) (hq : q = k + j) : x * 2 ^ k * 2 ^ j < W ^ 64 ∧ x * 2 ^ k * 2 ^ j = x * 2 ^ q := by
  have e : x * 2 ^ k * 2 ^ j = x * 2 ^ q := by rw [Nat.mul_assoc, ← Nat.pow_add, hq]
  rw [e]
  exact ⟨shift_fits hx h, rfl⟩

theorem rest900 (n : Int) : ∃ r : Nat, IntKind.u64.wrap n % 900 = (r : Int) ∧ r < 900 ∧ (0 : Int) ≤ IntKind.u64.wrap n := by
  refine ⟨(IntKind.u64.wrap n % 900).toNat, ?_, ?_, ?_⟩ <;> rw [IntKind.wrap_u64] <;> omega

end Go.Proofs.YtijflbnfikiaaaaGreatDoor

namespace Go.Proofs.YtijflbnfikiaaaaGreatDoor
open Go.RowKit

theorem blen_topH {l : List Nat} {k t : Nat} (hl : Lt H l) (hn : l.length = k + 1) (ht : t = l.getD k 0) (h0 : t ≠ 0) : blen (val H l) = k * 16 + blen t := by
  have hv := take_val' (B := H) l k
  rw [List.take_of_length_le (by omega), ← ht] at hv
  have hlt := val_lt (hl.take k)
  rw [List.length_take, Nat.min_eq_left (by omega)] at hlt
  obtain ⟨b1, b2, b3⟩ := blen_pos h0
  obtain ⟨j, hj⟩ : ∃ j, blen t = j + 1 := ⟨blen t - 1, by omega⟩
  rw [hj] at b1 b2 ⊢
  rw [Nat.add_sub_cancel] at b1
  have hH : H ^ k = 2 ^ (k * 16) := by rw [H_pow, ← Nat.pow_mul, Nat.mul_comm]
  have e1 : 2 ^ (k * 16 + j) ≤ val H l := by
    rw [Nat.pow_add, ← hH]
    have : H ^ k * 2 ^ j ≤ H ^ k * t := Nat.mul_le_mul_left _ b1
    omega
  have e2 : val H l < 2 ^ (k * 16 + j + 1) := by
    rw [Nat.add_assoc, Nat.pow_add, ← hH]
    have : H ^ k * (t + 1) ≤ H ^ k * 2 ^ (j + 1) := Nat.mul_le_mul_left _ b2
    rw [Nat.mul_add, Nat.mul_one] at this
    omega
  rw [blen_eq e1 e2, Nat.add_assoc]


theorem blen_half {y : Nat} (h : y ≠ 0) : blen y = blen (y / 2) + 1 := by
  unfold blen
  rw [dig_pos (by omega) h, List.length_cons]

theorem Dg.len {w : World} {A : Option Addr} {n c x : Nat} (h : Dg w A n c x) : (dig H x).length = n := Rd.len h
theorem Dg.cap {w : World} {A : Option Addr} {n c x : Nat} (h : Dg w A n c x) : n ≤ c := Rd.cap h
theorem Dg.max {w : World} {A : Option Addr} {n c x : Nat} (h : Dg w A n c x) : c ≤ 9223372036854775807 := Rd.max h
theorem Dg.zero {w : World} {A : Option Addr} {n c x : Nat} (h : Dg w A n c x) : n = 0 ↔ x = 0 := by
  rw [← h.len]; exact dig_len_zero H_two
theorem Dg.lt {w : World} {A : Option Addr} {n c x : Nat} (h : Dg w A n c x) : x < H ^ n := (len_dig H_two x n).1 (by rw [h.len]; exact Nat.le_refl _)

theorem rbits_any {w : World} {A : Option Addr} {n c x : Nat} (h : Dg w A n c x) (hn : n ≤ 10000) :
    Calls Tryz.prog 92 #[.slice A n c] w fun e w' => e = .returned (.int .i64 (blen x : Int)) ∧ w = w' := by
  have hcap := h.cap
  have hmax := h.max
  by_cases h0 : n = 0
  · have hx := h.zero.1 h0
    rw [hx, blen_zero]
    subst h0
    go_enter Tryz.func92, Tryz.ntmps92
    go_wp2
    go_ret
    exact ⟨rfl, rfl⟩
  · obtain ⟨b, o, rfl, hb, hc⟩ := Rd.at_ h h0
    obtain ⟨k, rfl⟩ : ∃ k, n = k + 1 := ⟨n - 1, by omega⟩
    obtain ⟨t, ht⟩ : ∃ t, t = (dig H x).getD k 0 := ⟨_, rfl⟩
    have hcell : w.cell? ⟨b, o + k, none⟩ = some (.int .u32 (t : Int)) := by rw [ht]; exact hc k (by omega)
    have htB : t < 65536 := by rw [ht, ← H_eq]; exact (lt_dig H_two x).getD (by rw [H_eq]; omega) _
    have ht0 : t ≠ 0 := by
      have := (can_dig H_two x).2 (by rw [h.len]; omega)
      rw [h.len, Nat.add_sub_cancel, ← ht] at this
      exact this
    have hbl := blen_topH (lt_dig H_two x) h.len ht ht0
    rw [val_dig H_two] at hbl
    have HB := Lib.hid hbl
    have hb16 : blen t ≤ 16 := (blen_le _ _).2 (by omega)
    have HT16 := Lib.hid hb16
    have b0 : (((k : Int) + 1) == 0) = false := by simp; omega
    clear hc ht hbl hb16 h0
    go_enter Tryz.func92, Tryz.ntmps92
    go_wp2
    go_loopg [3, 4] t (fun g v3 v4 wr => ∃ y m : Nat, y ≤ g ∧ y < 65536 ∧ m + blen y = blen x ∧ m ≤ 1000000 ∧ v4 = .int .u32 y ∧ v3 = .int .i64 m ∧ w = wr)
    case atStart => exact ⟨t, k * 16, Nat.le_refl _, htB, by rw [HB.out], by omega, rfl, by go_num, rfl⟩
    case round =>
      obtain ⟨y, m, hg, hy6, hm, hm6, rfl, rfl, rfl⟩ := hrel
      have HG := Lib.hid hg
      by_cases hy0 : y = 0
      · subst hy0
        rw [blen_zero, Nat.add_zero] at hm
        subst hm
        go_wp2
        go_ret
        exact ⟨rfl, rfl⟩
      · have hh := blen_half hy0
        have hp : 0 < y := by omega
        have d0 : decide (0 < y) = true := decide_eq_true hp
        have HH := Lib.hid hh
        have HM := Lib.hid hm
        have hm5 : m + 1 ≤ 1000000 := by have := HB.out; have := HT16.out; omega
        clear hh hg hm hy0
        go_wp2
        go_roundg (y / 2)
        case measure => have := HG.out; omega
        case rel => exact ⟨y / 2, m + 1, Nat.le_refl _, by omega, by have := HM.out; have := HH.out; omega, hm5, by go_num, by go_num, rfl⟩

theorem dig_getD {B : Nat} (hB : 2 ≤ B) (x j : Nat) : (dig B x).getD j 0 = x / B ^ j % B := by
  induction j generalizing x with
  | zero =>
    by_cases h0 : x = 0
    · subst h0; rw [dig_zero]; simp
    · rw [dig_pos hB h0]; simp
  | succ j ih =>
    by_cases h0 : x = 0
    · subst h0; rw [dig_zero]; simp
    · rw [dig_pos hB h0, List.getD_cons_succ, ih, Nat.div_div_eq_div_mul, Nat.pow_succ, Nat.mul_comm]
theorem bit_of {x i : Nat} : (dig H x).getD (i / 16) 0 / 2 ^ (i % 16) % 2 = x / 2 ^ i % 2 := by
  rw [dig_getD H_two]
  have hr : i % 16 < 16 := Nat.mod_lt _ (by omega)
  have hi : 2 ^ i = H ^ (i / 16) * 2 ^ (i % 16) := by
    rw [H_pow, ← Nat.pow_mul, ← Nat.pow_add, Nat.div_add_mod]
  have hH : H = 2 ^ (i % 16) * 2 ^ (16 - i % 16) := by rw [H_pow, ← Nat.pow_add]; congr 1; omega
  rw [hi, ← Nat.div_div_eq_div_mul]
  generalize x / H ^ (i / 16) = z
  rw [hH, Nat.mod_mul_right_div_self]
  obtain ⟨k, hk⟩ : ∃ k, 16 - i % 16 = k + 1 := ⟨15 - i % 16, by omega⟩
  rw [hk, Nat.pow_succ, Nat.mul_comm, Nat.mod_mul_right_mod]

theorem one_mask {d r : Nat} (hd : d < 4294967296) : bits .and .u32 ((d : Int) / 2 ^ r) 1 = ((d / 2 ^ r % 2 : Nat) : Int) := by
  have e : ((2 : Int) ^ r) = ((2 ^ r : Nat) : Int) := by rw [Int.natCast_pow]; rfl
  rw [e, ← Int.natCast_ediv]
  have hz : d / 2 ^ r < 4294967296 := Nat.lt_of_le_of_lt (Nat.div_le_self _ _) hd
  generalize d / 2 ^ r = z at *
  have h := bits_mask .u32 32 (by decide) (fun n h0 h1 => by rw [IntKind.wrap_u32]; omega) 1 (by decide) (z : Int) (by omega) (by omega)
  have e : (2 : Int) ^ 1 - 1 = 1 := by decide
  rw [e] at h
  rw [h]
  omega

theorem low_bit {x i k : Nat} (h : IsLow x k) : (i < k → x / 2 ^ i % 2 = 0) ∧ x / 2 ^ k % 2 = 1 := by
  obtain ⟨m, rfl⟩ := h
  constructor
  · intro hi
    obtain ⟨d, rfl⟩ : ∃ d, k = i + (d + 1) := ⟨k - i - 1, by omega⟩
    rw [Nat.pow_add, Nat.mul_assoc, Nat.mul_div_cancel_left _ (Nat.pow_pos Nat.zero_lt_two), Nat.pow_succ, Nat.mul_comm (2 ^ d) 2, Nat.mul_assoc, Nat.mul_mod_right]
  · rw [Nat.mul_div_cancel_left _ (Nat.pow_pos Nat.zero_lt_two)]
    omega
theorem low_has {x : Nat} (h : x ≠ 0) : ∃ k, IsLow x k := by
  induction x using Nat.strongRecOn with
  | ind x ih =>
    by_cases h2 : x % 2 = 1
    · exact ⟨0, x / 2, by rw [Nat.pow_zero]; omega⟩
    · obtain ⟨k, m, hm⟩ := ih (x / 2) (by omega) (by omega)
      exact ⟨k + 1, m, by rw [Nat.pow_succ, Nat.mul_comm (2 ^ k) 2, Nat.mul_assoc, ← hm]; omega⟩

end Go.Proofs.YtijflbnfikiaaaaGreatDoor
