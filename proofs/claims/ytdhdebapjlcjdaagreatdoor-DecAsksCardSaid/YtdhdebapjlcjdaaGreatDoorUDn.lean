/-
 Contracts of the reference's Bits, bit, Low, and of nat.Norm, at this translation. Condition: the slices read as digits of sixteen bits, at most ten thousand; as limbs.
-/
import Derived.Test.YtdhdebapjlcjdaaGreatDoorURIs
namespace Go.Proofs.YtdhdebapjlcjdaaGreatDoor
open Go.RowKit

theorem blen_shift {x k : Nat} (h : x ≠ 0) : blen (x * 2 ^ k) = blen x + k := by
 obtain ⟨h1, h2, h3⟩ := blen_pos h
 have hp : 0 < 2 ^ k := Nat.pow_pos Nat.zero_lt_two
 have e : blen x + k = (blen x - 1 + k) + 1 := by omega
 rw [e]
 refine blen_eq ?_ ?_
 ·rw [Nat.pow_add]; exact Nat.mul_le_mul_right _ h1
 ·have e2 : blen x - 1 + k + 1 = blen x + k := by omega
  rw [e2, Nat.pow_add]
  exact Nat.mul_lt_mul_of_pos_right h2 hp
theorem low_lt {x l m : Nat} (h : IsLow x l) (hx : x < 2 ^ m) : l < m := by
 obtain ⟨a, rfl⟩ := h
 rcases Nat.lt_or_ge l m with h1 | h1
 ·exact h1
 ·exfalso
  have h2 : 2 ^ m ≤ 2 ^ l := Nat.pow_le_pow_right Nat.zero_lt_two h1
  have h3 : 2 ^ l * 1 ≤ 2 ^ l * (2 * a + 1) := Nat.mul_le_mul_left _ (by omega)
  generalize 2 ^ l * (2 * a + 1) = p at *
  generalize 2 ^ l = q at *
  generalize 2 ^ m = r at *
  omega
end Go.Proofs.YtdhdebapjlcjdaaGreatDoor

namespace Go.Proofs.YtdhdebapjlcjdaaGreatDoor
open Go.RowKit

theorem norm_any {w : World} {A : Option Addr} {n c : Nat} {l : List Nat} (h : Rd w .u64 W A n c l) (hn : n ≤ 1000000) :
  Calls Tryz.prog 96 #[.slice A n c] w fun e w' => ∃ A' n' c', e = .returned (.slice A' n' c') ∧ Rd w' .u64 W A' n' c' (dig W (val W l)) ∧ Below w.heap.size w w' := by
 have ht := rd_trimmed h
 have hle := (take_dig W_two h.lt).1
 rw [h.len] at hle
 go_enter Tryz.func96, Tryz.ntmps96
 go_wp2_with fail
 refine (trimmed_any h).mono ?_
 rintro e w' ⟨rfl, rfl⟩
 go_wp2_with fail
 refine (clone_any ht (by omega)).mono ?_
 rintro e w1 ⟨A', c', rfl, hr, hb, _⟩
 go_wp2
 go_ret
 exact ⟨_, _, _, rfl, hr, hb⟩

theorem blen_topH {l : List Nat} {k t : Nat} (hl : Lt H l) (hn : l.length = k + 1) (ht : t = l.getD k 0) (h0 : t ≠ 0) : blen (val H l) = k * 16 + blen t := by
 have hv := take_val' (B := H) l k
 rw [List.take_of_length_le (by omega), ← ht] at hv
 have hlt := val_lt (hl.take k)
 rw [List.length_take, Nat.min_eq_left (by omega)] at hlt
 obtain ⟨b1, b2, b3⟩ := blen_pos h0
 obtain ⟨j, hj⟩ : ∃ j, blen t = j + 1 := ⟨blen t - 1, by omega⟩
 rw [hj] at b1 b2 ⊢
 rw [Nat.add_sub_cancel] at b1
 have hH : H ^ k = 2 ^ (k * 16) := by rw [H_pow, ← Nat.pow_mul, Nat.mul_comm]
 have e1 : 2 ^ (k * 16 + j) ≤ val H l := by
  rw [Nat.pow_add, ← hH]
  have : H ^ k * 2 ^ j ≤ H ^ k * t := Nat.mul_le_mul_left _ b1
  omega
 have e2 : val H l < 2 ^ (k * 16 + j + 1) := by
  rw [Nat.add_assoc, Nat.pow_add, ← hH]
  have : H ^ k * (t + 1) ≤ H ^ k * 2 ^ (j + 1) := Nat.mul_le_mul_left _ b2
  rw [Nat.mul_add, Nat.mul_one] at this
  omega
 rw [blen_eq e1 e2, Nat.add_assoc]


theorem blen_half {y : Nat} (h : y ≠ 0) : blen y = blen (y / 2) + 1 := by
 unfold blen
 rw [dig_pos (by omega) h, List.length_cons]

theorem Dg.len {w : World} {A : Option Addr} {n c x : Nat} (h : Dg w A n c x) : (dig H x).length = n := Rd.len h
theorem Dg.cap {w : World} {A : Option Addr} {n c x : Nat} (h : Dg w A n c x) : n ≤ c := Rd.cap h
theorem Dg.max {w : World} {A : Option Addr} {n c x : Nat} (h : Dg w A n c x) : c ≤ 9223372036854775807 := Rd.max h
theorem Dg.zero {w : World} {A : Option Addr} {n c x : Nat} (h : Dg w A n c x) : n = 0 ↔ x = 0 := by
 rw [← h.len]; exact dig_len_zero H_two
theorem Dg.lt {w : World} {A : Option Addr} {n c x : Nat} (h : Dg w A n c x) : x < H ^ n := (len_dig H_two x n).1 (by rw [h.len]; exact Nat.le_refl _)

theorem rbits_any {w : World} {A : Option Addr} {n c x : Nat} (h : Dg w A n c x) (hn : n ≤ 10000) :
  Calls Tryz.prog 68 #[.slice A n c] w fun e w' => e = .returned (.int .i64 (blen x : Int)) ∧ w = w' := by
 have hcap := h.cap
 have hmax := h.max
 by_cases h0 : n = 0
 ·have hx := h.zero.1 h0
  rw [hx, blen_zero]
  subst h0
  go_enter Tryz.func68, Tryz.ntmps68
  go_wp2
  go_ret
  exact ⟨rfl, rfl⟩
 ·obtain ⟨b, o, rfl, hb, hc⟩ := Rd.at_ h h0
  obtain ⟨k, rfl⟩ : ∃ k, n = k + 1 := ⟨n - 1, by omega⟩
  obtain ⟨t, ht⟩ : ∃ t, t = (dig H x).getD k 0 := ⟨_, rfl⟩
  have hcell : w.cell? ⟨b, o + k, none⟩ = some (.int .u32 (t : Int)) := by rw [ht]; exact hc k (by omega)
  have htB : t < 65536 := by rw [ht, ← H_eq]; exact (lt_dig H_two x).getD (by rw [H_eq]; omega) _
  have ht0 : t ≠ 0 := by
   have := (can_dig H_two x).2 (by rw [h.len]; omega)
   rw [h.len, Nat.add_sub_cancel, ← ht] at this
   exact this
  have hbl := blen_topH (lt_dig H_two x) h.len ht ht0
  rw [val_dig H_two] at hbl
  have HB := Lib.hid hbl
  have hb16 : blen t ≤ 16 := (blen_le _ _).2 (by omega)
  have HT16 := Lib.hid hb16
  have b0 : (((k : Int) + 1) == 0) = false := by simp; omega
  clear hc ht hbl hb16 h0
  go_enter Tryz.func68, Tryz.ntmps68
  go_wp2
  go_loopg [3, 4] t (fun g v3 v4 wr => ∃ y m : Nat, y ≤ g ∧ y < 65536 ∧ m + blen y = blen x ∧ m ≤ 1000000 ∧ v4 = .int .u32 y ∧ v3 = .int .i64 m ∧ w = wr)
  case atStart => exact ⟨t, k * 16, Nat.le_refl _, htB, by rw [HB.out], by omega, rfl, by go_num, rfl⟩
  case round =>
   obtain ⟨y, m, hg, hy6, hm, hm6, rfl, rfl, rfl⟩ := hrel
   have HG := Lib.hid hg
   by_cases hy0 : y = 0
   ·subst hy0
    rw [blen_zero, Nat.add_zero] at hm
    subst hm
    go_wp2
    go_ret
    exact ⟨rfl, rfl⟩
   ·have hh := blen_half hy0
    have hp : 0 < y := by omega
    have d0 : decide (0 < y) = true := decide_eq_true hp
    have HH := Lib.hid hh
    have HM := Lib.hid hm
    have hm5 : m + 1 ≤ 1000000 := by have := HB.out; have := HT16.out; omega
    clear hh hg hm hy0
    go_wp2
    go_roundg (y / 2)
    case measure => have := HG.out; omega
    case rel => exact ⟨y / 2, m + 1, Nat.le_refl _, by omega, by have := HM.out; have := HH.out; omega, hm5, by go_num, by go_num, rfl⟩

theorem dig_getD {B : Nat} (hB : 2 ≤ B) (x j : Nat) : (dig B x).getD j 0 = x / B ^ j % B := by
 induction j generalizing x with
 | zero =>
  by_cases h0 : x = 0
  ·subst h0; rw [dig_zero]; simp
  ·rw [dig_pos hB h0]; simp
 | succ j ih =>
  by_cases h0 : x = 0
  ·subst h0; rw [dig_zero]; simp
  ·rw [dig_pos hB h0, List.getD_cons_succ, ih, Nat.div_div_eq_div_mul, Nat.pow_succ, Nat.mul_comm]
theorem bit_of {x i : Nat} : (dig H x).getD (i / 16) 0 / 2 ^ (i % 16) % 2 = x / 2 ^ i % 2 := by
 rw [dig_getD H_two]
 have hr : i % 16 < 16 := Nat.mod_lt _ (by omega)
 have hi : 2 ^ i = H ^ (i / 16) * 2 ^ (i % 16) := by
  rw [H_pow, ← Nat.pow_mul, ← Nat.pow_add, Nat.div_add_mod]
 have hH : H = 2 ^ (i % 16) * 2 ^ (16 - i % 16) := by rw [H_pow, ← Nat.pow_add]; congr 1; omega
 rw [hi, ← Nat.div_div_eq_div_mul]
 generalize x / H ^ (i / 16) = z
 rw [hH, Nat.mod_mul_right_div_self]
 obtain ⟨k, hk⟩ : ∃ k, 16 - i % 16 = k + 1 := ⟨15 - i % 16, by omega⟩
 rw [hk, Nat.pow_succ, Nat.mul_comm, Nat.mod_mul_right_mod]

theorem one_mask {d r : Nat} (hd : d < 4294967296) : bits .and .u32 ((d : Int) / 2 ^ r) 1 = ((d / 2 ^ r % 2 : Nat) : Int) := by
 have e : ((2 : Int) ^ r) = ((2 ^ r : Nat) : Int) := by rw [Int.natCast_pow]; rfl
 rw [e, ← Int.natCast_ediv]
 have hz : d / 2 ^ r < 4294967296 := Nat.lt_of_le_of_lt (Nat.div_le_self _ _) hd
 generalize d / 2 ^ r = z at *
 have h := bits_mask .u32 32 (by decide) (fun n h0 h1 => by rw [IntKind.wrap_u32]; omega) 1 (by decide) (z : Int) (by omega) (by omega)
 have e : (2 : Int) ^ 1 - 1 = 1 := by decide
 rw [e] at h
 rw [h]
 omega

theorem rbit_any {w : World} {A : Option Addr} {n c x i : Nat} (h : Dg w A n c x) (hi : i ≤ 1000000) :
  Calls Tryz.prog 74 #[.slice A n c, .int .i64 i] w fun e w' => e = .returned (.int .u32 ((x / 2 ^ i % 2 : Nat) : Int)) ∧ w = w' := by
 have hcap := h.cap
 have hmax := h.max
 obtain ⟨q, hq⟩ : ∃ q, q = i / 16 := ⟨_, rfl⟩
 obtain ⟨r, hr⟩ : ∃ r, r = i % 16 := ⟨_, rfl⟩
 have e1 : (i : Int) / 16 = (q : Int) := by omega
 have e2 : (i : Int) % 16 = (r : Int) := by omega
 have hr4 : r < 16 := by omega
 by_cases hle : n ≤ q
 ·have HZ : Hid (x / 2 ^ i % 2 = 0) := by
   have h1 := h.lt
   have h2 : x < 2 ^ i := by
    rw [H_pow, ← Nat.pow_mul] at h1
    exact Nat.lt_of_lt_of_le h1 (Nat.pow_le_pow_right (by omega) (by omega))
   rw [Nat.div_eq_of_lt h2]
   exact Lib.hid rfl
  have i1 : (n : Int) ≤ q := by omega
  have d1 : decide (n ≤ q) = true := decide_eq_true hle
  clear hq hr
  go_enter Tryz.func74, Tryz.ntmps74
  go_wp2
  go_ret
  rw [HZ.out]
  exact ⟨rfl, rfl⟩
 ·obtain ⟨b, o, rfl, hb, hc⟩ := Rd.at_ h (by omega)
  obtain ⟨d, hd⟩ : ∃ d, d = (dig H x).getD q 0 := ⟨_, rfl⟩
  have hcell : w.cell? ⟨b, o + q, none⟩ = some (.int .u32 (d : Int)) := by rw [hd]; exact hc q (by omega)
  have hB : Hid (d / 2 ^ r % 2 = x / 2 ^ i % 2) := by rw [hd, hq, hr]; exact Lib.hid bit_of
  have hlt : q < n := by omega
  have hdB : d < 65536 := by rw [hd, ← H_eq]; exact (lt_dig H_two x).getD (by rw [H_eq]; omega) _
  have hE : bits .and .u32 ((d : Int) / 2 ^ r) 1 = ((x / 2 ^ i % 2 : Nat) : Int) := by rw [one_mask (by omega), hB.out]
  have d1 : decide (n ≤ q) = false := decide_eq_false hle
  clear hc hd hq hr
  go_enter Tryz.func74, Tryz.ntmps74
  go_wp2
  go_ret
  exact ⟨rfl, rfl⟩

theorem low_bit {x i k : Nat} (h : IsLow x k) : (i < k → x / 2 ^ i % 2 = 0) ∧ x / 2 ^ k % 2 = 1 := by
 obtain ⟨m, rfl⟩ := h
 constructor
 ·intro hi
  obtain ⟨d, rfl⟩ : ∃ d, k = i + (d + 1) := ⟨k - i - 1, by omega⟩
  rw [Nat.pow_add, Nat.mul_assoc, Nat.mul_div_cancel_left _ (Nat.pow_pos Nat.zero_lt_two), Nat.pow_succ, Nat.mul_comm (2 ^ d) 2, Nat.mul_assoc, Nat.mul_mod_right]
 ·rw [Nat.mul_div_cancel_left _ (Nat.pow_pos Nat.zero_lt_two)]
  omega
theorem low_has {x : Nat} (h : x ≠ 0) : ∃ k, IsLow x k := by
 induction x using Nat.strongRecOn with
 | ind x ih =>
  by_cases h2 : x % 2 = 1
  ·exact ⟨0, x / 2, by rw [Nat.pow_zero]; omega⟩
  ·obtain ⟨k, m, hm⟩ := ih (x / 2) (by omega) (by omega)
   exact ⟨k + 1, m, by rw [Nat.pow_succ, Nat.mul_comm (2 ^ k) 2, Nat.mul_assoc, ← hm]; omega⟩

theorem rlow_any {w : World} {A : Option Addr} {n c x k : Nat} (h : Dg w A n c x) (hn : n ≤ 10000) (hk : IsLow x k) :
  Calls Tryz.prog 65 #[.slice A n c] w fun e w' => e = .returned (.int .i64 (k : Int)) ∧ w = w' := by
 have hlt : k < 16 * n := by
  refine low_lt hk ?_
  have := h.lt
  rwa [H_pow, ← Nat.pow_mul] at this
 have HK := Lib.hid hk
 clear hk
 go_enter Tryz.func65, Tryz.ntmps65
 go_wp2
 go_loopg [3] k (fun g v wr => ∃ i : Nat, i + g = k ∧ v = .int .i64 i ∧ w = wr)
 case atStart => exact ⟨0, by omega, rfl, rfl⟩
 case round =>
  obtain ⟨i, hg, rfl, rfl⟩ := hrel
  have hik : i ≤ k := by omega
  have HG := Lib.hid hg
  clear hg
  go_wp2_with fail
  refine (rbit_any h (by omega)).mono ?_
  rintro e w' ⟨rfl, rfl⟩
  by_cases he : i = k
  ·subst he
   rw [(low_bit (i := i) HK.out).2]
   go_wp2
   go_ret
   exact ⟨rfl, rfl⟩
  ·rw [(low_bit (i := i) HK.out).1 (by omega)]
   go_wp2
   go_roundg (k - (i + 1))
   case measure => have := HG.out; omega
   case rel => exact ⟨i + 1, by omega, by go_num, rfl⟩
end Go.Proofs.YtdhdebapjlcjdaaGreatDoor
namespace Go.Proofs.YtdhdebapjlcjdaaGreatDoor

def sg (s : Bool) : Int := if s then -1 else 1
/-- (-1)^s times m times 2^e, times 2^K -/
def vz (K : Nat) (s : Bool) (m : Nat) (e : Int) : Int := sg s * ((m * 2 ^ (e + K).toNat : Nat) : Int)
/-- a number that may be -/
def OkD (s : Bool) (m : Nat) (e : Int) : Prop := (m = 0 ∧ s = false ∧ e = 0) ∨ (m % 2 = 1 ∧ m < W ^ 64 ∧ -1048576 ≤ e ∧ e ≤ 1048576)
/-- the one form of (-1)^s m 2^e, with what is told of it: c -/
def Nm (s : Bool) (m : Nat) (e : Int) (c : Int) (s' : Bool) (m' : Nat) (e' : Int) : Prop :=
 (m = 0 ∧ c = 0 ∧ s' = false ∧ m' = 0 ∧ e' = 0) ∨
 ∃ k q : Nat, m = 2 ^ k * (2 * q + 1) ∧
  ((W ^ 64 ≤ 2 * q + 1 ∧ c = 2 ∧ s' = false ∧ m' = 0 ∧ e' = 0) ∨
   (2 * q + 1 < W ^ 64 ∧ ¬ (-1048576 ≤ e + k ∧ e + k ≤ 1048576) ∧ c = 3 ∧ s' = false ∧ m' = 0 ∧ e' = 0) ∨
   (2 * q + 1 < W ^ 64 ∧ (-1048576 ≤ e + k ∧ e + k ≤ 1048576) ∧ c = 0 ∧ s' = s ∧ m' = 2 * q + 1 ∧ e' = e + k))
/-- the same, of a value -/
def NmV (K : Nat) (V : Int) (c : Int) (s' : Bool) (m' : Nat) (e' : Int) : Prop := ∃ s m e, -(K : Int) ≤ e ∧ vz K s m e = V ∧ Nm s m e c s' m' e'

theorem sg_mul (s t : Bool) : sg s * sg t = sg (s != t) := by cases s <;> cases t <;> rfl
theorem sg_not (s : Bool) : sg (!s) = - sg s := by cases s <;> rfl
theorem sg_cases (s : Bool) : (s = false ∧ sg s = 1) ∨ (s = true ∧ sg s = -1) := by cases s <;> simp [sg]
theorem vz_zero (K : Nat) (s : Bool) (e : Int) : vz K s 0 e = 0 := by simp [vz]
theorem vz_not (K : Nat) (s : Bool) (m : Nat) (e : Int) : vz K (!s) m e = - vz K s m e := by unfold vz; rw [sg_not, Int.neg_mul]
theorem vz_up {K : Nat} {s : Bool} {m : Nat} {e : Int} (he : -(K : Int) ≤ e) (k : Nat) : vz K s m (e + k) = vz K s (m * 2 ^ k) e := by
 unfold vz
 have e1 : (e + k + K).toNat = k + (e + K).toNat := by omega
 rw [e1, Nat.pow_add, Nat.mul_assoc]
theorem vz_eq_zero {K : Nat} {s : Bool} {m : Nat} {e : Int} : vz K s m e = 0 ↔ m = 0 := by
 unfold vz
 have hp : 0 < 2 ^ (e + K).toNat := Nat.pow_pos (by omega)
 constructor
 ·intro h
  rcases Nat.eq_zero_or_pos m with h0 | h0
  ·exact h0
  ·have h1 : 0 < m * 2 ^ (e + K).toNat := Nat.mul_pos h0 hp
   generalize m * 2 ^ (e + K).toNat = x at *
   rcases sg_cases s with ⟨_, h2⟩ | ⟨_, h2⟩ <;> rw [h2] at h <;> omega
 ·intro h; rw [h]; simp
theorem odd_uniq {a b i j : Nat} (h : 2 ^ i * (2 * a + 1) = 2 ^ j * (2 * b + 1)) : i = j ∧ a = b := by
 have h1 : i = j := IsLow.unique (x := 2 ^ i * (2 * a + 1)) ⟨a, rfl⟩ ⟨b, h⟩
 subst h1
 have := Nat.eq_of_mul_eq_mul_left (Nat.pow_pos (by omega)) h
 exact ⟨rfl, by omega⟩
theorem vz_abs {K : Nat} {s : Bool} {m : Nat} {e : Int} : (vz K s m e).natAbs = m * 2 ^ (e + K).toNat := by
 unfold vz
 rw [Int.natAbs_mul, Int.natAbs_natCast]
 rcases sg_cases s with ⟨_, h2⟩ | ⟨_, h2⟩ <;> rw [h2] <;> simp
theorem vz_sign {K : Nat} {s t : Bool} {m n : Nat} {e f : Int} (h : vz K s m e = vz K t n f) (hm : m ≠ 0) : s = t := by
 have h0 : vz K s m e ≠ 0 := fun h1 => hm (vz_eq_zero.1 h1)
 have ha := vz_abs (K := K) (s := s) (m := m) (e := e)
 have hb := vz_abs (K := K) (s := t) (m := n) (e := f)
 rw [← h] at hb
 unfold vz at h h0
 rw [← hb, ← ha] at h
 rw [← ha] at h0
 generalize (vz K s m e).natAbs = x at *
 cases s <;> cases t <;> simp only [sg, Bool.false_eq_true, if_false, if_true] at h h0 <;> first | rfl | (exfalso; omega)
theorem nm_fun {s : Bool} {m : Nat} {e : Int} {c c2 : Int} {s1 s2 : Bool} {m1 m2 : Nat} {e1 e2 : Int} (h : Nm s m e c s1 m1 e1) (h' : Nm s m e c2 s2 m2 e2) : c = c2 ∧ s1 = s2 ∧ m1 = m2 ∧ e1 = e2 := by
 rcases h with ⟨a0, a1, a2, a3, a4⟩ | ⟨k, q, hm, h⟩
 ·rcases h' with ⟨_, b1, b2, b3, b4⟩ | ⟨k, q, hm, _⟩
  ·subst a1 a2 a3 a4 b1 b2 b3 b4; exact ⟨rfl, rfl, rfl, rfl⟩
  ·exfalso
   have : 0 < 2 ^ k * (2 * q + 1) := Nat.mul_pos (Nat.pow_pos (by omega)) (by omega)
   omega
 ·rcases h' with ⟨b0, _⟩ | ⟨k', q', hm', h'⟩
  ·exfalso
   have : 0 < 2 ^ k * (2 * q + 1) := Nat.mul_pos (Nat.pow_pos (by omega)) (by omega)
   omega
  ·obtain ⟨rfl, rfl⟩ := odd_uniq (hm.symm.trans hm')
   generalize W ^ 64 = P at *
   rcases h with ⟨a0, a1, a2, a3, a4⟩ | ⟨a0, a5, a1, a2, a3, a4⟩ | ⟨a0, a5, a1, a2, a3, a4⟩ <;> rcases h' with ⟨b0, b1, b2, b3, b4⟩ | ⟨b0, b5, b1, b2, b3, b4⟩ | ⟨b0, b5, b1, b2, b3, b4⟩ <;>
    first
    | (subst a1 a2 a3 a4 b1 b2 b3 b4; exact ⟨rfl, rfl, rfl, rfl⟩)
    | (exfalso; omega)
theorem nm_congr {K : Nat} {s t : Bool} {m n : Nat} {e f : Int} {c : Int} {s' : Bool} {m' : Nat} {e' : Int} (he : -(K : Int) ≤ e) (hf : -(K : Int) ≤ f) (h : vz K s m e = vz K t n f) (hN : Nm s m e c s' m' e') : Nm t n f c s' m' e' := by
 rcases hN with ⟨a0, a1⟩ | ⟨k, q, hm, hN⟩
 ·refine .inl ⟨?_, a1⟩
  rw [a0, vz_zero] at h
  exact vz_eq_zero.1 h.symm
 ·have h0 : m ≠ 0 := by
   have : 0 < 2 ^ k * (2 * q + 1) := Nat.mul_pos (Nat.pow_pos (by omega)) (by omega)
   omega
  have hst := vz_sign h h0
  subst hst
  have ha := vz_abs (K := K) (s := s) (m := m) (e := e)
  have hb := vz_abs (K := K) (s := s) (m := n) (e := f)
  rw [h, hb] at ha
  have hn0 : n ≠ 0 := by
   intro hn
   rw [hn, vz_zero, vz_eq_zero] at h
   exact h0 h
  obtain ⟨k', q', hn⟩ := low_has hn0
  rw [hm, hn] at ha
  have ha' : 2 ^ (k' + (f + K).toNat) * (2 * q' + 1) = 2 ^ (k + (e + K).toNat) * (2 * q + 1) := by
   rw [Nat.pow_add, Nat.pow_add]
   have r1 : 2 ^ k' * 2 ^ (f + K).toNat * (2 * q' + 1) = 2 ^ k' * (2 * q' + 1) * 2 ^ (f + K).toNat := by ac_rfl
   have r2 : 2 ^ k * 2 ^ (e + K).toNat * (2 * q + 1) = 2 ^ k * (2 * q + 1) * 2 ^ (e + K).toNat := by ac_rfl
   rw [r1, r2, ha]
  obtain ⟨hk, rfl⟩ := odd_uniq ha'
  refine .inr ⟨k', q', hn, ?_⟩
  have hek : f + k' = e + k := by omega
  rw [hek]
  exact hN
theorem nmv_fun {K : Nat} {V : Int} {c c2 : Int} {s1 s2 : Bool} {m1 m2 : Nat} {e1 e2 : Int} (h : NmV K V c s1 m1 e1) (h' : NmV K V c2 s2 m2 e2) : c = c2 ∧ s1 = s2 ∧ m1 = m2 ∧ e1 = e2 := by
 obtain ⟨s, m, e, he, hv, hN⟩ := h
 obtain ⟨t, n, f, hf, hv', hN'⟩ := h'
 exact nm_fun (nm_congr he hf (hv.trans hv'.symm) hN) hN'
theorem nm_self {s : Bool} {m : Nat} {e : Int} (h : OkD s m e) : Nm s m e 0 s m e := by
 rcases h with ⟨rfl, rfl, rfl⟩ | ⟨h1, h2, h3, h4⟩
 ·exact .inl ⟨rfl, rfl, rfl, rfl, rfl⟩
 ·refine .inr ⟨0, m / 2, by rw [Nat.pow_zero, Nat.one_mul]; omega, .inr (.inr ?_)⟩
  have e1 : 2 * (m / 2) + 1 = m := by omega
  rw [e1]
  exact ⟨h2, by omega, rfl, rfl, rfl, by omega⟩
theorem okd_ge {K : Nat} {s : Bool} {m : Nat} {e : Int} (hK : 4194304 ≤ K) (h : OkD s m e) : -1048576 ≤ e ∧ e ≤ 1048576 ∧ -(K : Int) ≤ e := by
 rcases h with ⟨_, _, rfl⟩ | ⟨_, _, h3, h4⟩ <;> omega
theorem nmv_self {K : Nat} {s : Bool} {m : Nat} {e : Int} (hK : 4194304 ≤ K) (h : OkD s m e) : NmV K (vz K s m e) 0 s m e :=
 ⟨s, m, e, (okd_ge hK h).2.2, rfl, nm_self h⟩
theorem nm_ok {s : Bool} {m : Nat} {e : Int} {s' : Bool} {m' : Nat} {e' : Int} (hN : Nm s m e 0 s' m' e') : OkD s' m' e' := by
 rcases hN with ⟨_, _, h2, h3, h4⟩ | ⟨k, q, _, ⟨_, h, _⟩ | ⟨_, _, h, _⟩ | ⟨h1, h2, _, h3, h4, h5⟩⟩
 ·exact .inl ⟨h3, h2, h4⟩
 ·cases h
 ·cases h
 ·exact .inr ⟨by omega, by rw [h4]; exact h1, by omega, by omega⟩
theorem nm_value {K : Nat} {s : Bool} {m : Nat} {e : Int} {s' : Bool} {m' : Nat} {e' : Int} (he : -(K : Int) ≤ e) (hN : Nm s m e 0 s' m' e') : vz K s' m' e' = vz K s m e := by
 rcases hN with ⟨h0, _, h2, h3, h4⟩ | ⟨k, q, hm, ⟨_, h, _⟩ | ⟨_, _, h, _⟩ | ⟨h1, h2, _, h3, h4, h5⟩⟩
 ·rw [h0, h3, vz_zero, vz_zero]
 ·cases h
 ·cases h
 ·rw [h3, h4, h5, vz_up he, hm, Nat.mul_comm]
theorem nm_code {s : Bool} {m : Nat} {e c : Int} {s' : Bool} {m' : Nat} {e' : Int} (hN : Nm s m e c s' m' e') : c = 0 ∨ ((c = 2 ∨ c = 3) ∧ s' = false ∧ m' = 0 ∧ e' = 0) := by
 rcases hN with ⟨_, h, _⟩ | ⟨_, _, _, ⟨_, h, h2⟩ | ⟨_, _, h, h2⟩ | ⟨_, _, h, _⟩⟩
 ·exact .inl h
 ·exact .inr ⟨.inl h, h2⟩
 ·exact .inr ⟨.inr h, h2⟩
 ·exact .inl h
theorem okd_one {K : Nat} {s t : Bool} {m n : Nat} {e f : Int} (hK : 4194304 ≤ K) (h : OkD s m e) (h' : OkD t n f) (hv : vz K s m e = vz K t n f) : s = t ∧ m = n ∧ e = f := by
 have h1 := nmv_self hK h
 rw [hv] at h1
 obtain ⟨_, h2⟩ := nmv_fun h1 (nmv_self hK h')
 exact h2
/- sums and products -/
theorem vz_add {K : Nat} {s : Bool} {m n : Nat} {e : Int} : vz K s (m + n) e = vz K s m e + vz K s n e := by
 unfold vz
 rw [Nat.add_mul, Int.natCast_add, Int.mul_add]
theorem vz_mul {K : Nat} {s t : Bool} {m n : Nat} {e f : Int} (he : -(K : Int) ≤ e) (hf : -(K : Int) ≤ f) (hef : -(K : Int) ≤ e + f) : vz K s m e * vz K t n f = vz K (s != t) (m * n) (e + f) * ((2 ^ K : Nat) : Int) := by
 unfold vz
 have e1 : (e + K).toNat + (f + K).toNat = (e + f + K).toNat + K := by omega
 have e2 : m * 2 ^ (e + K).toNat * (n * 2 ^ (f + K).toNat) = m * n * 2 ^ (e + f + K).toNat * 2 ^ K := by
  have : m * 2 ^ (e + K).toNat * (n * 2 ^ (f + K).toNat) = m * n * (2 ^ (e + K).toNat * 2 ^ (f + K).toNat) := by ac_rfl
  rw [this, ← Nat.pow_add, e1, Nat.pow_add, Nat.mul_assoc (m * n)]
 rw [← sg_mul]
 have e3 : sg s * ((m * 2 ^ (e + K).toNat : Nat) : Int) * (sg t * ((n * 2 ^ (f + K).toNat : Nat) : Int)) = sg s * sg t * ((m * 2 ^ (e + K).toNat * (n * 2 ^ (f + K).toNat) : Nat) : Int) := by
  rw [Int.natCast_mul (m * 2 ^ (e + K).toNat)]
  ac_rfl
 rw [e3, e2, Int.natCast_mul (m * n * 2 ^ (e + f + K).toNat), ← Int.mul_assoc]
end Go.Proofs.YtdhdebapjlcjdaaGreatDoor
