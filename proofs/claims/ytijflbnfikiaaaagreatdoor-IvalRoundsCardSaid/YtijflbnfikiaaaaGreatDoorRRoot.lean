/-
  Contract of the reference's Root at this translation. Condition: the slice reads as digits of sixteen bits, at most four thousand.
-/
import Derived.Test.YtijflbnfikiaaaaGreatDoorRAsks
namespace Go.Proofs.YtijflbnfikiaaaaGreatDoor
open Go.RowKit

theorem digit_of {qs : List Nat} {i : Nat} (hlt : Lt H qs) (hi : i < qs.length) : qs.getD i 0 = val H qs / H ^ i % H := by
  have h1 := val_take_drop (B := H) qs i
  have h2 := val_lt (hlt.take i)
  rw [List.length_take, Nat.min_eq_left (by omega)] at h2
  have h3 : qs.drop i = qs.getD i 0 :: qs.drop (i + 1) := by
    rw [List.getD_eq_getElem?_getD, List.getElem?_eq_getElem hi, Option.getD_some, ← List.drop_eq_getElem_cons hi]
  have hH : 0 < H := by rw [H_eq]; omega
  rw [List.length_take, Nat.min_eq_left (by omega)] at h1
  rw [h1, Nat.add_comm, Nat.mul_add_div (Nat.pow_pos hH), Nat.div_eq_of_lt h2, Nat.add_zero, h3, val_cons, Nat.add_mul_mod_self_left, Nat.mod_eq_of_lt (hlt.getD hH i)]
theorem quot_bit {qs : List Nat} {k qi ri m z : Nat} (hk : k = 16 * qi + ri) (hr : ri < 16) (hv : val H qs = m * 2 ^ (k + 1)) (hlt : Lt H qs) (hqi : qi < qs.length) (hz : z = qs.getD qi 0 + 2 ^ ri) :
    qs.getD qi 0 % 2 ^ (ri + 1) = 0 ∧ z < H ∧ Lt H (qs.set qi z) ∧ val H (qs.set qi z) = (2 * m + 1) * 2 ^ k := by
  have hd := digit_of hlt hqi
  have e1 : H ^ qi = 2 ^ (16 * qi) := by rw [H_pow, ← Nat.pow_mul]
  have e2 : 2 ^ (k + 1) = 2 ^ (16 * qi) * 2 ^ (ri + 1) := by rw [hk, Nat.add_assoc, Nat.pow_add]
  have hP : 0 < 2 ^ (16 * qi) := Nat.pow_pos (by omega)
  have e3 : m * 2 ^ (k + 1) = 2 ^ (16 * qi) * (m * 2 ^ (ri + 1)) := by rw [e2]; ac_rfl
  rw [hv, e1, e3, Nat.mul_div_cancel_left _ hP] at hd
  obtain ⟨s, hs⟩ : ∃ s, 16 = (ri + 1) + s := ⟨16 - (ri + 1), by omega⟩
  have e4 : H = 2 ^ (ri + 1) * 2 ^ s := by rw [H_pow, ← Nat.pow_add, ← hs]
  have e5 : qs.getD qi 0 = m % 2 ^ s * 2 ^ (ri + 1) := by rw [hd, e4, Nat.mul_comm (2 ^ (ri + 1)) (2 ^ s), Nat.mul_mod_mul_right]
  have hR : 0 < 2 ^ ri := Nat.pow_pos (by omega)
  have e6 : 2 ^ (ri + 1) = 2 ^ ri * 2 := Nat.pow_succ ..
  have h7 : z < H := by
    have h8 : m % 2 ^ s + 1 ≤ 2 ^ s := Nat.mod_lt _ (Nat.pow_pos (by omega))
    have h9 : (m % 2 ^ s + 1) * 2 ^ (ri + 1) ≤ 2 ^ s * 2 ^ (ri + 1) := Nat.mul_le_mul_right _ h8
    rw [Nat.add_mul, Nat.one_mul] at h9
    rw [hz, e5, e4, Nat.mul_comm (2 ^ (ri + 1)) (2 ^ s)]
    omega
  refine ⟨by rw [e5, Nat.mul_mod_left], h7, hlt.set _ h7, ?_⟩
  have h8 := val_set (B := H) hqi z
  rw [hz, Nat.mul_add] at h8
  rw [hz]
  have h9 : H ^ qi * 2 ^ ri = 2 ^ k := by rw [e1, hk, Nat.pow_add]
  rw [h9, hv, Nat.pow_succ] at h8
  rw [Nat.add_mul, Nat.one_mul]
  have h10 : 2 * m * 2 ^ k = m * (2 ^ k * 2) := by ac_rfl
  omega
theorem or_new {d r : Nat} (hd : d % 2 ^ (r + 1) = 0) (hz : d + 2 ^ r < 65536) : bits .or .u32 (d : Int) (2 ^ r) = ((d + 2 ^ r : Nat) : Int) ∧ bits .or .u32 (d : Int) (2 ^ r % 4294967296) = ((d + 2 ^ r : Nat) : Int) := by
  have e1 : ((2 : Int) ^ r) = ((2 ^ r : Nat) : Int) := by rw [Int.natCast_pow]; rfl
  have e2 : ((2 ^ r : Nat) : Int) % 4294967296 = ((2 ^ r : Nat) : Int) := by omega
  have e3 : d ||| 2 ^ r = d + 2 ^ r := by
    have h1 : d = 2 ^ (r + 1) * (d / 2 ^ (r + 1)) := by have := Nat.div_add_mod d (2 ^ (r + 1)); omega
    rw [h1, Nat.two_pow_add_eq_or_of_lt (Nat.pow_lt_pow_right (by omega) (Nat.lt_succ_self r))]
  have e4 : bits .or .u32 (d : Int) ((2 ^ r : Nat) : Int) = ((d + 2 ^ r : Nat) : Int) := by
    rw [bits_or_u32_nat _ _ (by omega) (by omega), e3]
  rw [e1, e2]
  exact ⟨e4, e4⟩

theorem step_bits {x k : Nat} : x / 2 ^ k = 2 * (x / 2 ^ (k + 1)) + x / 2 ^ k % 2 := by
  rw [Nat.pow_succ, ← Nat.div_div_eq_div_mul]; omega
theorem step_div {X y b R2 : Nat} (hy : 0 < y) (hb : b < 2) (hR : R2 = 2 * (X % y) + b) : (R2 < y → (2 * X + b) / y = 2 * (X / y) ∧ (2 * X + b) % y = R2) ∧ (y ≤ R2 → (2 * X + b) / y = 2 * (X / y) + 1 ∧ (2 * X + b) % y = R2 - y) := by
  have h1 := Nat.div_add_mod X y
  have h2 := Nat.mod_lt X hy
  generalize X / y = Q at *
  generalize X % y = R at *
  subst h1
  have e : 2 * (y * Q + R) + b = R2 + y * (2 * Q) := by rw [hR, Nat.mul_add, Nat.mul_left_comm]; omega
  constructor
  · intro h
    rw [e, Nat.add_mul_div_left _ _ hy, Nat.add_mul_mod_self_left, Nat.div_eq_of_lt h, Nat.mod_eq_of_lt h]
    omega
  · intro h
    have e2 : R2 + y * (2 * Q) = (R2 - y) + y * (2 * Q + 1) := by rw [Nat.mul_add, Nat.mul_one]; omega
    rw [e, e2, Nat.add_mul_div_left _ _ hy, Nat.add_mul_mod_self_left, Nat.div_eq_of_lt (by omega), Nat.mod_eq_of_lt (by omega)]
    omega
theorem dig_oneH {v : Nat} (h0 : v ≠ 0) (hv : v < H) : dig H v = [v] := by
  rw [dig_pos H_two h0, Nat.mod_eq_of_lt hv, Nat.div_eq_of_lt hv, dig_zero]
theorem dg_one (w : World) : Dg (w.alloc (.cells #[.int .u32 1] 92)) (some ⟨w.heap.size, 0, none⟩) 1 1 1 := by
  have hrow : Row (w.alloc (.cells (iv .u32 [1]).toArray 92)) w.heap.size 92 .u32 0 [] [1] [] := ⟨by rw [List.nil_append, List.append_nil]; exact heap_alloc_new w _, rfl⟩
  unfold Dg
  rw [dig_oneH (by omega) (by rw [H_eq]; omega)]
  exact hrow.rd (Lt.cons (by rw [H_eq]; omega) Lt.nil) (by simp) (by omega)
theorem dg_nil (w : World) : Dg w none 0 0 0 := by
  unfold Dg
  rw [dig_zero]
  exact Rd.nil _ _ _ _ (by omega)
theorem dg_len {w : World} {A : Option Addr} {n c x m y : Nat} {A' : Option Addr} {c' : Nat} {w' : World} (h : Dg w A n c x) (h' : Dg w' A' m c' y) (hxy : x < 2 * y) : n ≤ m + 1 := by
  rw [← Rd.len h, len_dig H_two]
  have h1 := (len_dig H_two y m).1 (Nat.le_of_eq (Rd.len h'))
  rw [Nat.pow_succ]
  have : H ^ m * 2 ≤ H ^ m * H := Nat.mul_le_mul_left _ H_two
  omega
theorem dg_bits {w : World} {A : Option Addr} {n c x : Nat} (h : Dg w A n c x) : blen x ≤ 16 * n ∧ x < 2 ^ blen x := by
  refine ⟨?_, (blen_le x _).1 (Nat.le_refl _)⟩
  rw [blen_le]
  have h1 := (len_dig H_two x n).1 (Nat.le_of_eq (Rd.len h))
  rwa [H_pow, ← Nat.pow_mul] at h1

theorem Own.blk {base g N cap i : Nat} {w : World} {e : TypeId} {k : IntKind} {l : List Nat} (h : Own base w e k (.slice (some ⟨g, 0, none⟩) N cap) l) (hi : i < N) (hl : l.length = N) : g < w.heap.size := by
  obtain ⟨g', cap', post, hv, _, _, _, hrow⟩ := Row.of_own h (by omega)
  injection hv with hv1 _ _
  injection hv1 with hv1
  injection hv1 with hv1
  subst hv1
  exact hrow.gl

def DivGives (w : World) (x y : Nat) (e : Ending) (w' : World) : Prop :=
  ∃ A1 n1 c1 A2 n2 c2, e = .returned (.tuple #[.slice A1 n1 c1, .slice A2 n2 c2]) ∧ Dg w' A1 n1 c1 (x / y) ∧ Dg w' A2 n2 c2 (x % y) ∧ Below w.heap.size w w'

end Go.Proofs.YtijflbnfikiaaaaGreatDoor

namespace Go.Proofs.YtijflbnfikiaaaaGreatDoor
open Go.RowKit

theorem root_one {x r s : Nat} (h1 : r * r ≤ x) (h2 : x < (r + 1) * (r + 1)) (h3 : s * s ≤ x) (h4 : x < (s + 1) * (s + 1)) : r = s := by
  rcases Nat.lt_trichotomy r s with h | h | h
  · have : (r + 1) * (r + 1) ≤ s * s := Nat.mul_le_mul h h
    omega
  · exact h
  · have : (s + 1) * (s + 1) ≤ r * r := Nat.mul_le_mul h h
    omega
theorem root_start {x L j : Nat} (hx : x < 2 ^ L) (hj : L ≤ 2 * j) : x < (0 + 2 ^ j) * (0 + 2 ^ j) := by
  rw [Nat.zero_add, ← Nat.pow_add]
  exact Nat.lt_of_lt_of_le hx (Nat.pow_le_pow_right (by omega) (by omega))
theorem root_size {x r i n : Nat} (hx : x < H ^ n) (hr : r * r ≤ x) (hi : i ≤ 16 * n) : r < H ^ n ∧ r + 2 ^ i < H ^ (n + 1) := by
  have h1 : r ≤ r * r := by
    rcases Nat.eq_zero_or_pos r with h | h
    · omega
    · exact Nat.le_mul_of_pos_left r h
  have h2 : 2 ^ i ≤ H ^ n := by rw [H_pow, ← Nat.pow_mul]; exact Nat.pow_le_pow_right (by omega) hi
  have h3 : H ^ n * 2 ≤ H ^ (n + 1) := by rw [Nat.pow_succ]; exact Nat.mul_le_mul_left _ H_two
  omega

end Go.Proofs.YtijflbnfikiaaaaGreatDoor
