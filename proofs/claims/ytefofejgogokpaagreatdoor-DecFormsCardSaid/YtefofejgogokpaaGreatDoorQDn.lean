/-
 Contracts of the reference's Bits, bit, Low, and of nat.Norm, at this translation. Condition: the slices read as digits of sixteen bits, at most ten thousand; as limbs.
-/
import Derived.Test.YtefofejgogokpaaGreatDoorQRIs
namespace Go.Proofs.YtefofejgogokpaaGreatDoor
open Go.RowKit

theorem low_lt {x l m : Nat} (h : IsLow x l) (hx : x < 2 ^ m) : l < m := by
 obtain ⟨a, rfl⟩ := h
 rcases Nat.lt_or_ge l m with h1 | h1
 ·exact h1
 ·exfalso
  have h2 : 2 ^ m ≤ 2 ^ l := Nat.pow_le_pow_right Nat.zero_lt_two h1
  have h3 : 2 ^ l * 1 ≤ 2 ^ l * (2 * a + 1) := Nat.mul_le_mul_left _ (by omega)
  generalize 2 ^ l * (2 * a + 1) = p at *
  generalize 2 ^ l = q at *
  generalize 2 ^ m = r at *
  omega
end Go.Proofs.YtefofejgogokpaaGreatDoor

namespace Go.Proofs.YtefofejgogokpaaGreatDoor
open Go.RowKit

theorem norm_any {w : World} {A : Option Addr} {n c : Nat} {l : List Nat} (h : Rd w .u64 W A n c l) (hn : n ≤ 1000000) :
  Calls Tryz.prog 59 #[.slice A n c] w fun e w' => ∃ A' n' c', e = .returned (.slice A' n' c') ∧ Rd w' .u64 W A' n' c' (dig W (val W l)) ∧ Below w.heap.size w w' := by
 have ht := rd_trimmed h
 have hle := (take_dig W_two h.lt).1
 rw [h.len] at hle
 go_enter Tryz.func59, Tryz.ntmps59
 go_wp2_with fail
 refine (trimmed_any h).mono ?_
 rintro e w' ⟨rfl, rfl⟩
 go_wp2_with fail
 refine (clone_any ht (by omega)).mono ?_
 rintro e w1 ⟨A', c', rfl, hr, hb, _⟩
 go_wp2
 go_ret
 exact ⟨_, _, _, rfl, hr, hb⟩

theorem Dg.len {w : World} {A : Option Addr} {n c x : Nat} (h : Dg w A n c x) : (dig H x).length = n := Rd.len h
theorem Dg.cap {w : World} {A : Option Addr} {n c x : Nat} (h : Dg w A n c x) : n ≤ c := Rd.cap h
theorem Dg.max {w : World} {A : Option Addr} {n c x : Nat} (h : Dg w A n c x) : c ≤ 9223372036854775807 := Rd.max h
theorem Dg.zero {w : World} {A : Option Addr} {n c x : Nat} (h : Dg w A n c x) : n = 0 ↔ x = 0 := by
 rw [← h.len]; exact dig_len_zero H_two
theorem Dg.lt {w : World} {A : Option Addr} {n c x : Nat} (h : Dg w A n c x) : x < H ^ n := (len_dig H_two x n).1 (by rw [h.len]; exact Nat.le_refl _)

theorem low_has {x : Nat} (h : x ≠ 0) : ∃ k, IsLow x k := by
 induction x using Nat.strongRecOn with
 | ind x ih =>
  by_cases h2 : x % 2 = 1
  ·exact ⟨0, x / 2, by rw [Nat.pow_zero]; omega⟩
  ·obtain ⟨k, m, hm⟩ := ih (x / 2) (by omega) (by omega)
   exact ⟨k + 1, m, by rw [Nat.pow_succ, Nat.mul_comm (2 ^ k) 2, Nat.mul_assoc, ← hm]; omega⟩

end Go.Proofs.YtefofejgogokpaaGreatDoor
namespace Go.Proofs.YtefofejgogokpaaGreatDoor
open Go.RowKit

theorem Dg.nil (w : World) (A : Option Addr) {c : Nat} (hc : c ≤ 9223372036854775807) : Dg w A 0 c 0 := by unfold Dg; rw [dig_zero]; exact Rd.nil _ _ _ _ hc

end Go.Proofs.YtefofejgogokpaaGreatDoor

namespace Go.Proofs.YtefofejgogokpaaGreatDoor
open Go.RowKit

end Go.Proofs.YtefofejgogokpaaGreatDoor

namespace Go.Proofs.YtefofejgogokpaaGreatDoor
open Go.RowKit

theorem low_bad {w : World} {A : Option Addr} {n c : Nat} {l : List Nat} (h : Rd w .u64 W A n c l) (hb : mayB l = false) : Calls Tryz.prog 70 #[.slice A n c] w fun e w' => e = .returned (.int .i64 (-1)) ∧ w = w' := by
 go_enter Tryz.func70, Tryz.ntmps70
 go_wp2
 go_step3
 go_wp2_with fail
 refine (may_no h hb).mono ?_
 rintro e w' ⟨rfl, rfl⟩
 go_wp2
 rw [Exit.noGoto_ret]
 go_ret
 exact ⟨rfl, rfl⟩
theorem shl_nought {w : World} {A : Option Addr} {c s : Nat} (h : Nt w A 0 c 0) :
  Calls Tryz.prog 151 #[.slice A 0 c, .int .i64 s] w fun e w' => e = .returned (.tuple #[.slice none 0 0, .int .i64 0]) ∧ w = w' := by
 go_enter Tryz.func151, Tryz.ntmps151
 go_wp2_with fail
 refine (may_nt h).mono ?_
 rintro e w' ⟨rfl, rfl⟩
 go_wp2
 go_ret2
 exact ⟨rfl, rfl⟩
end Go.Proofs.YtefofejgogokpaaGreatDoor
namespace Go.Proofs.YtefofejgogokpaaGreatDoor
open Go.RowKit

/-- what nat tells of a number that may have too many limbs -/
def Is (w : World) (A : Option Addr) (n c : Nat) (k : Int) (x : Nat) : Prop := (Nt w A n c x ∧ k = 0) ∨ (n = 0 ∧ k = 2 ∧ W ^ 64 ≤ x)
theorem Is.below {w w' : World} {A : Option Addr} {n c x : Nat} {k : Int} (h : Is w A n c k x) (hb : Below w.heap.size w w') : Is w' A n c k x := by
 rcases h with ⟨h1, h2⟩ | h2
 ·exact .inl ⟨h1.below hb, h2⟩
 ·exact .inr h2
theorem cmp_swap (x y : Nat) : cmpN y x = - cmpN x y ∧ -1 ≤ cmpN x y ∧ cmpN x y ≤ 1 ∧ (cmpN x y < 0 ↔ x < y) := by
 rcases Nat.lt_trichotomy x y with h | h | h
 ·rw [cmpN_lt h, cmpN_gt h]; omega
 ·rw [cmpN_eq h, cmpN_eq h.symm]; omega
 ·rw [cmpN_gt h, cmpN_lt h]; omega

end Go.Proofs.YtefofejgogokpaaGreatDoor
namespace Go.Proofs.YtefofejgogokpaaGreatDoor
open Go.RowKit

theorem Own.blk {base g N cap i : Nat} {w : World} {e : TypeId} {k : IntKind} {l : List Nat} (h : Own base w e k (.slice (some ⟨g, 0, none⟩) N cap) l) (hi : i < N) (hl : l.length = N) : g < w.heap.size := by
 obtain ⟨g', cap', post, hv, _, _, _, hrow⟩ := Row.of_own h (by omega)
 injection hv with hv1 _ _
 injection hv1 with hv1
 injection hv1 with hv1
 subst hv1
 exact hrow.gl

end Go.Proofs.YtefofejgogokpaaGreatDoor

namespace Go.Proofs.YtefofejgogokpaaGreatDoor
open Go.RowKit

end Go.Proofs.YtefofejgogokpaaGreatDoor
namespace Go.Proofs.YtefofejgogokpaaGreatDoor

def sg (s : Bool) : Int := if s then -1 else 1
/-- (-1)^s times m times 2^e, times 2^K -/
def vz (K : Nat) (s : Bool) (m : Nat) (e : Int) : Int := sg s * ((m * 2 ^ (e + K).toNat : Nat) : Int)
/-- a number that may be -/
def OkD (s : Bool) (m : Nat) (e : Int) : Prop := (m = 0 ∧ s = false ∧ e = 0) ∨ (m % 2 = 1 ∧ m < W ^ 64 ∧ -1048576 ≤ e ∧ e ≤ 1048576)
/-- the one form of (-1)^s m 2^e, with what is told of it: c -/
def Nm (s : Bool) (m : Nat) (e : Int) (c : Int) (s' : Bool) (m' : Nat) (e' : Int) : Prop :=
 (m = 0 ∧ c = 0 ∧ s' = false ∧ m' = 0 ∧ e' = 0) ∨
 ∃ k q : Nat, m = 2 ^ k * (2 * q + 1) ∧
  ((W ^ 64 ≤ 2 * q + 1 ∧ c = 2 ∧ s' = false ∧ m' = 0 ∧ e' = 0) ∨
   (2 * q + 1 < W ^ 64 ∧ ¬ (-1048576 ≤ e + k ∧ e + k ≤ 1048576) ∧ c = 3 ∧ s' = false ∧ m' = 0 ∧ e' = 0) ∨
   (2 * q + 1 < W ^ 64 ∧ (-1048576 ≤ e + k ∧ e + k ≤ 1048576) ∧ c = 0 ∧ s' = s ∧ m' = 2 * q + 1 ∧ e' = e + k))
theorem vz_zero (K : Nat) (s : Bool) (e : Int) : vz K s 0 e = 0 := by simp [vz]
theorem vz_up {K : Nat} {s : Bool} {m : Nat} {e : Int} (he : -(K : Int) ≤ e) (k : Nat) : vz K s m (e + k) = vz K s (m * 2 ^ k) e := by
 unfold vz
 have e1 : (e + k + K).toNat = k + (e + K).toNat := by omega
 rw [e1, Nat.pow_add, Nat.mul_assoc]
theorem odd_uniq {a b i j : Nat} (h : 2 ^ i * (2 * a + 1) = 2 ^ j * (2 * b + 1)) : i = j ∧ a = b := by
 have h1 : i = j := IsLow.unique (x := 2 ^ i * (2 * a + 1)) ⟨a, rfl⟩ ⟨b, h⟩
 subst h1
 have := Nat.eq_of_mul_eq_mul_left (Nat.pow_pos (by omega)) h
 exact ⟨rfl, by omega⟩
theorem nm_fun {s : Bool} {m : Nat} {e : Int} {c c2 : Int} {s1 s2 : Bool} {m1 m2 : Nat} {e1 e2 : Int} (h : Nm s m e c s1 m1 e1) (h' : Nm s m e c2 s2 m2 e2) : c = c2 ∧ s1 = s2 ∧ m1 = m2 ∧ e1 = e2 := by
 rcases h with ⟨a0, a1, a2, a3, a4⟩ | ⟨k, q, hm, h⟩
 ·rcases h' with ⟨_, b1, b2, b3, b4⟩ | ⟨k, q, hm, _⟩
  ·subst a1 a2 a3 a4 b1 b2 b3 b4; exact ⟨rfl, rfl, rfl, rfl⟩
  ·exfalso
   have : 0 < 2 ^ k * (2 * q + 1) := Nat.mul_pos (Nat.pow_pos (by omega)) (by omega)
   omega
 ·rcases h' with ⟨b0, _⟩ | ⟨k', q', hm', h'⟩
  ·exfalso
   have : 0 < 2 ^ k * (2 * q + 1) := Nat.mul_pos (Nat.pow_pos (by omega)) (by omega)
   omega
  ·obtain ⟨rfl, rfl⟩ := odd_uniq (hm.symm.trans hm')
   generalize W ^ 64 = P at *
   rcases h with ⟨a0, a1, a2, a3, a4⟩ | ⟨a0, a5, a1, a2, a3, a4⟩ | ⟨a0, a5, a1, a2, a3, a4⟩ <;> rcases h' with ⟨b0, b1, b2, b3, b4⟩ | ⟨b0, b5, b1, b2, b3, b4⟩ | ⟨b0, b5, b1, b2, b3, b4⟩ <;>
    first
    | (subst a1 a2 a3 a4 b1 b2 b3 b4; exact ⟨rfl, rfl, rfl, rfl⟩)
    | (exfalso; omega)
theorem nm_self {s : Bool} {m : Nat} {e : Int} (h : OkD s m e) : Nm s m e 0 s m e := by
 rcases h with ⟨rfl, rfl, rfl⟩ | ⟨h1, h2, h3, h4⟩
 ·exact .inl ⟨rfl, rfl, rfl, rfl, rfl⟩
 ·refine .inr ⟨0, m / 2, by rw [Nat.pow_zero, Nat.one_mul]; omega, .inr (.inr ?_)⟩
  have e1 : 2 * (m / 2) + 1 = m := by omega
  rw [e1]
  exact ⟨h2, by omega, rfl, rfl, rfl, by omega⟩
theorem okd_ge {K : Nat} {s : Bool} {m : Nat} {e : Int} (hK : 4194304 ≤ K) (h : OkD s m e) : -1048576 ≤ e ∧ e ≤ 1048576 ∧ -(K : Int) ≤ e := by
 rcases h with ⟨_, _, rfl⟩ | ⟨_, _, h3, h4⟩ <;> omega
theorem nm_ok {s : Bool} {m : Nat} {e : Int} {s' : Bool} {m' : Nat} {e' : Int} (hN : Nm s m e 0 s' m' e') : OkD s' m' e' := by
 rcases hN with ⟨_, _, h2, h3, h4⟩ | ⟨k, q, _, ⟨_, h, _⟩ | ⟨_, _, h, _⟩ | ⟨h1, h2, _, h3, h4, h5⟩⟩
 ·exact .inl ⟨h3, h2, h4⟩
 ·cases h
 ·cases h
 ·exact .inr ⟨by omega, by rw [h4]; exact h1, by omega, by omega⟩
theorem nm_code {s : Bool} {m : Nat} {e c : Int} {s' : Bool} {m' : Nat} {e' : Int} (hN : Nm s m e c s' m' e') : c = 0 ∨ ((c = 2 ∨ c = 3) ∧ s' = false ∧ m' = 0 ∧ e' = 0) := by
 rcases hN with ⟨_, h, _⟩ | ⟨_, _, _, ⟨_, h, h2⟩ | ⟨_, _, h, h2⟩ | ⟨_, _, h, _⟩⟩
 ·exact .inl h
 ·exact .inr ⟨.inl h, h2⟩
 ·exact .inr ⟨.inr h, h2⟩
 ·exact .inl h
/- sums and products -/
theorem vz_add {K : Nat} {s : Bool} {m n : Nat} {e : Int} : vz K s (m + n) e = vz K s m e + vz K s n e := by
 unfold vz
 rw [Nat.add_mul, Int.natCast_add, Int.mul_add]
end Go.Proofs.YtefofejgogokpaaGreatDoor
