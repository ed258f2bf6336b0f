/-
 Contracts of the reference's Bits, bit, Low, and of nat.Norm, at this translation. Condition: the slices read as digits of sixteen bits, at most ten thousand; as limbs.
-/
import Derived.Test.YtlpjlmophlikeaaGreatDoorQRIs
namespace Go.Proofs.YtlpjlmophlikeaaGreatDoor
open Go.RowKit

theorem low_lt {x l m : Nat} (h : IsLow x l) (hx : x < 2 ^ m) : l < m := by
 obtain ⟨a, rfl⟩ := h
 rcases Nat.lt_or_ge l m with h1 | h1
 ·exact h1
 ·exfalso
  have h2 : 2 ^ m ≤ 2 ^ l := Nat.pow_le_pow_right Nat.zero_lt_two h1
  have h3 : 2 ^ l * 1 ≤ 2 ^ l * (2 * a + 1) := Nat.mul_le_mul_left _ (by omega)
  generalize 2 ^ l * (2 * a + 1) = p at *
  generalize 2 ^ l = q at *
  generalize 2 ^ m = r at *
  omega
end Go.Proofs.YtlpjlmophlikeaaGreatDoor

namespace Go.Proofs.YtlpjlmophlikeaaGreatDoor
open Go.RowKit

theorem Dg.len {w : World} {A : Option Addr} {n c x : Nat} (h : Dg w A n c x) : (dig H x).length = n := Rd.len h
theorem Dg.cap {w : World} {A : Option Addr} {n c x : Nat} (h : Dg w A n c x) : n ≤ c := Rd.cap h
theorem Dg.max {w : World} {A : Option Addr} {n c x : Nat} (h : Dg w A n c x) : c ≤ 9223372036854775807 := Rd.max h
theorem Dg.zero {w : World} {A : Option Addr} {n c x : Nat} (h : Dg w A n c x) : n = 0 ↔ x = 0 := by
 rw [← h.len]; exact dig_len_zero H_two
theorem Dg.lt {w : World} {A : Option Addr} {n c x : Nat} (h : Dg w A n c x) : x < H ^ n := (len_dig H_two x n).1 (by rw [h.len]; exact Nat.le_refl _)

theorem low_has {x : Nat} (h : x ≠ 0) : ∃ k, IsLow x k := by
 induction x using Nat.strongRecOn with
 | ind x ih =>
  by_cases h2 : x % 2 = 1
  ·exact ⟨0, x / 2, by rw [Nat.pow_zero]; omega⟩
  ·obtain ⟨k, m, hm⟩ := ih (x / 2) (by omega) (by omega)
   exact ⟨k + 1, m, by rw [Nat.pow_succ, Nat.mul_comm (2 ^ k) 2, Nat.mul_assoc, ← hm]; omega⟩

end Go.Proofs.YtlpjlmophlikeaaGreatDoor
namespace Go.Proofs.YtlpjlmophlikeaaGreatDoor
open Go.RowKit

theorem Dg.nil (w : World) (A : Option Addr) {c : Nat} (hc : c ≤ 9223372036854775807) : Dg w A 0 c 0 := by unfold Dg; rw [dig_zero]; exact Rd.nil _ _ _ _ hc

end Go.Proofs.YtlpjlmophlikeaaGreatDoor

namespace Go.Proofs.YtlpjlmophlikeaaGreatDoor
open Go.RowKit

end Go.Proofs.YtlpjlmophlikeaaGreatDoor

namespace Go.Proofs.YtlpjlmophlikeaaGreatDoor
open Go.RowKit

theorem low_bad {w : World} {A : Option Addr} {n c : Nat} {l : List Nat} (h : Rd w .u64 W A n c l) (hb : mayB l = false) : Calls Tryz.prog 75 #[.slice A n c] w fun e w' => e = .returned (.int .i64 (-1)) ∧ w = w' := by
 go_enter Tryz.func75, Tryz.ntmps75
 go_wp2
 go_step3
 go_wp2_with fail
 refine (may_no h hb).mono ?_
 rintro e w' ⟨rfl, rfl⟩
 go_wp2
 rw [Exit.noGoto_ret]
 go_ret
 exact ⟨rfl, rfl⟩
theorem shl_nought {w : World} {A : Option Addr} {c s : Nat} (h : Nt w A 0 c 0) :
  Calls Tryz.prog 111 #[.slice A 0 c, .int .i64 s] w fun e w' => e = .returned (.tuple #[.slice none 0 0, .int .i64 0]) ∧ w = w' := by
 go_enter Tryz.func111, Tryz.ntmps111
 go_wp2_with fail
 refine (may_nt h).mono ?_
 rintro e w' ⟨rfl, rfl⟩
 go_wp2
 go_ret2
 exact ⟨rfl, rfl⟩
end Go.Proofs.YtlpjlmophlikeaaGreatDoor
