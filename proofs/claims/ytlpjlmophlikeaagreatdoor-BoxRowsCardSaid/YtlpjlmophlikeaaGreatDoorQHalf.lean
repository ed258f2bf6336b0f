/-
 Plain arithmetic of a long division's half step. No condition; nothing of the program is named here.
-/
import Derived.Test.YtlpjlmophlikeaaGreatDoorQMem
namespace Go.Proofs.YtlpjlmophlikeaaGreatDoor
section
variable {B : Nat}

theorem carry_zero {n v ca s : Nat} (h : v + B ^ n * ca = s) (hs : s < B ^ n) : ca = 0 := by
 rcases Nat.eq_zero_or_pos ca with h0 | h0
 ·exact h0
 ·have : B ^ n * 1 ≤ B ^ n * ca := Nat.mul_le_mul_left _ h0
  omega

theorem sum_of (hB : 2 ≤ B) {l r : List Nat} {n m : Nat} {L xs' : List Nat} {ca : Nat} (hl : l.length = n) (hr : r.length = m) (hmn : m ≤ n) (hlt : Lt B l) (hrt : Lt B r) (hL : L = l ++ (List.replicate (n + 1) 0).drop n)
  (he : val B xs' + B ^ L.length * ca = val B L + 1 * val B r) : val B xs' = val B l + val B r := by
 have e1 : L = l ++ [0] := by rw [hL]; simp
 have e2 : L.length = n + 1 := by rw [e1]; simp [hl]
 have v1 : val B L = val B l := by rw [e1, val_snoc]; simp
 rw [v1, Nat.one_mul, e2] at he
 have h1 := val_lt hlt
 have h2 := val_lt hrt
 rw [hl] at h1
 rw [hr] at h2
 have h3 : B ^ m ≤ B ^ n := Nat.pow_le_pow_right (by omega) hmn
 have h4 : B ^ (n + 1) = B ^ n * B := Nat.pow_succ ..
 have h5 : B ^ n * 2 ≤ B ^ n * B := Nat.mul_le_mul_left _ hB
 have := carry_zero he (by omega)
 subst this
 omega

end
end Go.Proofs.YtlpjlmophlikeaaGreatDoor

namespace Go.Proofs.YtlpjlmophlikeaaGreatDoor

end Go.Proofs.YtlpjlmophlikeaaGreatDoor
