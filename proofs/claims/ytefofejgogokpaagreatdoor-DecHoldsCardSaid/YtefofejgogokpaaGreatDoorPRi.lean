/-
 Plain facts on quotients and roots that are reckoned to some bits more, their last bit set if anything is left: cut to p bits they are what the shorter ones with their rests are. No condition; nothing of the program is named here.
-/
import Derived.Test.YtefofejgogokpaaGreatDoorPRt
import Derived.Test.YtefofejgogokpaaGreatDoorPRe
namespace Go.Proofs.YtefofejgogokpaaGreatDoor

theorem cutR_le {p x : Nat} {rest : Bool} : cutR p x rest false * 2 ^ (blen x - p) ≤ x := by
 unfold cutR
 simp only [Bool.false_eq_true, false_and, if_false, Nat.add_zero]
 exact Nat.div_mul_le_self _ _
theorem cutR_ge {p x : Nat} {rest : Bool} : x ≤ cutR p x rest true * 2 ^ (blen x - p) ∧ (rest = true → x + 1 ≤ cutR p x rest true * 2 ^ (blen x - p)) := by
 have h := cut_parts p x
 have h2 := Nat.mod_lt x (pow_pos2 (blen x - p))
 unfold cutR
 by_cases hr : x % 2 ^ (blen x - p) = 0
 ·cases rest
  ·rw [if_neg (by simp [hr]), Nat.add_zero]
   exact ⟨by omega, fun h => by cases h⟩
  ·rw [if_pos ⟨rfl, .inl rfl⟩, Nat.add_mul, Nat.one_mul]
   exact ⟨by omega, fun _ => by omega⟩
 ·rw [if_pos ⟨rfl, .inr hr⟩, Nat.add_mul, Nat.one_mul]
  exact ⟨by omega, fun _ => by omega⟩
theorem cutR_fits {p x : Nat} {rest u : Bool} (hp : 1 ≤ p) : Fits p (cutR p x rest u) := by
 have h := cut_lt p x
 have h2 : cutR p x rest u ≤ x / 2 ^ (blen x - p) + 1 := by unfold cutR; split <;> omega
 by_cases h3 : cutR p x rest u < 2 ^ p
 ·exact fits_of h3
 ·have h4 : cutR p x rest u = 2 ^ p := by omega
  rw [h4]
  exact ⟨1, p, by omega, Nat.one_lt_two_pow (by omega)⟩
theorem side_bits {p : Nat} {s : Bool} {x : Nat} {e k : Int} {rest u : Bool} {s' : Bool} {m' : Nat} {e' : Int} (hp : 1 ≤ p) (h : Nm s (cutR p x rest u) e k s' m' e') : blen m' ≤ p := (okd_fits (nm_okd h)).1 (nm_fits h (cutR_fits hp))
end Go.Proofs.YtefofejgogokpaaGreatDoor

namespace Go.Proofs.YtefofejgogokpaaGreatDoor

end Go.Proofs.YtefofejgogokpaaGreatDoor

namespace Go.Proofs.YtefofejgogokpaaGreatDoor

end Go.Proofs.YtefofejgogokpaaGreatDoor
