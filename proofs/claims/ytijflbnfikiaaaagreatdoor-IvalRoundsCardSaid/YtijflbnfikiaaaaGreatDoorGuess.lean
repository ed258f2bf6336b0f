/-
  Contract of nat.guess at this translation. Condition: the dividend's part has one limb more than the divisor and is, without its lowest limb, less than it; the divisor has two limbs at least and its highest bit is 1.
-/
import Derived.Test.YtijflbnfikiaaaaGreatDoorLower
import Derived.Test.YtijflbnfikiaaaaGreatDoorHalf
import Derived.BigGuardPart
import Derived.Lib.ItoaNum
import Derived.Deep.DeepCutAuto
import Derived.Deep.CutBlock
import Derived.Test.YtijflbnfikiaaaaGreatDoorGuessN
namespace Go.Proofs.YtijflbnfikiaaaaGreatDoor
open Go.RowKit

theorem bitLen_top {x : Nat} (h1 : 9223372036854775808 ≤ x) (h2 : x < 18446744073709551616) : Lib.bitLen x = 64 := by
  have h := Lib.bitLenAux_bounds 64 x h2 (by omega)
  have h3 : Lib.bitLen x = Lib.bitLenAux 64 x := rfl
  rw [h3]
  have h4 : Lib.bitLenAux 64 x ≤ 64 := Lib.bitLen_le x 64 (by omega) h2
  rcases Nat.lt_or_ge (Lib.bitLenAux 64 x) 64 with h5 | h5
  · have := Nat.pow_le_pow_right (n := 2) (by omega) (show Lib.bitLenAux 64 x ≤ 63 by omega)
    omega
  · omega

def Div64Done (w : World) (hi lo y : Nat) (e : Ending) (w' : World) : Prop :=
  ∃ q r : Nat, e = .returned (.tuple #[.int .u64 (q : Int), .int .u64 (r : Int)]) ∧ q * y + r = hi * 18446744073709551616 + lo ∧ r < y ∧ q < 18446744073709551616 ∧ ∃ k, w' = w.drewN k

end Go.Proofs.YtijflbnfikiaaaaGreatDoor

namespace Go.Proofs.YtijflbnfikiaaaaGreatDoor
open Go.RowKit

theorem top_two {B : Nat} {l : List Nat} {m : Nat} (hl : l.length = m + 2) : val B l = val B (l.take m) + B ^ m * (l.getD m 0 + B * l.getD (m + 1) 0) := by
  have h1 := take_val' (B := B) l m
  have h2 := take_val' (B := B) l (m + 1)
  rw [List.take_of_length_le (l := l) (i := m + 1 + 1) (by omega), h1, Nat.pow_succ] at h2
  rw [h2, Nat.mul_add, Nat.mul_assoc, Nat.add_assoc]
theorem top_three {B : Nat} {l : List Nat} {m : Nat} (hl : l.length = m + 3) : val B l = val B (l.take m) + B ^ m * (l.getD m 0 + B * (l.getD (m + 1) 0 + B * l.getD (m + 2) 0)) := by
  have h1 := take_val' (B := B) l m
  have h2 := take_val' (B := B) l (m + 1)
  have h3 := take_val' (B := B) l (m + 1 + 1)
  rw [List.take_of_length_le (l := l) (i := m + 1 + 1 + 1) (by omega), h2, h1] at h3
  rw [h3]
  simp only [Nat.mul_add, Nat.mul_assoc, Nat.add_assoc, Nat.pow_succ]

theorem top_le {B : Nat} (hB : 2 ≤ B) {l r : List Nat} {m : Nat} (hl : l.length = m + 1) (hr : r.length = m + 1) (hrt : Lt B r) (h : val B l < val B r) : l.getD m 0 ≤ r.getD m 0 := by
  have h1 := take_val' (B := B) l m
  have h2 := take_val' (B := B) r m
  rw [List.take_of_length_le (by omega)] at h1 h2
  have h3 := val_lt (hrt.take m)
  rw [List.length_take, Nat.min_eq_left (by omega)] at h3
  rcases Nat.lt_or_ge (r.getD m 0) (l.getD m 0) with h4 | h4
  · exfalso
    have : B ^ m * (r.getD m 0 + 1) ≤ B ^ m * l.getD m 0 := Nat.mul_le_mul_left _ h4
    rw [Nat.mul_add, Nat.mul_one] at this
    have := hB
    omega
  · exact h4

def GuessDone (w : World) (x y : Nat) (e : Ending) (w' : World) : Prop :=
  ∃ d : Nat, e = .returned (.int .u64 (d : Int)) ∧ d < 18446744073709551616 ∧ x / y ≤ d ∧ d ≤ x / y + 1 ∧ Below w.heap.size w w'

end Go.Proofs.YtijflbnfikiaaaaGreatDoor
