/-
  Contracts of round's small inner functions (raised, scaled, check, cut) and of fault.Must for Dyads, at this translation. Condition: the slices read as naturals, the table of math/bits reads as its text lays it.
-/
import Derived.Test.YtijflbnfikiaaaaDoorDy3
import Derived.Test.YtijflbnfikiaaaaDoorRo
namespace Go.Proofs.YtijflbnfikiaaaaDoor
open Go.RowKit

def NatIs (x : Nat) (w : World) (e : Ending) (w' : World) : Prop := ∃ A n c, e = .returned (.slice A n c) ∧ Nt w' A n c x ∧ Below w.heap.size w w'
/-- a natural, and whether anything is left behind it -/
def PartIs (x : Nat) (r : Bool) (w : World) (e : Ending) (w' : World) : Prop := ∃ A n c, e = .returned (.tuple #[.slice A n c, .bool r]) ∧ Nt w' A n c x ∧ Below w.heap.size w w'
theorem new_cell (w : World) (cs : Array Value) (t : TypeId) (i : Nat) : (w.alloc (.cells cs t)).cell? ⟨w.heap.size, i, none⟩ = cs[i]? := cell_of_row _ _ i _ t (0, 0) (heap_alloc_new w _)

section
variable {w w' : World} {g : Nat} {s : Bool} {A : Option Addr} {n c : Nat} {e : Int}
end
theorem isLow_mod {x k s : Nat} (h : IsLow x k) : x % 2 ^ s ≠ 0 ↔ k < s := by
  obtain ⟨q, hq⟩ := h
  constructor
  · intro h1
    rcases Nat.lt_or_ge k s with h2 | h2
    · exact h2
    · exfalso
      apply h1
      have e1 : x = 2 ^ s * (2 ^ (k - s) * (2 * q + 1)) := by
        rw [hq, ← Nat.mul_assoc, ← Nat.pow_add]
        congr 2; omega
      rw [e1, Nat.mul_mod_right]
  · intro h1 h2
    have e1 : 2 ^ s = 2 ^ k * (2 * 2 ^ (s - k - 1)) := by
      rw [← Nat.pow_succ', ← Nat.pow_add]; congr 1; omega
    obtain ⟨r, hr⟩ := Nat.dvd_of_mod_eq_zero h2
    rw [hq, e1, Nat.mul_assoc] at hr
    have := Nat.eq_of_mul_eq_mul_left (pow_pos2 k) hr
    rw [Nat.mul_assoc] at this
    omega
theorem must_ok {w : World} {A : Option Addr} {n c m : Nat} {s : Bool} {e : Int} (h : Nt w A n c m) :
    Calls Tryd.prog 45 #[.agg #[.bool s, .slice A n c, .int .i64 e], .int .i64 0] w (Goods s m e w) := by
  have BB := two_below w (.cells #[.bool s, .slice A n c, .int .i64 e] 24) (.cells #[.bool s, .slice A n c, .int .i64 e] 24)
  have h1 := h.below BB
  go_enter Tryd.func45, Tryd.ntmps45
  go_wp2_with fail
  refine check_ok.mono ?_
  rintro e' w' ⟨rfl, rfl⟩
  go_wp2
  exact bodyPost_ret (v := .agg #[.bool s, .slice A n c, .int .i64 e]) (by simp [results, Tryd.results45, go_sem]) rfl ⟨_, _, _, rfl, h1, BB⟩
theorem must_bad {w : World} {A : Option Addr} {n c : Nat} {s : Bool} {e k : Int} (hk : k ≠ 0) :
    Calls Tryd.prog 45 #[.agg #[.bool s, .slice A n c, .int .i64 e], .int .i64 k] w (Faults k w) := by
  have BB := two_below w (.cells #[.bool s, .slice A n c, .int .i64 e] 24) (.cells #[.bool false, .slice none 0 0, .int .i64 0] 24)
  have HK := Lib.hid hk
  clear hk
  go_enter Tryd.func45, Tryd.ntmps45
  go_wp2_with fail
  refine (check_bad HK.out).mono ?_
  rintro e' w' ⟨rfl, rfl⟩
  go_wp2
  exact ⟨rfl, rfl, BB⟩

/-- what cut leaves of x and a rest behind it, as an M -/
def cutR (p x : Nat) (rest u : Bool) : Nat := x / 2 ^ (blen x - p) + if u = true ∧ (rest = true ∨ x % 2 ^ (blen x - p) ≠ 0) then 1 else 0
theorem cutR_lt {p x : Nat} {rest u : Bool} (hp : p ≤ 2000) : x / 2 ^ (blen x - p) + 1 < W ^ 64 ∧ cutR p x rest u < W ^ 64 := by
  have h1 := cut_lt p x
  obtain ⟨j, hj⟩ : ∃ j, j = 64 * 64 := ⟨_, rfl⟩
  have h2 : 2 ^ p * 2 ≤ 2 ^ j := by rw [← Nat.pow_succ]; exact Nat.pow_le_pow_right (by omega) (by omega)
  have h3 := pow_pos2 p
  rw [W64_pow, ← hj]
  have h4 : cutR p x rest u ≤ x / 2 ^ (blen x - p) + 1 := by unfold cutR; split <;> omega
  omega
theorem cutR_false (p x : Nat) (u : Bool) : cutR p x false u = cutN p x u := by
  unfold cutR cutN
  simp
end Go.Proofs.YtijflbnfikiaaaaDoor
