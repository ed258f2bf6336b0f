/-
  Contract of the statement NatAsks' function at this translation: it returns true, whatever its arguments. Condition: the slices read as limbs, the table of math/bits reads as its text lays it.
-/
import Derived.Test.YtijflbnfikiaaaaGreatDoorRBitsAll
import Derived.Test.YtijflbnfikiaaaaGreatDoorRMul
namespace Go.Proofs.YtijflbnfikiaaaaGreatDoor
open Go.RowKit

theorem add_no1 {w : World} {A B : Option Addr} {n c m d : Nat} {l : List Nat} (h : Rd w .u64 W A n c l) (hb : mayB l = false) :
    Calls Tryz.prog 110 #[.slice A n c, .slice B m d] w fun e w' => e = .returned (.tuple #[.slice none 0 0, .int .i64 1]) ∧ w = w' := by
  go_enter Tryz.func110, Tryz.ntmps110
  go_wp2_with fail
  refine (may_no h hb).mono ?_
  rintro e w' ⟨rfl, rfl⟩
  go_wp2
  go_ret2
  exact ⟨rfl, rfl⟩
theorem add_no2 {w : World} {A B : Option Addr} {n c m d : Nat} {l r : List Nat} (h : Rd w .u64 W A n c l) (hb : mayB l = true) (h' : Rd w .u64 W B m d r) (hb' : mayB r = false) :
    Calls Tryz.prog 110 #[.slice A n c, .slice B m d] w fun e w' => e = .returned (.tuple #[.slice none 0 0, .int .i64 1]) ∧ w = w' := by
  go_enter Tryz.func110, Tryz.ntmps110
  go_wp2_with fail
  refine (may_yes h hb).mono ?_
  rintro e w' ⟨rfl, rfl⟩
  go_wp2_with fail
  refine (may_no h' hb').mono ?_
  rintro e w' ⟨rfl, rfl⟩
  go_wp2
  go_ret2
  exact ⟨rfl, rfl⟩
theorem add_no {w : World} {A B : Option Addr} {n c m d : Nat} {l r : List Nat} (h : Rd w .u64 W A n c l) (h' : Rd w .u64 W B m d r) (hb : (mayB l && mayB r) = false) :
    Calls Tryz.prog 110 #[.slice A n c, .slice B m d] w fun e w' => e = .returned (.tuple #[.slice none 0 0, .int .i64 1]) ∧ w = w' := by
  cases h1 : mayB l
  · exact add_no1 h h1
  · exact add_no2 h h1 h' (by simpa [h1] using hb)
theorem sub_no1 {w : World} {A B : Option Addr} {n c m d : Nat} {l : List Nat} (h : Rd w .u64 W A n c l) (hb : mayB l = false) :
    Calls Tryz.prog 116 #[.slice A n c, .slice B m d] w fun e w' => e = .returned (.tuple #[.slice none 0 0, .int .i64 1]) ∧ w = w' := by
  go_enter Tryz.func116, Tryz.ntmps116
  go_wp2_with fail
  refine (may_no h hb).mono ?_
  rintro e w' ⟨rfl, rfl⟩
  go_wp2
  go_ret2
  exact ⟨rfl, rfl⟩
theorem sub_no2 {w : World} {A B : Option Addr} {n c m d : Nat} {l r : List Nat} (h : Rd w .u64 W A n c l) (hb : mayB l = true) (h' : Rd w .u64 W B m d r) (hb' : mayB r = false) :
    Calls Tryz.prog 116 #[.slice A n c, .slice B m d] w fun e w' => e = .returned (.tuple #[.slice none 0 0, .int .i64 1]) ∧ w = w' := by
  go_enter Tryz.func116, Tryz.ntmps116
  go_wp2_with fail
  refine (may_yes h hb).mono ?_
  rintro e w' ⟨rfl, rfl⟩
  go_wp2_with fail
  refine (may_no h' hb').mono ?_
  rintro e w' ⟨rfl, rfl⟩
  go_wp2
  go_ret2
  exact ⟨rfl, rfl⟩
theorem sub_no {w : World} {A B : Option Addr} {n c m d : Nat} {l r : List Nat} (h : Rd w .u64 W A n c l) (h' : Rd w .u64 W B m d r) (hb : (mayB l && mayB r) = false) :
    Calls Tryz.prog 116 #[.slice A n c, .slice B m d] w fun e w' => e = .returned (.tuple #[.slice none 0 0, .int .i64 1]) ∧ w = w' := by
  cases h1 : mayB l
  · exact sub_no1 h h1
  · exact sub_no2 h h1 h' (by simpa [h1] using hb)
theorem cmp_no1 {w : World} {A B : Option Addr} {n c m d : Nat} {l : List Nat} (h : Rd w .u64 W A n c l) (hb : mayB l = false) :
    Calls Tryz.prog 83 #[.slice A n c, .slice B m d] w fun e w' => e = .returned (.int .i64 0) ∧ w = w' := by
  go_enter Tryz.func83, Tryz.ntmps83
  go_wp2_with fail
  refine (may_no h hb).mono ?_
  rintro e w' ⟨rfl, rfl⟩
  go_wp2
  go_ret
  exact ⟨rfl, rfl⟩
theorem cmp_no2 {w : World} {A B : Option Addr} {n c m d : Nat} {l r : List Nat} (h : Rd w .u64 W A n c l) (hb : mayB l = true) (h' : Rd w .u64 W B m d r) (hb' : mayB r = false) :
    Calls Tryz.prog 83 #[.slice A n c, .slice B m d] w fun e w' => e = .returned (.int .i64 0) ∧ w = w' := by
  go_enter Tryz.func83, Tryz.ntmps83
  go_wp2_with fail
  refine (may_yes h hb).mono ?_
  rintro e w' ⟨rfl, rfl⟩
  go_wp2_with fail
  refine (may_no h' hb').mono ?_
  rintro e w' ⟨rfl, rfl⟩
  go_wp2
  go_ret
  exact ⟨rfl, rfl⟩
theorem cmp_no {w : World} {A B : Option Addr} {n c m d : Nat} {l r : List Nat} (h : Rd w .u64 W A n c l) (h' : Rd w .u64 W B m d r) (hb : (mayB l && mayB r) = false) :
    Calls Tryz.prog 83 #[.slice A n c, .slice B m d] w fun e w' => e = .returned (.int .i64 0) ∧ w = w' := by
  cases h1 : mayB l
  · exact cmp_no1 h h1
  · exact cmp_no2 h h1 h' (by simpa [h1] using hb)

/-- what nat tells of a number that may have too many limbs -/
def Is (w : World) (A : Option Addr) (n c : Nat) (k : Int) (x : Nat) : Prop := (Nt w A n c x ∧ k = 0) ∨ (n = 0 ∧ k = 2 ∧ W ^ 64 ≤ x)
theorem Is.below {w w' : World} {A : Option Addr} {n c x : Nat} {k : Int} (h : Is w A n c k x) (hb : Below w.heap.size w w') : Is w' A n c k x := by
  rcases h with ⟨h1, h2⟩ | h2
  · exact .inl ⟨h1.below hb, h2⟩
  · exact .inr h2
def ResIs (w : World) (x : Nat) (e : Ending) (w' : World) : Prop :=
  ∃ A n c k, e = .returned (.tuple #[.slice A n c, .int .i64 k]) ∧ Is w' A n c k x ∧ Below w.heap.size w w'
theorem res_ok {w w' : World} {x : Nat} {e : Ending} (h : ResOk w x e w') : ResIs w x e w' := by
  obtain ⟨A, n, c, h1, h2, h3⟩ := h
  exact ⟨A, n, c, 0, h1, .inl ⟨h2, rfl⟩, h3⟩
theorem res_bad {w w' : World} {x : Nat} {e : Ending} (hx : W ^ 64 ≤ x) (h : ResBad w 2 e w') : ResIs w x e w' := by
  obtain ⟨h1, h3⟩ := h
  exact ⟨none, 0, 0, 2, h1, .inr ⟨rfl, rfl, hx⟩, h3⟩
theorem add_is {w : World} {A B : Option Addr} {n c m d x y : Nat} (h : Nt w A n c x) (h' : Nt w B m d y) :
    Calls Tryz.prog 110 #[.slice A n c, .slice B m d] w fun e w' => ResIs w (x + y) e w' := by
  rcases Nat.lt_or_ge (x + y) (W ^ 64) with hs | hs
  · exact (add_ok h h' hs).mono fun _ _ => res_ok
  · exact (add_over h h' hs).mono fun _ _ => res_bad hs
theorem small_two {x y k : Nat} (h : W ^ 128 ≤ k) (hx : x < W ^ 64) (hy : y < W ^ 64) : x + y < k ∧ x * y < k := by
  have h1 : x * y < W ^ (64 + 64) := by rw [Nat.pow_add]; exact Nat.mul_lt_mul'' hx hy
  have h2 : W ^ 64 * 2 ≤ W ^ 64 * W ^ 64 := Nat.mul_le_mul_left _ (Nat.le_trans W_two (Nat.le_self_pow (by omega) W))
  rw [← Nat.pow_add] at h2
  have e : 64 + 64 = 128 := rfl
  rw [e] at h1 h2
  generalize W ^ 128 = p at *
  generalize W ^ 64 = q at *
  constructor <;> omega
theorem small_both {x y : Nat} (hx : x < W ^ 64) (hy : y < W ^ 64) : x + y < H ^ 600 ∧ x * y < H ^ 600 := by
  obtain ⟨k, hk⟩ : ∃ k, k = 600 := ⟨_, rfl⟩
  rw [← hk]
  refine small_two ?_ hx hy
  obtain ⟨j, hj⟩ : ∃ j, j = 128 := ⟨_, rfl⟩
  rw [← hj, W_pow_H]
  exact Nat.pow_le_pow_right (by rw [H_eq]; omega) (by omega)
theorem cmp_swap (x y : Nat) : cmpN y x = - cmpN x y ∧ -1 ≤ cmpN x y ∧ cmpN x y ≤ 1 ∧ (cmpN x y < 0 ↔ x < y) := by
  rcases Nat.lt_trichotomy x y with h | h | h
  · rw [cmpN_lt h, cmpN_gt h]; omega
  · rw [cmpN_eq h, cmpN_eq h.symm]; omega
  · rw [cmpN_gt h, cmpN_lt h]; omega

end Go.Proofs.YtijflbnfikiaaaaGreatDoor
