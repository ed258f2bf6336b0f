/-
 Contract of the statement NatAsks' function at this translation: it returns true, whatever its arguments. Condition: the slices read as limbs, the table of math/bits reads as its text lays it.
-/
import Derived.Test.YtdklnpaocaebkaaGreatDoorRApi
import Derived.Test.YtdklnpaocaebkaaGreatDoorRMul
namespace Go.Proofs.YtdklnpaocaebkaaGreatDoor
open Go.RowKit

/-- what nat tells of a number that may have too many limbs -/
def Is (w : World) (A : Option Addr) (n c : Nat) (k : Int) (x : Nat) : Prop := (Nt w A n c x ∧ k = 0) ∨ (n = 0 ∧ k = 2 ∧ W ^ 64 ≤ x)
theorem Is.below {w w' : World} {A : Option Addr} {n c x : Nat} {k : Int} (h : Is w A n c k x) (hb : Below w.heap.size w w') : Is w' A n c k x := by
 rcases h with ⟨h1, h2⟩ | h2
 ·exact .inl ⟨h1.below hb, h2⟩
 ·exact .inr h2
theorem mul_over {w : World} {A B : Option Addr} {n c m d x y : Nat} (h : Nt w A n c x) (h' : Nt w B m d y) (hs : W ^ 64 ≤ x * y) :
  Calls Tryz.prog 123 #[.slice A n c, .slice B m d] w fun e w' => ResBad w 2 e w' := by
 have hn := h.le
 have hm := h'.le
 go_enter Tryz.func123, Tryz.ntmps123
 go_wp2_with fail
 refine (may_nt h).mono ?_
 rintro e w' ⟨rfl, rfl⟩
 go_wp2_with fail
 refine (may_nt h').mono ?_
 rintro e w' ⟨rfl, rfl⟩
 go_wp2_with fail
 refine (product_any h.rd h'.rd (by omega) (by omega)).mono ?_
 rintro e w1 ⟨A1, n1, c1, rfl, hr1, hb1⟩
 rw [h.val, h'.val] at hr1
 have h64 : 64 < n1 := by
  rw [← hr1.len]
  rcases Nat.lt_or_ge 64 (dig W (x * y)).length with h5 | h5
  ·exact h5
  ·have := (len_dig W_two _ _).1 h5
   omega
 have hn1 : n1 ≤ 1000000000 := by
  rw [← hr1.len]
  have h65 : x * y < W ^ (64 + 64) := by
   rw [Nat.pow_add]
   exact Nat.mul_lt_mul'' h.lt h'.lt
  have := (len_dig W_two _ _).2 h65
  omega
 go_wp2_with fail
 refine (fits_over h64 hn1).mono ?_
 rintro e w' ⟨rfl, rfl⟩
 go_wp2
 go_ret2
 exact ⟨rfl, hb1⟩
theorem cmp_swap (x y : Nat) : cmpN y x = - cmpN x y ∧ -1 ≤ cmpN x y ∧ cmpN x y ≤ 1 ∧ (cmpN x y < 0 ↔ x < y) := by
 rcases Nat.lt_trichotomy x y with h | h | h
 ·rw [cmpN_lt h, cmpN_gt h]; omega
 ·rw [cmpN_eq h, cmpN_eq h.symm]; omega
 ·rw [cmpN_gt h, cmpN_lt h]; omega

end Go.Proofs.YtdklnpaocaebkaaGreatDoor
namespace Go.Proofs.YtdklnpaocaebkaaGreatDoor
open Go.RowKit

theorem dig_oneH {v : Nat} (h0 : v ≠ 0) (hv : v < H) : dig H v = [v] := by
 rw [dig_pos H_two h0, Nat.mod_eq_of_lt hv, Nat.div_eq_of_lt hv, dig_zero]
theorem dg_one (w : World) : Dg (w.alloc (.cells #[.int .u32 1] 95)) (some ⟨w.heap.size, 0, none⟩) 1 1 1 := by
 have hrow : Row (w.alloc (.cells (iv .u32 [1]).toArray 95)) w.heap.size 95 .u32 0 [] [1] [] := ⟨by rw [List.nil_append, List.append_nil]; exact heap_alloc_new w _, rfl⟩
 unfold Dg
 rw [dig_oneH (by omega) (by rw [H_eq]; omega)]
 exact hrow.rd (Lt.cons (by rw [H_eq]; omega) Lt.nil) (by simp) (by omega)
theorem Own.blk {base g N cap i : Nat} {w : World} {e : TypeId} {k : IntKind} {l : List Nat} (h : Own base w e k (.slice (some ⟨g, 0, none⟩) N cap) l) (hi : i < N) (hl : l.length = N) : g < w.heap.size := by
 obtain ⟨g', cap', post, hv, _, _, _, hrow⟩ := Row.of_own h (by omega)
 injection hv with hv1 _ _
 injection hv1 with hv1
 injection hv1 with hv1
 subst hv1
 exact hrow.gl

end Go.Proofs.YtdklnpaocaebkaaGreatDoor

namespace Go.Proofs.YtdklnpaocaebkaaGreatDoor
open Go.RowKit

end Go.Proofs.YtdklnpaocaebkaaGreatDoor
