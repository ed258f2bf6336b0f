/-
  Contract of the statement NatAsks' function at this translation: it returns true, whatever its arguments. Condition: the slices read as limbs, the table of math/bits reads as its text lays it.
-/
import Derived.Test.YtdklekiknhhfdaaDoorRBitsAll
import Derived.Test.YtdklekiknhhfdaaDoorRMul
namespace Go.Proofs.YtdklekiknhhfdaaDoor
open Go.RowKit

theorem add_no1 {w : World} {A B : Option Addr} {n c m d : Nat} {l : List Nat} (h : Rd w .u64 W A n c l) (hb : mayB l = false) :
    Calls Tryd.prog 18 #[.slice A n c, .slice B m d] w fun e w' => e = .returned (.tuple #[.slice none 0 0, .int .i64 1]) ∧ w = w' := by
  go_enter Tryd.func18, Tryd.ntmps18
  go_wp2_with fail
  refine (may_no h hb).mono ?_
  rintro e w' ⟨rfl, rfl⟩
  go_wp2
  go_ret2
  exact ⟨rfl, rfl⟩
theorem add_no2 {w : World} {A B : Option Addr} {n c m d : Nat} {l r : List Nat} (h : Rd w .u64 W A n c l) (hb : mayB l = true) (h' : Rd w .u64 W B m d r) (hb' : mayB r = false) :
    Calls Tryd.prog 18 #[.slice A n c, .slice B m d] w fun e w' => e = .returned (.tuple #[.slice none 0 0, .int .i64 1]) ∧ w = w' := by
  go_enter Tryd.func18, Tryd.ntmps18
  go_wp2_with fail
  refine (may_yes h hb).mono ?_
  rintro e w' ⟨rfl, rfl⟩
  go_wp2_with fail
  refine (may_no h' hb').mono ?_
  rintro e w' ⟨rfl, rfl⟩
  go_wp2
  go_ret2
  exact ⟨rfl, rfl⟩
theorem add_no {w : World} {A B : Option Addr} {n c m d : Nat} {l r : List Nat} (h : Rd w .u64 W A n c l) (h' : Rd w .u64 W B m d r) (hb : (mayB l && mayB r) = false) :
    Calls Tryd.prog 18 #[.slice A n c, .slice B m d] w fun e w' => e = .returned (.tuple #[.slice none 0 0, .int .i64 1]) ∧ w = w' := by
  cases h1 : mayB l
  · exact add_no1 h h1
  · exact add_no2 h h1 h' (by simpa [h1] using hb)
theorem mul_no1 {w : World} {A B : Option Addr} {n c m d : Nat} {l : List Nat} (h : Rd w .u64 W A n c l) (hb : mayB l = false) :
    Calls Tryd.prog 20 #[.slice A n c, .slice B m d] w fun e w' => e = .returned (.tuple #[.slice none 0 0, .int .i64 1]) ∧ w = w' := by
  go_enter Tryd.func20, Tryd.ntmps20
  go_wp2_with fail
  refine (may_no h hb).mono ?_
  rintro e w' ⟨rfl, rfl⟩
  go_wp2
  go_ret2
  exact ⟨rfl, rfl⟩
theorem mul_no2 {w : World} {A B : Option Addr} {n c m d : Nat} {l r : List Nat} (h : Rd w .u64 W A n c l) (hb : mayB l = true) (h' : Rd w .u64 W B m d r) (hb' : mayB r = false) :
    Calls Tryd.prog 20 #[.slice A n c, .slice B m d] w fun e w' => e = .returned (.tuple #[.slice none 0 0, .int .i64 1]) ∧ w = w' := by
  go_enter Tryd.func20, Tryd.ntmps20
  go_wp2_with fail
  refine (may_yes h hb).mono ?_
  rintro e w' ⟨rfl, rfl⟩
  go_wp2_with fail
  refine (may_no h' hb').mono ?_
  rintro e w' ⟨rfl, rfl⟩
  go_wp2
  go_ret2
  exact ⟨rfl, rfl⟩
theorem mul_no {w : World} {A B : Option Addr} {n c m d : Nat} {l r : List Nat} (h : Rd w .u64 W A n c l) (h' : Rd w .u64 W B m d r) (hb : (mayB l && mayB r) = false) :
    Calls Tryd.prog 20 #[.slice A n c, .slice B m d] w fun e w' => e = .returned (.tuple #[.slice none 0 0, .int .i64 1]) ∧ w = w' := by
  cases h1 : mayB l
  · exact mul_no1 h h1
  · exact mul_no2 h h1 h' (by simpa [h1] using hb)
theorem sub_no1 {w : World} {A B : Option Addr} {n c m d : Nat} {l : List Nat} (h : Rd w .u64 W A n c l) (hb : mayB l = false) :
    Calls Tryd.prog 19 #[.slice A n c, .slice B m d] w fun e w' => e = .returned (.tuple #[.slice none 0 0, .int .i64 1]) ∧ w = w' := by
  go_enter Tryd.func19, Tryd.ntmps19
  go_wp2_with fail
  refine (may_no h hb).mono ?_
  rintro e w' ⟨rfl, rfl⟩
  go_wp2
  go_ret2
  exact ⟨rfl, rfl⟩
theorem sub_no2 {w : World} {A B : Option Addr} {n c m d : Nat} {l r : List Nat} (h : Rd w .u64 W A n c l) (hb : mayB l = true) (h' : Rd w .u64 W B m d r) (hb' : mayB r = false) :
    Calls Tryd.prog 19 #[.slice A n c, .slice B m d] w fun e w' => e = .returned (.tuple #[.slice none 0 0, .int .i64 1]) ∧ w = w' := by
  go_enter Tryd.func19, Tryd.ntmps19
  go_wp2_with fail
  refine (may_yes h hb).mono ?_
  rintro e w' ⟨rfl, rfl⟩
  go_wp2_with fail
  refine (may_no h' hb').mono ?_
  rintro e w' ⟨rfl, rfl⟩
  go_wp2
  go_ret2
  exact ⟨rfl, rfl⟩
theorem sub_no {w : World} {A B : Option Addr} {n c m d : Nat} {l r : List Nat} (h : Rd w .u64 W A n c l) (h' : Rd w .u64 W B m d r) (hb : (mayB l && mayB r) = false) :
    Calls Tryd.prog 19 #[.slice A n c, .slice B m d] w fun e w' => e = .returned (.tuple #[.slice none 0 0, .int .i64 1]) ∧ w = w' := by
  cases h1 : mayB l
  · exact sub_no1 h h1
  · exact sub_no2 h h1 h' (by simpa [h1] using hb)
theorem cmp_no1 {w : World} {A B : Option Addr} {n c m d : Nat} {l : List Nat} (h : Rd w .u64 W A n c l) (hb : mayB l = false) :
    Calls Tryd.prog 23 #[.slice A n c, .slice B m d] w fun e w' => e = .returned (.int .i64 0) ∧ w = w' := by
  go_enter Tryd.func23, Tryd.ntmps23
  go_wp2_with fail
  refine (may_no h hb).mono ?_
  rintro e w' ⟨rfl, rfl⟩
  go_wp2
  go_ret
  exact ⟨rfl, rfl⟩
theorem cmp_no2 {w : World} {A B : Option Addr} {n c m d : Nat} {l r : List Nat} (h : Rd w .u64 W A n c l) (hb : mayB l = true) (h' : Rd w .u64 W B m d r) (hb' : mayB r = false) :
    Calls Tryd.prog 23 #[.slice A n c, .slice B m d] w fun e w' => e = .returned (.int .i64 0) ∧ w = w' := by
  go_enter Tryd.func23, Tryd.ntmps23
  go_wp2_with fail
  refine (may_yes h hb).mono ?_
  rintro e w' ⟨rfl, rfl⟩
  go_wp2_with fail
  refine (may_no h' hb').mono ?_
  rintro e w' ⟨rfl, rfl⟩
  go_wp2
  go_ret
  exact ⟨rfl, rfl⟩
theorem cmp_no {w : World} {A B : Option Addr} {n c m d : Nat} {l r : List Nat} (h : Rd w .u64 W A n c l) (h' : Rd w .u64 W B m d r) (hb : (mayB l && mayB r) = false) :
    Calls Tryd.prog 23 #[.slice A n c, .slice B m d] w fun e w' => e = .returned (.int .i64 0) ∧ w = w' := by
  cases h1 : mayB l
  · exact cmp_no1 h h1
  · exact cmp_no2 h h1 h' (by simpa [h1] using hb)

/-- what nat tells of a number that may have too many limbs -/
def Is (w : World) (A : Option Addr) (n c : Nat) (k : Int) (x : Nat) : Prop := (Nt w A n c x ∧ k = 0) ∨ (n = 0 ∧ k = 2 ∧ W ^ 64 ≤ x)
theorem Is.below {w w' : World} {A : Option Addr} {n c x : Nat} {k : Int} (h : Is w A n c k x) (hb : Below w.heap.size w w') : Is w' A n c k x := by
  rcases h with ⟨h1, h2⟩ | h2
  · exact .inl ⟨h1.below hb, h2⟩
  · exact .inr h2
def ResIs (w : World) (x : Nat) (e : Ending) (w' : World) : Prop :=
  ∃ A n c k, e = .returned (.tuple #[.slice A n c, .int .i64 k]) ∧ Is w' A n c k x ∧ Below w.heap.size w w'
theorem res_ok {w w' : World} {x : Nat} {e : Ending} (h : ResOk w x e w') : ResIs w x e w' := by
  obtain ⟨A, n, c, h1, h2, h3⟩ := h
  exact ⟨A, n, c, 0, h1, .inl ⟨h2, rfl⟩, h3⟩
theorem res_bad {w w' : World} {x : Nat} {e : Ending} (hx : W ^ 64 ≤ x) (h : ResBad w 2 e w') : ResIs w x e w' := by
  obtain ⟨h1, h3⟩ := h
  exact ⟨none, 0, 0, 2, h1, .inr ⟨rfl, rfl, hx⟩, h3⟩
theorem add_is {w : World} {A B : Option Addr} {n c m d x y : Nat} (h : Nt w A n c x) (h' : Nt w B m d y) :
    Calls Tryd.prog 18 #[.slice A n c, .slice B m d] w fun e w' => ResIs w (x + y) e w' := by
  rcases Nat.lt_or_ge (x + y) (W ^ 64) with hs | hs
  · exact (add_ok h h' hs).mono fun _ _ => res_ok
  · exact (add_over h h' hs).mono fun _ _ => res_bad hs
theorem mul_over {w : World} {A B : Option Addr} {n c m d x y : Nat} (h : Nt w A n c x) (h' : Nt w B m d y) (hs : W ^ 64 ≤ x * y) :
    Calls Tryd.prog 20 #[.slice A n c, .slice B m d] w fun e w' => ResBad w 2 e w' := by
  have hn := h.le
  have hm := h'.le
  go_enter Tryd.func20, Tryd.ntmps20
  go_wp2_with fail
  refine (may_nt h).mono ?_
  rintro e w' ⟨rfl, rfl⟩
  go_wp2_with fail
  refine (may_nt h').mono ?_
  rintro e w' ⟨rfl, rfl⟩
  go_wp2_with fail
  refine (product_any h.rd h'.rd (by omega) (by omega)).mono ?_
  rintro e w1 ⟨A1, n1, c1, rfl, hr1, hb1⟩
  rw [h.val, h'.val] at hr1
  have h64 : 64 < n1 := by
    rw [← hr1.len]
    rcases Nat.lt_or_ge 64 (dig W (x * y)).length with h5 | h5
    · exact h5
    · have := (len_dig W_two _ _).1 h5
      omega
  have hn1 : n1 ≤ 1000000000 := by
    rw [← hr1.len]
    have h65 : x * y < W ^ (64 + 64) := by
      rw [Nat.pow_add]
      exact Nat.mul_lt_mul'' h.lt h'.lt
    have := (len_dig W_two _ _).2 h65
    omega
  go_wp2_with fail
  refine (fits_over h64 hn1).mono ?_
  rintro e w' ⟨rfl, rfl⟩
  go_wp2
  go_ret2
  exact ⟨rfl, hb1⟩
theorem mul_is {w : World} {A B : Option Addr} {n c m d x y : Nat} (h : Nt w A n c x) (h' : Nt w B m d y) :
    Calls Tryd.prog 20 #[.slice A n c, .slice B m d] w fun e w' => ResIs w (x * y) e w' := by
  rcases Nat.lt_or_ge (x * y) (W ^ 64) with hs | hs
  · exact (mul_ok h h' hs).mono fun _ _ => res_ok
  · exact (mul_over h h' hs).mono fun _ _ => res_bad hs
theorem is_any {w : World} {A B : Option Addr} {n c m d x : Nat} {k : Int} (h : Is w A n c k x) (h' : Dg w B m d x) (hm : m ≤ 10000) :
    Calls Tryd.prog 26 #[.slice A n c, .int .i64 k, .slice B m d] w fun e w' => e = .returned (.bool true) ∧ Below w.heap.size w w' := by
  rcases h with ⟨h1, rfl⟩ | ⟨rfl, rfl, hx⟩
  · exact is_yes h1 h' hm
  · exact is_over h' hm hx
theorem small_two {x y k : Nat} (h : W ^ 128 ≤ k) (hx : x < W ^ 64) (hy : y < W ^ 64) : x + y < k ∧ x * y < k := by
  have h1 : x * y < W ^ (64 + 64) := by rw [Nat.pow_add]; exact Nat.mul_lt_mul'' hx hy
  have h2 : W ^ 64 * 2 ≤ W ^ 64 * W ^ 64 := Nat.mul_le_mul_left _ (Nat.le_trans W_two (Nat.le_self_pow (by omega) W))
  rw [← Nat.pow_add] at h2
  have e : 64 + 64 = 128 := rfl
  rw [e] at h1 h2
  generalize W ^ 128 = p at *
  generalize W ^ 64 = q at *
  constructor <;> omega
theorem small_both {x y : Nat} (hx : x < W ^ 64) (hy : y < W ^ 64) : x + y < H ^ 600 ∧ x * y < H ^ 600 := by
  obtain ⟨k, hk⟩ : ∃ k, k = 600 := ⟨_, rfl⟩
  rw [← hk]
  refine small_two ?_ hx hy
  obtain ⟨j, hj⟩ : ∃ j, j = 128 := ⟨_, rfl⟩
  rw [← hj, W_pow_H]
  exact Nat.pow_le_pow_right (by rw [H_eq]; omega) (by omega)
theorem cmp_swap (x y : Nat) : cmpN y x = - cmpN x y ∧ -1 ≤ cmpN x y ∧ cmpN x y ≤ 1 ∧ (cmpN x y < 0 ↔ x < y) := by
  rcases Nat.lt_trichotomy x y with h | h | h
  · rw [cmpN_lt h, cmpN_gt h]; omega
  · rw [cmpN_eq h, cmpN_eq h.symm]; omega
  · rw [cmpN_gt h, cmpN_lt h]; omega

set_option maxRecDepth 100000 in
set_option maxHeartbeats 4000000 in
theorem asks_out1 {w : World} {A B : Option Addr} {n c m d : Nat} {l r : List Nat} (hT : Tab w) (h : Rd w .u64 W A n c l) (_h' : Rd w .u64 W B m d r) (hn : 70 < n) :
    Calls Tryd.prog 3 #[.slice A n c, .slice B m d] w fun e w' => ToldEnd w e w' := by
  have hmax := h.max
  have hcap := h.cap
  go_enter Tryd.func3, Tryd.ntmps3
  go_wp2_with fail
  refine (few_no hn (by omega)).mono ?_
  rintro e w' ⟨rfl, rfl⟩
  go_wp2_with fail
  refine (told_any hT).mono ?_
  rintro e w1 ⟨rfl, b⟩
  have BB := b
  clear b
  go_wp2
  go_ret
  exact ⟨rfl, BB⟩

set_option maxRecDepth 100000 in
set_option maxHeartbeats 4000000 in
theorem asks_out2 {w : World} {A B : Option Addr} {n c m d : Nat} {l r : List Nat} (hT : Tab w) (_h : Rd w .u64 W A n c l) (h' : Rd w .u64 W B m d r) (hn : n ≤ 70) (hm : 70 < m) :
    Calls Tryd.prog 3 #[.slice A n c, .slice B m d] w fun e w' => ToldEnd w e w' := by
  have hmax := h'.max
  have hcap := h'.cap
  go_enter Tryd.func3, Tryd.ntmps3
  go_wp2_with fail
  refine (few_yes hn).mono ?_
  rintro e w' ⟨rfl, rfl⟩
  go_wp2_with fail
  refine (few_no hm (by omega)).mono ?_
  rintro e w' ⟨rfl, rfl⟩
  go_wp2_with fail
  refine (told_any hT).mono ?_
  rintro e w1 ⟨rfl, b⟩
  have BB := b
  clear b
  go_wp2
  go_ret
  exact ⟨rfl, BB⟩

set_option maxRecDepth 100000 in
set_option maxHeartbeats 4000000 in
theorem asks_bad1 {w : World} {A B : Option Addr} {n c m d : Nat} {l r : List Nat} (hT : Tab w) (h : Rd w .u64 W A n c l) (h' : Rd w .u64 W B m d r) (hn : n ≤ 70) (hm : m ≤ 70) (hl : mayB l = false) :
    Calls Tryd.prog 3 #[.slice A n c, .slice B m d] w fun e w' => ToldEnd w e w' := by
  have hmax := h.max
  have hcap := h.cap
  have hmax' := h'.max
  have hcap' := h'.cap
  have hno := Lib.hid (show (mayB l && mayB r) = false by simp [hl])
  go_enter Tryd.func3, Tryd.ntmps3
  go_wp2_with fail
  refine (few_yes hn).mono ?_
  rintro e w' ⟨rfl, rfl⟩
  go_wp2_with fail
  refine (few_yes hm).mono ?_
  rintro e w' ⟨rfl, rfl⟩
  go_wp2_with fail
  refine (add_no h h' hno.out).mono ?_
  rintro e w' ⟨rfl, rfl⟩
  go_wp2_with fail
  refine (sub_no h h' hno.out).mono ?_
  rintro e w' ⟨rfl, rfl⟩
  go_wp2_with fail
  refine (mul_no h h' hno.out).mono ?_
  rintro e w' ⟨rfl, rfl⟩
  go_wp2_with fail
  refine (rmay_any h).mono ?_
  rintro e w' ⟨rfl, rfl⟩
  rw [hl]
  go_wp2_with fail
  refine (told_any hT).mono ?_
  rintro e w1 ⟨rfl, b⟩
  replace h := h.below b
  replace h' := h'.below b
  replace hT := hT.below b
  have BB := b
  clear b
  go_wp2_with fail
  refine (may_no h hl).mono ?_
  rintro e w' ⟨rfl, rfl⟩
  go_wp2_with fail
  refine (rmay_any h).mono ?_
  rintro e w' ⟨rfl, rfl⟩
  rw [hl]
  go_wp2_with fail
  refine (may_any h').mono ?_
  rintro e w' ⟨rfl, rfl⟩
  go_wp2_with fail
  refine (rmay_any h').mono ?_
  rintro e w' ⟨rfl, rfl⟩
  go_wp2_with fail
  refine (cmp_no h h' hno.out).mono ?_
  rintro e w' ⟨rfl, rfl⟩
  go_wp2
  go_ret
  exact ⟨rfl, BB⟩

set_option maxRecDepth 100000 in
set_option maxHeartbeats 4000000 in
theorem asks_bad2 {w : World} {A B : Option Addr} {n c m d : Nat} {l r : List Nat} (hT : Tab w) (h : Rd w .u64 W A n c l) (h' : Rd w .u64 W B m d r) (hn : n ≤ 70) (hm : m ≤ 70) (hl : mayB l = true) (hr : mayB r = false) :
    Calls Tryd.prog 3 #[.slice A n c, .slice B m d] w fun e w' => ToldEnd w e w' := by
  have hmax := h.max
  have hcap := h.cap
  have hmax' := h'.max
  have hcap' := h'.cap
  have hno := Lib.hid (show (mayB l && mayB r) = false by simp [hl, hr])
  go_enter Tryd.func3, Tryd.ntmps3
  go_wp2_with fail
  refine (few_yes hn).mono ?_
  rintro e w' ⟨rfl, rfl⟩
  go_wp2_with fail
  refine (few_yes hm).mono ?_
  rintro e w' ⟨rfl, rfl⟩
  go_wp2_with fail
  refine (add_no h h' hno.out).mono ?_
  rintro e w' ⟨rfl, rfl⟩
  go_wp2_with fail
  refine (sub_no h h' hno.out).mono ?_
  rintro e w' ⟨rfl, rfl⟩
  go_wp2_with fail
  refine (mul_no h h' hno.out).mono ?_
  rintro e w' ⟨rfl, rfl⟩
  go_wp2_with fail
  refine (rmay_any h).mono ?_
  rintro e w' ⟨rfl, rfl⟩
  rw [hl]
  go_wp2_with fail
  refine (rmay_any h').mono ?_
  rintro e w' ⟨rfl, rfl⟩
  rw [hr]
  go_wp2_with fail
  refine (told_any hT).mono ?_
  rintro e w1 ⟨rfl, b⟩
  replace h := h.below b
  replace h' := h'.below b
  replace hT := hT.below b
  have BB := b
  clear b
  go_wp2_with fail
  refine (may_yes h hl).mono ?_
  rintro e w' ⟨rfl, rfl⟩
  go_wp2_with fail
  refine (rmay_any h).mono ?_
  rintro e w' ⟨rfl, rfl⟩
  rw [hl]
  go_wp2_with fail
  refine (may_no h' hr).mono ?_
  rintro e w' ⟨rfl, rfl⟩
  go_wp2_with fail
  refine (rmay_any h').mono ?_
  rintro e w' ⟨rfl, rfl⟩
  rw [hr]
  go_wp2_with fail
  refine (cmp_no h h' hno.out).mono ?_
  rintro e w' ⟨rfl, rfl⟩
  go_wp2
  go_ret
  exact ⟨rfl, BB⟩

set_option maxRecDepth 100000 in
set_option maxHeartbeats 4000000 in
theorem asks_less {w : World} {A B : Option Addr} {n c m d : Nat} {l r : List Nat} (hT : Tab w) (h : Rd w .u64 W A n c l) (h' : Rd w .u64 W B m d r) (hn : n ≤ 70) (hm : m ≤ 70) (hl : mayB l = true) (hr : mayB r = true) (hxy : val W l < val W r) :
    Calls Tryd.prog 3 #[.slice A n c, .slice B m d] w fun e w' => ToldEnd w e w' := by
  have hln := h.len
  have hrn := h'.len
  have N := (nt_of h hl).1
  have N' := (nt_of h' hr).1
  have HS := Lib.hid (small_both N.lt N'.lt)
  obtain ⟨t, ht⟩ : ∃ t, t = cmpN (val W l) (val W r) := ⟨_, rfl⟩
  obtain ⟨s1, s2, s3, s4⟩ := cmp_swap (val W l) (val W r)
  rw [← ht] at s1 s2 s3 s4
  have HS1 := Lib.hid s1
  have HT1 := Lib.hid ht.symm
  have dt : decide (t < 0) = true := decide_eq_true (by omega)
  have HXY := Lib.hid hxy
  clear s1 s4 ht hxy
  go_enter Tryd.func3, Tryd.ntmps3
  go_wp2_with fail
  refine (few_yes hn).mono ?_
  rintro e w' ⟨rfl, rfl⟩
  go_wp2_with fail
  refine (few_yes hm).mono ?_
  rintro e w' ⟨rfl, rfl⟩
  go_wp2_with fail
  refine (add_is N N').mono ?_
  rintro e w1 ⟨A1, n1, c1, k1, rfl, hs, b⟩
  replace h := h.below b
  replace h' := h'.below b
  replace N := N.below b
  replace N' := N'.below b
  replace hT := hT.below b
  have BB := b
  clear b
  go_wp2_with fail
  refine (sub_bad N N' HXY.out).mono ?_
  rintro e w2 ⟨rfl, b⟩
  replace h := h.below b
  replace h' := h'.below b
  replace N := N.below b
  replace N' := N'.below b
  replace hT := hT.below b
  replace hs := hs.below b
  replace BB := BB.trans (b.mono BB.size)
  clear b
  go_wp2_with fail
  refine (mul_is N N').mono ?_
  rintro e w3 ⟨A3, n3, c3, k3, rfl, hp, b⟩
  replace h := h.below b
  replace h' := h'.below b
  replace N := N.below b
  replace N' := N'.below b
  replace hT := hT.below b
  replace hs := hs.below b
  replace BB := BB.trans (b.mono BB.size)
  clear b
  go_wp2_with fail
  refine (rmay_any h).mono ?_
  rintro e w' ⟨rfl, rfl⟩
  rw [hl]
  go_wp2_with fail
  refine (rmay_any h').mono ?_
  rintro e w' ⟨rfl, rfl⟩
  rw [hr]
  go_wp2_with fail
  refine (rfrom_any h (by omega)).mono ?_
  rintro e w4 ⟨A4, n4, c4, rfl, hx, b⟩
  replace h := h.below b
  replace h' := h'.below b
  replace N := N.below b
  replace N' := N'.below b
  replace hT := hT.below b
  replace hs := hs.below b
  replace hp := hp.below b
  replace BB := BB.trans (b.mono BB.size)
  clear b
  have hn4 := from_small h.lt (by omega) hx
  go_wp2_with fail
  refine (rfrom_any h' (by omega)).mono ?_
  rintro e w5 ⟨A5, n5, c5, rfl, hy, b⟩
  replace h := h.below b
  replace h' := h'.below b
  replace N := N.below b
  replace N' := N'.below b
  replace hT := hT.below b
  replace hs := hs.below b
  replace hp := hp.below b
  replace hx := hx.below b
  replace BB := BB.trans (b.mono BB.size)
  clear b
  have hn5 := from_small h'.lt (by omega) hy
  go_wp2_with fail
  refine (rcmp_any hx hy).mono ?_
  rintro e w6 ⟨rfl, b⟩
  replace h := h.below b
  replace h' := h'.below b
  replace N := N.below b
  replace N' := N'.below b
  replace hT := hT.below b
  replace hs := hs.below b
  replace hp := hp.below b
  replace hx := hx.below b
  replace hy := hy.below b
  replace BB := BB.trans (b.mono BB.size)
  clear b
  rw [HT1.out]
  go_wp2_with fail
  refine (cmp_nt N N').mono ?_
  rintro e w7 ⟨rfl, b⟩
  replace h := h.below b
  replace h' := h'.below b
  replace N := N.below b
  replace N' := N'.below b
  replace hT := hT.below b
  replace hs := hs.below b
  replace hp := hp.below b
  replace hx := hx.below b
  replace hy := hy.below b
  replace BB := BB.trans (b.mono BB.size)
  clear b
  rw [HT1.out]
  go_wp2_with fail
  refine (cmp_nt N' N).mono ?_
  rintro e w8 ⟨rfl, b⟩
  replace h := h.below b
  replace h' := h'.below b
  replace N := N.below b
  replace N' := N'.below b
  replace hT := hT.below b
  replace hs := hs.below b
  replace hp := hp.below b
  replace hx := hx.below b
  replace hy := hy.below b
  replace BB := BB.trans (b.mono BB.size)
  clear b
  rw [HS1.out]
  go_wp2_with fail
  refine (radd_any hx hy (by omega) (by omega)).mono ?_
  rintro e w9 ⟨A6, n6, c6, rfl, hz, b⟩
  replace h := h.below b
  replace h' := h'.below b
  replace N := N.below b
  replace N' := N'.below b
  replace hT := hT.below b
  replace hs := hs.below b
  replace hp := hp.below b
  replace hx := hx.below b
  replace hy := hy.below b
  replace BB := BB.trans (b.mono BB.size)
  clear b
  have hn6 := dg_small hz HS.out.1
  go_wp2_with fail
  refine (is_any hs hz (by omega)).mono ?_
  rintro e w10 ⟨rfl, b⟩
  clear hs hz
  replace h := h.below b
  replace h' := h'.below b
  replace N := N.below b
  replace N' := N'.below b
  replace hT := hT.below b
  replace hp := hp.below b
  replace hx := hx.below b
  replace hy := hy.below b
  replace BB := BB.trans (b.mono BB.size)
  clear b
  go_wp2_with fail
  refine (rmul_any hx hy (by omega) (by omega)).mono ?_
  rintro e w11 ⟨A7, n7, c7, rfl, hz, b⟩
  replace h := h.below b
  replace h' := h'.below b
  replace N := N.below b
  replace N' := N'.below b
  replace hT := hT.below b
  replace hp := hp.below b
  replace hx := hx.below b
  replace hy := hy.below b
  replace BB := BB.trans (b.mono BB.size)
  clear b
  have hn7 := dg_small hz HS.out.2
  go_wp2_with fail
  refine (is_any hp hz (by omega)).mono ?_
  rintro e w12 ⟨rfl, b⟩
  clear hp hz
  replace h := h.below b
  replace h' := h'.below b
  replace N := N.below b
  replace N' := N'.below b
  replace hT := hT.below b
  replace hx := hx.below b
  replace hy := hy.below b
  replace BB := BB.trans (b.mono BB.size)
  clear b
  go_wp2_with fail
  refine (told_any hT).mono ?_
  rintro e w13 ⟨rfl, b⟩
  replace h := h.below b
  replace h' := h'.below b
  replace N := N.below b
  replace N' := N'.below b
  replace hT := hT.below b
  replace hx := hx.below b
  replace hy := hy.below b
  replace BB := BB.trans (b.mono BB.size)
  clear b
  go_wp2
  go_ret
  exact ⟨rfl, BB⟩

set_option maxRecDepth 100000 in
set_option maxHeartbeats 4000000 in
theorem asks_more {w : World} {A B : Option Addr} {n c m d : Nat} {l r : List Nat} (hT : Tab w) (h : Rd w .u64 W A n c l) (h' : Rd w .u64 W B m d r) (hn : n ≤ 70) (hm : m ≤ 70) (hl : mayB l = true) (hr : mayB r = true) (hxy : val W r ≤ val W l) :
    Calls Tryd.prog 3 #[.slice A n c, .slice B m d] w fun e w' => ToldEnd w e w' := by
  have hln := h.len
  have hrn := h'.len
  have N := (nt_of h hl).1
  have N' := (nt_of h' hr).1
  have HS := Lib.hid (small_both N.lt N'.lt)
  obtain ⟨t, ht⟩ : ∃ t, t = cmpN (val W l) (val W r) := ⟨_, rfl⟩
  obtain ⟨s1, s2, s3, s4⟩ := cmp_swap (val W l) (val W r)
  rw [← ht] at s1 s2 s3 s4
  have HS1 := Lib.hid s1
  have HT1 := Lib.hid ht.symm
  have dt : decide (t < 0) = false := decide_eq_false (by omega)
  have HXY := Lib.hid hxy
  clear s1 s4 ht hxy
  go_enter Tryd.func3, Tryd.ntmps3
  go_wp2_with fail
  refine (few_yes hn).mono ?_
  rintro e w' ⟨rfl, rfl⟩
  go_wp2_with fail
  refine (few_yes hm).mono ?_
  rintro e w' ⟨rfl, rfl⟩
  go_wp2_with fail
  refine (add_is N N').mono ?_
  rintro e w1 ⟨A1, n1, c1, k1, rfl, hs, b⟩
  replace h := h.below b
  replace h' := h'.below b
  replace N := N.below b
  replace N' := N'.below b
  replace hT := hT.below b
  have BB := b
  clear b
  go_wp2_with fail
  refine (sub_ok N N' HXY.out).mono ?_
  rintro e w2 ⟨A2, n2, c2, rfl, hd, b⟩
  replace h := h.below b
  replace h' := h'.below b
  replace N := N.below b
  replace N' := N'.below b
  replace hT := hT.below b
  replace hs := hs.below b
  replace BB := BB.trans (b.mono BB.size)
  clear b
  go_wp2_with fail
  refine (mul_is N N').mono ?_
  rintro e w3 ⟨A3, n3, c3, k3, rfl, hp, b⟩
  replace h := h.below b
  replace h' := h'.below b
  replace N := N.below b
  replace N' := N'.below b
  replace hT := hT.below b
  replace hs := hs.below b
  replace hd := hd.below b
  replace BB := BB.trans (b.mono BB.size)
  clear b
  go_wp2_with fail
  refine (rmay_any h).mono ?_
  rintro e w' ⟨rfl, rfl⟩
  rw [hl]
  go_wp2_with fail
  refine (rmay_any h').mono ?_
  rintro e w' ⟨rfl, rfl⟩
  rw [hr]
  go_wp2_with fail
  refine (rfrom_any h (by omega)).mono ?_
  rintro e w4 ⟨A4, n4, c4, rfl, hx, b⟩
  replace h := h.below b
  replace h' := h'.below b
  replace N := N.below b
  replace N' := N'.below b
  replace hT := hT.below b
  replace hs := hs.below b
  replace hd := hd.below b
  replace hp := hp.below b
  replace BB := BB.trans (b.mono BB.size)
  clear b
  have hn4 := from_small h.lt (by omega) hx
  go_wp2_with fail
  refine (rfrom_any h' (by omega)).mono ?_
  rintro e w5 ⟨A5, n5, c5, rfl, hy, b⟩
  replace h := h.below b
  replace h' := h'.below b
  replace N := N.below b
  replace N' := N'.below b
  replace hT := hT.below b
  replace hs := hs.below b
  replace hd := hd.below b
  replace hp := hp.below b
  replace hx := hx.below b
  replace BB := BB.trans (b.mono BB.size)
  clear b
  have hn5 := from_small h'.lt (by omega) hy
  go_wp2_with fail
  refine (rcmp_any hx hy).mono ?_
  rintro e w6 ⟨rfl, b⟩
  replace h := h.below b
  replace h' := h'.below b
  replace N := N.below b
  replace N' := N'.below b
  replace hT := hT.below b
  replace hs := hs.below b
  replace hd := hd.below b
  replace hp := hp.below b
  replace hx := hx.below b
  replace hy := hy.below b
  replace BB := BB.trans (b.mono BB.size)
  clear b
  rw [HT1.out]
  go_wp2_with fail
  refine (cmp_nt N N').mono ?_
  rintro e w7 ⟨rfl, b⟩
  replace h := h.below b
  replace h' := h'.below b
  replace N := N.below b
  replace N' := N'.below b
  replace hT := hT.below b
  replace hs := hs.below b
  replace hd := hd.below b
  replace hp := hp.below b
  replace hx := hx.below b
  replace hy := hy.below b
  replace BB := BB.trans (b.mono BB.size)
  clear b
  rw [HT1.out]
  go_wp2_with fail
  refine (cmp_nt N' N).mono ?_
  rintro e w8 ⟨rfl, b⟩
  replace h := h.below b
  replace h' := h'.below b
  replace N := N.below b
  replace N' := N'.below b
  replace hT := hT.below b
  replace hs := hs.below b
  replace hd := hd.below b
  replace hp := hp.below b
  replace hx := hx.below b
  replace hy := hy.below b
  replace BB := BB.trans (b.mono BB.size)
  clear b
  rw [HS1.out]
  go_wp2_with fail
  refine (radd_any hx hy (by omega) (by omega)).mono ?_
  rintro e w9 ⟨A6, n6, c6, rfl, hz, b⟩
  replace h := h.below b
  replace h' := h'.below b
  replace N := N.below b
  replace N' := N'.below b
  replace hT := hT.below b
  replace hs := hs.below b
  replace hd := hd.below b
  replace hp := hp.below b
  replace hx := hx.below b
  replace hy := hy.below b
  replace BB := BB.trans (b.mono BB.size)
  clear b
  have hn6 := dg_small hz HS.out.1
  go_wp2_with fail
  refine (is_any hs hz (by omega)).mono ?_
  rintro e w10 ⟨rfl, b⟩
  clear hs hz
  replace h := h.below b
  replace h' := h'.below b
  replace N := N.below b
  replace N' := N'.below b
  replace hT := hT.below b
  replace hd := hd.below b
  replace hp := hp.below b
  replace hx := hx.below b
  replace hy := hy.below b
  replace BB := BB.trans (b.mono BB.size)
  clear b
  go_wp2_with fail
  refine (rmul_any hx hy (by omega) (by omega)).mono ?_
  rintro e w11 ⟨A7, n7, c7, rfl, hz, b⟩
  replace h := h.below b
  replace h' := h'.below b
  replace N := N.below b
  replace N' := N'.below b
  replace hT := hT.below b
  replace hd := hd.below b
  replace hp := hp.below b
  replace hx := hx.below b
  replace hy := hy.below b
  replace BB := BB.trans (b.mono BB.size)
  clear b
  have hn7 := dg_small hz HS.out.2
  go_wp2_with fail
  refine (is_any hp hz (by omega)).mono ?_
  rintro e w12 ⟨rfl, b⟩
  clear hp hz
  replace h := h.below b
  replace h' := h'.below b
  replace N := N.below b
  replace N' := N'.below b
  replace hT := hT.below b
  replace hd := hd.below b
  replace hx := hx.below b
  replace hy := hy.below b
  replace BB := BB.trans (b.mono BB.size)
  clear b
  go_wp2_with fail
  refine (told_any hT).mono ?_
  rintro e w13 ⟨rfl, b⟩
  replace h := h.below b
  replace h' := h'.below b
  replace N := N.below b
  replace N' := N'.below b
  replace hT := hT.below b
  replace hd := hd.below b
  replace hx := hx.below b
  replace hy := hy.below b
  replace BB := BB.trans (b.mono BB.size)
  clear b
  go_wp2_with fail
  refine (rsub_any hx hy (by omega) HXY.out).mono ?_
  rintro e w14 ⟨A8, n8, c8, rfl, hz, b⟩
  replace h := h.below b
  replace h' := h'.below b
  replace N := N.below b
  replace N' := N'.below b
  replace hT := hT.below b
  replace hd := hd.below b
  replace hx := hx.below b
  replace hy := hy.below b
  replace BB := BB.trans (b.mono BB.size)
  clear b
  have hn8 := dg_small hz (Nat.lt_of_le_of_lt (Nat.le_trans (Nat.sub_le _ _) (Nat.le_add_right _ _)) HS.out.1)
  go_wp2_with fail
  refine (is_yes hd hz (by omega)).mono ?_
  rintro e w15 ⟨rfl, b⟩
  clear hd hz
  replace h := h.below b
  replace h' := h'.below b
  replace N := N.below b
  replace N' := N'.below b
  replace hT := hT.below b
  replace hx := hx.below b
  replace hy := hy.below b
  replace BB := BB.trans (b.mono BB.size)
  clear b
  go_wp2
  go_ret
  exact ⟨rfl, BB⟩

theorem asks_any {w : World} {A B : Option Addr} {n c m d : Nat} {l r : List Nat} (hT : Tab w) (h : Rd w .u64 W A n c l) (h' : Rd w .u64 W B m d r) :
    Calls Tryd.prog 3 #[.slice A n c, .slice B m d] w fun e w' => ToldEnd w e w' := by
  by_cases hn : n ≤ 70
  · by_cases hm : m ≤ 70
    · cases hl : mayB l
      · exact asks_bad1 hT h h' hn hm hl
      · cases hr : mayB r
        · exact asks_bad2 hT h h' hn hm hl hr
        · rcases Nat.lt_or_ge (val W l) (val W r) with hxy | hxy
          · exact asks_less hT h h' hn hm hl hr hxy
          · exact asks_more hT h h' hn hm hl hr hxy
    · exact asks_out2 hT h h' hn (by omega)
  · exact asks_out1 hT h h' (by omega)
end Go.Proofs.YtdklekiknhhfdaaDoor
