/-
 Contract of the statement ArithAsks's function at this translation: it returns true, whatever its arguments. Condition: the slices read as limbs, the table of math/bits reads as its text lays it.
-/
import Derived.Test.YtdklnpaocaebkaaGreatDoorLo
import Derived.Test.YtdklnpaocaebkaaGreatDoorLm
set_option maxHeartbeats 8000000
set_option maxRecDepth 100000
namespace Go.Proofs.YtdklnpaocaebkaaGreatDoor
open Go.RowKit


theorem sqr_same (S : Sc) {x : Iv} {p : Int} : face1 S x p (sqrI S x p) = face1 S x p (sqrR S x p) := by
 unfold face1
 by_cases hc : (mayI S.K x && prec p) = true
 ·rw [if_pos hc, if_pos hc]
  have hm := mayI_iff.1 ((Bool.and_eq_true _ _).mp hc).1
  unfold sqrI sqrR
  cases h1 : mulO S x.lo x.lo with
  | error k => rfl
  | ok a =>
   show thn (mulO S x.hi x.hi) _ = thn (mulO S x.hi x.hi) _
   cases h2 : mulO S x.hi x.hi with
   | error k => rfl
   | ok b =>
    show outO S (leaL S (if hasI S.K x Rw.zero = true then [a, b, Rw.zero] else [a, b])) (greL S (if hasI S.K x Rw.zero = true then [a, b, Rw.zero] else [a, b])) p = outO S (if hasI S.K x Rw.zero = true then Rw.zero else leastQ S.K a b) (greatQ S.K a b) p
    by_cases hz : hasI S.K x Rw.zero = true
    ·rw [if_pos hz, if_pos hz]
     have m1 := mulO_ok hm.1 hm.1 h1
     have m2 := mulO_ok hm.2.1 hm.2.1 h2
     have hP := pos_of_pow (k := S.K)
     have sq : ∀ u : Int, 0 ≤ u * u := fun u => by
      rcases Int.le_total 0 u with h | h
      ·exact Int.mul_nonneg h h
      ·exact Int.mul_nonneg_of_nonpos_of_nonpos h h
     have n1 : 0 ≤ a.v S.K := of_scaled (K := S.K) (by rw [Int.zero_mul, m1.2]; exact sq _)
     have n2 : 0 ≤ b.v S.K := of_scaled (K := S.K) (by rw [Int.zero_mul, m2.2]; exact sq _)
     have vz0 : Rw.zero.v S.K = 0 := vz_zero S.K _ _
     obtain ⟨o1, l1, l2⟩ := least_or (S := S) m1.1 m2.1
     obtain ⟨o2, g1, g2⟩ := great_or (S := S) m1.1 m2.1
     have mm : (leastQ S.K a b).may = true := by rcases o1 with h | h <;> rw [h]; exact m1.1; exact m2.1
     have mg : (greatQ S.K a b).may = true := by rcases o2 with h | h <;> rw [h]; exact m1.1; exact m2.1
     have pos : 0 ≤ (leastQ S.K a b).v S.K := by rcases o1 with h | h <;> rw [h] <;> assumption
     have e1 : leaL S [a, b, Rw.zero] = Rw.zero := by
      show leastQ S.K (leastQ S.K a b) Rw.zero = Rw.zero
      obtain ⟨o3, _, l3⟩ := least_or (S := S) mm Rw.zero_may
      rcases o3 with h | h
      ·rw [h] at l3
       rw [h]
       exact one_of_v S.big mm Rw.zero_may (by omega)
      ·exact h
     have e2 : greL S [a, b, Rw.zero] = greatQ S.K a b := by
      show greatQ S.K (greatQ S.K a b) Rw.zero = _
      unfold greatQ
      rw [if_neg]
      intro h
      have := (cmpQ_lt (K := S.K) mg Rw.zero_may).1 h
      omega
     rw [e1, e2]
    ·rw [if_neg hz, if_neg hz]
     rfl
 ·rw [if_neg hc, if_neg hc]

theorem same6_self {w : World} {x : Iv} {k : Int} {A1 : Option Addr} {n1 c1 : Nat} {A2 : Option Addr} {n2 c2 : Nat} {A3 : Option Addr} {n3 c3 : Nat} {A4 : Option Addr} {n4 c4 : Nat} (h1 : Rd w .u64 Go.Proofs.YtdklnpaocaebkaaGreatDoor.W A1 n1 c1 x.lo.l) (h2 : Rd w .u64 Go.Proofs.YtdklnpaocaebkaaGreatDoor.W A2 n2 c2 x.hi.l) (h3 : Rd w .u64 Go.Proofs.YtdklnpaocaebkaaGreatDoor.W A3 n3 c3 x.lo.l) (h4 : Rd w .u64 Go.Proofs.YtdklnpaocaebkaaGreatDoor.W A4 n4 c4 x.hi.l) :
  Calls Tryz.prog 16 #[.agg #[.bool x.lo.s, .slice A1 n1 c1, .int .i64 x.lo.e, .bool x.hi.s, .slice A2 n2 c2, .int .i64 x.hi.e], .int .i64 k, .agg #[.bool x.lo.s, .slice A3 n3 c3, .int .i64 x.lo.e, .bool x.hi.s, .slice A4 n4 c4, .int .i64 x.hi.e], .int .i64 k] w (Bools true w) := by
 obtain ⟨BB, xa, xb⟩ := two_ivl w (x := x) (y := x) (A1 := A1) (n1 := n1) (c1 := c1) (A2 := A2) (n2 := n2) (c2 := c2) (A3 := A3) (n3 := n3) (c3 := c3) (A4 := A4) (n4 := n4) (c4 := c4)
 obtain ⟨a0, a1, a2, a3, a4, a5⟩ := xa.held
 obtain ⟨e0, e1, e2, e3, e4, e5⟩ := xb.held
 clear xa xb
 have g0 : (k == k) = true := by simp
 have G := mv BB rfl (J4 h1 h2 h3 h4)
 clear h1 h2 h3 h4
 obtain ⟨h1, h2, h3, h4⟩ := G
 go_enter Tryz.func16, Tryz.ntmps16
 go_wp2_with fail
 refine (show Calls _ _ _ _ (Bools true _) from by have := rsamei_any (x := x) (y := x) h1 h2 h3 h4; rwa [sameI_iff.2 rfl] at this).mono ?_
 rintro en w1 ⟨rfl, b⟩
 replace BB := bnx BB b
 have G := mv b rfl (J16 a0 a1 a2 a3 a4 a5 e0 e1 e2 e3 e4 e5 h1 h2 h3 h4)
 clear b a0 a1 a2 a3 a4 a5 e0 e1 e2 e3 e4 e5 h1 h2 h3 h4
 obtain ⟨a0, a1, a2, a3, a4, a5, e0, e1, e2, e3, e4, e5, h1, h2, h3, h4⟩ := G
 go_wp2
 go_ret
 exact ⟨by first | rfl | simp, BB⟩

theorem arithasks_any {w : World} {x y : Iv} {A1 : Option Addr} {n1 c1 : Nat} {A2 : Option Addr} {n2 c2 : Nat} {A3 : Option Addr} {n3 c3 : Nat} {A4 : Option Addr} {n4 c4 : Nat} {p : Int} (hT : Tab w) (h1 : Rd w .u64 Go.Proofs.YtdklnpaocaebkaaGreatDoor.W A1 n1 c1 x.lo.l) (h2 : Rd w .u64 Go.Proofs.YtdklnpaocaebkaaGreatDoor.W A2 n2 c2 x.hi.l) (h3 : Rd w .u64 Go.Proofs.YtdklnpaocaebkaaGreatDoor.W A3 n3 c3 y.lo.l) (h4 : Rd w .u64 Go.Proofs.YtdklnpaocaebkaaGreatDoor.W A4 n4 c4 y.hi.l) :
  Calls Tryz.prog 3 #[.agg #[.bool x.lo.s, .slice A1 n1 c1, .int .i64 x.lo.e, .bool x.hi.s, .slice A2 n2 c2, .int .i64 x.hi.e], .agg #[.bool y.lo.s, .slice A3 n3 c3, .int .i64 y.lo.e, .bool y.hi.s, .slice A4 n4 c4, .int .i64 y.hi.e], .int .i64 p] w fun en w' => ToldEnd w en w' := by
 obtain ⟨S⟩ := sc_has
 have y1 : n1 ≤ 9223372036854775807 := Nat.le_trans h1.cap h1.max
 have y2 : n2 ≤ 9223372036854775807 := Nat.le_trans h2.cap h2.max
 have y3 : n3 ≤ 9223372036854775807 := Nat.le_trans h3.cap h3.max
 have y4 : n4 ≤ 9223372036854775807 := Nat.le_trans h4.cap h4.max
 have BB := two_below w (.cells #[.bool x.lo.s, .slice A1 n1 c1, .int .i64 x.lo.e, .bool x.hi.s, .slice A2 n2 c2, .int .i64 x.hi.e] 26) (.cells #[.bool y.lo.s, .slice A3 n3 c3, .int .i64 y.lo.e, .bool y.hi.s, .slice A4 n4 c4, .int .i64 y.hi.e] 26)
 obtain ⟨_, xa, xb⟩ := two_ivl w (x := x) (y := y) (A1 := A1) (n1 := n1) (c1 := c1) (A2 := A2) (n2 := n2) (c2 := c2) (A3 := A3) (n3 := n3) (c3 := c3) (A4 := A4) (n4 := n4) (c4 := c4)
 obtain ⟨a0, a1, a2, a3, a4, a5⟩ := xa.held
 obtain ⟨e0, e1, e2, e3, e4, e5⟩ := xb.held
 clear xa xb
 have G := mv BB rfl (J5 hT h1 h2 h3 h4)
 clear hT h1 h2 h3 h4
 obtain ⟨hT, h1, h2, h3, h4⟩ := G
 obtain ⟨q1, hq⟩ : ∃ q : Except Int Iv, q = face2 S x y p (sumO S x y p) := ⟨_, rfl⟩
 have HQ1 := Lib.hid hq
 clear hq
 obtain ⟨q2, hq⟩ : ∃ q : Except Int Iv, q = face2 S x y p (sumO S x (turnI y) p) := ⟨_, rfl⟩
 have HQ2 := Lib.hid hq
 clear hq
 obtain ⟨q3, hq⟩ : ∃ q : Except Int Iv, q = face2 S x y p (mulI S x y p) := ⟨_, rfl⟩
 have HQ3 := Lib.hid hq
 clear hq
 obtain ⟨q4, hq⟩ : ∃ q : Except Int Iv, q = face1 S x p (sqrI S x p) := ⟨_, rfl⟩
 have HQ4 := Lib.hid hq
 clear hq
 obtain ⟨q5, hq⟩ : ∃ q : Except Int Iv, q = face1 S x p (negI S x p) := ⟨_, rfl⟩
 have HQ5 := Lib.hid hq
 clear hq
 go_enter Tryz.func3, Tryz.ntmps3
 go_upto_region 1 with fail
 go_cut [42] (fun v42 wc => ∃ z : Bool, v42 = .bool z ∧ Below w.heap.size w wc ∧ Below ((w.alloc (.cells #[.bool x.lo.s, .slice A1 n1 c1, .int .i64 x.lo.e, .bool x.hi.s, .slice A2 n2 c2, .int .i64 x.hi.e] 26)).alloc (.cells #[.bool y.lo.s, .slice A3 n3 c3, .int .i64 y.lo.e, .bool y.hi.s, .slice A4 n4 c4, .int .i64 y.hi.e] 26)).heap.size ((w.alloc (.cells #[.bool x.lo.s, .slice A1 n1 c1, .int .i64 x.lo.e, .bool x.hi.s, .slice A2 n2 c2, .int .i64 x.hi.e] 26)).alloc (.cells #[.bool y.lo.s, .slice A3 n3 c3, .int .i64 y.lo.e, .bool y.hi.s, .slice A4 n4 c4, .int .i64 y.hi.e] 26)) wc)
 case first =>
  have BD := Below.refl ((w.alloc (.cells #[.bool x.lo.s, .slice A1 n1 c1, .int .i64 x.lo.e, .bool x.hi.s, .slice A2 n2 c2, .int .i64 x.hi.e] 26)).alloc (.cells #[.bool y.lo.s, .slice A3 n3 c3, .int .i64 y.lo.e, .bool y.hi.s, .slice A4 n4 c4, .int .i64 y.hi.e] 26)).heap.size ((w.alloc (.cells #[.bool x.lo.s, .slice A1 n1 c1, .int .i64 x.lo.e, .bool x.hi.s, .slice A2 n2 c2, .int .i64 x.hi.e] 26)).alloc (.cells #[.bool y.lo.s, .slice A3 n3 c3, .int .i64 y.lo.e, .bool y.hi.s, .slice A4 n4 c4, .int .i64 y.hi.e] 26))
  go_wp2_with fail
  refine (few5_any (x := x) y1 y2).mono ?_
  rintro en u1 ⟨rfl, b⟩
  replace BD := below_next BD BD.size b rfl rfl rfl rfl
  replace BB := bnx BB b
  have G := mv b rfl (J17 a0 a1 a2 a3 a4 a5 e0 e1 e2 e3 e4 e5 hT h1 h2 h3 h4)
  clear b a0 a1 a2 a3 a4 a5 e0 e1 e2 e3 e4 e5 hT h1 h2 h3 h4
  obtain ⟨a0, a1, a2, a3, a4, a5, e0, e1, e2, e3, e4, e5, hT, h1, h2, h3, h4⟩ := G
  cases f1 : (decide (n1 ≤ 70) && decide (n2 ≤ 70))
  ·go_wp2_with fail
   go_meet
   case rel => exact ⟨_, rfl, BB, BD⟩
  clear f1
  go_wp2_with fail
  refine (few5_any (x := y) y3 y4).mono ?_
  rintro en u2 ⟨rfl, b⟩
  replace BD := below_next BD BD.size b rfl rfl rfl rfl
  replace BB := bnx BB b
  have G := mv b rfl (J17 a0 a1 a2 a3 a4 a5 e0 e1 e2 e3 e4 e5 hT h1 h2 h3 h4)
  clear b a0 a1 a2 a3 a4 a5 e0 e1 e2 e3 e4 e5 hT h1 h2 h3 h4
  obtain ⟨a0, a1, a2, a3, a4, a5, e0, e1, e2, e3, e4, e5, hT, h1, h2, h3, h4⟩ := G
  cases f1 : (decide (n3 ≤ 70) && decide (n4 ≤ 70))
  ·go_wp2_with fail
   go_meet
   case rel => exact ⟨_, rfl, BB, BD⟩
  clear f1
  by_cases g : 300 < p
  ·have g3 : decide ((300 : Int) < p) = true := decide_eq_true g
   by_cases g1 : p ≤ 2000
   ·have g4 : decide (p ≤ (2000 : Int)) = true := decide_eq_true g1
    clear g g1
    go_wp2_with fail
    go_meet
    case rel => exact ⟨_, rfl, BB, BD⟩
   have g4 : decide (p ≤ (2000 : Int)) = false := decide_eq_false g1
   clear g g1
   go_wp2_with fail
   go_meet
   case rel => exact ⟨_, rfl, BB, BD⟩
  have g3 : decide ((300 : Int) < p) = false := decide_eq_false g
  clear g
  go_wp2_with fail
  go_meet
  case rel => exact ⟨_, rfl, BB, BD⟩
 case rest =>
  obtain ⟨z, rfl, BB2, b⟩ := hcut
  clear y1 y2 y3 y4
  have G := mv b rfl (J17 a0 a1 a2 a3 a4 a5 e0 e1 e2 e3 e4 e5 hT h1 h2 h3 h4)
  clear b a0 a1 a2 a3 a4 a5 e0 e1 e2 e3 e4 e5 hT h1 h2 h3 h4
  obtain ⟨a0, a1, a2, a3, a4, a5, e0, e1, e2, e3, e4, e5, hT, h1, h2, h3, h4⟩ := G
  replace BB := BB2
  clear BB2
  cases z
  rotate_left
  ·go_wp2_with fail
   refine (told6_any hT).mono ?_
   rintro en w99 ⟨rfl, b⟩
   replace BB := bnx BB b
   clear b
   go_wp2
   go_ret
   exact ⟨by first | rfl | simp, BB⟩
  go_wp2_with fail
  refine (tello_to HQ1.out (aadd_any S hT h1 h2 h3 h4)).mono ?_
  rintro en v10 ⟨A10, n10, c10, A11, n11, c11, rfl, h10, h11, b⟩
  replace BB := bnx BB b
  have G := mv b rfl (J17 a0 a1 a2 a3 a4 a5 e0 e1 e2 e3 e4 e5 hT h1 h2 h3 h4)
  clear b a0 a1 a2 a3 a4 a5 e0 e1 e2 e3 e4 e5 hT h1 h2 h3 h4
  obtain ⟨a0, a1, a2, a3, a4, a5, e0, e1, e2, e3, e4, e5, hT, h1, h2, h3, h4⟩ := G
  have X10 := Ibx.new v10 (oiv q1).lo.s A10 n10 c10 (oiv q1).lo.e (oiv q1).hi.s A11 n11 c11 (oiv q1).hi.e
  have b := below_alloc v10 (.cells #[.bool (oiv q1).lo.s, .slice A10 n10 c10, .int .i64 (oiv q1).lo.e, .bool (oiv q1).hi.s, .slice A11 n11 c11, .int .i64 (oiv q1).hi.e] 26)
  replace BB := bnx BB b
  have G := mv b rfl (J19 a0 a1 a2 a3 a4 a5 e0 e1 e2 e3 e4 e5 hT h1 h2 h3 h4 h10 h11)
  clear b a0 a1 a2 a3 a4 a5 e0 e1 e2 e3 e4 e5 hT h1 h2 h3 h4 h10 h11
  obtain ⟨a0, a1, a2, a3, a4, a5, e0, e1, e2, e3, e4, e5, hT, h1, h2, h3, h4, h10, h11⟩ := G
  go_wp2_with fail
  refine (tello_to HQ1.out (radd5_any S h1 h2 h3 h4)).mono ?_
  rintro en v12 ⟨A12, n12, c12, A13, n13, c13, rfl, h12, h13, b⟩
  replace BB := bnx BB b
  have G := mv b rfl (J20 a0 a1 a2 a3 a4 a5 e0 e1 e2 e3 e4 e5 hT h1 h2 h3 h4 h10 h11 X10)
  clear b a0 a1 a2 a3 a4 a5 e0 e1 e2 e3 e4 e5 hT h1 h2 h3 h4 h10 h11 X10
  obtain ⟨a0, a1, a2, a3, a4, a5, e0, e1, e2, e3, e4, e5, hT, h1, h2, h3, h4, h10, h11, X10⟩ := G
  have X12 := Ibx.new v12 (oiv q1).lo.s A12 n12 c12 (oiv q1).lo.e (oiv q1).hi.s A13 n13 c13 (oiv q1).hi.e
  have b := below_alloc v12 (.cells #[.bool (oiv q1).lo.s, .slice A12 n12 c12, .int .i64 (oiv q1).lo.e, .bool (oiv q1).hi.s, .slice A13 n13 c13, .int .i64 (oiv q1).hi.e] 26)
  replace BB := bnx BB b
  have G := mv b rfl (J22 a0 a1 a2 a3 a4 a5 e0 e1 e2 e3 e4 e5 hT h1 h2 h3 h4 h10 h11 X10 h12 h13)
  clear b a0 a1 a2 a3 a4 a5 e0 e1 e2 e3 e4 e5 hT h1 h2 h3 h4 h10 h11 X10 h12 h13
  obtain ⟨a0, a1, a2, a3, a4, a5, e0, e1, e2, e3, e4, e5, hT, h1, h2, h3, h4, h10, h11, X10, h12, h13⟩ := G
  go_wp2_with fail
  refine (tello_to HQ2.out (asub_any S hT h1 h2 h3 h4)).mono ?_
  rintro en v14 ⟨A14, n14, c14, A15, n15, c15, rfl, h14, h15, b⟩
  replace BB := bnx BB b
  have G := mv b rfl (J23 a0 a1 a2 a3 a4 a5 e0 e1 e2 e3 e4 e5 hT h1 h2 h3 h4 h10 h11 X10 h12 h13 X12)
  clear b a0 a1 a2 a3 a4 a5 e0 e1 e2 e3 e4 e5 hT h1 h2 h3 h4 h10 h11 X10 h12 h13 X12
  obtain ⟨a0, a1, a2, a3, a4, a5, e0, e1, e2, e3, e4, e5, hT, h1, h2, h3, h4, h10, h11, X10, h12, h13, X12⟩ := G
  have X14 := Ibx.new v14 (oiv q2).lo.s A14 n14 c14 (oiv q2).lo.e (oiv q2).hi.s A15 n15 c15 (oiv q2).hi.e
  have b := below_alloc v14 (.cells #[.bool (oiv q2).lo.s, .slice A14 n14 c14, .int .i64 (oiv q2).lo.e, .bool (oiv q2).hi.s, .slice A15 n15 c15, .int .i64 (oiv q2).hi.e] 26)
  replace BB := bnx BB b
  have G := mv b rfl (J25 a0 a1 a2 a3 a4 a5 e0 e1 e2 e3 e4 e5 hT h1 h2 h3 h4 h10 h11 X10 h12 h13 X12 h14 h15)
  clear b a0 a1 a2 a3 a4 a5 e0 e1 e2 e3 e4 e5 hT h1 h2 h3 h4 h10 h11 X10 h12 h13 X12 h14 h15
  obtain ⟨a0, a1, a2, a3, a4, a5, e0, e1, e2, e3, e4, e5, hT, h1, h2, h3, h4, h10, h11, X10, h12, h13, X12, h14, h15⟩ := G
  go_wp2_with fail
  refine (tello_to HQ2.out (rsub5_any S h1 h2 h3 h4)).mono ?_
  rintro en v16 ⟨A16, n16, c16, A17, n17, c17, rfl, h16, h17, b⟩
  replace BB := bnx BB b
  have G := mv b rfl (J26 a0 a1 a2 a3 a4 a5 e0 e1 e2 e3 e4 e5 hT h1 h2 h3 h4 h10 h11 X10 h12 h13 X12 h14 h15 X14)
  clear b a0 a1 a2 a3 a4 a5 e0 e1 e2 e3 e4 e5 hT h1 h2 h3 h4 h10 h11 X10 h12 h13 X12 h14 h15 X14
  obtain ⟨a0, a1, a2, a3, a4, a5, e0, e1, e2, e3, e4, e5, hT, h1, h2, h3, h4, h10, h11, X10, h12, h13, X12, h14, h15, X14⟩ := G
  have X16 := Ibx.new v16 (oiv q2).lo.s A16 n16 c16 (oiv q2).lo.e (oiv q2).hi.s A17 n17 c17 (oiv q2).hi.e
  have b := below_alloc v16 (.cells #[.bool (oiv q2).lo.s, .slice A16 n16 c16, .int .i64 (oiv q2).lo.e, .bool (oiv q2).hi.s, .slice A17 n17 c17, .int .i64 (oiv q2).hi.e] 26)
  replace BB := bnx BB b
  have G := mv b rfl (J28 a0 a1 a2 a3 a4 a5 e0 e1 e2 e3 e4 e5 hT h1 h2 h3 h4 h10 h11 X10 h12 h13 X12 h14 h15 X14 h16 h17)
  clear b a0 a1 a2 a3 a4 a5 e0 e1 e2 e3 e4 e5 hT h1 h2 h3 h4 h10 h11 X10 h12 h13 X12 h14 h15 X14 h16 h17
  obtain ⟨a0, a1, a2, a3, a4, a5, e0, e1, e2, e3, e4, e5, hT, h1, h2, h3, h4, h10, h11, X10, h12, h13, X12, h14, h15, X14, h16, h17⟩ := G
  go_wp2_with fail
  refine (tello_to HQ3.out (amul_any S hT h1 h2 h3 h4)).mono ?_
  rintro en v18 ⟨A18, n18, c18, A19, n19, c19, rfl, h18, h19, b⟩
  replace BB := bnx BB b
  have G := mv b rfl (J29 a0 a1 a2 a3 a4 a5 e0 e1 e2 e3 e4 e5 hT h1 h2 h3 h4 h10 h11 X10 h12 h13 X12 h14 h15 X14 h16 h17 X16)
  clear b a0 a1 a2 a3 a4 a5 e0 e1 e2 e3 e4 e5 hT h1 h2 h3 h4 h10 h11 X10 h12 h13 X12 h14 h15 X14 h16 h17 X16
  obtain ⟨a0, a1, a2, a3, a4, a5, e0, e1, e2, e3, e4, e5, hT, h1, h2, h3, h4, h10, h11, X10, h12, h13, X12, h14, h15, X14, h16, h17, X16⟩ := G
  have X18 := Ibx.new v18 (oiv q3).lo.s A18 n18 c18 (oiv q3).lo.e (oiv q3).hi.s A19 n19 c19 (oiv q3).hi.e
  have b := below_alloc v18 (.cells #[.bool (oiv q3).lo.s, .slice A18 n18 c18, .int .i64 (oiv q3).lo.e, .bool (oiv q3).hi.s, .slice A19 n19 c19, .int .i64 (oiv q3).hi.e] 26)
  replace BB := bnx BB b
  have G := mv b rfl (J31 a0 a1 a2 a3 a4 a5 e0 e1 e2 e3 e4 e5 hT h1 h2 h3 h4 h10 h11 X10 h12 h13 X12 h14 h15 X14 h16 h17 X16 h18 h19)
  clear b a0 a1 a2 a3 a4 a5 e0 e1 e2 e3 e4 e5 hT h1 h2 h3 h4 h10 h11 X10 h12 h13 X12 h14 h15 X14 h16 h17 X16 h18 h19
  obtain ⟨a0, a1, a2, a3, a4, a5, e0, e1, e2, e3, e4, e5, hT, h1, h2, h3, h4, h10, h11, X10, h12, h13, X12, h14, h15, X14, h16, h17, X16, h18, h19⟩ := G
  go_wp2_with fail
  refine (tello_to HQ3.out (rmul5_any S h1 h2 h3 h4)).mono ?_
  rintro en v20 ⟨A20, n20, c20, A21, n21, c21, rfl, h20, h21, b⟩
  replace BB := bnx BB b
  have G := mv b rfl (J32 a0 a1 a2 a3 a4 a5 e0 e1 e2 e3 e4 e5 hT h1 h2 h3 h4 h10 h11 X10 h12 h13 X12 h14 h15 X14 h16 h17 X16 h18 h19 X18)
  clear b a0 a1 a2 a3 a4 a5 e0 e1 e2 e3 e4 e5 hT h1 h2 h3 h4 h10 h11 X10 h12 h13 X12 h14 h15 X14 h16 h17 X16 h18 h19 X18
  obtain ⟨a0, a1, a2, a3, a4, a5, e0, e1, e2, e3, e4, e5, hT, h1, h2, h3, h4, h10, h11, X10, h12, h13, X12, h14, h15, X14, h16, h17, X16, h18, h19, X18⟩ := G
  have X20 := Ibx.new v20 (oiv q3).lo.s A20 n20 c20 (oiv q3).lo.e (oiv q3).hi.s A21 n21 c21 (oiv q3).hi.e
  have b := below_alloc v20 (.cells #[.bool (oiv q3).lo.s, .slice A20 n20 c20, .int .i64 (oiv q3).lo.e, .bool (oiv q3).hi.s, .slice A21 n21 c21, .int .i64 (oiv q3).hi.e] 26)
  replace BB := bnx BB b
  have G := mv b rfl (J34 a0 a1 a2 a3 a4 a5 e0 e1 e2 e3 e4 e5 hT h1 h2 h3 h4 h10 h11 X10 h12 h13 X12 h14 h15 X14 h16 h17 X16 h18 h19 X18 h20 h21)
  clear b a0 a1 a2 a3 a4 a5 e0 e1 e2 e3 e4 e5 hT h1 h2 h3 h4 h10 h11 X10 h12 h13 X12 h14 h15 X14 h16 h17 X16 h18 h19 X18 h20 h21
  obtain ⟨a0, a1, a2, a3, a4, a5, e0, e1, e2, e3, e4, e5, hT, h1, h2, h3, h4, h10, h11, X10, h12, h13, X12, h14, h15, X14, h16, h17, X16, h18, h19, X18, h20, h21⟩ := G
  go_wp2_with fail
  refine (tello_to HQ4.out (asqr_any S hT h1 h2)).mono ?_
  rintro en v22 ⟨A22, n22, c22, A23, n23, c23, rfl, h22, h23, b⟩
  replace BB := bnx BB b
  have G := mv b rfl (J35 a0 a1 a2 a3 a4 a5 e0 e1 e2 e3 e4 e5 hT h1 h2 h3 h4 h10 h11 X10 h12 h13 X12 h14 h15 X14 h16 h17 X16 h18 h19 X18 h20 h21 X20)
  clear b a0 a1 a2 a3 a4 a5 e0 e1 e2 e3 e4 e5 hT h1 h2 h3 h4 h10 h11 X10 h12 h13 X12 h14 h15 X14 h16 h17 X16 h18 h19 X18 h20 h21 X20
  obtain ⟨a0, a1, a2, a3, a4, a5, e0, e1, e2, e3, e4, e5, hT, h1, h2, h3, h4, h10, h11, X10, h12, h13, X12, h14, h15, X14, h16, h17, X16, h18, h19, X18, h20, h21, X20⟩ := G
  have X22 := Ibx.new v22 (oiv q4).lo.s A22 n22 c22 (oiv q4).lo.e (oiv q4).hi.s A23 n23 c23 (oiv q4).hi.e
  have b := below_alloc v22 (.cells #[.bool (oiv q4).lo.s, .slice A22 n22 c22, .int .i64 (oiv q4).lo.e, .bool (oiv q4).hi.s, .slice A23 n23 c23, .int .i64 (oiv q4).hi.e] 26)
  replace BB := bnx BB b
  have G := mv b rfl (J37 a0 a1 a2 a3 a4 a5 e0 e1 e2 e3 e4 e5 hT h1 h2 h3 h4 h10 h11 X10 h12 h13 X12 h14 h15 X14 h16 h17 X16 h18 h19 X18 h20 h21 X20 h22 h23)
  clear b a0 a1 a2 a3 a4 a5 e0 e1 e2 e3 e4 e5 hT h1 h2 h3 h4 h10 h11 X10 h12 h13 X12 h14 h15 X14 h16 h17 X16 h18 h19 X18 h20 h21 X20 h22 h23
  obtain ⟨a0, a1, a2, a3, a4, a5, e0, e1, e2, e3, e4, e5, hT, h1, h2, h3, h4, h10, h11, X10, h12, h13, X12, h14, h15, X14, h16, h17, X16, h18, h19, X18, h20, h21, X20, h22, h23⟩ := G
  go_wp2_with fail
  refine (tello_to HQ4.out (tello_to (sqr_same S) (rsqr5_any S h1 h2))).mono ?_
  rintro en v24 ⟨A24, n24, c24, A25, n25, c25, rfl, h24, h25, b⟩
  replace BB := bnx BB b
  have G := mv b rfl (J38 a0 a1 a2 a3 a4 a5 e0 e1 e2 e3 e4 e5 hT h1 h2 h3 h4 h10 h11 X10 h12 h13 X12 h14 h15 X14 h16 h17 X16 h18 h19 X18 h20 h21 X20 h22 h23 X22)
  clear b a0 a1 a2 a3 a4 a5 e0 e1 e2 e3 e4 e5 hT h1 h2 h3 h4 h10 h11 X10 h12 h13 X12 h14 h15 X14 h16 h17 X16 h18 h19 X18 h20 h21 X20 h22 h23 X22
  obtain ⟨a0, a1, a2, a3, a4, a5, e0, e1, e2, e3, e4, e5, hT, h1, h2, h3, h4, h10, h11, X10, h12, h13, X12, h14, h15, X14, h16, h17, X16, h18, h19, X18, h20, h21, X20, h22, h23, X22⟩ := G
  have X24 := Ibx.new v24 (oiv q4).lo.s A24 n24 c24 (oiv q4).lo.e (oiv q4).hi.s A25 n25 c25 (oiv q4).hi.e
  have b := below_alloc v24 (.cells #[.bool (oiv q4).lo.s, .slice A24 n24 c24, .int .i64 (oiv q4).lo.e, .bool (oiv q4).hi.s, .slice A25 n25 c25, .int .i64 (oiv q4).hi.e] 26)
  replace BB := bnx BB b
  have G := mv b rfl (J40 a0 a1 a2 a3 a4 a5 e0 e1 e2 e3 e4 e5 hT h1 h2 h3 h4 h10 h11 X10 h12 h13 X12 h14 h15 X14 h16 h17 X16 h18 h19 X18 h20 h21 X20 h22 h23 X22 h24 h25)
  clear b a0 a1 a2 a3 a4 a5 e0 e1 e2 e3 e4 e5 hT h1 h2 h3 h4 h10 h11 X10 h12 h13 X12 h14 h15 X14 h16 h17 X16 h18 h19 X18 h20 h21 X20 h22 h23 X22 h24 h25
  obtain ⟨a0, a1, a2, a3, a4, a5, e0, e1, e2, e3, e4, e5, hT, h1, h2, h3, h4, h10, h11, X10, h12, h13, X12, h14, h15, X14, h16, h17, X16, h18, h19, X18, h20, h21, X20, h22, h23, X22, h24, h25⟩ := G
  go_wp2_with fail
  refine (tello_to HQ5.out (aneg_any S hT h1 h2)).mono ?_
  rintro en v26 ⟨A26, n26, c26, A27, n27, c27, rfl, h26, h27, b⟩
  replace BB := bnx BB b
  have G := mv b rfl (J30 a0 a1 a2 a3 a4 a5 e0 e1 e2 e3 e4 e5 hT h1 h2 h3 h4 h10 h11 X10 h12 h13 X12 h14 h15 X14 h16 h17 X16 h18)
  clear a0 a1 a2 a3 a4 a5 e0 e1 e2 e3 e4 e5 hT h1 h2 h3 h4 h10 h11 X10 h12 h13 X12 h14 h15 X14 h16 h17 X16 h18
  obtain ⟨a0, a1, a2, a3, a4, a5, e0, e1, e2, e3, e4, e5, hT, h1, h2, h3, h4, h10, h11, X10, h12, h13, X12, h14, h15, X14, h16, h17, X16, h18⟩ := G
  have G := mv b rfl (J11 h19 X18 h20 h21 X20 h22 h23 X22 h24 h25 X24)
  clear h19 X18 h20 h21 X20 h22 h23 X22 h24 h25 X24
  obtain ⟨h19, X18, h20, h21, X20, h22, h23, X22, h24, h25, X24⟩ := G
  clear b
  have X26 := Ibx.new v26 (oiv q5).lo.s A26 n26 c26 (oiv q5).lo.e (oiv q5).hi.s A27 n27 c27 (oiv q5).hi.e
  have b := below_alloc v26 (.cells #[.bool (oiv q5).lo.s, .slice A26 n26 c26, .int .i64 (oiv q5).lo.e, .bool (oiv q5).hi.s, .slice A27 n27 c27, .int .i64 (oiv q5).hi.e] 26)
  replace BB := bnx BB b
  have G := mv b rfl (J30 a0 a1 a2 a3 a4 a5 e0 e1 e2 e3 e4 e5 hT h1 h2 h3 h4 h10 h11 X10 h12 h13 X12 h14 h15 X14 h16 h17 X16 h18)
  clear a0 a1 a2 a3 a4 a5 e0 e1 e2 e3 e4 e5 hT h1 h2 h3 h4 h10 h11 X10 h12 h13 X12 h14 h15 X14 h16 h17 X16 h18
  obtain ⟨a0, a1, a2, a3, a4, a5, e0, e1, e2, e3, e4, e5, hT, h1, h2, h3, h4, h10, h11, X10, h12, h13, X12, h14, h15, X14, h16, h17, X16, h18⟩ := G
  have G := mv b rfl (J13 h19 X18 h20 h21 X20 h22 h23 X22 h24 h25 X24 h26 h27)
  clear h19 X18 h20 h21 X20 h22 h23 X22 h24 h25 X24 h26 h27
  obtain ⟨h19, X18, h20, h21, X20, h22, h23, X22, h24, h25, X24, h26, h27⟩ := G
  clear b
  go_wp2_with fail
  refine (tello_to HQ5.out (rneg5_any S h1 h2)).mono ?_
  rintro en v28 ⟨A28, n28, c28, A29, n29, c29, rfl, h28, h29, b⟩
  replace BB := bnx BB b
  have G := mv b rfl (J30 a0 a1 a2 a3 a4 a5 e0 e1 e2 e3 e4 e5 hT h1 h2 h3 h4 h10 h11 X10 h12 h13 X12 h14 h15 X14 h16 h17 X16 h18)
  clear a0 a1 a2 a3 a4 a5 e0 e1 e2 e3 e4 e5 hT h1 h2 h3 h4 h10 h11 X10 h12 h13 X12 h14 h15 X14 h16 h17 X16 h18
  obtain ⟨a0, a1, a2, a3, a4, a5, e0, e1, e2, e3, e4, e5, hT, h1, h2, h3, h4, h10, h11, X10, h12, h13, X12, h14, h15, X14, h16, h17, X16, h18⟩ := G
  have G := mv b rfl (J14 h19 X18 h20 h21 X20 h22 h23 X22 h24 h25 X24 h26 h27 X26)
  clear h19 X18 h20 h21 X20 h22 h23 X22 h24 h25 X24 h26 h27 X26
  obtain ⟨h19, X18, h20, h21, X20, h22, h23, X22, h24, h25, X24, h26, h27, X26⟩ := G
  clear b
  have X28 := Ibx.new v28 (oiv q5).lo.s A28 n28 c28 (oiv q5).lo.e (oiv q5).hi.s A29 n29 c29 (oiv q5).hi.e
  have b := below_alloc v28 (.cells #[.bool (oiv q5).lo.s, .slice A28 n28 c28, .int .i64 (oiv q5).lo.e, .bool (oiv q5).hi.s, .slice A29 n29 c29, .int .i64 (oiv q5).hi.e] 26)
  replace BB := bnx BB b
  have G := mv b rfl (J30 a0 a1 a2 a3 a4 a5 e0 e1 e2 e3 e4 e5 hT h1 h2 h3 h4 h10 h11 X10 h12 h13 X12 h14 h15 X14 h16 h17 X16 h18)
  clear a0 a1 a2 a3 a4 a5 e0 e1 e2 e3 e4 e5 hT h1 h2 h3 h4 h10 h11 X10 h12 h13 X12 h14 h15 X14 h16 h17 X16 h18
  obtain ⟨a0, a1, a2, a3, a4, a5, e0, e1, e2, e3, e4, e5, hT, h1, h2, h3, h4, h10, h11, X10, h12, h13, X12, h14, h15, X14, h16, h17, X16, h18⟩ := G
  have G := mv b rfl (J16 h19 X18 h20 h21 X20 h22 h23 X22 h24 h25 X24 h26 h27 X26 h28 h29)
  clear h19 X18 h20 h21 X20 h22 h23 X22 h24 h25 X24 h26 h27 X26 h28 h29
  obtain ⟨h19, X18, h20, h21, X20, h22, h23, X22, h24, h25, X24, h26, h27, X26, h28, h29⟩ := G
  clear b
  clear h1 h2 h3 h4 a0 a1 a2 a3 a4 a5 e0 e1 e2 e3 e4 e5
  go_wp2_with fail
  refine (told6_any hT).mono ?_
  rintro en t0 ⟨rfl, b⟩
  replace BB := bnx BB b
  have G := mv b rfl (J31 hT h10 h11 X10 h12 h13 X12 h14 h15 X14 h16 h17 X16 h18 h19 X18 h20 h21 X20 h22 h23 X22 h24 h25 X24 h26 h27 X26 h28 h29 X28)
  clear b hT h10 h11 X10 h12 h13 X12 h14 h15 X14 h16 h17 X16 h18 h19 X18 h20 h21 X20 h22 h23 X22 h24 h25 X24 h26 h27 X26 h28 h29 X28
  obtain ⟨hT, h10, h11, X10, h12, h13, X12, h14, h15, X14, h16, h17, X16, h18, h19, X18, h20, h21, X20, h22, h23, X22, h24, h25, X24, h26, h27, X26, h28, h29, X28⟩ := G
  obtain ⟨b10_0, b10_1, b10_2, b10_3, b10_4, b10_5⟩ := X10.held
  obtain ⟨b12_0, b12_1, b12_2, b12_3, b12_4, b12_5⟩ := X12.held
  clear X10 X12
  go_wp2_with fail
  refine (same6_self (x := oiv q1) (k := okc q1) h10 h11 h12 h13).mono ?_
  rintro en t1 ⟨rfl, b⟩
  clear h10 h11 h12 h13 b10_0 b10_1 b10_2 b10_3 b10_4 b10_5 b12_0 b12_1 b12_2 b12_3 b12_4 b12_5
  replace BB := bnx BB b
  have G := mv b rfl (J25 hT h14 h15 X14 h16 h17 X16 h18 h19 X18 h20 h21 X20 h22 h23 X22 h24 h25 X24 h26 h27 X26 h28 h29 X28)
  clear b hT h14 h15 X14 h16 h17 X16 h18 h19 X18 h20 h21 X20 h22 h23 X22 h24 h25 X24 h26 h27 X26 h28 h29 X28
  obtain ⟨hT, h14, h15, X14, h16, h17, X16, h18, h19, X18, h20, h21, X20, h22, h23, X22, h24, h25, X24, h26, h27, X26, h28, h29, X28⟩ := G
  obtain ⟨b14_0, b14_1, b14_2, b14_3, b14_4, b14_5⟩ := X14.held
  obtain ⟨b16_0, b16_1, b16_2, b16_3, b16_4, b16_5⟩ := X16.held
  clear X14 X16
  go_wp2_with fail
  refine (same6_self (x := oiv q2) (k := okc q2) h14 h15 h16 h17).mono ?_
  rintro en t2 ⟨rfl, b⟩
  clear h14 h15 h16 h17 b14_0 b14_1 b14_2 b14_3 b14_4 b14_5 b16_0 b16_1 b16_2 b16_3 b16_4 b16_5
  replace BB := bnx BB b
  have G := mv b rfl (J19 hT h18 h19 X18 h20 h21 X20 h22 h23 X22 h24 h25 X24 h26 h27 X26 h28 h29 X28)
  clear b hT h18 h19 X18 h20 h21 X20 h22 h23 X22 h24 h25 X24 h26 h27 X26 h28 h29 X28
  obtain ⟨hT, h18, h19, X18, h20, h21, X20, h22, h23, X22, h24, h25, X24, h26, h27, X26, h28, h29, X28⟩ := G
  obtain ⟨b18_0, b18_1, b18_2, b18_3, b18_4, b18_5⟩ := X18.held
  obtain ⟨b20_0, b20_1, b20_2, b20_3, b20_4, b20_5⟩ := X20.held
  clear X18 X20
  go_wp2_with fail
  refine (same6_self (x := oiv q3) (k := okc q3) h18 h19 h20 h21).mono ?_
  rintro en t3 ⟨rfl, b⟩
  clear h18 h19 h20 h21 b18_0 b18_1 b18_2 b18_3 b18_4 b18_5 b20_0 b20_1 b20_2 b20_3 b20_4 b20_5
  replace BB := bnx BB b
  have G := mv b rfl (J13 hT h22 h23 X22 h24 h25 X24 h26 h27 X26 h28 h29 X28)
  clear b hT h22 h23 X22 h24 h25 X24 h26 h27 X26 h28 h29 X28
  obtain ⟨hT, h22, h23, X22, h24, h25, X24, h26, h27, X26, h28, h29, X28⟩ := G
  obtain ⟨b22_0, b22_1, b22_2, b22_3, b22_4, b22_5⟩ := X22.held
  obtain ⟨b24_0, b24_1, b24_2, b24_3, b24_4, b24_5⟩ := X24.held
  clear X22 X24
  go_wp2_with fail
  refine (same6_self (x := oiv q4) (k := okc q4) h22 h23 h24 h25).mono ?_
  rintro en t4 ⟨rfl, b⟩
  clear h22 h23 h24 h25 b22_0 b22_1 b22_2 b22_3 b22_4 b22_5 b24_0 b24_1 b24_2 b24_3 b24_4 b24_5
  replace BB := bnx BB b
  have G := mv b rfl (J7 hT h26 h27 X26 h28 h29 X28)
  clear b hT h26 h27 X26 h28 h29 X28
  obtain ⟨hT, h26, h27, X26, h28, h29, X28⟩ := G
  obtain ⟨b26_0, b26_1, b26_2, b26_3, b26_4, b26_5⟩ := X26.held
  obtain ⟨b28_0, b28_1, b28_2, b28_3, b28_4, b28_5⟩ := X28.held
  clear X26 X28
  go_wp2_with fail
  refine (same6_self (x := oiv q5) (k := okc q5) h26 h27 h28 h29).mono ?_
  rintro en t5 ⟨rfl, b⟩
  clear h26 h27 h28 h29 b26_0 b26_1 b26_2 b26_3 b26_4 b26_5 b28_0 b28_1 b28_2 b28_3 b28_4 b28_5
  replace BB := bnx BB b
  replace hT := mv b rfl hT
  clear b
  go_wp2
  go_ret
  exact ⟨by first | rfl | simp, BB⟩

end Go.Proofs.YtdklnpaocaebkaaGreatDoor
