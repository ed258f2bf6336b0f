/-
 Contract of the statement ArithAsks's function at this translation: it returns true, whatever its arguments. Condition: the slices read as limbs, the table of math/bits reads as its text lays it.
-/
import Derived.Test.YtcbkhmejlaaieaaGreatDoorQLo
import Derived.Test.YtcbkhmejlaaieaaGreatDoorQLn
namespace Go.Proofs.YtcbkhmejlaaieaaGreatDoor
open Go.RowKit


set_option maxRecDepth 100000 in
set_option maxHeartbeats 8000000 in
theorem same6_self {w : World} {x : Iv} {k : Int} {A1 : Option Addr} {n1 c1 : Nat} {A2 : Option Addr} {n2 c2 : Nat} {A3 : Option Addr} {n3 c3 : Nat} {A4 : Option Addr} {n4 c4 : Nat} (h1 : Rd w .u64 Go.Proofs.YtcbkhmejlaaieaaGreatDoor.W A1 n1 c1 x.lo.l) (h2 : Rd w .u64 Go.Proofs.YtcbkhmejlaaieaaGreatDoor.W A2 n2 c2 x.hi.l) (h3 : Rd w .u64 Go.Proofs.YtcbkhmejlaaieaaGreatDoor.W A3 n3 c3 x.lo.l) (h4 : Rd w .u64 Go.Proofs.YtcbkhmejlaaieaaGreatDoor.W A4 n4 c4 x.hi.l) :
  Calls Tryz.prog 21 #[.agg #[.bool x.lo.s, .slice A1 n1 c1, .int .i64 x.lo.e, .bool x.hi.s, .slice A2 n2 c2, .int .i64 x.hi.e], .int .i64 k, .agg #[.bool x.lo.s, .slice A3 n3 c3, .int .i64 x.lo.e, .bool x.hi.s, .slice A4 n4 c4, .int .i64 x.hi.e], .int .i64 k] w (Bools true w) := by
 obtain ⟨BB, xa, xb⟩ := two_ivl w (x := x) (y := x) (A1 := A1) (n1 := n1) (c1 := c1) (A2 := A2) (n2 := n2) (c2 := c2) (A3 := A3) (n3 := n3) (c3 := c3) (A4 := A4) (n4 := n4) (c4 := c4)
 obtain ⟨a0, a1, a2, a3, a4, a5⟩ := xa.held
 obtain ⟨e0, e1, e2, e3, e4, e5⟩ := xb.held
 clear xa xb
 have g0 : (k == k) = true := by simp
 have G := mv BB rfl (J4 h1 h2 h3 h4)
 clear h1 h2 h3 h4
 obtain ⟨h1, h2, h3, h4⟩ := G
 go_enter Tryz.func21, Tryz.ntmps21
 go_wp2_with fail
 refine (show Calls _ _ _ _ (Bools true _) from by have := rsamei_any (x := x) (y := x) h1 h2 h3 h4; rwa [sameI_iff.2 rfl] at this).mono ?_
 rintro en w1 ⟨rfl, b⟩
 replace BB := bnx BB b rfl rfl rfl rfl
 have G := mv b rfl (J16 a0 a1 a2 a3 a4 a5 e0 e1 e2 e3 e4 e5 h1 h2 h3 h4)
 clear b a0 a1 a2 a3 a4 a5 e0 e1 e2 e3 e4 e5 h1 h2 h3 h4
 obtain ⟨a0, a1, a2, a3, a4, a5, e0, e1, e2, e3, e4, e5, h1, h2, h3, h4⟩ := G
 go_wp2
 go_ret
 exact ⟨by first | rfl | simp, BB⟩

end Go.Proofs.YtcbkhmejlaaieaaGreatDoor
namespace Go.Proofs.YtcbkhmejlaaieaaGreatDoor
open Go.RowKit


theorem sqt_same (S : Sc) {x : Iv} {p : Int} : face1 S x p (sqtI S x p) = face1 S x p (rooI S x p) := by
 unfold face1
 by_cases hc : (mayI S.K x && prec p) = true
 ·rw [if_pos hc, if_pos hc]
  obtain ⟨hm0, hpp⟩ := (Bool.and_eq_true _ _).mp hc
  have hm := mayI_iff.1 hm0
  have hp := prec_iff.1 hpp
  unfold sqtI
  by_cases h : signR x.lo.s x.lo.l x.lo.e < 0
  ·rw [if_pos h]
   have hs : x.lo.s = true := by
    unfold signR at h
    rw [if_pos (show mayD x.lo.s x.lo.l x.lo.e = true from hm.1)] at h
    unfold signD at h
    cases hs : x.lo.s
    ·rw [hs] at h
     exfalso
     revert h
     split <;> simp
    ·rfl
   have hr : rooO S x.lo p false = .error 4 := by
    have h4 : rootR x.lo.s x.lo.l x.lo.e p false 4 false 0 0 := by
     unfold rootR
     rw [if_pos ⟨hp, hm.1⟩, if_pos hs]
     exact ⟨rfl, rfl, rfl, rfl⟩
    exact (S.is _ _ _ _ _ (rootR_only x.lo.lt) h4).2 (by decide)
   unfold rooI
   rw [hr]
   rfl
  ·rw [if_neg h]
 ·rw [if_neg hc, if_neg hc]

set_option maxRecDepth 100000 in
set_option maxHeartbeats 8000000 in
theorem arithparts_any {w : World} {x y : Iv} {A1 : Option Addr} {n1 c1 : Nat} {A2 : Option Addr} {n2 c2 : Nat} {A3 : Option Addr} {n3 c3 : Nat} {A4 : Option Addr} {n4 c4 : Nat} {p : Int} (hT : Tab w) (h1 : Rd w .u64 Go.Proofs.YtcbkhmejlaaieaaGreatDoor.W A1 n1 c1 x.lo.l) (h2 : Rd w .u64 Go.Proofs.YtcbkhmejlaaieaaGreatDoor.W A2 n2 c2 x.hi.l) (h3 : Rd w .u64 Go.Proofs.YtcbkhmejlaaieaaGreatDoor.W A3 n3 c3 y.lo.l) (h4 : Rd w .u64 Go.Proofs.YtcbkhmejlaaieaaGreatDoor.W A4 n4 c4 y.hi.l) :
  Calls Tryz.prog 4 #[.agg #[.bool x.lo.s, .slice A1 n1 c1, .int .i64 x.lo.e, .bool x.hi.s, .slice A2 n2 c2, .int .i64 x.hi.e], .agg #[.bool y.lo.s, .slice A3 n3 c3, .int .i64 y.lo.e, .bool y.hi.s, .slice A4 n4 c4, .int .i64 y.hi.e], .int .i64 p] w fun en w' => ToldEnd w en w' := by
 obtain ⟨S⟩ := sc_has
 have y1 : n1 ≤ 9223372036854775807 := Nat.le_trans h1.cap h1.max
 have y2 : n2 ≤ 9223372036854775807 := Nat.le_trans h2.cap h2.max
 have y3 : n3 ≤ 9223372036854775807 := Nat.le_trans h3.cap h3.max
 have y4 : n4 ≤ 9223372036854775807 := Nat.le_trans h4.cap h4.max
 have BB := two_below w (.cells #[.bool x.lo.s, .slice A1 n1 c1, .int .i64 x.lo.e, .bool x.hi.s, .slice A2 n2 c2, .int .i64 x.hi.e] 26) (.cells #[.bool y.lo.s, .slice A3 n3 c3, .int .i64 y.lo.e, .bool y.hi.s, .slice A4 n4 c4, .int .i64 y.hi.e] 26)
 obtain ⟨_, xa, xb⟩ := two_ivl w (x := x) (y := y) (A1 := A1) (n1 := n1) (c1 := c1) (A2 := A2) (n2 := n2) (c2 := c2) (A3 := A3) (n3 := n3) (c3 := c3) (A4 := A4) (n4 := n4) (c4 := c4)
 obtain ⟨a0, a1, a2, a3, a4, a5⟩ := xa.held
 obtain ⟨e0, e1, e2, e3, e4, e5⟩ := xb.held
 clear xa xb
 have G := mv BB rfl (J5 hT h1 h2 h3 h4)
 clear hT h1 h2 h3 h4
 obtain ⟨hT, h1, h2, h3, h4⟩ := G
 obtain ⟨q1, hq⟩ : ∃ q : Except Int Iv, q = face2 S x y p (divI S x y p) := ⟨_, rfl⟩
 have HQ1 := Lib.hid hq
 clear hq
 obtain ⟨q2, hq⟩ : ∃ q : Except Int Iv, q = face1 S x p (sqtI S x p) := ⟨_, rfl⟩
 have HQ2 := Lib.hid hq
 clear hq y1 y2 y3 y4
 by_cases f1 : n1 ≤ 6
 rotate_left
 ·have d1 : decide ((6 : Int) < (n1 : Int)) = true := decide_eq_true (by omega)
  clear f1
  go_enter Tryz.func4, Tryz.ntmps4
  go_wp2_with fail
  refine (told6_any hT).mono ?_
  rintro en w99 ⟨rfl, b⟩
  replace BB := bnx BB b rfl rfl rfl rfl
  clear b
  go_wp2
  go_ret
  exact ⟨by first | rfl | simp, BB⟩
 have d1 : decide ((6 : Int) < (n1 : Int)) = false := decide_eq_false (by omega)
 clear f1
 by_cases f2 : n2 ≤ 6
 rotate_left
 ·have d2 : decide ((6 : Int) < (n2 : Int)) = true := decide_eq_true (by omega)
  clear f2
  go_enter Tryz.func4, Tryz.ntmps4
  go_wp2_with fail
  refine (told6_any hT).mono ?_
  rintro en w99 ⟨rfl, b⟩
  replace BB := bnx BB b rfl rfl rfl rfl
  clear b
  go_wp2
  go_ret
  exact ⟨by first | rfl | simp, BB⟩
 have d2 : decide ((6 : Int) < (n2 : Int)) = false := decide_eq_false (by omega)
 clear f2
 by_cases f3 : n3 ≤ 6
 rotate_left
 ·have d3 : decide ((6 : Int) < (n3 : Int)) = true := decide_eq_true (by omega)
  clear f3
  go_enter Tryz.func4, Tryz.ntmps4
  go_wp2_with fail
  refine (told6_any hT).mono ?_
  rintro en w99 ⟨rfl, b⟩
  replace BB := bnx BB b rfl rfl rfl rfl
  clear b
  go_wp2
  go_ret
  exact ⟨by first | rfl | simp, BB⟩
 have d3 : decide ((6 : Int) < (n3 : Int)) = false := decide_eq_false (by omega)
 clear f3
 by_cases f4 : n4 ≤ 6
 rotate_left
 ·have d4 : decide ((6 : Int) < (n4 : Int)) = true := decide_eq_true (by omega)
  clear f4
  go_enter Tryz.func4, Tryz.ntmps4
  go_wp2_with fail
  refine (told6_any hT).mono ?_
  rintro en w99 ⟨rfl, b⟩
  replace BB := bnx BB b rfl rfl rfl rfl
  clear b
  go_wp2
  go_ret
  exact ⟨by first | rfl | simp, BB⟩
 have d4 : decide ((6 : Int) < (n4 : Int)) = false := decide_eq_false (by omega)
 clear f4
 by_cases q3 : 150 < p ∧ p ≤ 2000
 ·have g3 : decide ((150 : Int) < p) = true := decide_eq_true q3.1
  have g4 : decide (p ≤ (2000 : Int)) = true := decide_eq_true q3.2
  clear q3
  go_enter Tryz.func4, Tryz.ntmps4
  go_wp2_with fail
  refine (told6_any hT).mono ?_
  rintro en w99 ⟨rfl, b⟩
  replace BB := bnx BB b rfl rfl rfl rfl
  clear b
  go_wp2
  go_ret
  exact ⟨by first | rfl | simp, BB⟩
 have hpp : p ≤ 1000 ∨ 2000 < p := by omega
 have HPP := Lib.hid hpp
 rcases Int.lt_or_le 150 p with g | g
 ·have g3 : decide ((150 : Int) < p) = true := decide_eq_true g
  have g4 : decide (p ≤ (2000 : Int)) = false := decide_eq_false (by omega)
  clear q3 hpp g
  go_enter Tryz.func4, Tryz.ntmps4
  go_wp2_with fail
  refine (tello_to HQ1.out (adiv_any S hT h1 h2 h3 h4)).mono ?_
  rintro en v10 ⟨A10, n10, c10, A11, n11, c11, rfl, h10, h11, b⟩
  replace BB := bnx BB b rfl rfl rfl rfl
  have G := mv b rfl (J17 a0 a1 a2 a3 a4 a5 e0 e1 e2 e3 e4 e5 hT h1 h2 h3 h4)
  clear b a0 a1 a2 a3 a4 a5 e0 e1 e2 e3 e4 e5 hT h1 h2 h3 h4
  obtain ⟨a0, a1, a2, a3, a4, a5, e0, e1, e2, e3, e4, e5, hT, h1, h2, h3, h4⟩ := G
  obtain ⟨b10_0, b10_1, b10_2, b10_3, b10_4, b10_5⟩ := (Ibx.new v10 (oiv q1).lo.s A10 n10 c10 (oiv q1).lo.e (oiv q1).hi.s A11 n11 c11 (oiv q1).hi.e).held
  have b := below_alloc v10 (.cells #[.bool (oiv q1).lo.s, .slice A10 n10 c10, .int .i64 (oiv q1).lo.e, .bool (oiv q1).hi.s, .slice A11 n11 c11, .int .i64 (oiv q1).hi.e] 26)
  replace BB := bnx BB b rfl rfl rfl rfl
  have G := mv b rfl (J19 a0 a1 a2 a3 a4 a5 e0 e1 e2 e3 e4 e5 hT h1 h2 h3 h4 h10 h11)
  clear b a0 a1 a2 a3 a4 a5 e0 e1 e2 e3 e4 e5 hT h1 h2 h3 h4 h10 h11
  obtain ⟨a0, a1, a2, a3, a4, a5, e0, e1, e2, e3, e4, e5, hT, h1, h2, h3, h4, h10, h11⟩ := G
  go_wp2_with fail
  refine (tello_to HQ1.out (rdiv5_any S h1 h2 h3 h4 HPP.out)).mono ?_
  rintro en v12 ⟨A12, n12, c12, A13, n13, c13, rfl, h12, h13, b⟩
  replace BB := bnx BB b rfl rfl rfl rfl
  have G := mv b rfl (J25 a0 a1 a2 a3 a4 a5 e0 e1 e2 e3 e4 e5 hT h1 h2 h3 h4 h10 h11 b10_0 b10_1 b10_2 b10_3 b10_4 b10_5)
  clear b a0 a1 a2 a3 a4 a5 e0 e1 e2 e3 e4 e5 hT h1 h2 h3 h4 h10 h11 b10_0 b10_1 b10_2 b10_3 b10_4 b10_5
  obtain ⟨a0, a1, a2, a3, a4, a5, e0, e1, e2, e3, e4, e5, hT, h1, h2, h3, h4, h10, h11, b10_0, b10_1, b10_2, b10_3, b10_4, b10_5⟩ := G
  obtain ⟨b12_0, b12_1, b12_2, b12_3, b12_4, b12_5⟩ := (Ibx.new v12 (oiv q1).lo.s A12 n12 c12 (oiv q1).lo.e (oiv q1).hi.s A13 n13 c13 (oiv q1).hi.e).held
  have b := below_alloc v12 (.cells #[.bool (oiv q1).lo.s, .slice A12 n12 c12, .int .i64 (oiv q1).lo.e, .bool (oiv q1).hi.s, .slice A13 n13 c13, .int .i64 (oiv q1).hi.e] 26)
  replace BB := bnx BB b rfl rfl rfl rfl
  have G := mv b rfl (J27 a0 a1 a2 a3 a4 a5 e0 e1 e2 e3 e4 e5 hT h1 h2 h3 h4 h10 h11 b10_0 b10_1 b10_2 b10_3 b10_4 b10_5 h12 h13)
  clear b a0 a1 a2 a3 a4 a5 e0 e1 e2 e3 e4 e5 hT h1 h2 h3 h4 h10 h11 b10_0 b10_1 b10_2 b10_3 b10_4 b10_5 h12 h13
  obtain ⟨a0, a1, a2, a3, a4, a5, e0, e1, e2, e3, e4, e5, hT, h1, h2, h3, h4, h10, h11, b10_0, b10_1, b10_2, b10_3, b10_4, b10_5, h12, h13⟩ := G
  go_wp2_with fail
  refine (tello_to HQ2.out (asqrt_any S hT h1 h2)).mono ?_
  rintro en v14 ⟨A14, n14, c14, A15, n15, c15, rfl, h14, h15, b⟩
  replace BB := bnx BB b rfl rfl rfl rfl
  have G := mv b rfl (J33 a0 a1 a2 a3 a4 a5 e0 e1 e2 e3 e4 e5 hT h1 h2 h3 h4 h10 h11 b10_0 b10_1 b10_2 b10_3 b10_4 b10_5 h12 h13 b12_0 b12_1 b12_2 b12_3 b12_4 b12_5)
  clear b a0 a1 a2 a3 a4 a5 e0 e1 e2 e3 e4 e5 hT h1 h2 h3 h4 h10 h11 b10_0 b10_1 b10_2 b10_3 b10_4 b10_5 h12 h13 b12_0 b12_1 b12_2 b12_3 b12_4 b12_5
  obtain ⟨a0, a1, a2, a3, a4, a5, e0, e1, e2, e3, e4, e5, hT, h1, h2, h3, h4, h10, h11, b10_0, b10_1, b10_2, b10_3, b10_4, b10_5, h12, h13, b12_0, b12_1, b12_2, b12_3, b12_4, b12_5⟩ := G
  obtain ⟨b14_0, b14_1, b14_2, b14_3, b14_4, b14_5⟩ := (Ibx.new v14 (oiv q2).lo.s A14 n14 c14 (oiv q2).lo.e (oiv q2).hi.s A15 n15 c15 (oiv q2).hi.e).held
  have b := below_alloc v14 (.cells #[.bool (oiv q2).lo.s, .slice A14 n14 c14, .int .i64 (oiv q2).lo.e, .bool (oiv q2).hi.s, .slice A15 n15 c15, .int .i64 (oiv q2).hi.e] 26)
  replace BB := bnx BB b rfl rfl rfl rfl
  have G := mv b rfl (J35 a0 a1 a2 a3 a4 a5 e0 e1 e2 e3 e4 e5 hT h1 h2 h3 h4 h10 h11 b10_0 b10_1 b10_2 b10_3 b10_4 b10_5 h12 h13 b12_0 b12_1 b12_2 b12_3 b12_4 b12_5 h14 h15)
  clear b a0 a1 a2 a3 a4 a5 e0 e1 e2 e3 e4 e5 hT h1 h2 h3 h4 h10 h11 b10_0 b10_1 b10_2 b10_3 b10_4 b10_5 h12 h13 b12_0 b12_1 b12_2 b12_3 b12_4 b12_5 h14 h15
  obtain ⟨a0, a1, a2, a3, a4, a5, e0, e1, e2, e3, e4, e5, hT, h1, h2, h3, h4, h10, h11, b10_0, b10_1, b10_2, b10_3, b10_4, b10_5, h12, h13, b12_0, b12_1, b12_2, b12_3, b12_4, b12_5, h14, h15⟩ := G
  go_wp2_with fail
  refine (tello_to HQ2.out (tello_to (sqt_same S) (rsqrt5_any S h1 h2 HPP.out))).mono ?_
  rintro en v16 ⟨A16, n16, c16, A17, n17, c17, rfl, h16, h17, b⟩
  replace BB := bnx BB b rfl rfl rfl rfl
  have G := mv b rfl (J30 a0 a1 a2 a3 a4 a5 e0 e1 e2 e3 e4 e5 hT h1 h2 h3 h4 h10 h11 b10_0 b10_1 b10_2 b10_3 b10_4 b10_5 h12 h13 b12_0 b12_1 b12_2)
  clear a0 a1 a2 a3 a4 a5 e0 e1 e2 e3 e4 e5 hT h1 h2 h3 h4 h10 h11 b10_0 b10_1 b10_2 b10_3 b10_4 b10_5 h12 h13 b12_0 b12_1 b12_2
  obtain ⟨a0, a1, a2, a3, a4, a5, e0, e1, e2, e3, e4, e5, hT, h1, h2, h3, h4, h10, h11, b10_0, b10_1, b10_2, b10_3, b10_4, b10_5, h12, h13, b12_0, b12_1, b12_2⟩ := G
  have G := mv b rfl (J11 b12_3 b12_4 b12_5 h14 h15 b14_0 b14_1 b14_2 b14_3 b14_4 b14_5)
  clear b12_3 b12_4 b12_5 h14 h15 b14_0 b14_1 b14_2 b14_3 b14_4 b14_5
  obtain ⟨b12_3, b12_4, b12_5, h14, h15, b14_0, b14_1, b14_2, b14_3, b14_4, b14_5⟩ := G
  clear b
  obtain ⟨b16_0, b16_1, b16_2, b16_3, b16_4, b16_5⟩ := (Ibx.new v16 (oiv q2).lo.s A16 n16 c16 (oiv q2).lo.e (oiv q2).hi.s A17 n17 c17 (oiv q2).hi.e).held
  have b := below_alloc v16 (.cells #[.bool (oiv q2).lo.s, .slice A16 n16 c16, .int .i64 (oiv q2).lo.e, .bool (oiv q2).hi.s, .slice A17 n17 c17, .int .i64 (oiv q2).hi.e] 26)
  replace BB := bnx BB b rfl rfl rfl rfl
  have G := mv b rfl (J30 a0 a1 a2 a3 a4 a5 e0 e1 e2 e3 e4 e5 hT h1 h2 h3 h4 h10 h11 b10_0 b10_1 b10_2 b10_3 b10_4 b10_5 h12 h13 b12_0 b12_1 b12_2)
  clear a0 a1 a2 a3 a4 a5 e0 e1 e2 e3 e4 e5 hT h1 h2 h3 h4 h10 h11 b10_0 b10_1 b10_2 b10_3 b10_4 b10_5 h12 h13 b12_0 b12_1 b12_2
  obtain ⟨a0, a1, a2, a3, a4, a5, e0, e1, e2, e3, e4, e5, hT, h1, h2, h3, h4, h10, h11, b10_0, b10_1, b10_2, b10_3, b10_4, b10_5, h12, h13, b12_0, b12_1, b12_2⟩ := G
  have G := mv b rfl (J13 b12_3 b12_4 b12_5 h14 h15 b14_0 b14_1 b14_2 b14_3 b14_4 b14_5 h16 h17)
  clear b12_3 b12_4 b12_5 h14 h15 b14_0 b14_1 b14_2 b14_3 b14_4 b14_5 h16 h17
  obtain ⟨b12_3, b12_4, b12_5, h14, h15, b14_0, b14_1, b14_2, b14_3, b14_4, b14_5, h16, h17⟩ := G
  clear b
  clear h1 h2 h3 h4 a0 a1 a2 a3 a4 a5 e0 e1 e2 e3 e4 e5
  go_wp2_with fail
  refine (told6_any hT).mono ?_
  rintro en t0 ⟨rfl, b⟩
  replace BB := bnx BB b rfl rfl rfl rfl
  have G := mv b rfl (J33 hT h10 h11 b10_0 b10_1 b10_2 b10_3 b10_4 b10_5 h12 h13 b12_0 b12_1 b12_2 b12_3 b12_4 b12_5 h14 h15 b14_0 b14_1 b14_2 b14_3 b14_4 b14_5 h16 h17 b16_0 b16_1 b16_2 b16_3 b16_4 b16_5)
  clear b hT h10 h11 b10_0 b10_1 b10_2 b10_3 b10_4 b10_5 h12 h13 b12_0 b12_1 b12_2 b12_3 b12_4 b12_5 h14 h15 b14_0 b14_1 b14_2 b14_3 b14_4 b14_5 h16 h17 b16_0 b16_1 b16_2 b16_3 b16_4 b16_5
  obtain ⟨hT, h10, h11, b10_0, b10_1, b10_2, b10_3, b10_4, b10_5, h12, h13, b12_0, b12_1, b12_2, b12_3, b12_4, b12_5, h14, h15, b14_0, b14_1, b14_2, b14_3, b14_4, b14_5, h16, h17, b16_0, b16_1, b16_2, b16_3, b16_4, b16_5⟩ := G
  go_wp2_with fail
  refine (same6_self (x := oiv q1) (k := okc q1) h10 h11 h12 h13).mono ?_
  rintro en t1 ⟨rfl, b⟩
  clear h10 h11 h12 h13 b10_0 b10_1 b10_2 b10_3 b10_4 b10_5 b12_0 b12_1 b12_2 b12_3 b12_4 b12_5
  replace BB := bnx BB b rfl rfl rfl rfl
  have G := mv b rfl (J17 hT h14 h15 b14_0 b14_1 b14_2 b14_3 b14_4 b14_5 h16 h17 b16_0 b16_1 b16_2 b16_3 b16_4 b16_5)
  clear b hT h14 h15 b14_0 b14_1 b14_2 b14_3 b14_4 b14_5 h16 h17 b16_0 b16_1 b16_2 b16_3 b16_4 b16_5
  obtain ⟨hT, h14, h15, b14_0, b14_1, b14_2, b14_3, b14_4, b14_5, h16, h17, b16_0, b16_1, b16_2, b16_3, b16_4, b16_5⟩ := G
  go_wp2_with fail
  refine (same6_self (x := oiv q2) (k := okc q2) h14 h15 h16 h17).mono ?_
  rintro en t2 ⟨rfl, b⟩
  clear h14 h15 h16 h17 b14_0 b14_1 b14_2 b14_3 b14_4 b14_5 b16_0 b16_1 b16_2 b16_3 b16_4 b16_5
  replace BB := bnx BB b rfl rfl rfl rfl
  replace hT := mv b rfl hT
  clear b
  go_wp2
  go_ret
  exact ⟨by first | rfl | simp, BB⟩
 ·have g3 : decide ((150 : Int) < p) = false := decide_eq_false (by omega)
  clear q3 hpp g
  go_enter Tryz.func4, Tryz.ntmps4
  go_wp2_with fail
  refine (tello_to HQ1.out (adiv_any S hT h1 h2 h3 h4)).mono ?_
  rintro en v10 ⟨A10, n10, c10, A11, n11, c11, rfl, h10, h11, b⟩
  replace BB := bnx BB b rfl rfl rfl rfl
  have G := mv b rfl (J17 a0 a1 a2 a3 a4 a5 e0 e1 e2 e3 e4 e5 hT h1 h2 h3 h4)
  clear b a0 a1 a2 a3 a4 a5 e0 e1 e2 e3 e4 e5 hT h1 h2 h3 h4
  obtain ⟨a0, a1, a2, a3, a4, a5, e0, e1, e2, e3, e4, e5, hT, h1, h2, h3, h4⟩ := G
  obtain ⟨b10_0, b10_1, b10_2, b10_3, b10_4, b10_5⟩ := (Ibx.new v10 (oiv q1).lo.s A10 n10 c10 (oiv q1).lo.e (oiv q1).hi.s A11 n11 c11 (oiv q1).hi.e).held
  have b := below_alloc v10 (.cells #[.bool (oiv q1).lo.s, .slice A10 n10 c10, .int .i64 (oiv q1).lo.e, .bool (oiv q1).hi.s, .slice A11 n11 c11, .int .i64 (oiv q1).hi.e] 26)
  replace BB := bnx BB b rfl rfl rfl rfl
  have G := mv b rfl (J19 a0 a1 a2 a3 a4 a5 e0 e1 e2 e3 e4 e5 hT h1 h2 h3 h4 h10 h11)
  clear b a0 a1 a2 a3 a4 a5 e0 e1 e2 e3 e4 e5 hT h1 h2 h3 h4 h10 h11
  obtain ⟨a0, a1, a2, a3, a4, a5, e0, e1, e2, e3, e4, e5, hT, h1, h2, h3, h4, h10, h11⟩ := G
  go_wp2_with fail
  refine (tello_to HQ1.out (rdiv5_any S h1 h2 h3 h4 HPP.out)).mono ?_
  rintro en v12 ⟨A12, n12, c12, A13, n13, c13, rfl, h12, h13, b⟩
  replace BB := bnx BB b rfl rfl rfl rfl
  have G := mv b rfl (J25 a0 a1 a2 a3 a4 a5 e0 e1 e2 e3 e4 e5 hT h1 h2 h3 h4 h10 h11 b10_0 b10_1 b10_2 b10_3 b10_4 b10_5)
  clear b a0 a1 a2 a3 a4 a5 e0 e1 e2 e3 e4 e5 hT h1 h2 h3 h4 h10 h11 b10_0 b10_1 b10_2 b10_3 b10_4 b10_5
  obtain ⟨a0, a1, a2, a3, a4, a5, e0, e1, e2, e3, e4, e5, hT, h1, h2, h3, h4, h10, h11, b10_0, b10_1, b10_2, b10_3, b10_4, b10_5⟩ := G
  obtain ⟨b12_0, b12_1, b12_2, b12_3, b12_4, b12_5⟩ := (Ibx.new v12 (oiv q1).lo.s A12 n12 c12 (oiv q1).lo.e (oiv q1).hi.s A13 n13 c13 (oiv q1).hi.e).held
  have b := below_alloc v12 (.cells #[.bool (oiv q1).lo.s, .slice A12 n12 c12, .int .i64 (oiv q1).lo.e, .bool (oiv q1).hi.s, .slice A13 n13 c13, .int .i64 (oiv q1).hi.e] 26)
  replace BB := bnx BB b rfl rfl rfl rfl
  have G := mv b rfl (J27 a0 a1 a2 a3 a4 a5 e0 e1 e2 e3 e4 e5 hT h1 h2 h3 h4 h10 h11 b10_0 b10_1 b10_2 b10_3 b10_4 b10_5 h12 h13)
  clear b a0 a1 a2 a3 a4 a5 e0 e1 e2 e3 e4 e5 hT h1 h2 h3 h4 h10 h11 b10_0 b10_1 b10_2 b10_3 b10_4 b10_5 h12 h13
  obtain ⟨a0, a1, a2, a3, a4, a5, e0, e1, e2, e3, e4, e5, hT, h1, h2, h3, h4, h10, h11, b10_0, b10_1, b10_2, b10_3, b10_4, b10_5, h12, h13⟩ := G
  go_wp2_with fail
  refine (tello_to HQ2.out (asqrt_any S hT h1 h2)).mono ?_
  rintro en v14 ⟨A14, n14, c14, A15, n15, c15, rfl, h14, h15, b⟩
  replace BB := bnx BB b rfl rfl rfl rfl
  have G := mv b rfl (J33 a0 a1 a2 a3 a4 a5 e0 e1 e2 e3 e4 e5 hT h1 h2 h3 h4 h10 h11 b10_0 b10_1 b10_2 b10_3 b10_4 b10_5 h12 h13 b12_0 b12_1 b12_2 b12_3 b12_4 b12_5)
  clear b a0 a1 a2 a3 a4 a5 e0 e1 e2 e3 e4 e5 hT h1 h2 h3 h4 h10 h11 b10_0 b10_1 b10_2 b10_3 b10_4 b10_5 h12 h13 b12_0 b12_1 b12_2 b12_3 b12_4 b12_5
  obtain ⟨a0, a1, a2, a3, a4, a5, e0, e1, e2, e3, e4, e5, hT, h1, h2, h3, h4, h10, h11, b10_0, b10_1, b10_2, b10_3, b10_4, b10_5, h12, h13, b12_0, b12_1, b12_2, b12_3, b12_4, b12_5⟩ := G
  obtain ⟨b14_0, b14_1, b14_2, b14_3, b14_4, b14_5⟩ := (Ibx.new v14 (oiv q2).lo.s A14 n14 c14 (oiv q2).lo.e (oiv q2).hi.s A15 n15 c15 (oiv q2).hi.e).held
  have b := below_alloc v14 (.cells #[.bool (oiv q2).lo.s, .slice A14 n14 c14, .int .i64 (oiv q2).lo.e, .bool (oiv q2).hi.s, .slice A15 n15 c15, .int .i64 (oiv q2).hi.e] 26)
  replace BB := bnx BB b rfl rfl rfl rfl
  have G := mv b rfl (J35 a0 a1 a2 a3 a4 a5 e0 e1 e2 e3 e4 e5 hT h1 h2 h3 h4 h10 h11 b10_0 b10_1 b10_2 b10_3 b10_4 b10_5 h12 h13 b12_0 b12_1 b12_2 b12_3 b12_4 b12_5 h14 h15)
  clear b a0 a1 a2 a3 a4 a5 e0 e1 e2 e3 e4 e5 hT h1 h2 h3 h4 h10 h11 b10_0 b10_1 b10_2 b10_3 b10_4 b10_5 h12 h13 b12_0 b12_1 b12_2 b12_3 b12_4 b12_5 h14 h15
  obtain ⟨a0, a1, a2, a3, a4, a5, e0, e1, e2, e3, e4, e5, hT, h1, h2, h3, h4, h10, h11, b10_0, b10_1, b10_2, b10_3, b10_4, b10_5, h12, h13, b12_0, b12_1, b12_2, b12_3, b12_4, b12_5, h14, h15⟩ := G
  go_wp2_with fail
  refine (tello_to HQ2.out (tello_to (sqt_same S) (rsqrt5_any S h1 h2 HPP.out))).mono ?_
  rintro en v16 ⟨A16, n16, c16, A17, n17, c17, rfl, h16, h17, b⟩
  replace BB := bnx BB b rfl rfl rfl rfl
  have G := mv b rfl (J30 a0 a1 a2 a3 a4 a5 e0 e1 e2 e3 e4 e5 hT h1 h2 h3 h4 h10 h11 b10_0 b10_1 b10_2 b10_3 b10_4 b10_5 h12 h13 b12_0 b12_1 b12_2)
  clear a0 a1 a2 a3 a4 a5 e0 e1 e2 e3 e4 e5 hT h1 h2 h3 h4 h10 h11 b10_0 b10_1 b10_2 b10_3 b10_4 b10_5 h12 h13 b12_0 b12_1 b12_2
  obtain ⟨a0, a1, a2, a3, a4, a5, e0, e1, e2, e3, e4, e5, hT, h1, h2, h3, h4, h10, h11, b10_0, b10_1, b10_2, b10_3, b10_4, b10_5, h12, h13, b12_0, b12_1, b12_2⟩ := G
  have G := mv b rfl (J11 b12_3 b12_4 b12_5 h14 h15 b14_0 b14_1 b14_2 b14_3 b14_4 b14_5)
  clear b12_3 b12_4 b12_5 h14 h15 b14_0 b14_1 b14_2 b14_3 b14_4 b14_5
  obtain ⟨b12_3, b12_4, b12_5, h14, h15, b14_0, b14_1, b14_2, b14_3, b14_4, b14_5⟩ := G
  clear b
  obtain ⟨b16_0, b16_1, b16_2, b16_3, b16_4, b16_5⟩ := (Ibx.new v16 (oiv q2).lo.s A16 n16 c16 (oiv q2).lo.e (oiv q2).hi.s A17 n17 c17 (oiv q2).hi.e).held
  have b := below_alloc v16 (.cells #[.bool (oiv q2).lo.s, .slice A16 n16 c16, .int .i64 (oiv q2).lo.e, .bool (oiv q2).hi.s, .slice A17 n17 c17, .int .i64 (oiv q2).hi.e] 26)
  replace BB := bnx BB b rfl rfl rfl rfl
  have G := mv b rfl (J30 a0 a1 a2 a3 a4 a5 e0 e1 e2 e3 e4 e5 hT h1 h2 h3 h4 h10 h11 b10_0 b10_1 b10_2 b10_3 b10_4 b10_5 h12 h13 b12_0 b12_1 b12_2)
  clear a0 a1 a2 a3 a4 a5 e0 e1 e2 e3 e4 e5 hT h1 h2 h3 h4 h10 h11 b10_0 b10_1 b10_2 b10_3 b10_4 b10_5 h12 h13 b12_0 b12_1 b12_2
  obtain ⟨a0, a1, a2, a3, a4, a5, e0, e1, e2, e3, e4, e5, hT, h1, h2, h3, h4, h10, h11, b10_0, b10_1, b10_2, b10_3, b10_4, b10_5, h12, h13, b12_0, b12_1, b12_2⟩ := G
  have G := mv b rfl (J13 b12_3 b12_4 b12_5 h14 h15 b14_0 b14_1 b14_2 b14_3 b14_4 b14_5 h16 h17)
  clear b12_3 b12_4 b12_5 h14 h15 b14_0 b14_1 b14_2 b14_3 b14_4 b14_5 h16 h17
  obtain ⟨b12_3, b12_4, b12_5, h14, h15, b14_0, b14_1, b14_2, b14_3, b14_4, b14_5, h16, h17⟩ := G
  clear b
  clear h1 h2 h3 h4 a0 a1 a2 a3 a4 a5 e0 e1 e2 e3 e4 e5
  go_wp2_with fail
  refine (told6_any hT).mono ?_
  rintro en t0 ⟨rfl, b⟩
  replace BB := bnx BB b rfl rfl rfl rfl
  have G := mv b rfl (J33 hT h10 h11 b10_0 b10_1 b10_2 b10_3 b10_4 b10_5 h12 h13 b12_0 b12_1 b12_2 b12_3 b12_4 b12_5 h14 h15 b14_0 b14_1 b14_2 b14_3 b14_4 b14_5 h16 h17 b16_0 b16_1 b16_2 b16_3 b16_4 b16_5)
  clear b hT h10 h11 b10_0 b10_1 b10_2 b10_3 b10_4 b10_5 h12 h13 b12_0 b12_1 b12_2 b12_3 b12_4 b12_5 h14 h15 b14_0 b14_1 b14_2 b14_3 b14_4 b14_5 h16 h17 b16_0 b16_1 b16_2 b16_3 b16_4 b16_5
  obtain ⟨hT, h10, h11, b10_0, b10_1, b10_2, b10_3, b10_4, b10_5, h12, h13, b12_0, b12_1, b12_2, b12_3, b12_4, b12_5, h14, h15, b14_0, b14_1, b14_2, b14_3, b14_4, b14_5, h16, h17, b16_0, b16_1, b16_2, b16_3, b16_4, b16_5⟩ := G
  go_wp2_with fail
  refine (same6_self (x := oiv q1) (k := okc q1) h10 h11 h12 h13).mono ?_
  rintro en t1 ⟨rfl, b⟩
  clear h10 h11 h12 h13 b10_0 b10_1 b10_2 b10_3 b10_4 b10_5 b12_0 b12_1 b12_2 b12_3 b12_4 b12_5
  replace BB := bnx BB b rfl rfl rfl rfl
  have G := mv b rfl (J17 hT h14 h15 b14_0 b14_1 b14_2 b14_3 b14_4 b14_5 h16 h17 b16_0 b16_1 b16_2 b16_3 b16_4 b16_5)
  clear b hT h14 h15 b14_0 b14_1 b14_2 b14_3 b14_4 b14_5 h16 h17 b16_0 b16_1 b16_2 b16_3 b16_4 b16_5
  obtain ⟨hT, h14, h15, b14_0, b14_1, b14_2, b14_3, b14_4, b14_5, h16, h17, b16_0, b16_1, b16_2, b16_3, b16_4, b16_5⟩ := G
  go_wp2_with fail
  refine (same6_self (x := oiv q2) (k := okc q2) h14 h15 h16 h17).mono ?_
  rintro en t2 ⟨rfl, b⟩
  clear h14 h15 h16 h17 b14_0 b14_1 b14_2 b14_3 b14_4 b14_5 b16_0 b16_1 b16_2 b16_3 b16_4 b16_5
  replace BB := bnx BB b rfl rfl rfl rfl
  replace hT := mv b rfl hT
  clear b
  go_wp2
  go_ret
  exact ⟨by first | rfl | simp, BB⟩

end Go.Proofs.YtcbkhmejlaaieaaGreatDoor
