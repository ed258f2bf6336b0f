/-
  Contract of the statement ArithUndo's function at this translation: it returns true, whatever its arguments. Condition: the slices read as limbs, the table of math/bits reads as its text lays it.
-/
import Derived.Test.YtcbkhmejlaaieaaGreatDoorLx
namespace Go.Proofs.YtcbkhmejlaaieaaGreatDoor
open Go.RowKit


set_option maxRecDepth 100000 in
set_option maxHeartbeats 8000000 in
theorem arithundo_any {w : World} {x y : Iv} {A1 : Option Addr} {n1 c1 : Nat} {A2 : Option Addr} {n2 c2 : Nat} {A3 : Option Addr} {n3 c3 : Nat} {A4 : Option Addr} {n4 c4 : Nat} {p : Int} (hT : Tab w) (h1 : Rd w .u64 Go.Proofs.YtcbkhmejlaaieaaGreatDoor.W A1 n1 c1 x.lo.l) (h2 : Rd w .u64 Go.Proofs.YtcbkhmejlaaieaaGreatDoor.W A2 n2 c2 x.hi.l) (h3 : Rd w .u64 Go.Proofs.YtcbkhmejlaaieaaGreatDoor.W A3 n3 c3 y.lo.l) (h4 : Rd w .u64 Go.Proofs.YtcbkhmejlaaieaaGreatDoor.W A4 n4 c4 y.hi.l) :
    Calls Tryz.prog 8 #[.agg #[.bool x.lo.s, .slice A1 n1 c1, .int .i64 x.lo.e, .bool x.hi.s, .slice A2 n2 c2, .int .i64 x.hi.e], .agg #[.bool y.lo.s, .slice A3 n3 c3, .int .i64 y.lo.e, .bool y.hi.s, .slice A4 n4 c4, .int .i64 y.hi.e], .int .i64 p] w fun en w' => ToldEnd w en w' := by
  obtain ⟨S⟩ := sc_has
  have y1 : n1 ≤ 9223372036854775807 := Nat.le_trans h1.cap h1.max
  have y2 : n2 ≤ 9223372036854775807 := Nat.le_trans h2.cap h2.max
  have y3 : n3 ≤ 9223372036854775807 := Nat.le_trans h3.cap h3.max
  have y4 : n4 ≤ 9223372036854775807 := Nat.le_trans h4.cap h4.max
  have BB := two_below w (.cells #[.bool x.lo.s, .slice A1 n1 c1, .int .i64 x.lo.e, .bool x.hi.s, .slice A2 n2 c2, .int .i64 x.hi.e] 26) (.cells #[.bool y.lo.s, .slice A3 n3 c3, .int .i64 y.lo.e, .bool y.hi.s, .slice A4 n4 c4, .int .i64 y.hi.e] 26)
  obtain ⟨_, xa, xb⟩ := two_ivl w (x := x) (y := y) (A1 := A1) (n1 := n1) (c1 := c1) (A2 := A2) (n2 := n2) (c2 := c2) (A3 := A3) (n3 := n3) (c3 := c3) (A4 := A4) (n4 := n4) (c4 := c4)
  obtain ⟨a0, a1, a2, a3, a4, a5⟩ := xa.held
  obtain ⟨e0, e1, e2, e3, e4, e5⟩ := xb.held
  clear xa xb
  have G := mv BB rfl (J5 hT h1 h2 h3 h4)
  clear hT h1 h2 h3 h4
  obtain ⟨hT, h1, h2, h3, h4⟩ := G
  obtain ⟨rn, hrn⟩ := Int.eq_ofNat_of_zero_le (show 0 ≤ IntKind.u64.wrap p by rw [IntKind.wrap_u64]; omega)
  obtain ⟨qn, hqn⟩ : ∃ q, q = rn % 149 := ⟨_, rfl⟩
  obtain ⟨n, hnn⟩ : ∃ n, n = 2 + qn := ⟨_, rfl⟩
  have uun : (rn : Int) % 149 = (qn : Int) := by omega
  have uvn : (2 : Int) + (qn : Int) = (n : Int) := by omega
  have uwn : (0 : Int) ≤ (rn : Int) := by omega
  have uxn : (qn : Int) ≤ 149 := by omega
  have nlo : 2 ≤ n := by omega
  have nhi : n ≤ 150 := by omega
  have uyn : (n : Int) ≤ 150 := by omega
  clear hqn hnn
  obtain ⟨P, hP⟩ : ∃ P : Int, P = (n : Int) := ⟨_, rfl⟩
  have HPR := Lib.hid (show 1 ≤ P ∧ P ≤ 2000 from by omega)
  rw [← hP] at uvn uyn
  have HPN := Lib.hid hP
  clear hP y1 y2 y3 y4
  have hnil : ∀ w : World, Rd w .u64 Go.Proofs.YtcbkhmejlaaieaaGreatDoor.W none 0 0 Rw.zero.l := fun _ => Rd.nil _ _ _ _ (by omega)
  by_cases f1 : n1 ≤ 6
  rotate_left
  · have d1 : decide ((6 : Int) < (n1 : Int)) = true := decide_eq_true (by omega)
    clear f1
    go_enter Tryz.func8, Tryz.ntmps8
    go_wp2_with fail
    refine (told6_any hT).mono ?_
    rintro en w99 ⟨rfl, b⟩
    replace BB := bnx BB b rfl rfl rfl rfl
    clear b
    go_wp2
    go_ret
    exact ⟨by first | rfl | simp, BB⟩
  have d1 : decide ((6 : Int) < (n1 : Int)) = false := decide_eq_false (by omega)
  clear f1
  by_cases f2 : n2 ≤ 6
  rotate_left
  · have d2 : decide ((6 : Int) < (n2 : Int)) = true := decide_eq_true (by omega)
    clear f2
    go_enter Tryz.func8, Tryz.ntmps8
    go_wp2_with fail
    refine (told6_any hT).mono ?_
    rintro en w99 ⟨rfl, b⟩
    replace BB := bnx BB b rfl rfl rfl rfl
    clear b
    go_wp2
    go_ret
    exact ⟨by first | rfl | simp, BB⟩
  have d2 : decide ((6 : Int) < (n2 : Int)) = false := decide_eq_false (by omega)
  clear f2
  by_cases f3 : n3 ≤ 6
  rotate_left
  · have d3 : decide ((6 : Int) < (n3 : Int)) = true := decide_eq_true (by omega)
    clear f3
    go_enter Tryz.func8, Tryz.ntmps8
    go_wp2_with fail
    refine (told6_any hT).mono ?_
    rintro en w99 ⟨rfl, b⟩
    replace BB := bnx BB b rfl rfl rfl rfl
    clear b
    go_wp2
    go_ret
    exact ⟨by first | rfl | simp, BB⟩
  have d3 : decide ((6 : Int) < (n3 : Int)) = false := decide_eq_false (by omega)
  clear f3
  by_cases f4 : n4 ≤ 6
  rotate_left
  · have d4 : decide ((6 : Int) < (n4 : Int)) = true := decide_eq_true (by omega)
    clear f4
    go_enter Tryz.func8, Tryz.ntmps8
    go_wp2_with fail
    refine (told6_any hT).mono ?_
    rintro en w99 ⟨rfl, b⟩
    replace BB := bnx BB b rfl rfl rfl rfl
    clear b
    go_wp2
    go_ret
    exact ⟨by first | rfl | simp, BB⟩
  have d4 : decide ((6 : Int) < (n4 : Int)) = false := decide_eq_false (by omega)
  clear f4
  go_enter Tryz.func8, Tryz.ntmps8
  go_wp2_with fail
  refine (imay_any (K := S.K) (x := x) S.big hT h1 h2).mono ?_
  rintro en w1 ⟨rfl, b⟩
  replace BB := bnx BB b rfl rfl rfl rfl
  have G := mv b rfl (J17 a0 a1 a2 a3 a4 a5 e0 e1 e2 e3 e4 e5 hT h1 h2 h3 h4)
  clear b a0 a1 a2 a3 a4 a5 e0 e1 e2 e3 e4 e5 hT h1 h2 h3 h4
  obtain ⟨a0, a1, a2, a3, a4, a5, e0, e1, e2, e3, e4, e5, hT, h1, h2, h3, h4⟩ := G
  cases hm : mayI S.K x
  · clear hm
    go_wp2_with fail
    refine (told6_any hT).mono ?_
    rintro en w99 ⟨rfl, b⟩
    replace BB := bnx BB b rfl rfl rfl rfl
    clear b
    go_wp2
    go_ret
    exact ⟨by first | rfl | simp, BB⟩
  have HMx := Lib.hid hm
  clear hm
  go_wp2_with fail
  refine (imay_any (K := S.K) (x := y) S.big hT h3 h4).mono ?_
  rintro en w2 ⟨rfl, b⟩
  replace BB := bnx BB b rfl rfl rfl rfl
  have G := mv b rfl (J17 a0 a1 a2 a3 a4 a5 e0 e1 e2 e3 e4 e5 hT h1 h2 h3 h4)
  clear b a0 a1 a2 a3 a4 a5 e0 e1 e2 e3 e4 e5 hT h1 h2 h3 h4
  obtain ⟨a0, a1, a2, a3, a4, a5, e0, e1, e2, e3, e4, e5, hT, h1, h2, h3, h4⟩ := G
  cases hm : mayI S.K y
  · clear hm
    go_wp2_with fail
    refine (told6_any hT).mono ?_
    rintro en w99 ⟨rfl, b⟩
    replace BB := bnx BB b rfl rfl rfl rfl
    clear b
    go_wp2
    go_ret
    exact ⟨by first | rfl | simp, BB⟩
  have HMy := Lib.hid hm
  clear hm
  obtain ⟨q1, hq⟩ : ∃ q : Except Int Iv, q = face2 S x y P (divI S x y P) := ⟨_, rfl⟩
  have HQ1 := Lib.hid hq
  clear hq
  go_wp2_with fail
  refine (tello_to HQ1.out (adiv_any S (p := P) hT h1 h2 h3 h4)).mono ?_
  rintro en v1 ⟨A10, n10, c10, A11, n11, c11, rfl, h10, h11, b⟩
  replace BB := bnx BB b rfl rfl rfl rfl
  have G := mv b rfl (J17 a0 a1 a2 a3 a4 a5 e0 e1 e2 e3 e4 e5 hT h1 h2 h3 h4)
  clear b a0 a1 a2 a3 a4 a5 e0 e1 e2 e3 e4 e5 hT h1 h2 h3 h4
  obtain ⟨a0, a1, a2, a3, a4, a5, e0, e1, e2, e3, e4, e5, hT, h1, h2, h3, h4⟩ := G
  obtain ⟨p0, p1, p2, p3, p4, p5⟩ := (Ibx.new v1 (oiv q1).lo.s A10 n10 c10 (oiv q1).lo.e (oiv q1).hi.s A11 n11 c11 (oiv q1).hi.e).held
  have b := below_alloc v1 (.cells #[.bool (oiv q1).lo.s, .slice A10 n10 c10, .int .i64 (oiv q1).lo.e, .bool (oiv q1).hi.s, .slice A11 n11 c11, .int .i64 (oiv q1).hi.e] 26)
  replace BB := bnx BB b rfl rfl rfl rfl
  have G := mv b rfl (J19 a0 a1 a2 a3 a4 a5 e0 e1 e2 e3 e4 e5 hT h1 h2 h3 h4 h10 h11)
  clear b a0 a1 a2 a3 a4 a5 e0 e1 e2 e3 e4 e5 hT h1 h2 h3 h4 h10 h11
  obtain ⟨a0, a1, a2, a3, a4, a5, e0, e1, e2, e3, e4, e5, hT, h1, h2, h3, h4, h10, h11⟩ := G
  by_cases z1 : okc q1 = 0
  rotate_left
  · have d0 : (okc q1 == 0) = false := by simp; exact z1
    have HK := Lib.hid (div_codes HPR.out HMx.out HMy.out HQ1.out z1)
    clear z1
    clear h10 h11 p0 p1 p2 p3 p4 p5
    rcases HK.out with e1_ | ⟨e1_, e2_⟩
    · have E1 := Lib.hid e1_
      clear e1_
      have g1 : (okc q1 != 3) = false := by rw [E1.out]; decide
      have g2 : (okc q1 == 4) = false := by rw [E1.out]; decide
      clear h3 h4 e0 e1 e2 e3 e4 e5
      obtain ⟨q3, hq⟩ : ∃ q : Except Int Iv, q = face1 S x P (sqtI S x P) := ⟨_, rfl⟩
      have HQ3 := Lib.hid hq
      clear hq
      go_wp2_with fail
      refine (tello_to HQ3.out (asqrt_any S (p := P) hT h1 h2)).mono ?_
      rintro en v3 ⟨A14, n14, c14, A15, n15, c15, rfl, h14, h15, b⟩
      replace BB := bnx BB b rfl rfl rfl rfl
      have G := mv b rfl (J9 a0 a1 a2 a3 a4 a5 hT h1 h2)
      clear b a0 a1 a2 a3 a4 a5 hT h1 h2
      obtain ⟨a0, a1, a2, a3, a4, a5, hT, h1, h2⟩ := G
      obtain ⟨r0, r1, r2, r3, r4, r5⟩ := (Ibx.new v3 (oiv q3).lo.s A14 n14 c14 (oiv q3).lo.e (oiv q3).hi.s A15 n15 c15 (oiv q3).hi.e).held
      have b := below_alloc v3 (.cells #[.bool (oiv q3).lo.s, .slice A14 n14 c14, .int .i64 (oiv q3).lo.e, .bool (oiv q3).hi.s, .slice A15 n15 c15, .int .i64 (oiv q3).hi.e] 26)
      replace BB := bnx BB b rfl rfl rfl rfl
      have G := mv b rfl (J11 a0 a1 a2 a3 a4 a5 hT h1 h2 h14 h15)
      clear b a0 a1 a2 a3 a4 a5 hT h1 h2 h14 h15
      obtain ⟨a0, a1, a2, a3, a4, a5, hT, h1, h2, h14, h15⟩ := G
      by_cases z3 : okc q3 = 0
      rotate_left
      · have d6 : (okc q3 != 0) = true := by simp; exact z3
        have HK := Lib.hid (sqt_codes HPR.out HMx.out HQ3.out z3)
        clear z3
        go_wp2_with fail
        refine (told6_any hT).mono ?_
        rintro en v4 ⟨rfl, b⟩
        replace BB := bnx BB b rfl rfl rfl rfl
        have G := mv b rfl (J17 a0 a1 a2 a3 a4 a5 hT h1 h2 h14 h15 r0 r1 r2 r3 r4 r5)
        clear b a0 a1 a2 a3 a4 a5 hT h1 h2 h14 h15 r0 r1 r2 r3 r4 r5
        obtain ⟨a0, a1, a2, a3, a4, a5, hT, h1, h2, h14, h15, r0, r1, r2, r3, r4, r5⟩ := G
        rcases HK.out with e3 | ⟨e3, e4⟩
        · have E3 := Lib.hid e3
          clear e3
          have g6 : (okc q3 == 3) = true := by rw [E3.out]; decide
          go_wp2
          go_ret
          exact ⟨by first | rfl | simp, BB⟩
        have E3 := Lib.hid e3
        have g6 : (okc q3 == 3) = false := by rw [E3.out]; decide
        have g7 : (okc q3 == 4) = true := by rw [E3.out]; decide
        obtain ⟨t, ht⟩ : ∃ t, t = signR x.lo.s x.lo.l x.lo.e := ⟨_, rfl⟩
        have HT := Lib.hid ht
        have g9_ : decide (t < 0) = true := decide_eq_true (by rw [ht]; exact e4)
        clear ht e3 e4
        go_wp2_with fail
        refine (show Calls _ _ _ _ (Ints t _) from by rw [HT.out]; exact dsign_raw (s1 := x.lo.s) (e1 := x.lo.e) hT h1).mono ?_
        rintro en v5 ⟨rfl, b⟩
        replace BB := bnx BB b rfl rfl rfl rfl
        have G := mv b rfl (J17 a0 a1 a2 a3 a4 a5 hT h1 h2 h14 h15 r0 r1 r2 r3 r4 r5)
        clear b a0 a1 a2 a3 a4 a5 hT h1 h2 h14 h15 r0 r1 r2 r3 r4 r5
        obtain ⟨a0, a1, a2, a3, a4, a5, hT, h1, h2, h14, h15, r0, r1, r2, r3, r4, r5⟩ := G
        go_wp2
        go_ret
        exact ⟨by first | rfl | simp, BB⟩
      have d6 : (okc q3 != 0) = false := by simp; exact z3
      have Z3 := Lib.hid z3
      clear z3
      obtain ⟨q4, hq⟩ : ∃ q : Except Int Iv, q = face1 S (oiv q3) P (sqrI S (oiv q3) P) := ⟨_, rfl⟩
      have HQ4 := Lib.hid hq
      clear hq
      go_wp2_with fail
      refine (tello_to HQ4.out (asqr_any S (x := oiv q3) (p := P) hT h14 h15)).mono ?_
      rintro en v6 ⟨A16, n16, c16, A17, n17, c17, rfl, h16, h17, b⟩
      replace BB := bnx BB b rfl rfl rfl rfl
      have G := mv b rfl (J17 a0 a1 a2 a3 a4 a5 hT h1 h2 h14 h15 r0 r1 r2 r3 r4 r5)
      clear b a0 a1 a2 a3 a4 a5 hT h1 h2 h14 h15 r0 r1 r2 r3 r4 r5
      obtain ⟨a0, a1, a2, a3, a4, a5, hT, h1, h2, h14, h15, r0, r1, r2, r3, r4, r5⟩ := G
      clear h14 h15 r0 r1 r2 r3 r4 r5
      obtain ⟨s0, s1, s2, s3, s4, s5⟩ := (Ibx.new v6 (oiv q4).lo.s A16 n16 c16 (oiv q4).lo.e (oiv q4).hi.s A17 n17 c17 (oiv q4).hi.e).held
      have b := below_alloc v6 (.cells #[.bool (oiv q4).lo.s, .slice A16 n16 c16, .int .i64 (oiv q4).lo.e, .bool (oiv q4).hi.s, .slice A17 n17 c17, .int .i64 (oiv q4).hi.e] 26)
      replace BB := bnx BB b rfl rfl rfl rfl
      have G := mv b rfl (J11 a0 a1 a2 a3 a4 a5 hT h1 h2 h16 h17)
      clear b a0 a1 a2 a3 a4 a5 hT h1 h2 h16 h17
      obtain ⟨a0, a1, a2, a3, a4, a5, hT, h1, h2, h16, h17⟩ := G
      go_wp2_with fail
      refine (told6_any hT).mono ?_
      rintro en v7 ⟨rfl, b⟩
      replace BB := bnx BB b rfl rfl rfl rfl
      have G := mv b rfl (J17 a0 a1 a2 a3 a4 a5 hT h1 h2 h16 h17 s0 s1 s2 s3 s4 s5)
      clear b a0 a1 a2 a3 a4 a5 hT h1 h2 h16 h17 s0 s1 s2 s3 s4 s5
      obtain ⟨a0, a1, a2, a3, a4, a5, hT, h1, h2, h16, h17, s0, s1, s2, s3, s4, s5⟩ := G
      by_cases z4 : okc q4 = 0
      rotate_left
      · have d7 : (okc q4 != 0) = true := by simp; exact z4
        clear z4
        go_wp2
        go_ret
        exact ⟨by first | rfl | simp, BB⟩
      have d7 : (okc q4 != 0) = false := by simp; exact z4
      have HW := Lib.hid (sqt_within HPR.out HMx.out HQ3.out HQ4.out Z3.out z4)
      clear z4
      go_wp2_with fail
      refine (show Calls _ _ _ _ (Bools true _) from by have := iwithin_any (K := S.K) (x := x) (y := oiv q4) S.big hT h1 h2 h16 h17; rwa [HW.out] at this).mono ?_
      rintro en v8 ⟨rfl, b⟩
      replace BB := bnx BB b rfl rfl rfl rfl
      have G := mv b rfl (J17 a0 a1 a2 a3 a4 a5 hT h1 h2 h16 h17 s0 s1 s2 s3 s4 s5)
      clear b a0 a1 a2 a3 a4 a5 hT h1 h2 h16 h17 s0 s1 s2 s3 s4 s5
      obtain ⟨a0, a1, a2, a3, a4, a5, hT, h1, h2, h16, h17, s0, s1, s2, s3, s4, s5⟩ := G
      go_wp2
      go_ret
      exact ⟨by first | rfl | simp, BB⟩
    have E1 := Lib.hid e1_
    have HZ := Lib.hid e2_
    clear e1_ e2_
    have g1 : (okc q1 != 3) = true := by rw [E1.out]; decide
    have g2 : (okc q1 != 4) = false := by rw [E1.out]; decide
    have g3 : (okc q1 == 4) = true := by rw [E1.out]; decide
    go_wp2_with fail
    refine (show Calls _ _ _ _ (Bools true _) from by have := ihas_any (K := S.K) (x := y) (d := Rw.zero) S.big hT h3 h4 (hnil _); rwa [HZ.out] at this).mono ?_
    rintro en v2 ⟨rfl, b⟩
    replace BB := bnx BB b rfl rfl rfl rfl
    have G := mv b rfl (J17 a0 a1 a2 a3 a4 a5 e0 e1 e2 e3 e4 e5 hT h1 h2 h3 h4)
    clear b a0 a1 a2 a3 a4 a5 e0 e1 e2 e3 e4 e5 hT h1 h2 h3 h4
    obtain ⟨a0, a1, a2, a3, a4, a5, e0, e1, e2, e3, e4, e5, hT, h1, h2, h3, h4⟩ := G
    clear h3 h4 e0 e1 e2 e3 e4 e5
    obtain ⟨q3, hq⟩ : ∃ q : Except Int Iv, q = face1 S x P (sqtI S x P) := ⟨_, rfl⟩
    have HQ3 := Lib.hid hq
    clear hq
    go_wp2_with fail
    refine (tello_to HQ3.out (asqrt_any S (p := P) hT h1 h2)).mono ?_
    rintro en v3 ⟨A14, n14, c14, A15, n15, c15, rfl, h14, h15, b⟩
    replace BB := bnx BB b rfl rfl rfl rfl
    have G := mv b rfl (J9 a0 a1 a2 a3 a4 a5 hT h1 h2)
    clear b a0 a1 a2 a3 a4 a5 hT h1 h2
    obtain ⟨a0, a1, a2, a3, a4, a5, hT, h1, h2⟩ := G
    obtain ⟨r0, r1, r2, r3, r4, r5⟩ := (Ibx.new v3 (oiv q3).lo.s A14 n14 c14 (oiv q3).lo.e (oiv q3).hi.s A15 n15 c15 (oiv q3).hi.e).held
    have b := below_alloc v3 (.cells #[.bool (oiv q3).lo.s, .slice A14 n14 c14, .int .i64 (oiv q3).lo.e, .bool (oiv q3).hi.s, .slice A15 n15 c15, .int .i64 (oiv q3).hi.e] 26)
    replace BB := bnx BB b rfl rfl rfl rfl
    have G := mv b rfl (J11 a0 a1 a2 a3 a4 a5 hT h1 h2 h14 h15)
    clear b a0 a1 a2 a3 a4 a5 hT h1 h2 h14 h15
    obtain ⟨a0, a1, a2, a3, a4, a5, hT, h1, h2, h14, h15⟩ := G
    by_cases z3 : okc q3 = 0
    rotate_left
    · have d6 : (okc q3 != 0) = true := by simp; exact z3
      have HK := Lib.hid (sqt_codes HPR.out HMx.out HQ3.out z3)
      clear z3
      go_wp2_with fail
      refine (told6_any hT).mono ?_
      rintro en v4 ⟨rfl, b⟩
      replace BB := bnx BB b rfl rfl rfl rfl
      have G := mv b rfl (J17 a0 a1 a2 a3 a4 a5 hT h1 h2 h14 h15 r0 r1 r2 r3 r4 r5)
      clear b a0 a1 a2 a3 a4 a5 hT h1 h2 h14 h15 r0 r1 r2 r3 r4 r5
      obtain ⟨a0, a1, a2, a3, a4, a5, hT, h1, h2, h14, h15, r0, r1, r2, r3, r4, r5⟩ := G
      rcases HK.out with e3 | ⟨e3, e4⟩
      · have E3 := Lib.hid e3
        clear e3
        have g6 : (okc q3 == 3) = true := by rw [E3.out]; decide
        go_wp2
        go_ret
        exact ⟨by first | rfl | simp, BB⟩
      have E3 := Lib.hid e3
      have g6 : (okc q3 == 3) = false := by rw [E3.out]; decide
      have g7 : (okc q3 == 4) = true := by rw [E3.out]; decide
      obtain ⟨t, ht⟩ : ∃ t, t = signR x.lo.s x.lo.l x.lo.e := ⟨_, rfl⟩
      have HT := Lib.hid ht
      have g9_ : decide (t < 0) = true := decide_eq_true (by rw [ht]; exact e4)
      clear ht e3 e4
      go_wp2_with fail
      refine (show Calls _ _ _ _ (Ints t _) from by rw [HT.out]; exact dsign_raw (s1 := x.lo.s) (e1 := x.lo.e) hT h1).mono ?_
      rintro en v5 ⟨rfl, b⟩
      replace BB := bnx BB b rfl rfl rfl rfl
      have G := mv b rfl (J17 a0 a1 a2 a3 a4 a5 hT h1 h2 h14 h15 r0 r1 r2 r3 r4 r5)
      clear b a0 a1 a2 a3 a4 a5 hT h1 h2 h14 h15 r0 r1 r2 r3 r4 r5
      obtain ⟨a0, a1, a2, a3, a4, a5, hT, h1, h2, h14, h15, r0, r1, r2, r3, r4, r5⟩ := G
      go_wp2
      go_ret
      exact ⟨by first | rfl | simp, BB⟩
    have d6 : (okc q3 != 0) = false := by simp; exact z3
    have Z3 := Lib.hid z3
    clear z3
    obtain ⟨q4, hq⟩ : ∃ q : Except Int Iv, q = face1 S (oiv q3) P (sqrI S (oiv q3) P) := ⟨_, rfl⟩
    have HQ4 := Lib.hid hq
    clear hq
    go_wp2_with fail
    refine (tello_to HQ4.out (asqr_any S (x := oiv q3) (p := P) hT h14 h15)).mono ?_
    rintro en v6 ⟨A16, n16, c16, A17, n17, c17, rfl, h16, h17, b⟩
    replace BB := bnx BB b rfl rfl rfl rfl
    have G := mv b rfl (J17 a0 a1 a2 a3 a4 a5 hT h1 h2 h14 h15 r0 r1 r2 r3 r4 r5)
    clear b a0 a1 a2 a3 a4 a5 hT h1 h2 h14 h15 r0 r1 r2 r3 r4 r5
    obtain ⟨a0, a1, a2, a3, a4, a5, hT, h1, h2, h14, h15, r0, r1, r2, r3, r4, r5⟩ := G
    clear h14 h15 r0 r1 r2 r3 r4 r5
    obtain ⟨s0, s1, s2, s3, s4, s5⟩ := (Ibx.new v6 (oiv q4).lo.s A16 n16 c16 (oiv q4).lo.e (oiv q4).hi.s A17 n17 c17 (oiv q4).hi.e).held
    have b := below_alloc v6 (.cells #[.bool (oiv q4).lo.s, .slice A16 n16 c16, .int .i64 (oiv q4).lo.e, .bool (oiv q4).hi.s, .slice A17 n17 c17, .int .i64 (oiv q4).hi.e] 26)
    replace BB := bnx BB b rfl rfl rfl rfl
    have G := mv b rfl (J11 a0 a1 a2 a3 a4 a5 hT h1 h2 h16 h17)
    clear b a0 a1 a2 a3 a4 a5 hT h1 h2 h16 h17
    obtain ⟨a0, a1, a2, a3, a4, a5, hT, h1, h2, h16, h17⟩ := G
    go_wp2_with fail
    refine (told6_any hT).mono ?_
    rintro en v7 ⟨rfl, b⟩
    replace BB := bnx BB b rfl rfl rfl rfl
    have G := mv b rfl (J17 a0 a1 a2 a3 a4 a5 hT h1 h2 h16 h17 s0 s1 s2 s3 s4 s5)
    clear b a0 a1 a2 a3 a4 a5 hT h1 h2 h16 h17 s0 s1 s2 s3 s4 s5
    obtain ⟨a0, a1, a2, a3, a4, a5, hT, h1, h2, h16, h17, s0, s1, s2, s3, s4, s5⟩ := G
    by_cases z4 : okc q4 = 0
    rotate_left
    · have d7 : (okc q4 != 0) = true := by simp; exact z4
      clear z4
      go_wp2
      go_ret
      exact ⟨by first | rfl | simp, BB⟩
    have d7 : (okc q4 != 0) = false := by simp; exact z4
    have HW := Lib.hid (sqt_within HPR.out HMx.out HQ3.out HQ4.out Z3.out z4)
    clear z4
    go_wp2_with fail
    refine (show Calls _ _ _ _ (Bools true _) from by have := iwithin_any (K := S.K) (x := x) (y := oiv q4) S.big hT h1 h2 h16 h17; rwa [HW.out] at this).mono ?_
    rintro en v8 ⟨rfl, b⟩
    replace BB := bnx BB b rfl rfl rfl rfl
    have G := mv b rfl (J17 a0 a1 a2 a3 a4 a5 hT h1 h2 h16 h17 s0 s1 s2 s3 s4 s5)
    clear b a0 a1 a2 a3 a4 a5 hT h1 h2 h16 h17 s0 s1 s2 s3 s4 s5
    obtain ⟨a0, a1, a2, a3, a4, a5, hT, h1, h2, h16, h17, s0, s1, s2, s3, s4, s5⟩ := G
    go_wp2
    go_ret
    exact ⟨by first | rfl | simp, BB⟩
  have d0 : (okc q1 == 0) = true := by simp; exact z1
  have Z1 := Lib.hid z1
  clear z1
  obtain ⟨q2, hq⟩ : ∃ q : Except Int Iv, q = face2 S (oiv q1) y P (mulI S (oiv q1) y P) := ⟨_, rfl⟩
  have HQ2 := Lib.hid hq
  clear hq
  go_wp2_with fail
  refine (tello_to HQ2.out (amul_any S (x := oiv q1) (y := y) (p := P) hT h10 h11 h3 h4)).mono ?_
  rintro en v2 ⟨A12, n12, c12, A13, n13, c13, rfl, h12, h13, b⟩
  replace BB := bnx BB b rfl rfl rfl rfl
  have G := mv b rfl (J25 a0 a1 a2 a3 a4 a5 e0 e1 e2 e3 e4 e5 hT h1 h2 h3 h4 h10 h11 p0 p1 p2 p3 p4 p5)
  clear b a0 a1 a2 a3 a4 a5 e0 e1 e2 e3 e4 e5 hT h1 h2 h3 h4 h10 h11 p0 p1 p2 p3 p4 p5
  obtain ⟨a0, a1, a2, a3, a4, a5, e0, e1, e2, e3, e4, e5, hT, h1, h2, h3, h4, h10, h11, p0, p1, p2, p3, p4, p5⟩ := G
  clear h10 h11 h3 h4 p0 p1 p2 p3 p4 p5 e0 e1 e2 e3 e4 e5
  obtain ⟨k0, k1, k2, k3, k4, k5⟩ := (Ibx.new v2 (oiv q2).lo.s A12 n12 c12 (oiv q2).lo.e (oiv q2).hi.s A13 n13 c13 (oiv q2).hi.e).held
  have b := below_alloc v2 (.cells #[.bool (oiv q2).lo.s, .slice A12 n12 c12, .int .i64 (oiv q2).lo.e, .bool (oiv q2).hi.s, .slice A13 n13 c13, .int .i64 (oiv q2).hi.e] 26)
  replace BB := bnx BB b rfl rfl rfl rfl
  have G := mv b rfl (J11 a0 a1 a2 a3 a4 a5 hT h1 h2 h12 h13)
  clear b a0 a1 a2 a3 a4 a5 hT h1 h2 h12 h13
  obtain ⟨a0, a1, a2, a3, a4, a5, hT, h1, h2, h12, h13⟩ := G
  by_cases z2 : okc q2 = 0
  rotate_left
  · have d1 : (okc q2 == 0) = false := by simp; exact z2
    clear z2
    clear h12 h13 k0 k1 k2 k3 k4 k5
    obtain ⟨q3, hq⟩ : ∃ q : Except Int Iv, q = face1 S x P (sqtI S x P) := ⟨_, rfl⟩
    have HQ3 := Lib.hid hq
    clear hq
    go_wp2_with fail
    refine (tello_to HQ3.out (asqrt_any S (p := P) hT h1 h2)).mono ?_
    rintro en v3 ⟨A14, n14, c14, A15, n15, c15, rfl, h14, h15, b⟩
    replace BB := bnx BB b rfl rfl rfl rfl
    have G := mv b rfl (J9 a0 a1 a2 a3 a4 a5 hT h1 h2)
    clear b a0 a1 a2 a3 a4 a5 hT h1 h2
    obtain ⟨a0, a1, a2, a3, a4, a5, hT, h1, h2⟩ := G
    obtain ⟨r0, r1, r2, r3, r4, r5⟩ := (Ibx.new v3 (oiv q3).lo.s A14 n14 c14 (oiv q3).lo.e (oiv q3).hi.s A15 n15 c15 (oiv q3).hi.e).held
    have b := below_alloc v3 (.cells #[.bool (oiv q3).lo.s, .slice A14 n14 c14, .int .i64 (oiv q3).lo.e, .bool (oiv q3).hi.s, .slice A15 n15 c15, .int .i64 (oiv q3).hi.e] 26)
    replace BB := bnx BB b rfl rfl rfl rfl
    have G := mv b rfl (J11 a0 a1 a2 a3 a4 a5 hT h1 h2 h14 h15)
    clear b a0 a1 a2 a3 a4 a5 hT h1 h2 h14 h15
    obtain ⟨a0, a1, a2, a3, a4, a5, hT, h1, h2, h14, h15⟩ := G
    by_cases z3 : okc q3 = 0
    rotate_left
    · have d6 : (okc q3 != 0) = true := by simp; exact z3
      have HK := Lib.hid (sqt_codes HPR.out HMx.out HQ3.out z3)
      clear z3
      go_wp2_with fail
      refine (told6_any hT).mono ?_
      rintro en v4 ⟨rfl, b⟩
      replace BB := bnx BB b rfl rfl rfl rfl
      have G := mv b rfl (J17 a0 a1 a2 a3 a4 a5 hT h1 h2 h14 h15 r0 r1 r2 r3 r4 r5)
      clear b a0 a1 a2 a3 a4 a5 hT h1 h2 h14 h15 r0 r1 r2 r3 r4 r5
      obtain ⟨a0, a1, a2, a3, a4, a5, hT, h1, h2, h14, h15, r0, r1, r2, r3, r4, r5⟩ := G
      rcases HK.out with e3 | ⟨e3, e4⟩
      · have E3 := Lib.hid e3
        clear e3
        have g6 : (okc q3 == 3) = true := by rw [E3.out]; decide
        go_wp2
        go_ret
        exact ⟨by first | rfl | simp, BB⟩
      have E3 := Lib.hid e3
      have g6 : (okc q3 == 3) = false := by rw [E3.out]; decide
      have g7 : (okc q3 == 4) = true := by rw [E3.out]; decide
      obtain ⟨t, ht⟩ : ∃ t, t = signR x.lo.s x.lo.l x.lo.e := ⟨_, rfl⟩
      have HT := Lib.hid ht
      have g9_ : decide (t < 0) = true := decide_eq_true (by rw [ht]; exact e4)
      clear ht e3 e4
      go_wp2_with fail
      refine (show Calls _ _ _ _ (Ints t _) from by rw [HT.out]; exact dsign_raw (s1 := x.lo.s) (e1 := x.lo.e) hT h1).mono ?_
      rintro en v5 ⟨rfl, b⟩
      replace BB := bnx BB b rfl rfl rfl rfl
      have G := mv b rfl (J17 a0 a1 a2 a3 a4 a5 hT h1 h2 h14 h15 r0 r1 r2 r3 r4 r5)
      clear b a0 a1 a2 a3 a4 a5 hT h1 h2 h14 h15 r0 r1 r2 r3 r4 r5
      obtain ⟨a0, a1, a2, a3, a4, a5, hT, h1, h2, h14, h15, r0, r1, r2, r3, r4, r5⟩ := G
      go_wp2
      go_ret
      exact ⟨by first | rfl | simp, BB⟩
    have d6 : (okc q3 != 0) = false := by simp; exact z3
    have Z3 := Lib.hid z3
    clear z3
    obtain ⟨q4, hq⟩ : ∃ q : Except Int Iv, q = face1 S (oiv q3) P (sqrI S (oiv q3) P) := ⟨_, rfl⟩
    have HQ4 := Lib.hid hq
    clear hq
    go_wp2_with fail
    refine (tello_to HQ4.out (asqr_any S (x := oiv q3) (p := P) hT h14 h15)).mono ?_
    rintro en v6 ⟨A16, n16, c16, A17, n17, c17, rfl, h16, h17, b⟩
    replace BB := bnx BB b rfl rfl rfl rfl
    have G := mv b rfl (J17 a0 a1 a2 a3 a4 a5 hT h1 h2 h14 h15 r0 r1 r2 r3 r4 r5)
    clear b a0 a1 a2 a3 a4 a5 hT h1 h2 h14 h15 r0 r1 r2 r3 r4 r5
    obtain ⟨a0, a1, a2, a3, a4, a5, hT, h1, h2, h14, h15, r0, r1, r2, r3, r4, r5⟩ := G
    clear h14 h15 r0 r1 r2 r3 r4 r5
    obtain ⟨s0, s1, s2, s3, s4, s5⟩ := (Ibx.new v6 (oiv q4).lo.s A16 n16 c16 (oiv q4).lo.e (oiv q4).hi.s A17 n17 c17 (oiv q4).hi.e).held
    have b := below_alloc v6 (.cells #[.bool (oiv q4).lo.s, .slice A16 n16 c16, .int .i64 (oiv q4).lo.e, .bool (oiv q4).hi.s, .slice A17 n17 c17, .int .i64 (oiv q4).hi.e] 26)
    replace BB := bnx BB b rfl rfl rfl rfl
    have G := mv b rfl (J11 a0 a1 a2 a3 a4 a5 hT h1 h2 h16 h17)
    clear b a0 a1 a2 a3 a4 a5 hT h1 h2 h16 h17
    obtain ⟨a0, a1, a2, a3, a4, a5, hT, h1, h2, h16, h17⟩ := G
    go_wp2_with fail
    refine (told6_any hT).mono ?_
    rintro en v7 ⟨rfl, b⟩
    replace BB := bnx BB b rfl rfl rfl rfl
    have G := mv b rfl (J17 a0 a1 a2 a3 a4 a5 hT h1 h2 h16 h17 s0 s1 s2 s3 s4 s5)
    clear b a0 a1 a2 a3 a4 a5 hT h1 h2 h16 h17 s0 s1 s2 s3 s4 s5
    obtain ⟨a0, a1, a2, a3, a4, a5, hT, h1, h2, h16, h17, s0, s1, s2, s3, s4, s5⟩ := G
    by_cases z4 : okc q4 = 0
    rotate_left
    · have d7 : (okc q4 != 0) = true := by simp; exact z4
      clear z4
      go_wp2
      go_ret
      exact ⟨by first | rfl | simp, BB⟩
    have d7 : (okc q4 != 0) = false := by simp; exact z4
    have HW := Lib.hid (sqt_within HPR.out HMx.out HQ3.out HQ4.out Z3.out z4)
    clear z4
    go_wp2_with fail
    refine (show Calls _ _ _ _ (Bools true _) from by have := iwithin_any (K := S.K) (x := x) (y := oiv q4) S.big hT h1 h2 h16 h17; rwa [HW.out] at this).mono ?_
    rintro en v8 ⟨rfl, b⟩
    replace BB := bnx BB b rfl rfl rfl rfl
    have G := mv b rfl (J17 a0 a1 a2 a3 a4 a5 hT h1 h2 h16 h17 s0 s1 s2 s3 s4 s5)
    clear b a0 a1 a2 a3 a4 a5 hT h1 h2 h16 h17 s0 s1 s2 s3 s4 s5
    obtain ⟨a0, a1, a2, a3, a4, a5, hT, h1, h2, h16, h17, s0, s1, s2, s3, s4, s5⟩ := G
    go_wp2
    go_ret
    exact ⟨by first | rfl | simp, BB⟩
  have d1 : (okc q2 == 0) = true := by simp; exact z2
  have HW1 := Lib.hid (div_within HPR.out HMx.out HMy.out HQ1.out HQ2.out Z1.out z2)
  clear z2
  go_wp2_with fail
  refine (show Calls _ _ _ _ (Bools true _) from by have := iwithin_any (K := S.K) (x := x) (y := oiv q2) S.big hT h1 h2 h12 h13; rwa [HW1.out] at this).mono ?_
  rintro en v9 ⟨rfl, b⟩
  clear h12 h13 k0 k1 k2 k3 k4 k5
  replace BB := bnx BB b rfl rfl rfl rfl
  have G := mv b rfl (J9 a0 a1 a2 a3 a4 a5 hT h1 h2)
  clear b a0 a1 a2 a3 a4 a5 hT h1 h2
  obtain ⟨a0, a1, a2, a3, a4, a5, hT, h1, h2⟩ := G
  obtain ⟨q3, hq⟩ : ∃ q : Except Int Iv, q = face1 S x P (sqtI S x P) := ⟨_, rfl⟩
  have HQ3 := Lib.hid hq
  clear hq
  go_wp2_with fail
  refine (tello_to HQ3.out (asqrt_any S (p := P) hT h1 h2)).mono ?_
  rintro en v3 ⟨A14, n14, c14, A15, n15, c15, rfl, h14, h15, b⟩
  replace BB := bnx BB b rfl rfl rfl rfl
  have G := mv b rfl (J9 a0 a1 a2 a3 a4 a5 hT h1 h2)
  clear b a0 a1 a2 a3 a4 a5 hT h1 h2
  obtain ⟨a0, a1, a2, a3, a4, a5, hT, h1, h2⟩ := G
  obtain ⟨r0, r1, r2, r3, r4, r5⟩ := (Ibx.new v3 (oiv q3).lo.s A14 n14 c14 (oiv q3).lo.e (oiv q3).hi.s A15 n15 c15 (oiv q3).hi.e).held
  have b := below_alloc v3 (.cells #[.bool (oiv q3).lo.s, .slice A14 n14 c14, .int .i64 (oiv q3).lo.e, .bool (oiv q3).hi.s, .slice A15 n15 c15, .int .i64 (oiv q3).hi.e] 26)
  replace BB := bnx BB b rfl rfl rfl rfl
  have G := mv b rfl (J11 a0 a1 a2 a3 a4 a5 hT h1 h2 h14 h15)
  clear b a0 a1 a2 a3 a4 a5 hT h1 h2 h14 h15
  obtain ⟨a0, a1, a2, a3, a4, a5, hT, h1, h2, h14, h15⟩ := G
  by_cases z3 : okc q3 = 0
  rotate_left
  · have d6 : (okc q3 != 0) = true := by simp; exact z3
    have HK := Lib.hid (sqt_codes HPR.out HMx.out HQ3.out z3)
    clear z3
    go_wp2_with fail
    refine (told6_any hT).mono ?_
    rintro en v4 ⟨rfl, b⟩
    replace BB := bnx BB b rfl rfl rfl rfl
    have G := mv b rfl (J17 a0 a1 a2 a3 a4 a5 hT h1 h2 h14 h15 r0 r1 r2 r3 r4 r5)
    clear b a0 a1 a2 a3 a4 a5 hT h1 h2 h14 h15 r0 r1 r2 r3 r4 r5
    obtain ⟨a0, a1, a2, a3, a4, a5, hT, h1, h2, h14, h15, r0, r1, r2, r3, r4, r5⟩ := G
    rcases HK.out with e3 | ⟨e3, e4⟩
    · have E3 := Lib.hid e3
      clear e3
      have g6 : (okc q3 == 3) = true := by rw [E3.out]; decide
      go_wp2
      go_ret
      exact ⟨by first | rfl | simp, BB⟩
    have E3 := Lib.hid e3
    have g6 : (okc q3 == 3) = false := by rw [E3.out]; decide
    have g7 : (okc q3 == 4) = true := by rw [E3.out]; decide
    obtain ⟨t, ht⟩ : ∃ t, t = signR x.lo.s x.lo.l x.lo.e := ⟨_, rfl⟩
    have HT := Lib.hid ht
    have g9_ : decide (t < 0) = true := decide_eq_true (by rw [ht]; exact e4)
    clear ht e3 e4
    go_wp2_with fail
    refine (show Calls _ _ _ _ (Ints t _) from by rw [HT.out]; exact dsign_raw (s1 := x.lo.s) (e1 := x.lo.e) hT h1).mono ?_
    rintro en v5 ⟨rfl, b⟩
    replace BB := bnx BB b rfl rfl rfl rfl
    have G := mv b rfl (J17 a0 a1 a2 a3 a4 a5 hT h1 h2 h14 h15 r0 r1 r2 r3 r4 r5)
    clear b a0 a1 a2 a3 a4 a5 hT h1 h2 h14 h15 r0 r1 r2 r3 r4 r5
    obtain ⟨a0, a1, a2, a3, a4, a5, hT, h1, h2, h14, h15, r0, r1, r2, r3, r4, r5⟩ := G
    go_wp2
    go_ret
    exact ⟨by first | rfl | simp, BB⟩
  have d6 : (okc q3 != 0) = false := by simp; exact z3
  have Z3 := Lib.hid z3
  clear z3
  obtain ⟨q4, hq⟩ : ∃ q : Except Int Iv, q = face1 S (oiv q3) P (sqrI S (oiv q3) P) := ⟨_, rfl⟩
  have HQ4 := Lib.hid hq
  clear hq
  go_wp2_with fail
  refine (tello_to HQ4.out (asqr_any S (x := oiv q3) (p := P) hT h14 h15)).mono ?_
  rintro en v6 ⟨A16, n16, c16, A17, n17, c17, rfl, h16, h17, b⟩
  replace BB := bnx BB b rfl rfl rfl rfl
  have G := mv b rfl (J17 a0 a1 a2 a3 a4 a5 hT h1 h2 h14 h15 r0 r1 r2 r3 r4 r5)
  clear b a0 a1 a2 a3 a4 a5 hT h1 h2 h14 h15 r0 r1 r2 r3 r4 r5
  obtain ⟨a0, a1, a2, a3, a4, a5, hT, h1, h2, h14, h15, r0, r1, r2, r3, r4, r5⟩ := G
  clear h14 h15 r0 r1 r2 r3 r4 r5
  obtain ⟨s0, s1, s2, s3, s4, s5⟩ := (Ibx.new v6 (oiv q4).lo.s A16 n16 c16 (oiv q4).lo.e (oiv q4).hi.s A17 n17 c17 (oiv q4).hi.e).held
  have b := below_alloc v6 (.cells #[.bool (oiv q4).lo.s, .slice A16 n16 c16, .int .i64 (oiv q4).lo.e, .bool (oiv q4).hi.s, .slice A17 n17 c17, .int .i64 (oiv q4).hi.e] 26)
  replace BB := bnx BB b rfl rfl rfl rfl
  have G := mv b rfl (J11 a0 a1 a2 a3 a4 a5 hT h1 h2 h16 h17)
  clear b a0 a1 a2 a3 a4 a5 hT h1 h2 h16 h17
  obtain ⟨a0, a1, a2, a3, a4, a5, hT, h1, h2, h16, h17⟩ := G
  go_wp2_with fail
  refine (told6_any hT).mono ?_
  rintro en v7 ⟨rfl, b⟩
  replace BB := bnx BB b rfl rfl rfl rfl
  have G := mv b rfl (J17 a0 a1 a2 a3 a4 a5 hT h1 h2 h16 h17 s0 s1 s2 s3 s4 s5)
  clear b a0 a1 a2 a3 a4 a5 hT h1 h2 h16 h17 s0 s1 s2 s3 s4 s5
  obtain ⟨a0, a1, a2, a3, a4, a5, hT, h1, h2, h16, h17, s0, s1, s2, s3, s4, s5⟩ := G
  by_cases z4 : okc q4 = 0
  rotate_left
  · have d7 : (okc q4 != 0) = true := by simp; exact z4
    clear z4
    go_wp2
    go_ret
    exact ⟨by first | rfl | simp, BB⟩
  have d7 : (okc q4 != 0) = false := by simp; exact z4
  have HW := Lib.hid (sqt_within HPR.out HMx.out HQ3.out HQ4.out Z3.out z4)
  clear z4
  go_wp2_with fail
  refine (show Calls _ _ _ _ (Bools true _) from by have := iwithin_any (K := S.K) (x := x) (y := oiv q4) S.big hT h1 h2 h16 h17; rwa [HW.out] at this).mono ?_
  rintro en v8 ⟨rfl, b⟩
  replace BB := bnx BB b rfl rfl rfl rfl
  have G := mv b rfl (J17 a0 a1 a2 a3 a4 a5 hT h1 h2 h16 h17 s0 s1 s2 s3 s4 s5)
  clear b a0 a1 a2 a3 a4 a5 hT h1 h2 h16 h17 s0 s1 s2 s3 s4 s5
  obtain ⟨a0, a1, a2, a3, a4, a5, hT, h1, h2, h16, h17, s0, s1, s2, s3, s4, s5⟩ := G
  go_wp2
  go_ret
  exact ⟨by first | rfl | simp, BB⟩

end Go.Proofs.YtcbkhmejlaaieaaGreatDoor
