/-
 Contract of the statement ExpoArgs's function: it returns true, whatever its arguments, at this translation. Condition: the slices read as limbs, the table of math/bits reads as its text lays it.
-/
import Derived.Test.YtldbafifgkobcaaGreatDoorQEk
import Derived.Test.YtldbafifgkobcaaGreatDoorQRc
set_option maxHeartbeats 8000000
set_option maxRecDepth 100000
namespace Go.Proofs.YtldbafifgkobcaaGreatDoor
open Go.RowKit

theorem may_not {K : Nat} {a : Rw} (h : a.may = false) : mayI K ⟨a, a⟩ = false := Bool.eq_false_iff.2 fun h1 => by
 have := (mayI_iff.1 h1).1
 rw [show a.may = true from this] at h
 cases h
theorem over_not {K : Nat} {x : Iv} {p : Int} (h : mayI K x = false) : chk K x p = 1 := chk_bad (.inl h)

theorem expoargs_any {w : World} {a : Rw} {x : Iv} {A1 : Option Addr} {n1 c1 : Nat} {A2 : Option Addr} {n2 c2 : Nat} {A3 : Option Addr} {n3 c3 : Nat} {p : Int} (hT : Tab w) (h1 : Rd w .u64 Go.Proofs.YtldbafifgkobcaaGreatDoor.W A1 n1 c1 a.l) (h2 : Rd w .u64 Go.Proofs.YtldbafifgkobcaaGreatDoor.W A2 n2 c2 x.lo.l) (h3 : Rd w .u64 Go.Proofs.YtldbafifgkobcaaGreatDoor.W A3 n3 c3 x.hi.l) :
  Calls Tryz.prog 4 #[.agg #[.bool a.s, .slice A1 n1 c1, .int .i64 a.e], .agg #[.bool x.lo.s, .slice A2 n2 c2, .int .i64 x.lo.e, .bool x.hi.s, .slice A3 n3 c3, .int .i64 x.hi.e], .int .i64 p] w (Bools true w) := by
 obtain ⟨K, hK⟩ := scale_has
 have HK := Lib.hid hK
 clear hK
 have y1 : n1 ≤ 9223372036854775807 := Nat.le_trans h1.cap h1.max
 have y2 : n2 ≤ 9223372036854775807 := Nat.le_trans h2.cap h2.max
 have y3 : n3 ≤ 9223372036854775807 := Nat.le_trans h3.cap h3.max
 have BB := two_below w (.cells #[.bool a.s, .slice A1 n1 c1, .int .i64 a.e] 24) (.cells #[.bool x.lo.s, .slice A2 n2 c2, .int .i64 x.lo.e, .bool x.hi.s, .slice A3 n3 c3, .int .i64 x.hi.e] 33)
 obtain ⟨a0, a1, a2⟩ := ((Box.new w a.s A1 n1 c1 a.e).alloc (.cells #[.bool x.lo.s, .slice A2 n2 c2, .int .i64 x.lo.e, .bool x.hi.s, .slice A3 n3 c3, .int .i64 x.hi.e] 33)).held
 obtain ⟨e0, e1, e2, e3, e4, e5⟩ := (ibx_one w (.cells #[.bool a.s, .slice A1 n1 c1, .int .i64 a.e] 24) x.lo.s A2 n2 c2 x.lo.e x.hi.s A3 n3 c3 x.hi.e).held
 have G := mv BB rfl (J4 hT h1 h2 h3)
 clear hT h1 h2 h3
 obtain ⟨hT, h1, h2, h3⟩ := G
 by_cases q1 : 70 < n1
 ·have l1a : decide ((n1 : Int) > 70) = true := decide_eq_true (by omega)
  have l1b : decide ((70 : Int) < (n1 : Int)) = true := l1a
  have l1c : decide (70 < n1) = true := decide_eq_true (by omega)
  clear y1 y2 y3
  go_enter Tryz.func4, Tryz.ntmps4
  go_wp2_with fail
  refine (told7_any hT).mono ?_
  rintro en t1 ⟨rfl, b⟩
  replace BB := bnx BB b
  have G := mv b rfl (J13 hT h1 h2 h3 a0 a1 a2 e0 e1 e2 e3 e4 e5)
  clear b hT h1 h2 h3 a0 a1 a2 e0 e1 e2 e3 e4 e5
  obtain ⟨hT, h1, h2, h3, a0, a1, a2, e0, e1, e2, e3, e4, e5⟩ := G
  go_wp2
  go_ret
  exact ⟨by first | rfl | simp, BB⟩
 by_cases q2 : 70 < n2
 ·have l1a : decide ((n1 : Int) > 70) = false := decide_eq_false (by omega)
  have l1b : decide ((70 : Int) < (n1 : Int)) = false := l1a
  have l1c : decide (70 < n1) = false := decide_eq_false (by omega)
  have l2a : decide ((n2 : Int) > 70) = true := decide_eq_true (by omega)
  have l2b : decide ((70 : Int) < (n2 : Int)) = true := l2a
  have l2c : decide (70 < n2) = true := decide_eq_true (by omega)
  clear y1 y2 y3
  go_enter Tryz.func4, Tryz.ntmps4
  go_wp2_with fail
  refine (told7_any hT).mono ?_
  rintro en t1 ⟨rfl, b⟩
  replace BB := bnx BB b
  have G := mv b rfl (J13 hT h1 h2 h3 a0 a1 a2 e0 e1 e2 e3 e4 e5)
  clear b hT h1 h2 h3 a0 a1 a2 e0 e1 e2 e3 e4 e5
  obtain ⟨hT, h1, h2, h3, a0, a1, a2, e0, e1, e2, e3, e4, e5⟩ := G
  go_wp2
  go_ret
  exact ⟨by first | rfl | simp, BB⟩
 by_cases q3 : 70 < n3
 ·have l1a : decide ((n1 : Int) > 70) = false := decide_eq_false (by omega)
  have l1b : decide ((70 : Int) < (n1 : Int)) = false := l1a
  have l1c : decide (70 < n1) = false := decide_eq_false (by omega)
  have l2a : decide ((n2 : Int) > 70) = false := decide_eq_false (by omega)
  have l2b : decide ((70 : Int) < (n2 : Int)) = false := l2a
  have l2c : decide (70 < n2) = false := decide_eq_false (by omega)
  have l3a : decide ((n3 : Int) > 70) = true := decide_eq_true (by omega)
  have l3b : decide ((70 : Int) < (n3 : Int)) = true := l3a
  have l3c : decide (70 < n3) = true := decide_eq_true (by omega)
  clear y1 y2 y3
  go_enter Tryz.func4, Tryz.ntmps4
  go_wp2_with fail
  refine (told7_any hT).mono ?_
  rintro en t1 ⟨rfl, b⟩
  replace BB := bnx BB b
  have G := mv b rfl (J13 hT h1 h2 h3 a0 a1 a2 e0 e1 e2 e3 e4 e5)
  clear b hT h1 h2 h3 a0 a1 a2 e0 e1 e2 e3 e4 e5
  obtain ⟨hT, h1, h2, h3, a0, a1, a2, e0, e1, e2, e3, e4, e5⟩ := G
  go_wp2
  go_ret
  exact ⟨by first | rfl | simp, BB⟩
 have l1a : decide ((n1 : Int) > 70) = false := decide_eq_false (by omega)
 have l1b : decide ((70 : Int) < (n1 : Int)) = false := l1a
 have l1c : decide (70 < n1) = false := decide_eq_false (by omega)
 have l2a : decide ((n2 : Int) > 70) = false := decide_eq_false (by omega)
 have l2b : decide ((70 : Int) < (n2 : Int)) = false := l2a
 have l2c : decide (70 < n2) = false := decide_eq_false (by omega)
 have l3a : decide ((n3 : Int) > 70) = false := decide_eq_false (by omega)
 have l3b : decide ((70 : Int) < (n3 : Int)) = false := l3a
 have l3c : decide (70 < n3) = false := decide_eq_false (by omega)
 have hn1 : n1 ≤ 10000000000000 := by omega
 have HN := Lib.hid hn1
 clear hn1 y1 y2 y3 q1 q2 q3
 go_enter Tryz.func4, Tryz.ntmps4
 go_upto_region 3 with fail
 clear l1a l1b l1c l2a l2b l2c l3a l3b l3c
 generalize ((w.alloc (.cells #[.bool a.s, .slice A1 n1 c1, .int .i64 a.e] 24)).alloc (.cells #[.bool x.lo.s, .slice A2 n2 c2, .int .i64 x.lo.e, .bool x.hi.s, .slice A3 n3 c3, .int .i64 x.hi.e] 33)) = v0 at *
 have N1 := nt_one_at (w := v0) (v := 1) rfl (by omega) (by omega)
 have b := below_alloc v0 (.cells #[.int .u64 1] 34)
 replace BB := bnx BB b
 have G := mv b rfl (J13 hT h1 h2 h3 a0 a1 a2 e0 e1 e2 e3 e4 e5)
 clear b hT h1 h2 h3 a0 a1 a2 e0 e1 e2 e3 e4 e5
 obtain ⟨hT, h1, h2, h3, a0, a1, a2, e0, e1, e2, e3, e4, e5⟩ := G
 have p7 := box_at (w := (v0.alloc (.cells #[.int .u64 1] 34))) (sizes_up rfl) false (some ⟨v0.heap.size, 0, none⟩) 1 1 6
 have b := below_alloc (v0.alloc (.cells #[.int .u64 1] 34)) (.cells #[.bool false, .slice (some ⟨v0.heap.size, 0, none⟩) 1 1, .int .i64 6] 24)
 replace BB := bnx BB b
 have G := mv b rfl (J14 hT h1 h2 h3 a0 a1 a2 e0 e1 e2 e3 e4 e5 N1)
 clear b hT h1 h2 h3 a0 a1 a2 e0 e1 e2 e3 e4 e5 N1
 obtain ⟨hT, h1, h2, h3, a0, a1, a2, e0, e1, e2, e3, e4, e5, N1⟩ := G
 go_upto_region 4 with fail
 generalize (v0.alloc (.cells #[.int .u64 1] 34)).alloc (.cells #[.bool false, .slice (some ⟨v0.heap.size, 0, none⟩) 1 1, .int .i64 6] 24) = v1 at *
 generalize v0.heap.size + 1 = g7 at *
 generalize v0.heap.size = g6 at *
 have gb : w.heap.size ≤ v1.heap.size := BB.size
 have g7l := p7.gl
 have gal : w.heap.size < v1.heap.size := World.block_lt_of_cell? _ _ a0
 have gel : w.heap.size + 1 < v1.heap.size := World.block_lt_of_cell? _ _ e0
 go_upto_region 6 with fail
 have p8 := Box.new v1 false A1 n1 c1 a.e
 have b := below_alloc v1 (.cells #[.bool false, .slice A1 n1 c1, .int .i64 a.e] 24)
 replace BB := bnx BB b
 have G := mv b rfl (J15 hT h1 h2 h3 a0 a1 a2 e0 e1 e2 e3 e4 e5 N1 p7)
 clear b hT h1 h2 h3 a0 a1 a2 e0 e1 e2 e3 e4 e5 N1 p7
 obtain ⟨hT, h1, h2, h3, a0, a1, a2, e0, e1, e2, e3, e4, e5, N1, p7⟩ := G
 generalize v1.alloc (.cells #[.bool false, .slice A1 n1 c1, .int .i64 a.e] 24) = u at *
 generalize v1.heap.size = g8 at *
 replace N1 := N1.rd
 rw [dig_one (by omega) (small_W (by omega))] at N1
 skip
 obtain ⟨m, hm⟩ : ∃ m, m = a.may := ⟨_, rfl⟩
 have HM := Lib.hid hm
 clear hm
 by_cases hp1 : p < 1
 ·have d1 : decide (p < (1 : Int)) = true := decide_eq_true (by omega)
  have d2 : decide (p > (300 : Int)) = false := decide_eq_false (by omega)
  have d3 : decide ((300 : Int) < p) = false := decide_eq_false (by omega)
  have d4 : decide (p ≥ (1 : Int)) = false := decide_eq_false (by omega)
  have d5 : decide ((1 : Int) ≤ p) = false := decide_eq_false (by omega)
  have d6 : decide (p ≤ (300 : Int)) = true := decide_eq_true (by omega)
  go_wp2_with fail
  refine (show Calls _ _ _ _ (fun en w' => en = .returned (.bool m) ∧ Below _ _ w') from by rw [HM.out]; exact rmayd_any (s := a.s) (e := a.e) h1).mono ?_
  rintro en u1 ⟨rfl, b⟩
  replace BB := bnx BB b
  have G := mv b rfl (J16 hT h1 h2 h3 N1 p7 p8 a0 a1 a2 e0 e1 e2 e3 e4 e5)
  clear b hT h1 h2 h3 N1 p7 p8 a0 a1 a2 e0 e1 e2 e3 e4 e5
  obtain ⟨hT, h1, h2, h3, N1, p7, p8, a0, a1, a2, e0, e1, e2, e3, e4, e5⟩ := G
  cases m
  ·have HC : Hid (chk K ⟨a, a⟩ p = 1) := Lib.hid (chk_bad (.inr (.inl hp1)))
   go_wp2_with fail
   refine (eexp_no (up := true) HK.out hT h1 HN.out HC.out (by decide)).mono ?_
   rintro en v5 ⟨A5, n5, c5, rfl, h5, b⟩
   replace BB := bnx BB b
   have G := mv b rfl (J16 hT h1 h2 h3 N1 p7 p8 a0 a1 a2 e0 e1 e2 e3 e4 e5)
   clear b hT h1 h2 h3 N1 p7 p8 a0 a1 a2 e0 e1 e2 e3 e4 e5
   obtain ⟨hT, h1, h2, h3, N1, p7, p8, a0, a1, a2, e0, e1, e2, e3, e4, e5⟩ := G
   obtain ⟨z0, z1, z2⟩ := (Box.new v5 false A5 n5 c5 0).held
   have b := below_alloc v5 (.cells #[.bool false, .slice A5 n5 c5, .int .i64 0] 24)
   replace BB := bnx BB b
   have G := mv b rfl (J17 hT h1 h2 h3 N1 p7 p8 a0 a1 a2 e0 e1 e2 e3 e4 e5 h5)
   clear b hT h1 h2 h3 N1 p7 p8 a0 a1 a2 e0 e1 e2 e3 e4 e5 h5
   obtain ⟨hT, h1, h2, h3, N1, p7, p8, a0, a1, a2, e0, e1, e2, e3, e4, e5, h5⟩ := G
   have nn := nt_nil (v5.alloc (.cells #[.bool false, .slice A5 n5 c5, .int .i64 0] 24))
   go_wp2_with fail
   refine (dsame_self (s := false) (e := 0) h5 nn).mono ?_
   rintro en v7 ⟨rfl, b⟩
   clear z0 z1 z2 h5 nn
   replace BB := bnx BB b
   have G := mv b rfl (J16 hT h1 h2 h3 N1 p7 p8 a0 a1 a2 e0 e1 e2 e3 e4 e5)
   clear b hT h1 h2 h3 N1 p7 p8 a0 a1 a2 e0 e1 e2 e3 e4 e5
   obtain ⟨hT, h1, h2, h3, N1, p7, p8, a0, a1, a2, e0, e1, e2, e3, e4, e5⟩ := G
   go_wp2_with fail
   refine (told7_any hT).mono ?_
   rintro en t9 ⟨rfl, b⟩
   replace BB := bnx BB b
   have G := mv b rfl (J16 hT h1 h2 h3 N1 p7 p8 a0 a1 a2 e0 e1 e2 e3 e4 e5)
   clear b hT h1 h2 h3 N1 p7 p8 a0 a1 a2 e0 e1 e2 e3 e4 e5
   obtain ⟨hT, h1, h2, h3, N1, p7, p8, a0, a1, a2, e0, e1, e2, e3, e4, e5⟩ := G
   go_wp2
   go_ret
   exact ⟨by first | rfl | simp, BB⟩
  have HC : Hid (chk K ⟨a, a⟩ p = 1) := Lib.hid (chk_bad (.inr (.inl hp1)))
  go_wp2_with fail
  refine (eexp_no (up := true) HK.out hT h1 HN.out HC.out (by decide)).mono ?_
  rintro en v5 ⟨A5, n5, c5, rfl, h5, b⟩
  replace BB := bnx BB b
  have G := mv b rfl (J16 hT h1 h2 h3 N1 p7 p8 a0 a1 a2 e0 e1 e2 e3 e4 e5)
  clear b hT h1 h2 h3 N1 p7 p8 a0 a1 a2 e0 e1 e2 e3 e4 e5
  obtain ⟨hT, h1, h2, h3, N1, p7, p8, a0, a1, a2, e0, e1, e2, e3, e4, e5⟩ := G
  obtain ⟨z0, z1, z2⟩ := (Box.new v5 false A5 n5 c5 0).held
  have b := below_alloc v5 (.cells #[.bool false, .slice A5 n5 c5, .int .i64 0] 24)
  replace BB := bnx BB b
  have G := mv b rfl (J17 hT h1 h2 h3 N1 p7 p8 a0 a1 a2 e0 e1 e2 e3 e4 e5 h5)
  clear b hT h1 h2 h3 N1 p7 p8 a0 a1 a2 e0 e1 e2 e3 e4 e5 h5
  obtain ⟨hT, h1, h2, h3, N1, p7, p8, a0, a1, a2, e0, e1, e2, e3, e4, e5, h5⟩ := G
  have nn := nt_nil (v5.alloc (.cells #[.bool false, .slice A5 n5 c5, .int .i64 0] 24))
  go_wp2_with fail
  refine (dsame_self (s := false) (e := 0) h5 nn).mono ?_
  rintro en v7 ⟨rfl, b⟩
  clear z0 z1 z2 h5 nn
  replace BB := bnx BB b
  have G := mv b rfl (J16 hT h1 h2 h3 N1 p7 p8 a0 a1 a2 e0 e1 e2 e3 e4 e5)
  clear b hT h1 h2 h3 N1 p7 p8 a0 a1 a2 e0 e1 e2 e3 e4 e5
  obtain ⟨hT, h1, h2, h3, N1, p7, p8, a0, a1, a2, e0, e1, e2, e3, e4, e5⟩ := G
  go_wp2_with fail
  refine (told7_any hT).mono ?_
  rintro en t9 ⟨rfl, b⟩
  replace BB := bnx BB b
  have G := mv b rfl (J16 hT h1 h2 h3 N1 p7 p8 a0 a1 a2 e0 e1 e2 e3 e4 e5)
  clear b hT h1 h2 h3 N1 p7 p8 a0 a1 a2 e0 e1 e2 e3 e4 e5
  obtain ⟨hT, h1, h2, h3, N1, p7, p8, a0, a1, a2, e0, e1, e2, e3, e4, e5⟩ := G
  go_wp2
  go_ret
  exact ⟨by first | rfl | simp, BB⟩
 by_cases hp2 : 300 < p
 ·have d1 : decide (p < (1 : Int)) = false := decide_eq_false (by omega)
  have d2 : decide (p > (300 : Int)) = true := decide_eq_true (by omega)
  have d3 : decide ((300 : Int) < p) = true := decide_eq_true (by omega)
  have d4 : decide (p ≥ (1 : Int)) = true := decide_eq_true (by omega)
  have d5 : decide ((1 : Int) ≤ p) = true := decide_eq_true (by omega)
  have d6 : decide (p ≤ (300 : Int)) = false := decide_eq_false (by omega)
  go_wp2_with fail
  refine (show Calls _ _ _ _ (fun en w' => en = .returned (.bool m) ∧ Below _ _ w') from by rw [HM.out]; exact rmayd_any (s := a.s) (e := a.e) h1).mono ?_
  rintro en u1 ⟨rfl, b⟩
  replace BB := bnx BB b
  have G := mv b rfl (J16 hT h1 h2 h3 N1 p7 p8 a0 a1 a2 e0 e1 e2 e3 e4 e5)
  clear b hT h1 h2 h3 N1 p7 p8 a0 a1 a2 e0 e1 e2 e3 e4 e5
  obtain ⟨hT, h1, h2, h3, N1, p7, p8, a0, a1, a2, e0, e1, e2, e3, e4, e5⟩ := G
  cases m
  ·have HC : Hid (chk K ⟨a, a⟩ p = 1) := Lib.hid (chk_bad (.inr (.inr hp2)))
   go_wp2_with fail
   refine (eexp_no (up := true) HK.out hT h1 HN.out HC.out (by decide)).mono ?_
   rintro en v5 ⟨A5, n5, c5, rfl, h5, b⟩
   replace BB := bnx BB b
   have G := mv b rfl (J16 hT h1 h2 h3 N1 p7 p8 a0 a1 a2 e0 e1 e2 e3 e4 e5)
   clear b hT h1 h2 h3 N1 p7 p8 a0 a1 a2 e0 e1 e2 e3 e4 e5
   obtain ⟨hT, h1, h2, h3, N1, p7, p8, a0, a1, a2, e0, e1, e2, e3, e4, e5⟩ := G
   obtain ⟨z0, z1, z2⟩ := (Box.new v5 false A5 n5 c5 0).held
   have b := below_alloc v5 (.cells #[.bool false, .slice A5 n5 c5, .int .i64 0] 24)
   replace BB := bnx BB b
   have G := mv b rfl (J17 hT h1 h2 h3 N1 p7 p8 a0 a1 a2 e0 e1 e2 e3 e4 e5 h5)
   clear b hT h1 h2 h3 N1 p7 p8 a0 a1 a2 e0 e1 e2 e3 e4 e5 h5
   obtain ⟨hT, h1, h2, h3, N1, p7, p8, a0, a1, a2, e0, e1, e2, e3, e4, e5, h5⟩ := G
   have nn := nt_nil (v5.alloc (.cells #[.bool false, .slice A5 n5 c5, .int .i64 0] 24))
   go_wp2_with fail
   refine (dsame_self (s := false) (e := 0) h5 nn).mono ?_
   rintro en v7 ⟨rfl, b⟩
   clear z0 z1 z2 h5 nn
   replace BB := bnx BB b
   have G := mv b rfl (J16 hT h1 h2 h3 N1 p7 p8 a0 a1 a2 e0 e1 e2 e3 e4 e5)
   clear b hT h1 h2 h3 N1 p7 p8 a0 a1 a2 e0 e1 e2 e3 e4 e5
   obtain ⟨hT, h1, h2, h3, N1, p7, p8, a0, a1, a2, e0, e1, e2, e3, e4, e5⟩ := G
   go_wp2_with fail
   refine (told7_any hT).mono ?_
   rintro en t9 ⟨rfl, b⟩
   replace BB := bnx BB b
   have G := mv b rfl (J16 hT h1 h2 h3 N1 p7 p8 a0 a1 a2 e0 e1 e2 e3 e4 e5)
   clear b hT h1 h2 h3 N1 p7 p8 a0 a1 a2 e0 e1 e2 e3 e4 e5
   obtain ⟨hT, h1, h2, h3, N1, p7, p8, a0, a1, a2, e0, e1, e2, e3, e4, e5⟩ := G
   go_wp2
   go_ret
   exact ⟨by first | rfl | simp, BB⟩
  have HC : Hid (chk K ⟨a, a⟩ p = 1) := Lib.hid (chk_bad (.inr (.inr hp2)))
  go_wp2_with fail
  refine (eexp_no (up := true) HK.out hT h1 HN.out HC.out (by decide)).mono ?_
  rintro en v5 ⟨A5, n5, c5, rfl, h5, b⟩
  replace BB := bnx BB b
  have G := mv b rfl (J16 hT h1 h2 h3 N1 p7 p8 a0 a1 a2 e0 e1 e2 e3 e4 e5)
  clear b hT h1 h2 h3 N1 p7 p8 a0 a1 a2 e0 e1 e2 e3 e4 e5
  obtain ⟨hT, h1, h2, h3, N1, p7, p8, a0, a1, a2, e0, e1, e2, e3, e4, e5⟩ := G
  obtain ⟨z0, z1, z2⟩ := (Box.new v5 false A5 n5 c5 0).held
  have b := below_alloc v5 (.cells #[.bool false, .slice A5 n5 c5, .int .i64 0] 24)
  replace BB := bnx BB b
  have G := mv b rfl (J17 hT h1 h2 h3 N1 p7 p8 a0 a1 a2 e0 e1 e2 e3 e4 e5 h5)
  clear b hT h1 h2 h3 N1 p7 p8 a0 a1 a2 e0 e1 e2 e3 e4 e5 h5
  obtain ⟨hT, h1, h2, h3, N1, p7, p8, a0, a1, a2, e0, e1, e2, e3, e4, e5, h5⟩ := G
  have nn := nt_nil (v5.alloc (.cells #[.bool false, .slice A5 n5 c5, .int .i64 0] 24))
  go_wp2_with fail
  refine (dsame_self (s := false) (e := 0) h5 nn).mono ?_
  rintro en v7 ⟨rfl, b⟩
  clear z0 z1 z2 h5 nn
  replace BB := bnx BB b
  have G := mv b rfl (J16 hT h1 h2 h3 N1 p7 p8 a0 a1 a2 e0 e1 e2 e3 e4 e5)
  clear b hT h1 h2 h3 N1 p7 p8 a0 a1 a2 e0 e1 e2 e3 e4 e5
  obtain ⟨hT, h1, h2, h3, N1, p7, p8, a0, a1, a2, e0, e1, e2, e3, e4, e5⟩ := G
  go_wp2_with fail
  refine (told7_any hT).mono ?_
  rintro en t9 ⟨rfl, b⟩
  replace BB := bnx BB b
  have G := mv b rfl (J16 hT h1 h2 h3 N1 p7 p8 a0 a1 a2 e0 e1 e2 e3 e4 e5)
  clear b hT h1 h2 h3 N1 p7 p8 a0 a1 a2 e0 e1 e2 e3 e4 e5
  obtain ⟨hT, h1, h2, h3, N1, p7, p8, a0, a1, a2, e0, e1, e2, e3, e4, e5⟩ := G
  go_wp2
  go_ret
  exact ⟨by first | rfl | simp, BB⟩
 have d1 : decide (p < (1 : Int)) = false := decide_eq_false (by omega)
 have d2 : decide (p > (300 : Int)) = false := decide_eq_false (by omega)
 have d3 : decide ((300 : Int) < p) = false := decide_eq_false (by omega)
 have d4 : decide (p ≥ (1 : Int)) = true := decide_eq_true (by omega)
 have d5 : decide ((1 : Int) ≤ p) = true := decide_eq_true (by omega)
 have d6 : decide (p ≤ (300 : Int)) = true := decide_eq_true (by omega)
 go_wp2_with fail
 refine (show Calls _ _ _ _ (fun en w' => en = .returned (.bool m) ∧ Below _ _ w') from by rw [HM.out]; exact rmayd_any (s := a.s) (e := a.e) h1).mono ?_
 rintro en u1 ⟨rfl, b⟩
 replace BB := bnx BB b
 have G := mv b rfl (J16 hT h1 h2 h3 N1 p7 p8 a0 a1 a2 e0 e1 e2 e3 e4 e5)
 clear b hT h1 h2 h3 N1 p7 p8 a0 a1 a2 e0 e1 e2 e3 e4 e5
 obtain ⟨hT, h1, h2, h3, N1, p7, p8, a0, a1, a2, e0, e1, e2, e3, e4, e5⟩ := G
 cases m
 ·have HC : Hid (chk K ⟨a, a⟩ p = 1) := Lib.hid (over_not (may_not HM.out.symm))
  go_wp2_with fail
  refine (eexp_no (up := true) HK.out hT h1 HN.out HC.out (by decide)).mono ?_
  rintro en v5 ⟨A5, n5, c5, rfl, h5, b⟩
  replace BB := bnx BB b
  have G := mv b rfl (J16 hT h1 h2 h3 N1 p7 p8 a0 a1 a2 e0 e1 e2 e3 e4 e5)
  clear b hT h1 h2 h3 N1 p7 p8 a0 a1 a2 e0 e1 e2 e3 e4 e5
  obtain ⟨hT, h1, h2, h3, N1, p7, p8, a0, a1, a2, e0, e1, e2, e3, e4, e5⟩ := G
  obtain ⟨z0, z1, z2⟩ := (Box.new v5 false A5 n5 c5 0).held
  have b := below_alloc v5 (.cells #[.bool false, .slice A5 n5 c5, .int .i64 0] 24)
  replace BB := bnx BB b
  have G := mv b rfl (J17 hT h1 h2 h3 N1 p7 p8 a0 a1 a2 e0 e1 e2 e3 e4 e5 h5)
  clear b hT h1 h2 h3 N1 p7 p8 a0 a1 a2 e0 e1 e2 e3 e4 e5 h5
  obtain ⟨hT, h1, h2, h3, N1, p7, p8, a0, a1, a2, e0, e1, e2, e3, e4, e5, h5⟩ := G
  have nn := nt_nil (v5.alloc (.cells #[.bool false, .slice A5 n5 c5, .int .i64 0] 24))
  go_wp2_with fail
  refine (dsame_self (s := false) (e := 0) h5 nn).mono ?_
  rintro en v7 ⟨rfl, b⟩
  clear z0 z1 z2 h5 nn
  replace BB := bnx BB b
  have G := mv b rfl (J16 hT h1 h2 h3 N1 p7 p8 a0 a1 a2 e0 e1 e2 e3 e4 e5)
  clear b hT h1 h2 h3 N1 p7 p8 a0 a1 a2 e0 e1 e2 e3 e4 e5
  obtain ⟨hT, h1, h2, h3, N1, p7, p8, a0, a1, a2, e0, e1, e2, e3, e4, e5⟩ := G
  obtain ⟨m5, hm5⟩ : ∃ m, m = mayI K x := ⟨_, rfl⟩
  have HM5 := Lib.hid hm5
  clear hm5
  go_wp2_with fail
  refine (show Calls _ _ _ _ (Bools m5 _) from by rw [HM5.out]; exact rmayi_any (x := x) HK.out h2 h3).mono ?_
  rintro en v8 ⟨rfl, b⟩
  replace BB := bnx BB b
  have G := mv b rfl (J16 hT h1 h2 h3 N1 p7 p8 a0 a1 a2 e0 e1 e2 e3 e4 e5)
  clear b hT h1 h2 h3 N1 p7 p8 a0 a1 a2 e0 e1 e2 e3 e4 e5
  obtain ⟨hT, h1, h2, h3, N1, p7, p8, a0, a1, a2, e0, e1, e2, e3, e4, e5⟩ := G
  cases m5
  ·go_wp2_with fail
   refine (eover_no (x := x) (p := p) HK.out hT h2 h3 (over_not HM5.out.symm) (by decide)).mono ?_
   rintro en v9 ⟨A6, n6, c6, A8, n8, c8, rfl, _, _, b⟩
   replace BB := bnx BB b
   have G := mv b rfl (J16 hT h1 h2 h3 N1 p7 p8 a0 a1 a2 e0 e1 e2 e3 e4 e5)
   clear b hT h1 h2 h3 N1 p7 p8 a0 a1 a2 e0 e1 e2 e3 e4 e5
   obtain ⟨hT, h1, h2, h3, N1, p7, p8, a0, a1, a2, e0, e1, e2, e3, e4, e5⟩ := G
   have b := below_alloc v9 (.cells #[.bool Iv.zero.lo.s, .slice A6 n6 c6, .int .i64 Iv.zero.lo.e, .bool Iv.zero.hi.s, .slice A8 n8 c8, .int .i64 Iv.zero.hi.e] 33)
   replace BB := bnx BB b
   have G := mv b rfl (J16 hT h1 h2 h3 N1 p7 p8 a0 a1 a2 e0 e1 e2 e3 e4 e5)
   clear b hT h1 h2 h3 N1 p7 p8 a0 a1 a2 e0 e1 e2 e3 e4 e5
   obtain ⟨hT, h1, h2, h3, N1, p7, p8, a0, a1, a2, e0, e1, e2, e3, e4, e5⟩ := G
   go_wp2_with fail
   refine (told7_any hT).mono ?_
   rintro en t9 ⟨rfl, b⟩
   replace BB := bnx BB b
   have G := mv b rfl (J16 hT h1 h2 h3 N1 p7 p8 a0 a1 a2 e0 e1 e2 e3 e4 e5)
   clear b hT h1 h2 h3 N1 p7 p8 a0 a1 a2 e0 e1 e2 e3 e4 e5
   obtain ⟨hT, h1, h2, h3, N1, p7, p8, a0, a1, a2, e0, e1, e2, e3, e4, e5⟩ := G
   go_wp2
   go_ret
   exact ⟨by first | rfl | simp, BB⟩
  go_wp2_with fail
  refine (told7_any hT).mono ?_
  rintro en t9 ⟨rfl, b⟩
  replace BB := bnx BB b
  have G := mv b rfl (J16 hT h1 h2 h3 N1 p7 p8 a0 a1 a2 e0 e1 e2 e3 e4 e5)
  clear b hT h1 h2 h3 N1 p7 p8 a0 a1 a2 e0 e1 e2 e3 e4 e5
  obtain ⟨hT, h1, h2, h3, N1, p7, p8, a0, a1, a2, e0, e1, e2, e3, e4, e5⟩ := G
  go_wp2
  go_ret
  exact ⟨by first | rfl | simp, BB⟩
 have HB : Hid (¬ (mayI K ⟨a, a⟩ = false ∨ p < 1 ∨ 300 < p)) := Lib.hid (fun h => by rcases h with h | h | h; rw [mayI_point HM.out.symm] at h; cases h; all_goals omega)
 obtain ⟨y0, y1, y2⟩ := p7.held
 obtain ⟨x0, x1, x2⟩ := p8.held
 obtain ⟨z, hz⟩ : ∃ z, z = cmpR K false a.l a.e false [1] 6 := ⟨_, rfl⟩
 have HZ := Lib.hid hz
 clear hz
 go_wp2_with fail
 refine (show Calls _ _ _ _ (Ints z _) from by rw [HZ.out]; exact rcmpd_raw HK.out h1 N1).mono ?_
 rintro en u2 ⟨rfl, b⟩
 replace BB := bnx BB b
 have G := mv b rfl (J22 hT h1 h2 h3 N1 p7 p8 a0 a1 a2 e0 e1 e2 e3 e4 e5 y0 y1 y2 x0 x1 x2)
 clear b hT h1 h2 h3 N1 p7 p8 a0 a1 a2 e0 e1 e2 e3 e4 e5 y0 y1 y2 x0 x1 x2
 obtain ⟨hT, h1, h2, h3, N1, p7, p8, a0, a1, a2, e0, e1, e2, e3, e4, e5, y0, y1, y2, x0, x1, x2⟩ := G
 clear y0 y1 y2 x0 x1 x2 p7 p8 N1
 by_cases hz : 0 < z
 ·have d7 : decide (z > (0 : Int)) = true := decide_eq_true hz
  have d8 : decide ((0 : Int) < z) = true := d7
  have HC : Hid (chk K ⟨a, a⟩ p = 4) := Lib.hid (chk_out HB.out ((abs_within HM.out.symm).1 (by rw [← HZ.out]; exact hz)))
  go_wp2_with fail
  refine (eexp_no (up := true) HK.out hT h1 HN.out HC.out (by decide)).mono ?_
  rintro en v5 ⟨A5, n5, c5, rfl, h5, b⟩
  replace BB := bnx BB b
  have G := mv b rfl (J13 hT h1 h2 h3 a0 a1 a2 e0 e1 e2 e3 e4 e5)
  clear b hT h1 h2 h3 a0 a1 a2 e0 e1 e2 e3 e4 e5
  obtain ⟨hT, h1, h2, h3, a0, a1, a2, e0, e1, e2, e3, e4, e5⟩ := G
  obtain ⟨z0, z1, z2⟩ := (Box.new v5 false A5 n5 c5 0).held
  have b := below_alloc v5 (.cells #[.bool false, .slice A5 n5 c5, .int .i64 0] 24)
  replace BB := bnx BB b
  have G := mv b rfl (J14 hT h1 h2 h3 a0 a1 a2 e0 e1 e2 e3 e4 e5 h5)
  clear b hT h1 h2 h3 a0 a1 a2 e0 e1 e2 e3 e4 e5 h5
  obtain ⟨hT, h1, h2, h3, a0, a1, a2, e0, e1, e2, e3, e4, e5, h5⟩ := G
  have nn := nt_nil (v5.alloc (.cells #[.bool false, .slice A5 n5 c5, .int .i64 0] 24))
  go_wp2_with fail
  refine (dsame_self (s := false) (e := 0) h5 nn).mono ?_
  rintro en v7 ⟨rfl, b⟩
  clear z0 z1 z2 h5 nn
  replace BB := bnx BB b
  have G := mv b rfl (J13 hT h1 h2 h3 a0 a1 a2 e0 e1 e2 e3 e4 e5)
  clear b hT h1 h2 h3 a0 a1 a2 e0 e1 e2 e3 e4 e5
  obtain ⟨hT, h1, h2, h3, a0, a1, a2, e0, e1, e2, e3, e4, e5⟩ := G
  obtain ⟨m5, hm5⟩ : ∃ m, m = mayI K x := ⟨_, rfl⟩
  have HM5 := Lib.hid hm5
  clear hm5
  go_wp2_with fail
  refine (show Calls _ _ _ _ (Bools m5 _) from by rw [HM5.out]; exact rmayi_any (x := x) HK.out h2 h3).mono ?_
  rintro en v8 ⟨rfl, b⟩
  replace BB := bnx BB b
  have G := mv b rfl (J13 hT h1 h2 h3 a0 a1 a2 e0 e1 e2 e3 e4 e5)
  clear b hT h1 h2 h3 a0 a1 a2 e0 e1 e2 e3 e4 e5
  obtain ⟨hT, h1, h2, h3, a0, a1, a2, e0, e1, e2, e3, e4, e5⟩ := G
  cases m5
  ·go_wp2_with fail
   refine (eover_no (x := x) (p := p) HK.out hT h2 h3 (over_not HM5.out.symm) (by decide)).mono ?_
   rintro en v9 ⟨A6, n6, c6, A8, n8, c8, rfl, _, _, b⟩
   replace BB := bnx BB b
   have G := mv b rfl (J13 hT h1 h2 h3 a0 a1 a2 e0 e1 e2 e3 e4 e5)
   clear b hT h1 h2 h3 a0 a1 a2 e0 e1 e2 e3 e4 e5
   obtain ⟨hT, h1, h2, h3, a0, a1, a2, e0, e1, e2, e3, e4, e5⟩ := G
   have b := below_alloc v9 (.cells #[.bool Iv.zero.lo.s, .slice A6 n6 c6, .int .i64 Iv.zero.lo.e, .bool Iv.zero.hi.s, .slice A8 n8 c8, .int .i64 Iv.zero.hi.e] 33)
   replace BB := bnx BB b
   have G := mv b rfl (J13 hT h1 h2 h3 a0 a1 a2 e0 e1 e2 e3 e4 e5)
   clear b hT h1 h2 h3 a0 a1 a2 e0 e1 e2 e3 e4 e5
   obtain ⟨hT, h1, h2, h3, a0, a1, a2, e0, e1, e2, e3, e4, e5⟩ := G
   go_wp2_with fail
   refine (told7_any hT).mono ?_
   rintro en t9 ⟨rfl, b⟩
   replace BB := bnx BB b
   have G := mv b rfl (J13 hT h1 h2 h3 a0 a1 a2 e0 e1 e2 e3 e4 e5)
   clear b hT h1 h2 h3 a0 a1 a2 e0 e1 e2 e3 e4 e5
   obtain ⟨hT, h1, h2, h3, a0, a1, a2, e0, e1, e2, e3, e4, e5⟩ := G
   go_wp2
   go_ret
   exact ⟨by first | rfl | simp, BB⟩
  go_wp2_with fail
  refine (told7_any hT).mono ?_
  rintro en t9 ⟨rfl, b⟩
  replace BB := bnx BB b
  have G := mv b rfl (J13 hT h1 h2 h3 a0 a1 a2 e0 e1 e2 e3 e4 e5)
  clear b hT h1 h2 h3 a0 a1 a2 e0 e1 e2 e3 e4 e5
  obtain ⟨hT, h1, h2, h3, a0, a1, a2, e0, e1, e2, e3, e4, e5⟩ := G
  go_wp2
  go_ret
  exact ⟨by first | rfl | simp, BB⟩
 have d7 : decide (z > (0 : Int)) = false := decide_eq_false hz
 have d8 : decide ((0 : Int) < z) = false := d7
 have HW : Hid (¬ withinI K ⟨a, a⟩ d64 = false) := Lib.hid (fun h => hz (by rw [HZ.out]; exact (abs_within HM.out.symm).2 h))
 by_cases he : a.e < -400
 ·have d9 : decide (a.e < (-400 : Int)) = true := decide_eq_true he
  have HC : Hid (chk K ⟨a, a⟩ p = 2) := Lib.hid (chk_fine HB.out HW.out (.inl he))
  go_wp2_with fail
  refine (eexp_no (up := true) HK.out hT h1 HN.out HC.out (by decide)).mono ?_
  rintro en v5 ⟨A5, n5, c5, rfl, h5, b⟩
  replace BB := bnx BB b
  have G := mv b rfl (J13 hT h1 h2 h3 a0 a1 a2 e0 e1 e2 e3 e4 e5)
  clear b hT h1 h2 h3 a0 a1 a2 e0 e1 e2 e3 e4 e5
  obtain ⟨hT, h1, h2, h3, a0, a1, a2, e0, e1, e2, e3, e4, e5⟩ := G
  obtain ⟨z0, z1, z2⟩ := (Box.new v5 false A5 n5 c5 0).held
  have b := below_alloc v5 (.cells #[.bool false, .slice A5 n5 c5, .int .i64 0] 24)
  replace BB := bnx BB b
  have G := mv b rfl (J14 hT h1 h2 h3 a0 a1 a2 e0 e1 e2 e3 e4 e5 h5)
  clear b hT h1 h2 h3 a0 a1 a2 e0 e1 e2 e3 e4 e5 h5
  obtain ⟨hT, h1, h2, h3, a0, a1, a2, e0, e1, e2, e3, e4, e5, h5⟩ := G
  have nn := nt_nil (v5.alloc (.cells #[.bool false, .slice A5 n5 c5, .int .i64 0] 24))
  go_wp2_with fail
  refine (dsame_self (s := false) (e := 0) h5 nn).mono ?_
  rintro en v7 ⟨rfl, b⟩
  clear z0 z1 z2 h5 nn
  replace BB := bnx BB b
  have G := mv b rfl (J13 hT h1 h2 h3 a0 a1 a2 e0 e1 e2 e3 e4 e5)
  clear b hT h1 h2 h3 a0 a1 a2 e0 e1 e2 e3 e4 e5
  obtain ⟨hT, h1, h2, h3, a0, a1, a2, e0, e1, e2, e3, e4, e5⟩ := G
  obtain ⟨m5, hm5⟩ : ∃ m, m = mayI K x := ⟨_, rfl⟩
  have HM5 := Lib.hid hm5
  clear hm5
  go_wp2_with fail
  refine (show Calls _ _ _ _ (Bools m5 _) from by rw [HM5.out]; exact rmayi_any (x := x) HK.out h2 h3).mono ?_
  rintro en v8 ⟨rfl, b⟩
  replace BB := bnx BB b
  have G := mv b rfl (J13 hT h1 h2 h3 a0 a1 a2 e0 e1 e2 e3 e4 e5)
  clear b hT h1 h2 h3 a0 a1 a2 e0 e1 e2 e3 e4 e5
  obtain ⟨hT, h1, h2, h3, a0, a1, a2, e0, e1, e2, e3, e4, e5⟩ := G
  cases m5
  ·go_wp2_with fail
   refine (eover_no (x := x) (p := p) HK.out hT h2 h3 (over_not HM5.out.symm) (by decide)).mono ?_
   rintro en v9 ⟨A6, n6, c6, A8, n8, c8, rfl, _, _, b⟩
   replace BB := bnx BB b
   have G := mv b rfl (J13 hT h1 h2 h3 a0 a1 a2 e0 e1 e2 e3 e4 e5)
   clear b hT h1 h2 h3 a0 a1 a2 e0 e1 e2 e3 e4 e5
   obtain ⟨hT, h1, h2, h3, a0, a1, a2, e0, e1, e2, e3, e4, e5⟩ := G
   have b := below_alloc v9 (.cells #[.bool Iv.zero.lo.s, .slice A6 n6 c6, .int .i64 Iv.zero.lo.e, .bool Iv.zero.hi.s, .slice A8 n8 c8, .int .i64 Iv.zero.hi.e] 33)
   replace BB := bnx BB b
   have G := mv b rfl (J13 hT h1 h2 h3 a0 a1 a2 e0 e1 e2 e3 e4 e5)
   clear b hT h1 h2 h3 a0 a1 a2 e0 e1 e2 e3 e4 e5
   obtain ⟨hT, h1, h2, h3, a0, a1, a2, e0, e1, e2, e3, e4, e5⟩ := G
   go_wp2_with fail
   refine (told7_any hT).mono ?_
   rintro en t9 ⟨rfl, b⟩
   replace BB := bnx BB b
   have G := mv b rfl (J13 hT h1 h2 h3 a0 a1 a2 e0 e1 e2 e3 e4 e5)
   clear b hT h1 h2 h3 a0 a1 a2 e0 e1 e2 e3 e4 e5
   obtain ⟨hT, h1, h2, h3, a0, a1, a2, e0, e1, e2, e3, e4, e5⟩ := G
   go_wp2
   go_ret
   exact ⟨by first | rfl | simp, BB⟩
  go_wp2_with fail
  refine (told7_any hT).mono ?_
  rintro en t9 ⟨rfl, b⟩
  replace BB := bnx BB b
  have G := mv b rfl (J13 hT h1 h2 h3 a0 a1 a2 e0 e1 e2 e3 e4 e5)
  clear b hT h1 h2 h3 a0 a1 a2 e0 e1 e2 e3 e4 e5
  obtain ⟨hT, h1, h2, h3, a0, a1, a2, e0, e1, e2, e3, e4, e5⟩ := G
  go_wp2
  go_ret
  exact ⟨by first | rfl | simp, BB⟩
 have d9 : decide (a.e < (-400 : Int)) = false := decide_eq_false he
 go_wp2_with fail
 refine (told7_any hT).mono ?_
 rintro en t9 ⟨rfl, b⟩
 replace BB := bnx BB b
 have G := mv b rfl (J13 hT h1 h2 h3 a0 a1 a2 e0 e1 e2 e3 e4 e5)
 clear b hT h1 h2 h3 a0 a1 a2 e0 e1 e2 e3 e4 e5
 obtain ⟨hT, h1, h2, h3, a0, a1, a2, e0, e1, e2, e3, e4, e5⟩ := G
 go_wp2
 go_ret
 exact ⟨by first | rfl | simp, BB⟩

end Go.Proofs.YtldbafifgkobcaaGreatDoor
