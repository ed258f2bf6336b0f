/-
  Contract of the statement ArithGrows's function at this translation: it returns true, whatever its arguments. Condition: the slices read as limbs, the table of math/bits reads as its text lays it.
-/
import Derived.Test.YtcbkhmejlaaieaaGreatDoorLs
namespace Go.Proofs.YtcbkhmejlaaieaaGreatDoor
open Go.RowKit


set_option maxRecDepth 100000 in
set_option maxHeartbeats 8000000 in
theorem arithgrows_any {w : World} {x y u v : Iv} {A1 : Option Addr} {n1 c1 : Nat} {A2 : Option Addr} {n2 c2 : Nat} {A3 : Option Addr} {n3 c3 : Nat} {A4 : Option Addr} {n4 c4 : Nat} {A5 : Option Addr} {n5 c5 : Nat} {A6 : Option Addr} {n6 c6 : Nat} {A7 : Option Addr} {n7 c7 : Nat} {A8 : Option Addr} {n8 c8 : Nat} {p p2 : Int} (hT : Tab w) (h1 : Rd w .u64 Go.Proofs.YtcbkhmejlaaieaaGreatDoor.W A1 n1 c1 x.lo.l) (h2 : Rd w .u64 Go.Proofs.YtcbkhmejlaaieaaGreatDoor.W A2 n2 c2 x.hi.l) (h3 : Rd w .u64 Go.Proofs.YtcbkhmejlaaieaaGreatDoor.W A3 n3 c3 y.lo.l) (h4 : Rd w .u64 Go.Proofs.YtcbkhmejlaaieaaGreatDoor.W A4 n4 c4 y.hi.l) (h5 : Rd w .u64 Go.Proofs.YtcbkhmejlaaieaaGreatDoor.W A5 n5 c5 u.lo.l) (h6 : Rd w .u64 Go.Proofs.YtcbkhmejlaaieaaGreatDoor.W A6 n6 c6 u.hi.l) (h7 : Rd w .u64 Go.Proofs.YtcbkhmejlaaieaaGreatDoor.W A7 n7 c7 v.lo.l) (h8 : Rd w .u64 Go.Proofs.YtcbkhmejlaaieaaGreatDoor.W A8 n8 c8 v.hi.l) :
    Calls Tryz.prog 5 #[.agg #[.bool x.lo.s, .slice A1 n1 c1, .int .i64 x.lo.e, .bool x.hi.s, .slice A2 n2 c2, .int .i64 x.hi.e], .agg #[.bool y.lo.s, .slice A3 n3 c3, .int .i64 y.lo.e, .bool y.hi.s, .slice A4 n4 c4, .int .i64 y.hi.e], .agg #[.bool u.lo.s, .slice A5 n5 c5, .int .i64 u.lo.e, .bool u.hi.s, .slice A6 n6 c6, .int .i64 u.hi.e], .agg #[.bool v.lo.s, .slice A7 n7 c7, .int .i64 v.lo.e, .bool v.hi.s, .slice A8 n8 c8, .int .i64 v.hi.e], .int .i64 p, .int .i64 p2] w fun en w' => ToldEnd w en w' := by
  obtain ⟨S⟩ := sc_has
  have h1_o := h1
  have h2_o := h2
  have h3_o := h3
  have h4_o := h4
  have h5_o := h5
  have h6_o := h6
  have h7_o := h7
  have h8_o := h8
  have hT_o := hT
  have y1 : n1 ≤ 9223372036854775807 := Nat.le_trans h1.cap h1.max
  have y2 : n2 ≤ 9223372036854775807 := Nat.le_trans h2.cap h2.max
  have y3 : n3 ≤ 9223372036854775807 := Nat.le_trans h3.cap h3.max
  have y4 : n4 ≤ 9223372036854775807 := Nat.le_trans h4.cap h4.max
  have y5 : n5 ≤ 9223372036854775807 := Nat.le_trans h5.cap h5.max
  have y6 : n6 ≤ 9223372036854775807 := Nat.le_trans h6.cap h6.max
  have y7 : n7 ≤ 9223372036854775807 := Nat.le_trans h7.cap h7.max
  have y8 : n8 ≤ 9223372036854775807 := Nat.le_trans h8.cap h8.max
  obtain ⟨b2, xa, xb⟩ := two_ivl w (x := x) (y := y) (A1 := A1) (n1 := n1) (c1 := c1) (A2 := A2) (n2 := n2) (c2 := c2) (A3 := A3) (n3 := n3) (c3 := c3) (A4 := A4) (n4 := n4) (c4 := c4)
  obtain ⟨b4, xu, xv⟩ := two_ivl ((w.alloc (.cells #[.bool x.lo.s, .slice A1 n1 c1, .int .i64 x.lo.e, .bool x.hi.s, .slice A2 n2 c2, .int .i64 x.hi.e] 26)).alloc (.cells #[.bool y.lo.s, .slice A3 n3 c3, .int .i64 y.lo.e, .bool y.hi.s, .slice A4 n4 c4, .int .i64 y.hi.e] 26)) (x := u) (y := v) (A1 := A5) (n1 := n5) (c1 := c5) (A2 := A6) (n2 := n6) (c2 := c6) (A3 := A7) (n3 := n7) (c3 := c7) (A4 := A8) (n4 := n8) (c4 := c8)
  have BB := below_next b2 b2.size b4 rfl rfl rfl rfl
  replace xa := (xa.alloc (.cells #[.bool u.lo.s, .slice A5 n5 c5, .int .i64 u.lo.e, .bool u.hi.s, .slice A6 n6 c6, .int .i64 u.hi.e] 26)).alloc (.cells #[.bool v.lo.s, .slice A7 n7 c7, .int .i64 v.lo.e, .bool v.hi.s, .slice A8 n8 c8, .int .i64 v.hi.e] 26)
  replace xb := (xb.alloc (.cells #[.bool u.lo.s, .slice A5 n5 c5, .int .i64 u.lo.e, .bool u.hi.s, .slice A6 n6 c6, .int .i64 u.hi.e] 26)).alloc (.cells #[.bool v.lo.s, .slice A7 n7 c7, .int .i64 v.lo.e, .bool v.hi.s, .slice A8 n8 c8, .int .i64 v.hi.e] 26)
  have e2 : ((w.alloc (.cells #[.bool x.lo.s, .slice A1 n1 c1, .int .i64 x.lo.e, .bool x.hi.s, .slice A2 n2 c2, .int .i64 x.hi.e] 26)).alloc (.cells #[.bool y.lo.s, .slice A3 n3 c3, .int .i64 y.lo.e, .bool y.hi.s, .slice A4 n4 c4, .int .i64 y.hi.e] 26)).heap.size = w.heap.size + 2 := by simp
  rw [e2] at xu xv
  replace xv : Ibx _ (w.heap.size + 3) v.lo.s A7 n7 c7 v.lo.e v.hi.s A8 n8 c8 v.hi.e := xv
  clear e2 b2 b4
  obtain ⟨a0, a1, a2, a3, a4, a5⟩ := xa.held
  obtain ⟨e0, e1, e2, e3, e4, e5⟩ := xb.held
  obtain ⟨f0, f1, f2, f3, f4, f5⟩ := xu.held
  obtain ⟨i0, i1, i2, i3, i4, i5⟩ := xv.held
  clear xa xb xu xv
  have G := mv BB rfl (J9 hT h1 h2 h3 h4 h5 h6 h7 h8)
  clear hT h1 h2 h3 h4 h5 h6 h7 h8
  obtain ⟨hT, h1, h2, h3, h4, h5, h6, h7, h8⟩ := G
  obtain ⟨rn, hrn⟩ := Int.eq_ofNat_of_zero_le (show 0 ≤ IntKind.u64.wrap p by rw [IntKind.wrap_u64]; omega)
  obtain ⟨qn, hqn⟩ : ∃ q, q = rn % 200 := ⟨_, rfl⟩
  obtain ⟨n, hnn⟩ : ∃ n, n = 1 + qn := ⟨_, rfl⟩
  have uun : (rn : Int) % 200 = (qn : Int) := by omega
  have uvn : (1 : Int) + (qn : Int) = (n : Int) := by omega
  have uwn : (0 : Int) ≤ (rn : Int) := by omega
  have uxn : (qn : Int) ≤ 200 := by omega
  have nlo : 1 ≤ n := by omega
  have nhi : n ≤ 200 := by omega
  have uyn : (n : Int) ≤ 200 := by omega
  clear hqn hnn
  obtain ⟨rm, hrm⟩ := Int.eq_ofNat_of_zero_le (show 0 ≤ IntKind.u64.wrap p2 by rw [IntKind.wrap_u64]; omega)
  have hnw : IntKind.u64.wrap (n : Int) = (n : Int) := by rw [IntKind.wrap_u64]; omega
  obtain ⟨qm, hqm⟩ : ∃ x, x = rm % n := ⟨_, rfl⟩
  have hlt := Nat.mod_lt rm (show 0 < n by omega)
  obtain ⟨m, hm⟩ : ∃ x, x = 1 + qm := ⟨_, rfl⟩
  have uum : (rm : Int) % (n : Int) = (qm : Int) := by rw [hqm]; first | exact (Int.natCast_emod rm n).symm | exact (Int.ofNat_emod rm n).symm
  have uvm : (1 : Int) + (qm : Int) = (m : Int) := by omega
  have uwm : (0 : Int) ≤ (rm : Int) := by omega
  have uxm : (qm : Int) ≤ 400 := by omega
  have mlo : 1 ≤ m := by omega
  have mhi : m ≤ n := by omega
  have uym : (m : Int) ≤ 400 := by omega
  have nz : (n : Int) ≠ 0 := by omega
  clear hqm hm hlt
  have HPR := Lib.hid (show 1 ≤ (n : Int) ∧ (n : Int) ≤ 2000 from by omega)
  have HQR := Lib.hid (show 1 ≤ (m : Int) ∧ (m : Int) ≤ (n : Int) from by omega)
  go_enter Tryz.func5, Tryz.ntmps5
  go_wp2_with fail
  refine (few5_any (x := x) y1 y2).mono ?_
  rintro en w1 ⟨rfl, b⟩
  replace BB := bnx BB b rfl rfl rfl rfl
  have G := mv b rfl (J33 a0 a1 a2 a3 a4 a5 e0 e1 e2 e3 e4 e5 f0 f1 f2 f3 f4 f5 i0 i1 i2 i3 i4 i5 hT h1 h2 h3 h4 h5 h6 h7 h8)
  clear b a0 a1 a2 a3 a4 a5 e0 e1 e2 e3 e4 e5 f0 f1 f2 f3 f4 f5 i0 i1 i2 i3 i4 i5 hT h1 h2 h3 h4 h5 h6 h7 h8
  obtain ⟨a0, a1, a2, a3, a4, a5, e0, e1, e2, e3, e4, e5, f0, f1, f2, f3, f4, f5, i0, i1, i2, i3, i4, i5, hT, h1, h2, h3, h4, h5, h6, h7, h8⟩ := G
  cases f1 : (decide (n1 ≤ 70) && decide (n2 ≤ 70))
  · clear f1
    go_wp2_with fail
    refine (told6_any hT).mono ?_
    rintro en w99 ⟨rfl, b⟩
    replace BB := bnx BB b rfl rfl rfl rfl
    clear b
    go_wp2
    go_ret
    exact ⟨by first | rfl | simp, BB⟩
  clear f1
  go_wp2_with fail
  refine (few5_any (x := y) y3 y4).mono ?_
  rintro en w2 ⟨rfl, b⟩
  replace BB := bnx BB b rfl rfl rfl rfl
  have G := mv b rfl (J33 a0 a1 a2 a3 a4 a5 e0 e1 e2 e3 e4 e5 f0 f1 f2 f3 f4 f5 i0 i1 i2 i3 i4 i5 hT h1 h2 h3 h4 h5 h6 h7 h8)
  clear b a0 a1 a2 a3 a4 a5 e0 e1 e2 e3 e4 e5 f0 f1 f2 f3 f4 f5 i0 i1 i2 i3 i4 i5 hT h1 h2 h3 h4 h5 h6 h7 h8
  obtain ⟨a0, a1, a2, a3, a4, a5, e0, e1, e2, e3, e4, e5, f0, f1, f2, f3, f4, f5, i0, i1, i2, i3, i4, i5, hT, h1, h2, h3, h4, h5, h6, h7, h8⟩ := G
  cases f1 : (decide (n3 ≤ 70) && decide (n4 ≤ 70))
  · clear f1
    go_wp2_with fail
    refine (told6_any hT).mono ?_
    rintro en w99 ⟨rfl, b⟩
    replace BB := bnx BB b rfl rfl rfl rfl
    clear b
    go_wp2
    go_ret
    exact ⟨by first | rfl | simp, BB⟩
  clear f1
  go_wp2_with fail
  refine (few5_any (x := u) y5 y6).mono ?_
  rintro en w3 ⟨rfl, b⟩
  replace BB := bnx BB b rfl rfl rfl rfl
  have G := mv b rfl (J33 a0 a1 a2 a3 a4 a5 e0 e1 e2 e3 e4 e5 f0 f1 f2 f3 f4 f5 i0 i1 i2 i3 i4 i5 hT h1 h2 h3 h4 h5 h6 h7 h8)
  clear b a0 a1 a2 a3 a4 a5 e0 e1 e2 e3 e4 e5 f0 f1 f2 f3 f4 f5 i0 i1 i2 i3 i4 i5 hT h1 h2 h3 h4 h5 h6 h7 h8
  obtain ⟨a0, a1, a2, a3, a4, a5, e0, e1, e2, e3, e4, e5, f0, f1, f2, f3, f4, f5, i0, i1, i2, i3, i4, i5, hT, h1, h2, h3, h4, h5, h6, h7, h8⟩ := G
  cases f1 : (decide (n5 ≤ 70) && decide (n6 ≤ 70))
  · clear f1
    go_wp2_with fail
    refine (told6_any hT).mono ?_
    rintro en w99 ⟨rfl, b⟩
    replace BB := bnx BB b rfl rfl rfl rfl
    clear b
    go_wp2
    go_ret
    exact ⟨by first | rfl | simp, BB⟩
  clear f1
  go_wp2_with fail
  refine (few5_any (x := v) y7 y8).mono ?_
  rintro en w4 ⟨rfl, b⟩
  replace BB := bnx BB b rfl rfl rfl rfl
  have G := mv b rfl (J33 a0 a1 a2 a3 a4 a5 e0 e1 e2 e3 e4 e5 f0 f1 f2 f3 f4 f5 i0 i1 i2 i3 i4 i5 hT h1 h2 h3 h4 h5 h6 h7 h8)
  clear b a0 a1 a2 a3 a4 a5 e0 e1 e2 e3 e4 e5 f0 f1 f2 f3 f4 f5 i0 i1 i2 i3 i4 i5 hT h1 h2 h3 h4 h5 h6 h7 h8
  obtain ⟨a0, a1, a2, a3, a4, a5, e0, e1, e2, e3, e4, e5, f0, f1, f2, f3, f4, f5, i0, i1, i2, i3, i4, i5, hT, h1, h2, h3, h4, h5, h6, h7, h8⟩ := G
  cases f1 : (decide (n7 ≤ 70) && decide (n8 ≤ 70))
  · clear f1
    go_wp2_with fail
    refine (told6_any hT).mono ?_
    rintro en w99 ⟨rfl, b⟩
    replace BB := bnx BB b rfl rfl rfl rfl
    clear b
    go_wp2
    go_ret
    exact ⟨by first | rfl | simp, BB⟩
  clear f1
  clear y1 y2 y3 y4 y5 y6 y7 y8
  go_wp2_with fail
  refine (imay_any (K := S.K) (x := x) S.big hT h1 h2).mono ?_
  rintro en w5 ⟨rfl, b⟩
  replace BB := bnx BB b rfl rfl rfl rfl
  have G := mv b rfl (J33 a0 a1 a2 a3 a4 a5 e0 e1 e2 e3 e4 e5 f0 f1 f2 f3 f4 f5 i0 i1 i2 i3 i4 i5 hT h1 h2 h3 h4 h5 h6 h7 h8)
  clear b a0 a1 a2 a3 a4 a5 e0 e1 e2 e3 e4 e5 f0 f1 f2 f3 f4 f5 i0 i1 i2 i3 i4 i5 hT h1 h2 h3 h4 h5 h6 h7 h8
  obtain ⟨a0, a1, a2, a3, a4, a5, e0, e1, e2, e3, e4, e5, f0, f1, f2, f3, f4, f5, i0, i1, i2, i3, i4, i5, hT, h1, h2, h3, h4, h5, h6, h7, h8⟩ := G
  cases hm : mayI S.K x
  · clear hm
    go_wp2_with fail
    refine (told6_any hT).mono ?_
    rintro en w99 ⟨rfl, b⟩
    replace BB := bnx BB b rfl rfl rfl rfl
    clear b
    go_wp2
    go_ret
    exact ⟨by first | rfl | simp, BB⟩
  have HMx := Lib.hid hm
  clear hm
  go_wp2_with fail
  refine (imay_any (K := S.K) (x := y) S.big hT h3 h4).mono ?_
  rintro en w6 ⟨rfl, b⟩
  replace BB := bnx BB b rfl rfl rfl rfl
  have G := mv b rfl (J33 a0 a1 a2 a3 a4 a5 e0 e1 e2 e3 e4 e5 f0 f1 f2 f3 f4 f5 i0 i1 i2 i3 i4 i5 hT h1 h2 h3 h4 h5 h6 h7 h8)
  clear b a0 a1 a2 a3 a4 a5 e0 e1 e2 e3 e4 e5 f0 f1 f2 f3 f4 f5 i0 i1 i2 i3 i4 i5 hT h1 h2 h3 h4 h5 h6 h7 h8
  obtain ⟨a0, a1, a2, a3, a4, a5, e0, e1, e2, e3, e4, e5, f0, f1, f2, f3, f4, f5, i0, i1, i2, i3, i4, i5, hT, h1, h2, h3, h4, h5, h6, h7, h8⟩ := G
  cases hm : mayI S.K y
  · clear hm
    go_wp2_with fail
    refine (told6_any hT).mono ?_
    rintro en w99 ⟨rfl, b⟩
    replace BB := bnx BB b rfl rfl rfl rfl
    clear b
    go_wp2
    go_ret
    exact ⟨by first | rfl | simp, BB⟩
  have HMy := Lib.hid hm
  clear hm
  go_wp2_with fail
  refine (imay_any (K := S.K) (x := u) S.big hT h5 h6).mono ?_
  rintro en w7 ⟨rfl, b⟩
  replace BB := bnx BB b rfl rfl rfl rfl
  have G := mv b rfl (J33 a0 a1 a2 a3 a4 a5 e0 e1 e2 e3 e4 e5 f0 f1 f2 f3 f4 f5 i0 i1 i2 i3 i4 i5 hT h1 h2 h3 h4 h5 h6 h7 h8)
  clear b a0 a1 a2 a3 a4 a5 e0 e1 e2 e3 e4 e5 f0 f1 f2 f3 f4 f5 i0 i1 i2 i3 i4 i5 hT h1 h2 h3 h4 h5 h6 h7 h8
  obtain ⟨a0, a1, a2, a3, a4, a5, e0, e1, e2, e3, e4, e5, f0, f1, f2, f3, f4, f5, i0, i1, i2, i3, i4, i5, hT, h1, h2, h3, h4, h5, h6, h7, h8⟩ := G
  cases hm : mayI S.K u
  · clear hm
    go_wp2_with fail
    refine (told6_any hT).mono ?_
    rintro en w99 ⟨rfl, b⟩
    replace BB := bnx BB b rfl rfl rfl rfl
    clear b
    go_wp2
    go_ret
    exact ⟨by first | rfl | simp, BB⟩
  have HMu := Lib.hid hm
  clear hm
  go_wp2_with fail
  refine (imay_any (K := S.K) (x := v) S.big hT h7 h8).mono ?_
  rintro en w8 ⟨rfl, b⟩
  replace BB := bnx BB b rfl rfl rfl rfl
  have G := mv b rfl (J33 a0 a1 a2 a3 a4 a5 e0 e1 e2 e3 e4 e5 f0 f1 f2 f3 f4 f5 i0 i1 i2 i3 i4 i5 hT h1 h2 h3 h4 h5 h6 h7 h8)
  clear b a0 a1 a2 a3 a4 a5 e0 e1 e2 e3 e4 e5 f0 f1 f2 f3 f4 f5 i0 i1 i2 i3 i4 i5 hT h1 h2 h3 h4 h5 h6 h7 h8
  obtain ⟨a0, a1, a2, a3, a4, a5, e0, e1, e2, e3, e4, e5, f0, f1, f2, f3, f4, f5, i0, i1, i2, i3, i4, i5, hT, h1, h2, h3, h4, h5, h6, h7, h8⟩ := G
  cases hm : mayI S.K v
  · clear hm
    go_wp2_with fail
    refine (told6_any hT).mono ?_
    rintro en w99 ⟨rfl, b⟩
    replace BB := bnx BB b rfl rfl rfl rfl
    clear b
    go_wp2
    go_ret
    exact ⟨by first | rfl | simp, BB⟩
  have HMv := Lib.hid hm
  clear hm
  obtain ⟨X, hX⟩ : ∃ z, z = hullQ S.K x u := ⟨_, rfl⟩
  have HX := Lib.hid hX
  have HWX : Hid (withinI S.K x X = true) := Lib.hid (by rw [hX]; exact (hull_ok HMx.out HMu.out).2.1)
  clear hX
  obtain ⟨Y, hY⟩ : ∃ z, z = hullQ S.K y v := ⟨_, rfl⟩
  have HY := Lib.hid hY
  have HWY : Hid (withinI S.K y Y = true) := Lib.hid (by rw [hY]; exact (hull_ok HMy.out HMv.out).2.1)
  clear hY
  go_wp2_with fail
  refine (show Calls _ _ _ _ (TellI 0 X _) from by rw [HX.out]; exact ihull_ok (K := S.K) S.big hT h1 h2 h5 h6 HMx.out HMu.out).mono ?_
  rintro en g10_ ⟨A10, n10, c10, A11, n11, c11, rfl, h10, h11, b⟩
  replace BB := bnx BB b rfl rfl rfl rfl
  have G := mv b rfl (J33 a0 a1 a2 a3 a4 a5 e0 e1 e2 e3 e4 e5 f0 f1 f2 f3 f4 f5 i0 i1 i2 i3 i4 i5 hT h1 h2 h3 h4 h5 h6 h7 h8)
  clear b a0 a1 a2 a3 a4 a5 e0 e1 e2 e3 e4 e5 f0 f1 f2 f3 f4 f5 i0 i1 i2 i3 i4 i5 hT h1 h2 h3 h4 h5 h6 h7 h8
  obtain ⟨a0, a1, a2, a3, a4, a5, e0, e1, e2, e3, e4, e5, f0, f1, f2, f3, f4, f5, i0, i1, i2, i3, i4, i5, hT, h1, h2, h3, h4, h5, h6, h7, h8⟩ := G
  obtain ⟨r0, r1, r2, r3, r4, r5⟩ := (Ibx.new g10_ X.lo.s A10 n10 c10 X.lo.e X.hi.s A11 n11 c11 X.hi.e).held
  have lX := Lib.hid (show w.heap.size + 3 < g10_.heap.size from World.block_lt_of_cell? _ _ i0)
  have b := below_alloc g10_ (.cells #[.bool X.lo.s, .slice A10 n10 c10, .int .i64 X.lo.e, .bool X.hi.s, .slice A11 n11 c11, .int .i64 X.hi.e] 26)
  replace BB := bnx BB b rfl rfl rfl rfl
  have G := mv b rfl (J35 a0 a1 a2 a3 a4 a5 e0 e1 e2 e3 e4 e5 f0 f1 f2 f3 f4 f5 i0 i1 i2 i3 i4 i5 hT h1 h2 h3 h4 h5 h6 h7 h8 h10 h11)
  clear b a0 a1 a2 a3 a4 a5 e0 e1 e2 e3 e4 e5 f0 f1 f2 f3 f4 f5 i0 i1 i2 i3 i4 i5 hT h1 h2 h3 h4 h5 h6 h7 h8 h10 h11
  obtain ⟨a0, a1, a2, a3, a4, a5, e0, e1, e2, e3, e4, e5, f0, f1, f2, f3, f4, f5, i0, i1, i2, i3, i4, i5, hT, h1, h2, h3, h4, h5, h6, h7, h8, h10, h11⟩ := G
  go_wp2_with fail
  refine (show Calls _ _ _ _ (TellI 0 Y _) from by rw [HY.out]; exact ihull_ok (K := S.K) S.big hT h3 h4 h7 h8 HMy.out HMv.out).mono ?_
  rintro en g12_ ⟨A12, n12, c12, A13, n13, c13, rfl, h12, h13, b⟩
  replace BB := bnx BB b rfl rfl rfl rfl
  have G := mv b rfl (J30 a0 a1 a2 a3 a4 a5 e0 e1 e2 e3 e4 e5 f0 f1 f2 f3 f4 f5 i0 i1 i2 i3 i4 i5 hT h1 h2 h3 h4 h5)
  clear a0 a1 a2 a3 a4 a5 e0 e1 e2 e3 e4 e5 f0 f1 f2 f3 f4 f5 i0 i1 i2 i3 i4 i5 hT h1 h2 h3 h4 h5
  obtain ⟨a0, a1, a2, a3, a4, a5, e0, e1, e2, e3, e4, e5, f0, f1, f2, f3, f4, f5, i0, i1, i2, i3, i4, i5, hT, h1, h2, h3, h4, h5⟩ := G
  have G := mv b rfl (J11 h6 h7 h8 h10 h11 r0 r1 r2 r3 r4 r5)
  clear h6 h7 h8 h10 h11 r0 r1 r2 r3 r4 r5
  obtain ⟨h6, h7, h8, h10, h11, r0, r1, r2, r3, r4, r5⟩ := G
  clear b
  obtain ⟨s0, s1, s2, s3, s4, s5⟩ := (Ibx.new g12_ Y.lo.s A12 n12 c12 Y.lo.e Y.hi.s A13 n13 c13 Y.hi.e).held
  have lY := Lib.hid (show w.heap.size + 3 < g12_.heap.size from World.block_lt_of_cell? _ _ i0)
  have b := below_alloc g12_ (.cells #[.bool Y.lo.s, .slice A12 n12 c12, .int .i64 Y.lo.e, .bool Y.hi.s, .slice A13 n13 c13, .int .i64 Y.hi.e] 26)
  replace BB := bnx BB b rfl rfl rfl rfl
  have G := mv b rfl (J30 a0 a1 a2 a3 a4 a5 e0 e1 e2 e3 e4 e5 f0 f1 f2 f3 f4 f5 i0 i1 i2 i3 i4 i5 hT h1 h2 h3 h4 h5)
  clear a0 a1 a2 a3 a4 a5 e0 e1 e2 e3 e4 e5 f0 f1 f2 f3 f4 f5 i0 i1 i2 i3 i4 i5 hT h1 h2 h3 h4 h5
  obtain ⟨a0, a1, a2, a3, a4, a5, e0, e1, e2, e3, e4, e5, f0, f1, f2, f3, f4, f5, i0, i1, i2, i3, i4, i5, hT, h1, h2, h3, h4, h5⟩ := G
  have G := mv b rfl (J13 h6 h7 h8 h10 h11 r0 r1 r2 r3 r4 r5 h12 h13)
  clear h6 h7 h8 h10 h11 r0 r1 r2 r3 r4 r5 h12 h13
  obtain ⟨h6, h7, h8, h10, h11, r0, r1, r2, r3, r4, r5, h12, h13⟩ := G
  clear b
  clear h5 h6 h7 h8 f0 f1 f2 f3 f4 f5 i0 i1 i2 i3 i4 i5
  obtain ⟨q1, hq⟩ : ∃ q : Except Int Iv, q = face2 S x y (n : Int) (sumO S x y (n : Int)) := ⟨_, rfl⟩
  have HQ1 := Lib.hid hq
  clear hq
  obtain ⟨q2, hq⟩ : ∃ q : Except Int Iv, q = face2 S X Y (m : Int) (sumO S X Y (m : Int)) := ⟨_, rfl⟩
  have HQ2 := Lib.hid hq
  clear hq
  obtain ⟨q3, hq⟩ : ∃ q : Except Int Iv, q = face2 S x y (n : Int) (sumO S x (turnI y) (n : Int)) := ⟨_, rfl⟩
  have HQ3 := Lib.hid hq
  clear hq
  obtain ⟨q4, hq⟩ : ∃ q : Except Int Iv, q = face2 S X Y (m : Int) (sumO S X (turnI Y) (m : Int)) := ⟨_, rfl⟩
  have HQ4 := Lib.hid hq
  clear hq
  obtain ⟨q5, hq⟩ : ∃ q : Except Int Iv, q = face2 S x y (n : Int) (mulI S x y (n : Int)) := ⟨_, rfl⟩
  have HQ5 := Lib.hid hq
  clear hq
  obtain ⟨q6, hq⟩ : ∃ q : Except Int Iv, q = face2 S X Y (m : Int) (mulI S X Y (m : Int)) := ⟨_, rfl⟩
  have HQ6 := Lib.hid hq
  clear hq
  obtain ⟨q7, hq⟩ : ∃ q : Except Int Iv, q = face1 S x (n : Int) (sqrI S x (n : Int)) := ⟨_, rfl⟩
  have HQ7 := Lib.hid hq
  clear hq
  obtain ⟨q8, hq⟩ : ∃ q : Except Int Iv, q = face1 S X (m : Int) (sqrI S X (m : Int)) := ⟨_, rfl⟩
  have HQ8 := Lib.hid hq
  clear hq
  have HG0 := Lib.hid (show okc q1 = 0 → okc q2 = 0 → withinI S.K (oiv q1) (oiv q2) = true from fun z1 z2 => sum_grow HPR.out HQR.out HWX.out HWY.out (face2_ok (HQ1.out.symm.trans (iok_of (by rw [HQ1.out]; exact face2_cod sumO_cod) z1))) (face2_ok (HQ2.out.symm.trans (iok_of (by rw [HQ2.out]; exact face2_cod sumO_cod) z2))))
  have HG1 := Lib.hid (show okc q3 = 0 → okc q4 = 0 → withinI S.K (oiv q3) (oiv q4) = true from fun z1 z2 => sum_grow HPR.out HQR.out HWX.out (turn_within HWY.out) (face2_ok (HQ3.out.symm.trans (iok_of (by rw [HQ3.out]; exact face2_cod sumO_cod) z1))) (face2_ok (HQ4.out.symm.trans (iok_of (by rw [HQ4.out]; exact face2_cod sumO_cod) z2))))
  have HG2 := Lib.hid (show okc q5 = 0 → okc q6 = 0 → withinI S.K (oiv q5) (oiv q6) = true from fun z1 z2 => mul_grow HPR.out HQR.out HWX.out HWY.out (face2_ok (HQ5.out.symm.trans (iok_of (by rw [HQ5.out]; exact face2_cod mulI_cod) z1))) (face2_ok (HQ6.out.symm.trans (iok_of (by rw [HQ6.out]; exact face2_cod mulI_cod) z2))))
  have HG3 := Lib.hid (show okc q7 = 0 → okc q8 = 0 → withinI S.K (oiv q7) (oiv q8) = true from fun z1 z2 => sqr_grow HPR.out HQR.out HWX.out (face1_ok (HQ7.out.symm.trans (iok_of (by rw [HQ7.out]; exact face1_cod sqrI_cod) z1))) (face1_ok (HQ8.out.symm.trans (iok_of (by rw [HQ8.out]; exact face1_cod sqrI_cod) z2))))
  go_wp2_with fail
  refine (tello_to HQ1.out (aadd_any S (p := (n : Int)) hT h1 h2 h3 h4)).mono ?_
  rintro en v1 ⟨A20, n20, c20, A21, n21, c21, rfl, h20, h21, b⟩
  replace BB := bnx BB b rfl rfl rfl rfl
  have G := mv b rfl (J33 a0 a1 a2 a3 a4 a5 e0 e1 e2 e3 e4 e5 hT h1 h2 h3 h4 h10 h11 r0 r1 r2 r3 r4 r5 h12 h13 s0 s1 s2 s3 s4 s5)
  clear b a0 a1 a2 a3 a4 a5 e0 e1 e2 e3 e4 e5 hT h1 h2 h3 h4 h10 h11 r0 r1 r2 r3 r4 r5 h12 h13 s0 s1 s2 s3 s4 s5
  obtain ⟨a0, a1, a2, a3, a4, a5, e0, e1, e2, e3, e4, e5, hT, h1, h2, h3, h4, h10, h11, r0, r1, r2, r3, r4, r5, h12, h13, s0, s1, s2, s3, s4, s5⟩ := G
  have lg := Lib.hid (show g12_.heap.size < v1.heap.size ∧ g10_.heap.size < v1.heap.size from ⟨World.block_lt_of_cell? _ _ s0, World.block_lt_of_cell? _ _ r0⟩)
  have Xs := Ibx.new v1 (oiv q1).lo.s A20 n20 c20 (oiv q1).lo.e (oiv q1).hi.s A21 n21 c21 (oiv q1).hi.e
  obtain ⟨p0, p1, p2, p3, p4, p5⟩ := (Ibx.new v1 (oiv q1).lo.s A20 n20 c20 (oiv q1).lo.e (oiv q1).hi.s A21 n21 c21 (oiv q1).hi.e).held
  have b := below_alloc v1 (.cells #[.bool (oiv q1).lo.s, .slice A20 n20 c20, .int .i64 (oiv q1).lo.e, .bool (oiv q1).hi.s, .slice A21 n21 c21, .int .i64 (oiv q1).hi.e] 26)
  replace BB := bnx BB b rfl rfl rfl rfl
  have G := mv b rfl (J35 a0 a1 a2 a3 a4 a5 e0 e1 e2 e3 e4 e5 hT h1 h2 h3 h4 h10 h11 r0 r1 r2 r3 r4 r5 h12 h13 s0 s1 s2 s3 s4 s5 h20 h21)
  clear b a0 a1 a2 a3 a4 a5 e0 e1 e2 e3 e4 e5 hT h1 h2 h3 h4 h10 h11 r0 r1 r2 r3 r4 r5 h12 h13 s0 s1 s2 s3 s4 s5 h20 h21
  obtain ⟨a0, a1, a2, a3, a4, a5, e0, e1, e2, e3, e4, e5, hT, h1, h2, h3, h4, h10, h11, r0, r1, r2, r3, r4, r5, h12, h13, s0, s1, s2, s3, s4, s5, h20, h21⟩ := G
  go_wp2_with fail
  refine (tello_to HQ2.out (aadd_any S (x := X) (y := Y) (p := (m : Int)) hT h10 h11 h12 h13)).mono ?_
  rintro en v2 ⟨A22, n22, c22, A23, n23, c23, rfl, h22, h23, b⟩
  replace BB := bnx BB b rfl rfl rfl rfl
  have G := mv b rfl (J30 a0 a1 a2 a3 a4 a5 e0 e1 e2 e3 e4 e5 hT h1 h2 h3 h4 h10 h11 r0 r1 r2 r3 r4 r5 h12 h13 s0 s1 s2)
  clear a0 a1 a2 a3 a4 a5 e0 e1 e2 e3 e4 e5 hT h1 h2 h3 h4 h10 h11 r0 r1 r2 r3 r4 r5 h12 h13 s0 s1 s2
  obtain ⟨a0, a1, a2, a3, a4, a5, e0, e1, e2, e3, e4, e5, hT, h1, h2, h3, h4, h10, h11, r0, r1, r2, r3, r4, r5, h12, h13, s0, s1, s2⟩ := G
  have G := mv b rfl (J12 s3 s4 s5 h20 h21 p0 p1 p2 p3 p4 p5 Xs)
  clear s3 s4 s5 h20 h21 p0 p1 p2 p3 p4 p5 Xs
  obtain ⟨s3, s4, s5, h20, h21, p0, p1, p2, p3, p4, p5, Xs⟩ := G
  clear b
  have l12 := Lib.hid (show v1.heap.size < v2.heap.size from World.block_lt_of_cell? _ _ p0)
  have LW : Hid (w.heap.size + 3 < g10_.heap.size ∧ w.heap.size + 3 < g12_.heap.size ∧ g10_.heap.size < v1.heap.size ∧ g12_.heap.size < v1.heap.size ∧ v1.heap.size < v2.heap.size) := Lib.hid ⟨lX.out, lY.out, lg.out.2, lg.out.1, l12.out⟩
  have Xt := Ibx.new v2 (oiv q2).lo.s A22 n22 c22 (oiv q2).lo.e (oiv q2).hi.s A23 n23 c23 (oiv q2).hi.e
  obtain ⟨k0, k1, k2, k3, k4, k5⟩ := (Ibx.new v2 (oiv q2).lo.s A22 n22 c22 (oiv q2).lo.e (oiv q2).hi.s A23 n23 c23 (oiv q2).hi.e).held
  have b := below_alloc v2 (.cells #[.bool (oiv q2).lo.s, .slice A22 n22 c22, .int .i64 (oiv q2).lo.e, .bool (oiv q2).hi.s, .slice A23 n23 c23, .int .i64 (oiv q2).hi.e] 26)
  replace BB := bnx BB b rfl rfl rfl rfl
  have G := mv b rfl (J30 a0 a1 a2 a3 a4 a5 e0 e1 e2 e3 e4 e5 hT h1 h2 h3 h4 h10 h11 r0 r1 r2 r3 r4 r5 h12 h13 s0 s1 s2)
  clear a0 a1 a2 a3 a4 a5 e0 e1 e2 e3 e4 e5 hT h1 h2 h3 h4 h10 h11 r0 r1 r2 r3 r4 r5 h12 h13 s0 s1 s2
  obtain ⟨a0, a1, a2, a3, a4, a5, e0, e1, e2, e3, e4, e5, hT, h1, h2, h3, h4, h10, h11, r0, r1, r2, r3, r4, r5, h12, h13, s0, s1, s2⟩ := G
  have G := mv b rfl (J14 s3 s4 s5 h20 h21 p0 p1 p2 p3 p4 p5 Xs h22 h23)
  clear s3 s4 s5 h20 h21 p0 p1 p2 p3 p4 p5 Xs h22 h23
  obtain ⟨s3, s4, s5, h20, h21, p0, p1, p2, p3, p4, p5, Xs, h22, h23⟩ := G
  clear b
  go_upto_region 11 with fail
  generalize (v2.alloc (.cells #[.bool (oiv q2).lo.s, .slice A22 n22 c22, .int .i64 (oiv q2).lo.e, .bool (oiv q2).hi.s, .slice A23 n23 c23, .int .i64 (oiv q2).hi.e] 26)) = z1 at *
  go_cut [115] (fun v wx => v = .bool false ∧ Below z1.heap.size z1 wx)
  case first =>
    have B1 := Below.refl z1.heap.size z1
    clear BB
    have BB := B1
    clear B1
    by_cases z1 : okc q1 = 0
    rotate_left
    · have d1 : (okc q1 == 0) = false := by simp; exact z1
      clear z1
      go_wp2_with fail
      go_meet
      case rel => exact ⟨rfl, BB⟩
    by_cases z2 : okc q2 = 0
    rotate_left
    · have d1 : (okc q1 == 0) = true := by simp; exact z1
      have d2 : (okc q2 == 0) = false := by simp; exact z2
      clear z1 z2
      go_wp2_with fail
      go_meet
      case rel => exact ⟨rfl, BB⟩
    have d1 : (okc q1 == 0) = true := by simp; exact z1
    have d2 : (okc q2 == 0) = true := by simp; exact z2
    have HW := Lib.hid (HG0.out z1 z2)
    clear z1 z2
    go_wp2_with fail
    refine (show Calls _ _ _ _ (Bools true _) from by have := iwithin_any (K := S.K) (x := oiv q1) (y := oiv q2) S.big hT h20 h21 h22 h23; rwa [HW.out] at this).mono ?_
    rintro en gw ⟨rfl, b⟩
    replace BB := bnx BB b rfl rfl rfl rfl
    have G := mv b rfl (J17 hT h20 h21 h22 h23 p0 p1 p2 p3 p4 p5 k0 k1 k2 k3 k4 k5)
    clear b hT h20 h21 h22 h23 p0 p1 p2 p3 p4 p5 k0 k1 k2 k3 k4 k5
    obtain ⟨hT, h20, h21, h22, h23, p0, p1, p2, p3, p4, p5, k0, k1, k2, k3, k4, k5⟩ := G
    go_wp2_with fail
    go_meet
    case rel => exact ⟨rfl, BB⟩
  case rest =>
    obtain ⟨rfl, b⟩ := hcut
    clear h20 h21 h22 h23 p0 p1 p2 p3 p4 p5 k0 k1 k2 k3 k4 k5
    replace BB := bnx BB b rfl rfl rfl rfl
    have G := mv b rfl (J35 a0 a1 a2 a3 a4 a5 e0 e1 e2 e3 e4 e5 hT h1 h2 h3 h4 h10 h11 r0 r1 r2 r3 r4 r5 h12 h13 s0 s1 s2 s3 s4 s5 Xs Xt)
    clear b a0 a1 a2 a3 a4 a5 e0 e1 e2 e3 e4 e5 hT h1 h2 h3 h4 h10 h11 r0 r1 r2 r3 r4 r5 h12 h13 s0 s1 s2 s3 s4 s5 Xs Xt
    obtain ⟨a0, a1, a2, a3, a4, a5, e0, e1, e2, e3, e4, e5, hT, h1, h2, h3, h4, h10, h11, r0, r1, r2, r3, r4, r5, h12, h13, s0, s1, s2, s3, s4, s5, Xs, Xt⟩ := G
    generalize wc = z2 at *
    go_wp2_with fail
    refine (tello_to HQ3.out (asub_any S (p := (n : Int)) hT h1 h2 h3 h4)).mono ?_
    rintro en v3 ⟨A30, n30, c30, A31, n31, c31, rfl, h30, h31, b⟩
    replace BB := bnx BB b rfl rfl rfl rfl
    have G := mv b rfl (J35 a0 a1 a2 a3 a4 a5 e0 e1 e2 e3 e4 e5 hT h1 h2 h3 h4 h10 h11 r0 r1 r2 r3 r4 r5 h12 h13 s0 s1 s2 s3 s4 s5 Xs Xt)
    clear b a0 a1 a2 a3 a4 a5 e0 e1 e2 e3 e4 e5 hT h1 h2 h3 h4 h10 h11 r0 r1 r2 r3 r4 r5 h12 h13 s0 s1 s2 s3 s4 s5 Xs Xt
    obtain ⟨a0, a1, a2, a3, a4, a5, e0, e1, e2, e3, e4, e5, hT, h1, h2, h3, h4, h10, h11, r0, r1, r2, r3, r4, r5, h12, h13, s0, s1, s2, s3, s4, s5, Xs, Xt⟩ := G
    clear hT h1 h2 h3 h4
    obtain ⟨t0, t1, t2, t3, t4, t5⟩ := Xs.open
    obtain ⟨m0, m1, m2, m3, m4, m5⟩ := Xs.held
    replace h10 := h10.put6 Xs (.bool (oiv q3).lo.s) (.slice A30 n30 c30) (.int .i64 (oiv q3).lo.e) (.bool (oiv q3).hi.s) (.slice A31 n31 c31) (.int .i64 (oiv q3).hi.e)
    replace h11 := h11.put6 Xs (.bool (oiv q3).lo.s) (.slice A30 n30 c30) (.int .i64 (oiv q3).lo.e) (.bool (oiv q3).hi.s) (.slice A31 n31 c31) (.int .i64 (oiv q3).hi.e)
    replace h12 := h12.put6 Xs (.bool (oiv q3).lo.s) (.slice A30 n30 c30) (.int .i64 (oiv q3).lo.e) (.bool (oiv q3).hi.s) (.slice A31 n31 c31) (.int .i64 (oiv q3).hi.e)
    replace h13 := h13.put6 Xs (.bool (oiv q3).lo.s) (.slice A30 n30 c30) (.int .i64 (oiv q3).lo.e) (.bool (oiv q3).hi.s) (.slice A31 n31 c31) (.int .i64 (oiv q3).hi.e)
    replace h30 := h30.put6 Xs (.bool (oiv q3).lo.s) (.slice A30 n30 c30) (.int .i64 (oiv q3).lo.e) (.bool (oiv q3).hi.s) (.slice A31 n31 c31) (.int .i64 (oiv q3).hi.e)
    replace h31 := h31.put6 Xs (.bool (oiv q3).lo.s) (.slice A30 n30 c30) (.int .i64 (oiv q3).lo.e) (.bool (oiv q3).hi.s) (.slice A31 n31 c31) (.int .i64 (oiv q3).hi.e)
    replace a0 := cell_oth6 (g := v1.heap.size) (u0 := .bool (oiv q3).lo.s) (u1 := .slice A30 n30 c30) (u2 := .int .i64 (oiv q3).lo.e) (u3 := .bool (oiv q3).hi.s) (u4 := .slice A31 n31 c31) (u5 := .int .i64 (oiv q3).hi.e) a0 (by have := LW.out; omega)
    replace a1 := cell_oth6 (g := v1.heap.size) (u0 := .bool (oiv q3).lo.s) (u1 := .slice A30 n30 c30) (u2 := .int .i64 (oiv q3).lo.e) (u3 := .bool (oiv q3).hi.s) (u4 := .slice A31 n31 c31) (u5 := .int .i64 (oiv q3).hi.e) a1 (by have := LW.out; omega)
    replace a2 := cell_oth6 (g := v1.heap.size) (u0 := .bool (oiv q3).lo.s) (u1 := .slice A30 n30 c30) (u2 := .int .i64 (oiv q3).lo.e) (u3 := .bool (oiv q3).hi.s) (u4 := .slice A31 n31 c31) (u5 := .int .i64 (oiv q3).hi.e) a2 (by have := LW.out; omega)
    replace a3 := cell_oth6 (g := v1.heap.size) (u0 := .bool (oiv q3).lo.s) (u1 := .slice A30 n30 c30) (u2 := .int .i64 (oiv q3).lo.e) (u3 := .bool (oiv q3).hi.s) (u4 := .slice A31 n31 c31) (u5 := .int .i64 (oiv q3).hi.e) a3 (by have := LW.out; omega)
    replace a4 := cell_oth6 (g := v1.heap.size) (u0 := .bool (oiv q3).lo.s) (u1 := .slice A30 n30 c30) (u2 := .int .i64 (oiv q3).lo.e) (u3 := .bool (oiv q3).hi.s) (u4 := .slice A31 n31 c31) (u5 := .int .i64 (oiv q3).hi.e) a4 (by have := LW.out; omega)
    replace a5 := cell_oth6 (g := v1.heap.size) (u0 := .bool (oiv q3).lo.s) (u1 := .slice A30 n30 c30) (u2 := .int .i64 (oiv q3).lo.e) (u3 := .bool (oiv q3).hi.s) (u4 := .slice A31 n31 c31) (u5 := .int .i64 (oiv q3).hi.e) a5 (by have := LW.out; omega)
    replace e0 := cell_oth6 (g := v1.heap.size) (u0 := .bool (oiv q3).lo.s) (u1 := .slice A30 n30 c30) (u2 := .int .i64 (oiv q3).lo.e) (u3 := .bool (oiv q3).hi.s) (u4 := .slice A31 n31 c31) (u5 := .int .i64 (oiv q3).hi.e) e0 (by have := LW.out; omega)
    replace e1 := cell_oth6 (g := v1.heap.size) (u0 := .bool (oiv q3).lo.s) (u1 := .slice A30 n30 c30) (u2 := .int .i64 (oiv q3).lo.e) (u3 := .bool (oiv q3).hi.s) (u4 := .slice A31 n31 c31) (u5 := .int .i64 (oiv q3).hi.e) e1 (by have := LW.out; omega)
    replace e2 := cell_oth6 (g := v1.heap.size) (u0 := .bool (oiv q3).lo.s) (u1 := .slice A30 n30 c30) (u2 := .int .i64 (oiv q3).lo.e) (u3 := .bool (oiv q3).hi.s) (u4 := .slice A31 n31 c31) (u5 := .int .i64 (oiv q3).hi.e) e2 (by have := LW.out; omega)
    replace e3 := cell_oth6 (g := v1.heap.size) (u0 := .bool (oiv q3).lo.s) (u1 := .slice A30 n30 c30) (u2 := .int .i64 (oiv q3).lo.e) (u3 := .bool (oiv q3).hi.s) (u4 := .slice A31 n31 c31) (u5 := .int .i64 (oiv q3).hi.e) e3 (by have := LW.out; omega)
    replace e4 := cell_oth6 (g := v1.heap.size) (u0 := .bool (oiv q3).lo.s) (u1 := .slice A30 n30 c30) (u2 := .int .i64 (oiv q3).lo.e) (u3 := .bool (oiv q3).hi.s) (u4 := .slice A31 n31 c31) (u5 := .int .i64 (oiv q3).hi.e) e4 (by have := LW.out; omega)
    replace e5 := cell_oth6 (g := v1.heap.size) (u0 := .bool (oiv q3).lo.s) (u1 := .slice A30 n30 c30) (u2 := .int .i64 (oiv q3).lo.e) (u3 := .bool (oiv q3).hi.s) (u4 := .slice A31 n31 c31) (u5 := .int .i64 (oiv q3).hi.e) e5 (by have := LW.out; omega)
    replace r0 := cell_oth6 (g := v1.heap.size) (u0 := .bool (oiv q3).lo.s) (u1 := .slice A30 n30 c30) (u2 := .int .i64 (oiv q3).lo.e) (u3 := .bool (oiv q3).hi.s) (u4 := .slice A31 n31 c31) (u5 := .int .i64 (oiv q3).hi.e) r0 (by have := LW.out; omega)
    replace r1 := cell_oth6 (g := v1.heap.size) (u0 := .bool (oiv q3).lo.s) (u1 := .slice A30 n30 c30) (u2 := .int .i64 (oiv q3).lo.e) (u3 := .bool (oiv q3).hi.s) (u4 := .slice A31 n31 c31) (u5 := .int .i64 (oiv q3).hi.e) r1 (by have := LW.out; omega)
    replace r2 := cell_oth6 (g := v1.heap.size) (u0 := .bool (oiv q3).lo.s) (u1 := .slice A30 n30 c30) (u2 := .int .i64 (oiv q3).lo.e) (u3 := .bool (oiv q3).hi.s) (u4 := .slice A31 n31 c31) (u5 := .int .i64 (oiv q3).hi.e) r2 (by have := LW.out; omega)
    replace r3 := cell_oth6 (g := v1.heap.size) (u0 := .bool (oiv q3).lo.s) (u1 := .slice A30 n30 c30) (u2 := .int .i64 (oiv q3).lo.e) (u3 := .bool (oiv q3).hi.s) (u4 := .slice A31 n31 c31) (u5 := .int .i64 (oiv q3).hi.e) r3 (by have := LW.out; omega)
    replace r4 := cell_oth6 (g := v1.heap.size) (u0 := .bool (oiv q3).lo.s) (u1 := .slice A30 n30 c30) (u2 := .int .i64 (oiv q3).lo.e) (u3 := .bool (oiv q3).hi.s) (u4 := .slice A31 n31 c31) (u5 := .int .i64 (oiv q3).hi.e) r4 (by have := LW.out; omega)
    replace r5 := cell_oth6 (g := v1.heap.size) (u0 := .bool (oiv q3).lo.s) (u1 := .slice A30 n30 c30) (u2 := .int .i64 (oiv q3).lo.e) (u3 := .bool (oiv q3).hi.s) (u4 := .slice A31 n31 c31) (u5 := .int .i64 (oiv q3).hi.e) r5 (by have := LW.out; omega)
    replace s0 := cell_oth6 (g := v1.heap.size) (u0 := .bool (oiv q3).lo.s) (u1 := .slice A30 n30 c30) (u2 := .int .i64 (oiv q3).lo.e) (u3 := .bool (oiv q3).hi.s) (u4 := .slice A31 n31 c31) (u5 := .int .i64 (oiv q3).hi.e) s0 (by have := LW.out; omega)
    replace s1 := cell_oth6 (g := v1.heap.size) (u0 := .bool (oiv q3).lo.s) (u1 := .slice A30 n30 c30) (u2 := .int .i64 (oiv q3).lo.e) (u3 := .bool (oiv q3).hi.s) (u4 := .slice A31 n31 c31) (u5 := .int .i64 (oiv q3).hi.e) s1 (by have := LW.out; omega)
    replace s2 := cell_oth6 (g := v1.heap.size) (u0 := .bool (oiv q3).lo.s) (u1 := .slice A30 n30 c30) (u2 := .int .i64 (oiv q3).lo.e) (u3 := .bool (oiv q3).hi.s) (u4 := .slice A31 n31 c31) (u5 := .int .i64 (oiv q3).hi.e) s2 (by have := LW.out; omega)
    replace s3 := cell_oth6 (g := v1.heap.size) (u0 := .bool (oiv q3).lo.s) (u1 := .slice A30 n30 c30) (u2 := .int .i64 (oiv q3).lo.e) (u3 := .bool (oiv q3).hi.s) (u4 := .slice A31 n31 c31) (u5 := .int .i64 (oiv q3).hi.e) s3 (by have := LW.out; omega)
    replace s4 := cell_oth6 (g := v1.heap.size) (u0 := .bool (oiv q3).lo.s) (u1 := .slice A30 n30 c30) (u2 := .int .i64 (oiv q3).lo.e) (u3 := .bool (oiv q3).hi.s) (u4 := .slice A31 n31 c31) (u5 := .int .i64 (oiv q3).hi.e) s4 (by have := LW.out; omega)
    replace s5 := cell_oth6 (g := v1.heap.size) (u0 := .bool (oiv q3).lo.s) (u1 := .slice A30 n30 c30) (u2 := .int .i64 (oiv q3).lo.e) (u3 := .bool (oiv q3).hi.s) (u4 := .slice A31 n31 c31) (u5 := .int .i64 (oiv q3).hi.e) s5 (by have := LW.out; omega)
    replace Xt := Ibx.oth6 (g := v1.heap.size) Xt (by have := LW.out; omega) (.bool (oiv q3).lo.s) (.slice A30 n30 c30) (.int .i64 (oiv q3).lo.e) (.bool (oiv q3).hi.s) (.slice A31 n31 c31) (.int .i64 (oiv q3).hi.e)
    replace BB := below_put6 (g := v1.heap.size) BB (by have := LW.out; omega) (.bool (oiv q3).lo.s) (.slice A30 n30 c30) (.int .i64 (oiv q3).lo.e) (.bool (oiv q3).hi.s) (.slice A31 n31 c31) (.int .i64 (oiv q3).hi.e)
    replace Xs := Xs.put (oiv q3).lo.s A30 n30 c30 (oiv q3).lo.e (oiv q3).hi.s A31 n31 c31 (oiv q3).hi.e
    have hT := mv BB rfl hT_o
    have h1 := mv BB rfl h1_o
    have h2 := mv BB rfl h2_o
    have h3 := mv BB rfl h3_o
    have h4 := mv BB rfl h4_o
    go_wp2_with fail
    clear t0 t1 t2 t3 t4 t5 m0 m1 m2 m3 m4 m5
    generalize ((((((v3.setCell ⟨v1.heap.size, 0, none⟩ (.bool (oiv q3).lo.s)).setCell ⟨v1.heap.size, 1, none⟩ (.slice A30 n30 c30)).setCell ⟨v1.heap.size, 2, none⟩ (.int .i64 (oiv q3).lo.e)).setCell ⟨v1.heap.size, 3, none⟩ (.bool (oiv q3).hi.s)).setCell ⟨v1.heap.size, 4, none⟩ (.slice A31 n31 c31)).setCell ⟨v1.heap.size, 5, none⟩ (.int .i64 (oiv q3).hi.e)) = k1a at *
    refine (tello_to HQ4.out (asub_any S (x := X) (y := Y) (p := (m : Int)) hT h10 h11 h12 h13)).mono ?_
    rintro en v4 ⟨A32, n32, c32, A33, n33, c33, rfl, h32, h33, b⟩
    replace BB := bnx BB b rfl rfl rfl rfl
    have G := mv b rfl (J37 a0 a1 a2 a3 a4 a5 e0 e1 e2 e3 e4 e5 h10 h11 r0 r1 r2 r3 r4 r5 h12 h13 s0 s1 s2 s3 s4 s5 Xs Xt h30 h31 hT h1 h2 h3 h4)
    clear b a0 a1 a2 a3 a4 a5 e0 e1 e2 e3 e4 e5 h10 h11 r0 r1 r2 r3 r4 r5 h12 h13 s0 s1 s2 s3 s4 s5 Xs Xt h30 h31 hT h1 h2 h3 h4
    obtain ⟨a0, a1, a2, a3, a4, a5, e0, e1, e2, e3, e4, e5, h10, h11, r0, r1, r2, r3, r4, r5, h12, h13, s0, s1, s2, s3, s4, s5, Xs, Xt, h30, h31, hT, h1, h2, h3, h4⟩ := G
    clear hT h1 h2 h3 h4
    obtain ⟨t0, t1, t2, t3, t4, t5⟩ := Xt.open
    obtain ⟨m0, m1, m2, m3, m4, m5⟩ := Xt.held
    replace h10 := h10.put6 Xt (.bool (oiv q4).lo.s) (.slice A32 n32 c32) (.int .i64 (oiv q4).lo.e) (.bool (oiv q4).hi.s) (.slice A33 n33 c33) (.int .i64 (oiv q4).hi.e)
    replace h11 := h11.put6 Xt (.bool (oiv q4).lo.s) (.slice A32 n32 c32) (.int .i64 (oiv q4).lo.e) (.bool (oiv q4).hi.s) (.slice A33 n33 c33) (.int .i64 (oiv q4).hi.e)
    replace h12 := h12.put6 Xt (.bool (oiv q4).lo.s) (.slice A32 n32 c32) (.int .i64 (oiv q4).lo.e) (.bool (oiv q4).hi.s) (.slice A33 n33 c33) (.int .i64 (oiv q4).hi.e)
    replace h13 := h13.put6 Xt (.bool (oiv q4).lo.s) (.slice A32 n32 c32) (.int .i64 (oiv q4).lo.e) (.bool (oiv q4).hi.s) (.slice A33 n33 c33) (.int .i64 (oiv q4).hi.e)
    replace h30 := h30.put6 Xt (.bool (oiv q4).lo.s) (.slice A32 n32 c32) (.int .i64 (oiv q4).lo.e) (.bool (oiv q4).hi.s) (.slice A33 n33 c33) (.int .i64 (oiv q4).hi.e)
    replace h31 := h31.put6 Xt (.bool (oiv q4).lo.s) (.slice A32 n32 c32) (.int .i64 (oiv q4).lo.e) (.bool (oiv q4).hi.s) (.slice A33 n33 c33) (.int .i64 (oiv q4).hi.e)
    replace h32 := h32.put6 Xt (.bool (oiv q4).lo.s) (.slice A32 n32 c32) (.int .i64 (oiv q4).lo.e) (.bool (oiv q4).hi.s) (.slice A33 n33 c33) (.int .i64 (oiv q4).hi.e)
    replace h33 := h33.put6 Xt (.bool (oiv q4).lo.s) (.slice A32 n32 c32) (.int .i64 (oiv q4).lo.e) (.bool (oiv q4).hi.s) (.slice A33 n33 c33) (.int .i64 (oiv q4).hi.e)
    replace a0 := cell_oth6 (g := v2.heap.size) (u0 := .bool (oiv q4).lo.s) (u1 := .slice A32 n32 c32) (u2 := .int .i64 (oiv q4).lo.e) (u3 := .bool (oiv q4).hi.s) (u4 := .slice A33 n33 c33) (u5 := .int .i64 (oiv q4).hi.e) a0 (by have := LW.out; omega)
    replace a1 := cell_oth6 (g := v2.heap.size) (u0 := .bool (oiv q4).lo.s) (u1 := .slice A32 n32 c32) (u2 := .int .i64 (oiv q4).lo.e) (u3 := .bool (oiv q4).hi.s) (u4 := .slice A33 n33 c33) (u5 := .int .i64 (oiv q4).hi.e) a1 (by have := LW.out; omega)
    replace a2 := cell_oth6 (g := v2.heap.size) (u0 := .bool (oiv q4).lo.s) (u1 := .slice A32 n32 c32) (u2 := .int .i64 (oiv q4).lo.e) (u3 := .bool (oiv q4).hi.s) (u4 := .slice A33 n33 c33) (u5 := .int .i64 (oiv q4).hi.e) a2 (by have := LW.out; omega)
    replace a3 := cell_oth6 (g := v2.heap.size) (u0 := .bool (oiv q4).lo.s) (u1 := .slice A32 n32 c32) (u2 := .int .i64 (oiv q4).lo.e) (u3 := .bool (oiv q4).hi.s) (u4 := .slice A33 n33 c33) (u5 := .int .i64 (oiv q4).hi.e) a3 (by have := LW.out; omega)
    replace a4 := cell_oth6 (g := v2.heap.size) (u0 := .bool (oiv q4).lo.s) (u1 := .slice A32 n32 c32) (u2 := .int .i64 (oiv q4).lo.e) (u3 := .bool (oiv q4).hi.s) (u4 := .slice A33 n33 c33) (u5 := .int .i64 (oiv q4).hi.e) a4 (by have := LW.out; omega)
    replace a5 := cell_oth6 (g := v2.heap.size) (u0 := .bool (oiv q4).lo.s) (u1 := .slice A32 n32 c32) (u2 := .int .i64 (oiv q4).lo.e) (u3 := .bool (oiv q4).hi.s) (u4 := .slice A33 n33 c33) (u5 := .int .i64 (oiv q4).hi.e) a5 (by have := LW.out; omega)
    replace e0 := cell_oth6 (g := v2.heap.size) (u0 := .bool (oiv q4).lo.s) (u1 := .slice A32 n32 c32) (u2 := .int .i64 (oiv q4).lo.e) (u3 := .bool (oiv q4).hi.s) (u4 := .slice A33 n33 c33) (u5 := .int .i64 (oiv q4).hi.e) e0 (by have := LW.out; omega)
    replace e1 := cell_oth6 (g := v2.heap.size) (u0 := .bool (oiv q4).lo.s) (u1 := .slice A32 n32 c32) (u2 := .int .i64 (oiv q4).lo.e) (u3 := .bool (oiv q4).hi.s) (u4 := .slice A33 n33 c33) (u5 := .int .i64 (oiv q4).hi.e) e1 (by have := LW.out; omega)
    replace e2 := cell_oth6 (g := v2.heap.size) (u0 := .bool (oiv q4).lo.s) (u1 := .slice A32 n32 c32) (u2 := .int .i64 (oiv q4).lo.e) (u3 := .bool (oiv q4).hi.s) (u4 := .slice A33 n33 c33) (u5 := .int .i64 (oiv q4).hi.e) e2 (by have := LW.out; omega)
    replace e3 := cell_oth6 (g := v2.heap.size) (u0 := .bool (oiv q4).lo.s) (u1 := .slice A32 n32 c32) (u2 := .int .i64 (oiv q4).lo.e) (u3 := .bool (oiv q4).hi.s) (u4 := .slice A33 n33 c33) (u5 := .int .i64 (oiv q4).hi.e) e3 (by have := LW.out; omega)
    replace e4 := cell_oth6 (g := v2.heap.size) (u0 := .bool (oiv q4).lo.s) (u1 := .slice A32 n32 c32) (u2 := .int .i64 (oiv q4).lo.e) (u3 := .bool (oiv q4).hi.s) (u4 := .slice A33 n33 c33) (u5 := .int .i64 (oiv q4).hi.e) e4 (by have := LW.out; omega)
    replace e5 := cell_oth6 (g := v2.heap.size) (u0 := .bool (oiv q4).lo.s) (u1 := .slice A32 n32 c32) (u2 := .int .i64 (oiv q4).lo.e) (u3 := .bool (oiv q4).hi.s) (u4 := .slice A33 n33 c33) (u5 := .int .i64 (oiv q4).hi.e) e5 (by have := LW.out; omega)
    replace r0 := cell_oth6 (g := v2.heap.size) (u0 := .bool (oiv q4).lo.s) (u1 := .slice A32 n32 c32) (u2 := .int .i64 (oiv q4).lo.e) (u3 := .bool (oiv q4).hi.s) (u4 := .slice A33 n33 c33) (u5 := .int .i64 (oiv q4).hi.e) r0 (by have := LW.out; omega)
    replace r1 := cell_oth6 (g := v2.heap.size) (u0 := .bool (oiv q4).lo.s) (u1 := .slice A32 n32 c32) (u2 := .int .i64 (oiv q4).lo.e) (u3 := .bool (oiv q4).hi.s) (u4 := .slice A33 n33 c33) (u5 := .int .i64 (oiv q4).hi.e) r1 (by have := LW.out; omega)
    replace r2 := cell_oth6 (g := v2.heap.size) (u0 := .bool (oiv q4).lo.s) (u1 := .slice A32 n32 c32) (u2 := .int .i64 (oiv q4).lo.e) (u3 := .bool (oiv q4).hi.s) (u4 := .slice A33 n33 c33) (u5 := .int .i64 (oiv q4).hi.e) r2 (by have := LW.out; omega)
    replace r3 := cell_oth6 (g := v2.heap.size) (u0 := .bool (oiv q4).lo.s) (u1 := .slice A32 n32 c32) (u2 := .int .i64 (oiv q4).lo.e) (u3 := .bool (oiv q4).hi.s) (u4 := .slice A33 n33 c33) (u5 := .int .i64 (oiv q4).hi.e) r3 (by have := LW.out; omega)
    replace r4 := cell_oth6 (g := v2.heap.size) (u0 := .bool (oiv q4).lo.s) (u1 := .slice A32 n32 c32) (u2 := .int .i64 (oiv q4).lo.e) (u3 := .bool (oiv q4).hi.s) (u4 := .slice A33 n33 c33) (u5 := .int .i64 (oiv q4).hi.e) r4 (by have := LW.out; omega)
    replace r5 := cell_oth6 (g := v2.heap.size) (u0 := .bool (oiv q4).lo.s) (u1 := .slice A32 n32 c32) (u2 := .int .i64 (oiv q4).lo.e) (u3 := .bool (oiv q4).hi.s) (u4 := .slice A33 n33 c33) (u5 := .int .i64 (oiv q4).hi.e) r5 (by have := LW.out; omega)
    replace s0 := cell_oth6 (g := v2.heap.size) (u0 := .bool (oiv q4).lo.s) (u1 := .slice A32 n32 c32) (u2 := .int .i64 (oiv q4).lo.e) (u3 := .bool (oiv q4).hi.s) (u4 := .slice A33 n33 c33) (u5 := .int .i64 (oiv q4).hi.e) s0 (by have := LW.out; omega)
    replace s1 := cell_oth6 (g := v2.heap.size) (u0 := .bool (oiv q4).lo.s) (u1 := .slice A32 n32 c32) (u2 := .int .i64 (oiv q4).lo.e) (u3 := .bool (oiv q4).hi.s) (u4 := .slice A33 n33 c33) (u5 := .int .i64 (oiv q4).hi.e) s1 (by have := LW.out; omega)
    replace s2 := cell_oth6 (g := v2.heap.size) (u0 := .bool (oiv q4).lo.s) (u1 := .slice A32 n32 c32) (u2 := .int .i64 (oiv q4).lo.e) (u3 := .bool (oiv q4).hi.s) (u4 := .slice A33 n33 c33) (u5 := .int .i64 (oiv q4).hi.e) s2 (by have := LW.out; omega)
    replace s3 := cell_oth6 (g := v2.heap.size) (u0 := .bool (oiv q4).lo.s) (u1 := .slice A32 n32 c32) (u2 := .int .i64 (oiv q4).lo.e) (u3 := .bool (oiv q4).hi.s) (u4 := .slice A33 n33 c33) (u5 := .int .i64 (oiv q4).hi.e) s3 (by have := LW.out; omega)
    replace s4 := cell_oth6 (g := v2.heap.size) (u0 := .bool (oiv q4).lo.s) (u1 := .slice A32 n32 c32) (u2 := .int .i64 (oiv q4).lo.e) (u3 := .bool (oiv q4).hi.s) (u4 := .slice A33 n33 c33) (u5 := .int .i64 (oiv q4).hi.e) s4 (by have := LW.out; omega)
    replace s5 := cell_oth6 (g := v2.heap.size) (u0 := .bool (oiv q4).lo.s) (u1 := .slice A32 n32 c32) (u2 := .int .i64 (oiv q4).lo.e) (u3 := .bool (oiv q4).hi.s) (u4 := .slice A33 n33 c33) (u5 := .int .i64 (oiv q4).hi.e) s5 (by have := LW.out; omega)
    replace Xs := Ibx.oth6 (g := v2.heap.size) Xs (by have := LW.out; omega) (.bool (oiv q4).lo.s) (.slice A32 n32 c32) (.int .i64 (oiv q4).lo.e) (.bool (oiv q4).hi.s) (.slice A33 n33 c33) (.int .i64 (oiv q4).hi.e)
    replace BB := below_put6 (g := v2.heap.size) BB (by have := LW.out; omega) (.bool (oiv q4).lo.s) (.slice A32 n32 c32) (.int .i64 (oiv q4).lo.e) (.bool (oiv q4).hi.s) (.slice A33 n33 c33) (.int .i64 (oiv q4).hi.e)
    replace Xt := Xt.put (oiv q4).lo.s A32 n32 c32 (oiv q4).lo.e (oiv q4).hi.s A33 n33 c33 (oiv q4).hi.e
    have hT := mv BB rfl hT_o
    have h1 := mv BB rfl h1_o
    have h2 := mv BB rfl h2_o
    have h3 := mv BB rfl h3_o
    have h4 := mv BB rfl h4_o
    obtain ⟨p0, p1, p2, p3, p4, p5⟩ := Xs.held
    obtain ⟨k0, k1, k2, k3, k4, k5⟩ := Xt.held
    go_upto_region 15 with fail
    clear t0 t1 t2 t3 t4 t5 m0 m1 m2 m3 m4 m5
    generalize ((((((v4.setCell ⟨v2.heap.size, 0, none⟩ (.bool (oiv q4).lo.s)).setCell ⟨v2.heap.size, 1, none⟩ (.slice A32 n32 c32)).setCell ⟨v2.heap.size, 2, none⟩ (.int .i64 (oiv q4).lo.e)).setCell ⟨v2.heap.size, 3, none⟩ (.bool (oiv q4).hi.s)).setCell ⟨v2.heap.size, 4, none⟩ (.slice A33 n33 c33)).setCell ⟨v2.heap.size, 5, none⟩ (.int .i64 (oiv q4).hi.e)) = k1b at *
    go_cut [141] (fun v wx => v = .bool false ∧ Below k1b.heap.size k1b wx)
    case first =>
      have B1 := Below.refl k1b.heap.size k1b
      clear BB
      have BB := B1
      clear B1
      by_cases z1 : okc q3 = 0
      rotate_left
      · have d1 : (okc q3 == 0) = false := by simp; exact z1
        clear z1
        go_wp2_with fail
        go_meet
        case rel => exact ⟨rfl, BB⟩
      by_cases z2 : okc q4 = 0
      rotate_left
      · have d1 : (okc q3 == 0) = true := by simp; exact z1
        have d2 : (okc q4 == 0) = false := by simp; exact z2
        clear z1 z2
        go_wp2_with fail
        go_meet
        case rel => exact ⟨rfl, BB⟩
      have d1 : (okc q3 == 0) = true := by simp; exact z1
      have d2 : (okc q4 == 0) = true := by simp; exact z2
      have HW := Lib.hid (HG1.out z1 z2)
      clear z1 z2
      go_wp2_with fail
      refine (show Calls _ _ _ _ (Bools true _) from by have := iwithin_any (K := S.K) (x := oiv q3) (y := oiv q4) S.big hT h30 h31 h32 h33; rwa [HW.out] at this).mono ?_
      rintro en gw ⟨rfl, b⟩
      replace BB := bnx BB b rfl rfl rfl rfl
      have G := mv b rfl (J17 hT h30 h31 h32 h33 p0 p1 p2 p3 p4 p5 k0 k1 k2 k3 k4 k5)
      clear b hT h30 h31 h32 h33 p0 p1 p2 p3 p4 p5 k0 k1 k2 k3 k4 k5
      obtain ⟨hT, h30, h31, h32, h33, p0, p1, p2, p3, p4, p5, k0, k1, k2, k3, k4, k5⟩ := G
      go_wp2_with fail
      go_meet
      case rel => exact ⟨rfl, BB⟩
    case rest =>
      obtain ⟨rfl, b⟩ := hcut
      clear h30 h31 h32 h33 p0 p1 p2 p3 p4 p5 k0 k1 k2 k3 k4 k5
      replace BB := bnx BB b rfl rfl rfl rfl
      have G := mv b rfl (J35 a0 a1 a2 a3 a4 a5 e0 e1 e2 e3 e4 e5 h10 h11 r0 r1 r2 r3 r4 r5 h12 h13 s0 s1 s2 s3 s4 s5 Xs Xt hT h1 h2 h3 h4)
      clear b a0 a1 a2 a3 a4 a5 e0 e1 e2 e3 e4 e5 h10 h11 r0 r1 r2 r3 r4 r5 h12 h13 s0 s1 s2 s3 s4 s5 Xs Xt hT h1 h2 h3 h4
      obtain ⟨a0, a1, a2, a3, a4, a5, e0, e1, e2, e3, e4, e5, h10, h11, r0, r1, r2, r3, r4, r5, h12, h13, s0, s1, s2, s3, s4, s5, Xs, Xt, hT, h1, h2, h3, h4⟩ := G
      generalize wc = k1c at *
      go_wp2_with fail
      refine (tello_to HQ5.out (amul_any S (p := (n : Int)) hT h1 h2 h3 h4)).mono ?_
      rintro en v5 ⟨A40, n40, c40, A41, n41, c41, rfl, h40, h41, b⟩
      replace BB := bnx BB b rfl rfl rfl rfl
      have G := mv b rfl (J35 a0 a1 a2 a3 a4 a5 e0 e1 e2 e3 e4 e5 h10 h11 r0 r1 r2 r3 r4 r5 h12 h13 s0 s1 s2 s3 s4 s5 Xs Xt hT h1 h2 h3 h4)
      clear b a0 a1 a2 a3 a4 a5 e0 e1 e2 e3 e4 e5 h10 h11 r0 r1 r2 r3 r4 r5 h12 h13 s0 s1 s2 s3 s4 s5 Xs Xt hT h1 h2 h3 h4
      obtain ⟨a0, a1, a2, a3, a4, a5, e0, e1, e2, e3, e4, e5, h10, h11, r0, r1, r2, r3, r4, r5, h12, h13, s0, s1, s2, s3, s4, s5, Xs, Xt, hT, h1, h2, h3, h4⟩ := G
      clear hT h1 h2 h3 h4
      obtain ⟨t0, t1, t2, t3, t4, t5⟩ := Xs.open
      obtain ⟨m0, m1, m2, m3, m4, m5⟩ := Xs.held
      replace h10 := h10.put6 Xs (.bool (oiv q5).lo.s) (.slice A40 n40 c40) (.int .i64 (oiv q5).lo.e) (.bool (oiv q5).hi.s) (.slice A41 n41 c41) (.int .i64 (oiv q5).hi.e)
      replace h11 := h11.put6 Xs (.bool (oiv q5).lo.s) (.slice A40 n40 c40) (.int .i64 (oiv q5).lo.e) (.bool (oiv q5).hi.s) (.slice A41 n41 c41) (.int .i64 (oiv q5).hi.e)
      replace h12 := h12.put6 Xs (.bool (oiv q5).lo.s) (.slice A40 n40 c40) (.int .i64 (oiv q5).lo.e) (.bool (oiv q5).hi.s) (.slice A41 n41 c41) (.int .i64 (oiv q5).hi.e)
      replace h13 := h13.put6 Xs (.bool (oiv q5).lo.s) (.slice A40 n40 c40) (.int .i64 (oiv q5).lo.e) (.bool (oiv q5).hi.s) (.slice A41 n41 c41) (.int .i64 (oiv q5).hi.e)
      replace h40 := h40.put6 Xs (.bool (oiv q5).lo.s) (.slice A40 n40 c40) (.int .i64 (oiv q5).lo.e) (.bool (oiv q5).hi.s) (.slice A41 n41 c41) (.int .i64 (oiv q5).hi.e)
      replace h41 := h41.put6 Xs (.bool (oiv q5).lo.s) (.slice A40 n40 c40) (.int .i64 (oiv q5).lo.e) (.bool (oiv q5).hi.s) (.slice A41 n41 c41) (.int .i64 (oiv q5).hi.e)
      replace a0 := cell_oth6 (g := v1.heap.size) (u0 := .bool (oiv q5).lo.s) (u1 := .slice A40 n40 c40) (u2 := .int .i64 (oiv q5).lo.e) (u3 := .bool (oiv q5).hi.s) (u4 := .slice A41 n41 c41) (u5 := .int .i64 (oiv q5).hi.e) a0 (by have := LW.out; omega)
      replace a1 := cell_oth6 (g := v1.heap.size) (u0 := .bool (oiv q5).lo.s) (u1 := .slice A40 n40 c40) (u2 := .int .i64 (oiv q5).lo.e) (u3 := .bool (oiv q5).hi.s) (u4 := .slice A41 n41 c41) (u5 := .int .i64 (oiv q5).hi.e) a1 (by have := LW.out; omega)
      replace a2 := cell_oth6 (g := v1.heap.size) (u0 := .bool (oiv q5).lo.s) (u1 := .slice A40 n40 c40) (u2 := .int .i64 (oiv q5).lo.e) (u3 := .bool (oiv q5).hi.s) (u4 := .slice A41 n41 c41) (u5 := .int .i64 (oiv q5).hi.e) a2 (by have := LW.out; omega)
      replace a3 := cell_oth6 (g := v1.heap.size) (u0 := .bool (oiv q5).lo.s) (u1 := .slice A40 n40 c40) (u2 := .int .i64 (oiv q5).lo.e) (u3 := .bool (oiv q5).hi.s) (u4 := .slice A41 n41 c41) (u5 := .int .i64 (oiv q5).hi.e) a3 (by have := LW.out; omega)
      replace a4 := cell_oth6 (g := v1.heap.size) (u0 := .bool (oiv q5).lo.s) (u1 := .slice A40 n40 c40) (u2 := .int .i64 (oiv q5).lo.e) (u3 := .bool (oiv q5).hi.s) (u4 := .slice A41 n41 c41) (u5 := .int .i64 (oiv q5).hi.e) a4 (by have := LW.out; omega)
      replace a5 := cell_oth6 (g := v1.heap.size) (u0 := .bool (oiv q5).lo.s) (u1 := .slice A40 n40 c40) (u2 := .int .i64 (oiv q5).lo.e) (u3 := .bool (oiv q5).hi.s) (u4 := .slice A41 n41 c41) (u5 := .int .i64 (oiv q5).hi.e) a5 (by have := LW.out; omega)
      replace e0 := cell_oth6 (g := v1.heap.size) (u0 := .bool (oiv q5).lo.s) (u1 := .slice A40 n40 c40) (u2 := .int .i64 (oiv q5).lo.e) (u3 := .bool (oiv q5).hi.s) (u4 := .slice A41 n41 c41) (u5 := .int .i64 (oiv q5).hi.e) e0 (by have := LW.out; omega)
      replace e1 := cell_oth6 (g := v1.heap.size) (u0 := .bool (oiv q5).lo.s) (u1 := .slice A40 n40 c40) (u2 := .int .i64 (oiv q5).lo.e) (u3 := .bool (oiv q5).hi.s) (u4 := .slice A41 n41 c41) (u5 := .int .i64 (oiv q5).hi.e) e1 (by have := LW.out; omega)
      replace e2 := cell_oth6 (g := v1.heap.size) (u0 := .bool (oiv q5).lo.s) (u1 := .slice A40 n40 c40) (u2 := .int .i64 (oiv q5).lo.e) (u3 := .bool (oiv q5).hi.s) (u4 := .slice A41 n41 c41) (u5 := .int .i64 (oiv q5).hi.e) e2 (by have := LW.out; omega)
      replace e3 := cell_oth6 (g := v1.heap.size) (u0 := .bool (oiv q5).lo.s) (u1 := .slice A40 n40 c40) (u2 := .int .i64 (oiv q5).lo.e) (u3 := .bool (oiv q5).hi.s) (u4 := .slice A41 n41 c41) (u5 := .int .i64 (oiv q5).hi.e) e3 (by have := LW.out; omega)
      replace e4 := cell_oth6 (g := v1.heap.size) (u0 := .bool (oiv q5).lo.s) (u1 := .slice A40 n40 c40) (u2 := .int .i64 (oiv q5).lo.e) (u3 := .bool (oiv q5).hi.s) (u4 := .slice A41 n41 c41) (u5 := .int .i64 (oiv q5).hi.e) e4 (by have := LW.out; omega)
      replace e5 := cell_oth6 (g := v1.heap.size) (u0 := .bool (oiv q5).lo.s) (u1 := .slice A40 n40 c40) (u2 := .int .i64 (oiv q5).lo.e) (u3 := .bool (oiv q5).hi.s) (u4 := .slice A41 n41 c41) (u5 := .int .i64 (oiv q5).hi.e) e5 (by have := LW.out; omega)
      replace r0 := cell_oth6 (g := v1.heap.size) (u0 := .bool (oiv q5).lo.s) (u1 := .slice A40 n40 c40) (u2 := .int .i64 (oiv q5).lo.e) (u3 := .bool (oiv q5).hi.s) (u4 := .slice A41 n41 c41) (u5 := .int .i64 (oiv q5).hi.e) r0 (by have := LW.out; omega)
      replace r1 := cell_oth6 (g := v1.heap.size) (u0 := .bool (oiv q5).lo.s) (u1 := .slice A40 n40 c40) (u2 := .int .i64 (oiv q5).lo.e) (u3 := .bool (oiv q5).hi.s) (u4 := .slice A41 n41 c41) (u5 := .int .i64 (oiv q5).hi.e) r1 (by have := LW.out; omega)
      replace r2 := cell_oth6 (g := v1.heap.size) (u0 := .bool (oiv q5).lo.s) (u1 := .slice A40 n40 c40) (u2 := .int .i64 (oiv q5).lo.e) (u3 := .bool (oiv q5).hi.s) (u4 := .slice A41 n41 c41) (u5 := .int .i64 (oiv q5).hi.e) r2 (by have := LW.out; omega)
      replace r3 := cell_oth6 (g := v1.heap.size) (u0 := .bool (oiv q5).lo.s) (u1 := .slice A40 n40 c40) (u2 := .int .i64 (oiv q5).lo.e) (u3 := .bool (oiv q5).hi.s) (u4 := .slice A41 n41 c41) (u5 := .int .i64 (oiv q5).hi.e) r3 (by have := LW.out; omega)
      replace r4 := cell_oth6 (g := v1.heap.size) (u0 := .bool (oiv q5).lo.s) (u1 := .slice A40 n40 c40) (u2 := .int .i64 (oiv q5).lo.e) (u3 := .bool (oiv q5).hi.s) (u4 := .slice A41 n41 c41) (u5 := .int .i64 (oiv q5).hi.e) r4 (by have := LW.out; omega)
      replace r5 := cell_oth6 (g := v1.heap.size) (u0 := .bool (oiv q5).lo.s) (u1 := .slice A40 n40 c40) (u2 := .int .i64 (oiv q5).lo.e) (u3 := .bool (oiv q5).hi.s) (u4 := .slice A41 n41 c41) (u5 := .int .i64 (oiv q5).hi.e) r5 (by have := LW.out; omega)
      replace s0 := cell_oth6 (g := v1.heap.size) (u0 := .bool (oiv q5).lo.s) (u1 := .slice A40 n40 c40) (u2 := .int .i64 (oiv q5).lo.e) (u3 := .bool (oiv q5).hi.s) (u4 := .slice A41 n41 c41) (u5 := .int .i64 (oiv q5).hi.e) s0 (by have := LW.out; omega)
      replace s1 := cell_oth6 (g := v1.heap.size) (u0 := .bool (oiv q5).lo.s) (u1 := .slice A40 n40 c40) (u2 := .int .i64 (oiv q5).lo.e) (u3 := .bool (oiv q5).hi.s) (u4 := .slice A41 n41 c41) (u5 := .int .i64 (oiv q5).hi.e) s1 (by have := LW.out; omega)
      replace s2 := cell_oth6 (g := v1.heap.size) (u0 := .bool (oiv q5).lo.s) (u1 := .slice A40 n40 c40) (u2 := .int .i64 (oiv q5).lo.e) (u3 := .bool (oiv q5).hi.s) (u4 := .slice A41 n41 c41) (u5 := .int .i64 (oiv q5).hi.e) s2 (by have := LW.out; omega)
      replace s3 := cell_oth6 (g := v1.heap.size) (u0 := .bool (oiv q5).lo.s) (u1 := .slice A40 n40 c40) (u2 := .int .i64 (oiv q5).lo.e) (u3 := .bool (oiv q5).hi.s) (u4 := .slice A41 n41 c41) (u5 := .int .i64 (oiv q5).hi.e) s3 (by have := LW.out; omega)
      replace s4 := cell_oth6 (g := v1.heap.size) (u0 := .bool (oiv q5).lo.s) (u1 := .slice A40 n40 c40) (u2 := .int .i64 (oiv q5).lo.e) (u3 := .bool (oiv q5).hi.s) (u4 := .slice A41 n41 c41) (u5 := .int .i64 (oiv q5).hi.e) s4 (by have := LW.out; omega)
      replace s5 := cell_oth6 (g := v1.heap.size) (u0 := .bool (oiv q5).lo.s) (u1 := .slice A40 n40 c40) (u2 := .int .i64 (oiv q5).lo.e) (u3 := .bool (oiv q5).hi.s) (u4 := .slice A41 n41 c41) (u5 := .int .i64 (oiv q5).hi.e) s5 (by have := LW.out; omega)
      replace Xt := Ibx.oth6 (g := v1.heap.size) Xt (by have := LW.out; omega) (.bool (oiv q5).lo.s) (.slice A40 n40 c40) (.int .i64 (oiv q5).lo.e) (.bool (oiv q5).hi.s) (.slice A41 n41 c41) (.int .i64 (oiv q5).hi.e)
      replace BB := below_put6 (g := v1.heap.size) BB (by have := LW.out; omega) (.bool (oiv q5).lo.s) (.slice A40 n40 c40) (.int .i64 (oiv q5).lo.e) (.bool (oiv q5).hi.s) (.slice A41 n41 c41) (.int .i64 (oiv q5).hi.e)
      replace Xs := Xs.put (oiv q5).lo.s A40 n40 c40 (oiv q5).lo.e (oiv q5).hi.s A41 n41 c41 (oiv q5).hi.e
      have hT := mv BB rfl hT_o
      have h1 := mv BB rfl h1_o
      have h2 := mv BB rfl h2_o
      have h3 := mv BB rfl h3_o
      have h4 := mv BB rfl h4_o
      go_wp2_with fail
      clear t0 t1 t2 t3 t4 t5 m0 m1 m2 m3 m4 m5
      generalize ((((((v5.setCell ⟨v1.heap.size, 0, none⟩ (.bool (oiv q5).lo.s)).setCell ⟨v1.heap.size, 1, none⟩ (.slice A40 n40 c40)).setCell ⟨v1.heap.size, 2, none⟩ (.int .i64 (oiv q5).lo.e)).setCell ⟨v1.heap.size, 3, none⟩ (.bool (oiv q5).hi.s)).setCell ⟨v1.heap.size, 4, none⟩ (.slice A41 n41 c41)).setCell ⟨v1.heap.size, 5, none⟩ (.int .i64 (oiv q5).hi.e)) = k2a at *
      refine (tello_to HQ6.out (amul_any S (x := X) (y := Y) (p := (m : Int)) hT h10 h11 h12 h13)).mono ?_
      rintro en v6 ⟨A42, n42, c42, A43, n43, c43, rfl, h42, h43, b⟩
      replace BB := bnx BB b rfl rfl rfl rfl
      have G := mv b rfl (J37 a0 a1 a2 a3 a4 a5 e0 e1 e2 e3 e4 e5 h10 h11 r0 r1 r2 r3 r4 r5 h12 h13 s0 s1 s2 s3 s4 s5 Xs Xt h40 h41 hT h1 h2 h3 h4)
      clear b a0 a1 a2 a3 a4 a5 e0 e1 e2 e3 e4 e5 h10 h11 r0 r1 r2 r3 r4 r5 h12 h13 s0 s1 s2 s3 s4 s5 Xs Xt h40 h41 hT h1 h2 h3 h4
      obtain ⟨a0, a1, a2, a3, a4, a5, e0, e1, e2, e3, e4, e5, h10, h11, r0, r1, r2, r3, r4, r5, h12, h13, s0, s1, s2, s3, s4, s5, Xs, Xt, h40, h41, hT, h1, h2, h3, h4⟩ := G
      clear hT h1 h2 h3 h4
      obtain ⟨t0, t1, t2, t3, t4, t5⟩ := Xt.open
      obtain ⟨m0, m1, m2, m3, m4, m5⟩ := Xt.held
      replace h10 := h10.put6 Xt (.bool (oiv q6).lo.s) (.slice A42 n42 c42) (.int .i64 (oiv q6).lo.e) (.bool (oiv q6).hi.s) (.slice A43 n43 c43) (.int .i64 (oiv q6).hi.e)
      replace h11 := h11.put6 Xt (.bool (oiv q6).lo.s) (.slice A42 n42 c42) (.int .i64 (oiv q6).lo.e) (.bool (oiv q6).hi.s) (.slice A43 n43 c43) (.int .i64 (oiv q6).hi.e)
      replace h12 := h12.put6 Xt (.bool (oiv q6).lo.s) (.slice A42 n42 c42) (.int .i64 (oiv q6).lo.e) (.bool (oiv q6).hi.s) (.slice A43 n43 c43) (.int .i64 (oiv q6).hi.e)
      replace h13 := h13.put6 Xt (.bool (oiv q6).lo.s) (.slice A42 n42 c42) (.int .i64 (oiv q6).lo.e) (.bool (oiv q6).hi.s) (.slice A43 n43 c43) (.int .i64 (oiv q6).hi.e)
      replace h40 := h40.put6 Xt (.bool (oiv q6).lo.s) (.slice A42 n42 c42) (.int .i64 (oiv q6).lo.e) (.bool (oiv q6).hi.s) (.slice A43 n43 c43) (.int .i64 (oiv q6).hi.e)
      replace h41 := h41.put6 Xt (.bool (oiv q6).lo.s) (.slice A42 n42 c42) (.int .i64 (oiv q6).lo.e) (.bool (oiv q6).hi.s) (.slice A43 n43 c43) (.int .i64 (oiv q6).hi.e)
      replace h42 := h42.put6 Xt (.bool (oiv q6).lo.s) (.slice A42 n42 c42) (.int .i64 (oiv q6).lo.e) (.bool (oiv q6).hi.s) (.slice A43 n43 c43) (.int .i64 (oiv q6).hi.e)
      replace h43 := h43.put6 Xt (.bool (oiv q6).lo.s) (.slice A42 n42 c42) (.int .i64 (oiv q6).lo.e) (.bool (oiv q6).hi.s) (.slice A43 n43 c43) (.int .i64 (oiv q6).hi.e)
      replace a0 := cell_oth6 (g := v2.heap.size) (u0 := .bool (oiv q6).lo.s) (u1 := .slice A42 n42 c42) (u2 := .int .i64 (oiv q6).lo.e) (u3 := .bool (oiv q6).hi.s) (u4 := .slice A43 n43 c43) (u5 := .int .i64 (oiv q6).hi.e) a0 (by have := LW.out; omega)
      replace a1 := cell_oth6 (g := v2.heap.size) (u0 := .bool (oiv q6).lo.s) (u1 := .slice A42 n42 c42) (u2 := .int .i64 (oiv q6).lo.e) (u3 := .bool (oiv q6).hi.s) (u4 := .slice A43 n43 c43) (u5 := .int .i64 (oiv q6).hi.e) a1 (by have := LW.out; omega)
      replace a2 := cell_oth6 (g := v2.heap.size) (u0 := .bool (oiv q6).lo.s) (u1 := .slice A42 n42 c42) (u2 := .int .i64 (oiv q6).lo.e) (u3 := .bool (oiv q6).hi.s) (u4 := .slice A43 n43 c43) (u5 := .int .i64 (oiv q6).hi.e) a2 (by have := LW.out; omega)
      replace a3 := cell_oth6 (g := v2.heap.size) (u0 := .bool (oiv q6).lo.s) (u1 := .slice A42 n42 c42) (u2 := .int .i64 (oiv q6).lo.e) (u3 := .bool (oiv q6).hi.s) (u4 := .slice A43 n43 c43) (u5 := .int .i64 (oiv q6).hi.e) a3 (by have := LW.out; omega)
      replace a4 := cell_oth6 (g := v2.heap.size) (u0 := .bool (oiv q6).lo.s) (u1 := .slice A42 n42 c42) (u2 := .int .i64 (oiv q6).lo.e) (u3 := .bool (oiv q6).hi.s) (u4 := .slice A43 n43 c43) (u5 := .int .i64 (oiv q6).hi.e) a4 (by have := LW.out; omega)
      replace a5 := cell_oth6 (g := v2.heap.size) (u0 := .bool (oiv q6).lo.s) (u1 := .slice A42 n42 c42) (u2 := .int .i64 (oiv q6).lo.e) (u3 := .bool (oiv q6).hi.s) (u4 := .slice A43 n43 c43) (u5 := .int .i64 (oiv q6).hi.e) a5 (by have := LW.out; omega)
      replace e0 := cell_oth6 (g := v2.heap.size) (u0 := .bool (oiv q6).lo.s) (u1 := .slice A42 n42 c42) (u2 := .int .i64 (oiv q6).lo.e) (u3 := .bool (oiv q6).hi.s) (u4 := .slice A43 n43 c43) (u5 := .int .i64 (oiv q6).hi.e) e0 (by have := LW.out; omega)
      replace e1 := cell_oth6 (g := v2.heap.size) (u0 := .bool (oiv q6).lo.s) (u1 := .slice A42 n42 c42) (u2 := .int .i64 (oiv q6).lo.e) (u3 := .bool (oiv q6).hi.s) (u4 := .slice A43 n43 c43) (u5 := .int .i64 (oiv q6).hi.e) e1 (by have := LW.out; omega)
      replace e2 := cell_oth6 (g := v2.heap.size) (u0 := .bool (oiv q6).lo.s) (u1 := .slice A42 n42 c42) (u2 := .int .i64 (oiv q6).lo.e) (u3 := .bool (oiv q6).hi.s) (u4 := .slice A43 n43 c43) (u5 := .int .i64 (oiv q6).hi.e) e2 (by have := LW.out; omega)
      replace e3 := cell_oth6 (g := v2.heap.size) (u0 := .bool (oiv q6).lo.s) (u1 := .slice A42 n42 c42) (u2 := .int .i64 (oiv q6).lo.e) (u3 := .bool (oiv q6).hi.s) (u4 := .slice A43 n43 c43) (u5 := .int .i64 (oiv q6).hi.e) e3 (by have := LW.out; omega)
      replace e4 := cell_oth6 (g := v2.heap.size) (u0 := .bool (oiv q6).lo.s) (u1 := .slice A42 n42 c42) (u2 := .int .i64 (oiv q6).lo.e) (u3 := .bool (oiv q6).hi.s) (u4 := .slice A43 n43 c43) (u5 := .int .i64 (oiv q6).hi.e) e4 (by have := LW.out; omega)
      replace e5 := cell_oth6 (g := v2.heap.size) (u0 := .bool (oiv q6).lo.s) (u1 := .slice A42 n42 c42) (u2 := .int .i64 (oiv q6).lo.e) (u3 := .bool (oiv q6).hi.s) (u4 := .slice A43 n43 c43) (u5 := .int .i64 (oiv q6).hi.e) e5 (by have := LW.out; omega)
      replace r0 := cell_oth6 (g := v2.heap.size) (u0 := .bool (oiv q6).lo.s) (u1 := .slice A42 n42 c42) (u2 := .int .i64 (oiv q6).lo.e) (u3 := .bool (oiv q6).hi.s) (u4 := .slice A43 n43 c43) (u5 := .int .i64 (oiv q6).hi.e) r0 (by have := LW.out; omega)
      replace r1 := cell_oth6 (g := v2.heap.size) (u0 := .bool (oiv q6).lo.s) (u1 := .slice A42 n42 c42) (u2 := .int .i64 (oiv q6).lo.e) (u3 := .bool (oiv q6).hi.s) (u4 := .slice A43 n43 c43) (u5 := .int .i64 (oiv q6).hi.e) r1 (by have := LW.out; omega)
      replace r2 := cell_oth6 (g := v2.heap.size) (u0 := .bool (oiv q6).lo.s) (u1 := .slice A42 n42 c42) (u2 := .int .i64 (oiv q6).lo.e) (u3 := .bool (oiv q6).hi.s) (u4 := .slice A43 n43 c43) (u5 := .int .i64 (oiv q6).hi.e) r2 (by have := LW.out; omega)
      replace r3 := cell_oth6 (g := v2.heap.size) (u0 := .bool (oiv q6).lo.s) (u1 := .slice A42 n42 c42) (u2 := .int .i64 (oiv q6).lo.e) (u3 := .bool (oiv q6).hi.s) (u4 := .slice A43 n43 c43) (u5 := .int .i64 (oiv q6).hi.e) r3 (by have := LW.out; omega)
      replace r4 := cell_oth6 (g := v2.heap.size) (u0 := .bool (oiv q6).lo.s) (u1 := .slice A42 n42 c42) (u2 := .int .i64 (oiv q6).lo.e) (u3 := .bool (oiv q6).hi.s) (u4 := .slice A43 n43 c43) (u5 := .int .i64 (oiv q6).hi.e) r4 (by have := LW.out; omega)
      replace r5 := cell_oth6 (g := v2.heap.size) (u0 := .bool (oiv q6).lo.s) (u1 := .slice A42 n42 c42) (u2 := .int .i64 (oiv q6).lo.e) (u3 := .bool (oiv q6).hi.s) (u4 := .slice A43 n43 c43) (u5 := .int .i64 (oiv q6).hi.e) r5 (by have := LW.out; omega)
      replace s0 := cell_oth6 (g := v2.heap.size) (u0 := .bool (oiv q6).lo.s) (u1 := .slice A42 n42 c42) (u2 := .int .i64 (oiv q6).lo.e) (u3 := .bool (oiv q6).hi.s) (u4 := .slice A43 n43 c43) (u5 := .int .i64 (oiv q6).hi.e) s0 (by have := LW.out; omega)
      replace s1 := cell_oth6 (g := v2.heap.size) (u0 := .bool (oiv q6).lo.s) (u1 := .slice A42 n42 c42) (u2 := .int .i64 (oiv q6).lo.e) (u3 := .bool (oiv q6).hi.s) (u4 := .slice A43 n43 c43) (u5 := .int .i64 (oiv q6).hi.e) s1 (by have := LW.out; omega)
      replace s2 := cell_oth6 (g := v2.heap.size) (u0 := .bool (oiv q6).lo.s) (u1 := .slice A42 n42 c42) (u2 := .int .i64 (oiv q6).lo.e) (u3 := .bool (oiv q6).hi.s) (u4 := .slice A43 n43 c43) (u5 := .int .i64 (oiv q6).hi.e) s2 (by have := LW.out; omega)
      replace s3 := cell_oth6 (g := v2.heap.size) (u0 := .bool (oiv q6).lo.s) (u1 := .slice A42 n42 c42) (u2 := .int .i64 (oiv q6).lo.e) (u3 := .bool (oiv q6).hi.s) (u4 := .slice A43 n43 c43) (u5 := .int .i64 (oiv q6).hi.e) s3 (by have := LW.out; omega)
      replace s4 := cell_oth6 (g := v2.heap.size) (u0 := .bool (oiv q6).lo.s) (u1 := .slice A42 n42 c42) (u2 := .int .i64 (oiv q6).lo.e) (u3 := .bool (oiv q6).hi.s) (u4 := .slice A43 n43 c43) (u5 := .int .i64 (oiv q6).hi.e) s4 (by have := LW.out; omega)
      replace s5 := cell_oth6 (g := v2.heap.size) (u0 := .bool (oiv q6).lo.s) (u1 := .slice A42 n42 c42) (u2 := .int .i64 (oiv q6).lo.e) (u3 := .bool (oiv q6).hi.s) (u4 := .slice A43 n43 c43) (u5 := .int .i64 (oiv q6).hi.e) s5 (by have := LW.out; omega)
      replace Xs := Ibx.oth6 (g := v2.heap.size) Xs (by have := LW.out; omega) (.bool (oiv q6).lo.s) (.slice A42 n42 c42) (.int .i64 (oiv q6).lo.e) (.bool (oiv q6).hi.s) (.slice A43 n43 c43) (.int .i64 (oiv q6).hi.e)
      replace BB := below_put6 (g := v2.heap.size) BB (by have := LW.out; omega) (.bool (oiv q6).lo.s) (.slice A42 n42 c42) (.int .i64 (oiv q6).lo.e) (.bool (oiv q6).hi.s) (.slice A43 n43 c43) (.int .i64 (oiv q6).hi.e)
      replace Xt := Xt.put (oiv q6).lo.s A42 n42 c42 (oiv q6).lo.e (oiv q6).hi.s A43 n43 c43 (oiv q6).hi.e
      have hT := mv BB rfl hT_o
      have h1 := mv BB rfl h1_o
      have h2 := mv BB rfl h2_o
      have h3 := mv BB rfl h3_o
      have h4 := mv BB rfl h4_o
      obtain ⟨p0, p1, p2, p3, p4, p5⟩ := Xs.held
      obtain ⟨k0, k1, k2, k3, k4, k5⟩ := Xt.held
      go_upto_region 19 with fail
      clear t0 t1 t2 t3 t4 t5 m0 m1 m2 m3 m4 m5
      generalize ((((((v6.setCell ⟨v2.heap.size, 0, none⟩ (.bool (oiv q6).lo.s)).setCell ⟨v2.heap.size, 1, none⟩ (.slice A42 n42 c42)).setCell ⟨v2.heap.size, 2, none⟩ (.int .i64 (oiv q6).lo.e)).setCell ⟨v2.heap.size, 3, none⟩ (.bool (oiv q6).hi.s)).setCell ⟨v2.heap.size, 4, none⟩ (.slice A43 n43 c43)).setCell ⟨v2.heap.size, 5, none⟩ (.int .i64 (oiv q6).hi.e)) = k2b at *
      go_cut [167] (fun v wx => v = .bool false ∧ Below k2b.heap.size k2b wx)
      case first =>
        have B1 := Below.refl k2b.heap.size k2b
        clear BB
        have BB := B1
        clear B1
        by_cases z1 : okc q5 = 0
        rotate_left
        · have d1 : (okc q5 == 0) = false := by simp; exact z1
          clear z1
          go_wp2_with fail
          go_meet
          case rel => exact ⟨rfl, BB⟩
        by_cases z2 : okc q6 = 0
        rotate_left
        · have d1 : (okc q5 == 0) = true := by simp; exact z1
          have d2 : (okc q6 == 0) = false := by simp; exact z2
          clear z1 z2
          go_wp2_with fail
          go_meet
          case rel => exact ⟨rfl, BB⟩
        have d1 : (okc q5 == 0) = true := by simp; exact z1
        have d2 : (okc q6 == 0) = true := by simp; exact z2
        have HW := Lib.hid (HG2.out z1 z2)
        clear z1 z2
        go_wp2_with fail
        refine (show Calls _ _ _ _ (Bools true _) from by have := iwithin_any (K := S.K) (x := oiv q5) (y := oiv q6) S.big hT h40 h41 h42 h43; rwa [HW.out] at this).mono ?_
        rintro en gw ⟨rfl, b⟩
        replace BB := bnx BB b rfl rfl rfl rfl
        have G := mv b rfl (J17 hT h40 h41 h42 h43 p0 p1 p2 p3 p4 p5 k0 k1 k2 k3 k4 k5)
        clear b hT h40 h41 h42 h43 p0 p1 p2 p3 p4 p5 k0 k1 k2 k3 k4 k5
        obtain ⟨hT, h40, h41, h42, h43, p0, p1, p2, p3, p4, p5, k0, k1, k2, k3, k4, k5⟩ := G
        go_wp2_with fail
        go_meet
        case rel => exact ⟨rfl, BB⟩
      case rest =>
        obtain ⟨rfl, b⟩ := hcut
        clear h40 h41 h42 h43 p0 p1 p2 p3 p4 p5 k0 k1 k2 k3 k4 k5
        replace BB := bnx BB b rfl rfl rfl rfl
        have G := mv b rfl (J35 a0 a1 a2 a3 a4 a5 e0 e1 e2 e3 e4 e5 h10 h11 r0 r1 r2 r3 r4 r5 h12 h13 s0 s1 s2 s3 s4 s5 Xs Xt hT h1 h2 h3 h4)
        clear b a0 a1 a2 a3 a4 a5 e0 e1 e2 e3 e4 e5 h10 h11 r0 r1 r2 r3 r4 r5 h12 h13 s0 s1 s2 s3 s4 s5 Xs Xt hT h1 h2 h3 h4
        obtain ⟨a0, a1, a2, a3, a4, a5, e0, e1, e2, e3, e4, e5, h10, h11, r0, r1, r2, r3, r4, r5, h12, h13, s0, s1, s2, s3, s4, s5, Xs, Xt, hT, h1, h2, h3, h4⟩ := G
        generalize wc = k2c at *
        go_wp2_with fail
        refine (tello_to HQ7.out (asqr_any S (p := (n : Int)) hT h1 h2)).mono ?_
        rintro en v7 ⟨A50, n50, c50, A51, n51, c51, rfl, h50, h51, b⟩
        replace BB := bnx BB b rfl rfl rfl rfl
        have G := mv b rfl (J35 a0 a1 a2 a3 a4 a5 e0 e1 e2 e3 e4 e5 h10 h11 r0 r1 r2 r3 r4 r5 h12 h13 s0 s1 s2 s3 s4 s5 Xs Xt hT h1 h2 h3 h4)
        clear b a0 a1 a2 a3 a4 a5 e0 e1 e2 e3 e4 e5 h10 h11 r0 r1 r2 r3 r4 r5 h12 h13 s0 s1 s2 s3 s4 s5 Xs Xt hT h1 h2 h3 h4
        obtain ⟨a0, a1, a2, a3, a4, a5, e0, e1, e2, e3, e4, e5, h10, h11, r0, r1, r2, r3, r4, r5, h12, h13, s0, s1, s2, s3, s4, s5, Xs, Xt, hT, h1, h2, h3, h4⟩ := G
        clear hT h1 h2 h3 h4
        obtain ⟨t0, t1, t2, t3, t4, t5⟩ := Xs.open
        obtain ⟨m0, m1, m2, m3, m4, m5⟩ := Xs.held
        replace h10 := h10.put6 Xs (.bool (oiv q7).lo.s) (.slice A50 n50 c50) (.int .i64 (oiv q7).lo.e) (.bool (oiv q7).hi.s) (.slice A51 n51 c51) (.int .i64 (oiv q7).hi.e)
        replace h11 := h11.put6 Xs (.bool (oiv q7).lo.s) (.slice A50 n50 c50) (.int .i64 (oiv q7).lo.e) (.bool (oiv q7).hi.s) (.slice A51 n51 c51) (.int .i64 (oiv q7).hi.e)
        replace h12 := h12.put6 Xs (.bool (oiv q7).lo.s) (.slice A50 n50 c50) (.int .i64 (oiv q7).lo.e) (.bool (oiv q7).hi.s) (.slice A51 n51 c51) (.int .i64 (oiv q7).hi.e)
        replace h13 := h13.put6 Xs (.bool (oiv q7).lo.s) (.slice A50 n50 c50) (.int .i64 (oiv q7).lo.e) (.bool (oiv q7).hi.s) (.slice A51 n51 c51) (.int .i64 (oiv q7).hi.e)
        replace h50 := h50.put6 Xs (.bool (oiv q7).lo.s) (.slice A50 n50 c50) (.int .i64 (oiv q7).lo.e) (.bool (oiv q7).hi.s) (.slice A51 n51 c51) (.int .i64 (oiv q7).hi.e)
        replace h51 := h51.put6 Xs (.bool (oiv q7).lo.s) (.slice A50 n50 c50) (.int .i64 (oiv q7).lo.e) (.bool (oiv q7).hi.s) (.slice A51 n51 c51) (.int .i64 (oiv q7).hi.e)
        replace a0 := cell_oth6 (g := v1.heap.size) (u0 := .bool (oiv q7).lo.s) (u1 := .slice A50 n50 c50) (u2 := .int .i64 (oiv q7).lo.e) (u3 := .bool (oiv q7).hi.s) (u4 := .slice A51 n51 c51) (u5 := .int .i64 (oiv q7).hi.e) a0 (by have := LW.out; omega)
        replace a1 := cell_oth6 (g := v1.heap.size) (u0 := .bool (oiv q7).lo.s) (u1 := .slice A50 n50 c50) (u2 := .int .i64 (oiv q7).lo.e) (u3 := .bool (oiv q7).hi.s) (u4 := .slice A51 n51 c51) (u5 := .int .i64 (oiv q7).hi.e) a1 (by have := LW.out; omega)
        replace a2 := cell_oth6 (g := v1.heap.size) (u0 := .bool (oiv q7).lo.s) (u1 := .slice A50 n50 c50) (u2 := .int .i64 (oiv q7).lo.e) (u3 := .bool (oiv q7).hi.s) (u4 := .slice A51 n51 c51) (u5 := .int .i64 (oiv q7).hi.e) a2 (by have := LW.out; omega)
        replace a3 := cell_oth6 (g := v1.heap.size) (u0 := .bool (oiv q7).lo.s) (u1 := .slice A50 n50 c50) (u2 := .int .i64 (oiv q7).lo.e) (u3 := .bool (oiv q7).hi.s) (u4 := .slice A51 n51 c51) (u5 := .int .i64 (oiv q7).hi.e) a3 (by have := LW.out; omega)
        replace a4 := cell_oth6 (g := v1.heap.size) (u0 := .bool (oiv q7).lo.s) (u1 := .slice A50 n50 c50) (u2 := .int .i64 (oiv q7).lo.e) (u3 := .bool (oiv q7).hi.s) (u4 := .slice A51 n51 c51) (u5 := .int .i64 (oiv q7).hi.e) a4 (by have := LW.out; omega)
        replace a5 := cell_oth6 (g := v1.heap.size) (u0 := .bool (oiv q7).lo.s) (u1 := .slice A50 n50 c50) (u2 := .int .i64 (oiv q7).lo.e) (u3 := .bool (oiv q7).hi.s) (u4 := .slice A51 n51 c51) (u5 := .int .i64 (oiv q7).hi.e) a5 (by have := LW.out; omega)
        replace e0 := cell_oth6 (g := v1.heap.size) (u0 := .bool (oiv q7).lo.s) (u1 := .slice A50 n50 c50) (u2 := .int .i64 (oiv q7).lo.e) (u3 := .bool (oiv q7).hi.s) (u4 := .slice A51 n51 c51) (u5 := .int .i64 (oiv q7).hi.e) e0 (by have := LW.out; omega)
        replace e1 := cell_oth6 (g := v1.heap.size) (u0 := .bool (oiv q7).lo.s) (u1 := .slice A50 n50 c50) (u2 := .int .i64 (oiv q7).lo.e) (u3 := .bool (oiv q7).hi.s) (u4 := .slice A51 n51 c51) (u5 := .int .i64 (oiv q7).hi.e) e1 (by have := LW.out; omega)
        replace e2 := cell_oth6 (g := v1.heap.size) (u0 := .bool (oiv q7).lo.s) (u1 := .slice A50 n50 c50) (u2 := .int .i64 (oiv q7).lo.e) (u3 := .bool (oiv q7).hi.s) (u4 := .slice A51 n51 c51) (u5 := .int .i64 (oiv q7).hi.e) e2 (by have := LW.out; omega)
        replace e3 := cell_oth6 (g := v1.heap.size) (u0 := .bool (oiv q7).lo.s) (u1 := .slice A50 n50 c50) (u2 := .int .i64 (oiv q7).lo.e) (u3 := .bool (oiv q7).hi.s) (u4 := .slice A51 n51 c51) (u5 := .int .i64 (oiv q7).hi.e) e3 (by have := LW.out; omega)
        replace e4 := cell_oth6 (g := v1.heap.size) (u0 := .bool (oiv q7).lo.s) (u1 := .slice A50 n50 c50) (u2 := .int .i64 (oiv q7).lo.e) (u3 := .bool (oiv q7).hi.s) (u4 := .slice A51 n51 c51) (u5 := .int .i64 (oiv q7).hi.e) e4 (by have := LW.out; omega)
        replace e5 := cell_oth6 (g := v1.heap.size) (u0 := .bool (oiv q7).lo.s) (u1 := .slice A50 n50 c50) (u2 := .int .i64 (oiv q7).lo.e) (u3 := .bool (oiv q7).hi.s) (u4 := .slice A51 n51 c51) (u5 := .int .i64 (oiv q7).hi.e) e5 (by have := LW.out; omega)
        replace r0 := cell_oth6 (g := v1.heap.size) (u0 := .bool (oiv q7).lo.s) (u1 := .slice A50 n50 c50) (u2 := .int .i64 (oiv q7).lo.e) (u3 := .bool (oiv q7).hi.s) (u4 := .slice A51 n51 c51) (u5 := .int .i64 (oiv q7).hi.e) r0 (by have := LW.out; omega)
        replace r1 := cell_oth6 (g := v1.heap.size) (u0 := .bool (oiv q7).lo.s) (u1 := .slice A50 n50 c50) (u2 := .int .i64 (oiv q7).lo.e) (u3 := .bool (oiv q7).hi.s) (u4 := .slice A51 n51 c51) (u5 := .int .i64 (oiv q7).hi.e) r1 (by have := LW.out; omega)
        replace r2 := cell_oth6 (g := v1.heap.size) (u0 := .bool (oiv q7).lo.s) (u1 := .slice A50 n50 c50) (u2 := .int .i64 (oiv q7).lo.e) (u3 := .bool (oiv q7).hi.s) (u4 := .slice A51 n51 c51) (u5 := .int .i64 (oiv q7).hi.e) r2 (by have := LW.out; omega)
        replace r3 := cell_oth6 (g := v1.heap.size) (u0 := .bool (oiv q7).lo.s) (u1 := .slice A50 n50 c50) (u2 := .int .i64 (oiv q7).lo.e) (u3 := .bool (oiv q7).hi.s) (u4 := .slice A51 n51 c51) (u5 := .int .i64 (oiv q7).hi.e) r3 (by have := LW.out; omega)
        replace r4 := cell_oth6 (g := v1.heap.size) (u0 := .bool (oiv q7).lo.s) (u1 := .slice A50 n50 c50) (u2 := .int .i64 (oiv q7).lo.e) (u3 := .bool (oiv q7).hi.s) (u4 := .slice A51 n51 c51) (u5 := .int .i64 (oiv q7).hi.e) r4 (by have := LW.out; omega)
        replace r5 := cell_oth6 (g := v1.heap.size) (u0 := .bool (oiv q7).lo.s) (u1 := .slice A50 n50 c50) (u2 := .int .i64 (oiv q7).lo.e) (u3 := .bool (oiv q7).hi.s) (u4 := .slice A51 n51 c51) (u5 := .int .i64 (oiv q7).hi.e) r5 (by have := LW.out; omega)
        replace s0 := cell_oth6 (g := v1.heap.size) (u0 := .bool (oiv q7).lo.s) (u1 := .slice A50 n50 c50) (u2 := .int .i64 (oiv q7).lo.e) (u3 := .bool (oiv q7).hi.s) (u4 := .slice A51 n51 c51) (u5 := .int .i64 (oiv q7).hi.e) s0 (by have := LW.out; omega)
        replace s1 := cell_oth6 (g := v1.heap.size) (u0 := .bool (oiv q7).lo.s) (u1 := .slice A50 n50 c50) (u2 := .int .i64 (oiv q7).lo.e) (u3 := .bool (oiv q7).hi.s) (u4 := .slice A51 n51 c51) (u5 := .int .i64 (oiv q7).hi.e) s1 (by have := LW.out; omega)
        replace s2 := cell_oth6 (g := v1.heap.size) (u0 := .bool (oiv q7).lo.s) (u1 := .slice A50 n50 c50) (u2 := .int .i64 (oiv q7).lo.e) (u3 := .bool (oiv q7).hi.s) (u4 := .slice A51 n51 c51) (u5 := .int .i64 (oiv q7).hi.e) s2 (by have := LW.out; omega)
        replace s3 := cell_oth6 (g := v1.heap.size) (u0 := .bool (oiv q7).lo.s) (u1 := .slice A50 n50 c50) (u2 := .int .i64 (oiv q7).lo.e) (u3 := .bool (oiv q7).hi.s) (u4 := .slice A51 n51 c51) (u5 := .int .i64 (oiv q7).hi.e) s3 (by have := LW.out; omega)
        replace s4 := cell_oth6 (g := v1.heap.size) (u0 := .bool (oiv q7).lo.s) (u1 := .slice A50 n50 c50) (u2 := .int .i64 (oiv q7).lo.e) (u3 := .bool (oiv q7).hi.s) (u4 := .slice A51 n51 c51) (u5 := .int .i64 (oiv q7).hi.e) s4 (by have := LW.out; omega)
        replace s5 := cell_oth6 (g := v1.heap.size) (u0 := .bool (oiv q7).lo.s) (u1 := .slice A50 n50 c50) (u2 := .int .i64 (oiv q7).lo.e) (u3 := .bool (oiv q7).hi.s) (u4 := .slice A51 n51 c51) (u5 := .int .i64 (oiv q7).hi.e) s5 (by have := LW.out; omega)
        replace Xt := Ibx.oth6 (g := v1.heap.size) Xt (by have := LW.out; omega) (.bool (oiv q7).lo.s) (.slice A50 n50 c50) (.int .i64 (oiv q7).lo.e) (.bool (oiv q7).hi.s) (.slice A51 n51 c51) (.int .i64 (oiv q7).hi.e)
        replace BB := below_put6 (g := v1.heap.size) BB (by have := LW.out; omega) (.bool (oiv q7).lo.s) (.slice A50 n50 c50) (.int .i64 (oiv q7).lo.e) (.bool (oiv q7).hi.s) (.slice A51 n51 c51) (.int .i64 (oiv q7).hi.e)
        replace Xs := Xs.put (oiv q7).lo.s A50 n50 c50 (oiv q7).lo.e (oiv q7).hi.s A51 n51 c51 (oiv q7).hi.e
        have hT := mv BB rfl hT_o
        have h1 := mv BB rfl h1_o
        have h2 := mv BB rfl h2_o
        have h3 := mv BB rfl h3_o
        have h4 := mv BB rfl h4_o
        go_wp2_with fail
        clear t0 t1 t2 t3 t4 t5 m0 m1 m2 m3 m4 m5
        generalize ((((((v7.setCell ⟨v1.heap.size, 0, none⟩ (.bool (oiv q7).lo.s)).setCell ⟨v1.heap.size, 1, none⟩ (.slice A50 n50 c50)).setCell ⟨v1.heap.size, 2, none⟩ (.int .i64 (oiv q7).lo.e)).setCell ⟨v1.heap.size, 3, none⟩ (.bool (oiv q7).hi.s)).setCell ⟨v1.heap.size, 4, none⟩ (.slice A51 n51 c51)).setCell ⟨v1.heap.size, 5, none⟩ (.int .i64 (oiv q7).hi.e)) = k3a at *
        refine (tello_to HQ8.out (asqr_any S (x := X) (p := (m : Int)) hT h10 h11)).mono ?_
        rintro en v8 ⟨A52, n52, c52, A53, n53, c53, rfl, h52, h53, b⟩
        replace BB := bnx BB b rfl rfl rfl rfl
        have G := mv b rfl (J37 a0 a1 a2 a3 a4 a5 e0 e1 e2 e3 e4 e5 h10 h11 r0 r1 r2 r3 r4 r5 h12 h13 s0 s1 s2 s3 s4 s5 Xs Xt h50 h51 hT h1 h2 h3 h4)
        clear b a0 a1 a2 a3 a4 a5 e0 e1 e2 e3 e4 e5 h10 h11 r0 r1 r2 r3 r4 r5 h12 h13 s0 s1 s2 s3 s4 s5 Xs Xt h50 h51 hT h1 h2 h3 h4
        obtain ⟨a0, a1, a2, a3, a4, a5, e0, e1, e2, e3, e4, e5, h10, h11, r0, r1, r2, r3, r4, r5, h12, h13, s0, s1, s2, s3, s4, s5, Xs, Xt, h50, h51, hT, h1, h2, h3, h4⟩ := G
        clear hT h1 h2 h3 h4
        obtain ⟨t0, t1, t2, t3, t4, t5⟩ := Xt.open
        obtain ⟨m0, m1, m2, m3, m4, m5⟩ := Xt.held
        replace h10 := h10.put6 Xt (.bool (oiv q8).lo.s) (.slice A52 n52 c52) (.int .i64 (oiv q8).lo.e) (.bool (oiv q8).hi.s) (.slice A53 n53 c53) (.int .i64 (oiv q8).hi.e)
        replace h11 := h11.put6 Xt (.bool (oiv q8).lo.s) (.slice A52 n52 c52) (.int .i64 (oiv q8).lo.e) (.bool (oiv q8).hi.s) (.slice A53 n53 c53) (.int .i64 (oiv q8).hi.e)
        replace h12 := h12.put6 Xt (.bool (oiv q8).lo.s) (.slice A52 n52 c52) (.int .i64 (oiv q8).lo.e) (.bool (oiv q8).hi.s) (.slice A53 n53 c53) (.int .i64 (oiv q8).hi.e)
        replace h13 := h13.put6 Xt (.bool (oiv q8).lo.s) (.slice A52 n52 c52) (.int .i64 (oiv q8).lo.e) (.bool (oiv q8).hi.s) (.slice A53 n53 c53) (.int .i64 (oiv q8).hi.e)
        replace h50 := h50.put6 Xt (.bool (oiv q8).lo.s) (.slice A52 n52 c52) (.int .i64 (oiv q8).lo.e) (.bool (oiv q8).hi.s) (.slice A53 n53 c53) (.int .i64 (oiv q8).hi.e)
        replace h51 := h51.put6 Xt (.bool (oiv q8).lo.s) (.slice A52 n52 c52) (.int .i64 (oiv q8).lo.e) (.bool (oiv q8).hi.s) (.slice A53 n53 c53) (.int .i64 (oiv q8).hi.e)
        replace h52 := h52.put6 Xt (.bool (oiv q8).lo.s) (.slice A52 n52 c52) (.int .i64 (oiv q8).lo.e) (.bool (oiv q8).hi.s) (.slice A53 n53 c53) (.int .i64 (oiv q8).hi.e)
        replace h53 := h53.put6 Xt (.bool (oiv q8).lo.s) (.slice A52 n52 c52) (.int .i64 (oiv q8).lo.e) (.bool (oiv q8).hi.s) (.slice A53 n53 c53) (.int .i64 (oiv q8).hi.e)
        replace a0 := cell_oth6 (g := v2.heap.size) (u0 := .bool (oiv q8).lo.s) (u1 := .slice A52 n52 c52) (u2 := .int .i64 (oiv q8).lo.e) (u3 := .bool (oiv q8).hi.s) (u4 := .slice A53 n53 c53) (u5 := .int .i64 (oiv q8).hi.e) a0 (by have := LW.out; omega)
        replace a1 := cell_oth6 (g := v2.heap.size) (u0 := .bool (oiv q8).lo.s) (u1 := .slice A52 n52 c52) (u2 := .int .i64 (oiv q8).lo.e) (u3 := .bool (oiv q8).hi.s) (u4 := .slice A53 n53 c53) (u5 := .int .i64 (oiv q8).hi.e) a1 (by have := LW.out; omega)
        replace a2 := cell_oth6 (g := v2.heap.size) (u0 := .bool (oiv q8).lo.s) (u1 := .slice A52 n52 c52) (u2 := .int .i64 (oiv q8).lo.e) (u3 := .bool (oiv q8).hi.s) (u4 := .slice A53 n53 c53) (u5 := .int .i64 (oiv q8).hi.e) a2 (by have := LW.out; omega)
        replace a3 := cell_oth6 (g := v2.heap.size) (u0 := .bool (oiv q8).lo.s) (u1 := .slice A52 n52 c52) (u2 := .int .i64 (oiv q8).lo.e) (u3 := .bool (oiv q8).hi.s) (u4 := .slice A53 n53 c53) (u5 := .int .i64 (oiv q8).hi.e) a3 (by have := LW.out; omega)
        replace a4 := cell_oth6 (g := v2.heap.size) (u0 := .bool (oiv q8).lo.s) (u1 := .slice A52 n52 c52) (u2 := .int .i64 (oiv q8).lo.e) (u3 := .bool (oiv q8).hi.s) (u4 := .slice A53 n53 c53) (u5 := .int .i64 (oiv q8).hi.e) a4 (by have := LW.out; omega)
        replace a5 := cell_oth6 (g := v2.heap.size) (u0 := .bool (oiv q8).lo.s) (u1 := .slice A52 n52 c52) (u2 := .int .i64 (oiv q8).lo.e) (u3 := .bool (oiv q8).hi.s) (u4 := .slice A53 n53 c53) (u5 := .int .i64 (oiv q8).hi.e) a5 (by have := LW.out; omega)
        replace e0 := cell_oth6 (g := v2.heap.size) (u0 := .bool (oiv q8).lo.s) (u1 := .slice A52 n52 c52) (u2 := .int .i64 (oiv q8).lo.e) (u3 := .bool (oiv q8).hi.s) (u4 := .slice A53 n53 c53) (u5 := .int .i64 (oiv q8).hi.e) e0 (by have := LW.out; omega)
        replace e1 := cell_oth6 (g := v2.heap.size) (u0 := .bool (oiv q8).lo.s) (u1 := .slice A52 n52 c52) (u2 := .int .i64 (oiv q8).lo.e) (u3 := .bool (oiv q8).hi.s) (u4 := .slice A53 n53 c53) (u5 := .int .i64 (oiv q8).hi.e) e1 (by have := LW.out; omega)
        replace e2 := cell_oth6 (g := v2.heap.size) (u0 := .bool (oiv q8).lo.s) (u1 := .slice A52 n52 c52) (u2 := .int .i64 (oiv q8).lo.e) (u3 := .bool (oiv q8).hi.s) (u4 := .slice A53 n53 c53) (u5 := .int .i64 (oiv q8).hi.e) e2 (by have := LW.out; omega)
        replace e3 := cell_oth6 (g := v2.heap.size) (u0 := .bool (oiv q8).lo.s) (u1 := .slice A52 n52 c52) (u2 := .int .i64 (oiv q8).lo.e) (u3 := .bool (oiv q8).hi.s) (u4 := .slice A53 n53 c53) (u5 := .int .i64 (oiv q8).hi.e) e3 (by have := LW.out; omega)
        replace e4 := cell_oth6 (g := v2.heap.size) (u0 := .bool (oiv q8).lo.s) (u1 := .slice A52 n52 c52) (u2 := .int .i64 (oiv q8).lo.e) (u3 := .bool (oiv q8).hi.s) (u4 := .slice A53 n53 c53) (u5 := .int .i64 (oiv q8).hi.e) e4 (by have := LW.out; omega)
        replace e5 := cell_oth6 (g := v2.heap.size) (u0 := .bool (oiv q8).lo.s) (u1 := .slice A52 n52 c52) (u2 := .int .i64 (oiv q8).lo.e) (u3 := .bool (oiv q8).hi.s) (u4 := .slice A53 n53 c53) (u5 := .int .i64 (oiv q8).hi.e) e5 (by have := LW.out; omega)
        replace r0 := cell_oth6 (g := v2.heap.size) (u0 := .bool (oiv q8).lo.s) (u1 := .slice A52 n52 c52) (u2 := .int .i64 (oiv q8).lo.e) (u3 := .bool (oiv q8).hi.s) (u4 := .slice A53 n53 c53) (u5 := .int .i64 (oiv q8).hi.e) r0 (by have := LW.out; omega)
        replace r1 := cell_oth6 (g := v2.heap.size) (u0 := .bool (oiv q8).lo.s) (u1 := .slice A52 n52 c52) (u2 := .int .i64 (oiv q8).lo.e) (u3 := .bool (oiv q8).hi.s) (u4 := .slice A53 n53 c53) (u5 := .int .i64 (oiv q8).hi.e) r1 (by have := LW.out; omega)
        replace r2 := cell_oth6 (g := v2.heap.size) (u0 := .bool (oiv q8).lo.s) (u1 := .slice A52 n52 c52) (u2 := .int .i64 (oiv q8).lo.e) (u3 := .bool (oiv q8).hi.s) (u4 := .slice A53 n53 c53) (u5 := .int .i64 (oiv q8).hi.e) r2 (by have := LW.out; omega)
        replace r3 := cell_oth6 (g := v2.heap.size) (u0 := .bool (oiv q8).lo.s) (u1 := .slice A52 n52 c52) (u2 := .int .i64 (oiv q8).lo.e) (u3 := .bool (oiv q8).hi.s) (u4 := .slice A53 n53 c53) (u5 := .int .i64 (oiv q8).hi.e) r3 (by have := LW.out; omega)
        replace r4 := cell_oth6 (g := v2.heap.size) (u0 := .bool (oiv q8).lo.s) (u1 := .slice A52 n52 c52) (u2 := .int .i64 (oiv q8).lo.e) (u3 := .bool (oiv q8).hi.s) (u4 := .slice A53 n53 c53) (u5 := .int .i64 (oiv q8).hi.e) r4 (by have := LW.out; omega)
        replace r5 := cell_oth6 (g := v2.heap.size) (u0 := .bool (oiv q8).lo.s) (u1 := .slice A52 n52 c52) (u2 := .int .i64 (oiv q8).lo.e) (u3 := .bool (oiv q8).hi.s) (u4 := .slice A53 n53 c53) (u5 := .int .i64 (oiv q8).hi.e) r5 (by have := LW.out; omega)
        replace s0 := cell_oth6 (g := v2.heap.size) (u0 := .bool (oiv q8).lo.s) (u1 := .slice A52 n52 c52) (u2 := .int .i64 (oiv q8).lo.e) (u3 := .bool (oiv q8).hi.s) (u4 := .slice A53 n53 c53) (u5 := .int .i64 (oiv q8).hi.e) s0 (by have := LW.out; omega)
        replace s1 := cell_oth6 (g := v2.heap.size) (u0 := .bool (oiv q8).lo.s) (u1 := .slice A52 n52 c52) (u2 := .int .i64 (oiv q8).lo.e) (u3 := .bool (oiv q8).hi.s) (u4 := .slice A53 n53 c53) (u5 := .int .i64 (oiv q8).hi.e) s1 (by have := LW.out; omega)
        replace s2 := cell_oth6 (g := v2.heap.size) (u0 := .bool (oiv q8).lo.s) (u1 := .slice A52 n52 c52) (u2 := .int .i64 (oiv q8).lo.e) (u3 := .bool (oiv q8).hi.s) (u4 := .slice A53 n53 c53) (u5 := .int .i64 (oiv q8).hi.e) s2 (by have := LW.out; omega)
        replace s3 := cell_oth6 (g := v2.heap.size) (u0 := .bool (oiv q8).lo.s) (u1 := .slice A52 n52 c52) (u2 := .int .i64 (oiv q8).lo.e) (u3 := .bool (oiv q8).hi.s) (u4 := .slice A53 n53 c53) (u5 := .int .i64 (oiv q8).hi.e) s3 (by have := LW.out; omega)
        replace s4 := cell_oth6 (g := v2.heap.size) (u0 := .bool (oiv q8).lo.s) (u1 := .slice A52 n52 c52) (u2 := .int .i64 (oiv q8).lo.e) (u3 := .bool (oiv q8).hi.s) (u4 := .slice A53 n53 c53) (u5 := .int .i64 (oiv q8).hi.e) s4 (by have := LW.out; omega)
        replace s5 := cell_oth6 (g := v2.heap.size) (u0 := .bool (oiv q8).lo.s) (u1 := .slice A52 n52 c52) (u2 := .int .i64 (oiv q8).lo.e) (u3 := .bool (oiv q8).hi.s) (u4 := .slice A53 n53 c53) (u5 := .int .i64 (oiv q8).hi.e) s5 (by have := LW.out; omega)
        replace Xs := Ibx.oth6 (g := v2.heap.size) Xs (by have := LW.out; omega) (.bool (oiv q8).lo.s) (.slice A52 n52 c52) (.int .i64 (oiv q8).lo.e) (.bool (oiv q8).hi.s) (.slice A53 n53 c53) (.int .i64 (oiv q8).hi.e)
        replace BB := below_put6 (g := v2.heap.size) BB (by have := LW.out; omega) (.bool (oiv q8).lo.s) (.slice A52 n52 c52) (.int .i64 (oiv q8).lo.e) (.bool (oiv q8).hi.s) (.slice A53 n53 c53) (.int .i64 (oiv q8).hi.e)
        replace Xt := Xt.put (oiv q8).lo.s A52 n52 c52 (oiv q8).lo.e (oiv q8).hi.s A53 n53 c53 (oiv q8).hi.e
        have hT := mv BB rfl hT_o
        have h1 := mv BB rfl h1_o
        have h2 := mv BB rfl h2_o
        have h3 := mv BB rfl h3_o
        have h4 := mv BB rfl h4_o
        obtain ⟨p0, p1, p2, p3, p4, p5⟩ := Xs.held
        obtain ⟨k0, k1, k2, k3, k4, k5⟩ := Xt.held
        go_wp2_with fail
        clear t0 t1 t2 t3 t4 t5 m0 m1 m2 m3 m4 m5
        generalize ((((((v8.setCell ⟨v2.heap.size, 0, none⟩ (.bool (oiv q8).lo.s)).setCell ⟨v2.heap.size, 1, none⟩ (.slice A52 n52 c52)).setCell ⟨v2.heap.size, 2, none⟩ (.int .i64 (oiv q8).lo.e)).setCell ⟨v2.heap.size, 3, none⟩ (.bool (oiv q8).hi.s)).setCell ⟨v2.heap.size, 4, none⟩ (.slice A53 n53 c53)).setCell ⟨v2.heap.size, 5, none⟩ (.int .i64 (oiv q8).hi.e)) = k3b at *
        refine (told6_any hT).mono ?_
        rintro en v12 ⟨rfl, b⟩
        clear h1 h2 h3 h4 h10 h11 h12 h13 a0 a1 a2 a3 a4 a5 e0 e1 e2 e3 e4 e5 r0 r1 r2 r3 r4 r5 s0 s1 s2 s3 s4 s5
        replace BB := bnx BB b rfl rfl rfl rfl
        have G := mv b rfl (J19 Xs Xt h50 h51 h52 h53 hT p0 p1 p2 p3 p4 p5 k0 k1 k2 k3 k4 k5)
        clear b Xs Xt h50 h51 h52 h53 hT p0 p1 p2 p3 p4 p5 k0 k1 k2 k3 k4 k5
        obtain ⟨Xs, Xt, h50, h51, h52, h53, hT, p0, p1, p2, p3, p4, p5, k0, k1, k2, k3, k4, k5⟩ := G
        by_cases z5 : okc q7 = 0
        rotate_left
        · have d5 : (okc q7 != 0) = true := by simp; exact z5
          clear z5
          go_wp2
          go_ret
          exact ⟨by first | rfl | simp, BB⟩
        by_cases z6 : okc q8 = 0
        rotate_left
        · have d5 : (okc q7 != 0) = false := by simp; exact z5
          have d6 : (okc q8 != 0) = true := by simp; exact z6
          clear z5 z6
          go_wp2
          go_ret
          exact ⟨by first | rfl | simp, BB⟩
        have d5 : (okc q7 != 0) = false := by simp; exact z5
        have d6 : (okc q8 != 0) = false := by simp; exact z6
        have HW := Lib.hid (HG3.out z5 z6)
        clear z5 z6
        go_wp2_with fail
        refine (show Calls _ _ _ _ (Bools true _) from by have := iwithin_any (K := S.K) (x := oiv q7) (y := oiv q8) S.big hT h50 h51 h52 h53; rwa [HW.out] at this).mono ?_
        rintro en v13 ⟨rfl, b⟩
        replace BB := bnx BB b rfl rfl rfl rfl
        have G := mv b rfl (J19 Xs Xt h50 h51 h52 h53 hT p0 p1 p2 p3 p4 p5 k0 k1 k2 k3 k4 k5)
        clear b Xs Xt h50 h51 h52 h53 hT p0 p1 p2 p3 p4 p5 k0 k1 k2 k3 k4 k5
        obtain ⟨Xs, Xt, h50, h51, h52, h53, hT, p0, p1, p2, p3, p4, p5, k0, k1, k2, k3, k4, k5⟩ := G
        go_wp2
        go_ret
        exact ⟨by first | rfl | simp, BB⟩

end Go.Proofs.YtcbkhmejlaaieaaGreatDoor
