/-
  Contracts of arith's roots, outward, sum and opposite, at this translation.
-/
import Derived.Test.YtehfdfjpmmpndaaGreatDoorQLc
set_option maxHeartbeats 8000000
set_option maxRecDepth 100000
namespace Go.Proofs.YtehfdfjpmmpndaaGreatDoor
open Go.RowKit
variable {A1 A2 : Option Addr} {K c1 c2 g k n1 n2 : Nat} {p : Int} {w : World} {x : Iv}
theorem roots_run (S : Sc) (hT : Tab w) (h1 : Rd w .u64 W A1 n1 c1 x.lo.l) (h2 : Rd w .u64 W A2 n2 c2 x.hi.l) :
  Calls Tryz.prog 123 #[.agg #[.bool x.lo.s, .slice A1 n1 c1, .int .i64 x.lo.e, .bool x.hi.s, .slice A2 n2 c2, .int .i64 x.hi.e], .int .i64 p] w (RunI (rooI S x p) w) := by
 obtain ⟨q, hq⟩ : ∃ q : Except Int Iv, q = rooI S x p := ⟨_, rfl⟩
 rw [← hq]
 have HQ := hyd hq
 clear hq
 have BB := two_below w (.cells #[.bool x.lo.s, .slice A1 n1 c1, .int .i64 x.lo.e, .bool x.hi.s, .slice A2 n2 c2, .int .i64 x.hi.e] 30) (.cells #[.bool false, .slice none 0 0, .int .i64 0, .bool false, .slice none 0 0, .int .i64 0] 30)
 have xa := (Ibx.new w x.lo.s A1 n1 c1 x.lo.e x.hi.s A2 n2 c2 x.hi.e).alloc (.cells #[.bool false, .slice none 0 0, .int .i64 0, .bool false, .slice none 0 0, .int .i64 0] 30)
 have r := ibx_one w (.cells #[.bool x.lo.s, .slice A1 n1 c1, .int .i64 x.lo.e, .bool x.hi.s, .slice A2 n2 c2, .int .i64 x.hi.e] 30) false none 0 0 0 false none 0 0 0
 obtain ⟨a0, a1, a2, a3, a4, a5⟩ := xa.held
 have G := mv BB rfl (J3 hT h1 h2)
 clear hT h1 h2
 obtain ⟨hT, h1, h2⟩ := G
 go_enter Tryz.func123, Tryz.ntmps123
 obtain ⟨o1, ho1⟩ : ∃ o, o = rooO S x.lo p false := ⟨_, rfl⟩
 have HO1 := hyd ho1
 clear ho1
 have HC1 : Cod o1 := by rw [HO1.out]; exact rooO_cod
 go_wp2_with fail
 refine (tellq_to HO1.out (root_tell S (a := x.lo) hT h1)).mono ?_
 rintro en w1 ⟨A3, n3, c3, rfl, h3, b⟩
 replace BB := bnx BB b
 have G := mv b rfl (J10 hT h1 h2 r a0 a1 a2 a3 a4 a5)
 clear b hT h1 h2 r a0 a1 a2 a3 a4 a5
 obtain ⟨hT, h1, h2, r, a0, a1, a2, a3, a4, a5⟩ := G
 go_wp2_with fail
 refine (must_run HC1 h3).mono ?_
 rintro en w2 (⟨v1, hv1, A5, n5, c5, rfl, h5, b⟩ | ⟨kk, hk, hk0, rfl, b⟩)
 rotate_left
 ·replace BB := bnx BB b
  clear b
  have HKK := hyd (And.intro hk hk0)
  clear hk hk0
  go_wp2
  exact ⟨rfl, .inr ⟨kk, (HQ.out.trans (by simp only [rooI, thn, ← HO1.out, HKK.out.1])), HKK.out.2, rfl, BB⟩⟩
 have HV1 := hyd hv1
 clear hv1
 clear h3
 replace BB := bnx BB b
 have G := mv b rfl (J10 hT h1 h2 r a0 a1 a2 a3 a4 a5)
 clear b hT h1 h2 r a0 a1 a2 a3 a4 a5
 obtain ⟨hT, h1, h2, r, a0, a1, a2, a3, a4, a5⟩ := G
 obtain ⟨y0, y1, y2⟩ := (Box.new w2 v1.s A5 n5 c5 v1.e).held
 have b := below_alloc w2 (.cells #[.bool v1.s, .slice A5 n5 c5, .int .i64 v1.e] 28)
 replace BB := bnx BB b
 have G := mv b rfl (J11 hT h1 h2 r a0 a1 a2 a3 a4 a5 h5)
 clear b hT h1 h2 r a0 a1 a2 a3 a4 a5 h5
 obtain ⟨hT, h1, h2, r, a0, a1, a2, a3, a4, a5, h5⟩ := G
 obtain ⟨o2, ho2⟩ : ∃ o, o = rooO S x.hi p true := ⟨_, rfl⟩
 have HO2 := hyd ho2
 clear ho2
 have HC2 : Cod o2 := by rw [HO2.out]; exact rooO_cod
 go_wp2_with fail
 refine (tellq_to HO2.out (root_tell S (a := x.hi) hT h2)).mono ?_
 rintro en w3 ⟨A6, n6, c6, rfl, h6, b⟩
 replace BB := bnx BB b
 have G := mv b rfl (J14 hT h1 h2 r a0 a1 a2 a3 a4 a5 h5 y0 y1 y2)
 clear b hT h1 h2 r a0 a1 a2 a3 a4 a5 h5 y0 y1 y2
 obtain ⟨hT, h1, h2, r, a0, a1, a2, a3, a4, a5, h5, y0, y1, y2⟩ := G
 go_wp2_with fail
 refine (must_run HC2 h6).mono ?_
 rintro en w4 (⟨v2, hv2, A7, n7, c7, rfl, h7, b⟩ | ⟨kk, hk, hk0, rfl, b⟩)
 rotate_left
 ·replace BB := bnx BB b
  clear b
  have HKK := hyd (And.intro hk hk0)
  clear hk hk0
  go_wp2
  exact ⟨rfl, .inr ⟨kk, (HQ.out.trans (by simp only [rooI, thn, ← HO1.out, HV1.out, ← HO2.out, HKK.out.1])), HKK.out.2, rfl, BB⟩⟩
 have HV2 := hyd hv2
 clear hv2
 clear h6
 replace BB := bnx BB b
 have G := mv b rfl (J14 hT h1 h2 r a0 a1 a2 a3 a4 a5 h5 y0 y1 y2)
 clear b hT h1 h2 r a0 a1 a2 a3 a4 a5 h5 y0 y1 y2
 obtain ⟨hT, h1, h2, r, a0, a1, a2, a3, a4, a5, h5, y0, y1, y2⟩ := G
 obtain ⟨u0, u1, u2⟩ := (Box.new w4 v2.s A7 n7 c7 v2.e).held
 have b := below_alloc w4 (.cells #[.bool v2.s, .slice A7 n7 c7, .int .i64 v2.e] 28)
 replace BB := bnx BB b
 have G := mv b rfl (J15 hT h1 h2 r a0 a1 a2 a3 a4 a5 h5 y0 y1 y2 h7)
 clear b hT h1 h2 r a0 a1 a2 a3 a4 a5 h5 y0 y1 y2 h7
 obtain ⟨hT, h1, h2, r, a0, a1, a2, a3, a4, a5, h5, y0, y1, y2, h7⟩ := G
 obtain ⟨f0, f1, f2, f3, f4, f5⟩ := r.open
 obtain ⟨z0, z1, z2, z3, z4, z5⟩ := r.held
 go_wp2
 exact ret6 rfl rfl rfl r h5 h7 BB (by omega) fun _ hN hM HB3 => (.inl ⟨⟨v1, v2⟩, (HQ.out.trans (by simp only [rooI, thn, ← HO1.out, HV1.out, ← HO2.out, HV2.out])), _, _, _, _, _, _, rfl, hN, hM, HB3⟩)
theorem sum_run (S : Sc) {x y : Iv} {A3 : Option Addr} {n3 c3 : Nat} {A4 : Option Addr} {n4 c4 : Nat} (hT : Tab w) (h1 : Rd w .u64 W A1 n1 c1 x.lo.l) (h2 : Rd w .u64 W A2 n2 c2 x.hi.l) (h3 : Rd w .u64 W A3 n3 c3 y.lo.l) (h4 : Rd w .u64 W A4 n4 c4 y.hi.l) :
  Calls Tryz.prog 108 #[.agg #[.bool x.lo.s, .slice A1 n1 c1, .int .i64 x.lo.e, .bool x.hi.s, .slice A2 n2 c2, .int .i64 x.hi.e], .agg #[.bool y.lo.s, .slice A3 n3 c3, .int .i64 y.lo.e, .bool y.hi.s, .slice A4 n4 c4, .int .i64 y.hi.e], .int .i64 p] w (RunI (sumO S x y p) w) := by
 obtain ⟨q, hq⟩ : ∃ q : Except Int Iv, q = sumO S x y p := ⟨_, rfl⟩
 rw [← hq]
 have HQ := hyd hq
 clear hq
 have BB := three_below w (.cells #[.bool x.lo.s, .slice A1 n1 c1, .int .i64 x.lo.e, .bool x.hi.s, .slice A2 n2 c2, .int .i64 x.hi.e] 30) (.cells #[.bool y.lo.s, .slice A3 n3 c3, .int .i64 y.lo.e, .bool y.hi.s, .slice A4 n4 c4, .int .i64 y.hi.e] 30) (.cells #[.bool false, .slice none 0 0, .int .i64 0, .bool false, .slice none 0 0, .int .i64 0] 30)
 obtain ⟨_, xa, xb⟩ := two_ivl w (x := x) (y := y) (A1 := A1) (n1 := n1) (c1 := c1) (A2 := A2) (n2 := n2) (c2 := c2) (A3 := A3) (n3 := n3) (c3 := c3) (A4 := A4) (n4 := n4) (c4 := c4)
 replace xa := xa.alloc (.cells #[.bool false, .slice none 0 0, .int .i64 0, .bool false, .slice none 0 0, .int .i64 0] 30)
 replace xb := xb.alloc (.cells #[.bool false, .slice none 0 0, .int .i64 0, .bool false, .slice none 0 0, .int .i64 0] 30)
 have r := ibx_two w (.cells #[.bool x.lo.s, .slice A1 n1 c1, .int .i64 x.lo.e, .bool x.hi.s, .slice A2 n2 c2, .int .i64 x.hi.e] 30) (.cells #[.bool y.lo.s, .slice A3 n3 c3, .int .i64 y.lo.e, .bool y.hi.s, .slice A4 n4 c4, .int .i64 y.hi.e] 30) false none 0 0 0 false none 0 0 0
 obtain ⟨a0, a1, a2, a3, a4, a5⟩ := xa.held
 obtain ⟨b0, b1, b2, b3, b4, b5⟩ := xb.held
 have G := mv BB rfl (J5 hT h1 h2 h3 h4)
 clear hT h1 h2 h3 h4
 obtain ⟨hT, h1, h2, h3, h4⟩ := G
 go_enter Tryz.func108, Tryz.ntmps108
 obtain ⟨o1, ho1⟩ : ∃ o, o = addO S x.lo y.lo := ⟨_, rfl⟩
 have HO1 := hyd ho1
 clear ho1
 have HC1 : Cod o1 := by rw [HO1.out]; exact addO_cod
 go_wp2_with fail
 refine (tellq_to HO1.out (dadd_tell S (a := x.lo) (b := y.lo) hT h1 h3)).mono ?_
 rintro en w1 ⟨A5, n5, c5, rfl, h5, b⟩
 replace BB := bnx BB b
 have G := mv b rfl (J18 hT h1 h2 h3 h4 r a0 a1 a2 a3 a4 a5 b0 b1 b2 b3 b4 b5)
 clear b hT h1 h2 h3 h4 r a0 a1 a2 a3 a4 a5 b0 b1 b2 b3 b4 b5
 obtain ⟨hT, h1, h2, h3, h4, r, a0, a1, a2, a3, a4, a5, b0, b1, b2, b3, b4, b5⟩ := G
 go_wp2_with fail
 refine (must_run HC1 h5).mono ?_
 rintro en w2 (⟨v1, hv1, A6, n6, c6, rfl, h6, b⟩ | ⟨kk, hk, hk0, rfl, b⟩)
 rotate_left
 ·replace BB := bnx BB b
  clear b
  have HKK := hyd (And.intro hk hk0)
  clear hk hk0
  go_wp2
  exact ⟨rfl, .inr ⟨kk, (HQ.out.trans (by simp only [sumO, thn, ← HO1.out, HKK.out.1])), HKK.out.2, rfl, BB⟩⟩
 have HV1 := hyd hv1
 clear hv1
 clear h5
 replace BB := bnx BB b
 have G := mv b rfl (J18 hT h1 h2 h3 h4 r a0 a1 a2 a3 a4 a5 b0 b1 b2 b3 b4 b5)
 clear b hT h1 h2 h3 h4 r a0 a1 a2 a3 a4 a5 b0 b1 b2 b3 b4 b5
 obtain ⟨hT, h1, h2, h3, h4, r, a0, a1, a2, a3, a4, a5, b0, b1, b2, b3, b4, b5⟩ := G
 obtain ⟨o2, ho2⟩ : ∃ o, o = rndO S v1 p false := ⟨_, rfl⟩
 have HO2 := hyd ho2
 clear ho2
 go_wp2_with fail
 refine (runq_to HO2.out (down_run S hT h6)).mono ?_
 rintro en w3 (⟨v2, hv2, A7, n7, c7, rfl, h7, b⟩ | ⟨kk, hk, hk0, rfl, b⟩)
 rotate_left
 ·replace BB := bnx BB b
  clear b
  have HKK := hyd (And.intro hk hk0)
  clear hk hk0
  go_wp2
  exact ⟨rfl, .inr ⟨kk, (HQ.out.trans (by simp only [sumO, thn, ← HO1.out, HV1.out, ← HO2.out, HKK.out.1])), HKK.out.2, rfl, BB⟩⟩
 have HV2 := hyd hv2
 clear hv2
 replace BB := bnx BB b
 have G := mv b rfl (J19 hT h1 h2 h3 h4 r a0 a1 a2 a3 a4 a5 b0 b1 b2 b3 b4 b5 h6)
 clear b hT h1 h2 h3 h4 r a0 a1 a2 a3 a4 a5 b0 b1 b2 b3 b4 b5 h6
 obtain ⟨hT, h1, h2, h3, h4, r, a0, a1, a2, a3, a4, a5, b0, b1, b2, b3, b4, b5, h6⟩ := G
 obtain ⟨y0, y1, y2⟩ := (Box.new w3 v2.s A7 n7 c7 v2.e).held
 have b := below_alloc w3 (.cells #[.bool v2.s, .slice A7 n7 c7, .int .i64 v2.e] 28)
 replace BB := bnx BB b
 have G := mv b rfl (J20 hT h1 h2 h3 h4 r a0 a1 a2 a3 a4 a5 b0 b1 b2 b3 b4 b5 h6 h7)
 clear b hT h1 h2 h3 h4 r a0 a1 a2 a3 a4 a5 b0 b1 b2 b3 b4 b5 h6 h7
 obtain ⟨hT, h1, h2, h3, h4, r, a0, a1, a2, a3, a4, a5, b0, b1, b2, b3, b4, b5, h6, h7⟩ := G
 clear h6
 obtain ⟨o3, ho3⟩ : ∃ o, o = addO S x.hi y.hi := ⟨_, rfl⟩
 have HO3 := hyd ho3
 clear ho3
 have HC3 : Cod o3 := by rw [HO3.out]; exact addO_cod
 go_wp2_with fail
 refine (tellq_to HO3.out (dadd_tell S (a := x.hi) (b := y.hi) hT h2 h4)).mono ?_
 rintro en w4 ⟨A8, n8, c8, rfl, h8, b⟩
 replace BB := bnx BB b
 have G := mv b rfl (J22 hT h1 h2 h3 h4 r a0 a1 a2 a3 a4 a5 b0 b1 b2 b3 b4 b5 h7 y0 y1 y2)
 clear b hT h1 h2 h3 h4 r a0 a1 a2 a3 a4 a5 b0 b1 b2 b3 b4 b5 h7 y0 y1 y2
 obtain ⟨hT, h1, h2, h3, h4, r, a0, a1, a2, a3, a4, a5, b0, b1, b2, b3, b4, b5, h7, y0, y1, y2⟩ := G
 go_wp2_with fail
 refine (must_run HC3 h8).mono ?_
 rintro en w5 (⟨v3, hv3, A9, n9, c9, rfl, h9, b⟩ | ⟨kk, hk, hk0, rfl, b⟩)
 rotate_left
 ·replace BB := bnx BB b
  clear b
  have HKK := hyd (And.intro hk hk0)
  clear hk hk0
  go_wp2
  exact ⟨rfl, .inr ⟨kk, (HQ.out.trans (by simp only [sumO, thn, ← HO1.out, HV1.out, ← HO2.out, HV2.out, ← HO3.out, HKK.out.1])), HKK.out.2, rfl, BB⟩⟩
 have HV3 := hyd hv3
 clear hv3
 clear h8
 replace BB := bnx BB b
 have G := mv b rfl (J22 hT h1 h2 h3 h4 r a0 a1 a2 a3 a4 a5 b0 b1 b2 b3 b4 b5 h7 y0 y1 y2)
 clear b hT h1 h2 h3 h4 r a0 a1 a2 a3 a4 a5 b0 b1 b2 b3 b4 b5 h7 y0 y1 y2
 obtain ⟨hT, h1, h2, h3, h4, r, a0, a1, a2, a3, a4, a5, b0, b1, b2, b3, b4, b5, h7, y0, y1, y2⟩ := G
 obtain ⟨o4, ho4⟩ : ∃ o, o = rndO S v3 p true := ⟨_, rfl⟩
 have HO4 := hyd ho4
 clear ho4
 go_wp2_with fail
 refine (runq_to HO4.out (up_run S hT h9)).mono ?_
 rintro en w6 (⟨v4, hv4, A10, n10, c10, rfl, h10, b⟩ | ⟨kk, hk, hk0, rfl, b⟩)
 rotate_left
 ·replace BB := bnx BB b
  clear b
  have HKK := hyd (And.intro hk hk0)
  clear hk hk0
  go_wp2
  exact ⟨rfl, .inr ⟨kk, (HQ.out.trans (by simp only [sumO, thn, ← HO1.out, HV1.out, ← HO2.out, HV2.out, ← HO3.out, HV3.out, ← HO4.out, HKK.out.1])), HKK.out.2, rfl, BB⟩⟩
 have HV4 := hyd hv4
 clear hv4
 replace BB := bnx BB b
 have G := mv b rfl (J23 hT h1 h2 h3 h4 r a0 a1 a2 a3 a4 a5 b0 b1 b2 b3 b4 b5 h7 y0 y1 y2 h9)
 clear b hT h1 h2 h3 h4 r a0 a1 a2 a3 a4 a5 b0 b1 b2 b3 b4 b5 h7 y0 y1 y2 h9
 obtain ⟨hT, h1, h2, h3, h4, r, a0, a1, a2, a3, a4, a5, b0, b1, b2, b3, b4, b5, h7, y0, y1, y2, h9⟩ := G
 obtain ⟨u0, u1, u2⟩ := (Box.new w6 v4.s A10 n10 c10 v4.e).held
 have b := below_alloc w6 (.cells #[.bool v4.s, .slice A10 n10 c10, .int .i64 v4.e] 28)
 replace BB := bnx BB b
 have G := mv b rfl (J24 hT h1 h2 h3 h4 r a0 a1 a2 a3 a4 a5 b0 b1 b2 b3 b4 b5 h7 y0 y1 y2 h9 h10)
 clear b hT h1 h2 h3 h4 r a0 a1 a2 a3 a4 a5 b0 b1 b2 b3 b4 b5 h7 y0 y1 y2 h9 h10
 obtain ⟨hT, h1, h2, h3, h4, r, a0, a1, a2, a3, a4, a5, b0, b1, b2, b3, b4, b5, h7, y0, y1, y2, h9, h10⟩ := G
 obtain ⟨f0, f1, f2, f3, f4, f5⟩ := r.open
 obtain ⟨z0, z1, z2, z3, z4, z5⟩ := r.held
 go_wp2
 exact ret6 rfl rfl rfl r h7 h10 BB (by omega) fun _ hN hM HB3 => (.inl ⟨⟨v2, v4⟩, (HQ.out.trans (by simp only [sumO, thn, ← HO1.out, HV1.out, ← HO2.out, HV2.out, ← HO3.out, HV3.out, ← HO4.out, HV4.out])), _, _, _, _, _, _, rfl, hN, hM, HB3⟩)
theorem outward_run (S : Sc) {a b : Rw} (hT : Tab w) (h1 : Rd w .u64 W A1 n1 c1 a.l) (h2 : Rd w .u64 W A2 n2 c2 b.l) :
  Calls Tryz.prog 114 #[.agg #[.bool a.s, .slice A1 n1 c1, .int .i64 a.e], .agg #[.bool b.s, .slice A2 n2 c2, .int .i64 b.e], .int .i64 p] w (RunI (outO S a b p) w) := by
 obtain ⟨q, hq⟩ : ∃ q : Except Int Iv, q = outO S a b p := ⟨_, rfl⟩
 rw [← hq]
 have HQ := hyd hq
 clear hq
 have BB := three_below w (.cells #[.bool a.s, .slice A1 n1 c1, .int .i64 a.e] 28) (.cells #[.bool b.s, .slice A2 n2 c2, .int .i64 b.e] 28) (.cells #[.bool false, .slice none 0 0, .int .i64 0, .bool false, .slice none 0 0, .int .i64 0] 30)
 obtain ⟨a10, a11, a12, a20, a21, a22⟩ := ((two_new w a.s b.s A1 A2 n1 c1 n2 c2 a.e b.e).alloc (.cells #[.bool false, .slice none 0 0, .int .i64 0, .bool false, .slice none 0 0, .int .i64 0] 30)).held
 have r := ibx_two w (.cells #[.bool a.s, .slice A1 n1 c1, .int .i64 a.e] 28) (.cells #[.bool b.s, .slice A2 n2 c2, .int .i64 b.e] 28) false none 0 0 0 false none 0 0 0
 have G := mv BB rfl (J3 hT h1 h2)
 clear hT h1 h2
 obtain ⟨hT, h1, h2⟩ := G
 go_enter Tryz.func114, Tryz.ntmps114
 obtain ⟨o1, ho1⟩ : ∃ o, o = rndO S a p false := ⟨_, rfl⟩
 have HO1 := hyd ho1
 clear ho1
 go_wp2_with fail
 refine (runq_to HO1.out (down_run S hT h1)).mono ?_
 rintro en w1 (⟨v1, hv1, A3, n3, c3, rfl, h3, b⟩ | ⟨kk, hk, hk0, rfl, b⟩)
 rotate_left
 ·replace BB := bnx BB b
  clear b
  have HKK := hyd (And.intro hk hk0)
  clear hk hk0
  go_wp2
  exact ⟨rfl, .inr ⟨kk, (HQ.out.trans (by simp only [outO, thn, ← HO1.out, HKK.out.1])), HKK.out.2, rfl, BB⟩⟩
 have HV1 := hyd hv1
 clear hv1
 replace BB := bnx BB b
 have G := mv b rfl (J7 hT h1 h2 r a20 a21 a22)
 clear b hT h1 h2 r a20 a21 a22
 obtain ⟨hT, h1, h2, r, a20, a21, a22⟩ := G
 have ny : w1.heap.size ≠ w.heap.size + 2 := by have := r.gl; omega
 obtain ⟨y0, y1, y2⟩ := (Box.new w1 v1.s A3 n3 c3 v1.e).held
 have b := below_alloc w1 (.cells #[.bool v1.s, .slice A3 n3 c3, .int .i64 v1.e] 28)
 replace BB := bnx BB b
 have G := mv b rfl (J8 hT h1 h2 r a20 a21 a22 h3)
 clear b hT h1 h2 r a20 a21 a22 h3
 obtain ⟨hT, h1, h2, r, a20, a21, a22, h3⟩ := G
 obtain ⟨o2, ho2⟩ : ∃ o, o = rndO S b p true := ⟨_, rfl⟩
 have HO2 := hyd ho2
 clear ho2
 go_wp2_with fail
 have b := drew_b (w1.alloc (.cells #[.bool v1.s, .slice A3 n3 c3, .int .i64 v1.e] 28))
 replace BB := bnx BB b
 have G := mv b rfl (J11 hT h1 h2 r a20 a21 a22 h3 y0 y1 y2)
 clear b hT h1 h2 r a20 a21 a22 h3 y0 y1 y2
 obtain ⟨hT, h1, h2, r, a20, a21, a22, h3, y0, y1, y2⟩ := G
 generalize hwd : World.drew (w1.alloc (.cells #[.bool v1.s, .slice A3 n3 c3, .int .i64 v1.e] 28)) = wd at *
 have HS := J6 y0 y1 y2 a20 a21 a22
 revert HS
 apply rg hwd
 intro hHeldv0
 clear hwd
 refine tl 0 ?_
 refine tl 1 ?_
 refine tl 2 ?_
 refine rdy 3 fun K hK => ?_
 go_simp
 refine (runq_to HO2.out (up_run S hT h2)).mono ?_
 rintro en w' (⟨v2, hv2, A4, n4, c4, rfl, h4, b⟩ | ⟨kk, hk, hk0, rfl, b⟩)
 rotate_left
 ·exact ⟨rfl, .inr ⟨kk, (HQ.out.trans (by simp only [outO, thn, ← HO1.out, HV1.out, ← HO2.out, hk])), hk0, rfl, bnx BB b⟩⟩
 have HV2 := hyd hv2
 clear hv2
 replace BB := bnx BB b
 have G := mv b (by rfl) (J11 hT h1 h2 r a20 a21 a22 h3 y0 y1 y2)
 clear b hT h1 h2 r a20 a21 a22 h3 y0 y1 y2
 obtain ⟨hT, h1, h2, r, a20, a21, a22, h3, y0, y1, y2⟩ := G
 obtain ⟨f0, f1, f2, f3, f4, f5⟩ := r.open
 obtain ⟨z0, z1, z2, z3, z4, z5⟩ := r.held
 refine kp hK ⟨y0, y1, y2, a20, a21, a22⟩ fun hHeldv1 => ?_
 clear hK K hHeldv0
 try simp only [Act.put]
 refine tl 4 ?_
 refine rdy 5 fun K hK => ?_
 go_simp
 refine hK.out _ _ (by exact ⟨cell_oth6 y0 ny, cell_oth6 y1 ny, cell_oth6 y2 ny, cell_oth6 a20 (by omega), cell_oth6 a21 (by omega), cell_oth6 a22 (by omega)⟩) (fun hHeldv2 => ?_)
 clear hK K hHeldv1
 try simp only [Act.put]
 refine wpAnyH_done (by kernel_rfl) ?_ _
 go_wp2
 obtain ⟨f0, f1, f2, f3, f4, f5⟩ := r.open
 obtain ⟨z0, z1, z2, z3, z4, z5⟩ := r.held
 exact ret6 rfl rfl rfl r h3 h4 BB (by omega) fun _ hN hM HB3 => (.inl ⟨⟨v1, v2⟩, (HQ.out.trans (by simp only [outO, thn, ← HO1.out, HV1.out, ← HO2.out, HV2.out])), _, _, _, _, _, _, rfl, hN, hM, HB3⟩)
theorem opposite_any (hT : Tab w) (h1 : Rd w .u64 W A1 n1 c1 x.lo.l) (h2 : Rd w .u64 W A2 n2 c2 x.hi.l) (hl1 : n1 ≤ 10000000000000) (hl2 : n2 ≤ 10000000000000) :
  Calls Tryz.prog 110 #[.agg #[.bool x.lo.s, .slice A1 n1 c1, .int .i64 x.lo.e, .bool x.hi.s, .slice A2 n2 c2, .int .i64 x.hi.e]] w (GivI (turnI x) w) := by
 have BB := two_below w (.cells #[.bool x.lo.s, .slice A1 n1 c1, .int .i64 x.lo.e, .bool x.hi.s, .slice A2 n2 c2, .int .i64 x.hi.e] 30) (.cells #[.bool false, .slice none 0 0, .int .i64 0, .bool false, .slice none 0 0, .int .i64 0] 30)
 have xa := (Ibx.new w x.lo.s A1 n1 c1 x.lo.e x.hi.s A2 n2 c2 x.hi.e).alloc (.cells #[.bool false, .slice none 0 0, .int .i64 0, .bool false, .slice none 0 0, .int .i64 0] 30)
 have r := ibx_one w (.cells #[.bool x.lo.s, .slice A1 n1 c1, .int .i64 x.lo.e, .bool x.hi.s, .slice A2 n2 c2, .int .i64 x.hi.e] 30) false none 0 0 0 false none 0 0 0
 obtain ⟨a0, a1, a2, a3, a4, a5⟩ := xa.held
 have HL1 := hyd hl1
 have HL2 := hyd hl2
 clear hl1 hl2 xa
 have G := mv BB rfl (J3 hT h1 h2)
 clear hT h1 h2
 obtain ⟨hT, h1, h2⟩ := G
 go_enter Tryz.func110, Tryz.ntmps110
 go_wp2_with fail
 have b := drew_b ((w.alloc (.cells #[.bool x.lo.s, .slice A1 n1 c1, .int .i64 x.lo.e, .bool x.hi.s, .slice A2 n2 c2, .int .i64 x.hi.e] 30)).alloc (.cells #[.bool false, .slice none 0 0, .int .i64 0, .bool false, .slice none 0 0, .int .i64 0] 30))
 replace BB := bnx BB b
 have G := mv b rfl (J10 hT h1 h2 r a0 a1 a2 a3 a4 a5)
 clear b hT h1 h2 r a0 a1 a2 a3 a4 a5
 obtain ⟨hT, h1, h2, r, a0, a1, a2, a3, a4, a5⟩ := G
 generalize hwd : World.drew ((w.alloc (.cells #[.bool x.lo.s, .slice A1 n1 c1, .int .i64 x.lo.e, .bool x.hi.s, .slice A2 n2 c2, .int .i64 x.hi.e] 30)).alloc (.cells #[.bool false, .slice none 0 0, .int .i64 0, .bool false, .slice none 0 0, .int .i64 0] 30)) = wd at *
 have HS := J6 a0 a1 a2 a3 a4 a5
 revert HS
 apply rg hwd
 intro hHeldv0
 clear hwd
 refine tl 0 ?_
 refine tl 1 ?_
 refine tl 3 ?_
 refine tl 4 ?_
 refine rdy 2 fun K hK => ?_
 go_simp
 refine (dneg_raw (s1 := x.hi.s) (e1 := x.hi.e) hT h2 HL2.out).mono ?_
 rintro en w' ⟨A3, c3, rfl, h3, b⟩
 replace BB := bnx BB b
 have G := mv b (by rfl) (J10 hT h1 h2 r a0 a1 a2 a3 a4 a5)
 clear b hT h1 h2 r a0 a1 a2 a3 a4 a5
 obtain ⟨hT, h1, h2, r, a0, a1, a2, a3, a4, a5⟩ := G
 refine kp hK ⟨a0, a1, a2, a3, a4, a5⟩ fun hHeldv1 => ?_
 clear hK K hHeldv0
 try simp only [Act.put]
 refine rdy 5 fun K hK => ?_
 go_simp
 refine (dneg_raw (s1 := x.lo.s) (e1 := x.lo.e) hT h1 HL1.out).mono ?_
 rintro en w' ⟨A4, c4, rfl, h4, b⟩
 replace BB := bnx BB b
 have G := mv b (by rfl) (J11 hT h1 h2 r a0 a1 a2 a3 a4 a5 h3)
 clear b hT h1 h2 r a0 a1 a2 a3 a4 a5 h3
 obtain ⟨hT, h1, h2, r, a0, a1, a2, a3, a4, a5, h3⟩ := G
 obtain ⟨f0, f1, f2, f3, f4, f5⟩ := r.open
 obtain ⟨z0, z1, z2, z3, z4, z5⟩ := r.held
 refine kp hK ⟨a0, a1, a2, a3, a4, a5⟩ fun hHeldv2 => ?_
 clear hK K hHeldv1
 try simp only [Act.put]
 refine tl 6 ?_
 refine rdy 7 fun K hK => ?_
 go_simp
 refine hK.out _ _ (by exact ⟨cell_oth6 a0 (by omega), cell_oth6 a1 (by omega), cell_oth6 a2 (by omega), cell_oth6 a3 (by omega), cell_oth6 a4 (by omega), cell_oth6 a5 (by omega)⟩) (fun hHeldv3 => ?_)
 clear hK K hHeldv2
 try simp only [Act.put]
 refine wpAnyH_done (by kernel_rfl) ?_ _
 go_wp2
 exact ret6 rfl rfl rfl r h3 h4 BB (by omega) fun _ hN hM HB3 => ⟨_, _, _, _, _, _, rfl, hN, hM, HB3⟩
set_option maxHeartbeats 8000000
set_option maxRecDepth 100000
theorem acheck_all {X : Nat → Iv} (hK : 4194304 ≤ K) (hT : Tab w) (h : Ivs w g 0 k X) (hk : k ≤ 1000) (hp : 1 ≤ p ∧ p ≤ 2000) (hd : ∀ i, i < k → mayI K (X i) = true) :
  Calls Tryz.prog 139 #[.int .i64 p, .slice (some ⟨g, 0, none⟩) k k] w fun en w' => en = .returned (.tuple #[]) ∧ Below w.heap.size w w' := by
 have d1 : decide (p < 1) = false := decide_eq_false (by omega)
 have d2 : decide ((2000 : Int) < p) = false := decide_eq_false (by omega)
 have HD := hyd hd
 clear hd
 go_enter Tryz.func139, Tryz.ntmps139
 go_wp2
 go_loopg [15] k (fun q v wr => ∃ i : Nat, i + q = k ∧ v = .int .i64 i ∧ Below w.heap.size w wr)
 case atStart => exact ⟨0, by omega, rfl, Below.refl _ _⟩
 case round =>
  obtain ⟨i, hg, rfl, hb⟩ := hrel
  have HG := hyd hg
  clear hg
  by_cases hi : i < k
  ·obtain ⟨A1, n1, c1, A2, n2, c2, ⟨r0, r1, r2, r3, r4, r5⟩, q1, q2⟩ := (h.next hb rfl) i hi
   have hT1 := hT.next hb rfl
   have HM := hyd (HD.out i hi)
   generalize X i = x at *
   have z6 : 0 + i * 6 = i * 6 := by omega
   rw [z6] at r0 r1 r2 r3 r4 r5
   clear z6
   have hp2 : (i : Int) < k := by omega
   have hp3 : (0 : Int) ≤ i := by omega
   have b1 := below_alloc wr (.cells #[.bool x.lo.s, .slice A1 n1 c1, .int .i64 x.lo.e, .bool x.hi.s, .slice A2 n2 c2, .int .i64 x.hi.e] 30)
   obtain ⟨z0, z1, z2, z3, z4, z5⟩ := (Ibx.new wr x.lo.s A1 n1 c1 x.lo.e x.hi.s A2 n2 c2 x.hi.e).held
   replace q1 := q1.next b1 rfl
   replace q2 := q2.next b1 rfl
   replace hT1 := hT1.next b1 rfl
   clear HD
   go_wp2_with fail
   refine (imay_any (K := K) (x := x) hK hT1 q1 q2).mono ?_
   rintro en w2 ⟨rfl, b⟩
   rw [HM.out]
   have hb2 := below_next (below_next hb hb.size b1 rfl rfl rfl rfl) (by have := hb.size; have := b1.size; omega) b rfl rfl rfl rfl
   clear b r0 r1 r2 r3 r4 r5 z0 z1 z2 z3 z4 z5 q1 q2 hT1 b1 HM
   go_wp2
   go_roundg (gk - 1)
   case measure => have := HG.out; omega
   case rel => exact ⟨i + 1, by have := HG.out; omega, by go_num, hb2⟩
  have : i = k := by have := HG.out; omega
  subst this
  go_wp2
  simp [bodyPost, results, Tryz.results139, hb]
theorem acheck_some {X : Nat → Iv} (hK : 4194304 ≤ K) (hT : Tab w) (h : Ivs w g 0 k X) (hk : k ≤ 1000) (hp : 1 ≤ p ∧ p ≤ 2000) {j : Nat} (hj : j < k) (hd : ∀ i, i < j → mayI K (X i) = true) (hd' : mayI K (X j) = false) :
  Calls Tryz.prog 139 #[.int .i64 p, .slice (some ⟨g, 0, none⟩) k k] w (Faults 1 w) := by
 have d1 : decide (p < 1) = false := decide_eq_false (by omega)
 have d2 : decide ((2000 : Int) < p) = false := decide_eq_false (by omega)
 have HD := hyd hd
 clear hd
 have HD' := hyd hd'
 clear hd'
 go_enter Tryz.func139, Tryz.ntmps139
 go_wp2
 go_loopg [15] k (fun q v wr => ∃ i : Nat, i + q = k ∧ i ≤ j ∧ v = .int .i64 i ∧ Below w.heap.size w wr)
 case atStart => exact ⟨0, by omega, by omega, rfl, Below.refl _ _⟩
 case round =>
  obtain ⟨i, hg, hij, rfl, hb⟩ := hrel
  have HG := hyd (And.intro hg hij)
  clear hg hij
  have hi : i < k := by have := HG.out; omega
  by_cases hij : i < j
  ·obtain ⟨A1, n1, c1, A2, n2, c2, ⟨r0, r1, r2, r3, r4, r5⟩, q1, q2⟩ := (h.next hb rfl) i hi
   have hT1 := hT.next hb rfl
   have HM := hyd (HD.out i hij)
   generalize X i = x at *
   have z6 : 0 + i * 6 = i * 6 := by omega
   rw [z6] at r0 r1 r2 r3 r4 r5
   clear z6
   have hp2 : (i : Int) < k := by omega
   have hp3 : (0 : Int) ≤ i := by omega
   have b1 := below_alloc wr (.cells #[.bool x.lo.s, .slice A1 n1 c1, .int .i64 x.lo.e, .bool x.hi.s, .slice A2 n2 c2, .int .i64 x.hi.e] 30)
   obtain ⟨z0, z1, z2, z3, z4, z5⟩ := (Ibx.new wr x.lo.s A1 n1 c1 x.lo.e x.hi.s A2 n2 c2 x.hi.e).held
   replace q1 := q1.next b1 rfl
   replace q2 := q2.next b1 rfl
   replace hT1 := hT1.next b1 rfl
   clear HD HD'
   go_wp2_with fail
   refine (imay_any (K := K) (x := x) hK hT1 q1 q2).mono ?_
   rintro en w2 ⟨rfl, b⟩
   rw [HM.out]
   have hb2 := below_next (below_next hb hb.size b1 rfl rfl rfl rfl) (by have := hb.size; have := b1.size; omega) b rfl rfl rfl rfl
   clear b r0 r1 r2 r3 r4 r5 z0 z1 z2 z3 z4 z5 q1 q2 hT1 b1 HM
   go_wp2
   go_roundg (gk - 1)
   case measure => have := HG.out; omega
   case rel => exact ⟨i + 1, by have := HG.out; omega, by have := HG.out; omega, by go_num, hb2⟩
  obtain rfl : i = j := by have := HG.out; omega
  obtain ⟨A1, n1, c1, A2, n2, c2, ⟨r0, r1, r2, r3, r4, r5⟩, q1, q2⟩ := (h.next hb rfl) i hi
  have hT1 := hT.next hb rfl
  have HM := hyd (HD'.out)
  generalize X i = x at *
  have z6 : 0 + i * 6 = i * 6 := by omega
  rw [z6] at r0 r1 r2 r3 r4 r5
  clear z6
  have hp2 : (i : Int) < k := by omega
  have hp3 : (0 : Int) ≤ i := by omega
  have b1 := below_alloc wr (.cells #[.bool x.lo.s, .slice A1 n1 c1, .int .i64 x.lo.e, .bool x.hi.s, .slice A2 n2 c2, .int .i64 x.hi.e] 30)
  obtain ⟨z0, z1, z2, z3, z4, z5⟩ := (Ibx.new wr x.lo.s A1 n1 c1 x.lo.e x.hi.s A2 n2 c2 x.hi.e).held
  replace q1 := q1.next b1 rfl
  replace q2 := q2.next b1 rfl
  replace hT1 := hT1.next b1 rfl
  clear HD HD'
  go_wp2_with fail
  refine (imay_any (K := K) (x := x) hK hT1 q1 q2).mono ?_
  rintro en w2 ⟨rfl, b⟩
  rw [HM.out]
  have hb2 := below_next (below_next hb hb.size b1 rfl rfl rfl rfl) (by have := hb.size; have := b1.size; omega) b rfl rfl rfl rfl
  clear b r0 r1 r2 r3 r4 r5 z0 z1 z2 z3 z4 z5 q1 q2 hT1 b1 HM
  go_wp2
  exact ⟨rfl, rfl, hb2⟩
theorem acheck_no {X : Nat → Iv} (hK : 4194304 ≤ K) (hT : Tab w) (h : Ivs w g 0 k X) (hk : k ≤ 1000) (hp : 1 ≤ p ∧ p ≤ 2000) (hd : ¬ ∀ i, i < k → mayI K (X i) = true) :
  Calls Tryz.prog 139 #[.int .i64 p, .slice (some ⟨g, 0, none⟩) k k] w (Faults 1 w) := by
 have key : ∀ m, m ≤ k → (∀ i, i < m → mayI K (X i) = true) ∨ ∃ j, j < k ∧ (∀ i, i < j → mayI K (X i) = true) ∧ mayI K (X j) = false := by
  intro m
  induction m with
  | zero => exact fun _ => .inl fun i hi => absurd hi (by omega)
  | succ m ih =>
   intro hm
   rcases ih (by omega) with h1 | h1
   ·cases q : mayI K (X m)
    ·exact .inr ⟨m, by omega, h1, q⟩
    refine .inl fun i hi => ?_
    rcases (show i < m ∨ i = m by omega) with h2 | rfl
    ·exact h1 i h2
    exact q
   exact .inr h1
 rcases key k (Nat.le_refl k) with h1 | ⟨j, h1, h2, h3⟩
 ·exact absurd h1 hd
 exact acheck_some hK hT h hk hp h1 h2 h3
theorem acheck_p (hp : p < 1 ∨ 2000 < p) :
  Calls Tryz.prog 139 #[.int .i64 p, .slice (some ⟨g, 0, none⟩) k k] w (Faults 1 w) := by
 by_cases h : p < 1
 ·have d1 : decide (p < 1) = true := decide_eq_true h
  clear hp
  go_enter Tryz.func139, Tryz.ntmps139
  go_wp2
  exact ⟨rfl, rfl, Below.refl _ _⟩
 have d1 : decide (p < 1) = false := decide_eq_false h
 have d2 : decide ((2000 : Int) < p) = true := decide_eq_true (by omega)
 clear hp
 go_enter Tryz.func139, Tryz.ntmps139
 go_wp2
 exact ⟨rfl, rfl, Below.refl _ _⟩
theorem prec_iff : prec p = true ↔ 1 ≤ p ∧ p ≤ 2000 := by
 unfold prec
 rw [Bool.and_eq_true, decide_eq_true_iff, decide_eq_true_iff]
def Fine (K : Nat) (k : Nat) (X : Nat → Iv) (p : Int) : Prop := prec p = true ∧ ∀ i, i < k → mayI K (X i) = true
theorem acheck_fine {X : Nat → Iv} (hK : 4194304 ≤ K) (hT : Tab w) (h : Ivs w g 0 k X) (hk : k ≤ 1000) (hf : Fine K k X p) :
  Calls Tryz.prog 139 #[.int .i64 p, .slice (some ⟨g, 0, none⟩) k k] w fun en w' => en = .returned (.tuple #[]) ∧ Below w.heap.size w w' := acheck_all hK hT h hk (prec_iff.1 hf.1) hf.2
theorem acheck_not {X : Nat → Iv} (hK : 4194304 ≤ K) (hT : Tab w) (h : Ivs w g 0 k X) (hk : k ≤ 1000) (hf : ¬ Fine K k X p) :
  Calls Tryz.prog 139 #[.int .i64 p, .slice (some ⟨g, 0, none⟩) k k] w (Faults 1 w) := by
 by_cases hp : 1 ≤ p ∧ p ≤ 2000
 ·exact acheck_no hK hT h hk hp (fun h2 => hf ⟨prec_iff.2 hp, h2⟩)
 exact acheck_p (by omega)
theorem runI_ok {v : Iv} {w w' : World} {en : Ending} (h : RunI (.ok v) w en w') : GivI v w en w' := by
 rcases h with ⟨v', h1, h2⟩ | ⟨k, h1, _⟩
 ·cases h1; exact h2
 cases h1
theorem runI_err {k : Int} {w w' : World} {en : Ending} (h : RunI (.error k) w en w') : Faults k w en w' := by
 rcases h with ⟨v', h1, _⟩ | ⟨k', h1, _, h2⟩
 ·cases h1
 cases h1; exact h2
theorem itold_run {o : Except Int Iv} {f : FuncId} {cap : Array Value} (hf : ∀ W2 : World, (callFunc f cap).run Tryz.prog W2 = .ok (.enter f cap) W2) (hc : ∀ W2 : World, Below w.heap.size w W2 → Calls Tryz.prog f cap W2 (RunI o W2)) :
  Calls Tryz.prog 47 #[.func (Fn.func f) #[] cap] w (TellO o w) := by
 cases o with
 | ok v => exact itold_ok (x := v) hf fun W2 b => (hc W2 b).mono fun _ _ h => runI_ok h
 | error k => exact itold_no (k := k) hf fun W2 b => (hc W2 b).mono fun _ _ h => runI_err h
theorem told1_fine {o : Except Int Iv} {K g k gp g1 g2 : Nat} {X : Nat → Iv} {f : FuncId} {cap : Array Value} (hK : 4194304 ≤ K) (hT : Tab w) (h : Ivs w g 0 k X) (hk : k ≤ 1000) (q0 : w.cell? ⟨gp, 0, none⟩ = some (.int .i64 p)) (q1 : w.cell? ⟨g1, 0, none⟩ = some (.slice (some ⟨g, 0, none⟩) k k)) (q2 : w.cell? ⟨g2, 0, none⟩ = some (.func (Fn.func f) #[] cap)) (hf : ∀ W2 : World, (callFunc f cap).run Tryz.prog W2 = .ok (.enter f cap) W2) (hd : Fine K k X p) (hc : ∀ W2 : World, Below w.heap.size w W2 → Calls Tryz.prog f cap W2 (RunI o W2)) :
  Calls Tryz.prog 138 #[.pointer (some ⟨gp, 0, none⟩), .pointer (some ⟨g1, 0, none⟩), .pointer (some ⟨g2, 0, none⟩)] w (RunI o w) := by
 have BB := below_alloc w (.cells #[.bool false, .slice none 0 0, .int .i64 0, .bool false, .slice none 0 0, .int .i64 0] 30)
 have l0 := World.block_lt_of_cell? w _ q0
 have l1 := World.block_lt_of_cell? w _ q1
 have l2 := World.block_lt_of_cell? w _ q2
 have r := Ibx.new w false none 0 0 0 false none 0 0 0
 have HC := hyd hc
 clear hc
 have G := mv BB rfl (J5 hT h q0 q1 q2)
 clear hT h q0 q1 q2
 obtain ⟨hT, h, q0, q1, q2⟩ := G
 go_enter Tryz.func138, Tryz.ntmps138
 go_wp2_with fail
 refine (acheck_fine hK hT h hk hd).mono ?_
 rintro en w1 ⟨rfl, b⟩
 clear h hT
 replace BB := bnx BB b
 have G := mv b rfl (J4 q0 q1 q2 r)
 clear b q0 q1 q2 r
 obtain ⟨q0, q1, q2, r⟩ := G
 go_wp2_with fail
 refine (HC.out _ BB).mono ?_
 rintro en w2 (⟨v, hv, A1, n1, c1, A2, n2, c2, rfl, h1, h2, b⟩ | ⟨kk, hk, hk0, rfl, b⟩)
 rotate_left
 ·replace BB := bnx BB b
  clear b
  have HKK := hyd (And.intro hk hk0)
  clear hk hk0
  go_wp2
  exact ⟨rfl, .inr ⟨kk, HKK.out.1, HKK.out.2, rfl, BB⟩⟩
 have HV := hyd hv
 clear hv
 replace BB := bnx BB b
 have G := mv b rfl (J4 q0 q1 q2 r)
 clear b q0 q1 q2 r
 obtain ⟨q0, q1, q2, r⟩ := G
 obtain ⟨f0, f1, f2, f3, f4, f5⟩ := r.open
 obtain ⟨z0, z1, z2, z3, z4, z5⟩ := r.held
 go_wp2
 exact ret6 rfl rfl rfl r h1 h2 BB (by omega) fun _ hN hM HB3 => (.inl ⟨v, HV.out, _, _, _, _, _, _, rfl, hN, hM, HB3⟩)
theorem told1_not {K g k gp g1 : Nat} {X : Nat → Iv} {q : Value} (hK : 4194304 ≤ K) (hT : Tab w) (h : Ivs w g 0 k X) (hk : k ≤ 1000) (q0 : w.cell? ⟨gp, 0, none⟩ = some (.int .i64 p)) (q1 : w.cell? ⟨g1, 0, none⟩ = some (.slice (some ⟨g, 0, none⟩) k k)) (hd : ¬ Fine K k X p) :
  Calls Tryz.prog 138 #[.pointer (some ⟨gp, 0, none⟩), .pointer (some ⟨g1, 0, none⟩), q] w (RunI (.error 1) w) := by
 have BB := below_alloc w (.cells #[.bool false, .slice none 0 0, .int .i64 0, .bool false, .slice none 0 0, .int .i64 0] 30)
 have l0 := World.block_lt_of_cell? w _ q0
 have l1 := World.block_lt_of_cell? w _ q1
 have G := mv BB rfl (J4 hT h q0 q1)
 clear hT h q0 q1
 obtain ⟨hT, h, q0, q1⟩ := G
 go_enter Tryz.func138, Tryz.ntmps138
 go_wp2_with fail
 refine (acheck_not hK hT h hk hd).mono ?_
 rintro en w1 ⟨rfl, b⟩
 replace BB := bnx BB b
 clear b
 go_wp2
 exact ⟨rfl, .inr ⟨1, rfl, by decide, rfl, BB⟩⟩
theorem atold_any {o : Except Int Iv} {X : Nat → Iv} {f : FuncId} {cap : Array Value} (hT : Tab w) (h : Ivs w g 0 k X) (hc : ∀ W2 : World, Below w.heap.size w W2 → Tab W2 → Ivs W2 g 0 k X → W2.cell? ⟨w.heap.size + 1, 0, none⟩ = some (.int .i64 p) → W2.cell? ⟨w.heap.size + 2, 0, none⟩ = some (.slice (some ⟨g, 0, none⟩) k k) → W2.cell? ⟨w.heap.size, 0, none⟩ = some (.func (Fn.func f) #[] cap) → Calls Tryz.prog 138 #[.pointer (some ⟨w.heap.size + 1, 0, none⟩), .pointer (some ⟨w.heap.size + 2, 0, none⟩), .pointer (some ⟨w.heap.size, 0, none⟩)] W2 (RunI o W2)) :
  Calls Tryz.prog 106 #[.func (Fn.func f) #[] cap, .int .i64 p, .slice (some ⟨g, 0, none⟩) k k] w (TellO o w) := by
 have BB := three_below w (.cells #[.func (Fn.func f) #[] cap] 90) (.cells #[.int .i64 p] 3) (.cells #[.slice (some ⟨g, 0, none⟩) k k] 31)
 have b := below_alloc (((w.alloc (.cells #[.func (Fn.func f) #[] cap] 90)).alloc (.cells #[.int .i64 p] 3)).alloc (.cells #[.slice (some ⟨g, 0, none⟩) k k] 31)) (.cells #[.bool false, .slice none 0 0, .int .i64 0, .bool false, .slice none 0 0, .int .i64 0] 30)
 replace BB := bnx BB b
 clear b
 have hmf := make_func
 have q2 : ((((w.alloc (.cells #[.func (Fn.func f) #[] cap] 90)).alloc (.cells #[.int .i64 p] 3)).alloc (.cells #[.slice (some ⟨g, 0, none⟩) k k] 31)).alloc (.cells #[.bool false, .slice none 0 0, .int .i64 0, .bool false, .slice none 0 0, .int .i64 0] 30)).cell? ⟨w.heap.size, 0, none⟩ = some (.func (Fn.func f) #[] cap) := Lib.cell?_alloc_some _ (Lib.cell?_alloc_some _ (Lib.cell?_alloc_some _ (new_cell w _ _ 0)))
 have q0 : ((((w.alloc (.cells #[.func (Fn.func f) #[] cap] 90)).alloc (.cells #[.int .i64 p] 3)).alloc (.cells #[.slice (some ⟨g, 0, none⟩) k k] 31)).alloc (.cells #[.bool false, .slice none 0 0, .int .i64 0, .bool false, .slice none 0 0, .int .i64 0] 30)).cell? ⟨w.heap.size + 1, 0, none⟩ = some (.int .i64 p) := Lib.cell?_alloc_some _ (Lib.cell?_alloc_some _ (new_cell1 w _ _ _ 0))
 have q1 : ((((w.alloc (.cells #[.func (Fn.func f) #[] cap] 90)).alloc (.cells #[.int .i64 p] 3)).alloc (.cells #[.slice (some ⟨g, 0, none⟩) k k] 31)).alloc (.cells #[.bool false, .slice none 0 0, .int .i64 0, .bool false, .slice none 0 0, .int .i64 0] 30)).cell? ⟨w.heap.size + 2, 0, none⟩ = some (.slice (some ⟨g, 0, none⟩) k k) := Lib.cell?_alloc_some _ (by have := new_cell1 (w.alloc (.cells #[.func (Fn.func f) #[] cap] 90)) (.cells #[.int .i64 p] 3) #[.slice (some ⟨g, 0, none⟩) k k] 31 0; simpa using this)
 have r : Ibx ((((w.alloc (.cells #[.func (Fn.func f) #[] cap] 90)).alloc (.cells #[.int .i64 p] 3)).alloc (.cells #[.slice (some ⟨g, 0, none⟩) k k] 31)).alloc (.cells #[.bool false, .slice none 0 0, .int .i64 0, .bool false, .slice none 0 0, .int .i64 0] 30)) (w.heap.size + 3) false none 0 0 0 false none 0 0 0 := by have := Ibx.new (((w.alloc (.cells #[.func (Fn.func f) #[] cap] 90)).alloc (.cells #[.int .i64 p] 3)).alloc (.cells #[.slice (some ⟨g, 0, none⟩) k k] 31)) false none 0 0 0 false none 0 0 0; simpa using this
 have G := mv BB rfl <| And.intro hT <| h
 clear hT h
 obtain ⟨hT, h⟩ := G
 obtain ⟨q, hq⟩ : ∃ q, q = o := ⟨_, rfl⟩
 rw [← hq]
 have HQ := hyd hq
 clear hq
 have HC := hyd hc
 clear hc
 go_enter Tryz.func106, Tryz.ntmps106
 go_wp2_with fail
 refine (tello_to HQ.out (itold_run (o := o) (fun _ => by kernel_rfl) (fun W2 b2 => HC.out _ (BB.trans (b2.mono BB.size)) (mv b2 rfl hT) (mv b2 rfl h) (mv b2 rfl q0) (mv b2 rfl q1) (mv b2 rfl q2)))).mono ?_
 rintro en w1 ⟨A1, n1, c1, A2, n2, c2, rfl, h1, h2, b⟩
 clear q0 q1 q2
 clear hT h
 replace BB := bnx BB b
 replace r := mv b rfl r
 clear b
 obtain ⟨f0, f1, f2, f3, f4, f5⟩ := r.open
 obtain ⟨z0, z1, z2, z3, z4, z5⟩ := r.held
 go_wp2
 exact ret6t rfl rfl rfl rfl r h1 h2 BB (by omega) fun _ hN hM HB3 => ⟨_, _, _, _, _, _, rfl, hN, hM, HB3⟩
theorem atold_run (c : Bool) {o : Except Int Iv} {X : Nat → Iv} {f : FuncId} {cap : Array Value} (hK : 4194304 ≤ K) (hT : Tab w) (h : Ivs w g 0 k X) (hk : k ≤ 1000) (hf : ∀ W2 : World, (callFunc f cap).run Tryz.prog W2 = .ok (.enter f cap) W2) (hcf : c = true ↔ Fine K k X p) (hc : c = true → ∀ W2 : World, Below w.heap.size w W2 → Calls Tryz.prog f cap W2 (RunI o W2)) :
  Calls Tryz.prog 106 #[.func (Fn.func f) #[] cap, .int .i64 p, .slice (some ⟨g, 0, none⟩) k k] w (TellO (if c = true then o else .error 1) w) := by
 cases hcc : c
 ·rw [if_neg (by decide)]
  refine atold_any hT h fun W2 b hT2 h2 q0 q1 q2 => told1_not hK hT2 h2 hk q0 q1 (fun hf2 => ?_)
  rw [hcf.2 hf2] at hcc; cases hcc
 rw [if_pos rfl]
 exact atold_any hT h fun W2 b hT2 h2 q0 q1 q2 => told1_fine hK hT2 h2 hk q0 q1 q2 hf (hcf.1 hcc) fun W3 b3 => hc hcc _ (b.trans (b3.mono b.size))
end Go.Proofs.YtehfdfjpmmpndaaGreatDoor
