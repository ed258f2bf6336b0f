/-
  Contract of the statement IvalAsks's function at this translation: it returns true, whatever its arguments. Condition: the slices read as limbs, the table of math/bits reads as its text lays it.
-/
import Derived.Test.YtijflbnfikiaaaaGreatDoorIn
import Derived.Test.YtijflbnfikiaaaaGreatDoorIm
namespace Go.Proofs.YtijflbnfikiaaaaGreatDoor
open Go.RowKit

theorem tell_eq' {f : FuncId} {args : Array Value} {w : World} {k k' : Int} {x x' : Iv} (hk : k = k') (hx : x = x') (h : Calls Tryz.prog f args w (TellI k' x' w)) : Calls Tryz.prog f args w (TellI k x w) := by
  subst hk hx
  exact h

set_option maxRecDepth 100000 in
set_option maxHeartbeats 8000000 in
theorem iasks_may {KK : Nat} {w : World} {x y : Iv} {d : Rw} {A1 : Option Addr} {n1 c1 : Nat} {A2 : Option Addr} {n2 c2 : Nat} {A3 : Option Addr} {n3 c3 : Nat} {A4 : Option Addr} {n4 c4 : Nat} {A5 : Option Addr} {n5 c5 : Nat} (hT : Tab w) (h1 : Rd w .u64 Go.Proofs.YtijflbnfikiaaaaGreatDoor.W A1 n1 c1 x.lo.l) (h2 : Rd w .u64 Go.Proofs.YtijflbnfikiaaaaGreatDoor.W A2 n2 c2 x.hi.l) (h3 : Rd w .u64 Go.Proofs.YtijflbnfikiaaaaGreatDoor.W A3 n3 c3 y.lo.l) (h4 : Rd w .u64 Go.Proofs.YtijflbnfikiaaaaGreatDoor.W A4 n4 c4 y.hi.l) (h5 : Rd w .u64 Go.Proofs.YtijflbnfikiaaaaGreatDoor.W A5 n5 c5 d.l) (hKK : 4194304 ≤ KK) (hf : ((decide (n1 ≤ 70) && decide (n2 ≤ 70)) = true ∧ (decide (n3 ≤ 70) && decide (n4 ≤ 70)) = true ∧ n5 ≤ 70)) (hm : mayI KK ⟨x.lo, y.hi⟩ = true) :
    Calls Tryz.prog 3 #[.agg #[.bool x.lo.s, .slice A1 n1 c1, .int .i64 x.lo.e, .bool x.hi.s, .slice A2 n2 c2, .int .i64 x.hi.e], .agg #[.bool y.lo.s, .slice A3 n3 c3, .int .i64 y.lo.e, .bool y.hi.s, .slice A4 n4 c4, .int .i64 y.hi.e], .agg #[.bool d.s, .slice A5 n5 c5, .int .i64 d.e]] w fun en w' => ToldEnd w en w' := by
  have y1 : n1 ≤ 9223372036854775807 := Nat.le_trans h1.cap h1.max
  have y2 : n2 ≤ 9223372036854775807 := Nat.le_trans h2.cap h2.max
  have y3 : n3 ≤ 9223372036854775807 := Nat.le_trans h3.cap h3.max
  have y4 : n4 ≤ 9223372036854775807 := Nat.le_trans h4.cap h4.max
  have y5 : n5 ≤ 9223372036854775807 := Nat.le_trans h5.cap h5.max
  have BB := three_below w (.cells #[.bool x.lo.s, .slice A1 n1 c1, .int .i64 x.lo.e, .bool x.hi.s, .slice A2 n2 c2, .int .i64 x.hi.e] 26) (.cells #[.bool y.lo.s, .slice A3 n3 c3, .int .i64 y.lo.e, .bool y.hi.s, .slice A4 n4 c4, .int .i64 y.hi.e] 26) (.cells #[.bool d.s, .slice A5 n5 c5, .int .i64 d.e] 24)
  obtain ⟨_, xa, xb⟩ := two_ivl w (x := x) (y := y) (A1 := A1) (n1 := n1) (c1 := c1) (A2 := A2) (n2 := n2) (c2 := c2) (A3 := A3) (n3 := n3) (c3 := c3) (A4 := A4) (n4 := n4) (c4 := c4) 
  replace xa := xa.alloc (.cells #[.bool d.s, .slice A5 n5 c5, .int .i64 d.e] 24)
  replace xb := xb.alloc (.cells #[.bool d.s, .slice A5 n5 c5, .int .i64 d.e] 24)
  have xd := box_two w (.cells #[.bool x.lo.s, .slice A1 n1 c1, .int .i64 x.lo.e, .bool x.hi.s, .slice A2 n2 c2, .int .i64 x.hi.e] 26) (.cells #[.bool y.lo.s, .slice A3 n3 c3, .int .i64 y.lo.e, .bool y.hi.s, .slice A4 n4 c4, .int .i64 y.hi.e] 26) d.s A5 n5 c5 d.e
  obtain ⟨a0, a1, a2, a3, a4, a5⟩ := xa.held
  obtain ⟨b0, b1, b2, b3, b4, b5⟩ := xb.held
  obtain ⟨d0, d1, d2⟩ := xd.held
  clear xa xb xd
  have G := mv BB rfl <| And.intro hT <| And.intro h1 <| And.intro h2 <| And.intro h3 <| And.intro h4 <| h5
  clear hT h1 h2 h3 h4 h5
  obtain ⟨hT, h1, h2, h3, h4, h5⟩ := G
  obtain ⟨kh, hkh⟩ : ∃ z, z = hullK KK x y := ⟨_, rfl⟩
  have H_kh := Lib.hid hkh
  clear hkh
  obtain ⟨xh, hxh⟩ : ∃ z, z = hullI KK x y := ⟨_, rfl⟩
  have H_xh := Lib.hid hxh
  clear hxh
  obtain ⟨km, hkm⟩ : ∃ z, z = meetK KK x y := ⟨_, rfl⟩
  have H_km := Lib.hid hkm
  clear hkm
  obtain ⟨xm, hxm⟩ : ∃ z, z = meetI KK x y := ⟨_, rfl⟩
  have H_xm := Lib.hid hxm
  clear hxm
  obtain ⟨pm, hpm⟩ : ∃ z, z = mayI KK x := ⟨_, rfl⟩
  have H_pm := Lib.hid hpm
  clear hpm
  obtain ⟨ph, hph⟩ : ∃ z, z = hasI KK x d := ⟨_, rfl⟩
  have H_ph := Lib.hid hph
  clear hph
  obtain ⟨pw, hpw⟩ : ∃ z, z = withinI KK x y := ⟨_, rfl⟩
  have H_pw := Lib.hid hpw
  clear hpw
  obtain ⟨pi, hpi⟩ : ∃ z, z = insideI KK x y := ⟨_, rfl⟩
  have H_pi := Lib.hid hpi
  clear hpi
  obtain ⟨ps, hps⟩ : ∃ z, z = sameI x y := ⟨_, rfl⟩
  have H_ps := Lib.hid hps
  clear hps
  obtain ⟨z, hz⟩ : ∃ z : Iv, z = ⟨x.lo, y.hi⟩ := ⟨_, rfl⟩
  rw [← hz] at hm
  have HZ : Hid (z.lo = x.lo ∧ z.hi = y.hi) := Lib.hid (by rw [hz]; exact ⟨rfl, rfl⟩)
  have HM := Lib.hid hm
  clear hz hm
  have H5 := Lib.hid (show n5 ≤ 10000000000000 by have := hf.2.2; omega)
  have f_pm : (pm == pm) = true := by simp
  have f_ph : (ph == ph) = true := by simp
  have f_pw : (pw == pw) = true := by simp
  have f_pi : (pi == pi) = true := by simp
  have f_ps : (ps == ps) = true := by simp
  go_enter Tryz.func3, Tryz.ntmps3
  go_wp2_with fail
  refine (few5_any (x := x) y1 y2).mono ?_
  rintro en w1 ⟨rfl, b⟩
  rw [hf.1]
  replace BB := below_next BB BB.size b rfl rfl rfl rfl
  have G := mv b rfl <| And.intro a0 <| And.intro a1 <| And.intro a2 <| And.intro a3 <| And.intro a4 <| And.intro a5 <| And.intro b0 <| And.intro b1 <| And.intro b2 <| And.intro b3 <| And.intro b4 <| And.intro b5 <| And.intro d0 <| And.intro d1 <| And.intro d2 <| And.intro hT <| And.intro h1 <| And.intro h2 <| And.intro h3 <| And.intro h4 <| h5
  clear b a0 a1 a2 a3 a4 a5 b0 b1 b2 b3 b4 b5 d0 d1 d2 hT h1 h2 h3 h4 h5
  obtain ⟨a0, a1, a2, a3, a4, a5, b0, b1, b2, b3, b4, b5, d0, d1, d2, hT, h1, h2, h3, h4, h5⟩ := G
  go_wp2_with fail
  refine (few5_any (x := y) y3 y4).mono ?_
  rintro en w2 ⟨rfl, b⟩
  rw [hf.2.1]
  replace BB := below_next BB BB.size b rfl rfl rfl rfl
  have G := mv b rfl <| And.intro a0 <| And.intro a1 <| And.intro a2 <| And.intro a3 <| And.intro a4 <| And.intro a5 <| And.intro b0 <| And.intro b1 <| And.intro b2 <| And.intro b3 <| And.intro b4 <| And.intro b5 <| And.intro d0 <| And.intro d1 <| And.intro d2 <| And.intro hT <| And.intro h1 <| And.intro h2 <| And.intro h3 <| And.intro h4 <| h5
  clear b a0 a1 a2 a3 a4 a5 b0 b1 b2 b3 b4 b5 d0 d1 d2 hT h1 h2 h3 h4 h5
  obtain ⟨a0, a1, a2, a3, a4, a5, b0, b1, b2, b3, b4, b5, d0, d1, d2, hT, h1, h2, h3, h4, h5⟩ := G
  go_wp2_with fail
  refine (dfew_any (s := d.s) (e := d.e) y5).mono ?_
  rintro en w3 ⟨rfl, b⟩
  rw [decide_eq_true hf.2.2]
  replace BB := below_next BB BB.size b rfl rfl rfl rfl
  have G := mv b rfl <| And.intro a0 <| And.intro a1 <| And.intro a2 <| And.intro a3 <| And.intro a4 <| And.intro a5 <| And.intro b0 <| And.intro b1 <| And.intro b2 <| And.intro b3 <| And.intro b4 <| And.intro b5 <| And.intro d0 <| And.intro d1 <| And.intro d2 <| And.intro hT <| And.intro h1 <| And.intro h2 <| And.intro h3 <| And.intro h4 <| h5
  clear b a0 a1 a2 a3 a4 a5 b0 b1 b2 b3 b4 b5 d0 d1 d2 hT h1 h2 h3 h4 h5
  obtain ⟨a0, a1, a2, a3, a4, a5, b0, b1, b2, b3, b4, b5, d0, d1, d2, hT, h1, h2, h3, h4, h5⟩ := G
  clear hf y1 y2 y3 y4 y5
  go_wp2_with fail
  refine (tell_eq' H_kh.out H_xh.out (ihull_any hKK hT h1 h2 h3 h4)).mono ?_
  rintro en v1 ⟨A6, n6, c6, A7, n7, c7, rfl, h6, h7, b⟩
  replace BB := below_next BB BB.size b rfl rfl rfl rfl
  have G := mv b rfl <| And.intro a0 <| And.intro a1 <| And.intro a2 <| And.intro a3 <| And.intro a4 <| And.intro a5 <| And.intro b0 <| And.intro b1 <| And.intro b2 <| And.intro b3 <| And.intro b4 <| And.intro b5 <| And.intro d0 <| And.intro d1 <| And.intro d2 <| And.intro hT <| And.intro h1 <| And.intro h2 <| And.intro h3 <| And.intro h4 <| h5
  clear b a0 a1 a2 a3 a4 a5 b0 b1 b2 b3 b4 b5 d0 d1 d2 hT h1 h2 h3 h4 h5
  obtain ⟨a0, a1, a2, a3, a4, a5, b0, b1, b2, b3, b4, b5, d0, d1, d2, hT, h1, h2, h3, h4, h5⟩ := G
  obtain ⟨e0, e1, e2, e3, e4, e5⟩ := (Ibx.new v1 xh.lo.s A6 n6 c6 xh.lo.e xh.hi.s A7 n7 c7 xh.hi.e).held
  have b := below_alloc v1 (.cells #[.bool xh.lo.s, .slice A6 n6 c6, .int .i64 xh.lo.e, .bool xh.hi.s, .slice A7 n7 c7, .int .i64 xh.hi.e] 26)
  replace BB := below_next BB BB.size b rfl rfl rfl rfl
  have G := mv b rfl <| And.intro a0 <| And.intro a1 <| And.intro a2 <| And.intro a3 <| And.intro a4 <| And.intro a5 <| And.intro b0 <| And.intro b1 <| And.intro b2 <| And.intro b3 <| And.intro b4 <| And.intro b5 <| And.intro d0 <| And.intro d1 <| And.intro d2 <| And.intro hT <| And.intro h1 <| And.intro h2 <| And.intro h3 <| And.intro h4 <| And.intro h5 <| And.intro h6 <| h7
  clear b a0 a1 a2 a3 a4 a5 b0 b1 b2 b3 b4 b5 d0 d1 d2 hT h1 h2 h3 h4 h5 h6 h7
  obtain ⟨a0, a1, a2, a3, a4, a5, b0, b1, b2, b3, b4, b5, d0, d1, d2, hT, h1, h2, h3, h4, h5, h6, h7⟩ := G
  go_wp2_with fail
  refine (tell_eq' H_kh.out H_xh.out (rhull_any hKK h1 h2 h3 h4)).mono ?_
  rintro en v2 ⟨A8, n8, c8, A9, n9, c9, rfl, h8, h9, b⟩
  replace BB := below_next BB BB.size b rfl rfl rfl rfl
  have G := mv b rfl <| And.intro a0 <| And.intro a1 <| And.intro a2 <| And.intro a3 <| And.intro a4 <| And.intro a5 <| And.intro b0 <| And.intro b1 <| And.intro b2 <| And.intro b3 <| And.intro b4 <| And.intro b5 <| And.intro d0 <| And.intro d1 <| And.intro d2 <| And.intro hT <| And.intro h1 <| And.intro h2 <| And.intro h3 <| And.intro h4 <| And.intro h5 <| And.intro h6 <| And.intro h7 <| And.intro e0 <| And.intro e1 <| And.intro e2 <| And.intro e3 <| And.intro e4 <| e5
  clear b a0 a1 a2 a3 a4 a5 b0 b1 b2 b3 b4 b5 d0 d1 d2 hT h1 h2 h3 h4 h5 h6 h7 e0 e1 e2 e3 e4 e5
  obtain ⟨a0, a1, a2, a3, a4, a5, b0, b1, b2, b3, b4, b5, d0, d1, d2, hT, h1, h2, h3, h4, h5, h6, h7, e0, e1, e2, e3, e4, e5⟩ := G
  obtain ⟨f0, f1, f2, f3, f4, f5⟩ := (Ibx.new v2 xh.lo.s A8 n8 c8 xh.lo.e xh.hi.s A9 n9 c9 xh.hi.e).held
  have b := below_alloc v2 (.cells #[.bool xh.lo.s, .slice A8 n8 c8, .int .i64 xh.lo.e, .bool xh.hi.s, .slice A9 n9 c9, .int .i64 xh.hi.e] 26)
  replace BB := below_next BB BB.size b rfl rfl rfl rfl
  have G := mv b rfl <| And.intro a0 <| And.intro a1 <| And.intro a2 <| And.intro a3 <| And.intro a4 <| And.intro a5 <| And.intro b0 <| And.intro b1 <| And.intro b2 <| And.intro b3 <| And.intro b4 <| And.intro b5 <| And.intro d0 <| And.intro d1 <| And.intro d2 <| And.intro hT <| And.intro h1 <| And.intro h2 <| And.intro h3 <| And.intro h4 <| And.intro h5 <| And.intro h6 <| And.intro h7 <| And.intro e0 <| And.intro e1 <| And.intro e2 <| And.intro e3 <| And.intro e4 <| And.intro e5 <| And.intro h8 <| h9
  clear b a0 a1 a2 a3 a4 a5 b0 b1 b2 b3 b4 b5 d0 d1 d2 hT h1 h2 h3 h4 h5 h6 h7 e0 e1 e2 e3 e4 e5 h8 h9
  obtain ⟨a0, a1, a2, a3, a4, a5, b0, b1, b2, b3, b4, b5, d0, d1, d2, hT, h1, h2, h3, h4, h5, h6, h7, e0, e1, e2, e3, e4, e5, h8, h9⟩ := G
  go_wp2_with fail
  refine (tell_eq' H_km.out H_xm.out (imeet_any hKK hT h1 h2 h3 h4)).mono ?_
  rintro en v3 ⟨A10, n10, c10, A11, n11, c11, rfl, h10, h11, b⟩
  replace BB := below_next BB BB.size b rfl rfl rfl rfl
  have G := mv b rfl <| And.intro a0 <| And.intro a1 <| And.intro a2 <| And.intro a3 <| And.intro a4 <| And.intro a5 <| And.intro b0 <| And.intro b1 <| And.intro b2 <| And.intro b3 <| And.intro b4 <| And.intro b5 <| And.intro d0 <| And.intro d1 <| And.intro d2 <| And.intro hT <| And.intro h1 <| And.intro h2 <| And.intro h3 <| And.intro h4 <| And.intro h5 <| And.intro h6 <| And.intro h7 <| And.intro e0 <| And.intro e1 <| And.intro e2 <| And.intro e3 <| And.intro e4 <| And.intro e5 <| And.intro h8 <| And.intro h9 <| And.intro f0 <| And.intro f1 <| And.intro f2 <| And.intro f3 <| And.intro f4 <| f5
  clear b a0 a1 a2 a3 a4 a5 b0 b1 b2 b3 b4 b5 d0 d1 d2 hT h1 h2 h3 h4 h5 h6 h7 e0 e1 e2 e3 e4 e5 h8 h9 f0 f1 f2 f3 f4 f5
  obtain ⟨a0, a1, a2, a3, a4, a5, b0, b1, b2, b3, b4, b5, d0, d1, d2, hT, h1, h2, h3, h4, h5, h6, h7, e0, e1, e2, e3, e4, e5, h8, h9, f0, f1, f2, f3, f4, f5⟩ := G
  obtain ⟨g0, g1, g2, g3, g4, g5⟩ := (Ibx.new v3 xm.lo.s A10 n10 c10 xm.lo.e xm.hi.s A11 n11 c11 xm.hi.e).held
  have b := below_alloc v3 (.cells #[.bool xm.lo.s, .slice A10 n10 c10, .int .i64 xm.lo.e, .bool xm.hi.s, .slice A11 n11 c11, .int .i64 xm.hi.e] 26)
  replace BB := below_next BB BB.size b rfl rfl rfl rfl
  have G := mv b rfl <| And.intro a0 <| And.intro a1 <| And.intro a2 <| And.intro a3 <| And.intro a4 <| And.intro a5 <| And.intro b0 <| And.intro b1 <| And.intro b2 <| And.intro b3 <| And.intro b4 <| And.intro b5 <| And.intro d0 <| And.intro d1 <| And.intro d2 <| And.intro hT <| And.intro h1 <| And.intro h2 <| And.intro h3 <| And.intro h4 <| And.intro h5 <| And.intro h6 <| And.intro h7 <| And.intro e0 <| And.intro e1 <| And.intro e2 <| And.intro e3 <| And.intro e4 <| And.intro e5 <| And.intro h8 <| And.intro h9 <| And.intro f0 <| And.intro f1 <| And.intro f2 <| And.intro f3 <| And.intro f4 <| And.intro f5 <| And.intro h10 <| h11
  clear b a0 a1 a2 a3 a4 a5 b0 b1 b2 b3 b4 b5 d0 d1 d2 hT h1 h2 h3 h4 h5 h6 h7 e0 e1 e2 e3 e4 e5 h8 h9 f0 f1 f2 f3 f4 f5 h10 h11
  obtain ⟨a0, a1, a2, a3, a4, a5, b0, b1, b2, b3, b4, b5, d0, d1, d2, hT, h1, h2, h3, h4, h5, h6, h7, e0, e1, e2, e3, e4, e5, h8, h9, f0, f1, f2, f3, f4, f5, h10, h11⟩ := G
  go_wp2_with fail
  refine (tell_eq' H_km.out H_xm.out (rmeet_any hKK h1 h2 h3 h4)).mono ?_
  rintro en v4 ⟨A12, n12, c12, A13, n13, c13, rfl, h12, h13, b⟩
  replace BB := below_next BB BB.size b rfl rfl rfl rfl
  have G := mv b rfl <| And.intro a0 <| And.intro a1 <| And.intro a2 <| And.intro a3 <| And.intro a4 <| And.intro a5 <| And.intro b0 <| And.intro b1 <| And.intro b2 <| And.intro b3 <| And.intro b4 <| And.intro b5 <| And.intro d0 <| And.intro d1 <| And.intro d2 <| And.intro hT <| And.intro h1 <| And.intro h2 <| And.intro h3 <| And.intro h4 <| And.intro h5 <| And.intro h6 <| And.intro h7 <| And.intro e0 <| And.intro e1 <| And.intro e2 <| And.intro e3 <| And.intro e4 <| And.intro e5 <| h8
  clear a0 a1 a2 a3 a4 a5 b0 b1 b2 b3 b4 b5 d0 d1 d2 hT h1 h2 h3 h4 h5 h6 h7 e0 e1 e2 e3 e4 e5 h8
  obtain ⟨a0, a1, a2, a3, a4, a5, b0, b1, b2, b3, b4, b5, d0, d1, d2, hT, h1, h2, h3, h4, h5, h6, h7, e0, e1, e2, e3, e4, e5, h8⟩ := G
  have G := mv b rfl <| And.intro h9 <| And.intro f0 <| And.intro f1 <| And.intro f2 <| And.intro f3 <| And.intro f4 <| And.intro f5 <| And.intro h10 <| And.intro h11 <| And.intro g0 <| And.intro g1 <| And.intro g2 <| And.intro g3 <| And.intro g4 <| g5
  clear h9 f0 f1 f2 f3 f4 f5 h10 h11 g0 g1 g2 g3 g4 g5
  obtain ⟨h9, f0, f1, f2, f3, f4, f5, h10, h11, g0, g1, g2, g3, g4, g5⟩ := G
  clear b
  obtain ⟨i0, i1, i2, i3, i4, i5⟩ := (Ibx.new v4 xm.lo.s A12 n12 c12 xm.lo.e xm.hi.s A13 n13 c13 xm.hi.e).held
  have b := below_alloc v4 (.cells #[.bool xm.lo.s, .slice A12 n12 c12, .int .i64 xm.lo.e, .bool xm.hi.s, .slice A13 n13 c13, .int .i64 xm.hi.e] 26)
  replace BB := below_next BB BB.size b rfl rfl rfl rfl
  have G := mv b rfl <| And.intro a0 <| And.intro a1 <| And.intro a2 <| And.intro a3 <| And.intro a4 <| And.intro a5 <| And.intro b0 <| And.intro b1 <| And.intro b2 <| And.intro b3 <| And.intro b4 <| And.intro b5 <| And.intro d0 <| And.intro d1 <| And.intro d2 <| And.intro hT <| And.intro h1 <| And.intro h2 <| And.intro h3 <| And.intro h4 <| And.intro h5 <| And.intro h6 <| And.intro h7 <| And.intro e0 <| And.intro e1 <| And.intro e2 <| And.intro e3 <| And.intro e4 <| And.intro e5 <| h8
  clear a0 a1 a2 a3 a4 a5 b0 b1 b2 b3 b4 b5 d0 d1 d2 hT h1 h2 h3 h4 h5 h6 h7 e0 e1 e2 e3 e4 e5 h8
  obtain ⟨a0, a1, a2, a3, a4, a5, b0, b1, b2, b3, b4, b5, d0, d1, d2, hT, h1, h2, h3, h4, h5, h6, h7, e0, e1, e2, e3, e4, e5, h8⟩ := G
  have G := mv b rfl <| And.intro h9 <| And.intro f0 <| And.intro f1 <| And.intro f2 <| And.intro f3 <| And.intro f4 <| And.intro f5 <| And.intro h10 <| And.intro h11 <| And.intro g0 <| And.intro g1 <| And.intro g2 <| And.intro g3 <| And.intro g4 <| And.intro g5 <| And.intro h12 <| h13
  clear h9 f0 f1 f2 f3 f4 f5 h10 h11 g0 g1 g2 g3 g4 g5 h12 h13
  obtain ⟨h9, f0, f1, f2, f3, f4, f5, h10, h11, g0, g1, g2, g3, g4, g5, h12, h13⟩ := G
  clear b
  go_wp2_with fail
  refine (imake_ok (x := ⟨x.lo, y.hi⟩) hKK hT h1 h4 (by have h := HM.out; rw [show z = ⟨x.lo, y.hi⟩ from congr (congrArg Iv.mk HZ.out.1) HZ.out.2] at h; exact h)).mono ?_
  rintro en v5 ⟨A14, n14, c14, A15, n15, c15, rfl, h14, h15, b⟩
  replace BB := below_next BB BB.size b rfl rfl rfl rfl
  have G := mv b rfl <| And.intro a0 <| And.intro a1 <| And.intro a2 <| And.intro a3 <| And.intro a4 <| And.intro a5 <| And.intro b0 <| And.intro b1 <| And.intro b2 <| And.intro b3 <| And.intro b4 <| And.intro b5 <| And.intro d0 <| And.intro d1 <| And.intro d2 <| And.intro hT <| And.intro h1 <| And.intro h2 <| And.intro h3 <| And.intro h4 <| And.intro h5 <| And.intro h6 <| And.intro h7 <| And.intro e0 <| And.intro e1 <| And.intro e2 <| And.intro e3 <| And.intro e4 <| And.intro e5 <| h8
  clear a0 a1 a2 a3 a4 a5 b0 b1 b2 b3 b4 b5 d0 d1 d2 hT h1 h2 h3 h4 h5 h6 h7 e0 e1 e2 e3 e4 e5 h8
  obtain ⟨a0, a1, a2, a3, a4, a5, b0, b1, b2, b3, b4, b5, d0, d1, d2, hT, h1, h2, h3, h4, h5, h6, h7, e0, e1, e2, e3, e4, e5, h8⟩ := G
  have G := mv b rfl <| And.intro h9 <| And.intro f0 <| And.intro f1 <| And.intro f2 <| And.intro f3 <| And.intro f4 <| And.intro f5 <| And.intro h10 <| And.intro h11 <| And.intro g0 <| And.intro g1 <| And.intro g2 <| And.intro g3 <| And.intro g4 <| And.intro g5 <| And.intro h12 <| And.intro h13 <| And.intro i0 <| And.intro i1 <| And.intro i2 <| And.intro i3 <| And.intro i4 <| i5
  clear h9 f0 f1 f2 f3 f4 f5 h10 h11 g0 g1 g2 g3 g4 g5 h12 h13 i0 i1 i2 i3 i4 i5
  obtain ⟨h9, f0, f1, f2, f3, f4, f5, h10, h11, g0, g1, g2, g3, g4, g5, h12, h13, i0, i1, i2, i3, i4, i5⟩ := G
  clear b
  replace h14 : Rd v5 .u64 Go.Proofs.YtijflbnfikiaaaaGreatDoor.W A14 n14 c14 x.lo.l := h14
  replace h15 : Rd v5 .u64 Go.Proofs.YtijflbnfikiaaaaGreatDoor.W A15 n15 c15 y.hi.l := h15
  obtain ⟨j0, j1, j2, j3, j4, j5⟩ := (Ibx.new v5 x.lo.s A14 n14 c14 x.lo.e y.hi.s A15 n15 c15 y.hi.e).held
  have b := below_alloc v5 (.cells #[.bool x.lo.s, .slice A14 n14 c14, .int .i64 x.lo.e, .bool y.hi.s, .slice A15 n15 c15, .int .i64 y.hi.e] 26)
  replace BB := below_next BB BB.size b rfl rfl rfl rfl
  have G := mv b rfl <| And.intro a0 <| And.intro a1 <| And.intro a2 <| And.intro a3 <| And.intro a4 <| And.intro a5 <| And.intro b0 <| And.intro b1 <| And.intro b2 <| And.intro b3 <| And.intro b4 <| And.intro b5 <| And.intro d0 <| And.intro d1 <| And.intro d2 <| And.intro hT <| And.intro h1 <| And.intro h2 <| And.intro h3 <| And.intro h4 <| And.intro h5 <| And.intro h6 <| And.intro h7 <| And.intro e0 <| And.intro e1 <| And.intro e2 <| And.intro e3 <| And.intro e4 <| And.intro e5 <| h8
  clear a0 a1 a2 a3 a4 a5 b0 b1 b2 b3 b4 b5 d0 d1 d2 hT h1 h2 h3 h4 h5 h6 h7 e0 e1 e2 e3 e4 e5 h8
  obtain ⟨a0, a1, a2, a3, a4, a5, b0, b1, b2, b3, b4, b5, d0, d1, d2, hT, h1, h2, h3, h4, h5, h6, h7, e0, e1, e2, e3, e4, e5, h8⟩ := G
  have G := mv b rfl <| And.intro h9 <| And.intro f0 <| And.intro f1 <| And.intro f2 <| And.intro f3 <| And.intro f4 <| And.intro f5 <| And.intro h10 <| And.intro h11 <| And.intro g0 <| And.intro g1 <| And.intro g2 <| And.intro g3 <| And.intro g4 <| And.intro g5 <| And.intro h12 <| And.intro h13 <| And.intro i0 <| And.intro i1 <| And.intro i2 <| And.intro i3 <| And.intro i4 <| And.intro i5 <| And.intro h14 <| h15
  clear h9 f0 f1 f2 f3 f4 f5 h10 h11 g0 g1 g2 g3 g4 g5 h12 h13 i0 i1 i2 i3 i4 i5 h14 h15
  obtain ⟨h9, f0, f1, f2, f3, f4, f5, h10, h11, g0, g1, g2, g3, g4, g5, h12, h13, i0, i1, i2, i3, i4, i5, h14, h15⟩ := G
  clear b
  have c_a0 := a0
  have c_a1 := a1
  have c_a2 := a2
  have c_b3 := b3
  have c_b4 := b4
  have c_b5 := b5
  have gz : (v5.alloc (.cells #[.bool x.lo.s, .slice A14 n14 c14, .int .i64 x.lo.e, .bool y.hi.s, .slice A15 n15 c15, .int .i64 y.hi.e] 26)).heap.size = v5.heap.size + 1 := by simp
  have pz := ibx_at gz x.lo.s A1 n1 c1 x.lo.e y.hi.s A4 n4 c4 y.hi.e
  obtain ⟨k0, k1, k2, k3, k4, k5⟩ := pz.held
  have b := below_alloc (v5.alloc (.cells #[.bool x.lo.s, .slice A14 n14 c14, .int .i64 x.lo.e, .bool y.hi.s, .slice A15 n15 c15, .int .i64 y.hi.e] 26)) (.cells #[.bool x.lo.s, .slice A1 n1 c1, .int .i64 x.lo.e, .bool y.hi.s, .slice A4 n4 c4, .int .i64 y.hi.e] 26)
  replace BB := below_next BB BB.size b rfl rfl rfl rfl
  have G := mv b rfl <| And.intro a0 <| And.intro a1 <| And.intro a2 <| And.intro a3 <| And.intro a4 <| And.intro a5 <| And.intro b0 <| And.intro b1 <| And.intro b2 <| And.intro b3 <| And.intro b4 <| And.intro b5 <| And.intro d0 <| And.intro d1 <| And.intro d2 <| And.intro hT <| And.intro h1 <| And.intro h2 <| And.intro h3 <| And.intro h4 <| And.intro h5 <| And.intro h6 <| And.intro h7 <| And.intro e0 <| And.intro e1 <| And.intro e2 <| And.intro e3 <| And.intro e4 <| And.intro e5 <| h8
  clear a0 a1 a2 a3 a4 a5 b0 b1 b2 b3 b4 b5 d0 d1 d2 hT h1 h2 h3 h4 h5 h6 h7 e0 e1 e2 e3 e4 e5 h8
  obtain ⟨a0, a1, a2, a3, a4, a5, b0, b1, b2, b3, b4, b5, d0, d1, d2, hT, h1, h2, h3, h4, h5, h6, h7, e0, e1, e2, e3, e4, e5, h8⟩ := G
  have G := mv b rfl <| And.intro h9 <| And.intro f0 <| And.intro f1 <| And.intro f2 <| And.intro f3 <| And.intro f4 <| And.intro f5 <| And.intro h10 <| And.intro h11 <| And.intro g0 <| And.intro g1 <| And.intro g2 <| And.intro g3 <| And.intro g4 <| And.intro g5 <| And.intro h12 <| And.intro h13 <| And.intro i0 <| And.intro i1 <| And.intro i2 <| And.intro i3 <| And.intro i4 <| And.intro i5 <| And.intro h14 <| And.intro h15 <| And.intro j0 <| And.intro j1 <| And.intro j2 <| And.intro j3 <| j4
  clear h9 f0 f1 f2 f3 f4 f5 h10 h11 g0 g1 g2 g3 g4 g5 h12 h13 i0 i1 i2 i3 i4 i5 h14 h15 j0 j1 j2 j3 j4
  obtain ⟨h9, f0, f1, f2, f3, f4, f5, h10, h11, g0, g1, g2, g3, g4, g5, h12, h13, i0, i1, i2, i3, i4, i5, h14, h15, j0, j1, j2, j3, j4⟩ := G
  replace j5 := mv b rfl j5
  clear b
  clear pz
  go_wp2_with fail
  refine (rmayi_any (K := KK) (x := ⟨x.lo, y.hi⟩) hKK h1 h4).mono ?_
  rintro en v6 ⟨rfl, b⟩
  rw [show mayI KK ⟨x.lo, y.hi⟩ = true by have h := HM.out; rw [show z = ⟨x.lo, y.hi⟩ from congr (congrArg Iv.mk HZ.out.1) HZ.out.2] at h; exact h]
  replace BB := below_next BB BB.size b rfl rfl rfl rfl
  have G := mv b rfl <| And.intro a0 <| And.intro a1 <| And.intro a2 <| And.intro a3 <| And.intro a4 <| And.intro a5 <| And.intro b0 <| And.intro b1 <| And.intro b2 <| And.intro b3 <| And.intro b4 <| And.intro b5 <| And.intro d0 <| And.intro d1 <| And.intro d2 <| And.intro hT <| And.intro h1 <| And.intro h2 <| And.intro h3 <| And.intro h4 <| And.intro h5 <| And.intro h6 <| And.intro h7 <| And.intro e0 <| And.intro e1 <| And.intro e2 <| And.intro e3 <| And.intro e4 <| And.intro e5 <| h8
  clear a0 a1 a2 a3 a4 a5 b0 b1 b2 b3 b4 b5 d0 d1 d2 hT h1 h2 h3 h4 h5 h6 h7 e0 e1 e2 e3 e4 e5 h8
  obtain ⟨a0, a1, a2, a3, a4, a5, b0, b1, b2, b3, b4, b5, d0, d1, d2, hT, h1, h2, h3, h4, h5, h6, h7, e0, e1, e2, e3, e4, e5, h8⟩ := G
  have G := mv b rfl <| And.intro h9 <| And.intro f0 <| And.intro f1 <| And.intro f2 <| And.intro f3 <| And.intro f4 <| And.intro f5 <| And.intro h10 <| And.intro h11 <| And.intro g0 <| And.intro g1 <| And.intro g2 <| And.intro g3 <| And.intro g4 <| And.intro g5 <| And.intro h12 <| And.intro h13 <| And.intro i0 <| And.intro i1 <| And.intro i2 <| And.intro i3 <| And.intro i4 <| And.intro i5 <| And.intro h14 <| And.intro h15 <| And.intro j0 <| And.intro j1 <| And.intro j2 <| And.intro j3 <| j4
  clear h9 f0 f1 f2 f3 f4 f5 h10 h11 g0 g1 g2 g3 g4 g5 h12 h13 i0 i1 i2 i3 i4 i5 h14 h15 j0 j1 j2 j3 j4
  obtain ⟨h9, f0, f1, f2, f3, f4, f5, h10, h11, g0, g1, g2, g3, g4, g5, h12, h13, i0, i1, i2, i3, i4, i5, h14, h15, j0, j1, j2, j3, j4⟩ := G
  have G := mv b rfl <| And.intro j5 <| And.intro k0 <| And.intro k1 <| And.intro k2 <| And.intro k3 <| And.intro k4 <| k5
  clear j5 k0 k1 k2 k3 k4 k5
  obtain ⟨j5, k0, k1, k2, k3, k4, k5⟩ := G
  clear b
  clear c_a0 c_a1 c_a2 c_b3 c_b4 c_b5
  go_upto_region 12 with fail
  have b : Below v6.heap.size v6 (World.drew v6) := below_drewN (Below.refl _ _) 1
  replace BB := below_next BB BB.size b rfl rfl rfl rfl
  have G := mv b rfl <| And.intro a0 <| And.intro a1 <| And.intro a2 <| And.intro a3 <| And.intro a4 <| And.intro a5 <| And.intro b0 <| And.intro b1 <| And.intro b2 <| And.intro b3 <| And.intro b4 <| And.intro b5 <| And.intro d0 <| And.intro d1 <| And.intro d2 <| And.intro hT <| And.intro h1 <| And.intro h2 <| And.intro h3 <| And.intro h4 <| And.intro h5 <| And.intro h6 <| And.intro h7 <| And.intro e0 <| And.intro e1 <| And.intro e2 <| And.intro e3 <| And.intro e4 <| And.intro e5 <| h8
  clear a0 a1 a2 a3 a4 a5 b0 b1 b2 b3 b4 b5 d0 d1 d2 hT h1 h2 h3 h4 h5 h6 h7 e0 e1 e2 e3 e4 e5 h8
  obtain ⟨a0, a1, a2, a3, a4, a5, b0, b1, b2, b3, b4, b5, d0, d1, d2, hT, h1, h2, h3, h4, h5, h6, h7, e0, e1, e2, e3, e4, e5, h8⟩ := G
  have G := mv b rfl <| And.intro h9 <| And.intro f0 <| And.intro f1 <| And.intro f2 <| And.intro f3 <| And.intro f4 <| And.intro f5 <| And.intro h10 <| And.intro h11 <| And.intro g0 <| And.intro g1 <| And.intro g2 <| And.intro g3 <| And.intro g4 <| And.intro g5 <| And.intro h12 <| And.intro h13 <| And.intro i0 <| And.intro i1 <| And.intro i2 <| And.intro i3 <| And.intro i4 <| And.intro i5 <| And.intro h14 <| And.intro h15 <| And.intro j0 <| And.intro j1 <| And.intro j2 <| And.intro j3 <| j4
  clear h9 f0 f1 f2 f3 f4 f5 h10 h11 g0 g1 g2 g3 g4 g5 h12 h13 i0 i1 i2 i3 i4 i5 h14 h15 j0 j1 j2 j3 j4
  obtain ⟨h9, f0, f1, f2, f3, f4, f5, h10, h11, g0, g1, g2, g3, g4, g5, h12, h13, i0, i1, i2, i3, i4, i5, h14, h15, j0, j1, j2, j3, j4⟩ := G
  have G := mv b rfl <| And.intro j5 <| And.intro k0 <| And.intro k1 <| And.intro k2 <| And.intro k3 <| And.intro k4 <| k5
  clear j5 k0 k1 k2 k3 k4 k5
  obtain ⟨j5, k0, k1, k2, k3, k4, k5⟩ := G
  clear b
  refine wp_region_held_drew (S := fun w' => w'.cell? ⟨w.heap.size, 0, none⟩ = some (.bool x.lo.s) ∧ w'.cell? ⟨w.heap.size, 1, none⟩ = some (.slice A1 n1 c1) ∧ w'.cell? ⟨w.heap.size, 2, none⟩ = some (.int .i64 x.lo.e) ∧ w'.cell? ⟨w.heap.size, 3, none⟩ = some (.bool x.hi.s) ∧ w'.cell? ⟨w.heap.size, 4, none⟩ = some (.slice A2 n2 c2) ∧ w'.cell? ⟨w.heap.size, 5, none⟩ = some (.int .i64 x.hi.e) ∧ w'.cell? ⟨w.heap.size + 1, 0, none⟩ = some (.bool y.lo.s) ∧ w'.cell? ⟨w.heap.size + 1, 1, none⟩ = some (.slice A3 n3 c3) ∧ w'.cell? ⟨w.heap.size + 1, 2, none⟩ = some (.int .i64 y.lo.e) ∧ w'.cell? ⟨w.heap.size + 1, 3, none⟩ = some (.bool y.hi.s) ∧ w'.cell? ⟨w.heap.size + 1, 4, none⟩ = some (.slice A4 n4 c4) ∧ w'.cell? ⟨w.heap.size + 1, 5, none⟩ = some (.int .i64 y.hi.e) ∧ w'.cell? ⟨w.heap.size + 2, 0, none⟩ = some (.bool d.s) ∧ w'.cell? ⟨w.heap.size + 2, 1, none⟩ = some (.slice A5 n5 c5) ∧ w'.cell? ⟨w.heap.size + 2, 2, none⟩ = some (.int .i64 d.e) ∧ w'.cell? ⟨v1.heap.size, 0, none⟩ = some (.bool xh.lo.s) ∧ w'.cell? ⟨v1.heap.size, 1, none⟩ = some (.slice A6 n6 c6) ∧ w'.cell? ⟨v1.heap.size, 2, none⟩ = some (.int .i64 xh.lo.e) ∧ w'.cell? ⟨v1.heap.size, 3, none⟩ = some (.bool xh.hi.s) ∧ w'.cell? ⟨v1.heap.size, 4, none⟩ = some (.slice A7 n7 c7) ∧ w'.cell? ⟨v1.heap.size, 5, none⟩ = some (.int .i64 xh.hi.e) ∧ w'.cell? ⟨v2.heap.size, 0, none⟩ = some (.bool xh.lo.s) ∧ w'.cell? ⟨v2.heap.size, 1, none⟩ = some (.slice A8 n8 c8) ∧ w'.cell? ⟨v2.heap.size, 2, none⟩ = some (.int .i64 xh.lo.e) ∧ w'.cell? ⟨v2.heap.size, 3, none⟩ = some (.bool xh.hi.s) ∧ w'.cell? ⟨v2.heap.size, 4, none⟩ = some (.slice A9 n9 c9) ∧ w'.cell? ⟨v2.heap.size, 5, none⟩ = some (.int .i64 xh.hi.e) ∧ w'.cell? ⟨v3.heap.size, 0, none⟩ = some (.bool xm.lo.s) ∧ w'.cell? ⟨v3.heap.size, 1, none⟩ = some (.slice A10 n10 c10) ∧ w'.cell? ⟨v3.heap.size, 2, none⟩ = some (.int .i64 xm.lo.e) ∧ w'.cell? ⟨v3.heap.size, 3, none⟩ = some (.bool xm.hi.s) ∧ w'.cell? ⟨v3.heap.size, 4, none⟩ = some (.slice A11 n11 c11) ∧ w'.cell? ⟨v3.heap.size, 5, none⟩ = some (.int .i64 xm.hi.e) ∧ w'.cell? ⟨v4.heap.size, 0, none⟩ = some (.bool xm.lo.s) ∧ w'.cell? ⟨v4.heap.size, 1, none⟩ = some (.slice A12 n12 c12) ∧ w'.cell? ⟨v4.heap.size, 2, none⟩ = some (.int .i64 xm.lo.e) ∧ w'.cell? ⟨v4.heap.size, 3, none⟩ = some (.bool xm.hi.s) ∧ w'.cell? ⟨v4.heap.size, 4, none⟩ = some (.slice A13 n13 c13) ∧ w'.cell? ⟨v4.heap.size, 5, none⟩ = some (.int .i64 xm.hi.e) ∧ w'.cell? ⟨v5.heap.size, 0, none⟩ = some (.bool x.lo.s) ∧ w'.cell? ⟨v5.heap.size, 1, none⟩ = some (.slice A14 n14 c14) ∧ w'.cell? ⟨v5.heap.size, 2, none⟩ = some (.int .i64 x.lo.e) ∧ w'.cell? ⟨v5.heap.size, 3, none⟩ = some (.bool y.hi.s) ∧ w'.cell? ⟨v5.heap.size, 4, none⟩ = some (.slice A15 n15 c15) ∧ w'.cell? ⟨v5.heap.size, 5, none⟩ = some (.int .i64 y.hi.e) ∧ w'.cell? ⟨v5.heap.size + 1, 0, none⟩ = some (.bool x.lo.s) ∧ w'.cell? ⟨v5.heap.size + 1, 1, none⟩ = some (.slice A1 n1 c1) ∧ w'.cell? ⟨v5.heap.size + 1, 2, none⟩ = some (.int .i64 x.lo.e) ∧ w'.cell? ⟨v5.heap.size + 1, 3, none⟩ = some (.bool y.hi.s) ∧ w'.cell? ⟨v5.heap.size + 1, 4, none⟩ = some (.slice A4 n4 c4) ∧ w'.cell? ⟨v5.heap.size + 1, 5, none⟩ = some (.int .i64 y.hi.e)) (by kernel_rfl) (by exact ⟨a0, a1, a2, a3, a4, a5, b0, b1, b2, b3, b4, b5, d0, d1, d2, e0, e1, e2, e3, e4, e5, f0, f1, f2, f3, f4, f5, g0, g1, g2, g3, g4, g5, i0, i1, i2, i3, i4, i5, j0, j1, j2, j3, j4, j5, k0, k1, k2, k3, k4, k5⟩) (fun hHelds0 => ?_)
  generalize World.drew v6 = wd at *
  have HKK := Lib.hid hKK
  clear hKK
  refine wpAnyH_ready (rs := [0]) (by kernel_rfl) (by simp) ?_
  refine AllReadyH.cons (o := _) rfl (fun K hK => ?_) AllReadyH.nil
  go_simp
  refine (told5_any hT).mono ?_
  rintro en w' ⟨rfl, b⟩
  replace BB := below_next BB BB.size b (by rfl) (by rfl) (by rfl) (by rfl)
  have G := mv b (by rfl) <| And.intro a0 <| And.intro a1 <| And.intro a2 <| And.intro a3 <| And.intro a4 <| And.intro a5 <| And.intro b0 <| And.intro b1 <| And.intro b2 <| And.intro b3 <| And.intro b4 <| And.intro b5 <| And.intro d0 <| And.intro d1 <| And.intro d2 <| And.intro hT <| And.intro h1 <| And.intro h2 <| And.intro h3 <| And.intro h4 <| And.intro h5 <| And.intro h6 <| And.intro h7 <| And.intro e0 <| And.intro e1 <| And.intro e2 <| And.intro e3 <| And.intro e4 <| And.intro e5 <| h8
  clear a0 a1 a2 a3 a4 a5 b0 b1 b2 b3 b4 b5 d0 d1 d2 hT h1 h2 h3 h4 h5 h6 h7 e0 e1 e2 e3 e4 e5 h8
  obtain ⟨a0, a1, a2, a3, a4, a5, b0, b1, b2, b3, b4, b5, d0, d1, d2, hT, h1, h2, h3, h4, h5, h6, h7, e0, e1, e2, e3, e4, e5, h8⟩ := G
  have G := mv b (by rfl) <| And.intro h9 <| And.intro f0 <| And.intro f1 <| And.intro f2 <| And.intro f3 <| And.intro f4 <| And.intro f5 <| And.intro h10 <| And.intro h11 <| And.intro g0 <| And.intro g1 <| And.intro g2 <| And.intro g3 <| And.intro g4 <| And.intro g5 <| And.intro h12 <| And.intro h13 <| And.intro i0 <| And.intro i1 <| And.intro i2 <| And.intro i3 <| And.intro i4 <| And.intro i5 <| And.intro h14 <| And.intro h15 <| And.intro j0 <| And.intro j1 <| And.intro j2 <| And.intro j3 <| j4
  clear h9 f0 f1 f2 f3 f4 f5 h10 h11 g0 g1 g2 g3 g4 g5 h12 h13 i0 i1 i2 i3 i4 i5 h14 h15 j0 j1 j2 j3 j4
  obtain ⟨h9, f0, f1, f2, f3, f4, f5, h10, h11, g0, g1, g2, g3, g4, g5, h12, h13, i0, i1, i2, i3, i4, i5, h14, h15, j0, j1, j2, j3, j4⟩ := G
  have G := mv b (by rfl) <| And.intro j5 <| And.intro k0 <| And.intro k1 <| And.intro k2 <| And.intro k3 <| And.intro k4 <| k5
  clear j5 k0 k1 k2 k3 k4 k5
  obtain ⟨j5, k0, k1, k2, k3, k4, k5⟩ := G
  clear b
  refine hK.out _ _ (by exact ⟨a0, a1, a2, a3, a4, a5, b0, b1, b2, b3, b4, b5, d0, d1, d2, e0, e1, e2, e3, e4, e5, f0, f1, f2, f3, f4, f5, g0, g1, g2, g3, g4, g5, i0, i1, i2, i3, i4, i5, j0, j1, j2, j3, j4, j5, k0, k1, k2, k3, k4, k5⟩) (fun hHelds1 => ?_)
  clear hK K hHelds0
  try simp only [Act.put]
  refine wpAnyH_take (i := 1) (v := ?sv1) rfl (by kernel_rfl) (by kernel_rfl) (by kernel_rfl) (fun _ _ _ h => panic_put (P := Tryz.prog) (fn := Tryz.f3) (R := (fun en w' => ToldEnd w en w')) h) (Or.inl ⟨by rfl, ?sy1⟩) (by assumption) ?_
  case sy1 => (intro w hSw; (try dsimp only at hSw); go_simp); try with_reducible rfl
  change wpAnyH _ _ _ _ _ _ _ (Act.put _ (some 75) _) _
  simp only [Act.put, List.setIfInBounds_toArray, List.set_cons_zero, List.set_cons_succ]
  refine wpAnyH_take (i := 2) (v := ?sv2) rfl (by kernel_rfl) (by kernel_rfl) (by kernel_rfl) (fun _ _ _ h => panic_put (P := Tryz.prog) (fn := Tryz.f3) (R := (fun en w' => ToldEnd w en w')) h) (Or.inl ⟨by rfl, ?sy2⟩) (by assumption) ?_
  case sy2 => (intro w hSw; (try dsimp only at hSw); go_simp); try with_reducible rfl
  change wpAnyH _ _ _ _ _ _ _ (Act.put _ (some 76) _) _
  simp only [Act.put, List.setIfInBounds_toArray, List.set_cons_zero, List.set_cons_succ]
  refine wpAnyH_take (i := 4) (v := ?sv4) rfl (by kernel_rfl) (by kernel_rfl) (by kernel_rfl) (fun _ _ _ h => panic_put (P := Tryz.prog) (fn := Tryz.f3) (R := (fun en w' => ToldEnd w en w')) h) (Or.inl ⟨by rfl, ?sy4⟩) (by assumption) ?_
  case sy4 => (intro w hSw; (try dsimp only at hSw); go_simp); try with_reducible rfl
  change wpAnyH _ _ _ _ _ _ _ (Act.put _ (some 78) _) _
  simp only [Act.put, List.setIfInBounds_toArray, List.set_cons_zero, List.set_cons_succ]
  refine wpAnyH_ready (rs := [3]) (by kernel_rfl) (by simp) ?_
  refine AllReadyH.cons (o := _) rfl (fun K hK => ?_) AllReadyH.nil
  go_simp
  refine (imay_any (x := x) HKK.out hT h1 h2).mono ?_
  rintro en w' ⟨rfl, b⟩
  rw [← H_pm.out]
  replace BB := below_next BB BB.size b (by rfl) (by rfl) (by rfl) (by rfl)
  have G := mv b (by rfl) <| And.intro a0 <| And.intro a1 <| And.intro a2 <| And.intro a3 <| And.intro a4 <| And.intro a5 <| And.intro b0 <| And.intro b1 <| And.intro b2 <| And.intro b3 <| And.intro b4 <| And.intro b5 <| And.intro d0 <| And.intro d1 <| And.intro d2 <| And.intro hT <| And.intro h1 <| And.intro h2 <| And.intro h3 <| And.intro h4 <| And.intro h5 <| And.intro h6 <| And.intro h7 <| And.intro e0 <| And.intro e1 <| And.intro e2 <| And.intro e3 <| And.intro e4 <| And.intro e5 <| h8
  clear a0 a1 a2 a3 a4 a5 b0 b1 b2 b3 b4 b5 d0 d1 d2 hT h1 h2 h3 h4 h5 h6 h7 e0 e1 e2 e3 e4 e5 h8
  obtain ⟨a0, a1, a2, a3, a4, a5, b0, b1, b2, b3, b4, b5, d0, d1, d2, hT, h1, h2, h3, h4, h5, h6, h7, e0, e1, e2, e3, e4, e5, h8⟩ := G
  have G := mv b (by rfl) <| And.intro h9 <| And.intro f0 <| And.intro f1 <| And.intro f2 <| And.intro f3 <| And.intro f4 <| And.intro f5 <| And.intro h10 <| And.intro h11 <| And.intro g0 <| And.intro g1 <| And.intro g2 <| And.intro g3 <| And.intro g4 <| And.intro g5 <| And.intro h12 <| And.intro h13 <| And.intro i0 <| And.intro i1 <| And.intro i2 <| And.intro i3 <| And.intro i4 <| And.intro i5 <| And.intro h14 <| And.intro h15 <| And.intro j0 <| And.intro j1 <| And.intro j2 <| And.intro j3 <| j4
  clear h9 f0 f1 f2 f3 f4 f5 h10 h11 g0 g1 g2 g3 g4 g5 h12 h13 i0 i1 i2 i3 i4 i5 h14 h15 j0 j1 j2 j3 j4
  obtain ⟨h9, f0, f1, f2, f3, f4, f5, h10, h11, g0, g1, g2, g3, g4, g5, h12, h13, i0, i1, i2, i3, i4, i5, h14, h15, j0, j1, j2, j3, j4⟩ := G
  have G := mv b (by rfl) <| And.intro j5 <| And.intro k0 <| And.intro k1 <| And.intro k2 <| And.intro k3 <| And.intro k4 <| k5
  clear j5 k0 k1 k2 k3 k4 k5
  obtain ⟨j5, k0, k1, k2, k3, k4, k5⟩ := G
  clear b
  refine hK.out _ _ (by exact ⟨a0, a1, a2, a3, a4, a5, b0, b1, b2, b3, b4, b5, d0, d1, d2, e0, e1, e2, e3, e4, e5, f0, f1, f2, f3, f4, f5, g0, g1, g2, g3, g4, g5, i0, i1, i2, i3, i4, i5, j0, j1, j2, j3, j4, j5, k0, k1, k2, k3, k4, k5⟩) (fun hHelds2 => ?_)
  clear hK K hHelds1
  try simp only [Act.put]
  refine wpAnyH_ready (rs := [5]) (by kernel_rfl) (by simp) ?_
  refine AllReadyH.cons (o := _) rfl (fun K hK => ?_) AllReadyH.nil
  go_simp
  refine (rmayi_any (x := x) HKK.out h1 h2).mono ?_
  rintro en w' ⟨rfl, b⟩
  rw [← H_pm.out]
  replace BB := below_next BB BB.size b (by rfl) (by rfl) (by rfl) (by rfl)
  have G := mv b (by rfl) <| And.intro a0 <| And.intro a1 <| And.intro a2 <| And.intro a3 <| And.intro a4 <| And.intro a5 <| And.intro b0 <| And.intro b1 <| And.intro b2 <| And.intro b3 <| And.intro b4 <| And.intro b5 <| And.intro d0 <| And.intro d1 <| And.intro d2 <| And.intro hT <| And.intro h1 <| And.intro h2 <| And.intro h3 <| And.intro h4 <| And.intro h5 <| And.intro h6 <| And.intro h7 <| And.intro e0 <| And.intro e1 <| And.intro e2 <| And.intro e3 <| And.intro e4 <| And.intro e5 <| h8
  clear a0 a1 a2 a3 a4 a5 b0 b1 b2 b3 b4 b5 d0 d1 d2 hT h1 h2 h3 h4 h5 h6 h7 e0 e1 e2 e3 e4 e5 h8
  obtain ⟨a0, a1, a2, a3, a4, a5, b0, b1, b2, b3, b4, b5, d0, d1, d2, hT, h1, h2, h3, h4, h5, h6, h7, e0, e1, e2, e3, e4, e5, h8⟩ := G
  have G := mv b (by rfl) <| And.intro h9 <| And.intro f0 <| And.intro f1 <| And.intro f2 <| And.intro f3 <| And.intro f4 <| And.intro f5 <| And.intro h10 <| And.intro h11 <| And.intro g0 <| And.intro g1 <| And.intro g2 <| And.intro g3 <| And.intro g4 <| And.intro g5 <| And.intro h12 <| And.intro h13 <| And.intro i0 <| And.intro i1 <| And.intro i2 <| And.intro i3 <| And.intro i4 <| And.intro i5 <| And.intro h14 <| And.intro h15 <| And.intro j0 <| And.intro j1 <| And.intro j2 <| And.intro j3 <| j4
  clear h9 f0 f1 f2 f3 f4 f5 h10 h11 g0 g1 g2 g3 g4 g5 h12 h13 i0 i1 i2 i3 i4 i5 h14 h15 j0 j1 j2 j3 j4
  obtain ⟨h9, f0, f1, f2, f3, f4, f5, h10, h11, g0, g1, g2, g3, g4, g5, h12, h13, i0, i1, i2, i3, i4, i5, h14, h15, j0, j1, j2, j3, j4⟩ := G
  have G := mv b (by rfl) <| And.intro j5 <| And.intro k0 <| And.intro k1 <| And.intro k2 <| And.intro k3 <| And.intro k4 <| k5
  clear j5 k0 k1 k2 k3 k4 k5
  obtain ⟨j5, k0, k1, k2, k3, k4, k5⟩ := G
  clear b
  refine hK.out _ _ (by exact ⟨a0, a1, a2, a3, a4, a5, b0, b1, b2, b3, b4, b5, d0, d1, d2, e0, e1, e2, e3, e4, e5, f0, f1, f2, f3, f4, f5, g0, g1, g2, g3, g4, g5, i0, i1, i2, i3, i4, i5, j0, j1, j2, j3, j4, j5, k0, k1, k2, k3, k4, k5⟩) (fun hHelds3 => ?_)
  clear hK K hHelds2
  try simp only [Act.put]
  refine wpAnyH_take (i := 6) (v := ?sv6) rfl (by kernel_rfl) (by kernel_rfl) (by kernel_rfl) (fun _ _ _ h => panic_put (P := Tryz.prog) (fn := Tryz.f3) (R := (fun en w' => ToldEnd w en w')) h) (Or.inl ⟨by rfl, ?sy6⟩) (by assumption) ?_
  case sy6 => (intro w hSw; (try dsimp only at hSw); go_simp; (try simp only [f_pm, f_ph, f_pw, f_pi, f_ps])); try with_reducible rfl
  change wpAnyH _ _ _ _ _ _ _ (Act.put _ (some 80) _) _
  simp only [Act.put, List.setIfInBounds_toArray, List.set_cons_zero, List.set_cons_succ]
  refine wpAnyH_take (i := 7) (v := ?sv7) rfl (by kernel_rfl) (by kernel_rfl) (by kernel_rfl) (fun _ _ _ h => panic_put (P := Tryz.prog) (fn := Tryz.f3) (R := (fun en w' => ToldEnd w en w')) h) (Or.inl ⟨by rfl, ?sy7⟩) (by assumption) ?_
  case sy7 => (intro w hSw; (try dsimp only at hSw); go_simp); try with_reducible rfl
  change wpAnyH _ _ _ _ _ _ _ (Act.put _ (some 81) _) _
  simp only [Act.put, List.setIfInBounds_toArray, List.set_cons_zero, List.set_cons_succ]
  refine wpAnyH_take (i := 8) (v := ?sv8) rfl (by kernel_rfl) (by kernel_rfl) (by kernel_rfl) (fun _ _ _ h => panic_put (P := Tryz.prog) (fn := Tryz.f3) (R := (fun en w' => ToldEnd w en w')) h) (Or.inl ⟨by rfl, ?sy8⟩) (by assumption) ?_
  case sy8 => (intro w hSw; (try dsimp only at hSw); go_simp); try with_reducible rfl
  change wpAnyH _ _ _ _ _ _ _ (Act.put _ (some 82) _) _
  simp only [Act.put, List.setIfInBounds_toArray, List.set_cons_zero, List.set_cons_succ]
  refine wpAnyH_take (i := 9) (v := ?sv9) rfl (by kernel_rfl) (by kernel_rfl) (by kernel_rfl) (fun _ _ _ h => panic_put (P := Tryz.prog) (fn := Tryz.f3) (R := (fun en w' => ToldEnd w en w')) h) (Or.inl ⟨by rfl, ?sy9⟩) (by assumption) ?_
  case sy9 => (intro w hSw; (try dsimp only at hSw); go_simp); try with_reducible rfl
  change wpAnyH _ _ _ _ _ _ _ (Act.put _ (some 83) _) _
  simp only [Act.put, List.setIfInBounds_toArray, List.set_cons_zero, List.set_cons_succ]
  refine wpAnyH_take (i := 10) (v := ?sv10) rfl (by kernel_rfl) (by kernel_rfl) (by kernel_rfl) (fun _ _ _ h => panic_put (P := Tryz.prog) (fn := Tryz.f3) (R := (fun en w' => ToldEnd w en w')) h) (Or.inl ⟨by rfl, ?sy10⟩) (by assumption) ?_
  case sy10 => (intro w hSw; (try dsimp only at hSw); go_simp); try with_reducible rfl
  change wpAnyH _ _ _ _ _ _ _ (Act.put _ (some 84) _) _
  simp only [Act.put, List.setIfInBounds_toArray, List.set_cons_zero, List.set_cons_succ]
  refine wpAnyH_take (i := 11) (v := ?sv11) rfl (by kernel_rfl) (by kernel_rfl) (by kernel_rfl) (fun _ _ _ h => panic_put (P := Tryz.prog) (fn := Tryz.f3) (R := (fun en w' => ToldEnd w en w')) h) (Or.inl ⟨by rfl, ?sy11⟩) (by assumption) ?_
  case sy11 => (intro w hSw; (try dsimp only at hSw); go_simp); try with_reducible rfl
  change wpAnyH _ _ _ _ _ _ _ (Act.put _ (some 85) _) _
  simp only [Act.put, List.setIfInBounds_toArray, List.set_cons_zero, List.set_cons_succ]
  refine wpAnyH_take (i := 12) (v := ?sv12) rfl (by kernel_rfl) (by kernel_rfl) (by kernel_rfl) (fun _ _ _ h => panic_put (P := Tryz.prog) (fn := Tryz.f3) (R := (fun en w' => ToldEnd w en w')) h) (Or.inl ⟨by rfl, ?sy12⟩) (by assumption) ?_
  case sy12 => (intro w hSw; (try dsimp only at hSw); go_simp); try with_reducible rfl
  change wpAnyH _ _ _ _ _ _ _ (Act.put _ (some 86) _) _
  simp only [Act.put, List.setIfInBounds_toArray, List.set_cons_zero, List.set_cons_succ]
  refine wpAnyH_ready (rs := [13]) (by kernel_rfl) (by simp) ?_
  refine AllReadyH.cons (o := _) rfl (fun K hK => ?_) AllReadyH.nil
  go_simp
  refine (same5_self (x := xh) (k := kh) h6 h7 h8 h9).mono ?_
  rintro en w' ⟨rfl, b⟩
  clear h6
  clear h7
  clear h8
  clear h9
  replace BB := below_next BB BB.size b (by rfl) (by rfl) (by rfl) (by rfl)
  have G := mv b (by rfl) <| And.intro a0 <| And.intro a1 <| And.intro a2 <| And.intro a3 <| And.intro a4 <| And.intro a5 <| And.intro b0 <| And.intro b1 <| And.intro b2 <| And.intro b3 <| And.intro b4 <| And.intro b5 <| And.intro d0 <| And.intro d1 <| And.intro d2 <| And.intro hT <| And.intro h1 <| And.intro h2 <| And.intro h3 <| And.intro h4 <| And.intro h5 <| And.intro e0 <| And.intro e1 <| And.intro e2 <| And.intro e3 <| And.intro e4 <| And.intro e5 <| And.intro f0 <| And.intro f1 <| f2
  clear a0 a1 a2 a3 a4 a5 b0 b1 b2 b3 b4 b5 d0 d1 d2 hT h1 h2 h3 h4 h5 e0 e1 e2 e3 e4 e5 f0 f1 f2
  obtain ⟨a0, a1, a2, a3, a4, a5, b0, b1, b2, b3, b4, b5, d0, d1, d2, hT, h1, h2, h3, h4, h5, e0, e1, e2, e3, e4, e5, f0, f1, f2⟩ := G
  have G := mv b (by rfl) <| And.intro f3 <| And.intro f4 <| And.intro f5 <| And.intro h10 <| And.intro h11 <| And.intro g0 <| And.intro g1 <| And.intro g2 <| And.intro g3 <| And.intro g4 <| And.intro g5 <| And.intro h12 <| And.intro h13 <| And.intro i0 <| And.intro i1 <| And.intro i2 <| And.intro i3 <| And.intro i4 <| And.intro i5 <| And.intro h14 <| And.intro h15 <| And.intro j0 <| And.intro j1 <| And.intro j2 <| And.intro j3 <| And.intro j4 <| And.intro j5 <| And.intro k0 <| And.intro k1 <| k2
  clear f3 f4 f5 h10 h11 g0 g1 g2 g3 g4 g5 h12 h13 i0 i1 i2 i3 i4 i5 h14 h15 j0 j1 j2 j3 j4 j5 k0 k1 k2
  obtain ⟨f3, f4, f5, h10, h11, g0, g1, g2, g3, g4, g5, h12, h13, i0, i1, i2, i3, i4, i5, h14, h15, j0, j1, j2, j3, j4, j5, k0, k1, k2⟩ := G
  have G := mv b (by rfl) <| And.intro k3 <| And.intro k4 <| k5
  clear k3 k4 k5
  obtain ⟨k3, k4, k5⟩ := G
  clear b
  refine hK.out _ _ (by exact ⟨a0, a1, a2, a3, a4, a5, b0, b1, b2, b3, b4, b5, d0, d1, d2, e0, e1, e2, e3, e4, e5, f0, f1, f2, f3, f4, f5, g0, g1, g2, g3, g4, g5, i0, i1, i2, i3, i4, i5, j0, j1, j2, j3, j4, j5, k0, k1, k2, k3, k4, k5⟩) (fun hHelds4 => ?_)
  clear hK K hHelds3
  try simp only [Act.put]
  refine wpAnyH_take (i := 14) (v := ?sv14) rfl (by kernel_rfl) (by kernel_rfl) (by kernel_rfl) (fun _ _ _ h => panic_put (P := Tryz.prog) (fn := Tryz.f3) (R := (fun en w' => ToldEnd w en w')) h) (Or.inl ⟨by rfl, ?sy14⟩) (by assumption) ?_
  case sy14 => (intro w hSw; (try dsimp only at hSw); go_simp); try with_reducible rfl
  change wpAnyH _ _ _ _ _ _ _ (Act.put _ (some 88) _) _
  simp only [Act.put, List.setIfInBounds_toArray, List.set_cons_zero, List.set_cons_succ]
  refine wpAnyH_take (i := 15) (v := ?sv15) rfl (by kernel_rfl) (by kernel_rfl) (by kernel_rfl) (fun _ _ _ h => panic_put (P := Tryz.prog) (fn := Tryz.f3) (R := (fun en w' => ToldEnd w en w')) h) (Or.inl ⟨by rfl, ?sy15⟩) (by assumption) ?_
  case sy15 => (intro w hSw; (try dsimp only at hSw); go_simp); try with_reducible rfl
  change wpAnyH _ _ _ _ _ _ _ (Act.put _ (some 89) _) _
  simp only [Act.put, List.setIfInBounds_toArray, List.set_cons_zero, List.set_cons_succ]
  refine wpAnyH_take (i := 16) (v := ?sv16) rfl (by kernel_rfl) (by kernel_rfl) (by kernel_rfl) (fun _ _ _ h => panic_put (P := Tryz.prog) (fn := Tryz.f3) (R := (fun en w' => ToldEnd w en w')) h) (Or.inl ⟨by rfl, ?sy16⟩) (by assumption) ?_
  case sy16 => (intro w hSw; (try dsimp only at hSw); go_simp); try with_reducible rfl
  change wpAnyH _ _ _ _ _ _ _ (Act.put _ (some 90) _) _
  simp only [Act.put, List.setIfInBounds_toArray, List.set_cons_zero, List.set_cons_succ]
  refine wpAnyH_take (i := 17) (v := ?sv17) rfl (by kernel_rfl) (by kernel_rfl) (by kernel_rfl) (fun _ _ _ h => panic_put (P := Tryz.prog) (fn := Tryz.f3) (R := (fun en w' => ToldEnd w en w')) h) (Or.inl ⟨by rfl, ?sy17⟩) (by assumption) ?_
  case sy17 => (intro w hSw; (try dsimp only at hSw); go_simp); try with_reducible rfl
  change wpAnyH _ _ _ _ _ _ _ (Act.put _ (some 91) _) _
  simp only [Act.put, List.setIfInBounds_toArray, List.set_cons_zero, List.set_cons_succ]
  refine wpAnyH_take (i := 18) (v := ?sv18) rfl (by kernel_rfl) (by kernel_rfl) (by kernel_rfl) (fun _ _ _ h => panic_put (P := Tryz.prog) (fn := Tryz.f3) (R := (fun en w' => ToldEnd w en w')) h) (Or.inl ⟨by rfl, ?sy18⟩) (by assumption) ?_
  case sy18 => (intro w hSw; (try dsimp only at hSw); go_simp); try with_reducible rfl
  change wpAnyH _ _ _ _ _ _ _ (Act.put _ (some 92) _) _
  simp only [Act.put, List.setIfInBounds_toArray, List.set_cons_zero, List.set_cons_succ]
  refine wpAnyH_take (i := 19) (v := ?sv19) rfl (by kernel_rfl) (by kernel_rfl) (by kernel_rfl) (fun _ _ _ h => panic_put (P := Tryz.prog) (fn := Tryz.f3) (R := (fun en w' => ToldEnd w en w')) h) (Or.inl ⟨by rfl, ?sy19⟩) (by assumption) ?_
  case sy19 => (intro w hSw; (try dsimp only at hSw); go_simp); try with_reducible rfl
  change wpAnyH _ _ _ _ _ _ _ (Act.put _ (some 93) _) _
  simp only [Act.put, List.setIfInBounds_toArray, List.set_cons_zero, List.set_cons_succ]
  refine wpAnyH_ready (rs := [20]) (by kernel_rfl) (by simp) ?_
  refine AllReadyH.cons (o := _) rfl (fun K hK => ?_) AllReadyH.nil
  go_simp
  refine (same5_self (x := xm) (k := km) h10 h11 h12 h13).mono ?_
  rintro en w' ⟨rfl, b⟩
  clear h10
  clear h11
  clear h12
  clear h13
  replace BB := below_next BB BB.size b (by rfl) (by rfl) (by rfl) (by rfl)
  have G := mv b (by rfl) <| And.intro a0 <| And.intro a1 <| And.intro a2 <| And.intro a3 <| And.intro a4 <| And.intro a5 <| And.intro b0 <| And.intro b1 <| And.intro b2 <| And.intro b3 <| And.intro b4 <| And.intro b5 <| And.intro d0 <| And.intro d1 <| And.intro d2 <| And.intro hT <| And.intro h1 <| And.intro h2 <| And.intro h3 <| And.intro h4 <| And.intro h5 <| And.intro e0 <| And.intro e1 <| And.intro e2 <| And.intro e3 <| And.intro e4 <| And.intro e5 <| And.intro f0 <| And.intro f1 <| f2
  clear a0 a1 a2 a3 a4 a5 b0 b1 b2 b3 b4 b5 d0 d1 d2 hT h1 h2 h3 h4 h5 e0 e1 e2 e3 e4 e5 f0 f1 f2
  obtain ⟨a0, a1, a2, a3, a4, a5, b0, b1, b2, b3, b4, b5, d0, d1, d2, hT, h1, h2, h3, h4, h5, e0, e1, e2, e3, e4, e5, f0, f1, f2⟩ := G
  have G := mv b (by rfl) <| And.intro f3 <| And.intro f4 <| And.intro f5 <| And.intro g0 <| And.intro g1 <| And.intro g2 <| And.intro g3 <| And.intro g4 <| And.intro g5 <| And.intro i0 <| And.intro i1 <| And.intro i2 <| And.intro i3 <| And.intro i4 <| And.intro i5 <| And.intro h14 <| And.intro h15 <| And.intro j0 <| And.intro j1 <| And.intro j2 <| And.intro j3 <| And.intro j4 <| And.intro j5 <| And.intro k0 <| And.intro k1 <| And.intro k2 <| And.intro k3 <| And.intro k4 <| k5
  clear f3 f4 f5 g0 g1 g2 g3 g4 g5 i0 i1 i2 i3 i4 i5 h14 h15 j0 j1 j2 j3 j4 j5 k0 k1 k2 k3 k4 k5
  obtain ⟨f3, f4, f5, g0, g1, g2, g3, g4, g5, i0, i1, i2, i3, i4, i5, h14, h15, j0, j1, j2, j3, j4, j5, k0, k1, k2, k3, k4, k5⟩ := G
  clear b
  refine hK.out _ _ (by exact ⟨a0, a1, a2, a3, a4, a5, b0, b1, b2, b3, b4, b5, d0, d1, d2, e0, e1, e2, e3, e4, e5, f0, f1, f2, f3, f4, f5, g0, g1, g2, g3, g4, g5, i0, i1, i2, i3, i4, i5, j0, j1, j2, j3, j4, j5, k0, k1, k2, k3, k4, k5⟩) (fun hHelds5 => ?_)
  clear hK K hHelds4
  try simp only [Act.put]
  refine wpAnyH_take (i := 21) (v := ?sv21) rfl (by kernel_rfl) (by kernel_rfl) (by kernel_rfl) (fun _ _ _ h => panic_put (P := Tryz.prog) (fn := Tryz.f3) (R := (fun en w' => ToldEnd w en w')) h) (Or.inl ⟨by rfl, ?sy21⟩) (by assumption) ?_
  case sy21 => (intro w hSw; (try dsimp only at hSw); go_simp); try with_reducible rfl
  change wpAnyH _ _ _ _ _ _ _ (Act.put _ (some 95) _) _
  simp only [Act.put, List.setIfInBounds_toArray, List.set_cons_zero, List.set_cons_succ]
  refine wpAnyH_take (i := 22) (v := ?sv22) rfl (by kernel_rfl) (by kernel_rfl) (by kernel_rfl) (fun _ _ _ h => panic_put (P := Tryz.prog) (fn := Tryz.f3) (R := (fun en w' => ToldEnd w en w')) h) (Or.inl ⟨by rfl, ?sy22⟩) (by assumption) ?_
  case sy22 => (intro w hSw; (try dsimp only at hSw); go_simp); try with_reducible rfl
  change wpAnyH _ _ _ _ _ _ _ (Act.put _ (some 96) _) _
  simp only [Act.put, List.setIfInBounds_toArray, List.set_cons_zero, List.set_cons_succ]
  refine wpAnyH_take (i := 23) (v := ?sv23) rfl (by kernel_rfl) (by kernel_rfl) (by kernel_rfl) (fun _ _ _ h => panic_put (P := Tryz.prog) (fn := Tryz.f3) (R := (fun en w' => ToldEnd w en w')) h) (Or.inl ⟨by rfl, ?sy23⟩) (by assumption) ?_
  case sy23 => (intro w hSw; (try dsimp only at hSw); go_simp); try with_reducible rfl
  change wpAnyH _ _ _ _ _ _ _ (Act.put _ (some 97) _) _
  simp only [Act.put, List.setIfInBounds_toArray, List.set_cons_zero, List.set_cons_succ]
  refine wpAnyH_take (i := 24) (v := ?sv24) rfl (by kernel_rfl) (by kernel_rfl) (by kernel_rfl) (fun _ _ _ h => panic_put (P := Tryz.prog) (fn := Tryz.f3) (R := (fun en w' => ToldEnd w en w')) h) (Or.inl ⟨by rfl, ?sy24⟩) (by assumption) ?_
  case sy24 => (intro w hSw; (try dsimp only at hSw); go_simp); try with_reducible rfl
  change wpAnyH _ _ _ _ _ _ _ (Act.put _ (some 98) _) _
  simp only [Act.put, List.setIfInBounds_toArray, List.set_cons_zero, List.set_cons_succ]
  refine wpAnyH_take (i := 25) (v := ?sv25) rfl (by kernel_rfl) (by kernel_rfl) (by kernel_rfl) (fun _ _ _ h => panic_put (P := Tryz.prog) (fn := Tryz.f3) (R := (fun en w' => ToldEnd w en w')) h) (Or.inl ⟨by rfl, ?sy25⟩) (by assumption) ?_
  case sy25 => (intro w hSw; (try dsimp only at hSw); go_simp); try with_reducible rfl
  change wpAnyH _ _ _ _ _ _ _ (Act.put _ (some 99) _) _
  simp only [Act.put, List.setIfInBounds_toArray, List.set_cons_zero, List.set_cons_succ]
  refine wpAnyH_take (i := 26) (v := ?sv26) rfl (by kernel_rfl) (by kernel_rfl) (by kernel_rfl) (fun _ _ _ h => panic_put (P := Tryz.prog) (fn := Tryz.f3) (R := (fun en w' => ToldEnd w en w')) h) (Or.inl ⟨by rfl, ?sy26⟩) (by assumption) ?_
  case sy26 => (intro w hSw; (try dsimp only at hSw); go_simp); try with_reducible rfl
  change wpAnyH _ _ _ _ _ _ _ (Act.put _ (some 100) _) _
  simp only [Act.put, List.setIfInBounds_toArray, List.set_cons_zero, List.set_cons_succ]
  refine wpAnyH_ready (rs := [27]) (by kernel_rfl) (by simp) ?_
  refine AllReadyH.cons (o := _) rfl (fun K hK => ?_) AllReadyH.nil
  go_simp
  refine (same5_self (x := ⟨x.lo, y.hi⟩) (k := 0) h14 h15 h1 h4).mono ?_
  rintro en w' ⟨rfl, b⟩
  clear h14
  clear h15
  replace BB := below_next BB BB.size b (by rfl) (by rfl) (by rfl) (by rfl)
  have G := mv b (by rfl) <| And.intro a0 <| And.intro a1 <| And.intro a2 <| And.intro a3 <| And.intro a4 <| And.intro a5 <| And.intro b0 <| And.intro b1 <| And.intro b2 <| And.intro b3 <| And.intro b4 <| And.intro b5 <| And.intro d0 <| And.intro d1 <| And.intro d2 <| And.intro hT <| And.intro h1 <| And.intro h2 <| And.intro h3 <| And.intro h4 <| And.intro h5 <| And.intro e0 <| And.intro e1 <| And.intro e2 <| And.intro e3 <| And.intro e4 <| And.intro e5 <| And.intro f0 <| And.intro f1 <| f2
  clear a0 a1 a2 a3 a4 a5 b0 b1 b2 b3 b4 b5 d0 d1 d2 hT h1 h2 h3 h4 h5 e0 e1 e2 e3 e4 e5 f0 f1 f2
  obtain ⟨a0, a1, a2, a3, a4, a5, b0, b1, b2, b3, b4, b5, d0, d1, d2, hT, h1, h2, h3, h4, h5, e0, e1, e2, e3, e4, e5, f0, f1, f2⟩ := G
  have G := mv b (by rfl) <| And.intro f3 <| And.intro f4 <| And.intro f5 <| And.intro g0 <| And.intro g1 <| And.intro g2 <| And.intro g3 <| And.intro g4 <| And.intro g5 <| And.intro i0 <| And.intro i1 <| And.intro i2 <| And.intro i3 <| And.intro i4 <| And.intro i5 <| And.intro j0 <| And.intro j1 <| And.intro j2 <| And.intro j3 <| And.intro j4 <| And.intro j5 <| And.intro k0 <| And.intro k1 <| And.intro k2 <| And.intro k3 <| And.intro k4 <| k5
  clear f3 f4 f5 g0 g1 g2 g3 g4 g5 i0 i1 i2 i3 i4 i5 j0 j1 j2 j3 j4 j5 k0 k1 k2 k3 k4 k5
  obtain ⟨f3, f4, f5, g0, g1, g2, g3, g4, g5, i0, i1, i2, i3, i4, i5, j0, j1, j2, j3, j4, j5, k0, k1, k2, k3, k4, k5⟩ := G
  clear b
  refine hK.out _ _ (by exact ⟨a0, a1, a2, a3, a4, a5, b0, b1, b2, b3, b4, b5, d0, d1, d2, e0, e1, e2, e3, e4, e5, f0, f1, f2, f3, f4, f5, g0, g1, g2, g3, g4, g5, i0, i1, i2, i3, i4, i5, j0, j1, j2, j3, j4, j5, k0, k1, k2, k3, k4, k5⟩) (fun hHelds6 => ?_)
  clear hK K hHelds5
  try simp only [Act.put]
  refine wpAnyH_take (i := 28) (v := ?sv28) rfl (by kernel_rfl) (by kernel_rfl) (by kernel_rfl) (fun _ _ _ h => panic_put (P := Tryz.prog) (fn := Tryz.f3) (R := (fun en w' => ToldEnd w en w')) h) (Or.inl ⟨by rfl, ?sy28⟩) (by assumption) ?_
  case sy28 => (intro w hSw; (try dsimp only at hSw); go_simp); try with_reducible rfl
  change wpAnyH _ _ _ _ _ _ _ (Act.put _ (some 102) _) _
  simp only [Act.put, List.setIfInBounds_toArray, List.set_cons_zero, List.set_cons_succ]
  refine wpAnyH_take (i := 29) (v := ?sv29) rfl (by kernel_rfl) (by kernel_rfl) (by kernel_rfl) (fun _ _ _ h => panic_put (P := Tryz.prog) (fn := Tryz.f3) (R := (fun en w' => ToldEnd w en w')) h) (Or.inl ⟨by rfl, ?sy29⟩) (by assumption) ?_
  case sy29 => (intro w hSw; (try dsimp only at hSw); go_simp); try with_reducible rfl
  change wpAnyH _ _ _ _ _ _ _ (Act.put _ (some 103) _) _
  simp only [Act.put, List.setIfInBounds_toArray, List.set_cons_zero, List.set_cons_succ]
  refine wpAnyH_take (i := 30) (v := ?sv30) rfl (by kernel_rfl) (by kernel_rfl) (by kernel_rfl) (fun _ _ _ h => panic_put (P := Tryz.prog) (fn := Tryz.f3) (R := (fun en w' => ToldEnd w en w')) h) (Or.inl ⟨by rfl, ?sy30⟩) (by assumption) ?_
  case sy30 => (intro w hSw; (try dsimp only at hSw); go_simp); try with_reducible rfl
  change wpAnyH _ _ _ _ _ _ _ (Act.put _ (some 104) _) _
  simp only [Act.put, List.setIfInBounds_toArray, List.set_cons_zero, List.set_cons_succ]
  refine wpAnyH_take (i := 31) (v := ?sv31) rfl (by kernel_rfl) (by kernel_rfl) (by kernel_rfl) (fun _ _ _ h => panic_put (P := Tryz.prog) (fn := Tryz.f3) (R := (fun en w' => ToldEnd w en w')) h) (Or.inl ⟨by rfl, ?sy31⟩) (by assumption) ?_
  case sy31 => (intro w hSw; (try dsimp only at hSw); go_simp); try with_reducible rfl
  change wpAnyH _ _ _ _ _ _ _ (Act.put _ (some 105) _) _
  simp only [Act.put, List.setIfInBounds_toArray, List.set_cons_zero, List.set_cons_succ]
  refine wpAnyH_take (i := 33) (v := ?sv33) rfl (by kernel_rfl) (by kernel_rfl) (by kernel_rfl) (fun _ _ _ h => panic_put (P := Tryz.prog) (fn := Tryz.f3) (R := (fun en w' => ToldEnd w en w')) h) (Or.inl ⟨by rfl, ?sy33⟩) (by assumption) ?_
  case sy33 => (intro w hSw; (try dsimp only at hSw); go_simp); try with_reducible rfl
  change wpAnyH _ _ _ _ _ _ _ (Act.put _ (some 107) _) _
  simp only [Act.put, List.setIfInBounds_toArray, List.set_cons_zero, List.set_cons_succ]
  refine wpAnyH_take (i := 34) (v := ?sv34) rfl (by kernel_rfl) (by kernel_rfl) (by kernel_rfl) (fun _ _ _ h => panic_put (P := Tryz.prog) (fn := Tryz.f3) (R := (fun en w' => ToldEnd w en w')) h) (Or.inl ⟨by rfl, ?sy34⟩) (by assumption) ?_
  case sy34 => (intro w hSw; (try dsimp only at hSw); go_simp); try with_reducible rfl
  change wpAnyH _ _ _ _ _ _ _ (Act.put _ (some 108) _) _
  simp only [Act.put, List.setIfInBounds_toArray, List.set_cons_zero, List.set_cons_succ]
  refine wpAnyH_ready (rs := [32]) (by kernel_rfl) (by simp) ?_
  refine AllReadyH.cons (o := _) rfl (fun K hK => ?_) AllReadyH.nil
  go_simp
  refine (ihas_any (x := x) (d := d) HKK.out hT h1 h2 h5).mono ?_
  rintro en w' ⟨rfl, b⟩
  rw [← H_ph.out]
  replace BB := below_next BB BB.size b (by rfl) (by rfl) (by rfl) (by rfl)
  have G := mv b (by rfl) <| And.intro a0 <| And.intro a1 <| And.intro a2 <| And.intro a3 <| And.intro a4 <| And.intro a5 <| And.intro b0 <| And.intro b1 <| And.intro b2 <| And.intro b3 <| And.intro b4 <| And.intro b5 <| And.intro d0 <| And.intro d1 <| And.intro d2 <| And.intro hT <| And.intro h1 <| And.intro h2 <| And.intro h3 <| And.intro h4 <| And.intro h5 <| And.intro e0 <| And.intro e1 <| And.intro e2 <| And.intro e3 <| And.intro e4 <| And.intro e5 <| And.intro f0 <| And.intro f1 <| f2
  clear a0 a1 a2 a3 a4 a5 b0 b1 b2 b3 b4 b5 d0 d1 d2 hT h1 h2 h3 h4 h5 e0 e1 e2 e3 e4 e5 f0 f1 f2
  obtain ⟨a0, a1, a2, a3, a4, a5, b0, b1, b2, b3, b4, b5, d0, d1, d2, hT, h1, h2, h3, h4, h5, e0, e1, e2, e3, e4, e5, f0, f1, f2⟩ := G
  have G := mv b (by rfl) <| And.intro f3 <| And.intro f4 <| And.intro f5 <| And.intro g0 <| And.intro g1 <| And.intro g2 <| And.intro g3 <| And.intro g4 <| And.intro g5 <| And.intro i0 <| And.intro i1 <| And.intro i2 <| And.intro i3 <| And.intro i4 <| And.intro i5 <| And.intro j0 <| And.intro j1 <| And.intro j2 <| And.intro j3 <| And.intro j4 <| And.intro j5 <| And.intro k0 <| And.intro k1 <| And.intro k2 <| And.intro k3 <| And.intro k4 <| k5
  clear f3 f4 f5 g0 g1 g2 g3 g4 g5 i0 i1 i2 i3 i4 i5 j0 j1 j2 j3 j4 j5 k0 k1 k2 k3 k4 k5
  obtain ⟨f3, f4, f5, g0, g1, g2, g3, g4, g5, i0, i1, i2, i3, i4, i5, j0, j1, j2, j3, j4, j5, k0, k1, k2, k3, k4, k5⟩ := G
  clear b
  refine hK.out _ _ (by exact ⟨a0, a1, a2, a3, a4, a5, b0, b1, b2, b3, b4, b5, d0, d1, d2, e0, e1, e2, e3, e4, e5, f0, f1, f2, f3, f4, f5, g0, g1, g2, g3, g4, g5, i0, i1, i2, i3, i4, i5, j0, j1, j2, j3, j4, j5, k0, k1, k2, k3, k4, k5⟩) (fun hHelds7 => ?_)
  clear hK K hHelds6
  try simp only [Act.put]
  refine wpAnyH_ready (rs := [35]) (by kernel_rfl) (by simp) ?_
  refine AllReadyH.cons (o := _) rfl (fun K hK => ?_) AllReadyH.nil
  go_simp
  refine (rhas_any (x := x) (d := d) HKK.out h1 h2 h5).mono ?_
  rintro en w' ⟨rfl, b⟩
  rw [← H_ph.out]
  replace BB := below_next BB BB.size b (by rfl) (by rfl) (by rfl) (by rfl)
  have G := mv b (by rfl) <| And.intro a0 <| And.intro a1 <| And.intro a2 <| And.intro a3 <| And.intro a4 <| And.intro a5 <| And.intro b0 <| And.intro b1 <| And.intro b2 <| And.intro b3 <| And.intro b4 <| And.intro b5 <| And.intro d0 <| And.intro d1 <| And.intro d2 <| And.intro hT <| And.intro h1 <| And.intro h2 <| And.intro h3 <| And.intro h4 <| And.intro h5 <| And.intro e0 <| And.intro e1 <| And.intro e2 <| And.intro e3 <| And.intro e4 <| And.intro e5 <| And.intro f0 <| And.intro f1 <| f2
  clear a0 a1 a2 a3 a4 a5 b0 b1 b2 b3 b4 b5 d0 d1 d2 hT h1 h2 h3 h4 h5 e0 e1 e2 e3 e4 e5 f0 f1 f2
  obtain ⟨a0, a1, a2, a3, a4, a5, b0, b1, b2, b3, b4, b5, d0, d1, d2, hT, h1, h2, h3, h4, h5, e0, e1, e2, e3, e4, e5, f0, f1, f2⟩ := G
  have G := mv b (by rfl) <| And.intro f3 <| And.intro f4 <| And.intro f5 <| And.intro g0 <| And.intro g1 <| And.intro g2 <| And.intro g3 <| And.intro g4 <| And.intro g5 <| And.intro i0 <| And.intro i1 <| And.intro i2 <| And.intro i3 <| And.intro i4 <| And.intro i5 <| And.intro j0 <| And.intro j1 <| And.intro j2 <| And.intro j3 <| And.intro j4 <| And.intro j5 <| And.intro k0 <| And.intro k1 <| And.intro k2 <| And.intro k3 <| And.intro k4 <| k5
  clear f3 f4 f5 g0 g1 g2 g3 g4 g5 i0 i1 i2 i3 i4 i5 j0 j1 j2 j3 j4 j5 k0 k1 k2 k3 k4 k5
  obtain ⟨f3, f4, f5, g0, g1, g2, g3, g4, g5, i0, i1, i2, i3, i4, i5, j0, j1, j2, j3, j4, j5, k0, k1, k2, k3, k4, k5⟩ := G
  clear b
  refine hK.out _ _ (by exact ⟨a0, a1, a2, a3, a4, a5, b0, b1, b2, b3, b4, b5, d0, d1, d2, e0, e1, e2, e3, e4, e5, f0, f1, f2, f3, f4, f5, g0, g1, g2, g3, g4, g5, i0, i1, i2, i3, i4, i5, j0, j1, j2, j3, j4, j5, k0, k1, k2, k3, k4, k5⟩) (fun hHelds8 => ?_)
  clear hK K hHelds7
  try simp only [Act.put]
  refine wpAnyH_take (i := 36) (v := ?sv36) rfl (by kernel_rfl) (by kernel_rfl) (by kernel_rfl) (fun _ _ _ h => panic_put (P := Tryz.prog) (fn := Tryz.f3) (R := (fun en w' => ToldEnd w en w')) h) (Or.inl ⟨by rfl, ?sy36⟩) (by assumption) ?_
  case sy36 => (intro w hSw; (try dsimp only at hSw); go_simp; (try simp only [f_pm, f_ph, f_pw, f_pi, f_ps])); try with_reducible rfl
  change wpAnyH _ _ _ _ _ _ _ (Act.put _ (some 110) _) _
  simp only [Act.put, List.setIfInBounds_toArray, List.set_cons_zero, List.set_cons_succ]
  refine wpAnyH_take (i := 37) (v := ?sv37) rfl (by kernel_rfl) (by kernel_rfl) (by kernel_rfl) (fun _ _ _ h => panic_put (P := Tryz.prog) (fn := Tryz.f3) (R := (fun en w' => ToldEnd w en w')) h) (Or.inl ⟨by rfl, ?sy37⟩) (by assumption) ?_
  case sy37 => (intro w hSw; (try dsimp only at hSw); go_simp); try with_reducible rfl
  change wpAnyH _ _ _ _ _ _ _ (Act.put _ (some 111) _) _
  simp only [Act.put, List.setIfInBounds_toArray, List.set_cons_zero, List.set_cons_succ]
  refine wpAnyH_take (i := 38) (v := ?sv38) rfl (by kernel_rfl) (by kernel_rfl) (by kernel_rfl) (fun _ _ _ h => panic_put (P := Tryz.prog) (fn := Tryz.f3) (R := (fun en w' => ToldEnd w en w')) h) (Or.inl ⟨by rfl, ?sy38⟩) (by assumption) ?_
  case sy38 => (intro w hSw; (try dsimp only at hSw); go_simp); try with_reducible rfl
  change wpAnyH _ _ _ _ _ _ _ (Act.put _ (some 112) _) _
  simp only [Act.put, List.setIfInBounds_toArray, List.set_cons_zero, List.set_cons_succ]
  refine wpAnyH_take (i := 39) (v := ?sv39) rfl (by kernel_rfl) (by kernel_rfl) (by kernel_rfl) (fun _ _ _ h => panic_put (P := Tryz.prog) (fn := Tryz.f3) (R := (fun en w' => ToldEnd w en w')) h) (Or.inl ⟨by rfl, ?sy39⟩) (by assumption) ?_
  case sy39 => (intro w hSw; (try dsimp only at hSw); go_simp); try with_reducible rfl
  change wpAnyH _ _ _ _ _ _ _ (Act.put _ (some 113) _) _
  simp only [Act.put, List.setIfInBounds_toArray, List.set_cons_zero, List.set_cons_succ]
  refine wpAnyH_take (i := 40) (v := ?sv40) rfl (by kernel_rfl) (by kernel_rfl) (by kernel_rfl) (fun _ _ _ h => panic_put (P := Tryz.prog) (fn := Tryz.f3) (R := (fun en w' => ToldEnd w en w')) h) (Or.inl ⟨by rfl, ?sy40⟩) (by assumption) ?_
  case sy40 => (intro w hSw; (try dsimp only at hSw); go_simp); try with_reducible rfl
  change wpAnyH _ _ _ _ _ _ _ (Act.put _ (some 114) _) _
  simp only [Act.put, List.setIfInBounds_toArray, List.set_cons_zero, List.set_cons_succ]
  refine wpAnyH_take (i := 42) (v := ?sv42) rfl (by kernel_rfl) (by kernel_rfl) (by kernel_rfl) (fun _ _ _ h => panic_put (P := Tryz.prog) (fn := Tryz.f3) (R := (fun en w' => ToldEnd w en w')) h) (Or.inl ⟨by rfl, ?sy42⟩) (by assumption) ?_
  case sy42 => (intro w hSw; (try dsimp only at hSw); go_simp); try with_reducible rfl
  change wpAnyH _ _ _ _ _ _ _ (Act.put _ (some 116) _) _
  simp only [Act.put, List.setIfInBounds_toArray, List.set_cons_zero, List.set_cons_succ]
  refine wpAnyH_take (i := 43) (v := ?sv43) rfl (by kernel_rfl) (by kernel_rfl) (by kernel_rfl) (fun _ _ _ h => panic_put (P := Tryz.prog) (fn := Tryz.f3) (R := (fun en w' => ToldEnd w en w')) h) (Or.inl ⟨by rfl, ?sy43⟩) (by assumption) ?_
  case sy43 => (intro w hSw; (try dsimp only at hSw); go_simp); try with_reducible rfl
  change wpAnyH _ _ _ _ _ _ _ (Act.put _ (some 117) _) _
  simp only [Act.put, List.setIfInBounds_toArray, List.set_cons_zero, List.set_cons_succ]
  refine wpAnyH_ready (rs := [41]) (by kernel_rfl) (by simp) ?_
  refine AllReadyH.cons (o := _) rfl (fun K hK => ?_) AllReadyH.nil
  go_simp
  refine (iwithin_any (x := x) (y := y) HKK.out hT h1 h2 h3 h4).mono ?_
  rintro en w' ⟨rfl, b⟩
  rw [← H_pw.out]
  replace BB := below_next BB BB.size b (by rfl) (by rfl) (by rfl) (by rfl)
  have G := mv b (by rfl) <| And.intro a0 <| And.intro a1 <| And.intro a2 <| And.intro a3 <| And.intro a4 <| And.intro a5 <| And.intro b0 <| And.intro b1 <| And.intro b2 <| And.intro b3 <| And.intro b4 <| And.intro b5 <| And.intro d0 <| And.intro d1 <| And.intro d2 <| And.intro hT <| And.intro h1 <| And.intro h2 <| And.intro h3 <| And.intro h4 <| And.intro h5 <| And.intro e0 <| And.intro e1 <| And.intro e2 <| And.intro e3 <| And.intro e4 <| And.intro e5 <| And.intro f0 <| And.intro f1 <| f2
  clear a0 a1 a2 a3 a4 a5 b0 b1 b2 b3 b4 b5 d0 d1 d2 hT h1 h2 h3 h4 h5 e0 e1 e2 e3 e4 e5 f0 f1 f2
  obtain ⟨a0, a1, a2, a3, a4, a5, b0, b1, b2, b3, b4, b5, d0, d1, d2, hT, h1, h2, h3, h4, h5, e0, e1, e2, e3, e4, e5, f0, f1, f2⟩ := G
  have G := mv b (by rfl) <| And.intro f3 <| And.intro f4 <| And.intro f5 <| And.intro g0 <| And.intro g1 <| And.intro g2 <| And.intro g3 <| And.intro g4 <| And.intro g5 <| And.intro i0 <| And.intro i1 <| And.intro i2 <| And.intro i3 <| And.intro i4 <| And.intro i5 <| And.intro j0 <| And.intro j1 <| And.intro j2 <| And.intro j3 <| And.intro j4 <| And.intro j5 <| And.intro k0 <| And.intro k1 <| And.intro k2 <| And.intro k3 <| And.intro k4 <| k5
  clear f3 f4 f5 g0 g1 g2 g3 g4 g5 i0 i1 i2 i3 i4 i5 j0 j1 j2 j3 j4 j5 k0 k1 k2 k3 k4 k5
  obtain ⟨f3, f4, f5, g0, g1, g2, g3, g4, g5, i0, i1, i2, i3, i4, i5, j0, j1, j2, j3, j4, j5, k0, k1, k2, k3, k4, k5⟩ := G
  clear b
  refine hK.out _ _ (by exact ⟨a0, a1, a2, a3, a4, a5, b0, b1, b2, b3, b4, b5, d0, d1, d2, e0, e1, e2, e3, e4, e5, f0, f1, f2, f3, f4, f5, g0, g1, g2, g3, g4, g5, i0, i1, i2, i3, i4, i5, j0, j1, j2, j3, j4, j5, k0, k1, k2, k3, k4, k5⟩) (fun hHelds9 => ?_)
  clear hK K hHelds8
  try simp only [Act.put]
  refine wpAnyH_ready (rs := [44]) (by kernel_rfl) (by simp) ?_
  refine AllReadyH.cons (o := _) rfl (fun K hK => ?_) AllReadyH.nil
  go_simp
  refine (rwithin_any (x := x) (y := y) HKK.out h1 h2 h3 h4).mono ?_
  rintro en w' ⟨rfl, b⟩
  rw [← H_pw.out]
  replace BB := below_next BB BB.size b (by rfl) (by rfl) (by rfl) (by rfl)
  have G := mv b (by rfl) <| And.intro a0 <| And.intro a1 <| And.intro a2 <| And.intro a3 <| And.intro a4 <| And.intro a5 <| And.intro b0 <| And.intro b1 <| And.intro b2 <| And.intro b3 <| And.intro b4 <| And.intro b5 <| And.intro d0 <| And.intro d1 <| And.intro d2 <| And.intro hT <| And.intro h1 <| And.intro h2 <| And.intro h3 <| And.intro h4 <| And.intro h5 <| And.intro e0 <| And.intro e1 <| And.intro e2 <| And.intro e3 <| And.intro e4 <| And.intro e5 <| And.intro f0 <| And.intro f1 <| f2
  clear a0 a1 a2 a3 a4 a5 b0 b1 b2 b3 b4 b5 d0 d1 d2 hT h1 h2 h3 h4 h5 e0 e1 e2 e3 e4 e5 f0 f1 f2
  obtain ⟨a0, a1, a2, a3, a4, a5, b0, b1, b2, b3, b4, b5, d0, d1, d2, hT, h1, h2, h3, h4, h5, e0, e1, e2, e3, e4, e5, f0, f1, f2⟩ := G
  have G := mv b (by rfl) <| And.intro f3 <| And.intro f4 <| And.intro f5 <| And.intro g0 <| And.intro g1 <| And.intro g2 <| And.intro g3 <| And.intro g4 <| And.intro g5 <| And.intro i0 <| And.intro i1 <| And.intro i2 <| And.intro i3 <| And.intro i4 <| And.intro i5 <| And.intro j0 <| And.intro j1 <| And.intro j2 <| And.intro j3 <| And.intro j4 <| And.intro j5 <| And.intro k0 <| And.intro k1 <| And.intro k2 <| And.intro k3 <| And.intro k4 <| k5
  clear f3 f4 f5 g0 g1 g2 g3 g4 g5 i0 i1 i2 i3 i4 i5 j0 j1 j2 j3 j4 j5 k0 k1 k2 k3 k4 k5
  obtain ⟨f3, f4, f5, g0, g1, g2, g3, g4, g5, i0, i1, i2, i3, i4, i5, j0, j1, j2, j3, j4, j5, k0, k1, k2, k3, k4, k5⟩ := G
  clear b
  refine hK.out _ _ (by exact ⟨a0, a1, a2, a3, a4, a5, b0, b1, b2, b3, b4, b5, d0, d1, d2, e0, e1, e2, e3, e4, e5, f0, f1, f2, f3, f4, f5, g0, g1, g2, g3, g4, g5, i0, i1, i2, i3, i4, i5, j0, j1, j2, j3, j4, j5, k0, k1, k2, k3, k4, k5⟩) (fun hHelds10 => ?_)
  clear hK K hHelds9
  try simp only [Act.put]
  refine wpAnyH_take (i := 45) (v := ?sv45) rfl (by kernel_rfl) (by kernel_rfl) (by kernel_rfl) (fun _ _ _ h => panic_put (P := Tryz.prog) (fn := Tryz.f3) (R := (fun en w' => ToldEnd w en w')) h) (Or.inl ⟨by rfl, ?sy45⟩) (by assumption) ?_
  case sy45 => (intro w hSw; (try dsimp only at hSw); go_simp; (try simp only [f_pm, f_ph, f_pw, f_pi, f_ps])); try with_reducible rfl
  change wpAnyH _ _ _ _ _ _ _ (Act.put _ (some 119) _) _
  simp only [Act.put, List.setIfInBounds_toArray, List.set_cons_zero, List.set_cons_succ]
  refine wpAnyH_take (i := 46) (v := ?sv46) rfl (by kernel_rfl) (by kernel_rfl) (by kernel_rfl) (fun _ _ _ h => panic_put (P := Tryz.prog) (fn := Tryz.f3) (R := (fun en w' => ToldEnd w en w')) h) (Or.inl ⟨by rfl, ?sy46⟩) (by assumption) ?_
  case sy46 => (intro w hSw; (try dsimp only at hSw); go_simp); try with_reducible rfl
  change wpAnyH _ _ _ _ _ _ _ (Act.put _ (some 120) _) _
  simp only [Act.put, List.setIfInBounds_toArray, List.set_cons_zero, List.set_cons_succ]
  refine wpAnyH_take (i := 47) (v := ?sv47) rfl (by kernel_rfl) (by kernel_rfl) (by kernel_rfl) (fun _ _ _ h => panic_put (P := Tryz.prog) (fn := Tryz.f3) (R := (fun en w' => ToldEnd w en w')) h) (Or.inl ⟨by rfl, ?sy47⟩) (by assumption) ?_
  case sy47 => (intro w hSw; (try dsimp only at hSw); go_simp); try with_reducible rfl
  change wpAnyH _ _ _ _ _ _ _ (Act.put _ (some 121) _) _
  simp only [Act.put, List.setIfInBounds_toArray, List.set_cons_zero, List.set_cons_succ]
  refine wpAnyH_take (i := 48) (v := ?sv48) rfl (by kernel_rfl) (by kernel_rfl) (by kernel_rfl) (fun _ _ _ h => panic_put (P := Tryz.prog) (fn := Tryz.f3) (R := (fun en w' => ToldEnd w en w')) h) (Or.inl ⟨by rfl, ?sy48⟩) (by assumption) ?_
  case sy48 => (intro w hSw; (try dsimp only at hSw); go_simp); try with_reducible rfl
  change wpAnyH _ _ _ _ _ _ _ (Act.put _ (some 122) _) _
  simp only [Act.put, List.setIfInBounds_toArray, List.set_cons_zero, List.set_cons_succ]
  refine wpAnyH_take (i := 49) (v := ?sv49) rfl (by kernel_rfl) (by kernel_rfl) (by kernel_rfl) (fun _ _ _ h => panic_put (P := Tryz.prog) (fn := Tryz.f3) (R := (fun en w' => ToldEnd w en w')) h) (Or.inl ⟨by rfl, ?sy49⟩) (by assumption) ?_
  case sy49 => (intro w hSw; (try dsimp only at hSw); go_simp); try with_reducible rfl
  change wpAnyH _ _ _ _ _ _ _ (Act.put _ (some 123) _) _
  simp only [Act.put, List.setIfInBounds_toArray, List.set_cons_zero, List.set_cons_succ]
  refine wpAnyH_take (i := 51) (v := ?sv51) rfl (by kernel_rfl) (by kernel_rfl) (by kernel_rfl) (fun _ _ _ h => panic_put (P := Tryz.prog) (fn := Tryz.f3) (R := (fun en w' => ToldEnd w en w')) h) (Or.inl ⟨by rfl, ?sy51⟩) (by assumption) ?_
  case sy51 => (intro w hSw; (try dsimp only at hSw); go_simp); try with_reducible rfl
  change wpAnyH _ _ _ _ _ _ _ (Act.put _ (some 125) _) _
  simp only [Act.put, List.setIfInBounds_toArray, List.set_cons_zero, List.set_cons_succ]
  refine wpAnyH_take (i := 52) (v := ?sv52) rfl (by kernel_rfl) (by kernel_rfl) (by kernel_rfl) (fun _ _ _ h => panic_put (P := Tryz.prog) (fn := Tryz.f3) (R := (fun en w' => ToldEnd w en w')) h) (Or.inl ⟨by rfl, ?sy52⟩) (by assumption) ?_
  case sy52 => (intro w hSw; (try dsimp only at hSw); go_simp); try with_reducible rfl
  change wpAnyH _ _ _ _ _ _ _ (Act.put _ (some 126) _) _
  simp only [Act.put, List.setIfInBounds_toArray, List.set_cons_zero, List.set_cons_succ]
  refine wpAnyH_ready (rs := [50]) (by kernel_rfl) (by simp) ?_
  refine AllReadyH.cons (o := _) rfl (fun K hK => ?_) AllReadyH.nil
  go_simp
  refine (iinside_any (x := x) (y := y) HKK.out hT h1 h2 h3 h4).mono ?_
  rintro en w' ⟨rfl, b⟩
  rw [← H_pi.out]
  replace BB := below_next BB BB.size b (by rfl) (by rfl) (by rfl) (by rfl)
  have G := mv b (by rfl) <| And.intro a0 <| And.intro a1 <| And.intro a2 <| And.intro a3 <| And.intro a4 <| And.intro a5 <| And.intro b0 <| And.intro b1 <| And.intro b2 <| And.intro b3 <| And.intro b4 <| And.intro b5 <| And.intro d0 <| And.intro d1 <| And.intro d2 <| And.intro hT <| And.intro h1 <| And.intro h2 <| And.intro h3 <| And.intro h4 <| And.intro h5 <| And.intro e0 <| And.intro e1 <| And.intro e2 <| And.intro e3 <| And.intro e4 <| And.intro e5 <| And.intro f0 <| And.intro f1 <| f2
  clear a0 a1 a2 a3 a4 a5 b0 b1 b2 b3 b4 b5 d0 d1 d2 hT h1 h2 h3 h4 h5 e0 e1 e2 e3 e4 e5 f0 f1 f2
  obtain ⟨a0, a1, a2, a3, a4, a5, b0, b1, b2, b3, b4, b5, d0, d1, d2, hT, h1, h2, h3, h4, h5, e0, e1, e2, e3, e4, e5, f0, f1, f2⟩ := G
  have G := mv b (by rfl) <| And.intro f3 <| And.intro f4 <| And.intro f5 <| And.intro g0 <| And.intro g1 <| And.intro g2 <| And.intro g3 <| And.intro g4 <| And.intro g5 <| And.intro i0 <| And.intro i1 <| And.intro i2 <| And.intro i3 <| And.intro i4 <| And.intro i5 <| And.intro j0 <| And.intro j1 <| And.intro j2 <| And.intro j3 <| And.intro j4 <| And.intro j5 <| And.intro k0 <| And.intro k1 <| And.intro k2 <| And.intro k3 <| And.intro k4 <| k5
  clear f3 f4 f5 g0 g1 g2 g3 g4 g5 i0 i1 i2 i3 i4 i5 j0 j1 j2 j3 j4 j5 k0 k1 k2 k3 k4 k5
  obtain ⟨f3, f4, f5, g0, g1, g2, g3, g4, g5, i0, i1, i2, i3, i4, i5, j0, j1, j2, j3, j4, j5, k0, k1, k2, k3, k4, k5⟩ := G
  clear b
  refine hK.out _ _ (by exact ⟨a0, a1, a2, a3, a4, a5, b0, b1, b2, b3, b4, b5, d0, d1, d2, e0, e1, e2, e3, e4, e5, f0, f1, f2, f3, f4, f5, g0, g1, g2, g3, g4, g5, i0, i1, i2, i3, i4, i5, j0, j1, j2, j3, j4, j5, k0, k1, k2, k3, k4, k5⟩) (fun hHelds11 => ?_)
  clear hK K hHelds10
  try simp only [Act.put]
  refine wpAnyH_ready (rs := [53]) (by kernel_rfl) (by simp) ?_
  refine AllReadyH.cons (o := _) rfl (fun K hK => ?_) AllReadyH.nil
  go_simp
  refine (rinside_any (x := x) (y := y) HKK.out h1 h2 h3 h4).mono ?_
  rintro en w' ⟨rfl, b⟩
  rw [← H_pi.out]
  replace BB := below_next BB BB.size b (by rfl) (by rfl) (by rfl) (by rfl)
  have G := mv b (by rfl) <| And.intro a0 <| And.intro a1 <| And.intro a2 <| And.intro a3 <| And.intro a4 <| And.intro a5 <| And.intro b0 <| And.intro b1 <| And.intro b2 <| And.intro b3 <| And.intro b4 <| And.intro b5 <| And.intro d0 <| And.intro d1 <| And.intro d2 <| And.intro hT <| And.intro h1 <| And.intro h2 <| And.intro h3 <| And.intro h4 <| And.intro h5 <| And.intro e0 <| And.intro e1 <| And.intro e2 <| And.intro e3 <| And.intro e4 <| And.intro e5 <| And.intro f0 <| And.intro f1 <| f2
  clear a0 a1 a2 a3 a4 a5 b0 b1 b2 b3 b4 b5 d0 d1 d2 hT h1 h2 h3 h4 h5 e0 e1 e2 e3 e4 e5 f0 f1 f2
  obtain ⟨a0, a1, a2, a3, a4, a5, b0, b1, b2, b3, b4, b5, d0, d1, d2, hT, h1, h2, h3, h4, h5, e0, e1, e2, e3, e4, e5, f0, f1, f2⟩ := G
  have G := mv b (by rfl) <| And.intro f3 <| And.intro f4 <| And.intro f5 <| And.intro g0 <| And.intro g1 <| And.intro g2 <| And.intro g3 <| And.intro g4 <| And.intro g5 <| And.intro i0 <| And.intro i1 <| And.intro i2 <| And.intro i3 <| And.intro i4 <| And.intro i5 <| And.intro j0 <| And.intro j1 <| And.intro j2 <| And.intro j3 <| And.intro j4 <| And.intro j5 <| And.intro k0 <| And.intro k1 <| And.intro k2 <| And.intro k3 <| And.intro k4 <| k5
  clear f3 f4 f5 g0 g1 g2 g3 g4 g5 i0 i1 i2 i3 i4 i5 j0 j1 j2 j3 j4 j5 k0 k1 k2 k3 k4 k5
  obtain ⟨f3, f4, f5, g0, g1, g2, g3, g4, g5, i0, i1, i2, i3, i4, i5, j0, j1, j2, j3, j4, j5, k0, k1, k2, k3, k4, k5⟩ := G
  clear b
  refine hK.out _ _ (by exact ⟨a0, a1, a2, a3, a4, a5, b0, b1, b2, b3, b4, b5, d0, d1, d2, e0, e1, e2, e3, e4, e5, f0, f1, f2, f3, f4, f5, g0, g1, g2, g3, g4, g5, i0, i1, i2, i3, i4, i5, j0, j1, j2, j3, j4, j5, k0, k1, k2, k3, k4, k5⟩) (fun hHelds12 => ?_)
  clear hK K hHelds11
  try simp only [Act.put]
  refine wpAnyH_take (i := 54) (v := ?sv54) rfl (by kernel_rfl) (by kernel_rfl) (by kernel_rfl) (fun _ _ _ h => panic_put (P := Tryz.prog) (fn := Tryz.f3) (R := (fun en w' => ToldEnd w en w')) h) (Or.inl ⟨by rfl, ?sy54⟩) (by assumption) ?_
  case sy54 => (intro w hSw; (try dsimp only at hSw); go_simp; (try simp only [f_pm, f_ph, f_pw, f_pi, f_ps])); try with_reducible rfl
  change wpAnyH _ _ _ _ _ _ _ (Act.put _ (some 128) _) _
  simp only [Act.put, List.setIfInBounds_toArray, List.set_cons_zero, List.set_cons_succ]
  refine wpAnyH_take (i := 55) (v := ?sv55) rfl (by kernel_rfl) (by kernel_rfl) (by kernel_rfl) (fun _ _ _ h => panic_put (P := Tryz.prog) (fn := Tryz.f3) (R := (fun en w' => ToldEnd w en w')) h) (Or.inl ⟨by rfl, ?sy55⟩) (by assumption) ?_
  case sy55 => (intro w hSw; (try dsimp only at hSw); go_simp); try with_reducible rfl
  change wpAnyH _ _ _ _ _ _ _ (Act.put _ (some 129) _) _
  simp only [Act.put, List.setIfInBounds_toArray, List.set_cons_zero, List.set_cons_succ]
  refine wpAnyH_take (i := 56) (v := ?sv56) rfl (by kernel_rfl) (by kernel_rfl) (by kernel_rfl) (fun _ _ _ h => panic_put (P := Tryz.prog) (fn := Tryz.f3) (R := (fun en w' => ToldEnd w en w')) h) (Or.inl ⟨by rfl, ?sy56⟩) (by assumption) ?_
  case sy56 => (intro w hSw; (try dsimp only at hSw); go_simp); try with_reducible rfl
  change wpAnyH _ _ _ _ _ _ _ (Act.put _ (some 130) _) _
  simp only [Act.put, List.setIfInBounds_toArray, List.set_cons_zero, List.set_cons_succ]
  refine wpAnyH_take (i := 57) (v := ?sv57) rfl (by kernel_rfl) (by kernel_rfl) (by kernel_rfl) (fun _ _ _ h => panic_put (P := Tryz.prog) (fn := Tryz.f3) (R := (fun en w' => ToldEnd w en w')) h) (Or.inl ⟨by rfl, ?sy57⟩) (by assumption) ?_
  case sy57 => (intro w hSw; (try dsimp only at hSw); go_simp); try with_reducible rfl
  change wpAnyH _ _ _ _ _ _ _ (Act.put _ (some 131) _) _
  simp only [Act.put, List.setIfInBounds_toArray, List.set_cons_zero, List.set_cons_succ]
  refine wpAnyH_take (i := 58) (v := ?sv58) rfl (by kernel_rfl) (by kernel_rfl) (by kernel_rfl) (fun _ _ _ h => panic_put (P := Tryz.prog) (fn := Tryz.f3) (R := (fun en w' => ToldEnd w en w')) h) (Or.inl ⟨by rfl, ?sy58⟩) (by assumption) ?_
  case sy58 => (intro w hSw; (try dsimp only at hSw); go_simp); try with_reducible rfl
  change wpAnyH _ _ _ _ _ _ _ (Act.put _ (some 132) _) _
  simp only [Act.put, List.setIfInBounds_toArray, List.set_cons_zero, List.set_cons_succ]
  refine wpAnyH_take (i := 60) (v := ?sv60) rfl (by kernel_rfl) (by kernel_rfl) (by kernel_rfl) (fun _ _ _ h => panic_put (P := Tryz.prog) (fn := Tryz.f3) (R := (fun en w' => ToldEnd w en w')) h) (Or.inl ⟨by rfl, ?sy60⟩) (by assumption) ?_
  case sy60 => (intro w hSw; (try dsimp only at hSw); go_simp); try with_reducible rfl
  change wpAnyH _ _ _ _ _ _ _ (Act.put _ (some 134) _) _
  simp only [Act.put, List.setIfInBounds_toArray, List.set_cons_zero, List.set_cons_succ]
  refine wpAnyH_take (i := 61) (v := ?sv61) rfl (by kernel_rfl) (by kernel_rfl) (by kernel_rfl) (fun _ _ _ h => panic_put (P := Tryz.prog) (fn := Tryz.f3) (R := (fun en w' => ToldEnd w en w')) h) (Or.inl ⟨by rfl, ?sy61⟩) (by assumption) ?_
  case sy61 => (intro w hSw; (try dsimp only at hSw); go_simp); try with_reducible rfl
  change wpAnyH _ _ _ _ _ _ _ (Act.put _ (some 135) _) _
  simp only [Act.put, List.setIfInBounds_toArray, List.set_cons_zero, List.set_cons_succ]
  refine wpAnyH_ready (rs := [59]) (by kernel_rfl) (by simp) ?_
  refine AllReadyH.cons (o := _) rfl (fun K hK => ?_) AllReadyH.nil
  go_simp
  refine (isame_any (x := x) (y := y) h1 h2 h3 h4).mono ?_
  rintro en w' ⟨rfl, b⟩
  rw [← H_ps.out]
  replace BB := below_next BB BB.size b (by rfl) (by rfl) (by rfl) (by rfl)
  have G := mv b (by rfl) <| And.intro a0 <| And.intro a1 <| And.intro a2 <| And.intro a3 <| And.intro a4 <| And.intro a5 <| And.intro b0 <| And.intro b1 <| And.intro b2 <| And.intro b3 <| And.intro b4 <| And.intro b5 <| And.intro d0 <| And.intro d1 <| And.intro d2 <| And.intro hT <| And.intro h1 <| And.intro h2 <| And.intro h3 <| And.intro h4 <| And.intro h5 <| And.intro e0 <| And.intro e1 <| And.intro e2 <| And.intro e3 <| And.intro e4 <| And.intro e5 <| And.intro f0 <| And.intro f1 <| f2
  clear a0 a1 a2 a3 a4 a5 b0 b1 b2 b3 b4 b5 d0 d1 d2 hT h1 h2 h3 h4 h5 e0 e1 e2 e3 e4 e5 f0 f1 f2
  obtain ⟨a0, a1, a2, a3, a4, a5, b0, b1, b2, b3, b4, b5, d0, d1, d2, hT, h1, h2, h3, h4, h5, e0, e1, e2, e3, e4, e5, f0, f1, f2⟩ := G
  have G := mv b (by rfl) <| And.intro f3 <| And.intro f4 <| And.intro f5 <| And.intro g0 <| And.intro g1 <| And.intro g2 <| And.intro g3 <| And.intro g4 <| And.intro g5 <| And.intro i0 <| And.intro i1 <| And.intro i2 <| And.intro i3 <| And.intro i4 <| And.intro i5 <| And.intro j0 <| And.intro j1 <| And.intro j2 <| And.intro j3 <| And.intro j4 <| And.intro j5 <| And.intro k0 <| And.intro k1 <| And.intro k2 <| And.intro k3 <| And.intro k4 <| k5
  clear f3 f4 f5 g0 g1 g2 g3 g4 g5 i0 i1 i2 i3 i4 i5 j0 j1 j2 j3 j4 j5 k0 k1 k2 k3 k4 k5
  obtain ⟨f3, f4, f5, g0, g1, g2, g3, g4, g5, i0, i1, i2, i3, i4, i5, j0, j1, j2, j3, j4, j5, k0, k1, k2, k3, k4, k5⟩ := G
  clear b
  refine hK.out _ _ (by exact ⟨a0, a1, a2, a3, a4, a5, b0, b1, b2, b3, b4, b5, d0, d1, d2, e0, e1, e2, e3, e4, e5, f0, f1, f2, f3, f4, f5, g0, g1, g2, g3, g4, g5, i0, i1, i2, i3, i4, i5, j0, j1, j2, j3, j4, j5, k0, k1, k2, k3, k4, k5⟩) (fun hHelds13 => ?_)
  clear hK K hHelds12
  try simp only [Act.put]
  refine wpAnyH_ready (rs := [62]) (by kernel_rfl) (by simp) ?_
  refine AllReadyH.cons (o := _) rfl (fun K hK => ?_) AllReadyH.nil
  go_simp
  refine (rsamei_any (x := x) (y := y) h1 h2 h3 h4).mono ?_
  rintro en w' ⟨rfl, b⟩
  rw [← H_ps.out]
  replace BB := below_next BB BB.size b (by rfl) (by rfl) (by rfl) (by rfl)
  have G := mv b (by rfl) <| And.intro a0 <| And.intro a1 <| And.intro a2 <| And.intro a3 <| And.intro a4 <| And.intro a5 <| And.intro b0 <| And.intro b1 <| And.intro b2 <| And.intro b3 <| And.intro b4 <| And.intro b5 <| And.intro d0 <| And.intro d1 <| And.intro d2 <| And.intro hT <| And.intro h1 <| And.intro h2 <| And.intro h3 <| And.intro h4 <| And.intro h5 <| And.intro e0 <| And.intro e1 <| And.intro e2 <| And.intro e3 <| And.intro e4 <| And.intro e5 <| And.intro f0 <| And.intro f1 <| f2
  clear a0 a1 a2 a3 a4 a5 b0 b1 b2 b3 b4 b5 d0 d1 d2 hT h1 h2 h3 h4 h5 e0 e1 e2 e3 e4 e5 f0 f1 f2
  obtain ⟨a0, a1, a2, a3, a4, a5, b0, b1, b2, b3, b4, b5, d0, d1, d2, hT, h1, h2, h3, h4, h5, e0, e1, e2, e3, e4, e5, f0, f1, f2⟩ := G
  have G := mv b (by rfl) <| And.intro f3 <| And.intro f4 <| And.intro f5 <| And.intro g0 <| And.intro g1 <| And.intro g2 <| And.intro g3 <| And.intro g4 <| And.intro g5 <| And.intro i0 <| And.intro i1 <| And.intro i2 <| And.intro i3 <| And.intro i4 <| And.intro i5 <| And.intro j0 <| And.intro j1 <| And.intro j2 <| And.intro j3 <| And.intro j4 <| And.intro j5 <| And.intro k0 <| And.intro k1 <| And.intro k2 <| And.intro k3 <| And.intro k4 <| k5
  clear f3 f4 f5 g0 g1 g2 g3 g4 g5 i0 i1 i2 i3 i4 i5 j0 j1 j2 j3 j4 j5 k0 k1 k2 k3 k4 k5
  obtain ⟨f3, f4, f5, g0, g1, g2, g3, g4, g5, i0, i1, i2, i3, i4, i5, j0, j1, j2, j3, j4, j5, k0, k1, k2, k3, k4, k5⟩ := G
  clear b
  refine hK.out _ _ (by exact ⟨a0, a1, a2, a3, a4, a5, b0, b1, b2, b3, b4, b5, d0, d1, d2, e0, e1, e2, e3, e4, e5, f0, f1, f2, f3, f4, f5, g0, g1, g2, g3, g4, g5, i0, i1, i2, i3, i4, i5, j0, j1, j2, j3, j4, j5, k0, k1, k2, k3, k4, k5⟩) (fun hHelds14 => ?_)
  clear hK K hHelds13
  try simp only [Act.put]
  refine wpAnyH_take (i := 63) (v := ?sv63) rfl (by kernel_rfl) (by kernel_rfl) (by kernel_rfl) (fun _ _ _ h => panic_put (P := Tryz.prog) (fn := Tryz.f3) (R := (fun en w' => ToldEnd w en w')) h) (Or.inl ⟨by rfl, ?sy63⟩) (by assumption) ?_
  case sy63 => (intro w hSw; (try dsimp only at hSw); go_simp; (try simp only [f_pm, f_ph, f_pw, f_pi, f_ps])); try with_reducible rfl
  change wpAnyH _ _ _ _ _ _ _ (Act.put _ (some 137) _) _
  simp only [Act.put, List.setIfInBounds_toArray, List.set_cons_zero, List.set_cons_succ]
  refine wpAnyH_take (i := 64) (v := ?sv64) rfl (by kernel_rfl) (by kernel_rfl) (by kernel_rfl) (fun _ _ _ h => panic_put (P := Tryz.prog) (fn := Tryz.f3) (R := (fun en w' => ToldEnd w en w')) h) (Or.inl ⟨by rfl, ?sy64⟩) (by assumption) ?_
  case sy64 => (intro w hSw; (try dsimp only at hSw); go_simp); try with_reducible rfl
  change wpAnyH _ _ _ _ _ _ _ (Act.put _ (some 138) _) _
  simp only [Act.put, List.setIfInBounds_toArray, List.set_cons_zero, List.set_cons_succ]
  refine wpAnyH_take (i := 65) (v := ?sv65) rfl (by kernel_rfl) (by kernel_rfl) (by kernel_rfl) (fun _ _ _ h => panic_put (P := Tryz.prog) (fn := Tryz.f3) (R := (fun en w' => ToldEnd w en w')) h) (Or.inl ⟨by rfl, ?sy65⟩) (by assumption) ?_
  case sy65 => (intro w hSw; (try dsimp only at hSw); go_simp); try with_reducible rfl
  change wpAnyH _ _ _ _ _ _ _ (Act.put _ (some 139) _) _
  simp only [Act.put, List.setIfInBounds_toArray, List.set_cons_zero, List.set_cons_succ]
  refine wpAnyH_take (i := 66) (v := ?sv66) rfl (by kernel_rfl) (by kernel_rfl) (by kernel_rfl) (fun _ _ _ h => panic_put (P := Tryz.prog) (fn := Tryz.f3) (R := (fun en w' => ToldEnd w en w')) h) (Or.inl ⟨by rfl, ?sy66⟩) (by assumption) ?_
  case sy66 => (intro w hSw; (try dsimp only at hSw); go_simp); try with_reducible rfl
  change wpAnyH _ _ _ _ _ _ _ (Act.put _ (some 140) _) _
  simp only [Act.put, List.setIfInBounds_toArray, List.set_cons_zero, List.set_cons_succ]
  refine wpAnyH_take (i := 68) (v := ?sv68) rfl (by kernel_rfl) (by kernel_rfl) (by kernel_rfl) (fun _ _ _ h => panic_put (P := Tryz.prog) (fn := Tryz.f3) (R := (fun en w' => ToldEnd w en w')) h) (Or.inl ⟨by rfl, ?sy68⟩) (by assumption) ?_
  case sy68 => (intro w hSw; (try dsimp only at hSw); go_simp); try with_reducible rfl
  change wpAnyH _ _ _ _ _ _ _ (Act.put _ (some 142) _) _
  simp only [Act.put, List.setIfInBounds_toArray, List.set_cons_zero, List.set_cons_succ]
  refine wpAnyH_take (i := 69) (v := ?sv69) rfl (by kernel_rfl) (by kernel_rfl) (by kernel_rfl) (fun _ _ _ h => panic_put (P := Tryz.prog) (fn := Tryz.f3) (R := (fun en w' => ToldEnd w en w')) h) (Or.inl ⟨by rfl, ?sy69⟩) (by assumption) ?_
  case sy69 => (intro w hSw; (try dsimp only at hSw); go_simp); try with_reducible rfl
  change wpAnyH _ _ _ _ _ _ _ (Act.put _ (some 143) _) _
  simp only [Act.put, List.setIfInBounds_toArray, List.set_cons_zero, List.set_cons_succ]
  refine wpAnyH_take (i := 70) (v := ?sv70) rfl (by kernel_rfl) (by kernel_rfl) (by kernel_rfl) (fun _ _ _ h => panic_put (P := Tryz.prog) (fn := Tryz.f3) (R := (fun en w' => ToldEnd w en w')) h) (Or.inl ⟨by rfl, ?sy70⟩) (by assumption) ?_
  case sy70 => (intro w hSw; (try dsimp only at hSw); go_simp); try with_reducible rfl
  change wpAnyH _ _ _ _ _ _ _ (Act.put _ (some 144) _) _
  simp only [Act.put, List.setIfInBounds_toArray, List.set_cons_zero, List.set_cons_succ]
  refine wpAnyH_ready (rs := [67]) (by kernel_rfl) (by simp) ?_
  refine AllReadyH.cons (o := _) rfl (fun K hK => ?_) AllReadyH.nil
  go_simp
  refine (iof_any (a := d) h5 H5.out).mono ?_
  rintro en w' ⟨A16, n16, c16, A17, n17, c17, rfl, h16, h17, b⟩
  replace BB := below_next BB BB.size b (by rfl) (by rfl) (by rfl) (by rfl)
  have G := mv b (by rfl) <| And.intro a0 <| And.intro a1 <| And.intro a2 <| And.intro a3 <| And.intro a4 <| And.intro a5 <| And.intro b0 <| And.intro b1 <| And.intro b2 <| And.intro b3 <| And.intro b4 <| And.intro b5 <| And.intro d0 <| And.intro d1 <| And.intro d2 <| And.intro hT <| And.intro h1 <| And.intro h2 <| And.intro h3 <| And.intro h4 <| And.intro h5 <| And.intro e0 <| And.intro e1 <| And.intro e2 <| And.intro e3 <| And.intro e4 <| And.intro e5 <| And.intro f0 <| And.intro f1 <| f2
  clear a0 a1 a2 a3 a4 a5 b0 b1 b2 b3 b4 b5 d0 d1 d2 hT h1 h2 h3 h4 h5 e0 e1 e2 e3 e4 e5 f0 f1 f2
  obtain ⟨a0, a1, a2, a3, a4, a5, b0, b1, b2, b3, b4, b5, d0, d1, d2, hT, h1, h2, h3, h4, h5, e0, e1, e2, e3, e4, e5, f0, f1, f2⟩ := G
  have G := mv b (by rfl) <| And.intro f3 <| And.intro f4 <| And.intro f5 <| And.intro g0 <| And.intro g1 <| And.intro g2 <| And.intro g3 <| And.intro g4 <| And.intro g5 <| And.intro i0 <| And.intro i1 <| And.intro i2 <| And.intro i3 <| And.intro i4 <| And.intro i5 <| And.intro j0 <| And.intro j1 <| And.intro j2 <| And.intro j3 <| And.intro j4 <| And.intro j5 <| And.intro k0 <| And.intro k1 <| And.intro k2 <| And.intro k3 <| And.intro k4 <| k5
  clear f3 f4 f5 g0 g1 g2 g3 g4 g5 i0 i1 i2 i3 i4 i5 j0 j1 j2 j3 j4 j5 k0 k1 k2 k3 k4 k5
  obtain ⟨f3, f4, f5, g0, g1, g2, g3, g4, g5, i0, i1, i2, i3, i4, i5, j0, j1, j2, j3, j4, j5, k0, k1, k2, k3, k4, k5⟩ := G
  clear b
  refine hK.out _ _ (by exact ⟨a0, a1, a2, a3, a4, a5, b0, b1, b2, b3, b4, b5, d0, d1, d2, e0, e1, e2, e3, e4, e5, f0, f1, f2, f3, f4, f5, g0, g1, g2, g3, g4, g5, i0, i1, i2, i3, i4, i5, j0, j1, j2, j3, j4, j5, k0, k1, k2, k3, k4, k5⟩) (fun hHelds15 => ?_)
  clear hK K hHelds14
  refine wpAnyH_ready (rs := [71]) (by kernel_rfl) (by simp) ?_
  refine AllReadyH.cons (o := _) rfl (fun K hK => ?_) AllReadyH.nil
  go_simp
  refine (rsamei_any (x := ⟨d, d⟩) (y := ⟨d, d⟩) h16 h17 h5 h5).mono ?_
  rintro en w' ⟨rfl, b⟩
  rw [sameI_iff.2 rfl]
  clear h16
  clear h17
  replace BB := below_next BB BB.size b (by rfl) (by rfl) (by rfl) (by rfl)
  have G := mv b (by rfl) <| And.intro a0 <| And.intro a1 <| And.intro a2 <| And.intro a3 <| And.intro a4 <| And.intro a5 <| And.intro b0 <| And.intro b1 <| And.intro b2 <| And.intro b3 <| And.intro b4 <| And.intro b5 <| And.intro d0 <| And.intro d1 <| And.intro d2 <| And.intro hT <| And.intro h1 <| And.intro h2 <| And.intro h3 <| And.intro h4 <| And.intro h5 <| And.intro e0 <| And.intro e1 <| And.intro e2 <| And.intro e3 <| And.intro e4 <| And.intro e5 <| And.intro f0 <| And.intro f1 <| f2
  clear a0 a1 a2 a3 a4 a5 b0 b1 b2 b3 b4 b5 d0 d1 d2 hT h1 h2 h3 h4 h5 e0 e1 e2 e3 e4 e5 f0 f1 f2
  obtain ⟨a0, a1, a2, a3, a4, a5, b0, b1, b2, b3, b4, b5, d0, d1, d2, hT, h1, h2, h3, h4, h5, e0, e1, e2, e3, e4, e5, f0, f1, f2⟩ := G
  have G := mv b (by rfl) <| And.intro f3 <| And.intro f4 <| And.intro f5 <| And.intro g0 <| And.intro g1 <| And.intro g2 <| And.intro g3 <| And.intro g4 <| And.intro g5 <| And.intro i0 <| And.intro i1 <| And.intro i2 <| And.intro i3 <| And.intro i4 <| And.intro i5 <| And.intro j0 <| And.intro j1 <| And.intro j2 <| And.intro j3 <| And.intro j4 <| And.intro j5 <| And.intro k0 <| And.intro k1 <| And.intro k2 <| And.intro k3 <| And.intro k4 <| k5
  clear f3 f4 f5 g0 g1 g2 g3 g4 g5 i0 i1 i2 i3 i4 i5 j0 j1 j2 j3 j4 j5 k0 k1 k2 k3 k4 k5
  obtain ⟨f3, f4, f5, g0, g1, g2, g3, g4, g5, i0, i1, i2, i3, i4, i5, j0, j1, j2, j3, j4, j5, k0, k1, k2, k3, k4, k5⟩ := G
  clear b
  refine hK.out _ _ (by exact ⟨a0, a1, a2, a3, a4, a5, b0, b1, b2, b3, b4, b5, d0, d1, d2, e0, e1, e2, e3, e4, e5, f0, f1, f2, f3, f4, f5, g0, g1, g2, g3, g4, g5, i0, i1, i2, i3, i4, i5, j0, j1, j2, j3, j4, j5, k0, k1, k2, k3, k4, k5⟩) (fun hHelds16 => ?_)
  clear hK K hHelds15
  try simp only [Act.put]
  refine wpAnyH_take (i := 72) (v := ?sv72) rfl (by kernel_rfl) (by kernel_rfl) (by kernel_rfl) (fun _ _ _ h => panic_put (P := Tryz.prog) (fn := Tryz.f3) (R := (fun en w' => ToldEnd w en w')) h) (Or.inl ⟨by rfl, ?sy72⟩) (by assumption) ?_
  case sy72 => (intro w hSw; (try dsimp only at hSw); go_simp); try with_reducible rfl
  change wpAnyH _ _ _ _ _ _ _ (Act.put _ (some 146) _) _
  simp only [Act.put, List.setIfInBounds_toArray, List.set_cons_zero, List.set_cons_succ]
  refine wpAnyH_take (i := 73) (v := ?sv73) rfl (by kernel_rfl) (by kernel_rfl) (by kernel_rfl) (fun _ _ _ h => panic_put (P := Tryz.prog) (fn := Tryz.f3) (R := (fun en w' => ToldEnd w en w')) h) (Or.inl ⟨by rfl, ?sy73⟩) (by assumption) ?_
  case sy73 => (intro w hSw; (try dsimp only at hSw); go_simp); try with_reducible rfl
  change wpAnyH _ _ _ _ _ _ _ (Act.put _ (some 6) _) _
  simp only [Act.put, List.setIfInBounds_toArray, List.set_cons_zero, List.set_cons_succ]
  refine wpAnyH_done (by kernel_rfl) ?_ _
  go_wp2
  go_ret
  exact ⟨by first | rfl | simp, BB⟩

end Go.Proofs.YtijflbnfikiaaaaGreatDoor
