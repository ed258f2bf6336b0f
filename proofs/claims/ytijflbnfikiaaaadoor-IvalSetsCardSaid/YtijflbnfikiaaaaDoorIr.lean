/-
  Contract of the statement IvalSets's function at this translation: it returns true, whatever its arguments. Condition: the slices read as limbs, the table of math/bits reads as its text lays it.
-/
import Derived.Test.YtijflbnfikiaaaaDoorIn
namespace Go.Proofs.YtijflbnfikiaaaaDoor
open Go.RowKit

set_option maxRecDepth 100000 in
set_option maxHeartbeats 8000000 in
theorem isets_no {KK : Nat} {w : World} {x y : Iv} {d : Rw} {A1 : Option Addr} {n1 c1 : Nat} {A2 : Option Addr} {n2 c2 : Nat} {A3 : Option Addr} {n3 c3 : Nat} {A4 : Option Addr} {n4 c4 : Nat} {A5 : Option Addr} {n5 c5 : Nat} (hT : Tab w) (h1 : Rd w .u64 Go.Proofs.YtijflbnfikiaaaaDoor.W A1 n1 c1 x.lo.l) (h2 : Rd w .u64 Go.Proofs.YtijflbnfikiaaaaDoor.W A2 n2 c2 x.hi.l) (h3 : Rd w .u64 Go.Proofs.YtijflbnfikiaaaaDoor.W A3 n3 c3 y.lo.l) (h4 : Rd w .u64 Go.Proofs.YtijflbnfikiaaaaDoor.W A4 n4 c4 y.hi.l) (h5 : Rd w .u64 Go.Proofs.YtijflbnfikiaaaaDoor.W A5 n5 c5 d.l) (hKK : 4194304 ≤ KK) (hf : ¬ (((decide (n1 ≤ 70) && decide (n2 ≤ 70)) = true ∧ (decide (n3 ≤ 70) && decide (n4 ≤ 70)) = true ∧ n5 ≤ 70) ∧ mayI KK x = true ∧ mayI KK y = true ∧ d.may = true)) :
    Calls Tryd.prog 3 #[.agg #[.bool x.lo.s, .slice A1 n1 c1, .int .i64 x.lo.e, .bool x.hi.s, .slice A2 n2 c2, .int .i64 x.hi.e], .agg #[.bool y.lo.s, .slice A3 n3 c3, .int .i64 y.lo.e, .bool y.hi.s, .slice A4 n4 c4, .int .i64 y.hi.e], .agg #[.bool d.s, .slice A5 n5 c5, .int .i64 d.e]] w fun en w' => ToldEnd w en w' := by
  have y1 : n1 ≤ 9223372036854775807 := Nat.le_trans h1.cap h1.max
  have y2 : n2 ≤ 9223372036854775807 := Nat.le_trans h2.cap h2.max
  have y3 : n3 ≤ 9223372036854775807 := Nat.le_trans h3.cap h3.max
  have y4 : n4 ≤ 9223372036854775807 := Nat.le_trans h4.cap h4.max
  have y5 : n5 ≤ 9223372036854775807 := Nat.le_trans h5.cap h5.max
  have BB := three_below w (.cells #[.bool x.lo.s, .slice A1 n1 c1, .int .i64 x.lo.e, .bool x.hi.s, .slice A2 n2 c2, .int .i64 x.hi.e] 26) (.cells #[.bool y.lo.s, .slice A3 n3 c3, .int .i64 y.lo.e, .bool y.hi.s, .slice A4 n4 c4, .int .i64 y.hi.e] 26) (.cells #[.bool d.s, .slice A5 n5 c5, .int .i64 d.e] 24)
  obtain ⟨_, xa, xb⟩ := two_ivl w (x := x) (y := y) (A1 := A1) (n1 := n1) (c1 := c1) (A2 := A2) (n2 := n2) (c2 := c2) (A3 := A3) (n3 := n3) (c3 := c3) (A4 := A4) (n4 := n4) (c4 := c4) 
  replace xa := xa.alloc (.cells #[.bool d.s, .slice A5 n5 c5, .int .i64 d.e] 24)
  replace xb := xb.alloc (.cells #[.bool d.s, .slice A5 n5 c5, .int .i64 d.e] 24)
  have xd := box_two w (.cells #[.bool x.lo.s, .slice A1 n1 c1, .int .i64 x.lo.e, .bool x.hi.s, .slice A2 n2 c2, .int .i64 x.hi.e] 26) (.cells #[.bool y.lo.s, .slice A3 n3 c3, .int .i64 y.lo.e, .bool y.hi.s, .slice A4 n4 c4, .int .i64 y.hi.e] 26) d.s A5 n5 c5 d.e
  obtain ⟨a0, a1, a2, a3, a4, a5⟩ := xa.held
  obtain ⟨b0, b1, b2, b3, b4, b5⟩ := xb.held
  obtain ⟨d0, d1, d2⟩ := xd.held
  clear xa xb xd
  have G := mv BB rfl <| And.intro hT <| And.intro h1 <| And.intro h2 <| And.intro h3 <| And.intro h4 <| h5
  clear hT h1 h2 h3 h4 h5
  obtain ⟨hT, h1, h2, h3, h4, h5⟩ := G
  have HF := Lib.hid hf
  clear hf
  go_enter Tryd.func3, Tryd.ntmps3
  go_wp2_with fail
  refine (few5_any (x := x) y1 y2).mono ?_
  rintro en w1 ⟨rfl, b⟩
  replace BB := below_next BB BB.size b rfl rfl rfl rfl
  have G := mv b rfl <| And.intro a0 <| And.intro a1 <| And.intro a2 <| And.intro a3 <| And.intro a4 <| And.intro a5 <| And.intro b0 <| And.intro b1 <| And.intro b2 <| And.intro b3 <| And.intro b4 <| And.intro b5 <| And.intro d0 <| And.intro d1 <| And.intro d2 <| And.intro hT <| And.intro h1 <| And.intro h2 <| And.intro h3 <| And.intro h4 <| h5
  clear b a0 a1 a2 a3 a4 a5 b0 b1 b2 b3 b4 b5 d0 d1 d2 hT h1 h2 h3 h4 h5
  obtain ⟨a0, a1, a2, a3, a4, a5, b0, b1, b2, b3, b4, b5, d0, d1, d2, hT, h1, h2, h3, h4, h5⟩ := G
  cases q1 : (decide (n1 ≤ 70) && decide (n2 ≤ 70))
  · clear q1 HF
    go_wp2_with fail
    refine (told5_any hT).mono ?_
    rintro en w99 ⟨rfl, b⟩
    replace BB := below_next BB BB.size b rfl rfl rfl rfl
    clear b
    go_wp2
    go_ret
    exact ⟨by first | rfl | simp, BB⟩
  go_wp2_with fail
  refine (few5_any (x := y) y3 y4).mono ?_
  rintro en w2 ⟨rfl, b⟩
  replace BB := below_next BB BB.size b rfl rfl rfl rfl
  have G := mv b rfl <| And.intro a0 <| And.intro a1 <| And.intro a2 <| And.intro a3 <| And.intro a4 <| And.intro a5 <| And.intro b0 <| And.intro b1 <| And.intro b2 <| And.intro b3 <| And.intro b4 <| And.intro b5 <| And.intro d0 <| And.intro d1 <| And.intro d2 <| And.intro hT <| And.intro h1 <| And.intro h2 <| And.intro h3 <| And.intro h4 <| h5
  clear b a0 a1 a2 a3 a4 a5 b0 b1 b2 b3 b4 b5 d0 d1 d2 hT h1 h2 h3 h4 h5
  obtain ⟨a0, a1, a2, a3, a4, a5, b0, b1, b2, b3, b4, b5, d0, d1, d2, hT, h1, h2, h3, h4, h5⟩ := G
  cases q2 : (decide (n3 ≤ 70) && decide (n4 ≤ 70))
  · clear q1 q2 HF
    go_wp2_with fail
    refine (told5_any hT).mono ?_
    rintro en w99 ⟨rfl, b⟩
    replace BB := below_next BB BB.size b rfl rfl rfl rfl
    clear b
    go_wp2
    go_ret
    exact ⟨by first | rfl | simp, BB⟩
  go_wp2_with fail
  refine (dfew_any (s := d.s) (e := d.e) y5).mono ?_
  rintro en w3 ⟨rfl, b⟩
  replace BB := below_next BB BB.size b rfl rfl rfl rfl
  have G := mv b rfl <| And.intro a0 <| And.intro a1 <| And.intro a2 <| And.intro a3 <| And.intro a4 <| And.intro a5 <| And.intro b0 <| And.intro b1 <| And.intro b2 <| And.intro b3 <| And.intro b4 <| And.intro b5 <| And.intro d0 <| And.intro d1 <| And.intro d2 <| And.intro hT <| And.intro h1 <| And.intro h2 <| And.intro h3 <| And.intro h4 <| h5
  clear b a0 a1 a2 a3 a4 a5 b0 b1 b2 b3 b4 b5 d0 d1 d2 hT h1 h2 h3 h4 h5
  obtain ⟨a0, a1, a2, a3, a4, a5, b0, b1, b2, b3, b4, b5, d0, d1, d2, hT, h1, h2, h3, h4, h5⟩ := G
  cases q3 : decide (n5 ≤ 70)
  · clear q1 q2 q3 HF
    go_wp2_with fail
    refine (told5_any hT).mono ?_
    rintro en w99 ⟨rfl, b⟩
    replace BB := below_next BB BB.size b rfl rfl rfl rfl
    clear b
    go_wp2
    go_ret
    exact ⟨by first | rfl | simp, BB⟩
  go_wp2_with fail
  refine (imay_any (x := x) hKK hT h1 h2).mono ?_
  rintro en w4 ⟨rfl, b⟩
  replace BB := below_next BB BB.size b rfl rfl rfl rfl
  have G := mv b rfl <| And.intro a0 <| And.intro a1 <| And.intro a2 <| And.intro a3 <| And.intro a4 <| And.intro a5 <| And.intro b0 <| And.intro b1 <| And.intro b2 <| And.intro b3 <| And.intro b4 <| And.intro b5 <| And.intro d0 <| And.intro d1 <| And.intro d2 <| And.intro hT <| And.intro h1 <| And.intro h2 <| And.intro h3 <| And.intro h4 <| h5
  clear b a0 a1 a2 a3 a4 a5 b0 b1 b2 b3 b4 b5 d0 d1 d2 hT h1 h2 h3 h4 h5
  obtain ⟨a0, a1, a2, a3, a4, a5, b0, b1, b2, b3, b4, b5, d0, d1, d2, hT, h1, h2, h3, h4, h5⟩ := G
  cases q4 : mayI KK x
  · clear q1 q2 q3 q4 HF
    go_wp2_with fail
    refine (told5_any hT).mono ?_
    rintro en w99 ⟨rfl, b⟩
    replace BB := below_next BB BB.size b rfl rfl rfl rfl
    clear b
    go_wp2
    go_ret
    exact ⟨by first | rfl | simp, BB⟩
  go_wp2_with fail
  refine (imay_any (x := y) hKK hT h3 h4).mono ?_
  rintro en w5 ⟨rfl, b⟩
  replace BB := below_next BB BB.size b rfl rfl rfl rfl
  have G := mv b rfl <| And.intro a0 <| And.intro a1 <| And.intro a2 <| And.intro a3 <| And.intro a4 <| And.intro a5 <| And.intro b0 <| And.intro b1 <| And.intro b2 <| And.intro b3 <| And.intro b4 <| And.intro b5 <| And.intro d0 <| And.intro d1 <| And.intro d2 <| And.intro hT <| And.intro h1 <| And.intro h2 <| And.intro h3 <| And.intro h4 <| h5
  clear b a0 a1 a2 a3 a4 a5 b0 b1 b2 b3 b4 b5 d0 d1 d2 hT h1 h2 h3 h4 h5
  obtain ⟨a0, a1, a2, a3, a4, a5, b0, b1, b2, b3, b4, b5, d0, d1, d2, hT, h1, h2, h3, h4, h5⟩ := G
  cases q5 : mayI KK y
  · clear q1 q2 q3 q4 q5 HF
    go_wp2_with fail
    refine (told5_any hT).mono ?_
    rintro en w99 ⟨rfl, b⟩
    replace BB := below_next BB BB.size b rfl rfl rfl rfl
    clear b
    go_wp2
    go_ret
    exact ⟨by first | rfl | simp, BB⟩
  go_wp2_with fail
  refine (dmay_any (s := d.s) (e := d.e) hT h5).mono ?_
  rintro en w6 ⟨rfl, b⟩
  rw [show mayD d.s d.l d.e = false from Bool.eq_false_iff.2 fun h => HF.out ⟨⟨q1, q2, of_decide_eq_true q3⟩, q4, q5, h⟩]
  clear q1 q2 q3 q4 q5 HF
  replace BB := below_next BB BB.size b rfl rfl rfl rfl
  have G := mv b rfl <| And.intro a0 <| And.intro a1 <| And.intro a2 <| And.intro a3 <| And.intro a4 <| And.intro a5 <| And.intro b0 <| And.intro b1 <| And.intro b2 <| And.intro b3 <| And.intro b4 <| And.intro b5 <| And.intro d0 <| And.intro d1 <| And.intro d2 <| And.intro hT <| And.intro h1 <| And.intro h2 <| And.intro h3 <| And.intro h4 <| h5
  clear b a0 a1 a2 a3 a4 a5 b0 b1 b2 b3 b4 b5 d0 d1 d2 hT h1 h2 h3 h4 h5
  obtain ⟨a0, a1, a2, a3, a4, a5, b0, b1, b2, b3, b4, b5, d0, d1, d2, hT, h1, h2, h3, h4, h5⟩ := G
  go_wp2_with fail
  refine (told5_any hT).mono ?_
  rintro en w99 ⟨rfl, b⟩
  replace BB := below_next BB BB.size b rfl rfl rfl rfl
  clear b
  go_wp2
  go_ret
  exact ⟨by first | rfl | simp, BB⟩

theorem tellI_eq {f : FuncId} {args : Array Value} {w : World} {k k' : Int} {x x' : Iv} (hk : k = k') (hx : x = x') (h : Calls Tryd.prog f args w (TellI k' x' w)) : Calls Tryd.prog f args w (TellI k x w) := by
  subst hk hx
  exact h

set_option maxRecDepth 100000 in
set_option maxHeartbeats 8000000 in
theorem isets_meet {KK : Nat} {w : World} {x y : Iv} {d : Rw} {A1 : Option Addr} {n1 c1 : Nat} {A2 : Option Addr} {n2 c2 : Nat} {A3 : Option Addr} {n3 c3 : Nat} {A4 : Option Addr} {n4 c4 : Nat} {A5 : Option Addr} {n5 c5 : Nat} (hT : Tab w) (h1 : Rd w .u64 Go.Proofs.YtijflbnfikiaaaaDoor.W A1 n1 c1 x.lo.l) (h2 : Rd w .u64 Go.Proofs.YtijflbnfikiaaaaDoor.W A2 n2 c2 x.hi.l) (h3 : Rd w .u64 Go.Proofs.YtijflbnfikiaaaaDoor.W A3 n3 c3 y.lo.l) (h4 : Rd w .u64 Go.Proofs.YtijflbnfikiaaaaDoor.W A4 n4 c4 y.hi.l) (h5 : Rd w .u64 Go.Proofs.YtijflbnfikiaaaaDoor.W A5 n5 c5 d.l) (hKK : 4194304 ≤ KK) (hf : (decide (n1 ≤ 70) && decide (n2 ≤ 70)) = true ∧ (decide (n3 ≤ 70) && decide (n4 ≤ 70)) = true ∧ n5 ≤ 70) (hm : mayI KK x = true ∧ mayI KK y = true ∧ d.may = true) (hmt : mayI KK (meetQ KK x y) = true) :
    Calls Tryd.prog 3 #[.agg #[.bool x.lo.s, .slice A1 n1 c1, .int .i64 x.lo.e, .bool x.hi.s, .slice A2 n2 c2, .int .i64 x.hi.e], .agg #[.bool y.lo.s, .slice A3 n3 c3, .int .i64 y.lo.e, .bool y.hi.s, .slice A4 n4 c4, .int .i64 y.hi.e], .agg #[.bool d.s, .slice A5 n5 c5, .int .i64 d.e]] w fun en w' => ToldEnd w en w' := by
  have y1 : n1 ≤ 9223372036854775807 := Nat.le_trans h1.cap h1.max
  have y2 : n2 ≤ 9223372036854775807 := Nat.le_trans h2.cap h2.max
  have y3 : n3 ≤ 9223372036854775807 := Nat.le_trans h3.cap h3.max
  have y4 : n4 ≤ 9223372036854775807 := Nat.le_trans h4.cap h4.max
  have y5 : n5 ≤ 9223372036854775807 := Nat.le_trans h5.cap h5.max
  have BB := three_below w (.cells #[.bool x.lo.s, .slice A1 n1 c1, .int .i64 x.lo.e, .bool x.hi.s, .slice A2 n2 c2, .int .i64 x.hi.e] 26) (.cells #[.bool y.lo.s, .slice A3 n3 c3, .int .i64 y.lo.e, .bool y.hi.s, .slice A4 n4 c4, .int .i64 y.hi.e] 26) (.cells #[.bool d.s, .slice A5 n5 c5, .int .i64 d.e] 24)
  obtain ⟨_, xa, xb⟩ := two_ivl w (x := x) (y := y) (A1 := A1) (n1 := n1) (c1 := c1) (A2 := A2) (n2 := n2) (c2 := c2) (A3 := A3) (n3 := n3) (c3 := c3) (A4 := A4) (n4 := n4) (c4 := c4) 
  replace xa := xa.alloc (.cells #[.bool d.s, .slice A5 n5 c5, .int .i64 d.e] 24)
  replace xb := xb.alloc (.cells #[.bool d.s, .slice A5 n5 c5, .int .i64 d.e] 24)
  have xd := box_two w (.cells #[.bool x.lo.s, .slice A1 n1 c1, .int .i64 x.lo.e, .bool x.hi.s, .slice A2 n2 c2, .int .i64 x.hi.e] 26) (.cells #[.bool y.lo.s, .slice A3 n3 c3, .int .i64 y.lo.e, .bool y.hi.s, .slice A4 n4 c4, .int .i64 y.hi.e] 26) d.s A5 n5 c5 d.e
  obtain ⟨a0, a1, a2, a3, a4, a5⟩ := xa.held
  obtain ⟨b0, b1, b2, b3, b4, b5⟩ := xb.held
  obtain ⟨d0, d1, d2⟩ := xd.held
  clear xa xb xd
  have G := mv BB rfl <| And.intro hT <| And.intro h1 <| And.intro h2 <| And.intro h3 <| And.intro h4 <| h5
  clear hT h1 h2 h3 h4 h5
  obtain ⟨hT, h1, h2, h3, h4, h5⟩ := G
  obtain ⟨q, hq⟩ : ∃ z, z = hullQ KK x y := ⟨_, rfl⟩
  have HQ := Lib.hid hq
  clear hq
  obtain ⟨m, hm9⟩ : ∃ z, z = meetQ KK x y := ⟨_, rfl⟩
  have HM9 := Lib.hid hm9
  clear hm9
  obtain ⟨p1, hp1⟩ : ∃ z, z = hasI KK x d := ⟨_, rfl⟩
  obtain ⟨p2, hp2⟩ : ∃ z, z = hasI KK y d := ⟨_, rfl⟩
  have H_1 := Lib.hid hp1
  have H_2 := Lib.hid hp2
  clear hp1 hp2
  have F1 : Hid (withinI KK x q = true ∧ withinI KK y q = true) := Lib.hid (by rw [HQ.out]; exact (hull_ok hm.1 hm.2.1).2)
  have F2 : Hid (hasI KK m d = (p1 && p2)) := Lib.hid (by rw [HM9.out, H_1.out, H_2.out]; exact meet_has hm.1 hm.2.1 hmt)
  obtain ⟨pw, hpw⟩ : ∃ z, z = withinI KK x y := ⟨_, rfl⟩
  obtain ⟨pi, hpi⟩ : ∃ z, z = insideI KK x y := ⟨_, rfl⟩
  have H_w := Lib.hid hpw
  have H_i := Lib.hid hpi
  clear hpw hpi
  have F3 : Hid (pi = true → pw = true ∧ withinI KK y x = false ∧ sameI x y = false) := Lib.hid (by rw [H_i.out, H_w.out]; exact inside_not)
  have F4 : Hid (pw = true → sameI q y = true ∧ sameI m x = true) := Lib.hid (by
    rw [H_w.out, HQ.out, HM9.out]; intro h
    have h2 := within_sets hKK h
    exact ⟨sameI_iff.2 h2.1, sameI_iff.2 h2.2⟩)
  have F5 : Hid (withinI KK x x = true ∧ insideI KK x x = false) := Lib.hid ⟨within_self hm.1, inside_self⟩
  have HMT := Lib.hid hmt
  clear hmt
  go_enter Tryd.func3, Tryd.ntmps3
  go_wp2_with fail
  refine (few5_any (x := x) y1 y2).mono ?_
  rintro en w1 ⟨rfl, b⟩
  rw [hf.1]
  replace BB := below_next BB BB.size b rfl rfl rfl rfl
  have G := mv b rfl <| And.intro a0 <| And.intro a1 <| And.intro a2 <| And.intro a3 <| And.intro a4 <| And.intro a5 <| And.intro b0 <| And.intro b1 <| And.intro b2 <| And.intro b3 <| And.intro b4 <| And.intro b5 <| And.intro d0 <| And.intro d1 <| And.intro d2 <| And.intro hT <| And.intro h1 <| And.intro h2 <| And.intro h3 <| And.intro h4 <| h5
  clear b a0 a1 a2 a3 a4 a5 b0 b1 b2 b3 b4 b5 d0 d1 d2 hT h1 h2 h3 h4 h5
  obtain ⟨a0, a1, a2, a3, a4, a5, b0, b1, b2, b3, b4, b5, d0, d1, d2, hT, h1, h2, h3, h4, h5⟩ := G
  go_wp2_with fail
  refine (few5_any (x := y) y3 y4).mono ?_
  rintro en w2 ⟨rfl, b⟩
  rw [hf.2.1]
  replace BB := below_next BB BB.size b rfl rfl rfl rfl
  have G := mv b rfl <| And.intro a0 <| And.intro a1 <| And.intro a2 <| And.intro a3 <| And.intro a4 <| And.intro a5 <| And.intro b0 <| And.intro b1 <| And.intro b2 <| And.intro b3 <| And.intro b4 <| And.intro b5 <| And.intro d0 <| And.intro d1 <| And.intro d2 <| And.intro hT <| And.intro h1 <| And.intro h2 <| And.intro h3 <| And.intro h4 <| h5
  clear b a0 a1 a2 a3 a4 a5 b0 b1 b2 b3 b4 b5 d0 d1 d2 hT h1 h2 h3 h4 h5
  obtain ⟨a0, a1, a2, a3, a4, a5, b0, b1, b2, b3, b4, b5, d0, d1, d2, hT, h1, h2, h3, h4, h5⟩ := G
  go_wp2_with fail
  refine (dfew_any (s := d.s) (e := d.e) y5).mono ?_
  rintro en w3 ⟨rfl, b⟩
  rw [decide_eq_true hf.2.2]
  replace BB := below_next BB BB.size b rfl rfl rfl rfl
  have G := mv b rfl <| And.intro a0 <| And.intro a1 <| And.intro a2 <| And.intro a3 <| And.intro a4 <| And.intro a5 <| And.intro b0 <| And.intro b1 <| And.intro b2 <| And.intro b3 <| And.intro b4 <| And.intro b5 <| And.intro d0 <| And.intro d1 <| And.intro d2 <| And.intro hT <| And.intro h1 <| And.intro h2 <| And.intro h3 <| And.intro h4 <| h5
  clear b a0 a1 a2 a3 a4 a5 b0 b1 b2 b3 b4 b5 d0 d1 d2 hT h1 h2 h3 h4 h5
  obtain ⟨a0, a1, a2, a3, a4, a5, b0, b1, b2, b3, b4, b5, d0, d1, d2, hT, h1, h2, h3, h4, h5⟩ := G
  go_wp2_with fail
  refine (imay_any (x := x) hKK hT h1 h2).mono ?_
  rintro en w4 ⟨rfl, b⟩
  rw [hm.1]
  replace BB := below_next BB BB.size b rfl rfl rfl rfl
  have G := mv b rfl <| And.intro a0 <| And.intro a1 <| And.intro a2 <| And.intro a3 <| And.intro a4 <| And.intro a5 <| And.intro b0 <| And.intro b1 <| And.intro b2 <| And.intro b3 <| And.intro b4 <| And.intro b5 <| And.intro d0 <| And.intro d1 <| And.intro d2 <| And.intro hT <| And.intro h1 <| And.intro h2 <| And.intro h3 <| And.intro h4 <| h5
  clear b a0 a1 a2 a3 a4 a5 b0 b1 b2 b3 b4 b5 d0 d1 d2 hT h1 h2 h3 h4 h5
  obtain ⟨a0, a1, a2, a3, a4, a5, b0, b1, b2, b3, b4, b5, d0, d1, d2, hT, h1, h2, h3, h4, h5⟩ := G
  go_wp2_with fail
  refine (imay_any (x := y) hKK hT h3 h4).mono ?_
  rintro en w5 ⟨rfl, b⟩
  rw [hm.2.1]
  replace BB := below_next BB BB.size b rfl rfl rfl rfl
  have G := mv b rfl <| And.intro a0 <| And.intro a1 <| And.intro a2 <| And.intro a3 <| And.intro a4 <| And.intro a5 <| And.intro b0 <| And.intro b1 <| And.intro b2 <| And.intro b3 <| And.intro b4 <| And.intro b5 <| And.intro d0 <| And.intro d1 <| And.intro d2 <| And.intro hT <| And.intro h1 <| And.intro h2 <| And.intro h3 <| And.intro h4 <| h5
  clear b a0 a1 a2 a3 a4 a5 b0 b1 b2 b3 b4 b5 d0 d1 d2 hT h1 h2 h3 h4 h5
  obtain ⟨a0, a1, a2, a3, a4, a5, b0, b1, b2, b3, b4, b5, d0, d1, d2, hT, h1, h2, h3, h4, h5⟩ := G
  go_wp2_with fail
  refine (dmay_any (s := d.s) (e := d.e) hT h5).mono ?_
  rintro en w6 ⟨rfl, b⟩
  rw [show mayD d.s d.l d.e = true from hm.2.2]
  replace BB := below_next BB BB.size b rfl rfl rfl rfl
  have G := mv b rfl <| And.intro a0 <| And.intro a1 <| And.intro a2 <| And.intro a3 <| And.intro a4 <| And.intro a5 <| And.intro b0 <| And.intro b1 <| And.intro b2 <| And.intro b3 <| And.intro b4 <| And.intro b5 <| And.intro d0 <| And.intro d1 <| And.intro d2 <| And.intro hT <| And.intro h1 <| And.intro h2 <| And.intro h3 <| And.intro h4 <| h5
  clear b a0 a1 a2 a3 a4 a5 b0 b1 b2 b3 b4 b5 d0 d1 d2 hT h1 h2 h3 h4 h5
  obtain ⟨a0, a1, a2, a3, a4, a5, b0, b1, b2, b3, b4, b5, d0, d1, d2, hT, h1, h2, h3, h4, h5⟩ := G
  clear hf y1 y2 y3 y4 y5
  go_wp2_with fail
  refine (tellI_eq rfl HQ.out (ihull_ok hKK hT h1 h2 h3 h4 hm.1 hm.2.1)).mono ?_
  rintro en v1 ⟨A6, n6, c6, A7, n7, c7, rfl, h6, h7, b⟩
  replace BB := below_next BB BB.size b rfl rfl rfl rfl
  have G := mv b rfl <| And.intro a0 <| And.intro a1 <| And.intro a2 <| And.intro a3 <| And.intro a4 <| And.intro a5 <| And.intro b0 <| And.intro b1 <| And.intro b2 <| And.intro b3 <| And.intro b4 <| And.intro b5 <| And.intro d0 <| And.intro d1 <| And.intro d2 <| And.intro hT <| And.intro h1 <| And.intro h2 <| And.intro h3 <| And.intro h4 <| h5
  clear b a0 a1 a2 a3 a4 a5 b0 b1 b2 b3 b4 b5 d0 d1 d2 hT h1 h2 h3 h4 h5
  obtain ⟨a0, a1, a2, a3, a4, a5, b0, b1, b2, b3, b4, b5, d0, d1, d2, hT, h1, h2, h3, h4, h5⟩ := G
  obtain ⟨e0, e1, e2, e3, e4, e5⟩ := (Ibx.new v1 q.lo.s A6 n6 c6 q.lo.e q.hi.s A7 n7 c7 q.hi.e).held
  have b := below_alloc v1 (.cells #[.bool q.lo.s, .slice A6 n6 c6, .int .i64 q.lo.e, .bool q.hi.s, .slice A7 n7 c7, .int .i64 q.hi.e] 26)
  replace BB := below_next BB BB.size b rfl rfl rfl rfl
  have G := mv b rfl <| And.intro a0 <| And.intro a1 <| And.intro a2 <| And.intro a3 <| And.intro a4 <| And.intro a5 <| And.intro b0 <| And.intro b1 <| And.intro b2 <| And.intro b3 <| And.intro b4 <| And.intro b5 <| And.intro d0 <| And.intro d1 <| And.intro d2 <| And.intro hT <| And.intro h1 <| And.intro h2 <| And.intro h3 <| And.intro h4 <| And.intro h5 <| And.intro h6 <| h7
  clear b a0 a1 a2 a3 a4 a5 b0 b1 b2 b3 b4 b5 d0 d1 d2 hT h1 h2 h3 h4 h5 h6 h7
  obtain ⟨a0, a1, a2, a3, a4, a5, b0, b1, b2, b3, b4, b5, d0, d1, d2, hT, h1, h2, h3, h4, h5, h6, h7⟩ := G
  go_wp2_with fail
  refine (tellI_eq rfl HM9.out (imeet_ok hKK hT h1 h2 h3 h4 hm.1 hm.2.1 HMT.out)).mono ?_
  rintro en v2 ⟨A8, n8, c8, A9, n9, c9, rfl, h8, h9, b⟩
  replace BB := below_next BB BB.size b rfl rfl rfl rfl
  have G := mv b rfl <| And.intro a0 <| And.intro a1 <| And.intro a2 <| And.intro a3 <| And.intro a4 <| And.intro a5 <| And.intro b0 <| And.intro b1 <| And.intro b2 <| And.intro b3 <| And.intro b4 <| And.intro b5 <| And.intro d0 <| And.intro d1 <| And.intro d2 <| And.intro hT <| And.intro h1 <| And.intro h2 <| And.intro h3 <| And.intro h4 <| And.intro h5 <| And.intro h6 <| And.intro h7 <| And.intro e0 <| And.intro e1 <| And.intro e2 <| And.intro e3 <| And.intro e4 <| e5
  clear b a0 a1 a2 a3 a4 a5 b0 b1 b2 b3 b4 b5 d0 d1 d2 hT h1 h2 h3 h4 h5 h6 h7 e0 e1 e2 e3 e4 e5
  obtain ⟨a0, a1, a2, a3, a4, a5, b0, b1, b2, b3, b4, b5, d0, d1, d2, hT, h1, h2, h3, h4, h5, h6, h7, e0, e1, e2, e3, e4, e5⟩ := G
  obtain ⟨g0, g1, g2, g3, g4, g5⟩ := (Ibx.new v2 m.lo.s A8 n8 c8 m.lo.e m.hi.s A9 n9 c9 m.hi.e).held
  have b := below_alloc v2 (.cells #[.bool m.lo.s, .slice A8 n8 c8, .int .i64 m.lo.e, .bool m.hi.s, .slice A9 n9 c9, .int .i64 m.hi.e] 26)
  replace BB := below_next BB BB.size b rfl rfl rfl rfl
  have G := mv b rfl <| And.intro a0 <| And.intro a1 <| And.intro a2 <| And.intro a3 <| And.intro a4 <| And.intro a5 <| And.intro b0 <| And.intro b1 <| And.intro b2 <| And.intro b3 <| And.intro b4 <| And.intro b5 <| And.intro d0 <| And.intro d1 <| And.intro d2 <| And.intro hT <| And.intro h1 <| And.intro h2 <| And.intro h3 <| And.intro h4 <| And.intro h5 <| And.intro h6 <| And.intro h7 <| And.intro e0 <| And.intro e1 <| And.intro e2 <| And.intro e3 <| And.intro e4 <| And.intro e5 <| And.intro h8 <| h9
  clear b a0 a1 a2 a3 a4 a5 b0 b1 b2 b3 b4 b5 d0 d1 d2 hT h1 h2 h3 h4 h5 h6 h7 e0 e1 e2 e3 e4 e5 h8 h9
  obtain ⟨a0, a1, a2, a3, a4, a5, b0, b1, b2, b3, b4, b5, d0, d1, d2, hT, h1, h2, h3, h4, h5, h6, h7, e0, e1, e2, e3, e4, e5, h8, h9⟩ := G
  go_upto_region 5 with fail
  go_cut [11] (fun v11 wc => v11 = .bool (p1 && p2) ∧ Below w.heap.size w wc ∧ Below (v2.alloc (.cells #[.bool m.lo.s, .slice A8 n8 c8, .int .i64 m.lo.e, .bool m.hi.s, .slice A9 n9 c9, .int .i64 m.hi.e] 26)).heap.size (v2.alloc (.cells #[.bool m.lo.s, .slice A8 n8 c8, .int .i64 m.lo.e, .bool m.hi.s, .slice A9 n9 c9, .int .i64 m.hi.e] 26)) wc)
  case first =>
    have BD := Below.refl (v2.alloc (.cells #[.bool m.lo.s, .slice A8 n8 c8, .int .i64 m.lo.e, .bool m.hi.s, .slice A9 n9 c9, .int .i64 m.hi.e] 26)).heap.size (v2.alloc (.cells #[.bool m.lo.s, .slice A8 n8 c8, .int .i64 m.lo.e, .bool m.hi.s, .slice A9 n9 c9, .int .i64 m.hi.e] 26))
    go_wp2_with fail
    refine (ihas_any (x := x) (d := d) hKK hT h1 h2 h5).mono ?_
    rintro en u1 ⟨rfl, b⟩
    rw [← H_1.out]
    replace BD := below_next BD BD.size b rfl rfl rfl rfl
    replace BB := below_next BB BB.size b rfl rfl rfl rfl
    have G := mv b rfl <| And.intro a0 <| And.intro a1 <| And.intro a2 <| And.intro a3 <| And.intro a4 <| And.intro a5 <| And.intro b0 <| And.intro b1 <| And.intro b2 <| And.intro b3 <| And.intro b4 <| And.intro b5 <| And.intro d0 <| And.intro d1 <| And.intro d2 <| And.intro hT <| And.intro h1 <| And.intro h2 <| And.intro h3 <| And.intro h4 <| And.intro h5 <| And.intro h6 <| And.intro h7 <| And.intro e0 <| And.intro e1 <| And.intro e2 <| And.intro e3 <| And.intro e4 <| And.intro e5 <| And.intro h8 <| And.intro h9 <| And.intro g0 <| And.intro g1 <| And.intro g2 <| And.intro g3 <| And.intro g4 <| g5
    clear b a0 a1 a2 a3 a4 a5 b0 b1 b2 b3 b4 b5 d0 d1 d2 hT h1 h2 h3 h4 h5 h6 h7 e0 e1 e2 e3 e4 e5 h8 h9 g0 g1 g2 g3 g4 g5
    obtain ⟨a0, a1, a2, a3, a4, a5, b0, b1, b2, b3, b4, b5, d0, d1, d2, hT, h1, h2, h3, h4, h5, h6, h7, e0, e1, e2, e3, e4, e5, h8, h9, g0, g1, g2, g3, g4, g5⟩ := G
    cases p1
    · go_wp2_with fail
      go_meet
      case rel => exact ⟨rfl, BB, BD⟩
    go_wp2_with fail
    refine (ihas_any (x := y) (d := d) hKK hT h3 h4 h5).mono ?_
    rintro en u2 ⟨rfl, b⟩
    rw [← H_2.out]
    replace BD := below_next BD BD.size b rfl rfl rfl rfl
    replace BB := below_next BB BB.size b rfl rfl rfl rfl
    have G := mv b rfl <| And.intro a0 <| And.intro a1 <| And.intro a2 <| And.intro a3 <| And.intro a4 <| And.intro a5 <| And.intro b0 <| And.intro b1 <| And.intro b2 <| And.intro b3 <| And.intro b4 <| And.intro b5 <| And.intro d0 <| And.intro d1 <| And.intro d2 <| And.intro hT <| And.intro h1 <| And.intro h2 <| And.intro h3 <| And.intro h4 <| And.intro h5 <| And.intro h6 <| And.intro h7 <| And.intro e0 <| And.intro e1 <| And.intro e2 <| And.intro e3 <| And.intro e4 <| And.intro e5 <| And.intro h8 <| And.intro h9 <| And.intro g0 <| And.intro g1 <| And.intro g2 <| And.intro g3 <| And.intro g4 <| g5
    clear b a0 a1 a2 a3 a4 a5 b0 b1 b2 b3 b4 b5 d0 d1 d2 hT h1 h2 h3 h4 h5 h6 h7 e0 e1 e2 e3 e4 e5 h8 h9 g0 g1 g2 g3 g4 g5
    obtain ⟨a0, a1, a2, a3, a4, a5, b0, b1, b2, b3, b4, b5, d0, d1, d2, hT, h1, h2, h3, h4, h5, h6, h7, e0, e1, e2, e3, e4, e5, h8, h9, g0, g1, g2, g3, g4, g5⟩ := G
    cases p2
    · go_wp2_with fail
      go_meet
      case rel => exact ⟨rfl, BB, BD⟩
    · go_wp2_with fail
      go_meet
      case rel => exact ⟨rfl, BB, BD⟩
  case rest =>
    obtain ⟨rfl, BB2, b⟩ := hcut
    clear BB
    have G := mv b rfl <| And.intro a0 <| And.intro a1 <| And.intro a2 <| And.intro a3 <| And.intro a4 <| And.intro a5 <| And.intro b0 <| And.intro b1 <| And.intro b2 <| And.intro b3 <| And.intro b4 <| And.intro b5 <| And.intro d0 <| And.intro d1 <| And.intro d2 <| And.intro hT <| And.intro h1 <| And.intro h2 <| And.intro h3 <| And.intro h4 <| And.intro h5 <| And.intro h6 <| And.intro h7 <| And.intro e0 <| And.intro e1 <| And.intro e2 <| And.intro e3 <| And.intro e4 <| And.intro e5 <| h8
    clear a0 a1 a2 a3 a4 a5 b0 b1 b2 b3 b4 b5 d0 d1 d2 hT h1 h2 h3 h4 h5 h6 h7 e0 e1 e2 e3 e4 e5 h8
    obtain ⟨a0, a1, a2, a3, a4, a5, b0, b1, b2, b3, b4, b5, d0, d1, d2, hT, h1, h2, h3, h4, h5, h6, h7, e0, e1, e2, e3, e4, e5, h8⟩ := G
    have G := mv b rfl <| And.intro h9 <| And.intro g0 <| And.intro g1 <| And.intro g2 <| And.intro g3 <| And.intro g4 <| g5
    clear h9 g0 g1 g2 g3 g4 g5
    obtain ⟨h9, g0, g1, g2, g3, g4, g5⟩ := G
    clear b
    have BB := BB2
    clear BB2
    obtain ⟨pb, hpb⟩ : ∃ p, p = (p1 && p2) := ⟨_, rfl⟩
    rw [← hpb]
    have HPB := Lib.hid hpb
    clear hpb
    go_wp2_with fail
    refine (iwithin_any (x := x) (y := q) hKK hT h1 h2 h6 h7).mono ?_
    rintro en t1 ⟨rfl, b⟩
    rw [F1.out.1]
    replace BB := below_next BB BB.size b rfl rfl rfl rfl
    have G := mv b rfl <| And.intro a0 <| And.intro a1 <| And.intro a2 <| And.intro a3 <| And.intro a4 <| And.intro a5 <| And.intro b0 <| And.intro b1 <| And.intro b2 <| And.intro b3 <| And.intro b4 <| And.intro b5 <| And.intro d0 <| And.intro d1 <| And.intro d2 <| And.intro hT <| And.intro h1 <| And.intro h2 <| And.intro h3 <| And.intro h4 <| And.intro h5 <| And.intro h6 <| And.intro h7 <| And.intro e0 <| And.intro e1 <| And.intro e2 <| And.intro e3 <| And.intro e4 <| And.intro e5 <| And.intro h8 <| And.intro h9 <| And.intro g0 <| And.intro g1 <| And.intro g2 <| And.intro g3 <| And.intro g4 <| g5
    clear b a0 a1 a2 a3 a4 a5 b0 b1 b2 b3 b4 b5 d0 d1 d2 hT h1 h2 h3 h4 h5 h6 h7 e0 e1 e2 e3 e4 e5 h8 h9 g0 g1 g2 g3 g4 g5
    obtain ⟨a0, a1, a2, a3, a4, a5, b0, b1, b2, b3, b4, b5, d0, d1, d2, hT, h1, h2, h3, h4, h5, h6, h7, e0, e1, e2, e3, e4, e5, h8, h9, g0, g1, g2, g3, g4, g5⟩ := G
    go_wp2_with fail
    refine (iwithin_any (x := y) (y := q) hKK hT h3 h4 h6 h7).mono ?_
    rintro en t2 ⟨rfl, b⟩
    rw [F1.out.2]
    replace BB := below_next BB BB.size b rfl rfl rfl rfl
    have G := mv b rfl <| And.intro a0 <| And.intro a1 <| And.intro a2 <| And.intro a3 <| And.intro a4 <| And.intro a5 <| And.intro b0 <| And.intro b1 <| And.intro b2 <| And.intro b3 <| And.intro b4 <| And.intro b5 <| And.intro d0 <| And.intro d1 <| And.intro d2 <| And.intro hT <| And.intro h1 <| And.intro h2 <| And.intro h3 <| And.intro h4 <| And.intro h5 <| And.intro h6 <| And.intro h7 <| And.intro e0 <| And.intro e1 <| And.intro e2 <| And.intro e3 <| And.intro e4 <| And.intro e5 <| And.intro h8 <| And.intro h9 <| And.intro g0 <| And.intro g1 <| And.intro g2 <| And.intro g3 <| And.intro g4 <| g5
    clear b a0 a1 a2 a3 a4 a5 b0 b1 b2 b3 b4 b5 d0 d1 d2 hT h1 h2 h3 h4 h5 h6 h7 e0 e1 e2 e3 e4 e5 h8 h9 g0 g1 g2 g3 g4 g5
    obtain ⟨a0, a1, a2, a3, a4, a5, b0, b1, b2, b3, b4, b5, d0, d1, d2, hT, h1, h2, h3, h4, h5, h6, h7, e0, e1, e2, e3, e4, e5, h8, h9, g0, g1, g2, g3, g4, g5⟩ := G
    have fb : (pb != pb) = false := by simp
    go_wp2_with fail
    refine (ihas_any (x := m) (d := d) hKK hT h8 h9 h5).mono ?_
    rintro en t3 ⟨rfl, b⟩
    rw [F2.out, ← HPB.out]
    replace BB := below_next BB BB.size b rfl rfl rfl rfl
    have G := mv b rfl <| And.intro a0 <| And.intro a1 <| And.intro a2 <| And.intro a3 <| And.intro a4 <| And.intro a5 <| And.intro b0 <| And.intro b1 <| And.intro b2 <| And.intro b3 <| And.intro b4 <| And.intro b5 <| And.intro d0 <| And.intro d1 <| And.intro d2 <| And.intro hT <| And.intro h1 <| And.intro h2 <| And.intro h3 <| And.intro h4 <| And.intro h5 <| And.intro h6 <| And.intro h7 <| And.intro e0 <| And.intro e1 <| And.intro e2 <| And.intro e3 <| And.intro e4 <| And.intro e5 <| And.intro h8 <| And.intro h9 <| And.intro g0 <| And.intro g1 <| And.intro g2 <| And.intro g3 <| And.intro g4 <| g5
    clear b a0 a1 a2 a3 a4 a5 b0 b1 b2 b3 b4 b5 d0 d1 d2 hT h1 h2 h3 h4 h5 h6 h7 e0 e1 e2 e3 e4 e5 h8 h9 g0 g1 g2 g3 g4 g5
    obtain ⟨a0, a1, a2, a3, a4, a5, b0, b1, b2, b3, b4, b5, d0, d1, d2, hT, h1, h2, h3, h4, h5, h6, h7, e0, e1, e2, e3, e4, e5, h8, h9, g0, g1, g2, g3, g4, g5⟩ := G
    go_wp2_with fail
    refine (iinside_any (x := x) (y := y) hKK hT h1 h2 h3 h4).mono ?_
    rintro en t4 ⟨rfl, b⟩
    rw [← H_i.out]
    replace BB := below_next BB BB.size b rfl rfl rfl rfl
    have G := mv b rfl <| And.intro a0 <| And.intro a1 <| And.intro a2 <| And.intro a3 <| And.intro a4 <| And.intro a5 <| And.intro b0 <| And.intro b1 <| And.intro b2 <| And.intro b3 <| And.intro b4 <| And.intro b5 <| And.intro d0 <| And.intro d1 <| And.intro d2 <| And.intro hT <| And.intro h1 <| And.intro h2 <| And.intro h3 <| And.intro h4 <| And.intro h5 <| And.intro h6 <| And.intro h7 <| And.intro e0 <| And.intro e1 <| And.intro e2 <| And.intro e3 <| And.intro e4 <| And.intro e5 <| And.intro h8 <| And.intro h9 <| And.intro g0 <| And.intro g1 <| And.intro g2 <| And.intro g3 <| And.intro g4 <| g5
    clear b a0 a1 a2 a3 a4 a5 b0 b1 b2 b3 b4 b5 d0 d1 d2 hT h1 h2 h3 h4 h5 h6 h7 e0 e1 e2 e3 e4 e5 h8 h9 g0 g1 g2 g3 g4 g5
    obtain ⟨a0, a1, a2, a3, a4, a5, b0, b1, b2, b3, b4, b5, d0, d1, d2, hT, h1, h2, h3, h4, h5, h6, h7, e0, e1, e2, e3, e4, e5, h8, h9, g0, g1, g2, g3, g4, g5⟩ := G
    cases pi
    · go_wp2_with fail
      refine (told5_any hT).mono ?_
      rintro en t8 ⟨rfl, b⟩
      replace BB := below_next BB BB.size b rfl rfl rfl rfl
      have G := mv b rfl <| And.intro a0 <| And.intro a1 <| And.intro a2 <| And.intro a3 <| And.intro a4 <| And.intro a5 <| And.intro b0 <| And.intro b1 <| And.intro b2 <| And.intro b3 <| And.intro b4 <| And.intro b5 <| And.intro d0 <| And.intro d1 <| And.intro d2 <| And.intro hT <| And.intro h1 <| And.intro h2 <| And.intro h3 <| And.intro h4 <| And.intro h5 <| And.intro h6 <| And.intro h7 <| And.intro e0 <| And.intro e1 <| And.intro e2 <| And.intro e3 <| And.intro e4 <| And.intro e5 <| And.intro h8 <| And.intro h9 <| And.intro g0 <| And.intro g1 <| And.intro g2 <| And.intro g3 <| And.intro g4 <| g5
      clear b a0 a1 a2 a3 a4 a5 b0 b1 b2 b3 b4 b5 d0 d1 d2 hT h1 h2 h3 h4 h5 h6 h7 e0 e1 e2 e3 e4 e5 h8 h9 g0 g1 g2 g3 g4 g5
      obtain ⟨a0, a1, a2, a3, a4, a5, b0, b1, b2, b3, b4, b5, d0, d1, d2, hT, h1, h2, h3, h4, h5, h6, h7, e0, e1, e2, e3, e4, e5, h8, h9, g0, g1, g2, g3, g4, g5⟩ := G
      go_wp2_with fail
      refine (iwithin_any (x := x) (y := x) hKK hT h1 h2 h1 h2).mono ?_
      rintro en t9 ⟨rfl, b⟩
      rw [F5.out.1]
      replace BB := below_next BB BB.size b rfl rfl rfl rfl
      have G := mv b rfl <| And.intro a0 <| And.intro a1 <| And.intro a2 <| And.intro a3 <| And.intro a4 <| And.intro a5 <| And.intro b0 <| And.intro b1 <| And.intro b2 <| And.intro b3 <| And.intro b4 <| And.intro b5 <| And.intro d0 <| And.intro d1 <| And.intro d2 <| And.intro hT <| And.intro h1 <| And.intro h2 <| And.intro h3 <| And.intro h4 <| And.intro h5 <| And.intro h6 <| And.intro h7 <| And.intro e0 <| And.intro e1 <| And.intro e2 <| And.intro e3 <| And.intro e4 <| And.intro e5 <| And.intro h8 <| And.intro h9 <| And.intro g0 <| And.intro g1 <| And.intro g2 <| And.intro g3 <| And.intro g4 <| g5
      clear b a0 a1 a2 a3 a4 a5 b0 b1 b2 b3 b4 b5 d0 d1 d2 hT h1 h2 h3 h4 h5 h6 h7 e0 e1 e2 e3 e4 e5 h8 h9 g0 g1 g2 g3 g4 g5
      obtain ⟨a0, a1, a2, a3, a4, a5, b0, b1, b2, b3, b4, b5, d0, d1, d2, hT, h1, h2, h3, h4, h5, h6, h7, e0, e1, e2, e3, e4, e5, h8, h9, g0, g1, g2, g3, g4, g5⟩ := G
      go_wp2_with fail
      refine (iinside_any (x := x) (y := x) hKK hT h1 h2 h1 h2).mono ?_
      rintro en t10 ⟨rfl, b⟩
      rw [F5.out.2]
      replace BB := below_next BB BB.size b rfl rfl rfl rfl
      have G := mv b rfl <| And.intro a0 <| And.intro a1 <| And.intro a2 <| And.intro a3 <| And.intro a4 <| And.intro a5 <| And.intro b0 <| And.intro b1 <| And.intro b2 <| And.intro b3 <| And.intro b4 <| And.intro b5 <| And.intro d0 <| And.intro d1 <| And.intro d2 <| And.intro hT <| And.intro h1 <| And.intro h2 <| And.intro h3 <| And.intro h4 <| And.intro h5 <| And.intro h6 <| And.intro h7 <| And.intro e0 <| And.intro e1 <| And.intro e2 <| And.intro e3 <| And.intro e4 <| And.intro e5 <| And.intro h8 <| And.intro h9 <| And.intro g0 <| And.intro g1 <| And.intro g2 <| And.intro g3 <| And.intro g4 <| g5
      clear b a0 a1 a2 a3 a4 a5 b0 b1 b2 b3 b4 b5 d0 d1 d2 hT h1 h2 h3 h4 h5 h6 h7 e0 e1 e2 e3 e4 e5 h8 h9 g0 g1 g2 g3 g4 g5
      obtain ⟨a0, a1, a2, a3, a4, a5, b0, b1, b2, b3, b4, b5, d0, d1, d2, hT, h1, h2, h3, h4, h5, h6, h7, e0, e1, e2, e3, e4, e5, h8, h9, g0, g1, g2, g3, g4, g5⟩ := G
      go_wp2_with fail
      refine (iwithin_any (x := x) (y := y) hKK hT h1 h2 h3 h4).mono ?_
      rintro en t11 ⟨rfl, b⟩
      rw [← H_w.out]
      replace BB := below_next BB BB.size b rfl rfl rfl rfl
      have G := mv b rfl <| And.intro a0 <| And.intro a1 <| And.intro a2 <| And.intro a3 <| And.intro a4 <| And.intro a5 <| And.intro b0 <| And.intro b1 <| And.intro b2 <| And.intro b3 <| And.intro b4 <| And.intro b5 <| And.intro d0 <| And.intro d1 <| And.intro d2 <| And.intro hT <| And.intro h1 <| And.intro h2 <| And.intro h3 <| And.intro h4 <| And.intro h5 <| And.intro h6 <| And.intro h7 <| And.intro e0 <| And.intro e1 <| And.intro e2 <| And.intro e3 <| And.intro e4 <| And.intro e5 <| And.intro h8 <| And.intro h9 <| And.intro g0 <| And.intro g1 <| And.intro g2 <| And.intro g3 <| And.intro g4 <| g5
      clear b a0 a1 a2 a3 a4 a5 b0 b1 b2 b3 b4 b5 d0 d1 d2 hT h1 h2 h3 h4 h5 h6 h7 e0 e1 e2 e3 e4 e5 h8 h9 g0 g1 g2 g3 g4 g5
      obtain ⟨a0, a1, a2, a3, a4, a5, b0, b1, b2, b3, b4, b5, d0, d1, d2, hT, h1, h2, h3, h4, h5, h6, h7, e0, e1, e2, e3, e4, e5, h8, h9, g0, g1, g2, g3, g4, g5⟩ := G
      cases pw
      · go_wp2
        go_ret
        exact ⟨by first | rfl | simp, BB⟩
      go_wp2_with fail
      refine (isame_any (x := q) (y := y) h6 h7 h3 h4).mono ?_
      rintro en t12 ⟨rfl, b⟩
      rw [(F4.out (by first | rfl | trivial)).1]
      replace BB := below_next BB BB.size b rfl rfl rfl rfl
      have G := mv b rfl <| And.intro a0 <| And.intro a1 <| And.intro a2 <| And.intro a3 <| And.intro a4 <| And.intro a5 <| And.intro b0 <| And.intro b1 <| And.intro b2 <| And.intro b3 <| And.intro b4 <| And.intro b5 <| And.intro d0 <| And.intro d1 <| And.intro d2 <| And.intro hT <| And.intro h1 <| And.intro h2 <| And.intro h3 <| And.intro h4 <| And.intro h5 <| And.intro h6 <| And.intro h7 <| And.intro e0 <| And.intro e1 <| And.intro e2 <| And.intro e3 <| And.intro e4 <| And.intro e5 <| And.intro h8 <| And.intro h9 <| And.intro g0 <| And.intro g1 <| And.intro g2 <| And.intro g3 <| And.intro g4 <| g5
      clear b a0 a1 a2 a3 a4 a5 b0 b1 b2 b3 b4 b5 d0 d1 d2 hT h1 h2 h3 h4 h5 h6 h7 e0 e1 e2 e3 e4 e5 h8 h9 g0 g1 g2 g3 g4 g5
      obtain ⟨a0, a1, a2, a3, a4, a5, b0, b1, b2, b3, b4, b5, d0, d1, d2, hT, h1, h2, h3, h4, h5, h6, h7, e0, e1, e2, e3, e4, e5, h8, h9, g0, g1, g2, g3, g4, g5⟩ := G
      go_wp2_with fail
      refine (isame_any (x := m) (y := x) h8 h9 h1 h2).mono ?_
      rintro en t13 ⟨rfl, b⟩
      rw [(F4.out (by first | rfl | trivial)).2]
      replace BB := below_next BB BB.size b rfl rfl rfl rfl
      have G := mv b rfl <| And.intro a0 <| And.intro a1 <| And.intro a2 <| And.intro a3 <| And.intro a4 <| And.intro a5 <| And.intro b0 <| And.intro b1 <| And.intro b2 <| And.intro b3 <| And.intro b4 <| And.intro b5 <| And.intro d0 <| And.intro d1 <| And.intro d2 <| And.intro hT <| And.intro h1 <| And.intro h2 <| And.intro h3 <| And.intro h4 <| And.intro h5 <| And.intro h6 <| And.intro h7 <| And.intro e0 <| And.intro e1 <| And.intro e2 <| And.intro e3 <| And.intro e4 <| And.intro e5 <| And.intro h8 <| And.intro h9 <| And.intro g0 <| And.intro g1 <| And.intro g2 <| And.intro g3 <| And.intro g4 <| g5
      clear b a0 a1 a2 a3 a4 a5 b0 b1 b2 b3 b4 b5 d0 d1 d2 hT h1 h2 h3 h4 h5 h6 h7 e0 e1 e2 e3 e4 e5 h8 h9 g0 g1 g2 g3 g4 g5
      obtain ⟨a0, a1, a2, a3, a4, a5, b0, b1, b2, b3, b4, b5, d0, d1, d2, hT, h1, h2, h3, h4, h5, h6, h7, e0, e1, e2, e3, e4, e5, h8, h9, g0, g1, g2, g3, g4, g5⟩ := G
      go_wp2
      go_ret
      exact ⟨by first | rfl | simp, BB⟩
    · go_wp2_with fail
      refine (iwithin_any (x := x) (y := y) hKK hT h1 h2 h3 h4).mono ?_
      rintro en t5 ⟨rfl, b⟩
      rw [← H_w.out, (F3.out (by first | rfl | trivial)).1]
      replace BB := below_next BB BB.size b rfl rfl rfl rfl
      have G := mv b rfl <| And.intro a0 <| And.intro a1 <| And.intro a2 <| And.intro a3 <| And.intro a4 <| And.intro a5 <| And.intro b0 <| And.intro b1 <| And.intro b2 <| And.intro b3 <| And.intro b4 <| And.intro b5 <| And.intro d0 <| And.intro d1 <| And.intro d2 <| And.intro hT <| And.intro h1 <| And.intro h2 <| And.intro h3 <| And.intro h4 <| And.intro h5 <| And.intro h6 <| And.intro h7 <| And.intro e0 <| And.intro e1 <| And.intro e2 <| And.intro e3 <| And.intro e4 <| And.intro e5 <| And.intro h8 <| And.intro h9 <| And.intro g0 <| And.intro g1 <| And.intro g2 <| And.intro g3 <| And.intro g4 <| g5
      clear b a0 a1 a2 a3 a4 a5 b0 b1 b2 b3 b4 b5 d0 d1 d2 hT h1 h2 h3 h4 h5 h6 h7 e0 e1 e2 e3 e4 e5 h8 h9 g0 g1 g2 g3 g4 g5
      obtain ⟨a0, a1, a2, a3, a4, a5, b0, b1, b2, b3, b4, b5, d0, d1, d2, hT, h1, h2, h3, h4, h5, h6, h7, e0, e1, e2, e3, e4, e5, h8, h9, g0, g1, g2, g3, g4, g5⟩ := G
      go_wp2_with fail
      refine (iwithin_any (x := y) (y := x) hKK hT h3 h4 h1 h2).mono ?_
      rintro en t6 ⟨rfl, b⟩
      rw [(F3.out (by first | rfl | trivial)).2.1]
      replace BB := below_next BB BB.size b rfl rfl rfl rfl
      have G := mv b rfl <| And.intro a0 <| And.intro a1 <| And.intro a2 <| And.intro a3 <| And.intro a4 <| And.intro a5 <| And.intro b0 <| And.intro b1 <| And.intro b2 <| And.intro b3 <| And.intro b4 <| And.intro b5 <| And.intro d0 <| And.intro d1 <| And.intro d2 <| And.intro hT <| And.intro h1 <| And.intro h2 <| And.intro h3 <| And.intro h4 <| And.intro h5 <| And.intro h6 <| And.intro h7 <| And.intro e0 <| And.intro e1 <| And.intro e2 <| And.intro e3 <| And.intro e4 <| And.intro e5 <| And.intro h8 <| And.intro h9 <| And.intro g0 <| And.intro g1 <| And.intro g2 <| And.intro g3 <| And.intro g4 <| g5
      clear b a0 a1 a2 a3 a4 a5 b0 b1 b2 b3 b4 b5 d0 d1 d2 hT h1 h2 h3 h4 h5 h6 h7 e0 e1 e2 e3 e4 e5 h8 h9 g0 g1 g2 g3 g4 g5
      obtain ⟨a0, a1, a2, a3, a4, a5, b0, b1, b2, b3, b4, b5, d0, d1, d2, hT, h1, h2, h3, h4, h5, h6, h7, e0, e1, e2, e3, e4, e5, h8, h9, g0, g1, g2, g3, g4, g5⟩ := G
      go_wp2_with fail
      refine (isame_any (x := x) (y := y) h1 h2 h3 h4).mono ?_
      rintro en t7 ⟨rfl, b⟩
      rw [(F3.out (by first | rfl | trivial)).2.2]
      replace BB := below_next BB BB.size b rfl rfl rfl rfl
      have G := mv b rfl <| And.intro a0 <| And.intro a1 <| And.intro a2 <| And.intro a3 <| And.intro a4 <| And.intro a5 <| And.intro b0 <| And.intro b1 <| And.intro b2 <| And.intro b3 <| And.intro b4 <| And.intro b5 <| And.intro d0 <| And.intro d1 <| And.intro d2 <| And.intro hT <| And.intro h1 <| And.intro h2 <| And.intro h3 <| And.intro h4 <| And.intro h5 <| And.intro h6 <| And.intro h7 <| And.intro e0 <| And.intro e1 <| And.intro e2 <| And.intro e3 <| And.intro e4 <| And.intro e5 <| And.intro h8 <| And.intro h9 <| And.intro g0 <| And.intro g1 <| And.intro g2 <| And.intro g3 <| And.intro g4 <| g5
      clear b a0 a1 a2 a3 a4 a5 b0 b1 b2 b3 b4 b5 d0 d1 d2 hT h1 h2 h3 h4 h5 h6 h7 e0 e1 e2 e3 e4 e5 h8 h9 g0 g1 g2 g3 g4 g5
      obtain ⟨a0, a1, a2, a3, a4, a5, b0, b1, b2, b3, b4, b5, d0, d1, d2, hT, h1, h2, h3, h4, h5, h6, h7, e0, e1, e2, e3, e4, e5, h8, h9, g0, g1, g2, g3, g4, g5⟩ := G
      go_wp2_with fail
      refine (told5_any hT).mono ?_
      rintro en t8 ⟨rfl, b⟩
      replace BB := below_next BB BB.size b rfl rfl rfl rfl
      have G := mv b rfl <| And.intro a0 <| And.intro a1 <| And.intro a2 <| And.intro a3 <| And.intro a4 <| And.intro a5 <| And.intro b0 <| And.intro b1 <| And.intro b2 <| And.intro b3 <| And.intro b4 <| And.intro b5 <| And.intro d0 <| And.intro d1 <| And.intro d2 <| And.intro hT <| And.intro h1 <| And.intro h2 <| And.intro h3 <| And.intro h4 <| And.intro h5 <| And.intro h6 <| And.intro h7 <| And.intro e0 <| And.intro e1 <| And.intro e2 <| And.intro e3 <| And.intro e4 <| And.intro e5 <| And.intro h8 <| And.intro h9 <| And.intro g0 <| And.intro g1 <| And.intro g2 <| And.intro g3 <| And.intro g4 <| g5
      clear b a0 a1 a2 a3 a4 a5 b0 b1 b2 b3 b4 b5 d0 d1 d2 hT h1 h2 h3 h4 h5 h6 h7 e0 e1 e2 e3 e4 e5 h8 h9 g0 g1 g2 g3 g4 g5
      obtain ⟨a0, a1, a2, a3, a4, a5, b0, b1, b2, b3, b4, b5, d0, d1, d2, hT, h1, h2, h3, h4, h5, h6, h7, e0, e1, e2, e3, e4, e5, h8, h9, g0, g1, g2, g3, g4, g5⟩ := G
      go_wp2_with fail
      refine (iwithin_any (x := x) (y := x) hKK hT h1 h2 h1 h2).mono ?_
      rintro en t9 ⟨rfl, b⟩
      rw [F5.out.1]
      replace BB := below_next BB BB.size b rfl rfl rfl rfl
      have G := mv b rfl <| And.intro a0 <| And.intro a1 <| And.intro a2 <| And.intro a3 <| And.intro a4 <| And.intro a5 <| And.intro b0 <| And.intro b1 <| And.intro b2 <| And.intro b3 <| And.intro b4 <| And.intro b5 <| And.intro d0 <| And.intro d1 <| And.intro d2 <| And.intro hT <| And.intro h1 <| And.intro h2 <| And.intro h3 <| And.intro h4 <| And.intro h5 <| And.intro h6 <| And.intro h7 <| And.intro e0 <| And.intro e1 <| And.intro e2 <| And.intro e3 <| And.intro e4 <| And.intro e5 <| And.intro h8 <| And.intro h9 <| And.intro g0 <| And.intro g1 <| And.intro g2 <| And.intro g3 <| And.intro g4 <| g5
      clear b a0 a1 a2 a3 a4 a5 b0 b1 b2 b3 b4 b5 d0 d1 d2 hT h1 h2 h3 h4 h5 h6 h7 e0 e1 e2 e3 e4 e5 h8 h9 g0 g1 g2 g3 g4 g5
      obtain ⟨a0, a1, a2, a3, a4, a5, b0, b1, b2, b3, b4, b5, d0, d1, d2, hT, h1, h2, h3, h4, h5, h6, h7, e0, e1, e2, e3, e4, e5, h8, h9, g0, g1, g2, g3, g4, g5⟩ := G
      go_wp2_with fail
      refine (iinside_any (x := x) (y := x) hKK hT h1 h2 h1 h2).mono ?_
      rintro en t10 ⟨rfl, b⟩
      rw [F5.out.2]
      replace BB := below_next BB BB.size b rfl rfl rfl rfl
      have G := mv b rfl <| And.intro a0 <| And.intro a1 <| And.intro a2 <| And.intro a3 <| And.intro a4 <| And.intro a5 <| And.intro b0 <| And.intro b1 <| And.intro b2 <| And.intro b3 <| And.intro b4 <| And.intro b5 <| And.intro d0 <| And.intro d1 <| And.intro d2 <| And.intro hT <| And.intro h1 <| And.intro h2 <| And.intro h3 <| And.intro h4 <| And.intro h5 <| And.intro h6 <| And.intro h7 <| And.intro e0 <| And.intro e1 <| And.intro e2 <| And.intro e3 <| And.intro e4 <| And.intro e5 <| And.intro h8 <| And.intro h9 <| And.intro g0 <| And.intro g1 <| And.intro g2 <| And.intro g3 <| And.intro g4 <| g5
      clear b a0 a1 a2 a3 a4 a5 b0 b1 b2 b3 b4 b5 d0 d1 d2 hT h1 h2 h3 h4 h5 h6 h7 e0 e1 e2 e3 e4 e5 h8 h9 g0 g1 g2 g3 g4 g5
      obtain ⟨a0, a1, a2, a3, a4, a5, b0, b1, b2, b3, b4, b5, d0, d1, d2, hT, h1, h2, h3, h4, h5, h6, h7, e0, e1, e2, e3, e4, e5, h8, h9, g0, g1, g2, g3, g4, g5⟩ := G
      go_wp2_with fail
      refine (iwithin_any (x := x) (y := y) hKK hT h1 h2 h3 h4).mono ?_
      rintro en t11 ⟨rfl, b⟩
      rw [← H_w.out, (F3.out (by first | rfl | trivial)).1]
      replace BB := below_next BB BB.size b rfl rfl rfl rfl
      have G := mv b rfl <| And.intro a0 <| And.intro a1 <| And.intro a2 <| And.intro a3 <| And.intro a4 <| And.intro a5 <| And.intro b0 <| And.intro b1 <| And.intro b2 <| And.intro b3 <| And.intro b4 <| And.intro b5 <| And.intro d0 <| And.intro d1 <| And.intro d2 <| And.intro hT <| And.intro h1 <| And.intro h2 <| And.intro h3 <| And.intro h4 <| And.intro h5 <| And.intro h6 <| And.intro h7 <| And.intro e0 <| And.intro e1 <| And.intro e2 <| And.intro e3 <| And.intro e4 <| And.intro e5 <| And.intro h8 <| And.intro h9 <| And.intro g0 <| And.intro g1 <| And.intro g2 <| And.intro g3 <| And.intro g4 <| g5
      clear b a0 a1 a2 a3 a4 a5 b0 b1 b2 b3 b4 b5 d0 d1 d2 hT h1 h2 h3 h4 h5 h6 h7 e0 e1 e2 e3 e4 e5 h8 h9 g0 g1 g2 g3 g4 g5
      obtain ⟨a0, a1, a2, a3, a4, a5, b0, b1, b2, b3, b4, b5, d0, d1, d2, hT, h1, h2, h3, h4, h5, h6, h7, e0, e1, e2, e3, e4, e5, h8, h9, g0, g1, g2, g3, g4, g5⟩ := G
      go_wp2_with fail
      refine (isame_any (x := q) (y := y) h6 h7 h3 h4).mono ?_
      rintro en t12 ⟨rfl, b⟩
      rw [(F4.out (F3.out (by first | rfl | trivial)).1).1]
      replace BB := below_next BB BB.size b rfl rfl rfl rfl
      have G := mv b rfl <| And.intro a0 <| And.intro a1 <| And.intro a2 <| And.intro a3 <| And.intro a4 <| And.intro a5 <| And.intro b0 <| And.intro b1 <| And.intro b2 <| And.intro b3 <| And.intro b4 <| And.intro b5 <| And.intro d0 <| And.intro d1 <| And.intro d2 <| And.intro hT <| And.intro h1 <| And.intro h2 <| And.intro h3 <| And.intro h4 <| And.intro h5 <| And.intro h6 <| And.intro h7 <| And.intro e0 <| And.intro e1 <| And.intro e2 <| And.intro e3 <| And.intro e4 <| And.intro e5 <| And.intro h8 <| And.intro h9 <| And.intro g0 <| And.intro g1 <| And.intro g2 <| And.intro g3 <| And.intro g4 <| g5
      clear b a0 a1 a2 a3 a4 a5 b0 b1 b2 b3 b4 b5 d0 d1 d2 hT h1 h2 h3 h4 h5 h6 h7 e0 e1 e2 e3 e4 e5 h8 h9 g0 g1 g2 g3 g4 g5
      obtain ⟨a0, a1, a2, a3, a4, a5, b0, b1, b2, b3, b4, b5, d0, d1, d2, hT, h1, h2, h3, h4, h5, h6, h7, e0, e1, e2, e3, e4, e5, h8, h9, g0, g1, g2, g3, g4, g5⟩ := G
      go_wp2_with fail
      refine (isame_any (x := m) (y := x) h8 h9 h1 h2).mono ?_
      rintro en t13 ⟨rfl, b⟩
      rw [(F4.out (F3.out (by first | rfl | trivial)).1).2]
      replace BB := below_next BB BB.size b rfl rfl rfl rfl
      have G := mv b rfl <| And.intro a0 <| And.intro a1 <| And.intro a2 <| And.intro a3 <| And.intro a4 <| And.intro a5 <| And.intro b0 <| And.intro b1 <| And.intro b2 <| And.intro b3 <| And.intro b4 <| And.intro b5 <| And.intro d0 <| And.intro d1 <| And.intro d2 <| And.intro hT <| And.intro h1 <| And.intro h2 <| And.intro h3 <| And.intro h4 <| And.intro h5 <| And.intro h6 <| And.intro h7 <| And.intro e0 <| And.intro e1 <| And.intro e2 <| And.intro e3 <| And.intro e4 <| And.intro e5 <| And.intro h8 <| And.intro h9 <| And.intro g0 <| And.intro g1 <| And.intro g2 <| And.intro g3 <| And.intro g4 <| g5
      clear b a0 a1 a2 a3 a4 a5 b0 b1 b2 b3 b4 b5 d0 d1 d2 hT h1 h2 h3 h4 h5 h6 h7 e0 e1 e2 e3 e4 e5 h8 h9 g0 g1 g2 g3 g4 g5
      obtain ⟨a0, a1, a2, a3, a4, a5, b0, b1, b2, b3, b4, b5, d0, d1, d2, hT, h1, h2, h3, h4, h5, h6, h7, e0, e1, e2, e3, e4, e5, h8, h9, g0, g1, g2, g3, g4, g5⟩ := G
      go_wp2
      go_ret
      exact ⟨by first | rfl | simp, BB⟩

set_option maxRecDepth 100000 in
set_option maxHeartbeats 8000000 in
theorem isets_none {KK : Nat} {w : World} {x y : Iv} {d : Rw} {A1 : Option Addr} {n1 c1 : Nat} {A2 : Option Addr} {n2 c2 : Nat} {A3 : Option Addr} {n3 c3 : Nat} {A4 : Option Addr} {n4 c4 : Nat} {A5 : Option Addr} {n5 c5 : Nat} (hT : Tab w) (h1 : Rd w .u64 Go.Proofs.YtijflbnfikiaaaaDoor.W A1 n1 c1 x.lo.l) (h2 : Rd w .u64 Go.Proofs.YtijflbnfikiaaaaDoor.W A2 n2 c2 x.hi.l) (h3 : Rd w .u64 Go.Proofs.YtijflbnfikiaaaaDoor.W A3 n3 c3 y.lo.l) (h4 : Rd w .u64 Go.Proofs.YtijflbnfikiaaaaDoor.W A4 n4 c4 y.hi.l) (h5 : Rd w .u64 Go.Proofs.YtijflbnfikiaaaaDoor.W A5 n5 c5 d.l) (hKK : 4194304 ≤ KK) (hf : (decide (n1 ≤ 70) && decide (n2 ≤ 70)) = true ∧ (decide (n3 ≤ 70) && decide (n4 ≤ 70)) = true ∧ n5 ≤ 70) (hm : mayI KK x = true ∧ mayI KK y = true ∧ d.may = true) (hmt : mayI KK (meetQ KK x y) = false) :
    Calls Tryd.prog 3 #[.agg #[.bool x.lo.s, .slice A1 n1 c1, .int .i64 x.lo.e, .bool x.hi.s, .slice A2 n2 c2, .int .i64 x.hi.e], .agg #[.bool y.lo.s, .slice A3 n3 c3, .int .i64 y.lo.e, .bool y.hi.s, .slice A4 n4 c4, .int .i64 y.hi.e], .agg #[.bool d.s, .slice A5 n5 c5, .int .i64 d.e]] w fun en w' => ToldEnd w en w' := by
  have y1 : n1 ≤ 9223372036854775807 := Nat.le_trans h1.cap h1.max
  have y2 : n2 ≤ 9223372036854775807 := Nat.le_trans h2.cap h2.max
  have y3 : n3 ≤ 9223372036854775807 := Nat.le_trans h3.cap h3.max
  have y4 : n4 ≤ 9223372036854775807 := Nat.le_trans h4.cap h4.max
  have y5 : n5 ≤ 9223372036854775807 := Nat.le_trans h5.cap h5.max
  have BB := three_below w (.cells #[.bool x.lo.s, .slice A1 n1 c1, .int .i64 x.lo.e, .bool x.hi.s, .slice A2 n2 c2, .int .i64 x.hi.e] 26) (.cells #[.bool y.lo.s, .slice A3 n3 c3, .int .i64 y.lo.e, .bool y.hi.s, .slice A4 n4 c4, .int .i64 y.hi.e] 26) (.cells #[.bool d.s, .slice A5 n5 c5, .int .i64 d.e] 24)
  obtain ⟨_, xa, xb⟩ := two_ivl w (x := x) (y := y) (A1 := A1) (n1 := n1) (c1 := c1) (A2 := A2) (n2 := n2) (c2 := c2) (A3 := A3) (n3 := n3) (c3 := c3) (A4 := A4) (n4 := n4) (c4 := c4) 
  replace xa := xa.alloc (.cells #[.bool d.s, .slice A5 n5 c5, .int .i64 d.e] 24)
  replace xb := xb.alloc (.cells #[.bool d.s, .slice A5 n5 c5, .int .i64 d.e] 24)
  have xd := box_two w (.cells #[.bool x.lo.s, .slice A1 n1 c1, .int .i64 x.lo.e, .bool x.hi.s, .slice A2 n2 c2, .int .i64 x.hi.e] 26) (.cells #[.bool y.lo.s, .slice A3 n3 c3, .int .i64 y.lo.e, .bool y.hi.s, .slice A4 n4 c4, .int .i64 y.hi.e] 26) d.s A5 n5 c5 d.e
  obtain ⟨a0, a1, a2, a3, a4, a5⟩ := xa.held
  obtain ⟨b0, b1, b2, b3, b4, b5⟩ := xb.held
  obtain ⟨d0, d1, d2⟩ := xd.held
  clear xa xb xd
  have G := mv BB rfl <| And.intro hT <| And.intro h1 <| And.intro h2 <| And.intro h3 <| And.intro h4 <| h5
  clear hT h1 h2 h3 h4 h5
  obtain ⟨hT, h1, h2, h3, h4, h5⟩ := G
  obtain ⟨q, hq⟩ : ∃ z, z = hullQ KK x y := ⟨_, rfl⟩
  have HQ := Lib.hid hq
  clear hq
  obtain ⟨m, hm9⟩ : ∃ z, z = Iv.zero := ⟨_, rfl⟩
  have HM9 := Lib.hid hm9
  clear hm9
  obtain ⟨p1, hp1⟩ : ∃ z, z = hasI KK x d := ⟨_, rfl⟩
  obtain ⟨p2, hp2⟩ : ∃ z, z = hasI KK y d := ⟨_, rfl⟩
  have H_1 := Lib.hid hp1
  have H_2 := Lib.hid hp2
  clear hp1 hp2
  have F1 : Hid (withinI KK x q = true ∧ withinI KK y q = true) := Lib.hid (by rw [HQ.out]; exact (hull_ok hm.1 hm.2.1).2)
  have F2 : Hid ((p1 && p2) = false) := Lib.hid (by rw [H_1.out, H_2.out]; exact meet_none hm.1 hm.2.1 hmt)
  obtain ⟨pw, hpw⟩ : ∃ z, z = withinI KK x y := ⟨_, rfl⟩
  obtain ⟨pi, hpi⟩ : ∃ z, z = insideI KK x y := ⟨_, rfl⟩
  have H_w := Lib.hid hpw
  have H_i := Lib.hid hpi
  clear hpw hpi
  have F3 : Hid (pi = true → pw = true ∧ withinI KK y x = false ∧ sameI x y = false) := Lib.hid (by rw [H_i.out, H_w.out]; exact inside_not)
  have F4 : Hid (pw = false) := Lib.hid (by
    rw [H_w.out]
    refine Bool.eq_false_iff.2 fun h => ?_
    have h2 := (within_sets hKK h).2
    rw [h2, hm.1] at hmt
    cases hmt)
  have F5 : Hid (withinI KK x x = true ∧ insideI KK x x = false) := Lib.hid ⟨within_self hm.1, inside_self⟩
  have HMT := Lib.hid hmt
  clear hmt
  go_enter Tryd.func3, Tryd.ntmps3
  go_wp2_with fail
  refine (few5_any (x := x) y1 y2).mono ?_
  rintro en w1 ⟨rfl, b⟩
  rw [hf.1]
  replace BB := below_next BB BB.size b rfl rfl rfl rfl
  have G := mv b rfl <| And.intro a0 <| And.intro a1 <| And.intro a2 <| And.intro a3 <| And.intro a4 <| And.intro a5 <| And.intro b0 <| And.intro b1 <| And.intro b2 <| And.intro b3 <| And.intro b4 <| And.intro b5 <| And.intro d0 <| And.intro d1 <| And.intro d2 <| And.intro hT <| And.intro h1 <| And.intro h2 <| And.intro h3 <| And.intro h4 <| h5
  clear b a0 a1 a2 a3 a4 a5 b0 b1 b2 b3 b4 b5 d0 d1 d2 hT h1 h2 h3 h4 h5
  obtain ⟨a0, a1, a2, a3, a4, a5, b0, b1, b2, b3, b4, b5, d0, d1, d2, hT, h1, h2, h3, h4, h5⟩ := G
  go_wp2_with fail
  refine (few5_any (x := y) y3 y4).mono ?_
  rintro en w2 ⟨rfl, b⟩
  rw [hf.2.1]
  replace BB := below_next BB BB.size b rfl rfl rfl rfl
  have G := mv b rfl <| And.intro a0 <| And.intro a1 <| And.intro a2 <| And.intro a3 <| And.intro a4 <| And.intro a5 <| And.intro b0 <| And.intro b1 <| And.intro b2 <| And.intro b3 <| And.intro b4 <| And.intro b5 <| And.intro d0 <| And.intro d1 <| And.intro d2 <| And.intro hT <| And.intro h1 <| And.intro h2 <| And.intro h3 <| And.intro h4 <| h5
  clear b a0 a1 a2 a3 a4 a5 b0 b1 b2 b3 b4 b5 d0 d1 d2 hT h1 h2 h3 h4 h5
  obtain ⟨a0, a1, a2, a3, a4, a5, b0, b1, b2, b3, b4, b5, d0, d1, d2, hT, h1, h2, h3, h4, h5⟩ := G
  go_wp2_with fail
  refine (dfew_any (s := d.s) (e := d.e) y5).mono ?_
  rintro en w3 ⟨rfl, b⟩
  rw [decide_eq_true hf.2.2]
  replace BB := below_next BB BB.size b rfl rfl rfl rfl
  have G := mv b rfl <| And.intro a0 <| And.intro a1 <| And.intro a2 <| And.intro a3 <| And.intro a4 <| And.intro a5 <| And.intro b0 <| And.intro b1 <| And.intro b2 <| And.intro b3 <| And.intro b4 <| And.intro b5 <| And.intro d0 <| And.intro d1 <| And.intro d2 <| And.intro hT <| And.intro h1 <| And.intro h2 <| And.intro h3 <| And.intro h4 <| h5
  clear b a0 a1 a2 a3 a4 a5 b0 b1 b2 b3 b4 b5 d0 d1 d2 hT h1 h2 h3 h4 h5
  obtain ⟨a0, a1, a2, a3, a4, a5, b0, b1, b2, b3, b4, b5, d0, d1, d2, hT, h1, h2, h3, h4, h5⟩ := G
  go_wp2_with fail
  refine (imay_any (x := x) hKK hT h1 h2).mono ?_
  rintro en w4 ⟨rfl, b⟩
  rw [hm.1]
  replace BB := below_next BB BB.size b rfl rfl rfl rfl
  have G := mv b rfl <| And.intro a0 <| And.intro a1 <| And.intro a2 <| And.intro a3 <| And.intro a4 <| And.intro a5 <| And.intro b0 <| And.intro b1 <| And.intro b2 <| And.intro b3 <| And.intro b4 <| And.intro b5 <| And.intro d0 <| And.intro d1 <| And.intro d2 <| And.intro hT <| And.intro h1 <| And.intro h2 <| And.intro h3 <| And.intro h4 <| h5
  clear b a0 a1 a2 a3 a4 a5 b0 b1 b2 b3 b4 b5 d0 d1 d2 hT h1 h2 h3 h4 h5
  obtain ⟨a0, a1, a2, a3, a4, a5, b0, b1, b2, b3, b4, b5, d0, d1, d2, hT, h1, h2, h3, h4, h5⟩ := G
  go_wp2_with fail
  refine (imay_any (x := y) hKK hT h3 h4).mono ?_
  rintro en w5 ⟨rfl, b⟩
  rw [hm.2.1]
  replace BB := below_next BB BB.size b rfl rfl rfl rfl
  have G := mv b rfl <| And.intro a0 <| And.intro a1 <| And.intro a2 <| And.intro a3 <| And.intro a4 <| And.intro a5 <| And.intro b0 <| And.intro b1 <| And.intro b2 <| And.intro b3 <| And.intro b4 <| And.intro b5 <| And.intro d0 <| And.intro d1 <| And.intro d2 <| And.intro hT <| And.intro h1 <| And.intro h2 <| And.intro h3 <| And.intro h4 <| h5
  clear b a0 a1 a2 a3 a4 a5 b0 b1 b2 b3 b4 b5 d0 d1 d2 hT h1 h2 h3 h4 h5
  obtain ⟨a0, a1, a2, a3, a4, a5, b0, b1, b2, b3, b4, b5, d0, d1, d2, hT, h1, h2, h3, h4, h5⟩ := G
  go_wp2_with fail
  refine (dmay_any (s := d.s) (e := d.e) hT h5).mono ?_
  rintro en w6 ⟨rfl, b⟩
  rw [show mayD d.s d.l d.e = true from hm.2.2]
  replace BB := below_next BB BB.size b rfl rfl rfl rfl
  have G := mv b rfl <| And.intro a0 <| And.intro a1 <| And.intro a2 <| And.intro a3 <| And.intro a4 <| And.intro a5 <| And.intro b0 <| And.intro b1 <| And.intro b2 <| And.intro b3 <| And.intro b4 <| And.intro b5 <| And.intro d0 <| And.intro d1 <| And.intro d2 <| And.intro hT <| And.intro h1 <| And.intro h2 <| And.intro h3 <| And.intro h4 <| h5
  clear b a0 a1 a2 a3 a4 a5 b0 b1 b2 b3 b4 b5 d0 d1 d2 hT h1 h2 h3 h4 h5
  obtain ⟨a0, a1, a2, a3, a4, a5, b0, b1, b2, b3, b4, b5, d0, d1, d2, hT, h1, h2, h3, h4, h5⟩ := G
  clear hf y1 y2 y3 y4 y5
  go_wp2_with fail
  refine (tellI_eq rfl HQ.out (ihull_ok hKK hT h1 h2 h3 h4 hm.1 hm.2.1)).mono ?_
  rintro en v1 ⟨A6, n6, c6, A7, n7, c7, rfl, h6, h7, b⟩
  replace BB := below_next BB BB.size b rfl rfl rfl rfl
  have G := mv b rfl <| And.intro a0 <| And.intro a1 <| And.intro a2 <| And.intro a3 <| And.intro a4 <| And.intro a5 <| And.intro b0 <| And.intro b1 <| And.intro b2 <| And.intro b3 <| And.intro b4 <| And.intro b5 <| And.intro d0 <| And.intro d1 <| And.intro d2 <| And.intro hT <| And.intro h1 <| And.intro h2 <| And.intro h3 <| And.intro h4 <| h5
  clear b a0 a1 a2 a3 a4 a5 b0 b1 b2 b3 b4 b5 d0 d1 d2 hT h1 h2 h3 h4 h5
  obtain ⟨a0, a1, a2, a3, a4, a5, b0, b1, b2, b3, b4, b5, d0, d1, d2, hT, h1, h2, h3, h4, h5⟩ := G
  obtain ⟨e0, e1, e2, e3, e4, e5⟩ := (Ibx.new v1 q.lo.s A6 n6 c6 q.lo.e q.hi.s A7 n7 c7 q.hi.e).held
  have b := below_alloc v1 (.cells #[.bool q.lo.s, .slice A6 n6 c6, .int .i64 q.lo.e, .bool q.hi.s, .slice A7 n7 c7, .int .i64 q.hi.e] 26)
  replace BB := below_next BB BB.size b rfl rfl rfl rfl
  have G := mv b rfl <| And.intro a0 <| And.intro a1 <| And.intro a2 <| And.intro a3 <| And.intro a4 <| And.intro a5 <| And.intro b0 <| And.intro b1 <| And.intro b2 <| And.intro b3 <| And.intro b4 <| And.intro b5 <| And.intro d0 <| And.intro d1 <| And.intro d2 <| And.intro hT <| And.intro h1 <| And.intro h2 <| And.intro h3 <| And.intro h4 <| And.intro h5 <| And.intro h6 <| h7
  clear b a0 a1 a2 a3 a4 a5 b0 b1 b2 b3 b4 b5 d0 d1 d2 hT h1 h2 h3 h4 h5 h6 h7
  obtain ⟨a0, a1, a2, a3, a4, a5, b0, b1, b2, b3, b4, b5, d0, d1, d2, hT, h1, h2, h3, h4, h5, h6, h7⟩ := G
  go_wp2_with fail
  refine (tellI_eq rfl HM9.out (imeet_none hKK hT h1 h2 h3 h4 hm.1 hm.2.1 HMT.out)).mono ?_
  rintro en v2 ⟨A8, n8, c8, A9, n9, c9, rfl, h8, h9, b⟩
  replace BB := below_next BB BB.size b rfl rfl rfl rfl
  have G := mv b rfl <| And.intro a0 <| And.intro a1 <| And.intro a2 <| And.intro a3 <| And.intro a4 <| And.intro a5 <| And.intro b0 <| And.intro b1 <| And.intro b2 <| And.intro b3 <| And.intro b4 <| And.intro b5 <| And.intro d0 <| And.intro d1 <| And.intro d2 <| And.intro hT <| And.intro h1 <| And.intro h2 <| And.intro h3 <| And.intro h4 <| And.intro h5 <| And.intro h6 <| And.intro h7 <| And.intro e0 <| And.intro e1 <| And.intro e2 <| And.intro e3 <| And.intro e4 <| e5
  clear b a0 a1 a2 a3 a4 a5 b0 b1 b2 b3 b4 b5 d0 d1 d2 hT h1 h2 h3 h4 h5 h6 h7 e0 e1 e2 e3 e4 e5
  obtain ⟨a0, a1, a2, a3, a4, a5, b0, b1, b2, b3, b4, b5, d0, d1, d2, hT, h1, h2, h3, h4, h5, h6, h7, e0, e1, e2, e3, e4, e5⟩ := G
  obtain ⟨g0, g1, g2, g3, g4, g5⟩ := (Ibx.new v2 m.lo.s A8 n8 c8 m.lo.e m.hi.s A9 n9 c9 m.hi.e).held
  have b := below_alloc v2 (.cells #[.bool m.lo.s, .slice A8 n8 c8, .int .i64 m.lo.e, .bool m.hi.s, .slice A9 n9 c9, .int .i64 m.hi.e] 26)
  replace BB := below_next BB BB.size b rfl rfl rfl rfl
  have G := mv b rfl <| And.intro a0 <| And.intro a1 <| And.intro a2 <| And.intro a3 <| And.intro a4 <| And.intro a5 <| And.intro b0 <| And.intro b1 <| And.intro b2 <| And.intro b3 <| And.intro b4 <| And.intro b5 <| And.intro d0 <| And.intro d1 <| And.intro d2 <| And.intro hT <| And.intro h1 <| And.intro h2 <| And.intro h3 <| And.intro h4 <| And.intro h5 <| And.intro h6 <| And.intro h7 <| And.intro e0 <| And.intro e1 <| And.intro e2 <| And.intro e3 <| And.intro e4 <| And.intro e5 <| And.intro h8 <| h9
  clear b a0 a1 a2 a3 a4 a5 b0 b1 b2 b3 b4 b5 d0 d1 d2 hT h1 h2 h3 h4 h5 h6 h7 e0 e1 e2 e3 e4 e5 h8 h9
  obtain ⟨a0, a1, a2, a3, a4, a5, b0, b1, b2, b3, b4, b5, d0, d1, d2, hT, h1, h2, h3, h4, h5, h6, h7, e0, e1, e2, e3, e4, e5, h8, h9⟩ := G
  go_upto_region 5 with fail
  go_cut [11] (fun v11 wc => v11 = .bool (p1 && p2) ∧ Below w.heap.size w wc ∧ Below (v2.alloc (.cells #[.bool m.lo.s, .slice A8 n8 c8, .int .i64 m.lo.e, .bool m.hi.s, .slice A9 n9 c9, .int .i64 m.hi.e] 26)).heap.size (v2.alloc (.cells #[.bool m.lo.s, .slice A8 n8 c8, .int .i64 m.lo.e, .bool m.hi.s, .slice A9 n9 c9, .int .i64 m.hi.e] 26)) wc)
  case first =>
    have BD := Below.refl (v2.alloc (.cells #[.bool m.lo.s, .slice A8 n8 c8, .int .i64 m.lo.e, .bool m.hi.s, .slice A9 n9 c9, .int .i64 m.hi.e] 26)).heap.size (v2.alloc (.cells #[.bool m.lo.s, .slice A8 n8 c8, .int .i64 m.lo.e, .bool m.hi.s, .slice A9 n9 c9, .int .i64 m.hi.e] 26))
    go_wp2_with fail
    refine (ihas_any (x := x) (d := d) hKK hT h1 h2 h5).mono ?_
    rintro en u1 ⟨rfl, b⟩
    rw [← H_1.out]
    replace BD := below_next BD BD.size b rfl rfl rfl rfl
    replace BB := below_next BB BB.size b rfl rfl rfl rfl
    have G := mv b rfl <| And.intro a0 <| And.intro a1 <| And.intro a2 <| And.intro a3 <| And.intro a4 <| And.intro a5 <| And.intro b0 <| And.intro b1 <| And.intro b2 <| And.intro b3 <| And.intro b4 <| And.intro b5 <| And.intro d0 <| And.intro d1 <| And.intro d2 <| And.intro hT <| And.intro h1 <| And.intro h2 <| And.intro h3 <| And.intro h4 <| And.intro h5 <| And.intro h6 <| And.intro h7 <| And.intro e0 <| And.intro e1 <| And.intro e2 <| And.intro e3 <| And.intro e4 <| And.intro e5 <| And.intro h8 <| And.intro h9 <| And.intro g0 <| And.intro g1 <| And.intro g2 <| And.intro g3 <| And.intro g4 <| g5
    clear b a0 a1 a2 a3 a4 a5 b0 b1 b2 b3 b4 b5 d0 d1 d2 hT h1 h2 h3 h4 h5 h6 h7 e0 e1 e2 e3 e4 e5 h8 h9 g0 g1 g2 g3 g4 g5
    obtain ⟨a0, a1, a2, a3, a4, a5, b0, b1, b2, b3, b4, b5, d0, d1, d2, hT, h1, h2, h3, h4, h5, h6, h7, e0, e1, e2, e3, e4, e5, h8, h9, g0, g1, g2, g3, g4, g5⟩ := G
    cases p1
    · go_wp2_with fail
      go_meet
      case rel => exact ⟨rfl, BB, BD⟩
    go_wp2_with fail
    refine (ihas_any (x := y) (d := d) hKK hT h3 h4 h5).mono ?_
    rintro en u2 ⟨rfl, b⟩
    rw [← H_2.out]
    replace BD := below_next BD BD.size b rfl rfl rfl rfl
    replace BB := below_next BB BB.size b rfl rfl rfl rfl
    have G := mv b rfl <| And.intro a0 <| And.intro a1 <| And.intro a2 <| And.intro a3 <| And.intro a4 <| And.intro a5 <| And.intro b0 <| And.intro b1 <| And.intro b2 <| And.intro b3 <| And.intro b4 <| And.intro b5 <| And.intro d0 <| And.intro d1 <| And.intro d2 <| And.intro hT <| And.intro h1 <| And.intro h2 <| And.intro h3 <| And.intro h4 <| And.intro h5 <| And.intro h6 <| And.intro h7 <| And.intro e0 <| And.intro e1 <| And.intro e2 <| And.intro e3 <| And.intro e4 <| And.intro e5 <| And.intro h8 <| And.intro h9 <| And.intro g0 <| And.intro g1 <| And.intro g2 <| And.intro g3 <| And.intro g4 <| g5
    clear b a0 a1 a2 a3 a4 a5 b0 b1 b2 b3 b4 b5 d0 d1 d2 hT h1 h2 h3 h4 h5 h6 h7 e0 e1 e2 e3 e4 e5 h8 h9 g0 g1 g2 g3 g4 g5
    obtain ⟨a0, a1, a2, a3, a4, a5, b0, b1, b2, b3, b4, b5, d0, d1, d2, hT, h1, h2, h3, h4, h5, h6, h7, e0, e1, e2, e3, e4, e5, h8, h9, g0, g1, g2, g3, g4, g5⟩ := G
    cases p2
    · go_wp2_with fail
      go_meet
      case rel => exact ⟨rfl, BB, BD⟩
    · go_wp2_with fail
      go_meet
      case rel => exact ⟨rfl, BB, BD⟩
  case rest =>
    obtain ⟨rfl, BB2, b⟩ := hcut
    clear BB
    have G := mv b rfl <| And.intro a0 <| And.intro a1 <| And.intro a2 <| And.intro a3 <| And.intro a4 <| And.intro a5 <| And.intro b0 <| And.intro b1 <| And.intro b2 <| And.intro b3 <| And.intro b4 <| And.intro b5 <| And.intro d0 <| And.intro d1 <| And.intro d2 <| And.intro hT <| And.intro h1 <| And.intro h2 <| And.intro h3 <| And.intro h4 <| And.intro h5 <| And.intro h6 <| And.intro h7 <| And.intro e0 <| And.intro e1 <| And.intro e2 <| And.intro e3 <| And.intro e4 <| And.intro e5 <| h8
    clear a0 a1 a2 a3 a4 a5 b0 b1 b2 b3 b4 b5 d0 d1 d2 hT h1 h2 h3 h4 h5 h6 h7 e0 e1 e2 e3 e4 e5 h8
    obtain ⟨a0, a1, a2, a3, a4, a5, b0, b1, b2, b3, b4, b5, d0, d1, d2, hT, h1, h2, h3, h4, h5, h6, h7, e0, e1, e2, e3, e4, e5, h8⟩ := G
    have G := mv b rfl <| And.intro h9 <| And.intro g0 <| And.intro g1 <| And.intro g2 <| And.intro g3 <| And.intro g4 <| g5
    clear h9 g0 g1 g2 g3 g4 g5
    obtain ⟨h9, g0, g1, g2, g3, g4, g5⟩ := G
    clear b
    have BB := BB2
    clear BB2
    obtain ⟨pb, hpb⟩ : ∃ p, p = (p1 && p2) := ⟨_, rfl⟩
    rw [← hpb]
    have HPB := Lib.hid hpb
    clear hpb
    go_wp2_with fail
    refine (iwithin_any (x := x) (y := q) hKK hT h1 h2 h6 h7).mono ?_
    rintro en t1 ⟨rfl, b⟩
    rw [F1.out.1]
    replace BB := below_next BB BB.size b rfl rfl rfl rfl
    have G := mv b rfl <| And.intro a0 <| And.intro a1 <| And.intro a2 <| And.intro a3 <| And.intro a4 <| And.intro a5 <| And.intro b0 <| And.intro b1 <| And.intro b2 <| And.intro b3 <| And.intro b4 <| And.intro b5 <| And.intro d0 <| And.intro d1 <| And.intro d2 <| And.intro hT <| And.intro h1 <| And.intro h2 <| And.intro h3 <| And.intro h4 <| And.intro h5 <| And.intro h6 <| And.intro h7 <| And.intro e0 <| And.intro e1 <| And.intro e2 <| And.intro e3 <| And.intro e4 <| And.intro e5 <| And.intro h8 <| And.intro h9 <| And.intro g0 <| And.intro g1 <| And.intro g2 <| And.intro g3 <| And.intro g4 <| g5
    clear b a0 a1 a2 a3 a4 a5 b0 b1 b2 b3 b4 b5 d0 d1 d2 hT h1 h2 h3 h4 h5 h6 h7 e0 e1 e2 e3 e4 e5 h8 h9 g0 g1 g2 g3 g4 g5
    obtain ⟨a0, a1, a2, a3, a4, a5, b0, b1, b2, b3, b4, b5, d0, d1, d2, hT, h1, h2, h3, h4, h5, h6, h7, e0, e1, e2, e3, e4, e5, h8, h9, g0, g1, g2, g3, g4, g5⟩ := G
    go_wp2_with fail
    refine (iwithin_any (x := y) (y := q) hKK hT h3 h4 h6 h7).mono ?_
    rintro en t2 ⟨rfl, b⟩
    rw [F1.out.2]
    replace BB := below_next BB BB.size b rfl rfl rfl rfl
    have G := mv b rfl <| And.intro a0 <| And.intro a1 <| And.intro a2 <| And.intro a3 <| And.intro a4 <| And.intro a5 <| And.intro b0 <| And.intro b1 <| And.intro b2 <| And.intro b3 <| And.intro b4 <| And.intro b5 <| And.intro d0 <| And.intro d1 <| And.intro d2 <| And.intro hT <| And.intro h1 <| And.intro h2 <| And.intro h3 <| And.intro h4 <| And.intro h5 <| And.intro h6 <| And.intro h7 <| And.intro e0 <| And.intro e1 <| And.intro e2 <| And.intro e3 <| And.intro e4 <| And.intro e5 <| And.intro h8 <| And.intro h9 <| And.intro g0 <| And.intro g1 <| And.intro g2 <| And.intro g3 <| And.intro g4 <| g5
    clear b a0 a1 a2 a3 a4 a5 b0 b1 b2 b3 b4 b5 d0 d1 d2 hT h1 h2 h3 h4 h5 h6 h7 e0 e1 e2 e3 e4 e5 h8 h9 g0 g1 g2 g3 g4 g5
    obtain ⟨a0, a1, a2, a3, a4, a5, b0, b1, b2, b3, b4, b5, d0, d1, d2, hT, h1, h2, h3, h4, h5, h6, h7, e0, e1, e2, e3, e4, e5, h8, h9, g0, g1, g2, g3, g4, g5⟩ := G
    obtain rfl : pb = false := HPB.out.trans F2.out
    go_wp2_with fail
    refine (iinside_any (x := x) (y := y) hKK hT h1 h2 h3 h4).mono ?_
    rintro en t4 ⟨rfl, b⟩
    rw [← H_i.out]
    replace BB := below_next BB BB.size b rfl rfl rfl rfl
    have G := mv b rfl <| And.intro a0 <| And.intro a1 <| And.intro a2 <| And.intro a3 <| And.intro a4 <| And.intro a5 <| And.intro b0 <| And.intro b1 <| And.intro b2 <| And.intro b3 <| And.intro b4 <| And.intro b5 <| And.intro d0 <| And.intro d1 <| And.intro d2 <| And.intro hT <| And.intro h1 <| And.intro h2 <| And.intro h3 <| And.intro h4 <| And.intro h5 <| And.intro h6 <| And.intro h7 <| And.intro e0 <| And.intro e1 <| And.intro e2 <| And.intro e3 <| And.intro e4 <| And.intro e5 <| And.intro h8 <| And.intro h9 <| And.intro g0 <| And.intro g1 <| And.intro g2 <| And.intro g3 <| And.intro g4 <| g5
    clear b a0 a1 a2 a3 a4 a5 b0 b1 b2 b3 b4 b5 d0 d1 d2 hT h1 h2 h3 h4 h5 h6 h7 e0 e1 e2 e3 e4 e5 h8 h9 g0 g1 g2 g3 g4 g5
    obtain ⟨a0, a1, a2, a3, a4, a5, b0, b1, b2, b3, b4, b5, d0, d1, d2, hT, h1, h2, h3, h4, h5, h6, h7, e0, e1, e2, e3, e4, e5, h8, h9, g0, g1, g2, g3, g4, g5⟩ := G
    cases pi
    · go_wp2_with fail
      refine (told5_any hT).mono ?_
      rintro en t8 ⟨rfl, b⟩
      replace BB := below_next BB BB.size b rfl rfl rfl rfl
      have G := mv b rfl <| And.intro a0 <| And.intro a1 <| And.intro a2 <| And.intro a3 <| And.intro a4 <| And.intro a5 <| And.intro b0 <| And.intro b1 <| And.intro b2 <| And.intro b3 <| And.intro b4 <| And.intro b5 <| And.intro d0 <| And.intro d1 <| And.intro d2 <| And.intro hT <| And.intro h1 <| And.intro h2 <| And.intro h3 <| And.intro h4 <| And.intro h5 <| And.intro h6 <| And.intro h7 <| And.intro e0 <| And.intro e1 <| And.intro e2 <| And.intro e3 <| And.intro e4 <| And.intro e5 <| And.intro h8 <| And.intro h9 <| And.intro g0 <| And.intro g1 <| And.intro g2 <| And.intro g3 <| And.intro g4 <| g5
      clear b a0 a1 a2 a3 a4 a5 b0 b1 b2 b3 b4 b5 d0 d1 d2 hT h1 h2 h3 h4 h5 h6 h7 e0 e1 e2 e3 e4 e5 h8 h9 g0 g1 g2 g3 g4 g5
      obtain ⟨a0, a1, a2, a3, a4, a5, b0, b1, b2, b3, b4, b5, d0, d1, d2, hT, h1, h2, h3, h4, h5, h6, h7, e0, e1, e2, e3, e4, e5, h8, h9, g0, g1, g2, g3, g4, g5⟩ := G
      go_wp2_with fail
      refine (iwithin_any (x := x) (y := x) hKK hT h1 h2 h1 h2).mono ?_
      rintro en t9 ⟨rfl, b⟩
      rw [F5.out.1]
      replace BB := below_next BB BB.size b rfl rfl rfl rfl
      have G := mv b rfl <| And.intro a0 <| And.intro a1 <| And.intro a2 <| And.intro a3 <| And.intro a4 <| And.intro a5 <| And.intro b0 <| And.intro b1 <| And.intro b2 <| And.intro b3 <| And.intro b4 <| And.intro b5 <| And.intro d0 <| And.intro d1 <| And.intro d2 <| And.intro hT <| And.intro h1 <| And.intro h2 <| And.intro h3 <| And.intro h4 <| And.intro h5 <| And.intro h6 <| And.intro h7 <| And.intro e0 <| And.intro e1 <| And.intro e2 <| And.intro e3 <| And.intro e4 <| And.intro e5 <| And.intro h8 <| And.intro h9 <| And.intro g0 <| And.intro g1 <| And.intro g2 <| And.intro g3 <| And.intro g4 <| g5
      clear b a0 a1 a2 a3 a4 a5 b0 b1 b2 b3 b4 b5 d0 d1 d2 hT h1 h2 h3 h4 h5 h6 h7 e0 e1 e2 e3 e4 e5 h8 h9 g0 g1 g2 g3 g4 g5
      obtain ⟨a0, a1, a2, a3, a4, a5, b0, b1, b2, b3, b4, b5, d0, d1, d2, hT, h1, h2, h3, h4, h5, h6, h7, e0, e1, e2, e3, e4, e5, h8, h9, g0, g1, g2, g3, g4, g5⟩ := G
      go_wp2_with fail
      refine (iinside_any (x := x) (y := x) hKK hT h1 h2 h1 h2).mono ?_
      rintro en t10 ⟨rfl, b⟩
      rw [F5.out.2]
      replace BB := below_next BB BB.size b rfl rfl rfl rfl
      have G := mv b rfl <| And.intro a0 <| And.intro a1 <| And.intro a2 <| And.intro a3 <| And.intro a4 <| And.intro a5 <| And.intro b0 <| And.intro b1 <| And.intro b2 <| And.intro b3 <| And.intro b4 <| And.intro b5 <| And.intro d0 <| And.intro d1 <| And.intro d2 <| And.intro hT <| And.intro h1 <| And.intro h2 <| And.intro h3 <| And.intro h4 <| And.intro h5 <| And.intro h6 <| And.intro h7 <| And.intro e0 <| And.intro e1 <| And.intro e2 <| And.intro e3 <| And.intro e4 <| And.intro e5 <| And.intro h8 <| And.intro h9 <| And.intro g0 <| And.intro g1 <| And.intro g2 <| And.intro g3 <| And.intro g4 <| g5
      clear b a0 a1 a2 a3 a4 a5 b0 b1 b2 b3 b4 b5 d0 d1 d2 hT h1 h2 h3 h4 h5 h6 h7 e0 e1 e2 e3 e4 e5 h8 h9 g0 g1 g2 g3 g4 g5
      obtain ⟨a0, a1, a2, a3, a4, a5, b0, b1, b2, b3, b4, b5, d0, d1, d2, hT, h1, h2, h3, h4, h5, h6, h7, e0, e1, e2, e3, e4, e5, h8, h9, g0, g1, g2, g3, g4, g5⟩ := G
      go_wp2_with fail
      refine (iwithin_any (x := x) (y := y) hKK hT h1 h2 h3 h4).mono ?_
      rintro en t11 ⟨rfl, b⟩
      rw [← H_w.out]
      replace BB := below_next BB BB.size b rfl rfl rfl rfl
      have G := mv b rfl <| And.intro a0 <| And.intro a1 <| And.intro a2 <| And.intro a3 <| And.intro a4 <| And.intro a5 <| And.intro b0 <| And.intro b1 <| And.intro b2 <| And.intro b3 <| And.intro b4 <| And.intro b5 <| And.intro d0 <| And.intro d1 <| And.intro d2 <| And.intro hT <| And.intro h1 <| And.intro h2 <| And.intro h3 <| And.intro h4 <| And.intro h5 <| And.intro h6 <| And.intro h7 <| And.intro e0 <| And.intro e1 <| And.intro e2 <| And.intro e3 <| And.intro e4 <| And.intro e5 <| And.intro h8 <| And.intro h9 <| And.intro g0 <| And.intro g1 <| And.intro g2 <| And.intro g3 <| And.intro g4 <| g5
      clear b a0 a1 a2 a3 a4 a5 b0 b1 b2 b3 b4 b5 d0 d1 d2 hT h1 h2 h3 h4 h5 h6 h7 e0 e1 e2 e3 e4 e5 h8 h9 g0 g1 g2 g3 g4 g5
      obtain ⟨a0, a1, a2, a3, a4, a5, b0, b1, b2, b3, b4, b5, d0, d1, d2, hT, h1, h2, h3, h4, h5, h6, h7, e0, e1, e2, e3, e4, e5, h8, h9, g0, g1, g2, g3, g4, g5⟩ := G
      obtain rfl : pw = false := F4.out
      go_wp2
      go_ret
      exact ⟨by first | rfl | simp, BB⟩
    · have e1 := (F3.out (by first | rfl | trivial)).1
      rw [F4.out] at e1
      cases e1

theorem isets_any {w : World} {x y : Iv} {d : Rw} {A1 : Option Addr} {n1 c1 : Nat} {A2 : Option Addr} {n2 c2 : Nat} {A3 : Option Addr} {n3 c3 : Nat} {A4 : Option Addr} {n4 c4 : Nat} {A5 : Option Addr} {n5 c5 : Nat} (hT : Tab w) (h1 : Rd w .u64 Go.Proofs.YtijflbnfikiaaaaDoor.W A1 n1 c1 x.lo.l) (h2 : Rd w .u64 Go.Proofs.YtijflbnfikiaaaaDoor.W A2 n2 c2 x.hi.l) (h3 : Rd w .u64 Go.Proofs.YtijflbnfikiaaaaDoor.W A3 n3 c3 y.lo.l) (h4 : Rd w .u64 Go.Proofs.YtijflbnfikiaaaaDoor.W A4 n4 c4 y.hi.l) (h5 : Rd w .u64 Go.Proofs.YtijflbnfikiaaaaDoor.W A5 n5 c5 d.l) :
    Calls Tryd.prog 3 #[.agg #[.bool x.lo.s, .slice A1 n1 c1, .int .i64 x.lo.e, .bool x.hi.s, .slice A2 n2 c2, .int .i64 x.hi.e], .agg #[.bool y.lo.s, .slice A3 n3 c3, .int .i64 y.lo.e, .bool y.hi.s, .slice A4 n4 c4, .int .i64 y.hi.e], .agg #[.bool d.s, .slice A5 n5 c5, .int .i64 d.e]] w fun en w' => ToldEnd w en w' := by
  obtain ⟨KK, hKK⟩ := scale_has
  by_cases hf : ((decide (n1 ≤ 70) && decide (n2 ≤ 70)) = true ∧ (decide (n3 ≤ 70) && decide (n4 ≤ 70)) = true ∧ n5 ≤ 70) ∧ mayI KK x = true ∧ mayI KK y = true ∧ d.may = true
  · cases hm : mayI KK (meetQ KK x y)
    · exact isets_none hT h1 h2 h3 h4 h5 hKK hf.1 hf.2 hm
    · exact isets_meet hT h1 h2 h3 h4 h5 hKK hf.1 hf.2 hm
  · exact isets_no hT h1 h2 h3 h4 h5 hKK hf

end Go.Proofs.YtijflbnfikiaaaaDoor
