/-
  Contract of the statement IvalAsks's function at this translation: it returns true, whatever its arguments. Condition: the slices read as limbs, the table of math/bits reads as its text lays it.
-/
import Derived.Test.YtijflbnfikiaaaaGreatDoorIo
import Derived.Test.YtijflbnfikiaaaaGreatDoorIp
import Derived.Test.YtijflbnfikiaaaaGreatDoorIm
namespace Go.Proofs.YtijflbnfikiaaaaGreatDoor
open Go.RowKit

set_option maxRecDepth 100000 in
set_option maxHeartbeats 8000000 in
theorem iasks_no {w : World} {x y : Iv} {d : Rw} {A1 : Option Addr} {n1 c1 : Nat} {A2 : Option Addr} {n2 c2 : Nat} {A3 : Option Addr} {n3 c3 : Nat} {A4 : Option Addr} {n4 c4 : Nat} {A5 : Option Addr} {n5 c5 : Nat} (hT : Tab w) (h1 : Rd w .u64 Go.Proofs.YtijflbnfikiaaaaGreatDoor.W A1 n1 c1 x.lo.l) (h2 : Rd w .u64 Go.Proofs.YtijflbnfikiaaaaGreatDoor.W A2 n2 c2 x.hi.l) (h3 : Rd w .u64 Go.Proofs.YtijflbnfikiaaaaGreatDoor.W A3 n3 c3 y.lo.l) (h4 : Rd w .u64 Go.Proofs.YtijflbnfikiaaaaGreatDoor.W A4 n4 c4 y.hi.l) (h5 : Rd w .u64 Go.Proofs.YtijflbnfikiaaaaGreatDoor.W A5 n5 c5 d.l) (hf : ¬ ((decide (n1 ≤ 70) && decide (n2 ≤ 70)) = true ∧ (decide (n3 ≤ 70) && decide (n4 ≤ 70)) = true ∧ n5 ≤ 70)) :
    Calls Tryz.prog 3 #[.agg #[.bool x.lo.s, .slice A1 n1 c1, .int .i64 x.lo.e, .bool x.hi.s, .slice A2 n2 c2, .int .i64 x.hi.e], .agg #[.bool y.lo.s, .slice A3 n3 c3, .int .i64 y.lo.e, .bool y.hi.s, .slice A4 n4 c4, .int .i64 y.hi.e], .agg #[.bool d.s, .slice A5 n5 c5, .int .i64 d.e]] w fun en w' => ToldEnd w en w' := by
  have y1 : n1 ≤ 9223372036854775807 := Nat.le_trans h1.cap h1.max
  have y2 : n2 ≤ 9223372036854775807 := Nat.le_trans h2.cap h2.max
  have y3 : n3 ≤ 9223372036854775807 := Nat.le_trans h3.cap h3.max
  have y4 : n4 ≤ 9223372036854775807 := Nat.le_trans h4.cap h4.max
  have y5 : n5 ≤ 9223372036854775807 := Nat.le_trans h5.cap h5.max
  have BB := three_below w (.cells #[.bool x.lo.s, .slice A1 n1 c1, .int .i64 x.lo.e, .bool x.hi.s, .slice A2 n2 c2, .int .i64 x.hi.e] 26) (.cells #[.bool y.lo.s, .slice A3 n3 c3, .int .i64 y.lo.e, .bool y.hi.s, .slice A4 n4 c4, .int .i64 y.hi.e] 26) (.cells #[.bool d.s, .slice A5 n5 c5, .int .i64 d.e] 24)
  obtain ⟨_, xa, xb⟩ := two_ivl w (x := x) (y := y) (A1 := A1) (n1 := n1) (c1 := c1) (A2 := A2) (n2 := n2) (c2 := c2) (A3 := A3) (n3 := n3) (c3 := c3) (A4 := A4) (n4 := n4) (c4 := c4) 
  replace xa := xa.alloc (.cells #[.bool d.s, .slice A5 n5 c5, .int .i64 d.e] 24)
  replace xb := xb.alloc (.cells #[.bool d.s, .slice A5 n5 c5, .int .i64 d.e] 24)
  have xd := box_two w (.cells #[.bool x.lo.s, .slice A1 n1 c1, .int .i64 x.lo.e, .bool x.hi.s, .slice A2 n2 c2, .int .i64 x.hi.e] 26) (.cells #[.bool y.lo.s, .slice A3 n3 c3, .int .i64 y.lo.e, .bool y.hi.s, .slice A4 n4 c4, .int .i64 y.hi.e] 26) d.s A5 n5 c5 d.e
  obtain ⟨a0, a1, a2, a3, a4, a5⟩ := xa.held
  obtain ⟨b0, b1, b2, b3, b4, b5⟩ := xb.held
  obtain ⟨d0, d1, d2⟩ := xd.held
  clear xa xb xd
  have G := mv BB rfl <| And.intro hT <| And.intro h1 <| And.intro h2 <| And.intro h3 <| And.intro h4 <| h5
  clear hT h1 h2 h3 h4 h5
  obtain ⟨hT, h1, h2, h3, h4, h5⟩ := G
  have HF := Lib.hid hf
  clear hf
  go_enter Tryz.func3, Tryz.ntmps3
  go_wp2_with fail
  refine (few5_any (x := x) y1 y2).mono ?_
  rintro en w1 ⟨rfl, b⟩
  replace BB := below_next BB BB.size b rfl rfl rfl rfl
  have G := mv b rfl <| And.intro a0 <| And.intro a1 <| And.intro a2 <| And.intro a3 <| And.intro a4 <| And.intro a5 <| And.intro b0 <| And.intro b1 <| And.intro b2 <| And.intro b3 <| And.intro b4 <| And.intro b5 <| And.intro d0 <| And.intro d1 <| And.intro d2 <| And.intro hT <| And.intro h1 <| And.intro h2 <| And.intro h3 <| And.intro h4 <| h5
  clear b a0 a1 a2 a3 a4 a5 b0 b1 b2 b3 b4 b5 d0 d1 d2 hT h1 h2 h3 h4 h5
  obtain ⟨a0, a1, a2, a3, a4, a5, b0, b1, b2, b3, b4, b5, d0, d1, d2, hT, h1, h2, h3, h4, h5⟩ := G
  cases q1 : (decide (n1 ≤ 70) && decide (n2 ≤ 70))
  · clear q1 HF
    go_wp2_with fail
    refine (told5_any hT).mono ?_
    rintro en w99 ⟨rfl, b⟩
    replace BB := below_next BB BB.size b rfl rfl rfl rfl
    clear b
    go_wp2
    go_ret
    exact ⟨by first | rfl | simp, BB⟩
  go_wp2_with fail
  refine (few5_any (x := y) y3 y4).mono ?_
  rintro en w2 ⟨rfl, b⟩
  replace BB := below_next BB BB.size b rfl rfl rfl rfl
  have G := mv b rfl <| And.intro a0 <| And.intro a1 <| And.intro a2 <| And.intro a3 <| And.intro a4 <| And.intro a5 <| And.intro b0 <| And.intro b1 <| And.intro b2 <| And.intro b3 <| And.intro b4 <| And.intro b5 <| And.intro d0 <| And.intro d1 <| And.intro d2 <| And.intro hT <| And.intro h1 <| And.intro h2 <| And.intro h3 <| And.intro h4 <| h5
  clear b a0 a1 a2 a3 a4 a5 b0 b1 b2 b3 b4 b5 d0 d1 d2 hT h1 h2 h3 h4 h5
  obtain ⟨a0, a1, a2, a3, a4, a5, b0, b1, b2, b3, b4, b5, d0, d1, d2, hT, h1, h2, h3, h4, h5⟩ := G
  cases q2 : (decide (n3 ≤ 70) && decide (n4 ≤ 70))
  · clear q1 q2 HF
    go_wp2_with fail
    refine (told5_any hT).mono ?_
    rintro en w99 ⟨rfl, b⟩
    replace BB := below_next BB BB.size b rfl rfl rfl rfl
    clear b
    go_wp2
    go_ret
    exact ⟨by first | rfl | simp, BB⟩
  go_wp2_with fail
  refine (dfew_any (s := d.s) (e := d.e) y5).mono ?_
  rintro en w3 ⟨rfl, b⟩
  rw [decide_eq_false (fun h5 => HF.out ⟨q1, q2, h5⟩)]
  clear q1 q2 HF
  replace BB := below_next BB BB.size b rfl rfl rfl rfl
  have G := mv b rfl <| And.intro a0 <| And.intro a1 <| And.intro a2 <| And.intro a3 <| And.intro a4 <| And.intro a5 <| And.intro b0 <| And.intro b1 <| And.intro b2 <| And.intro b3 <| And.intro b4 <| And.intro b5 <| And.intro d0 <| And.intro d1 <| And.intro d2 <| And.intro hT <| And.intro h1 <| And.intro h2 <| And.intro h3 <| And.intro h4 <| h5
  clear b a0 a1 a2 a3 a4 a5 b0 b1 b2 b3 b4 b5 d0 d1 d2 hT h1 h2 h3 h4 h5
  obtain ⟨a0, a1, a2, a3, a4, a5, b0, b1, b2, b3, b4, b5, d0, d1, d2, hT, h1, h2, h3, h4, h5⟩ := G
  go_wp2_with fail
  refine (told5_any hT).mono ?_
  rintro en w99 ⟨rfl, b⟩
  replace BB := below_next BB BB.size b rfl rfl rfl rfl
  clear b
  go_wp2
  go_ret
  exact ⟨by first | rfl | simp, BB⟩

theorem iasks_any {w : World} {x y : Iv} {d : Rw} {A1 : Option Addr} {n1 c1 : Nat} {A2 : Option Addr} {n2 c2 : Nat} {A3 : Option Addr} {n3 c3 : Nat} {A4 : Option Addr} {n4 c4 : Nat} {A5 : Option Addr} {n5 c5 : Nat} (hT : Tab w) (h1 : Rd w .u64 Go.Proofs.YtijflbnfikiaaaaGreatDoor.W A1 n1 c1 x.lo.l) (h2 : Rd w .u64 Go.Proofs.YtijflbnfikiaaaaGreatDoor.W A2 n2 c2 x.hi.l) (h3 : Rd w .u64 Go.Proofs.YtijflbnfikiaaaaGreatDoor.W A3 n3 c3 y.lo.l) (h4 : Rd w .u64 Go.Proofs.YtijflbnfikiaaaaGreatDoor.W A4 n4 c4 y.hi.l) (h5 : Rd w .u64 Go.Proofs.YtijflbnfikiaaaaGreatDoor.W A5 n5 c5 d.l) :
    Calls Tryz.prog 3 #[.agg #[.bool x.lo.s, .slice A1 n1 c1, .int .i64 x.lo.e, .bool x.hi.s, .slice A2 n2 c2, .int .i64 x.hi.e], .agg #[.bool y.lo.s, .slice A3 n3 c3, .int .i64 y.lo.e, .bool y.hi.s, .slice A4 n4 c4, .int .i64 y.hi.e], .agg #[.bool d.s, .slice A5 n5 c5, .int .i64 d.e]] w fun en w' => ToldEnd w en w' := by
  by_cases hf : ((decide (n1 ≤ 70) && decide (n2 ≤ 70)) = true ∧ (decide (n3 ≤ 70) && decide (n4 ≤ 70)) = true ∧ n5 ≤ 70)
  · obtain ⟨KK, hKK⟩ := scale_has
    cases hm : mayI KK ⟨x.lo, y.hi⟩
    · exact iasks_not hT h1 h2 h3 h4 h5 hKK hf hm
    · exact iasks_may hT h1 h2 h3 h4 h5 hKK hf hm
  · exact iasks_no hT h1 h2 h3 h4 h5 hf

end Go.Proofs.YtijflbnfikiaaaaGreatDoor
