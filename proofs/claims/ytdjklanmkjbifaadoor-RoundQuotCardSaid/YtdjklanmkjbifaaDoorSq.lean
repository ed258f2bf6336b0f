/-
  Contract of the statement RoundQuot's function at this translation: it returns true, whatever its arguments. Condition: the slices read as limbs, the table of math/bits reads as its text lays it.
-/
import Derived.Test.YtdjklanmkjbifaaDoorRr
import Derived.Test.YtdjklanmkjbifaaDoorRt
namespace Go.Proofs.YtdjklanmkjbifaaDoor
open Go.RowKit

set_option maxRecDepth 100000 in
set_option maxHeartbeats 8000000 in
theorem rquots_any {w : World} {A1 : Option Addr} {n1 c1 : Nat} {l1 : List Nat} {s1 : Bool} {e1 : Int} {A2 : Option Addr} {n2 c2 : Nat} {l2 : List Nat} {s2 : Bool} {e2 : Int} {p : Int} {up : Bool} (hT : Tab w) (h1 : Rd w .u64 Go.Proofs.YtdjklanmkjbifaaDoor.W A1 n1 c1 l1) (h2 : Rd w .u64 Go.Proofs.YtdjklanmkjbifaaDoor.W A2 n2 c2 l2) :
    Calls Tryd.prog 4 #[.agg #[.bool s1, .slice A1 n1 c1, .int .i64 e1], .agg #[.bool s2, .slice A2 n2 c2, .int .i64 e2], .int .i64 p, .bool up] w fun en w' => ToldEnd w en w' := by
  have x1 : n1 ≤ 9223372036854775807 := Nat.le_trans h1.cap h1.max
  have x2 : n2 ≤ 9223372036854775807 := Nat.le_trans h2.cap h2.max
  have BB := two_below w (.cells #[.bool s1, .slice A1 n1 c1, .int .i64 e1] 24) (.cells #[.bool s2, .slice A2 n2 c2, .int .i64 e2] 24)
  obtain ⟨a10, a11, a12, a20, a21, a22⟩ := (two_new w s1 s2 A1 A2 n1 c1 n2 c2 e1 e2).held
  have G := mv BB rfl <| And.intro hT <| And.intro h1 <| h2
  clear hT h1 h2
  obtain ⟨hT, h1, h2⟩ := G
  by_cases q1 : n1 ≤ 12
  rotate_left
  · have g1 : decide ((12 : Int) < (n1 : Int)) = true := decide_eq_true (by omega)
    clear q1
    go_enter Tryd.func4, Tryd.ntmps4
    go_wp2_with fail
    refine (rtold_any hT).mono ?_
    rintro en w99 ⟨rfl, b⟩
    replace BB := below_next BB BB.size b rfl rfl rfl rfl
    clear b
    go_wp2
    go_ret
    exact ⟨by first | rfl | simp, BB⟩
  have g1 : decide ((12 : Int) < (n1 : Int)) = false := decide_eq_false (by omega)
  by_cases q2 : n2 ≤ 12
  rotate_left
  · have g2 : decide ((12 : Int) < (n2 : Int)) = true := decide_eq_true (by omega)
    clear q1 q2
    go_enter Tryd.func4, Tryd.ntmps4
    go_wp2_with fail
    refine (rtold_any hT).mono ?_
    rintro en w99 ⟨rfl, b⟩
    replace BB := below_next BB BB.size b rfl rfl rfl rfl
    clear b
    go_wp2
    go_ret
    exact ⟨by first | rfl | simp, BB⟩
  have g2 : decide ((12 : Int) < (n2 : Int)) = false := decide_eq_false (by omega)
  by_cases q3 : 300 < p ∧ p ≤ 2000
  · have g3 : decide ((300 : Int) < p) = true := decide_eq_true q3.1
    have g4 : decide (p ≤ (2000 : Int)) = true := decide_eq_true q3.2
    clear q1 q2 q3
    go_enter Tryd.func4, Tryd.ntmps4
    go_wp2_with fail
    refine (rtold_any hT).mono ?_
    rintro en w99 ⟨rfl, b⟩
    replace BB := below_next BB BB.size b rfl rfl rfl rfl
    clear b
    go_wp2
    go_ret
    exact ⟨by first | rfl | simp, BB⟩
  have hpp : p ≤ 1000 ∨ 2000 < p := by omega
  have HPP := Lib.hid hpp
  rcases Int.lt_or_le 300 p with g | g
  · have g3 : decide ((300 : Int) < p) = true := decide_eq_true g
    have g4 : decide (p ≤ (2000 : Int)) = false := decide_eq_false (by omega)
    clear q1 q2 q3 hpp g
    go_enter Tryd.func4, Tryd.ntmps4
    go_wp2_with fail
    refine (dquot_raw (p := p) (up := up) hT h1 h2).mono ?_
    rintro en v3 ⟨k3, s3, A3, n3, c3, m3, e3, rfl, hp, N3, b⟩
    have P3 := Lib.hid hp
    clear hp
    replace BB := below_next BB BB.size b rfl rfl rfl rfl
    have G := mv b rfl <| And.intro a10 <| And.intro a11 <| And.intro a12 <| And.intro a20 <| And.intro a21 <| And.intro a22 <| And.intro hT <| And.intro h1 <| h2
    clear b a10 a11 a12 a20 a21 a22 hT h1 h2
    obtain ⟨a10, a11, a12, a20, a21, a22, hT, h1, h2⟩ := G
    obtain ⟨a30, a31, a32⟩ := (Box.new v3 s3 A3 n3 c3 e3).held
    have b := below_alloc v3 (.cells #[.bool s3, .slice A3 n3 c3, .int .i64 e3] 24)
    replace BB := below_next BB BB.size b rfl rfl rfl rfl
    have G := mv b rfl <| And.intro a10 <| And.intro a11 <| And.intro a12 <| And.intro a20 <| And.intro a21 <| And.intro a22 <| And.intro hT <| And.intro h1 <| And.intro h2 <| N3
    clear b a10 a11 a12 a20 a21 a22 hT h1 h2 N3
    obtain ⟨a10, a11, a12, a20, a21, a22, hT, h1, h2, N3⟩ := G
    go_wp2_with fail
    refine (rquotd_raw (p := p) (up := up) h1 h2 HPP.out).mono ?_
    rintro en v4 ⟨k4, s4, A4, n4, c4, m4, e4, rfl, hp', N4, b⟩
    obtain ⟨z0, z1, z2, z3⟩ := quotR_fun P3.out hp'
    obtain rfl := z0
    obtain rfl := z1
    obtain rfl := z2
    obtain rfl := z3
    clear hp'
    clear h1 h2
    replace BB := below_next BB BB.size b rfl rfl rfl rfl
    have G := mv b rfl <| And.intro a10 <| And.intro a11 <| And.intro a12 <| And.intro a20 <| And.intro a21 <| And.intro a22 <| And.intro hT <| And.intro N3 <| And.intro a30 <| And.intro a31 <| a32
    clear b a10 a11 a12 a20 a21 a22 hT N3 a30 a31 a32
    obtain ⟨a10, a11, a12, a20, a21, a22, hT, N3, a30, a31, a32⟩ := G
    obtain ⟨a40, a41, a42⟩ := (Box.new v4 s3 A4 n4 c4 e3).held
    have b := below_alloc v4 (.cells #[.bool s3, .slice A4 n4 c4, .int .i64 e3] 24)
    replace BB := below_next BB BB.size b rfl rfl rfl rfl
    have G := mv b rfl <| And.intro a10 <| And.intro a11 <| And.intro a12 <| And.intro a20 <| And.intro a21 <| And.intro a22 <| And.intro hT <| And.intro N3 <| And.intro a30 <| And.intro a31 <| And.intro a32 <| N4
    clear b a10 a11 a12 a20 a21 a22 hT N3 a30 a31 a32 N4
    obtain ⟨a10, a11, a12, a20, a21, a22, hT, N3, a30, a31, a32, N4⟩ := G
    go_wp2_with fail
    refine (rtold_any hT).mono ?_
    rintro en w3 ⟨rfl, b⟩
    replace BB := below_next BB BB.size b rfl rfl rfl rfl
    have G := mv b rfl <| And.intro a10 <| And.intro a11 <| And.intro a12 <| And.intro a20 <| And.intro a21 <| And.intro a22 <| And.intro hT <| And.intro N3 <| And.intro a30 <| And.intro a31 <| And.intro a32 <| And.intro N4 <| And.intro a40 <| And.intro a41 <| a42
    clear b a10 a11 a12 a20 a21 a22 hT N3 a30 a31 a32 N4 a40 a41 a42
    obtain ⟨a10, a11, a12, a20, a21, a22, hT, N3, a30, a31, a32, N4, a40, a41, a42⟩ := G
    go_wp2_with fail
    refine (same3_self (s := s3) (e := e3) (k := k3) N3 N4).mono ?_
    rintro en w4 ⟨rfl, b⟩
    clear N3 N4
    replace BB := below_next BB BB.size b rfl rfl rfl rfl
    have G := mv b rfl <| And.intro a10 <| And.intro a11 <| And.intro a12 <| And.intro a20 <| And.intro a21 <| And.intro a22 <| And.intro hT <| And.intro a30 <| And.intro a31 <| And.intro a32 <| And.intro a40 <| And.intro a41 <| a42
    clear b a10 a11 a12 a20 a21 a22 hT a30 a31 a32 a40 a41 a42
    obtain ⟨a10, a11, a12, a20, a21, a22, hT, a30, a31, a32, a40, a41, a42⟩ := G
    go_wp2
    go_ret
    exact ⟨by first | rfl | simp, BB⟩
  · have g3 : decide ((300 : Int) < p) = false := decide_eq_false (by omega)
    clear q1 q2 q3 hpp g
    go_enter Tryd.func4, Tryd.ntmps4
    go_wp2_with fail
    refine (dquot_raw (p := p) (up := up) hT h1 h2).mono ?_
    rintro en v3 ⟨k3, s3, A3, n3, c3, m3, e3, rfl, hp, N3, b⟩
    have P3 := Lib.hid hp
    clear hp
    replace BB := below_next BB BB.size b rfl rfl rfl rfl
    have G := mv b rfl <| And.intro a10 <| And.intro a11 <| And.intro a12 <| And.intro a20 <| And.intro a21 <| And.intro a22 <| And.intro hT <| And.intro h1 <| h2
    clear b a10 a11 a12 a20 a21 a22 hT h1 h2
    obtain ⟨a10, a11, a12, a20, a21, a22, hT, h1, h2⟩ := G
    obtain ⟨a30, a31, a32⟩ := (Box.new v3 s3 A3 n3 c3 e3).held
    have b := below_alloc v3 (.cells #[.bool s3, .slice A3 n3 c3, .int .i64 e3] 24)
    replace BB := below_next BB BB.size b rfl rfl rfl rfl
    have G := mv b rfl <| And.intro a10 <| And.intro a11 <| And.intro a12 <| And.intro a20 <| And.intro a21 <| And.intro a22 <| And.intro hT <| And.intro h1 <| And.intro h2 <| N3
    clear b a10 a11 a12 a20 a21 a22 hT h1 h2 N3
    obtain ⟨a10, a11, a12, a20, a21, a22, hT, h1, h2, N3⟩ := G
    go_wp2_with fail
    refine (rquotd_raw (p := p) (up := up) h1 h2 HPP.out).mono ?_
    rintro en v4 ⟨k4, s4, A4, n4, c4, m4, e4, rfl, hp', N4, b⟩
    obtain ⟨z0, z1, z2, z3⟩ := quotR_fun P3.out hp'
    obtain rfl := z0
    obtain rfl := z1
    obtain rfl := z2
    obtain rfl := z3
    clear hp'
    clear h1 h2
    replace BB := below_next BB BB.size b rfl rfl rfl rfl
    have G := mv b rfl <| And.intro a10 <| And.intro a11 <| And.intro a12 <| And.intro a20 <| And.intro a21 <| And.intro a22 <| And.intro hT <| And.intro N3 <| And.intro a30 <| And.intro a31 <| a32
    clear b a10 a11 a12 a20 a21 a22 hT N3 a30 a31 a32
    obtain ⟨a10, a11, a12, a20, a21, a22, hT, N3, a30, a31, a32⟩ := G
    obtain ⟨a40, a41, a42⟩ := (Box.new v4 s3 A4 n4 c4 e3).held
    have b := below_alloc v4 (.cells #[.bool s3, .slice A4 n4 c4, .int .i64 e3] 24)
    replace BB := below_next BB BB.size b rfl rfl rfl rfl
    have G := mv b rfl <| And.intro a10 <| And.intro a11 <| And.intro a12 <| And.intro a20 <| And.intro a21 <| And.intro a22 <| And.intro hT <| And.intro N3 <| And.intro a30 <| And.intro a31 <| And.intro a32 <| N4
    clear b a10 a11 a12 a20 a21 a22 hT N3 a30 a31 a32 N4
    obtain ⟨a10, a11, a12, a20, a21, a22, hT, N3, a30, a31, a32, N4⟩ := G
    go_wp2_with fail
    refine (rtold_any hT).mono ?_
    rintro en w3 ⟨rfl, b⟩
    replace BB := below_next BB BB.size b rfl rfl rfl rfl
    have G := mv b rfl <| And.intro a10 <| And.intro a11 <| And.intro a12 <| And.intro a20 <| And.intro a21 <| And.intro a22 <| And.intro hT <| And.intro N3 <| And.intro a30 <| And.intro a31 <| And.intro a32 <| And.intro N4 <| And.intro a40 <| And.intro a41 <| a42
    clear b a10 a11 a12 a20 a21 a22 hT N3 a30 a31 a32 N4 a40 a41 a42
    obtain ⟨a10, a11, a12, a20, a21, a22, hT, N3, a30, a31, a32, N4, a40, a41, a42⟩ := G
    go_wp2_with fail
    refine (same3_self (s := s3) (e := e3) (k := k3) N3 N4).mono ?_
    rintro en w4 ⟨rfl, b⟩
    clear N3 N4
    replace BB := below_next BB BB.size b rfl rfl rfl rfl
    have G := mv b rfl <| And.intro a10 <| And.intro a11 <| And.intro a12 <| And.intro a20 <| And.intro a21 <| And.intro a22 <| And.intro hT <| And.intro a30 <| And.intro a31 <| And.intro a32 <| And.intro a40 <| And.intro a41 <| a42
    clear b a10 a11 a12 a20 a21 a22 hT a30 a31 a32 a40 a41 a42
    obtain ⟨a10, a11, a12, a20, a21, a22, hT, a30, a31, a32, a40, a41, a42⟩ := G
    go_wp2
    go_ret
    exact ⟨by first | rfl | simp, BB⟩

end Go.Proofs.YtdjklanmkjbifaaDoor
