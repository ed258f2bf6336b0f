/-
  Contract of the statement RoundAsks's function at this translation: it returns true, whatever its arguments. Condition: the slices read as limbs, the table of math/bits reads as its text lays it.
-/
import Derived.Test.YtkfcnodnefpboaaDoorRt
import Derived.Test.YtkfcnodnefpboaaDoorRv
namespace Go.Proofs.YtkfcnodnefpboaaDoor
open Go.RowKit

set_option maxRecDepth 100000 in
set_option maxHeartbeats 8000000 in
theorem rasks_ok {w : World} {A1 : Option Addr} {n1 c1 : Nat} {l1 : List Nat} {s1 : Bool} {e1 : Int} {p : Nat} (hT : Tab w) (h1 : Rd w .u64 W A1 n1 c1 l1) (hn : n1 ≤ 70) (hd : mayD s1 l1 e1 = true) (hp1 : 1 ≤ p) (hp : p ≤ 2000) :
    Calls Tryd.prog 9 #[.agg #[.bool s1, .slice A1 n1 c1, .int .i64 e1], .int .i64 (p : Int)] w fun en w' => ToldEnd w en w' := by
  have x1 : n1 ≤ 9223372036854775807 := Nat.le_trans h1.cap h1.max
  obtain ⟨hm, hok⟩ := mayD_of h1.lt hd
  have N1 := (nt_of h1 hm).1
  generalize hmv : val Go.Proofs.YtkfcnodnefpboaaDoor.W l1 = m1 at *
  have O1 := Lib.hid hok
  have HD := Lib.hid hd
  clear hm hok hd
  have BB := below_alloc w (.cells #[.bool s1, .slice A1 n1 c1, .int .i64 e1] 24)
  obtain ⟨a10, a11, a12⟩ := (Box.new w s1 A1 n1 c1 e1).held
  have G := mv BB rfl <| And.intro hT <| And.intro h1 <| N1
  clear hT h1 N1
  obtain ⟨hT, h1, N1⟩ := G
  go_enter Tryd.func9, Tryd.ntmps9
  go_wp2_with fail
  refine (dfew_any (s := s1) (e := e1) x1).mono ?_
  rintro en w1 ⟨rfl, b⟩
  rw [decide_eq_true hn]
  replace BB := below_next BB BB.size b rfl rfl rfl rfl
  have G := mv b rfl <| And.intro a10 <| And.intro a11 <| And.intro a12 <| And.intro hT <| And.intro h1 <| N1
  clear b a10 a11 a12 hT h1 N1
  obtain ⟨a10, a11, a12, hT, h1, N1⟩ := G
  go_wp2_with fail
  refine (rdown_ok hT N1 O1.out hp1 hp).mono ?_
  rintro en v3 ⟨k3, s3, A3, n3, c3, m3, e3, rfl, hp, N3, b⟩
  have P3 := Lib.hid hp
  have O3 := Lib.hid (nm_okd hp)
  clear hp
  replace BB := below_next BB BB.size b rfl rfl rfl rfl
  have G := mv b rfl <| And.intro a10 <| And.intro a11 <| And.intro a12 <| And.intro hT <| And.intro h1 <| N1
  clear b a10 a11 a12 hT h1 N1
  obtain ⟨a10, a11, a12, hT, h1, N1⟩ := G
  obtain ⟨a30, a31, a32⟩ := (Box.new v3 s3 A3 n3 c3 e3).held
  have b := below_alloc v3 (.cells #[.bool s3, .slice A3 n3 c3, .int .i64 e3] 24)
  replace BB := below_next BB BB.size b rfl rfl rfl rfl
  have G := mv b rfl <| And.intro a10 <| And.intro a11 <| And.intro a12 <| And.intro hT <| And.intro h1 <| And.intro N1 <| N3
  clear b a10 a11 a12 hT h1 N1 N3
  obtain ⟨a10, a11, a12, hT, h1, N1, N3⟩ := G
  go_wp2_with fail
  refine (rup_ok hT N1 O1.out hp1 hp).mono ?_
  rintro en v4 ⟨k4, s4, A4, n4, c4, m4, e4, rfl, hp, N4, b⟩
  have P4 := Lib.hid hp
  have O4 := Lib.hid (nm_okd hp)
  clear hp
  replace BB := below_next BB BB.size b rfl rfl rfl rfl
  have G := mv b rfl <| And.intro a10 <| And.intro a11 <| And.intro a12 <| And.intro hT <| And.intro h1 <| And.intro N1 <| And.intro N3 <| And.intro a30 <| And.intro a31 <| a32
  clear b a10 a11 a12 hT h1 N1 N3 a30 a31 a32
  obtain ⟨a10, a11, a12, hT, h1, N1, N3, a30, a31, a32⟩ := G
  obtain ⟨a40, a41, a42⟩ := (Box.new v4 s4 A4 n4 c4 e4).held
  have b := below_alloc v4 (.cells #[.bool s4, .slice A4 n4 c4, .int .i64 e4] 24)
  replace BB := below_next BB BB.size b rfl rfl rfl rfl
  have G := mv b rfl <| And.intro a10 <| And.intro a11 <| And.intro a12 <| And.intro hT <| And.intro h1 <| And.intro N1 <| And.intro N3 <| And.intro a30 <| And.intro a31 <| And.intro a32 <| N4
  clear b a10 a11 a12 hT h1 N1 N3 a30 a31 a32 N4
  obtain ⟨a10, a11, a12, hT, h1, N1, N3, a30, a31, a32, N4⟩ := G
  go_wp2_with fail
  refine (rround_ok (up := false) N1 O1.out hp1 hp).mono ?_
  rintro en v5 ⟨k5, s5, A5, n5, c5, m5, e5, rfl, hp', N5, b⟩
  obtain ⟨g0, g1, g2, g3⟩ := nm_fun P3.out hp'
  obtain rfl := g0
  obtain rfl := g1
  obtain rfl := g2
  obtain rfl := g3
  clear hp'
  replace BB := below_next BB BB.size b rfl rfl rfl rfl
  have G := mv b rfl <| And.intro a10 <| And.intro a11 <| And.intro a12 <| And.intro hT <| And.intro h1 <| And.intro N1 <| And.intro N3 <| And.intro a30 <| And.intro a31 <| And.intro a32 <| And.intro N4 <| And.intro a40 <| And.intro a41 <| a42
  clear b a10 a11 a12 hT h1 N1 N3 a30 a31 a32 N4 a40 a41 a42
  obtain ⟨a10, a11, a12, hT, h1, N1, N3, a30, a31, a32, N4, a40, a41, a42⟩ := G
  obtain ⟨a50, a51, a52⟩ := (Box.new v5 s3 A5 n5 c5 e3).held
  have b := below_alloc v5 (.cells #[.bool s3, .slice A5 n5 c5, .int .i64 e3] 24)
  replace BB := below_next BB BB.size b rfl rfl rfl rfl
  have G := mv b rfl <| And.intro a10 <| And.intro a11 <| And.intro a12 <| And.intro hT <| And.intro h1 <| And.intro N1 <| And.intro N3 <| And.intro a30 <| And.intro a31 <| And.intro a32 <| And.intro N4 <| And.intro a40 <| And.intro a41 <| And.intro a42 <| N5
  clear b a10 a11 a12 hT h1 N1 N3 a30 a31 a32 N4 a40 a41 a42 N5
  obtain ⟨a10, a11, a12, hT, h1, N1, N3, a30, a31, a32, N4, a40, a41, a42, N5⟩ := G
  go_wp2_with fail
  refine (rround_ok (up := true) N1 O1.out hp1 hp).mono ?_
  rintro en v6 ⟨k6, s6, A6, n6, c6, m6, e6, rfl, hp', N6, b⟩
  obtain ⟨g0, g1, g2, g3⟩ := nm_fun P4.out hp'
  obtain rfl := g0
  obtain rfl := g1
  obtain rfl := g2
  obtain rfl := g3
  clear hp'
  replace BB := below_next BB BB.size b rfl rfl rfl rfl
  have G := mv b rfl <| And.intro a10 <| And.intro a11 <| And.intro a12 <| And.intro hT <| And.intro h1 <| And.intro N1 <| And.intro N3 <| And.intro a30 <| And.intro a31 <| And.intro a32 <| And.intro N4 <| And.intro a40 <| And.intro a41 <| And.intro a42 <| And.intro N5 <| And.intro a50 <| And.intro a51 <| a52
  clear b a10 a11 a12 hT h1 N1 N3 a30 a31 a32 N4 a40 a41 a42 N5 a50 a51 a52
  obtain ⟨a10, a11, a12, hT, h1, N1, N3, a30, a31, a32, N4, a40, a41, a42, N5, a50, a51, a52⟩ := G
  obtain ⟨a60, a61, a62⟩ := (Box.new v6 s4 A6 n6 c6 e4).held
  have b := below_alloc v6 (.cells #[.bool s4, .slice A6 n6 c6, .int .i64 e4] 24)
  replace BB := below_next BB BB.size b rfl rfl rfl rfl
  have G := mv b rfl <| And.intro a10 <| And.intro a11 <| And.intro a12 <| And.intro hT <| And.intro h1 <| And.intro N1 <| And.intro N3 <| And.intro a30 <| And.intro a31 <| And.intro a32 <| And.intro N4 <| And.intro a40 <| And.intro a41 <| And.intro a42 <| And.intro N5 <| And.intro a50 <| And.intro a51 <| And.intro a52 <| N6
  clear b a10 a11 a12 hT h1 N1 N3 a30 a31 a32 N4 a40 a41 a42 N5 a50 a51 a52 N6
  obtain ⟨a10, a11, a12, hT, h1, N1, N3, a30, a31, a32, N4, a40, a41, a42, N5, a50, a51, a52, N6⟩ := G
  go_wp2_with fail
  refine (rmayd_any (s := s1) (e := e1) h1).mono ?_
  rintro en w6 ⟨rfl, b⟩
  rw [HD.out]
  replace BB := below_next BB BB.size b rfl rfl rfl rfl
  have G := mv b rfl <| And.intro a10 <| And.intro a11 <| And.intro a12 <| And.intro hT <| And.intro h1 <| And.intro N1 <| And.intro N3 <| And.intro a30 <| And.intro a31 <| And.intro a32 <| And.intro N4 <| And.intro a40 <| And.intro a41 <| And.intro a42 <| And.intro N5 <| And.intro a50 <| And.intro a51 <| And.intro a52 <| And.intro N6 <| And.intro a60 <| And.intro a61 <| a62
  clear b a10 a11 a12 hT h1 N1 N3 a30 a31 a32 N4 a40 a41 a42 N5 a50 a51 a52 N6 a60 a61 a62
  obtain ⟨a10, a11, a12, hT, h1, N1, N3, a30, a31, a32, N4, a40, a41, a42, N5, a50, a51, a52, N6, a60, a61, a62⟩ := G
  go_wp2_with fail
  refine (rfrom_any h1 (by omega)).mono ?_
  rintro en w7 ⟨A7, n7, c7, rfl, h7, b⟩
  rw [hmv] at h7
  clear h1
  replace BB := below_next BB BB.size b rfl rfl rfl rfl
  have G := mv b rfl <| And.intro a10 <| And.intro a11 <| And.intro a12 <| And.intro hT <| And.intro N1 <| And.intro N3 <| And.intro a30 <| And.intro a31 <| And.intro a32 <| And.intro N4 <| And.intro a40 <| And.intro a41 <| And.intro a42 <| And.intro N5 <| And.intro a50 <| And.intro a51 <| And.intro a52 <| And.intro N6 <| And.intro a60 <| And.intro a61 <| a62
  clear b a10 a11 a12 hT N1 N3 a30 a31 a32 N4 a40 a41 a42 N5 a50 a51 a52 N6 a60 a61 a62
  obtain ⟨a10, a11, a12, hT, N1, N3, a30, a31, a32, N4, a40, a41, a42, N5, a50, a51, a52, N6, a60, a61, a62⟩ := G
  have n7l := digits_le h7 (digits_of N1.lt)
  go_wp2_with fail
  refine (rbits_any h7 (by omega)).mono ?_
  rintro en w' ⟨rfl, rfl⟩
  clear h7
  go_wp2_with fail
  refine (rtold_any hT).mono ?_
  rintro en w8 ⟨rfl, b⟩
  replace BB := below_next BB BB.size b rfl rfl rfl rfl
  have G := mv b rfl <| And.intro a10 <| And.intro a11 <| And.intro a12 <| And.intro hT <| And.intro N1 <| And.intro N3 <| And.intro a30 <| And.intro a31 <| And.intro a32 <| And.intro N4 <| And.intro a40 <| And.intro a41 <| And.intro a42 <| And.intro N5 <| And.intro a50 <| And.intro a51 <| And.intro a52 <| And.intro N6 <| And.intro a60 <| And.intro a61 <| a62
  clear b a10 a11 a12 hT N1 N3 a30 a31 a32 N4 a40 a41 a42 N5 a50 a51 a52 N6 a60 a61 a62
  obtain ⟨a10, a11, a12, hT, N1, N3, a30, a31, a32, N4, a40, a41, a42, N5, a50, a51, a52, N6, a60, a61, a62⟩ := G
  go_wp2_with fail
  refine (same3_self (s := s3) (e := e3) (k := k3) N3 N5).mono ?_
  rintro en w9 ⟨rfl, b⟩
  clear N3 N5
  replace BB := below_next BB BB.size b rfl rfl rfl rfl
  have G := mv b rfl <| And.intro a10 <| And.intro a11 <| And.intro a12 <| And.intro hT <| And.intro N1 <| And.intro a30 <| And.intro a31 <| And.intro a32 <| And.intro N4 <| And.intro a40 <| And.intro a41 <| And.intro a42 <| And.intro a50 <| And.intro a51 <| And.intro a52 <| And.intro N6 <| And.intro a60 <| And.intro a61 <| a62
  clear b a10 a11 a12 hT N1 a30 a31 a32 N4 a40 a41 a42 a50 a51 a52 N6 a60 a61 a62
  obtain ⟨a10, a11, a12, hT, N1, a30, a31, a32, N4, a40, a41, a42, a50, a51, a52, N6, a60, a61, a62⟩ := G
  go_wp2_with fail
  refine (same3_self (s := s4) (e := e4) (k := k4) N4 N6).mono ?_
  rintro en w10 ⟨rfl, b⟩
  clear N4 N6
  replace BB := below_next BB BB.size b rfl rfl rfl rfl
  have G := mv b rfl <| And.intro a10 <| And.intro a11 <| And.intro a12 <| And.intro hT <| And.intro N1 <| And.intro a30 <| And.intro a31 <| And.intro a32 <| And.intro a40 <| And.intro a41 <| And.intro a42 <| And.intro a50 <| And.intro a51 <| And.intro a52 <| And.intro a60 <| And.intro a61 <| a62
  clear b a10 a11 a12 hT N1 a30 a31 a32 a40 a41 a42 a50 a51 a52 a60 a61 a62
  obtain ⟨a10, a11, a12, hT, N1, a30, a31, a32, a40, a41, a42, a50, a51, a52, a60, a61, a62⟩ := G
  go_wp2_with fail
  refine (bits_ok hT N1 O1.out).mono ?_
  rintro en w11 ⟨rfl, b⟩
  clear N1
  replace BB := below_next BB BB.size b rfl rfl rfl rfl
  have G := mv b rfl <| And.intro a10 <| And.intro a11 <| And.intro a12 <| And.intro hT <| And.intro a30 <| And.intro a31 <| And.intro a32 <| And.intro a40 <| And.intro a41 <| And.intro a42 <| And.intro a50 <| And.intro a51 <| And.intro a52 <| And.intro a60 <| And.intro a61 <| a62
  clear b a10 a11 a12 hT a30 a31 a32 a40 a41 a42 a50 a51 a52 a60 a61 a62
  obtain ⟨a10, a11, a12, hT, a30, a31, a32, a40, a41, a42, a50, a51, a52, a60, a61, a62⟩ := G
  have fb : ((blen m1 : Int) == (blen m1 : Int)) = true := by simp
  have fb2 : (blen m1 == blen m1) = true := by simp
  go_wp2
  go_ret
  exact ⟨by first | rfl | simp, BB⟩

set_option maxRecDepth 100000 in
set_option maxHeartbeats 8000000 in
theorem rasks_no {w : World} {A1 : Option Addr} {n1 c1 : Nat} {l1 : List Nat} {s1 : Bool} {e1 : Int} {p : Int} (hT : Tab w) (h1 : Rd w .u64 W A1 n1 c1 l1) (hn : n1 ≤ 70) (hd : p < 1 ∨ 2000 < p ∨ mayD s1 l1 e1 = false) :
    Calls Tryd.prog 9 #[.agg #[.bool s1, .slice A1 n1 c1, .int .i64 e1], .int .i64 p] w fun en w' => ToldEnd w en w' := by
  have x1 : n1 ≤ 9223372036854775807 := Nat.le_trans h1.cap h1.max
  have HD := Lib.hid hd
  clear hd
  have BB := below_alloc w (.cells #[.bool s1, .slice A1 n1 c1, .int .i64 e1] 24)
  obtain ⟨a10, a11, a12⟩ := (Box.new w s1 A1 n1 c1 e1).held
  have G := mv BB rfl <| And.intro hT <| h1
  clear hT h1
  obtain ⟨hT, h1⟩ := G
  go_enter Tryd.func9, Tryd.ntmps9
  go_wp2_with fail
  refine (dfew_any (s := s1) (e := e1) x1).mono ?_
  rintro en w1 ⟨rfl, b⟩
  rw [decide_eq_true hn]
  replace BB := below_next BB BB.size b rfl rfl rfl rfl
  have G := mv b rfl <| And.intro a10 <| And.intro a11 <| And.intro a12 <| And.intro hT <| h1
  clear b a10 a11 a12 hT h1
  obtain ⟨a10, a11, a12, hT, h1⟩ := G
  go_wp2_with fail
  refine (rdown_no hT h1 HD.out).mono ?_
  rintro en v3 ⟨k3, s3, A3, n3, c3, m3, e3, rfl, ⟨g0, g1, g2, g3⟩, N3, b⟩
  subst g0 g1 g2 g3
  replace BB := below_next BB BB.size b rfl rfl rfl rfl
  have G := mv b rfl <| And.intro a10 <| And.intro a11 <| And.intro a12 <| And.intro hT <| h1
  clear b a10 a11 a12 hT h1
  obtain ⟨a10, a11, a12, hT, h1⟩ := G
  obtain ⟨a30, a31, a32⟩ := (Box.new v3 false A3 n3 c3 0).held
  have b := below_alloc v3 (.cells #[.bool false, .slice A3 n3 c3, .int .i64 0] 24)
  replace BB := below_next BB BB.size b rfl rfl rfl rfl
  have G := mv b rfl <| And.intro a10 <| And.intro a11 <| And.intro a12 <| And.intro hT <| And.intro h1 <| N3
  clear b a10 a11 a12 hT h1 N3
  obtain ⟨a10, a11, a12, hT, h1, N3⟩ := G
  go_wp2_with fail
  refine (rup_no hT h1 HD.out).mono ?_
  rintro en v4 ⟨k4, s4, A4, n4, c4, m4, e4, rfl, ⟨g0, g1, g2, g3⟩, N4, b⟩
  subst g0 g1 g2 g3
  replace BB := below_next BB BB.size b rfl rfl rfl rfl
  have G := mv b rfl <| And.intro a10 <| And.intro a11 <| And.intro a12 <| And.intro hT <| And.intro h1 <| And.intro N3 <| And.intro a30 <| And.intro a31 <| a32
  clear b a10 a11 a12 hT h1 N3 a30 a31 a32
  obtain ⟨a10, a11, a12, hT, h1, N3, a30, a31, a32⟩ := G
  obtain ⟨a40, a41, a42⟩ := (Box.new v4 false A4 n4 c4 0).held
  have b := below_alloc v4 (.cells #[.bool false, .slice A4 n4 c4, .int .i64 0] 24)
  replace BB := below_next BB BB.size b rfl rfl rfl rfl
  have G := mv b rfl <| And.intro a10 <| And.intro a11 <| And.intro a12 <| And.intro hT <| And.intro h1 <| And.intro N3 <| And.intro a30 <| And.intro a31 <| And.intro a32 <| N4
  clear b a10 a11 a12 hT h1 N3 a30 a31 a32 N4
  obtain ⟨a10, a11, a12, hT, h1, N3, a30, a31, a32, N4⟩ := G
  go_wp2_with fail
  refine (rround_no (up := false) h1 HD.out).mono ?_
  rintro en v5 ⟨k5, s5, A5, n5, c5, m5, e5, rfl, ⟨g0, g1, g2, g3⟩, N5, b⟩
  subst g0 g1 g2 g3
  replace BB := below_next BB BB.size b rfl rfl rfl rfl
  have G := mv b rfl <| And.intro a10 <| And.intro a11 <| And.intro a12 <| And.intro hT <| And.intro h1 <| And.intro N3 <| And.intro a30 <| And.intro a31 <| And.intro a32 <| And.intro N4 <| And.intro a40 <| And.intro a41 <| a42
  clear b a10 a11 a12 hT h1 N3 a30 a31 a32 N4 a40 a41 a42
  obtain ⟨a10, a11, a12, hT, h1, N3, a30, a31, a32, N4, a40, a41, a42⟩ := G
  obtain ⟨a50, a51, a52⟩ := (Box.new v5 false A5 n5 c5 0).held
  have b := below_alloc v5 (.cells #[.bool false, .slice A5 n5 c5, .int .i64 0] 24)
  replace BB := below_next BB BB.size b rfl rfl rfl rfl
  have G := mv b rfl <| And.intro a10 <| And.intro a11 <| And.intro a12 <| And.intro hT <| And.intro h1 <| And.intro N3 <| And.intro a30 <| And.intro a31 <| And.intro a32 <| And.intro N4 <| And.intro a40 <| And.intro a41 <| And.intro a42 <| N5
  clear b a10 a11 a12 hT h1 N3 a30 a31 a32 N4 a40 a41 a42 N5
  obtain ⟨a10, a11, a12, hT, h1, N3, a30, a31, a32, N4, a40, a41, a42, N5⟩ := G
  go_wp2_with fail
  refine (rround_no (up := true) h1 HD.out).mono ?_
  rintro en v6 ⟨k6, s6, A6, n6, c6, m6, e6, rfl, ⟨g0, g1, g2, g3⟩, N6, b⟩
  subst g0 g1 g2 g3
  replace BB := below_next BB BB.size b rfl rfl rfl rfl
  have G := mv b rfl <| And.intro a10 <| And.intro a11 <| And.intro a12 <| And.intro hT <| And.intro h1 <| And.intro N3 <| And.intro a30 <| And.intro a31 <| And.intro a32 <| And.intro N4 <| And.intro a40 <| And.intro a41 <| And.intro a42 <| And.intro N5 <| And.intro a50 <| And.intro a51 <| a52
  clear b a10 a11 a12 hT h1 N3 a30 a31 a32 N4 a40 a41 a42 N5 a50 a51 a52
  obtain ⟨a10, a11, a12, hT, h1, N3, a30, a31, a32, N4, a40, a41, a42, N5, a50, a51, a52⟩ := G
  obtain ⟨a60, a61, a62⟩ := (Box.new v6 false A6 n6 c6 0).held
  have b := below_alloc v6 (.cells #[.bool false, .slice A6 n6 c6, .int .i64 0] 24)
  replace BB := below_next BB BB.size b rfl rfl rfl rfl
  have G := mv b rfl <| And.intro a10 <| And.intro a11 <| And.intro a12 <| And.intro hT <| And.intro h1 <| And.intro N3 <| And.intro a30 <| And.intro a31 <| And.intro a32 <| And.intro N4 <| And.intro a40 <| And.intro a41 <| And.intro a42 <| And.intro N5 <| And.intro a50 <| And.intro a51 <| And.intro a52 <| N6
  clear b a10 a11 a12 hT h1 N3 a30 a31 a32 N4 a40 a41 a42 N5 a50 a51 a52 N6
  obtain ⟨a10, a11, a12, hT, h1, N3, a30, a31, a32, N4, a40, a41, a42, N5, a50, a51, a52, N6⟩ := G
  cases hm : mayD s1 l1 e1
  · go_wp2_with fail
    refine (rmayd_any (s := s1) (e := e1) h1).mono ?_
    rintro en w6 ⟨rfl, b⟩
    rw [hm]
    replace BB := below_next BB BB.size b rfl rfl rfl rfl
    have G := mv b rfl <| And.intro a10 <| And.intro a11 <| And.intro a12 <| And.intro hT <| And.intro h1 <| And.intro N3 <| And.intro a30 <| And.intro a31 <| And.intro a32 <| And.intro N4 <| And.intro a40 <| And.intro a41 <| And.intro a42 <| And.intro N5 <| And.intro a50 <| And.intro a51 <| And.intro a52 <| And.intro N6 <| And.intro a60 <| And.intro a61 <| a62
    clear b a10 a11 a12 hT h1 N3 a30 a31 a32 N4 a40 a41 a42 N5 a50 a51 a52 N6 a60 a61 a62
    obtain ⟨a10, a11, a12, hT, h1, N3, a30, a31, a32, N4, a40, a41, a42, N5, a50, a51, a52, N6, a60, a61, a62⟩ := G
    go_wp2_with fail
    refine (rtold_any hT).mono ?_
    rintro en w7 ⟨rfl, b⟩
    replace BB := below_next BB BB.size b rfl rfl rfl rfl
    have G := mv b rfl <| And.intro a10 <| And.intro a11 <| And.intro a12 <| And.intro hT <| And.intro h1 <| And.intro N3 <| And.intro a30 <| And.intro a31 <| And.intro a32 <| And.intro N4 <| And.intro a40 <| And.intro a41 <| And.intro a42 <| And.intro N5 <| And.intro a50 <| And.intro a51 <| And.intro a52 <| And.intro N6 <| And.intro a60 <| And.intro a61 <| a62
    clear b a10 a11 a12 hT h1 N3 a30 a31 a32 N4 a40 a41 a42 N5 a50 a51 a52 N6 a60 a61 a62
    obtain ⟨a10, a11, a12, hT, h1, N3, a30, a31, a32, N4, a40, a41, a42, N5, a50, a51, a52, N6, a60, a61, a62⟩ := G
    go_wp2_with fail
    refine (same3_self (s := false) (e := 0) (k := 1) N3 N5).mono ?_
    rintro en w8 ⟨rfl, b⟩
    clear N3 N5
    replace BB := below_next BB BB.size b rfl rfl rfl rfl
    have G := mv b rfl <| And.intro a10 <| And.intro a11 <| And.intro a12 <| And.intro hT <| And.intro h1 <| And.intro a30 <| And.intro a31 <| And.intro a32 <| And.intro N4 <| And.intro a40 <| And.intro a41 <| And.intro a42 <| And.intro a50 <| And.intro a51 <| And.intro a52 <| And.intro N6 <| And.intro a60 <| And.intro a61 <| a62
    clear b a10 a11 a12 hT h1 a30 a31 a32 N4 a40 a41 a42 a50 a51 a52 N6 a60 a61 a62
    obtain ⟨a10, a11, a12, hT, h1, a30, a31, a32, N4, a40, a41, a42, a50, a51, a52, N6, a60, a61, a62⟩ := G
    go_wp2_with fail
    refine (same3_self (s := false) (e := 0) (k := 1) N4 N6).mono ?_
    rintro en w9 ⟨rfl, b⟩
    clear N4 N6
    replace BB := below_next BB BB.size b rfl rfl rfl rfl
    have G := mv b rfl <| And.intro a10 <| And.intro a11 <| And.intro a12 <| And.intro hT <| And.intro h1 <| And.intro a30 <| And.intro a31 <| And.intro a32 <| And.intro a40 <| And.intro a41 <| And.intro a42 <| And.intro a50 <| And.intro a51 <| And.intro a52 <| And.intro a60 <| And.intro a61 <| a62
    clear b a10 a11 a12 hT h1 a30 a31 a32 a40 a41 a42 a50 a51 a52 a60 a61 a62
    obtain ⟨a10, a11, a12, hT, h1, a30, a31, a32, a40, a41, a42, a50, a51, a52, a60, a61, a62⟩ := G
    go_wp2_with fail
    refine (bits_no hT h1 hm).mono ?_
    rintro en w10 ⟨rfl, b⟩
    replace BB := below_next BB BB.size b rfl rfl rfl rfl
    have G := mv b rfl <| And.intro a10 <| And.intro a11 <| And.intro a12 <| And.intro hT <| And.intro h1 <| And.intro a30 <| And.intro a31 <| And.intro a32 <| And.intro a40 <| And.intro a41 <| And.intro a42 <| And.intro a50 <| And.intro a51 <| And.intro a52 <| And.intro a60 <| And.intro a61 <| a62
    clear b a10 a11 a12 hT h1 a30 a31 a32 a40 a41 a42 a50 a51 a52 a60 a61 a62
    obtain ⟨a10, a11, a12, hT, h1, a30, a31, a32, a40, a41, a42, a50, a51, a52, a60, a61, a62⟩ := G
    go_wp2
    go_ret
    exact ⟨by first | rfl | simp, BB⟩
  · go_wp2_with fail
    refine (rmayd_any (s := s1) (e := e1) h1).mono ?_
    rintro en w6 ⟨rfl, b⟩
    rw [hm]
    replace BB := below_next BB BB.size b rfl rfl rfl rfl
    have G := mv b rfl <| And.intro a10 <| And.intro a11 <| And.intro a12 <| And.intro hT <| And.intro h1 <| And.intro N3 <| And.intro a30 <| And.intro a31 <| And.intro a32 <| And.intro N4 <| And.intro a40 <| And.intro a41 <| And.intro a42 <| And.intro N5 <| And.intro a50 <| And.intro a51 <| And.intro a52 <| And.intro N6 <| And.intro a60 <| And.intro a61 <| a62
    clear b a10 a11 a12 hT h1 N3 a30 a31 a32 N4 a40 a41 a42 N5 a50 a51 a52 N6 a60 a61 a62
    obtain ⟨a10, a11, a12, hT, h1, N3, a30, a31, a32, N4, a40, a41, a42, N5, a50, a51, a52, N6, a60, a61, a62⟩ := G
    obtain ⟨hmb, hok⟩ := mayD_of h1.lt hm
    have N1 := (nt_of h1 hmb).1
    have O1 := Lib.hid hok
    clear hmb hok
    go_wp2_with fail
    refine (rfrom_any h1 (by omega)).mono ?_
    rintro en w7 ⟨A7, n7, c7, rfl, h7, b⟩
    replace BB := below_next BB BB.size b rfl rfl rfl rfl
    have G := mv b rfl <| And.intro a10 <| And.intro a11 <| And.intro a12 <| And.intro hT <| And.intro h1 <| And.intro N3 <| And.intro a30 <| And.intro a31 <| And.intro a32 <| And.intro N4 <| And.intro a40 <| And.intro a41 <| And.intro a42 <| And.intro N5 <| And.intro a50 <| And.intro a51 <| And.intro a52 <| And.intro N6 <| And.intro a60 <| And.intro a61 <| And.intro a62 <| N1
    clear b a10 a11 a12 hT h1 N3 a30 a31 a32 N4 a40 a41 a42 N5 a50 a51 a52 N6 a60 a61 a62 N1
    obtain ⟨a10, a11, a12, hT, h1, N3, a30, a31, a32, N4, a40, a41, a42, N5, a50, a51, a52, N6, a60, a61, a62, N1⟩ := G
    have n7l := digits_le h7 (digits_of N1.lt)
    go_wp2_with fail
    refine (rbits_any h7 (by omega)).mono ?_
    rintro en w' ⟨rfl, rfl⟩
    clear h7
    go_wp2_with fail
    refine (rtold_any hT).mono ?_
    rintro en w8 ⟨rfl, b⟩
    replace BB := below_next BB BB.size b rfl rfl rfl rfl
    have G := mv b rfl <| And.intro a10 <| And.intro a11 <| And.intro a12 <| And.intro hT <| And.intro h1 <| And.intro N3 <| And.intro a30 <| And.intro a31 <| And.intro a32 <| And.intro N4 <| And.intro a40 <| And.intro a41 <| And.intro a42 <| And.intro N5 <| And.intro a50 <| And.intro a51 <| And.intro a52 <| And.intro N6 <| And.intro a60 <| And.intro a61 <| And.intro a62 <| N1
    clear b a10 a11 a12 hT h1 N3 a30 a31 a32 N4 a40 a41 a42 N5 a50 a51 a52 N6 a60 a61 a62 N1
    obtain ⟨a10, a11, a12, hT, h1, N3, a30, a31, a32, N4, a40, a41, a42, N5, a50, a51, a52, N6, a60, a61, a62, N1⟩ := G
    go_wp2_with fail
    refine (same3_self (s := false) (e := 0) (k := 1) N3 N5).mono ?_
    rintro en w9 ⟨rfl, b⟩
    clear N3 N5
    replace BB := below_next BB BB.size b rfl rfl rfl rfl
    have G := mv b rfl <| And.intro a10 <| And.intro a11 <| And.intro a12 <| And.intro hT <| And.intro h1 <| And.intro a30 <| And.intro a31 <| And.intro a32 <| And.intro N4 <| And.intro a40 <| And.intro a41 <| And.intro a42 <| And.intro a50 <| And.intro a51 <| And.intro a52 <| And.intro N6 <| And.intro a60 <| And.intro a61 <| And.intro a62 <| N1
    clear b a10 a11 a12 hT h1 a30 a31 a32 N4 a40 a41 a42 a50 a51 a52 N6 a60 a61 a62 N1
    obtain ⟨a10, a11, a12, hT, h1, a30, a31, a32, N4, a40, a41, a42, a50, a51, a52, N6, a60, a61, a62, N1⟩ := G
    go_wp2_with fail
    refine (same3_self (s := false) (e := 0) (k := 1) N4 N6).mono ?_
    rintro en w10 ⟨rfl, b⟩
    clear N4 N6
    replace BB := below_next BB BB.size b rfl rfl rfl rfl
    have G := mv b rfl <| And.intro a10 <| And.intro a11 <| And.intro a12 <| And.intro hT <| And.intro h1 <| And.intro a30 <| And.intro a31 <| And.intro a32 <| And.intro a40 <| And.intro a41 <| And.intro a42 <| And.intro a50 <| And.intro a51 <| And.intro a52 <| And.intro a60 <| And.intro a61 <| And.intro a62 <| N1
    clear b a10 a11 a12 hT h1 a30 a31 a32 a40 a41 a42 a50 a51 a52 a60 a61 a62 N1
    obtain ⟨a10, a11, a12, hT, h1, a30, a31, a32, a40, a41, a42, a50, a51, a52, a60, a61, a62, N1⟩ := G
    go_wp2_with fail
    refine (bits_ok hT N1 O1.out).mono ?_
    rintro en w11 ⟨rfl, b⟩
    replace BB := below_next BB BB.size b rfl rfl rfl rfl
    have G := mv b rfl <| And.intro a10 <| And.intro a11 <| And.intro a12 <| And.intro hT <| And.intro h1 <| And.intro a30 <| And.intro a31 <| And.intro a32 <| And.intro a40 <| And.intro a41 <| And.intro a42 <| And.intro a50 <| And.intro a51 <| And.intro a52 <| And.intro a60 <| And.intro a61 <| And.intro a62 <| N1
    clear b a10 a11 a12 hT h1 a30 a31 a32 a40 a41 a42 a50 a51 a52 a60 a61 a62 N1
    obtain ⟨a10, a11, a12, hT, h1, a30, a31, a32, a40, a41, a42, a50, a51, a52, a60, a61, a62, N1⟩ := G
    have fb : ((blen (val Go.Proofs.YtkfcnodnefpboaaDoor.W l1) : Int) == (blen (val Go.Proofs.YtkfcnodnefpboaaDoor.W l1) : Int)) = true := by simp
    have fb2 : (blen (val Go.Proofs.YtkfcnodnefpboaaDoor.W l1) == blen (val Go.Proofs.YtkfcnodnefpboaaDoor.W l1)) = true := by simp
    go_wp2
    go_ret
    exact ⟨by first | rfl | simp, BB⟩

theorem rasks_out {w : World} {A1 : Option Addr} {n1 c1 : Nat} {l1 : List Nat} {s1 : Bool} {e1 p : Int} (hT : Tab w) (h1 : Rd w .u64 W A1 n1 c1 l1) (hn : ¬ n1 ≤ 70) :
    Calls Tryd.prog 9 #[.agg #[.bool s1, .slice A1 n1 c1, .int .i64 e1], .int .i64 p] w fun en w' => ToldEnd w en w' := by
  have x1 : n1 ≤ 9223372036854775807 := Nat.le_trans h1.cap h1.max
  have BB := below_alloc w (.cells #[.bool s1, .slice A1 n1 c1, .int .i64 e1] 24)
  obtain ⟨a10, a11, a12⟩ := (Box.new w s1 A1 n1 c1 e1).held
  have G := mv BB rfl <| And.intro hT <| h1
  clear hT h1
  obtain ⟨hT, h1⟩ := G
  go_enter Tryd.func9, Tryd.ntmps9
  go_wp2_with fail
  refine (dfew_any (s := s1) (e := e1) x1).mono ?_
  rintro en w1 ⟨rfl, b⟩
  rw [decide_eq_false hn]
  replace BB := below_next BB BB.size b rfl rfl rfl rfl
  have G := mv b rfl <| And.intro a10 <| And.intro a11 <| And.intro a12 <| And.intro hT <| h1
  clear b a10 a11 a12 hT h1
  obtain ⟨a10, a11, a12, hT, h1⟩ := G
  go_wp2_with fail
  refine (rtold_any hT).mono ?_
  rintro en w99 ⟨rfl, b⟩
  replace BB := below_next BB BB.size b rfl rfl rfl rfl
  clear b
  go_wp2
  go_ret
  exact ⟨by first | rfl | simp, BB⟩
theorem rasks_any {w : World} {A1 : Option Addr} {n1 c1 : Nat} {l1 : List Nat} {s1 : Bool} {e1 p : Int} (hT : Tab w) (h1 : Rd w .u64 W A1 n1 c1 l1) :
    Calls Tryd.prog 9 #[.agg #[.bool s1, .slice A1 n1 c1, .int .i64 e1], .int .i64 p] w fun en w' => ToldEnd w en w' := by
  by_cases hn : n1 ≤ 70
  · by_cases hd : p < 1 ∨ 2000 < p ∨ mayD s1 l1 e1 = false
    · exact rasks_no hT h1 hn hd
    · obtain ⟨q, rfl⟩ := Int.eq_ofNat_of_zero_le (show 0 ≤ p by omega)
      have hm : mayD s1 l1 e1 = true := by
        cases h : mayD s1 l1 e1
        · exact absurd (.inr (.inr h)) hd
        · rfl
      exact rasks_ok hT h1 hn hm (by omega) (by omega)
  · exact rasks_out hT h1 hn
end Go.Proofs.YtkfcnodnefpboaaDoor
