/-
  Contract of the statement DyadRing's function at this translation: it returns true, whatever its arguments. Condition: the slices read as limbs, the table of math/bits reads as its text lays it.
-/
import Derived.Test.YtkfcnodnefpboaaDoorMv
import Derived.Test.YtkfcnodnefpboaaDoorRo
namespace Go.Proofs.YtkfcnodnefpboaaDoor
open Go.RowKit

theorem dist_same {K : Nat} {s1 s2 s3 s4 s5 s6 s7 s8 : Bool} {m1 m2 m3 m4 m5 m6 m7 m8 : Nat} {e1 e2 e3 e4 e5 e6 e7 e8 : Int} (hK : 4194304 ≤ K) (o1 : OkD s1 m1 e1) (o2 : OkD s2 m2 e2) (o3 : OkD s3 m3 e3)
    (p4 : NmV K (vz K s1 m1 e1 + vz K s2 m2 e2) 0 s4 m4 e4) (p5 : Nm (s4 != s3) (m4 * m3) (e4 + e3) 0 s5 m5 e5) (p6 : Nm (s1 != s3) (m1 * m3) (e1 + e3) 0 s6 m6 e6) (p7 : Nm (s2 != s3) (m2 * m3) (e2 + e3) 0 s7 m7 e7)
    (p8 : NmV K (vz K s6 m6 e6 + vz K s7 m7 e7) 0 s8 m8 e8) : s5 = s8 ∧ m5 = m8 ∧ e5 = e8 := by
  have o4 := nmv_okd p4
  have r1 := okd_ge hK o1
  have r2 := okd_ge hK o2
  have r3 := okd_ge hK o3
  have r4 := okd_ge hK o4
  have v4 := (nmv_ok p4).2
  have v8 := (nmv_ok p8).2
  have v5 := nm_value (K := K) (by omega) p5
  have v6 := nm_value (K := K) (by omega) p6
  have v7 := nm_value (K := K) (by omega) p7
  have x5 := vz_mul (K := K) (s := s4) (t := s3) (m := m4) (n := m3) (e := e4) (f := e3) (by omega) (by omega) (by omega)
  have x6 := vz_mul (K := K) (s := s1) (t := s3) (m := m1) (n := m3) (e := e1) (f := e3) (by omega) (by omega) (by omega)
  have x7 := vz_mul (K := K) (s := s2) (t := s3) (m := m2) (n := m3) (e := e2) (f := e3) (by omega) (by omega) (by omega)
  rw [← v5, v4, Int.add_mul, x6, x7, ← v6, ← v7, ← Int.add_mul, ← v8] at x5
  have hp : ((2 ^ K : Nat) : Int) ≠ 0 := by
    have := Nat.pow_pos (n := K) (show 0 < 2 by omega)
    generalize 2 ^ K = P at *
    omega
  exact okd_one hK (nm_okd p5) (nmv_okd p8) (Int.eq_of_mul_eq_mul_right hp x5).symm

set_option maxRecDepth 100000 in
set_option maxHeartbeats 8000000 in
theorem dring_any {w : World} {A1 : Option Addr} {n1 c1 : Nat} {l1 : List Nat} {s1 : Bool} {e1 : Int} {A2 : Option Addr} {n2 c2 : Nat} {l2 : List Nat} {s2 : Bool} {e2 : Int} {A3 : Option Addr} {n3 c3 : Nat} {l3 : List Nat} {s3 : Bool} {e3 : Int} (hT : Tab w) (h1 : Rd w .u64 W A1 n1 c1 l1) (h2 : Rd w .u64 W A2 n2 c2 l2) (h3 : Rd w .u64 W A3 n3 c3 l3) :
    Calls Tryd.prog 5 #[.agg #[.bool s1, .slice A1 n1 c1, .int .i64 e1], .agg #[.bool s2, .slice A2 n2 c2, .int .i64 e2], .agg #[.bool s3, .slice A3 n3 c3, .int .i64 e3]] w fun en w' => ToldEnd w en w' := by
  have x1 : n1 ≤ 9223372036854775807 := Nat.le_trans h1.cap h1.max
  have x2 : n2 ≤ 9223372036854775807 := Nat.le_trans h2.cap h2.max
  have x3 : n3 ≤ 9223372036854775807 := Nat.le_trans h3.cap h3.max
  obtain ⟨K, hK⟩ := scale_has
  have BB := three_below w (.cells #[.bool s1, .slice A1 n1 c1, .int .i64 e1] 24) (.cells #[.bool s2, .slice A2 n2 c2, .int .i64 e2] 24) (.cells #[.bool s3, .slice A3 n3 c3, .int .i64 e3] 24)
  obtain ⟨a10, a11, a12, a20, a21, a22⟩ := ((two_new w s1 s2 A1 A2 n1 c1 n2 c2 e1 e2).alloc (.cells #[.bool s3, .slice A3 n3 c3, .int .i64 e3] 24)).held
  obtain ⟨a30, a31, a32⟩ := (box_two w (.cells #[.bool s1, .slice A1 n1 c1, .int .i64 e1] 24) (.cells #[.bool s2, .slice A2 n2 c2, .int .i64 e2] 24) s3 A3 n3 c3 e3).held
  have G := mv BB rfl <| And.intro hT <| And.intro h1 <| And.intro h2 <| h3
  clear hT h1 h2 h3
  obtain ⟨hT, h1, h2, h3⟩ := G
  go_enter Tryd.func5, Tryd.ntmps5
  go_wp2_with fail
  refine (dfew_any (s := s1) (e := e1) x1).mono ?_
  rintro en w1 ⟨rfl, b⟩
  replace BB := below_next BB BB.size b rfl rfl rfl rfl
  have G := mv b rfl <| And.intro a10 <| And.intro a11 <| And.intro a12 <| And.intro a20 <| And.intro a21 <| And.intro a22 <| And.intro a30 <| And.intro a31 <| And.intro a32 <| And.intro hT <| And.intro h1 <| And.intro h2 <| h3
  clear b a10 a11 a12 a20 a21 a22 a30 a31 a32 hT h1 h2 h3
  obtain ⟨a10, a11, a12, a20, a21, a22, a30, a31, a32, hT, h1, h2, h3⟩ := G
  by_cases q1 : n1 ≤ 70
  rotate_left
  · rw [decide_eq_false q1]
    go_wp2_with fail
    refine (dtold_any hT).mono ?_
    rintro en w99 ⟨rfl, b⟩
    replace BB := below_next BB BB.size b rfl rfl rfl rfl
    clear b
    go_wp2
    go_ret
    exact ⟨by first | rfl | simp, BB⟩
  rw [decide_eq_true q1]
  go_wp2_with fail
  refine (dfew_any (s := s2) (e := e2) x2).mono ?_
  rintro en w2 ⟨rfl, b⟩
  replace BB := below_next BB BB.size b rfl rfl rfl rfl
  have G := mv b rfl <| And.intro a10 <| And.intro a11 <| And.intro a12 <| And.intro a20 <| And.intro a21 <| And.intro a22 <| And.intro a30 <| And.intro a31 <| And.intro a32 <| And.intro hT <| And.intro h1 <| And.intro h2 <| h3
  clear b a10 a11 a12 a20 a21 a22 a30 a31 a32 hT h1 h2 h3
  obtain ⟨a10, a11, a12, a20, a21, a22, a30, a31, a32, hT, h1, h2, h3⟩ := G
  by_cases q2 : n2 ≤ 70
  rotate_left
  · rw [decide_eq_false q2]
    go_wp2_with fail
    refine (dtold_any hT).mono ?_
    rintro en w99 ⟨rfl, b⟩
    replace BB := below_next BB BB.size b rfl rfl rfl rfl
    clear b
    go_wp2
    go_ret
    exact ⟨by first | rfl | simp, BB⟩
  rw [decide_eq_true q2]
  go_wp2_with fail
  refine (dfew_any (s := s3) (e := e3) x3).mono ?_
  rintro en w3 ⟨rfl, b⟩
  replace BB := below_next BB BB.size b rfl rfl rfl rfl
  have G := mv b rfl <| And.intro a10 <| And.intro a11 <| And.intro a12 <| And.intro a20 <| And.intro a21 <| And.intro a22 <| And.intro a30 <| And.intro a31 <| And.intro a32 <| And.intro hT <| And.intro h1 <| And.intro h2 <| h3
  clear b a10 a11 a12 a20 a21 a22 a30 a31 a32 hT h1 h2 h3
  obtain ⟨a10, a11, a12, a20, a21, a22, a30, a31, a32, hT, h1, h2, h3⟩ := G
  by_cases q3 : n3 ≤ 70
  rotate_left
  · rw [decide_eq_false q3]
    go_wp2_with fail
    refine (dtold_any hT).mono ?_
    rintro en w99 ⟨rfl, b⟩
    replace BB := below_next BB BB.size b rfl rfl rfl rfl
    clear b
    go_wp2
    go_ret
    exact ⟨by first | rfl | simp, BB⟩
  rw [decide_eq_true q3]
  clear x1 x2 x3 q1 q2 q3
  go_wp2_with fail
  refine (dmay_any (s := s1) (e := e1) hT h1).mono ?_
  rintro en w4 ⟨rfl, b⟩
  replace BB := below_next BB BB.size b rfl rfl rfl rfl
  have G := mv b rfl <| And.intro a10 <| And.intro a11 <| And.intro a12 <| And.intro a20 <| And.intro a21 <| And.intro a22 <| And.intro a30 <| And.intro a31 <| And.intro a32 <| And.intro hT <| And.intro h1 <| And.intro h2 <| h3
  clear b a10 a11 a12 a20 a21 a22 a30 a31 a32 hT h1 h2 h3
  obtain ⟨a10, a11, a12, a20, a21, a22, a30, a31, a32, hT, h1, h2, h3⟩ := G
  cases hd1 : mayD s1 l1 e1
  · clear hd1
    go_wp2_with fail
    refine (dtold_any hT).mono ?_
    rintro en w99 ⟨rfl, b⟩
    replace BB := below_next BB BB.size b rfl rfl rfl rfl
    clear b
    go_wp2
    go_ret
    exact ⟨by first | rfl | simp, BB⟩
  obtain ⟨hm, hok⟩ := mayD_of h1.lt hd1
  have N1 := (nt_of h1 hm).1
  generalize val W l1 = m1 at N1 hok
  have O1 := Lib.hid hok
  clear hm hok hd1
  clear h1
  go_wp2_with fail
  refine (dmay_any (s := s2) (e := e2) hT h2).mono ?_
  rintro en w5 ⟨rfl, b⟩
  replace BB := below_next BB BB.size b rfl rfl rfl rfl
  have G := mv b rfl <| And.intro a10 <| And.intro a11 <| And.intro a12 <| And.intro a20 <| And.intro a21 <| And.intro a22 <| And.intro a30 <| And.intro a31 <| And.intro a32 <| And.intro hT <| And.intro h2 <| And.intro h3 <| N1
  clear b a10 a11 a12 a20 a21 a22 a30 a31 a32 hT h2 h3 N1
  obtain ⟨a10, a11, a12, a20, a21, a22, a30, a31, a32, hT, h2, h3, N1⟩ := G
  cases hd2 : mayD s2 l2 e2
  · clear hd2
    go_wp2_with fail
    refine (dtold_any hT).mono ?_
    rintro en w99 ⟨rfl, b⟩
    replace BB := below_next BB BB.size b rfl rfl rfl rfl
    clear b
    go_wp2
    go_ret
    exact ⟨by first | rfl | simp, BB⟩
  obtain ⟨hm, hok⟩ := mayD_of h2.lt hd2
  have N2 := (nt_of h2 hm).1
  generalize val W l2 = m2 at N2 hok
  have O2 := Lib.hid hok
  clear hm hok hd2
  clear h2
  go_wp2_with fail
  refine (dmay_any (s := s3) (e := e3) hT h3).mono ?_
  rintro en w6 ⟨rfl, b⟩
  replace BB := below_next BB BB.size b rfl rfl rfl rfl
  have G := mv b rfl <| And.intro a10 <| And.intro a11 <| And.intro a12 <| And.intro a20 <| And.intro a21 <| And.intro a22 <| And.intro a30 <| And.intro a31 <| And.intro a32 <| And.intro hT <| And.intro h3 <| And.intro N1 <| N2
  clear b a10 a11 a12 a20 a21 a22 a30 a31 a32 hT h3 N1 N2
  obtain ⟨a10, a11, a12, a20, a21, a22, a30, a31, a32, hT, h3, N1, N2⟩ := G
  cases hd3 : mayD s3 l3 e3
  · clear hd3
    go_wp2_with fail
    refine (dtold_any hT).mono ?_
    rintro en w99 ⟨rfl, b⟩
    replace BB := below_next BB BB.size b rfl rfl rfl rfl
    clear b
    go_wp2
    go_ret
    exact ⟨by first | rfl | simp, BB⟩
  obtain ⟨hm, hok⟩ := mayD_of h3.lt hd3
  have N3 := (nt_of h3 hm).1
  generalize val W l3 = m3 at N3 hok
  have O3 := Lib.hid hok
  clear hm hok hd3
  clear h3
  go_wp2_with fail
  refine (dadd_ok hK hT N1 N2 O1.out O2.out).mono ?_
  rintro en v4 ⟨k4, s4, A4, n4, c4, m4, e4, rfl, hp, N4, b⟩
  have P4 := Lib.hid hp
  have O4 := Lib.hid (nmv_okd hp)
  clear hp
  replace BB := below_next BB BB.size b rfl rfl rfl rfl
  have G := mv b rfl <| And.intro a10 <| And.intro a11 <| And.intro a12 <| And.intro a20 <| And.intro a21 <| And.intro a22 <| And.intro a30 <| And.intro a31 <| And.intro a32 <| And.intro hT <| And.intro N1 <| And.intro N2 <| N3
  clear b a10 a11 a12 a20 a21 a22 a30 a31 a32 hT N1 N2 N3
  obtain ⟨a10, a11, a12, a20, a21, a22, a30, a31, a32, hT, N1, N2, N3⟩ := G
  obtain ⟨a40, a41, a42⟩ := (Box.new v4 s4 A4 n4 c4 e4).held
  have b := below_alloc v4 (.cells #[.bool s4, .slice A4 n4 c4, .int .i64 e4] 24)
  replace BB := below_next BB BB.size b rfl rfl rfl rfl
  have G := mv b rfl <| And.intro a10 <| And.intro a11 <| And.intro a12 <| And.intro a20 <| And.intro a21 <| And.intro a22 <| And.intro a30 <| And.intro a31 <| And.intro a32 <| And.intro hT <| And.intro N1 <| And.intro N2 <| And.intro N3 <| N4
  clear b a10 a11 a12 a20 a21 a22 a30 a31 a32 hT N1 N2 N3 N4
  obtain ⟨a10, a11, a12, a20, a21, a22, a30, a31, a32, hT, N1, N2, N3, N4⟩ := G
  go_wp2_with fail
  refine (dmul_ok hT N4 N3 O4.out O3.out).mono ?_
  rintro en v5 ⟨k5, s5, A5, n5, c5, m5, e5, rfl, hp, N5, b⟩
  have P5 := Lib.hid hp
  have O5 := Lib.hid (nm_okd hp)
  clear hp
  replace BB := below_next BB BB.size b rfl rfl rfl rfl
  have G := mv b rfl <| And.intro a10 <| And.intro a11 <| And.intro a12 <| And.intro a20 <| And.intro a21 <| And.intro a22 <| And.intro a30 <| And.intro a31 <| And.intro a32 <| And.intro hT <| And.intro N1 <| And.intro N2 <| And.intro N3 <| And.intro N4 <| And.intro a40 <| And.intro a41 <| a42
  clear b a10 a11 a12 a20 a21 a22 a30 a31 a32 hT N1 N2 N3 N4 a40 a41 a42
  obtain ⟨a10, a11, a12, a20, a21, a22, a30, a31, a32, hT, N1, N2, N3, N4, a40, a41, a42⟩ := G
  obtain ⟨a50, a51, a52⟩ := (Box.new v5 s5 A5 n5 c5 e5).held
  have b := below_alloc v5 (.cells #[.bool s5, .slice A5 n5 c5, .int .i64 e5] 24)
  replace BB := below_next BB BB.size b rfl rfl rfl rfl
  have G := mv b rfl <| And.intro a10 <| And.intro a11 <| And.intro a12 <| And.intro a20 <| And.intro a21 <| And.intro a22 <| And.intro a30 <| And.intro a31 <| And.intro a32 <| And.intro hT <| And.intro N1 <| And.intro N2 <| And.intro N3 <| And.intro N4 <| And.intro a40 <| And.intro a41 <| And.intro a42 <| N5
  clear b a10 a11 a12 a20 a21 a22 a30 a31 a32 hT N1 N2 N3 N4 a40 a41 a42 N5
  obtain ⟨a10, a11, a12, a20, a21, a22, a30, a31, a32, hT, N1, N2, N3, N4, a40, a41, a42, N5⟩ := G
  go_wp2_with fail
  refine (dmul_ok hT N1 N3 O1.out O3.out).mono ?_
  rintro en v6 ⟨k6, s6, A6, n6, c6, m6, e6, rfl, hp, N6, b⟩
  have P6 := Lib.hid hp
  have O6 := Lib.hid (nm_okd hp)
  clear hp
  replace BB := below_next BB BB.size b rfl rfl rfl rfl
  have G := mv b rfl <| And.intro a10 <| And.intro a11 <| And.intro a12 <| And.intro a20 <| And.intro a21 <| And.intro a22 <| And.intro a30 <| And.intro a31 <| And.intro a32 <| And.intro hT <| And.intro N1 <| And.intro N2 <| And.intro N3 <| And.intro N4 <| And.intro a40 <| And.intro a41 <| And.intro a42 <| And.intro N5 <| And.intro a50 <| And.intro a51 <| a52
  clear b a10 a11 a12 a20 a21 a22 a30 a31 a32 hT N1 N2 N3 N4 a40 a41 a42 N5 a50 a51 a52
  obtain ⟨a10, a11, a12, a20, a21, a22, a30, a31, a32, hT, N1, N2, N3, N4, a40, a41, a42, N5, a50, a51, a52⟩ := G
  obtain ⟨a60, a61, a62⟩ := (Box.new v6 s6 A6 n6 c6 e6).held
  have b := below_alloc v6 (.cells #[.bool s6, .slice A6 n6 c6, .int .i64 e6] 24)
  replace BB := below_next BB BB.size b rfl rfl rfl rfl
  have G := mv b rfl <| And.intro a10 <| And.intro a11 <| And.intro a12 <| And.intro a20 <| And.intro a21 <| And.intro a22 <| And.intro a30 <| And.intro a31 <| And.intro a32 <| And.intro hT <| And.intro N1 <| And.intro N2 <| And.intro N3 <| And.intro N4 <| And.intro a40 <| And.intro a41 <| And.intro a42 <| And.intro N5 <| And.intro a50 <| And.intro a51 <| And.intro a52 <| N6
  clear b a10 a11 a12 a20 a21 a22 a30 a31 a32 hT N1 N2 N3 N4 a40 a41 a42 N5 a50 a51 a52 N6
  obtain ⟨a10, a11, a12, a20, a21, a22, a30, a31, a32, hT, N1, N2, N3, N4, a40, a41, a42, N5, a50, a51, a52, N6⟩ := G
  go_wp2_with fail
  refine (dmul_ok hT N2 N3 O2.out O3.out).mono ?_
  rintro en v7 ⟨k7, s7, A7, n7, c7, m7, e7, rfl, hp, N7, b⟩
  have P7 := Lib.hid hp
  have O7 := Lib.hid (nm_okd hp)
  clear hp
  replace BB := below_next BB BB.size b rfl rfl rfl rfl
  have G := mv b rfl <| And.intro a10 <| And.intro a11 <| And.intro a12 <| And.intro a20 <| And.intro a21 <| And.intro a22 <| And.intro a30 <| And.intro a31 <| And.intro a32 <| And.intro hT <| And.intro N1 <| And.intro N2 <| And.intro N3 <| And.intro N4 <| And.intro a40 <| And.intro a41 <| And.intro a42 <| And.intro N5 <| And.intro a50 <| And.intro a51 <| And.intro a52 <| And.intro N6 <| And.intro a60 <| And.intro a61 <| a62
  clear b a10 a11 a12 a20 a21 a22 a30 a31 a32 hT N1 N2 N3 N4 a40 a41 a42 N5 a50 a51 a52 N6 a60 a61 a62
  obtain ⟨a10, a11, a12, a20, a21, a22, a30, a31, a32, hT, N1, N2, N3, N4, a40, a41, a42, N5, a50, a51, a52, N6, a60, a61, a62⟩ := G
  obtain ⟨a70, a71, a72⟩ := (Box.new v7 s7 A7 n7 c7 e7).held
  have b := below_alloc v7 (.cells #[.bool s7, .slice A7 n7 c7, .int .i64 e7] 24)
  replace BB := below_next BB BB.size b rfl rfl rfl rfl
  have G := mv b rfl <| And.intro a10 <| And.intro a11 <| And.intro a12 <| And.intro a20 <| And.intro a21 <| And.intro a22 <| And.intro a30 <| And.intro a31 <| And.intro a32 <| And.intro hT <| And.intro N1 <| And.intro N2 <| And.intro N3 <| And.intro N4 <| And.intro a40 <| And.intro a41 <| And.intro a42 <| And.intro N5 <| And.intro a50 <| And.intro a51 <| And.intro a52 <| And.intro N6 <| And.intro a60 <| And.intro a61 <| And.intro a62 <| N7
  clear b a10 a11 a12 a20 a21 a22 a30 a31 a32 hT N1 N2 N3 N4 a40 a41 a42 N5 a50 a51 a52 N6 a60 a61 a62 N7
  obtain ⟨a10, a11, a12, a20, a21, a22, a30, a31, a32, hT, N1, N2, N3, N4, a40, a41, a42, N5, a50, a51, a52, N6, a60, a61, a62, N7⟩ := G
  go_wp2_with fail
  refine (dadd_ok hK hT N6 N7 O6.out O7.out).mono ?_
  rintro en v8 ⟨k8, s8, A8, n8, c8, m8, e8, rfl, hp, N8, b⟩
  have P8 := Lib.hid hp
  have O8 := Lib.hid (nmv_okd hp)
  clear hp
  replace BB := below_next BB BB.size b rfl rfl rfl rfl
  have G := mv b rfl <| And.intro a10 <| And.intro a11 <| And.intro a12 <| And.intro a20 <| And.intro a21 <| And.intro a22 <| And.intro a30 <| And.intro a31 <| And.intro a32 <| And.intro hT <| And.intro N1 <| And.intro N2 <| And.intro N3 <| And.intro N4 <| And.intro a40 <| And.intro a41 <| And.intro a42 <| And.intro N5 <| And.intro a50 <| And.intro a51 <| And.intro a52 <| And.intro N6 <| And.intro a60 <| And.intro a61 <| And.intro a62 <| And.intro N7 <| And.intro a70 <| And.intro a71 <| a72
  clear b a10 a11 a12 a20 a21 a22 a30 a31 a32 hT N1 N2 N3 N4 a40 a41 a42 N5 a50 a51 a52 N6 a60 a61 a62 N7 a70 a71 a72
  obtain ⟨a10, a11, a12, a20, a21, a22, a30, a31, a32, hT, N1, N2, N3, N4, a40, a41, a42, N5, a50, a51, a52, N6, a60, a61, a62, N7, a70, a71, a72⟩ := G
  obtain ⟨a80, a81, a82⟩ := (Box.new v8 s8 A8 n8 c8 e8).held
  have b := below_alloc v8 (.cells #[.bool s8, .slice A8 n8 c8, .int .i64 e8] 24)
  replace BB := below_next BB BB.size b rfl rfl rfl rfl
  have G := mv b rfl <| And.intro a10 <| And.intro a11 <| And.intro a12 <| And.intro a20 <| And.intro a21 <| And.intro a22 <| And.intro a30 <| And.intro a31 <| And.intro a32 <| And.intro hT <| And.intro N1 <| And.intro N2 <| And.intro N3 <| And.intro N4 <| And.intro a40 <| And.intro a41 <| And.intro a42 <| And.intro N5 <| And.intro a50 <| And.intro a51 <| And.intro a52 <| And.intro N6 <| And.intro a60 <| And.intro a61 <| And.intro a62 <| And.intro N7 <| And.intro a70 <| And.intro a71 <| And.intro a72 <| N8
  clear b a10 a11 a12 a20 a21 a22 a30 a31 a32 hT N1 N2 N3 N4 a40 a41 a42 N5 a50 a51 a52 N6 a60 a61 a62 N7 a70 a71 a72 N8
  obtain ⟨a10, a11, a12, a20, a21, a22, a30, a31, a32, hT, N1, N2, N3, N4, a40, a41, a42, N5, a50, a51, a52, N6, a60, a61, a62, N7, a70, a71, a72, N8⟩ := G
  by_cases z4 : k4 = 0
  rotate_left
  · have f4 : (k4 != 0) = true := by simp [z4]
    clear z4
    go_wp2_with fail
    refine (dtold_any hT).mono ?_
    rintro en w99 ⟨rfl, b⟩
    replace BB := below_next BB BB.size b rfl rfl rfl rfl
    clear b
    go_wp2
    go_ret
    exact ⟨by first | rfl | simp, BB⟩
  subst z4
  by_cases z5 : k5 = 0
  rotate_left
  · have f5 : (k5 != 0) = true := by simp [z5]
    clear z5
    go_wp2_with fail
    refine (dtold_any hT).mono ?_
    rintro en w99 ⟨rfl, b⟩
    replace BB := below_next BB BB.size b rfl rfl rfl rfl
    clear b
    go_wp2
    go_ret
    exact ⟨by first | rfl | simp, BB⟩
  subst z5
  by_cases z6 : k6 = 0
  rotate_left
  · have f6 : (k6 != 0) = true := by simp [z6]
    clear z6
    go_wp2_with fail
    refine (dtold_any hT).mono ?_
    rintro en w99 ⟨rfl, b⟩
    replace BB := below_next BB BB.size b rfl rfl rfl rfl
    clear b
    go_wp2
    go_ret
    exact ⟨by first | rfl | simp, BB⟩
  subst z6
  by_cases z7 : k7 = 0
  rotate_left
  · have f7 : (k7 != 0) = true := by simp [z7]
    clear z7
    go_wp2_with fail
    refine (dtold_any hT).mono ?_
    rintro en w99 ⟨rfl, b⟩
    replace BB := below_next BB BB.size b rfl rfl rfl rfl
    clear b
    go_wp2
    go_ret
    exact ⟨by first | rfl | simp, BB⟩
  subst z7
  by_cases z8 : k8 = 0
  rotate_left
  · have f8 : (k8 != 0) = true := by simp [z8]
    clear z8
    go_wp2_with fail
    refine (dtold_any hT).mono ?_
    rintro en w99 ⟨rfl, b⟩
    replace BB := below_next BB BB.size b rfl rfl rfl rfl
    clear b
    go_wp2
    go_ret
    exact ⟨by first | rfl | simp, BB⟩
  subst z8
  obtain ⟨rfl, rfl, rfl⟩ := dist_same hK O1.out O2.out O3.out P4.out P5.out P6.out P7.out P8.out
  clear a30 a31 a32 a60 a61 a62 a70 a71 a72 N3 N6 N7
  clear P5 P6 P7 P8 O3 O6 O7 O8
  go_wp2_with fail
  refine (dsub_ok hK hT N4 N2 O4.out O2.out).mono ?_
  rintro en v9 ⟨k9, s9, A9, n9, c9, m9, e9, rfl, hp, N9, b⟩
  obtain ⟨rfl, g1, g2, g3⟩ := nmv_hit hK hp O1.out (by have := (nmv_ok P4.out).2; omega)
  obtain rfl := g1.symm
  obtain rfl := g2.symm
  obtain rfl := g3.symm
  clear hp
  replace BB := below_next BB BB.size b rfl rfl rfl rfl
  have G := mv b rfl <| And.intro a10 <| And.intro a11 <| And.intro a12 <| And.intro a20 <| And.intro a21 <| And.intro a22 <| And.intro hT <| And.intro N1 <| And.intro N2 <| And.intro N4 <| And.intro a40 <| And.intro a41 <| And.intro a42 <| And.intro N5 <| And.intro a50 <| And.intro a51 <| And.intro a52 <| And.intro N8 <| And.intro a80 <| And.intro a81 <| a82
  clear b a10 a11 a12 a20 a21 a22 hT N1 N2 N4 a40 a41 a42 N5 a50 a51 a52 N8 a80 a81 a82
  obtain ⟨a10, a11, a12, a20, a21, a22, hT, N1, N2, N4, a40, a41, a42, N5, a50, a51, a52, N8, a80, a81, a82⟩ := G
  obtain ⟨a90, a91, a92⟩ := (Box.new v9 s1 A9 n9 c9 e1).held
  have b := below_alloc v9 (.cells #[.bool s1, .slice A9 n9 c9, .int .i64 e1] 24)
  replace BB := below_next BB BB.size b rfl rfl rfl rfl
  have G := mv b rfl <| And.intro a10 <| And.intro a11 <| And.intro a12 <| And.intro a20 <| And.intro a21 <| And.intro a22 <| And.intro hT <| And.intro N1 <| And.intro N2 <| And.intro N4 <| And.intro a40 <| And.intro a41 <| And.intro a42 <| And.intro N5 <| And.intro a50 <| And.intro a51 <| And.intro a52 <| And.intro N8 <| And.intro a80 <| And.intro a81 <| And.intro a82 <| N9
  clear b a10 a11 a12 a20 a21 a22 hT N1 N2 N4 a40 a41 a42 N5 a50 a51 a52 N8 a80 a81 a82 N9
  obtain ⟨a10, a11, a12, a20, a21, a22, hT, N1, N2, N4, a40, a41, a42, N5, a50, a51, a52, N8, a80, a81, a82, N9⟩ := G
  go_wp2_with fail
  refine (dadd_ok hK hT N2 N1 O2.out O1.out).mono ?_
  rintro en vk ⟨kk, sk, Ak, nk, ck, mk, ek, rfl, hp, Nk, b⟩
  rw [Int.add_comm] at hp
  obtain ⟨rfl, rfl, rfl, rfl⟩ := nmv_fun P4.out hp
  clear hp
  replace BB := below_next BB BB.size b rfl rfl rfl rfl
  have G := mv b rfl <| And.intro a10 <| And.intro a11 <| And.intro a12 <| And.intro a20 <| And.intro a21 <| And.intro a22 <| And.intro hT <| And.intro N1 <| And.intro N2 <| And.intro N4 <| And.intro a40 <| And.intro a41 <| And.intro a42 <| And.intro N5 <| And.intro a50 <| And.intro a51 <| And.intro a52 <| And.intro N8 <| And.intro a80 <| And.intro a81 <| And.intro a82 <| And.intro N9 <| And.intro a90 <| And.intro a91 <| a92
  clear b a10 a11 a12 a20 a21 a22 hT N1 N2 N4 a40 a41 a42 N5 a50 a51 a52 N8 a80 a81 a82 N9 a90 a91 a92
  obtain ⟨a10, a11, a12, a20, a21, a22, hT, N1, N2, N4, a40, a41, a42, N5, a50, a51, a52, N8, a80, a81, a82, N9, a90, a91, a92⟩ := G
  obtain ⟨ak0, ak1, ak2⟩ := (Box.new vk s4 Ak nk ck e4).held
  have b := below_alloc vk (.cells #[.bool s4, .slice Ak nk ck, .int .i64 e4] 24)
  replace BB := below_next BB BB.size b rfl rfl rfl rfl
  have G := mv b rfl <| And.intro a10 <| And.intro a11 <| And.intro a12 <| And.intro a20 <| And.intro a21 <| And.intro a22 <| And.intro hT <| And.intro N1 <| And.intro N2 <| And.intro N4 <| And.intro a40 <| And.intro a41 <| And.intro a42 <| And.intro N5 <| And.intro a50 <| And.intro a51 <| And.intro a52 <| And.intro N8 <| And.intro a80 <| And.intro a81 <| And.intro a82 <| And.intro N9 <| And.intro a90 <| And.intro a91 <| And.intro a92 <| Nk
  clear b a10 a11 a12 a20 a21 a22 hT N1 N2 N4 a40 a41 a42 N5 a50 a51 a52 N8 a80 a81 a82 N9 a90 a91 a92 Nk
  obtain ⟨a10, a11, a12, a20, a21, a22, hT, N1, N2, N4, a40, a41, a42, N5, a50, a51, a52, N8, a80, a81, a82, N9, a90, a91, a92, Nk⟩ := G
  go_wp2_with fail
  refine (dtold_any hT).mono ?_
  rintro en w14 ⟨rfl, b⟩
  replace BB := below_next BB BB.size b rfl rfl rfl rfl
  have G := mv b rfl <| And.intro a10 <| And.intro a11 <| And.intro a12 <| And.intro a20 <| And.intro a21 <| And.intro a22 <| And.intro hT <| And.intro N1 <| And.intro N2 <| And.intro N4 <| And.intro a40 <| And.intro a41 <| And.intro a42 <| And.intro N5 <| And.intro a50 <| And.intro a51 <| And.intro a52 <| And.intro N8 <| And.intro a80 <| And.intro a81 <| And.intro a82 <| And.intro N9 <| And.intro a90 <| And.intro a91 <| And.intro a92 <| And.intro Nk <| And.intro ak0 <| And.intro ak1 <| ak2
  clear b a10 a11 a12 a20 a21 a22 hT N1 N2 N4 a40 a41 a42 N5 a50 a51 a52 N8 a80 a81 a82 N9 a90 a91 a92 Nk ak0 ak1 ak2
  obtain ⟨a10, a11, a12, a20, a21, a22, hT, N1, N2, N4, a40, a41, a42, N5, a50, a51, a52, N8, a80, a81, a82, N9, a90, a91, a92, Nk, ak0, ak1, ak2⟩ := G
  go_wp2_with fail
  refine (dsame_self (s := s5) (e := e5) N5 N8).mono ?_
  rintro en w15 ⟨rfl, b⟩
  clear N8 a80 a81 a82
  replace BB := below_next BB BB.size b rfl rfl rfl rfl
  have G := mv b rfl <| And.intro a10 <| And.intro a11 <| And.intro a12 <| And.intro a20 <| And.intro a21 <| And.intro a22 <| And.intro hT <| And.intro N1 <| And.intro N2 <| And.intro N4 <| And.intro a40 <| And.intro a41 <| And.intro a42 <| And.intro N5 <| And.intro a50 <| And.intro a51 <| And.intro a52 <| And.intro N9 <| And.intro a90 <| And.intro a91 <| And.intro a92 <| And.intro Nk <| And.intro ak0 <| And.intro ak1 <| ak2
  clear b a10 a11 a12 a20 a21 a22 hT N1 N2 N4 a40 a41 a42 N5 a50 a51 a52 N9 a90 a91 a92 Nk ak0 ak1 ak2
  obtain ⟨a10, a11, a12, a20, a21, a22, hT, N1, N2, N4, a40, a41, a42, N5, a50, a51, a52, N9, a90, a91, a92, Nk, ak0, ak1, ak2⟩ := G
  go_wp2_with fail
  refine (dsame_self (s := s1) (e := e1) N9 N1).mono ?_
  rintro en w16 ⟨rfl, b⟩
  clear N9 N1 a10 a11 a12 a90 a91 a92 N2 a20 a21 a22
  replace BB := below_next BB BB.size b rfl rfl rfl rfl
  have G := mv b rfl <| And.intro hT <| And.intro N4 <| And.intro a40 <| And.intro a41 <| And.intro a42 <| And.intro N5 <| And.intro a50 <| And.intro a51 <| And.intro a52 <| And.intro Nk <| And.intro ak0 <| And.intro ak1 <| ak2
  clear b hT N4 a40 a41 a42 N5 a50 a51 a52 Nk ak0 ak1 ak2
  obtain ⟨hT, N4, a40, a41, a42, N5, a50, a51, a52, Nk, ak0, ak1, ak2⟩ := G
  go_wp2_with fail
  refine (dsame_self (s := s4) (e := e4) Nk N4).mono ?_
  rintro en w17 ⟨rfl, b⟩
  clear Nk ak0 ak1 ak2
  replace BB := below_next BB BB.size b rfl rfl rfl rfl
  have G := mv b rfl <| And.intro hT <| And.intro N4 <| And.intro a40 <| And.intro a41 <| And.intro a42 <| And.intro N5 <| And.intro a50 <| And.intro a51 <| a52
  clear b hT N4 a40 a41 a42 N5 a50 a51 a52
  obtain ⟨hT, N4, a40, a41, a42, N5, a50, a51, a52⟩ := G
  go_wp2_with fail
  refine (dmay_yes hT N4 O4.out).mono ?_
  rintro en w18 ⟨rfl, b⟩
  clear N4 a40 a41 a42
  replace BB := below_next BB BB.size b rfl rfl rfl rfl
  have G := mv b rfl <| And.intro hT <| And.intro N5 <| And.intro a50 <| And.intro a51 <| a52
  clear b hT N5 a50 a51 a52
  obtain ⟨hT, N5, a50, a51, a52⟩ := G
  go_wp2_with fail
  refine (dmay_yes hT N5 O5.out).mono ?_
  rintro en w19 ⟨rfl, b⟩
  clear N5 a50 a51 a52
  replace BB := below_next BB BB.size b rfl rfl rfl rfl
  replace hT := mv b rfl hT
  clear b
  go_wp2
  go_ret
  exact ⟨by first | rfl | simp, BB⟩

end Go.Proofs.YtkfcnodnefpboaaDoor
