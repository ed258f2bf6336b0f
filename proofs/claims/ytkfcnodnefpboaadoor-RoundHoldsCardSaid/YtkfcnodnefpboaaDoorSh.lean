/-
  Contract of the statement RoundHolds's function at this translation: it returns true, whatever its arguments. Condition: the slices read as limbs, the table of math/bits reads as its text lays it.
-/
import Derived.Test.YtkfcnodnefpboaaDoorRh
namespace Go.Proofs.YtkfcnodnefpboaaDoor
open Go.RowKit

theorem ro_okd {x : Nat} {e : Int} {p : Nat} {up : Bool} {k : Int} {s' : Bool} {m' : Nat} {e' : Int} (h : RoTold x e p up k s' m' e') : OkD s' m' e' := by
  obtain ⟨_, _, _, _, _, h⟩ := h
  exact nm_okd h
theorem ro_bits {x : Nat} {e : Int} {p : Nat} {up : Bool} {k : Int} {s' : Bool} {m' : Nat} {e' : Int} (hp : 1 ≤ p) (h : RoTold x e p up k s' m' e') : blen m' ≤ p := by
  obtain ⟨_, _, _, _, _, h⟩ := h
  exact side_bits hp h

theorem cmpV_le {V U z : Int} (hz : cmpV V U = z) (h : V ≤ U) : z ≤ 0 := by
  rcases cmpV_cases V U with ⟨h1, h2⟩ | ⟨h1, h2⟩ | ⟨h1, h2⟩ <;> omega

set_option maxRecDepth 100000 in
set_option maxHeartbeats 8000000 in
theorem holds_any {w : World} {A1 : Option Addr} {n1 c1 : Nat} {l1 : List Nat} {s1 : Bool} {e1 : Int} {A2 : Option Addr} {n2 c2 : Nat} {l2 : List Nat} {s2 : Bool} {e2 : Int} {p : Int} (hT : Tab w) (h1 : Rd w .u64 W A1 n1 c1 l1) (h2 : Rd w .u64 W A2 n2 c2 l2) :
    Calls Tryd.prog 14 #[.agg #[.bool s1, .slice A1 n1 c1, .int .i64 e1], .agg #[.bool s2, .slice A2 n2 c2, .int .i64 e2], .int .i64 p] w fun en w' => ToldEnd w en w' := by
  obtain ⟨K, hK⟩ := scale_has
  obtain ⟨rn, hrn⟩ := Int.eq_ofNat_of_zero_le (show 0 ≤ IntKind.u64.wrap p by rw [IntKind.wrap_u64]; omega)
  obtain ⟨qn, hqn⟩ : ∃ q, q = rn % 150 := ⟨_, rfl⟩
  obtain ⟨n, hnn⟩ : ∃ n, n = 1 + qn := ⟨_, rfl⟩
  have uun : (rn : Int) % 150 = (qn : Int) := by omega
  have uvn : (1 : Int) + (qn : Int) = (n : Int) := by omega
  have uwn : (0 : Int) ≤ (rn : Int) := by omega
  have uxn : (qn : Int) ≤ 150 := by omega
  have nlo : 1 ≤ n := by omega
  have nhi : n ≤ 150 := by omega
  have uyn : (n : Int) ≤ 150 := by omega
  clear hqn hnn
  have BB := two_below w (.cells #[.bool s1, .slice A1 n1 c1, .int .i64 e1] 24) (.cells #[.bool s2, .slice A2 n2 c2, .int .i64 e2] 24)
  obtain ⟨a10, a11, a12, a20, a21, a22⟩ := (two_new w s1 s2 A1 A2 n1 c1 n2 c2 e1 e2).held
  have G := mv BB rfl <| And.intro hT <| And.intro h1 <| h2
  clear hT h1 h2
  obtain ⟨hT, h1, h2⟩ := G
  by_cases q1 : n1 ≤ 8
  rotate_left
  · have d1 : decide ((8 : Int) < (n1 : Int)) = true := decide_eq_true (by omega)
    go_enter Tryd.func14, Tryd.ntmps14
    go_wp2_with fail
    refine (rtold_any hT).mono ?_
    rintro en w99 ⟨rfl, b⟩
    replace BB := below_next BB BB.size b rfl rfl rfl rfl
    clear b
    go_wp2
    go_ret
    exact ⟨by first | rfl | simp, BB⟩
  have d1 : decide ((8 : Int) < (n1 : Int)) = false := decide_eq_false (by omega)
  by_cases q2 : n2 ≤ 8
  rotate_left
  · have d2 : decide ((8 : Int) < (n2 : Int)) = true := decide_eq_true (by omega)
    go_enter Tryd.func14, Tryd.ntmps14
    go_wp2_with fail
    refine (rtold_any hT).mono ?_
    rintro en w99 ⟨rfl, b⟩
    replace BB := below_next BB BB.size b rfl rfl rfl rfl
    clear b
    go_wp2
    go_ret
    exact ⟨by first | rfl | simp, BB⟩
  have d2 : decide ((8 : Int) < (n2 : Int)) = false := decide_eq_false (by omega)
  go_enter Tryd.func14, Tryd.ntmps14
  go_wp2_with fail
  refine (dmay_any (s := s1) (e := e1) hT h1).mono ?_
  rintro en w1 ⟨rfl, b⟩
  replace BB := below_next BB BB.size b rfl rfl rfl rfl
  have G := mv b rfl <| And.intro a10 <| And.intro a11 <| And.intro a12 <| And.intro a20 <| And.intro a21 <| And.intro a22 <| And.intro hT <| And.intro h1 <| h2
  clear b a10 a11 a12 a20 a21 a22 hT h1 h2
  obtain ⟨a10, a11, a12, a20, a21, a22, hT, h1, h2⟩ := G
  cases hd1 : mayD s1 l1 e1
  · clear hd1
    go_wp2_with fail
    refine (rtold_any hT).mono ?_
    rintro en w99 ⟨rfl, b⟩
    replace BB := below_next BB BB.size b rfl rfl rfl rfl
    clear b
    go_wp2
    go_ret
    exact ⟨by first | rfl | simp, BB⟩
  obtain ⟨hm, hok⟩ := mayD_of h1.lt hd1
  have N1 := (nt_of h1 hm).1
  generalize val W l1 = m1 at N1 hok
  have O1 := Lib.hid hok
  clear hm hok hd1
  clear h1
  go_wp2_with fail
  refine (dmay_any (s := s2) (e := e2) hT h2).mono ?_
  rintro en w2 ⟨rfl, b⟩
  replace BB := below_next BB BB.size b rfl rfl rfl rfl
  have G := mv b rfl <| And.intro a10 <| And.intro a11 <| And.intro a12 <| And.intro a20 <| And.intro a21 <| And.intro a22 <| And.intro hT <| And.intro h2 <| N1
  clear b a10 a11 a12 a20 a21 a22 hT h2 N1
  obtain ⟨a10, a11, a12, a20, a21, a22, hT, h2, N1⟩ := G
  cases hd2 : mayD s2 l2 e2
  · clear hd2
    go_wp2_with fail
    refine (rtold_any hT).mono ?_
    rintro en w99 ⟨rfl, b⟩
    replace BB := below_next BB BB.size b rfl rfl rfl rfl
    clear b
    go_wp2
    go_ret
    exact ⟨by first | rfl | simp, BB⟩
  obtain ⟨hm, hok⟩ := mayD_of h2.lt hd2
  have N2 := (nt_of h2 hm).1
  generalize val W l2 = m2 at N2 hok
  have O2 := Lib.hid hok
  clear hm hok hd2
  clear h2
  have bx := Lib.hid (blen_nt N1)
  have bY := Lib.hid (blen_nt N2)
  clear q1 q2 d1 d2
  rcases signD_cases s2 m2 with ⟨hm0, hz⟩ | ⟨hm0, hs, hz⟩ | ⟨hm0, hs, hz⟩
  · clear hm0
    go_wp2_with fail
    refine (sign_is (z := 0) hT N2 O2.out hz).mono ?_
    rintro en w3 ⟨rfl, b⟩
    replace BB := below_next BB BB.size b rfl rfl rfl rfl
    have G := mv b rfl <| And.intro a10 <| And.intro a11 <| And.intro a12 <| And.intro a20 <| And.intro a21 <| And.intro a22 <| And.intro hT <| And.intro N1 <| N2
    clear b a10 a11 a12 a20 a21 a22 hT N1 N2
    obtain ⟨a10, a11, a12, a20, a21, a22, hT, N1, N2⟩ := G
    go_wp2_with fail
    refine (rtold_any hT).mono ?_
    rintro en w99 ⟨rfl, b⟩
    replace BB := below_next BB BB.size b rfl rfl rfl rfl
    clear b
    go_wp2
    go_ret
    exact ⟨by first | rfl | simp, BB⟩
  rotate_left
  · clear hm0 hs
    go_wp2_with fail
    refine (sign_is (z := -1) hT N2 O2.out hz).mono ?_
    rintro en w3 ⟨rfl, b⟩
    replace BB := below_next BB BB.size b rfl rfl rfl rfl
    have G := mv b rfl <| And.intro a10 <| And.intro a11 <| And.intro a12 <| And.intro a20 <| And.intro a21 <| And.intro a22 <| And.intro hT <| And.intro N1 <| N2
    clear b a10 a11 a12 a20 a21 a22 hT N1 N2
    obtain ⟨a10, a11, a12, a20, a21, a22, hT, N1, N2⟩ := G
    go_wp2_with fail
    refine (rtold_any hT).mono ?_
    rintro en w99 ⟨rfl, b⟩
    replace BB := below_next BB BB.size b rfl rfl rfl rfl
    clear b
    go_wp2
    go_ret
    exact ⟨by first | rfl | simp, BB⟩
  subst hs
  have Y2 := Lib.hid hm0
  clear hm0
  go_wp2_with fail
  refine (sign_is (z := 1) hT N2 O2.out hz).mono ?_
  rintro en w3 ⟨rfl, b⟩
  clear hz
  replace BB := below_next BB BB.size b rfl rfl rfl rfl
  have G := mv b rfl <| And.intro a10 <| And.intro a11 <| And.intro a12 <| And.intro a20 <| And.intro a21 <| And.intro a22 <| And.intro hT <| And.intro N1 <| N2
  clear b a10 a11 a12 a20 a21 a22 hT N1 N2
  obtain ⟨a10, a11, a12, a20, a21, a22, hT, N1, N2⟩ := G
  go_wp2_with fail
  refine (rquot_ok (p := n) hT N1 N2 O1.out O2.out nlo (by omega) Y2.out).mono ?_
  rintro en v3 ⟨k3, s3, A3, n3, c3, m3, e3, rfl, hp, N3, b⟩
  have P3 := Lib.hid hp
  have O3 := Lib.hid (nm_okd hp)
  clear hp
  replace BB := below_next BB BB.size b rfl rfl rfl rfl
  have G := mv b rfl <| And.intro a10 <| And.intro a11 <| And.intro a12 <| And.intro a20 <| And.intro a21 <| And.intro a22 <| And.intro hT <| And.intro N1 <| N2
  clear b a10 a11 a12 a20 a21 a22 hT N1 N2
  obtain ⟨a10, a11, a12, a20, a21, a22, hT, N1, N2⟩ := G
  obtain ⟨a30, a31, a32⟩ := (Box.new v3 s3 A3 n3 c3 e3).held
  have b := below_alloc v3 (.cells #[.bool s3, .slice A3 n3 c3, .int .i64 e3] 24)
  replace BB := below_next BB BB.size b rfl rfl rfl rfl
  have G := mv b rfl <| And.intro a10 <| And.intro a11 <| And.intro a12 <| And.intro a20 <| And.intro a21 <| And.intro a22 <| And.intro hT <| And.intro N1 <| And.intro N2 <| N3
  clear b a10 a11 a12 a20 a21 a22 hT N1 N2 N3
  obtain ⟨a10, a11, a12, a20, a21, a22, hT, N1, N2, N3⟩ := G
  go_wp2_with fail
  refine (rquot_ok (p := n) hT N1 N2 O1.out O2.out nlo (by omega) Y2.out).mono ?_
  rintro en v4 ⟨k4, s4, A4, n4, c4, m4, e4, rfl, hp, N4, b⟩
  have P4 := Lib.hid hp
  have O4 := Lib.hid (nm_okd hp)
  clear hp
  replace BB := below_next BB BB.size b rfl rfl rfl rfl
  have G := mv b rfl <| And.intro a10 <| And.intro a11 <| And.intro a12 <| And.intro a20 <| And.intro a21 <| And.intro a22 <| And.intro hT <| And.intro N1 <| And.intro N2 <| And.intro N3 <| And.intro a30 <| And.intro a31 <| a32
  clear b a10 a11 a12 a20 a21 a22 hT N1 N2 N3 a30 a31 a32
  obtain ⟨a10, a11, a12, a20, a21, a22, hT, N1, N2, N3, a30, a31, a32⟩ := G
  obtain ⟨a40, a41, a42⟩ := (Box.new v4 s4 A4 n4 c4 e4).held
  have b := below_alloc v4 (.cells #[.bool s4, .slice A4 n4 c4, .int .i64 e4] 24)
  replace BB := below_next BB BB.size b rfl rfl rfl rfl
  have G := mv b rfl <| And.intro a10 <| And.intro a11 <| And.intro a12 <| And.intro a20 <| And.intro a21 <| And.intro a22 <| And.intro hT <| And.intro N1 <| And.intro N2 <| And.intro N3 <| And.intro a30 <| And.intro a31 <| And.intro a32 <| N4
  clear b a10 a11 a12 a20 a21 a22 hT N1 N2 N3 a30 a31 a32 N4
  obtain ⟨a10, a11, a12, a20, a21, a22, hT, N1, N2, N3, a30, a31, a32, N4⟩ := G
  by_cases z3 : k3 = 0
  rotate_left
  · have f3 : (k3 == 0) = false := by simp [z3]
    clear z3
    clear a10 a11 a12 N1 N3 a30 a31 a32 N4 a40 a41 a42
    go_wp2_with fail
    refine (rroot_ok (p := n) hT N2 O2.out nlo (by omega) rfl).mono ?_
    rintro en v7 ⟨k7, s7, A7, n7, c7, m7, e7, rfl, hp, N7, b⟩
    have P7 := Lib.hid hp
    have O7 := Lib.hid (ro_okd hp)
    clear hp
    replace BB := below_next BB BB.size b rfl rfl rfl rfl
    have G := mv b rfl <| And.intro a20 <| And.intro a21 <| And.intro a22 <| And.intro hT <| N2
    clear b a20 a21 a22 hT N2
    obtain ⟨a20, a21, a22, hT, N2⟩ := G
    obtain ⟨a70, a71, a72⟩ := (Box.new v7 s7 A7 n7 c7 e7).held
    have b := below_alloc v7 (.cells #[.bool s7, .slice A7 n7 c7, .int .i64 e7] 24)
    replace BB := below_next BB BB.size b rfl rfl rfl rfl
    have G := mv b rfl <| And.intro a20 <| And.intro a21 <| And.intro a22 <| And.intro hT <| And.intro N2 <| N7
    clear b a20 a21 a22 hT N2 N7
    obtain ⟨a20, a21, a22, hT, N2, N7⟩ := G
    go_wp2_with fail
    refine (rroot_ok (p := n) hT N2 O2.out nlo (by omega) rfl).mono ?_
    rintro en v8 ⟨k8, s8, A8, n8, c8, m8, e8, rfl, hp, N8, b⟩
    have P8 := Lib.hid hp
    have O8 := Lib.hid (ro_okd hp)
    clear hp
    replace BB := below_next BB BB.size b rfl rfl rfl rfl
    have G := mv b rfl <| And.intro a20 <| And.intro a21 <| And.intro a22 <| And.intro hT <| And.intro N2 <| And.intro N7 <| And.intro a70 <| And.intro a71 <| a72
    clear b a20 a21 a22 hT N2 N7 a70 a71 a72
    obtain ⟨a20, a21, a22, hT, N2, N7, a70, a71, a72⟩ := G
    obtain ⟨a80, a81, a82⟩ := (Box.new v8 s8 A8 n8 c8 e8).held
    have b := below_alloc v8 (.cells #[.bool s8, .slice A8 n8 c8, .int .i64 e8] 24)
    replace BB := below_next BB BB.size b rfl rfl rfl rfl
    have G := mv b rfl <| And.intro a20 <| And.intro a21 <| And.intro a22 <| And.intro hT <| And.intro N2 <| And.intro N7 <| And.intro a70 <| And.intro a71 <| And.intro a72 <| N8
    clear b a20 a21 a22 hT N2 N7 a70 a71 a72 N8
    obtain ⟨a20, a21, a22, hT, N2, N7, a70, a71, a72, N8⟩ := G
    by_cases z7 : k7 = 0
    rotate_left
    · have f7 : (k7 != 0) = true := by simp [z7]
      clear z7
      go_wp2_with fail
      refine (rtold_any hT).mono ?_
      rintro en w99 ⟨rfl, b⟩
      replace BB := below_next BB BB.size b rfl rfl rfl rfl
      clear b
      go_wp2
      go_ret
      exact ⟨by first | rfl | simp, BB⟩
    subst z7
    by_cases z8 : k8 = 0
    rotate_left
    · have f8 : (k8 != 0) = true := by simp [z8]
      clear z8
      go_wp2_with fail
      refine (rtold_any hT).mono ?_
      rintro en w99 ⟨rfl, b⟩
      replace BB := below_next BB BB.size b rfl rfl rfl rfl
      clear b
      go_wp2
      go_ret
      exact ⟨by first | rfl | simp, BB⟩
    subst z8
    go_wp2_with fail
    refine (dmul_ok hT N7 N7 O7.out O7.out).mono ?_
    rintro en v9 ⟨k9, s9, A9, n9, c9, m9, e9, rfl, hp, N9, b⟩
    have P9 := Lib.hid hp
    have O9 := Lib.hid (nm_okd hp)
    clear hp
    replace BB := below_next BB BB.size b rfl rfl rfl rfl
    have G := mv b rfl <| And.intro a20 <| And.intro a21 <| And.intro a22 <| And.intro hT <| And.intro N2 <| And.intro N7 <| And.intro a70 <| And.intro a71 <| And.intro a72 <| And.intro N8 <| And.intro a80 <| And.intro a81 <| a82
    clear b a20 a21 a22 hT N2 N7 a70 a71 a72 N8 a80 a81 a82
    obtain ⟨a20, a21, a22, hT, N2, N7, a70, a71, a72, N8, a80, a81, a82⟩ := G
    obtain ⟨a90, a91, a92⟩ := (Box.new v9 s9 A9 n9 c9 e9).held
    have b := below_alloc v9 (.cells #[.bool s9, .slice A9 n9 c9, .int .i64 e9] 24)
    replace BB := below_next BB BB.size b rfl rfl rfl rfl
    have G := mv b rfl <| And.intro a20 <| And.intro a21 <| And.intro a22 <| And.intro hT <| And.intro N2 <| And.intro N7 <| And.intro a70 <| And.intro a71 <| And.intro a72 <| And.intro N8 <| And.intro a80 <| And.intro a81 <| And.intro a82 <| N9
    clear b a20 a21 a22 hT N2 N7 a70 a71 a72 N8 a80 a81 a82 N9
    obtain ⟨a20, a21, a22, hT, N2, N7, a70, a71, a72, N8, a80, a81, a82, N9⟩ := G
    go_wp2_with fail
    refine (dmul_ok hT N8 N8 O8.out O8.out).mono ?_
    rintro en v10 ⟨k10, s10, A10, n10, c10, m10, e10, rfl, hp, N10, b⟩
    have P10 := Lib.hid hp
    have O10 := Lib.hid (nm_okd hp)
    clear hp
    replace BB := below_next BB BB.size b rfl rfl rfl rfl
    have G := mv b rfl <| And.intro a20 <| And.intro a21 <| And.intro a22 <| And.intro hT <| And.intro N2 <| And.intro N7 <| And.intro a70 <| And.intro a71 <| And.intro a72 <| And.intro N8 <| And.intro a80 <| And.intro a81 <| And.intro a82 <| And.intro N9 <| And.intro a90 <| And.intro a91 <| a92
    clear b a20 a21 a22 hT N2 N7 a70 a71 a72 N8 a80 a81 a82 N9 a90 a91 a92
    obtain ⟨a20, a21, a22, hT, N2, N7, a70, a71, a72, N8, a80, a81, a82, N9, a90, a91, a92⟩ := G
    obtain ⟨a100, a101, a102⟩ := (Box.new v10 s10 A10 n10 c10 e10).held
    have b := below_alloc v10 (.cells #[.bool s10, .slice A10 n10 c10, .int .i64 e10] 24)
    replace BB := below_next BB BB.size b rfl rfl rfl rfl
    have G := mv b rfl <| And.intro a20 <| And.intro a21 <| And.intro a22 <| And.intro hT <| And.intro N2 <| And.intro N7 <| And.intro a70 <| And.intro a71 <| And.intro a72 <| And.intro N8 <| And.intro a80 <| And.intro a81 <| And.intro a82 <| And.intro N9 <| And.intro a90 <| And.intro a91 <| And.intro a92 <| N10
    clear b a20 a21 a22 hT N2 N7 a70 a71 a72 N8 a80 a81 a82 N9 a90 a91 a92 N10
    obtain ⟨a20, a21, a22, hT, N2, N7, a70, a71, a72, N8, a80, a81, a82, N9, a90, a91, a92, N10⟩ := G
    have HS := Lib.hid (root_pos nlo Y2.out P7.out)
    have db7 : decide (blen m7 ≤ n) = true := decide_eq_true (ro_bits nlo P7.out)
    have db8 : decide (blen m8 ≤ n) = true := decide_eq_true (ro_bits nlo P8.out)
    go_wp2_with fail
    refine (rtold_any hT).mono ?_
    rintro en w10 ⟨rfl, b⟩
    replace BB := below_next BB BB.size b rfl rfl rfl rfl
    have G := mv b rfl <| And.intro a20 <| And.intro a21 <| And.intro a22 <| And.intro hT <| And.intro N2 <| And.intro N7 <| And.intro a70 <| And.intro a71 <| And.intro a72 <| And.intro N8 <| And.intro a80 <| And.intro a81 <| And.intro a82 <| And.intro N9 <| And.intro a90 <| And.intro a91 <| And.intro a92 <| And.intro N10 <| And.intro a100 <| And.intro a101 <| a102
    clear b a20 a21 a22 hT N2 N7 a70 a71 a72 N8 a80 a81 a82 N9 a90 a91 a92 N10 a100 a101 a102
    obtain ⟨a20, a21, a22, hT, N2, N7, a70, a71, a72, N8, a80, a81, a82, N9, a90, a91, a92, N10, a100, a101, a102⟩ := G
    by_cases z9 : k9 = 0
    rotate_left
    · have f9 : (k9 != 0) = true := by simp [z9]
      clear z9
      clear a20 a21 a22 N2 N9 a90 a91 a92 N10 a100 a101 a102
      go_wp2_with fail
      refine (sign_is (z := 1) hT N7 O7.out HS.out).mono ?_
      rintro en w11 ⟨rfl, b⟩
      replace BB := below_next BB BB.size b rfl rfl rfl rfl
      have G := mv b rfl <| And.intro hT <| And.intro N7 <| And.intro a70 <| And.intro a71 <| And.intro a72 <| And.intro N8 <| And.intro a80 <| And.intro a81 <| a82
      clear b hT N7 a70 a71 a72 N8 a80 a81 a82
      obtain ⟨hT, N7, a70, a71, a72, N8, a80, a81, a82⟩ := G
      go_wp2_with fail
      refine (bits_ok hT N7 O7.out).mono ?_
      rintro en w12 ⟨rfl, b⟩
      clear N7 a70 a71 a72
      replace BB := below_next BB BB.size b rfl rfl rfl rfl
      have G := mv b rfl <| And.intro hT <| And.intro N8 <| And.intro a80 <| And.intro a81 <| a82
      clear b hT N8 a80 a81 a82
      obtain ⟨hT, N8, a80, a81, a82⟩ := G
      go_wp2_with fail
      refine (bits_ok hT N8 O8.out).mono ?_
      rintro en w13 ⟨rfl, b⟩
      clear N8 a80 a81 a82
      replace BB := below_next BB BB.size b rfl rfl rfl rfl
      replace hT := mv b rfl hT
      clear b
      go_wp2
      go_ret
      exact ⟨by first | rfl | simp, BB⟩
    subst z9
    by_cases z10 : k10 = 0
    rotate_left
    · have f10 : (k10 != 0) = true := by simp [z10]
      clear z10
      clear a20 a21 a22 N2 N9 a90 a91 a92 N10 a100 a101 a102
      go_wp2_with fail
      refine (sign_is (z := 1) hT N7 O7.out HS.out).mono ?_
      rintro en w11 ⟨rfl, b⟩
      replace BB := below_next BB BB.size b rfl rfl rfl rfl
      have G := mv b rfl <| And.intro hT <| And.intro N7 <| And.intro a70 <| And.intro a71 <| And.intro a72 <| And.intro N8 <| And.intro a80 <| And.intro a81 <| a82
      clear b hT N7 a70 a71 a72 N8 a80 a81 a82
      obtain ⟨hT, N7, a70, a71, a72, N8, a80, a81, a82⟩ := G
      go_wp2_with fail
      refine (bits_ok hT N7 O7.out).mono ?_
      rintro en w12 ⟨rfl, b⟩
      clear N7 a70 a71 a72
      replace BB := below_next BB BB.size b rfl rfl rfl rfl
      have G := mv b rfl <| And.intro hT <| And.intro N8 <| And.intro a80 <| And.intro a81 <| a82
      clear b hT N8 a80 a81 a82
      obtain ⟨hT, N8, a80, a81, a82⟩ := G
      go_wp2_with fail
      refine (bits_ok hT N8 O8.out).mono ?_
      rintro en w13 ⟨rfl, b⟩
      clear N8 a80 a81 a82
      replace BB := below_next BB BB.size b rfl rfl rfl rfl
      replace hT := mv b rfl hT
      clear b
      go_wp2
      go_ret
      exact ⟨by first | rfl | simp, BB⟩
    subst z10
    go_wp2_with fail
    refine (dcmp_ok hK hT N9 N2 O9.out O2.out).mono ?_
    rintro en w11 ⟨rfl, b⟩
    obtain ⟨z, hz⟩ : ∃ z, cmpV (vz K s9 m9 e9) (vz K false m2 e2) = z := ⟨_, rfl⟩
    rw [hz]
    have dz : decide (z ≤ 0) = true := decide_eq_true (cmpV_le hz ((root_prod hK nlo (by omega) bY.out O2.out P7.out P9.out).1 rfl))
    clear hz
    replace BB := below_next BB BB.size b rfl rfl rfl rfl
    have G := mv b rfl <| And.intro a20 <| And.intro a21 <| And.intro a22 <| And.intro hT <| And.intro N2 <| And.intro N7 <| And.intro a70 <| And.intro a71 <| And.intro a72 <| And.intro N8 <| And.intro a80 <| And.intro a81 <| And.intro a82 <| And.intro N9 <| And.intro a90 <| And.intro a91 <| And.intro a92 <| And.intro N10 <| And.intro a100 <| And.intro a101 <| a102
    clear b a20 a21 a22 hT N2 N7 a70 a71 a72 N8 a80 a81 a82 N9 a90 a91 a92 N10 a100 a101 a102
    obtain ⟨a20, a21, a22, hT, N2, N7, a70, a71, a72, N8, a80, a81, a82, N9, a90, a91, a92, N10, a100, a101, a102⟩ := G
    go_wp2_with fail
    refine (dcmp_ok hK hT N2 N10 O2.out O10.out).mono ?_
    rintro en w12 ⟨rfl, b⟩
    obtain ⟨z', hz⟩ : ∃ z, cmpV (vz K false m2 e2) (vz K s10 m10 e10) = z := ⟨_, rfl⟩
    rw [hz]
    have dz' : decide (z' ≤ 0) = true := decide_eq_true (cmpV_le hz ((root_prod hK nlo (by omega) bY.out O2.out P8.out P10.out).2 rfl))
    clear hz
    replace BB := below_next BB BB.size b rfl rfl rfl rfl
    have G := mv b rfl <| And.intro a20 <| And.intro a21 <| And.intro a22 <| And.intro hT <| And.intro N2 <| And.intro N7 <| And.intro a70 <| And.intro a71 <| And.intro a72 <| And.intro N8 <| And.intro a80 <| And.intro a81 <| And.intro a82 <| And.intro N9 <| And.intro a90 <| And.intro a91 <| And.intro a92 <| And.intro N10 <| And.intro a100 <| And.intro a101 <| a102
    clear b a20 a21 a22 hT N2 N7 a70 a71 a72 N8 a80 a81 a82 N9 a90 a91 a92 N10 a100 a101 a102
    obtain ⟨a20, a21, a22, hT, N2, N7, a70, a71, a72, N8, a80, a81, a82, N9, a90, a91, a92, N10, a100, a101, a102⟩ := G
    clear a20 a21 a22 N2 N9 a90 a91 a92 N10 a100 a101 a102
    go_wp2_with fail
    refine (sign_is (z := 1) hT N7 O7.out HS.out).mono ?_
    rintro en w13 ⟨rfl, b⟩
    replace BB := below_next BB BB.size b rfl rfl rfl rfl
    have G := mv b rfl <| And.intro hT <| And.intro N7 <| And.intro a70 <| And.intro a71 <| And.intro a72 <| And.intro N8 <| And.intro a80 <| And.intro a81 <| a82
    clear b hT N7 a70 a71 a72 N8 a80 a81 a82
    obtain ⟨hT, N7, a70, a71, a72, N8, a80, a81, a82⟩ := G
    go_wp2_with fail
    refine (bits_ok hT N7 O7.out).mono ?_
    rintro en w14 ⟨rfl, b⟩
    clear N7 a70 a71 a72
    replace BB := below_next BB BB.size b rfl rfl rfl rfl
    have G := mv b rfl <| And.intro hT <| And.intro N8 <| And.intro a80 <| And.intro a81 <| a82
    clear b hT N8 a80 a81 a82
    obtain ⟨hT, N8, a80, a81, a82⟩ := G
    go_wp2_with fail
    refine (bits_ok hT N8 O8.out).mono ?_
    rintro en w15 ⟨rfl, b⟩
    clear N8 a80 a81 a82
    replace BB := below_next BB BB.size b rfl rfl rfl rfl
    replace hT := mv b rfl hT
    clear b
    go_wp2
    go_ret
    exact ⟨by first | rfl | simp, BB⟩
  subst z3
  by_cases z4 : k4 = 0
  rotate_left
  · have f4 : (k4 == 0) = false := by simp [z4]
    clear z4
    clear a10 a11 a12 N1 N3 a30 a31 a32 N4 a40 a41 a42
    go_wp2_with fail
    refine (rroot_ok (p := n) hT N2 O2.out nlo (by omega) rfl).mono ?_
    rintro en v7 ⟨k7, s7, A7, n7, c7, m7, e7, rfl, hp, N7, b⟩
    have P7 := Lib.hid hp
    have O7 := Lib.hid (ro_okd hp)
    clear hp
    replace BB := below_next BB BB.size b rfl rfl rfl rfl
    have G := mv b rfl <| And.intro a20 <| And.intro a21 <| And.intro a22 <| And.intro hT <| N2
    clear b a20 a21 a22 hT N2
    obtain ⟨a20, a21, a22, hT, N2⟩ := G
    obtain ⟨a70, a71, a72⟩ := (Box.new v7 s7 A7 n7 c7 e7).held
    have b := below_alloc v7 (.cells #[.bool s7, .slice A7 n7 c7, .int .i64 e7] 24)
    replace BB := below_next BB BB.size b rfl rfl rfl rfl
    have G := mv b rfl <| And.intro a20 <| And.intro a21 <| And.intro a22 <| And.intro hT <| And.intro N2 <| N7
    clear b a20 a21 a22 hT N2 N7
    obtain ⟨a20, a21, a22, hT, N2, N7⟩ := G
    go_wp2_with fail
    refine (rroot_ok (p := n) hT N2 O2.out nlo (by omega) rfl).mono ?_
    rintro en v8 ⟨k8, s8, A8, n8, c8, m8, e8, rfl, hp, N8, b⟩
    have P8 := Lib.hid hp
    have O8 := Lib.hid (ro_okd hp)
    clear hp
    replace BB := below_next BB BB.size b rfl rfl rfl rfl
    have G := mv b rfl <| And.intro a20 <| And.intro a21 <| And.intro a22 <| And.intro hT <| And.intro N2 <| And.intro N7 <| And.intro a70 <| And.intro a71 <| a72
    clear b a20 a21 a22 hT N2 N7 a70 a71 a72
    obtain ⟨a20, a21, a22, hT, N2, N7, a70, a71, a72⟩ := G
    obtain ⟨a80, a81, a82⟩ := (Box.new v8 s8 A8 n8 c8 e8).held
    have b := below_alloc v8 (.cells #[.bool s8, .slice A8 n8 c8, .int .i64 e8] 24)
    replace BB := below_next BB BB.size b rfl rfl rfl rfl
    have G := mv b rfl <| And.intro a20 <| And.intro a21 <| And.intro a22 <| And.intro hT <| And.intro N2 <| And.intro N7 <| And.intro a70 <| And.intro a71 <| And.intro a72 <| N8
    clear b a20 a21 a22 hT N2 N7 a70 a71 a72 N8
    obtain ⟨a20, a21, a22, hT, N2, N7, a70, a71, a72, N8⟩ := G
    by_cases z7 : k7 = 0
    rotate_left
    · have f7 : (k7 != 0) = true := by simp [z7]
      clear z7
      go_wp2_with fail
      refine (rtold_any hT).mono ?_
      rintro en w99 ⟨rfl, b⟩
      replace BB := below_next BB BB.size b rfl rfl rfl rfl
      clear b
      go_wp2
      go_ret
      exact ⟨by first | rfl | simp, BB⟩
    subst z7
    by_cases z8 : k8 = 0
    rotate_left
    · have f8 : (k8 != 0) = true := by simp [z8]
      clear z8
      go_wp2_with fail
      refine (rtold_any hT).mono ?_
      rintro en w99 ⟨rfl, b⟩
      replace BB := below_next BB BB.size b rfl rfl rfl rfl
      clear b
      go_wp2
      go_ret
      exact ⟨by first | rfl | simp, BB⟩
    subst z8
    go_wp2_with fail
    refine (dmul_ok hT N7 N7 O7.out O7.out).mono ?_
    rintro en v9 ⟨k9, s9, A9, n9, c9, m9, e9, rfl, hp, N9, b⟩
    have P9 := Lib.hid hp
    have O9 := Lib.hid (nm_okd hp)
    clear hp
    replace BB := below_next BB BB.size b rfl rfl rfl rfl
    have G := mv b rfl <| And.intro a20 <| And.intro a21 <| And.intro a22 <| And.intro hT <| And.intro N2 <| And.intro N7 <| And.intro a70 <| And.intro a71 <| And.intro a72 <| And.intro N8 <| And.intro a80 <| And.intro a81 <| a82
    clear b a20 a21 a22 hT N2 N7 a70 a71 a72 N8 a80 a81 a82
    obtain ⟨a20, a21, a22, hT, N2, N7, a70, a71, a72, N8, a80, a81, a82⟩ := G
    obtain ⟨a90, a91, a92⟩ := (Box.new v9 s9 A9 n9 c9 e9).held
    have b := below_alloc v9 (.cells #[.bool s9, .slice A9 n9 c9, .int .i64 e9] 24)
    replace BB := below_next BB BB.size b rfl rfl rfl rfl
    have G := mv b rfl <| And.intro a20 <| And.intro a21 <| And.intro a22 <| And.intro hT <| And.intro N2 <| And.intro N7 <| And.intro a70 <| And.intro a71 <| And.intro a72 <| And.intro N8 <| And.intro a80 <| And.intro a81 <| And.intro a82 <| N9
    clear b a20 a21 a22 hT N2 N7 a70 a71 a72 N8 a80 a81 a82 N9
    obtain ⟨a20, a21, a22, hT, N2, N7, a70, a71, a72, N8, a80, a81, a82, N9⟩ := G
    go_wp2_with fail
    refine (dmul_ok hT N8 N8 O8.out O8.out).mono ?_
    rintro en v10 ⟨k10, s10, A10, n10, c10, m10, e10, rfl, hp, N10, b⟩
    have P10 := Lib.hid hp
    have O10 := Lib.hid (nm_okd hp)
    clear hp
    replace BB := below_next BB BB.size b rfl rfl rfl rfl
    have G := mv b rfl <| And.intro a20 <| And.intro a21 <| And.intro a22 <| And.intro hT <| And.intro N2 <| And.intro N7 <| And.intro a70 <| And.intro a71 <| And.intro a72 <| And.intro N8 <| And.intro a80 <| And.intro a81 <| And.intro a82 <| And.intro N9 <| And.intro a90 <| And.intro a91 <| a92
    clear b a20 a21 a22 hT N2 N7 a70 a71 a72 N8 a80 a81 a82 N9 a90 a91 a92
    obtain ⟨a20, a21, a22, hT, N2, N7, a70, a71, a72, N8, a80, a81, a82, N9, a90, a91, a92⟩ := G
    obtain ⟨a100, a101, a102⟩ := (Box.new v10 s10 A10 n10 c10 e10).held
    have b := below_alloc v10 (.cells #[.bool s10, .slice A10 n10 c10, .int .i64 e10] 24)
    replace BB := below_next BB BB.size b rfl rfl rfl rfl
    have G := mv b rfl <| And.intro a20 <| And.intro a21 <| And.intro a22 <| And.intro hT <| And.intro N2 <| And.intro N7 <| And.intro a70 <| And.intro a71 <| And.intro a72 <| And.intro N8 <| And.intro a80 <| And.intro a81 <| And.intro a82 <| And.intro N9 <| And.intro a90 <| And.intro a91 <| And.intro a92 <| N10
    clear b a20 a21 a22 hT N2 N7 a70 a71 a72 N8 a80 a81 a82 N9 a90 a91 a92 N10
    obtain ⟨a20, a21, a22, hT, N2, N7, a70, a71, a72, N8, a80, a81, a82, N9, a90, a91, a92, N10⟩ := G
    have HS := Lib.hid (root_pos nlo Y2.out P7.out)
    have db7 : decide (blen m7 ≤ n) = true := decide_eq_true (ro_bits nlo P7.out)
    have db8 : decide (blen m8 ≤ n) = true := decide_eq_true (ro_bits nlo P8.out)
    go_wp2_with fail
    refine (rtold_any hT).mono ?_
    rintro en w10 ⟨rfl, b⟩
    replace BB := below_next BB BB.size b rfl rfl rfl rfl
    have G := mv b rfl <| And.intro a20 <| And.intro a21 <| And.intro a22 <| And.intro hT <| And.intro N2 <| And.intro N7 <| And.intro a70 <| And.intro a71 <| And.intro a72 <| And.intro N8 <| And.intro a80 <| And.intro a81 <| And.intro a82 <| And.intro N9 <| And.intro a90 <| And.intro a91 <| And.intro a92 <| And.intro N10 <| And.intro a100 <| And.intro a101 <| a102
    clear b a20 a21 a22 hT N2 N7 a70 a71 a72 N8 a80 a81 a82 N9 a90 a91 a92 N10 a100 a101 a102
    obtain ⟨a20, a21, a22, hT, N2, N7, a70, a71, a72, N8, a80, a81, a82, N9, a90, a91, a92, N10, a100, a101, a102⟩ := G
    by_cases z9 : k9 = 0
    rotate_left
    · have f9 : (k9 != 0) = true := by simp [z9]
      clear z9
      clear a20 a21 a22 N2 N9 a90 a91 a92 N10 a100 a101 a102
      go_wp2_with fail
      refine (sign_is (z := 1) hT N7 O7.out HS.out).mono ?_
      rintro en w11 ⟨rfl, b⟩
      replace BB := below_next BB BB.size b rfl rfl rfl rfl
      have G := mv b rfl <| And.intro hT <| And.intro N7 <| And.intro a70 <| And.intro a71 <| And.intro a72 <| And.intro N8 <| And.intro a80 <| And.intro a81 <| a82
      clear b hT N7 a70 a71 a72 N8 a80 a81 a82
      obtain ⟨hT, N7, a70, a71, a72, N8, a80, a81, a82⟩ := G
      go_wp2_with fail
      refine (bits_ok hT N7 O7.out).mono ?_
      rintro en w12 ⟨rfl, b⟩
      clear N7 a70 a71 a72
      replace BB := below_next BB BB.size b rfl rfl rfl rfl
      have G := mv b rfl <| And.intro hT <| And.intro N8 <| And.intro a80 <| And.intro a81 <| a82
      clear b hT N8 a80 a81 a82
      obtain ⟨hT, N8, a80, a81, a82⟩ := G
      go_wp2_with fail
      refine (bits_ok hT N8 O8.out).mono ?_
      rintro en w13 ⟨rfl, b⟩
      clear N8 a80 a81 a82
      replace BB := below_next BB BB.size b rfl rfl rfl rfl
      replace hT := mv b rfl hT
      clear b
      go_wp2
      go_ret
      exact ⟨by first | rfl | simp, BB⟩
    subst z9
    by_cases z10 : k10 = 0
    rotate_left
    · have f10 : (k10 != 0) = true := by simp [z10]
      clear z10
      clear a20 a21 a22 N2 N9 a90 a91 a92 N10 a100 a101 a102
      go_wp2_with fail
      refine (sign_is (z := 1) hT N7 O7.out HS.out).mono ?_
      rintro en w11 ⟨rfl, b⟩
      replace BB := below_next BB BB.size b rfl rfl rfl rfl
      have G := mv b rfl <| And.intro hT <| And.intro N7 <| And.intro a70 <| And.intro a71 <| And.intro a72 <| And.intro N8 <| And.intro a80 <| And.intro a81 <| a82
      clear b hT N7 a70 a71 a72 N8 a80 a81 a82
      obtain ⟨hT, N7, a70, a71, a72, N8, a80, a81, a82⟩ := G
      go_wp2_with fail
      refine (bits_ok hT N7 O7.out).mono ?_
      rintro en w12 ⟨rfl, b⟩
      clear N7 a70 a71 a72
      replace BB := below_next BB BB.size b rfl rfl rfl rfl
      have G := mv b rfl <| And.intro hT <| And.intro N8 <| And.intro a80 <| And.intro a81 <| a82
      clear b hT N8 a80 a81 a82
      obtain ⟨hT, N8, a80, a81, a82⟩ := G
      go_wp2_with fail
      refine (bits_ok hT N8 O8.out).mono ?_
      rintro en w13 ⟨rfl, b⟩
      clear N8 a80 a81 a82
      replace BB := below_next BB BB.size b rfl rfl rfl rfl
      replace hT := mv b rfl hT
      clear b
      go_wp2
      go_ret
      exact ⟨by first | rfl | simp, BB⟩
    subst z10
    go_wp2_with fail
    refine (dcmp_ok hK hT N9 N2 O9.out O2.out).mono ?_
    rintro en w11 ⟨rfl, b⟩
    obtain ⟨z, hz⟩ : ∃ z, cmpV (vz K s9 m9 e9) (vz K false m2 e2) = z := ⟨_, rfl⟩
    rw [hz]
    have dz : decide (z ≤ 0) = true := decide_eq_true (cmpV_le hz ((root_prod hK nlo (by omega) bY.out O2.out P7.out P9.out).1 rfl))
    clear hz
    replace BB := below_next BB BB.size b rfl rfl rfl rfl
    have G := mv b rfl <| And.intro a20 <| And.intro a21 <| And.intro a22 <| And.intro hT <| And.intro N2 <| And.intro N7 <| And.intro a70 <| And.intro a71 <| And.intro a72 <| And.intro N8 <| And.intro a80 <| And.intro a81 <| And.intro a82 <| And.intro N9 <| And.intro a90 <| And.intro a91 <| And.intro a92 <| And.intro N10 <| And.intro a100 <| And.intro a101 <| a102
    clear b a20 a21 a22 hT N2 N7 a70 a71 a72 N8 a80 a81 a82 N9 a90 a91 a92 N10 a100 a101 a102
    obtain ⟨a20, a21, a22, hT, N2, N7, a70, a71, a72, N8, a80, a81, a82, N9, a90, a91, a92, N10, a100, a101, a102⟩ := G
    go_wp2_with fail
    refine (dcmp_ok hK hT N2 N10 O2.out O10.out).mono ?_
    rintro en w12 ⟨rfl, b⟩
    obtain ⟨z', hz⟩ : ∃ z, cmpV (vz K false m2 e2) (vz K s10 m10 e10) = z := ⟨_, rfl⟩
    rw [hz]
    have dz' : decide (z' ≤ 0) = true := decide_eq_true (cmpV_le hz ((root_prod hK nlo (by omega) bY.out O2.out P8.out P10.out).2 rfl))
    clear hz
    replace BB := below_next BB BB.size b rfl rfl rfl rfl
    have G := mv b rfl <| And.intro a20 <| And.intro a21 <| And.intro a22 <| And.intro hT <| And.intro N2 <| And.intro N7 <| And.intro a70 <| And.intro a71 <| And.intro a72 <| And.intro N8 <| And.intro a80 <| And.intro a81 <| And.intro a82 <| And.intro N9 <| And.intro a90 <| And.intro a91 <| And.intro a92 <| And.intro N10 <| And.intro a100 <| And.intro a101 <| a102
    clear b a20 a21 a22 hT N2 N7 a70 a71 a72 N8 a80 a81 a82 N9 a90 a91 a92 N10 a100 a101 a102
    obtain ⟨a20, a21, a22, hT, N2, N7, a70, a71, a72, N8, a80, a81, a82, N9, a90, a91, a92, N10, a100, a101, a102⟩ := G
    clear a20 a21 a22 N2 N9 a90 a91 a92 N10 a100 a101 a102
    go_wp2_with fail
    refine (sign_is (z := 1) hT N7 O7.out HS.out).mono ?_
    rintro en w13 ⟨rfl, b⟩
    replace BB := below_next BB BB.size b rfl rfl rfl rfl
    have G := mv b rfl <| And.intro hT <| And.intro N7 <| And.intro a70 <| And.intro a71 <| And.intro a72 <| And.intro N8 <| And.intro a80 <| And.intro a81 <| a82
    clear b hT N7 a70 a71 a72 N8 a80 a81 a82
    obtain ⟨hT, N7, a70, a71, a72, N8, a80, a81, a82⟩ := G
    go_wp2_with fail
    refine (bits_ok hT N7 O7.out).mono ?_
    rintro en w14 ⟨rfl, b⟩
    clear N7 a70 a71 a72
    replace BB := below_next BB BB.size b rfl rfl rfl rfl
    have G := mv b rfl <| And.intro hT <| And.intro N8 <| And.intro a80 <| And.intro a81 <| a82
    clear b hT N8 a80 a81 a82
    obtain ⟨hT, N8, a80, a81, a82⟩ := G
    go_wp2_with fail
    refine (bits_ok hT N8 O8.out).mono ?_
    rintro en w15 ⟨rfl, b⟩
    clear N8 a80 a81 a82
    replace BB := below_next BB BB.size b rfl rfl rfl rfl
    replace hT := mv b rfl hT
    clear b
    go_wp2
    go_ret
    exact ⟨by first | rfl | simp, BB⟩
  subst z4
  go_wp2_with fail
  refine (dmul_ok hT N3 N2 O3.out O2.out).mono ?_
  rintro en v5 ⟨k5, s5, A5, n5, c5, m5, e5, rfl, hp, N5, b⟩
  have P5 := Lib.hid hp
  have O5 := Lib.hid (nm_okd hp)
  clear hp
  replace BB := below_next BB BB.size b rfl rfl rfl rfl
  have G := mv b rfl <| And.intro a10 <| And.intro a11 <| And.intro a12 <| And.intro a20 <| And.intro a21 <| And.intro a22 <| And.intro hT <| And.intro N1 <| And.intro N2 <| And.intro N3 <| And.intro a30 <| And.intro a31 <| And.intro a32 <| And.intro N4 <| And.intro a40 <| And.intro a41 <| a42
  clear b a10 a11 a12 a20 a21 a22 hT N1 N2 N3 a30 a31 a32 N4 a40 a41 a42
  obtain ⟨a10, a11, a12, a20, a21, a22, hT, N1, N2, N3, a30, a31, a32, N4, a40, a41, a42⟩ := G
  obtain ⟨a50, a51, a52⟩ := (Box.new v5 s5 A5 n5 c5 e5).held
  have b := below_alloc v5 (.cells #[.bool s5, .slice A5 n5 c5, .int .i64 e5] 24)
  replace BB := below_next BB BB.size b rfl rfl rfl rfl
  have G := mv b rfl <| And.intro a10 <| And.intro a11 <| And.intro a12 <| And.intro a20 <| And.intro a21 <| And.intro a22 <| And.intro hT <| And.intro N1 <| And.intro N2 <| And.intro N3 <| And.intro a30 <| And.intro a31 <| And.intro a32 <| And.intro N4 <| And.intro a40 <| And.intro a41 <| And.intro a42 <| N5
  clear b a10 a11 a12 a20 a21 a22 hT N1 N2 N3 a30 a31 a32 N4 a40 a41 a42 N5
  obtain ⟨a10, a11, a12, a20, a21, a22, hT, N1, N2, N3, a30, a31, a32, N4, a40, a41, a42, N5⟩ := G
  go_wp2_with fail
  refine (dmul_ok hT N4 N2 O4.out O2.out).mono ?_
  rintro en v6 ⟨k6, s6, A6, n6, c6, m6, e6, rfl, hp, N6, b⟩
  have P6 := Lib.hid hp
  have O6 := Lib.hid (nm_okd hp)
  clear hp
  replace BB := below_next BB BB.size b rfl rfl rfl rfl
  have G := mv b rfl <| And.intro a10 <| And.intro a11 <| And.intro a12 <| And.intro a20 <| And.intro a21 <| And.intro a22 <| And.intro hT <| And.intro N1 <| And.intro N2 <| And.intro N3 <| And.intro a30 <| And.intro a31 <| And.intro a32 <| And.intro N4 <| And.intro a40 <| And.intro a41 <| And.intro a42 <| And.intro N5 <| And.intro a50 <| And.intro a51 <| a52
  clear b a10 a11 a12 a20 a21 a22 hT N1 N2 N3 a30 a31 a32 N4 a40 a41 a42 N5 a50 a51 a52
  obtain ⟨a10, a11, a12, a20, a21, a22, hT, N1, N2, N3, a30, a31, a32, N4, a40, a41, a42, N5, a50, a51, a52⟩ := G
  obtain ⟨a60, a61, a62⟩ := (Box.new v6 s6 A6 n6 c6 e6).held
  have b := below_alloc v6 (.cells #[.bool s6, .slice A6 n6 c6, .int .i64 e6] 24)
  replace BB := below_next BB BB.size b rfl rfl rfl rfl
  have G := mv b rfl <| And.intro a10 <| And.intro a11 <| And.intro a12 <| And.intro a20 <| And.intro a21 <| And.intro a22 <| And.intro hT <| And.intro N1 <| And.intro N2 <| And.intro N3 <| And.intro a30 <| And.intro a31 <| And.intro a32 <| And.intro N4 <| And.intro a40 <| And.intro a41 <| And.intro a42 <| And.intro N5 <| And.intro a50 <| And.intro a51 <| And.intro a52 <| N6
  clear b a10 a11 a12 a20 a21 a22 hT N1 N2 N3 a30 a31 a32 N4 a40 a41 a42 N5 a50 a51 a52 N6
  obtain ⟨a10, a11, a12, a20, a21, a22, hT, N1, N2, N3, a30, a31, a32, N4, a40, a41, a42, N5, a50, a51, a52, N6⟩ := G
  by_cases z5 : k5 = 0
  rotate_left
  · have f5 : (k5 == 0) = false := by simp [z5]
    clear z5
    clear a10 a11 a12 N1 N3 a30 a31 a32 N4 a40 a41 a42 N5 a50 a51 a52 N6 a60 a61 a62
    go_wp2_with fail
    refine (rroot_ok (p := n) hT N2 O2.out nlo (by omega) rfl).mono ?_
    rintro en v7 ⟨k7, s7, A7, n7, c7, m7, e7, rfl, hp, N7, b⟩
    have P7 := Lib.hid hp
    have O7 := Lib.hid (ro_okd hp)
    clear hp
    replace BB := below_next BB BB.size b rfl rfl rfl rfl
    have G := mv b rfl <| And.intro a20 <| And.intro a21 <| And.intro a22 <| And.intro hT <| N2
    clear b a20 a21 a22 hT N2
    obtain ⟨a20, a21, a22, hT, N2⟩ := G
    obtain ⟨a70, a71, a72⟩ := (Box.new v7 s7 A7 n7 c7 e7).held
    have b := below_alloc v7 (.cells #[.bool s7, .slice A7 n7 c7, .int .i64 e7] 24)
    replace BB := below_next BB BB.size b rfl rfl rfl rfl
    have G := mv b rfl <| And.intro a20 <| And.intro a21 <| And.intro a22 <| And.intro hT <| And.intro N2 <| N7
    clear b a20 a21 a22 hT N2 N7
    obtain ⟨a20, a21, a22, hT, N2, N7⟩ := G
    go_wp2_with fail
    refine (rroot_ok (p := n) hT N2 O2.out nlo (by omega) rfl).mono ?_
    rintro en v8 ⟨k8, s8, A8, n8, c8, m8, e8, rfl, hp, N8, b⟩
    have P8 := Lib.hid hp
    have O8 := Lib.hid (ro_okd hp)
    clear hp
    replace BB := below_next BB BB.size b rfl rfl rfl rfl
    have G := mv b rfl <| And.intro a20 <| And.intro a21 <| And.intro a22 <| And.intro hT <| And.intro N2 <| And.intro N7 <| And.intro a70 <| And.intro a71 <| a72
    clear b a20 a21 a22 hT N2 N7 a70 a71 a72
    obtain ⟨a20, a21, a22, hT, N2, N7, a70, a71, a72⟩ := G
    obtain ⟨a80, a81, a82⟩ := (Box.new v8 s8 A8 n8 c8 e8).held
    have b := below_alloc v8 (.cells #[.bool s8, .slice A8 n8 c8, .int .i64 e8] 24)
    replace BB := below_next BB BB.size b rfl rfl rfl rfl
    have G := mv b rfl <| And.intro a20 <| And.intro a21 <| And.intro a22 <| And.intro hT <| And.intro N2 <| And.intro N7 <| And.intro a70 <| And.intro a71 <| And.intro a72 <| N8
    clear b a20 a21 a22 hT N2 N7 a70 a71 a72 N8
    obtain ⟨a20, a21, a22, hT, N2, N7, a70, a71, a72, N8⟩ := G
    by_cases z7 : k7 = 0
    rotate_left
    · have f7 : (k7 != 0) = true := by simp [z7]
      clear z7
      go_wp2_with fail
      refine (rtold_any hT).mono ?_
      rintro en w99 ⟨rfl, b⟩
      replace BB := below_next BB BB.size b rfl rfl rfl rfl
      clear b
      go_wp2
      go_ret
      exact ⟨by first | rfl | simp, BB⟩
    subst z7
    by_cases z8 : k8 = 0
    rotate_left
    · have f8 : (k8 != 0) = true := by simp [z8]
      clear z8
      go_wp2_with fail
      refine (rtold_any hT).mono ?_
      rintro en w99 ⟨rfl, b⟩
      replace BB := below_next BB BB.size b rfl rfl rfl rfl
      clear b
      go_wp2
      go_ret
      exact ⟨by first | rfl | simp, BB⟩
    subst z8
    go_wp2_with fail
    refine (dmul_ok hT N7 N7 O7.out O7.out).mono ?_
    rintro en v9 ⟨k9, s9, A9, n9, c9, m9, e9, rfl, hp, N9, b⟩
    have P9 := Lib.hid hp
    have O9 := Lib.hid (nm_okd hp)
    clear hp
    replace BB := below_next BB BB.size b rfl rfl rfl rfl
    have G := mv b rfl <| And.intro a20 <| And.intro a21 <| And.intro a22 <| And.intro hT <| And.intro N2 <| And.intro N7 <| And.intro a70 <| And.intro a71 <| And.intro a72 <| And.intro N8 <| And.intro a80 <| And.intro a81 <| a82
    clear b a20 a21 a22 hT N2 N7 a70 a71 a72 N8 a80 a81 a82
    obtain ⟨a20, a21, a22, hT, N2, N7, a70, a71, a72, N8, a80, a81, a82⟩ := G
    obtain ⟨a90, a91, a92⟩ := (Box.new v9 s9 A9 n9 c9 e9).held
    have b := below_alloc v9 (.cells #[.bool s9, .slice A9 n9 c9, .int .i64 e9] 24)
    replace BB := below_next BB BB.size b rfl rfl rfl rfl
    have G := mv b rfl <| And.intro a20 <| And.intro a21 <| And.intro a22 <| And.intro hT <| And.intro N2 <| And.intro N7 <| And.intro a70 <| And.intro a71 <| And.intro a72 <| And.intro N8 <| And.intro a80 <| And.intro a81 <| And.intro a82 <| N9
    clear b a20 a21 a22 hT N2 N7 a70 a71 a72 N8 a80 a81 a82 N9
    obtain ⟨a20, a21, a22, hT, N2, N7, a70, a71, a72, N8, a80, a81, a82, N9⟩ := G
    go_wp2_with fail
    refine (dmul_ok hT N8 N8 O8.out O8.out).mono ?_
    rintro en v10 ⟨k10, s10, A10, n10, c10, m10, e10, rfl, hp, N10, b⟩
    have P10 := Lib.hid hp
    have O10 := Lib.hid (nm_okd hp)
    clear hp
    replace BB := below_next BB BB.size b rfl rfl rfl rfl
    have G := mv b rfl <| And.intro a20 <| And.intro a21 <| And.intro a22 <| And.intro hT <| And.intro N2 <| And.intro N7 <| And.intro a70 <| And.intro a71 <| And.intro a72 <| And.intro N8 <| And.intro a80 <| And.intro a81 <| And.intro a82 <| And.intro N9 <| And.intro a90 <| And.intro a91 <| a92
    clear b a20 a21 a22 hT N2 N7 a70 a71 a72 N8 a80 a81 a82 N9 a90 a91 a92
    obtain ⟨a20, a21, a22, hT, N2, N7, a70, a71, a72, N8, a80, a81, a82, N9, a90, a91, a92⟩ := G
    obtain ⟨a100, a101, a102⟩ := (Box.new v10 s10 A10 n10 c10 e10).held
    have b := below_alloc v10 (.cells #[.bool s10, .slice A10 n10 c10, .int .i64 e10] 24)
    replace BB := below_next BB BB.size b rfl rfl rfl rfl
    have G := mv b rfl <| And.intro a20 <| And.intro a21 <| And.intro a22 <| And.intro hT <| And.intro N2 <| And.intro N7 <| And.intro a70 <| And.intro a71 <| And.intro a72 <| And.intro N8 <| And.intro a80 <| And.intro a81 <| And.intro a82 <| And.intro N9 <| And.intro a90 <| And.intro a91 <| And.intro a92 <| N10
    clear b a20 a21 a22 hT N2 N7 a70 a71 a72 N8 a80 a81 a82 N9 a90 a91 a92 N10
    obtain ⟨a20, a21, a22, hT, N2, N7, a70, a71, a72, N8, a80, a81, a82, N9, a90, a91, a92, N10⟩ := G
    have HS := Lib.hid (root_pos nlo Y2.out P7.out)
    have db7 : decide (blen m7 ≤ n) = true := decide_eq_true (ro_bits nlo P7.out)
    have db8 : decide (blen m8 ≤ n) = true := decide_eq_true (ro_bits nlo P8.out)
    go_wp2_with fail
    refine (rtold_any hT).mono ?_
    rintro en w12 ⟨rfl, b⟩
    replace BB := below_next BB BB.size b rfl rfl rfl rfl
    have G := mv b rfl <| And.intro a20 <| And.intro a21 <| And.intro a22 <| And.intro hT <| And.intro N2 <| And.intro N7 <| And.intro a70 <| And.intro a71 <| And.intro a72 <| And.intro N8 <| And.intro a80 <| And.intro a81 <| And.intro a82 <| And.intro N9 <| And.intro a90 <| And.intro a91 <| And.intro a92 <| And.intro N10 <| And.intro a100 <| And.intro a101 <| a102
    clear b a20 a21 a22 hT N2 N7 a70 a71 a72 N8 a80 a81 a82 N9 a90 a91 a92 N10 a100 a101 a102
    obtain ⟨a20, a21, a22, hT, N2, N7, a70, a71, a72, N8, a80, a81, a82, N9, a90, a91, a92, N10, a100, a101, a102⟩ := G
    by_cases z9 : k9 = 0
    rotate_left
    · have f9 : (k9 != 0) = true := by simp [z9]
      clear z9
      clear a20 a21 a22 N2 N9 a90 a91 a92 N10 a100 a101 a102
      go_wp2_with fail
      refine (sign_is (z := 1) hT N7 O7.out HS.out).mono ?_
      rintro en w13 ⟨rfl, b⟩
      replace BB := below_next BB BB.size b rfl rfl rfl rfl
      have G := mv b rfl <| And.intro hT <| And.intro N7 <| And.intro a70 <| And.intro a71 <| And.intro a72 <| And.intro N8 <| And.intro a80 <| And.intro a81 <| a82
      clear b hT N7 a70 a71 a72 N8 a80 a81 a82
      obtain ⟨hT, N7, a70, a71, a72, N8, a80, a81, a82⟩ := G
      go_wp2_with fail
      refine (bits_ok hT N7 O7.out).mono ?_
      rintro en w14 ⟨rfl, b⟩
      clear N7 a70 a71 a72
      replace BB := below_next BB BB.size b rfl rfl rfl rfl
      have G := mv b rfl <| And.intro hT <| And.intro N8 <| And.intro a80 <| And.intro a81 <| a82
      clear b hT N8 a80 a81 a82
      obtain ⟨hT, N8, a80, a81, a82⟩ := G
      go_wp2_with fail
      refine (bits_ok hT N8 O8.out).mono ?_
      rintro en w15 ⟨rfl, b⟩
      clear N8 a80 a81 a82
      replace BB := below_next BB BB.size b rfl rfl rfl rfl
      replace hT := mv b rfl hT
      clear b
      go_wp2
      go_ret
      exact ⟨by first | rfl | simp, BB⟩
    subst z9
    by_cases z10 : k10 = 0
    rotate_left
    · have f10 : (k10 != 0) = true := by simp [z10]
      clear z10
      clear a20 a21 a22 N2 N9 a90 a91 a92 N10 a100 a101 a102
      go_wp2_with fail
      refine (sign_is (z := 1) hT N7 O7.out HS.out).mono ?_
      rintro en w13 ⟨rfl, b⟩
      replace BB := below_next BB BB.size b rfl rfl rfl rfl
      have G := mv b rfl <| And.intro hT <| And.intro N7 <| And.intro a70 <| And.intro a71 <| And.intro a72 <| And.intro N8 <| And.intro a80 <| And.intro a81 <| a82
      clear b hT N7 a70 a71 a72 N8 a80 a81 a82
      obtain ⟨hT, N7, a70, a71, a72, N8, a80, a81, a82⟩ := G
      go_wp2_with fail
      refine (bits_ok hT N7 O7.out).mono ?_
      rintro en w14 ⟨rfl, b⟩
      clear N7 a70 a71 a72
      replace BB := below_next BB BB.size b rfl rfl rfl rfl
      have G := mv b rfl <| And.intro hT <| And.intro N8 <| And.intro a80 <| And.intro a81 <| a82
      clear b hT N8 a80 a81 a82
      obtain ⟨hT, N8, a80, a81, a82⟩ := G
      go_wp2_with fail
      refine (bits_ok hT N8 O8.out).mono ?_
      rintro en w15 ⟨rfl, b⟩
      clear N8 a80 a81 a82
      replace BB := below_next BB BB.size b rfl rfl rfl rfl
      replace hT := mv b rfl hT
      clear b
      go_wp2
      go_ret
      exact ⟨by first | rfl | simp, BB⟩
    subst z10
    go_wp2_with fail
    refine (dcmp_ok hK hT N9 N2 O9.out O2.out).mono ?_
    rintro en w13 ⟨rfl, b⟩
    obtain ⟨z, hz⟩ : ∃ z, cmpV (vz K s9 m9 e9) (vz K false m2 e2) = z := ⟨_, rfl⟩
    rw [hz]
    have dz : decide (z ≤ 0) = true := decide_eq_true (cmpV_le hz ((root_prod hK nlo (by omega) bY.out O2.out P7.out P9.out).1 rfl))
    clear hz
    replace BB := below_next BB BB.size b rfl rfl rfl rfl
    have G := mv b rfl <| And.intro a20 <| And.intro a21 <| And.intro a22 <| And.intro hT <| And.intro N2 <| And.intro N7 <| And.intro a70 <| And.intro a71 <| And.intro a72 <| And.intro N8 <| And.intro a80 <| And.intro a81 <| And.intro a82 <| And.intro N9 <| And.intro a90 <| And.intro a91 <| And.intro a92 <| And.intro N10 <| And.intro a100 <| And.intro a101 <| a102
    clear b a20 a21 a22 hT N2 N7 a70 a71 a72 N8 a80 a81 a82 N9 a90 a91 a92 N10 a100 a101 a102
    obtain ⟨a20, a21, a22, hT, N2, N7, a70, a71, a72, N8, a80, a81, a82, N9, a90, a91, a92, N10, a100, a101, a102⟩ := G
    go_wp2_with fail
    refine (dcmp_ok hK hT N2 N10 O2.out O10.out).mono ?_
    rintro en w14 ⟨rfl, b⟩
    obtain ⟨z', hz⟩ : ∃ z, cmpV (vz K false m2 e2) (vz K s10 m10 e10) = z := ⟨_, rfl⟩
    rw [hz]
    have dz' : decide (z' ≤ 0) = true := decide_eq_true (cmpV_le hz ((root_prod hK nlo (by omega) bY.out O2.out P8.out P10.out).2 rfl))
    clear hz
    replace BB := below_next BB BB.size b rfl rfl rfl rfl
    have G := mv b rfl <| And.intro a20 <| And.intro a21 <| And.intro a22 <| And.intro hT <| And.intro N2 <| And.intro N7 <| And.intro a70 <| And.intro a71 <| And.intro a72 <| And.intro N8 <| And.intro a80 <| And.intro a81 <| And.intro a82 <| And.intro N9 <| And.intro a90 <| And.intro a91 <| And.intro a92 <| And.intro N10 <| And.intro a100 <| And.intro a101 <| a102
    clear b a20 a21 a22 hT N2 N7 a70 a71 a72 N8 a80 a81 a82 N9 a90 a91 a92 N10 a100 a101 a102
    obtain ⟨a20, a21, a22, hT, N2, N7, a70, a71, a72, N8, a80, a81, a82, N9, a90, a91, a92, N10, a100, a101, a102⟩ := G
    clear a20 a21 a22 N2 N9 a90 a91 a92 N10 a100 a101 a102
    go_wp2_with fail
    refine (sign_is (z := 1) hT N7 O7.out HS.out).mono ?_
    rintro en w15 ⟨rfl, b⟩
    replace BB := below_next BB BB.size b rfl rfl rfl rfl
    have G := mv b rfl <| And.intro hT <| And.intro N7 <| And.intro a70 <| And.intro a71 <| And.intro a72 <| And.intro N8 <| And.intro a80 <| And.intro a81 <| a82
    clear b hT N7 a70 a71 a72 N8 a80 a81 a82
    obtain ⟨hT, N7, a70, a71, a72, N8, a80, a81, a82⟩ := G
    go_wp2_with fail
    refine (bits_ok hT N7 O7.out).mono ?_
    rintro en w16 ⟨rfl, b⟩
    clear N7 a70 a71 a72
    replace BB := below_next BB BB.size b rfl rfl rfl rfl
    have G := mv b rfl <| And.intro hT <| And.intro N8 <| And.intro a80 <| And.intro a81 <| a82
    clear b hT N8 a80 a81 a82
    obtain ⟨hT, N8, a80, a81, a82⟩ := G
    go_wp2_with fail
    refine (bits_ok hT N8 O8.out).mono ?_
    rintro en w17 ⟨rfl, b⟩
    clear N8 a80 a81 a82
    replace BB := below_next BB BB.size b rfl rfl rfl rfl
    replace hT := mv b rfl hT
    clear b
    go_wp2
    go_ret
    exact ⟨by first | rfl | simp, BB⟩
  subst z5
  by_cases z6 : k6 = 0
  rotate_left
  · have f6 : (k6 == 0) = false := by simp [z6]
    clear z6
    clear a10 a11 a12 N1 N3 a30 a31 a32 N4 a40 a41 a42 N5 a50 a51 a52 N6 a60 a61 a62
    go_wp2_with fail
    refine (rroot_ok (p := n) hT N2 O2.out nlo (by omega) rfl).mono ?_
    rintro en v7 ⟨k7, s7, A7, n7, c7, m7, e7, rfl, hp, N7, b⟩
    have P7 := Lib.hid hp
    have O7 := Lib.hid (ro_okd hp)
    clear hp
    replace BB := below_next BB BB.size b rfl rfl rfl rfl
    have G := mv b rfl <| And.intro a20 <| And.intro a21 <| And.intro a22 <| And.intro hT <| N2
    clear b a20 a21 a22 hT N2
    obtain ⟨a20, a21, a22, hT, N2⟩ := G
    obtain ⟨a70, a71, a72⟩ := (Box.new v7 s7 A7 n7 c7 e7).held
    have b := below_alloc v7 (.cells #[.bool s7, .slice A7 n7 c7, .int .i64 e7] 24)
    replace BB := below_next BB BB.size b rfl rfl rfl rfl
    have G := mv b rfl <| And.intro a20 <| And.intro a21 <| And.intro a22 <| And.intro hT <| And.intro N2 <| N7
    clear b a20 a21 a22 hT N2 N7
    obtain ⟨a20, a21, a22, hT, N2, N7⟩ := G
    go_wp2_with fail
    refine (rroot_ok (p := n) hT N2 O2.out nlo (by omega) rfl).mono ?_
    rintro en v8 ⟨k8, s8, A8, n8, c8, m8, e8, rfl, hp, N8, b⟩
    have P8 := Lib.hid hp
    have O8 := Lib.hid (ro_okd hp)
    clear hp
    replace BB := below_next BB BB.size b rfl rfl rfl rfl
    have G := mv b rfl <| And.intro a20 <| And.intro a21 <| And.intro a22 <| And.intro hT <| And.intro N2 <| And.intro N7 <| And.intro a70 <| And.intro a71 <| a72
    clear b a20 a21 a22 hT N2 N7 a70 a71 a72
    obtain ⟨a20, a21, a22, hT, N2, N7, a70, a71, a72⟩ := G
    obtain ⟨a80, a81, a82⟩ := (Box.new v8 s8 A8 n8 c8 e8).held
    have b := below_alloc v8 (.cells #[.bool s8, .slice A8 n8 c8, .int .i64 e8] 24)
    replace BB := below_next BB BB.size b rfl rfl rfl rfl
    have G := mv b rfl <| And.intro a20 <| And.intro a21 <| And.intro a22 <| And.intro hT <| And.intro N2 <| And.intro N7 <| And.intro a70 <| And.intro a71 <| And.intro a72 <| N8
    clear b a20 a21 a22 hT N2 N7 a70 a71 a72 N8
    obtain ⟨a20, a21, a22, hT, N2, N7, a70, a71, a72, N8⟩ := G
    by_cases z7 : k7 = 0
    rotate_left
    · have f7 : (k7 != 0) = true := by simp [z7]
      clear z7
      go_wp2_with fail
      refine (rtold_any hT).mono ?_
      rintro en w99 ⟨rfl, b⟩
      replace BB := below_next BB BB.size b rfl rfl rfl rfl
      clear b
      go_wp2
      go_ret
      exact ⟨by first | rfl | simp, BB⟩
    subst z7
    by_cases z8 : k8 = 0
    rotate_left
    · have f8 : (k8 != 0) = true := by simp [z8]
      clear z8
      go_wp2_with fail
      refine (rtold_any hT).mono ?_
      rintro en w99 ⟨rfl, b⟩
      replace BB := below_next BB BB.size b rfl rfl rfl rfl
      clear b
      go_wp2
      go_ret
      exact ⟨by first | rfl | simp, BB⟩
    subst z8
    go_wp2_with fail
    refine (dmul_ok hT N7 N7 O7.out O7.out).mono ?_
    rintro en v9 ⟨k9, s9, A9, n9, c9, m9, e9, rfl, hp, N9, b⟩
    have P9 := Lib.hid hp
    have O9 := Lib.hid (nm_okd hp)
    clear hp
    replace BB := below_next BB BB.size b rfl rfl rfl rfl
    have G := mv b rfl <| And.intro a20 <| And.intro a21 <| And.intro a22 <| And.intro hT <| And.intro N2 <| And.intro N7 <| And.intro a70 <| And.intro a71 <| And.intro a72 <| And.intro N8 <| And.intro a80 <| And.intro a81 <| a82
    clear b a20 a21 a22 hT N2 N7 a70 a71 a72 N8 a80 a81 a82
    obtain ⟨a20, a21, a22, hT, N2, N7, a70, a71, a72, N8, a80, a81, a82⟩ := G
    obtain ⟨a90, a91, a92⟩ := (Box.new v9 s9 A9 n9 c9 e9).held
    have b := below_alloc v9 (.cells #[.bool s9, .slice A9 n9 c9, .int .i64 e9] 24)
    replace BB := below_next BB BB.size b rfl rfl rfl rfl
    have G := mv b rfl <| And.intro a20 <| And.intro a21 <| And.intro a22 <| And.intro hT <| And.intro N2 <| And.intro N7 <| And.intro a70 <| And.intro a71 <| And.intro a72 <| And.intro N8 <| And.intro a80 <| And.intro a81 <| And.intro a82 <| N9
    clear b a20 a21 a22 hT N2 N7 a70 a71 a72 N8 a80 a81 a82 N9
    obtain ⟨a20, a21, a22, hT, N2, N7, a70, a71, a72, N8, a80, a81, a82, N9⟩ := G
    go_wp2_with fail
    refine (dmul_ok hT N8 N8 O8.out O8.out).mono ?_
    rintro en v10 ⟨k10, s10, A10, n10, c10, m10, e10, rfl, hp, N10, b⟩
    have P10 := Lib.hid hp
    have O10 := Lib.hid (nm_okd hp)
    clear hp
    replace BB := below_next BB BB.size b rfl rfl rfl rfl
    have G := mv b rfl <| And.intro a20 <| And.intro a21 <| And.intro a22 <| And.intro hT <| And.intro N2 <| And.intro N7 <| And.intro a70 <| And.intro a71 <| And.intro a72 <| And.intro N8 <| And.intro a80 <| And.intro a81 <| And.intro a82 <| And.intro N9 <| And.intro a90 <| And.intro a91 <| a92
    clear b a20 a21 a22 hT N2 N7 a70 a71 a72 N8 a80 a81 a82 N9 a90 a91 a92
    obtain ⟨a20, a21, a22, hT, N2, N7, a70, a71, a72, N8, a80, a81, a82, N9, a90, a91, a92⟩ := G
    obtain ⟨a100, a101, a102⟩ := (Box.new v10 s10 A10 n10 c10 e10).held
    have b := below_alloc v10 (.cells #[.bool s10, .slice A10 n10 c10, .int .i64 e10] 24)
    replace BB := below_next BB BB.size b rfl rfl rfl rfl
    have G := mv b rfl <| And.intro a20 <| And.intro a21 <| And.intro a22 <| And.intro hT <| And.intro N2 <| And.intro N7 <| And.intro a70 <| And.intro a71 <| And.intro a72 <| And.intro N8 <| And.intro a80 <| And.intro a81 <| And.intro a82 <| And.intro N9 <| And.intro a90 <| And.intro a91 <| And.intro a92 <| N10
    clear b a20 a21 a22 hT N2 N7 a70 a71 a72 N8 a80 a81 a82 N9 a90 a91 a92 N10
    obtain ⟨a20, a21, a22, hT, N2, N7, a70, a71, a72, N8, a80, a81, a82, N9, a90, a91, a92, N10⟩ := G
    have HS := Lib.hid (root_pos nlo Y2.out P7.out)
    have db7 : decide (blen m7 ≤ n) = true := decide_eq_true (ro_bits nlo P7.out)
    have db8 : decide (blen m8 ≤ n) = true := decide_eq_true (ro_bits nlo P8.out)
    go_wp2_with fail
    refine (rtold_any hT).mono ?_
    rintro en w12 ⟨rfl, b⟩
    replace BB := below_next BB BB.size b rfl rfl rfl rfl
    have G := mv b rfl <| And.intro a20 <| And.intro a21 <| And.intro a22 <| And.intro hT <| And.intro N2 <| And.intro N7 <| And.intro a70 <| And.intro a71 <| And.intro a72 <| And.intro N8 <| And.intro a80 <| And.intro a81 <| And.intro a82 <| And.intro N9 <| And.intro a90 <| And.intro a91 <| And.intro a92 <| And.intro N10 <| And.intro a100 <| And.intro a101 <| a102
    clear b a20 a21 a22 hT N2 N7 a70 a71 a72 N8 a80 a81 a82 N9 a90 a91 a92 N10 a100 a101 a102
    obtain ⟨a20, a21, a22, hT, N2, N7, a70, a71, a72, N8, a80, a81, a82, N9, a90, a91, a92, N10, a100, a101, a102⟩ := G
    by_cases z9 : k9 = 0
    rotate_left
    · have f9 : (k9 != 0) = true := by simp [z9]
      clear z9
      clear a20 a21 a22 N2 N9 a90 a91 a92 N10 a100 a101 a102
      go_wp2_with fail
      refine (sign_is (z := 1) hT N7 O7.out HS.out).mono ?_
      rintro en w13 ⟨rfl, b⟩
      replace BB := below_next BB BB.size b rfl rfl rfl rfl
      have G := mv b rfl <| And.intro hT <| And.intro N7 <| And.intro a70 <| And.intro a71 <| And.intro a72 <| And.intro N8 <| And.intro a80 <| And.intro a81 <| a82
      clear b hT N7 a70 a71 a72 N8 a80 a81 a82
      obtain ⟨hT, N7, a70, a71, a72, N8, a80, a81, a82⟩ := G
      go_wp2_with fail
      refine (bits_ok hT N7 O7.out).mono ?_
      rintro en w14 ⟨rfl, b⟩
      clear N7 a70 a71 a72
      replace BB := below_next BB BB.size b rfl rfl rfl rfl
      have G := mv b rfl <| And.intro hT <| And.intro N8 <| And.intro a80 <| And.intro a81 <| a82
      clear b hT N8 a80 a81 a82
      obtain ⟨hT, N8, a80, a81, a82⟩ := G
      go_wp2_with fail
      refine (bits_ok hT N8 O8.out).mono ?_
      rintro en w15 ⟨rfl, b⟩
      clear N8 a80 a81 a82
      replace BB := below_next BB BB.size b rfl rfl rfl rfl
      replace hT := mv b rfl hT
      clear b
      go_wp2
      go_ret
      exact ⟨by first | rfl | simp, BB⟩
    subst z9
    by_cases z10 : k10 = 0
    rotate_left
    · have f10 : (k10 != 0) = true := by simp [z10]
      clear z10
      clear a20 a21 a22 N2 N9 a90 a91 a92 N10 a100 a101 a102
      go_wp2_with fail
      refine (sign_is (z := 1) hT N7 O7.out HS.out).mono ?_
      rintro en w13 ⟨rfl, b⟩
      replace BB := below_next BB BB.size b rfl rfl rfl rfl
      have G := mv b rfl <| And.intro hT <| And.intro N7 <| And.intro a70 <| And.intro a71 <| And.intro a72 <| And.intro N8 <| And.intro a80 <| And.intro a81 <| a82
      clear b hT N7 a70 a71 a72 N8 a80 a81 a82
      obtain ⟨hT, N7, a70, a71, a72, N8, a80, a81, a82⟩ := G
      go_wp2_with fail
      refine (bits_ok hT N7 O7.out).mono ?_
      rintro en w14 ⟨rfl, b⟩
      clear N7 a70 a71 a72
      replace BB := below_next BB BB.size b rfl rfl rfl rfl
      have G := mv b rfl <| And.intro hT <| And.intro N8 <| And.intro a80 <| And.intro a81 <| a82
      clear b hT N8 a80 a81 a82
      obtain ⟨hT, N8, a80, a81, a82⟩ := G
      go_wp2_with fail
      refine (bits_ok hT N8 O8.out).mono ?_
      rintro en w15 ⟨rfl, b⟩
      clear N8 a80 a81 a82
      replace BB := below_next BB BB.size b rfl rfl rfl rfl
      replace hT := mv b rfl hT
      clear b
      go_wp2
      go_ret
      exact ⟨by first | rfl | simp, BB⟩
    subst z10
    go_wp2_with fail
    refine (dcmp_ok hK hT N9 N2 O9.out O2.out).mono ?_
    rintro en w13 ⟨rfl, b⟩
    obtain ⟨z, hz⟩ : ∃ z, cmpV (vz K s9 m9 e9) (vz K false m2 e2) = z := ⟨_, rfl⟩
    rw [hz]
    have dz : decide (z ≤ 0) = true := decide_eq_true (cmpV_le hz ((root_prod hK nlo (by omega) bY.out O2.out P7.out P9.out).1 rfl))
    clear hz
    replace BB := below_next BB BB.size b rfl rfl rfl rfl
    have G := mv b rfl <| And.intro a20 <| And.intro a21 <| And.intro a22 <| And.intro hT <| And.intro N2 <| And.intro N7 <| And.intro a70 <| And.intro a71 <| And.intro a72 <| And.intro N8 <| And.intro a80 <| And.intro a81 <| And.intro a82 <| And.intro N9 <| And.intro a90 <| And.intro a91 <| And.intro a92 <| And.intro N10 <| And.intro a100 <| And.intro a101 <| a102
    clear b a20 a21 a22 hT N2 N7 a70 a71 a72 N8 a80 a81 a82 N9 a90 a91 a92 N10 a100 a101 a102
    obtain ⟨a20, a21, a22, hT, N2, N7, a70, a71, a72, N8, a80, a81, a82, N9, a90, a91, a92, N10, a100, a101, a102⟩ := G
    go_wp2_with fail
    refine (dcmp_ok hK hT N2 N10 O2.out O10.out).mono ?_
    rintro en w14 ⟨rfl, b⟩
    obtain ⟨z', hz⟩ : ∃ z, cmpV (vz K false m2 e2) (vz K s10 m10 e10) = z := ⟨_, rfl⟩
    rw [hz]
    have dz' : decide (z' ≤ 0) = true := decide_eq_true (cmpV_le hz ((root_prod hK nlo (by omega) bY.out O2.out P8.out P10.out).2 rfl))
    clear hz
    replace BB := below_next BB BB.size b rfl rfl rfl rfl
    have G := mv b rfl <| And.intro a20 <| And.intro a21 <| And.intro a22 <| And.intro hT <| And.intro N2 <| And.intro N7 <| And.intro a70 <| And.intro a71 <| And.intro a72 <| And.intro N8 <| And.intro a80 <| And.intro a81 <| And.intro a82 <| And.intro N9 <| And.intro a90 <| And.intro a91 <| And.intro a92 <| And.intro N10 <| And.intro a100 <| And.intro a101 <| a102
    clear b a20 a21 a22 hT N2 N7 a70 a71 a72 N8 a80 a81 a82 N9 a90 a91 a92 N10 a100 a101 a102
    obtain ⟨a20, a21, a22, hT, N2, N7, a70, a71, a72, N8, a80, a81, a82, N9, a90, a91, a92, N10, a100, a101, a102⟩ := G
    clear a20 a21 a22 N2 N9 a90 a91 a92 N10 a100 a101 a102
    go_wp2_with fail
    refine (sign_is (z := 1) hT N7 O7.out HS.out).mono ?_
    rintro en w15 ⟨rfl, b⟩
    replace BB := below_next BB BB.size b rfl rfl rfl rfl
    have G := mv b rfl <| And.intro hT <| And.intro N7 <| And.intro a70 <| And.intro a71 <| And.intro a72 <| And.intro N8 <| And.intro a80 <| And.intro a81 <| a82
    clear b hT N7 a70 a71 a72 N8 a80 a81 a82
    obtain ⟨hT, N7, a70, a71, a72, N8, a80, a81, a82⟩ := G
    go_wp2_with fail
    refine (bits_ok hT N7 O7.out).mono ?_
    rintro en w16 ⟨rfl, b⟩
    clear N7 a70 a71 a72
    replace BB := below_next BB BB.size b rfl rfl rfl rfl
    have G := mv b rfl <| And.intro hT <| And.intro N8 <| And.intro a80 <| And.intro a81 <| a82
    clear b hT N8 a80 a81 a82
    obtain ⟨hT, N8, a80, a81, a82⟩ := G
    go_wp2_with fail
    refine (bits_ok hT N8 O8.out).mono ?_
    rintro en w17 ⟨rfl, b⟩
    clear N8 a80 a81 a82
    replace BB := below_next BB BB.size b rfl rfl rfl rfl
    replace hT := mv b rfl hT
    clear b
    go_wp2
    go_ret
    exact ⟨by first | rfl | simp, BB⟩
  subst z6
  go_wp2_with fail
  refine (dcmp_ok hK hT N5 N1 O5.out O1.out).mono ?_
  rintro en w8 ⟨rfl, b⟩
  obtain ⟨z, hz⟩ : ∃ z, cmpV (vz K s5 m5 e5) (vz K s1 m1 e1) = z := ⟨_, rfl⟩
  rw [hz]
  have dy' : decide (0 < z) = false := decide_eq_false (by have := cmpV_le hz ((quot_prod hK Y2.out (by omega) bx.out bY.out O1.out O2.out P3.out P5.out).1 rfl); omega)
  clear hz
  replace BB := below_next BB BB.size b rfl rfl rfl rfl
  have G := mv b rfl <| And.intro a10 <| And.intro a11 <| And.intro a12 <| And.intro a20 <| And.intro a21 <| And.intro a22 <| And.intro hT <| And.intro N1 <| And.intro N2 <| And.intro N3 <| And.intro a30 <| And.intro a31 <| And.intro a32 <| And.intro N4 <| And.intro a40 <| And.intro a41 <| And.intro a42 <| And.intro N5 <| And.intro a50 <| And.intro a51 <| And.intro a52 <| And.intro N6 <| And.intro a60 <| And.intro a61 <| a62
  clear b a10 a11 a12 a20 a21 a22 hT N1 N2 N3 a30 a31 a32 N4 a40 a41 a42 N5 a50 a51 a52 N6 a60 a61 a62
  obtain ⟨a10, a11, a12, a20, a21, a22, hT, N1, N2, N3, a30, a31, a32, N4, a40, a41, a42, N5, a50, a51, a52, N6, a60, a61, a62⟩ := G
  go_wp2_with fail
  refine (dcmp_ok hK hT N1 N6 O1.out O6.out).mono ?_
  rintro en w9 ⟨rfl, b⟩
  obtain ⟨z', hz⟩ : ∃ z, cmpV (vz K s1 m1 e1) (vz K s6 m6 e6) = z := ⟨_, rfl⟩
  rw [hz]
  have dy'' : decide (0 < z') = false := decide_eq_false (by have := cmpV_le hz ((quot_prod hK Y2.out (by omega) bx.out bY.out O1.out O2.out P4.out P6.out).2 rfl); omega)
  clear hz
  replace BB := below_next BB BB.size b rfl rfl rfl rfl
  have G := mv b rfl <| And.intro a10 <| And.intro a11 <| And.intro a12 <| And.intro a20 <| And.intro a21 <| And.intro a22 <| And.intro hT <| And.intro N1 <| And.intro N2 <| And.intro N3 <| And.intro a30 <| And.intro a31 <| And.intro a32 <| And.intro N4 <| And.intro a40 <| And.intro a41 <| And.intro a42 <| And.intro N5 <| And.intro a50 <| And.intro a51 <| And.intro a52 <| And.intro N6 <| And.intro a60 <| And.intro a61 <| a62
  clear b a10 a11 a12 a20 a21 a22 hT N1 N2 N3 a30 a31 a32 N4 a40 a41 a42 N5 a50 a51 a52 N6 a60 a61 a62
  obtain ⟨a10, a11, a12, a20, a21, a22, hT, N1, N2, N3, a30, a31, a32, N4, a40, a41, a42, N5, a50, a51, a52, N6, a60, a61, a62⟩ := G
  clear a10 a11 a12 N1 N3 a30 a31 a32 N4 a40 a41 a42 N5 a50 a51 a52 N6 a60 a61 a62
  go_wp2_with fail
  refine (rroot_ok (p := n) hT N2 O2.out nlo (by omega) rfl).mono ?_
  rintro en v7 ⟨k7, s7, A7, n7, c7, m7, e7, rfl, hp, N7, b⟩
  have P7 := Lib.hid hp
  have O7 := Lib.hid (ro_okd hp)
  clear hp
  replace BB := below_next BB BB.size b rfl rfl rfl rfl
  have G := mv b rfl <| And.intro a20 <| And.intro a21 <| And.intro a22 <| And.intro hT <| N2
  clear b a20 a21 a22 hT N2
  obtain ⟨a20, a21, a22, hT, N2⟩ := G
  obtain ⟨a70, a71, a72⟩ := (Box.new v7 s7 A7 n7 c7 e7).held
  have b := below_alloc v7 (.cells #[.bool s7, .slice A7 n7 c7, .int .i64 e7] 24)
  replace BB := below_next BB BB.size b rfl rfl rfl rfl
  have G := mv b rfl <| And.intro a20 <| And.intro a21 <| And.intro a22 <| And.intro hT <| And.intro N2 <| N7
  clear b a20 a21 a22 hT N2 N7
  obtain ⟨a20, a21, a22, hT, N2, N7⟩ := G
  go_wp2_with fail
  refine (rroot_ok (p := n) hT N2 O2.out nlo (by omega) rfl).mono ?_
  rintro en v8 ⟨k8, s8, A8, n8, c8, m8, e8, rfl, hp, N8, b⟩
  have P8 := Lib.hid hp
  have O8 := Lib.hid (ro_okd hp)
  clear hp
  replace BB := below_next BB BB.size b rfl rfl rfl rfl
  have G := mv b rfl <| And.intro a20 <| And.intro a21 <| And.intro a22 <| And.intro hT <| And.intro N2 <| And.intro N7 <| And.intro a70 <| And.intro a71 <| a72
  clear b a20 a21 a22 hT N2 N7 a70 a71 a72
  obtain ⟨a20, a21, a22, hT, N2, N7, a70, a71, a72⟩ := G
  obtain ⟨a80, a81, a82⟩ := (Box.new v8 s8 A8 n8 c8 e8).held
  have b := below_alloc v8 (.cells #[.bool s8, .slice A8 n8 c8, .int .i64 e8] 24)
  replace BB := below_next BB BB.size b rfl rfl rfl rfl
  have G := mv b rfl <| And.intro a20 <| And.intro a21 <| And.intro a22 <| And.intro hT <| And.intro N2 <| And.intro N7 <| And.intro a70 <| And.intro a71 <| And.intro a72 <| N8
  clear b a20 a21 a22 hT N2 N7 a70 a71 a72 N8
  obtain ⟨a20, a21, a22, hT, N2, N7, a70, a71, a72, N8⟩ := G
  by_cases z7 : k7 = 0
  rotate_left
  · have f7 : (k7 != 0) = true := by simp [z7]
    clear z7
    go_wp2_with fail
    refine (rtold_any hT).mono ?_
    rintro en w99 ⟨rfl, b⟩
    replace BB := below_next BB BB.size b rfl rfl rfl rfl
    clear b
    go_wp2
    go_ret
    exact ⟨by first | rfl | simp, BB⟩
  subst z7
  by_cases z8 : k8 = 0
  rotate_left
  · have f8 : (k8 != 0) = true := by simp [z8]
    clear z8
    go_wp2_with fail
    refine (rtold_any hT).mono ?_
    rintro en w99 ⟨rfl, b⟩
    replace BB := below_next BB BB.size b rfl rfl rfl rfl
    clear b
    go_wp2
    go_ret
    exact ⟨by first | rfl | simp, BB⟩
  subst z8
  go_wp2_with fail
  refine (dmul_ok hT N7 N7 O7.out O7.out).mono ?_
  rintro en v9 ⟨k9, s9, A9, n9, c9, m9, e9, rfl, hp, N9, b⟩
  have P9 := Lib.hid hp
  have O9 := Lib.hid (nm_okd hp)
  clear hp
  replace BB := below_next BB BB.size b rfl rfl rfl rfl
  have G := mv b rfl <| And.intro a20 <| And.intro a21 <| And.intro a22 <| And.intro hT <| And.intro N2 <| And.intro N7 <| And.intro a70 <| And.intro a71 <| And.intro a72 <| And.intro N8 <| And.intro a80 <| And.intro a81 <| a82
  clear b a20 a21 a22 hT N2 N7 a70 a71 a72 N8 a80 a81 a82
  obtain ⟨a20, a21, a22, hT, N2, N7, a70, a71, a72, N8, a80, a81, a82⟩ := G
  obtain ⟨a90, a91, a92⟩ := (Box.new v9 s9 A9 n9 c9 e9).held
  have b := below_alloc v9 (.cells #[.bool s9, .slice A9 n9 c9, .int .i64 e9] 24)
  replace BB := below_next BB BB.size b rfl rfl rfl rfl
  have G := mv b rfl <| And.intro a20 <| And.intro a21 <| And.intro a22 <| And.intro hT <| And.intro N2 <| And.intro N7 <| And.intro a70 <| And.intro a71 <| And.intro a72 <| And.intro N8 <| And.intro a80 <| And.intro a81 <| And.intro a82 <| N9
  clear b a20 a21 a22 hT N2 N7 a70 a71 a72 N8 a80 a81 a82 N9
  obtain ⟨a20, a21, a22, hT, N2, N7, a70, a71, a72, N8, a80, a81, a82, N9⟩ := G
  go_wp2_with fail
  refine (dmul_ok hT N8 N8 O8.out O8.out).mono ?_
  rintro en v10 ⟨k10, s10, A10, n10, c10, m10, e10, rfl, hp, N10, b⟩
  have P10 := Lib.hid hp
  have O10 := Lib.hid (nm_okd hp)
  clear hp
  replace BB := below_next BB BB.size b rfl rfl rfl rfl
  have G := mv b rfl <| And.intro a20 <| And.intro a21 <| And.intro a22 <| And.intro hT <| And.intro N2 <| And.intro N7 <| And.intro a70 <| And.intro a71 <| And.intro a72 <| And.intro N8 <| And.intro a80 <| And.intro a81 <| And.intro a82 <| And.intro N9 <| And.intro a90 <| And.intro a91 <| a92
  clear b a20 a21 a22 hT N2 N7 a70 a71 a72 N8 a80 a81 a82 N9 a90 a91 a92
  obtain ⟨a20, a21, a22, hT, N2, N7, a70, a71, a72, N8, a80, a81, a82, N9, a90, a91, a92⟩ := G
  obtain ⟨a100, a101, a102⟩ := (Box.new v10 s10 A10 n10 c10 e10).held
  have b := below_alloc v10 (.cells #[.bool s10, .slice A10 n10 c10, .int .i64 e10] 24)
  replace BB := below_next BB BB.size b rfl rfl rfl rfl
  have G := mv b rfl <| And.intro a20 <| And.intro a21 <| And.intro a22 <| And.intro hT <| And.intro N2 <| And.intro N7 <| And.intro a70 <| And.intro a71 <| And.intro a72 <| And.intro N8 <| And.intro a80 <| And.intro a81 <| And.intro a82 <| And.intro N9 <| And.intro a90 <| And.intro a91 <| And.intro a92 <| N10
  clear b a20 a21 a22 hT N2 N7 a70 a71 a72 N8 a80 a81 a82 N9 a90 a91 a92 N10
  obtain ⟨a20, a21, a22, hT, N2, N7, a70, a71, a72, N8, a80, a81, a82, N9, a90, a91, a92, N10⟩ := G
  have HS := Lib.hid (root_pos nlo Y2.out P7.out)
  have db7 : decide (blen m7 ≤ n) = true := decide_eq_true (ro_bits nlo P7.out)
  have db8 : decide (blen m8 ≤ n) = true := decide_eq_true (ro_bits nlo P8.out)
  go_wp2_with fail
  refine (rtold_any hT).mono ?_
  rintro en w14 ⟨rfl, b⟩
  replace BB := below_next BB BB.size b rfl rfl rfl rfl
  have G := mv b rfl <| And.intro a20 <| And.intro a21 <| And.intro a22 <| And.intro hT <| And.intro N2 <| And.intro N7 <| And.intro a70 <| And.intro a71 <| And.intro a72 <| And.intro N8 <| And.intro a80 <| And.intro a81 <| And.intro a82 <| And.intro N9 <| And.intro a90 <| And.intro a91 <| And.intro a92 <| And.intro N10 <| And.intro a100 <| And.intro a101 <| a102
  clear b a20 a21 a22 hT N2 N7 a70 a71 a72 N8 a80 a81 a82 N9 a90 a91 a92 N10 a100 a101 a102
  obtain ⟨a20, a21, a22, hT, N2, N7, a70, a71, a72, N8, a80, a81, a82, N9, a90, a91, a92, N10, a100, a101, a102⟩ := G
  by_cases z9 : k9 = 0
  rotate_left
  · have f9 : (k9 != 0) = true := by simp [z9]
    clear z9
    clear a20 a21 a22 N2 N9 a90 a91 a92 N10 a100 a101 a102
    go_wp2_with fail
    refine (sign_is (z := 1) hT N7 O7.out HS.out).mono ?_
    rintro en w15 ⟨rfl, b⟩
    replace BB := below_next BB BB.size b rfl rfl rfl rfl
    have G := mv b rfl <| And.intro hT <| And.intro N7 <| And.intro a70 <| And.intro a71 <| And.intro a72 <| And.intro N8 <| And.intro a80 <| And.intro a81 <| a82
    clear b hT N7 a70 a71 a72 N8 a80 a81 a82
    obtain ⟨hT, N7, a70, a71, a72, N8, a80, a81, a82⟩ := G
    go_wp2_with fail
    refine (bits_ok hT N7 O7.out).mono ?_
    rintro en w16 ⟨rfl, b⟩
    clear N7 a70 a71 a72
    replace BB := below_next BB BB.size b rfl rfl rfl rfl
    have G := mv b rfl <| And.intro hT <| And.intro N8 <| And.intro a80 <| And.intro a81 <| a82
    clear b hT N8 a80 a81 a82
    obtain ⟨hT, N8, a80, a81, a82⟩ := G
    go_wp2_with fail
    refine (bits_ok hT N8 O8.out).mono ?_
    rintro en w17 ⟨rfl, b⟩
    clear N8 a80 a81 a82
    replace BB := below_next BB BB.size b rfl rfl rfl rfl
    replace hT := mv b rfl hT
    clear b
    go_wp2
    go_ret
    exact ⟨by first | rfl | simp, BB⟩
  subst z9
  by_cases z10 : k10 = 0
  rotate_left
  · have f10 : (k10 != 0) = true := by simp [z10]
    clear z10
    clear a20 a21 a22 N2 N9 a90 a91 a92 N10 a100 a101 a102
    go_wp2_with fail
    refine (sign_is (z := 1) hT N7 O7.out HS.out).mono ?_
    rintro en w15 ⟨rfl, b⟩
    replace BB := below_next BB BB.size b rfl rfl rfl rfl
    have G := mv b rfl <| And.intro hT <| And.intro N7 <| And.intro a70 <| And.intro a71 <| And.intro a72 <| And.intro N8 <| And.intro a80 <| And.intro a81 <| a82
    clear b hT N7 a70 a71 a72 N8 a80 a81 a82
    obtain ⟨hT, N7, a70, a71, a72, N8, a80, a81, a82⟩ := G
    go_wp2_with fail
    refine (bits_ok hT N7 O7.out).mono ?_
    rintro en w16 ⟨rfl, b⟩
    clear N7 a70 a71 a72
    replace BB := below_next BB BB.size b rfl rfl rfl rfl
    have G := mv b rfl <| And.intro hT <| And.intro N8 <| And.intro a80 <| And.intro a81 <| a82
    clear b hT N8 a80 a81 a82
    obtain ⟨hT, N8, a80, a81, a82⟩ := G
    go_wp2_with fail
    refine (bits_ok hT N8 O8.out).mono ?_
    rintro en w17 ⟨rfl, b⟩
    clear N8 a80 a81 a82
    replace BB := below_next BB BB.size b rfl rfl rfl rfl
    replace hT := mv b rfl hT
    clear b
    go_wp2
    go_ret
    exact ⟨by first | rfl | simp, BB⟩
  subst z10
  go_wp2_with fail
  refine (dcmp_ok hK hT N9 N2 O9.out O2.out).mono ?_
  rintro en w15 ⟨rfl, b⟩
  obtain ⟨z, hz⟩ : ∃ z, cmpV (vz K s9 m9 e9) (vz K false m2 e2) = z := ⟨_, rfl⟩
  rw [hz]
  have dz : decide (z ≤ 0) = true := decide_eq_true (cmpV_le hz ((root_prod hK nlo (by omega) bY.out O2.out P7.out P9.out).1 rfl))
  clear hz
  replace BB := below_next BB BB.size b rfl rfl rfl rfl
  have G := mv b rfl <| And.intro a20 <| And.intro a21 <| And.intro a22 <| And.intro hT <| And.intro N2 <| And.intro N7 <| And.intro a70 <| And.intro a71 <| And.intro a72 <| And.intro N8 <| And.intro a80 <| And.intro a81 <| And.intro a82 <| And.intro N9 <| And.intro a90 <| And.intro a91 <| And.intro a92 <| And.intro N10 <| And.intro a100 <| And.intro a101 <| a102
  clear b a20 a21 a22 hT N2 N7 a70 a71 a72 N8 a80 a81 a82 N9 a90 a91 a92 N10 a100 a101 a102
  obtain ⟨a20, a21, a22, hT, N2, N7, a70, a71, a72, N8, a80, a81, a82, N9, a90, a91, a92, N10, a100, a101, a102⟩ := G
  go_wp2_with fail
  refine (dcmp_ok hK hT N2 N10 O2.out O10.out).mono ?_
  rintro en w16 ⟨rfl, b⟩
  obtain ⟨z', hz⟩ : ∃ z, cmpV (vz K false m2 e2) (vz K s10 m10 e10) = z := ⟨_, rfl⟩
  rw [hz]
  have dz' : decide (z' ≤ 0) = true := decide_eq_true (cmpV_le hz ((root_prod hK nlo (by omega) bY.out O2.out P8.out P10.out).2 rfl))
  clear hz
  replace BB := below_next BB BB.size b rfl rfl rfl rfl
  have G := mv b rfl <| And.intro a20 <| And.intro a21 <| And.intro a22 <| And.intro hT <| And.intro N2 <| And.intro N7 <| And.intro a70 <| And.intro a71 <| And.intro a72 <| And.intro N8 <| And.intro a80 <| And.intro a81 <| And.intro a82 <| And.intro N9 <| And.intro a90 <| And.intro a91 <| And.intro a92 <| And.intro N10 <| And.intro a100 <| And.intro a101 <| a102
  clear b a20 a21 a22 hT N2 N7 a70 a71 a72 N8 a80 a81 a82 N9 a90 a91 a92 N10 a100 a101 a102
  obtain ⟨a20, a21, a22, hT, N2, N7, a70, a71, a72, N8, a80, a81, a82, N9, a90, a91, a92, N10, a100, a101, a102⟩ := G
  clear a20 a21 a22 N2 N9 a90 a91 a92 N10 a100 a101 a102
  go_wp2_with fail
  refine (sign_is (z := 1) hT N7 O7.out HS.out).mono ?_
  rintro en w17 ⟨rfl, b⟩
  replace BB := below_next BB BB.size b rfl rfl rfl rfl
  have G := mv b rfl <| And.intro hT <| And.intro N7 <| And.intro a70 <| And.intro a71 <| And.intro a72 <| And.intro N8 <| And.intro a80 <| And.intro a81 <| a82
  clear b hT N7 a70 a71 a72 N8 a80 a81 a82
  obtain ⟨hT, N7, a70, a71, a72, N8, a80, a81, a82⟩ := G
  go_wp2_with fail
  refine (bits_ok hT N7 O7.out).mono ?_
  rintro en w18 ⟨rfl, b⟩
  clear N7 a70 a71 a72
  replace BB := below_next BB BB.size b rfl rfl rfl rfl
  have G := mv b rfl <| And.intro hT <| And.intro N8 <| And.intro a80 <| And.intro a81 <| a82
  clear b hT N8 a80 a81 a82
  obtain ⟨hT, N8, a80, a81, a82⟩ := G
  go_wp2_with fail
  refine (bits_ok hT N8 O8.out).mono ?_
  rintro en w19 ⟨rfl, b⟩
  clear N8 a80 a81 a82
  replace BB := below_next BB BB.size b rfl rfl rfl rfl
  replace hT := mv b rfl hT
  clear b
  go_wp2
  go_ret
  exact ⟨by first | rfl | simp, BB⟩
end Go.Proofs.YtkfcnodnefpboaaDoor
