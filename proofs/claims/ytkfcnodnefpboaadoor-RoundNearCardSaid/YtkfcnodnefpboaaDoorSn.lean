/-
  Contract of the statement RoundNear's function at this translation: it returns true, whatever its arguments. Condition: the slices read as limbs, the table of math/bits reads as its text lays it.
-/
import Derived.Test.YtkfcnodnefpboaaDoorRt
import Derived.Test.YtkfcnodnefpboaaDoorRm
namespace Go.Proofs.YtkfcnodnefpboaaDoor
open Go.RowKit

theorem down_near {K p : Nat} {s t : Bool} {x y : Nat} {e f : Int} {s' : Bool} {m' : Nat} {e' : Int} (hK : 4194304 ≤ K) (hd : OkD s x e) (hd' : OkD t y f) (hp : 1 ≤ p) (hy : Fits p y) (h : RdTold s x e p false 0 s' m' e') (hle : vz K t y f ≤ vz K s x e) : vz K t y f ≤ vz K s' m' e' := by
  have h1 := okd_ge hK hd
  have h2 := okd_ge hK hd'
  rw [nm_value h1.2.2 h]
  exact near_down hp h1.2.2 h2.2.2 hy hle
theorem up_near {K p : Nat} {s t : Bool} {x y : Nat} {e f : Int} {s' : Bool} {m' : Nat} {e' : Int} (hK : 4194304 ≤ K) (hd : OkD s x e) (hd' : OkD t y f) (hp : 1 ≤ p) (hy : Fits p y) (h : RdTold s x e p true 0 s' m' e') (hle : vz K s x e ≤ vz K t y f) : vz K s' m' e' ≤ vz K t y f := by
  have h1 := okd_ge hK hd
  have h2 := okd_ge hK hd'
  rw [nm_value h1.2.2 h]
  exact near_up hp h1.2.2 h2.2.2 hy hle

set_option maxRecDepth 100000 in
set_option maxHeartbeats 8000000 in
theorem near_any {w : World} {A1 : Option Addr} {n1 c1 : Nat} {l1 : List Nat} {s1 : Bool} {e1 : Int} {A2 : Option Addr} {n2 c2 : Nat} {l2 : List Nat} {s2 : Bool} {e2 : Int} {p : Int} (hT : Tab w) (h1 : Rd w .u64 W A1 n1 c1 l1) (h2 : Rd w .u64 W A2 n2 c2 l2) :
    Calls Tryd.prog 13 #[.agg #[.bool s1, .slice A1 n1 c1, .int .i64 e1], .agg #[.bool s2, .slice A2 n2 c2, .int .i64 e2], .int .i64 p] w fun en w' => ToldEnd w en w' := by
  have x1 : n1 ≤ 9223372036854775807 := Nat.le_trans h1.cap h1.max
  have x2 : n2 ≤ 9223372036854775807 := Nat.le_trans h2.cap h2.max
  obtain ⟨K, hK⟩ := scale_has
  obtain ⟨rn, hrn⟩ := Int.eq_ofNat_of_zero_le (show 0 ≤ IntKind.u64.wrap p by rw [IntKind.wrap_u64]; omega)
  obtain ⟨qn, hqn⟩ : ∃ q, q = rn % 200 := ⟨_, rfl⟩
  obtain ⟨n, hnn⟩ : ∃ n, n = 1 + qn := ⟨_, rfl⟩
  have uun : (rn : Int) % 200 = (qn : Int) := by omega
  have uvn : (1 : Int) + (qn : Int) = (n : Int) := by omega
  have uwn : (0 : Int) ≤ (rn : Int) := by omega
  have uxn : (qn : Int) ≤ 200 := by omega
  have nlo : 1 ≤ n := by omega
  have nhi : n ≤ 200 := by omega
  have uyn : (n : Int) ≤ 200 := by omega
  clear hqn hnn
  have BB := two_below w (.cells #[.bool s1, .slice A1 n1 c1, .int .i64 e1] 24) (.cells #[.bool s2, .slice A2 n2 c2, .int .i64 e2] 24)
  obtain ⟨a10, a11, a12, a20, a21, a22⟩ := (two_new w s1 s2 A1 A2 n1 c1 n2 c2 e1 e2).held
  have G := mv BB rfl <| And.intro hT <| And.intro h1 <| h2
  clear hT h1 h2
  obtain ⟨hT, h1, h2⟩ := G
  go_enter Tryd.func13, Tryd.ntmps13
  go_wp2_with fail
  refine (dfew_any (s := s1) (e := e1) x1).mono ?_
  rintro en w1 ⟨rfl, b⟩
  replace BB := below_next BB BB.size b rfl rfl rfl rfl
  have G := mv b rfl <| And.intro a10 <| And.intro a11 <| And.intro a12 <| And.intro a20 <| And.intro a21 <| And.intro a22 <| And.intro hT <| And.intro h1 <| h2
  clear b a10 a11 a12 a20 a21 a22 hT h1 h2
  obtain ⟨a10, a11, a12, a20, a21, a22, hT, h1, h2⟩ := G
  by_cases q1 : n1 ≤ 70
  rotate_left
  · rw [decide_eq_false q1]
    go_wp2_with fail
    refine (rtold_any hT).mono ?_
    rintro en w99 ⟨rfl, b⟩
    replace BB := below_next BB BB.size b rfl rfl rfl rfl
    clear b
    go_wp2
    go_ret
    exact ⟨by first | rfl | simp, BB⟩
  rw [decide_eq_true q1]
  go_wp2_with fail
  refine (dfew_any (s := s2) (e := e2) x2).mono ?_
  rintro en w2 ⟨rfl, b⟩
  replace BB := below_next BB BB.size b rfl rfl rfl rfl
  have G := mv b rfl <| And.intro a10 <| And.intro a11 <| And.intro a12 <| And.intro a20 <| And.intro a21 <| And.intro a22 <| And.intro hT <| And.intro h1 <| h2
  clear b a10 a11 a12 a20 a21 a22 hT h1 h2
  obtain ⟨a10, a11, a12, a20, a21, a22, hT, h1, h2⟩ := G
  by_cases q2 : n2 ≤ 70
  rotate_left
  · rw [decide_eq_false q2]
    go_wp2_with fail
    refine (rtold_any hT).mono ?_
    rintro en w99 ⟨rfl, b⟩
    replace BB := below_next BB BB.size b rfl rfl rfl rfl
    clear b
    go_wp2
    go_ret
    exact ⟨by first | rfl | simp, BB⟩
  rw [decide_eq_true q2]
  clear x1 x2 q1 q2
  go_wp2_with fail
  refine (dmay_any (s := s1) (e := e1) hT h1).mono ?_
  rintro en w3 ⟨rfl, b⟩
  replace BB := below_next BB BB.size b rfl rfl rfl rfl
  have G := mv b rfl <| And.intro a10 <| And.intro a11 <| And.intro a12 <| And.intro a20 <| And.intro a21 <| And.intro a22 <| And.intro hT <| And.intro h1 <| h2
  clear b a10 a11 a12 a20 a21 a22 hT h1 h2
  obtain ⟨a10, a11, a12, a20, a21, a22, hT, h1, h2⟩ := G
  cases hd1 : mayD s1 l1 e1
  · clear hd1
    go_wp2_with fail
    refine (rtold_any hT).mono ?_
    rintro en w99 ⟨rfl, b⟩
    replace BB := below_next BB BB.size b rfl rfl rfl rfl
    clear b
    go_wp2
    go_ret
    exact ⟨by first | rfl | simp, BB⟩
  obtain ⟨hm, hok⟩ := mayD_of h1.lt hd1
  have N1 := (nt_of h1 hm).1
  generalize val W l1 = m1 at N1 hok
  have O1 := Lib.hid hok
  clear hm hok hd1
  clear h1
  go_wp2_with fail
  refine (dmay_any (s := s2) (e := e2) hT h2).mono ?_
  rintro en w4 ⟨rfl, b⟩
  replace BB := below_next BB BB.size b rfl rfl rfl rfl
  have G := mv b rfl <| And.intro a10 <| And.intro a11 <| And.intro a12 <| And.intro a20 <| And.intro a21 <| And.intro a22 <| And.intro hT <| And.intro h2 <| N1
  clear b a10 a11 a12 a20 a21 a22 hT h2 N1
  obtain ⟨a10, a11, a12, a20, a21, a22, hT, h2, N1⟩ := G
  cases hd2 : mayD s2 l2 e2
  · clear hd2
    go_wp2_with fail
    refine (rtold_any hT).mono ?_
    rintro en w99 ⟨rfl, b⟩
    replace BB := below_next BB BB.size b rfl rfl rfl rfl
    clear b
    go_wp2
    go_ret
    exact ⟨by first | rfl | simp, BB⟩
  obtain ⟨hm, hok⟩ := mayD_of h2.lt hd2
  have N2 := (nt_of h2 hm).1
  generalize val W l2 = m2 at N2 hok
  have O2 := Lib.hid hok
  clear hm hok hd2
  clear h2
  go_wp2_with fail
  refine (bits_ok hT N2 O2.out).mono ?_
  rintro en w5 ⟨rfl, b⟩
  replace BB := below_next BB BB.size b rfl rfl rfl rfl
  have G := mv b rfl <| And.intro a10 <| And.intro a11 <| And.intro a12 <| And.intro a20 <| And.intro a21 <| And.intro a22 <| And.intro hT <| And.intro N1 <| N2
  clear b a10 a11 a12 a20 a21 a22 hT N1 N2
  obtain ⟨a10, a11, a12, a20, a21, a22, hT, N1, N2⟩ := G
  by_cases hb : blen m2 ≤ n
  rotate_left
  · have d1 : decide (n < blen m2) = true := decide_eq_true (by omega)
    clear hb
    go_wp2_with fail
    refine (rtold_any hT).mono ?_
    rintro en w99 ⟨rfl, b⟩
    replace BB := below_next BB BB.size b rfl rfl rfl rfl
    clear b
    go_wp2
    go_ret
    exact ⟨by first | rfl | simp, BB⟩
  have d1 : decide (n < blen m2) = false := decide_eq_false (by omega)
  have FT := Lib.hid ((okd_fits O2.out).2 hb)
  clear hb
  go_wp2_with fail
  refine (rdown_ok hT N1 O1.out nlo (by omega)).mono ?_
  rintro en v3 ⟨k3, s3, A3, n3, c3, m3, e3, rfl, hp, N3, b⟩
  have P3 := Lib.hid hp
  have O3 := Lib.hid (nm_okd hp)
  clear hp
  replace BB := below_next BB BB.size b rfl rfl rfl rfl
  have G := mv b rfl <| And.intro a10 <| And.intro a11 <| And.intro a12 <| And.intro a20 <| And.intro a21 <| And.intro a22 <| And.intro hT <| And.intro N1 <| N2
  clear b a10 a11 a12 a20 a21 a22 hT N1 N2
  obtain ⟨a10, a11, a12, a20, a21, a22, hT, N1, N2⟩ := G
  obtain ⟨a30, a31, a32⟩ := (Box.new v3 s3 A3 n3 c3 e3).held
  have b := below_alloc v3 (.cells #[.bool s3, .slice A3 n3 c3, .int .i64 e3] 24)
  replace BB := below_next BB BB.size b rfl rfl rfl rfl
  have G := mv b rfl <| And.intro a10 <| And.intro a11 <| And.intro a12 <| And.intro a20 <| And.intro a21 <| And.intro a22 <| And.intro hT <| And.intro N1 <| And.intro N2 <| N3
  clear b a10 a11 a12 a20 a21 a22 hT N1 N2 N3
  obtain ⟨a10, a11, a12, a20, a21, a22, hT, N1, N2, N3⟩ := G
  go_wp2_with fail
  refine (rup_ok hT N1 O1.out nlo (by omega)).mono ?_
  rintro en v4 ⟨k4, s4, A4, n4, c4, m4, e4, rfl, hp, N4, b⟩
  have P4 := Lib.hid hp
  have O4 := Lib.hid (nm_okd hp)
  clear hp
  replace BB := below_next BB BB.size b rfl rfl rfl rfl
  have G := mv b rfl <| And.intro a10 <| And.intro a11 <| And.intro a12 <| And.intro a20 <| And.intro a21 <| And.intro a22 <| And.intro hT <| And.intro N1 <| And.intro N2 <| And.intro N3 <| And.intro a30 <| And.intro a31 <| a32
  clear b a10 a11 a12 a20 a21 a22 hT N1 N2 N3 a30 a31 a32
  obtain ⟨a10, a11, a12, a20, a21, a22, hT, N1, N2, N3, a30, a31, a32⟩ := G
  obtain ⟨a40, a41, a42⟩ := (Box.new v4 s4 A4 n4 c4 e4).held
  have b := below_alloc v4 (.cells #[.bool s4, .slice A4 n4 c4, .int .i64 e4] 24)
  replace BB := below_next BB BB.size b rfl rfl rfl rfl
  have G := mv b rfl <| And.intro a10 <| And.intro a11 <| And.intro a12 <| And.intro a20 <| And.intro a21 <| And.intro a22 <| And.intro hT <| And.intro N1 <| And.intro N2 <| And.intro N3 <| And.intro a30 <| And.intro a31 <| And.intro a32 <| N4
  clear b a10 a11 a12 a20 a21 a22 hT N1 N2 N3 a30 a31 a32 N4
  obtain ⟨a10, a11, a12, a20, a21, a22, hT, N1, N2, N3, a30, a31, a32, N4⟩ := G
  by_cases z3 : k3 = 0
  rotate_left
  · have f3 : (k3 == 0) = false := by simp [z3]
    clear z3
    clear N3 a30 a31 a32
    go_wp2_with fail
    refine (rtold_any hT).mono ?_
    rintro en w8 ⟨rfl, b⟩
    replace BB := below_next BB BB.size b rfl rfl rfl rfl
    have G := mv b rfl <| And.intro a10 <| And.intro a11 <| And.intro a12 <| And.intro a20 <| And.intro a21 <| And.intro a22 <| And.intro hT <| And.intro N1 <| And.intro N2 <| And.intro N4 <| And.intro a40 <| And.intro a41 <| a42
    clear b a10 a11 a12 a20 a21 a22 hT N1 N2 N4 a40 a41 a42
    obtain ⟨a10, a11, a12, a20, a21, a22, hT, N1, N2, N4, a40, a41, a42⟩ := G
    by_cases z4 : k4 = 0
    rotate_left
    · have f4 : (k4 != 0) = true := by simp [z4]
      clear z4
      go_wp2
      go_ret
      exact ⟨by first | rfl | simp, BB⟩
    subst z4
    go_wp2_with fail
    refine (dcmp_ok hK hT N2 N1 O2.out O1.out).mono ?_
    rintro en w9 ⟨rfl, b⟩
    replace BB := below_next BB BB.size b rfl rfl rfl rfl
    have G := mv b rfl <| And.intro a10 <| And.intro a11 <| And.intro a12 <| And.intro a20 <| And.intro a21 <| And.intro a22 <| And.intro hT <| And.intro N1 <| And.intro N2 <| And.intro N4 <| And.intro a40 <| And.intro a41 <| a42
    clear b a10 a11 a12 a20 a21 a22 hT N1 N2 N4 a40 a41 a42
    obtain ⟨a10, a11, a12, a20, a21, a22, hT, N1, N2, N4, a40, a41, a42⟩ := G
    rcases cmpV_cases (vz K s2 m2 e2) (vz K s1 m1 e1) with ⟨hz, hv⟩ | ⟨hz, hv⟩ | ⟨hz, hv⟩
    · rw [hz]
      clear hz hv
      go_wp2
      go_ret
      exact ⟨by first | rfl | simp, BB⟩
    · rw [hz]
      have hle := up_near hK O1.out O2.out nlo FT.out P4.out (by omega)
      clear hz hv
      go_wp2_with fail
      refine (dcmp_ok hK hT N2 N4 O2.out O4.out).mono ?_
      rintro en w10 ⟨rfl, b⟩
      replace BB := below_next BB BB.size b rfl rfl rfl rfl
      have G := mv b rfl <| And.intro a10 <| And.intro a11 <| And.intro a12 <| And.intro a20 <| And.intro a21 <| And.intro a22 <| And.intro hT <| And.intro N1 <| And.intro N2 <| And.intro N4 <| And.intro a40 <| And.intro a41 <| a42
      clear b a10 a11 a12 a20 a21 a22 hT N1 N2 N4 a40 a41 a42
      obtain ⟨a10, a11, a12, a20, a21, a22, hT, N1, N2, N4, a40, a41, a42⟩ := G
      rcases cmpV_cases (vz K s2 m2 e2) (vz K s4 m4 e4) with ⟨hz, hv⟩ | ⟨hz, hv⟩ | ⟨hz, hv⟩
      · exfalso
        omega
      · rw [hz]
        clear hz hv hle
        go_wp2
        go_ret
        exact ⟨by first | rfl | simp, BB⟩
      · rw [hz]
        clear hz hv hle
        go_wp2
        go_ret
        exact ⟨by first | rfl | simp, BB⟩
    · rw [hz]
      have hle := up_near hK O1.out O2.out nlo FT.out P4.out (by omega)
      clear hz hv
      go_wp2_with fail
      refine (dcmp_ok hK hT N2 N4 O2.out O4.out).mono ?_
      rintro en w10 ⟨rfl, b⟩
      replace BB := below_next BB BB.size b rfl rfl rfl rfl
      have G := mv b rfl <| And.intro a10 <| And.intro a11 <| And.intro a12 <| And.intro a20 <| And.intro a21 <| And.intro a22 <| And.intro hT <| And.intro N1 <| And.intro N2 <| And.intro N4 <| And.intro a40 <| And.intro a41 <| a42
      clear b a10 a11 a12 a20 a21 a22 hT N1 N2 N4 a40 a41 a42
      obtain ⟨a10, a11, a12, a20, a21, a22, hT, N1, N2, N4, a40, a41, a42⟩ := G
      rcases cmpV_cases (vz K s2 m2 e2) (vz K s4 m4 e4) with ⟨hz, hv⟩ | ⟨hz, hv⟩ | ⟨hz, hv⟩
      · exfalso
        omega
      · rw [hz]
        clear hz hv hle
        go_wp2
        go_ret
        exact ⟨by first | rfl | simp, BB⟩
      · rw [hz]
        clear hz hv hle
        go_wp2
        go_ret
        exact ⟨by first | rfl | simp, BB⟩
  subst z3
  go_wp2_with fail
  refine (dcmp_ok hK hT N2 N1 O2.out O1.out).mono ?_
  rintro en w8 ⟨rfl, b⟩
  replace BB := below_next BB BB.size b rfl rfl rfl rfl
  have G := mv b rfl <| And.intro a10 <| And.intro a11 <| And.intro a12 <| And.intro a20 <| And.intro a21 <| And.intro a22 <| And.intro hT <| And.intro N1 <| And.intro N2 <| And.intro N3 <| And.intro a30 <| And.intro a31 <| And.intro a32 <| And.intro N4 <| And.intro a40 <| And.intro a41 <| a42
  clear b a10 a11 a12 a20 a21 a22 hT N1 N2 N3 a30 a31 a32 N4 a40 a41 a42
  obtain ⟨a10, a11, a12, a20, a21, a22, hT, N1, N2, N3, a30, a31, a32, N4, a40, a41, a42⟩ := G
  rcases cmpV_cases (vz K s2 m2 e2) (vz K s1 m1 e1) with ⟨hz, hv⟩ | ⟨hz, hv⟩ | ⟨hz, hv⟩
  · rw [hz]
    have hle := down_near hK O1.out O2.out nlo FT.out P3.out (by omega)
    clear hz hv
    go_wp2_with fail
    refine (dcmp_ok hK hT N3 N2 O3.out O2.out).mono ?_
    rintro en w9 ⟨rfl, b⟩
    replace BB := below_next BB BB.size b rfl rfl rfl rfl
    have G := mv b rfl <| And.intro a10 <| And.intro a11 <| And.intro a12 <| And.intro a20 <| And.intro a21 <| And.intro a22 <| And.intro hT <| And.intro N1 <| And.intro N2 <| And.intro N3 <| And.intro a30 <| And.intro a31 <| And.intro a32 <| And.intro N4 <| And.intro a40 <| And.intro a41 <| a42
    clear b a10 a11 a12 a20 a21 a22 hT N1 N2 N3 a30 a31 a32 N4 a40 a41 a42
    obtain ⟨a10, a11, a12, a20, a21, a22, hT, N1, N2, N3, a30, a31, a32, N4, a40, a41, a42⟩ := G
    rcases cmpV_cases (vz K s3 m3 e3) (vz K s2 m2 e2) with ⟨hz, hv⟩ | ⟨hz, hv⟩ | ⟨hz, hv⟩
    · exfalso
      omega
    · rw [hz]
      clear hz hv hle
      clear N3 a30 a31 a32
      go_wp2_with fail
      refine (rtold_any hT).mono ?_
      rintro en w10 ⟨rfl, b⟩
      replace BB := below_next BB BB.size b rfl rfl rfl rfl
      have G := mv b rfl <| And.intro a10 <| And.intro a11 <| And.intro a12 <| And.intro a20 <| And.intro a21 <| And.intro a22 <| And.intro hT <| And.intro N1 <| And.intro N2 <| And.intro N4 <| And.intro a40 <| And.intro a41 <| a42
      clear b a10 a11 a12 a20 a21 a22 hT N1 N2 N4 a40 a41 a42
      obtain ⟨a10, a11, a12, a20, a21, a22, hT, N1, N2, N4, a40, a41, a42⟩ := G
      by_cases z4 : k4 = 0
      rotate_left
      · have f4 : (k4 != 0) = true := by simp [z4]
        clear z4
        go_wp2
        go_ret
        exact ⟨by first | rfl | simp, BB⟩
      subst z4
      go_wp2_with fail
      refine (dcmp_ok hK hT N2 N1 O2.out O1.out).mono ?_
      rintro en w11 ⟨rfl, b⟩
      replace BB := below_next BB BB.size b rfl rfl rfl rfl
      have G := mv b rfl <| And.intro a10 <| And.intro a11 <| And.intro a12 <| And.intro a20 <| And.intro a21 <| And.intro a22 <| And.intro hT <| And.intro N1 <| And.intro N2 <| And.intro N4 <| And.intro a40 <| And.intro a41 <| a42
      clear b a10 a11 a12 a20 a21 a22 hT N1 N2 N4 a40 a41 a42
      obtain ⟨a10, a11, a12, a20, a21, a22, hT, N1, N2, N4, a40, a41, a42⟩ := G
      rcases cmpV_cases (vz K s2 m2 e2) (vz K s1 m1 e1) with ⟨hz, hv⟩ | ⟨hz, hv⟩ | ⟨hz, hv⟩
      · rw [hz]
        clear hz hv
        go_wp2
        go_ret
        exact ⟨by first | rfl | simp, BB⟩
      · rw [hz]
        have hle := up_near hK O1.out O2.out nlo FT.out P4.out (by omega)
        clear hz hv
        go_wp2_with fail
        refine (dcmp_ok hK hT N2 N4 O2.out O4.out).mono ?_
        rintro en w12 ⟨rfl, b⟩
        replace BB := below_next BB BB.size b rfl rfl rfl rfl
        have G := mv b rfl <| And.intro a10 <| And.intro a11 <| And.intro a12 <| And.intro a20 <| And.intro a21 <| And.intro a22 <| And.intro hT <| And.intro N1 <| And.intro N2 <| And.intro N4 <| And.intro a40 <| And.intro a41 <| a42
        clear b a10 a11 a12 a20 a21 a22 hT N1 N2 N4 a40 a41 a42
        obtain ⟨a10, a11, a12, a20, a21, a22, hT, N1, N2, N4, a40, a41, a42⟩ := G
        rcases cmpV_cases (vz K s2 m2 e2) (vz K s4 m4 e4) with ⟨hz, hv⟩ | ⟨hz, hv⟩ | ⟨hz, hv⟩
        · exfalso
          omega
        · rw [hz]
          clear hz hv hle
          go_wp2
          go_ret
          exact ⟨by first | rfl | simp, BB⟩
        · rw [hz]
          clear hz hv hle
          go_wp2
          go_ret
          exact ⟨by first | rfl | simp, BB⟩
      · rw [hz]
        have hle := up_near hK O1.out O2.out nlo FT.out P4.out (by omega)
        clear hz hv
        go_wp2_with fail
        refine (dcmp_ok hK hT N2 N4 O2.out O4.out).mono ?_
        rintro en w12 ⟨rfl, b⟩
        replace BB := below_next BB BB.size b rfl rfl rfl rfl
        have G := mv b rfl <| And.intro a10 <| And.intro a11 <| And.intro a12 <| And.intro a20 <| And.intro a21 <| And.intro a22 <| And.intro hT <| And.intro N1 <| And.intro N2 <| And.intro N4 <| And.intro a40 <| And.intro a41 <| a42
        clear b a10 a11 a12 a20 a21 a22 hT N1 N2 N4 a40 a41 a42
        obtain ⟨a10, a11, a12, a20, a21, a22, hT, N1, N2, N4, a40, a41, a42⟩ := G
        rcases cmpV_cases (vz K s2 m2 e2) (vz K s4 m4 e4) with ⟨hz, hv⟩ | ⟨hz, hv⟩ | ⟨hz, hv⟩
        · exfalso
          omega
        · rw [hz]
          clear hz hv hle
          go_wp2
          go_ret
          exact ⟨by first | rfl | simp, BB⟩
        · rw [hz]
          clear hz hv hle
          go_wp2
          go_ret
          exact ⟨by first | rfl | simp, BB⟩
    · rw [hz]
      clear hz hv hle
      clear N3 a30 a31 a32
      go_wp2_with fail
      refine (rtold_any hT).mono ?_
      rintro en w10 ⟨rfl, b⟩
      replace BB := below_next BB BB.size b rfl rfl rfl rfl
      have G := mv b rfl <| And.intro a10 <| And.intro a11 <| And.intro a12 <| And.intro a20 <| And.intro a21 <| And.intro a22 <| And.intro hT <| And.intro N1 <| And.intro N2 <| And.intro N4 <| And.intro a40 <| And.intro a41 <| a42
      clear b a10 a11 a12 a20 a21 a22 hT N1 N2 N4 a40 a41 a42
      obtain ⟨a10, a11, a12, a20, a21, a22, hT, N1, N2, N4, a40, a41, a42⟩ := G
      by_cases z4 : k4 = 0
      rotate_left
      · have f4 : (k4 != 0) = true := by simp [z4]
        clear z4
        go_wp2
        go_ret
        exact ⟨by first | rfl | simp, BB⟩
      subst z4
      go_wp2_with fail
      refine (dcmp_ok hK hT N2 N1 O2.out O1.out).mono ?_
      rintro en w11 ⟨rfl, b⟩
      replace BB := below_next BB BB.size b rfl rfl rfl rfl
      have G := mv b rfl <| And.intro a10 <| And.intro a11 <| And.intro a12 <| And.intro a20 <| And.intro a21 <| And.intro a22 <| And.intro hT <| And.intro N1 <| And.intro N2 <| And.intro N4 <| And.intro a40 <| And.intro a41 <| a42
      clear b a10 a11 a12 a20 a21 a22 hT N1 N2 N4 a40 a41 a42
      obtain ⟨a10, a11, a12, a20, a21, a22, hT, N1, N2, N4, a40, a41, a42⟩ := G
      rcases cmpV_cases (vz K s2 m2 e2) (vz K s1 m1 e1) with ⟨hz, hv⟩ | ⟨hz, hv⟩ | ⟨hz, hv⟩
      · rw [hz]
        clear hz hv
        go_wp2
        go_ret
        exact ⟨by first | rfl | simp, BB⟩
      · rw [hz]
        have hle := up_near hK O1.out O2.out nlo FT.out P4.out (by omega)
        clear hz hv
        go_wp2_with fail
        refine (dcmp_ok hK hT N2 N4 O2.out O4.out).mono ?_
        rintro en w12 ⟨rfl, b⟩
        replace BB := below_next BB BB.size b rfl rfl rfl rfl
        have G := mv b rfl <| And.intro a10 <| And.intro a11 <| And.intro a12 <| And.intro a20 <| And.intro a21 <| And.intro a22 <| And.intro hT <| And.intro N1 <| And.intro N2 <| And.intro N4 <| And.intro a40 <| And.intro a41 <| a42
        clear b a10 a11 a12 a20 a21 a22 hT N1 N2 N4 a40 a41 a42
        obtain ⟨a10, a11, a12, a20, a21, a22, hT, N1, N2, N4, a40, a41, a42⟩ := G
        rcases cmpV_cases (vz K s2 m2 e2) (vz K s4 m4 e4) with ⟨hz, hv⟩ | ⟨hz, hv⟩ | ⟨hz, hv⟩
        · exfalso
          omega
        · rw [hz]
          clear hz hv hle
          go_wp2
          go_ret
          exact ⟨by first | rfl | simp, BB⟩
        · rw [hz]
          clear hz hv hle
          go_wp2
          go_ret
          exact ⟨by first | rfl | simp, BB⟩
      · rw [hz]
        have hle := up_near hK O1.out O2.out nlo FT.out P4.out (by omega)
        clear hz hv
        go_wp2_with fail
        refine (dcmp_ok hK hT N2 N4 O2.out O4.out).mono ?_
        rintro en w12 ⟨rfl, b⟩
        replace BB := below_next BB BB.size b rfl rfl rfl rfl
        have G := mv b rfl <| And.intro a10 <| And.intro a11 <| And.intro a12 <| And.intro a20 <| And.intro a21 <| And.intro a22 <| And.intro hT <| And.intro N1 <| And.intro N2 <| And.intro N4 <| And.intro a40 <| And.intro a41 <| a42
        clear b a10 a11 a12 a20 a21 a22 hT N1 N2 N4 a40 a41 a42
        obtain ⟨a10, a11, a12, a20, a21, a22, hT, N1, N2, N4, a40, a41, a42⟩ := G
        rcases cmpV_cases (vz K s2 m2 e2) (vz K s4 m4 e4) with ⟨hz, hv⟩ | ⟨hz, hv⟩ | ⟨hz, hv⟩
        · exfalso
          omega
        · rw [hz]
          clear hz hv hle
          go_wp2
          go_ret
          exact ⟨by first | rfl | simp, BB⟩
        · rw [hz]
          clear hz hv hle
          go_wp2
          go_ret
          exact ⟨by first | rfl | simp, BB⟩
  · rw [hz]
    have hle := down_near hK O1.out O2.out nlo FT.out P3.out (by omega)
    clear hz hv
    go_wp2_with fail
    refine (dcmp_ok hK hT N3 N2 O3.out O2.out).mono ?_
    rintro en w9 ⟨rfl, b⟩
    replace BB := below_next BB BB.size b rfl rfl rfl rfl
    have G := mv b rfl <| And.intro a10 <| And.intro a11 <| And.intro a12 <| And.intro a20 <| And.intro a21 <| And.intro a22 <| And.intro hT <| And.intro N1 <| And.intro N2 <| And.intro N3 <| And.intro a30 <| And.intro a31 <| And.intro a32 <| And.intro N4 <| And.intro a40 <| And.intro a41 <| a42
    clear b a10 a11 a12 a20 a21 a22 hT N1 N2 N3 a30 a31 a32 N4 a40 a41 a42
    obtain ⟨a10, a11, a12, a20, a21, a22, hT, N1, N2, N3, a30, a31, a32, N4, a40, a41, a42⟩ := G
    rcases cmpV_cases (vz K s3 m3 e3) (vz K s2 m2 e2) with ⟨hz, hv⟩ | ⟨hz, hv⟩ | ⟨hz, hv⟩
    · exfalso
      omega
    · rw [hz]
      clear hz hv hle
      clear N3 a30 a31 a32
      go_wp2_with fail
      refine (rtold_any hT).mono ?_
      rintro en w10 ⟨rfl, b⟩
      replace BB := below_next BB BB.size b rfl rfl rfl rfl
      have G := mv b rfl <| And.intro a10 <| And.intro a11 <| And.intro a12 <| And.intro a20 <| And.intro a21 <| And.intro a22 <| And.intro hT <| And.intro N1 <| And.intro N2 <| And.intro N4 <| And.intro a40 <| And.intro a41 <| a42
      clear b a10 a11 a12 a20 a21 a22 hT N1 N2 N4 a40 a41 a42
      obtain ⟨a10, a11, a12, a20, a21, a22, hT, N1, N2, N4, a40, a41, a42⟩ := G
      by_cases z4 : k4 = 0
      rotate_left
      · have f4 : (k4 != 0) = true := by simp [z4]
        clear z4
        go_wp2
        go_ret
        exact ⟨by first | rfl | simp, BB⟩
      subst z4
      go_wp2_with fail
      refine (dcmp_ok hK hT N2 N1 O2.out O1.out).mono ?_
      rintro en w11 ⟨rfl, b⟩
      replace BB := below_next BB BB.size b rfl rfl rfl rfl
      have G := mv b rfl <| And.intro a10 <| And.intro a11 <| And.intro a12 <| And.intro a20 <| And.intro a21 <| And.intro a22 <| And.intro hT <| And.intro N1 <| And.intro N2 <| And.intro N4 <| And.intro a40 <| And.intro a41 <| a42
      clear b a10 a11 a12 a20 a21 a22 hT N1 N2 N4 a40 a41 a42
      obtain ⟨a10, a11, a12, a20, a21, a22, hT, N1, N2, N4, a40, a41, a42⟩ := G
      rcases cmpV_cases (vz K s2 m2 e2) (vz K s1 m1 e1) with ⟨hz, hv⟩ | ⟨hz, hv⟩ | ⟨hz, hv⟩
      · rw [hz]
        clear hz hv
        go_wp2
        go_ret
        exact ⟨by first | rfl | simp, BB⟩
      · rw [hz]
        have hle := up_near hK O1.out O2.out nlo FT.out P4.out (by omega)
        clear hz hv
        go_wp2_with fail
        refine (dcmp_ok hK hT N2 N4 O2.out O4.out).mono ?_
        rintro en w12 ⟨rfl, b⟩
        replace BB := below_next BB BB.size b rfl rfl rfl rfl
        have G := mv b rfl <| And.intro a10 <| And.intro a11 <| And.intro a12 <| And.intro a20 <| And.intro a21 <| And.intro a22 <| And.intro hT <| And.intro N1 <| And.intro N2 <| And.intro N4 <| And.intro a40 <| And.intro a41 <| a42
        clear b a10 a11 a12 a20 a21 a22 hT N1 N2 N4 a40 a41 a42
        obtain ⟨a10, a11, a12, a20, a21, a22, hT, N1, N2, N4, a40, a41, a42⟩ := G
        rcases cmpV_cases (vz K s2 m2 e2) (vz K s4 m4 e4) with ⟨hz, hv⟩ | ⟨hz, hv⟩ | ⟨hz, hv⟩
        · exfalso
          omega
        · rw [hz]
          clear hz hv hle
          go_wp2
          go_ret
          exact ⟨by first | rfl | simp, BB⟩
        · rw [hz]
          clear hz hv hle
          go_wp2
          go_ret
          exact ⟨by first | rfl | simp, BB⟩
      · rw [hz]
        have hle := up_near hK O1.out O2.out nlo FT.out P4.out (by omega)
        clear hz hv
        go_wp2_with fail
        refine (dcmp_ok hK hT N2 N4 O2.out O4.out).mono ?_
        rintro en w12 ⟨rfl, b⟩
        replace BB := below_next BB BB.size b rfl rfl rfl rfl
        have G := mv b rfl <| And.intro a10 <| And.intro a11 <| And.intro a12 <| And.intro a20 <| And.intro a21 <| And.intro a22 <| And.intro hT <| And.intro N1 <| And.intro N2 <| And.intro N4 <| And.intro a40 <| And.intro a41 <| a42
        clear b a10 a11 a12 a20 a21 a22 hT N1 N2 N4 a40 a41 a42
        obtain ⟨a10, a11, a12, a20, a21, a22, hT, N1, N2, N4, a40, a41, a42⟩ := G
        rcases cmpV_cases (vz K s2 m2 e2) (vz K s4 m4 e4) with ⟨hz, hv⟩ | ⟨hz, hv⟩ | ⟨hz, hv⟩
        · exfalso
          omega
        · rw [hz]
          clear hz hv hle
          go_wp2
          go_ret
          exact ⟨by first | rfl | simp, BB⟩
        · rw [hz]
          clear hz hv hle
          go_wp2
          go_ret
          exact ⟨by first | rfl | simp, BB⟩
    · rw [hz]
      clear hz hv hle
      clear N3 a30 a31 a32
      go_wp2_with fail
      refine (rtold_any hT).mono ?_
      rintro en w10 ⟨rfl, b⟩
      replace BB := below_next BB BB.size b rfl rfl rfl rfl
      have G := mv b rfl <| And.intro a10 <| And.intro a11 <| And.intro a12 <| And.intro a20 <| And.intro a21 <| And.intro a22 <| And.intro hT <| And.intro N1 <| And.intro N2 <| And.intro N4 <| And.intro a40 <| And.intro a41 <| a42
      clear b a10 a11 a12 a20 a21 a22 hT N1 N2 N4 a40 a41 a42
      obtain ⟨a10, a11, a12, a20, a21, a22, hT, N1, N2, N4, a40, a41, a42⟩ := G
      by_cases z4 : k4 = 0
      rotate_left
      · have f4 : (k4 != 0) = true := by simp [z4]
        clear z4
        go_wp2
        go_ret
        exact ⟨by first | rfl | simp, BB⟩
      subst z4
      go_wp2_with fail
      refine (dcmp_ok hK hT N2 N1 O2.out O1.out).mono ?_
      rintro en w11 ⟨rfl, b⟩
      replace BB := below_next BB BB.size b rfl rfl rfl rfl
      have G := mv b rfl <| And.intro a10 <| And.intro a11 <| And.intro a12 <| And.intro a20 <| And.intro a21 <| And.intro a22 <| And.intro hT <| And.intro N1 <| And.intro N2 <| And.intro N4 <| And.intro a40 <| And.intro a41 <| a42
      clear b a10 a11 a12 a20 a21 a22 hT N1 N2 N4 a40 a41 a42
      obtain ⟨a10, a11, a12, a20, a21, a22, hT, N1, N2, N4, a40, a41, a42⟩ := G
      rcases cmpV_cases (vz K s2 m2 e2) (vz K s1 m1 e1) with ⟨hz, hv⟩ | ⟨hz, hv⟩ | ⟨hz, hv⟩
      · rw [hz]
        clear hz hv
        go_wp2
        go_ret
        exact ⟨by first | rfl | simp, BB⟩
      · rw [hz]
        have hle := up_near hK O1.out O2.out nlo FT.out P4.out (by omega)
        clear hz hv
        go_wp2_with fail
        refine (dcmp_ok hK hT N2 N4 O2.out O4.out).mono ?_
        rintro en w12 ⟨rfl, b⟩
        replace BB := below_next BB BB.size b rfl rfl rfl rfl
        have G := mv b rfl <| And.intro a10 <| And.intro a11 <| And.intro a12 <| And.intro a20 <| And.intro a21 <| And.intro a22 <| And.intro hT <| And.intro N1 <| And.intro N2 <| And.intro N4 <| And.intro a40 <| And.intro a41 <| a42
        clear b a10 a11 a12 a20 a21 a22 hT N1 N2 N4 a40 a41 a42
        obtain ⟨a10, a11, a12, a20, a21, a22, hT, N1, N2, N4, a40, a41, a42⟩ := G
        rcases cmpV_cases (vz K s2 m2 e2) (vz K s4 m4 e4) with ⟨hz, hv⟩ | ⟨hz, hv⟩ | ⟨hz, hv⟩
        · exfalso
          omega
        · rw [hz]
          clear hz hv hle
          go_wp2
          go_ret
          exact ⟨by first | rfl | simp, BB⟩
        · rw [hz]
          clear hz hv hle
          go_wp2
          go_ret
          exact ⟨by first | rfl | simp, BB⟩
      · rw [hz]
        have hle := up_near hK O1.out O2.out nlo FT.out P4.out (by omega)
        clear hz hv
        go_wp2_with fail
        refine (dcmp_ok hK hT N2 N4 O2.out O4.out).mono ?_
        rintro en w12 ⟨rfl, b⟩
        replace BB := below_next BB BB.size b rfl rfl rfl rfl
        have G := mv b rfl <| And.intro a10 <| And.intro a11 <| And.intro a12 <| And.intro a20 <| And.intro a21 <| And.intro a22 <| And.intro hT <| And.intro N1 <| And.intro N2 <| And.intro N4 <| And.intro a40 <| And.intro a41 <| a42
        clear b a10 a11 a12 a20 a21 a22 hT N1 N2 N4 a40 a41 a42
        obtain ⟨a10, a11, a12, a20, a21, a22, hT, N1, N2, N4, a40, a41, a42⟩ := G
        rcases cmpV_cases (vz K s2 m2 e2) (vz K s4 m4 e4) with ⟨hz, hv⟩ | ⟨hz, hv⟩ | ⟨hz, hv⟩
        · exfalso
          omega
        · rw [hz]
          clear hz hv hle
          go_wp2
          go_ret
          exact ⟨by first | rfl | simp, BB⟩
        · rw [hz]
          clear hz hv hle
          go_wp2
          go_ret
          exact ⟨by first | rfl | simp, BB⟩
  · rw [hz]
    clear hz hv
    clear N3 a30 a31 a32
    go_wp2_with fail
    refine (rtold_any hT).mono ?_
    rintro en w9 ⟨rfl, b⟩
    replace BB := below_next BB BB.size b rfl rfl rfl rfl
    have G := mv b rfl <| And.intro a10 <| And.intro a11 <| And.intro a12 <| And.intro a20 <| And.intro a21 <| And.intro a22 <| And.intro hT <| And.intro N1 <| And.intro N2 <| And.intro N4 <| And.intro a40 <| And.intro a41 <| a42
    clear b a10 a11 a12 a20 a21 a22 hT N1 N2 N4 a40 a41 a42
    obtain ⟨a10, a11, a12, a20, a21, a22, hT, N1, N2, N4, a40, a41, a42⟩ := G
    by_cases z4 : k4 = 0
    rotate_left
    · have f4 : (k4 != 0) = true := by simp [z4]
      clear z4
      go_wp2
      go_ret
      exact ⟨by first | rfl | simp, BB⟩
    subst z4
    go_wp2_with fail
    refine (dcmp_ok hK hT N2 N1 O2.out O1.out).mono ?_
    rintro en w10 ⟨rfl, b⟩
    replace BB := below_next BB BB.size b rfl rfl rfl rfl
    have G := mv b rfl <| And.intro a10 <| And.intro a11 <| And.intro a12 <| And.intro a20 <| And.intro a21 <| And.intro a22 <| And.intro hT <| And.intro N1 <| And.intro N2 <| And.intro N4 <| And.intro a40 <| And.intro a41 <| a42
    clear b a10 a11 a12 a20 a21 a22 hT N1 N2 N4 a40 a41 a42
    obtain ⟨a10, a11, a12, a20, a21, a22, hT, N1, N2, N4, a40, a41, a42⟩ := G
    rcases cmpV_cases (vz K s2 m2 e2) (vz K s1 m1 e1) with ⟨hz, hv⟩ | ⟨hz, hv⟩ | ⟨hz, hv⟩
    · rw [hz]
      clear hz hv
      go_wp2
      go_ret
      exact ⟨by first | rfl | simp, BB⟩
    · rw [hz]
      have hle := up_near hK O1.out O2.out nlo FT.out P4.out (by omega)
      clear hz hv
      go_wp2_with fail
      refine (dcmp_ok hK hT N2 N4 O2.out O4.out).mono ?_
      rintro en w11 ⟨rfl, b⟩
      replace BB := below_next BB BB.size b rfl rfl rfl rfl
      have G := mv b rfl <| And.intro a10 <| And.intro a11 <| And.intro a12 <| And.intro a20 <| And.intro a21 <| And.intro a22 <| And.intro hT <| And.intro N1 <| And.intro N2 <| And.intro N4 <| And.intro a40 <| And.intro a41 <| a42
      clear b a10 a11 a12 a20 a21 a22 hT N1 N2 N4 a40 a41 a42
      obtain ⟨a10, a11, a12, a20, a21, a22, hT, N1, N2, N4, a40, a41, a42⟩ := G
      rcases cmpV_cases (vz K s2 m2 e2) (vz K s4 m4 e4) with ⟨hz, hv⟩ | ⟨hz, hv⟩ | ⟨hz, hv⟩
      · exfalso
        omega
      · rw [hz]
        clear hz hv hle
        go_wp2
        go_ret
        exact ⟨by first | rfl | simp, BB⟩
      · rw [hz]
        clear hz hv hle
        go_wp2
        go_ret
        exact ⟨by first | rfl | simp, BB⟩
    · rw [hz]
      have hle := up_near hK O1.out O2.out nlo FT.out P4.out (by omega)
      clear hz hv
      go_wp2_with fail
      refine (dcmp_ok hK hT N2 N4 O2.out O4.out).mono ?_
      rintro en w11 ⟨rfl, b⟩
      replace BB := below_next BB BB.size b rfl rfl rfl rfl
      have G := mv b rfl <| And.intro a10 <| And.intro a11 <| And.intro a12 <| And.intro a20 <| And.intro a21 <| And.intro a22 <| And.intro hT <| And.intro N1 <| And.intro N2 <| And.intro N4 <| And.intro a40 <| And.intro a41 <| a42
      clear b a10 a11 a12 a20 a21 a22 hT N1 N2 N4 a40 a41 a42
      obtain ⟨a10, a11, a12, a20, a21, a22, hT, N1, N2, N4, a40, a41, a42⟩ := G
      rcases cmpV_cases (vz K s2 m2 e2) (vz K s4 m4 e4) with ⟨hz, hv⟩ | ⟨hz, hv⟩ | ⟨hz, hv⟩
      · exfalso
        omega
      · rw [hz]
        clear hz hv hle
        go_wp2
        go_ret
        exact ⟨by first | rfl | simp, BB⟩
      · rw [hz]
        clear hz hv hle
        go_wp2
        go_ret
        exact ⟨by first | rfl | simp, BB⟩
end Go.Proofs.YtkfcnodnefpboaaDoor
