/-
  Contract of the statement RoundExact's function at this translation: it returns true, whatever its arguments. Condition: the slices read as limbs, the table of math/bits reads as its text lays it.
-/
import Derived.Test.YtkfcnodnefpboaaDoorRt
import Derived.Test.YtkfcnodnefpboaaDoorRm
namespace Go.Proofs.YtkfcnodnefpboaaDoor
open Go.RowKit

theorem cutR_fit {p x : Nat} {u : Bool} (hp : 1 ≤ p) (h : Fits p x) : cutR p x false u * 2 ^ (blen x - p) = x := by
  rw [cutR_false]
  exact rd_self hp h u
theorem blen_mul {x y : Nat} : blen (x * y) ≤ blen x + blen y := by
  rw [blen_le, Nat.pow_add]
  have h1 : x < 2 ^ blen x := (blen_le x _).1 (Nat.le_refl _)
  have h2 : y < 2 ^ blen y := (blen_le y _).1 (Nat.le_refl _)
  exact Nat.mul_lt_mul'' h1 h2
theorem exact_mul {s t : Bool} {x y : Nat} {e f : Int} {k : Int} {s' : Bool} {m' : Nat} {e' : Int} (hx : x % 2 = 1) (hy : y % 2 = 1) (bx : blen x ≤ 192) (bY : blen y ≤ 192) (he : -1000 ≤ e ∧ e ≤ 1000) (hf : -1000 ≤ f ∧ f ≤ 1000) (h : Nm (s != t) (x * y) (e + f) k s' m' e') : k = 0 ∧ s' = (s != t) ∧ m' = x * y ∧ e' = e + f := by
  have hb := blen_mul (x := x) (y := y)
  have h1 : (x * y) % 2 = 1 := odd_mul hx hy
  have hlt : x * y < W ^ 64 := by
    have := tops_fit (x := x * y) (i := 0) (T := blen (x * y)) (by omega) (by omega)
    rwa [Nat.pow_zero, Nat.mul_one] at this
  exact nm_fun h (nm_self (.inr ⟨h1, hlt, by omega, by omega⟩))
theorem exact_quot {s t : Bool} {x y : Nat} {e f : Int} {up : Bool} {k : Int} {s' : Bool} {m' : Nat} {e' : Int} (hd : OkD s x e) (hy : y ≠ 0) (bx : blen x ≤ 192) (bY : blen y ≤ 192) (he : -1000 ≤ e ∧ e ≤ 1000)
    (h : QuTold (s != t) (x * y) (e + f) t y f 200 up k s' m' e') : k = 0 ∧ s' = s ∧ m' = x ∧ e' = e := by
  have hb := blen_mul (x := x) (y := y)
  have hd0 : kDn 200 (x * y) y = 0 := by unfold kDn; omega
  obtain ⟨i, hi⟩ : ∃ i, kUp 200 (x * y) y = i := ⟨_, rfl⟩
  have hu : 200 + blen y - blen (x * y) = i := hi
  have e1 : x * y * 2 ^ i = x * 2 ^ i * y := by ac_rfl
  have hq : x * y * 2 ^ i / (y * 2 ^ 0) = x * 2 ^ i := by rw [Nat.pow_zero, Nat.mul_one, e1, Nat.mul_div_cancel _ (Nat.pos_of_ne_zero hy)]
  have hr : x * y * 2 ^ i % (y * 2 ^ 0) = 0 := by rw [Nat.pow_zero, Nat.mul_one, e1, Nat.mul_mod_left]
  unfold QuTold at h
  rw [hd0] at h
  rw [hi, hq, hr] at h
  have hs : ((s != t) != t) = s := by cases s <;> cases t <;> rfl
  rw [hs] at h
  have hf2 : Fits 200 (x * 2 ^ i) := fits_shift (fits_of (Nat.lt_of_lt_of_le ((blen_le x _).1 (Nat.le_refl _)) (Nat.pow_le_pow_right (by omega) (by omega))))
  have hc := cutR_fit (u := up != s) (by omega) hf2
  have hdec : (!decide ((0 : Nat) = 0)) = false := rfl
  rw [hdec] at h
  obtain ⟨K, hK⟩ := scale_has
  refine nm_fun (nm_congr (K := K) (s := s) (t := s) (n := x) (f := e) ?_ (by omega) ?_ h) (nm_self hd)
  · omega
  · have h1 := vz_up (K := K) (s := s) (m := cutR 200 (x * 2 ^ i) false (up != s)) (e := e + f - f - (((200 : Nat) : Int) + (blen y : Int) - (blen (x * y) : Int))) (by omega) (blen (x * 2 ^ i) - 200)
    rw [hc] at h1
    rw [h1]
    have h2 := vz_up (K := K) (s := s) (m := x) (e := e + f - f - (((200 : Nat) : Int) + (blen y : Int) - (blen (x * y) : Int))) (by omega) i
    rw [← h2]
    have e9 : e + f - f - (((200 : Nat) : Int) + (blen y : Int) - (blen (x * y) : Int)) + (i : Int) = e := by omega
    rw [e9]
theorem exact_root {x : Nat} {e : Int} {up : Bool} {k : Int} {s' : Bool} {m' : Nat} {e' : Int} (hd : OkD false x e) (bx : blen x ≤ 192) (he : -1000 ≤ e ∧ e ≤ 1000) (h : RoTold (x * x) (e + e) 200 up k s' m' e') : k = 0 ∧ s' = false ∧ m' = x ∧ e' = e := by
  obtain ⟨i, j, r, f, ⟨h1, h2, h3, h4, h5, h6⟩, h⟩ := h
  have hb := blen_mul (x := x) (y := x)
  obtain rfl : j = 0 := by omega
  obtain ⟨i2, rfl⟩ : ∃ i2, i = 2 * i2 := ⟨i / 2, by omega⟩
  have e1 : x * x * 2 ^ (2 * i2) = x * 2 ^ i2 * (x * 2 ^ i2) := by
    have : 2 ^ (2 * i2) = 2 ^ i2 * 2 ^ i2 := by rw [← Nat.pow_add]; congr 1; omega
    rw [this]; ac_rfl
  rw [Nat.pow_zero, Nat.div_one, e1] at h5 h6
  have hr : r = x * 2 ^ i2 := by
    rcases Nat.lt_trichotomy r (x * 2 ^ i2) with h8 | h8 | h8
    · exfalso
      have := Nat.mul_le_mul (show r + 1 ≤ x * 2 ^ i2 by omega) (show r + 1 ≤ x * 2 ^ i2 by omega)
      omega
    · exact h8
    · exfalso
      have := Nat.mul_le_mul (show x * 2 ^ i2 + 1 ≤ r by omega) (show x * 2 ^ i2 + 1 ≤ r by omega)
      have h9 := Nat.mul_lt_mul'' (show x * 2 ^ i2 < x * 2 ^ i2 + 1 by omega) (show x * 2 ^ i2 < x * 2 ^ i2 + 1 by omega)
      omega
  subst hr
  have hdec : (!decide (x * 2 ^ i2 * (x * 2 ^ i2) * 2 ^ 0 = x * x * 2 ^ (2 * i2))) = false := by
    rw [Nat.pow_zero, Nat.mul_one, e1, decide_eq_true rfl]; rfl
  rw [hdec] at h
  have hf2 : Fits 200 (x * 2 ^ i2) := fits_shift (fits_of (Nat.lt_of_lt_of_le ((blen_le x _).1 (Nat.le_refl _)) (Nat.pow_le_pow_right (by omega) (by omega))))
  have hc := cutR_fit (u := up != false) (by omega) hf2
  obtain ⟨K, hK⟩ := scale_has
  refine nm_fun (nm_congr (K := K) (s := false) (t := false) (n := x) (f := e) (by omega) (by omega) ?_ h) (nm_self hd)
  have h7 := vz_up (K := K) (s := false) (m := cutR 200 (x * 2 ^ i2) false (up != false)) (e := f) (by omega) (blen (x * 2 ^ i2) - 200)
  rw [hc] at h7
  rw [h7]
  have h8 := vz_up (K := K) (s := false) (m := x) (e := f) (by omega) i2
  rw [← h8]
  have e9 : f + (i2 : Int) = e := by omega
  rw [e9]

theorem few_bits {w : World} {A : Option Addr} {n c x : Nat} (h : Nt w A n c x) (hn : n ≤ 3) : blen x ≤ 192 := by
  rw [blen_le]
  have h1 : x < W ^ n := by have := (len_dig W_two x n).1 (by rw [h.rd.len]; omega); exact this
  have h2 : W ^ n ≤ W ^ 3 := Nat.pow_le_pow_right (by rw [W_eq]; omega) hn
  have h3 : W ^ 3 = 2 ^ (64 * 3) := by rw [W_pow, ← Nat.pow_mul]
  exact Nat.lt_of_lt_of_le h1 (Nat.le_trans h2 (Nat.le_of_eq h3))
theorem okd_odd {s : Bool} {x : Nat} {e : Int} (h : OkD s x e) (hx : x ≠ 0) : x % 2 = 1 := by
  rcases h with ⟨h0, _⟩ | ⟨h1, _⟩
  · exact absurd h0 hx
  · exact h1
theorem okd_pos {s : Bool} {x : Nat} {e : Int} (h : OkD s x e) (hx : x ≠ 0) : OkD false x e := by
  rcases h with ⟨h0, _⟩ | h1
  · exact absurd h0 hx
  · exact .inr h1

set_option maxRecDepth 100000 in
set_option maxHeartbeats 8000000 in
theorem exact_any {w : World} {A1 : Option Addr} {n1 c1 : Nat} {l1 : List Nat} {s1 : Bool} {e1 : Int} {A2 : Option Addr} {n2 c2 : Nat} {l2 : List Nat} {s2 : Bool} {e2 : Int} {up : Bool} (hT : Tab w) (h1 : Rd w .u64 W A1 n1 c1 l1) (h2 : Rd w .u64 W A2 n2 c2 l2) :
    Calls Tryd.prog 15 #[.agg #[.bool s1, .slice A1 n1 c1, .int .i64 e1], .agg #[.bool s2, .slice A2 n2 c2, .int .i64 e2], .bool up] w fun en w' => ToldEnd w en w' := by
  have x1 : n1 ≤ 9223372036854775807 := Nat.le_trans h1.cap h1.max
  have x2 : n2 ≤ 9223372036854775807 := Nat.le_trans h2.cap h2.max
  have BB := two_below w (.cells #[.bool s1, .slice A1 n1 c1, .int .i64 e1] 24) (.cells #[.bool s2, .slice A2 n2 c2, .int .i64 e2] 24)
  obtain ⟨a10, a11, a12, a20, a21, a22⟩ := (two_new w s1 s2 A1 A2 n1 c1 n2 c2 e1 e2).held
  have G := mv BB rfl <| And.intro hT <| And.intro h1 <| h2
  clear hT h1 h2
  obtain ⟨hT, h1, h2⟩ := G
  by_cases q1 : n1 ≤ 3
  rotate_left
  · have d1 : decide ((3 : Int) < (n1 : Int)) = true := decide_eq_true (by omega)
    go_enter Tryd.func15, Tryd.ntmps15
    go_wp2_with fail
    refine (rtold_any hT).mono ?_
    rintro en w99 ⟨rfl, b⟩
    replace BB := below_next BB BB.size b rfl rfl rfl rfl
    clear b
    go_wp2
    go_ret
    exact ⟨by first | rfl | simp, BB⟩
  have d1 : decide ((3 : Int) < (n1 : Int)) = false := decide_eq_false (by omega)
  by_cases q2 : n2 ≤ 3
  rotate_left
  · have d2 : decide ((3 : Int) < (n2 : Int)) = true := decide_eq_true (by omega)
    go_enter Tryd.func15, Tryd.ntmps15
    go_wp2_with fail
    refine (rtold_any hT).mono ?_
    rintro en w99 ⟨rfl, b⟩
    replace BB := below_next BB BB.size b rfl rfl rfl rfl
    clear b
    go_wp2
    go_ret
    exact ⟨by first | rfl | simp, BB⟩
  have d2 : decide ((3 : Int) < (n2 : Int)) = false := decide_eq_false (by omega)
  go_enter Tryd.func15, Tryd.ntmps15
  go_wp2_with fail
  refine (dmay_any (s := s1) (e := e1) hT h1).mono ?_
  rintro en w1 ⟨rfl, b⟩
  replace BB := below_next BB BB.size b rfl rfl rfl rfl
  have G := mv b rfl <| And.intro a10 <| And.intro a11 <| And.intro a12 <| And.intro a20 <| And.intro a21 <| And.intro a22 <| And.intro hT <| And.intro h1 <| h2
  clear b a10 a11 a12 a20 a21 a22 hT h1 h2
  obtain ⟨a10, a11, a12, a20, a21, a22, hT, h1, h2⟩ := G
  cases hd1 : mayD s1 l1 e1
  · clear hd1
    go_wp2_with fail
    refine (rtold_any hT).mono ?_
    rintro en w99 ⟨rfl, b⟩
    replace BB := below_next BB BB.size b rfl rfl rfl rfl
    clear b
    go_wp2
    go_ret
    exact ⟨by first | rfl | simp, BB⟩
  obtain ⟨hm, hok⟩ := mayD_of h1.lt hd1
  have N1 := (nt_of h1 hm).1
  generalize val W l1 = m1 at N1 hok
  have O1 := Lib.hid hok
  clear hm hok hd1
  clear h1
  go_wp2_with fail
  refine (dmay_any (s := s2) (e := e2) hT h2).mono ?_
  rintro en w2 ⟨rfl, b⟩
  replace BB := below_next BB BB.size b rfl rfl rfl rfl
  have G := mv b rfl <| And.intro a10 <| And.intro a11 <| And.intro a12 <| And.intro a20 <| And.intro a21 <| And.intro a22 <| And.intro hT <| And.intro h2 <| N1
  clear b a10 a11 a12 a20 a21 a22 hT h2 N1
  obtain ⟨a10, a11, a12, a20, a21, a22, hT, h2, N1⟩ := G
  cases hd2 : mayD s2 l2 e2
  · clear hd2
    go_wp2_with fail
    refine (rtold_any hT).mono ?_
    rintro en w99 ⟨rfl, b⟩
    replace BB := below_next BB BB.size b rfl rfl rfl rfl
    clear b
    go_wp2
    go_ret
    exact ⟨by first | rfl | simp, BB⟩
  obtain ⟨hm, hok⟩ := mayD_of h2.lt hd2
  have N2 := (nt_of h2 hm).1
  generalize val W l2 = m2 at N2 hok
  have O2 := Lib.hid hok
  clear hm hok hd2
  clear h2
  by_cases y1 : m1 = 0
  · go_wp2_with fail
    refine (sign_is (z := 0) hT N1 O1.out (by unfold signD; rw [if_pos y1])).mono ?_
    rintro en w3 ⟨rfl, b⟩
    replace BB := below_next BB BB.size b rfl rfl rfl rfl
    have G := mv b rfl <| And.intro a10 <| And.intro a11 <| And.intro a12 <| And.intro a20 <| And.intro a21 <| And.intro a22 <| And.intro hT <| And.intro N1 <| N2
    clear b a10 a11 a12 a20 a21 a22 hT N1 N2
    obtain ⟨a10, a11, a12, a20, a21, a22, hT, N1, N2⟩ := G
    go_wp2_with fail
    refine (rtold_any hT).mono ?_
    rintro en w99 ⟨rfl, b⟩
    replace BB := below_next BB BB.size b rfl rfl rfl rfl
    clear b
    go_wp2
    go_ret
    exact ⟨by first | rfl | simp, BB⟩
  obtain ⟨z, hz, hz0⟩ : ∃ z, signD s1 m1 = z ∧ z ≠ 0 := ⟨_, rfl, by unfold signD; rw [if_neg y1]; cases s1 <;> decide⟩
  have fz1 : (z == 0) = false := by simp [hz0]
  go_wp2_with fail
  refine (sign_is hT N1 O1.out hz).mono ?_
  rintro en w3 ⟨rfl, b⟩
  clear hz hz0
  have Y1 := Lib.hid y1
  clear y1
  replace BB := below_next BB BB.size b rfl rfl rfl rfl
  have G := mv b rfl <| And.intro a10 <| And.intro a11 <| And.intro a12 <| And.intro a20 <| And.intro a21 <| And.intro a22 <| And.intro hT <| And.intro N1 <| N2
  clear b a10 a11 a12 a20 a21 a22 hT N1 N2
  obtain ⟨a10, a11, a12, a20, a21, a22, hT, N1, N2⟩ := G
  by_cases y2 : m2 = 0
  · go_wp2_with fail
    refine (sign_is (z := 0) hT N2 O2.out (by unfold signD; rw [if_pos y2])).mono ?_
    rintro en w4 ⟨rfl, b⟩
    replace BB := below_next BB BB.size b rfl rfl rfl rfl
    have G := mv b rfl <| And.intro a10 <| And.intro a11 <| And.intro a12 <| And.intro a20 <| And.intro a21 <| And.intro a22 <| And.intro hT <| And.intro N1 <| N2
    clear b a10 a11 a12 a20 a21 a22 hT N1 N2
    obtain ⟨a10, a11, a12, a20, a21, a22, hT, N1, N2⟩ := G
    go_wp2_with fail
    refine (rtold_any hT).mono ?_
    rintro en w99 ⟨rfl, b⟩
    replace BB := below_next BB BB.size b rfl rfl rfl rfl
    clear b
    go_wp2
    go_ret
    exact ⟨by first | rfl | simp, BB⟩
  obtain ⟨z, hz, hz0⟩ : ∃ z, signD s2 m2 = z ∧ z ≠ 0 := ⟨_, rfl, by unfold signD; rw [if_neg y2]; cases s2 <;> decide⟩
  have fz2 : (z == 0) = false := by simp [hz0]
  go_wp2_with fail
  refine (sign_is hT N2 O2.out hz).mono ?_
  rintro en w4 ⟨rfl, b⟩
  clear hz hz0
  have Y2 := Lib.hid y2
  clear y2
  replace BB := below_next BB BB.size b rfl rfl rfl rfl
  have G := mv b rfl <| And.intro a10 <| And.intro a11 <| And.intro a12 <| And.intro a20 <| And.intro a21 <| And.intro a22 <| And.intro hT <| And.intro N1 <| N2
  clear b a10 a11 a12 a20 a21 a22 hT N1 N2
  obtain ⟨a10, a11, a12, a20, a21, a22, hT, N1, N2⟩ := G
  rcases Int.lt_or_le 1000 e1 with g | g
  · have d : decide (1000 < e1) = true := decide_eq_true g
    go_wp2_with fail
    refine (rtold_any hT).mono ?_
    rintro en w99 ⟨rfl, b⟩
    replace BB := below_next BB BB.size b rfl rfl rfl rfl
    clear b
    go_wp2
    go_ret
    exact ⟨by first | rfl | simp, BB⟩
  have da1 : decide (1000 < e1) = false := decide_eq_false (by omega)
  rcases Int.lt_or_le e1 (-1000) with g' | g'
  · have d : decide (e1 < -1000) = true := decide_eq_true g'
    go_wp2_with fail
    refine (rtold_any hT).mono ?_
    rintro en w99 ⟨rfl, b⟩
    replace BB := below_next BB BB.size b rfl rfl rfl rfl
    clear b
    go_wp2
    go_ret
    exact ⟨by first | rfl | simp, BB⟩
  have db1 : decide (e1 < -1000) = false := decide_eq_false (by omega)
  have E1 := Lib.hid (And.intro g' g)
  clear g g'
  rcases Int.lt_or_le 1000 e2 with g | g
  · have d : decide (1000 < e2) = true := decide_eq_true g
    go_wp2_with fail
    refine (rtold_any hT).mono ?_
    rintro en w99 ⟨rfl, b⟩
    replace BB := below_next BB BB.size b rfl rfl rfl rfl
    clear b
    go_wp2
    go_ret
    exact ⟨by first | rfl | simp, BB⟩
  have da2 : decide (1000 < e2) = false := decide_eq_false (by omega)
  rcases Int.lt_or_le e2 (-1000) with g' | g'
  · have d : decide (e2 < -1000) = true := decide_eq_true g'
    go_wp2_with fail
    refine (rtold_any hT).mono ?_
    rintro en w99 ⟨rfl, b⟩
    replace BB := below_next BB BB.size b rfl rfl rfl rfl
    clear b
    go_wp2
    go_ret
    exact ⟨by first | rfl | simp, BB⟩
  have db2 : decide (e2 < -1000) = false := decide_eq_false (by omega)
  have E2 := Lib.hid (And.intro g' g)
  clear g g'
  have B1 := few_bits N1 q1
  have B2 := few_bits N2 q2
  go_wp2_with fail
  refine (dmul_ok hT N1 N2 O1.out O2.out).mono ?_
  rintro en v5 ⟨k5, s5, A5, n5, c5, m5, e5, rfl, hp, N5, b⟩
  have O5 := Lib.hid (nm_okd hp)
  obtain ⟨g0, g1, g2, g3⟩ := exact_mul (okd_odd O1.out Y1.out) (okd_odd O2.out Y2.out) B1 B2 E1.out E2.out hp
  subst g0 g2 g3
  have HS5 := Lib.hid g1
  clear hp g1
  replace BB := below_next BB BB.size b rfl rfl rfl rfl
  have G := mv b rfl <| And.intro a10 <| And.intro a11 <| And.intro a12 <| And.intro a20 <| And.intro a21 <| And.intro a22 <| And.intro hT <| And.intro N1 <| N2
  clear b a10 a11 a12 a20 a21 a22 hT N1 N2
  obtain ⟨a10, a11, a12, a20, a21, a22, hT, N1, N2⟩ := G
  obtain ⟨a50, a51, a52⟩ := (Box.new v5 s5 A5 n5 c5 (e1 + e2)).held
  have b := below_alloc v5 (.cells #[.bool s5, .slice A5 n5 c5, .int .i64 (e1 + e2)] 24)
  replace BB := below_next BB BB.size b rfl rfl rfl rfl
  have G := mv b rfl <| And.intro a10 <| And.intro a11 <| And.intro a12 <| And.intro a20 <| And.intro a21 <| And.intro a22 <| And.intro hT <| And.intro N1 <| And.intro N2 <| N5
  clear b a10 a11 a12 a20 a21 a22 hT N1 N2 N5
  obtain ⟨a10, a11, a12, a20, a21, a22, hT, N1, N2, N5⟩ := G
  go_wp2_with fail
  refine (rquot_ok (p := 200) hT N5 N2 O5.out O2.out (by omega) (by omega) Y2.out).mono ?_
  rintro en v6 ⟨k6, s6, A6, n6, c6, m6, e6, rfl, hp, N6, b⟩
  rw [HS5.out] at hp
  obtain ⟨g0, g1, g2, g3⟩ := exact_quot O1.out Y2.out B1 B2 E1.out hp
  subst g0
  obtain rfl := g1.symm
  obtain rfl := g2.symm
  obtain rfl := g3.symm
  clear hp
  replace BB := below_next BB BB.size b rfl rfl rfl rfl
  have G := mv b rfl <| And.intro a10 <| And.intro a11 <| And.intro a12 <| And.intro a20 <| And.intro a21 <| And.intro a22 <| And.intro hT <| And.intro N1 <| And.intro N2 <| And.intro N5 <| And.intro a50 <| And.intro a51 <| a52
  clear b a10 a11 a12 a20 a21 a22 hT N1 N2 N5 a50 a51 a52
  obtain ⟨a10, a11, a12, a20, a21, a22, hT, N1, N2, N5, a50, a51, a52⟩ := G
  obtain ⟨a60, a61, a62⟩ := (Box.new v6 s1 A6 n6 c6 e1).held
  have b := below_alloc v6 (.cells #[.bool s1, .slice A6 n6 c6, .int .i64 e1] 24)
  replace BB := below_next BB BB.size b rfl rfl rfl rfl
  have G := mv b rfl <| And.intro a10 <| And.intro a11 <| And.intro a12 <| And.intro a20 <| And.intro a21 <| And.intro a22 <| And.intro hT <| And.intro N1 <| And.intro N2 <| And.intro N5 <| And.intro a50 <| And.intro a51 <| And.intro a52 <| N6
  clear b a10 a11 a12 a20 a21 a22 hT N1 N2 N5 a50 a51 a52 N6
  obtain ⟨a10, a11, a12, a20, a21, a22, hT, N1, N2, N5, a50, a51, a52, N6⟩ := G
  go_wp2_with fail
  refine (dmul_ok hT N1 N1 O1.out O1.out).mono ?_
  rintro en v7 ⟨k7, s7, A7, n7, c7, m7, e7, rfl, hp, N7, b⟩
  have O7 := Lib.hid (nm_okd hp)
  obtain ⟨g0, g1, g2, g3⟩ := exact_mul (okd_odd O1.out Y1.out) (okd_odd O1.out Y1.out) B1 B1 E1.out E1.out hp
  subst g0 g2 g3
  have g4 : s7 = false := by rw [g1]; cases s1 <;> rfl
  subst g4
  clear hp g1
  replace BB := below_next BB BB.size b rfl rfl rfl rfl
  have G := mv b rfl <| And.intro a10 <| And.intro a11 <| And.intro a12 <| And.intro a20 <| And.intro a21 <| And.intro a22 <| And.intro hT <| And.intro N1 <| And.intro N2 <| And.intro N5 <| And.intro a50 <| And.intro a51 <| And.intro a52 <| And.intro N6 <| And.intro a60 <| And.intro a61 <| a62
  clear b a10 a11 a12 a20 a21 a22 hT N1 N2 N5 a50 a51 a52 N6 a60 a61 a62
  obtain ⟨a10, a11, a12, a20, a21, a22, hT, N1, N2, N5, a50, a51, a52, N6, a60, a61, a62⟩ := G
  obtain ⟨a70, a71, a72⟩ := (Box.new v7 false A7 n7 c7 (e1 + e1)).held
  have b := below_alloc v7 (.cells #[.bool false, .slice A7 n7 c7, .int .i64 (e1 + e1)] 24)
  replace BB := below_next BB BB.size b rfl rfl rfl rfl
  have G := mv b rfl <| And.intro a10 <| And.intro a11 <| And.intro a12 <| And.intro a20 <| And.intro a21 <| And.intro a22 <| And.intro hT <| And.intro N1 <| And.intro N2 <| And.intro N5 <| And.intro a50 <| And.intro a51 <| And.intro a52 <| And.intro N6 <| And.intro a60 <| And.intro a61 <| And.intro a62 <| N7
  clear b a10 a11 a12 a20 a21 a22 hT N1 N2 N5 a50 a51 a52 N6 a60 a61 a62 N7
  obtain ⟨a10, a11, a12, a20, a21, a22, hT, N1, N2, N5, a50, a51, a52, N6, a60, a61, a62, N7⟩ := G
  go_wp2_with fail
  refine (rroot_ok (p := 200) hT N7 O7.out (by omega) (by omega) rfl).mono ?_
  rintro en v8 ⟨k8, s8, A8, n8, c8, m8, e8, rfl, hp, N8, b⟩
  obtain ⟨g0, g1, g2, g3⟩ := exact_root (okd_pos O1.out Y1.out) B1 E1.out hp
  subst g0 g1
  obtain rfl := g2.symm
  obtain rfl := g3.symm
  clear hp
  replace BB := below_next BB BB.size b rfl rfl rfl rfl
  have G := mv b rfl <| And.intro a10 <| And.intro a11 <| And.intro a12 <| And.intro a20 <| And.intro a21 <| And.intro a22 <| And.intro hT <| And.intro N1 <| And.intro N2 <| And.intro N5 <| And.intro a50 <| And.intro a51 <| And.intro a52 <| And.intro N6 <| And.intro a60 <| And.intro a61 <| And.intro a62 <| And.intro N7 <| And.intro a70 <| And.intro a71 <| a72
  clear b a10 a11 a12 a20 a21 a22 hT N1 N2 N5 a50 a51 a52 N6 a60 a61 a62 N7 a70 a71 a72
  obtain ⟨a10, a11, a12, a20, a21, a22, hT, N1, N2, N5, a50, a51, a52, N6, a60, a61, a62, N7, a70, a71, a72⟩ := G
  obtain ⟨a80, a81, a82⟩ := (Box.new v8 false A8 n8 c8 e1).held
  have b := below_alloc v8 (.cells #[.bool false, .slice A8 n8 c8, .int .i64 e1] 24)
  replace BB := below_next BB BB.size b rfl rfl rfl rfl
  have G := mv b rfl <| And.intro a10 <| And.intro a11 <| And.intro a12 <| And.intro a20 <| And.intro a21 <| And.intro a22 <| And.intro hT <| And.intro N1 <| And.intro N2 <| And.intro N5 <| And.intro a50 <| And.intro a51 <| And.intro a52 <| And.intro N6 <| And.intro a60 <| And.intro a61 <| And.intro a62 <| And.intro N7 <| And.intro a70 <| And.intro a71 <| And.intro a72 <| N8
  clear b a10 a11 a12 a20 a21 a22 hT N1 N2 N5 a50 a51 a52 N6 a60 a61 a62 N7 a70 a71 a72 N8
  obtain ⟨a10, a11, a12, a20, a21, a22, hT, N1, N2, N5, a50, a51, a52, N6, a60, a61, a62, N7, a70, a71, a72, N8⟩ := G
  clear a20 a21 a22 N2 N5 a50 a51 a52 N7 a70 a71 a72
  go_wp2_with fail
  obtain ⟨c0, c1', c2'⟩ := (box_at (w := (v8.alloc (.cells #[.bool false, .slice A8 n8 c8, .int .i64 e1] 24))) (sizes_up rfl) false A1 n1 c1 e1).held
  have b := below_alloc (v8.alloc (.cells #[.bool false, .slice A8 n8 c8, .int .i64 e1] 24)) (.cells #[.bool false, .slice A1 n1 c1, .int .i64 e1] 24)
  replace BB := below_next BB BB.size b rfl rfl rfl rfl
  have G := mv b rfl <| And.intro a10 <| And.intro a11 <| And.intro a12 <| And.intro hT <| And.intro N1 <| And.intro N6 <| And.intro a60 <| And.intro a61 <| And.intro a62 <| And.intro N8 <| And.intro a80 <| And.intro a81 <| a82
  clear b a10 a11 a12 hT N1 N6 a60 a61 a62 N8 a80 a81 a82
  obtain ⟨a10, a11, a12, hT, N1, N6, a60, a61, a62, N8, a80, a81, a82⟩ := G
  refine (rtold_any hT).mono ?_
  rintro en v9 ⟨rfl, b⟩
  replace BB := below_next BB BB.size b rfl rfl rfl rfl
  have G := mv b rfl <| And.intro a10 <| And.intro a11 <| And.intro a12 <| And.intro hT <| And.intro N1 <| And.intro N6 <| And.intro a60 <| And.intro a61 <| And.intro a62 <| And.intro N8 <| And.intro a80 <| And.intro a81 <| And.intro a82 <| And.intro c0 <| And.intro c1' <| c2'
  clear b a10 a11 a12 hT N1 N6 a60 a61 a62 N8 a80 a81 a82 c0 c1' c2'
  obtain ⟨a10, a11, a12, hT, N1, N6, a60, a61, a62, N8, a80, a81, a82, c0, c1', c2'⟩ := G
  go_wp2_with fail
  refine (dsame_self (s := s1) (e := e1) N6 N1).mono ?_
  rintro en w9 ⟨rfl, b⟩
  clear N6 a60 a61 a62 a10 a11 a12
  replace BB := below_next BB BB.size b rfl rfl rfl rfl
  have G := mv b rfl <| And.intro hT <| And.intro N1 <| And.intro N8 <| And.intro a80 <| And.intro a81 <| And.intro a82 <| And.intro c0 <| And.intro c1' <| c2'
  clear b hT N1 N8 a80 a81 a82 c0 c1' c2'
  obtain ⟨hT, N1, N8, a80, a81, a82, c0, c1', c2'⟩ := G
  go_wp2_with fail
  refine (dsame_self (s := false) (e := e1) N8 N1).mono ?_
  rintro en w10 ⟨rfl, b⟩
  clear N8 N1 a80 a81 a82 c0 c1' c2' hT
  replace BB := below_next BB BB.size b rfl rfl rfl rfl
  clear b
  go_wp2
  go_ret
  exact ⟨by first | rfl | simp, BB⟩
end Go.Proofs.YtkfcnodnefpboaaDoor
