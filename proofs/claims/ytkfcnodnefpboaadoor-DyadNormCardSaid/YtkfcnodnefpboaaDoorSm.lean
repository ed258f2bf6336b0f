/-
  Contract of the statement DyadNorm's function at this translation: it returns true, whatever its arguments. Condition: the slices read as limbs, the table of math/bits reads as its text lays it.
-/
import Derived.Test.YtkfcnodnefpboaaDoorRw
namespace Go.Proofs.YtkfcnodnefpboaaDoor
open Go.RowKit

theorem shifted_fun {s : Bool} {x : Nat} {e p : Int} {k k2 : Int} {s1 s2 : Bool} {m1 m2 : Nat} {e1 e2 : Int} (h : Shifted s x e p k s1 m1 e1) (h' : Shifted s x e p k2 s2 m2 e2) : k = k2 ∧ s1 = s2 ∧ m1 = m2 ∧ e1 = e2 := by
  rcases h with ⟨a0, a1, a2, a3, a4⟩ | ⟨a0, a5, a1, a2, a3, a4⟩ | ⟨a0, a5, a1, a2, a3, a4⟩ <;> rcases h' with ⟨b0, b1, b2, b3, b4⟩ | ⟨b0, b5, b1, b2, b3, b4⟩ | ⟨b0, b5, b1, b2, b3, b4⟩ <;>
    first
    | (subst a1 a2 a3 a4 b1 b2 b3 b4; exact ⟨rfl, rfl, rfl, rfl⟩)
    | exact absurd a0 b0
    | exact absurd b0 a0
    | exact absurd a5 b5
    | exact absurd b5 a5
theorem blen_small {u : Nat} (hu : u < 18446744073709551616) : blen u ≤ 64 := (blen_le u 64).2 hu

set_option maxRecDepth 100000 in
set_option maxHeartbeats 8000000 in
theorem dnorms_pos {w : World} {A1 : Option Addr} {n1 c1 : Nat} {l1 : List Nat} {A2 : Option Addr} {n2 c2 : Nat} {l2 : List Nat} {s1 neg : Bool} {e1 e p : Int} {a : Nat} (hT : Tab w) (h1 : Rd w .u64 W A1 n1 c1 l1) (h2 : Rd w .u64 W A2 n2 c2 l2) (ha : a < 9223372036854775808) :
    Calls Tryd.prog 4 #[.bool neg, .slice A2 n2 c2, .int .i64 e, .int .i64 (a : Int), .agg #[.bool s1, .slice A1 n1 c1, .int .i64 e1], .int .i64 p] w fun en w' => ToldEnd w en w' := by
  have x1 : n1 ≤ 9223372036854775807 := Nat.le_trans h1.cap h1.max
  have hu1 : IntKind.u64.wrap (a : Int) = (a : Int) := by rw [IntKind.wrap_u64]; omega
  have dn : decide ((a : Int) < 0) = false := decide_eq_false (by omega)
  have au : a < 18446744073709551616 := by omega
  have hab := blen_small au
  have BB := below_alloc w (.cells #[.bool s1, .slice A1 n1 c1, .int .i64 e1] 24)
  obtain ⟨a10, a11, a12⟩ := (Box.new w s1 A1 n1 c1 e1).held
  have G := mv BB rfl <| And.intro hT <| And.intro h1 <| h2
  clear hT h1 h2
  obtain ⟨hT, h1, h2⟩ := G
  by_cases q2 : n2 ≤ 70
  rotate_left
  · have d1 : decide ((70 : Int) < (n2 : Int)) = true := decide_eq_true (by omega)
    go_enter Tryd.func4, Tryd.ntmps4
    go_wp2_with fail
    refine (dtold_any hT).mono ?_
    rintro en w99 ⟨rfl, b⟩
    replace BB := below_next BB BB.size b rfl rfl rfl rfl
    clear b
    go_wp2
    go_ret
    exact ⟨by first | rfl | simp, BB⟩
  have d1 : decide ((70 : Int) < (n2 : Int)) = false := decide_eq_false (by omega)
  go_enter Tryd.func4, Tryd.ntmps4
  go_wp2_with fail
  refine (dfew_any (s := s1) (e := e1) x1).mono ?_
  rintro en w1 ⟨rfl, b⟩
  replace BB := below_next BB BB.size b rfl rfl rfl rfl
  have G := mv b rfl <| And.intro a10 <| And.intro a11 <| And.intro a12 <| And.intro hT <| And.intro h1 <| h2
  clear b a10 a11 a12 hT h1 h2
  obtain ⟨a10, a11, a12, hT, h1, h2⟩ := G
  by_cases q1 : n1 ≤ 70
  rotate_left
  · rw [decide_eq_false q1]
    go_wp2_with fail
    refine (dtold_any hT).mono ?_
    rintro en w99 ⟨rfl, b⟩
    replace BB := below_next BB BB.size b rfl rfl rfl rfl
    clear b
    go_wp2
    go_ret
    exact ⟨by first | rfl | simp, BB⟩
  rw [decide_eq_true q1]
  clear x1 d1
  cases hm : mayB l2
  · go_wp2_with fail
    refine (dnorm_no (s := neg) (e := e) h2 hm).mono ?_
    rintro en v3 ⟨k3, s3, A3, n3, c3, m3, e3, rfl, ⟨g0, g1, g2, g3⟩, N3, b⟩
    subst g0 g1 g2 g3
    replace BB := below_next BB BB.size b rfl rfl rfl rfl
    have G := mv b rfl <| And.intro a10 <| And.intro a11 <| And.intro a12 <| And.intro hT <| And.intro h1 <| h2
    clear b a10 a11 a12 hT h1 h2
    obtain ⟨a10, a11, a12, hT, h1, h2⟩ := G
    obtain ⟨a30, a31, a32⟩ := (Box.new v3 false A3 n3 c3 0).held
    have b := below_alloc v3 (.cells #[.bool false, .slice A3 n3 c3, .int .i64 0] 24)
    replace BB := below_next BB BB.size b rfl rfl rfl rfl
    have G := mv b rfl <| And.intro a10 <| And.intro a11 <| And.intro a12 <| And.intro hT <| And.intro h1 <| And.intro h2 <| N3
    clear b a10 a11 a12 hT h1 h2 N3
    obtain ⟨a10, a11, a12, hT, h1, h2, N3⟩ := G
    go_wp2_with fail
    refine (rmay_any h2).mono ?_
    rintro en w' ⟨rfl, rfl⟩
    rw [hm]
    have NN := nt_nil (v3.alloc (.cells #[.bool false, .slice A3 n3 c3, .int .i64 0] 24))
    go_wp2_with fail
    refine (rsame_self (s := false) (e := 0) N3 NN).mono ?_
    rintro en w3 ⟨rfl, b⟩
    clear NN
    clear N3 a30 a31 a32
    replace BB := below_next BB BB.size b rfl rfl rfl rfl
    have G := mv b rfl <| And.intro a10 <| And.intro a11 <| And.intro a12 <| And.intro hT <| And.intro h1 <| h2
    clear b a10 a11 a12 hT h1 h2
    obtain ⟨a10, a11, a12, hT, h1, h2⟩ := G
    clear hm
    clear h2
    go_wp2_with fail
    refine (of_pos (a := a) (e := e) hT ha).mono ?_
    rintro en v5 ⟨k5, s5, A5, n5, c5, m5, e5, rfl, hp, N5, b⟩
    have P5 := Lib.hid hp
    have O5 := Lib.hid (nm_okd hp)
    clear hp
    replace BB := below_next BB BB.size b rfl rfl rfl rfl
    have G := mv b rfl <| And.intro a10 <| And.intro a11 <| And.intro a12 <| And.intro hT <| h1
    clear b a10 a11 a12 hT h1
    obtain ⟨a10, a11, a12, hT, h1⟩ := G
    obtain ⟨a50, a51, a52⟩ := (Box.new v5 s5 A5 n5 c5 e5).held
    have b := below_alloc v5 (.cells #[.bool s5, .slice A5 n5 c5, .int .i64 e5] 24)
    replace BB := below_next BB BB.size b rfl rfl rfl rfl
    have G := mv b rfl <| And.intro a10 <| And.intro a11 <| And.intro a12 <| And.intro hT <| And.intro h1 <| N5
    clear b a10 a11 a12 hT h1 N5
    obtain ⟨a10, a11, a12, hT, h1, N5⟩ := G
    go_wp2_with fail
    refine (rsmall_any au).mono ?_
    rintro en u8 ⟨A8, n8, c8, rfl, h8, b⟩
    replace BB := below_next BB BB.size b rfl rfl rfl rfl
    have G := mv b rfl <| And.intro a10 <| And.intro a11 <| And.intro a12 <| And.intro hT <| And.intro h1 <| And.intro N5 <| And.intro a50 <| And.intro a51 <| a52
    clear b a10 a11 a12 hT h1 N5 a50 a51 a52
    obtain ⟨a10, a11, a12, hT, h1, N5, a50, a51, a52⟩ := G
    have n8l : n8 ≤ 4 := dg_small h8 (by rw [show (4 : Nat) = 4 * 1 from rfl, HW_pow, Nat.pow_one, W_eq]; exact au)
    go_wp2_with fail
    refine (rnorm_any (s := false) (e := e) h8 (by omega) (by omega)).mono ?_
    rintro en v6 ⟨k6, s6, A6, n6, c6, m6, e6, rfl, hp', N6, b⟩
    obtain ⟨g0, g1, g2, g3⟩ := nm_fun P5.out hp'
    obtain rfl := g0
    obtain rfl := g1
    obtain rfl := g2
    obtain rfl := g3
    clear hp'
    clear h8
    replace BB := below_next BB BB.size b rfl rfl rfl rfl
    have G := mv b rfl <| And.intro a10 <| And.intro a11 <| And.intro a12 <| And.intro hT <| And.intro h1 <| And.intro N5 <| And.intro a50 <| And.intro a51 <| a52
    clear b a10 a11 a12 hT h1 N5 a50 a51 a52
    obtain ⟨a10, a11, a12, hT, h1, N5, a50, a51, a52⟩ := G
    obtain ⟨a60, a61, a62⟩ := (Box.new v6 s5 A6 n6 c6 e5).held
    have b := below_alloc v6 (.cells #[.bool s5, .slice A6 n6 c6, .int .i64 e5] 24)
    replace BB := below_next BB BB.size b rfl rfl rfl rfl
    have G := mv b rfl <| And.intro a10 <| And.intro a11 <| And.intro a12 <| And.intro hT <| And.intro h1 <| And.intro N5 <| And.intro a50 <| And.intro a51 <| And.intro a52 <| N6
    clear b a10 a11 a12 hT h1 N5 a50 a51 a52 N6
    obtain ⟨a10, a11, a12, hT, h1, N5, a50, a51, a52, N6⟩ := G
    cases hd : mayD s1 l1 e1
    · go_wp2_with fail
      refine (dshift_no (p := p) hT h1 hd).mono ?_
      rintro en v7 ⟨k7, s7, A7, n7, c7, m7, e7, rfl, ⟨g0, g1, g2, g3⟩, N7, b⟩
      subst g0 g1 g2 g3
      replace BB := below_next BB BB.size b rfl rfl rfl rfl
      have G := mv b rfl <| And.intro a10 <| And.intro a11 <| And.intro a12 <| And.intro hT <| And.intro h1 <| And.intro N5 <| And.intro a50 <| And.intro a51 <| And.intro a52 <| And.intro N6 <| And.intro a60 <| And.intro a61 <| a62
      clear b a10 a11 a12 hT h1 N5 a50 a51 a52 N6 a60 a61 a62
      obtain ⟨a10, a11, a12, hT, h1, N5, a50, a51, a52, N6, a60, a61, a62⟩ := G
      obtain ⟨a70, a71, a72⟩ := (Box.new v7 false A7 n7 c7 0).held
      have b := below_alloc v7 (.cells #[.bool false, .slice A7 n7 c7, .int .i64 0] 24)
      replace BB := below_next BB BB.size b rfl rfl rfl rfl
      have G := mv b rfl <| And.intro a10 <| And.intro a11 <| And.intro a12 <| And.intro hT <| And.intro h1 <| And.intro N5 <| And.intro a50 <| And.intro a51 <| And.intro a52 <| And.intro N6 <| And.intro a60 <| And.intro a61 <| And.intro a62 <| N7
      clear b a10 a11 a12 hT h1 N5 a50 a51 a52 N6 a60 a61 a62 N7
      obtain ⟨a10, a11, a12, hT, h1, N5, a50, a51, a52, N6, a60, a61, a62, N7⟩ := G
      go_wp2_with fail
      refine (rshift_no (p := p) h1 hd).mono ?_
      rintro en v9 ⟨k9, s9, A9, n9, c9, m9, e9, rfl, ⟨g0, g1, g2, g3⟩, N9, b⟩
      subst g0 g1 g2 g3
      replace BB := below_next BB BB.size b rfl rfl rfl rfl
      have G := mv b rfl <| And.intro a10 <| And.intro a11 <| And.intro a12 <| And.intro hT <| And.intro h1 <| And.intro N5 <| And.intro a50 <| And.intro a51 <| And.intro a52 <| And.intro N6 <| And.intro a60 <| And.intro a61 <| And.intro a62 <| And.intro N7 <| And.intro a70 <| And.intro a71 <| a72
      clear b a10 a11 a12 hT h1 N5 a50 a51 a52 N6 a60 a61 a62 N7 a70 a71 a72
      obtain ⟨a10, a11, a12, hT, h1, N5, a50, a51, a52, N6, a60, a61, a62, N7, a70, a71, a72⟩ := G
      obtain ⟨a90, a91, a92⟩ := (Box.new v9 false A9 n9 c9 0).held
      have b := below_alloc v9 (.cells #[.bool false, .slice A9 n9 c9, .int .i64 0] 24)
      replace BB := below_next BB BB.size b rfl rfl rfl rfl
      have G := mv b rfl <| And.intro a10 <| And.intro a11 <| And.intro a12 <| And.intro hT <| And.intro h1 <| And.intro N5 <| And.intro a50 <| And.intro a51 <| And.intro a52 <| And.intro N6 <| And.intro a60 <| And.intro a61 <| And.intro a62 <| And.intro N7 <| And.intro a70 <| And.intro a71 <| And.intro a72 <| N9
      clear b a10 a11 a12 hT h1 N5 a50 a51 a52 N6 a60 a61 a62 N7 a70 a71 a72 N9
      obtain ⟨a10, a11, a12, hT, h1, N5, a50, a51, a52, N6, a60, a61, a62, N7, a70, a71, a72, N9⟩ := G
      go_wp2_with fail
      refine (dtold_any hT).mono ?_
      rintro en w9 ⟨rfl, b⟩
      replace BB := below_next BB BB.size b rfl rfl rfl rfl
      have G := mv b rfl <| And.intro a10 <| And.intro a11 <| And.intro a12 <| And.intro hT <| And.intro h1 <| And.intro N5 <| And.intro a50 <| And.intro a51 <| And.intro a52 <| And.intro N6 <| And.intro a60 <| And.intro a61 <| And.intro a62 <| And.intro N7 <| And.intro a70 <| And.intro a71 <| And.intro a72 <| And.intro N9 <| And.intro a90 <| And.intro a91 <| a92
      clear b a10 a11 a12 hT h1 N5 a50 a51 a52 N6 a60 a61 a62 N7 a70 a71 a72 N9 a90 a91 a92
      obtain ⟨a10, a11, a12, hT, h1, N5, a50, a51, a52, N6, a60, a61, a62, N7, a70, a71, a72, N9, a90, a91, a92⟩ := G
      go_wp2_with fail
      refine (same2_self (s := s5) (e := e5) (k := k5) N5 N6).mono ?_
      rintro en w10 ⟨rfl, b⟩
      clear N5 N6
      replace BB := below_next BB BB.size b rfl rfl rfl rfl
      have G := mv b rfl <| And.intro a10 <| And.intro a11 <| And.intro a12 <| And.intro hT <| And.intro h1 <| And.intro a50 <| And.intro a51 <| And.intro a52 <| And.intro a60 <| And.intro a61 <| And.intro a62 <| And.intro N7 <| And.intro a70 <| And.intro a71 <| And.intro a72 <| And.intro N9 <| And.intro a90 <| And.intro a91 <| a92
      clear b a10 a11 a12 hT h1 a50 a51 a52 a60 a61 a62 N7 a70 a71 a72 N9 a90 a91 a92
      obtain ⟨a10, a11, a12, hT, h1, a50, a51, a52, a60, a61, a62, N7, a70, a71, a72, N9, a90, a91, a92⟩ := G
      go_wp2_with fail
      refine (same2_self (s := false) (e := 0) (k := 1) N7 N9).mono ?_
      rintro en w11 ⟨rfl, b⟩
      clear N7 N9
      replace BB := below_next BB BB.size b rfl rfl rfl rfl
      have G := mv b rfl <| And.intro a10 <| And.intro a11 <| And.intro a12 <| And.intro hT <| And.intro h1 <| And.intro a50 <| And.intro a51 <| And.intro a52 <| And.intro a60 <| And.intro a61 <| And.intro a62 <| And.intro a70 <| And.intro a71 <| And.intro a72 <| And.intro a90 <| And.intro a91 <| a92
      clear b a10 a11 a12 hT h1 a50 a51 a52 a60 a61 a62 a70 a71 a72 a90 a91 a92
      obtain ⟨a10, a11, a12, hT, h1, a50, a51, a52, a60, a61, a62, a70, a71, a72, a90, a91, a92⟩ := G
      go_wp2
      go_ret
      exact ⟨by first | rfl | simp, BB⟩
    · obtain ⟨hmb, hok⟩ := mayD_of h1.lt hd
      have N1 := (nt_of h1 hmb).1
      have O1 := Lib.hid hok
      generalize val Go.Proofs.YtkfcnodnefpboaaDoor.W l1 = m1 at *
      clear hmb hok hd
      clear h1
      go_wp2_with fail
      refine (dshift_ok (p := p) hT N1 O1.out).mono ?_
      rintro en v7 ⟨k7, s7, A7, n7, c7, m7, e7, rfl, hp, N7, b⟩
      have P7 := Lib.hid hp
      clear hp
      replace BB := below_next BB BB.size b rfl rfl rfl rfl
      have G := mv b rfl <| And.intro a10 <| And.intro a11 <| And.intro a12 <| And.intro hT <| And.intro N5 <| And.intro a50 <| And.intro a51 <| And.intro a52 <| And.intro N6 <| And.intro a60 <| And.intro a61 <| And.intro a62 <| N1
      clear b a10 a11 a12 hT N5 a50 a51 a52 N6 a60 a61 a62 N1
      obtain ⟨a10, a11, a12, hT, N5, a50, a51, a52, N6, a60, a61, a62, N1⟩ := G
      obtain ⟨a70, a71, a72⟩ := (Box.new v7 s7 A7 n7 c7 e7).held
      have b := below_alloc v7 (.cells #[.bool s7, .slice A7 n7 c7, .int .i64 e7] 24)
      replace BB := below_next BB BB.size b rfl rfl rfl rfl
      have G := mv b rfl <| And.intro a10 <| And.intro a11 <| And.intro a12 <| And.intro hT <| And.intro N5 <| And.intro a50 <| And.intro a51 <| And.intro a52 <| And.intro N6 <| And.intro a60 <| And.intro a61 <| And.intro a62 <| And.intro N1 <| N7
      clear b a10 a11 a12 hT N5 a50 a51 a52 N6 a60 a61 a62 N1 N7
      obtain ⟨a10, a11, a12, hT, N5, a50, a51, a52, N6, a60, a61, a62, N1, N7⟩ := G
      go_wp2_with fail
      refine (rshift_ok (p := p) N1 O1.out).mono ?_
      rintro en v9 ⟨k9, s9, A9, n9, c9, m9, e9, rfl, hp', N9, b⟩
      obtain ⟨g0, g1, g2, g3⟩ := shifted_fun P7.out hp'
      obtain rfl := g0
      obtain rfl := g1
      obtain rfl := g2
      obtain rfl := g3
      clear hp'
      replace BB := below_next BB BB.size b rfl rfl rfl rfl
      have G := mv b rfl <| And.intro a10 <| And.intro a11 <| And.intro a12 <| And.intro hT <| And.intro N5 <| And.intro a50 <| And.intro a51 <| And.intro a52 <| And.intro N6 <| And.intro a60 <| And.intro a61 <| And.intro a62 <| And.intro N1 <| And.intro N7 <| And.intro a70 <| And.intro a71 <| a72
      clear b a10 a11 a12 hT N5 a50 a51 a52 N6 a60 a61 a62 N1 N7 a70 a71 a72
      obtain ⟨a10, a11, a12, hT, N5, a50, a51, a52, N6, a60, a61, a62, N1, N7, a70, a71, a72⟩ := G
      obtain ⟨a90, a91, a92⟩ := (Box.new v9 s7 A9 n9 c9 e7).held
      have b := below_alloc v9 (.cells #[.bool s7, .slice A9 n9 c9, .int .i64 e7] 24)
      replace BB := below_next BB BB.size b rfl rfl rfl rfl
      have G := mv b rfl <| And.intro a10 <| And.intro a11 <| And.intro a12 <| And.intro hT <| And.intro N5 <| And.intro a50 <| And.intro a51 <| And.intro a52 <| And.intro N6 <| And.intro a60 <| And.intro a61 <| And.intro a62 <| And.intro N1 <| And.intro N7 <| And.intro a70 <| And.intro a71 <| And.intro a72 <| N9
      clear b a10 a11 a12 hT N5 a50 a51 a52 N6 a60 a61 a62 N1 N7 a70 a71 a72 N9
      obtain ⟨a10, a11, a12, hT, N5, a50, a51, a52, N6, a60, a61, a62, N1, N7, a70, a71, a72, N9⟩ := G
      go_wp2_with fail
      refine (dtold_any hT).mono ?_
      rintro en w9 ⟨rfl, b⟩
      replace BB := below_next BB BB.size b rfl rfl rfl rfl
      have G := mv b rfl <| And.intro a10 <| And.intro a11 <| And.intro a12 <| And.intro hT <| And.intro N5 <| And.intro a50 <| And.intro a51 <| And.intro a52 <| And.intro N6 <| And.intro a60 <| And.intro a61 <| And.intro a62 <| And.intro N1 <| And.intro N7 <| And.intro a70 <| And.intro a71 <| And.intro a72 <| And.intro N9 <| And.intro a90 <| And.intro a91 <| a92
      clear b a10 a11 a12 hT N5 a50 a51 a52 N6 a60 a61 a62 N1 N7 a70 a71 a72 N9 a90 a91 a92
      obtain ⟨a10, a11, a12, hT, N5, a50, a51, a52, N6, a60, a61, a62, N1, N7, a70, a71, a72, N9, a90, a91, a92⟩ := G
      go_wp2_with fail
      refine (same2_self (s := s5) (e := e5) (k := k5) N5 N6).mono ?_
      rintro en w10 ⟨rfl, b⟩
      clear N5 N6
      replace BB := below_next BB BB.size b rfl rfl rfl rfl
      have G := mv b rfl <| And.intro a10 <| And.intro a11 <| And.intro a12 <| And.intro hT <| And.intro a50 <| And.intro a51 <| And.intro a52 <| And.intro a60 <| And.intro a61 <| And.intro a62 <| And.intro N1 <| And.intro N7 <| And.intro a70 <| And.intro a71 <| And.intro a72 <| And.intro N9 <| And.intro a90 <| And.intro a91 <| a92
      clear b a10 a11 a12 hT a50 a51 a52 a60 a61 a62 N1 N7 a70 a71 a72 N9 a90 a91 a92
      obtain ⟨a10, a11, a12, hT, a50, a51, a52, a60, a61, a62, N1, N7, a70, a71, a72, N9, a90, a91, a92⟩ := G
      go_wp2_with fail
      refine (same2_self (s := s7) (e := e7) (k := k7) N7 N9).mono ?_
      rintro en w11 ⟨rfl, b⟩
      clear N7 N9
      replace BB := below_next BB BB.size b rfl rfl rfl rfl
      have G := mv b rfl <| And.intro a10 <| And.intro a11 <| And.intro a12 <| And.intro hT <| And.intro a50 <| And.intro a51 <| And.intro a52 <| And.intro a60 <| And.intro a61 <| And.intro a62 <| And.intro N1 <| And.intro a70 <| And.intro a71 <| And.intro a72 <| And.intro a90 <| And.intro a91 <| a92
      clear b a10 a11 a12 hT a50 a51 a52 a60 a61 a62 N1 a70 a71 a72 a90 a91 a92
      obtain ⟨a10, a11, a12, hT, a50, a51, a52, a60, a61, a62, N1, a70, a71, a72, a90, a91, a92⟩ := G
      go_wp2
      go_ret
      exact ⟨by first | rfl | simp, BB⟩
  · have N2 := (nt_of h2 hm).1
    generalize hv2 : val Go.Proofs.YtkfcnodnefpboaaDoor.W l2 = x2 at *
    have bx := blen_nt N2
    go_wp2_with fail
    refine (dnorm_ok (s := neg) (e := e) hT N2).mono ?_
    rintro en v3 ⟨k3, s3, A3, n3, c3, m3, e3, rfl, hp, N3, b⟩
    have P3 := Lib.hid hp
    have O3 := Lib.hid (nm_okd hp)
    clear hp
    replace BB := below_next BB BB.size b rfl rfl rfl rfl
    have G := mv b rfl <| And.intro a10 <| And.intro a11 <| And.intro a12 <| And.intro hT <| And.intro h1 <| And.intro h2 <| N2
    clear b a10 a11 a12 hT h1 h2 N2
    obtain ⟨a10, a11, a12, hT, h1, h2, N2⟩ := G
    obtain ⟨a30, a31, a32⟩ := (Box.new v3 s3 A3 n3 c3 e3).held
    have b := below_alloc v3 (.cells #[.bool s3, .slice A3 n3 c3, .int .i64 e3] 24)
    replace BB := below_next BB BB.size b rfl rfl rfl rfl
    have G := mv b rfl <| And.intro a10 <| And.intro a11 <| And.intro a12 <| And.intro hT <| And.intro h1 <| And.intro h2 <| And.intro N2 <| N3
    clear b a10 a11 a12 hT h1 h2 N2 N3
    obtain ⟨a10, a11, a12, hT, h1, h2, N2, N3⟩ := G
    go_wp2_with fail
    refine (rmay_any h2).mono ?_
    rintro en w' ⟨rfl, rfl⟩
    rw [hm]
    go_wp2_with fail
    refine (rfrom_any h2 (by omega)).mono ?_
    rintro en u3 ⟨A8, n8, c8, rfl, h8, b⟩
    rw [hv2] at h8
    replace BB := below_next BB BB.size b rfl rfl rfl rfl
    have G := mv b rfl <| And.intro a10 <| And.intro a11 <| And.intro a12 <| And.intro hT <| And.intro h1 <| And.intro h2 <| And.intro N2 <| And.intro N3 <| And.intro a30 <| And.intro a31 <| a32
    clear b a10 a11 a12 hT h1 h2 N2 N3 a30 a31 a32
    obtain ⟨a10, a11, a12, hT, h1, h2, N2, N3, a30, a31, a32⟩ := G
    have n8l : n8 ≤ 256 := dg_small h8 (by rw [H256]; exact N2.lt)
    go_wp2_with fail
    refine (rnorm_any (s := neg) (e := e) h8 (by omega) (by omega)).mono ?_
    rintro en v4 ⟨k4, s4, A4, n4, c4, m4, e4, rfl, hp', N4, b⟩
    obtain ⟨g0, g1, g2, g3⟩ := nm_fun P3.out hp'
    obtain rfl := g0
    obtain rfl := g1
    obtain rfl := g2
    obtain rfl := g3
    clear hp'
    clear h8 N2
    replace BB := below_next BB BB.size b rfl rfl rfl rfl
    have G := mv b rfl <| And.intro a10 <| And.intro a11 <| And.intro a12 <| And.intro hT <| And.intro h1 <| And.intro h2 <| And.intro N3 <| And.intro a30 <| And.intro a31 <| a32
    clear b a10 a11 a12 hT h1 h2 N3 a30 a31 a32
    obtain ⟨a10, a11, a12, hT, h1, h2, N3, a30, a31, a32⟩ := G
    obtain ⟨a40, a41, a42⟩ := (Box.new v4 s3 A4 n4 c4 e3).held
    have b := below_alloc v4 (.cells #[.bool s3, .slice A4 n4 c4, .int .i64 e3] 24)
    replace BB := below_next BB BB.size b rfl rfl rfl rfl
    have G := mv b rfl <| And.intro a10 <| And.intro a11 <| And.intro a12 <| And.intro hT <| And.intro h1 <| And.intro h2 <| And.intro N3 <| And.intro a30 <| And.intro a31 <| And.intro a32 <| N4
    clear b a10 a11 a12 hT h1 h2 N3 a30 a31 a32 N4
    obtain ⟨a10, a11, a12, hT, h1, h2, N3, a30, a31, a32, N4⟩ := G
    go_wp2_with fail
    refine (same2_self (s := s3) (e := e3) (k := k3) N3 N4).mono ?_
    rintro en w5 ⟨rfl, b⟩
    clear N3 N4 a30 a31 a32 a40 a41 a42
    replace BB := below_next BB BB.size b rfl rfl rfl rfl
    have G := mv b rfl <| And.intro a10 <| And.intro a11 <| And.intro a12 <| And.intro hT <| And.intro h1 <| h2
    clear b a10 a11 a12 hT h1 h2
    obtain ⟨a10, a11, a12, hT, h1, h2⟩ := G
    clear hm n8l
    clear h2
    go_wp2_with fail
    refine (of_pos (a := a) (e := e) hT ha).mono ?_
    rintro en v5 ⟨k5, s5, A5, n5, c5, m5, e5, rfl, hp, N5, b⟩
    have P5 := Lib.hid hp
    have O5 := Lib.hid (nm_okd hp)
    clear hp
    replace BB := below_next BB BB.size b rfl rfl rfl rfl
    have G := mv b rfl <| And.intro a10 <| And.intro a11 <| And.intro a12 <| And.intro hT <| h1
    clear b a10 a11 a12 hT h1
    obtain ⟨a10, a11, a12, hT, h1⟩ := G
    obtain ⟨a50, a51, a52⟩ := (Box.new v5 s5 A5 n5 c5 e5).held
    have b := below_alloc v5 (.cells #[.bool s5, .slice A5 n5 c5, .int .i64 e5] 24)
    replace BB := below_next BB BB.size b rfl rfl rfl rfl
    have G := mv b rfl <| And.intro a10 <| And.intro a11 <| And.intro a12 <| And.intro hT <| And.intro h1 <| N5
    clear b a10 a11 a12 hT h1 N5
    obtain ⟨a10, a11, a12, hT, h1, N5⟩ := G
    go_wp2_with fail
    refine (rsmall_any au).mono ?_
    rintro en u8 ⟨A8, n8, c8, rfl, h8, b⟩
    replace BB := below_next BB BB.size b rfl rfl rfl rfl
    have G := mv b rfl <| And.intro a10 <| And.intro a11 <| And.intro a12 <| And.intro hT <| And.intro h1 <| And.intro N5 <| And.intro a50 <| And.intro a51 <| a52
    clear b a10 a11 a12 hT h1 N5 a50 a51 a52
    obtain ⟨a10, a11, a12, hT, h1, N5, a50, a51, a52⟩ := G
    have n8l : n8 ≤ 4 := dg_small h8 (by rw [show (4 : Nat) = 4 * 1 from rfl, HW_pow, Nat.pow_one, W_eq]; exact au)
    go_wp2_with fail
    refine (rnorm_any (s := false) (e := e) h8 (by omega) (by omega)).mono ?_
    rintro en v6 ⟨k6, s6, A6, n6, c6, m6, e6, rfl, hp', N6, b⟩
    obtain ⟨g0, g1, g2, g3⟩ := nm_fun P5.out hp'
    obtain rfl := g0
    obtain rfl := g1
    obtain rfl := g2
    obtain rfl := g3
    clear hp'
    clear h8
    replace BB := below_next BB BB.size b rfl rfl rfl rfl
    have G := mv b rfl <| And.intro a10 <| And.intro a11 <| And.intro a12 <| And.intro hT <| And.intro h1 <| And.intro N5 <| And.intro a50 <| And.intro a51 <| a52
    clear b a10 a11 a12 hT h1 N5 a50 a51 a52
    obtain ⟨a10, a11, a12, hT, h1, N5, a50, a51, a52⟩ := G
    obtain ⟨a60, a61, a62⟩ := (Box.new v6 s5 A6 n6 c6 e5).held
    have b := below_alloc v6 (.cells #[.bool s5, .slice A6 n6 c6, .int .i64 e5] 24)
    replace BB := below_next BB BB.size b rfl rfl rfl rfl
    have G := mv b rfl <| And.intro a10 <| And.intro a11 <| And.intro a12 <| And.intro hT <| And.intro h1 <| And.intro N5 <| And.intro a50 <| And.intro a51 <| And.intro a52 <| N6
    clear b a10 a11 a12 hT h1 N5 a50 a51 a52 N6
    obtain ⟨a10, a11, a12, hT, h1, N5, a50, a51, a52, N6⟩ := G
    cases hd : mayD s1 l1 e1
    · go_wp2_with fail
      refine (dshift_no (p := p) hT h1 hd).mono ?_
      rintro en v7 ⟨k7, s7, A7, n7, c7, m7, e7, rfl, ⟨g0, g1, g2, g3⟩, N7, b⟩
      subst g0 g1 g2 g3
      replace BB := below_next BB BB.size b rfl rfl rfl rfl
      have G := mv b rfl <| And.intro a10 <| And.intro a11 <| And.intro a12 <| And.intro hT <| And.intro h1 <| And.intro N5 <| And.intro a50 <| And.intro a51 <| And.intro a52 <| And.intro N6 <| And.intro a60 <| And.intro a61 <| a62
      clear b a10 a11 a12 hT h1 N5 a50 a51 a52 N6 a60 a61 a62
      obtain ⟨a10, a11, a12, hT, h1, N5, a50, a51, a52, N6, a60, a61, a62⟩ := G
      obtain ⟨a70, a71, a72⟩ := (Box.new v7 false A7 n7 c7 0).held
      have b := below_alloc v7 (.cells #[.bool false, .slice A7 n7 c7, .int .i64 0] 24)
      replace BB := below_next BB BB.size b rfl rfl rfl rfl
      have G := mv b rfl <| And.intro a10 <| And.intro a11 <| And.intro a12 <| And.intro hT <| And.intro h1 <| And.intro N5 <| And.intro a50 <| And.intro a51 <| And.intro a52 <| And.intro N6 <| And.intro a60 <| And.intro a61 <| And.intro a62 <| N7
      clear b a10 a11 a12 hT h1 N5 a50 a51 a52 N6 a60 a61 a62 N7
      obtain ⟨a10, a11, a12, hT, h1, N5, a50, a51, a52, N6, a60, a61, a62, N7⟩ := G
      go_wp2_with fail
      refine (rshift_no (p := p) h1 hd).mono ?_
      rintro en v9 ⟨k9, s9, A9, n9, c9, m9, e9, rfl, ⟨g0, g1, g2, g3⟩, N9, b⟩
      subst g0 g1 g2 g3
      replace BB := below_next BB BB.size b rfl rfl rfl rfl
      have G := mv b rfl <| And.intro a10 <| And.intro a11 <| And.intro a12 <| And.intro hT <| And.intro h1 <| And.intro N5 <| And.intro a50 <| And.intro a51 <| And.intro a52 <| And.intro N6 <| And.intro a60 <| And.intro a61 <| And.intro a62 <| And.intro N7 <| And.intro a70 <| And.intro a71 <| a72
      clear b a10 a11 a12 hT h1 N5 a50 a51 a52 N6 a60 a61 a62 N7 a70 a71 a72
      obtain ⟨a10, a11, a12, hT, h1, N5, a50, a51, a52, N6, a60, a61, a62, N7, a70, a71, a72⟩ := G
      obtain ⟨a90, a91, a92⟩ := (Box.new v9 false A9 n9 c9 0).held
      have b := below_alloc v9 (.cells #[.bool false, .slice A9 n9 c9, .int .i64 0] 24)
      replace BB := below_next BB BB.size b rfl rfl rfl rfl
      have G := mv b rfl <| And.intro a10 <| And.intro a11 <| And.intro a12 <| And.intro hT <| And.intro h1 <| And.intro N5 <| And.intro a50 <| And.intro a51 <| And.intro a52 <| And.intro N6 <| And.intro a60 <| And.intro a61 <| And.intro a62 <| And.intro N7 <| And.intro a70 <| And.intro a71 <| And.intro a72 <| N9
      clear b a10 a11 a12 hT h1 N5 a50 a51 a52 N6 a60 a61 a62 N7 a70 a71 a72 N9
      obtain ⟨a10, a11, a12, hT, h1, N5, a50, a51, a52, N6, a60, a61, a62, N7, a70, a71, a72, N9⟩ := G
      go_wp2_with fail
      refine (dtold_any hT).mono ?_
      rintro en w11 ⟨rfl, b⟩
      replace BB := below_next BB BB.size b rfl rfl rfl rfl
      have G := mv b rfl <| And.intro a10 <| And.intro a11 <| And.intro a12 <| And.intro hT <| And.intro h1 <| And.intro N5 <| And.intro a50 <| And.intro a51 <| And.intro a52 <| And.intro N6 <| And.intro a60 <| And.intro a61 <| And.intro a62 <| And.intro N7 <| And.intro a70 <| And.intro a71 <| And.intro a72 <| And.intro N9 <| And.intro a90 <| And.intro a91 <| a92
      clear b a10 a11 a12 hT h1 N5 a50 a51 a52 N6 a60 a61 a62 N7 a70 a71 a72 N9 a90 a91 a92
      obtain ⟨a10, a11, a12, hT, h1, N5, a50, a51, a52, N6, a60, a61, a62, N7, a70, a71, a72, N9, a90, a91, a92⟩ := G
      go_wp2_with fail
      refine (same2_self (s := s5) (e := e5) (k := k5) N5 N6).mono ?_
      rintro en w12 ⟨rfl, b⟩
      clear N5 N6
      replace BB := below_next BB BB.size b rfl rfl rfl rfl
      have G := mv b rfl <| And.intro a10 <| And.intro a11 <| And.intro a12 <| And.intro hT <| And.intro h1 <| And.intro a50 <| And.intro a51 <| And.intro a52 <| And.intro a60 <| And.intro a61 <| And.intro a62 <| And.intro N7 <| And.intro a70 <| And.intro a71 <| And.intro a72 <| And.intro N9 <| And.intro a90 <| And.intro a91 <| a92
      clear b a10 a11 a12 hT h1 a50 a51 a52 a60 a61 a62 N7 a70 a71 a72 N9 a90 a91 a92
      obtain ⟨a10, a11, a12, hT, h1, a50, a51, a52, a60, a61, a62, N7, a70, a71, a72, N9, a90, a91, a92⟩ := G
      go_wp2_with fail
      refine (same2_self (s := false) (e := 0) (k := 1) N7 N9).mono ?_
      rintro en w13 ⟨rfl, b⟩
      clear N7 N9
      replace BB := below_next BB BB.size b rfl rfl rfl rfl
      have G := mv b rfl <| And.intro a10 <| And.intro a11 <| And.intro a12 <| And.intro hT <| And.intro h1 <| And.intro a50 <| And.intro a51 <| And.intro a52 <| And.intro a60 <| And.intro a61 <| And.intro a62 <| And.intro a70 <| And.intro a71 <| And.intro a72 <| And.intro a90 <| And.intro a91 <| a92
      clear b a10 a11 a12 hT h1 a50 a51 a52 a60 a61 a62 a70 a71 a72 a90 a91 a92
      obtain ⟨a10, a11, a12, hT, h1, a50, a51, a52, a60, a61, a62, a70, a71, a72, a90, a91, a92⟩ := G
      go_wp2
      go_ret
      exact ⟨by first | rfl | simp, BB⟩
    · obtain ⟨hmb, hok⟩ := mayD_of h1.lt hd
      have N1 := (nt_of h1 hmb).1
      have O1 := Lib.hid hok
      generalize val Go.Proofs.YtkfcnodnefpboaaDoor.W l1 = m1 at *
      clear hmb hok hd
      clear h1
      go_wp2_with fail
      refine (dshift_ok (p := p) hT N1 O1.out).mono ?_
      rintro en v7 ⟨k7, s7, A7, n7, c7, m7, e7, rfl, hp, N7, b⟩
      have P7 := Lib.hid hp
      clear hp
      replace BB := below_next BB BB.size b rfl rfl rfl rfl
      have G := mv b rfl <| And.intro a10 <| And.intro a11 <| And.intro a12 <| And.intro hT <| And.intro N5 <| And.intro a50 <| And.intro a51 <| And.intro a52 <| And.intro N6 <| And.intro a60 <| And.intro a61 <| And.intro a62 <| N1
      clear b a10 a11 a12 hT N5 a50 a51 a52 N6 a60 a61 a62 N1
      obtain ⟨a10, a11, a12, hT, N5, a50, a51, a52, N6, a60, a61, a62, N1⟩ := G
      obtain ⟨a70, a71, a72⟩ := (Box.new v7 s7 A7 n7 c7 e7).held
      have b := below_alloc v7 (.cells #[.bool s7, .slice A7 n7 c7, .int .i64 e7] 24)
      replace BB := below_next BB BB.size b rfl rfl rfl rfl
      have G := mv b rfl <| And.intro a10 <| And.intro a11 <| And.intro a12 <| And.intro hT <| And.intro N5 <| And.intro a50 <| And.intro a51 <| And.intro a52 <| And.intro N6 <| And.intro a60 <| And.intro a61 <| And.intro a62 <| And.intro N1 <| N7
      clear b a10 a11 a12 hT N5 a50 a51 a52 N6 a60 a61 a62 N1 N7
      obtain ⟨a10, a11, a12, hT, N5, a50, a51, a52, N6, a60, a61, a62, N1, N7⟩ := G
      go_wp2_with fail
      refine (rshift_ok (p := p) N1 O1.out).mono ?_
      rintro en v9 ⟨k9, s9, A9, n9, c9, m9, e9, rfl, hp', N9, b⟩
      obtain ⟨g0, g1, g2, g3⟩ := shifted_fun P7.out hp'
      obtain rfl := g0
      obtain rfl := g1
      obtain rfl := g2
      obtain rfl := g3
      clear hp'
      replace BB := below_next BB BB.size b rfl rfl rfl rfl
      have G := mv b rfl <| And.intro a10 <| And.intro a11 <| And.intro a12 <| And.intro hT <| And.intro N5 <| And.intro a50 <| And.intro a51 <| And.intro a52 <| And.intro N6 <| And.intro a60 <| And.intro a61 <| And.intro a62 <| And.intro N1 <| And.intro N7 <| And.intro a70 <| And.intro a71 <| a72
      clear b a10 a11 a12 hT N5 a50 a51 a52 N6 a60 a61 a62 N1 N7 a70 a71 a72
      obtain ⟨a10, a11, a12, hT, N5, a50, a51, a52, N6, a60, a61, a62, N1, N7, a70, a71, a72⟩ := G
      obtain ⟨a90, a91, a92⟩ := (Box.new v9 s7 A9 n9 c9 e7).held
      have b := below_alloc v9 (.cells #[.bool s7, .slice A9 n9 c9, .int .i64 e7] 24)
      replace BB := below_next BB BB.size b rfl rfl rfl rfl
      have G := mv b rfl <| And.intro a10 <| And.intro a11 <| And.intro a12 <| And.intro hT <| And.intro N5 <| And.intro a50 <| And.intro a51 <| And.intro a52 <| And.intro N6 <| And.intro a60 <| And.intro a61 <| And.intro a62 <| And.intro N1 <| And.intro N7 <| And.intro a70 <| And.intro a71 <| And.intro a72 <| N9
      clear b a10 a11 a12 hT N5 a50 a51 a52 N6 a60 a61 a62 N1 N7 a70 a71 a72 N9
      obtain ⟨a10, a11, a12, hT, N5, a50, a51, a52, N6, a60, a61, a62, N1, N7, a70, a71, a72, N9⟩ := G
      go_wp2_with fail
      refine (dtold_any hT).mono ?_
      rintro en w11 ⟨rfl, b⟩
      replace BB := below_next BB BB.size b rfl rfl rfl rfl
      have G := mv b rfl <| And.intro a10 <| And.intro a11 <| And.intro a12 <| And.intro hT <| And.intro N5 <| And.intro a50 <| And.intro a51 <| And.intro a52 <| And.intro N6 <| And.intro a60 <| And.intro a61 <| And.intro a62 <| And.intro N1 <| And.intro N7 <| And.intro a70 <| And.intro a71 <| And.intro a72 <| And.intro N9 <| And.intro a90 <| And.intro a91 <| a92
      clear b a10 a11 a12 hT N5 a50 a51 a52 N6 a60 a61 a62 N1 N7 a70 a71 a72 N9 a90 a91 a92
      obtain ⟨a10, a11, a12, hT, N5, a50, a51, a52, N6, a60, a61, a62, N1, N7, a70, a71, a72, N9, a90, a91, a92⟩ := G
      go_wp2_with fail
      refine (same2_self (s := s5) (e := e5) (k := k5) N5 N6).mono ?_
      rintro en w12 ⟨rfl, b⟩
      clear N5 N6
      replace BB := below_next BB BB.size b rfl rfl rfl rfl
      have G := mv b rfl <| And.intro a10 <| And.intro a11 <| And.intro a12 <| And.intro hT <| And.intro a50 <| And.intro a51 <| And.intro a52 <| And.intro a60 <| And.intro a61 <| And.intro a62 <| And.intro N1 <| And.intro N7 <| And.intro a70 <| And.intro a71 <| And.intro a72 <| And.intro N9 <| And.intro a90 <| And.intro a91 <| a92
      clear b a10 a11 a12 hT a50 a51 a52 a60 a61 a62 N1 N7 a70 a71 a72 N9 a90 a91 a92
      obtain ⟨a10, a11, a12, hT, a50, a51, a52, a60, a61, a62, N1, N7, a70, a71, a72, N9, a90, a91, a92⟩ := G
      go_wp2_with fail
      refine (same2_self (s := s7) (e := e7) (k := k7) N7 N9).mono ?_
      rintro en w13 ⟨rfl, b⟩
      clear N7 N9
      replace BB := below_next BB BB.size b rfl rfl rfl rfl
      have G := mv b rfl <| And.intro a10 <| And.intro a11 <| And.intro a12 <| And.intro hT <| And.intro a50 <| And.intro a51 <| And.intro a52 <| And.intro a60 <| And.intro a61 <| And.intro a62 <| And.intro N1 <| And.intro a70 <| And.intro a71 <| And.intro a72 <| And.intro a90 <| And.intro a91 <| a92
      clear b a10 a11 a12 hT a50 a51 a52 a60 a61 a62 N1 a70 a71 a72 a90 a91 a92
      obtain ⟨a10, a11, a12, hT, a50, a51, a52, a60, a61, a62, N1, a70, a71, a72, a90, a91, a92⟩ := G
      go_wp2
      go_ret
      exact ⟨by first | rfl | simp, BB⟩

set_option maxRecDepth 100000 in
set_option maxHeartbeats 8000000 in
theorem dnorms_neg {w : World} {A1 : Option Addr} {n1 c1 : Nat} {l1 : List Nat} {A2 : Option Addr} {n2 c2 : Nat} {l2 : List Nat} {s1 neg : Bool} {e1 e p : Int} {a : Nat} (hT : Tab w) (h1 : Rd w .u64 W A1 n1 c1 l1) (h2 : Rd w .u64 W A2 n2 c2 l2) (ha0 : 0 < a) (ha : a ≤ 9223372036854775808) :
    Calls Tryd.prog 4 #[.bool neg, .slice A2 n2 c2, .int .i64 e, .int .i64 (-(a : Int)), .agg #[.bool s1, .slice A1 n1 c1, .int .i64 e1], .int .i64 p] w fun en w' => ToldEnd w en w' := by
  have x1 : n1 ≤ 9223372036854775807 := Nat.le_trans h1.cap h1.max
  have hu1 : IntKind.u64.wrap (-(a : Int)) = 18446744073709551616 - (a : Int) := by rw [IntKind.wrap_u64]; omega
  have hu2 : IntKind.u64.wrap (-(18446744073709551616 - (a : Int))) = (a : Int) := by rw [IntKind.wrap_u64]; omega
  have hu3 : IntKind.u64.wrap ((a : Int) - 18446744073709551616) = (a : Int) := by rw [IntKind.wrap_u64]; omega
  have dn : decide (-(a : Int) < 0) = true := decide_eq_true (by omega)
  have dn2 : decide (0 < (a : Int)) = true := decide_eq_true (by omega)
  have dn3 : decide (0 < a) = true := decide_eq_true ha0
  have au : a < 18446744073709551616 := by omega
  have hab := blen_small au
  have BB := below_alloc w (.cells #[.bool s1, .slice A1 n1 c1, .int .i64 e1] 24)
  obtain ⟨a10, a11, a12⟩ := (Box.new w s1 A1 n1 c1 e1).held
  have G := mv BB rfl <| And.intro hT <| And.intro h1 <| h2
  clear hT h1 h2
  obtain ⟨hT, h1, h2⟩ := G
  by_cases q2 : n2 ≤ 70
  rotate_left
  · have d1 : decide ((70 : Int) < (n2 : Int)) = true := decide_eq_true (by omega)
    go_enter Tryd.func4, Tryd.ntmps4
    go_wp2_with fail
    refine (dtold_any hT).mono ?_
    rintro en w99 ⟨rfl, b⟩
    replace BB := below_next BB BB.size b rfl rfl rfl rfl
    clear b
    go_wp2
    go_ret
    exact ⟨by first | rfl | simp, BB⟩
  have d1 : decide ((70 : Int) < (n2 : Int)) = false := decide_eq_false (by omega)
  go_enter Tryd.func4, Tryd.ntmps4
  go_wp2_with fail
  refine (dfew_any (s := s1) (e := e1) x1).mono ?_
  rintro en w1 ⟨rfl, b⟩
  replace BB := below_next BB BB.size b rfl rfl rfl rfl
  have G := mv b rfl <| And.intro a10 <| And.intro a11 <| And.intro a12 <| And.intro hT <| And.intro h1 <| h2
  clear b a10 a11 a12 hT h1 h2
  obtain ⟨a10, a11, a12, hT, h1, h2⟩ := G
  by_cases q1 : n1 ≤ 70
  rotate_left
  · rw [decide_eq_false q1]
    go_wp2_with fail
    refine (dtold_any hT).mono ?_
    rintro en w99 ⟨rfl, b⟩
    replace BB := below_next BB BB.size b rfl rfl rfl rfl
    clear b
    go_wp2
    go_ret
    exact ⟨by first | rfl | simp, BB⟩
  rw [decide_eq_true q1]
  clear x1 d1
  cases hm : mayB l2
  · go_wp2_with fail
    refine (dnorm_no (s := neg) (e := e) h2 hm).mono ?_
    rintro en v3 ⟨k3, s3, A3, n3, c3, m3, e3, rfl, ⟨g0, g1, g2, g3⟩, N3, b⟩
    subst g0 g1 g2 g3
    replace BB := below_next BB BB.size b rfl rfl rfl rfl
    have G := mv b rfl <| And.intro a10 <| And.intro a11 <| And.intro a12 <| And.intro hT <| And.intro h1 <| h2
    clear b a10 a11 a12 hT h1 h2
    obtain ⟨a10, a11, a12, hT, h1, h2⟩ := G
    obtain ⟨a30, a31, a32⟩ := (Box.new v3 false A3 n3 c3 0).held
    have b := below_alloc v3 (.cells #[.bool false, .slice A3 n3 c3, .int .i64 0] 24)
    replace BB := below_next BB BB.size b rfl rfl rfl rfl
    have G := mv b rfl <| And.intro a10 <| And.intro a11 <| And.intro a12 <| And.intro hT <| And.intro h1 <| And.intro h2 <| N3
    clear b a10 a11 a12 hT h1 h2 N3
    obtain ⟨a10, a11, a12, hT, h1, h2, N3⟩ := G
    go_wp2_with fail
    refine (rmay_any h2).mono ?_
    rintro en w' ⟨rfl, rfl⟩
    rw [hm]
    have NN := nt_nil (v3.alloc (.cells #[.bool false, .slice A3 n3 c3, .int .i64 0] 24))
    go_wp2_with fail
    refine (rsame_self (s := false) (e := 0) N3 NN).mono ?_
    rintro en w3 ⟨rfl, b⟩
    clear NN
    clear N3 a30 a31 a32
    replace BB := below_next BB BB.size b rfl rfl rfl rfl
    have G := mv b rfl <| And.intro a10 <| And.intro a11 <| And.intro a12 <| And.intro hT <| And.intro h1 <| h2
    clear b a10 a11 a12 hT h1 h2
    obtain ⟨a10, a11, a12, hT, h1, h2⟩ := G
    clear hm
    clear h2
    go_wp2_with fail
    refine (of_neg (a := a) (e := e) hT ha0 ha).mono ?_
    rintro en v5 ⟨k5, s5, A5, n5, c5, m5, e5, rfl, hp, N5, b⟩
    have P5 := Lib.hid hp
    have O5 := Lib.hid (nm_okd hp)
    clear hp
    replace BB := below_next BB BB.size b rfl rfl rfl rfl
    have G := mv b rfl <| And.intro a10 <| And.intro a11 <| And.intro a12 <| And.intro hT <| h1
    clear b a10 a11 a12 hT h1
    obtain ⟨a10, a11, a12, hT, h1⟩ := G
    obtain ⟨a50, a51, a52⟩ := (Box.new v5 s5 A5 n5 c5 e5).held
    have b := below_alloc v5 (.cells #[.bool s5, .slice A5 n5 c5, .int .i64 e5] 24)
    replace BB := below_next BB BB.size b rfl rfl rfl rfl
    have G := mv b rfl <| And.intro a10 <| And.intro a11 <| And.intro a12 <| And.intro hT <| And.intro h1 <| N5
    clear b a10 a11 a12 hT h1 N5
    obtain ⟨a10, a11, a12, hT, h1, N5⟩ := G
    go_wp2_with fail
    refine (rsmall_any au).mono ?_
    rintro en u8 ⟨A8, n8, c8, rfl, h8, b⟩
    replace BB := below_next BB BB.size b rfl rfl rfl rfl
    have G := mv b rfl <| And.intro a10 <| And.intro a11 <| And.intro a12 <| And.intro hT <| And.intro h1 <| And.intro N5 <| And.intro a50 <| And.intro a51 <| a52
    clear b a10 a11 a12 hT h1 N5 a50 a51 a52
    obtain ⟨a10, a11, a12, hT, h1, N5, a50, a51, a52⟩ := G
    have n8l : n8 ≤ 4 := dg_small h8 (by rw [show (4 : Nat) = 4 * 1 from rfl, HW_pow, Nat.pow_one, W_eq]; exact au)
    go_wp2_with fail
    refine (rnorm_any (s := true) (e := e) h8 (by omega) (by omega)).mono ?_
    rintro en v6 ⟨k6, s6, A6, n6, c6, m6, e6, rfl, hp', N6, b⟩
    obtain ⟨g0, g1, g2, g3⟩ := nm_fun P5.out hp'
    obtain rfl := g0
    obtain rfl := g1
    obtain rfl := g2
    obtain rfl := g3
    clear hp'
    clear h8
    replace BB := below_next BB BB.size b rfl rfl rfl rfl
    have G := mv b rfl <| And.intro a10 <| And.intro a11 <| And.intro a12 <| And.intro hT <| And.intro h1 <| And.intro N5 <| And.intro a50 <| And.intro a51 <| a52
    clear b a10 a11 a12 hT h1 N5 a50 a51 a52
    obtain ⟨a10, a11, a12, hT, h1, N5, a50, a51, a52⟩ := G
    obtain ⟨a60, a61, a62⟩ := (Box.new v6 s5 A6 n6 c6 e5).held
    have b := below_alloc v6 (.cells #[.bool s5, .slice A6 n6 c6, .int .i64 e5] 24)
    replace BB := below_next BB BB.size b rfl rfl rfl rfl
    have G := mv b rfl <| And.intro a10 <| And.intro a11 <| And.intro a12 <| And.intro hT <| And.intro h1 <| And.intro N5 <| And.intro a50 <| And.intro a51 <| And.intro a52 <| N6
    clear b a10 a11 a12 hT h1 N5 a50 a51 a52 N6
    obtain ⟨a10, a11, a12, hT, h1, N5, a50, a51, a52, N6⟩ := G
    cases hd : mayD s1 l1 e1
    · go_wp2_with fail
      refine (dshift_no (p := p) hT h1 hd).mono ?_
      rintro en v7 ⟨k7, s7, A7, n7, c7, m7, e7, rfl, ⟨g0, g1, g2, g3⟩, N7, b⟩
      subst g0 g1 g2 g3
      replace BB := below_next BB BB.size b rfl rfl rfl rfl
      have G := mv b rfl <| And.intro a10 <| And.intro a11 <| And.intro a12 <| And.intro hT <| And.intro h1 <| And.intro N5 <| And.intro a50 <| And.intro a51 <| And.intro a52 <| And.intro N6 <| And.intro a60 <| And.intro a61 <| a62
      clear b a10 a11 a12 hT h1 N5 a50 a51 a52 N6 a60 a61 a62
      obtain ⟨a10, a11, a12, hT, h1, N5, a50, a51, a52, N6, a60, a61, a62⟩ := G
      obtain ⟨a70, a71, a72⟩ := (Box.new v7 false A7 n7 c7 0).held
      have b := below_alloc v7 (.cells #[.bool false, .slice A7 n7 c7, .int .i64 0] 24)
      replace BB := below_next BB BB.size b rfl rfl rfl rfl
      have G := mv b rfl <| And.intro a10 <| And.intro a11 <| And.intro a12 <| And.intro hT <| And.intro h1 <| And.intro N5 <| And.intro a50 <| And.intro a51 <| And.intro a52 <| And.intro N6 <| And.intro a60 <| And.intro a61 <| And.intro a62 <| N7
      clear b a10 a11 a12 hT h1 N5 a50 a51 a52 N6 a60 a61 a62 N7
      obtain ⟨a10, a11, a12, hT, h1, N5, a50, a51, a52, N6, a60, a61, a62, N7⟩ := G
      go_wp2_with fail
      refine (rshift_no (p := p) h1 hd).mono ?_
      rintro en v9 ⟨k9, s9, A9, n9, c9, m9, e9, rfl, ⟨g0, g1, g2, g3⟩, N9, b⟩
      subst g0 g1 g2 g3
      replace BB := below_next BB BB.size b rfl rfl rfl rfl
      have G := mv b rfl <| And.intro a10 <| And.intro a11 <| And.intro a12 <| And.intro hT <| And.intro h1 <| And.intro N5 <| And.intro a50 <| And.intro a51 <| And.intro a52 <| And.intro N6 <| And.intro a60 <| And.intro a61 <| And.intro a62 <| And.intro N7 <| And.intro a70 <| And.intro a71 <| a72
      clear b a10 a11 a12 hT h1 N5 a50 a51 a52 N6 a60 a61 a62 N7 a70 a71 a72
      obtain ⟨a10, a11, a12, hT, h1, N5, a50, a51, a52, N6, a60, a61, a62, N7, a70, a71, a72⟩ := G
      obtain ⟨a90, a91, a92⟩ := (Box.new v9 false A9 n9 c9 0).held
      have b := below_alloc v9 (.cells #[.bool false, .slice A9 n9 c9, .int .i64 0] 24)
      replace BB := below_next BB BB.size b rfl rfl rfl rfl
      have G := mv b rfl <| And.intro a10 <| And.intro a11 <| And.intro a12 <| And.intro hT <| And.intro h1 <| And.intro N5 <| And.intro a50 <| And.intro a51 <| And.intro a52 <| And.intro N6 <| And.intro a60 <| And.intro a61 <| And.intro a62 <| And.intro N7 <| And.intro a70 <| And.intro a71 <| And.intro a72 <| N9
      clear b a10 a11 a12 hT h1 N5 a50 a51 a52 N6 a60 a61 a62 N7 a70 a71 a72 N9
      obtain ⟨a10, a11, a12, hT, h1, N5, a50, a51, a52, N6, a60, a61, a62, N7, a70, a71, a72, N9⟩ := G
      go_wp2_with fail
      refine (dtold_any hT).mono ?_
      rintro en w9 ⟨rfl, b⟩
      replace BB := below_next BB BB.size b rfl rfl rfl rfl
      have G := mv b rfl <| And.intro a10 <| And.intro a11 <| And.intro a12 <| And.intro hT <| And.intro h1 <| And.intro N5 <| And.intro a50 <| And.intro a51 <| And.intro a52 <| And.intro N6 <| And.intro a60 <| And.intro a61 <| And.intro a62 <| And.intro N7 <| And.intro a70 <| And.intro a71 <| And.intro a72 <| And.intro N9 <| And.intro a90 <| And.intro a91 <| a92
      clear b a10 a11 a12 hT h1 N5 a50 a51 a52 N6 a60 a61 a62 N7 a70 a71 a72 N9 a90 a91 a92
      obtain ⟨a10, a11, a12, hT, h1, N5, a50, a51, a52, N6, a60, a61, a62, N7, a70, a71, a72, N9, a90, a91, a92⟩ := G
      go_wp2_with fail
      refine (same2_self (s := s5) (e := e5) (k := k5) N5 N6).mono ?_
      rintro en w10 ⟨rfl, b⟩
      clear N5 N6
      replace BB := below_next BB BB.size b rfl rfl rfl rfl
      have G := mv b rfl <| And.intro a10 <| And.intro a11 <| And.intro a12 <| And.intro hT <| And.intro h1 <| And.intro a50 <| And.intro a51 <| And.intro a52 <| And.intro a60 <| And.intro a61 <| And.intro a62 <| And.intro N7 <| And.intro a70 <| And.intro a71 <| And.intro a72 <| And.intro N9 <| And.intro a90 <| And.intro a91 <| a92
      clear b a10 a11 a12 hT h1 a50 a51 a52 a60 a61 a62 N7 a70 a71 a72 N9 a90 a91 a92
      obtain ⟨a10, a11, a12, hT, h1, a50, a51, a52, a60, a61, a62, N7, a70, a71, a72, N9, a90, a91, a92⟩ := G
      go_wp2_with fail
      refine (same2_self (s := false) (e := 0) (k := 1) N7 N9).mono ?_
      rintro en w11 ⟨rfl, b⟩
      clear N7 N9
      replace BB := below_next BB BB.size b rfl rfl rfl rfl
      have G := mv b rfl <| And.intro a10 <| And.intro a11 <| And.intro a12 <| And.intro hT <| And.intro h1 <| And.intro a50 <| And.intro a51 <| And.intro a52 <| And.intro a60 <| And.intro a61 <| And.intro a62 <| And.intro a70 <| And.intro a71 <| And.intro a72 <| And.intro a90 <| And.intro a91 <| a92
      clear b a10 a11 a12 hT h1 a50 a51 a52 a60 a61 a62 a70 a71 a72 a90 a91 a92
      obtain ⟨a10, a11, a12, hT, h1, a50, a51, a52, a60, a61, a62, a70, a71, a72, a90, a91, a92⟩ := G
      go_wp2
      go_ret
      exact ⟨by first | rfl | simp, BB⟩
    · obtain ⟨hmb, hok⟩ := mayD_of h1.lt hd
      have N1 := (nt_of h1 hmb).1
      have O1 := Lib.hid hok
      generalize val Go.Proofs.YtkfcnodnefpboaaDoor.W l1 = m1 at *
      clear hmb hok hd
      clear h1
      go_wp2_with fail
      refine (dshift_ok (p := p) hT N1 O1.out).mono ?_
      rintro en v7 ⟨k7, s7, A7, n7, c7, m7, e7, rfl, hp, N7, b⟩
      have P7 := Lib.hid hp
      clear hp
      replace BB := below_next BB BB.size b rfl rfl rfl rfl
      have G := mv b rfl <| And.intro a10 <| And.intro a11 <| And.intro a12 <| And.intro hT <| And.intro N5 <| And.intro a50 <| And.intro a51 <| And.intro a52 <| And.intro N6 <| And.intro a60 <| And.intro a61 <| And.intro a62 <| N1
      clear b a10 a11 a12 hT N5 a50 a51 a52 N6 a60 a61 a62 N1
      obtain ⟨a10, a11, a12, hT, N5, a50, a51, a52, N6, a60, a61, a62, N1⟩ := G
      obtain ⟨a70, a71, a72⟩ := (Box.new v7 s7 A7 n7 c7 e7).held
      have b := below_alloc v7 (.cells #[.bool s7, .slice A7 n7 c7, .int .i64 e7] 24)
      replace BB := below_next BB BB.size b rfl rfl rfl rfl
      have G := mv b rfl <| And.intro a10 <| And.intro a11 <| And.intro a12 <| And.intro hT <| And.intro N5 <| And.intro a50 <| And.intro a51 <| And.intro a52 <| And.intro N6 <| And.intro a60 <| And.intro a61 <| And.intro a62 <| And.intro N1 <| N7
      clear b a10 a11 a12 hT N5 a50 a51 a52 N6 a60 a61 a62 N1 N7
      obtain ⟨a10, a11, a12, hT, N5, a50, a51, a52, N6, a60, a61, a62, N1, N7⟩ := G
      go_wp2_with fail
      refine (rshift_ok (p := p) N1 O1.out).mono ?_
      rintro en v9 ⟨k9, s9, A9, n9, c9, m9, e9, rfl, hp', N9, b⟩
      obtain ⟨g0, g1, g2, g3⟩ := shifted_fun P7.out hp'
      obtain rfl := g0
      obtain rfl := g1
      obtain rfl := g2
      obtain rfl := g3
      clear hp'
      replace BB := below_next BB BB.size b rfl rfl rfl rfl
      have G := mv b rfl <| And.intro a10 <| And.intro a11 <| And.intro a12 <| And.intro hT <| And.intro N5 <| And.intro a50 <| And.intro a51 <| And.intro a52 <| And.intro N6 <| And.intro a60 <| And.intro a61 <| And.intro a62 <| And.intro N1 <| And.intro N7 <| And.intro a70 <| And.intro a71 <| a72
      clear b a10 a11 a12 hT N5 a50 a51 a52 N6 a60 a61 a62 N1 N7 a70 a71 a72
      obtain ⟨a10, a11, a12, hT, N5, a50, a51, a52, N6, a60, a61, a62, N1, N7, a70, a71, a72⟩ := G
      obtain ⟨a90, a91, a92⟩ := (Box.new v9 s7 A9 n9 c9 e7).held
      have b := below_alloc v9 (.cells #[.bool s7, .slice A9 n9 c9, .int .i64 e7] 24)
      replace BB := below_next BB BB.size b rfl rfl rfl rfl
      have G := mv b rfl <| And.intro a10 <| And.intro a11 <| And.intro a12 <| And.intro hT <| And.intro N5 <| And.intro a50 <| And.intro a51 <| And.intro a52 <| And.intro N6 <| And.intro a60 <| And.intro a61 <| And.intro a62 <| And.intro N1 <| And.intro N7 <| And.intro a70 <| And.intro a71 <| And.intro a72 <| N9
      clear b a10 a11 a12 hT N5 a50 a51 a52 N6 a60 a61 a62 N1 N7 a70 a71 a72 N9
      obtain ⟨a10, a11, a12, hT, N5, a50, a51, a52, N6, a60, a61, a62, N1, N7, a70, a71, a72, N9⟩ := G
      go_wp2_with fail
      refine (dtold_any hT).mono ?_
      rintro en w9 ⟨rfl, b⟩
      replace BB := below_next BB BB.size b rfl rfl rfl rfl
      have G := mv b rfl <| And.intro a10 <| And.intro a11 <| And.intro a12 <| And.intro hT <| And.intro N5 <| And.intro a50 <| And.intro a51 <| And.intro a52 <| And.intro N6 <| And.intro a60 <| And.intro a61 <| And.intro a62 <| And.intro N1 <| And.intro N7 <| And.intro a70 <| And.intro a71 <| And.intro a72 <| And.intro N9 <| And.intro a90 <| And.intro a91 <| a92
      clear b a10 a11 a12 hT N5 a50 a51 a52 N6 a60 a61 a62 N1 N7 a70 a71 a72 N9 a90 a91 a92
      obtain ⟨a10, a11, a12, hT, N5, a50, a51, a52, N6, a60, a61, a62, N1, N7, a70, a71, a72, N9, a90, a91, a92⟩ := G
      go_wp2_with fail
      refine (same2_self (s := s5) (e := e5) (k := k5) N5 N6).mono ?_
      rintro en w10 ⟨rfl, b⟩
      clear N5 N6
      replace BB := below_next BB BB.size b rfl rfl rfl rfl
      have G := mv b rfl <| And.intro a10 <| And.intro a11 <| And.intro a12 <| And.intro hT <| And.intro a50 <| And.intro a51 <| And.intro a52 <| And.intro a60 <| And.intro a61 <| And.intro a62 <| And.intro N1 <| And.intro N7 <| And.intro a70 <| And.intro a71 <| And.intro a72 <| And.intro N9 <| And.intro a90 <| And.intro a91 <| a92
      clear b a10 a11 a12 hT a50 a51 a52 a60 a61 a62 N1 N7 a70 a71 a72 N9 a90 a91 a92
      obtain ⟨a10, a11, a12, hT, a50, a51, a52, a60, a61, a62, N1, N7, a70, a71, a72, N9, a90, a91, a92⟩ := G
      go_wp2_with fail
      refine (same2_self (s := s7) (e := e7) (k := k7) N7 N9).mono ?_
      rintro en w11 ⟨rfl, b⟩
      clear N7 N9
      replace BB := below_next BB BB.size b rfl rfl rfl rfl
      have G := mv b rfl <| And.intro a10 <| And.intro a11 <| And.intro a12 <| And.intro hT <| And.intro a50 <| And.intro a51 <| And.intro a52 <| And.intro a60 <| And.intro a61 <| And.intro a62 <| And.intro N1 <| And.intro a70 <| And.intro a71 <| And.intro a72 <| And.intro a90 <| And.intro a91 <| a92
      clear b a10 a11 a12 hT a50 a51 a52 a60 a61 a62 N1 a70 a71 a72 a90 a91 a92
      obtain ⟨a10, a11, a12, hT, a50, a51, a52, a60, a61, a62, N1, a70, a71, a72, a90, a91, a92⟩ := G
      go_wp2
      go_ret
      exact ⟨by first | rfl | simp, BB⟩
  · have N2 := (nt_of h2 hm).1
    generalize hv2 : val Go.Proofs.YtkfcnodnefpboaaDoor.W l2 = x2 at *
    have bx := blen_nt N2
    go_wp2_with fail
    refine (dnorm_ok (s := neg) (e := e) hT N2).mono ?_
    rintro en v3 ⟨k3, s3, A3, n3, c3, m3, e3, rfl, hp, N3, b⟩
    have P3 := Lib.hid hp
    have O3 := Lib.hid (nm_okd hp)
    clear hp
    replace BB := below_next BB BB.size b rfl rfl rfl rfl
    have G := mv b rfl <| And.intro a10 <| And.intro a11 <| And.intro a12 <| And.intro hT <| And.intro h1 <| And.intro h2 <| N2
    clear b a10 a11 a12 hT h1 h2 N2
    obtain ⟨a10, a11, a12, hT, h1, h2, N2⟩ := G
    obtain ⟨a30, a31, a32⟩ := (Box.new v3 s3 A3 n3 c3 e3).held
    have b := below_alloc v3 (.cells #[.bool s3, .slice A3 n3 c3, .int .i64 e3] 24)
    replace BB := below_next BB BB.size b rfl rfl rfl rfl
    have G := mv b rfl <| And.intro a10 <| And.intro a11 <| And.intro a12 <| And.intro hT <| And.intro h1 <| And.intro h2 <| And.intro N2 <| N3
    clear b a10 a11 a12 hT h1 h2 N2 N3
    obtain ⟨a10, a11, a12, hT, h1, h2, N2, N3⟩ := G
    go_wp2_with fail
    refine (rmay_any h2).mono ?_
    rintro en w' ⟨rfl, rfl⟩
    rw [hm]
    go_wp2_with fail
    refine (rfrom_any h2 (by omega)).mono ?_
    rintro en u3 ⟨A8, n8, c8, rfl, h8, b⟩
    rw [hv2] at h8
    replace BB := below_next BB BB.size b rfl rfl rfl rfl
    have G := mv b rfl <| And.intro a10 <| And.intro a11 <| And.intro a12 <| And.intro hT <| And.intro h1 <| And.intro h2 <| And.intro N2 <| And.intro N3 <| And.intro a30 <| And.intro a31 <| a32
    clear b a10 a11 a12 hT h1 h2 N2 N3 a30 a31 a32
    obtain ⟨a10, a11, a12, hT, h1, h2, N2, N3, a30, a31, a32⟩ := G
    have n8l : n8 ≤ 256 := dg_small h8 (by rw [H256]; exact N2.lt)
    go_wp2_with fail
    refine (rnorm_any (s := neg) (e := e) h8 (by omega) (by omega)).mono ?_
    rintro en v4 ⟨k4, s4, A4, n4, c4, m4, e4, rfl, hp', N4, b⟩
    obtain ⟨g0, g1, g2, g3⟩ := nm_fun P3.out hp'
    obtain rfl := g0
    obtain rfl := g1
    obtain rfl := g2
    obtain rfl := g3
    clear hp'
    clear h8 N2
    replace BB := below_next BB BB.size b rfl rfl rfl rfl
    have G := mv b rfl <| And.intro a10 <| And.intro a11 <| And.intro a12 <| And.intro hT <| And.intro h1 <| And.intro h2 <| And.intro N3 <| And.intro a30 <| And.intro a31 <| a32
    clear b a10 a11 a12 hT h1 h2 N3 a30 a31 a32
    obtain ⟨a10, a11, a12, hT, h1, h2, N3, a30, a31, a32⟩ := G
    obtain ⟨a40, a41, a42⟩ := (Box.new v4 s3 A4 n4 c4 e3).held
    have b := below_alloc v4 (.cells #[.bool s3, .slice A4 n4 c4, .int .i64 e3] 24)
    replace BB := below_next BB BB.size b rfl rfl rfl rfl
    have G := mv b rfl <| And.intro a10 <| And.intro a11 <| And.intro a12 <| And.intro hT <| And.intro h1 <| And.intro h2 <| And.intro N3 <| And.intro a30 <| And.intro a31 <| And.intro a32 <| N4
    clear b a10 a11 a12 hT h1 h2 N3 a30 a31 a32 N4
    obtain ⟨a10, a11, a12, hT, h1, h2, N3, a30, a31, a32, N4⟩ := G
    go_wp2_with fail
    refine (same2_self (s := s3) (e := e3) (k := k3) N3 N4).mono ?_
    rintro en w5 ⟨rfl, b⟩
    clear N3 N4 a30 a31 a32 a40 a41 a42
    replace BB := below_next BB BB.size b rfl rfl rfl rfl
    have G := mv b rfl <| And.intro a10 <| And.intro a11 <| And.intro a12 <| And.intro hT <| And.intro h1 <| h2
    clear b a10 a11 a12 hT h1 h2
    obtain ⟨a10, a11, a12, hT, h1, h2⟩ := G
    clear hm n8l
    clear h2
    go_wp2_with fail
    refine (of_neg (a := a) (e := e) hT ha0 ha).mono ?_
    rintro en v5 ⟨k5, s5, A5, n5, c5, m5, e5, rfl, hp, N5, b⟩
    have P5 := Lib.hid hp
    have O5 := Lib.hid (nm_okd hp)
    clear hp
    replace BB := below_next BB BB.size b rfl rfl rfl rfl
    have G := mv b rfl <| And.intro a10 <| And.intro a11 <| And.intro a12 <| And.intro hT <| h1
    clear b a10 a11 a12 hT h1
    obtain ⟨a10, a11, a12, hT, h1⟩ := G
    obtain ⟨a50, a51, a52⟩ := (Box.new v5 s5 A5 n5 c5 e5).held
    have b := below_alloc v5 (.cells #[.bool s5, .slice A5 n5 c5, .int .i64 e5] 24)
    replace BB := below_next BB BB.size b rfl rfl rfl rfl
    have G := mv b rfl <| And.intro a10 <| And.intro a11 <| And.intro a12 <| And.intro hT <| And.intro h1 <| N5
    clear b a10 a11 a12 hT h1 N5
    obtain ⟨a10, a11, a12, hT, h1, N5⟩ := G
    go_wp2_with fail
    refine (rsmall_any au).mono ?_
    rintro en u8 ⟨A8, n8, c8, rfl, h8, b⟩
    replace BB := below_next BB BB.size b rfl rfl rfl rfl
    have G := mv b rfl <| And.intro a10 <| And.intro a11 <| And.intro a12 <| And.intro hT <| And.intro h1 <| And.intro N5 <| And.intro a50 <| And.intro a51 <| a52
    clear b a10 a11 a12 hT h1 N5 a50 a51 a52
    obtain ⟨a10, a11, a12, hT, h1, N5, a50, a51, a52⟩ := G
    have n8l : n8 ≤ 4 := dg_small h8 (by rw [show (4 : Nat) = 4 * 1 from rfl, HW_pow, Nat.pow_one, W_eq]; exact au)
    go_wp2_with fail
    refine (rnorm_any (s := true) (e := e) h8 (by omega) (by omega)).mono ?_
    rintro en v6 ⟨k6, s6, A6, n6, c6, m6, e6, rfl, hp', N6, b⟩
    obtain ⟨g0, g1, g2, g3⟩ := nm_fun P5.out hp'
    obtain rfl := g0
    obtain rfl := g1
    obtain rfl := g2
    obtain rfl := g3
    clear hp'
    clear h8
    replace BB := below_next BB BB.size b rfl rfl rfl rfl
    have G := mv b rfl <| And.intro a10 <| And.intro a11 <| And.intro a12 <| And.intro hT <| And.intro h1 <| And.intro N5 <| And.intro a50 <| And.intro a51 <| a52
    clear b a10 a11 a12 hT h1 N5 a50 a51 a52
    obtain ⟨a10, a11, a12, hT, h1, N5, a50, a51, a52⟩ := G
    obtain ⟨a60, a61, a62⟩ := (Box.new v6 s5 A6 n6 c6 e5).held
    have b := below_alloc v6 (.cells #[.bool s5, .slice A6 n6 c6, .int .i64 e5] 24)
    replace BB := below_next BB BB.size b rfl rfl rfl rfl
    have G := mv b rfl <| And.intro a10 <| And.intro a11 <| And.intro a12 <| And.intro hT <| And.intro h1 <| And.intro N5 <| And.intro a50 <| And.intro a51 <| And.intro a52 <| N6
    clear b a10 a11 a12 hT h1 N5 a50 a51 a52 N6
    obtain ⟨a10, a11, a12, hT, h1, N5, a50, a51, a52, N6⟩ := G
    cases hd : mayD s1 l1 e1
    · go_wp2_with fail
      refine (dshift_no (p := p) hT h1 hd).mono ?_
      rintro en v7 ⟨k7, s7, A7, n7, c7, m7, e7, rfl, ⟨g0, g1, g2, g3⟩, N7, b⟩
      subst g0 g1 g2 g3
      replace BB := below_next BB BB.size b rfl rfl rfl rfl
      have G := mv b rfl <| And.intro a10 <| And.intro a11 <| And.intro a12 <| And.intro hT <| And.intro h1 <| And.intro N5 <| And.intro a50 <| And.intro a51 <| And.intro a52 <| And.intro N6 <| And.intro a60 <| And.intro a61 <| a62
      clear b a10 a11 a12 hT h1 N5 a50 a51 a52 N6 a60 a61 a62
      obtain ⟨a10, a11, a12, hT, h1, N5, a50, a51, a52, N6, a60, a61, a62⟩ := G
      obtain ⟨a70, a71, a72⟩ := (Box.new v7 false A7 n7 c7 0).held
      have b := below_alloc v7 (.cells #[.bool false, .slice A7 n7 c7, .int .i64 0] 24)
      replace BB := below_next BB BB.size b rfl rfl rfl rfl
      have G := mv b rfl <| And.intro a10 <| And.intro a11 <| And.intro a12 <| And.intro hT <| And.intro h1 <| And.intro N5 <| And.intro a50 <| And.intro a51 <| And.intro a52 <| And.intro N6 <| And.intro a60 <| And.intro a61 <| And.intro a62 <| N7
      clear b a10 a11 a12 hT h1 N5 a50 a51 a52 N6 a60 a61 a62 N7
      obtain ⟨a10, a11, a12, hT, h1, N5, a50, a51, a52, N6, a60, a61, a62, N7⟩ := G
      go_wp2_with fail
      refine (rshift_no (p := p) h1 hd).mono ?_
      rintro en v9 ⟨k9, s9, A9, n9, c9, m9, e9, rfl, ⟨g0, g1, g2, g3⟩, N9, b⟩
      subst g0 g1 g2 g3
      replace BB := below_next BB BB.size b rfl rfl rfl rfl
      have G := mv b rfl <| And.intro a10 <| And.intro a11 <| And.intro a12 <| And.intro hT <| And.intro h1 <| And.intro N5 <| And.intro a50 <| And.intro a51 <| And.intro a52 <| And.intro N6 <| And.intro a60 <| And.intro a61 <| And.intro a62 <| And.intro N7 <| And.intro a70 <| And.intro a71 <| a72
      clear b a10 a11 a12 hT h1 N5 a50 a51 a52 N6 a60 a61 a62 N7 a70 a71 a72
      obtain ⟨a10, a11, a12, hT, h1, N5, a50, a51, a52, N6, a60, a61, a62, N7, a70, a71, a72⟩ := G
      obtain ⟨a90, a91, a92⟩ := (Box.new v9 false A9 n9 c9 0).held
      have b := below_alloc v9 (.cells #[.bool false, .slice A9 n9 c9, .int .i64 0] 24)
      replace BB := below_next BB BB.size b rfl rfl rfl rfl
      have G := mv b rfl <| And.intro a10 <| And.intro a11 <| And.intro a12 <| And.intro hT <| And.intro h1 <| And.intro N5 <| And.intro a50 <| And.intro a51 <| And.intro a52 <| And.intro N6 <| And.intro a60 <| And.intro a61 <| And.intro a62 <| And.intro N7 <| And.intro a70 <| And.intro a71 <| And.intro a72 <| N9
      clear b a10 a11 a12 hT h1 N5 a50 a51 a52 N6 a60 a61 a62 N7 a70 a71 a72 N9
      obtain ⟨a10, a11, a12, hT, h1, N5, a50, a51, a52, N6, a60, a61, a62, N7, a70, a71, a72, N9⟩ := G
      go_wp2_with fail
      refine (dtold_any hT).mono ?_
      rintro en w11 ⟨rfl, b⟩
      replace BB := below_next BB BB.size b rfl rfl rfl rfl
      have G := mv b rfl <| And.intro a10 <| And.intro a11 <| And.intro a12 <| And.intro hT <| And.intro h1 <| And.intro N5 <| And.intro a50 <| And.intro a51 <| And.intro a52 <| And.intro N6 <| And.intro a60 <| And.intro a61 <| And.intro a62 <| And.intro N7 <| And.intro a70 <| And.intro a71 <| And.intro a72 <| And.intro N9 <| And.intro a90 <| And.intro a91 <| a92
      clear b a10 a11 a12 hT h1 N5 a50 a51 a52 N6 a60 a61 a62 N7 a70 a71 a72 N9 a90 a91 a92
      obtain ⟨a10, a11, a12, hT, h1, N5, a50, a51, a52, N6, a60, a61, a62, N7, a70, a71, a72, N9, a90, a91, a92⟩ := G
      go_wp2_with fail
      refine (same2_self (s := s5) (e := e5) (k := k5) N5 N6).mono ?_
      rintro en w12 ⟨rfl, b⟩
      clear N5 N6
      replace BB := below_next BB BB.size b rfl rfl rfl rfl
      have G := mv b rfl <| And.intro a10 <| And.intro a11 <| And.intro a12 <| And.intro hT <| And.intro h1 <| And.intro a50 <| And.intro a51 <| And.intro a52 <| And.intro a60 <| And.intro a61 <| And.intro a62 <| And.intro N7 <| And.intro a70 <| And.intro a71 <| And.intro a72 <| And.intro N9 <| And.intro a90 <| And.intro a91 <| a92
      clear b a10 a11 a12 hT h1 a50 a51 a52 a60 a61 a62 N7 a70 a71 a72 N9 a90 a91 a92
      obtain ⟨a10, a11, a12, hT, h1, a50, a51, a52, a60, a61, a62, N7, a70, a71, a72, N9, a90, a91, a92⟩ := G
      go_wp2_with fail
      refine (same2_self (s := false) (e := 0) (k := 1) N7 N9).mono ?_
      rintro en w13 ⟨rfl, b⟩
      clear N7 N9
      replace BB := below_next BB BB.size b rfl rfl rfl rfl
      have G := mv b rfl <| And.intro a10 <| And.intro a11 <| And.intro a12 <| And.intro hT <| And.intro h1 <| And.intro a50 <| And.intro a51 <| And.intro a52 <| And.intro a60 <| And.intro a61 <| And.intro a62 <| And.intro a70 <| And.intro a71 <| And.intro a72 <| And.intro a90 <| And.intro a91 <| a92
      clear b a10 a11 a12 hT h1 a50 a51 a52 a60 a61 a62 a70 a71 a72 a90 a91 a92
      obtain ⟨a10, a11, a12, hT, h1, a50, a51, a52, a60, a61, a62, a70, a71, a72, a90, a91, a92⟩ := G
      go_wp2
      go_ret
      exact ⟨by first | rfl | simp, BB⟩
    · obtain ⟨hmb, hok⟩ := mayD_of h1.lt hd
      have N1 := (nt_of h1 hmb).1
      have O1 := Lib.hid hok
      generalize val Go.Proofs.YtkfcnodnefpboaaDoor.W l1 = m1 at *
      clear hmb hok hd
      clear h1
      go_wp2_with fail
      refine (dshift_ok (p := p) hT N1 O1.out).mono ?_
      rintro en v7 ⟨k7, s7, A7, n7, c7, m7, e7, rfl, hp, N7, b⟩
      have P7 := Lib.hid hp
      clear hp
      replace BB := below_next BB BB.size b rfl rfl rfl rfl
      have G := mv b rfl <| And.intro a10 <| And.intro a11 <| And.intro a12 <| And.intro hT <| And.intro N5 <| And.intro a50 <| And.intro a51 <| And.intro a52 <| And.intro N6 <| And.intro a60 <| And.intro a61 <| And.intro a62 <| N1
      clear b a10 a11 a12 hT N5 a50 a51 a52 N6 a60 a61 a62 N1
      obtain ⟨a10, a11, a12, hT, N5, a50, a51, a52, N6, a60, a61, a62, N1⟩ := G
      obtain ⟨a70, a71, a72⟩ := (Box.new v7 s7 A7 n7 c7 e7).held
      have b := below_alloc v7 (.cells #[.bool s7, .slice A7 n7 c7, .int .i64 e7] 24)
      replace BB := below_next BB BB.size b rfl rfl rfl rfl
      have G := mv b rfl <| And.intro a10 <| And.intro a11 <| And.intro a12 <| And.intro hT <| And.intro N5 <| And.intro a50 <| And.intro a51 <| And.intro a52 <| And.intro N6 <| And.intro a60 <| And.intro a61 <| And.intro a62 <| And.intro N1 <| N7
      clear b a10 a11 a12 hT N5 a50 a51 a52 N6 a60 a61 a62 N1 N7
      obtain ⟨a10, a11, a12, hT, N5, a50, a51, a52, N6, a60, a61, a62, N1, N7⟩ := G
      go_wp2_with fail
      refine (rshift_ok (p := p) N1 O1.out).mono ?_
      rintro en v9 ⟨k9, s9, A9, n9, c9, m9, e9, rfl, hp', N9, b⟩
      obtain ⟨g0, g1, g2, g3⟩ := shifted_fun P7.out hp'
      obtain rfl := g0
      obtain rfl := g1
      obtain rfl := g2
      obtain rfl := g3
      clear hp'
      replace BB := below_next BB BB.size b rfl rfl rfl rfl
      have G := mv b rfl <| And.intro a10 <| And.intro a11 <| And.intro a12 <| And.intro hT <| And.intro N5 <| And.intro a50 <| And.intro a51 <| And.intro a52 <| And.intro N6 <| And.intro a60 <| And.intro a61 <| And.intro a62 <| And.intro N1 <| And.intro N7 <| And.intro a70 <| And.intro a71 <| a72
      clear b a10 a11 a12 hT N5 a50 a51 a52 N6 a60 a61 a62 N1 N7 a70 a71 a72
      obtain ⟨a10, a11, a12, hT, N5, a50, a51, a52, N6, a60, a61, a62, N1, N7, a70, a71, a72⟩ := G
      obtain ⟨a90, a91, a92⟩ := (Box.new v9 s7 A9 n9 c9 e7).held
      have b := below_alloc v9 (.cells #[.bool s7, .slice A9 n9 c9, .int .i64 e7] 24)
      replace BB := below_next BB BB.size b rfl rfl rfl rfl
      have G := mv b rfl <| And.intro a10 <| And.intro a11 <| And.intro a12 <| And.intro hT <| And.intro N5 <| And.intro a50 <| And.intro a51 <| And.intro a52 <| And.intro N6 <| And.intro a60 <| And.intro a61 <| And.intro a62 <| And.intro N1 <| And.intro N7 <| And.intro a70 <| And.intro a71 <| And.intro a72 <| N9
      clear b a10 a11 a12 hT N5 a50 a51 a52 N6 a60 a61 a62 N1 N7 a70 a71 a72 N9
      obtain ⟨a10, a11, a12, hT, N5, a50, a51, a52, N6, a60, a61, a62, N1, N7, a70, a71, a72, N9⟩ := G
      go_wp2_with fail
      refine (dtold_any hT).mono ?_
      rintro en w11 ⟨rfl, b⟩
      replace BB := below_next BB BB.size b rfl rfl rfl rfl
      have G := mv b rfl <| And.intro a10 <| And.intro a11 <| And.intro a12 <| And.intro hT <| And.intro N5 <| And.intro a50 <| And.intro a51 <| And.intro a52 <| And.intro N6 <| And.intro a60 <| And.intro a61 <| And.intro a62 <| And.intro N1 <| And.intro N7 <| And.intro a70 <| And.intro a71 <| And.intro a72 <| And.intro N9 <| And.intro a90 <| And.intro a91 <| a92
      clear b a10 a11 a12 hT N5 a50 a51 a52 N6 a60 a61 a62 N1 N7 a70 a71 a72 N9 a90 a91 a92
      obtain ⟨a10, a11, a12, hT, N5, a50, a51, a52, N6, a60, a61, a62, N1, N7, a70, a71, a72, N9, a90, a91, a92⟩ := G
      go_wp2_with fail
      refine (same2_self (s := s5) (e := e5) (k := k5) N5 N6).mono ?_
      rintro en w12 ⟨rfl, b⟩
      clear N5 N6
      replace BB := below_next BB BB.size b rfl rfl rfl rfl
      have G := mv b rfl <| And.intro a10 <| And.intro a11 <| And.intro a12 <| And.intro hT <| And.intro a50 <| And.intro a51 <| And.intro a52 <| And.intro a60 <| And.intro a61 <| And.intro a62 <| And.intro N1 <| And.intro N7 <| And.intro a70 <| And.intro a71 <| And.intro a72 <| And.intro N9 <| And.intro a90 <| And.intro a91 <| a92
      clear b a10 a11 a12 hT a50 a51 a52 a60 a61 a62 N1 N7 a70 a71 a72 N9 a90 a91 a92
      obtain ⟨a10, a11, a12, hT, a50, a51, a52, a60, a61, a62, N1, N7, a70, a71, a72, N9, a90, a91, a92⟩ := G
      go_wp2_with fail
      refine (same2_self (s := s7) (e := e7) (k := k7) N7 N9).mono ?_
      rintro en w13 ⟨rfl, b⟩
      clear N7 N9
      replace BB := below_next BB BB.size b rfl rfl rfl rfl
      have G := mv b rfl <| And.intro a10 <| And.intro a11 <| And.intro a12 <| And.intro hT <| And.intro a50 <| And.intro a51 <| And.intro a52 <| And.intro a60 <| And.intro a61 <| And.intro a62 <| And.intro N1 <| And.intro a70 <| And.intro a71 <| And.intro a72 <| And.intro a90 <| And.intro a91 <| a92
      clear b a10 a11 a12 hT a50 a51 a52 a60 a61 a62 N1 a70 a71 a72 a90 a91 a92
      obtain ⟨a10, a11, a12, hT, a50, a51, a52, a60, a61, a62, N1, a70, a71, a72, a90, a91, a92⟩ := G
      go_wp2
      go_ret
      exact ⟨by first | rfl | simp, BB⟩

theorem dnorms_any {w : World} {A1 : Option Addr} {n1 c1 : Nat} {l1 : List Nat} {A2 : Option Addr} {n2 c2 : Nat} {l2 : List Nat} {s1 neg : Bool} {e1 e p k : Int} (hT : Tab w) (h1 : Rd w .u64 W A1 n1 c1 l1) (h2 : Rd w .u64 W A2 n2 c2 l2) (hk : -9223372036854775808 ≤ k ∧ k ≤ 9223372036854775807) :
    Calls Tryd.prog 4 #[.bool neg, .slice A2 n2 c2, .int .i64 e, .int .i64 k, .agg #[.bool s1, .slice A1 n1 c1, .int .i64 e1], .int .i64 p] w fun en w' => ToldEnd w en w' := by
  by_cases h : 0 ≤ k
  · obtain ⟨a, rfl⟩ := Int.eq_ofNat_of_zero_le h
    exact dnorms_pos hT h1 h2 (by omega)
  · obtain ⟨a, ha⟩ := Int.eq_ofNat_of_zero_le (show 0 ≤ -k by omega)
    obtain rfl : k = -(a : Int) := by omega
    exact dnorms_neg hT h1 h2 (by omega) (by omega)
end Go.Proofs.YtkfcnodnefpboaaDoor
