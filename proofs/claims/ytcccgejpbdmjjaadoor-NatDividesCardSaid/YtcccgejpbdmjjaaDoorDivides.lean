/-
  Contract of the statement NatDivides' function at this translation: it returns true, whatever its arguments. Condition: the slices read as limbs, the table of math/bits reads as its text lays it.
-/
import Derived.Test.YtcccgejpbdmjjaaDoorRing
import Derived.Test.YtcccgejpbdmjjaaDoorRoot
namespace Go.Proofs.YtcccgejpbdmjjaaDoor
open Go.RowKit

theorem divides_bounds {x y s : Nat} (hx : x < W ^ 16) (hs : s * s ≤ x) : x / y * y < W ^ 64 ∧ x / y * y + x % y = x ∧ x < W ^ 64 ∧ s * s < W ^ 64 ∧ s + 1 < W ^ 64 ∧ (s + 1) * (s + 1) < W ^ 64 := by
  have h1 : x < W ^ 64 := Nat.lt_of_lt_of_le hx (pow_64 (by omega))
  have h2 : x / y * y + x % y = x := by rw [Nat.mul_comm]; exact Nat.div_add_mod x y
  have h3 : s ≤ s * s := by
    rcases Nat.eq_zero_or_pos s with h | h
    · rw [h]; exact Nat.le_refl _
    · exact Nat.le_mul_of_pos_left s h
  have h4 : s + 1 < W ^ 17 := by
    have e : W ^ 17 = W ^ 16 * W := Nat.pow_succ ..
    have e2 : W ^ 16 * 2 ≤ W ^ 16 * W := Nat.mul_le_mul_left _ W_two
    rw [e]
    generalize W ^ 16 * W = p at *
    generalize W ^ 16 = q at *
    omega
  have h5 : (s + 1) * (s + 1) < W ^ 17 * W ^ 17 := Nat.mul_lt_mul'' h4 h4
  rw [← Nat.pow_add] at h5
  have h6 := pow_64 (k := 17) (by omega)
  have h7 := pow_64 (k := 17 + 17) (by omega)
  refine ⟨?_, h2, h1, ?_, ?_, ?_⟩
  · exact Nat.lt_of_le_of_lt (by omega) h1
  · exact Nat.lt_of_le_of_lt hs h1
  · exact Nat.lt_of_lt_of_le h4 h6
  · exact Nat.lt_of_lt_of_le h5 h7

set_option maxRecDepth 100000 in
set_option maxHeartbeats 1000000 in
theorem divides_out {w : World} {A B : Option Addr} {n c m d : Nat} {l r : List Nat} (hT : Tab w) (h : Rd w .u64 W A n c l) (h' : Rd w .u64 W B m d r)
    (ho : 16 < n ∨ (n ≤ 16 ∧ 16 < m) ∨ (n ≤ 16 ∧ m ≤ 16 ∧ (mayB l = false ∨ (mayB l = true ∧ mayB r = false) ∨ (mayB l = true ∧ mayB r = true ∧ m = 0)))) :
    Calls Tryd.prog 7 #[.slice A n c, .slice B m d] w fun e w' => ToldEnd w e w' := by
  have c1 := h.cap
  have c2 := h.max
  have c3 := h'.cap
  have c4 := h'.max
  have HT := Lib.hid (told_any hT)
  rcases ho with ho | ⟨o1, o2⟩ | ⟨o1, o2, hm | ⟨m1, m2⟩ | ⟨m1, m2, m3⟩⟩
  · skip
    have d1 : decide ((16 : Int) < (n : Int)) = true := decide_eq_true (by omega)
    have f1 : (16 : Int) < n := by omega
    go_enter Tryd.func7, Tryd.ntmps7
    go_wp2_with fail
    refine HT.out.mono ?_
    rintro e w' ⟨rfl, hb⟩
    go_wp2
    go_ret
    exact ⟨rfl, hb⟩
  · skip
    have d1 : decide ((16 : Int) < (n : Int)) = false := decide_eq_false (by omega)
    have d2 : decide ((16 : Int) < (m : Int)) = true := decide_eq_true (by omega)
    have f1 : (16 : Int) < m := by omega
    go_enter Tryd.func7, Tryd.ntmps7
    go_wp2_with fail
    refine HT.out.mono ?_
    rintro e w' ⟨rfl, hb⟩
    go_wp2
    go_ret
    exact ⟨rfl, hb⟩
  · have H1 := Lib.hid (may_no h hm)
    have d1 : decide ((16 : Int) < (n : Int)) = false := decide_eq_false (by omega)
    have d2 : decide ((16 : Int) < (m : Int)) = false := decide_eq_false (by omega)
    clear hm
    go_enter Tryd.func7, Tryd.ntmps7
    go_wp2_with fail
    refine H1.out.mono ?_
    rintro e w' ⟨rfl, rfl⟩
    go_wp2_with fail
    refine HT.out.mono ?_
    rintro e w' ⟨rfl, hb⟩
    go_wp2
    go_ret
    exact ⟨rfl, hb⟩
  · have H1 := Lib.hid (may_yes h m1)
    have H2 := Lib.hid (may_no h' m2)
    have d1 : decide ((16 : Int) < (n : Int)) = false := decide_eq_false (by omega)
    have d2 : decide ((16 : Int) < (m : Int)) = false := decide_eq_false (by omega)
    clear m1 m2
    go_enter Tryd.func7, Tryd.ntmps7
    go_wp2_with fail
    refine H1.out.mono ?_
    rintro e w' ⟨rfl, rfl⟩
    go_wp2_with fail
    refine H2.out.mono ?_
    rintro e w' ⟨rfl, rfl⟩
    go_wp2_with fail
    refine HT.out.mono ?_
    rintro e w' ⟨rfl, hb⟩
    go_wp2
    go_ret
    exact ⟨rfl, hb⟩
  · have H1 := Lib.hid (may_yes h m1)
    have H2 := Lib.hid (may_yes h' m2)
    have d1 : decide ((16 : Int) < (n : Int)) = false := decide_eq_false (by omega)
    have d2 : decide ((16 : Int) < (m : Int)) = false := decide_eq_false (by omega)
    have f0 : ((m : Int) == 0) = true := by simp [m3]
    clear m1 m2 m3
    go_enter Tryd.func7, Tryd.ntmps7
    go_wp2_with fail
    refine H1.out.mono ?_
    rintro e w' ⟨rfl, rfl⟩
    go_wp2_with fail
    refine H2.out.mono ?_
    rintro e w' ⟨rfl, rfl⟩
    go_wp2_with fail
    refine HT.out.mono ?_
    rintro e w' ⟨rfl, hb⟩
    go_wp2
    go_ret
    exact ⟨rfl, hb⟩

set_option maxRecDepth 100000 in
set_option maxHeartbeats 2000000 in
theorem divides_in {w : World} {A B : Option Addr} {n c m d x y : Nat} (hT : Tab w) (h : Nt w A n c x) (h' : Nt w B m d y) (o1 : n ≤ 16) (o2 : m ≤ 16) (hm0 : m ≠ 0) :
    Calls Tryd.prog 7 #[.slice A n c, .slice B m d] w fun e w' => ToldEnd w e w' := by
  have hx16 := Lib.hid (nt_lt h o1)
  have hy0 : y ≠ 0 := fun e => hm0 (h'.zero.2 e)
  have d1 : decide ((16 : Int) < (n : Int)) = false := decide_eq_false (by omega)
  have d2 : decide ((16 : Int) < (m : Int)) = false := decide_eq_false (by omega)
  have f0 : ((m : Int) == 0) = false := by simp [hm0]
  clear hm0
  go_enter Tryd.func7, Tryd.ntmps7
  go_wp2_with fail
  refine (may_nt h).mono ?_
  rintro e w' ⟨rfl, rfl⟩
  go_wp2_with fail
  refine (may_nt h').mono ?_
  rintro e w' ⟨rfl, rfl⟩
  go_wp2_with fail
  refine (div_ok h h' hy0).mono ?_
  rintro e w1 ⟨A1, n1, c1, B1, m1, e1, rfl, hq, hr, b1⟩
  have h1 := h.below b1
  have h1' := h'.below b1
  have HB0 := Lib.hid (divides_bounds (y := y) (s := 0) hx16.out (by omega))
  clear h h'
  go_wp2_with fail
  refine (mul_ok hq h1' HB0.out.1).mono ?_
  rintro e w2 ⟨A2, n2, c2, rfl, hm, b2⟩
  have B2 := b1.trans (b2.mono b1.size)
  have h2 := h1.below b2
  have h2' := h1'.below b2
  have hr2 := hr.below b2
  clear h1 h1' hq hr b1 b2
  go_wp2_with fail
  refine (add_ok hm hr2 (by rw [HB0.out.2.1]; exact HB0.out.2.2.1)).mono ?_
  rintro e w3 ⟨A3, n3, c3, rfl, hs, b3⟩
  have B3 := B2.trans (b3.mono B2.size)
  have h3 := h2.below b3
  have h3' := h2'.below b3
  have hr3 := hr2.below b3
  clear h2 h2' hm hr2 b3 B2
  go_wp2_with fail
  refine (root_ok h3).mono ?_
  rintro e w4 ⟨s, s1, s2, A4, n4, c4, rfl, hx, b4⟩
  have B4 := B3.trans (b4.mono B3.size)
  have h4 := h3.below b4
  have h4' := h3'.below b4
  have hr4 := hr3.below b4
  have hs4 := hs.below b4
  have HB := Lib.hid (divides_bounds (y := y) hx16.out s1)
  have S1 := Lib.hid s1
  have S2 := Lib.hid s2
  clear h3 h3' hs hr3 b4 B3 s1 s2
  go_wp2_with fail
  refine (mul_ok hx hx HB.out.2.2.2.1).mono ?_
  rintro e w5 ⟨A5, n5, c5, rfl, hy, b5⟩
  have B5 := B4.trans (b5.mono B4.size)
  have h5 := h4.below b5
  have h5' := h4'.below b5
  have hr5 := hr4.below b5
  have hs5 := hs4.below b5
  have hx5 := hx.below b5
  clear h4 h4' hs4 hr4 hx b5 B4
  go_wp2_with fail
  have hone := nt_one w5 (v := 1) (by omega) (small_W (by omega))
  have ba := below_alloc w5 (.cells #[.int .u64 1] 49)
  refine (add_ok (hx5.below ba) hone HB.out.2.2.2.2.1).mono ?_
  rintro e w6 ⟨A6, n6, c6, rfl, hz, b6⟩
  have ba6 := ba.trans (b6.mono ba.size)
  have B6 := B5.trans (ba6.mono B5.size)
  have h6 := h5.below ba6
  have h6' := h5'.below ba6
  have hr6 := hr5.below ba6
  have hs6 := hs5.below ba6
  have hy6 := hy.below ba6
  clear h5 h5' hs5 hr5 hx5 hy b6 ba ba6 B5 hone
  go_wp2_with fail
  refine (mul_ok hz hz HB.out.2.2.2.2.2).mono ?_
  rintro e w7 ⟨A7, n7, c7, rfl, hw, b7⟩
  have B7 := B6.trans (b7.mono B6.size)
  have h7 := h6.below b7
  have h7' := h6'.below b7
  have hr7 := hr6.below b7
  have hs7 := hs6.below b7
  have hy7 := hy6.below b7
  clear h6 h6' hs6 hr6 hy6 hz b7 B6
  go_wp2_with fail
  refine (told_any (hT.below B7)).mono ?_
  rintro e w8 ⟨rfl, b8⟩
  have B8 := B7.trans (b8.mono B7.size)
  have h8 := h7.below b8
  have h8' := h7'.below b8
  have hr8 := hr7.below b8
  have hs8 := hs7.below b8
  have hy8 := hy7.below b8
  have hw8 := hw.below b8
  clear h7 h7' hs7 hr7 hy7 hw b8 B7
  go_wp2_with fail
  refine (same_nt hs8 h8 HB.out.2.1).mono ?_
  rintro e w9 ⟨rfl, b9⟩
  have B9 := B8.trans (b9.mono B8.size)
  have h9 := h8.below b9
  have h9' := h8'.below b9
  have hr9 := hr8.below b9
  have hy9 := hy8.below b9
  have hw9 := hw8.below b9
  clear h8 h8' hs8 hr8 hy8 hw8 b9 B8
  have e1 : cmpN (x % y) y = -1 := cmpN_lt (Nat.mod_lt _ (by omega))
  have hcmp : ∃ t : Int, cmpN (s * s) x = t ∧ t ≤ 0 := by
    refine ⟨_, rfl, ?_⟩
    rcases Nat.lt_or_ge (s * s) x with h1 | h1
    · rw [cmpN_lt h1]; decide
    · rw [cmpN_eq (Nat.le_antisymm S1.out h1)]; decide
  obtain ⟨t, ht, ht0⟩ := hcmp
  have e3 : cmpN ((s + 1) * (s + 1)) x = 1 := cmpN_gt S2.out
  have E1 := Lib.hid e1
  have E2 := Lib.hid ht
  have E3 := Lib.hid e3
  clear e1 ht e3
  go_wp2_with fail
  refine (cmp_nt hr9 h9').mono ?_
  rintro e w10 ⟨rfl, b10⟩
  have B10 := B9.trans (b10.mono B9.size)
  have h10 := h9.below b10
  have hy10 := hy9.below b10
  have hw10 := hw9.below b10
  rw [E1.out]
  clear h9 h9' hr9 hy9 hw9 b10 B9
  go_wp2_with fail
  refine (cmp_nt hy10 h10).mono ?_
  rintro e w11 ⟨rfl, b11⟩
  have B11 := B10.trans (b11.mono B10.size)
  have h11 := h10.below b11
  have hw11 := hw10.below b11
  rw [E2.out]
  clear h10 hy10 hw10 b11 B10
  go_wp2_with fail
  refine (cmp_nt hw11 h11).mono ?_
  rintro e w12 ⟨rfl, b12⟩
  have B12 := B11.trans (b12.mono B11.size)
  rw [E3.out]
  clear h11 hw11 b12 B11
  go_wp2
  go_ret
  exact ⟨rfl, B12⟩

theorem divides_any {w : World} {A B : Option Addr} {n c m d : Nat} {l r : List Nat} (hT : Tab w) (h : Rd w .u64 W A n c l) (h' : Rd w .u64 W B m d r) :
    Calls Tryd.prog 7 #[.slice A n c, .slice B m d] w fun e w' => ToldEnd w e w' := by
  by_cases o1 : n ≤ 16
  · by_cases o2 : m ≤ 16
    · cases m1 : mayB l
      · exact divides_out hT h h' (.inr (.inr ⟨o1, o2, .inl m1⟩))
      · cases m2 : mayB r
        · exact divides_out hT h h' (.inr (.inr ⟨o1, o2, .inr (.inl ⟨m1, m2⟩)⟩))
        · by_cases h0 : m = 0
          · exact divides_out hT h h' (.inr (.inr ⟨o1, o2, .inr (.inr ⟨m1, m2, h0⟩)⟩))
          · exact divides_in hT (nt_of h m1).1 (nt_of h' m2).1 o1 o2 h0
    · exact divides_out hT h h' (.inr (.inl ⟨o1, by omega⟩))
  · exact divides_out hT h h' (.inl (by omega))
end Go.Proofs.YtcccgejpbdmjjaaDoor
