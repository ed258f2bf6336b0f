/-
  Contract of the statement NatBits' function at this translation: it returns true, whatever its arguments. Condition: the slice reads as limbs, the table of math/bits reads as its text lays it.
-/
import Derived.Test.YtdklekiknhhfdaaDoorRLaw5
namespace Go.Proofs.YtdklekiknhhfdaaDoor
open Go.RowKit

theorem small_div {x p : Nat} (hx : x < W ^ 64) : x / 2 ^ p < H ^ 600 := by
  have h := shifted_small (p := 0) hx (by omega)
  rw [Nat.pow_zero, Nat.mul_one] at h
  exact Nat.lt_of_le_of_lt (Nat.div_le_self _ _) h

set_option maxRecDepth 100000 in
set_option maxHeartbeats 4000000 in
theorem bits_fits {w : World} {A : Option Addr} {n c : Nat} {l : List Nat} {p : Nat} (hT : Tab w) (h : Rd w .u64 W A n c l) (hn70 : n ≤ 70) (hmay : mayB l = true) (hne : n ≠ 0) (hp : p ≤ 4096) (hfit : val W l * 2 ^ p < W ^ 64) :
    Calls Tryd.prog 5 #[.slice A n c, .int .i64 p] w fun e w' => ToldEnd w e w' := by
  have hN0 := (nt_of h hmay).1
  have hxx : val W l ≠ 0 := fun e => hne (hN0.zero.2 e)
  have HXL := Lib.hid hN0.lt
  have HXX : Hid (val W l ≠ 0) := Lib.hid hxx
  have HFIT : Hid (val W l * 2 ^ p < W ^ 64) := Lib.hid hfit
  have f0 : ((n : Int) == 0) = false := by simp [hne]
  have d1 : decide ((p : Int) < 0) = false := decide_eq_false (by omega)
  have d2 : decide ((4096 : Int) < (p : Int)) = false := decide_eq_false (by omega)
  clear hne hfit hxx
  go_enter Tryd.func5, Tryd.ntmps5
  go_wp2_with fail
  refine (few_yes hn70).mono ?_
  rintro e w' ⟨rfl, rfl⟩
  go_wp2_with fail
  refine (shl_ok hN0 (by omega) HFIT.out).mono ?_
  rintro e w1 ⟨A1, n1, c1, rfl, hs1, b1⟩
  have h1 := h.below b1
  have hN1 := hN0.below b1
  clear h hN0
  go_wp2_with fail
  refine (shr_ok hN1 (by omega)).mono ?_
  rintro e w2 ⟨A2, n2, c2, rfl, hd2, b2⟩
  have B2 := b1.trans (b2.mono b1.size)
  have h2 := h1.below b2
  have hs2 := hs1.below b2
  clear h1 hN1 hs1 b1 b2
  go_wp2_with fail
  refine (norm_any h2 (by omega)).mono ?_
  rintro e w3 ⟨A3, n3, c3, rfl, ht, b3⟩
  have B3 := B2.trans (b3.mono B2.size)
  have h3 := h2.below b3
  have hs3 := hs2.below b3
  have hd3 := hd2.below b3
  clear hs2 hd2
  obtain rfl : (dig W (val W l)).length = n3 := ht.len
  clear h2 b3 B2
  go_wp2_with fail
  refine (rfrom_any h3 (by omega)).mono ?_
  rintro e w4 ⟨A4, n4, c4, rfl, hx, b4⟩
  have B4 := B3.trans (b4.mono B3.size)
  have hn4 := from_small h3.lt (by rw [h3.len]; exact hn70) hx
  have h4 := h3.below b4
  have hs4 := hs3.below b4
  have hd4 := hd3.below b4
  clear hs3 hd3
  have ht4 := ht.below b4
  clear h3 ht b4 B3
  go_wp2_with fail
  refine (rlimbs_dg hx (by omega)).mono ?_
  rintro e w5 ⟨A5, c5, rfl, hl5, b5⟩
  have B5 := B4.trans (b5.mono B4.size)
  have h5 := h4.below b5
  have hs5 := hs4.below b5
  have hd5 := hd4.below b5
  clear hs4 hd4
  have ht5 := ht4.below b5
  have hx5 := hx.below b5
  clear h4 ht4 hx b5 B4
  go_wp2_with fail
  refine (same_yes ht5 hl5).mono ?_
  rintro e w6 ⟨rfl, b6⟩
  have B6 := B5.trans (b6.mono B5.size)
  have h6 := h5.below b6
  have hs6 := hs5.below b6
  have hd6 := hd5.below b6
  clear hs5 hd5
  have hx6 := hx5.below b6
  have hT6 := hT.below B6
  clear h5 ht5 hl5 hx5 b6 B5
  go_wp2_with fail
  refine (rmay_any h6).mono ?_
  rintro e w' ⟨rfl, rfl⟩
  rw [hmay]
  obtain ⟨hN, hC, hn64⟩ := nt_of h6 hmay
  go_wp2_with fail
  refine (len_nt hN).mono ?_
  rintro e w' ⟨rfl, rfl⟩
  go_wp2_with fail
  refine (rbits_any hx6 (by omega)).mono ?_
  rintro e w' ⟨rfl, rfl⟩
  go_wp2_with fail
  refine (low_nt hT6 hN HXX.out).mono ?_
  rintro e w' ⟨lo, rfl, hlo, rfl⟩
  go_wp2_with fail
  refine (rlow_any hx6 (by omega) hlo).mono ?_
  rintro e w' ⟨rfl, rfl⟩
  clear hN hC hlo
  go_wp2_with fail
  refine (told_any hT6).mono ?_
  rintro e w7 ⟨rfl, b7⟩
  have B7 := B6.trans (b7.mono B6.size)
  have hx7 := hx6.below b7
  have hs7 := hs6.below b7
  have hd7 := hd6.below b7
  clear hs6 hd6
  clear h6 hx6 b7 B6 hT6
  go_wp2_with fail
  refine (rshl_any hx7 (by omega) (by omega)).mono ?_
  rintro e w8 ⟨A8, n8, c8, rfl, hX8, b8⟩
  have B8 := B7.trans (b8.mono B7.size)
  have hx8 := hx7.below b8
  have hs8 := hs7.below b8
  have hd8 := hd7.below b8
  clear hs7 hd7
  have hn8 := dg_small hX8 (shifted_small HXL.out hp)
  clear hx7 b8 B7
  go_wp2_with fail
  refine (is_yes hs8 hX8 (by omega)).mono ?_
  rintro e w9 ⟨rfl, b9⟩
  have B9 := B8.trans (b9.mono B8.size)
  have hx9 := hx8.below b9
  have hd9 := hd8.below b9
  clear hx8 hX8 b9 B8 hd8
  go_wp2_with fail
  refine (rshr_any hx9 (by omega) (by omega)).mono ?_
  rintro e w10 ⟨A10, n10, c10, rfl, hY10, b10⟩
  have B10 := B9.trans (b10.mono B9.size)
  have hd10 := hd9.below b10
  have hn10 := dg_small hY10 (small_div HXL.out)
  clear hx9 hd9 b10 B9
  go_wp2_with fail
  refine (is_yes hd10 hY10 (by omega)).mono ?_
  rintro e w11 ⟨rfl, b11⟩
  have B11 := B10.trans (b11.mono B10.size)
  clear hd10 hY10 b11 B10
  go_wp2
  go_ret
  exact ⟨rfl, B11⟩

set_option maxRecDepth 100000 in
set_option maxHeartbeats 4000000 in
theorem bits_over {w : World} {A : Option Addr} {n c : Nat} {l : List Nat} {p : Nat} (hT : Tab w) (h : Rd w .u64 W A n c l) (hn70 : n ≤ 70) (hmay : mayB l = true) (hne : n ≠ 0) (hp : p ≤ 4096) (hfit : W ^ 64 ≤ val W l * 2 ^ p) :
    Calls Tryd.prog 5 #[.slice A n c, .int .i64 p] w fun e w' => ToldEnd w e w' := by
  have hN0 := (nt_of h hmay).1
  have hxx : val W l ≠ 0 := fun e => hne (hN0.zero.2 e)
  have HXL := Lib.hid hN0.lt
  have HXX : Hid (val W l ≠ 0) := Lib.hid hxx
  have HFIT : Hid (W ^ 64 ≤ val W l * 2 ^ p) := Lib.hid hfit
  have f0 : ((n : Int) == 0) = false := by simp [hne]
  have d1 : decide ((p : Int) < 0) = false := decide_eq_false (by omega)
  have d2 : decide ((4096 : Int) < (p : Int)) = false := decide_eq_false (by omega)
  clear hne hfit hxx
  go_enter Tryd.func5, Tryd.ntmps5
  go_wp2_with fail
  refine (few_yes hn70).mono ?_
  rintro e w' ⟨rfl, rfl⟩
  go_wp2_with fail
  refine (shl_over hN0 HXX.out HFIT.out).mono ?_
  rintro e w' ⟨rfl, rfl⟩
  go_wp2_with fail
  refine (shr_ok hN0 (by omega)).mono ?_
  rintro e w2 ⟨A2, n2, c2, rfl, hd2, b2⟩
  have B2 := b2
  have h2 := h.below b2
  clear h hN0 b2
  go_wp2_with fail
  refine (norm_any h2 (by omega)).mono ?_
  rintro e w3 ⟨A3, n3, c3, rfl, ht, b3⟩
  have B3 := B2.trans (b3.mono B2.size)
  have h3 := h2.below b3
  have hd3 := hd2.below b3
  clear hd2
  obtain rfl : (dig W (val W l)).length = n3 := ht.len
  clear h2 b3 B2
  go_wp2_with fail
  refine (rfrom_any h3 (by omega)).mono ?_
  rintro e w4 ⟨A4, n4, c4, rfl, hx, b4⟩
  have B4 := B3.trans (b4.mono B3.size)
  have hn4 := from_small h3.lt (by rw [h3.len]; exact hn70) hx
  have h4 := h3.below b4
  have hd4 := hd3.below b4
  clear hd3
  have ht4 := ht.below b4
  clear h3 ht b4 B3
  go_wp2_with fail
  refine (rlimbs_dg hx (by omega)).mono ?_
  rintro e w5 ⟨A5, c5, rfl, hl5, b5⟩
  have B5 := B4.trans (b5.mono B4.size)
  have h5 := h4.below b5
  have hd5 := hd4.below b5
  clear hd4
  have ht5 := ht4.below b5
  have hx5 := hx.below b5
  clear h4 ht4 hx b5 B4
  go_wp2_with fail
  refine (same_yes ht5 hl5).mono ?_
  rintro e w6 ⟨rfl, b6⟩
  have B6 := B5.trans (b6.mono B5.size)
  have h6 := h5.below b6
  have hd6 := hd5.below b6
  clear hd5
  have hx6 := hx5.below b6
  have hT6 := hT.below B6
  clear h5 ht5 hl5 hx5 b6 B5
  go_wp2_with fail
  refine (rmay_any h6).mono ?_
  rintro e w' ⟨rfl, rfl⟩
  rw [hmay]
  obtain ⟨hN, hC, hn64⟩ := nt_of h6 hmay
  go_wp2_with fail
  refine (len_nt hN).mono ?_
  rintro e w' ⟨rfl, rfl⟩
  go_wp2_with fail
  refine (rbits_any hx6 (by omega)).mono ?_
  rintro e w' ⟨rfl, rfl⟩
  go_wp2_with fail
  refine (low_nt hT6 hN HXX.out).mono ?_
  rintro e w' ⟨lo, rfl, hlo, rfl⟩
  go_wp2_with fail
  refine (rlow_any hx6 (by omega) hlo).mono ?_
  rintro e w' ⟨rfl, rfl⟩
  clear hN hC hlo
  go_wp2_with fail
  refine (told_any hT6).mono ?_
  rintro e w7 ⟨rfl, b7⟩
  have B7 := B6.trans (b7.mono B6.size)
  have hx7 := hx6.below b7
  have hd7 := hd6.below b7
  clear hd6
  clear h6 hx6 b7 B6 hT6
  go_wp2_with fail
  refine (rshl_any hx7 (by omega) (by omega)).mono ?_
  rintro e w8 ⟨A8, n8, c8, rfl, hX8, b8⟩
  have B8 := B7.trans (b8.mono B7.size)
  have hx8 := hx7.below b8
  have hd8 := hd7.below b8
  clear hd7
  have hn8 := dg_small hX8 (shifted_small HXL.out hp)
  clear hx7 b8 B7
  go_wp2_with fail
  refine (is_over hX8 (by omega) HFIT.out).mono ?_
  rintro e w9 ⟨rfl, b9⟩
  have B9 := B8.trans (b9.mono B8.size)
  have hx9 := hx8.below b9
  have hd9 := hd8.below b9
  clear hx8 hX8 b9 B8 hd8
  go_wp2_with fail
  refine (rshr_any hx9 (by omega) (by omega)).mono ?_
  rintro e w10 ⟨A10, n10, c10, rfl, hY10, b10⟩
  have B10 := B9.trans (b10.mono B9.size)
  have hd10 := hd9.below b10
  have hn10 := dg_small hY10 (small_div HXL.out)
  clear hx9 hd9 b10 B9
  go_wp2_with fail
  refine (is_yes hd10 hY10 (by omega)).mono ?_
  rintro e w11 ⟨rfl, b11⟩
  have B11 := B10.trans (b11.mono B10.size)
  clear hd10 hY10 b11 B10
  go_wp2
  go_ret
  exact ⟨rfl, B11⟩

theorem bits_any {w : World} {A : Option Addr} {n c : Nat} {l : List Nat} {p : Int} (hT : Tab w) (h : Rd w .u64 W A n c l) (hp : p ≤ 9223372036854775807) :
    Calls Tryd.prog 5 #[.slice A n c, .int .i64 p] w fun e w' => ToldEnd w e w' := by
  by_cases hn : n ≤ 70
  · cases hm : mayB l
    · exact bits_bad hT h hn hm
    · by_cases hneg : p < 0
      · exact bits_neg hT h hn hm hneg
      · obtain ⟨q, rfl⟩ := Int.eq_ofNat_of_zero_le (show 0 ≤ p by omega)
        by_cases h0 : n = 0
        · exact bits_nil hT h hn hm h0 hp
        · by_cases hf : 4096 < q
          · exact bits_far hT h hn hm h0 hf hp
          · by_cases hfit : val W l * 2 ^ q < W ^ 64
            · exact bits_fits hT h hn hm h0 (by omega) hfit
            · exact bits_over hT h hn hm h0 (by omega) (Nat.not_lt.1 hfit)
  · exact bits_out hT (by omega) (by have := h.cap; have := h.max; omega)
end Go.Proofs.YtdklekiknhhfdaaDoor
