/-
  Contract of the statement NatBits' function at this translation: it returns true, whatever its arguments. Condition: the slice reads as limbs, the table of math/bits reads as its text lays it.
-/
import Derived.Test.YtdklekiknhhfdaaDoorRApi
namespace Go.Proofs.YtdklekiknhhfdaaDoor
open Go.RowKit

theorem shifted_small {x p : Nat} (hx : x < W ^ 64) (hp : p ≤ 4096) : x * 2 ^ p < H ^ 600 := by
  obtain ⟨k, hk⟩ : ∃ k, k = 600 := ⟨_, rfl⟩
  obtain ⟨m, hm⟩ : ∃ m, m = 64 * 64 := ⟨_, rfl⟩
  rw [← hk]
  rw [W64_pow, ← hm] at hx
  have h1 : m + p ≤ 16 * k := by omega
  have h2 := pow_mono64 h1 hx
  rwa [Nat.pow_mul, ← H_pow] at h2

set_option maxRecDepth 100000 in
theorem bits_out {w : World} {A : Option Addr} {n c : Nat} {p : Int} (hT : Tab w) (hn : 70 < n) (hm : n ≤ 9223372036854775807) :
    Calls Tryd.prog 5 #[.slice A n c, .int .i64 p] w fun e w' => ToldEnd w e w' := by
  have HT := Lib.hid (told_any hT)
  have HM := Lib.hid hm
  clear hm
  go_enter Tryd.func5, Tryd.ntmps5
  go_wp2_with fail
  refine (few_no hn HM.out).mono ?_
  rintro e w' ⟨rfl, rfl⟩
  go_wp2_with fail
  refine HT.out.mono ?_
  rintro e w' ⟨rfl, hb⟩
  go_wp2
  go_ret
  exact ⟨rfl, hb⟩

set_option maxRecDepth 100000 in
set_option maxHeartbeats 2000000 in
theorem bits_bad {w : World} {A : Option Addr} {n c : Nat} {l : List Nat} {p : Int} (hT : Tab w) (h : Rd w .u64 W A n c l) (hn70 : n ≤ 70) (hmay : mayB l = false) :
    Calls Tryd.prog 5 #[.slice A n c, .int .i64 p] w fun e w' => ToldEnd w e w' := by
  have hmax := h.max
  have hcap := h.cap
  go_enter Tryd.func5, Tryd.ntmps5
  go_wp2_with fail
  refine (few_yes hn70).mono ?_
  rintro e w' ⟨rfl, rfl⟩
  go_wp2_with fail
  refine (shl_bad h hmay).mono ?_
  rintro e w' ⟨rfl, rfl⟩
  go_wp2_with fail
  refine (shr_bad h hmay).mono ?_
  rintro e w' ⟨rfl, rfl⟩
  have h2 := h
  have B2 := Below.refl w.heap.size w
  clear h
  go_wp2_with fail
  refine (norm_any h2 (by omega)).mono ?_
  rintro e w3 ⟨A3, n3, c3, rfl, ht, b3⟩
  have B3 := B2.trans (b3.mono B2.size)
  have h3 := h2.below b3
  obtain rfl : (dig W (val W l)).length = n3 := ht.len
  clear h2 b3 B2
  go_wp2_with fail
  refine (rfrom_any h3 (by omega)).mono ?_
  rintro e w4 ⟨A4, n4, c4, rfl, hx, b4⟩
  have B4 := B3.trans (b4.mono B3.size)
  have hn4 := from_small h3.lt (by rw [h3.len]; exact hn70) hx
  have h4 := h3.below b4
  have ht4 := ht.below b4
  clear h3 ht b4 B3
  go_wp2_with fail
  refine (rlimbs_dg hx (by omega)).mono ?_
  rintro e w5 ⟨A5, c5, rfl, hl5, b5⟩
  have B5 := B4.trans (b5.mono B4.size)
  have h5 := h4.below b5
  have ht5 := ht4.below b5
  have hx5 := hx.below b5
  clear h4 ht4 hx b5 B4
  go_wp2_with fail
  refine (same_yes ht5 hl5).mono ?_
  rintro e w6 ⟨rfl, b6⟩
  have B6 := B5.trans (b6.mono B5.size)
  have h6 := h5.below b6
  have hx6 := hx5.below b6
  have hT6 := hT.below B6
  clear h5 ht5 hl5 hx5 b6 B5
  go_wp2_with fail
  refine (rmay_any h6).mono ?_
  rintro e w' ⟨rfl, rfl⟩
  rw [hmay]
  go_wp2_with fail
  refine (told_any hT6).mono ?_
  rintro e w7 ⟨rfl, b7⟩
  have B7 := B6.trans (b7.mono B6.size)
  have h7 := h6.below b7
  have hx7 := hx6.below b7
  clear h6 hx6 b7 B6 hT6
  go_wp2_with fail
  refine (len_bad h7 hmay).mono ?_
  rintro e w' ⟨rfl, rfl⟩
  go_wp2_with fail
  refine (low_bad h7 hmay).mono ?_
  rintro e w' ⟨rfl, rfl⟩
  go_wp2
  go_ret
  exact ⟨rfl, B7⟩

set_option maxRecDepth 100000 in
set_option maxHeartbeats 2000000 in
theorem bits_neg {w : World} {A : Option Addr} {n c : Nat} {l : List Nat} {p : Int} (hT : Tab w) (h : Rd w .u64 W A n c l) (hn70 : n ≤ 70) (hmay : mayB l = true) (hp : p < 0) :
    Calls Tryd.prog 5 #[.slice A n c, .int .i64 p] w fun e w' => ToldEnd w e w' := by
  have d1 : decide (p < 0) = true := decide_eq_true hp
  have hN0 := (nt_of h hmay).1
  go_enter Tryd.func5, Tryd.ntmps5
  go_wp2_with fail
  refine (few_yes hn70).mono ?_
  rintro e w' ⟨rfl, rfl⟩
  go_wp2_with fail
  refine (shl_neg hN0 hp).mono ?_
  rintro e w' ⟨rfl, rfl⟩
  go_wp2_with fail
  refine (shr_neg hN0 hp).mono ?_
  rintro e w' ⟨rfl, rfl⟩
  have h2 := h
  have B2 := Below.refl w.heap.size w
  clear h
  clear hN0
  go_wp2_with fail
  refine (norm_any h2 (by omega)).mono ?_
  rintro e w3 ⟨A3, n3, c3, rfl, ht, b3⟩
  have B3 := B2.trans (b3.mono B2.size)
  have h3 := h2.below b3
  obtain rfl : (dig W (val W l)).length = n3 := ht.len
  clear h2 b3 B2
  go_wp2_with fail
  refine (rfrom_any h3 (by omega)).mono ?_
  rintro e w4 ⟨A4, n4, c4, rfl, hx, b4⟩
  have B4 := B3.trans (b4.mono B3.size)
  have hn4 := from_small h3.lt (by rw [h3.len]; exact hn70) hx
  have h4 := h3.below b4
  have ht4 := ht.below b4
  clear h3 ht b4 B3
  go_wp2_with fail
  refine (rlimbs_dg hx (by omega)).mono ?_
  rintro e w5 ⟨A5, c5, rfl, hl5, b5⟩
  have B5 := B4.trans (b5.mono B4.size)
  have h5 := h4.below b5
  have ht5 := ht4.below b5
  have hx5 := hx.below b5
  clear h4 ht4 hx b5 B4
  go_wp2_with fail
  refine (same_yes ht5 hl5).mono ?_
  rintro e w6 ⟨rfl, b6⟩
  have B6 := B5.trans (b6.mono B5.size)
  have h6 := h5.below b6
  have hx6 := hx5.below b6
  have hT6 := hT.below B6
  clear h5 ht5 hl5 hx5 b6 B5
  go_wp2_with fail
  refine (rmay_any h6).mono ?_
  rintro e w' ⟨rfl, rfl⟩
  rw [hmay]
  obtain ⟨hN, hC, hn64⟩ := nt_of h6 hmay
  go_wp2_with fail
  refine (len_nt hN).mono ?_
  rintro e w' ⟨rfl, rfl⟩
  go_wp2_with fail
  refine (rbits_any hx6 (by omega)).mono ?_
  rintro e w' ⟨rfl, rfl⟩
  clear hN hC
  go_wp2_with fail
  refine (told_any hT6).mono ?_
  rintro e w7 ⟨rfl, b7⟩
  have B7 := B6.trans (b7.mono B6.size)
  have h7 := h6.below b7
  have hx7 := hx6.below b7
  clear h6 hx6 b7 B6 hT6
  go_wp2
  go_ret
  exact ⟨rfl, B7⟩

set_option maxRecDepth 100000 in
set_option maxHeartbeats 2000000 in
theorem bits_nil {w : World} {A : Option Addr} {n c : Nat} {l : List Nat} {p : Nat} (hT : Tab w) (h : Rd w .u64 W A n c l) (hn70 : n ≤ 70) (hmay : mayB l = true) (h0 : n = 0) (hp : (p : Int) ≤ 9223372036854775807) :
    Calls Tryd.prog 5 #[.slice A n c, .int .i64 p] w fun e w' => ToldEnd w e w' := by
  subst h0
  have hN0 := (nt_of h hmay).1
  have hv0 : val W l = 0 := hN0.zero.1 rfl
  rw [hv0] at hN0
  have hHV := Lib.hid hv0
  clear hv0
  go_enter Tryd.func5, Tryd.ntmps5
  go_wp2_with fail
  refine (few_yes hn70).mono ?_
  rintro e w' ⟨rfl, rfl⟩
  go_wp2_with fail
  refine (shl_nought hN0).mono ?_
  rintro e w' ⟨rfl, rfl⟩
  go_wp2_with fail
  refine (shr_far hN0 (Nat.zero_le _) hp).mono ?_
  rintro e w' ⟨rfl, rfl⟩
  have h2 := h
  have B2 := Below.refl w.heap.size w
  clear h
  clear hN0
  go_wp2_with fail
  refine (norm_any h2 (by omega)).mono ?_
  rintro e w3 ⟨A3, n3, c3, rfl, ht, b3⟩
  have B3 := B2.trans (b3.mono B2.size)
  have h3 := h2.below b3
  obtain rfl : (dig W (val W l)).length = n3 := ht.len
  clear h2 b3 B2
  go_wp2_with fail
  refine (rfrom_any h3 (by omega)).mono ?_
  rintro e w4 ⟨A4, n4, c4, rfl, hx, b4⟩
  have B4 := B3.trans (b4.mono B3.size)
  have hn4 := from_small h3.lt (by rw [h3.len]; exact hn70) hx
  have h4 := h3.below b4
  have ht4 := ht.below b4
  clear h3 ht b4 B3
  go_wp2_with fail
  refine (rlimbs_dg hx (by omega)).mono ?_
  rintro e w5 ⟨A5, c5, rfl, hl5, b5⟩
  have B5 := B4.trans (b5.mono B4.size)
  have h5 := h4.below b5
  have ht5 := ht4.below b5
  have hx5 := hx.below b5
  clear h4 ht4 hx b5 B4
  go_wp2_with fail
  refine (same_yes ht5 hl5).mono ?_
  rintro e w6 ⟨rfl, b6⟩
  have B6 := B5.trans (b6.mono B5.size)
  have h6 := h5.below b6
  have hx6 := hx5.below b6
  have hT6 := hT.below B6
  clear h5 ht5 hl5 hx5 b6 B5
  go_wp2_with fail
  refine (rmay_any h6).mono ?_
  rintro e w' ⟨rfl, rfl⟩
  rw [hmay]
  obtain ⟨hN, hC, hn64⟩ := nt_of h6 hmay
  go_wp2_with fail
  refine (len_nt hN).mono ?_
  rintro e w' ⟨rfl, rfl⟩
  go_wp2_with fail
  refine (rbits_any hx6 (by omega)).mono ?_
  rintro e w' ⟨rfl, rfl⟩
  clear hN hC
  go_wp2_with fail
  refine (told_any hT6).mono ?_
  rintro e w7 ⟨rfl, b7⟩
  have B7 := B6.trans (b7.mono B6.size)
  have h7 := h6.below b7
  have hx7 := hx6.below b7
  clear h6 hx6 b7 B6 hT6
  have hN7 := (nt_of h7 hmay).1
  rw [hHV.out] at hN7
  go_wp2_with fail
  refine (low_nil hN7).mono ?_
  rintro e w' ⟨rfl, rfl⟩
  go_wp2
  go_ret
  exact ⟨rfl, B7⟩

theorem far_over {x p : Nat} (hx : x ≠ 0) (hp : 64 * 64 ≤ p) : W ^ 64 ≤ x * 2 ^ p := by
  rw [W64_pow]
  generalize 64 * 64 = m at *
  have h1 : 2 ^ m ≤ 2 ^ p := Nat.pow_le_pow_right Nat.zero_lt_two hp
  exact Nat.le_trans h1 (Nat.le_mul_of_pos_left _ (by omega))
set_option maxRecDepth 100000 in
set_option maxHeartbeats 2000000 in
theorem bits_far {w : World} {A : Option Addr} {n c : Nat} {l : List Nat} {p : Nat} (hT : Tab w) (h : Rd w .u64 W A n c l) (hn70 : n ≤ 70) (hmay : mayB l = true) (hne : n ≠ 0) (hp : 4096 < p) (hp63 : (p : Int) ≤ 9223372036854775807) :
    Calls Tryd.prog 5 #[.slice A n c, .int .i64 p] w fun e w' => ToldEnd w e w' := by
  have hN0 := (nt_of h hmay).1
  have hxx : val W l ≠ 0 := fun e => hne (hN0.zero.2 e)
  have hov : W ^ 64 ≤ val W l * 2 ^ p := far_over hxx (by omega)
  have hfar : n ≤ p / 64 := by have := hN0.le; omega
  have f0 : ((n : Int) == 0) = false := by simp [hne]
  have d1 : decide ((p : Int) < 0) = false := decide_eq_false (by omega)
  have d2 : decide ((4096 : Int) < (p : Int)) = true := decide_eq_true (by omega)
  have i2 : (4096 : Int) < p := by omega
  go_enter Tryd.func5, Tryd.ntmps5
  go_wp2_with fail
  refine (few_yes hn70).mono ?_
  rintro e w' ⟨rfl, rfl⟩
  go_wp2_with fail
  refine (shl_over hN0 hxx hov).mono ?_
  rintro e w' ⟨rfl, rfl⟩
  go_wp2_with fail
  refine (shr_far hN0 hfar hp63).mono ?_
  rintro e w' ⟨rfl, rfl⟩
  have h2 := h
  have B2 := Below.refl w.heap.size w
  clear h
  clear hN0 hov hfar
  go_wp2_with fail
  refine (norm_any h2 (by omega)).mono ?_
  rintro e w3 ⟨A3, n3, c3, rfl, ht, b3⟩
  have B3 := B2.trans (b3.mono B2.size)
  have h3 := h2.below b3
  obtain rfl : (dig W (val W l)).length = n3 := ht.len
  clear h2 b3 B2
  go_wp2_with fail
  refine (rfrom_any h3 (by omega)).mono ?_
  rintro e w4 ⟨A4, n4, c4, rfl, hx, b4⟩
  have B4 := B3.trans (b4.mono B3.size)
  have hn4 := from_small h3.lt (by rw [h3.len]; exact hn70) hx
  have h4 := h3.below b4
  have ht4 := ht.below b4
  clear h3 ht b4 B3
  go_wp2_with fail
  refine (rlimbs_dg hx (by omega)).mono ?_
  rintro e w5 ⟨A5, c5, rfl, hl5, b5⟩
  have B5 := B4.trans (b5.mono B4.size)
  have h5 := h4.below b5
  have ht5 := ht4.below b5
  have hx5 := hx.below b5
  clear h4 ht4 hx b5 B4
  go_wp2_with fail
  refine (same_yes ht5 hl5).mono ?_
  rintro e w6 ⟨rfl, b6⟩
  have B6 := B5.trans (b6.mono B5.size)
  have h6 := h5.below b6
  have hx6 := hx5.below b6
  have hT6 := hT.below B6
  clear h5 ht5 hl5 hx5 b6 B5
  go_wp2_with fail
  refine (rmay_any h6).mono ?_
  rintro e w' ⟨rfl, rfl⟩
  rw [hmay]
  obtain ⟨hN, hC, hn64⟩ := nt_of h6 hmay
  go_wp2_with fail
  refine (len_nt hN).mono ?_
  rintro e w' ⟨rfl, rfl⟩
  go_wp2_with fail
  refine (rbits_any hx6 (by omega)).mono ?_
  rintro e w' ⟨rfl, rfl⟩
  have hx0 : val W l ≠ 0 := fun e => hne (hN.zero.2 e)
  go_wp2_with fail
  refine (low_nt hT6 hN hx0).mono ?_
  rintro e w' ⟨lo, rfl, hlo, rfl⟩
  go_wp2_with fail
  refine (rlow_any hx6 (by omega) hlo).mono ?_
  rintro e w' ⟨rfl, rfl⟩
  clear hN hC hlo
  go_wp2_with fail
  refine (told_any hT6).mono ?_
  rintro e w7 ⟨rfl, b7⟩
  have B7 := B6.trans (b7.mono B6.size)
  have h7 := h6.below b7
  have hx7 := hx6.below b7
  clear h6 hx6 b7 B6 hT6
  go_wp2
  go_ret
  exact ⟨rfl, B7⟩
end Go.Proofs.YtdklekiknhhfdaaDoor
