/-
  Contract of the statement NatShifts' function at this translation: it returns true, whatever its arguments. Condition: the slice reads as limbs, the table of math/bits reads as its text lays it.
-/
import Derived.Test.YtdklekiknhhfdaaDoorRing
namespace Go.Proofs.YtdklekiknhhfdaaDoor
open Go.RowKit

theorem low_nil {w : World} {A : Option Addr} {c : Nat} (h : Nt w A 0 c 0) :
    Calls Tryd.prog 40 #[.slice A 0 c] w fun e w' => e = .returned (.int .i64 (-1)) ∧ w = w' := by
  go_enter Tryd.func40, Tryd.ntmps40
  go_wp2
  go_step3
  go_wp2_with fail
  refine (may_nt h).mono ?_
  rintro e w' ⟨rfl, rfl⟩
  go_wp2
  go_step3
  go_wp2
  go_loopg [3, 11] 0 (fun _ v3 v wr => v = .int .i64 0 ∧ v3 = .int .i64 0 ∧ w = wr)
  case atStart => exact ⟨rfl, rfl, rfl⟩
  case round =>
    obtain ⟨rfl, rfl, rfl⟩ := hrel
    go_wp2
    rw [Exit.noGoto_ret]
    go_ret
    exact ⟨rfl, rfl⟩

theorem blen_shift {x k : Nat} (h : x ≠ 0) : blen (x * 2 ^ k) = blen x + k := by
  obtain ⟨h1, h2, h3⟩ := blen_pos h
  have hp : 0 < 2 ^ k := Nat.pow_pos Nat.zero_lt_two
  have e : blen x + k = (blen x - 1 + k) + 1 := by omega
  rw [e]
  refine blen_eq ?_ ?_
  · rw [Nat.pow_add]; exact Nat.mul_le_mul_right _ h1
  · have e2 : blen x - 1 + k + 1 = blen x + k := by omega
    rw [e2, Nat.pow_add]
    exact Nat.mul_lt_mul_of_pos_right h2 hp
theorem low_shift {x k l : Nat} (h : IsLow x l) : IsLow (x * 2 ^ k) (l + k) := by
  obtain ⟨m, rfl⟩ := h
  exact ⟨m, by rw [Nat.pow_add, Nat.mul_right_comm]⟩
theorem low_lt {x l m : Nat} (h : IsLow x l) (hx : x < 2 ^ m) : l < m := by
  obtain ⟨a, rfl⟩ := h
  rcases Nat.lt_or_ge l m with h1 | h1
  · exact h1
  · exfalso
    have h2 : 2 ^ m ≤ 2 ^ l := Nat.pow_le_pow_right Nat.zero_lt_two h1
    have h3 : 2 ^ l * 1 ≤ 2 ^ l * (2 * a + 1) := Nat.mul_le_mul_left _ (by omega)
    generalize 2 ^ l * (2 * a + 1) = p at *
    generalize 2 ^ l = q at *
    generalize 2 ^ m = r at *
    omega
theorem pow_mono64 {a b m : Nat} (h : a + b ≤ m) {x : Nat} (hx : x < 2 ^ a) : x * 2 ^ b < 2 ^ m := by
  have h1 : x * 2 ^ b < 2 ^ a * 2 ^ b := Nat.mul_lt_mul_of_pos_right hx (Nat.pow_pos Nat.zero_lt_two)
  rw [← Nat.pow_add] at h1
  exact Nat.lt_of_lt_of_le h1 (Nat.pow_le_pow_right Nat.zero_lt_two h)
theorem shift_fits {x b : Nat} (hx : x < W ^ 20) (h : 64 * 20 + b ≤ 64 * 64) : x * 2 ^ b < W ^ 64 := by
  rw [W64_pow]
  rw [W_pow, ← Nat.pow_mul] at hx
  exact pow_mono64 h hx
theorem one_fits {b : Nat} (h : 64 * 20 + b ≤ 64 * 64) : 1 * 2 ^ b < W ^ 64 := shift_fits (Nat.one_lt_pow (by omega) (by rw [W_eq]; omega)) h
theorem two_fits {x k j q : Nat} (hx : x < W ^ 20) (h : 64 * 20 + q ≤ 64 * 64) (hq : q = k + j) : x * 2 ^ k * 2 ^ j < W ^ 64 ∧ x * 2 ^ k * 2 ^ j = x * 2 ^ q := by
  have e : x * 2 ^ k * 2 ^ j = x * 2 ^ q := by rw [Nat.mul_assoc, ← Nat.pow_add, hq]
  rw [e]
  exact ⟨shift_fits hx h, rfl⟩

set_option maxRecDepth 100000 in
set_option maxHeartbeats 1000000 in
theorem shifts_out {w : World} {A : Option Addr} {n c : Nat} {p q : Int} {l : List Nat} (hT : Tab w) (h : Rd w .u64 W A n c l) (ho : 20 < n ∨ (n ≤ 20 ∧ mayB l = false)) :
    Calls Tryd.prog 8 #[.slice A n c, .int .i64 p, .int .i64 q] w fun e w' => ToldEnd w e w' := by
  have c1 := h.cap
  have c2 := h.max
  have HT := Lib.hid (told_any hT)
  rcases ho with ho | ⟨o1, hm⟩
  · skip
    have d1 : decide ((20 : Int) < (n : Int)) = true := decide_eq_true (by omega)
    have f1 : (20 : Int) < n := by omega
    go_enter Tryd.func8, Tryd.ntmps8
    go_wp2_with fail
    refine HT.out.mono ?_
    rintro e w' ⟨rfl, hb⟩
    go_wp2
    go_ret
    exact ⟨rfl, hb⟩
  · have H1 := Lib.hid (may_no h hm)
    have d1 : decide ((20 : Int) < (n : Int)) = false := decide_eq_false (by omega)
    clear hm
    go_enter Tryd.func8, Tryd.ntmps8
    go_wp2_with fail
    refine H1.out.mono ?_
    rintro e w' ⟨rfl, rfl⟩
    go_wp2_with fail
    refine HT.out.mono ?_
    rintro e w' ⟨rfl, hb⟩
    go_wp2
    go_ret
    exact ⟨rfl, hb⟩

theorem rest900 (n : Int) : ∃ r : Nat, IntKind.u64.wrap n % 900 = (r : Int) ∧ r < 900 ∧ (0 : Int) ≤ IntKind.u64.wrap n := by
  refine ⟨(IntKind.u64.wrap n % 900).toNat, ?_, ?_, ?_⟩ <;> rw [IntKind.wrap_u64] <;> omega

set_option maxRecDepth 100000 in
set_option maxHeartbeats 2000000 in
theorem shifts_in {w : World} {A : Option Addr} {n c x : Nat} {p0 q0 : Int} (hT : Tab w) (h : Nt w A n c x) (o1 : n ≤ 20) :
    Calls Tryd.prog 8 #[.slice A n c, .int .i64 p0, .int .i64 q0] w fun e w' => ToldEnd w e w' := by
  have HX := Lib.hid (nt_lt h o1)
  have d1 : decide ((20 : Int) < (n : Int)) = false := decide_eq_false (by omega)
  obtain ⟨k, hk, hk9, hk0⟩ := rest900 p0
  obtain ⟨j, hj, hj9, hj0⟩ := rest900 q0
  obtain ⟨q, hq⟩ : ∃ q, q = k + j := ⟨_, rfl⟩
  have hq2 : (k : Int) + (j : Int) = (q : Int) := by omega
  have hq3 : q ≤ 1800 := by omega
  have HQ := Lib.hid (two_fits HX.out (show 64 * 20 + q ≤ 64 * 64 by omega) hq)
  have HK := Lib.hid (shift_fits (b := k) HX.out (by omega))
  have HV := Lib.hid (shift_fits (b := q) HX.out (by omega))
  have HO := Lib.hid (one_fits (b := k) (by omega))
  have HP : Hid (0 < 2 ^ k) := Lib.hid (Nat.pow_pos Nat.zero_lt_two)
  clear hq
  go_enter Tryd.func8, Tryd.ntmps8
  go_wp2_with fail
  refine (may_nt h).mono ?_
  rintro e w' ⟨rfl, rfl⟩
  go_wp2_with fail
  refine (shl_ok (s := k) h (by omega) HK.out).mono ?_
  rintro e w1 ⟨A1, n1, c1, rfl, hs, b1⟩
  have h1 := h.below b1
  clear h
  go_wp2_with fail
  refine (shr_ok (s := k) hs (by omega)).mono ?_
  rintro e w2 ⟨A2, n2, c2, rfl, ht, b2⟩
  have B2 := b1.trans (b2.mono b1.size)
  have h2 := h1.below b2
  have hs2 := hs.below b2
  clear h1 hs b1 b2
  go_wp2_with fail
  refine (shl_ok (s := j) hs2 (by omega) HQ.out.1).mono ?_
  rintro e w3 ⟨A3, n3, c3, rfl, hu, b3⟩
  have B3 := B2.trans (b3.mono B2.size)
  have h3 := h2.below b3
  have hs3 := hs2.below b3
  have ht3 := ht.below b3
  clear h2 hs2 ht b3 B2
  go_wp2_with fail
  refine (shl_ok (s := q) h3 (by omega) HV.out).mono ?_
  rintro e w4 ⟨A4, n4, c4, rfl, hv, b4⟩
  have B4 := B3.trans (b4.mono B3.size)
  have h4 := h3.below b4
  have hs4 := hs3.below b4
  have ht4 := ht3.below b4
  have hu4 := hu.below b4
  clear h3 hs3 ht3 hu b4 B3
  go_wp2_with fail
  have hone := nt_one w4 (v := 1) (by omega) (small_W (by omega))
  have ba := below_alloc w4 (.cells #[.int .u64 1] 49)
  refine (shl_ok (s := k) hone (by omega) HO.out).mono ?_
  rintro e w5 ⟨A5, n5, c5, rfl, ho, b5⟩
  have ba5 := ba.trans (b5.mono ba.size)
  have B5 := B4.trans (ba5.mono B4.size)
  have h5 := h4.below ba5
  have hs5 := hs4.below ba5
  have ht5 := ht4.below ba5
  have hu5 := hu4.below ba5
  have hv5 := hv.below ba5
  clear h4 hs4 ht4 hu4 hv b5 ba ba5 B4 hone
  go_wp2_with fail
  refine (mul_ok h5 ho (by rw [Nat.one_mul]; exact HK.out)).mono ?_
  rintro e w6 ⟨A6, n6, c6, rfl, hw, b6⟩
  have B6 := B5.trans (b6.mono B5.size)
  have h6 := h5.below b6
  have hs6 := hs5.below b6
  have ht6 := ht5.below b6
  have hu6 := hu5.below b6
  have hv6 := hv5.below b6
  have ho6 := ho.below b6
  clear h5 hs5 ht5 hu5 hv5 ho b6 B5
  go_wp2_with fail
  refine (shr_ok (s := k) h6 (by omega)).mono ?_
  rintro e w7 ⟨A7, n7, c7, rfl, hx, b7⟩
  have B7 := B6.trans (b7.mono B6.size)
  have h7 := h6.below b7
  have hs7 := hs6.below b7
  have ht7 := ht6.below b7
  have hu7 := hu6.below b7
  have hv7 := hv6.below b7
  have ho7 := ho6.below b7
  have hw7 := hw.below b7
  clear h6 hs6 ht6 hu6 hv6 ho6 hw b7 B6
  go_wp2_with fail
  refine (div_ok h7 ho7 (by rw [Nat.one_mul]; exact Nat.ne_of_gt HP.out)).mono ?_
  rintro e w8 ⟨A8, n8, c8, C8, m8, f8, rfl, hy, _, b8⟩
  have B8 := B7.trans (b8.mono B7.size)
  have h8 := h7.below b8
  have hs8 := hs7.below b8
  have ht8 := ht7.below b8
  have hu8 := hu7.below b8
  have hv8 := hv7.below b8
  have hw8 := hw7.below b8
  have hx8 := hx.below b8
  clear h7 hs7 ht7 hu7 hv7 ho7 hw7 hx b8 B7
  go_wp2_with fail
  refine (same_nt ht8 h8 (Nat.mul_div_cancel _ HP.out)).mono ?_
  rintro e w9 ⟨rfl, b9⟩
  have B9 := B8.trans (b9.mono B8.size)
  have h9 := h8.below b9
  have hs9 := hs8.below b9
  have hu9 := hu8.below b9
  have hv9 := hv8.below b9
  have hw9 := hw8.below b9
  have hx9 := hx8.below b9
  have hy9 := hy.below b9
  clear h8 hs8 ht8 hu8 hv8 hw8 hx8 hy b9 B8
  go_wp2_with fail
  refine (same_nt hu9 hv9 HQ.out.2).mono ?_
  rintro e w10 ⟨rfl, b10⟩
  have B10 := B9.trans (b10.mono B9.size)
  have h10 := h9.below b10
  have hs10 := hs9.below b10
  have hw10 := hw9.below b10
  have hx10 := hx9.below b10
  have hy10 := hy9.below b10
  clear h9 hs9 hu9 hv9 hw9 hx9 hy9 b10 B9
  go_wp2_with fail
  refine (same_nt hw10 hs10 (by rw [Nat.one_mul])).mono ?_
  rintro e w11 ⟨rfl, b11⟩
  have B11 := B10.trans (b11.mono B10.size)
  have h11 := h10.below b11
  have hs11 := hs10.below b11
  have hx11 := hx10.below b11
  have hy11 := hy10.below b11
  clear h10 hs10 hw10 hx10 hy10 b11 B10
  go_wp2_with fail
  refine (same_nt hx11 hy11 (by rw [Nat.one_mul])).mono ?_
  rintro e w12 ⟨rfl, b12⟩
  have B12 := B11.trans (b12.mono B11.size)
  have h12 := h11.below b12
  have hs12 := hs11.below b12
  have hT12 := hT.below B12
  clear h11 hs11 hx11 hy11 b12 B11
  by_cases h0 : n = 0
  · have hx0 : x = 0 := h12.zero.1 h0
    have hn1 : n1 = 0 := by rw [hs12.zero, hx0, Nat.zero_mul]
    rw [hx0, Nat.zero_mul] at hs12
    subst h0 hn1
    clear hx0
    have HS := Lib.hid hs12
    clear hs12 h12
    go_wp2_with fail
    refine (told_any hT12).mono ?_
    rintro e w13 ⟨rfl, b13⟩
    have B13 := B12.trans (b13.mono B12.size)
    have HS13 := Lib.hid (HS.out.below b13)
    clear b13 B12 HS
    go_wp2_with fail
    refine (low_nil HS13.out).mono ?_
    rintro e w14 ⟨rfl, rfl⟩
    go_wp2
    go_ret
    exact ⟨rfl, B13⟩
  · have hx0 : x ≠ 0 := fun e => h0 (h12.zero.2 e)
    have hS0 : x * 2 ^ k ≠ 0 := Nat.mul_ne_zero hx0 (Nat.ne_of_gt HP.out)
    have f0 : ((n : Int) == 0) = false := by simp [h0]
    obtain ⟨b, hb⟩ : ∃ b, b = blen x := ⟨_, rfl⟩
    obtain ⟨b', hb'⟩ : ∃ b', b' = blen (x * 2 ^ k) := ⟨_, rfl⟩
    have hbb : b' = b + k := by rw [hb', hb]; exact blen_shift hx0
    have hb4 : b ≤ 64 * 64 := by rw [hb]; exact (blen_le _ _).2 (Nat.lt_of_lt_of_eq h12.lt W64_pow)
    have hb5 : b ≤ 4096 := hb4
    have f5 : ((b' : Int) == (b : Int) + (k : Int)) = true := by simp; omega
    have HBB := Lib.hid hb
    have HBB' := Lib.hid hb'
    have HX0 : Hid (x ≠ 0) := Lib.hid hx0
    have HS0 : Hid (x * 2 ^ k ≠ 0) := Lib.hid hS0
    clear hb hb' hx0 hS0 h0 hb4
    go_wp2_with fail
    refine (told_any hT12).mono ?_
    rintro e w13 ⟨rfl, b13⟩
    have B13 := B12.trans (b13.mono B12.size)
    have h13 := h12.below b13
    have hs13 := hs12.below b13
    have hT13 := hT.below B13
    clear h12 hs12 b13 B12 hT12
    go_wp2_with fail
    refine (len_nt hs13).mono ?_
    rintro e w' ⟨rfl, rfl⟩
    rw [← HBB'.out]
    go_wp2_with fail
    refine (len_nt h13).mono ?_
    rintro e w' ⟨rfl, rfl⟩
    rw [← HBB.out]
    go_wp2_with fail
    refine (low_nt hT13 hs13 HS0.out).mono ?_
    rintro e w' ⟨l', rfl, hl', rfl⟩
    go_wp2_with fail
    refine (low_nt hT13 h13 HX0.out).mono ?_
    rintro e w' ⟨l, rfl, hl, rfl⟩
    have e1 : l' = l + k := hl'.unique (low_shift hl)
    have e2 : l < 64 * 64 := low_lt hl (Nat.lt_of_lt_of_eq h13.lt W64_pow)
    have e3 : l < 4096 := e2
    have f6 : ((l' : Int) == (l : Int) + (k : Int)) = true := by simp; omega
    clear hl hl' e1 e2
    go_wp2
    go_ret
    exact ⟨rfl, B13⟩

theorem shifts_any {w : World} {A : Option Addr} {n c : Nat} {p q : Int} {l : List Nat} (hT : Tab w) (h : Rd w .u64 W A n c l) :
    Calls Tryd.prog 8 #[.slice A n c, .int .i64 p, .int .i64 q] w fun e w' => ToldEnd w e w' := by
  by_cases o1 : n ≤ 20
  · cases m1 : mayB l
    · exact shifts_out hT h (.inr ⟨o1, m1⟩)
    · exact shifts_in hT (nt_of h m1).1 o1
  · exact shifts_out hT h (.inl (by omega))
end Go.Proofs.YtdklekiknhhfdaaDoor
