/-
 Contract of nat.Root at this translation. Condition: the number may be.
-/
import Derived.Test.YtcbkhmejlaaieaaGreatDoorQCaps
namespace Go.Proofs.YtcbkhmejlaaieaaGreatDoor
open Go.RowKit

theorem sq_sum (u v : Nat) : (u + v) * (u + v) = u * u + v * v + 2 * (u * v) := by
 rw [Nat.add_mul, Nat.mul_add, Nat.mul_add, Nat.mul_comm v u]; omega
theorem four_le (u v : Nat) : 4 * (u * v) ≤ (u + v) * (u + v) := by
 rw [sq_sum]
 rcases Nat.le_total u v with h | h
 ·obtain ⟨d, rfl⟩ : ∃ d, v = u + d := ⟨v - u, by omega⟩
  rw [sq_sum, Nat.mul_add]; omega
 ·obtain ⟨d, rfl⟩ : ∃ d, u = v + d := ⟨u - v, by omega⟩
  rw [sq_sum, Nat.add_mul, Nat.mul_comm d v]; omega
theorem newton_next {a X : Nat} (hX : 1 ≤ X) (ha : 1 ≤ a) : a < ((X + a / X) / 2 + 1) * ((X + a / X) / 2 + 1) ∧ 1 ≤ (X + a / X) / 2 := by
 have h1 := Nat.div_add_mod a X
 have h2 := Nat.mod_lt a (show 0 < X by omega)
 obtain ⟨q, hq⟩ : ∃ q, q = a / X := ⟨_, rfl⟩
 rw [← hq] at h1 ⊢
 obtain ⟨y, hy⟩ : ∃ y, y = (X + q) / 2 := ⟨_, rfl⟩
 rw [← hy]
 have h3 : X + q + 1 ≤ 2 * (y + 1) := by omega
 have h4 : a < X * (q + 1) := by rw [Nat.mul_add, Nat.mul_one]; omega
 constructor
 ·-- (X + q + 1)² is at least 4 X (q + 1)
  have h5 : 4 * (X * (q + 1)) ≤ (X + (q + 1)) * (X + (q + 1)) := four_le X (q + 1)
  have h7 : (X + (q + 1)) * (X + (q + 1)) ≤ 2 * (y + 1) * (2 * (y + 1)) := Nat.mul_le_mul (by omega) (by omega)
  have h8 : 2 * (y + 1) * (2 * (y + 1)) = 4 * ((y + 1) * (y + 1)) := by
   generalize y + 1 = z
   rw [Nat.mul_assoc, ← Nat.mul_assoc z 2 z, Nat.mul_comm z 2, Nat.mul_assoc 2 z z, ← Nat.mul_assoc 2 2]
  omega
 ·rcases Nat.eq_zero_or_pos q with h0 | h0
  ·have : 2 ≤ X := by
    rw [h0] at h4
    omega
   omega
  ·omega
theorem newton_exit {a X : Nat} (h : X ≤ (X + a / X) / 2) : X * X ≤ a := by
 have h1 : X ≤ a / X := by omega
 have h2 : X * X ≤ a / X * X := Nat.mul_le_mul_right _ h1
 exact Nat.le_trans h2 (Nat.div_mul_le_self _ _)
theorem newton_first {a : Nat} : a < (2 ^ ((blen a + 1) / 2) + 1) * (2 ^ ((blen a + 1) / 2) + 1) := by
 have h1 := (blen_le a (blen a)).1 (Nat.le_refl _)
 have h2 : 2 ^ blen a ≤ 2 ^ ((blen a + 1) / 2) * 2 ^ ((blen a + 1) / 2) := by
  rw [← Nat.pow_add]; exact Nat.pow_le_pow_right (by omega) (by omega)
 generalize 2 ^ ((blen a + 1) / 2) = p at *
 rw [Nat.add_mul, Nat.mul_add]
 omega

theorem pow_step {k m : Nat} (h : k < m) : 1 ≤ 2 ^ k ∧ 1 * 2 ^ k < 2 ^ m := ⟨Nat.pow_pos Nat.zero_lt_two, by rw [Nat.one_mul]; exact Nat.pow_lt_pow_right Nat.one_lt_two h⟩
theorem root_fits {k : Nat} (h : k < 64 * 64) : Hid (1 ≤ 2 ^ k ∧ 1 * 2 ^ k < W ^ 64) := Lib.hid ⟨(pow_step h).1, Nat.lt_of_lt_of_eq (pow_step h).2 W64_pow.symm⟩

def RootOk (w : World) (x : Nat) (e : Ending) (w' : World) : Prop := ∃ s, s * s ≤ x ∧ x < (s + 1) * (s + 1) ∧ ResOk w s e w'

set_option maxHeartbeats 1000000 in
theorem root_ok {w : World} {A : Option Addr} {n c x : Nat} (h : Nt w A n c x) : Calls Tryz.prog 179 #[.slice A n c] w fun e w' => RootOk w x e w' := by
 have hn := h.le
 by_cases h0 : n = 0
 ·have hx := Lib.hid (h.zero.1 h0)
  have f0 : ((n : Int) == 0) = true := by simp [h0]
  clear h0
  go_enter Tryz.func179, Tryz.ntmps179
  go_wp2_with fail
  refine (may_nt h).mono ?_
  rintro e w' ⟨rfl, rfl⟩
  go_wp2
  go_ret2
  exact ⟨0, by omega, by rw [hx.out]; omega, none, 0, 0, rfl, nt_nil _, Below.refl _ _⟩
 ·have hx1 : x ≠ 0 := by rw [ne_eq, ← h.zero]; exact h0
  have f0 : ((n : Int) == 0) = false := by simp [h0]
  have hb : blen x ≤ 64 * 64 := (blen_le _ _).2 (Nat.lt_of_lt_of_eq h.lt W64_pow)
  obtain ⟨b, hbe⟩ : ∃ b, b = blen x := ⟨_, rfl⟩
  obtain ⟨k, hk⟩ : ∃ k, k = (b + 1) / 2 := ⟨_, rfl⟩
  have e1 : ((b : Int) + 1) / 2 = (k : Int) := by omega
  have hb2 : b ≤ 4096 := by omega
  have hk2 : k ≤ 2048 := by omega
  have hk3 : k < 64 * 64 := by omega
  have HF : Hid (x < (2 ^ k + 1) * (2 ^ k + 1)) := by unfold Hid; rw [hk, hbe]; exact newton_first
  have HBE := Lib.hid hbe
  have HX1 : Hid (1 ≤ x) := by unfold Hid; omega
  have HP : Hid (1 ≤ 2 ^ k ∧ 1 * 2 ^ k < W ^ 64) := root_fits hk3
  clear hbe hk hb hx1
  go_enter Tryz.func179, Tryz.ntmps179
  go_wp2_with fail
  refine (may_nt h).mono ?_
  rintro e w' ⟨rfl, rfl⟩
  go_wp2_with fail
  have ha := h.alloc (.cells #[.int .u64 1] 48)
  have h1 : Nt (w.alloc (.cells #[.int .u64 1] 48)) (some ⟨w.heap.size, 0, none⟩) 1 1 1 := nt_one w (v := 1) (by omega) (small_W (by omega))
  refine (bitLen_any ha.rd ha.can (by omega) h0).mono ?_
  rintro e w' ⟨rfl, rfl⟩
  rw [ha.val, ← HBE.out]
  go_wp2_with fail
  refine (raised_any h1.rd (by omega) (by omega)).mono ?_
  rintro e w1 ⟨g1, n1, c1, rfl, hg1, hr1, hb1⟩
  rw [h1.val] at hr1
  have hN : Nt w1 (some ⟨g1, 0, none⟩) n1 c1 (1 * 2 ^ k) := ⟨hr1, HP.out.2⟩
  rw [Nat.one_mul] at hN
  have hB : Below w.heap.size w w1 := (below_alloc w _).trans (hb1.mono (by simp))
  obtain ⟨X0, hX0⟩ : ∃ X0, X0 = 2 ^ k := ⟨_, rfl⟩
  rw [← hX0] at HP HF hN
  have HN := Lib.hid hN
  clear hr1 hb1 h1 ha hN hX0 e1 hg1
  go_wp2
  go_loopg [4] X0 (fun g v wr => ∃ (A n c X : Nat) (B : Option Addr), X ≤ g ∧ v = .slice B n c ∧ Nt wr B n c X ∧ 1 ≤ X ∧ x < (X + 1) * (X + 1) ∧ Below w.heap.size w wr ∧ A = 0)
  case atStart => exact ⟨0, n1, c1, X0, _, Nat.le_refl _, rfl, HN.out, HP.out.1, HF.out, hB, rfl⟩
  case round =>
   obtain ⟨_, n2, c2, X, B2, hg, rfl, hN2, hX, hxX, hB2, _⟩ := hrel
   have HG := Lib.hid hg
   have HXX := Lib.hid hxX
   have hn2 := hN2.le
   have hx2 := h.below hB2
   have hnx := newton_next hX HX1.out
   have HNX : Hid (x < ((X + x / X) / 2 + 1) * ((X + x / X) / 2 + 1) ∧ 1 ≤ (X + x / X) / 2) := hnx
   clear hg hxX hnx
   go_wp2_with fail
   refine (quotient_any hx2 hN2 (by omega)).mono ?_
   rintro e w3 ⟨A3, n3, c3, B3, m3, d3, rfl, hq, _, hb3⟩
   have hX3 := hN2.below hb3
   have hB3 := hB2.trans (hb3.mono hB2.size)
   have hqN : Nt w3 A3 n3 c3 (x / X) := ⟨hq, Nat.lt_of_le_of_lt (Nat.div_le_self _ _) h.lt⟩
   have hn3 := hqN.le
   clear hb3 hq
   go_wp2_with fail
   refine (sum_any hX3.rd hqN.rd (by omega) (by omega)).mono ?_
   rintro e w4 ⟨A4, n4, c4, rfl, hs, hb4⟩
   rw [hX3.val, hqN.val] at hs
   have hX4 := hX3.below hb4
   have hB4 := hB3.trans (hb4.mono hB3.size)
   have hn4 : n4 ≤ 65 := by
    rw [← hs.len, len_dig W_two]
    have a1 := hX3.lt
    have a2 := hqN.lt
    have a3 : W ^ 65 = W ^ 64 * W := Nat.pow_succ ..
    have a4 : W ^ 64 * 2 ≤ W ^ 64 * W := Nat.mul_le_mul_left _ W_two
    generalize x / X = q at *
    generalize W ^ 64 * W = p at *
    generalize W ^ 65 = r at *
    generalize W ^ 64 = t at *
    omega
   clear hb4 hqN
   go_wp2_with fail
   refine (lowered_any (s := 1) hs (by omega) (by omega)).mono ?_
   rintro e w5 ⟨A5, n5, c5, rfl, hl, hb5⟩
   rw [val_dig W_two, Nat.pow_one] at hl
   have hX5 := hX4.below hb5
   have hB5 := hB4.trans (hb5.mono hB4.size)
   clear hb5 hs
   by_cases hlt : (X + x / X) / 2 < X
   ·have hyN : Nt w5 A5 n5 c5 ((X + x / X) / 2) := ⟨hl, Nat.lt_trans hlt hX5.lt⟩
    have HLT := Lib.hid hlt
    have HYN := Lib.hid hyN
    go_wp2_with fail
    refine (order_any hyN.rd hX5.rd hyN.can hX5.can).mono ?_
    rintro e w6 ⟨rfl, hb6⟩
    rw [hyN.val, hX5.val, cmpN_lt hlt]
    have hB6 := hB5.trans (hb6.mono hB5.size)
    have HY6 := Lib.hid (HYN.out.below hb6)
    clear hyN hlt hl hb6 HYN
    go_wp2
    go_roundg ((X + x / X) / 2)
    case measure => have := HG.out; have := HLT.out; omega
    case rel => exact ⟨0, n5, c5, _, A5, Nat.le_refl _, rfl, HY6.out, HNX.out.2, HNX.out.1, hB6, rfl⟩
   ·have hge : X ≤ (X + x / X) / 2 := by omega
    have hcan : Can W (dig W ((X + x / X) / 2)) := can_dig W_two _
    have hcmp : ∃ t : Int, cmpN ((X + x / X) / 2) X = t ∧ 0 ≤ t := by
     refine ⟨_, rfl, ?_⟩
     rcases Nat.lt_or_ge X ((X + x / X) / 2) with h5 | h5
     ·rw [cmpN_gt h5]; decide
     ·rw [cmpN_eq (by omega)]; decide
    obtain ⟨t, ht, ht0⟩ := hcmp
    have HT := Lib.hid ht
    have hex := newton_exit hge
    have HEX := Lib.hid hex
    clear ht hex hge hlt
    go_wp2_with fail
    refine (order_any hl hX5.rd hcan hX5.can).mono ?_
    rintro e w6 ⟨rfl, hb6⟩
    rw [val_dig W_two, hX5.val, HT.out]
    have hB6 := hB5.trans (hb6.mono hB5.size)
    have HX6 := Lib.hid (hX5.below hb6)
    clear hb6 hl
    go_wp2
    go_ret2
    exact ⟨X, HEX.out, HXX.out, B2, n2, c2, rfl, HX6.out, hB6⟩
end Go.Proofs.YtcbkhmejlaaieaaGreatDoor
