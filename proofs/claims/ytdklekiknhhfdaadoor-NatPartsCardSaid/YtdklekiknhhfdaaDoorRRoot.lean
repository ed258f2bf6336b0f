/-
  Contract of the reference's Root at this translation. Condition: the slice reads as digits of sixteen bits, at most four thousand.
-/
import Derived.Test.YtdklekiknhhfdaaDoorRDiv
namespace Go.Proofs.YtdklekiknhhfdaaDoor
open Go.RowKit

theorem root_one {x r s : Nat} (h1 : r * r ≤ x) (h2 : x < (r + 1) * (r + 1)) (h3 : s * s ≤ x) (h4 : x < (s + 1) * (s + 1)) : r = s := by
  rcases Nat.lt_trichotomy r s with h | h | h
  · have : (r + 1) * (r + 1) ≤ s * s := Nat.mul_le_mul h h
    omega
  · exact h
  · have : (s + 1) * (s + 1) ≤ r * r := Nat.mul_le_mul h h
    omega
theorem root_start {x L j : Nat} (hx : x < 2 ^ L) (hj : L ≤ 2 * j) : x < (0 + 2 ^ j) * (0 + 2 ^ j) := by
  rw [Nat.zero_add, ← Nat.pow_add]
  exact Nat.lt_of_lt_of_le hx (Nat.pow_le_pow_right (by omega) (by omega))
theorem root_size {x r i n : Nat} (hx : x < H ^ n) (hr : r * r ≤ x) (hi : i ≤ 16 * n) : r < H ^ n ∧ r + 2 ^ i < H ^ (n + 1) := by
  have h1 : r ≤ r * r := by
    rcases Nat.eq_zero_or_pos r with h | h
    · omega
    · exact Nat.le_mul_of_pos_left r h
  have h2 : 2 ^ i ≤ H ^ n := by rw [H_pow, ← Nat.pow_mul]; exact Nat.pow_le_pow_right (by omega) hi
  have h3 : H ^ n * 2 ≤ H ^ (n + 1) := by rw [Nat.pow_succ]; exact Nat.mul_le_mul_left _ H_two
  omega

set_option maxRecDepth 100000 in
set_option maxHeartbeats 4000000 in
theorem rroot_any {w : World} {A : Option Addr} {n c x s : Nat} (h : Dg w A n c x) (hn : n ≤ 4000) (hs1 : s * s ≤ x) (hs2 : x < (s + 1) * (s + 1)) :
    Calls Tryd.prog 32 #[.slice A n c] w fun e w' => DGives w s e w' := by
  obtain ⟨hL, hxL⟩ := dg_bits h
  have hxn := (len_dig H_two x n).1 (Nat.le_of_eq (Rd.len h))
  have hcap := h.cap
  have hmax := h.max
  have HS1 := Lib.hid hs1
  have HS2 := Lib.hid hs2
  have HXN := Lib.hid hxn
  clear hs1 hs2 hxn
  go_enter Tryd.func32, Tryd.ntmps32
  go_wp2_with fail
  refine (rbits_any h (by omega)).mono ?_
  rintro e w' ⟨rfl, rfl⟩
  generalize blen x = L at *
  have HXL := Lib.hid hxL
  clear hxL
  obtain ⟨j1, hj1⟩ : ∃ j1, j1 = (L + 1) / 2 := ⟨_, rfl⟩
  have e0 : ((L : Int) + 1) / 2 = (j1 : Int) := by omega
  have hLi : (L : Int) ≤ 64000 := by omega
  have hj2 : L ≤ 2 * (j1 + 1) := by omega
  have hj3 : j1 ≤ 8 * n + 1 ∧ j1 ≤ 16 * n := by omega
  have HJ := Lib.hid hj3
  have hj4 : j1 + 1 ≤ 64000 := by omega
  have HE0 := Lib.hid e0
  clear hj1 hj3 e0
  go_wp2
  go_loopg [3, 4] (j1 + 1) (fun g v3 v4 wr => ∃ j r : Nat, ∃ A3 n3 c3, j = g ∧ j ≤ j1 + 1 ∧ v4 = .int .i64 ((j : Int) - 1) ∧ v3 = .slice A3 n3 c3 ∧ Dg wr A3 n3 c3 r ∧ r * r ≤ x ∧ x < (r + 2 ^ j) * (r + 2 ^ j) ∧ Below w.heap.size w wr)
  case atStart => exact ⟨j1 + 1, 0, none, 0, 0, rfl, Nat.le_refl _, by congr 1; have := HE0.out; omega, rfl, dg_nil _, by omega, root_start HXL.out hj2, Below.refl _ _⟩
  case round =>
    obtain ⟨j, r, A3, n3, c3, rfl, hj, hv4, rfl, hr, hr1, hr2, hbw⟩ := hrel
    have HR1 := Lib.hid hr1
    have HR2 := Lib.hid hr2
    clear hr1 hr2
    by_cases h0 : j = 0
    · subst h0
      obtain rfl : _ = Value.int .i64 (-1) := hv4
      have hrs : r = s := root_one HR1.out (by have := HR2.out; rwa [Nat.pow_zero] at this) HS1.out HS2.out
      subst hrs
      clear hj
      go_wp2
      go_ret
      exact ⟨_, _, _, rfl, hr, hbw⟩
    · obtain ⟨i, rfl⟩ : ∃ i, j = i + 1 := ⟨j - 1, by omega⟩
      obtain rfl : _ = Value.int .i64 (i : Int) := hv4.trans (by congr 1; omega)
      obtain ⟨hz1, hz2⟩ := root_size HXN.out HR1.out (i := i) (by have := HJ.out.2; omega)
      have hn3 := dg_small hr hz1
      have HZ := Lib.hid hz2
      clear hv4 h0 hz1 hz2
      have hxw := h.below hbw
      go_wp2_with fail
      have hb3 := below_alloc wr (.cells #[.int .u32 1] 77)
      replace hr := Dg.below hr hb3
      replace hxw := Dg.below hxw hb3
      replace hbw := hbw.trans (hb3.mono hbw.size)
      have h1g := dg_one wr
      clear hb3
      refine (rshl_any h1g (s := i) (by omega) (by omega)).mono ?_
      rintro e w2 ⟨A4, n4, c4, rfl, hp, b⟩
      rw [Nat.one_mul] at hp
      replace hr := hr.below b
      replace hxw := hxw.below b
      replace hbw := hbw.trans (b.mono hbw.size)
      clear b h1g
      have hn4 := dg_small hp (Nat.lt_of_le_of_lt (Nat.le_add_left _ r) HZ.out)
      go_wp2_with fail
      refine (radd_any hr hp (by omega) (by omega)).mono ?_
      rintro e w3 ⟨A5, n5, c5, rfl, ht, b⟩
      replace hr := hr.below b
      replace hxw := hxw.below b
      replace hbw := hbw.trans (b.mono hbw.size)
      clear b hp
      have hn5 := dg_small ht HZ.out
      go_wp2_with fail
      refine (rmul_any ht ht (by omega) (by omega)).mono ?_
      rintro e w4 ⟨A6, n6, c6, rfl, hq, b⟩
      replace hr := hr.below b
      replace ht := ht.below b
      replace hxw := hxw.below b
      replace hbw := hbw.trans (b.mono hbw.size)
      clear b
      go_wp2_with fail
      refine (rcmp_any hq hxw).mono ?_
      rintro e w5 ⟨rfl, b⟩
      replace hr := hr.below b
      replace ht := ht.below b
      replace hbw := hbw.trans (b.mono hbw.size)
      clear b hxw hq
      obtain ⟨t, htt⟩ : ∃ t, t = cmpN ((r + 2 ^ i) * (r + 2 ^ i)) x := ⟨_, rfl⟩
      obtain ⟨s1, s2, s3, s4⟩ := cmp_swap ((r + 2 ^ i) * (r + 2 ^ i)) x
      obtain ⟨_, _, _, s5⟩ := cmp_swap x ((r + 2 ^ i) * (r + 2 ^ i))
      rw [s1] at s5
      rw [← htt] at s2 s3 s4 s5 ⊢
      clear htt s1
      by_cases hle : (r + 2 ^ i) * (r + 2 ^ i) ≤ x
      · have ht0 : t ≤ 0 := by omega
        have dt : decide (t ≤ 0) = true := decide_eq_true ht0
        have HLE := Lib.hid hle
        have HR3 : Hid (x < (r + 2 ^ i + 2 ^ i) * (r + 2 ^ i + 2 ^ i)) := by
          have := HR2.out
          rw [Nat.pow_succ, Nat.mul_two, ← Nat.add_assoc] at this
          exact Lib.hid this
        clear s4 s5 hle hr
        go_wp2
        go_roundg i
        case measure => omega
        case rel => exact ⟨i, r + 2 ^ i, A5, n5, c5, rfl, by omega, by first | rfl | go_num, rfl, ht, HLE.out, HR3.out, hbw⟩
      · have ht0 : 0 < t := by omega
        have dt : decide (t ≤ 0) = false := decide_eq_false (by omega)
        have HLE := Lib.hid (Nat.not_le.1 hle)
        clear s4 s5 hle ht
        go_wp2
        go_roundg i
        case measure => omega
        case rel => exact ⟨i, r, A3, n3, c3, rfl, by omega, by first | rfl | go_num, rfl, hr, HR1.out, HLE.out, hbw⟩
end Go.Proofs.YtdklekiknhhfdaaDoor
