/-
  Contract of the statement NatCaps' function at this translation: it returns true, whatever its arguments. Condition: the table of math/bits reads as its text lays it.
-/
import Derived.Test.YtkpcmgfpmekkjaaDoorQQuotB
namespace Go.Proofs.YtkpcmgfpmekkjaaDoor
open Go.RowKit

/-- A slice that reads as a natural that may be. -/
structure Nt (w : World) (A : Option Addr) (n c x : Nat) : Prop where
  rd : Rd w .u64 W A n c (dig W x)
  lt : x < W ^ 64

theorem Nt.le {w : World} {A : Option Addr} {n c x : Nat} (h : Nt w A n c x) : n ≤ 64 := by
  rw [← h.rd.len]; exact (len_dig W_two _ _).2 h.lt
theorem Nt.below {w w' : World} {A : Option Addr} {n c x : Nat} (h : Nt w A n c x) (hb : Below w.heap.size w w') : Nt w' A n c x := ⟨h.rd.below hb, h.lt⟩
theorem Nt.grownNone {w w' : World} {A : Option Addr} {n c x : Nat} (h : Nt w A n c x) (hg : w.grownBy w' none) : Nt w' A n c x := ⟨h.rd.grownNone hg, h.lt⟩
theorem Nt.val {w : World} {A : Option Addr} {n c x : Nat} (_h : Nt w A n c x) : val W (dig W x) = x := val_dig W_two x
theorem Nt.can {w : World} {A : Option Addr} {n c x : Nat} (_h : Nt w A n c x) : Can W (dig W x) := can_dig W_two x
theorem Nt.zero {w : World} {A : Option Addr} {n c x : Nat} (h : Nt w A n c x) : n = 0 ↔ x = 0 := by
  rw [← h.rd.len]; exact dig_len_zero W_two

theorem mayB_dig {x : Nat} (h : x < W ^ 64) : mayB (dig W x) = true := by
  unfold mayB
  have h1 : (dig W x).length ≤ 64 := (len_dig W_two _ _).2 h
  have h2 := (can_dig W_two x).2
  by_cases h0 : (dig W x).length = 0
  · simp [h0]
  · simp only [h1, decide_true, Bool.true_and, Bool.or_eq_true, decide_eq_true_eq]
    exact .inr (h2 h0)
theorem may_nt {w : World} {A : Option Addr} {n c x : Nat} (h : Nt w A n c x) : Calls Tryd.prog 44 #[.slice A n c] w fun e w' => e = .returned (.bool true) ∧ w = w' := by
  have := may_any h.rd
  rwa [mayB_dig h.lt] at this

def ResOk (w : World) (x : Nat) (e : Ending) (w' : World) : Prop :=
  ∃ A n c, e = .returned (.tuple #[.slice A n c, .int .i64 0]) ∧ Nt w' A n c x ∧ Below w.heap.size w w'
def ResBad (w : World) (code : Int) (e : Ending) (w' : World) : Prop :=
  e = .returned (.tuple #[.slice none 0 0, .int .i64 code]) ∧ Below w.heap.size w w'

theorem fits_ok {w : World} {A : Option Addr} {n c x : Nat} (h : Nt w A n c x) : Calls Tryd.prog 97 #[.slice A n c] w fun e w' => e = .returned (.tuple #[.slice A n c, .int .i64 0]) ∧ w = w' := by
  have hn := h.le
  go_enter Tryd.func97, Tryd.ntmps97
  go_wp2
  go_ret2
  exact ⟨rfl, rfl⟩
theorem fits_over {w : World} {A : Option Addr} {n c : Nat} (h : 64 < n) (hn : n ≤ 1000000000) : Calls Tryd.prog 97 #[.slice A n c] w fun e w' => e = .returned (.tuple #[.slice none 0 0, .int .i64 2]) ∧ w = w' := by
  go_enter Tryd.func97, Tryd.ntmps97
  go_wp2
  go_ret2
  exact ⟨rfl, rfl⟩

theorem add_ok {w : World} {A B : Option Addr} {n c m d x y : Nat} (h : Nt w A n c x) (h' : Nt w B m d y) (hs : x + y < W ^ 64) :
    Calls Tryd.prog 92 #[.slice A n c, .slice B m d] w fun e w' => ResOk w (x + y) e w' := by
  have hn := h.le
  have hm := h'.le
  go_enter Tryd.func92, Tryd.ntmps92
  go_wp2_with fail
  refine (may_nt h).mono ?_
  rintro e w' ⟨rfl, rfl⟩
  go_wp2_with fail
  refine (may_nt h').mono ?_
  rintro e w' ⟨rfl, rfl⟩
  go_wp2_with fail
  refine (sum_any h.rd h'.rd (by omega) (by omega)).mono ?_
  rintro e w1 ⟨A1, n1, c1, rfl, hr1, hb1⟩
  rw [h.val, h'.val] at hr1
  have hN : Nt w1 A1 n1 c1 (x + y) := ⟨hr1, hs⟩
  go_wp2_with fail
  refine (fits_ok hN).mono ?_
  rintro e w' ⟨rfl, rfl⟩
  go_wp2
  go_ret2
  exact ⟨A1, n1, c1, rfl, hN, hb1⟩
theorem add_over {w : World} {A B : Option Addr} {n c m d x y : Nat} (h : Nt w A n c x) (h' : Nt w B m d y) (hs : W ^ 64 ≤ x + y) :
    Calls Tryd.prog 92 #[.slice A n c, .slice B m d] w fun e w' => ResBad w 2 e w' := by
  have hn := h.le
  have hm := h'.le
  go_enter Tryd.func92, Tryd.ntmps92
  go_wp2_with fail
  refine (may_nt h).mono ?_
  rintro e w' ⟨rfl, rfl⟩
  go_wp2_with fail
  refine (may_nt h').mono ?_
  rintro e w' ⟨rfl, rfl⟩
  go_wp2_with fail
  refine (sum_any h.rd h'.rd (by omega) (by omega)).mono ?_
  rintro e w1 ⟨A1, n1, c1, rfl, hr1, hb1⟩
  rw [h.val, h'.val] at hr1
  have h64 : 64 < n1 := by
    rw [← hr1.len]
    rcases Nat.lt_or_ge 64 (dig W (x + y)).length with h5 | h5
    · exact h5
    · have := (len_dig W_two _ _).1 h5
      omega
  have hn1 : n1 ≤ 1000000000 := by
    rw [← hr1.len]
    have h65 : x + y < W ^ 65 := by
      have h1 := h.lt
      have h2 := h'.lt
      have h3 : W ^ 65 = W ^ 64 * W := Nat.pow_succ ..
      have h4 : W ^ 64 * 2 ≤ W ^ 64 * W := Nat.mul_le_mul_left _ W_two
      generalize W ^ 65 = p at *
      generalize W ^ 64 * W = q at *
      generalize W ^ 64 = r at *
      omega
    have := (len_dig W_two _ _).2 h65
    omega
  go_wp2_with fail
  refine (fits_over h64 hn1).mono ?_
  rintro e w' ⟨rfl, rfl⟩
  go_wp2
  go_ret2
  exact ⟨rfl, hb1⟩
theorem cmp_nt {w : World} {A B : Option Addr} {n c m d x y : Nat} (h : Nt w A n c x) (h' : Nt w B m d y) :
    Calls Tryd.prog 50 #[.slice A n c, .slice B m d] w fun e w' => e = .returned (.int .i64 (cmpN x y)) ∧ Below w.heap.size w w' := by
  go_enter Tryd.func50, Tryd.ntmps50
  go_wp2_with fail
  refine (may_nt h).mono ?_
  rintro e w' ⟨rfl, rfl⟩
  go_wp2_with fail
  refine (may_nt h').mono ?_
  rintro e w' ⟨rfl, rfl⟩
  go_wp2_with fail
  refine (order_any h.rd h'.rd h.can h'.can).mono ?_
  rintro e w1 ⟨rfl, hb1⟩
  rw [h.val, h'.val]
  go_wp2
  go_ret
  exact ⟨rfl, hb1⟩

theorem takeTimes_nil {w : World} {A B : Option Addr} {c d : Nat} {x : Int} :
    Calls Tryd.prog 99 #[.slice A 0 c, .slice B 0 d, .int .u64 x] w fun e w' => e = .returned (.int .u64 0) ∧ w = w' := by
  go_enter Tryd.func99, Tryd.ntmps99
  go_wp2
  go_step3
  go_wp2
  go_step3
  go_wp2
  refine wp_loop_rounds 1 ?_
  rw [rounds_succ]
  go_wp2
  rw [Exit.noGoto_ret]
  go_ret
  exact ⟨rfl, rfl⟩

theorem sub_ok {w : World} {A B : Option Addr} {n c m d x y : Nat} (h : Nt w A n c x) (h' : Nt w B m d y) (hs : y ≤ x) :
    Calls Tryd.prog 95 #[.slice A n c, .slice B m d] w fun e w' => ResOk w (x - y) e w' := by
  have hn := h.le
  have hm := h'.le
  have hcmp : ∃ t : Int, cmpN x y = t ∧ 0 ≤ t := by
    refine ⟨_, rfl, ?_⟩
    rcases Nat.lt_or_ge y x with h1 | h1
    · rw [cmpN_gt h1]; decide
    · rw [cmpN_eq (by omega)]; decide
  obtain ⟨t, ht, ht0⟩ := hcmp
  have HT := Lib.hid ht
  clear ht
  have hmn : m ≤ n := by
    rw [← h.rd.len, ← h'.rd.len]; exact len_dig_mono W_two hs
  go_enter Tryd.func95, Tryd.ntmps95
  go_wp2_with fail
  refine (may_nt h).mono ?_
  rintro e w' ⟨rfl, rfl⟩
  go_wp2_with fail
  refine (may_nt h').mono ?_
  rintro e w' ⟨rfl, rfl⟩
  go_wp2_with fail
  refine (order_any h.rd h'.rd h.can h'.can).mono ?_
  rintro e w1 ⟨rfl, hb1⟩
  rw [h.val, h'.val, HT.out]
  go_wp2_with fail
  refine (clone_any (h.below hb1).rd (by omega)).mono ?_
  rintro e w2 ⟨A2, c2, rfl, hrd2, hb2, hrow2⟩
  by_cases h0 : n = 0
  · subst h0
    have hx0 : x = 0 := h.zero.1 rfl
    obtain rfl : m = 0 := by omega
    have hrd3 := hrd2
    rw [hx0, dig_zero] at hrd3
    have HX := Lib.hid hx0
    clear hx0
    go_wp2_with fail
    refine (takeTimes_nil (x := 1)).mono ?_
    rintro e w' ⟨rfl, rfl⟩
    go_wp2_with fail
    refine (trimmed_any hrd3).mono ?_
    rintro e w' ⟨rfl, rfl⟩
    have e0 : (dig W (val W [])).length = 0 := by rw [val_nil, dig_zero]; rfl
    rw [e0]
    go_wp2
    go_ret2
    exact ⟨_, _, _, rfl, ⟨by rw [HX.out, Nat.zero_sub, dig_zero]; exact hrd3, by rw [HX.out, Nat.zero_sub]; exact Nat.pow_pos (by rw [W_eq]; omega)⟩, hb1.trans (hb2.mono hb1.size)⟩
  · obtain ⟨g, post, rfl, hg, hrow⟩ := hrow2 h0
    have hN' := (h'.below hb1)
    have hne : m ≠ 0 → ∀ a, B = some a → a.block ≠ g := by
      intro hm0 a ha
      obtain ⟨b, o, e, hb, _⟩ := hN'.rd.at_ hm0
      rw [e] at ha
      injection ha with ha
      subst ha
      show b ≠ _
      omega
    have hc2 := hrd2.cap
    have hcm2 := hrd2.max
    go_wp2_with fail
    refine (takeTimes_any (x := 1) hrow (lt_dig W_two x) h.rd.len hc2 hcm2 ((hN'.below hb2).rd) hmn hne (by omega)).mono ?_
    rintro e w3 ⟨xs', ca, rfl, hca, hrow3, hgrow3, hlen3, hlt3, hval3⟩
    rw [val_dig W_two, val_dig W_two, Nat.one_mul] at hval3
    have hv : val W xs' = x - y := by
      have h1 := val_lt hlt3
      rw [hlen3] at h1
      have h2 : ca = 0 := by
        rcases Nat.eq_zero_or_pos ca with h3 | h3
        · exact h3
        · have : W ^ (dig W x).length * 1 ≤ W ^ (dig W x).length * ca := Nat.mul_le_mul_left _ h3
          omega
      subst h2
      omega
    have hrd3 := hrow3.rd' hlt3 (hlen3.trans h.rd.len) hc2 hcm2
    have HV := Lib.hid hv
    have hb3 : Below w.heap.size w w3 := below_row (hb1.trans (hb2.mono hb1.size)) hgrow3 (by have := hb1.size; omega)
    clear hval3 hv hlen3
    go_wp2_with fail
    refine (trimmed_any hrd3).mono ?_
    rintro e w' ⟨rfl, rfl⟩
    have hrd4 := rd_trimmed hrd3
    rw [HV.out] at hrd4
    rw [HV.out]
    go_wp2
    go_ret2
    exact ⟨_, _, _, rfl, ⟨hrd4, Nat.lt_of_le_of_lt (Nat.sub_le _ _) h.lt⟩, hb3⟩
end Go.Proofs.YtkpcmgfpmekkjaaDoor

namespace Go.Proofs.YtkpcmgfpmekkjaaDoor
open Go.RowKit

theorem W64_pow : W ^ 64 = 2 ^ (64 * 64) := by rw [W_pow, ← Nat.pow_mul]

/-- how many bits -/
def blen (x : Nat) : Nat := (dig 2 x).length
theorem blen_le (x k : Nat) : blen x ≤ k ↔ x < 2 ^ k := len_dig (by omega) x k
theorem blen_eq {x k : Nat} (h1 : 2 ^ k ≤ x) (h2 : x < 2 ^ (k + 1)) : blen x = k + 1 := by
  have a := (blen_le x (k + 1)).2 h2
  have b : ¬ blen x ≤ k := by rw [blen_le]; omega
  omega
theorem blen_zero : blen 0 = 0 := by unfold blen; rw [dig_zero]; rfl
theorem blen_pos {x : Nat} (h : x ≠ 0) : 2 ^ (blen x - 1) ≤ x ∧ x < 2 ^ blen x ∧ 1 ≤ blen x :=
  ⟨len_dig_pos (by omega) h, (blen_le x _).1 (Nat.le_refl _), by have := dig_ne_nil (B := 2) (by omega) h; unfold blen; omega⟩
theorem bitLen_blen {x : Nat} (h1 : x ≠ 0) (h2 : x < 18446744073709551616) : Lib.bitLen x = blen x := by
  have hb := Lib.bitLenAux_bounds 64 x h2 h1
  have hd : Lib.bitLen x = Lib.bitLenAux 64 x := rfl
  rw [← hd] at hb
  obtain ⟨k, hk⟩ : ∃ k, Lib.bitLen x = k + 1 := ⟨Lib.bitLen x - 1, by omega⟩
  rw [hk] at hb ⊢
  rw [Nat.add_sub_cancel] at hb
  exact (blen_eq hb.2.1 hb.2.2).symm
theorem blen_top {l : List Nat} {k t : Nat} (hl : Lt W l) (hn : l.length = k + 1) (ht : t = l.getD k 0) (h0 : t ≠ 0) : blen (val W l) = k * 64 + blen t := by
  have hv := take_val' (B := W) l k
  rw [List.take_of_length_le (by omega), ← ht] at hv
  have hlt := val_lt (hl.take k)
  rw [List.length_take, Nat.min_eq_left (by omega)] at hlt
  obtain ⟨b1, b2, b3⟩ := blen_pos h0
  obtain ⟨j, hj⟩ : ∃ j, blen t = j + 1 := ⟨blen t - 1, by omega⟩
  rw [hj] at b1 b2 ⊢
  rw [Nat.add_sub_cancel] at b1
  have hW : W ^ k = 2 ^ (k * 64) := by rw [W_pow, ← Nat.pow_mul, Nat.mul_comm]
  have e1 : 2 ^ (k * 64 + j) ≤ val W l := by
    rw [Nat.pow_add, ← hW]
    have : W ^ k * 2 ^ j ≤ W ^ k * t := Nat.mul_le_mul_left _ b1
    omega
  have e2 : val W l < 2 ^ (k * 64 + j + 1) := by
    rw [Nat.add_assoc, Nat.pow_add, ← hW]
    have : W ^ k * (t + 1) ≤ W ^ k * 2 ^ (j + 1) := Nat.mul_le_mul_left _ b2
    rw [Nat.mul_add, Nat.mul_one] at this
    omega
  rw [blen_eq e1 e2, Nat.add_assoc]

theorem bitLen_any {w : World} {A : Option Addr} {n c : Nat} {l : List Nat} (h : Rd w .u64 W A n c l) (hl : Can W l) (hn : n ≤ 1000000) (h0 : n ≠ 0) :
    Calls Tryd.prog 78 #[.slice A n c] w fun e w' => e = .returned (.int .i64 (blen (val W l) : Int)) ∧ w = w' := by
  obtain ⟨k, rfl⟩ : ∃ k, n = k + 1 := ⟨n - 1, by omega⟩
  obtain ⟨b, o, rfl, hb, hc⟩ := h.at_ (by omega)
  obtain ⟨t, ht⟩ : ∃ t, t = l.getD k 0 := ⟨_, rfl⟩
  have htB : t < 18446744073709551616 := by rw [ht, ← W_eq]; exact h.lt.getD (by rw [W_eq]; omega) _
  have ht0 : t ≠ 0 := by
    have := hl.2 (by rw [h.len]; omega)
    rw [h.len, Nat.add_sub_cancel, ← ht] at this
    exact this
  have hcell : w.cell? ⟨b, o + k, none⟩ = some (.int .u64 (t : Int)) := by rw [ht]; exact hc k (by omega)
  have HB := Lib.hid (blen_top h.lt h.len ht ht0)
  have hbt : blen t ≤ 64 := (blen_le t 64).2 htB
  have hcall : ∀ wx, Calls Tryd.prog 87 #[.int .u64 (t : Int)] wx fun e w' => e = .returned (.int .i64 (blen t : Int)) ∧ wx = w' := fun wx =>
    (Tryd.bits_Len64 t wx (by omega) (by omega)).mono fun e w' ⟨he, hw⟩ => ⟨by rw [he, Int.toNat_natCast, bitLen_blen ht0 htB], hw.symm⟩
  have HC := Lib.hid hcall
  rw [HB.out]
  obtain ⟨q, hq⟩ : ∃ q, q = blen t := ⟨_, rfl⟩
  rw [← hq] at HC hbt ⊢
  clear hcall hc ht ht0 hq HB
  have e1 : (((k + 1 : Nat)) : Int) - 1 = (k : Int) := by omega
  have e2 : ((k * 64 + q : Nat) : Int) = (k : Int) * 64 + (q : Int) := by omega
  rw [e2]
  clear e2
  go_enter Tryd.func78, Tryd.ntmps78
  go_wp2_with fail
  refine (HC.out _).mono ?_
  rintro e w' ⟨rfl, rfl⟩
  go_wp2
  go_ret
  exact ⟨rfl, rfl⟩

theorem len_nt {w : World} {A : Option Addr} {n c x : Nat} (h : Nt w A n c x) : Calls Tryd.prog 64 #[.slice A n c] w fun e w' => e = .returned (.int .i64 (blen x : Int)) ∧ w = w' := by
  have hn := h.le
  by_cases h0 : n = 0
  · have hx := h.zero.1 h0
    rw [hx, blen_zero]
    have f0 : ((n : Int) == 0) = true := by simp [h0]
    clear h0
    go_enter Tryd.func64, Tryd.ntmps64
    go_wp2_with fail
    refine (may_nt h).mono ?_
    rintro e w' ⟨rfl, rfl⟩
    go_wp2
    go_ret
    exact ⟨rfl, rfl⟩
  · have f0 : ((n : Int) == 0) = false := by simp [h0]
    go_enter Tryd.func64, Tryd.ntmps64
    go_wp2_with fail
    refine (may_nt h).mono ?_
    rintro e w' ⟨rfl, rfl⟩
    go_wp2_with fail
    refine (bitLen_any h.rd h.can (by omega) h0).mono ?_
    rintro e w' ⟨rfl, rfl⟩
    rw [h.val]
    go_wp2
    go_ret
    exact ⟨rfl, rfl⟩

theorem shr_ok {w : World} {A : Option Addr} {n c x s : Nat} (h : Nt w A n c x) (hs : s ≤ 64000000) :
    Calls Tryd.prog 96 #[.slice A n c, .int .i64 s] w fun e w' => ResOk w (x / 2 ^ s) e w' := by
  have hn := h.le
  go_enter Tryd.func96, Tryd.ntmps96
  go_wp2_with fail
  refine (may_nt h).mono ?_
  rintro e w' ⟨rfl, rfl⟩
  go_wp2_with fail
  refine (lowered_any h.rd (by omega) hs).mono ?_
  rintro e w1 ⟨A1, n1, c1, rfl, hr1, hb1⟩
  rw [h.val] at hr1
  go_wp2
  go_ret2
  exact ⟨A1, n1, c1, rfl, ⟨hr1, Nat.lt_of_le_of_lt (Nat.div_le_self _ _) h.lt⟩, hb1⟩

theorem shl_ok {w : World} {A : Option Addr} {n c x s : Nat} (h : Nt w A n c x) (hs : s ≤ 1000000) (hlt : x * 2 ^ s < W ^ 64) :
    Calls Tryd.prog 67 #[.slice A n c, .int .i64 s] w fun e w' => ResOk w (x * 2 ^ s) e w' := by
  have hn := h.le
  by_cases h0 : n = 0
  · have hx := h.zero.1 h0
    have f0 : ((n : Int) == 0) = true := by simp [h0]
    have HX := Lib.hid hx
    clear h0 hx
    go_enter Tryd.func67, Tryd.ntmps67
    go_wp2_with fail
    refine (may_nt h).mono ?_
    rintro e w' ⟨rfl, rfl⟩
    go_wp2
    go_ret2
    exact ⟨none, 0, 0, rfl, ⟨by rw [HX.out, Nat.zero_mul, dig_zero]; exact Rd.nil _ _ _ _ (by omega), hlt⟩, Below.refl _ _⟩
  · have f0 : ((n : Int) == 0) = false := by simp [h0]
    have hx0 : x ≠ 0 := by rw [ne_eq, ← h.zero]; exact h0
    have hbl : blen x + s ≤ 4096 := by
      obtain ⟨b1, b2, b3⟩ := blen_pos hx0
      have h1 : 2 ^ (blen x - 1) * 2 ^ s ≤ x * 2 ^ s := Nat.mul_le_mul_right _ b1
      have h2 : 2 ^ (blen x - 1 + s) < 2 ^ (64 * 64) := by
        rw [Nat.pow_add]
        exact Nat.lt_of_le_of_lt h1 (Nat.lt_of_lt_of_eq hlt W64_pow)
      have := (Nat.pow_lt_pow_iff_right (a := 2) (by omega)).1 h2
      omega
    obtain ⟨q, hq⟩ : ∃ q, q = blen x := ⟨_, rfl⟩
    have HQ := Lib.hid hq
    rw [← hq] at hbl
    clear hq
    go_enter Tryd.func67, Tryd.ntmps67
    go_wp2_with fail
    refine (may_nt h).mono ?_
    rintro e w' ⟨rfl, rfl⟩
    go_wp2_with fail
    refine (bitLen_any h.rd h.can (by omega) h0).mono ?_
    rintro e w' ⟨rfl, rfl⟩
    rw [h.val, ← HQ.out]
    go_wp2_with fail
    refine (raised_any h.rd (by omega) (by omega)).mono ?_
    rintro e w1 ⟨g1, n1, c1, rfl, hg1, hr1, hb1⟩
    rw [h.val] at hr1
    go_wp2
    go_ret2
    exact ⟨_, n1, c1, rfl, ⟨hr1, hlt⟩, hb1⟩
theorem shl_over {w : World} {A : Option Addr} {n c x s : Nat} (h : Nt w A n c x) (hx0 : x ≠ 0) (hov : W ^ 64 ≤ x * 2 ^ s) :
    Calls Tryd.prog 67 #[.slice A n c, .int .i64 s] w fun e w' => e = .returned (.tuple #[.slice none 0 0, .int .i64 2]) ∧ w = w' := by
  have hn := h.le
  have h0 : n ≠ 0 := by rw [ne_eq, h.zero]; exact hx0
  have f0 : ((n : Int) == 0) = false := by simp [h0]
  have hbl : 4096 < blen x + s := by
    obtain ⟨b1, b2, b3⟩ := blen_pos hx0
    have h1 : x * 2 ^ s < 2 ^ blen x * 2 ^ s := Nat.mul_lt_mul_of_pos_right b2 (Nat.pow_pos (by omega))
    rw [← Nat.pow_add] at h1
    have h2 : 2 ^ (64 * 64) < 2 ^ (blen x + s) := Nat.lt_of_le_of_lt (Nat.le_trans (Nat.le_of_eq W64_pow.symm) hov) h1
    have := (Nat.pow_lt_pow_iff_right (a := 2) (by omega)).1 h2
    omega
  have hbm : blen x ≤ 64 * 64 := (blen_le _ _).2 (Nat.lt_of_lt_of_eq h.lt W64_pow)
  obtain ⟨q, hq⟩ : ∃ q, q = blen x := ⟨_, rfl⟩
  have HQ := Lib.hid hq
  rw [← hq] at hbl hbm
  clear hq hov
  go_enter Tryd.func67, Tryd.ntmps67
  go_wp2_with fail
  refine (may_nt h).mono ?_
  rintro e w' ⟨rfl, rfl⟩
  go_wp2_with fail
  refine (bitLen_any h.rd h.can (by omega) h0).mono ?_
  rintro e w' ⟨rfl, rfl⟩
  rw [h.val, ← HQ.out]
  go_wp2
  go_ret2
  exact ⟨rfl, rfl⟩
end Go.Proofs.YtkpcmgfpmekkjaaDoor

namespace Go.Proofs.YtkpcmgfpmekkjaaDoor
open Go.RowKit

/-- k noughts at the end -/
def IsLow (x k : Nat) : Prop := ∃ m, x = 2 ^ k * (2 * m + 1)
theorem IsLow.unique {x a b : Nat} (h : IsLow x a) (h' : IsLow x b) : a = b := by
  have key : ∀ {x a b : Nat}, IsLow x a → IsLow x b → ¬ a < b := by
    rintro x a b ⟨m, rfl⟩ ⟨k, hk⟩ hlt
    obtain ⟨d, rfl⟩ : ∃ d, b = a + 1 + d := ⟨b - a - 1, by omega⟩
    have e : 2 ^ (a + 1 + d) * (2 * k + 1) = 2 ^ a * (2 * (2 ^ d * (2 * k + 1))) := by
      rw [Nat.pow_add, Nat.pow_succ]; ac_rfl
    rw [e] at hk
    have := Nat.eq_of_mul_eq_mul_left (Nat.pow_pos (by omega)) hk
    omega
  have := key h h'
  have := key h' h
  omega
theorem low_limb {l : List Nat} {i x k : Nat} (hz : ∀ j, j < i → l.getD j 0 = 0) (hi : i < l.length) (hx : x = l.getD i 0) (hk : IsLow x k) (hk64 : k < 64) : IsLow (val W l) (64 * i + k) := by
  obtain ⟨m, hm⟩ := hk
  have h1 := val_take_drop (B := W) l i
  have h2 : val W (l.take i) = 0 := val_zero_of (fun j hj => by
    have hj' : j < i := by rw [List.length_take] at hj; omega
    have := hz j hj'
    rw [List.getD_eq_getElem?_getD] at this ⊢
    rw [List.getElem?_take, if_pos hj']
    exact this)
  have h3 : l.drop i = x :: l.drop (i + 1) := by
    rw [List.drop_eq_getElem_cons hi, hx, List.getD_eq_getElem?_getD, List.getElem?_eq_getElem hi, Option.getD_some]
  have h4 : (l.take i).length = i := by rw [List.length_take]; omega
  rw [h2, h3, h4, val_cons, Nat.zero_add] at h1
  -- W = 2 ^ (k + 1) * 2 ^ (63 - k)
  have h5 : W = 2 ^ k * (2 * 2 ^ (63 - k)) := by
    rw [W_pow, ← Nat.pow_succ', ← Nat.pow_add]; congr 1; omega
  have h6 : W ^ i = 2 ^ (64 * i) := by rw [W_pow, ← Nat.pow_mul]
  refine ⟨m + 2 ^ (63 - k) * val W (l.drop (i + 1)), ?_⟩
  rw [h1, h6, Nat.pow_add, Nat.mul_assoc]
  congr 1
  have h7 : W * val W (l.drop (i + 1)) = 2 ^ k * (2 * (2 ^ (63 - k) * val W (l.drop (i + 1)))) := by
    generalize val W (l.drop (i + 1)) = r
    rw [h5]
    ac_rfl
  rw [h7, hm, ← Nat.mul_add]
  congr 1
  omega

def Tab (w : World) : Prop := TabAt 0 Lib.deBruijn64tab w
theorem Tab.below {w w' : World} (h : Tab w) (hb : Below w.heap.size w w') : Tab w' := fun j hj => by
  have hc := h j hj
  have hl : (⟨0, j, none⟩ : Addr).block < w.heap.size := World.block_lt_of_cell? w _ hc
  exact (hb.cell hl).trans hc

theorem tz_any {w : World} (hT : Tab w) {x : Nat} (h1 : x ≠ 0) (h2 : x < 18446744073709551616) : ∃ k : Nat, k < 64 ∧ IsLow x k ∧ Calls Tryd.prog 45 #[.int .u64 x] w fun e w' => e = .returned (.int .i64 (k : Int)) ∧ w = w' := by
  obtain ⟨m, hm, hk⟩ := Lib.ctzFrom_spec 64 x (by omega) h2
  have e : Lib.ctz 64 x = Lib.ctzFrom 64 x := by simp [Lib.ctz, h1]
  refine ⟨Lib.ctzFrom 64 x, hk, ⟨m, hm⟩, (Tryd.bits_TrailingZeros64 x h2 w (fun _ => hT)).mono fun e' w' ⟨he, hw⟩ => ⟨by rw [he, e], hw.symm⟩⟩

theorem low_nt {w : World} {A : Option Addr} {n c x : Nat} (hT : Tab w) (h : Nt w A n c x) (h0 : x ≠ 0) :
    Calls Tryd.prog 23 #[.slice A n c] w fun e w' => ∃ k : Nat, e = .returned (.int .i64 (k : Int)) ∧ IsLow x k ∧ w = w' := by
  have hn := h.le
  have hn0 : n ≠ 0 := by rw [ne_eq, h.zero]; exact h0
  obtain ⟨a, o, rfl, ha, hc⟩ := h.rd.at_ hn0
  have HC := Lib.hid hc
  clear hc
  go_enter Tryd.func23, Tryd.ntmps23
  go_wp2
  go_step3
  go_wp2_with fail
  refine (may_nt h).mono ?_
  rintro e w' ⟨rfl, rfl⟩
  go_wp2
  go_step3
  go_wp2
  go_loopg [3, 11] n (fun g v3 v wr => ∃ i : Nat, i + g = n ∧ v = .int .i64 i ∧ v3 = .int .i64 ((64 : Int) * i) ∧ (∀ j, j < i → (dig W x).getD j 0 = 0) ∧ w = wr)
  case atStart => exact ⟨0, by omega, rfl, rfl, fun j hj => absurd hj (by omega), rfl⟩
  case round =>
    obtain ⟨i, hg, rfl, rfl, hz, rfl⟩ := hrel
    have HG := Lib.hid hg
    have HZ : Hid (∀ j, j < i → (dig W x).getD j 0 = 0) := hz
    clear hg hz
    have hi : i < n := by
      rcases Nat.lt_or_ge i n with h1 | h1
      · exact h1
      · exfalso
        have hv := val_zero_of (B := W) (l := dig W x) (fun j hj => HZ.out j (by rw [h.rd.len] at hj; omega))
        rw [val_dig W_two] at hv
        exact h0 hv
    obtain ⟨y, hy⟩ : ∃ y, y = (dig W x).getD i 0 := ⟨_, rfl⟩
    have hyB : y < 18446744073709551616 := by rw [hy, ← W_eq]; exact h.rd.lt.getD (by rw [W_eq]; omega) _
    have hcell : w.cell? ⟨a, o + i, none⟩ = some (.int .u64 (y : Int)) := by rw [hy]; exact HC.out i hi
    have HY := Lib.hid hy
    clear hy
    by_cases hy0 : y = 0
    · subst hy0
      go_wp2
      go_roundg (gk - 1)
      case measure => have := HG.out; omega
      case rel => exact ⟨i + 1, by have := HG.out; omega, by go_num, by first | go_num | (congr 1; omega), fun j hj => by
        rcases Nat.lt_or_ge j i with h1 | h1
        · exact HZ.out j h1
        · obtain rfl : j = i := by omega
          exact HY.out.symm, rfl⟩
    · have f1 : ((y : Int) == 0) = false := by simp [hy0]
      obtain ⟨k, hk64, hlow, hcall⟩ := tz_any hT hy0 hyB
      have HCALL := Lib.hid hcall
      have hl := low_limb HZ.out (by rw [h.rd.len]; exact hi) HY.out hlow hk64
      rw [val_dig W_two] at hl
      have HL := Lib.hid hl
      clear hcall hlow hl hy0
      go_wp2_with fail
      refine HCALL.out.mono ?_
      rintro e w' ⟨rfl, rfl⟩
      go_wp2
      rw [Exit.noGoto_ret]
      go_ret
      exact ⟨64 * i + k, rfl, HL.out, rfl⟩
end Go.Proofs.YtkpcmgfpmekkjaaDoor

namespace Go.Proofs.YtkpcmgfpmekkjaaDoor
open Go.RowKit

theorem dig_one {v : Nat} (h0 : v ≠ 0) (hv : v < W) : dig W v = [v] := by
  rw [dig_pos W_two h0, Nat.mod_eq_of_lt hv, Nat.div_eq_of_lt hv, dig_zero]
theorem row_lit (w : World) (vs : List Nat) : Row (w.alloc (.cells (iv .u64 vs).toArray 52)) w.heap.size 52 .u64 0 [] vs [] :=
  ⟨by rw [List.nil_append, List.append_nil]; exact heap_alloc_new w _, rfl⟩
theorem nt_one (w : World) {v : Nat} (h0 : v ≠ 0) (hv : v < W) : Nt (w.alloc (.cells #[.int .u64 (v : Int)] 52)) (some ⟨w.heap.size, 0, none⟩) 1 1 v := by
  refine ⟨?_, Nat.lt_of_lt_of_le hv ?_⟩
  · rw [dig_one h0 hv]
    exact (row_lit w [v]).rd' (Lt.cons hv Lt.nil) rfl (Nat.le_refl _) (by omega)
  · have := Nat.pow_le_pow_right (n := W) (by rw [W_eq]; omega) (show 1 ≤ 64 by omega)
    rwa [Nat.pow_one] at this
theorem nt_nil (w : World) : Nt w none 0 0 0 := ⟨by rw [dig_zero]; exact Rd.nil _ _ _ _ (by omega), Nat.pow_pos (by rw [W_eq]; omega)⟩
theorem Nt.alloc {w : World} {A : Option Addr} {n c x : Nat} (h : Nt w A n c x) (o : Obj) : Nt (w.alloc o) A n c x := h.below ((Below.refl _ _).alloc (Nat.le_refl _) o)
theorem below_alloc (w : World) (o : Obj) : Below w.heap.size w (w.alloc o) := (Below.refl _ _).alloc (Nat.le_refl _) o

theorem small_W {v : Nat} (h : v < 100) : v < W := by rw [W_eq]; omega
end Go.Proofs.YtkpcmgfpmekkjaaDoor

namespace Go.Proofs.YtkpcmgfpmekkjaaDoor
open Go.RowKit

theorem may_no {w : World} {A : Option Addr} {n c : Nat} {l : List Nat} (h : Rd w .u64 W A n c l) (hb : mayB l = false) : Calls Tryd.prog 44 #[.slice A n c] w fun e w' => e = .returned (.bool false) ∧ w = w' := by
  have := may_any h
  rwa [hb] at this
end Go.Proofs.YtkpcmgfpmekkjaaDoor
