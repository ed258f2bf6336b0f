/-
  Contracts of nat's exported calls at this translation: Add, Sub, Mul, Cmp, Div, Len, Shl, Shr. Condition: the numbers may be (at most 64 limbs, canonical).
-/
import Derived.Test.YtdklekiknhhfdaaDoorQuotB
namespace Go.Proofs.YtdklekiknhhfdaaDoor
open Go.RowKit

/-- A slice that reads as a natural that may be. -/
structure Nt (w : World) (A : Option Addr) (n c x : Nat) : Prop where
  rd : Rd w .u64 W A n c (dig W x)
  lt : x < W ^ 64

theorem Nt.le {w : World} {A : Option Addr} {n c x : Nat} (h : Nt w A n c x) : n ≤ 64 := by
  rw [← h.rd.len]; exact (len_dig W_two _ _).2 h.lt
theorem Nt.below {w w' : World} {A : Option Addr} {n c x : Nat} (h : Nt w A n c x) (hb : Below w.heap.size w w') : Nt w' A n c x := ⟨h.rd.below hb, h.lt⟩
theorem Nt.below' {w w' : World} {b0 : Nat} {A : Option Addr} {n c x : Nat} (h : Nt w A n c x) (hb : Below b0 w w') (h0 : w.heap.size ≤ b0) : Nt w' A n c x := ⟨h.rd.below' hb h0, h.lt⟩
theorem Nt.grownNone {w w' : World} {A : Option Addr} {n c x : Nat} (h : Nt w A n c x) (hg : w.grownBy w' none) : Nt w' A n c x := ⟨h.rd.grownNone hg, h.lt⟩
theorem Nt.val {w : World} {A : Option Addr} {n c x : Nat} (_h : Nt w A n c x) : val W (dig W x) = x := val_dig W_two x
theorem Nt.can {w : World} {A : Option Addr} {n c x : Nat} (_h : Nt w A n c x) : Can W (dig W x) := can_dig W_two x
theorem Nt.zero {w : World} {A : Option Addr} {n c x : Nat} (h : Nt w A n c x) : n = 0 ↔ x = 0 := by
  rw [← h.rd.len]; exact dig_len_zero W_two

theorem mayB_dig {x : Nat} (h : x < W ^ 64) : mayB (dig W x) = true := by
  unfold mayB
  have h1 : (dig W x).length ≤ 64 := (len_dig W_two _ _).2 h
  have h2 := (can_dig W_two x).2
  by_cases h0 : (dig W x).length = 0
  · simp [h0]
  · simp only [h1, decide_true, Bool.true_and, Bool.or_eq_true, decide_eq_true_eq]
    exact .inr (h2 h0)
theorem may_nt {w : World} {A : Option Addr} {n c x : Nat} (h : Nt w A n c x) : Calls Tryd.prog 22 #[.slice A n c] w fun e w' => e = .returned (.bool true) ∧ w = w' := by
  have := may_any h.rd
  rwa [mayB_dig h.lt] at this

def ResOk (w : World) (x : Nat) (e : Ending) (w' : World) : Prop :=
  ∃ A n c, e = .returned (.tuple #[.slice A n c, .int .i64 0]) ∧ Nt w' A n c x ∧ Below w.heap.size w w'
def ResBad (w : World) (code : Int) (e : Ending) (w' : World) : Prop :=
  e = .returned (.tuple #[.slice none 0 0, .int .i64 code]) ∧ Below w.heap.size w w'

theorem fits_ok {w : World} {A : Option Addr} {n c x : Nat} (h : Nt w A n c x) : Calls Tryd.prog 70 #[.slice A n c] w fun e w' => e = .returned (.tuple #[.slice A n c, .int .i64 0]) ∧ w = w' := by
  have hn := h.le
  go_enter Tryd.func70, Tryd.ntmps70
  go_wp2
  go_ret2
  exact ⟨rfl, rfl⟩
theorem fits_over {w : World} {A : Option Addr} {n c : Nat} (h : 64 < n) (hn : n ≤ 1000000000) : Calls Tryd.prog 70 #[.slice A n c] w fun e w' => e = .returned (.tuple #[.slice none 0 0, .int .i64 2]) ∧ w = w' := by
  go_enter Tryd.func70, Tryd.ntmps70
  go_wp2
  go_ret2
  exact ⟨rfl, rfl⟩

theorem add_ok {w : World} {A B : Option Addr} {n c m d x y : Nat} (h : Nt w A n c x) (h' : Nt w B m d y) (hs : x + y < W ^ 64) :
    Calls Tryd.prog 18 #[.slice A n c, .slice B m d] w fun e w' => ResOk w (x + y) e w' := by
  have hn := h.le
  have hm := h'.le
  go_enter Tryd.func18, Tryd.ntmps18
  go_wp2_with fail
  refine (may_nt h).mono ?_
  rintro e w' ⟨rfl, rfl⟩
  go_wp2_with fail
  refine (may_nt h').mono ?_
  rintro e w' ⟨rfl, rfl⟩
  go_wp2_with fail
  refine (sum_any h.rd h'.rd (by omega) (by omega)).mono ?_
  rintro e w1 ⟨A1, n1, c1, rfl, hr1, hb1⟩
  rw [h.val, h'.val] at hr1
  have hN : Nt w1 A1 n1 c1 (x + y) := ⟨hr1, hs⟩
  go_wp2_with fail
  refine (fits_ok hN).mono ?_
  rintro e w' ⟨rfl, rfl⟩
  go_wp2
  go_ret2
  exact ⟨A1, n1, c1, rfl, hN, hb1⟩
theorem add_over {w : World} {A B : Option Addr} {n c m d x y : Nat} (h : Nt w A n c x) (h' : Nt w B m d y) (hs : W ^ 64 ≤ x + y) :
    Calls Tryd.prog 18 #[.slice A n c, .slice B m d] w fun e w' => ResBad w 2 e w' := by
  have hn := h.le
  have hm := h'.le
  go_enter Tryd.func18, Tryd.ntmps18
  go_wp2_with fail
  refine (may_nt h).mono ?_
  rintro e w' ⟨rfl, rfl⟩
  go_wp2_with fail
  refine (may_nt h').mono ?_
  rintro e w' ⟨rfl, rfl⟩
  go_wp2_with fail
  refine (sum_any h.rd h'.rd (by omega) (by omega)).mono ?_
  rintro e w1 ⟨A1, n1, c1, rfl, hr1, hb1⟩
  rw [h.val, h'.val] at hr1
  have h64 : 64 < n1 := by
    rw [← hr1.len]
    rcases Nat.lt_or_ge 64 (dig W (x + y)).length with h5 | h5
    · exact h5
    · have := (len_dig W_two _ _).1 h5
      omega
  have hn1 : n1 ≤ 1000000000 := by
    rw [← hr1.len]
    have h65 : x + y < W ^ 65 := by
      have h1 := h.lt
      have h2 := h'.lt
      have h3 : W ^ 65 = W ^ 64 * W := Nat.pow_succ ..
      have h4 : W ^ 64 * 2 ≤ W ^ 64 * W := Nat.mul_le_mul_left _ W_two
      generalize W ^ 65 = p at *
      generalize W ^ 64 * W = q at *
      generalize W ^ 64 = r at *
      omega
    have := (len_dig W_two _ _).2 h65
    omega
  go_wp2_with fail
  refine (fits_over h64 hn1).mono ?_
  rintro e w' ⟨rfl, rfl⟩
  go_wp2
  go_ret2
  exact ⟨rfl, hb1⟩
theorem mul_ok {w : World} {A B : Option Addr} {n c m d x y : Nat} (h : Nt w A n c x) (h' : Nt w B m d y) (hs : x * y < W ^ 64) :
    Calls Tryd.prog 20 #[.slice A n c, .slice B m d] w fun e w' => ResOk w (x * y) e w' := by
  have hn := h.le
  have hm := h'.le
  go_enter Tryd.func20, Tryd.ntmps20
  go_wp2_with fail
  refine (may_nt h).mono ?_
  rintro e w' ⟨rfl, rfl⟩
  go_wp2_with fail
  refine (may_nt h').mono ?_
  rintro e w' ⟨rfl, rfl⟩
  go_wp2_with fail
  refine (product_any h.rd h'.rd (by omega) (by omega)).mono ?_
  rintro e w1 ⟨A1, n1, c1, rfl, hr1, hb1⟩
  rw [h.val, h'.val] at hr1
  have hN : Nt w1 A1 n1 c1 (x * y) := ⟨hr1, hs⟩
  go_wp2_with fail
  refine (fits_ok hN).mono ?_
  rintro e w' ⟨rfl, rfl⟩
  go_wp2
  go_ret2
  exact ⟨A1, n1, c1, rfl, hN, hb1⟩
theorem cmp_nt {w : World} {A B : Option Addr} {n c m d x y : Nat} (h : Nt w A n c x) (h' : Nt w B m d y) :
    Calls Tryd.prog 23 #[.slice A n c, .slice B m d] w fun e w' => e = .returned (.int .i64 (cmpN x y)) ∧ Below w.heap.size w w' := by
  go_enter Tryd.func23, Tryd.ntmps23
  go_wp2_with fail
  refine (may_nt h).mono ?_
  rintro e w' ⟨rfl, rfl⟩
  go_wp2_with fail
  refine (may_nt h').mono ?_
  rintro e w' ⟨rfl, rfl⟩
  go_wp2_with fail
  refine (order_any h.rd h'.rd h.can h'.can).mono ?_
  rintro e w1 ⟨rfl, hb1⟩
  rw [h.val, h'.val]
  go_wp2
  go_ret
  exact ⟨rfl, hb1⟩

theorem sub_bad {w : World} {A B : Option Addr} {n c m d x y : Nat} (h : Nt w A n c x) (h' : Nt w B m d y) (hs : x < y) :
    Calls Tryd.prog 19 #[.slice A n c, .slice B m d] w fun e w' => ResBad w 1 e w' := by
  go_enter Tryd.func19, Tryd.ntmps19
  go_wp2_with fail
  refine (may_nt h).mono ?_
  rintro e w' ⟨rfl, rfl⟩
  go_wp2_with fail
  refine (may_nt h').mono ?_
  rintro e w' ⟨rfl, rfl⟩
  go_wp2_with fail
  refine (order_any h.rd h'.rd h.can h'.can).mono ?_
  rintro e w1 ⟨rfl, hb1⟩
  rw [h.val, h'.val, cmpN_lt hs]
  go_wp2
  go_ret2
  exact ⟨rfl, hb1⟩
theorem takeTimes_nil {w : World} {A B : Option Addr} {c d : Nat} {x : Int} :
    Calls Tryd.prog 74 #[.slice A 0 c, .slice B 0 d, .int .u64 x] w fun e w' => e = .returned (.int .u64 0) ∧ w = w' := by
  go_enter Tryd.func74, Tryd.ntmps74
  go_wp2
  go_step3
  go_wp2
  go_step3
  go_wp2
  refine wp_loop_rounds 1 ?_
  rw [rounds_succ]
  go_wp2
  rw [Exit.noGoto_ret]
  go_ret
  exact ⟨rfl, rfl⟩

theorem sub_ok {w : World} {A B : Option Addr} {n c m d x y : Nat} (h : Nt w A n c x) (h' : Nt w B m d y) (hs : y ≤ x) :
    Calls Tryd.prog 19 #[.slice A n c, .slice B m d] w fun e w' => ResOk w (x - y) e w' := by
  have hn := h.le
  have hm := h'.le
  have hcmp : ∃ t : Int, cmpN x y = t ∧ 0 ≤ t := by
    refine ⟨_, rfl, ?_⟩
    rcases Nat.lt_or_ge y x with h1 | h1
    · rw [cmpN_gt h1]; decide
    · rw [cmpN_eq (by omega)]; decide
  obtain ⟨t, ht, ht0⟩ := hcmp
  have HT := Lib.hid ht
  clear ht
  have hmn : m ≤ n := by
    rw [← h.rd.len, ← h'.rd.len]; exact len_dig_mono W_two hs
  go_enter Tryd.func19, Tryd.ntmps19
  go_wp2_with fail
  refine (may_nt h).mono ?_
  rintro e w' ⟨rfl, rfl⟩
  go_wp2_with fail
  refine (may_nt h').mono ?_
  rintro e w' ⟨rfl, rfl⟩
  go_wp2_with fail
  refine (order_any h.rd h'.rd h.can h'.can).mono ?_
  rintro e w1 ⟨rfl, hb1⟩
  rw [h.val, h'.val, HT.out]
  go_wp2_with fail
  refine (clone_any (h.below hb1).rd (by omega)).mono ?_
  rintro e w2 ⟨A2, c2, rfl, hrd2, hb2, hrow2⟩
  by_cases h0 : n = 0
  · subst h0
    have hx0 : x = 0 := h.zero.1 rfl
    obtain rfl : m = 0 := by omega
    have hrd3 := hrd2
    rw [hx0, dig_zero] at hrd3
    have HX := Lib.hid hx0
    clear hx0
    go_wp2_with fail
    refine (takeTimes_nil (x := 1)).mono ?_
    rintro e w' ⟨rfl, rfl⟩
    go_wp2_with fail
    refine (trimmed_any hrd3).mono ?_
    rintro e w' ⟨rfl, rfl⟩
    have e0 : (dig W (val W [])).length = 0 := by rw [val_nil, dig_zero]; rfl
    rw [e0]
    go_wp2
    go_ret2
    exact ⟨_, _, _, rfl, ⟨by rw [HX.out, Nat.zero_sub, dig_zero]; exact hrd3, by rw [HX.out, Nat.zero_sub]; exact Nat.pow_pos (by rw [W_eq]; omega)⟩, hb1.trans (hb2.mono hb1.size)⟩
  · obtain ⟨g, post, rfl, hg, hrow⟩ := hrow2 h0
    have hN' := (h'.below hb1)
    have hne : m ≠ 0 → ∀ a, B = some a → a.block ≠ g := by
      intro hm0 a ha
      obtain ⟨b, o, e, hb, _⟩ := hN'.rd.at_ hm0
      rw [e] at ha
      injection ha with ha
      subst ha
      show b ≠ _
      omega
    have hc2 := hrd2.cap
    have hcm2 := hrd2.max
    go_wp2_with fail
    refine (takeTimes_any (x := 1) hrow (lt_dig W_two x) h.rd.len hc2 hcm2 ((hN'.below hb2).rd) hmn hne (by omega)).mono ?_
    rintro e w3 ⟨xs', ca, rfl, hca, hrow3, hgrow3, hlen3, hlt3, hval3⟩
    rw [val_dig W_two, val_dig W_two, Nat.one_mul] at hval3
    have hv : val W xs' = x - y := by
      have h1 := val_lt hlt3
      rw [hlen3] at h1
      have h2 : ca = 0 := by
        rcases Nat.eq_zero_or_pos ca with h3 | h3
        · exact h3
        · have : W ^ (dig W x).length * 1 ≤ W ^ (dig W x).length * ca := Nat.mul_le_mul_left _ h3
          omega
      subst h2
      omega
    have hrd3 := hrow3.rd' hlt3 (hlen3.trans h.rd.len) hc2 hcm2
    have HV := Lib.hid hv
    have hb3 : Below w.heap.size w w3 := below_row (hb1.trans (hb2.mono hb1.size)) hgrow3 (by have := hb1.size; omega)
    clear hval3 hv hlen3
    go_wp2_with fail
    refine (trimmed_any hrd3).mono ?_
    rintro e w' ⟨rfl, rfl⟩
    have hrd4 := rd_trimmed hrd3
    rw [HV.out] at hrd4
    rw [HV.out]
    go_wp2
    go_ret2
    exact ⟨_, _, _, rfl, ⟨hrd4, Nat.lt_of_le_of_lt (Nat.sub_le _ _) h.lt⟩, hb3⟩
end Go.Proofs.YtdklekiknhhfdaaDoor
