/-
  Contract of the statements' helper told at this translation: it returns true. Condition: the table of math/bits reads as its text lays it.
-/
import Derived.Test.YtdklekiknhhfdaaDoorSame
namespace Go.Proofs.YtdklekiknhhfdaaDoor
open Go.RowKit

theorem dig_one {v : Nat} (h0 : v ≠ 0) (hv : v < W) : dig W v = [v] := by
  rw [dig_pos W_two h0, Nat.mod_eq_of_lt hv, Nat.div_eq_of_lt hv, dig_zero]
theorem row_lit (w : World) (vs : List Nat) : Row (w.alloc (.cells (iv .u64 vs).toArray 49)) w.heap.size 49 .u64 0 [] vs [] :=
  ⟨by rw [List.nil_append, List.append_nil]; exact heap_alloc_new w _, rfl⟩
theorem nt_one (w : World) {v : Nat} (h0 : v ≠ 0) (hv : v < W) : Nt (w.alloc (.cells #[.int .u64 (v : Int)] 49)) (some ⟨w.heap.size, 0, none⟩) 1 1 v := by
  refine ⟨?_, Nat.lt_of_lt_of_le hv ?_⟩
  · rw [dig_one h0 hv]
    exact (row_lit w [v]).rd' (Lt.cons hv Lt.nil) rfl (Nat.le_refl _) (by omega)
  · have := Nat.pow_le_pow_right (n := W) (by rw [W_eq]; omega) (show 1 ≤ 64 by omega)
    rwa [Nat.pow_one] at this
theorem nt_nil (w : World) : Nt w none 0 0 0 := ⟨by rw [dig_zero]; exact Rd.nil _ _ _ _ (by omega), Nat.pow_pos (by rw [W_eq]; omega)⟩
theorem Nt.alloc {w : World} {A : Option Addr} {n c x : Nat} (h : Nt w A n c x) (o : Obj) : Nt (w.alloc o) A n c x := h.below ((Below.refl _ _).alloc (Nat.le_refl _) o)
theorem below_alloc (w : World) (o : Obj) : Below w.heap.size w (w.alloc o) := (Below.refl _ _).alloc (Nat.le_refl _) o

theorem small_W {v : Nat} (h : v < 100) : v < W := by rw [W_eq]; omega
theorem W_lt : 1 * 2 ^ 64 < W ^ 64 := by
  rw [← W_pow, Nat.one_mul]
  have := Nat.pow_lt_pow_right (a := W) (by rw [W_eq]; omega) (show 1 < 64 by omega)
  rwa [Nat.pow_one] at this
theorem dig_W : dig W (1 * 2 ^ 64) = [0, 1] := by
  rw [← W_pow, Nat.one_mul, dig_pos W_two (by rw [W_eq]; omega), Nat.mod_self, Nat.div_self (by rw [W_eq]; omega), dig_one (by omega) (by rw [W_eq]; omega)]
theorem blen_W : blen (1 * 2 ^ 64) = 65 := blen_eq (by omega) (by omega)
theorem low_W : IsLow (1 * 2 ^ 64) 64 := ⟨0, by omega⟩

set_option maxRecDepth 100000 in
set_option maxHeartbeats 1000000 in
theorem told_any {w : World} (hT : Tab w) : Calls Tryd.prog 17 #[] w fun e w' => e = .returned (.bool true) ∧ Below w.heap.size w w' := by
  have HW := Lib.hid W_lt
  go_enter Tryd.func17, Tryd.ntmps17
  go_wp2_with fail
  have h7 : Nt ((w.alloc (.cells #[.int .u64 7] 49)).alloc (.cells #[.int .u64 2] 49)) (some ⟨w.heap.size, 0, none⟩) 1 1 7 := (nt_one w (v := 7) (by omega) (small_W (by omega))).alloc _
  have h2 : Nt ((w.alloc (.cells #[.int .u64 7] 49)).alloc (.cells #[.int .u64 2] 49)) (some ⟨w.heap.size + 1, 0, none⟩) 1 1 2 := by
    have := nt_one (w.alloc (.cells #[.int .u64 7] 49)) (v := 2) (by omega) (small_W (by omega))
    simpa using this
  refine (div_ok h7 h2 (by omega)).mono ?_
  rintro e w1 ⟨A1, n1, c1, B1, m1, d1, rfl, hq, hr, hb1⟩
  have hB1 : Below w.heap.size w w1 := ((below_alloc w _).trans ((below_alloc _ _).mono (by simp))).trans (hb1.mono (by simp; omega))
  clear h7 h2 hb1
  have hq1 : n1 = 1 := by rw [← hq.rd.len, dig_one (by omega) (small_W (by omega))]; rfl
  have hr1 : m1 = 1 := by rw [← hr.rd.len, dig_one (by omega) (small_W (by omega))]; rfl
  subst hq1 hr1
  have hq3 : Rd w1 .u64 W A1 1 c1 [3] := by have := hq.rd; rwa [dig_one (by omega) (small_W (by omega))] at this
  have hr3 : Rd w1 .u64 W B1 1 d1 [1] := by have := hr.rd; rwa [dig_one (by omega) (small_W (by omega))] at this
  clear hq hr
  go_wp2_with fail
  have h1 : Nt ((w1.alloc (.cells #[.int .u64 1] 49)).alloc (.cells #[.int .u64 2] 49)) (some ⟨w1.heap.size, 0, none⟩) 1 1 1 := (nt_one w1 (v := 1) (by omega) (small_W (by omega))).alloc _
  have h2 : Nt ((w1.alloc (.cells #[.int .u64 1] 49)).alloc (.cells #[.int .u64 2] 49)) (some ⟨w1.heap.size + 1, 0, none⟩) 1 1 2 := by
    have := nt_one (w1.alloc (.cells #[.int .u64 1] 49)) (v := 2) (by omega) (small_W (by omega))
    simpa using this
  refine (sub_bad h1 h2 (by omega)).mono ?_
  rintro e w2 ⟨rfl, hb2⟩
  have hB2 : Below w1.heap.size w1 w2 := ((below_alloc w1 _).trans ((below_alloc _ _).mono (by simp))).trans (hb2.mono (by simp; omega))
  have hq3 := hq3.below hB2
  have hr3 := hr3.below hB2
  have hB1 := hB1.trans (hB2.mono hB1.size)
  clear h1 h2 hb2 hB2
  go_wp2_with fail
  have h1 : Nt (w2.alloc (.cells #[.int .u64 1] 49)) (some ⟨w2.heap.size, 0, none⟩) 1 1 1 := nt_one w2 (v := 1) (by omega) (small_W (by omega))
  refine (div_zero h1 (nt_nil _)).mono ?_
  rintro e w3 ⟨rfl, rfl⟩
  have hB3 := below_alloc w2 (.cells #[.int .u64 1] 49)
  have hq3 := hq3.below hB3
  have hr3 := hr3.below hB3
  have hB1 := hB1.trans (hB3.mono hB1.size)
  generalize hw3 : w2.alloc (.cells #[.int .u64 1] 49) = w3 at *
  clear h1 hB3 hw3
  go_wp2_with fail
  have h1 : Nt (w3.alloc (.cells #[.int .u64 1] 49)) (some ⟨w3.heap.size, 0, none⟩) 1 1 1 := nt_one w3 (v := 1) (by omega) (small_W (by omega))
  refine (shl_ok (s := 64) h1 (by omega) HW.out).mono ?_
  rintro e w4 ⟨A4, n4, c4, rfl, hs, hb4⟩
  have hB4 : Below w3.heap.size w3 w4 := (below_alloc w3 _).trans (hb4.mono (by simp))
  have hq3 := hq3.below hB4
  have hr3 := hr3.below hB4
  have hB1 := hB1.trans (hB4.mono hB1.size)
  have hn4 : n4 = 2 := by rw [← hs.rd.len, dig_W]; rfl
  subst hn4
  have hs2 : Rd w4 .u64 W A4 2 c4 [0, 1] := by have := hs.rd; rwa [dig_W] at this
  clear h1 hb4 hB4
  go_wp2_with fail
  -- Same(q, 3)
  have hl : Rd (w4.alloc (.cells #[.int .u64 3] 49)) .u64 W (some ⟨w4.heap.size, 0, none⟩) 1 1 [3] := (row_lit w4 [3]).rd' (Lt.cons (small_W (by omega)) Lt.nil) rfl (Nat.le_refl _) (by omega)
  refine (same_yes (hq3.below (below_alloc w4 _)) hl).mono ?_
  rintro e w5 ⟨rfl, hb5⟩
  have hB5 : Below w4.heap.size w4 w5 := (below_alloc w4 _).trans (hb5.mono (by simp))
  have hr3 := hr3.below hB5
  have hs := hs.below hB5
  have hs2 := hs2.below hB5
  have hB1 := hB1.trans (hB5.mono hB1.size)
  clear hl hb5 hB5 hq3
  go_wp2_with fail
  have hl : Rd (w5.alloc (.cells #[.int .u64 1] 49)) .u64 W (some ⟨w5.heap.size, 0, none⟩) 1 1 [1] := (row_lit w5 [1]).rd' (Lt.cons (small_W (by omega)) Lt.nil) rfl (Nat.le_refl _) (by omega)
  refine (same_yes (hr3.below (below_alloc w5 _)) hl).mono ?_
  rintro e w6 ⟨rfl, hb6⟩
  have hB6 : Below w5.heap.size w5 w6 := (below_alloc w5 _).trans (hb6.mono (by simp))
  have hs := hs.below hB6
  have hs2 := hs2.below hB6
  have hB1 := hB1.trans (hB6.mono hB1.size)
  clear hl hb6 hB6 hr3
  go_wp2_with fail
  have hl : Rd (w6.alloc (.cells #[.int .u64 0, .int .u64 1] 49)) .u64 W (some ⟨w6.heap.size, 0, none⟩) 2 2 [0, 1] := (row_lit w6 [0, 1]).rd' (Lt.cons (small_W (by omega)) (Lt.cons (small_W (by omega)) Lt.nil)) rfl (Nat.le_refl _) (by omega)
  refine (same_yes (hs2.below (below_alloc w6 _)) hl).mono ?_
  rintro e w7 ⟨rfl, hb7⟩
  have hB7 : Below w6.heap.size w6 w7 := (below_alloc w6 _).trans (hb7.mono (by simp))
  have hs := hs.below hB7
  have hB1 := hB1.trans (hB7.mono hB1.size)
  clear hl hb7 hB7 hs2
  go_wp2_with fail
  refine (len_nt hs).mono ?_
  rintro e w' ⟨rfl, rfl⟩
  rw [blen_W]
  go_wp2_with fail
  refine (low_nt (hT.below hB1) hs (by omega)).mono ?_
  rintro e w' ⟨k, rfl, hk, rfl⟩
  obtain rfl : k = 64 := hk.unique low_W
  go_wp2_with fail
  refine (may_nt hs).mono ?_
  rintro e w' ⟨rfl, rfl⟩
  go_wp2_with fail
  have hl : Rd (w7.alloc (.cells #[.int .u64 0] 49)) .u64 W (some ⟨w7.heap.size, 0, none⟩) 1 1 [0] := (row_lit w7 [0]).rd' (Lt.cons (small_W (by omega)) Lt.nil) rfl (Nat.le_refl _) (by omega)
  have hm := may_any hl
  rw [show mayB [0] = false by rfl] at hm
  refine hm.mono ?_
  rintro e w8 ⟨rfl, hw8⟩
  have hB8 := hB1.trans ((below_alloc w7 (.cells #[.int .u64 0] 49)).mono hB1.size)
  rw [hw8] at hB8
  clear hm hl hw8
  go_wp2
  go_ret
  exact ⟨rfl, hB8⟩
end Go.Proofs.YtdklekiknhhfdaaDoor
