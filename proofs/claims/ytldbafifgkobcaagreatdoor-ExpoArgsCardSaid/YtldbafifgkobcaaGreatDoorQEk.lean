/-
 Known answers of Exp, and the contract of the statements' own told of layer 7, at this translation. Condition: the slices read as limbs, the table of math/bits reads as its text lays it.
-/
import Derived.Test.YtldbafifgkobcaaGreatDoorQEh
set_option maxHeartbeats 8000000
set_option maxRecDepth 100000
namespace Go.Proofs.YtldbafifgkobcaaGreatDoor
open Go.RowKit

theorem sum_fine : ∀ j, j < 4 → SumC 2147483648 2147483648 40 (j + 1) (sIt 2147483648 2147483648 40 j) := by
 intro j hj
 rcases (show j = 0 ∨ j = 1 ∨ j = 2 ∨ j = 3 by omega) with rfl | rfl | rfl | rfl
 all_goals exact ⟨big_W (by decide), big_W (by decide), by decide, big_W (by decide), big_W (by decide), big_W (by decide), big_W (by decide)⟩
theorem sum_ends : ∀ j, j < 4 → ((sIt 2147483648 2147483648 40 (j + 1)).2.1 = 1 ↔ j + 1 = 4) := by
 intro j hj
 rcases (show j = 0 ∨ j = 1 ∨ j = 2 ∨ j = 3 by omega) with rfl | rfl | rfl | rfl
 all_goals decide
theorem sq_fine : ∀ j, j < 9 → SqC 40 (qIt 40 ((sIt 2147483648 2147483648 40 4).2.2.1, (sIt 2147483648 2147483648 40 4).2.2.2 + (sIt 2147483648 2147483648 40 4).2.1) j) := by
 intro j hj
 rcases (show j = 0 ∨ j = 1 ∨ j = 2 ∨ j = 3 ∨ j = 4 ∨ j = 5 ∨ j = 6 ∨ j = 7 ∨ j = 8 by omega) with rfl | rfl | rfl | rfl | rfl | rfl | rfl | rfl | rfl
 all_goals exact ⟨big_W (by decide), big_W (by decide), by decide, big_W (by decide)⟩
theorem num_lo : (qIt 40 ((sIt 2147483648 2147483648 40 4).2.2.1, (sIt 2147483648 2147483648 40 4).2.2.2 + (sIt 2147483648 2147483648 40 4).2.1) 9).1 = 2 ^ 2 * (2 * 373597809501 + 1) := by decide
theorem num_hi : (qIt 40 ((sIt 2147483648 2147483648 40 4).2.2.1, (sIt 2147483648 2147483648 40 4).2.2.2 + (sIt 2147483648 2147483648 40 4).2.1) 9).2 = 2 ^ 0 * (2 * 1494391240738 + 1) := by decide
theorem ebounds_known {w : World} {A : Option Addr} {n c : Nat} (hT : Tab w) (h : Nt w A n c 1) :
  Calls Tryz.prog 92 #[.agg #[.bool false, .slice A n c, .int .i64 0], .int .i64 40] w (BetIs false 747195619003 (-38) false 2988782481477 (-40) w) :=
 ebounds_1 hT h (by decide) sum_fine sum_ends (big_W (by decide)) sq_fine
  (by rw [num_lo]; exact nm_known (q := 373597809501) (k := 2) (by decide) (by decide) (by decide) (by decide))
  (by rw [num_hi]; exact nm_known (q := 1494391240738) (k := 0) (by decide) (by decide) (by decide) (by decide))
theorem within64 {K : Nat} {a : Rw} (h : a.may = true) (h1 : -(64 * ((2 ^ K : Nat) : Int)) ≤ a.v K) (h2 : a.v K ≤ 64 * ((2 ^ K : Nat) : Int)) : withinI K ⟨a, a⟩ d64 = true := by
 have hv := v_64 K
 refine withinI_iff.2 ⟨mayI_point h, may_64 K, ?_, ?_⟩
 ·unfold d64
  rw [Rw.of_v, hv.2]
  exact h1
 ·unfold d64
  rw [Rw.of_v, hv.1]
  exact h2
theorem chk_0 {K : Nat} {p : Int} (hp : 1 ≤ p) (hp2 : p ≤ 300) : chk K ⟨Rw.zero, Rw.zero⟩ p = 0 := by
 have hv : Rw.zero.v K = 0 := vz_zero K _ _
 have hP := pow_pos2 K
 refine chk_good (fun h => ?_) (fun h => ?_) (fun h => ?_)
 ·rcases h with h | h | h
  ·rw [mayI_point Rw.zero_may] at h; cases h
  ·omega
  ·omega
 ·rw [within64 Rw.zero_may (by rw [hv]; omega) (by rw [hv]; omega)] at h; cases h
 ·rcases h with h | h <;> exact absurd h (by decide)
theorem chk_1 {K : Nat} : chk K ⟨q1, q1⟩ 8 = 0 := by
 have hv : q1.v K = 1 * ((2 ^ K : Nat) : Int) := by unfold q1; rw [Rw.of_v, vz_1]; rfl
 have hP := pow_pos2 K
 refine chk_good (fun h => ?_) (fun h => ?_) (fun h => ?_)
 ·rcases h with h | h | h
  ·rw [mayI_point q1_may] at h; cases h
  ·omega
  ·omega
 ·rw [within64 q1_may (by rw [hv]; omega) (by rw [hv]; omega)] at h; cases h
 ·rcases h with h | h <;> exact absurd h (by decide)
def q65 : Rw := Rw.of false 65 0
theorem okd_65 : OkD false 65 0 := okd_small rfl (by omega) (by decide) (by decide)
theorem chk_65 {K : Nat} : chk K ⟨q65, q65⟩ 30 = 4 := by
 have hm : q65.may = true := Rw.of_may okd_65
 have hv : q65.v K = 65 * ((2 ^ K : Nat) : Int) := by unfold q65; rw [Rw.of_v, vz_1]; rfl
 have hP := pow_pos2 K
 refine chk_out (fun h => ?_) ?_
 ·rcases h with h | h | h
  ·rw [mayI_point hm] at h; cases h
  ·omega
  ·omega
 ·refine Bool.eq_false_iff.2 fun h => ?_
  have h2 := (withinI_iff.1 h).2.2.2
  have h3 : q65.v K ≤ d64.hi.v K := h2
  rw [hv] at h3
  unfold d64 at h3
  rw [Rw.of_v, (v_64 K).1] at h3
  omega
theorem exp_zero {w : World} {p : Int} {up : Bool} (hT : Tab w) (hp : 1 ≤ p) (hp2 : p ≤ 300) : Calls Tryz.prog 11 #[.agg #[.bool false, .slice none 0 0, .int .i64 0], .int .i64 p, .bool up] w (ToldIs false 1 0 0 w) := by
 obtain ⟨K, hK⟩ := scale_has
 exact eexp_is (K := K) (a := Rw.zero) hK hT (Rd.nil _ _ _ _ (by omega)) (by omega) (chk_0 hp hp2) fun W2 b => epower_0 (mv b rfl hT) (nt_nil W2)
theorem exp_p0 {w : World} {up : Bool} (hT : Tab w) : Calls Tryz.prog 11 #[.agg #[.bool false, .slice none 0 0, .int .i64 0], .int .i64 0, .bool up] w (ToldIs false 0 0 1 w) := by
 obtain ⟨K, hK⟩ := scale_has
 exact eexp_no (K := K) (a := Rw.zero) hK hT (Rd.nil _ _ _ _ (by omega)) (by omega) (chk_bad (.inr (.inl (by decide)))) (by decide)
theorem exp_65 {w : World} {A : Option Addr} {n c : Nat} {up : Bool} (hT : Tab w) (h : Nt w A n c 65) : Calls Tryz.prog 11 #[.agg #[.bool false, .slice A n c, .int .i64 0], .int .i64 30, .bool up] w (ToldIs false 0 0 4 w) := by
 obtain ⟨K, hK⟩ := scale_has
 exact eexp_no (K := K) (a := q65) hK hT h.rd (by have := h.le; omega) chk_65 (by decide)
theorem exp_one {w : World} {A : Option Addr} {n c : Nat} (hT : Tab w) (h : Nt w A n c 1) : Calls Tryz.prog 11 #[.agg #[.bool false, .slice A n c, .int .i64 0], .int .i64 8, .bool false] w (ToldIs false 173 (-6) 0 w) := by
 obtain ⟨K, hK⟩ := scale_has
 exact eexp_is (K := K) (a := q1) hK hT h.rd (by have := h.le; omega) chk_1 fun W2 b => epower_1 (mv b rfl hT) (mv b rfl h) fun _ _ _ _ t h => ebounds_known t h
theorem nt_cell9 {w : World} {A : Option Addr} {n c v : Nat} (h : Nt w A n c v) (h0 : v ≠ 0) (hv : v < 1000) : ∃ b o, n = 1 ∧ 1 ≤ c ∧ c ≤ 9223372036854775807 ∧ A = some ⟨b, o, none⟩ ∧ w.cell? ⟨b, o, none⟩ = some (.int .u64 (v : Int)) := by
 have h1 := h.rd
 rw [dig_one h0 (by rw [W_eq]; omega)] at h1
 obtain rfl : n = 1 := h1.len.symm
 obtain ⟨b, o, e, _, hc⟩ := h1.at_ (by omega)
 exact ⟨b, o, rfl, h1.cap, h1.max, e, hc 0 (by omega)⟩

theorem told7_any {w : World} (hT : Tab w) : Calls Tryz.prog 13 #[] w (Bools true w) := by
 have BB := Below.refl w.heap.size w
 go_enter Tryz.func13, Tryz.ntmps13
 go_wp2_with fail
 refine (exp_zero (p := 30) (up := false) hT (by decide) (by decide)).mono ?_
 rintro en v1 ⟨A1, n1, c1, rfl, N11, b⟩
 replace BB := bnx BB b
 replace hT := mv b rfl hT
 clear b
 obtain ⟨b10, b11, b12⟩ := (Box.new v1 false A1 n1 c1 0).held
 have b := below_alloc v1 (.cells #[.bool false, .slice A1 n1 c1, .int .i64 0] 24)
 replace BB := bnx BB b
 have G := mv b rfl <| And.intro hT <| N11
 clear b hT N11
 obtain ⟨hT, N11⟩ := G
 go_wp2_with fail
 refine (exp_zero (p := 30) (up := true) hT (by decide) (by decide)).mono ?_
 rintro en v2 ⟨A2, n2, c2, rfl, N12, b⟩
 replace BB := bnx BB b
 have G := mv b rfl (J5 hT N11 b10 b11 b12)
 clear b hT N11 b10 b11 b12
 obtain ⟨hT, N11, b10, b11, b12⟩ := G
 obtain ⟨b20, b21, b22⟩ := (Box.new v2 false A2 n2 c2 0).held
 have b := below_alloc v2 (.cells #[.bool false, .slice A2 n2 c2, .int .i64 0] 24)
 replace BB := bnx BB b
 have G := mv b rfl (J6 hT N11 b10 b11 b12 N12)
 clear b hT N11 b10 b11 b12 N12
 obtain ⟨hT, N11, b10, b11, b12, N12⟩ := G
 go_wp2_with fail
 have L65 := nt_one_at (w := (v2.alloc (.cells #[.bool false, .slice A2 n2 c2, .int .i64 0] 24))) (v := 65) (sizes_up rfl) (by omega) (by omega)
 have b := below_alloc (v2.alloc (.cells #[.bool false, .slice A2 n2 c2, .int .i64 0] 24)) (.cells #[.int .u64 65] 34)
 replace BB := bnx BB b
 have G := mv b rfl (J9 hT N11 b10 b11 b12 N12 b20 b21 b22)
 clear b hT N11 b10 b11 b12 N12 b20 b21 b22
 obtain ⟨hT, N11, b10, b11, b12, N12, b20, b21, b22⟩ := G
 refine (exp_65 (up := true) hT L65).mono ?_
 rintro en v3 ⟨A3, n3, c3, rfl, _, b⟩
 clear L65
 replace BB := bnx BB b
 have G := mv b rfl (J9 hT N11 b10 b11 b12 N12 b20 b21 b22)
 clear b hT N11 b10 b11 b12 N12 b20 b21 b22
 obtain ⟨hT, N11, b10, b11, b12, N12, b20, b21, b22⟩ := G
 have b := below_alloc v3 (.cells #[.bool false, .slice A3 n3 c3, .int .i64 0] 24)
 replace BB := bnx BB b
 have G := mv b rfl (J9 hT N11 b10 b11 b12 N12 b20 b21 b22)
 clear b hT N11 b10 b11 b12 N12 b20 b21 b22
 obtain ⟨hT, N11, b10, b11, b12, N12, b20, b21, b22⟩ := G
 go_wp2_with fail
 refine (exp_p0 (up := true) hT).mono ?_
 rintro en v4 ⟨A4, n4, c4, rfl, _, b⟩
 replace BB := bnx BB b
 have G := mv b rfl (J9 hT N11 b10 b11 b12 N12 b20 b21 b22)
 clear b hT N11 b10 b11 b12 N12 b20 b21 b22
 obtain ⟨hT, N11, b10, b11, b12, N12, b20, b21, b22⟩ := G
 have b := below_alloc v4 (.cells #[.bool false, .slice A4 n4 c4, .int .i64 0] 24)
 replace BB := bnx BB b
 have G := mv b rfl (J9 hT N11 b10 b11 b12 N12 b20 b21 b22)
 clear b hT N11 b10 b11 b12 N12 b20 b21 b22
 obtain ⟨hT, N11, b10, b11, b12, N12, b20, b21, b22⟩ := G
 go_wp2_with fail
 have L1 := nt_one_at (w := (v4.alloc (.cells #[.bool false, .slice A4 n4 c4, .int .i64 0] 24))) (v := 1) (sizes_up rfl) (by omega) (by omega)
 have b := below_alloc (v4.alloc (.cells #[.bool false, .slice A4 n4 c4, .int .i64 0] 24)) (.cells #[.int .u64 1] 34)
 replace BB := bnx BB b
 have G := mv b rfl (J9 hT N11 b10 b11 b12 N12 b20 b21 b22)
 clear b hT N11 b10 b11 b12 N12 b20 b21 b22
 obtain ⟨hT, N11, b10, b11, b12, N12, b20, b21, b22⟩ := G
 refine (exp_one hT L1).mono ?_
 rintro en v5 ⟨A5, n5, c5, rfl, N15, b⟩
 clear L1
 replace BB := bnx BB b
 have G := mv b rfl (J9 hT N11 b10 b11 b12 N12 b20 b21 b22)
 clear b hT N11 b10 b11 b12 N12 b20 b21 b22
 obtain ⟨hT, N11, b10, b11, b12, N12, b20, b21, b22⟩ := G
 obtain ⟨b9, o9, rfl, lc9, mc9, rfl, cc9⟩ := nt_cell9 N15 (by omega) (by omega)
 clear N15
 obtain ⟨b50, b51, b52⟩ := (Box.new v5 false (some ⟨b9, o9, none⟩) 1 c5 (-6)).held
 have b := below_alloc v5 (.cells #[.bool false, .slice (some ⟨b9, o9, none⟩) 1 c5, .int .i64 (-6)] 24)
 replace BB := bnx BB b
 have G := mv b rfl (J10 hT N11 b10 b11 b12 N12 b20 b21 b22 cc9)
 clear b hT N11 b10 b11 b12 N12 b20 b21 b22 cc9
 obtain ⟨hT, N11, b10, b11, b12, N12, b20, b21, b22, cc9⟩ := G
 go_wp2_with fail
 have L := nt_one_at (w := (v5.alloc (.cells #[.bool false, .slice (some ⟨b9, o9, none⟩) 1 c5, .int .i64 (-6)] 24))) (v := 1) (sizes_up rfl) (by omega) (by omega)
 have b := below_alloc (v5.alloc (.cells #[.bool false, .slice (some ⟨b9, o9, none⟩) 1 c5, .int .i64 (-6)] 24)) (.cells #[.int .u64 1] 34)
 replace BB := bnx BB b
 have G := mv b rfl (J13 hT N11 b10 b11 b12 N12 b20 b21 b22 cc9 b50 b51 b52)
 clear b hT N11 b10 b11 b12 N12 b20 b21 b22 cc9 b50 b51 b52
 obtain ⟨hT, N11, b10, b11, b12, N12, b20, b21, b22, cc9, b50, b51, b52⟩ := G
 refine (dsame_self (s := false) (e := 0) N11 L).mono ?_
 rintro en u1 ⟨rfl, b⟩
 clear L
 replace BB := bnx BB b
 have G := mv b rfl (J13 hT N11 b10 b11 b12 N12 b20 b21 b22 cc9 b50 b51 b52)
 clear b hT N11 b10 b11 b12 N12 b20 b21 b22 cc9 b50 b51 b52
 obtain ⟨hT, N11, b10, b11, b12, N12, b20, b21, b22, cc9, b50, b51, b52⟩ := G
 go_wp2_with fail
 refine (dsame_self (s := false) (e := 0) N12 N11).mono ?_
 rintro en u2 ⟨rfl, b⟩
 replace BB := bnx BB b
 have G := mv b rfl (J13 hT N11 b10 b11 b12 N12 b20 b21 b22 cc9 b50 b51 b52)
 clear b hT N11 b10 b11 b12 N12 b20 b21 b22 cc9 b50 b51 b52
 obtain ⟨hT, N11, b10, b11, b12, N12, b20, b21, b22, cc9, b50, b51, b52⟩ := G
 go_wp2
 go_ret
 exact ⟨by first | rfl | simp, BB⟩

end Go.Proofs.YtldbafifgkobcaaGreatDoor
