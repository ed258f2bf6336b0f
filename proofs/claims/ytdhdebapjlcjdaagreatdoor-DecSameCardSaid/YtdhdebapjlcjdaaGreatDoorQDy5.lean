/-
 Contracts of dyad's sizes, without, at this translation. Condition: the Dyads' limbs read as naturals, the table of math/bits reads as its text lays it.
-/
import Derived.Test.YtdhdebapjlcjdaaGreatDoorQDy3
set_option maxHeartbeats 1000000
set_option maxRecDepth 100000
namespace Go.Proofs.YtdhdebapjlcjdaaGreatDoor
open Go.RowKit

theorem sizes_lt {w : World} {A B : Option Addr} {n c m d x y : Nat} {s t : Bool} {e f : Int} (hT : Tab w) (h : Nt w A n c x) (h' : Nt w B m d y) (he : -1048576 ≤ e) (he' : e ≤ 1048576) (hf : -1048576 ≤ f) (hf' : f ≤ 1048576) (hr : (blen x : Int) + e < (blen y : Int) + f) :
  Calls Tryz.prog 47 #[.agg #[.bool s, .slice A n c, .int .i64 e], .agg #[.bool t, .slice B m d, .int .i64 f]] w (Ints (-1) w) := by
 have hc : Lib.compareInt ((blen x : Int) + e) ((blen y : Int) + f) = (-1) := by unfold Lib.compareInt; rw [if_pos hr]
 have HC := Lib.hid hc
 clear hc hr
 have g := two_new w s t A B n c m d e f
 have BB := two_below w (.cells #[.bool s, .slice A n c, .int .i64 e] 25) (.cells #[.bool t, .slice B m d, .int .i64 f] 25)
 obtain ⟨p0, p1, p2, p3, p4, p5⟩ := g.held
 have h1 := h.below BB
 have h2 := h'.below BB
 have hT1 := hT.below BB
 have ne1 : ¬ w.heap.size + 2 = w.heap.size + 1 := by omega
 have ne2 : ¬ w.heap.size + 1 = w.heap.size + 2 := by omega
 have ne3 : ¬ w.heap.size = w.heap.size + 2 := by omega
 have ne4 : ¬ w.heap.size + 2 = w.heap.size := by omega
 clear h h' hT
 go_enter Tryz.func47, Tryz.ntmps47
 go_wp2_with fail
 refine rgn (fun w' => w'.cell? ⟨w.heap.size, 0, none⟩ = some (.bool s) ∧ w'.cell? ⟨w.heap.size, 1, none⟩ = some (.slice A n c) ∧ w'.cell? ⟨w.heap.size, 2, none⟩ = some (.int .i64 e) ∧ w'.cell? ⟨w.heap.size + 1, 0, none⟩ = some (.bool t) ∧ w'.cell? ⟨w.heap.size + 1, 1, none⟩ = some (.slice B m d) ∧ w'.cell? ⟨w.heap.size + 1, 2, none⟩ = some (.int .i64 f)) fun hHeld => ?_
 refine tl 0 ?_
 refine tl 2 ?_
 refine rdy 1 fun K hK => ?_
 go_simp
 refine (top_any (h1.heap (by rfl)) he he').mono ?_
 rintro en w1 ⟨rfl, b⟩
 replace h1 := h1.next b (by rfl)
 replace h2 := h2.next b (by rfl)
 replace hT1 := hT1.next b (by rfl)
 replace g := g.next b (by rfl)
 replace BB := below_next BB BB.size b (by rfl) (by rfl) (by rfl) (by rfl)
 clear b
 obtain ⟨q0, q1, q2, q3, q4, q5⟩ := g.held
 refine bk hK fun hHeld => ?_
 clear hK K
 try simp only [Act.put]
 refine rdy 3 fun K hK => ?_
 go_simp
 refine (top_any (h2.heap (by rfl)) hf hf').mono ?_
 rintro en w2 ⟨rfl, b⟩
 replace h1 := h1.next b (by rfl)
 replace h2 := h2.next b (by rfl)
 replace hT1 := hT1.next b (by rfl)
 replace g := g.next b (by rfl)
 replace BB := below_next BB BB.size b (by rfl) (by rfl) (by rfl) (by rfl)
 clear b
 obtain ⟨q0, q1, q2, q3, q4, q5⟩ := g.held
 refine bk hK fun hHeld => ?_
 clear hK K
 try simp only [Act.put]
 refine rdy 4 fun K hK => ?_
 go_simp
 refine (Tryz.cmp_Compare_int _ _ _).mono ?_
 rintro en w' ⟨rfl, rfl⟩
 rw [HC.out]
 refine bk hK fun hHeld => ?_
 clear hK K
 try simp only [Act.put]
 refine tl 5 ?_
 refine wpAnyH_done (by kernel_rfl) ?_ _
 go_wp2
 go_ret
 exact ⟨rfl, BB⟩

theorem sizes_gt {w : World} {A B : Option Addr} {n c m d x y : Nat} {s t : Bool} {e f : Int} (hT : Tab w) (h : Nt w A n c x) (h' : Nt w B m d y) (he : -1048576 ≤ e) (he' : e ≤ 1048576) (hf : -1048576 ≤ f) (hf' : f ≤ 1048576) (hr : (blen x : Int) + e > (blen y : Int) + f) :
  Calls Tryz.prog 47 #[.agg #[.bool s, .slice A n c, .int .i64 e], .agg #[.bool t, .slice B m d, .int .i64 f]] w (Ints 1 w) := by
 have hc : Lib.compareInt ((blen x : Int) + e) ((blen y : Int) + f) = 1 := by unfold Lib.compareInt; rw [if_neg (by omega), if_pos hr]
 have HC := Lib.hid hc
 clear hc hr
 have g := two_new w s t A B n c m d e f
 have BB := two_below w (.cells #[.bool s, .slice A n c, .int .i64 e] 25) (.cells #[.bool t, .slice B m d, .int .i64 f] 25)
 obtain ⟨p0, p1, p2, p3, p4, p5⟩ := g.held
 have h1 := h.below BB
 have h2 := h'.below BB
 have hT1 := hT.below BB
 have ne1 : ¬ w.heap.size + 2 = w.heap.size + 1 := by omega
 have ne2 : ¬ w.heap.size + 1 = w.heap.size + 2 := by omega
 have ne3 : ¬ w.heap.size = w.heap.size + 2 := by omega
 have ne4 : ¬ w.heap.size + 2 = w.heap.size := by omega
 clear h h' hT
 go_enter Tryz.func47, Tryz.ntmps47
 go_wp2_with fail
 refine rgn (fun w' => w'.cell? ⟨w.heap.size, 0, none⟩ = some (.bool s) ∧ w'.cell? ⟨w.heap.size, 1, none⟩ = some (.slice A n c) ∧ w'.cell? ⟨w.heap.size, 2, none⟩ = some (.int .i64 e) ∧ w'.cell? ⟨w.heap.size + 1, 0, none⟩ = some (.bool t) ∧ w'.cell? ⟨w.heap.size + 1, 1, none⟩ = some (.slice B m d) ∧ w'.cell? ⟨w.heap.size + 1, 2, none⟩ = some (.int .i64 f)) fun hHeld => ?_
 refine tl 0 ?_
 refine tl 2 ?_
 refine rdy 1 fun K hK => ?_
 go_simp
 refine (top_any (h1.heap (by rfl)) he he').mono ?_
 rintro en w1 ⟨rfl, b⟩
 replace h1 := h1.next b (by rfl)
 replace h2 := h2.next b (by rfl)
 replace hT1 := hT1.next b (by rfl)
 replace g := g.next b (by rfl)
 replace BB := below_next BB BB.size b (by rfl) (by rfl) (by rfl) (by rfl)
 clear b
 obtain ⟨q0, q1, q2, q3, q4, q5⟩ := g.held
 refine bk hK fun hHeld => ?_
 clear hK K
 try simp only [Act.put]
 refine rdy 3 fun K hK => ?_
 go_simp
 refine (top_any (h2.heap (by rfl)) hf hf').mono ?_
 rintro en w2 ⟨rfl, b⟩
 replace h1 := h1.next b (by rfl)
 replace h2 := h2.next b (by rfl)
 replace hT1 := hT1.next b (by rfl)
 replace g := g.next b (by rfl)
 replace BB := below_next BB BB.size b (by rfl) (by rfl) (by rfl) (by rfl)
 clear b
 obtain ⟨q0, q1, q2, q3, q4, q5⟩ := g.held
 refine bk hK fun hHeld => ?_
 clear hK K
 try simp only [Act.put]
 refine rdy 4 fun K hK => ?_
 go_simp
 refine (Tryz.cmp_Compare_int _ _ _).mono ?_
 rintro en w' ⟨rfl, rfl⟩
 rw [HC.out]
 refine bk hK fun hHeld => ?_
 clear hK K
 try simp only [Act.put]
 refine tl 5 ?_
 refine wpAnyH_done (by kernel_rfl) ?_ _
 go_wp2
 go_ret
 exact ⟨rfl, BB⟩

theorem sizes_eq {w : World} {A B : Option Addr} {n c m d x y : Nat} {s t : Bool} {e f : Int} (hT : Tab w) (h : Nt w A n c x) (h' : Nt w B m d y) (he : -1048576 ≤ e) (he' : e ≤ 1048576) (hf : -1048576 ≤ f) (hf' : f ≤ 1048576) (hx : x ≠ 0) (hy : y ≠ 0) (hr : (blen x : Int) + e = (blen y : Int) + f) {lo : Int} (hlo : min e f = lo) {i j : Nat} (hi : e - lo = (i : Int)) (hj : f - lo = (j : Int)) (hxi : x * 2 ^ i < W ^ 64) (hyj : y * 2 ^ j < W ^ 64) :
  Calls Tryz.prog 47 #[.agg #[.bool s, .slice A n c, .int .i64 e], .agg #[.bool t, .slice B m d, .int .i64 f]] w (Ints (cmpN (x * 2 ^ i) (y * 2 ^ j)) w) := by
 have hc : Lib.compareInt ((blen x : Int) + e) ((blen y : Int) + f) = 0 := by unfold Lib.compareInt; rw [if_neg (by omega), if_neg (by omega)]
 have HC := Lib.hid hc
 have HX := Lib.hid hx
 have HY := Lib.hid hy
 have HL1 := Lib.hid hxi
 have HL2 := Lib.hid hyj
 have hlo1 : -1048577 ≤ lo := by omega
 have hlo2 : lo ≤ 1048577 := by omega
 clear hc hr hx hy hxi hyj
 have g := two_new w s t A B n c m d e f
 have BB := two_below w (.cells #[.bool s, .slice A n c, .int .i64 e] 25) (.cells #[.bool t, .slice B m d, .int .i64 f] 25)
 obtain ⟨p0, p1, p2, p3, p4, p5⟩ := g.held
 have h1 := h.below BB
 have h2 := h'.below BB
 have hT1 := hT.below BB
 have ne1 : ¬ w.heap.size + 2 = w.heap.size + 1 := by omega
 have ne2 : ¬ w.heap.size + 1 = w.heap.size + 2 := by omega
 have ne3 : ¬ w.heap.size = w.heap.size + 2 := by omega
 have ne4 : ¬ w.heap.size + 2 = w.heap.size := by omega
 clear h h' hT
 go_enter Tryz.func47, Tryz.ntmps47
 go_wp2_with fail
 refine rgn (fun w' => w'.cell? ⟨w.heap.size, 0, none⟩ = some (.bool s) ∧ w'.cell? ⟨w.heap.size, 1, none⟩ = some (.slice A n c) ∧ w'.cell? ⟨w.heap.size, 2, none⟩ = some (.int .i64 e) ∧ w'.cell? ⟨w.heap.size + 1, 0, none⟩ = some (.bool t) ∧ w'.cell? ⟨w.heap.size + 1, 1, none⟩ = some (.slice B m d) ∧ w'.cell? ⟨w.heap.size + 1, 2, none⟩ = some (.int .i64 f)) fun hHeld => ?_
 refine tl 0 ?_
 refine tl 2 ?_
 refine rdy 1 fun K hK => ?_
 go_simp
 refine (top_any (h1.heap (by rfl)) he he').mono ?_
 rintro en w1 ⟨rfl, b⟩
 replace h1 := h1.next b (by rfl)
 replace h2 := h2.next b (by rfl)
 replace hT1 := hT1.next b (by rfl)
 replace g := g.next b (by rfl)
 replace BB := below_next BB BB.size b (by rfl) (by rfl) (by rfl) (by rfl)
 clear b
 obtain ⟨q0, q1, q2, q3, q4, q5⟩ := g.held
 refine bk hK fun hHeld => ?_
 clear hK K
 try simp only [Act.put]
 refine rdy 3 fun K hK => ?_
 go_simp
 refine (top_any (h2.heap (by rfl)) hf hf').mono ?_
 rintro en w2 ⟨rfl, b⟩
 replace h1 := h1.next b (by rfl)
 replace h2 := h2.next b (by rfl)
 replace hT1 := hT1.next b (by rfl)
 replace g := g.next b (by rfl)
 replace BB := below_next BB BB.size b (by rfl) (by rfl) (by rfl) (by rfl)
 clear b
 obtain ⟨q0, q1, q2, q3, q4, q5⟩ := g.held
 refine bk hK fun hHeld => ?_
 clear hK K
 try simp only [Act.put]
 refine rdy 4 fun K hK => ?_
 go_simp
 refine (Tryz.cmp_Compare_int _ _ _).mono ?_
 rintro en w' ⟨rfl, rfl⟩
 rw [HC.out]
 refine bk hK fun hHeld => ?_
 clear hK K
 try simp only [Act.put]
 refine tl 5 ?_
 refine wpAnyH_done (by kernel_rfl) ?_ _
 go_wp2_with fail
 refine rgn (fun w' => w'.cell? ⟨w.heap.size, 0, none⟩ = some (.bool s) ∧ w'.cell? ⟨w.heap.size, 1, none⟩ = some (.slice A n c) ∧ w'.cell? ⟨w.heap.size, 2, none⟩ = some (.int .i64 e) ∧ w'.cell? ⟨w.heap.size + 1, 0, none⟩ = some (.bool t) ∧ w'.cell? ⟨w.heap.size + 1, 1, none⟩ = some (.slice B m d) ∧ w'.cell? ⟨w.heap.size + 1, 2, none⟩ = some (.int .i64 f)) fun hHeld => ?_
 refine tl 0 ?_
 refine tl 1 ?_
 refine tl 3 ?_
 refine tl 4 ?_
 refine rdy 2 fun K hK => ?_
 go_simp
 refine (over_ok (j := i) (h1.heap (by rfl)) he he' hlo1 hlo2 hi HX.out HL1.out).mono ?_
 rintro en w3 ⟨A2, n2, c2, rfl, h3, b⟩
 replace h2 := h2.next b (by rfl)
 replace hT1 := hT1.next b (by rfl)
 replace g := g.next b (by rfl)
 replace BB := below_next BB BB.size b (by rfl) (by rfl) (by rfl) (by rfl)
 clear b h1
 obtain ⟨q0, q1, q2, q3, q4, q5⟩ := g.held
 refine bk hK fun hHeld => ?_
 clear hK K
 try simp only [Act.put]
 refine rdy 5 fun K hK => ?_
 go_simp
 refine (over_ok (j := j) (h2.heap (by rfl)) hf hf' hlo1 hlo2 hj HY.out HL2.out).mono ?_
 rintro en w4 ⟨A3, n3, c3, rfl, h4, b⟩
 replace hT1 := hT1.next b (by rfl)
 replace g := g.next b (by rfl)
 replace h3 := h3.next b (by rfl)
 replace BB := below_next BB BB.size b (by rfl) (by rfl) (by rfl) (by rfl)
 clear b h2
 obtain ⟨q0, q1, q2, q3, q4, q5⟩ := g.held
 refine bk hK fun hHeld => ?_
 clear hK K
 try simp only [Act.put]
 refine rdy 6 fun K hK => ?_
 go_simp
 refine (cmp_nt (h3.heap (by rfl)) (h4.heap (by rfl))).mono ?_
 rintro en w5 ⟨rfl, b⟩
 replace hT1 := hT1.next b (by rfl)
 replace g := g.next b (by rfl)
 replace h3 := h3.next b (by rfl)
 replace h4 := h4.next b (by rfl)
 replace BB := below_next BB BB.size b (by rfl) (by rfl) (by rfl) (by rfl)
 clear b
 obtain ⟨q0, q1, q2, q3, q4, q5⟩ := g.held
 refine bk hK fun hHeld => ?_
 clear hK K
 try simp only [Act.put]
 refine tl 7 ?_
 refine wpAnyH_done (by kernel_rfl) ?_ _
 go_wp2
 go_ret
 exact ⟨by simp, BB⟩

end Go.Proofs.YtdhdebapjlcjdaaGreatDoor
