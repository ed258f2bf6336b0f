/-
 Contracts of dyad's sizes, without, at this translation. Condition: the Dyads' limbs read as naturals, the table of math/bits reads as its text lays it.
-/
import Derived.Test.YtdhdebapjlcjdaaGreatDoorUDy3
import Derived.Test.YtdhdebapjlcjdaaGreatDoorUDy7
set_option maxHeartbeats 1000000
set_option maxRecDepth 100000
namespace Go.Proofs.YtdhdebapjlcjdaaGreatDoor
open Go.RowKit

theorem sizes_lt {w : World} {A B : Option Addr} {n c m d x y : Nat} {s t : Bool} {e f : Int} (hT : Tab w) (h : Nt w A n c x) (h' : Nt w B m d y) (he : -1048576 ≤ e) (he' : e ≤ 1048576) (hf : -1048576 ≤ f) (hf' : f ≤ 1048576) (hr : (blen x : Int) + e < (blen y : Int) + f) :
  Calls Tryz.prog 47 #[.agg #[.bool s, .slice A n c, .int .i64 e], .agg #[.bool t, .slice B m d, .int .i64 f]] w (Ints (-1) w) := by
 have hc : Lib.compareInt ((blen x : Int) + e) ((blen y : Int) + f) = (-1) := by unfold Lib.compareInt; rw [if_pos hr]
 have HC := Lib.hid hc
 clear hc hr
 have g := two_new w s t A B n c m d e f
 have BB := two_below w (.cells #[.bool s, .slice A n c, .int .i64 e] 25) (.cells #[.bool t, .slice B m d, .int .i64 f] 25)
 obtain ⟨p0, p1, p2, p3, p4, p5⟩ := g.held
 have h1 := h.below BB
 have h2 := h'.below BB
 have hT1 := hT.below BB
 have ne1 : ¬ w.heap.size + 2 = w.heap.size + 1 := by omega
 have ne2 : ¬ w.heap.size + 1 = w.heap.size + 2 := by omega
 have ne3 : ¬ w.heap.size = w.heap.size + 2 := by omega
 have ne4 : ¬ w.heap.size + 2 = w.heap.size := by omega
 clear h h' hT
 go_enter Tryz.func47, Tryz.ntmps47
 go_wp2_with fail
 refine rgn (fun w' => w'.cell? ⟨w.heap.size, 0, none⟩ = some (.bool s) ∧ w'.cell? ⟨w.heap.size, 1, none⟩ = some (.slice A n c) ∧ w'.cell? ⟨w.heap.size, 2, none⟩ = some (.int .i64 e) ∧ w'.cell? ⟨w.heap.size + 1, 0, none⟩ = some (.bool t) ∧ w'.cell? ⟨w.heap.size + 1, 1, none⟩ = some (.slice B m d) ∧ w'.cell? ⟨w.heap.size + 1, 2, none⟩ = some (.int .i64 f)) fun hHeld => ?_
 refine tl 0 ?_
 refine tl 2 ?_
 refine rdy 1 fun K hK => ?_
 go_simp
 refine (top_any (h1.heap (by rfl)) he he').mono ?_
 rintro en w1 ⟨rfl, b⟩
 replace h1 := h1.next b (by rfl)
 replace h2 := h2.next b (by rfl)
 replace hT1 := hT1.next b (by rfl)
 replace g := g.next b (by rfl)
 replace BB := below_next BB BB.size b (by rfl) (by rfl) (by rfl) (by rfl)
 clear b
 obtain ⟨q0, q1, q2, q3, q4, q5⟩ := g.held
 refine bk hK fun hHeld => ?_
 clear hK K
 try simp only [Act.put]
 refine rdy 3 fun K hK => ?_
 go_simp
 refine (top_any (h2.heap (by rfl)) hf hf').mono ?_
 rintro en w2 ⟨rfl, b⟩
 replace h1 := h1.next b (by rfl)
 replace h2 := h2.next b (by rfl)
 replace hT1 := hT1.next b (by rfl)
 replace g := g.next b (by rfl)
 replace BB := below_next BB BB.size b (by rfl) (by rfl) (by rfl) (by rfl)
 clear b
 obtain ⟨q0, q1, q2, q3, q4, q5⟩ := g.held
 refine bk hK fun hHeld => ?_
 clear hK K
 try simp only [Act.put]
 refine rdy 4 fun K hK => ?_
 go_simp
 refine (Tryz.cmp_Compare_int _ _ _).mono ?_
 rintro en w' ⟨rfl, rfl⟩
 rw [HC.out]
 refine bk hK fun hHeld => ?_
 clear hK K
 try simp only [Act.put]
 refine tl 5 ?_
 refine wpAnyH_done (by kernel_rfl) ?_ _
 go_wp2
 go_ret
 exact ⟨rfl, BB⟩

theorem sizes_gt {w : World} {A B : Option Addr} {n c m d x y : Nat} {s t : Bool} {e f : Int} (hT : Tab w) (h : Nt w A n c x) (h' : Nt w B m d y) (he : -1048576 ≤ e) (he' : e ≤ 1048576) (hf : -1048576 ≤ f) (hf' : f ≤ 1048576) (hr : (blen x : Int) + e > (blen y : Int) + f) :
  Calls Tryz.prog 47 #[.agg #[.bool s, .slice A n c, .int .i64 e], .agg #[.bool t, .slice B m d, .int .i64 f]] w (Ints 1 w) := by
 have hc : Lib.compareInt ((blen x : Int) + e) ((blen y : Int) + f) = 1 := by unfold Lib.compareInt; rw [if_neg (by omega), if_pos hr]
 have HC := Lib.hid hc
 clear hc hr
 have g := two_new w s t A B n c m d e f
 have BB := two_below w (.cells #[.bool s, .slice A n c, .int .i64 e] 25) (.cells #[.bool t, .slice B m d, .int .i64 f] 25)
 obtain ⟨p0, p1, p2, p3, p4, p5⟩ := g.held
 have h1 := h.below BB
 have h2 := h'.below BB
 have hT1 := hT.below BB
 have ne1 : ¬ w.heap.size + 2 = w.heap.size + 1 := by omega
 have ne2 : ¬ w.heap.size + 1 = w.heap.size + 2 := by omega
 have ne3 : ¬ w.heap.size = w.heap.size + 2 := by omega
 have ne4 : ¬ w.heap.size + 2 = w.heap.size := by omega
 clear h h' hT
 go_enter Tryz.func47, Tryz.ntmps47
 go_wp2_with fail
 refine rgn (fun w' => w'.cell? ⟨w.heap.size, 0, none⟩ = some (.bool s) ∧ w'.cell? ⟨w.heap.size, 1, none⟩ = some (.slice A n c) ∧ w'.cell? ⟨w.heap.size, 2, none⟩ = some (.int .i64 e) ∧ w'.cell? ⟨w.heap.size + 1, 0, none⟩ = some (.bool t) ∧ w'.cell? ⟨w.heap.size + 1, 1, none⟩ = some (.slice B m d) ∧ w'.cell? ⟨w.heap.size + 1, 2, none⟩ = some (.int .i64 f)) fun hHeld => ?_
 refine tl 0 ?_
 refine tl 2 ?_
 refine rdy 1 fun K hK => ?_
 go_simp
 refine (top_any (h1.heap (by rfl)) he he').mono ?_
 rintro en w1 ⟨rfl, b⟩
 replace h1 := h1.next b (by rfl)
 replace h2 := h2.next b (by rfl)
 replace hT1 := hT1.next b (by rfl)
 replace g := g.next b (by rfl)
 replace BB := below_next BB BB.size b (by rfl) (by rfl) (by rfl) (by rfl)
 clear b
 obtain ⟨q0, q1, q2, q3, q4, q5⟩ := g.held
 refine bk hK fun hHeld => ?_
 clear hK K
 try simp only [Act.put]
 refine rdy 3 fun K hK => ?_
 go_simp
 refine (top_any (h2.heap (by rfl)) hf hf').mono ?_
 rintro en w2 ⟨rfl, b⟩
 replace h1 := h1.next b (by rfl)
 replace h2 := h2.next b (by rfl)
 replace hT1 := hT1.next b (by rfl)
 replace g := g.next b (by rfl)
 replace BB := below_next BB BB.size b (by rfl) (by rfl) (by rfl) (by rfl)
 clear b
 obtain ⟨q0, q1, q2, q3, q4, q5⟩ := g.held
 refine bk hK fun hHeld => ?_
 clear hK K
 try simp only [Act.put]
 refine rdy 4 fun K hK => ?_
 go_simp
 refine (Tryz.cmp_Compare_int _ _ _).mono ?_
 rintro en w' ⟨rfl, rfl⟩
 rw [HC.out]
 refine bk hK fun hHeld => ?_
 clear hK K
 try simp only [Act.put]
 refine tl 5 ?_
 refine wpAnyH_done (by kernel_rfl) ?_ _
 go_wp2
 go_ret
 exact ⟨rfl, BB⟩

theorem sizes_eq {w : World} {A B : Option Addr} {n c m d x y : Nat} {s t : Bool} {e f : Int} (hT : Tab w) (h : Nt w A n c x) (h' : Nt w B m d y) (he : -1048576 ≤ e) (he' : e ≤ 1048576) (hf : -1048576 ≤ f) (hf' : f ≤ 1048576) (hx : x ≠ 0) (hy : y ≠ 0) (hr : (blen x : Int) + e = (blen y : Int) + f) {lo : Int} (hlo : min e f = lo) {i j : Nat} (hi : e - lo = (i : Int)) (hj : f - lo = (j : Int)) (hxi : x * 2 ^ i < W ^ 64) (hyj : y * 2 ^ j < W ^ 64) :
  Calls Tryz.prog 47 #[.agg #[.bool s, .slice A n c, .int .i64 e], .agg #[.bool t, .slice B m d, .int .i64 f]] w (Ints (cmpN (x * 2 ^ i) (y * 2 ^ j)) w) := by
 have hc : Lib.compareInt ((blen x : Int) + e) ((blen y : Int) + f) = 0 := by unfold Lib.compareInt; rw [if_neg (by omega), if_neg (by omega)]
 have HC := Lib.hid hc
 have HX := Lib.hid hx
 have HY := Lib.hid hy
 have HL1 := Lib.hid hxi
 have HL2 := Lib.hid hyj
 have hlo1 : -1048577 ≤ lo := by omega
 have hlo2 : lo ≤ 1048577 := by omega
 clear hc hr hx hy hxi hyj
 have g := two_new w s t A B n c m d e f
 have BB := two_below w (.cells #[.bool s, .slice A n c, .int .i64 e] 25) (.cells #[.bool t, .slice B m d, .int .i64 f] 25)
 obtain ⟨p0, p1, p2, p3, p4, p5⟩ := g.held
 have h1 := h.below BB
 have h2 := h'.below BB
 have hT1 := hT.below BB
 have ne1 : ¬ w.heap.size + 2 = w.heap.size + 1 := by omega
 have ne2 : ¬ w.heap.size + 1 = w.heap.size + 2 := by omega
 have ne3 : ¬ w.heap.size = w.heap.size + 2 := by omega
 have ne4 : ¬ w.heap.size + 2 = w.heap.size := by omega
 clear h h' hT
 go_enter Tryz.func47, Tryz.ntmps47
 go_wp2_with fail
 refine rgn (fun w' => w'.cell? ⟨w.heap.size, 0, none⟩ = some (.bool s) ∧ w'.cell? ⟨w.heap.size, 1, none⟩ = some (.slice A n c) ∧ w'.cell? ⟨w.heap.size, 2, none⟩ = some (.int .i64 e) ∧ w'.cell? ⟨w.heap.size + 1, 0, none⟩ = some (.bool t) ∧ w'.cell? ⟨w.heap.size + 1, 1, none⟩ = some (.slice B m d) ∧ w'.cell? ⟨w.heap.size + 1, 2, none⟩ = some (.int .i64 f)) fun hHeld => ?_
 refine tl 0 ?_
 refine tl 2 ?_
 refine rdy 1 fun K hK => ?_
 go_simp
 refine (top_any (h1.heap (by rfl)) he he').mono ?_
 rintro en w1 ⟨rfl, b⟩
 replace h1 := h1.next b (by rfl)
 replace h2 := h2.next b (by rfl)
 replace hT1 := hT1.next b (by rfl)
 replace g := g.next b (by rfl)
 replace BB := below_next BB BB.size b (by rfl) (by rfl) (by rfl) (by rfl)
 clear b
 obtain ⟨q0, q1, q2, q3, q4, q5⟩ := g.held
 refine bk hK fun hHeld => ?_
 clear hK K
 try simp only [Act.put]
 refine rdy 3 fun K hK => ?_
 go_simp
 refine (top_any (h2.heap (by rfl)) hf hf').mono ?_
 rintro en w2 ⟨rfl, b⟩
 replace h1 := h1.next b (by rfl)
 replace h2 := h2.next b (by rfl)
 replace hT1 := hT1.next b (by rfl)
 replace g := g.next b (by rfl)
 replace BB := below_next BB BB.size b (by rfl) (by rfl) (by rfl) (by rfl)
 clear b
 obtain ⟨q0, q1, q2, q3, q4, q5⟩ := g.held
 refine bk hK fun hHeld => ?_
 clear hK K
 try simp only [Act.put]
 refine rdy 4 fun K hK => ?_
 go_simp
 refine (Tryz.cmp_Compare_int _ _ _).mono ?_
 rintro en w' ⟨rfl, rfl⟩
 rw [HC.out]
 refine bk hK fun hHeld => ?_
 clear hK K
 try simp only [Act.put]
 refine tl 5 ?_
 refine wpAnyH_done (by kernel_rfl) ?_ _
 go_wp2_with fail
 refine rgn (fun w' => w'.cell? ⟨w.heap.size, 0, none⟩ = some (.bool s) ∧ w'.cell? ⟨w.heap.size, 1, none⟩ = some (.slice A n c) ∧ w'.cell? ⟨w.heap.size, 2, none⟩ = some (.int .i64 e) ∧ w'.cell? ⟨w.heap.size + 1, 0, none⟩ = some (.bool t) ∧ w'.cell? ⟨w.heap.size + 1, 1, none⟩ = some (.slice B m d) ∧ w'.cell? ⟨w.heap.size + 1, 2, none⟩ = some (.int .i64 f)) fun hHeld => ?_
 refine tl 0 ?_
 refine tl 1 ?_
 refine tl 3 ?_
 refine tl 4 ?_
 refine rdy 2 fun K hK => ?_
 go_simp
 refine (over_ok (j := i) (h1.heap (by rfl)) he he' hlo1 hlo2 hi HX.out HL1.out).mono ?_
 rintro en w3 ⟨A2, n2, c2, rfl, h3, b⟩
 replace h2 := h2.next b (by rfl)
 replace hT1 := hT1.next b (by rfl)
 replace g := g.next b (by rfl)
 replace BB := below_next BB BB.size b (by rfl) (by rfl) (by rfl) (by rfl)
 clear b h1
 obtain ⟨q0, q1, q2, q3, q4, q5⟩ := g.held
 refine bk hK fun hHeld => ?_
 clear hK K
 try simp only [Act.put]
 refine rdy 5 fun K hK => ?_
 go_simp
 refine (over_ok (j := j) (h2.heap (by rfl)) hf hf' hlo1 hlo2 hj HY.out HL2.out).mono ?_
 rintro en w4 ⟨A3, n3, c3, rfl, h4, b⟩
 replace hT1 := hT1.next b (by rfl)
 replace g := g.next b (by rfl)
 replace h3 := h3.next b (by rfl)
 replace BB := below_next BB BB.size b (by rfl) (by rfl) (by rfl) (by rfl)
 clear b h2
 obtain ⟨q0, q1, q2, q3, q4, q5⟩ := g.held
 refine bk hK fun hHeld => ?_
 clear hK K
 try simp only [Act.put]
 refine rdy 6 fun K hK => ?_
 go_simp
 refine (cmp_nt (h3.heap (by rfl)) (h4.heap (by rfl))).mono ?_
 rintro en w5 ⟨rfl, b⟩
 replace hT1 := hT1.next b (by rfl)
 replace g := g.next b (by rfl)
 replace h3 := h3.next b (by rfl)
 replace h4 := h4.next b (by rfl)
 replace BB := below_next BB BB.size b (by rfl) (by rfl) (by rfl) (by rfl)
 clear b
 obtain ⟨q0, q1, q2, q3, q4, q5⟩ := g.held
 refine bk hK fun hHeld => ?_
 clear hK K
 try simp only [Act.put]
 refine tl 7 ?_
 refine wpAnyH_done (by kernel_rfl) ?_ _
 go_wp2
 go_ret
 exact ⟨by simp, BB⟩

end Go.Proofs.YtdhdebapjlcjdaaGreatDoor
namespace Go.Proofs.YtdhdebapjlcjdaaGreatDoor
open Go.RowKit

theorem tops_lt {x y i j : Nat} (hy : y ≠ 0) (h : blen x + i < blen y + j) : x * 2 ^ i < y * 2 ^ j := by
 have h1 := (blen_le x (blen x)).1 (Nat.le_refl _)
 obtain ⟨h2, _, h3⟩ := blen_pos hy
 have h4 : x * 2 ^ i < 2 ^ blen x * 2 ^ i := Nat.mul_lt_mul_of_pos_right h1 (Nat.pow_pos (by omega))
 have h5 : 2 ^ (blen y - 1) * 2 ^ j ≤ y * 2 ^ j := Nat.mul_le_mul_right _ h2
 rw [← Nat.pow_add] at h4 h5
 have h6 : 2 ^ (blen x + i) ≤ 2 ^ (blen y - 1 + j) := Nat.pow_le_pow_right (by omega) (by omega)
 omega
theorem tops_fit {x i T : Nat} (h : blen x + i = T) (hT : T ≤ 4096) : x * 2 ^ i < W ^ 64 := by
 have h1 := (blen_le x (blen x)).1 (Nat.le_refl _)
 have h4 : x * 2 ^ i < 2 ^ blen x * 2 ^ i := Nat.mul_lt_mul_of_pos_right h1 (Nat.pow_pos (by omega))
 rw [← Nat.pow_add] at h4
 obtain ⟨k, hk⟩ : ∃ k, k = 64 * 64 := ⟨_, rfl⟩
 rw [W64_pow, ← hk]
 exact Nat.lt_of_lt_of_le h4 (Nat.pow_le_pow_right (by omega) (by omega))
theorem blen_nt {w : World} {A : Option Addr} {n c m : Nat} (h : Nt w A n c m) : blen m ≤ 4096 := by
 have := (blen_le m (64 * 64)).2 (Nat.lt_of_lt_of_eq h.lt W64_pow)
 omega
theorem sizes_any {w : World} {A B : Option Addr} {n c m d x y i j : Nat} {s t : Bool} {e f lo : Int} (hT : Tab w) (h : Nt w A n c x) (h' : Nt w B m d y) (hx : x ≠ 0) (hy : y ≠ 0)
  (he : -1048576 ≤ e) (he' : e ≤ 1048576) (hf : -1048576 ≤ f) (hf' : f ≤ 1048576) (hlo : min e f = lo) (hi : e - lo = (i : Int)) (hj : f - lo = (j : Int)) :
  Calls Tryz.prog 47 #[.agg #[.bool s, .slice A n c, .int .i64 e], .agg #[.bool t, .slice B m d, .int .i64 f]] w (Ints (cmpN (x * 2 ^ i) (y * 2 ^ j)) w) := by
 have hbx := blen_nt h
 have hby := blen_nt h'
 rcases Int.lt_trichotomy ((blen x : Int) + e) ((blen y : Int) + f) with hr | hr | hr
 ·rw [cmpN_lt (tops_lt hy (by omega))]
  exact sizes_lt hT h h' he he' hf hf' hr
 ·exact sizes_eq hT h h' he he' hf hf' hx hy hr hlo hi hj (tops_fit rfl (by omega)) (tops_fit rfl (by omega))
 ·rw [cmpN_gt (tops_lt hx (by omega))]
  exact sizes_gt hT h h' he he' hf hf' hr

end Go.Proofs.YtdhdebapjlcjdaaGreatDoor

namespace Go.Proofs.YtdhdebapjlcjdaaGreatDoor
open Go.RowKit

theorem Rd.next' {w w2 : World} {k : IntKind} {B : Nat} {A : Option Addr} {n c : Nat} {l : List Nat} (h : Rd w k B A n c l) (e : w2.heap = w.heap) : Rd w2 k B A n c l :=
 h.keep (w' := w2) (by rw [e]; omega) (fun p _ => by unfold World.cell?; rw [e])
theorem Nt.next' {w w2 : World} {A : Option Addr} {n c x : Nat} (h : Nt w A n c x) (e : w2.heap = w.heap) : Nt w2 A n c x := h.heap e
theorem neg_zero {w : World} {A : Option Addr} {n c m : Nat} {s : Bool} {e : Int} (hT : Tab w) (h : Nt w A n c m) (hd : OkD s m e) (hm : m = 0) :
  Calls Tryz.prog 15 #[.agg #[.bool s, .slice A n c, .int .i64 e]] w (Goods s m e w) := by
 have hnle := h.le
 refine (neg_keep h.rd (by omega) fun W2 b => ?_).mono fun en w' hg => ?_
 ·have := sign_ok (hT.below b) (h.below b) hd
  unfold signD at this
  rwa [if_pos hm] at this
 ·obtain ⟨A1, c1, h1, h2, h3⟩ := hg
  exact ⟨A1, n, c1, h1, ⟨h2, h.lt⟩, h3⟩
end Go.Proofs.YtdhdebapjlcjdaaGreatDoor
set_option maxHeartbeats 1000000
set_option maxRecDepth 100000
namespace Go.Proofs.YtdhdebapjlcjdaaGreatDoor
open Go.RowKit

theorem make_func (fn : Fn) (first cap : Array Value) (w : World) : (Instr.makeFunc fn first cap).run Tryz.prog w = .ok (.func fn first cap) w := rfl
end Go.Proofs.YtdhdebapjlcjdaaGreatDoor

namespace Go.Proofs.YtdhdebapjlcjdaaGreatDoor
open Go.RowKit

/-- what is told of what may not be -/
def Wrong (k : Int) (s : Bool) (m : Nat) (e : Int) : Prop := k = 1 ∧ s = false ∧ m = 0 ∧ e = 0
end Go.Proofs.YtdhdebapjlcjdaaGreatDoor

namespace Go.Proofs.YtdhdebapjlcjdaaGreatDoor
open Go.RowKit

/-- the blocks of Norm's three arguments -/
structure Tri (w : World) (v : Nat) (s : Bool) (A : Option Addr) (n c : Nat) (e : Int) : Prop where
 a : w.heap[v]? = some (.cells #[.bool s] 4 (0, 0))
 b : w.heap[v + 1]? = some (.cells #[.slice A n c] 23 (0, 0))
 c : w.heap[v + 2]? = some (.cells #[.int .i64 e] 3 (0, 0))
section
variable {w w' : World} {v : Nat} {s : Bool} {A : Option Addr} {n c : Nat} {e : Int}
theorem Tri.gl (h : Tri w v s A n c e) : v + 2 < w.heap.size := by
 rcases Nat.lt_or_ge (v + 2) w.heap.size with hlt | hge
 ·exact hlt
 ·have := h.c; rw [Array.getElem?_eq_none hge] at this; cases this
theorem Tri.below {b0 : Nat} (h : Tri w v s A n c e) (hb : Below b0 w w') (hg : v + 2 < b0) : Tri w' v s A n c e := ⟨(hb.block _ (by omega)).trans h.a, (hb.block _ (by omega)).trans h.b, (hb.block _ hg).trans h.c⟩
theorem Tri.alloc (h : Tri w v s A n c e) (o : Obj) : Tri (w.alloc o) v s A n c e := h.below (below_alloc w o) h.gl
theorem Tri.held (h : Tri w v s A n c e) : w.cell? ⟨v, 0, none⟩ = some (.bool s) ∧ w.cell? ⟨v + 1, 0, none⟩ = some (.slice A n c) ∧ w.cell? ⟨v + 2, 0, none⟩ = some (.int .i64 e) :=
 ⟨cell_of_row w v 0 _ _ (0, 0) h.a, cell_of_row w (v + 1) 0 _ _ (0, 0) h.b, cell_of_row w (v + 2) 0 _ _ (0, 0) h.c⟩
theorem tri_new (w : World) (s : Bool) (A : Option Addr) (n c : Nat) (e : Int) : Tri (((w.alloc (.cells #[.bool s] 4)).alloc (.cells #[.slice A n c] 23)).alloc (.cells #[.int .i64 e] 3)) w.heap.size s A n c e := by
 have h1 := heap_alloc_new w (.cells #[.bool s] 4)
 have h2 := heap_alloc_new (w.alloc (.cells #[.bool s] 4)) (.cells #[.slice A n c] 23)
 have h3 := heap_alloc_new ((w.alloc (.cells #[.bool s] 4)).alloc (.cells #[.slice A n c] 23)) (.cells #[.int .i64 e] 3)
 have s1 : (w.alloc (.cells #[.bool s] 4)).heap.size = w.heap.size + 1 := by simp
 have s2 : ((w.alloc (.cells #[.bool s] 4)).alloc (.cells #[.slice A n c] 23)).heap.size = w.heap.size + 2 := by simp
 rw [s1] at h2
 rw [s2] at h3
 refine ⟨?_, ?_, h3⟩
 ·rw [(two_below (w.alloc (.cells #[.bool s] 4)) _ _).block _ (by rw [s1]; omega)]; exact h1
 ·rw [(below_alloc _ _).block _ (by rw [s2]; omega)]; exact h2
end

theorem norm1_any {w : World} {v : Nat} {A : Option Addr} {n c m : Nat} {s : Bool} {e : Int} (g : Tri w v s A n c e) (hT : Tab w) (h : Nt w A n c m) :
  Calls Tryz.prog 56 #[.pointer (some ⟨v, 0, none⟩), .pointer (some ⟨v + 1, 0, none⟩), .pointer (some ⟨v + 2, 0, none⟩)] w (Ran (Nm s m e) w) := by
 have BB := below_alloc w (.cells #[.bool false, .slice none 0 0, .int .i64 0] 25)
 have r := Box.new w false none 0 0 0
 obtain ⟨p0, p1, p2⟩ := (g.alloc (.cells #[.bool false, .slice none 0 0, .int .i64 0] 25)).held
 have h1 := h.below BB
 have hT1 := hT.below BB
 clear h hT g
 go_enter Tryz.func56, Tryz.ntmps56
 go_wp2_with fail
 refine (normal_any (s := s) (e := e) hT1 h1).mono ?_
 rintro en w2 (⟨s5, A5, n5, c5, m5, e5, rfl, hP, h5, b⟩ | ⟨k, rfl, hk, hP, b⟩)
 ·have HP := Lib.hid hP
  replace r := r.next b rfl
  replace BB := bnx BB b
  obtain ⟨f5, f6, f7⟩ := r.open
  obtain ⟨z0, z1, z2⟩ := r.held
  clear b hP
  go_wp2
  have p := r.put s5 A5 n5 c5 e5
  have hN5 := h5.put3 r (.bool s5) (.slice A5 n5 c5) (.int .i64 e5)
  have HB3 := below_put3 (g := w.heap.size) BB (Nat.le_refl _) (.bool s5) (.slice A5 n5 c5) (.int .i64 e5)
  obtain ⟨z0, z1, z2⟩ := p.held
  exact bodyPost_ret (v := .agg #[.bool s5, .slice A5 n5 c5, .int .i64 e5]) (by simp [results, Tryz.results56, go_sem, z0, z1, z2]) rfl (.inl ⟨_, _, _, _, _, _, rfl, HP.out, hN5, HB3⟩)
 ·replace BB := bnx BB b
  have HP := Lib.hid hP
  have HK := Lib.hid hk
  clear b hP hk
  go_wp2
  exact ⟨rfl, .inr ⟨k, rfl, HK.out, HP.out, BB⟩⟩
theorem face_norm {P : Int → Bool → Nat → Int → Prop} {w : World} {A : Option Addr} {n c : Nat} {s : Bool} {e : Int}
  (hc : ∀ W2 : World, Below w.heap.size w W2 → Tri W2 w.heap.size s A n c e → Calls Tryz.prog 56 #[.pointer (some ⟨w.heap.size, 0, none⟩), .pointer (some ⟨w.heap.size + 1, 0, none⟩), .pointer (some ⟨w.heap.size + 2, 0, none⟩)] W2 (Ran P W2)) :
  Calls Tryz.prog 23 #[.bool s, .slice A n c, .int .i64 e] w (Tells P w) := by
 have HC := Lib.hid hc
 clear hc
 have hmf := make_func
 have BB := (three_below w (.cells #[.bool s] 4) (.cells #[.slice A n c] 23) (.cells #[.int .i64 e] 3)).trans ((below_alloc _ (.cells #[.bool false, .slice none 0 0, .int .i64 0] 25)).mono (by simp; omega))
 have g := (tri_new w s A n c e).alloc (.cells #[.bool false, .slice none 0 0, .int .i64 0] 25)
 have r := Box.new (((w.alloc (.cells #[.bool s] 4)).alloc (.cells #[.slice A n c] 23)).alloc (.cells #[.int .i64 e] 3)) false none 0 0 0
 have e3 : (((w.alloc (.cells #[.bool s] 4)).alloc (.cells #[.slice A n c] 23)).alloc (.cells #[.int .i64 e] 3)).heap.size = w.heap.size + 3 := by simp
 rw [e3] at r
 clear e3
 go_enter Tryz.func23, Tryz.ntmps23
 go_wp2_with fail
 refine (told_any3 (P := P) (fun _ => by kernel_rfl) (fun W2 h2 => ?_)).mono ?_
 ·subst h2
  exact HC.out _ (BB.trans ((two_below _ _ _).mono BB.size)) ((g.alloc _).alloc _)
 rintro en w5 ⟨k, s', A5, n5, c5, m', e', rfl, hP, h5, b⟩
 have HP := Lib.hid hP
 replace r := r.next b rfl
 replace BB := bnx BB b
 obtain ⟨f0, f1, f2⟩ := r.open
 obtain ⟨z0, z1, z2⟩ := r.held
 clear b hP g HC
 go_wp2
 have p := r.put s' A5 n5 c5 e'
 have hN5 := h5.put3 r (.bool s') (.slice A5 n5 c5) (.int .i64 e')
 have HB3 := below_put3 (g := w.heap.size + 3) BB (by omega) (.bool s') (.slice A5 n5 c5) (.int .i64 e')
 obtain ⟨z0, z1, z2⟩ := p.held
 exact bodyPost_ret (v := .tuple #[.agg #[.bool s', .slice A5 n5 c5, .int .i64 e'], .int .i64 k]) (by simp [results, Tryz.results23, go_sem, z0, z1, z2]) rfl ⟨_, _, _, _, _, _, _, rfl, HP.out, hN5, HB3⟩
theorem dnorm_ok {w : World} {A : Option Addr} {n c m : Nat} {s : Bool} {e : Int} (hT : Tab w) (h : Nt w A n c m) :
  Calls Tryz.prog 23 #[.bool s, .slice A n c, .int .i64 e] w (Tells (Nm s m e) w) :=
 face_norm fun _ b g => norm1_any g (hT.below b) (h.below b)
end Go.Proofs.YtdhdebapjlcjdaaGreatDoor
