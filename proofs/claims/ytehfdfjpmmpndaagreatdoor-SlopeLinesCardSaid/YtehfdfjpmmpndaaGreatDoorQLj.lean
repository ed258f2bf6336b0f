/-
  Contracts of arith's faces Add, Sub, Mul, Div, Neg, Sqr and Sqrt, at this translation.
-/
import Derived.Test.YtehfdfjpmmpndaaGreatDoorQLi
import Derived.Test.YtehfdfjpmmpndaaGreatDoorQLg
set_option maxHeartbeats 8000000
set_option maxRecDepth 100000
namespace Go.Proofs.YtehfdfjpmmpndaaGreatDoor
open Go.RowKit
variable {A1 A2 A3 A4 : Option Addr} {c1 c2 c3 c4 n1 n2 n3 n4 : Nat} {p : Int} {w : World} {x y : Iv}
theorem fine_two {K : Nat} : (mayI K x && mayI K y && prec p) = true ↔ Fine K 2 (fun i => if i = 0 then x else y) p := by
 unfold Fine
 rw [two_may, Bool.and_eq_true, Bool.and_eq_true]
 exact ⟨fun h => ⟨h.2, h.1⟩, fun h => ⟨h.2, h.1⟩⟩
theorem fine_one {K : Nat} : (mayI K x && prec p) = true ↔ Fine K 1 (fun _ => x) p := by
 unfold Fine
 rw [one_may, Bool.and_eq_true]
 exact ⟨fun h => ⟨h.2, h.1⟩, fun h => ⟨h.2, h.1⟩⟩
theorem two_left {a b c : Bool} (h : (a && b && c) = true) : a = true ∧ b = true := by
 rw [Bool.and_eq_true, Bool.and_eq_true] at h
 exact h.1
theorem len_at {A : Option Addr} {n c : Nat} {l : List Nat} (h : Rd w .u64 W A n c l) (hl : l.length ≤ 10000000000000) : n ≤ 10000000000000 := by rw [← h.len]; exact hl
theorem aface2_start (hT : Tab w) (h1 : Rd w .u64 W A1 n1 c1 x.lo.l) (h2 : Rd w .u64 W A2 n2 c2 x.hi.l) (h3 : Rd w .u64 W A3 n3 c3 y.lo.l) (h4 : Rd w .u64 W A4 n4 c4 y.hi.l) :
  (fun wc wr : World => Ibx wc w.heap.size x.lo.s A1 n1 c1 x.lo.e x.hi.s A2 n2 c2 x.hi.e ∧ Ibx wc (w.heap.size + 1) y.lo.s A3 n3 c3 y.lo.e y.hi.s A4 n4 c4 y.hi.e ∧ Cel wc (w.heap.size + 2) p ∧ Below w.heap.size w wr ∧ Tab wr ∧ Rd wr .u64 W A1 n1 c1 x.lo.l ∧ Rd wr .u64 W A2 n2 c2 x.hi.l ∧ Rd wr .u64 W A3 n3 c3 y.lo.l ∧ Rd wr .u64 W A4 n4 c4 y.hi.l ∧ Ibx wr w.heap.size x.lo.s A1 n1 c1 x.lo.e x.hi.s A2 n2 c2 x.hi.e ∧ Ibx wr (w.heap.size + 1) y.lo.s A3 n3 c3 y.lo.e y.hi.s A4 n4 c4 y.hi.e ∧ Cel wr (w.heap.size + 2) p ∧ Ibx wr (w.heap.size + 3) false none 0 0 0 false none 0 0 0 ∧ Ivs wr (w.heap.size + 4) 0 2 (fun i => if i = 0 then x else y)) ((((w.alloc (.cells #[.bool x.lo.s, .slice A1 n1 c1, .int .i64 x.lo.e, .bool x.hi.s, .slice A2 n2 c2, .int .i64 x.hi.e] 30)).alloc (.cells #[.bool y.lo.s, .slice A3 n3 c3, .int .i64 y.lo.e, .bool y.hi.s, .slice A4 n4 c4, .int .i64 y.hi.e] 30)).alloc (.cells #[.int .i64 p] 3)).alloc (.cells #[.bool false, .slice none 0 0, .int .i64 0, .bool false, .slice none 0 0, .int .i64 0] 30)) (((((w.alloc (.cells #[.bool x.lo.s, .slice A1 n1 c1, .int .i64 x.lo.e, .bool x.hi.s, .slice A2 n2 c2, .int .i64 x.hi.e] 30)).alloc (.cells #[.bool y.lo.s, .slice A3 n3 c3, .int .i64 y.lo.e, .bool y.hi.s, .slice A4 n4 c4, .int .i64 y.hi.e] 30)).alloc (.cells #[.int .i64 p] 3)).alloc (.cells #[.bool false, .slice none 0 0, .int .i64 0, .bool false, .slice none 0 0, .int .i64 0] 30)).alloc (.cells #[.bool x.lo.s, .slice A1 n1 c1, .int .i64 x.lo.e, .bool x.hi.s, .slice A2 n2 c2, .int .i64 x.hi.e, .bool y.lo.s, .slice A3 n3 c3, .int .i64 y.lo.e, .bool y.hi.s, .slice A4 n4 c4, .int .i64 y.hi.e] 30)) := by
 have BB := three_below w (.cells #[.bool x.lo.s, .slice A1 n1 c1, .int .i64 x.lo.e, .bool x.hi.s, .slice A2 n2 c2, .int .i64 x.hi.e] 30) (.cells #[.bool y.lo.s, .slice A3 n3 c3, .int .i64 y.lo.e, .bool y.hi.s, .slice A4 n4 c4, .int .i64 y.hi.e] 30) (.cells #[.int .i64 p] 3)
 have b := below_alloc (((w.alloc (.cells #[.bool x.lo.s, .slice A1 n1 c1, .int .i64 x.lo.e, .bool x.hi.s, .slice A2 n2 c2, .int .i64 x.hi.e] 30)).alloc (.cells #[.bool y.lo.s, .slice A3 n3 c3, .int .i64 y.lo.e, .bool y.hi.s, .slice A4 n4 c4, .int .i64 y.hi.e] 30)).alloc (.cells #[.int .i64 p] 3)) (.cells #[.bool false, .slice none 0 0, .int .i64 0, .bool false, .slice none 0 0, .int .i64 0] 30)
 replace BB := bnx BB b
 clear b
 have xa := (((Ibx.new w x.lo.s A1 n1 c1 x.lo.e x.hi.s A2 n2 c2 x.hi.e).alloc (.cells #[.bool y.lo.s, .slice A3 n3 c3, .int .i64 y.lo.e, .bool y.hi.s, .slice A4 n4 c4, .int .i64 y.hi.e] 30)).alloc (.cells #[.int .i64 p] 3)).alloc (.cells #[.bool false, .slice none 0 0, .int .i64 0, .bool false, .slice none 0 0, .int .i64 0] 30)
 have xb : Ibx ((w.alloc (.cells #[.bool x.lo.s, .slice A1 n1 c1, .int .i64 x.lo.e, .bool x.hi.s, .slice A2 n2 c2, .int .i64 x.hi.e] 30)).alloc (.cells #[.bool y.lo.s, .slice A3 n3 c3, .int .i64 y.lo.e, .bool y.hi.s, .slice A4 n4 c4, .int .i64 y.hi.e] 30)) (w.heap.size + 1) y.lo.s A3 n3 c3 y.lo.e y.hi.s A4 n4 c4 y.hi.e := by have := (Ibx.new (w.alloc (.cells #[.bool x.lo.s, .slice A1 n1 c1, .int .i64 x.lo.e, .bool x.hi.s, .slice A2 n2 c2, .int .i64 x.hi.e] 30)) y.lo.s A3 n3 c3 y.lo.e y.hi.s A4 n4 c4 y.hi.e); simpa using this
 replace xb := ((xb).alloc (.cells #[.int .i64 p] 3)).alloc (.cells #[.bool false, .slice none 0 0, .int .i64 0, .bool false, .slice none 0 0, .int .i64 0] 30)
 have xp : Cel (((w.alloc (.cells #[.bool x.lo.s, .slice A1 n1 c1, .int .i64 x.lo.e, .bool x.hi.s, .slice A2 n2 c2, .int .i64 x.hi.e] 30)).alloc (.cells #[.bool y.lo.s, .slice A3 n3 c3, .int .i64 y.lo.e, .bool y.hi.s, .slice A4 n4 c4, .int .i64 y.hi.e] 30)).alloc (.cells #[.int .i64 p] 3)) (w.heap.size + 2) p := by have := Cel.new ((w.alloc (.cells #[.bool x.lo.s, .slice A1 n1 c1, .int .i64 x.lo.e, .bool x.hi.s, .slice A2 n2 c2, .int .i64 x.hi.e] 30)).alloc (.cells #[.bool y.lo.s, .slice A3 n3 c3, .int .i64 y.lo.e, .bool y.hi.s, .slice A4 n4 c4, .int .i64 y.hi.e] 30)) p; simpa using this
 replace xp := xp.below (below_alloc _ (.cells #[.bool false, .slice none 0 0, .int .i64 0, .bool false, .slice none 0 0, .int .i64 0] 30)) xp.gl
 have r : Ibx ((((w.alloc (.cells #[.bool x.lo.s, .slice A1 n1 c1, .int .i64 x.lo.e, .bool x.hi.s, .slice A2 n2 c2, .int .i64 x.hi.e] 30)).alloc (.cells #[.bool y.lo.s, .slice A3 n3 c3, .int .i64 y.lo.e, .bool y.hi.s, .slice A4 n4 c4, .int .i64 y.hi.e] 30)).alloc (.cells #[.int .i64 p] 3)).alloc (.cells #[.bool false, .slice none 0 0, .int .i64 0, .bool false, .slice none 0 0, .int .i64 0] 30)) (w.heap.size + 3) false none 0 0 0 false none 0 0 0 := by have := Ibx.new (((w.alloc (.cells #[.bool x.lo.s, .slice A1 n1 c1, .int .i64 x.lo.e, .bool x.hi.s, .slice A2 n2 c2, .int .i64 x.hi.e] 30)).alloc (.cells #[.bool y.lo.s, .slice A3 n3 c3, .int .i64 y.lo.e, .bool y.hi.s, .slice A4 n4 c4, .int .i64 y.hi.e] 30)).alloc (.cells #[.int .i64 p] 3)) false none 0 0 0 false none 0 0 0; simpa using this
 have ya := xa
 have yb := xb
 have yp := xp
 have G := mv BB rfl (J5 hT h1 h2 h3 h4)
 clear hT h1 h2 h3 h4
 obtain ⟨hT, h1, h2, h3, h4⟩ := G
 have rw1 := rows_two (w := ((((w.alloc (.cells #[.bool x.lo.s, .slice A1 n1 c1, .int .i64 x.lo.e, .bool x.hi.s, .slice A2 n2 c2, .int .i64 x.hi.e] 30)).alloc (.cells #[.bool y.lo.s, .slice A3 n3 c3, .int .i64 y.lo.e, .bool y.hi.s, .slice A4 n4 c4, .int .i64 y.hi.e] 30)).alloc (.cells #[.int .i64 p] 3)).alloc (.cells #[.bool false, .slice none 0 0, .int .i64 0, .bool false, .slice none 0 0, .int .i64 0] 30))) (g := w.heap.size + 4) (by simp) h1 h2 h3 h4
 have b := below_alloc ((((w.alloc (.cells #[.bool x.lo.s, .slice A1 n1 c1, .int .i64 x.lo.e, .bool x.hi.s, .slice A2 n2 c2, .int .i64 x.hi.e] 30)).alloc (.cells #[.bool y.lo.s, .slice A3 n3 c3, .int .i64 y.lo.e, .bool y.hi.s, .slice A4 n4 c4, .int .i64 y.hi.e] 30)).alloc (.cells #[.int .i64 p] 3)).alloc (.cells #[.bool false, .slice none 0 0, .int .i64 0, .bool false, .slice none 0 0, .int .i64 0] 30)) (.cells #[.bool x.lo.s, .slice A1 n1 c1, .int .i64 x.lo.e, .bool x.hi.s, .slice A2 n2 c2, .int .i64 x.hi.e, .bool y.lo.s, .slice A3 n3 c3, .int .i64 y.lo.e, .bool y.hi.s, .slice A4 n4 c4, .int .i64 y.hi.e] 30)
 replace BB := bnx BB b
 have G := mv b rfl (J9 hT h1 h2 h3 h4 xa xb xp r)
 clear b hT h1 h2 h3 h4 xa xb xp r
 obtain ⟨hT, h1, h2, h3, h4, xa, xb, xp, r⟩ := G
 exact ⟨ya, yb, yp, BB, hT, h1, h2, h3, h4, xa, xb, xp, r, rw1⟩
theorem aface1_start (hT : Tab w) (h1 : Rd w .u64 W A1 n1 c1 x.lo.l) (h2 : Rd w .u64 W A2 n2 c2 x.hi.l) :
  (fun wc wr : World => Ibx wc w.heap.size x.lo.s A1 n1 c1 x.lo.e x.hi.s A2 n2 c2 x.hi.e ∧ Cel wc (w.heap.size + 1) p ∧ Below w.heap.size w wr ∧ Tab wr ∧ Rd wr .u64 W A1 n1 c1 x.lo.l ∧ Rd wr .u64 W A2 n2 c2 x.hi.l ∧ Ibx wr w.heap.size x.lo.s A1 n1 c1 x.lo.e x.hi.s A2 n2 c2 x.hi.e ∧ Cel wr (w.heap.size + 1) p ∧ Ibx wr (w.heap.size + 2) false none 0 0 0 false none 0 0 0 ∧ Ivs wr (w.heap.size + 3) 0 1 (fun _ => x)) (((w.alloc (.cells #[.bool x.lo.s, .slice A1 n1 c1, .int .i64 x.lo.e, .bool x.hi.s, .slice A2 n2 c2, .int .i64 x.hi.e] 30)).alloc (.cells #[.int .i64 p] 3)).alloc (.cells #[.bool false, .slice none 0 0, .int .i64 0, .bool false, .slice none 0 0, .int .i64 0] 30)) ((((w.alloc (.cells #[.bool x.lo.s, .slice A1 n1 c1, .int .i64 x.lo.e, .bool x.hi.s, .slice A2 n2 c2, .int .i64 x.hi.e] 30)).alloc (.cells #[.int .i64 p] 3)).alloc (.cells #[.bool false, .slice none 0 0, .int .i64 0, .bool false, .slice none 0 0, .int .i64 0] 30)).alloc (.cells #[.bool x.lo.s, .slice A1 n1 c1, .int .i64 x.lo.e, .bool x.hi.s, .slice A2 n2 c2, .int .i64 x.hi.e] 30)) := by
 have BB := three_below w (.cells #[.bool x.lo.s, .slice A1 n1 c1, .int .i64 x.lo.e, .bool x.hi.s, .slice A2 n2 c2, .int .i64 x.hi.e] 30) (.cells #[.int .i64 p] 3) (.cells #[.bool false, .slice none 0 0, .int .i64 0, .bool false, .slice none 0 0, .int .i64 0] 30)
 have xa := ((Ibx.new w x.lo.s A1 n1 c1 x.lo.e x.hi.s A2 n2 c2 x.hi.e).alloc (.cells #[.int .i64 p] 3)).alloc (.cells #[.bool false, .slice none 0 0, .int .i64 0, .bool false, .slice none 0 0, .int .i64 0] 30)
 have xp : Cel ((w.alloc (.cells #[.bool x.lo.s, .slice A1 n1 c1, .int .i64 x.lo.e, .bool x.hi.s, .slice A2 n2 c2, .int .i64 x.hi.e] 30)).alloc (.cells #[.int .i64 p] 3)) (w.heap.size + 1) p := by have := Cel.new (w.alloc (.cells #[.bool x.lo.s, .slice A1 n1 c1, .int .i64 x.lo.e, .bool x.hi.s, .slice A2 n2 c2, .int .i64 x.hi.e] 30)) p; simpa using this
 replace xp := xp.below (below_alloc _ (.cells #[.bool false, .slice none 0 0, .int .i64 0, .bool false, .slice none 0 0, .int .i64 0] 30)) xp.gl
 have r : Ibx (((w.alloc (.cells #[.bool x.lo.s, .slice A1 n1 c1, .int .i64 x.lo.e, .bool x.hi.s, .slice A2 n2 c2, .int .i64 x.hi.e] 30)).alloc (.cells #[.int .i64 p] 3)).alloc (.cells #[.bool false, .slice none 0 0, .int .i64 0, .bool false, .slice none 0 0, .int .i64 0] 30)) (w.heap.size + 2) false none 0 0 0 false none 0 0 0 := by have := Ibx.new ((w.alloc (.cells #[.bool x.lo.s, .slice A1 n1 c1, .int .i64 x.lo.e, .bool x.hi.s, .slice A2 n2 c2, .int .i64 x.hi.e] 30)).alloc (.cells #[.int .i64 p] 3)) false none 0 0 0 false none 0 0 0; simpa using this
 have ya := xa
 have yp := xp
 have G := mv BB rfl (J3 hT h1 h2)
 clear hT h1 h2
 obtain ⟨hT, h1, h2⟩ := G
 have rw1 := rows_one (w := (((w.alloc (.cells #[.bool x.lo.s, .slice A1 n1 c1, .int .i64 x.lo.e, .bool x.hi.s, .slice A2 n2 c2, .int .i64 x.hi.e] 30)).alloc (.cells #[.int .i64 p] 3)).alloc (.cells #[.bool false, .slice none 0 0, .int .i64 0, .bool false, .slice none 0 0, .int .i64 0] 30))) (g := w.heap.size + 3) (by simp) h1 h2
 have b := below_alloc (((w.alloc (.cells #[.bool x.lo.s, .slice A1 n1 c1, .int .i64 x.lo.e, .bool x.hi.s, .slice A2 n2 c2, .int .i64 x.hi.e] 30)).alloc (.cells #[.int .i64 p] 3)).alloc (.cells #[.bool false, .slice none 0 0, .int .i64 0, .bool false, .slice none 0 0, .int .i64 0] 30)) (.cells #[.bool x.lo.s, .slice A1 n1 c1, .int .i64 x.lo.e, .bool x.hi.s, .slice A2 n2 c2, .int .i64 x.hi.e] 30)
 replace BB := bnx BB b
 have G := mv b rfl (J6 hT h1 h2 xa xp r)
 clear b hT h1 h2 xa xp r
 obtain ⟨hT, h1, h2, xa, xp, r⟩ := G
 exact ⟨ya, yp, BB, hT, h1, h2, xa, xp, r, rw1⟩
theorem aadd_any (S : Sc) (hT : Tab w) (h1 : Rd w .u64 W A1 n1 c1 x.lo.l) (h2 : Rd w .u64 W A2 n2 c2 x.hi.l) (h3 : Rd w .u64 W A3 n3 c3 y.lo.l) (h4 : Rd w .u64 W A4 n4 c4 y.hi.l) :
  Calls Tryz.prog 75 #[.agg #[.bool x.lo.s, .slice A1 n1 c1, .int .i64 x.lo.e, .bool x.hi.s, .slice A2 n2 c2, .int .i64 x.hi.e], .agg #[.bool y.lo.s, .slice A3 n3 c3, .int .i64 y.lo.e, .bool y.hi.s, .slice A4 n4 c4, .int .i64 y.hi.e], .int .i64 p] w (TellO (face2 S x y p (sumO S x y p)) w) := by
 have G := aface2_start (p := p) hT h1 h2 h3 h4
 clear hT h1 h2 h3 h4
 obtain ⟨ya, yb, yp, BB, hT, h1, h2, h3, h4, xa, xb, xp, r, rw1⟩ := G
 have hmf := make_func
 obtain ⟨a0, a1, a2, a3, a4, a5⟩ := ya.held
 obtain ⟨e0, e1, e2, e3, e4, e5⟩ := yb.held
 have p0 := yp.c0
 clear ya yb yp
 obtain ⟨q, hq⟩ : ∃ q : Except Int Iv, q = face2 S x y p (sumO S x y p) := ⟨_, rfl⟩
 rw [← hq]
 have HQ := hyd hq
 clear hq
 go_enter Tryz.func75, Tryz.ntmps75
 go_wp2_with fail
 refine (tello_to HQ.out (atold_run (o := sumO S x y p) (mayI S.K x && mayI S.K y && prec p) S.big hT rw1 (by omega) (fun _ => by kernel_rfl) fine_two (fun hc W2 b2 => add1_run S (mv b2 rfl hT) (mv b2 rfl h1) (mv b2 rfl h2) (mv b2 rfl h3) (mv b2 rfl h4) (mv b2 rfl xa) (mv b2 rfl xb) (mv b2 rfl xp)))).mono ?_
 rintro en w5 ⟨A5, n5, c5, A6, n6, c6, rfl, h5, h6, b⟩
 clear hT h1 h2 h3 h4 xa xb xp rw1
 replace BB := bnx BB b
 replace r := mv b rfl r
 clear b
 obtain ⟨f0, f1, f2, f3, f4, f5⟩ := r.open
 obtain ⟨z0, z1, z2, z3, z4, z5⟩ := r.held
 go_wp2
 exact ret6t rfl rfl rfl rfl r h5 h6 BB (by omega) fun _ hN hM HB3 => ⟨_, _, _, _, _, _, rfl, hN, hM, HB3⟩
theorem asub_any (S : Sc) (hT : Tab w) (h1 : Rd w .u64 W A1 n1 c1 x.lo.l) (h2 : Rd w .u64 W A2 n2 c2 x.hi.l) (h3 : Rd w .u64 W A3 n3 c3 y.lo.l) (h4 : Rd w .u64 W A4 n4 c4 y.hi.l) :
  Calls Tryz.prog 76 #[.agg #[.bool x.lo.s, .slice A1 n1 c1, .int .i64 x.lo.e, .bool x.hi.s, .slice A2 n2 c2, .int .i64 x.hi.e], .agg #[.bool y.lo.s, .slice A3 n3 c3, .int .i64 y.lo.e, .bool y.hi.s, .slice A4 n4 c4, .int .i64 y.hi.e], .int .i64 p] w (TellO (face2 S x y p (sumO S x (turnI y) p)) w) := by
 have G := aface2_start (p := p) hT h1 h2 h3 h4
 clear hT h1 h2 h3 h4
 obtain ⟨ya, yb, yp, BB, hT, h1, h2, h3, h4, xa, xb, xp, r, rw1⟩ := G
 have hmf := make_func
 obtain ⟨a0, a1, a2, a3, a4, a5⟩ := ya.held
 obtain ⟨e0, e1, e2, e3, e4, e5⟩ := yb.held
 have p0 := yp.c0
 clear ya yb yp
 obtain ⟨q, hq⟩ : ∃ q : Except Int Iv, q = face2 S x y p (sumO S x (turnI y) p) := ⟨_, rfl⟩
 rw [← hq]
 have HQ := hyd hq
 clear hq
 go_enter Tryz.func76, Tryz.ntmps76
 go_wp2_with fail
 refine (tello_to HQ.out (atold_run (o := sumO S x (turnI y) p) (mayI S.K x && mayI S.K y && prec p) S.big hT rw1 (by omega) (fun _ => by kernel_rfl) fine_two (fun hc W2 b2 => sub1_run S (mv b2 rfl hT) (mv b2 rfl h1) (mv b2 rfl h2) (mv b2 rfl h3) (mv b2 rfl h4) (mv b2 rfl xa) (mv b2 rfl xb) (mv b2 rfl xp) (len_at h3 (may_len (two_left hc).2).1) (len_at h4 (may_len (two_left hc).2).2)))).mono ?_
 rintro en w5 ⟨A5, n5, c5, A6, n6, c6, rfl, h5, h6, b⟩
 clear hT h1 h2 h3 h4 xa xb xp rw1
 replace BB := bnx BB b
 replace r := mv b rfl r
 clear b
 obtain ⟨f0, f1, f2, f3, f4, f5⟩ := r.open
 obtain ⟨z0, z1, z2, z3, z4, z5⟩ := r.held
 go_wp2
 exact ret6t rfl rfl rfl rfl r h5 h6 BB (by omega) fun _ hN hM HB3 => ⟨_, _, _, _, _, _, rfl, hN, hM, HB3⟩
theorem amul_any (S : Sc) (hT : Tab w) (h1 : Rd w .u64 W A1 n1 c1 x.lo.l) (h2 : Rd w .u64 W A2 n2 c2 x.hi.l) (h3 : Rd w .u64 W A3 n3 c3 y.lo.l) (h4 : Rd w .u64 W A4 n4 c4 y.hi.l) :
  Calls Tryz.prog 77 #[.agg #[.bool x.lo.s, .slice A1 n1 c1, .int .i64 x.lo.e, .bool x.hi.s, .slice A2 n2 c2, .int .i64 x.hi.e], .agg #[.bool y.lo.s, .slice A3 n3 c3, .int .i64 y.lo.e, .bool y.hi.s, .slice A4 n4 c4, .int .i64 y.hi.e], .int .i64 p] w (TellO (face2 S x y p (mulI S x y p)) w) := by
 have G := aface2_start (p := p) hT h1 h2 h3 h4
 clear hT h1 h2 h3 h4
 obtain ⟨ya, yb, yp, BB, hT, h1, h2, h3, h4, xa, xb, xp, r, rw1⟩ := G
 have hmf := make_func
 obtain ⟨a0, a1, a2, a3, a4, a5⟩ := ya.held
 obtain ⟨e0, e1, e2, e3, e4, e5⟩ := yb.held
 have p0 := yp.c0
 clear ya yb yp
 obtain ⟨q, hq⟩ : ∃ q : Except Int Iv, q = face2 S x y p (mulI S x y p) := ⟨_, rfl⟩
 rw [← hq]
 have HQ := hyd hq
 clear hq
 go_enter Tryz.func77, Tryz.ntmps77
 go_wp2_with fail
 refine (tello_to HQ.out (atold_run (o := mulI S x y p) (mayI S.K x && mayI S.K y && prec p) S.big hT rw1 (by omega) (fun _ => by kernel_rfl) fine_two (fun hc W2 b2 => mul1_run S (mv b2 rfl hT) (mv b2 rfl h1) (mv b2 rfl h2) (mv b2 rfl h3) (mv b2 rfl h4) (mv b2 rfl xa) (mv b2 rfl xb) (mv b2 rfl xp)))).mono ?_
 rintro en w5 ⟨A5, n5, c5, A6, n6, c6, rfl, h5, h6, b⟩
 clear hT h1 h2 h3 h4 xa xb xp rw1
 replace BB := bnx BB b
 replace r := mv b rfl r
 clear b
 obtain ⟨f0, f1, f2, f3, f4, f5⟩ := r.open
 obtain ⟨z0, z1, z2, z3, z4, z5⟩ := r.held
 go_wp2
 exact ret6t rfl rfl rfl rfl r h5 h6 BB (by omega) fun _ hN hM HB3 => ⟨_, _, _, _, _, _, rfl, hN, hM, HB3⟩
theorem adiv_any (S : Sc) (hT : Tab w) (h1 : Rd w .u64 W A1 n1 c1 x.lo.l) (h2 : Rd w .u64 W A2 n2 c2 x.hi.l) (h3 : Rd w .u64 W A3 n3 c3 y.lo.l) (h4 : Rd w .u64 W A4 n4 c4 y.hi.l) :
  Calls Tryz.prog 78 #[.agg #[.bool x.lo.s, .slice A1 n1 c1, .int .i64 x.lo.e, .bool x.hi.s, .slice A2 n2 c2, .int .i64 x.hi.e], .agg #[.bool y.lo.s, .slice A3 n3 c3, .int .i64 y.lo.e, .bool y.hi.s, .slice A4 n4 c4, .int .i64 y.hi.e], .int .i64 p] w (TellO (face2 S x y p (divI S x y p)) w) := by
 have G := aface2_start (p := p) hT h1 h2 h3 h4
 clear hT h1 h2 h3 h4
 obtain ⟨ya, yb, yp, BB, hT, h1, h2, h3, h4, xa, xb, xp, r, rw1⟩ := G
 have hmf := make_func
 obtain ⟨a0, a1, a2, a3, a4, a5⟩ := ya.held
 obtain ⟨e0, e1, e2, e3, e4, e5⟩ := yb.held
 have p0 := yp.c0
 clear ya yb yp
 obtain ⟨q, hq⟩ : ∃ q : Except Int Iv, q = face2 S x y p (divI S x y p) := ⟨_, rfl⟩
 rw [← hq]
 have HQ := hyd hq
 clear hq
 go_enter Tryz.func78, Tryz.ntmps78
 go_wp2_with fail
 refine (tello_to HQ.out (atold_run (o := divI S x y p) (mayI S.K x && mayI S.K y && prec p) S.big hT rw1 (by omega) (fun _ => by kernel_rfl) fine_two (fun hc W2 b2 => div1_run S (mv b2 rfl hT) (mv b2 rfl h1) (mv b2 rfl h2) (mv b2 rfl h3) (mv b2 rfl h4) (mv b2 rfl xa) (mv b2 rfl xb) (mv b2 rfl xp)))).mono ?_
 rintro en w5 ⟨A5, n5, c5, A6, n6, c6, rfl, h5, h6, b⟩
 clear hT h1 h2 h3 h4 xa xb xp rw1
 replace BB := bnx BB b
 replace r := mv b rfl r
 clear b
 obtain ⟨f0, f1, f2, f3, f4, f5⟩ := r.open
 obtain ⟨z0, z1, z2, z3, z4, z5⟩ := r.held
 go_wp2
 exact ret6t rfl rfl rfl rfl r h5 h6 BB (by omega) fun _ hN hM HB3 => ⟨_, _, _, _, _, _, rfl, hN, hM, HB3⟩
theorem aneg_any (S : Sc) (hT : Tab w) (h1 : Rd w .u64 W A1 n1 c1 x.lo.l) (h2 : Rd w .u64 W A2 n2 c2 x.hi.l) :
  Calls Tryz.prog 79 #[.agg #[.bool x.lo.s, .slice A1 n1 c1, .int .i64 x.lo.e, .bool x.hi.s, .slice A2 n2 c2, .int .i64 x.hi.e], .int .i64 p] w (TellO (face1 S x p (negI S x p)) w) := by
 have G := aface1_start (p := p) hT h1 h2
 clear hT h1 h2
 obtain ⟨ya, yp, BB, hT, h1, h2, xa, xp, r, rw1⟩ := G
 have hmf := make_func
 obtain ⟨a0, a1, a2, a3, a4, a5⟩ := ya.held
 have p0 := yp.c0
 clear ya yp
 obtain ⟨q, hq⟩ : ∃ q : Except Int Iv, q = face1 S x p (negI S x p) := ⟨_, rfl⟩
 rw [← hq]
 have HQ := hyd hq
 clear hq
 go_enter Tryz.func79, Tryz.ntmps79
 go_wp2_with fail
 refine (tello_to HQ.out (atold_run (o := negI S x p) (mayI S.K x && prec p) S.big hT rw1 (by omega) (fun _ => by kernel_rfl) fine_one (fun hc W2 b2 => neg1_run S (mv b2 rfl hT) (mv b2 rfl h1) (mv b2 rfl h2) (mv b2 rfl xa) (mv b2 rfl xp) (len_at h1 (may_len ((Bool.and_eq_true _ _).mp hc).1).1) (len_at h2 (may_len ((Bool.and_eq_true _ _).mp hc).1).2)))).mono ?_
 rintro en w5 ⟨A5, n5, c5, A6, n6, c6, rfl, h5, h6, b⟩
 clear hT h1 h2 xa xp rw1
 replace BB := bnx BB b
 replace r := mv b rfl r
 clear b
 obtain ⟨f0, f1, f2, f3, f4, f5⟩ := r.open
 obtain ⟨z0, z1, z2, z3, z4, z5⟩ := r.held
 go_wp2
 exact ret6t rfl rfl rfl rfl r h5 h6 BB (by omega) fun _ hN hM HB3 => ⟨_, _, _, _, _, _, rfl, hN, hM, HB3⟩
theorem asqr_any (S : Sc) (hT : Tab w) (h1 : Rd w .u64 W A1 n1 c1 x.lo.l) (h2 : Rd w .u64 W A2 n2 c2 x.hi.l) :
  Calls Tryz.prog 80 #[.agg #[.bool x.lo.s, .slice A1 n1 c1, .int .i64 x.lo.e, .bool x.hi.s, .slice A2 n2 c2, .int .i64 x.hi.e], .int .i64 p] w (TellO (face1 S x p (sqrI S x p)) w) := by
 have G := aface1_start (p := p) hT h1 h2
 clear hT h1 h2
 obtain ⟨ya, yp, BB, hT, h1, h2, xa, xp, r, rw1⟩ := G
 have hmf := make_func
 obtain ⟨a0, a1, a2, a3, a4, a5⟩ := ya.held
 have p0 := yp.c0
 clear ya yp
 obtain ⟨q, hq⟩ : ∃ q : Except Int Iv, q = face1 S x p (sqrI S x p) := ⟨_, rfl⟩
 rw [← hq]
 have HQ := hyd hq
 clear hq
 go_enter Tryz.func80, Tryz.ntmps80
 go_wp2_with fail
 refine (tello_to HQ.out (atold_run (o := sqrI S x p) (mayI S.K x && prec p) S.big hT rw1 (by omega) (fun _ => by kernel_rfl) fine_one (fun hc W2 b2 => sqr1_run S (mv b2 rfl hT) (mv b2 rfl h1) (mv b2 rfl h2) (mv b2 rfl xa) (mv b2 rfl xp)))).mono ?_
 rintro en w5 ⟨A5, n5, c5, A6, n6, c6, rfl, h5, h6, b⟩
 clear hT h1 h2 xa xp rw1
 replace BB := bnx BB b
 replace r := mv b rfl r
 clear b
 obtain ⟨f0, f1, f2, f3, f4, f5⟩ := r.open
 obtain ⟨z0, z1, z2, z3, z4, z5⟩ := r.held
 go_wp2
 exact ret6t rfl rfl rfl rfl r h5 h6 BB (by omega) fun _ hN hM HB3 => ⟨_, _, _, _, _, _, rfl, hN, hM, HB3⟩
theorem asqrt_any (S : Sc) (hT : Tab w) (h1 : Rd w .u64 W A1 n1 c1 x.lo.l) (h2 : Rd w .u64 W A2 n2 c2 x.hi.l) :
  Calls Tryz.prog 81 #[.agg #[.bool x.lo.s, .slice A1 n1 c1, .int .i64 x.lo.e, .bool x.hi.s, .slice A2 n2 c2, .int .i64 x.hi.e], .int .i64 p] w (TellO (face1 S x p (sqtI S x p)) w) := by
 have G := aface1_start (p := p) hT h1 h2
 clear hT h1 h2
 obtain ⟨ya, yp, BB, hT, h1, h2, xa, xp, r, rw1⟩ := G
 have hmf := make_func
 obtain ⟨a0, a1, a2, a3, a4, a5⟩ := ya.held
 have p0 := yp.c0
 clear ya yp
 obtain ⟨q, hq⟩ : ∃ q : Except Int Iv, q = face1 S x p (sqtI S x p) := ⟨_, rfl⟩
 rw [← hq]
 have HQ := hyd hq
 clear hq
 go_enter Tryz.func81, Tryz.ntmps81
 go_wp2_with fail
 refine (tello_to HQ.out (atold_run (o := sqtI S x p) (mayI S.K x && prec p) S.big hT rw1 (by omega) (fun _ => by kernel_rfl) fine_one (fun hc W2 b2 => sqrt1_run S (mv b2 rfl hT) (mv b2 rfl h1) (mv b2 rfl h2) (mv b2 rfl xa) (mv b2 rfl xp)))).mono ?_
 rintro en w5 ⟨A5, n5, c5, A6, n6, c6, rfl, h5, h6, b⟩
 clear hT h1 h2 xa xp rw1
 replace BB := bnx BB b
 replace r := mv b rfl r
 clear b
 obtain ⟨f0, f1, f2, f3, f4, f5⟩ := r.open
 obtain ⟨z0, z1, z2, z3, z4, z5⟩ := r.held
 go_wp2
 exact ret6t rfl rfl rfl rfl r h5 h6 BB (by omega) fun _ hN hM HB3 => ⟨_, _, _, _, _, _, rfl, hN, hM, HB3⟩
end Go.Proofs.YtehfdfjpmmpndaaGreatDoor
