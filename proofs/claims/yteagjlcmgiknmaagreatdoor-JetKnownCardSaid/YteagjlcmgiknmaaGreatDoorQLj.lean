/-
 Contracts of arith's faces Add, Sub, Mul, Div, Neg, Sqr and Sqrt, at this translation. Condition: the slices read as limbs, the table of math/bits reads as its text lays it.
-/
import Derived.Test.YteagjlcmgiknmaaGreatDoorQLi
import Derived.Test.YteagjlcmgiknmaaGreatDoorQLg
set_option maxHeartbeats 8000000
set_option maxRecDepth 100000
namespace Go.Proofs.YteagjlcmgiknmaaGreatDoor
open Go.RowKit

theorem fine_two {K : Nat} {x y : Iv} {p : Int} : (mayI K x && mayI K y && prec p) = true ↔ Fine K 2 (fun i => if i = 0 then x else y) p := by
 unfold Fine
 rw [two_may, Bool.and_eq_true, Bool.and_eq_true]
 exact ⟨fun h => ⟨h.2, h.1⟩, fun h => ⟨h.2, h.1⟩⟩
theorem len_at {w : World} {A : Option Addr} {n c : Nat} {l : List Nat} (h : Rd w .u64 Go.Proofs.YteagjlcmgiknmaaGreatDoor.W A n c l) (hl : l.length ≤ 10000000000000) : n ≤ 10000000000000 := by rw [← h.len]; exact hl

theorem aface2_start {w : World} {x y : Iv} {p : Int} {A1 : Option Addr} {n1 c1 : Nat} {A2 : Option Addr} {n2 c2 : Nat} {A3 : Option Addr} {n3 c3 : Nat} {A4 : Option Addr} {n4 c4 : Nat} (hT : Tab w) (h1 : Rd w .u64 Go.Proofs.YteagjlcmgiknmaaGreatDoor.W A1 n1 c1 x.lo.l) (h2 : Rd w .u64 Go.Proofs.YteagjlcmgiknmaaGreatDoor.W A2 n2 c2 x.hi.l) (h3 : Rd w .u64 Go.Proofs.YteagjlcmgiknmaaGreatDoor.W A3 n3 c3 y.lo.l) (h4 : Rd w .u64 Go.Proofs.YteagjlcmgiknmaaGreatDoor.W A4 n4 c4 y.hi.l) :
  (fun wc wr : World => Ibx wc w.heap.size x.lo.s A1 n1 c1 x.lo.e x.hi.s A2 n2 c2 x.hi.e ∧ Ibx wc (w.heap.size + 1) y.lo.s A3 n3 c3 y.lo.e y.hi.s A4 n4 c4 y.hi.e ∧ Cel wc (w.heap.size + 2) p ∧ Below w.heap.size w wr ∧ Tab wr ∧ Rd wr .u64 Go.Proofs.YteagjlcmgiknmaaGreatDoor.W A1 n1 c1 x.lo.l ∧ Rd wr .u64 Go.Proofs.YteagjlcmgiknmaaGreatDoor.W A2 n2 c2 x.hi.l ∧ Rd wr .u64 Go.Proofs.YteagjlcmgiknmaaGreatDoor.W A3 n3 c3 y.lo.l ∧ Rd wr .u64 Go.Proofs.YteagjlcmgiknmaaGreatDoor.W A4 n4 c4 y.hi.l ∧ Ibx wr w.heap.size x.lo.s A1 n1 c1 x.lo.e x.hi.s A2 n2 c2 x.hi.e ∧ Ibx wr (w.heap.size + 1) y.lo.s A3 n3 c3 y.lo.e y.hi.s A4 n4 c4 y.hi.e ∧ Cel wr (w.heap.size + 2) p ∧ Ibx wr (w.heap.size + 3) false none 0 0 0 false none 0 0 0 ∧ Ivs wr (w.heap.size + 4) 0 2 (fun i => if i = 0 then x else y)) ((((w.alloc (.cells #[.bool x.lo.s, .slice A1 n1 c1, .int .i64 x.lo.e, .bool x.hi.s, .slice A2 n2 c2, .int .i64 x.hi.e] 29)).alloc (.cells #[.bool y.lo.s, .slice A3 n3 c3, .int .i64 y.lo.e, .bool y.hi.s, .slice A4 n4 c4, .int .i64 y.hi.e] 29)).alloc (.cells #[.int .i64 p] 3)).alloc (.cells #[.bool false, .slice none 0 0, .int .i64 0, .bool false, .slice none 0 0, .int .i64 0] 29)) (((((w.alloc (.cells #[.bool x.lo.s, .slice A1 n1 c1, .int .i64 x.lo.e, .bool x.hi.s, .slice A2 n2 c2, .int .i64 x.hi.e] 29)).alloc (.cells #[.bool y.lo.s, .slice A3 n3 c3, .int .i64 y.lo.e, .bool y.hi.s, .slice A4 n4 c4, .int .i64 y.hi.e] 29)).alloc (.cells #[.int .i64 p] 3)).alloc (.cells #[.bool false, .slice none 0 0, .int .i64 0, .bool false, .slice none 0 0, .int .i64 0] 29)).alloc (.cells #[.bool x.lo.s, .slice A1 n1 c1, .int .i64 x.lo.e, .bool x.hi.s, .slice A2 n2 c2, .int .i64 x.hi.e, .bool y.lo.s, .slice A3 n3 c3, .int .i64 y.lo.e, .bool y.hi.s, .slice A4 n4 c4, .int .i64 y.hi.e] 29)) := by
 have BB := three_below w (.cells #[.bool x.lo.s, .slice A1 n1 c1, .int .i64 x.lo.e, .bool x.hi.s, .slice A2 n2 c2, .int .i64 x.hi.e] 29) (.cells #[.bool y.lo.s, .slice A3 n3 c3, .int .i64 y.lo.e, .bool y.hi.s, .slice A4 n4 c4, .int .i64 y.hi.e] 29) (.cells #[.int .i64 p] 3)
 have b := below_alloc (((w.alloc (.cells #[.bool x.lo.s, .slice A1 n1 c1, .int .i64 x.lo.e, .bool x.hi.s, .slice A2 n2 c2, .int .i64 x.hi.e] 29)).alloc (.cells #[.bool y.lo.s, .slice A3 n3 c3, .int .i64 y.lo.e, .bool y.hi.s, .slice A4 n4 c4, .int .i64 y.hi.e] 29)).alloc (.cells #[.int .i64 p] 3)) (.cells #[.bool false, .slice none 0 0, .int .i64 0, .bool false, .slice none 0 0, .int .i64 0] 29)
 replace BB := bnx BB b
 clear b
 have xa := (((Ibx.new w x.lo.s A1 n1 c1 x.lo.e x.hi.s A2 n2 c2 x.hi.e).alloc (.cells #[.bool y.lo.s, .slice A3 n3 c3, .int .i64 y.lo.e, .bool y.hi.s, .slice A4 n4 c4, .int .i64 y.hi.e] 29)).alloc (.cells #[.int .i64 p] 3)).alloc (.cells #[.bool false, .slice none 0 0, .int .i64 0, .bool false, .slice none 0 0, .int .i64 0] 29)
 have xb : Ibx ((w.alloc (.cells #[.bool x.lo.s, .slice A1 n1 c1, .int .i64 x.lo.e, .bool x.hi.s, .slice A2 n2 c2, .int .i64 x.hi.e] 29)).alloc (.cells #[.bool y.lo.s, .slice A3 n3 c3, .int .i64 y.lo.e, .bool y.hi.s, .slice A4 n4 c4, .int .i64 y.hi.e] 29)) (w.heap.size + 1) y.lo.s A3 n3 c3 y.lo.e y.hi.s A4 n4 c4 y.hi.e := by have := (Ibx.new (w.alloc (.cells #[.bool x.lo.s, .slice A1 n1 c1, .int .i64 x.lo.e, .bool x.hi.s, .slice A2 n2 c2, .int .i64 x.hi.e] 29)) y.lo.s A3 n3 c3 y.lo.e y.hi.s A4 n4 c4 y.hi.e); simpa using this
 replace xb := ((xb).alloc (.cells #[.int .i64 p] 3)).alloc (.cells #[.bool false, .slice none 0 0, .int .i64 0, .bool false, .slice none 0 0, .int .i64 0] 29)
 have xp : Cel (((w.alloc (.cells #[.bool x.lo.s, .slice A1 n1 c1, .int .i64 x.lo.e, .bool x.hi.s, .slice A2 n2 c2, .int .i64 x.hi.e] 29)).alloc (.cells #[.bool y.lo.s, .slice A3 n3 c3, .int .i64 y.lo.e, .bool y.hi.s, .slice A4 n4 c4, .int .i64 y.hi.e] 29)).alloc (.cells #[.int .i64 p] 3)) (w.heap.size + 2) p := by have := Cel.new ((w.alloc (.cells #[.bool x.lo.s, .slice A1 n1 c1, .int .i64 x.lo.e, .bool x.hi.s, .slice A2 n2 c2, .int .i64 x.hi.e] 29)).alloc (.cells #[.bool y.lo.s, .slice A3 n3 c3, .int .i64 y.lo.e, .bool y.hi.s, .slice A4 n4 c4, .int .i64 y.hi.e] 29)) p; simpa using this
 replace xp := xp.below (below_alloc _ (.cells #[.bool false, .slice none 0 0, .int .i64 0, .bool false, .slice none 0 0, .int .i64 0] 29)) xp.gl
 have r : Ibx ((((w.alloc (.cells #[.bool x.lo.s, .slice A1 n1 c1, .int .i64 x.lo.e, .bool x.hi.s, .slice A2 n2 c2, .int .i64 x.hi.e] 29)).alloc (.cells #[.bool y.lo.s, .slice A3 n3 c3, .int .i64 y.lo.e, .bool y.hi.s, .slice A4 n4 c4, .int .i64 y.hi.e] 29)).alloc (.cells #[.int .i64 p] 3)).alloc (.cells #[.bool false, .slice none 0 0, .int .i64 0, .bool false, .slice none 0 0, .int .i64 0] 29)) (w.heap.size + 3) false none 0 0 0 false none 0 0 0 := by have := Ibx.new (((w.alloc (.cells #[.bool x.lo.s, .slice A1 n1 c1, .int .i64 x.lo.e, .bool x.hi.s, .slice A2 n2 c2, .int .i64 x.hi.e] 29)).alloc (.cells #[.bool y.lo.s, .slice A3 n3 c3, .int .i64 y.lo.e, .bool y.hi.s, .slice A4 n4 c4, .int .i64 y.hi.e] 29)).alloc (.cells #[.int .i64 p] 3)) false none 0 0 0 false none 0 0 0; simpa using this
 have ya := xa
 have yb := xb
 have yp := xp
 have G := mv BB rfl (J5 hT h1 h2 h3 h4)
 clear hT h1 h2 h3 h4
 obtain ⟨hT, h1, h2, h3, h4⟩ := G
 have rw1 := rows_two (w := ((((w.alloc (.cells #[.bool x.lo.s, .slice A1 n1 c1, .int .i64 x.lo.e, .bool x.hi.s, .slice A2 n2 c2, .int .i64 x.hi.e] 29)).alloc (.cells #[.bool y.lo.s, .slice A3 n3 c3, .int .i64 y.lo.e, .bool y.hi.s, .slice A4 n4 c4, .int .i64 y.hi.e] 29)).alloc (.cells #[.int .i64 p] 3)).alloc (.cells #[.bool false, .slice none 0 0, .int .i64 0, .bool false, .slice none 0 0, .int .i64 0] 29))) (g := w.heap.size + 4) (by simp) h1 h2 h3 h4
 have b := below_alloc ((((w.alloc (.cells #[.bool x.lo.s, .slice A1 n1 c1, .int .i64 x.lo.e, .bool x.hi.s, .slice A2 n2 c2, .int .i64 x.hi.e] 29)).alloc (.cells #[.bool y.lo.s, .slice A3 n3 c3, .int .i64 y.lo.e, .bool y.hi.s, .slice A4 n4 c4, .int .i64 y.hi.e] 29)).alloc (.cells #[.int .i64 p] 3)).alloc (.cells #[.bool false, .slice none 0 0, .int .i64 0, .bool false, .slice none 0 0, .int .i64 0] 29)) (.cells #[.bool x.lo.s, .slice A1 n1 c1, .int .i64 x.lo.e, .bool x.hi.s, .slice A2 n2 c2, .int .i64 x.hi.e, .bool y.lo.s, .slice A3 n3 c3, .int .i64 y.lo.e, .bool y.hi.s, .slice A4 n4 c4, .int .i64 y.hi.e] 29)
 replace BB := bnx BB b
 have G := mv b rfl (J9 hT h1 h2 h3 h4 xa xb xp r)
 clear b hT h1 h2 h3 h4 xa xb xp r
 obtain ⟨hT, h1, h2, h3, h4, xa, xb, xp, r⟩ := G
 exact ⟨ya, yb, yp, BB, hT, h1, h2, h3, h4, xa, xb, xp, r, rw1⟩

theorem aadd_any (S : Sc) {w : World} {x y : Iv} {p : Int} {A1 : Option Addr} {n1 c1 : Nat} {A2 : Option Addr} {n2 c2 : Nat} {A3 : Option Addr} {n3 c3 : Nat} {A4 : Option Addr} {n4 c4 : Nat} (hT : Tab w) (h1 : Rd w .u64 Go.Proofs.YteagjlcmgiknmaaGreatDoor.W A1 n1 c1 x.lo.l) (h2 : Rd w .u64 Go.Proofs.YteagjlcmgiknmaaGreatDoor.W A2 n2 c2 x.hi.l) (h3 : Rd w .u64 Go.Proofs.YteagjlcmgiknmaaGreatDoor.W A3 n3 c3 y.lo.l) (h4 : Rd w .u64 Go.Proofs.YteagjlcmgiknmaaGreatDoor.W A4 n4 c4 y.hi.l) :
  Calls Tryz.prog 111 #[.agg #[.bool x.lo.s, .slice A1 n1 c1, .int .i64 x.lo.e, .bool x.hi.s, .slice A2 n2 c2, .int .i64 x.hi.e], .agg #[.bool y.lo.s, .slice A3 n3 c3, .int .i64 y.lo.e, .bool y.hi.s, .slice A4 n4 c4, .int .i64 y.hi.e], .int .i64 p] w (TellO (face2 S x y p (sumO S x y p)) w) := by
 have G := aface2_start (p := p) hT h1 h2 h3 h4
 clear hT h1 h2 h3 h4
 obtain ⟨ya, yb, yp, BB, hT, h1, h2, h3, h4, xa, xb, xp, r, rw1⟩ := G
 have hmf := make_func
 obtain ⟨a0, a1, a2, a3, a4, a5⟩ := ya.held
 obtain ⟨e0, e1, e2, e3, e4, e5⟩ := yb.held
 have p0 := yp.c0
 clear ya yb yp
 obtain ⟨q, hq⟩ : ∃ q : Except Int Iv, q = face2 S x y p (sumO S x y p) := ⟨_, rfl⟩
 rw [← hq]
 have HQ := Lib.hid hq
 clear hq
 go_enter Tryz.func111, Tryz.ntmps111
 go_wp2_with fail
 refine (tello_to HQ.out (atold_run (o := sumO S x y p) (mayI S.K x && mayI S.K y && prec p) S.big hT rw1 (by omega) (fun _ => by kernel_rfl) fine_two (fun hc W2 b2 => add1_run S (mv b2 rfl hT) (mv b2 rfl h1) (mv b2 rfl h2) (mv b2 rfl h3) (mv b2 rfl h4) (mv b2 rfl xa) (mv b2 rfl xb) (mv b2 rfl xp)))).mono ?_
 rintro en w5 ⟨A5, n5, c5, A6, n6, c6, rfl, h5, h6, b⟩
 clear hT h1 h2 h3 h4 xa xb xp rw1
 replace BB := bnx BB b
 replace r := mv b rfl r
 clear b
 obtain ⟨f0, f1, f2, f3, f4, f5⟩ := r.open
 obtain ⟨z0, z1, z2, z3, z4, z5⟩ := r.held
 go_wp2
 have qq := r.put (oiv q).lo.s A5 n5 c5 (oiv q).lo.e (oiv q).hi.s A6 n6 c6 (oiv q).hi.e
 have hN := h5.put6 r (.bool (oiv q).lo.s) (.slice A5 n5 c5) (.int .i64 (oiv q).lo.e) (.bool (oiv q).hi.s) (.slice A6 n6 c6) (.int .i64 (oiv q).hi.e)
 have hM := h6.put6 r (.bool (oiv q).lo.s) (.slice A5 n5 c5) (.int .i64 (oiv q).lo.e) (.bool (oiv q).hi.s) (.slice A6 n6 c6) (.int .i64 (oiv q).hi.e)
 have HB3 := below_put6 (g := w.heap.size + 3) BB (by omega) (.bool (oiv q).lo.s) (.slice A5 n5 c5) (.int .i64 (oiv q).lo.e) (.bool (oiv q).hi.s) (.slice A6 n6 c6) (.int .i64 (oiv q).hi.e)
 obtain ⟨z0, z1, z2, z3, z4, z5⟩ := qq.held
 exact bodyPost_ret (v := .tuple #[.agg #[.bool (oiv q).lo.s, .slice A5 n5 c5, .int .i64 (oiv q).lo.e, .bool (oiv q).hi.s, .slice A6 n6 c6, .int .i64 (oiv q).hi.e], .int .i64 (okc q)]) (by simp [results, Tryz.results111, go_sem, z0, z1, z2, z3, z4, z5]) rfl ⟨_, _, _, _, _, _, rfl, hN, hM, HB3⟩

theorem amul_any (S : Sc) {w : World} {x y : Iv} {p : Int} {A1 : Option Addr} {n1 c1 : Nat} {A2 : Option Addr} {n2 c2 : Nat} {A3 : Option Addr} {n3 c3 : Nat} {A4 : Option Addr} {n4 c4 : Nat} (hT : Tab w) (h1 : Rd w .u64 Go.Proofs.YteagjlcmgiknmaaGreatDoor.W A1 n1 c1 x.lo.l) (h2 : Rd w .u64 Go.Proofs.YteagjlcmgiknmaaGreatDoor.W A2 n2 c2 x.hi.l) (h3 : Rd w .u64 Go.Proofs.YteagjlcmgiknmaaGreatDoor.W A3 n3 c3 y.lo.l) (h4 : Rd w .u64 Go.Proofs.YteagjlcmgiknmaaGreatDoor.W A4 n4 c4 y.hi.l) :
  Calls Tryz.prog 144 #[.agg #[.bool x.lo.s, .slice A1 n1 c1, .int .i64 x.lo.e, .bool x.hi.s, .slice A2 n2 c2, .int .i64 x.hi.e], .agg #[.bool y.lo.s, .slice A3 n3 c3, .int .i64 y.lo.e, .bool y.hi.s, .slice A4 n4 c4, .int .i64 y.hi.e], .int .i64 p] w (TellO (face2 S x y p (mulI S x y p)) w) := by
 have G := aface2_start (p := p) hT h1 h2 h3 h4
 clear hT h1 h2 h3 h4
 obtain ⟨ya, yb, yp, BB, hT, h1, h2, h3, h4, xa, xb, xp, r, rw1⟩ := G
 have hmf := make_func
 obtain ⟨a0, a1, a2, a3, a4, a5⟩ := ya.held
 obtain ⟨e0, e1, e2, e3, e4, e5⟩ := yb.held
 have p0 := yp.c0
 clear ya yb yp
 obtain ⟨q, hq⟩ : ∃ q : Except Int Iv, q = face2 S x y p (mulI S x y p) := ⟨_, rfl⟩
 rw [← hq]
 have HQ := Lib.hid hq
 clear hq
 go_enter Tryz.func144, Tryz.ntmps144
 go_wp2_with fail
 refine (tello_to HQ.out (atold_run (o := mulI S x y p) (mayI S.K x && mayI S.K y && prec p) S.big hT rw1 (by omega) (fun _ => by kernel_rfl) fine_two (fun hc W2 b2 => mul1_run S (mv b2 rfl hT) (mv b2 rfl h1) (mv b2 rfl h2) (mv b2 rfl h3) (mv b2 rfl h4) (mv b2 rfl xa) (mv b2 rfl xb) (mv b2 rfl xp)))).mono ?_
 rintro en w5 ⟨A5, n5, c5, A6, n6, c6, rfl, h5, h6, b⟩
 clear hT h1 h2 h3 h4 xa xb xp rw1
 replace BB := bnx BB b
 replace r := mv b rfl r
 clear b
 obtain ⟨f0, f1, f2, f3, f4, f5⟩ := r.open
 obtain ⟨z0, z1, z2, z3, z4, z5⟩ := r.held
 go_wp2
 have qq := r.put (oiv q).lo.s A5 n5 c5 (oiv q).lo.e (oiv q).hi.s A6 n6 c6 (oiv q).hi.e
 have hN := h5.put6 r (.bool (oiv q).lo.s) (.slice A5 n5 c5) (.int .i64 (oiv q).lo.e) (.bool (oiv q).hi.s) (.slice A6 n6 c6) (.int .i64 (oiv q).hi.e)
 have hM := h6.put6 r (.bool (oiv q).lo.s) (.slice A5 n5 c5) (.int .i64 (oiv q).lo.e) (.bool (oiv q).hi.s) (.slice A6 n6 c6) (.int .i64 (oiv q).hi.e)
 have HB3 := below_put6 (g := w.heap.size + 3) BB (by omega) (.bool (oiv q).lo.s) (.slice A5 n5 c5) (.int .i64 (oiv q).lo.e) (.bool (oiv q).hi.s) (.slice A6 n6 c6) (.int .i64 (oiv q).hi.e)
 obtain ⟨z0, z1, z2, z3, z4, z5⟩ := qq.held
 exact bodyPost_ret (v := .tuple #[.agg #[.bool (oiv q).lo.s, .slice A5 n5 c5, .int .i64 (oiv q).lo.e, .bool (oiv q).hi.s, .slice A6 n6 c6, .int .i64 (oiv q).hi.e], .int .i64 (okc q)]) (by simp [results, Tryz.results144, go_sem, z0, z1, z2, z3, z4, z5]) rfl ⟨_, _, _, _, _, _, rfl, hN, hM, HB3⟩

theorem adiv_any (S : Sc) {w : World} {x y : Iv} {p : Int} {A1 : Option Addr} {n1 c1 : Nat} {A2 : Option Addr} {n2 c2 : Nat} {A3 : Option Addr} {n3 c3 : Nat} {A4 : Option Addr} {n4 c4 : Nat} (hT : Tab w) (h1 : Rd w .u64 Go.Proofs.YteagjlcmgiknmaaGreatDoor.W A1 n1 c1 x.lo.l) (h2 : Rd w .u64 Go.Proofs.YteagjlcmgiknmaaGreatDoor.W A2 n2 c2 x.hi.l) (h3 : Rd w .u64 Go.Proofs.YteagjlcmgiknmaaGreatDoor.W A3 n3 c3 y.lo.l) (h4 : Rd w .u64 Go.Proofs.YteagjlcmgiknmaaGreatDoor.W A4 n4 c4 y.hi.l) :
  Calls Tryz.prog 51 #[.agg #[.bool x.lo.s, .slice A1 n1 c1, .int .i64 x.lo.e, .bool x.hi.s, .slice A2 n2 c2, .int .i64 x.hi.e], .agg #[.bool y.lo.s, .slice A3 n3 c3, .int .i64 y.lo.e, .bool y.hi.s, .slice A4 n4 c4, .int .i64 y.hi.e], .int .i64 p] w (TellO (face2 S x y p (divI S x y p)) w) := by
 have G := aface2_start (p := p) hT h1 h2 h3 h4
 clear hT h1 h2 h3 h4
 obtain ⟨ya, yb, yp, BB, hT, h1, h2, h3, h4, xa, xb, xp, r, rw1⟩ := G
 have hmf := make_func
 obtain ⟨a0, a1, a2, a3, a4, a5⟩ := ya.held
 obtain ⟨e0, e1, e2, e3, e4, e5⟩ := yb.held
 have p0 := yp.c0
 clear ya yb yp
 obtain ⟨q, hq⟩ : ∃ q : Except Int Iv, q = face2 S x y p (divI S x y p) := ⟨_, rfl⟩
 rw [← hq]
 have HQ := Lib.hid hq
 clear hq
 go_enter Tryz.func51, Tryz.ntmps51
 go_wp2_with fail
 refine (tello_to HQ.out (atold_run (o := divI S x y p) (mayI S.K x && mayI S.K y && prec p) S.big hT rw1 (by omega) (fun _ => by kernel_rfl) fine_two (fun hc W2 b2 => div1_run S (mv b2 rfl hT) (mv b2 rfl h1) (mv b2 rfl h2) (mv b2 rfl h3) (mv b2 rfl h4) (mv b2 rfl xa) (mv b2 rfl xb) (mv b2 rfl xp)))).mono ?_
 rintro en w5 ⟨A5, n5, c5, A6, n6, c6, rfl, h5, h6, b⟩
 clear hT h1 h2 h3 h4 xa xb xp rw1
 replace BB := bnx BB b
 replace r := mv b rfl r
 clear b
 obtain ⟨f0, f1, f2, f3, f4, f5⟩ := r.open
 obtain ⟨z0, z1, z2, z3, z4, z5⟩ := r.held
 go_wp2
 have qq := r.put (oiv q).lo.s A5 n5 c5 (oiv q).lo.e (oiv q).hi.s A6 n6 c6 (oiv q).hi.e
 have hN := h5.put6 r (.bool (oiv q).lo.s) (.slice A5 n5 c5) (.int .i64 (oiv q).lo.e) (.bool (oiv q).hi.s) (.slice A6 n6 c6) (.int .i64 (oiv q).hi.e)
 have hM := h6.put6 r (.bool (oiv q).lo.s) (.slice A5 n5 c5) (.int .i64 (oiv q).lo.e) (.bool (oiv q).hi.s) (.slice A6 n6 c6) (.int .i64 (oiv q).hi.e)
 have HB3 := below_put6 (g := w.heap.size + 3) BB (by omega) (.bool (oiv q).lo.s) (.slice A5 n5 c5) (.int .i64 (oiv q).lo.e) (.bool (oiv q).hi.s) (.slice A6 n6 c6) (.int .i64 (oiv q).hi.e)
 obtain ⟨z0, z1, z2, z3, z4, z5⟩ := qq.held
 exact bodyPost_ret (v := .tuple #[.agg #[.bool (oiv q).lo.s, .slice A5 n5 c5, .int .i64 (oiv q).lo.e, .bool (oiv q).hi.s, .slice A6 n6 c6, .int .i64 (oiv q).hi.e], .int .i64 (okc q)]) (by simp [results, Tryz.results51, go_sem, z0, z1, z2, z3, z4, z5]) rfl ⟨_, _, _, _, _, _, rfl, hN, hM, HB3⟩

end Go.Proofs.YteagjlcmgiknmaaGreatDoor
