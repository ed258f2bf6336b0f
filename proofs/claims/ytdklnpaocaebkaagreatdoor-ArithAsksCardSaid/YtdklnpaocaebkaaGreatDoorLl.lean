/-
 Contracts of the reference's Add, Sub and Neg of intervals, at this translation. Condition: the slices read as limbs, the table of math/bits reads as its text lays it.
-/
import Derived.Test.YtdklnpaocaebkaaGreatDoorLk
set_option maxHeartbeats 8000000
set_option maxRecDepth 100000
namespace Go.Proofs.YtdklnpaocaebkaaGreatDoor
open Go.RowKit

theorem cell_oth3 {w : World} {k g i : Nat} {v : Value} (h : w.cell? ⟨k, i, none⟩ = some v) (hne : k ≠ g) (u0 u1 u2 : Value) : (((w.setCell ⟨g, 0, none⟩ u0).setCell ⟨g, 1, none⟩ u1).setCell ⟨g, 2, none⟩ u2).cell? ⟨k, i, none⟩ = some v := cell_oth (cell_oth (cell_oth h hne 0 u0) hne 1 u1) hne 2 u2
theorem Ibx.oth3 {w : World} {g g' : Nat} {s : Bool} {A : Option Addr} {n c : Nat} {e : Int} {t : Bool} {B : Option Addr} {m d : Nat} {f : Int} (h : Ibx w g' s A n c e t B m d f) (hne : g' ≠ g) (u0 u1 u2 : Value) : Ibx (((w.setCell ⟨g, 0, none⟩ u0).setCell ⟨g, 1, none⟩ u1).setCell ⟨g, 2, none⟩ u2) g' s A n c e t B m d f := ((h.other hne 0 u0).other hne 1 u1).other hne 2 u2
theorem Box.oth3 {w : World} {g g' : Nat} {s : Bool} {A : Option Addr} {n c : Nat} {e : Int} (h : Box w g' s A n c e) (hne : g' ≠ g) (u0 u1 u2 : Value) : Box (((w.setCell ⟨g, 0, none⟩ u0).setCell ⟨g, 1, none⟩ u1).setCell ⟨g, 2, none⟩ u2) g' s A n c e := ((h.other hne 0 u0).other hne 1 u1).other hne 2 u2

theorem radd5_any (S : Sc) {w : World} {x y : Iv} {p : Int} {A1 : Option Addr} {n1 c1 : Nat} {A2 : Option Addr} {n2 c2 : Nat} {A3 : Option Addr} {n3 c3 : Nat} {A4 : Option Addr} {n4 c4 : Nat} (h1 : Rd w .u64 Go.Proofs.YtdklnpaocaebkaaGreatDoor.W A1 n1 c1 x.lo.l) (h2 : Rd w .u64 Go.Proofs.YtdklnpaocaebkaaGreatDoor.W A2 n2 c2 x.hi.l) (h3 : Rd w .u64 Go.Proofs.YtdklnpaocaebkaaGreatDoor.W A3 n3 c3 y.lo.l) (h4 : Rd w .u64 Go.Proofs.YtdklnpaocaebkaaGreatDoor.W A4 n4 c4 y.hi.l) :
  Calls Tryz.prog 7 #[.agg #[.bool x.lo.s, .slice A1 n1 c1, .int .i64 x.lo.e, .bool x.hi.s, .slice A2 n2 c2, .int .i64 x.hi.e], .agg #[.bool y.lo.s, .slice A3 n3 c3, .int .i64 y.lo.e, .bool y.hi.s, .slice A4 n4 c4, .int .i64 y.hi.e], .int .i64 p] w (TellO (face2 S x y p (sumO S x y p)) w) := by
 obtain ⟨q, hq⟩ : ∃ q : Except Int Iv, q = face2 S x y p (sumO S x y p) := ⟨_, rfl⟩
 rw [← hq]
 have HQ := Lib.hid hq
 clear hq
 have BB := three_below w (.cells #[.bool x.lo.s, .slice A1 n1 c1, .int .i64 x.lo.e, .bool x.hi.s, .slice A2 n2 c2, .int .i64 x.hi.e] 26) (.cells #[.bool y.lo.s, .slice A3 n3 c3, .int .i64 y.lo.e, .bool y.hi.s, .slice A4 n4 c4, .int .i64 y.hi.e] 26) (.cells #[.bool false, .slice none 0 0, .int .i64 0, .bool false, .slice none 0 0, .int .i64 0] 26)
 obtain ⟨_, xa, xb⟩ := two_ivl w (x := x) (y := y) (A1 := A1) (n1 := n1) (c1 := c1) (A2 := A2) (n2 := n2) (c2 := c2) (A3 := A3) (n3 := n3) (c3 := c3) (A4 := A4) (n4 := n4) (c4 := c4)
 replace xa := xa.alloc (.cells #[.bool false, .slice none 0 0, .int .i64 0, .bool false, .slice none 0 0, .int .i64 0] 26)
 replace xb := xb.alloc (.cells #[.bool false, .slice none 0 0, .int .i64 0, .bool false, .slice none 0 0, .int .i64 0] 26)
 have r := ibx_two w (.cells #[.bool x.lo.s, .slice A1 n1 c1, .int .i64 x.lo.e, .bool x.hi.s, .slice A2 n2 c2, .int .i64 x.hi.e] 26) (.cells #[.bool y.lo.s, .slice A3 n3 c3, .int .i64 y.lo.e, .bool y.hi.s, .slice A4 n4 c4, .int .i64 y.hi.e] 26) false none 0 0 0 false none 0 0 0
 obtain ⟨a0, a1, a2, a3, a4, a5⟩ := xa.held
 obtain ⟨e0, e1, e2, e3, e4, e5⟩ := xb.held
 clear xa xb
 have G := mv BB rfl (J4 h1 h2 h3 h4)
 clear h1 h2 h3 h4
 obtain ⟨h1, h2, h3, h4⟩ := G
 go_enter Tryz.func7, Tryz.ntmps7
 obtain ⟨z1_, hz⟩ : ∃ z, z = mayI S.K x := ⟨_, rfl⟩
 have HZ1 := Lib.hid hz
 clear hz
 obtain ⟨z2_, hz⟩ : ∃ z, z = mayI S.K y := ⟨_, rfl⟩
 have HZ2 := Lib.hid hz
 clear hz
 obtain ⟨z3_, hz⟩ : ∃ z, z = prec p := ⟨_, rfl⟩
 have HZ3 := Lib.hid hz
 clear hz
 go_wp2_with fail
 refine (show Calls _ _ _ _ (Bools z1_ _) from by rw [HZ1.out]; exact rmayi_any (K := S.K) S.big h1 h2).mono ?_
 rintro en w1 ⟨rfl, b⟩
 replace BB := bnx BB b
 have G := mv b rfl (J17 h1 h2 h3 h4 r a0 a1 a2 a3 a4 a5 e0 e1 e2 e3 e4 e5)
 clear b h1 h2 h3 h4 r a0 a1 a2 a3 a4 a5 e0 e1 e2 e3 e4 e5
 obtain ⟨h1, h2, h3, h4, r, a0, a1, a2, a3, a4, a5, e0, e1, e2, e3, e4, e5⟩ := G
 cases z1_
 ·have HL := Lib.hid (show q = .error 1 from by rw [HQ.out]; unfold face2; rw [if_neg (by intro h; rw [← HZ1.out] at h; simp at h)])
  obtain ⟨f0, f1, f2, f3, f4, f5⟩ := r.open
  obtain ⟨z0, z1, z2, z3, z4, z5⟩ := r.held
  go_wp2
  have qq := r.put false none 0 0 0 false none 0 0 0
  have HB3 := below_put6 (g := w.heap.size + 2) BB (by omega) (.bool false) (.slice none 0 0) (.int .i64 0) (.bool false) (.slice none 0 0) (.int .i64 0)
  obtain ⟨z0, z1, z2, z3, z4, z5⟩ := qq.held
  exact bodyPost_ret (v := .tuple #[.agg #[.bool false, .slice none 0 0, .int .i64 0, .bool false, .slice none 0 0, .int .i64 0], .int .i64 1]) (by simp [results, Tryz.results7, go_sem, z0, z1, z2, z3, z4, z5]) rfl (by rw [HL.out]; exact ⟨none, 0, 0, none, 0, 0, rfl, Rd.nil _ _ _ _ (by omega), Rd.nil _ _ _ _ (by omega), HB3⟩)
 go_wp2_with fail
 refine (show Calls _ _ _ _ (Bools z2_ _) from by rw [HZ2.out]; exact rmayi_any (K := S.K) S.big h3 h4).mono ?_
 rintro en w2 ⟨rfl, b⟩
 replace BB := bnx BB b
 have G := mv b rfl (J17 h1 h2 h3 h4 r a0 a1 a2 a3 a4 a5 e0 e1 e2 e3 e4 e5)
 clear b h1 h2 h3 h4 r a0 a1 a2 a3 a4 a5 e0 e1 e2 e3 e4 e5
 obtain ⟨h1, h2, h3, h4, r, a0, a1, a2, a3, a4, a5, e0, e1, e2, e3, e4, e5⟩ := G
 cases z2_
 ·have HL := Lib.hid (show q = .error 1 from by rw [HQ.out]; unfold face2; rw [if_neg (by intro h; rw [← HZ2.out] at h; simp at h)])
  obtain ⟨f0, f1, f2, f3, f4, f5⟩ := r.open
  obtain ⟨z0, z1, z2, z3, z4, z5⟩ := r.held
  go_wp2
  have qq := r.put false none 0 0 0 false none 0 0 0
  have HB3 := below_put6 (g := w.heap.size + 2) BB (by omega) (.bool false) (.slice none 0 0) (.int .i64 0) (.bool false) (.slice none 0 0) (.int .i64 0)
  obtain ⟨z0, z1, z2, z3, z4, z5⟩ := qq.held
  exact bodyPost_ret (v := .tuple #[.agg #[.bool false, .slice none 0 0, .int .i64 0, .bool false, .slice none 0 0, .int .i64 0], .int .i64 1]) (by simp [results, Tryz.results7, go_sem, z0, z1, z2, z3, z4, z5]) rfl (by rw [HL.out]; exact ⟨none, 0, 0, none, 0, 0, rfl, Rd.nil _ _ _ _ (by omega), Rd.nil _ _ _ _ (by omega), HB3⟩)
 go_wp2_with fail
 refine (show Calls _ _ _ _ (Bools z3_ _) from by rw [HZ3.out]; exact rprec_any).mono ?_
 rintro en w3 ⟨rfl, b⟩
 replace BB := bnx BB b
 have G := mv b rfl (J17 h1 h2 h3 h4 r a0 a1 a2 a3 a4 a5 e0 e1 e2 e3 e4 e5)
 clear b h1 h2 h3 h4 r a0 a1 a2 a3 a4 a5 e0 e1 e2 e3 e4 e5
 obtain ⟨h1, h2, h3, h4, r, a0, a1, a2, a3, a4, a5, e0, e1, e2, e3, e4, e5⟩ := G
 cases z3_
 ·have HL := Lib.hid (show q = .error 1 from by rw [HQ.out]; unfold face2; rw [if_neg (by intro h; rw [← HZ3.out] at h; simp at h)])
  obtain ⟨f0, f1, f2, f3, f4, f5⟩ := r.open
  obtain ⟨z0, z1, z2, z3, z4, z5⟩ := r.held
  go_wp2
  have qq := r.put false none 0 0 0 false none 0 0 0
  have HB3 := below_put6 (g := w.heap.size + 2) BB (by omega) (.bool false) (.slice none 0 0) (.int .i64 0) (.bool false) (.slice none 0 0) (.int .i64 0)
  obtain ⟨z0, z1, z2, z3, z4, z5⟩ := qq.held
  exact bodyPost_ret (v := .tuple #[.agg #[.bool false, .slice none 0 0, .int .i64 0, .bool false, .slice none 0 0, .int .i64 0], .int .i64 1]) (by simp [results, Tryz.results7, go_sem, z0, z1, z2, z3, z4, z5]) rfl (by rw [HL.out]; exact ⟨none, 0, 0, none, 0, 0, rfl, Rd.nil _ _ _ _ (by omega), Rd.nil _ _ _ _ (by omega), HB3⟩)
 have HF := Lib.hid (show q = sumO S x y p from by rw [HQ.out]; unfold face2; rw [if_pos (by rw [← HZ1.out, ← HZ2.out, ← HZ3.out]; rfl)])
 clear HZ1 HZ2 HZ3
 obtain ⟨o1, ho1⟩ : ∃ o, o = addO S x.lo y.lo := ⟨_, rfl⟩
 have HO1 := Lib.hid ho1
 clear ho1
 go_wp2_with fail
 refine (telq_to HO1.out (radd_tel S (a := x.lo) (b := y.lo) h1 h3)).mono ?_
 rintro en w4 (⟨v1, hv1, A5, n5, c5, rfl, h5, b⟩ | ⟨kk, hk, hk0, A5, c5, rfl, b⟩)
 rotate_left
 ·replace BB := bnx BB b
  have G := mv b rfl (J17 h1 h2 h3 h4 r a0 a1 a2 a3 a4 a5 e0 e1 e2 e3 e4 e5)
  clear b h1 h2 h3 h4 r a0 a1 a2 a3 a4 a5 e0 e1 e2 e3 e4 e5
  obtain ⟨h1, h2, h3, h4, r, a0, a1, a2, a3, a4, a5, e0, e1, e2, e3, e4, e5⟩ := G
  have HKK := Lib.hid (And.intro hk hk0)
  have g1 : (kk != 0) = true := by simp; exact hk0
  have g2 : (kk == 0) = false := by simp; exact hk0
  clear hk hk0
  have b := below_alloc w4 (.cells #[.bool false, .slice A5 0 c5, .int .i64 0] 24)
  replace BB := bnx BB b
  have G := mv b rfl (J17 h1 h2 h3 h4 r a0 a1 a2 a3 a4 a5 e0 e1 e2 e3 e4 e5)
  clear b h1 h2 h3 h4 r a0 a1 a2 a3 a4 a5 e0 e1 e2 e3 e4 e5
  obtain ⟨h1, h2, h3, h4, r, a0, a1, a2, a3, a4, a5, e0, e1, e2, e3, e4, e5⟩ := G
  have HL := Lib.hid (show q = .error kk from (HF.out.trans (by simp only [sumO, thn, ← HO1.out, HKK.out.1])))
  obtain ⟨f0, f1, f2, f3, f4, f5⟩ := r.open
  obtain ⟨z0, z1, z2, z3, z4, z5⟩ := r.held
  go_wp2
  have qq := r.put false none 0 0 0 false none 0 0 0
  have HB3 := below_put6 (g := w.heap.size + 2) BB (by omega) (.bool false) (.slice none 0 0) (.int .i64 0) (.bool false) (.slice none 0 0) (.int .i64 0)
  obtain ⟨z0, z1, z2, z3, z4, z5⟩ := qq.held
  exact bodyPost_ret (v := .tuple #[.agg #[.bool false, .slice none 0 0, .int .i64 0, .bool false, .slice none 0 0, .int .i64 0], .int .i64 kk]) (by simp [results, Tryz.results7, go_sem, z0, z1, z2, z3, z4, z5]) rfl (by rw [HL.out]; exact ⟨none, 0, 0, none, 0, 0, rfl, Rd.nil _ _ _ _ (by omega), Rd.nil _ _ _ _ (by omega), HB3⟩)
 have HV1 := Lib.hid hv1
 clear hv1
 replace BB := bnx BB b
 have G := mv b rfl (J17 h1 h2 h3 h4 r a0 a1 a2 a3 a4 a5 e0 e1 e2 e3 e4 e5)
 clear b h1 h2 h3 h4 r a0 a1 a2 a3 a4 a5 e0 e1 e2 e3 e4 e5
 obtain ⟨h1, h2, h3, h4, r, a0, a1, a2, a3, a4, a5, e0, e1, e2, e3, e4, e5⟩ := G
 have ly_ := Lib.hid r.gl
 obtain ⟨y0, y1, y2⟩ := (Box.new w4 v1.s A5 n5 c5 v1.e).held
 have b := below_alloc w4 (.cells #[.bool v1.s, .slice A5 n5 c5, .int .i64 v1.e] 24)
 replace BB := bnx BB b
 have G := mv b rfl (J18 h1 h2 h3 h4 r a0 a1 a2 a3 a4 a5 e0 e1 e2 e3 e4 e5 h5)
 clear b h1 h2 h3 h4 r a0 a1 a2 a3 a4 a5 e0 e1 e2 e3 e4 e5 h5
 obtain ⟨h1, h2, h3, h4, r, a0, a1, a2, a3, a4, a5, e0, e1, e2, e3, e4, e5, h5⟩ := G
 have xl : Box (w4.alloc (.cells #[.bool v1.s, .slice A5 n5 c5, .int .i64 v1.e] 24)) w4.heap.size v1.s A5 n5 c5 v1.e := Box.new w4 _ _ _ _ _
 obtain ⟨o2, ho2⟩ : ∃ o, o = rndO S v1 p false := ⟨_, rfl⟩
 have HO2 := Lib.hid ho2
 clear ho2
 go_wp2_with fail
 refine (telq_to HO2.out (rround_tel S h5)).mono ?_
 rintro en w5 (⟨v2, hv2, A6, n6, c6, rfl, h6, b⟩ | ⟨kk, hk, hk0, A6, c6, rfl, b⟩)
 rotate_left
 ·clear h5 y0 y1 y2
  replace BB := bnx BB b
  have G := mv b rfl (J18 h1 h2 h3 h4 r a0 a1 a2 a3 a4 a5 e0 e1 e2 e3 e4 e5 xl)
  clear b h1 h2 h3 h4 r a0 a1 a2 a3 a4 a5 e0 e1 e2 e3 e4 e5 xl
  obtain ⟨h1, h2, h3, h4, r, a0, a1, a2, a3, a4, a5, e0, e1, e2, e3, e4, e5, xl⟩ := G
  have HKK := Lib.hid (And.intro hk hk0)
  have g1 : (kk != 0) = true := by simp; exact hk0
  have g2 : (kk == 0) = false := by simp; exact hk0
  clear hk hk0
  clear h1 h2 h3 h4 a0 a1 a2 a3 a4 a5 e0 e1 e2 e3 e4 e5
  obtain ⟨t0, t1, t2⟩ := xl.open
  obtain ⟨m0, m1, m2⟩ := xl.held
  replace r := Ibx.oth3 (g := w4.heap.size) r (by have := ly_.out; omega) (.bool false) (.slice A6 0 c6) (.int .i64 0)
  replace BB := below_put3 (g := w4.heap.size) BB (by have := ly_.out; omega) (.bool false) (.slice A6 0 c6) (.int .i64 0)
  replace xl := xl.put false A6 0 c6 0
  have HL := Lib.hid (show q = .error kk from (HF.out.trans (by simp only [sumO, thn, ← HO1.out, HV1.out, ← HO2.out, HKK.out.1])))
  obtain ⟨f0, f1, f2, f3, f4, f5⟩ := r.open
  obtain ⟨z0, z1, z2, z3, z4, z5⟩ := r.held
  go_wp2
  have qq := r.put false none 0 0 0 false none 0 0 0
  have HB3 := below_put6 (g := w.heap.size + 2) BB (by omega) (.bool false) (.slice none 0 0) (.int .i64 0) (.bool false) (.slice none 0 0) (.int .i64 0)
  obtain ⟨z0, z1, z2, z3, z4, z5⟩ := qq.held
  exact bodyPost_ret (v := .tuple #[.agg #[.bool false, .slice none 0 0, .int .i64 0, .bool false, .slice none 0 0, .int .i64 0], .int .i64 kk]) (by simp [results, Tryz.results7, go_sem, z0, z1, z2, z3, z4, z5]) rfl (by rw [HL.out]; exact ⟨none, 0, 0, none, 0, 0, rfl, Rd.nil _ _ _ _ (by omega), Rd.nil _ _ _ _ (by omega), HB3⟩)
 have HV2 := Lib.hid hv2
 clear hv2
 clear h5 y0 y1 y2
 replace BB := bnx BB b
 have G := mv b rfl (J18 h1 h2 h3 h4 r a0 a1 a2 a3 a4 a5 e0 e1 e2 e3 e4 e5 xl)
 clear b h1 h2 h3 h4 r a0 a1 a2 a3 a4 a5 e0 e1 e2 e3 e4 e5 xl
 obtain ⟨h1, h2, h3, h4, r, a0, a1, a2, a3, a4, a5, e0, e1, e2, e3, e4, e5, xl⟩ := G
 obtain ⟨t0, t1, t2⟩ := xl.open
 obtain ⟨m0, m1, m2⟩ := xl.held
 replace h1 := h1.put3 xl (.bool v2.s) (.slice A6 n6 c6) (.int .i64 v2.e)
 replace h2 := h2.put3 xl (.bool v2.s) (.slice A6 n6 c6) (.int .i64 v2.e)
 replace h3 := h3.put3 xl (.bool v2.s) (.slice A6 n6 c6) (.int .i64 v2.e)
 replace h4 := h4.put3 xl (.bool v2.s) (.slice A6 n6 c6) (.int .i64 v2.e)
 replace h6 := h6.put3 xl (.bool v2.s) (.slice A6 n6 c6) (.int .i64 v2.e)
 replace a0 := cell_oth3 (g := w4.heap.size) a0 (by have := ly_.out; omega) (.bool v2.s) (.slice A6 n6 c6) (.int .i64 v2.e)
 replace a1 := cell_oth3 (g := w4.heap.size) a1 (by have := ly_.out; omega) (.bool v2.s) (.slice A6 n6 c6) (.int .i64 v2.e)
 replace a2 := cell_oth3 (g := w4.heap.size) a2 (by have := ly_.out; omega) (.bool v2.s) (.slice A6 n6 c6) (.int .i64 v2.e)
 replace a3 := cell_oth3 (g := w4.heap.size) a3 (by have := ly_.out; omega) (.bool v2.s) (.slice A6 n6 c6) (.int .i64 v2.e)
 replace a4 := cell_oth3 (g := w4.heap.size) a4 (by have := ly_.out; omega) (.bool v2.s) (.slice A6 n6 c6) (.int .i64 v2.e)
 replace a5 := cell_oth3 (g := w4.heap.size) a5 (by have := ly_.out; omega) (.bool v2.s) (.slice A6 n6 c6) (.int .i64 v2.e)
 replace e0 := cell_oth3 (g := w4.heap.size) e0 (by have := ly_.out; omega) (.bool v2.s) (.slice A6 n6 c6) (.int .i64 v2.e)
 replace e1 := cell_oth3 (g := w4.heap.size) e1 (by have := ly_.out; omega) (.bool v2.s) (.slice A6 n6 c6) (.int .i64 v2.e)
 replace e2 := cell_oth3 (g := w4.heap.size) e2 (by have := ly_.out; omega) (.bool v2.s) (.slice A6 n6 c6) (.int .i64 v2.e)
 replace e3 := cell_oth3 (g := w4.heap.size) e3 (by have := ly_.out; omega) (.bool v2.s) (.slice A6 n6 c6) (.int .i64 v2.e)
 replace e4 := cell_oth3 (g := w4.heap.size) e4 (by have := ly_.out; omega) (.bool v2.s) (.slice A6 n6 c6) (.int .i64 v2.e)
 replace e5 := cell_oth3 (g := w4.heap.size) e5 (by have := ly_.out; omega) (.bool v2.s) (.slice A6 n6 c6) (.int .i64 v2.e)
 replace r := Ibx.oth3 (g := w4.heap.size) r (by have := ly_.out; omega) (.bool v2.s) (.slice A6 n6 c6) (.int .i64 v2.e)
 replace BB := below_put3 (g := w4.heap.size) BB (by have := ly_.out; omega) (.bool v2.s) (.slice A6 n6 c6) (.int .i64 v2.e)
 replace xl := xl.put v2.s A6 n6 c6 v2.e
 obtain ⟨y0, y1, y2⟩ := xl.held
 clear xl
 obtain ⟨o3, ho3⟩ : ∃ o, o = addO S x.hi y.hi := ⟨_, rfl⟩
 have HO3 := Lib.hid ho3
 clear ho3
 go_wp2_with fail
 clear t0 t1 t2 m0 m1 m2
 generalize (((w5.setCell ⟨w4.heap.size, 0, none⟩ (.bool v2.s)).setCell ⟨w4.heap.size, 1, none⟩ (.slice A6 n6 c6)).setCell ⟨w4.heap.size, 2, none⟩ (.int .i64 v2.e)) = x7 at *
 refine (telq_to HO3.out (radd_tel S (a := x.hi) (b := y.hi) h2 h4)).mono ?_
 rintro en w6 (⟨v3, hv3, A7, n7, c7, rfl, h7, b⟩ | ⟨kk, hk, hk0, A7, c7, rfl, b⟩)
 rotate_left
 ·replace BB := bnx BB b
  have G := mv b rfl (J21 h1 h2 h3 h4 r a0 a1 a2 a3 a4 a5 e0 e1 e2 e3 e4 e5 h6 y0 y1 y2)
  clear b h1 h2 h3 h4 r a0 a1 a2 a3 a4 a5 e0 e1 e2 e3 e4 e5 h6 y0 y1 y2
  obtain ⟨h1, h2, h3, h4, r, a0, a1, a2, a3, a4, a5, e0, e1, e2, e3, e4, e5, h6, y0, y1, y2⟩ := G
  have HKK := Lib.hid (And.intro hk hk0)
  have g1 : (kk != 0) = true := by simp; exact hk0
  have g2 : (kk == 0) = false := by simp; exact hk0
  clear hk hk0
  have b := below_alloc w6 (.cells #[.bool false, .slice A7 0 c7, .int .i64 0] 24)
  replace BB := bnx BB b
  have G := mv b rfl (J21 h1 h2 h3 h4 r a0 a1 a2 a3 a4 a5 e0 e1 e2 e3 e4 e5 h6 y0 y1 y2)
  clear b h1 h2 h3 h4 r a0 a1 a2 a3 a4 a5 e0 e1 e2 e3 e4 e5 h6 y0 y1 y2
  obtain ⟨h1, h2, h3, h4, r, a0, a1, a2, a3, a4, a5, e0, e1, e2, e3, e4, e5, h6, y0, y1, y2⟩ := G
  have HL := Lib.hid (show q = .error kk from (HF.out.trans (by simp only [sumO, thn, ← HO1.out, HV1.out, ← HO2.out, HV2.out, ← HO3.out, HKK.out.1])))
  obtain ⟨f0, f1, f2, f3, f4, f5⟩ := r.open
  obtain ⟨z0, z1, z2, z3, z4, z5⟩ := r.held
  go_wp2
  have qq := r.put false none 0 0 0 false none 0 0 0
  have HB3 := below_put6 (g := w.heap.size + 2) BB (by omega) (.bool false) (.slice none 0 0) (.int .i64 0) (.bool false) (.slice none 0 0) (.int .i64 0)
  obtain ⟨z0, z1, z2, z3, z4, z5⟩ := qq.held
  exact bodyPost_ret (v := .tuple #[.agg #[.bool false, .slice none 0 0, .int .i64 0, .bool false, .slice none 0 0, .int .i64 0], .int .i64 kk]) (by simp [results, Tryz.results7, go_sem, z0, z1, z2, z3, z4, z5]) rfl (by rw [HL.out]; exact ⟨none, 0, 0, none, 0, 0, rfl, Rd.nil _ _ _ _ (by omega), Rd.nil _ _ _ _ (by omega), HB3⟩)
 have HV3 := Lib.hid hv3
 clear hv3
 replace BB := bnx BB b
 have G := mv b rfl (J21 h1 h2 h3 h4 r a0 a1 a2 a3 a4 a5 e0 e1 e2 e3 e4 e5 h6 y0 y1 y2)
 clear b h1 h2 h3 h4 r a0 a1 a2 a3 a4 a5 e0 e1 e2 e3 e4 e5 h6 y0 y1 y2
 obtain ⟨h1, h2, h3, h4, r, a0, a1, a2, a3, a4, a5, e0, e1, e2, e3, e4, e5, h6, y0, y1, y2⟩ := G
 have lu_ := Lib.hid r.gl
 have lyu := Lib.hid (show w4.heap.size < w6.heap.size from World.block_lt_of_cell? _ _ y0)
 obtain ⟨u0, u1, u2⟩ := (Box.new w6 v3.s A7 n7 c7 v3.e).held
 have b := below_alloc w6 (.cells #[.bool v3.s, .slice A7 n7 c7, .int .i64 v3.e] 24)
 replace BB := bnx BB b
 have G := mv b rfl (J22 h1 h2 h3 h4 r a0 a1 a2 a3 a4 a5 e0 e1 e2 e3 e4 e5 h6 y0 y1 y2 h7)
 clear b h1 h2 h3 h4 r a0 a1 a2 a3 a4 a5 e0 e1 e2 e3 e4 e5 h6 y0 y1 y2 h7
 obtain ⟨h1, h2, h3, h4, r, a0, a1, a2, a3, a4, a5, e0, e1, e2, e3, e4, e5, h6, y0, y1, y2, h7⟩ := G
 have ny_u : w4.heap.size ≠ w6.heap.size := by have := lyu.out; omega
 have xu : Box (w6.alloc (.cells #[.bool v3.s, .slice A7 n7 c7, .int .i64 v3.e] 24)) w6.heap.size v3.s A7 n7 c7 v3.e := Box.new w6 _ _ _ _ _
 clear h1 h2 h3 h4 a0 a1 a2 a3 a4 a5 e0 e1 e2 e3 e4 e5
 obtain ⟨o4, ho4⟩ : ∃ o, o = rndO S v3 p true := ⟨_, rfl⟩
 have HO4 := Lib.hid ho4
 clear ho4
 go_wp2_with fail
 refine (telq_to HO4.out (rround_tel S h7)).mono ?_
 rintro en w7 (⟨v4, hv4, A8, n8, c8, rfl, h8, b⟩ | ⟨kk, hk, hk0, A8, c8, rfl, b⟩)
 rotate_left
 ·clear h7 u0 u1 u2 y0 y1 y2 h6
  replace BB := bnx BB b
  have G := mv b rfl <| And.intro r <| xu
  clear b r xu
  obtain ⟨r, xu⟩ := G
  have HKK := Lib.hid (And.intro hk hk0)
  have g1 : (kk != 0) = true := by simp; exact hk0
  have g2 : (kk == 0) = false := by simp; exact hk0
  clear hk hk0
  obtain ⟨t0, t1, t2⟩ := xu.open
  obtain ⟨m0, m1, m2⟩ := xu.held
  replace r := Ibx.oth3 (g := w6.heap.size) r (by have := lu_.out; omega) (.bool false) (.slice A8 0 c8) (.int .i64 0)
  replace BB := below_put3 (g := w6.heap.size) BB (by have := lu_.out; omega) (.bool false) (.slice A8 0 c8) (.int .i64 0)
  replace xu := xu.put false A8 0 c8 0
  have HL := Lib.hid (show q = .error kk from (HF.out.trans (by simp only [sumO, thn, ← HO1.out, HV1.out, ← HO2.out, HV2.out, ← HO3.out, HV3.out, ← HO4.out, HKK.out.1])))
  obtain ⟨f0, f1, f2, f3, f4, f5⟩ := r.open
  obtain ⟨z0, z1, z2, z3, z4, z5⟩ := r.held
  go_wp2
  have qq := r.put false none 0 0 0 false none 0 0 0
  have HB3 := below_put6 (g := w.heap.size + 2) BB (by omega) (.bool false) (.slice none 0 0) (.int .i64 0) (.bool false) (.slice none 0 0) (.int .i64 0)
  obtain ⟨z0, z1, z2, z3, z4, z5⟩ := qq.held
  exact bodyPost_ret (v := .tuple #[.agg #[.bool false, .slice none 0 0, .int .i64 0, .bool false, .slice none 0 0, .int .i64 0], .int .i64 kk]) (by simp [results, Tryz.results7, go_sem, z0, z1, z2, z3, z4, z5]) rfl (by rw [HL.out]; exact ⟨none, 0, 0, none, 0, 0, rfl, Rd.nil _ _ _ _ (by omega), Rd.nil _ _ _ _ (by omega), HB3⟩)
 have HV4 := Lib.hid hv4
 clear hv4
 clear h7 u0 u1 u2
 replace BB := bnx BB b
 have G := mv b rfl (J6 r h6 y0 y1 y2 xu)
 clear b r h6 y0 y1 y2 xu
 obtain ⟨r, h6, y0, y1, y2, xu⟩ := G
 obtain ⟨t0, t1, t2⟩ := xu.open
 obtain ⟨m0, m1, m2⟩ := xu.held
 replace h6 := h6.put3 xu (.bool v4.s) (.slice A8 n8 c8) (.int .i64 v4.e)
 replace h8 := h8.put3 xu (.bool v4.s) (.slice A8 n8 c8) (.int .i64 v4.e)
 replace y0 := cell_oth3 (g := w6.heap.size) y0 ny_u (.bool v4.s) (.slice A8 n8 c8) (.int .i64 v4.e)
 replace y1 := cell_oth3 (g := w6.heap.size) y1 ny_u (.bool v4.s) (.slice A8 n8 c8) (.int .i64 v4.e)
 replace y2 := cell_oth3 (g := w6.heap.size) y2 ny_u (.bool v4.s) (.slice A8 n8 c8) (.int .i64 v4.e)
 replace r := Ibx.oth3 (g := w6.heap.size) r (by have := lu_.out; omega) (.bool v4.s) (.slice A8 n8 c8) (.int .i64 v4.e)
 replace BB := below_put3 (g := w6.heap.size) BB (by have := lu_.out; omega) (.bool v4.s) (.slice A8 n8 c8) (.int .i64 v4.e)
 replace xu := xu.put v4.s A8 n8 c8 v4.e
 obtain ⟨u0, u1, u2⟩ := xu.held
 clear xu
 obtain ⟨f0, f1, f2, f3, f4, f5⟩ := r.open
 obtain ⟨z0, z1, z2, z3, z4, z5⟩ := r.held
 go_wp2
 have HL := Lib.hid (show q = .ok ⟨v2, v4⟩ from (HF.out.trans (by simp only [sumO, thn, ← HO1.out, HV1.out, ← HO2.out, HV2.out, ← HO3.out, HV3.out, ← HO4.out, HV4.out])))
 have qq := r.put v2.s A6 n6 c6 v2.e v4.s A8 n8 c8 v4.e
 have hN := h6.put6 r (.bool v2.s) (.slice A6 n6 c6) (.int .i64 v2.e) (.bool v4.s) (.slice A8 n8 c8) (.int .i64 v4.e)
 have hM := h8.put6 r (.bool v2.s) (.slice A6 n6 c6) (.int .i64 v2.e) (.bool v4.s) (.slice A8 n8 c8) (.int .i64 v4.e)
 have HB3 := below_put6 (g := w.heap.size + 2) BB (by omega) (.bool v2.s) (.slice A6 n6 c6) (.int .i64 v2.e) (.bool v4.s) (.slice A8 n8 c8) (.int .i64 v4.e)
 obtain ⟨z0, z1, z2, z3, z4, z5⟩ := qq.held
 exact bodyPost_ret (v := .tuple #[.agg #[.bool v2.s, .slice A6 n6 c6, .int .i64 v2.e, .bool v4.s, .slice A8 n8 c8, .int .i64 v4.e], .int .i64 0]) (by simp [results, Tryz.results7, go_sem, z0, z1, z2, z3, z4, z5]) rfl (by rw [HL.out]; exact ⟨_, _, _, _, _, _, rfl, hN, hM, HB3⟩)

theorem rsub5_any (S : Sc) {w : World} {x y : Iv} {p : Int} {A1 : Option Addr} {n1 c1 : Nat} {A2 : Option Addr} {n2 c2 : Nat} {A3 : Option Addr} {n3 c3 : Nat} {A4 : Option Addr} {n4 c4 : Nat} (h1 : Rd w .u64 Go.Proofs.YtdklnpaocaebkaaGreatDoor.W A1 n1 c1 x.lo.l) (h2 : Rd w .u64 Go.Proofs.YtdklnpaocaebkaaGreatDoor.W A2 n2 c2 x.hi.l) (h3 : Rd w .u64 Go.Proofs.YtdklnpaocaebkaaGreatDoor.W A3 n3 c3 y.lo.l) (h4 : Rd w .u64 Go.Proofs.YtdklnpaocaebkaaGreatDoor.W A4 n4 c4 y.hi.l) :
  Calls Tryz.prog 9 #[.agg #[.bool x.lo.s, .slice A1 n1 c1, .int .i64 x.lo.e, .bool x.hi.s, .slice A2 n2 c2, .int .i64 x.hi.e], .agg #[.bool y.lo.s, .slice A3 n3 c3, .int .i64 y.lo.e, .bool y.hi.s, .slice A4 n4 c4, .int .i64 y.hi.e], .int .i64 p] w (TellO (face2 S x y p (sumO S x (turnI y) p)) w) := by
 obtain ⟨q, hq⟩ : ∃ q : Except Int Iv, q = face2 S x y p (sumO S x (turnI y) p) := ⟨_, rfl⟩
 rw [← hq]
 have HQ := Lib.hid hq
 clear hq
 have BB := three_below w (.cells #[.bool x.lo.s, .slice A1 n1 c1, .int .i64 x.lo.e, .bool x.hi.s, .slice A2 n2 c2, .int .i64 x.hi.e] 26) (.cells #[.bool y.lo.s, .slice A3 n3 c3, .int .i64 y.lo.e, .bool y.hi.s, .slice A4 n4 c4, .int .i64 y.hi.e] 26) (.cells #[.bool false, .slice none 0 0, .int .i64 0, .bool false, .slice none 0 0, .int .i64 0] 26)
 obtain ⟨_, xa, xb⟩ := two_ivl w (x := x) (y := y) (A1 := A1) (n1 := n1) (c1 := c1) (A2 := A2) (n2 := n2) (c2 := c2) (A3 := A3) (n3 := n3) (c3 := c3) (A4 := A4) (n4 := n4) (c4 := c4)
 replace xa := xa.alloc (.cells #[.bool false, .slice none 0 0, .int .i64 0, .bool false, .slice none 0 0, .int .i64 0] 26)
 replace xb := xb.alloc (.cells #[.bool false, .slice none 0 0, .int .i64 0, .bool false, .slice none 0 0, .int .i64 0] 26)
 have r := ibx_two w (.cells #[.bool x.lo.s, .slice A1 n1 c1, .int .i64 x.lo.e, .bool x.hi.s, .slice A2 n2 c2, .int .i64 x.hi.e] 26) (.cells #[.bool y.lo.s, .slice A3 n3 c3, .int .i64 y.lo.e, .bool y.hi.s, .slice A4 n4 c4, .int .i64 y.hi.e] 26) false none 0 0 0 false none 0 0 0
 obtain ⟨a0, a1, a2, a3, a4, a5⟩ := xa.held
 obtain ⟨e0, e1, e2, e3, e4, e5⟩ := xb.held
 clear xa xb
 have G := mv BB rfl (J4 h1 h2 h3 h4)
 clear h1 h2 h3 h4
 obtain ⟨h1, h2, h3, h4⟩ := G
 obtain ⟨z1_, hz⟩ : ∃ z, z = mayI S.K y := ⟨_, rfl⟩
 have HZ1 := Lib.hid hz
 clear hz
 obtain ⟨yt, hyt⟩ : ∃ yt, yt = turnI y := ⟨_, rfl⟩
 have HYT := Lib.hid hyt
 clear hyt
 go_enter Tryz.func9, Tryz.ntmps9
 go_wp2_with fail
 refine (show Calls _ _ _ _ (Bools z1_ _) from by rw [HZ1.out]; exact rmayi_any (K := S.K) S.big h3 h4).mono ?_
 rintro en w1 ⟨rfl, b⟩
 replace BB := bnx BB b
 have G := mv b rfl (J17 h1 h2 h3 h4 r a0 a1 a2 a3 a4 a5 e0 e1 e2 e3 e4 e5)
 clear b h1 h2 h3 h4 r a0 a1 a2 a3 a4 a5 e0 e1 e2 e3 e4 e5
 obtain ⟨h1, h2, h3, h4, r, a0, a1, a2, a3, a4, a5, e0, e1, e2, e3, e4, e5⟩ := G
 cases z1_
 ·have HL := Lib.hid (show q = .error 1 from by rw [HQ.out]; unfold face2; rw [if_neg (by intro h; rw [← HZ1.out] at h; simp at h)])
  obtain ⟨f0, f1, f2, f3, f4, f5⟩ := r.open
  obtain ⟨z0, z1, z2, z3, z4, z5⟩ := r.held
  go_wp2
  have qq := r.put false none 0 0 0 false none 0 0 0
  have HB3 := below_put6 (g := w.heap.size + 2) BB (by omega) (.bool false) (.slice none 0 0) (.int .i64 0) (.bool false) (.slice none 0 0) (.int .i64 0)
  obtain ⟨z0, z1, z2, z3, z4, z5⟩ := qq.held
  exact bodyPost_ret (v := .tuple #[.agg #[.bool false, .slice none 0 0, .int .i64 0, .bool false, .slice none 0 0, .int .i64 0], .int .i64 1]) (by simp [results, Tryz.results9, go_sem, z0, z1, z2, z3, z4, z5]) rfl (by rw [HL.out]; exact ⟨none, 0, 0, none, 0, 0, rfl, Rd.nil _ _ _ _ (by omega), Rd.nil _ _ _ _ (by omega), HB3⟩)
 have HF := Lib.hid (show q = face2 S x yt p (sumO S x yt p) from by rw [HQ.out, HYT.out]; unfold face2; rw [turn_may])
 go_wp2_with fail
 have b : Below w1.heap.size w1 (World.drew w1) := below_drewN (Below.refl _ _) 1
 replace BB := bnx BB b
 have G := mv b rfl (J17 h1 h2 h3 h4 r a0 a1 a2 a3 a4 a5 e0 e1 e2 e3 e4 e5)
 clear b h1 h2 h3 h4 r a0 a1 a2 a3 a4 a5 e0 e1 e2 e3 e4 e5
 obtain ⟨h1, h2, h3, h4, r, a0, a1, a2, a3, a4, a5, e0, e1, e2, e3, e4, e5⟩ := G
 refine wp_region_held_drew (S := fun w' => w'.cell? ⟨w.heap.size, 0, none⟩ = some (.bool x.lo.s) ∧ w'.cell? ⟨w.heap.size, 1, none⟩ = some (.slice A1 n1 c1) ∧ w'.cell? ⟨w.heap.size, 2, none⟩ = some (.int .i64 x.lo.e) ∧ w'.cell? ⟨w.heap.size, 3, none⟩ = some (.bool x.hi.s) ∧ w'.cell? ⟨w.heap.size, 4, none⟩ = some (.slice A2 n2 c2) ∧ w'.cell? ⟨w.heap.size, 5, none⟩ = some (.int .i64 x.hi.e) ∧ w'.cell? ⟨w.heap.size + 1, 0, none⟩ = some (.bool y.lo.s) ∧ w'.cell? ⟨w.heap.size + 1, 1, none⟩ = some (.slice A3 n3 c3) ∧ w'.cell? ⟨w.heap.size + 1, 2, none⟩ = some (.int .i64 y.lo.e) ∧ w'.cell? ⟨w.heap.size + 1, 3, none⟩ = some (.bool y.hi.s) ∧ w'.cell? ⟨w.heap.size + 1, 4, none⟩ = some (.slice A4 n4 c4) ∧ w'.cell? ⟨w.heap.size + 1, 5, none⟩ = some (.int .i64 y.hi.e)) (by kernel_rfl) (by exact ⟨a0, a1, a2, a3, a4, a5, e0, e1, e2, e3, e4, e5⟩) (fun hHeldv0 => ?_)
 generalize World.drew w1 = wd at *
 refine tl 0 ?_
 refine tl 1 ?_
 refine tl 3 ?_
 refine rdy 2 fun K hK => ?_
 go_simp
 refine (show Calls _ _ _ _ (GivI yt _) from by rw [HYT.out]; exact rturn_any h3 h4).mono ?_
 rintro en w' ⟨A5, n5, c5, A6, n6, c6, rfl, h5, h6, b⟩
 replace BB := below_next BB BB.size b (by rfl) (by rfl) (by rfl) (by rfl)
 have G := mv b (by rfl) <| And.intro h1 <| And.intro h2 <| And.intro h3 <| And.intro h4 <| And.intro r <| And.intro a0 <| And.intro a1 <| And.intro a2 <| And.intro a3 <| And.intro a4 <| And.intro a5 <| And.intro e0 <| And.intro e1 <| And.intro e2 <| And.intro e3 <| And.intro e4 <| e5
 clear b h1 h2 h3 h4 r a0 a1 a2 a3 a4 a5 e0 e1 e2 e3 e4 e5
 obtain ⟨h1, h2, h3, h4, r, a0, a1, a2, a3, a4, a5, e0, e1, e2, e3, e4, e5⟩ := G
 refine hK.out _ _ (by exact ⟨a0, a1, a2, a3, a4, a5, e0, e1, e2, e3, e4, e5⟩) (fun hHeldv1 => ?_)
 clear hK K hHeldv0
 try simp only [Act.put]
 refine rdy 4 fun K hK => ?_
 go_simp
 refine (tello_to HF.out (radd5_any S h1 h2 h5 h6)).mono ?_
 rintro en w' ⟨A7, n7, c7, A8, n8, c8, rfl, h7, h8, b⟩
 replace BB := below_next BB BB.size b (by rfl) (by rfl) (by rfl) (by rfl)
 have G := mv b (by rfl) <| And.intro h1 <| And.intro h2 <| And.intro h3 <| And.intro h4 <| And.intro r <| And.intro a0 <| And.intro a1 <| And.intro a2 <| And.intro a3 <| And.intro a4 <| And.intro a5 <| And.intro e0 <| And.intro e1 <| And.intro e2 <| And.intro e3 <| And.intro e4 <| And.intro e5 <| And.intro h5 <| h6
 clear b h1 h2 h3 h4 r a0 a1 a2 a3 a4 a5 e0 e1 e2 e3 e4 e5 h5 h6
 obtain ⟨h1, h2, h3, h4, r, a0, a1, a2, a3, a4, a5, e0, e1, e2, e3, e4, e5, h5, h6⟩ := G
 obtain ⟨f0, f1, f2, f3, f4, f5⟩ := r.open
 obtain ⟨z0, z1, z2, z3, z4, z5⟩ := r.held
 refine hK.out _ _ (by exact ⟨a0, a1, a2, a3, a4, a5, e0, e1, e2, e3, e4, e5⟩) (fun hHeldv2 => ?_)
 clear hK K hHeldv1
 try simp only [Act.put]
 refine tl 5 ?_
 refine tl 6 ?_
 refine rdy 7 fun K hK => ?_
 go_simp
 refine hK.out _ _ (by exact ⟨cell_oth6 a0 (by omega), cell_oth6 a1 (by omega), cell_oth6 a2 (by omega), cell_oth6 a3 (by omega), cell_oth6 a4 (by omega), cell_oth6 a5 (by omega), cell_oth6 e0 (by omega), cell_oth6 e1 (by omega), cell_oth6 e2 (by omega), cell_oth6 e3 (by omega), cell_oth6 e4 (by omega), cell_oth6 e5 (by omega)⟩) (fun hHeldv3 => ?_)
 clear hK K hHeldv2
 try simp only [Act.put]
 refine tl 8 ?_
 refine wpAnyH_done (by kernel_rfl) ?_ _
 go_wp2
 obtain ⟨f0, f1, f2, f3, f4, f5⟩ := r.open
 obtain ⟨z0, z1, z2, z3, z4, z5⟩ := r.held
 have qq := r.put (oiv q).lo.s A7 n7 c7 (oiv q).lo.e (oiv q).hi.s A8 n8 c8 (oiv q).hi.e
 have hN := h7.put6 r (.bool (oiv q).lo.s) (.slice A7 n7 c7) (.int .i64 (oiv q).lo.e) (.bool (oiv q).hi.s) (.slice A8 n8 c8) (.int .i64 (oiv q).hi.e)
 have hM := h8.put6 r (.bool (oiv q).lo.s) (.slice A7 n7 c7) (.int .i64 (oiv q).lo.e) (.bool (oiv q).hi.s) (.slice A8 n8 c8) (.int .i64 (oiv q).hi.e)
 have HB3 := below_put6 (g := w.heap.size + 2) BB (by omega) (.bool (oiv q).lo.s) (.slice A7 n7 c7) (.int .i64 (oiv q).lo.e) (.bool (oiv q).hi.s) (.slice A8 n8 c8) (.int .i64 (oiv q).hi.e)
 obtain ⟨z0, z1, z2, z3, z4, z5⟩ := qq.held
 exact bodyPost_ret (v := .tuple #[.agg #[.bool (oiv q).lo.s, .slice A7 n7 c7, .int .i64 (oiv q).lo.e, .bool (oiv q).hi.s, .slice A8 n8 c8, .int .i64 (oiv q).hi.e], .int .i64 (okc q)]) (by simp [results, Tryz.results9, go_sem, z0, z1, z2, z3, z4, z5]) rfl ⟨_, _, _, _, _, _, rfl, hN, hM, HB3⟩

theorem rneg5_any (S : Sc) {w : World} {x : Iv} {p : Int} {A1 : Option Addr} {n1 c1 : Nat} {A2 : Option Addr} {n2 c2 : Nat} (h1 : Rd w .u64 Go.Proofs.YtdklnpaocaebkaaGreatDoor.W A1 n1 c1 x.lo.l) (h2 : Rd w .u64 Go.Proofs.YtdklnpaocaebkaaGreatDoor.W A2 n2 c2 x.hi.l) :
  Calls Tryz.prog 15 #[.agg #[.bool x.lo.s, .slice A1 n1 c1, .int .i64 x.lo.e, .bool x.hi.s, .slice A2 n2 c2, .int .i64 x.hi.e], .int .i64 p] w (TellO (face1 S x p (negI S x p)) w) := by
 obtain ⟨q, hq⟩ : ∃ q : Except Int Iv, q = face1 S x p (negI S x p) := ⟨_, rfl⟩
 rw [← hq]
 have HQ := Lib.hid hq
 clear hq
 have BB := two_below w (.cells #[.bool x.lo.s, .slice A1 n1 c1, .int .i64 x.lo.e, .bool x.hi.s, .slice A2 n2 c2, .int .i64 x.hi.e] 26) (.cells #[.bool false, .slice none 0 0, .int .i64 0, .bool false, .slice none 0 0, .int .i64 0] 26)
 have xa := (Ibx.new w x.lo.s A1 n1 c1 x.lo.e x.hi.s A2 n2 c2 x.hi.e).alloc (.cells #[.bool false, .slice none 0 0, .int .i64 0, .bool false, .slice none 0 0, .int .i64 0] 26)
 have r := ibx_one w (.cells #[.bool x.lo.s, .slice A1 n1 c1, .int .i64 x.lo.e, .bool x.hi.s, .slice A2 n2 c2, .int .i64 x.hi.e] 26) false none 0 0 0 false none 0 0 0
 obtain ⟨a0, a1, a2, a3, a4, a5⟩ := xa.held
 clear xa
 have G := mv BB rfl <| And.intro h1 <| h2
 clear h1 h2
 obtain ⟨h1, h2⟩ := G
 obtain ⟨z1_, hz⟩ : ∃ z, z = mayI S.K x := ⟨_, rfl⟩
 have HZ1 := Lib.hid hz
 clear hz
 obtain ⟨xt, hxt⟩ : ∃ xt, xt = turnI x := ⟨_, rfl⟩
 have HXT := Lib.hid hxt
 clear hxt
 go_enter Tryz.func15, Tryz.ntmps15
 go_wp2_with fail
 refine (show Calls _ _ _ _ (Bools z1_ _) from by rw [HZ1.out]; exact rmayi_any (K := S.K) S.big h1 h2).mono ?_
 rintro en w1 ⟨rfl, b⟩
 replace BB := bnx BB b
 have G := mv b rfl (J9 h1 h2 r a0 a1 a2 a3 a4 a5)
 clear b h1 h2 r a0 a1 a2 a3 a4 a5
 obtain ⟨h1, h2, r, a0, a1, a2, a3, a4, a5⟩ := G
 cases z1_
 ·have HL := Lib.hid (show q = .error 1 from by rw [HQ.out]; unfold face1; rw [if_neg (by intro h; rw [← HZ1.out] at h; simp at h)])
  obtain ⟨f0, f1, f2, f3, f4, f5⟩ := r.open
  obtain ⟨z0, z1, z2, z3, z4, z5⟩ := r.held
  go_wp2
  have qq := r.put false none 0 0 0 false none 0 0 0
  have HB3 := below_put6 (g := w.heap.size + 1) BB (by omega) (.bool false) (.slice none 0 0) (.int .i64 0) (.bool false) (.slice none 0 0) (.int .i64 0)
  obtain ⟨z0, z1, z2, z3, z4, z5⟩ := qq.held
  exact bodyPost_ret (v := .tuple #[.agg #[.bool false, .slice none 0 0, .int .i64 0, .bool false, .slice none 0 0, .int .i64 0], .int .i64 1]) (by simp [results, Tryz.results15, go_sem, z0, z1, z2, z3, z4, z5]) rfl (by rw [HL.out]; exact ⟨none, 0, 0, none, 0, 0, rfl, Rd.nil _ _ _ _ (by omega), Rd.nil _ _ _ _ (by omega), HB3⟩)
 have HF := Lib.hid (show q = face1 S xt p (outO S xt.lo xt.hi p) from by rw [HQ.out, HXT.out]; unfold face1 negI; rw [turn_may])
 go_wp2_with fail
 refine (show Calls _ _ _ _ (GivI xt _) from by rw [HXT.out]; exact rturn_any h1 h2).mono ?_
 rintro en w2 ⟨A3, n3, c3, A4, n4, c4, rfl, h3, h4, b⟩
 replace BB := bnx BB b
 have G := mv b rfl (J9 h1 h2 r a0 a1 a2 a3 a4 a5)
 clear b h1 h2 r a0 a1 a2 a3 a4 a5
 obtain ⟨h1, h2, r, a0, a1, a2, a3, a4, a5⟩ := G
 go_wp2_with fail
 refine (tello_to HF.out (rround5_any S h3 h4)).mono ?_
 rintro en w3 ⟨A5, n5, c5, A6, n6, c6, rfl, h5, h6, b⟩
 replace BB := bnx BB b
 have G := mv b rfl (J11 h1 h2 r a0 a1 a2 a3 a4 a5 h3 h4)
 clear b h1 h2 r a0 a1 a2 a3 a4 a5 h3 h4
 obtain ⟨h1, h2, r, a0, a1, a2, a3, a4, a5, h3, h4⟩ := G
 obtain ⟨f0, f1, f2, f3, f4, f5⟩ := r.open
 obtain ⟨z0, z1, z2, z3, z4, z5⟩ := r.held
 go_wp2
 have qq := r.put (oiv q).lo.s A5 n5 c5 (oiv q).lo.e (oiv q).hi.s A6 n6 c6 (oiv q).hi.e
 have hN := h5.put6 r (.bool (oiv q).lo.s) (.slice A5 n5 c5) (.int .i64 (oiv q).lo.e) (.bool (oiv q).hi.s) (.slice A6 n6 c6) (.int .i64 (oiv q).hi.e)
 have hM := h6.put6 r (.bool (oiv q).lo.s) (.slice A5 n5 c5) (.int .i64 (oiv q).lo.e) (.bool (oiv q).hi.s) (.slice A6 n6 c6) (.int .i64 (oiv q).hi.e)
 have HB3 := below_put6 (g := w.heap.size + 1) BB (by omega) (.bool (oiv q).lo.s) (.slice A5 n5 c5) (.int .i64 (oiv q).lo.e) (.bool (oiv q).hi.s) (.slice A6 n6 c6) (.int .i64 (oiv q).hi.e)
 obtain ⟨z0, z1, z2, z3, z4, z5⟩ := qq.held
 exact bodyPost_ret (v := .tuple #[.agg #[.bool (oiv q).lo.s, .slice A5 n5 c5, .int .i64 (oiv q).lo.e, .bool (oiv q).hi.s, .slice A6 n6 c6, .int .i64 (oiv q).hi.e], .int .i64 (okc q)]) (by simp [results, Tryz.results15, go_sem, z0, z1, z2, z3, z4, z5]) rfl ⟨_, _, _, _, _, _, rfl, hN, hM, HB3⟩

end Go.Proofs.YtdklnpaocaebkaaGreatDoor
