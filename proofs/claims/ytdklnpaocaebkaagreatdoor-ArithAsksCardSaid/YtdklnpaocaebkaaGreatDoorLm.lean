/-
 Contract of the reference's Mul of intervals, at this translation. Condition: the slices read as limbs, the table of math/bits reads as its text lays it.
-/
import Derived.Test.YtdklnpaocaebkaaGreatDoorLl
import Derived.Test.YtdklnpaocaebkaaGreatDoorLh
set_option maxHeartbeats 8000000
set_option maxRecDepth 100000
namespace Go.Proofs.YtdklnpaocaebkaaGreatDoor
open Go.RowKit

theorem qs_four {w : World} {g : Nat} (hg : w.heap.size = g) {a b c d : Rw} {A1 : Option Addr} {n1 c1 : Nat} {A2 : Option Addr} {n2 c2 : Nat} {A3 : Option Addr} {n3 c3 : Nat} {A4 : Option Addr} {n4 c4 : Nat} (h1 : Rd w .u64 Go.Proofs.YtdklnpaocaebkaaGreatDoor.W A1 n1 c1 a.l) (h2 : Rd w .u64 Go.Proofs.YtdklnpaocaebkaaGreatDoor.W A2 n2 c2 b.l) (h3 : Rd w .u64 Go.Proofs.YtdklnpaocaebkaaGreatDoor.W A3 n3 c3 c.l) (h4 : Rd w .u64 Go.Proofs.YtdklnpaocaebkaaGreatDoor.W A4 n4 c4 d.l) : Qs (w.alloc (.cells #[.bool a.s, .slice A1 n1 c1, .int .i64 a.e, .bool b.s, .slice A2 n2 c2, .int .i64 b.e, .bool c.s, .slice A3 n3 c3, .int .i64 c.e, .bool d.s, .slice A4 n4 c4, .int .i64 d.e] 24)) g [a, b, c, d] := by
 subst hg
 have bl := below_alloc w (.cells #[.bool a.s, .slice A1 n1 c1, .int .i64 a.e, .bool b.s, .slice A2 n2 c2, .int .i64 b.e, .bool c.s, .slice A3 n3 c3, .int .i64 c.e, .bool d.s, .slice A4 n4 c4, .int .i64 d.e] 24)
 have hc : ∀ j : Nat, (w.alloc (.cells #[.bool a.s, .slice A1 n1 c1, .int .i64 a.e, .bool b.s, .slice A2 n2 c2, .int .i64 b.e, .bool c.s, .slice A3 n3 c3, .int .i64 c.e, .bool d.s, .slice A4 n4 c4, .int .i64 d.e] 24)).cell? ⟨w.heap.size, j, none⟩ = _ := fun j => cell_of_row _ _ j _ 24 (0, 0) (heap_alloc_new w _)
 intro i hi
 rcases (show i = 0 ∨ i = 1 ∨ i = 2 ∨ i = 3 by simp at hi; omega) with rfl | rfl | rfl | rfl
 ·exact ⟨A1, n1, c1, ⟨hc 0, hc 1, hc 2⟩, h1.next bl rfl⟩
 ·exact ⟨A2, n2, c2, ⟨hc 3, hc 4, hc 5⟩, h2.next bl rfl⟩
 ·exact ⟨A3, n3, c3, ⟨hc 6, hc 7, hc 8⟩, h3.next bl rfl⟩
 ·exact ⟨A4, n4, c4, ⟨hc 9, hc 10, hc 11⟩, h4.next bl rfl⟩
theorem four_x (a b : Rw) {i : Nat} (hi : i < 4) : [a, a, b, b].getD i Rw.zero = [a, b].getD (i / 2) Rw.zero := by
 rcases (show i = 0 ∨ i = 1 ∨ i = 2 ∨ i = 3 by omega) with rfl | rfl | rfl | rfl <;> rfl
theorem four_y (a b : Rw) {i : Nat} (hi : i < 4) : [a, b, a, b].getD i Rw.zero = [a, b].getD (i % 2) Rw.zero := by
 rcases (show i = 0 ∨ i = 1 ∨ i = 2 ∨ i = 3 by omega) with rfl | rfl | rfl | rfl <;> rfl
theorem pre_step {F : Rw → Rw → Except Int Rw} {x y : Iv} {L : List Rw} {i : Nat} {a b v : Rw} (h : Pre F x y i L) (hi : i < 4) (ha : a = [x.lo, x.lo, x.hi, x.hi].getD i Rw.zero) (hb : b = [y.lo, y.hi, y.lo, y.hi].getD i Rw.zero) (hv : F a b = .ok v) : Pre F x y (i + 1) (L ++ [v]) := by
 have e : 2 * (i / 2) + i % 2 = i := by omega
 have := pre_snoc (i := i / 2) (j := i % 2) (v := v) (a := a) (b := b) (by rw [e]; exact h) (by omega) (by rw [ha, four_x _ _ hi]) (by rw [hb, four_y _ _ hi]) hv
 rwa [show 2 * (i / 2) + (i % 2 + 1) = i + 1 by omega] at this
theorem pre_stop {F : Rw → Rw → Except Int Rw} {x y : Iv} {L : List Rw} {i : Nat} {a b : Rw} {k : Int} (h : Pre F x y i L) (hi : i < 4) (ha : a = [x.lo, x.lo, x.hi, x.hi].getD i Rw.zero) (hb : b = [y.lo, y.hi, y.lo, y.hi].getD i Rw.zero) (hv : F a b = .error k) : corO F x y = .error k := by
 have e : 2 * (i / 2) + i % 2 = i := by omega
 exact pre_err (i := i / 2) (j := i % 2) (a := a) (b := b) (by rw [e]; exact h) (by omega) (by omega) (by rw [ha, four_x _ _ hi]) (by rw [hb, four_y _ _ hi]) hv
/-- one more: the least and the greatest go on -/
theorem lea_snoc (S : Sc) {L : List Rw} {z : Rw} (h : L ≠ []) : leaL S (L ++ [z]) = leastQ S.K (leaL S L) z ∧ greL S (L ++ [z]) = greatQ S.K (greL S L) z := by
 obtain ⟨a, l, rfl⟩ := getD_ne h
 constructor
 ·show (l ++ [z]).foldl (leastQ S.K) a = _
  rw [List.foldl_append]; rfl
 ·show (l ++ [z]).foldl (greatQ S.K) a = _
  rw [List.foldl_append]; rfl
theorem lea_self (K : Nat) (z : Rw) : leastQ K z z = z ∧ greatQ K z z = z := by
 unfold leastQ greatQ
 constructor <;> split <;> rfl
theorem okc_err {o : Except Int Rw} (h : okc o ≠ 0) : o = .error (okc o) := by
 cases o with
 | ok v => exact absurd rfl h
 | error k => rfl
theorem okc_ok {o : Except Int Rw} (hc : Cod o) (h : okc o = 0) : o = .ok (orw o) := by
 cases o with
 | ok v => rfl
 | error k => exact absurd h (hc k rfl)
theorem rmul_tell (S : Sc) {w : World} {a b : Rw} {A1 : Option Addr} {n1 c1 : Nat} {A2 : Option Addr} {n2 c2 : Nat} (h1 : Rd w .u64 Go.Proofs.YtdklnpaocaebkaaGreatDoor.W A1 n1 c1 a.l) (h2 : Rd w .u64 Go.Proofs.YtdklnpaocaebkaaGreatDoor.W A2 n2 c2 b.l) : Calls Tryz.prog 41 #[.agg #[.bool a.s, .slice A1 n1 c1, .int .i64 a.e], .agg #[.bool b.s, .slice A2 n2 c2, .int .i64 b.e]] w (TellQ (mulO S a b) w) := tells_oc S mulR_only mulR_null (rmuld_raw h1 h2)

theorem Qs.put3 {w : World} {g g' : Nat} {L : List Rw} {s0 : Bool} {A0 : Option Addr} {n0 c0 : Nat} {e0 : Int} (h : Qs w g L) (hb : Box w g' s0 A0 n0 c0 e0) (hne : g ≠ g') (u0 u1 u2 : Value) : Qs (((w.setCell ⟨g', 0, none⟩ u0).setCell ⟨g', 1, none⟩ u1).setCell ⟨g', 2, none⟩ u2) g L := fun i hi => by
 obtain ⟨A, n, c, ⟨h0, h1, h2⟩, r⟩ := h i hi
 exact ⟨A, n, c, ⟨cell_oth3 h0 hne u0 u1 u2, cell_oth3 h1 hne u0 u1 u2, cell_oth3 h2 hne u0 u1 u2⟩, r.put3 hb u0 u1 u2⟩

theorem rmul5_any (S : Sc) {w : World} {x y : Iv} {p : Int} {A1 : Option Addr} {n1 c1 : Nat} {A2 : Option Addr} {n2 c2 : Nat} {A3 : Option Addr} {n3 c3 : Nat} {A4 : Option Addr} {n4 c4 : Nat} (h1 : Rd w .u64 Go.Proofs.YtdklnpaocaebkaaGreatDoor.W A1 n1 c1 x.lo.l) (h2 : Rd w .u64 Go.Proofs.YtdklnpaocaebkaaGreatDoor.W A2 n2 c2 x.hi.l) (h3 : Rd w .u64 Go.Proofs.YtdklnpaocaebkaaGreatDoor.W A3 n3 c3 y.lo.l) (h4 : Rd w .u64 Go.Proofs.YtdklnpaocaebkaaGreatDoor.W A4 n4 c4 y.hi.l) :
  Calls Tryz.prog 11 #[.agg #[.bool x.lo.s, .slice A1 n1 c1, .int .i64 x.lo.e, .bool x.hi.s, .slice A2 n2 c2, .int .i64 x.hi.e], .agg #[.bool y.lo.s, .slice A3 n3 c3, .int .i64 y.lo.e, .bool y.hi.s, .slice A4 n4 c4, .int .i64 y.hi.e], .int .i64 p] w (TellO (face2 S x y p (mulI S x y p)) w) := by
 obtain ⟨q, hq⟩ : ∃ q : Except Int Iv, q = face2 S x y p (mulI S x y p) := ⟨_, rfl⟩
 rw [← hq]
 have HQ := Lib.hid hq
 clear hq
 have BB := three_below w (.cells #[.bool x.lo.s, .slice A1 n1 c1, .int .i64 x.lo.e, .bool x.hi.s, .slice A2 n2 c2, .int .i64 x.hi.e] 26) (.cells #[.bool y.lo.s, .slice A3 n3 c3, .int .i64 y.lo.e, .bool y.hi.s, .slice A4 n4 c4, .int .i64 y.hi.e] 26) (.cells #[.bool false, .slice none 0 0, .int .i64 0, .bool false, .slice none 0 0, .int .i64 0] 26)
 obtain ⟨_, xa, xb⟩ := two_ivl w (x := x) (y := y) (A1 := A1) (n1 := n1) (c1 := c1) (A2 := A2) (n2 := n2) (c2 := c2) (A3 := A3) (n3 := n3) (c3 := c3) (A4 := A4) (n4 := n4) (c4 := c4)
 replace xa := xa.alloc (.cells #[.bool false, .slice none 0 0, .int .i64 0, .bool false, .slice none 0 0, .int .i64 0] 26)
 replace xb := xb.alloc (.cells #[.bool false, .slice none 0 0, .int .i64 0, .bool false, .slice none 0 0, .int .i64 0] 26)
 have r := ibx_two w (.cells #[.bool x.lo.s, .slice A1 n1 c1, .int .i64 x.lo.e, .bool x.hi.s, .slice A2 n2 c2, .int .i64 x.hi.e] 26) (.cells #[.bool y.lo.s, .slice A3 n3 c3, .int .i64 y.lo.e, .bool y.hi.s, .slice A4 n4 c4, .int .i64 y.hi.e] 26) false none 0 0 0 false none 0 0 0
 obtain ⟨a0, a1, a2, a3, a4, a5⟩ := xa.held
 obtain ⟨e0, e1, e2, e3, e4, e5⟩ := xb.held
 clear xa xb
 have G := mv BB rfl (J4 h1 h2 h3 h4)
 clear h1 h2 h3 h4
 obtain ⟨h1, h2, h3, h4⟩ := G
 go_enter Tryz.func11, Tryz.ntmps11
 obtain ⟨z1_, hz⟩ : ∃ z, z = mayI S.K x := ⟨_, rfl⟩
 have HZ1 := Lib.hid hz
 clear hz
 obtain ⟨z2_, hz⟩ : ∃ z, z = mayI S.K y := ⟨_, rfl⟩
 have HZ2 := Lib.hid hz
 clear hz
 obtain ⟨z3_, hz⟩ : ∃ z, z = prec p := ⟨_, rfl⟩
 have HZ3 := Lib.hid hz
 clear hz
 go_wp2_with fail
 refine (show Calls _ _ _ _ (Bools z1_ _) from by rw [HZ1.out]; exact rmayi_any (K := S.K) S.big h1 h2).mono ?_
 rintro en w1 ⟨rfl, b⟩
 replace BB := bnx BB b
 have G := mv b rfl (J17 h1 h2 h3 h4 r a0 a1 a2 a3 a4 a5 e0 e1 e2 e3 e4 e5)
 clear b h1 h2 h3 h4 r a0 a1 a2 a3 a4 a5 e0 e1 e2 e3 e4 e5
 obtain ⟨h1, h2, h3, h4, r, a0, a1, a2, a3, a4, a5, e0, e1, e2, e3, e4, e5⟩ := G
 cases z1_
 ·have HL := Lib.hid (show q = .error 1 from by rw [HQ.out]; unfold face2; rw [if_neg (by intro h; rw [← HZ1.out] at h; simp at h)])
  obtain ⟨f0, f1, f2, f3, f4, f5⟩ := r.open
  obtain ⟨z0, z1, z2, z3, z4, z5⟩ := r.held
  go_wp2
  have qq := r.put false none 0 0 0 false none 0 0 0
  have HB3 := below_put6 (g := w.heap.size + 2) BB (by omega) (.bool false) (.slice none 0 0) (.int .i64 0) (.bool false) (.slice none 0 0) (.int .i64 0)
  obtain ⟨z0, z1, z2, z3, z4, z5⟩ := qq.held
  exact bodyPost_ret (v := .tuple #[.agg #[.bool false, .slice none 0 0, .int .i64 0, .bool false, .slice none 0 0, .int .i64 0], .int .i64 1]) (by simp [results, Tryz.results11, go_sem, z0, z1, z2, z3, z4, z5]) rfl (by rw [HL.out]; exact ⟨none, 0, 0, none, 0, 0, rfl, Rd.nil _ _ _ _ (by omega), Rd.nil _ _ _ _ (by omega), HB3⟩)
 go_wp2_with fail
 refine (show Calls _ _ _ _ (Bools z2_ _) from by rw [HZ2.out]; exact rmayi_any (K := S.K) S.big h3 h4).mono ?_
 rintro en w2 ⟨rfl, b⟩
 replace BB := bnx BB b
 have G := mv b rfl (J17 h1 h2 h3 h4 r a0 a1 a2 a3 a4 a5 e0 e1 e2 e3 e4 e5)
 clear b h1 h2 h3 h4 r a0 a1 a2 a3 a4 a5 e0 e1 e2 e3 e4 e5
 obtain ⟨h1, h2, h3, h4, r, a0, a1, a2, a3, a4, a5, e0, e1, e2, e3, e4, e5⟩ := G
 cases z2_
 ·have HL := Lib.hid (show q = .error 1 from by rw [HQ.out]; unfold face2; rw [if_neg (by intro h; rw [← HZ2.out] at h; simp at h)])
  obtain ⟨f0, f1, f2, f3, f4, f5⟩ := r.open
  obtain ⟨z0, z1, z2, z3, z4, z5⟩ := r.held
  go_wp2
  have qq := r.put false none 0 0 0 false none 0 0 0
  have HB3 := below_put6 (g := w.heap.size + 2) BB (by omega) (.bool false) (.slice none 0 0) (.int .i64 0) (.bool false) (.slice none 0 0) (.int .i64 0)
  obtain ⟨z0, z1, z2, z3, z4, z5⟩ := qq.held
  exact bodyPost_ret (v := .tuple #[.agg #[.bool false, .slice none 0 0, .int .i64 0, .bool false, .slice none 0 0, .int .i64 0], .int .i64 1]) (by simp [results, Tryz.results11, go_sem, z0, z1, z2, z3, z4, z5]) rfl (by rw [HL.out]; exact ⟨none, 0, 0, none, 0, 0, rfl, Rd.nil _ _ _ _ (by omega), Rd.nil _ _ _ _ (by omega), HB3⟩)
 go_wp2_with fail
 refine (show Calls _ _ _ _ (Bools z3_ _) from by rw [HZ3.out]; exact rprec_any).mono ?_
 rintro en w3 ⟨rfl, b⟩
 replace BB := bnx BB b
 have G := mv b rfl (J17 h1 h2 h3 h4 r a0 a1 a2 a3 a4 a5 e0 e1 e2 e3 e4 e5)
 clear b h1 h2 h3 h4 r a0 a1 a2 a3 a4 a5 e0 e1 e2 e3 e4 e5
 obtain ⟨h1, h2, h3, h4, r, a0, a1, a2, a3, a4, a5, e0, e1, e2, e3, e4, e5⟩ := G
 cases z3_
 ·have HL := Lib.hid (show q = .error 1 from by rw [HQ.out]; unfold face2; rw [if_neg (by intro h; rw [← HZ3.out] at h; simp at h)])
  obtain ⟨f0, f1, f2, f3, f4, f5⟩ := r.open
  obtain ⟨z0, z1, z2, z3, z4, z5⟩ := r.held
  go_wp2
  have qq := r.put false none 0 0 0 false none 0 0 0
  have HB3 := below_put6 (g := w.heap.size + 2) BB (by omega) (.bool false) (.slice none 0 0) (.int .i64 0) (.bool false) (.slice none 0 0) (.int .i64 0)
  obtain ⟨z0, z1, z2, z3, z4, z5⟩ := qq.held
  exact bodyPost_ret (v := .tuple #[.agg #[.bool false, .slice none 0 0, .int .i64 0, .bool false, .slice none 0 0, .int .i64 0], .int .i64 1]) (by simp [results, Tryz.results11, go_sem, z0, z1, z2, z3, z4, z5]) rfl (by rw [HL.out]; exact ⟨none, 0, 0, none, 0, 0, rfl, Rd.nil _ _ _ _ (by omega), Rd.nil _ _ _ _ (by omega), HB3⟩)
 have HF := Lib.hid (show q = mulI S x y p from by rw [HQ.out]; unfold face2; rw [if_pos (by rw [← HZ1.out, ← HZ2.out, ← HZ3.out]; rfl)])
 clear HZ1 HZ2 HZ3
 go_upto_region 3 with fail
 go_cut [8, 9] (fun v8 v9 wc => ∃ gx gy : Nat, v8 = .slice (some ⟨gx, 0, none⟩) 4 4 ∧ v9 = .slice (some ⟨gy, 0, none⟩) 4 4 ∧ Qs wc gx [x.lo, x.lo, x.hi, x.hi] ∧ Qs wc gy [y.lo, y.hi, y.lo, y.hi] ∧ Ibx wc (w.heap.size + 2) false none 0 0 0 false none 0 0 0 ∧ Below w.heap.size w wc)
 case first =>
  have b : Below w3.heap.size w3 (World.drew w3) := below_drewN (Below.refl _ _) 1
  replace BB := bnx BB b
  have G := mv b rfl (J17 h1 h2 h3 h4 r a0 a1 a2 a3 a4 a5 e0 e1 e2 e3 e4 e5)
  clear b h1 h2 h3 h4 r a0 a1 a2 a3 a4 a5 e0 e1 e2 e3 e4 e5
  obtain ⟨h1, h2, h3, h4, r, a0, a1, a2, a3, a4, a5, e0, e1, e2, e3, e4, e5⟩ := G
  refine wp_region_held_drew (S := fun w' => w'.cell? ⟨w.heap.size, 0, none⟩ = some (.bool x.lo.s) ∧ w'.cell? ⟨w.heap.size, 1, none⟩ = some (.slice A1 n1 c1) ∧ w'.cell? ⟨w.heap.size, 2, none⟩ = some (.int .i64 x.lo.e) ∧ w'.cell? ⟨w.heap.size, 3, none⟩ = some (.bool x.hi.s) ∧ w'.cell? ⟨w.heap.size, 4, none⟩ = some (.slice A2 n2 c2) ∧ w'.cell? ⟨w.heap.size, 5, none⟩ = some (.int .i64 x.hi.e) ∧ w'.cell? ⟨w.heap.size + 1, 0, none⟩ = some (.bool y.lo.s) ∧ w'.cell? ⟨w.heap.size + 1, 1, none⟩ = some (.slice A3 n3 c3) ∧ w'.cell? ⟨w.heap.size + 1, 2, none⟩ = some (.int .i64 y.lo.e) ∧ w'.cell? ⟨w.heap.size + 1, 3, none⟩ = some (.bool y.hi.s) ∧ w'.cell? ⟨w.heap.size + 1, 4, none⟩ = some (.slice A4 n4 c4) ∧ w'.cell? ⟨w.heap.size + 1, 5, none⟩ = some (.int .i64 y.hi.e)) (by kernel_rfl) (by exact ⟨a0, a1, a2, a3, a4, a5, e0, e1, e2, e3, e4, e5⟩) (fun hHeldp0 => ?_)
  generalize World.drew w3 = wd at *
  refine tl 0 ?_
  refine tl 1 ?_
  refine tl 2 ?_
  refine tl 3 ?_
  refine tl 4 ?_
  refine tl 5 ?_
  refine tl 6 ?_
  refine tl 7 ?_
  refine tl 9 ?_
  refine tl 10 ?_
  refine tl 11 ?_
  refine tl 12 ?_
  refine tl 13 ?_
  refine tl 14 ?_
  refine tl 15 ?_
  refine tl 16 ?_
  refine wpAnyH_ready (rs := [8, 17]) (by kernel_rfl) (by simp) ?_
  refine AllReadyH.cons (o := _) rfl (fun K hK => ?_) (AllReadyH.cons (o := _) rfl (fun K hK => ?_) (AllReadyH.nil))
  ·go_simp
   have qx := qs_four (w := wd) rfl h1 h1 h2 h2
   have b := below_alloc wd (.cells #[.bool x.lo.s, .slice A1 n1 c1, .int .i64 x.lo.e, .bool x.lo.s, .slice A1 n1 c1, .int .i64 x.lo.e, .bool x.hi.s, .slice A2 n2 c2, .int .i64 x.hi.e, .bool x.hi.s, .slice A2 n2 c2, .int .i64 x.hi.e] 24)
   replace BB := bnx BB b
   have G := mv b rfl (J17 h1 h2 h3 h4 r a0 a1 a2 a3 a4 a5 e0 e1 e2 e3 e4 e5)
   clear b h1 h2 h3 h4 r a0 a1 a2 a3 a4 a5 e0 e1 e2 e3 e4 e5
   obtain ⟨h1, h2, h3, h4, r, a0, a1, a2, a3, a4, a5, e0, e1, e2, e3, e4, e5⟩ := G
   generalize wd.alloc (.cells #[.bool x.lo.s, .slice A1 n1 c1, .int .i64 x.lo.e, .bool x.lo.s, .slice A1 n1 c1, .int .i64 x.lo.e, .bool x.hi.s, .slice A2 n2 c2, .int .i64 x.hi.e, .bool x.hi.s, .slice A2 n2 c2, .int .i64 x.hi.e] 24) = u1 at *
   generalize wd.heap.size = gx at *
   refine hK.out _ _ (by exact ⟨a0, a1, a2, a3, a4, a5, e0, e1, e2, e3, e4, e5⟩) (fun hHeldp1 => ?_)
   clear hK K hHeldp0
   try simp only [Act.put]
   refine tl 18 ?_
   refine rdy 17 fun K hK => ?_
   go_simp
   have qy := qs_four (w := u1) rfl h3 h4 h3 h4
   have b := below_alloc u1 (.cells #[.bool y.lo.s, .slice A3 n3 c3, .int .i64 y.lo.e, .bool y.hi.s, .slice A4 n4 c4, .int .i64 y.hi.e, .bool y.lo.s, .slice A3 n3 c3, .int .i64 y.lo.e, .bool y.hi.s, .slice A4 n4 c4, .int .i64 y.hi.e] 24)
   replace BB := bnx BB b
   have G := mv b rfl (J18 h1 h2 h3 h4 r a0 a1 a2 a3 a4 a5 e0 e1 e2 e3 e4 e5 qx)
   clear b h1 h2 h3 h4 r a0 a1 a2 a3 a4 a5 e0 e1 e2 e3 e4 e5 qx
   obtain ⟨h1, h2, h3, h4, r, a0, a1, a2, a3, a4, a5, e0, e1, e2, e3, e4, e5, qx⟩ := G
   generalize u1.alloc (.cells #[.bool y.lo.s, .slice A3 n3 c3, .int .i64 y.lo.e, .bool y.hi.s, .slice A4 n4 c4, .int .i64 y.hi.e, .bool y.lo.s, .slice A3 n3 c3, .int .i64 y.lo.e, .bool y.hi.s, .slice A4 n4 c4, .int .i64 y.hi.e] 24) = u2 at *
   generalize u1.heap.size = gy at *
   refine hK.out _ _ (by exact ⟨a0, a1, a2, a3, a4, a5, e0, e1, e2, e3, e4, e5⟩) (fun hHeldp2 => ?_)
   clear hK K hHeldp1
   try simp only [Act.put]
   refine tl 19 ?_
   refine wpAnyH_done (by kernel_rfl) ?_ _
   go_wp2_with fail
   go_meet
   case rel => exact ⟨gx, gy, rfl, rfl, qx, qy, r, BB⟩
  ·go_simp
   have qy := qs_four (w := wd) rfl h3 h4 h3 h4
   have b := below_alloc wd (.cells #[.bool y.lo.s, .slice A3 n3 c3, .int .i64 y.lo.e, .bool y.hi.s, .slice A4 n4 c4, .int .i64 y.hi.e, .bool y.lo.s, .slice A3 n3 c3, .int .i64 y.lo.e, .bool y.hi.s, .slice A4 n4 c4, .int .i64 y.hi.e] 24)
   replace BB := bnx BB b
   have G := mv b rfl (J17 h1 h2 h3 h4 r a0 a1 a2 a3 a4 a5 e0 e1 e2 e3 e4 e5)
   clear b h1 h2 h3 h4 r a0 a1 a2 a3 a4 a5 e0 e1 e2 e3 e4 e5
   obtain ⟨h1, h2, h3, h4, r, a0, a1, a2, a3, a4, a5, e0, e1, e2, e3, e4, e5⟩ := G
   generalize wd.alloc (.cells #[.bool y.lo.s, .slice A3 n3 c3, .int .i64 y.lo.e, .bool y.hi.s, .slice A4 n4 c4, .int .i64 y.hi.e, .bool y.lo.s, .slice A3 n3 c3, .int .i64 y.lo.e, .bool y.hi.s, .slice A4 n4 c4, .int .i64 y.hi.e] 24) = u1 at *
   generalize wd.heap.size = gy at *
   refine hK.out _ _ (by exact ⟨a0, a1, a2, a3, a4, a5, e0, e1, e2, e3, e4, e5⟩) (fun hHeldp1 => ?_)
   clear hK K hHeldp0
   try simp only [Act.put]
   refine rdy 8 fun K hK => ?_
   go_simp
   have qx := qs_four (w := u1) rfl h1 h1 h2 h2
   have b := below_alloc u1 (.cells #[.bool x.lo.s, .slice A1 n1 c1, .int .i64 x.lo.e, .bool x.lo.s, .slice A1 n1 c1, .int .i64 x.lo.e, .bool x.hi.s, .slice A2 n2 c2, .int .i64 x.hi.e, .bool x.hi.s, .slice A2 n2 c2, .int .i64 x.hi.e] 24)
   replace BB := bnx BB b
   have G := mv b rfl (J18 h1 h2 h3 h4 r a0 a1 a2 a3 a4 a5 e0 e1 e2 e3 e4 e5 qy)
   clear b h1 h2 h3 h4 r a0 a1 a2 a3 a4 a5 e0 e1 e2 e3 e4 e5 qy
   obtain ⟨h1, h2, h3, h4, r, a0, a1, a2, a3, a4, a5, e0, e1, e2, e3, e4, e5, qy⟩ := G
   generalize u1.alloc (.cells #[.bool x.lo.s, .slice A1 n1 c1, .int .i64 x.lo.e, .bool x.lo.s, .slice A1 n1 c1, .int .i64 x.lo.e, .bool x.hi.s, .slice A2 n2 c2, .int .i64 x.hi.e, .bool x.hi.s, .slice A2 n2 c2, .int .i64 x.hi.e] 24) = u2 at *
   generalize u1.heap.size = gx at *
   refine hK.out _ _ (by exact ⟨a0, a1, a2, a3, a4, a5, e0, e1, e2, e3, e4, e5⟩) (fun hHeldp2 => ?_)
   clear hK K hHeldp1
   try simp only [Act.put]
   refine tl 18 ?_
   refine tl 19 ?_
   refine wpAnyH_done (by kernel_rfl) ?_ _
   go_wp2_with fail
   go_meet
   case rel => exact ⟨gx, gy, rfl, rfl, qx, qy, r, BB⟩
 case rest =>
  clear r BB h1 h2 h3 h4 a0 a1 a2 a3 a4 a5 e0 e1 e2 e3 e4 e5
  obtain ⟨gx, gy, rfl, rfl, qx, qy, r, BB⟩ := hcut
  generalize wc = W0 at *
  have xl := (Box.new W0 false none 0 0 0).alloc (.cells #[.bool false, .slice none 0 0, .int .i64 0] 24)
  have xg := box_two_at W0 (.cells #[.bool false, .slice none 0 0, .int .i64 0] 24) false none 0 0 0
  have b := two_below W0 (.cells #[.bool false, .slice none 0 0, .int .i64 0] 24) (.cells #[.bool false, .slice none 0 0, .int .i64 0] 24)
  have lr_ := Lib.hid r.gl
  have lgw : Hid (w.heap.size ≤ W0.heap.size) := Lib.hid BB.size
  have lgxy : Hid (gx < W0.heap.size ∧ gy < W0.heap.size) := Lib.hid (by obtain ⟨_, _, _, ⟨e1, _, _⟩, _⟩ := qx 0 (by simp); obtain ⟨_, _, _, ⟨e2, _, _⟩, _⟩ := qy 0 (by simp); exact ⟨World.block_lt_of_cell? _ _ e1, World.block_lt_of_cell? _ _ e2⟩)
  replace BB := bnx BB b
  have G := mv b rfl (J3 r qx qy)
  clear b r qx qy
  obtain ⟨r, qx, qy⟩ := G
  have hnil : ∀ W2 : World, Rd W2 .u64 Go.Proofs.YtdklnpaocaebkaaGreatDoor.W none 0 0 Rw.zero.l := fun _ => Rd.nil _ _ _ _ (by omega)
  go_wp2
  go_loopg [12] 4 (fun q v wr => ∃ (i : Nat) (L : List Rw), i + q = 4 ∧ v = .int .i64 i ∧ Pre (mulO S) x y i L ∧ Below w.heap.size w wr ∧ Qs wr gx [x.lo, x.lo, x.hi, x.hi] ∧ Qs wr gy [y.lo, y.hi, y.lo, y.hi] ∧ Ibx wr (w.heap.size + 2) false none 0 0 0 false none 0 0 0 ∧ ∃ (m M : Rw) (A : Option Addr) (n c : Nat) (B : Option Addr) (k d : Nat), m = leaL S L ∧ M = greL S L ∧ Box wr W0.heap.size m.s A n c m.e ∧ Rd wr .u64 Go.Proofs.YtdklnpaocaebkaaGreatDoor.W A n c m.l ∧ Box wr (W0.heap.size + 1) M.s B k d M.e ∧ Rd wr .u64 Go.Proofs.YtdklnpaocaebkaaGreatDoor.W B k d M.l)
  case atStart => exact ⟨0, [], by omega, rfl, pre_nil, BB, qx, qy, r, Rw.zero, Rw.zero, none, 0, 0, none, 0, 0, rfl, rfl, xl, hnil _, xg, hnil _⟩
  case round =>
   obtain ⟨i, L, hg, rfl, hpre, BB2, qx2, qy2, r2, m, M, A5, n5, c5, A6, n6, c6, hm, hM, xl2, q5, xg2, q6⟩ := hrel
   clear BB qx qy r xl xg
   have BB := BB2
   clear BB2
   have HG := Lib.hid hg
   have HP := Lib.hid hpre
   have HM := Lib.hid (And.intro hm hM)
   clear hg hpre hm hM
   have hlw : wr.heap.size = wr.heap.size := rfl
   clear hlw
   by_cases hi : i < 4
   ·obtain ⟨A7, n7, c7, ⟨y0, y1, y2⟩, q7⟩ := qx2 i (by simpa using hi)
    obtain ⟨A8, n8, c8, ⟨u0, u1, u2⟩, q8⟩ := qy2 i (by simpa using hi)
    obtain ⟨a, ha⟩ : ∃ a, a = [x.lo, x.lo, x.hi, x.hi].getD i Rw.zero := ⟨_, rfl⟩
    rw [← ha] at y0 y2 q7
    obtain ⟨b, hb⟩ : ∃ b, b = [y.lo, y.hi, y.lo, y.hi].getD i Rw.zero := ⟨_, rfl⟩
    rw [← hb] at u0 u2 q8
    have HAB := Lib.hid (And.intro ha hb)
    clear ha hb
    have hp2 : (i : Int) < 4 := by omega
    have hp3 : (0 : Int) ≤ i := by omega
    have lgl : Hid (W0.heap.size < wr.heap.size) := Lib.hid xl2.gl
    have lgg : Hid (W0.heap.size + 1 < wr.heap.size) := Lib.hid xg2.gl
    generalize wr = W1 at *
    generalize gk = G1 at *
    obtain ⟨oz, ho⟩ : ∃ o, o = mulO S a b := ⟨_, rfl⟩
    have HO := Lib.hid ho
    have HC : Hid (Cod oz) := Lib.hid (by rw [ho]; exact mulO_cod)
    clear ho
    obtain ⟨z, hz⟩ : ∃ z, z = orw oz := ⟨_, rfl⟩
    obtain ⟨zk, hzk⟩ : ∃ z, z = okc oz := ⟨_, rfl⟩
    have HZ := Lib.hid (And.intro hz hzk)
    clear hz hzk
    go_upto_region 8 with fail
    go_cut [13, 14] (fun v13 v14 wx => ∃ (g : Nat) (A : Option Addr) (n c : Nat), v13 = .pointer (some ⟨g, 0, none⟩) ∧ v14 = .int .i64 zk ∧ W1.heap.size ≤ g ∧ Box wx g z.s A n c z.e ∧ Rd wx .u64 Go.Proofs.YtdklnpaocaebkaaGreatDoor.W A n c z.l ∧ Below W1.heap.size W1 wx)
    case first =>
     have B1 := Below.refl W1.heap.size W1
     clear BB
     have BB := B1
     clear B1
     have b : Below W1.heap.size W1 (World.drew W1) := below_drewN (Below.refl _ _) 1
     replace BB := bnx BB b
     have G := mv b rfl (J8 q7 q8 y0 y1 y2 u0 u1 u2)
     clear b q7 q8 y0 y1 y2 u0 u1 u2
     obtain ⟨q7, q8, y0, y1, y2, u0, u1, u2⟩ := G
     refine wp_region_held_drew (S := fun w' => w'.cell? ⟨gx, i * 3, none⟩ = some (.bool a.s) ∧ w'.cell? ⟨gx, i * 3 + 1, none⟩ = some (.slice A7 n7 c7) ∧ w'.cell? ⟨gx, i * 3 + 2, none⟩ = some (.int .i64 a.e) ∧ w'.cell? ⟨gy, i * 3, none⟩ = some (.bool b.s) ∧ w'.cell? ⟨gy, i * 3 + 1, none⟩ = some (.slice A8 n8 c8) ∧ w'.cell? ⟨gy, i * 3 + 2, none⟩ = some (.int .i64 b.e)) (by kernel_rfl) (by exact ⟨y0, y1, y2, u0, u1, u2⟩) (fun hHeldr0 => ?_)
     generalize World.drew W1 = wd at *
     refine tl 0 ?_
     refine tl 1 ?_
     refine tl 2 ?_
     refine tl 3 ?_
     refine tl 4 ?_
     refine tl 5 ?_
     refine tl 6 ?_
     refine tl 7 ?_
     refine wpAnyH_ready (rs := [8, 12]) (by kernel_rfl) (by simp) ?_
     refine AllReadyH.cons (o := _) rfl (fun K hK => ?_) (AllReadyH.cons (o := _) rfl (fun K hK => ?_) (AllReadyH.nil))
     ·go_simp
      refine (show Calls _ _ _ _ (TellQ oz _) from by rw [HO.out]; exact rmul_tell S q7 q8).mono ?_
      rintro en u_1 ⟨A9, n9, c9, hen, h9, b⟩
      rw [← HZ.out.1, ← HZ.out.2] at hen
      rw [← HZ.out.1] at h9
      subst hen
      clear q7 q8
      replace BB := bnx BB b
      have G := mv b rfl (J6 y0 y1 y2 u0 u1 u2)
      clear b y0 y1 y2 u0 u1 u2
      obtain ⟨y0, y1, y2, u0, u1, u2⟩ := G
      refine hK.out _ _ (by exact ⟨y0, y1, y2, u0, u1, u2⟩) (fun hHeldr1 => ?_)
      clear hK K hHeldr0
      try simp only [Act.put]
      refine tl 9 ?_
      refine tl 10 ?_
      refine tl 11 ?_
      refine rdy 12 fun K hK => ?_
      go_simp
      have gl9 : W1.heap.size ≤ u_1.heap.size := BB.size
      have gx9 : gx < u_1.heap.size := World.block_lt_of_cell? _ _ y0
      have gy9 : gy < u_1.heap.size := World.block_lt_of_cell? _ _ u0
      have p9 := Box.new u_1 false none 0 0 0
      have b := below_alloc u_1 (.cells #[.bool false, .slice none 0 0, .int .i64 0] 24)
      replace BB := bnx BB b
      have G := mv b rfl (J7 y0 y1 y2 u0 u1 u2 h9)
      clear b y0 y1 y2 u0 u1 u2 h9
      obtain ⟨y0, y1, y2, u0, u1, u2, h9⟩ := G
      generalize u_1.alloc (.cells #[.bool false, .slice none 0 0, .int .i64 0] 24) = u_2 at *
      generalize u_1.heap.size = g9 at *
      refine hK.out _ _ (by exact ⟨y0, y1, y2, u0, u1, u2⟩) (fun hHeldr2 => ?_)
      clear hK K hHeldr1
      try simp only [Act.put]
      refine rdy 13 fun K hK => ?_
      obtain ⟨f0, f1, f2⟩ := p9.open
      obtain ⟨z0, z1, z2⟩ := p9.held
      go_simp
      replace y0 := cell_oth3 (g := g9) y0 (by omega) (.bool z.s) (.slice A9 n9 c9) (.int .i64 z.e)
      replace y1 := cell_oth3 (g := g9) y1 (by omega) (.bool z.s) (.slice A9 n9 c9) (.int .i64 z.e)
      replace y2 := cell_oth3 (g := g9) y2 (by omega) (.bool z.s) (.slice A9 n9 c9) (.int .i64 z.e)
      replace u0 := cell_oth3 (g := g9) u0 (by omega) (.bool z.s) (.slice A9 n9 c9) (.int .i64 z.e)
      replace u1 := cell_oth3 (g := g9) u1 (by omega) (.bool z.s) (.slice A9 n9 c9) (.int .i64 z.e)
      replace u2 := cell_oth3 (g := g9) u2 (by omega) (.bool z.s) (.slice A9 n9 c9) (.int .i64 z.e)
      replace h9 := h9.put3 p9 (.bool z.s) (.slice A9 n9 c9) (.int .i64 z.e)
      replace BB := below_put3 (g := g9) BB gl9 (.bool z.s) (.slice A9 n9 c9) (.int .i64 z.e)
      replace p9 := p9.put z.s A9 n9 c9 z.e
      clear f0 f1 f2 z0 z1 z2
      generalize ((u_2.setCell ⟨g9, 0, none⟩ (.bool z.s)).setCell ⟨g9, 1, none⟩ (.slice A9 n9 c9)).setCell ⟨g9, 2, none⟩ (.int .i64 z.e) = u_3 at *
      refine hK.out _ _ (by exact ⟨y0, y1, y2, u0, u1, u2⟩) (fun hHeldr3 => ?_)
      clear hK K hHeldr2
      try simp only [Act.put]
      refine tl 14 ?_
      refine wpAnyH_done (by kernel_rfl) ?_ _
      go_wp2_with fail
      go_meet
      case rel => exact ⟨g9, A9, n9, c9, rfl, rfl, gl9, p9, h9, BB⟩
     ·go_simp
      have gl9 : W1.heap.size ≤ wd.heap.size := BB.size
      have gx9 : gx < wd.heap.size := World.block_lt_of_cell? _ _ y0
      have gy9 : gy < wd.heap.size := World.block_lt_of_cell? _ _ u0
      have p9 := Box.new wd false none 0 0 0
      have b := below_alloc wd (.cells #[.bool false, .slice none 0 0, .int .i64 0] 24)
      replace BB := bnx BB b
      have G := mv b rfl (J8 q7 q8 y0 y1 y2 u0 u1 u2)
      clear b q7 q8 y0 y1 y2 u0 u1 u2
      obtain ⟨q7, q8, y0, y1, y2, u0, u1, u2⟩ := G
      generalize wd.alloc (.cells #[.bool false, .slice none 0 0, .int .i64 0] 24) = u_1 at *
      generalize wd.heap.size = g9 at *
      refine hK.out _ _ (by exact ⟨y0, y1, y2, u0, u1, u2⟩) (fun hHeldr1 => ?_)
      clear hK K hHeldr0
      try simp only [Act.put]
      refine rdy 8 fun K hK => ?_
      go_simp
      refine (show Calls _ _ _ _ (TellQ oz _) from by rw [HO.out]; exact rmul_tell S q7 q8).mono ?_
      rintro en u_2 ⟨A9, n9, c9, hen, h9, b⟩
      rw [← HZ.out.1, ← HZ.out.2] at hen
      rw [← HZ.out.1] at h9
      subst hen
      clear q7 q8
      replace BB := bnx BB b
      have G := mv b rfl (J7 y0 y1 y2 u0 u1 u2 p9)
      clear b y0 y1 y2 u0 u1 u2 p9
      obtain ⟨y0, y1, y2, u0, u1, u2, p9⟩ := G
      refine hK.out _ _ (by exact ⟨y0, y1, y2, u0, u1, u2⟩) (fun hHeldr2 => ?_)
      clear hK K hHeldr1
      try simp only [Act.put]
      refine tl 9 ?_
      refine tl 10 ?_
      refine tl 11 ?_
      refine rdy 13 fun K hK => ?_
      obtain ⟨f0, f1, f2⟩ := p9.open
      obtain ⟨z0, z1, z2⟩ := p9.held
      go_simp
      replace y0 := cell_oth3 (g := g9) y0 (by omega) (.bool z.s) (.slice A9 n9 c9) (.int .i64 z.e)
      replace y1 := cell_oth3 (g := g9) y1 (by omega) (.bool z.s) (.slice A9 n9 c9) (.int .i64 z.e)
      replace y2 := cell_oth3 (g := g9) y2 (by omega) (.bool z.s) (.slice A9 n9 c9) (.int .i64 z.e)
      replace u0 := cell_oth3 (g := g9) u0 (by omega) (.bool z.s) (.slice A9 n9 c9) (.int .i64 z.e)
      replace u1 := cell_oth3 (g := g9) u1 (by omega) (.bool z.s) (.slice A9 n9 c9) (.int .i64 z.e)
      replace u2 := cell_oth3 (g := g9) u2 (by omega) (.bool z.s) (.slice A9 n9 c9) (.int .i64 z.e)
      replace h9 := h9.put3 p9 (.bool z.s) (.slice A9 n9 c9) (.int .i64 z.e)
      replace BB := below_put3 (g := g9) BB gl9 (.bool z.s) (.slice A9 n9 c9) (.int .i64 z.e)
      replace p9 := p9.put z.s A9 n9 c9 z.e
      clear f0 f1 f2 z0 z1 z2
      generalize ((u_2.setCell ⟨g9, 0, none⟩ (.bool z.s)).setCell ⟨g9, 1, none⟩ (.slice A9 n9 c9)).setCell ⟨g9, 2, none⟩ (.int .i64 z.e) = u_3 at *
      refine hK.out _ _ (by exact ⟨y0, y1, y2, u0, u1, u2⟩) (fun hHeldr3 => ?_)
      clear hK K hHeldr2
      try simp only [Act.put]
      refine tl 14 ?_
      refine wpAnyH_done (by kernel_rfl) ?_ _
      go_wp2_with fail
      go_meet
      case rel => exact ⟨g9, A9, n9, c9, rfl, rfl, gl9, p9, h9, BB⟩
    case rest =>
     obtain ⟨g9, A9, n9, c9, rfl, rfl, gl9, p9, h9, b⟩ := hcut
     generalize wc = W2 at *
     clear q7 q8 y0 y1 y2 u0 u1 u2
     replace BB := bnx BB b
     have G := mv b rfl (J7 qx2 qy2 r2 xl2 q5 xg2 q6)
     clear b qx2 qy2 r2 xl2 q5 xg2 q6
     obtain ⟨qx2, qy2, r2, xl2, q5, xg2, q6⟩ := G
     by_cases hz : zk = 0
     rotate_left
     ·have HKK := Lib.hid hz
      have g1 : (zk != 0) = true := by simp; exact hz
      have g2 : (zk == 0) = false := by simp; exact hz
      clear hz
      have HE := Lib.hid (show mulO S a b = .error zk from by rw [← HO.out, HZ.out.2]; exact okc_err (by rw [← HZ.out.2]; exact HKK.out))
      have HL := Lib.hid (show q = .error zk from HF.out.trans (by unfold mulI; rw [pre_stop HP.out hi HAB.out.1 HAB.out.2 HE.out]; rfl))
      have r := r2
      obtain ⟨f0, f1, f2, f3, f4, f5⟩ := r.open
      obtain ⟨z0, z1, z2, z3, z4, z5⟩ := r.held
      go_wp2
      have qq := r.put false none 0 0 0 false none 0 0 0
      have HB3 := below_put6 (g := w.heap.size + 2) BB (by omega) (.bool false) (.slice none 0 0) (.int .i64 0) (.bool false) (.slice none 0 0) (.int .i64 0)
      obtain ⟨z0, z1, z2, z3, z4, z5⟩ := qq.held
      first | rw [Exit.noGoto_ret] | skip
      exact bodyPost_ret (v := .tuple #[.agg #[.bool false, .slice none 0 0, .int .i64 0, .bool false, .slice none 0 0, .int .i64 0], .int .i64 zk]) (by simp [results, Tryz.results11, go_sem, z0, z1, z2, z3, z4, z5]) rfl (by rw [HL.out]; exact ⟨none, 0, 0, none, 0, 0, rfl, Rd.nil _ _ _ _ (by omega), Rd.nil _ _ _ _ (by omega), HB3⟩)
     subst hz
     have HE := Lib.hid (show mulO S a b = .ok z from by rw [← HO.out, HZ.out.1]; exact okc_ok HC.out HZ.out.2.symm)
     have HPN := Lib.hid (pre_step HP.out hi HAB.out.1 HAB.out.2 HE.out)
     clear HO HC HZ HE
     go_upto_if 68 with fail
     go_cut [12] (fun v12 wx => ∃ (m' M' : Rw) (A : Option Addr) (n c : Nat) (B : Option Addr) (k d : Nat), v12 = .int .i64 i ∧ leastQ S.K m' z = leaL S (L ++ [z]) ∧ greatQ S.K M' z = greL S (L ++ [z]) ∧ Box wx W0.heap.size m'.s A n c m'.e ∧ Rd wx .u64 Go.Proofs.YtdklnpaocaebkaaGreatDoor.W A n c m'.l ∧ Box wx (W0.heap.size + 1) M'.s B k d M'.e ∧ Rd wx .u64 Go.Proofs.YtdklnpaocaebkaaGreatDoor.W B k d M'.l ∧ Box wx g9 z.s A9 n9 c9 z.e ∧ Rd wx .u64 Go.Proofs.YtdklnpaocaebkaaGreatDoor.W A9 n9 c9 z.l ∧ Qs wx gx [x.lo, x.lo, x.hi, x.hi] ∧ Qs wx gy [y.lo, y.hi, y.lo, y.hi] ∧ Ibx wx (w.heap.size + 2) false none 0 0 0 false none 0 0 0 ∧ Below w.heap.size w wx)
     case first =>
      obtain ⟨p0, p1, p2⟩ := p9.held
      by_cases hi0 : i = 0
      rotate_left
      ·have d1 : ((i : Int) == 0) = false := by simp; exact hi0
       have hL : L ≠ [] := by intro h; have := HP.out.1; rw [h] at this; exact hi0 this.symm
       have HS := Lib.hid (lea_snoc S (z := z) hL)
       clear hL
       go_wp2_with fail
       go_meet
       case rel => exact ⟨m, M, A5, n5, c5, A6, n6, c6, rfl, by rw [HS.out.1, ← HM.out.1], by rw [HS.out.2, ← HM.out.2], xl2, q5, xg2, q6, p9, h9, qx2, qy2, r2, BB⟩
      subst hi0
      have hL : L = [] := List.eq_nil_of_length_eq_zero HP.out.1
      have HS := Lib.hid (show leastQ S.K z z = leaL S (L ++ [z]) ∧ greatQ S.K z z = greL S (L ++ [z]) from by rw [hL, (lea_self S.K z).1, (lea_self S.K z).2]; exact ⟨rfl, rfl⟩)
      clear hL
      go_upto_region 12 with fail
      have b : Below W2.heap.size W2 (World.drew W2) := below_drewN (Below.refl _ _) 1
      replace BB := bnx BB b
      have G := mv b rfl (J12 qx2 qy2 r2 xl2 q5 xg2 q6 p9 h9 p0 p1 p2)
      clear b qx2 qy2 r2 xl2 q5 xg2 q6 p9 h9 p0 p1 p2
      obtain ⟨qx2, qy2, r2, xl2, q5, xg2, q6, p9, h9, p0, p1, p2⟩ := G
      refine wp_region_held_drew (S := fun w' => w'.cell? ⟨g9, 0, none⟩ = some (.bool z.s) ∧ w'.cell? ⟨g9, 1, none⟩ = some (.slice A9 n9 c9) ∧ w'.cell? ⟨g9, 2, none⟩ = some (.int .i64 z.e)) (by kernel_rfl) (by exact ⟨p0, p1, p2⟩) (fun hHelds0 => ?_)
      generalize World.drew W2 = wd at *
      refine tl 0 ?_
      refine tl 1 ?_
      refine rdy 2 fun K hK => ?_
      obtain ⟨f0, f1, f2⟩ := xl2.open
      obtain ⟨z0, z1, z2⟩ := xl2.held
      go_simp
      have hz9 : W0.heap.size ≠ g9 ∧ gx ≠ W0.heap.size ∧ gy ≠ W0.heap.size ∧ w.heap.size + 2 ≠ W0.heap.size := by have := lgl.out; have := lgg.out; have := lr_.out; have := lgxy.out; exact ⟨by omega, by omega, by omega, by omega⟩
      replace qx2 := Qs.put3 qx2 xl2 hz9.2.1 (.bool z.s) (.slice A9 n9 c9) (.int .i64 z.e)
      replace qy2 := Qs.put3 qy2 xl2 hz9.2.2.1 (.bool z.s) (.slice A9 n9 c9) (.int .i64 z.e)
      replace r2 := Ibx.oth3 (g := W0.heap.size) r2 hz9.2.2.2 (.bool z.s) (.slice A9 n9 c9) (.int .i64 z.e)
      replace q5 := q5.put3 xl2 (.bool z.s) (.slice A9 n9 c9) (.int .i64 z.e)
      replace xg2 := Box.oth3 (g := W0.heap.size) xg2 (by omega) (.bool z.s) (.slice A9 n9 c9) (.int .i64 z.e)
      replace q6 := q6.put3 xl2 (.bool z.s) (.slice A9 n9 c9) (.int .i64 z.e)
      replace p9 := Box.oth3 (g := W0.heap.size) p9 hz9.1.symm (.bool z.s) (.slice A9 n9 c9) (.int .i64 z.e)
      replace h9 := h9.put3 xl2 (.bool z.s) (.slice A9 n9 c9) (.int .i64 z.e)
      replace p0 := cell_oth3 (g := W0.heap.size) p0 hz9.1.symm (.bool z.s) (.slice A9 n9 c9) (.int .i64 z.e)
      replace p1 := cell_oth3 (g := W0.heap.size) p1 hz9.1.symm (.bool z.s) (.slice A9 n9 c9) (.int .i64 z.e)
      replace p2 := cell_oth3 (g := W0.heap.size) p2 hz9.1.symm (.bool z.s) (.slice A9 n9 c9) (.int .i64 z.e)
      replace BB := below_put3 (g := W0.heap.size) BB (by have := lgw.out; omega) (.bool z.s) (.slice A9 n9 c9) (.int .i64 z.e)
      replace xl2 := xl2.put z.s A9 n9 c9 z.e
      clear f0 f1 f2 z0 z1 z2 hz9
      generalize ((wd.setCell ⟨W0.heap.size, 0, none⟩ (.bool z.s)).setCell ⟨W0.heap.size, 1, none⟩ (.slice A9 n9 c9)).setCell ⟨W0.heap.size, 2, none⟩ (.int .i64 z.e) = t_1 at *
      refine hK.out _ _ (by exact ⟨p0, p1, p2⟩) (fun hHelds1 => ?_)
      clear hK K hHelds0
      try simp only [Act.put]
      refine rdy 3 fun K hK => ?_
      obtain ⟨f0, f1, f2⟩ := xg2.open
      obtain ⟨z0, z1, z2⟩ := xg2.held
      go_simp
      have hz9 : W0.heap.size + 1 ≠ g9 ∧ gx ≠ W0.heap.size + 1 ∧ gy ≠ W0.heap.size + 1 ∧ w.heap.size + 2 ≠ W0.heap.size + 1 := by have := lgl.out; have := lgg.out; have := lr_.out; have := lgxy.out; exact ⟨by omega, by omega, by omega, by omega⟩
      replace qx2 := Qs.put3 qx2 xg2 hz9.2.1 (.bool z.s) (.slice A9 n9 c9) (.int .i64 z.e)
      replace qy2 := Qs.put3 qy2 xg2 hz9.2.2.1 (.bool z.s) (.slice A9 n9 c9) (.int .i64 z.e)
      replace r2 := Ibx.oth3 (g := W0.heap.size + 1) r2 hz9.2.2.2 (.bool z.s) (.slice A9 n9 c9) (.int .i64 z.e)
      replace xl2 := Box.oth3 (g := W0.heap.size + 1) xl2 (by omega) (.bool z.s) (.slice A9 n9 c9) (.int .i64 z.e)
      replace q5 := q5.put3 xg2 (.bool z.s) (.slice A9 n9 c9) (.int .i64 z.e)
      replace q6 := q6.put3 xg2 (.bool z.s) (.slice A9 n9 c9) (.int .i64 z.e)
      replace p9 := Box.oth3 (g := W0.heap.size + 1) p9 hz9.1.symm (.bool z.s) (.slice A9 n9 c9) (.int .i64 z.e)
      replace h9 := h9.put3 xg2 (.bool z.s) (.slice A9 n9 c9) (.int .i64 z.e)
      replace p0 := cell_oth3 (g := W0.heap.size + 1) p0 hz9.1.symm (.bool z.s) (.slice A9 n9 c9) (.int .i64 z.e)
      replace p1 := cell_oth3 (g := W0.heap.size + 1) p1 hz9.1.symm (.bool z.s) (.slice A9 n9 c9) (.int .i64 z.e)
      replace p2 := cell_oth3 (g := W0.heap.size + 1) p2 hz9.1.symm (.bool z.s) (.slice A9 n9 c9) (.int .i64 z.e)
      replace BB := below_put3 (g := W0.heap.size + 1) BB (by have := lgw.out; omega) (.bool z.s) (.slice A9 n9 c9) (.int .i64 z.e)
      replace xg2 := xg2.put z.s A9 n9 c9 z.e
      clear f0 f1 f2 z0 z1 z2 hz9
      generalize ((t_1.setCell ⟨W0.heap.size + 1, 0, none⟩ (.bool z.s)).setCell ⟨W0.heap.size + 1, 1, none⟩ (.slice A9 n9 c9)).setCell ⟨W0.heap.size + 1, 2, none⟩ (.int .i64 z.e) = t_2 at *
      refine hK.out _ _ (by exact ⟨p0, p1, p2⟩) (fun hHelds2 => ?_)
      clear hK K hHelds1
      try simp only [Act.put]
      refine wpAnyH_done (by kernel_rfl) ?_ _
      go_wp2_with fail
      go_meet
      case rel => exact ⟨z, z, A9, n9, c9, A9, n9, c9, rfl, HS.out.1, HS.out.2, xl2, h9, xg2, h9, p9, h9, qx2, qy2, r2, BB⟩
     case rest =>
      clear xl2 q5 xg2 q6 p9 h9 qx2 qy2 r2 BB
      obtain ⟨m', M', A5', n5', c5', A6', n6', c6', rfl, e1, e2, xl2, q5, xg2, q6, p9, h9, qx2, qy2, r2, BB⟩ := hcut
      have HE := Lib.hid (And.intro e1 e2)
      clear e1 e2 HM
      obtain ⟨p0, p1, p2⟩ := p9.held
      obtain ⟨k0, k1, k2⟩ := xl2.held
      obtain ⟨s0, s1, s2⟩ := xg2.held
      go_upto_region 13 with fail
      have b : Below wc.heap.size wc (World.drew wc) := below_drewN (Below.refl _ _) 1
      replace BB := bnx BB b
      have G := mv b rfl (J18 xl2 q5 xg2 q6 p9 h9 qx2 qy2 r2 p0 p1 p2 k0 k1 k2 s0 s1 s2)
      clear b xl2 q5 xg2 q6 p9 h9 qx2 qy2 r2 p0 p1 p2 k0 k1 k2 s0 s1 s2
      obtain ⟨xl2, q5, xg2, q6, p9, h9, qx2, qy2, r2, p0, p1, p2, k0, k1, k2, s0, s1, s2⟩ := G
      obtain ⟨ql, hql⟩ : ∃ l, l = leaL S (L ++ [z]) := ⟨_, rfl⟩
      obtain ⟨qg, hqg⟩ : ∃ l, l = greL S (L ++ [z]) := ⟨_, rfl⟩
      have HQ9 := Lib.hid (And.intro hql hqg)
      clear hql hqg
      refine wp_region_held_drew (S := fun w' => w'.cell? ⟨g9, 0, none⟩ = some (.bool z.s) ∧ w'.cell? ⟨g9, 1, none⟩ = some (.slice A9 n9 c9) ∧ w'.cell? ⟨g9, 2, none⟩ = some (.int .i64 z.e)) (by kernel_rfl) (by exact ⟨p0, p1, p2⟩) (fun hHeldk0 => ?_)
      generalize World.drew wc = wd at *
      refine tl 1 ?_
      refine tl 4 ?_
      refine wpAnyH_ready (rs := [0, 3]) (by kernel_rfl) (by simp) ?_
      refine AllReadyH.cons (o := _) rfl (fun K hK => ?_) (AllReadyH.cons (o := _) rfl (fun K hK => ?_) (AllReadyH.nil))
      ·go_simp
       refine hK.out _ _ (by exact ⟨p0, p1, p2⟩) (fun hHeldk1 => ?_)
       clear hK K hHeldk0
       try simp only [Act.put]
       refine wpAnyH_ready (rs := [2, 3]) (by kernel_rfl) (by simp) ?_
       refine AllReadyH.cons (o := _) rfl (fun K hK => ?_) (AllReadyH.cons (o := _) rfl (fun K hK => ?_) (AllReadyH.nil))
       ·go_simp
        refine (show Calls _ _ _ _ (GivQ ql _) from by rw [HQ9.out.1, ← HE.out.1]; exact rleast_any (K := S.K) S.big q5 h9).mono ?_
        rintro en x_2 ⟨A10, n10, c10, rfl, h10, b⟩
        replace BB := bnx BB b
        have G := mv b rfl (J18 xl2 q5 xg2 q6 p9 h9 qx2 qy2 r2 p0 p1 p2 k0 k1 k2 s0 s1 s2)
        clear b xl2 q5 xg2 q6 p9 h9 qx2 qy2 r2 p0 p1 p2 k0 k1 k2 s0 s1 s2
        obtain ⟨xl2, q5, xg2, q6, p9, h9, qx2, qy2, r2, p0, p1, p2, k0, k1, k2, s0, s1, s2⟩ := G
        refine hK.out _ _ (by exact ⟨p0, p1, p2⟩) (fun hHeldk2 => ?_)
        clear hK K hHeldk1
        try simp only [Act.put]
        refine rdy 3 fun K hK => ?_
        go_simp
        refine hK.out _ _ (by exact ⟨p0, p1, p2⟩) (fun hHeldk3 => ?_)
        clear hK K hHeldk2
        try simp only [Act.put]
        refine rdy 5 fun K hK => ?_
        go_simp
        refine (show Calls _ _ _ _ (GivQ qg _) from by rw [HQ9.out.2, ← HE.out.2]; exact rgreatest_any (K := S.K) S.big q6 h9).mono ?_
        rintro en x_4 ⟨A11, n11, c11, rfl, h11, b⟩
        replace BB := bnx BB b
        have G := mv b rfl (J19 xl2 q5 xg2 q6 p9 h9 qx2 qy2 r2 p0 p1 p2 k0 k1 k2 s0 s1 s2 h10)
        clear b xl2 q5 xg2 q6 p9 h9 qx2 qy2 r2 p0 p1 p2 k0 k1 k2 s0 s1 s2 h10
        obtain ⟨xl2, q5, xg2, q6, p9, h9, qx2, qy2, r2, p0, p1, p2, k0, k1, k2, s0, s1, s2, h10⟩ := G
        refine hK.out _ _ (by exact ⟨p0, p1, p2⟩) (fun hHeldk4 => ?_)
        clear hK K hHeldk3
        try simp only [Act.put]
        refine rdy 6 fun K hK => ?_
        obtain ⟨f0, f1, f2⟩ := xl2.open
        obtain ⟨z0, z1, z2⟩ := xl2.held
        clear k0 k1 k2 s0 s1 s2
        go_simp
        have hz9 : W0.heap.size ≠ g9 ∧ gx ≠ W0.heap.size ∧ gy ≠ W0.heap.size ∧ w.heap.size + 2 ≠ W0.heap.size := by have := lgl.out; have := lgg.out; have := lr_.out; have := lgxy.out; exact ⟨by omega, by omega, by omega, by omega⟩
        replace q5 := q5.put3 xl2 (.bool ql.s) (.slice A10 n10 c10) (.int .i64 ql.e)
        replace xg2 := Box.oth3 (g := W0.heap.size) xg2 (by omega) (.bool ql.s) (.slice A10 n10 c10) (.int .i64 ql.e)
        replace q6 := q6.put3 xl2 (.bool ql.s) (.slice A10 n10 c10) (.int .i64 ql.e)
        replace p9 := Box.oth3 (g := W0.heap.size) p9 hz9.1.symm (.bool ql.s) (.slice A10 n10 c10) (.int .i64 ql.e)
        replace h9 := h9.put3 xl2 (.bool ql.s) (.slice A10 n10 c10) (.int .i64 ql.e)
        replace qx2 := Qs.put3 qx2 xl2 hz9.2.1 (.bool ql.s) (.slice A10 n10 c10) (.int .i64 ql.e)
        replace qy2 := Qs.put3 qy2 xl2 hz9.2.2.1 (.bool ql.s) (.slice A10 n10 c10) (.int .i64 ql.e)
        replace r2 := Ibx.oth3 (g := W0.heap.size) r2 hz9.2.2.2 (.bool ql.s) (.slice A10 n10 c10) (.int .i64 ql.e)
        replace p0 := cell_oth3 (g := W0.heap.size) p0 hz9.1.symm (.bool ql.s) (.slice A10 n10 c10) (.int .i64 ql.e)
        replace p1 := cell_oth3 (g := W0.heap.size) p1 hz9.1.symm (.bool ql.s) (.slice A10 n10 c10) (.int .i64 ql.e)
        replace p2 := cell_oth3 (g := W0.heap.size) p2 hz9.1.symm (.bool ql.s) (.slice A10 n10 c10) (.int .i64 ql.e)
        replace h10 := h10.put3 xl2 (.bool ql.s) (.slice A10 n10 c10) (.int .i64 ql.e)
        replace h11 := h11.put3 xl2 (.bool ql.s) (.slice A10 n10 c10) (.int .i64 ql.e)
        replace BB := below_put3 (g := W0.heap.size) BB (by have := lgw.out; omega) (.bool ql.s) (.slice A10 n10 c10) (.int .i64 ql.e)
        replace xl2 := xl2.put ql.s A10 n10 c10 ql.e
        clear f0 f1 f2 z0 z1 z2 hz9
        generalize ((x_4.setCell ⟨W0.heap.size, 0, none⟩ (.bool ql.s)).setCell ⟨W0.heap.size, 1, none⟩ (.slice A10 n10 c10)).setCell ⟨W0.heap.size, 2, none⟩ (.int .i64 ql.e) = x_5 at *
        refine hK.out _ _ (by exact ⟨p0, p1, p2⟩) (fun hHeldk5 => ?_)
        clear hK K hHeldk4
        try simp only [Act.put]
        refine rdy 7 fun K hK => ?_
        obtain ⟨f0, f1, f2⟩ := xg2.open
        obtain ⟨z0, z1, z2⟩ := xg2.held
        skip
        go_simp
        have hz9 : W0.heap.size + 1 ≠ g9 ∧ gx ≠ W0.heap.size + 1 ∧ gy ≠ W0.heap.size + 1 ∧ w.heap.size + 2 ≠ W0.heap.size + 1 := by have := lgl.out; have := lgg.out; have := lr_.out; have := lgxy.out; exact ⟨by omega, by omega, by omega, by omega⟩
        replace xl2 := Box.oth3 (g := W0.heap.size + 1) xl2 (by omega) (.bool qg.s) (.slice A11 n11 c11) (.int .i64 qg.e)
        replace q5 := q5.put3 xg2 (.bool qg.s) (.slice A11 n11 c11) (.int .i64 qg.e)
        replace q6 := q6.put3 xg2 (.bool qg.s) (.slice A11 n11 c11) (.int .i64 qg.e)
        replace p9 := Box.oth3 (g := W0.heap.size + 1) p9 hz9.1.symm (.bool qg.s) (.slice A11 n11 c11) (.int .i64 qg.e)
        replace h9 := h9.put3 xg2 (.bool qg.s) (.slice A11 n11 c11) (.int .i64 qg.e)
        replace qx2 := Qs.put3 qx2 xg2 hz9.2.1 (.bool qg.s) (.slice A11 n11 c11) (.int .i64 qg.e)
        replace qy2 := Qs.put3 qy2 xg2 hz9.2.2.1 (.bool qg.s) (.slice A11 n11 c11) (.int .i64 qg.e)
        replace r2 := Ibx.oth3 (g := W0.heap.size + 1) r2 hz9.2.2.2 (.bool qg.s) (.slice A11 n11 c11) (.int .i64 qg.e)
        replace p0 := cell_oth3 (g := W0.heap.size + 1) p0 hz9.1.symm (.bool qg.s) (.slice A11 n11 c11) (.int .i64 qg.e)
        replace p1 := cell_oth3 (g := W0.heap.size + 1) p1 hz9.1.symm (.bool qg.s) (.slice A11 n11 c11) (.int .i64 qg.e)
        replace p2 := cell_oth3 (g := W0.heap.size + 1) p2 hz9.1.symm (.bool qg.s) (.slice A11 n11 c11) (.int .i64 qg.e)
        replace h10 := h10.put3 xg2 (.bool qg.s) (.slice A11 n11 c11) (.int .i64 qg.e)
        replace h11 := h11.put3 xg2 (.bool qg.s) (.slice A11 n11 c11) (.int .i64 qg.e)
        replace BB := below_put3 (g := W0.heap.size + 1) BB (by have := lgw.out; omega) (.bool qg.s) (.slice A11 n11 c11) (.int .i64 qg.e)
        replace xg2 := xg2.put qg.s A11 n11 c11 qg.e
        clear f0 f1 f2 z0 z1 z2 hz9
        generalize ((x_5.setCell ⟨W0.heap.size + 1, 0, none⟩ (.bool qg.s)).setCell ⟨W0.heap.size + 1, 1, none⟩ (.slice A11 n11 c11)).setCell ⟨W0.heap.size + 1, 2, none⟩ (.int .i64 qg.e) = x_6 at *
        refine hK.out _ _ (by exact ⟨p0, p1, p2⟩) (fun hHeldk6 => ?_)
        clear hK K hHeldk5
        try simp only [Act.put]
        refine wpAnyH_done (by kernel_rfl) ?_ _
        go_wp2
        go_roundg (G1 - 1)
        case measure => have := HG.out; omega
        case rel => exact ⟨i + 1, L ++ [z], by have := HG.out; omega, by go_num, HPN.out, BB, qx2, qy2, r2, ql, qg, A10, n10, c10, A11, n11, c11, HQ9.out.1, HQ9.out.2, xl2, h10, xg2, h11⟩
       ·go_simp
        refine hK.out _ _ (by exact ⟨p0, p1, p2⟩) (fun hHeldk2 => ?_)
        clear hK K hHeldk1
        try simp only [Act.put]
        refine rdy 2 fun K hK => ?_
        go_simp
        refine (show Calls _ _ _ _ (GivQ ql _) from by rw [HQ9.out.1, ← HE.out.1]; exact rleast_any (K := S.K) S.big q5 h9).mono ?_
        rintro en x_3 ⟨A10, n10, c10, rfl, h10, b⟩
        replace BB := bnx BB b
        have G := mv b rfl (J18 xl2 q5 xg2 q6 p9 h9 qx2 qy2 r2 p0 p1 p2 k0 k1 k2 s0 s1 s2)
        clear b xl2 q5 xg2 q6 p9 h9 qx2 qy2 r2 p0 p1 p2 k0 k1 k2 s0 s1 s2
        obtain ⟨xl2, q5, xg2, q6, p9, h9, qx2, qy2, r2, p0, p1, p2, k0, k1, k2, s0, s1, s2⟩ := G
        refine hK.out _ _ (by exact ⟨p0, p1, p2⟩) (fun hHeldk3 => ?_)
        clear hK K hHeldk2
        try simp only [Act.put]
        refine rdy 5 fun K hK => ?_
        go_simp
        refine (show Calls _ _ _ _ (GivQ qg _) from by rw [HQ9.out.2, ← HE.out.2]; exact rgreatest_any (K := S.K) S.big q6 h9).mono ?_
        rintro en x_4 ⟨A11, n11, c11, rfl, h11, b⟩
        replace BB := bnx BB b
        have G := mv b rfl (J19 xl2 q5 xg2 q6 p9 h9 qx2 qy2 r2 p0 p1 p2 k0 k1 k2 s0 s1 s2 h10)
        clear b xl2 q5 xg2 q6 p9 h9 qx2 qy2 r2 p0 p1 p2 k0 k1 k2 s0 s1 s2 h10
        obtain ⟨xl2, q5, xg2, q6, p9, h9, qx2, qy2, r2, p0, p1, p2, k0, k1, k2, s0, s1, s2, h10⟩ := G
        refine hK.out _ _ (by exact ⟨p0, p1, p2⟩) (fun hHeldk4 => ?_)
        clear hK K hHeldk3
        try simp only [Act.put]
        refine rdy 6 fun K hK => ?_
        obtain ⟨f0, f1, f2⟩ := xl2.open
        obtain ⟨z0, z1, z2⟩ := xl2.held
        clear k0 k1 k2 s0 s1 s2
        go_simp
        have hz9 : W0.heap.size ≠ g9 ∧ gx ≠ W0.heap.size ∧ gy ≠ W0.heap.size ∧ w.heap.size + 2 ≠ W0.heap.size := by have := lgl.out; have := lgg.out; have := lr_.out; have := lgxy.out; exact ⟨by omega, by omega, by omega, by omega⟩
        replace q5 := q5.put3 xl2 (.bool ql.s) (.slice A10 n10 c10) (.int .i64 ql.e)
        replace xg2 := Box.oth3 (g := W0.heap.size) xg2 (by omega) (.bool ql.s) (.slice A10 n10 c10) (.int .i64 ql.e)
        replace q6 := q6.put3 xl2 (.bool ql.s) (.slice A10 n10 c10) (.int .i64 ql.e)
        replace p9 := Box.oth3 (g := W0.heap.size) p9 hz9.1.symm (.bool ql.s) (.slice A10 n10 c10) (.int .i64 ql.e)
        replace h9 := h9.put3 xl2 (.bool ql.s) (.slice A10 n10 c10) (.int .i64 ql.e)
        replace qx2 := Qs.put3 qx2 xl2 hz9.2.1 (.bool ql.s) (.slice A10 n10 c10) (.int .i64 ql.e)
        replace qy2 := Qs.put3 qy2 xl2 hz9.2.2.1 (.bool ql.s) (.slice A10 n10 c10) (.int .i64 ql.e)
        replace r2 := Ibx.oth3 (g := W0.heap.size) r2 hz9.2.2.2 (.bool ql.s) (.slice A10 n10 c10) (.int .i64 ql.e)
        replace p0 := cell_oth3 (g := W0.heap.size) p0 hz9.1.symm (.bool ql.s) (.slice A10 n10 c10) (.int .i64 ql.e)
        replace p1 := cell_oth3 (g := W0.heap.size) p1 hz9.1.symm (.bool ql.s) (.slice A10 n10 c10) (.int .i64 ql.e)
        replace p2 := cell_oth3 (g := W0.heap.size) p2 hz9.1.symm (.bool ql.s) (.slice A10 n10 c10) (.int .i64 ql.e)
        replace h10 := h10.put3 xl2 (.bool ql.s) (.slice A10 n10 c10) (.int .i64 ql.e)
        replace h11 := h11.put3 xl2 (.bool ql.s) (.slice A10 n10 c10) (.int .i64 ql.e)
        replace BB := below_put3 (g := W0.heap.size) BB (by have := lgw.out; omega) (.bool ql.s) (.slice A10 n10 c10) (.int .i64 ql.e)
        replace xl2 := xl2.put ql.s A10 n10 c10 ql.e
        clear f0 f1 f2 z0 z1 z2 hz9
        generalize ((x_4.setCell ⟨W0.heap.size, 0, none⟩ (.bool ql.s)).setCell ⟨W0.heap.size, 1, none⟩ (.slice A10 n10 c10)).setCell ⟨W0.heap.size, 2, none⟩ (.int .i64 ql.e) = x_5 at *
        refine hK.out _ _ (by exact ⟨p0, p1, p2⟩) (fun hHeldk5 => ?_)
        clear hK K hHeldk4
        try simp only [Act.put]
        refine rdy 7 fun K hK => ?_
        obtain ⟨f0, f1, f2⟩ := xg2.open
        obtain ⟨z0, z1, z2⟩ := xg2.held
        skip
        go_simp
        have hz9 : W0.heap.size + 1 ≠ g9 ∧ gx ≠ W0.heap.size + 1 ∧ gy ≠ W0.heap.size + 1 ∧ w.heap.size + 2 ≠ W0.heap.size + 1 := by have := lgl.out; have := lgg.out; have := lr_.out; have := lgxy.out; exact ⟨by omega, by omega, by omega, by omega⟩
        replace xl2 := Box.oth3 (g := W0.heap.size + 1) xl2 (by omega) (.bool qg.s) (.slice A11 n11 c11) (.int .i64 qg.e)
        replace q5 := q5.put3 xg2 (.bool qg.s) (.slice A11 n11 c11) (.int .i64 qg.e)
        replace q6 := q6.put3 xg2 (.bool qg.s) (.slice A11 n11 c11) (.int .i64 qg.e)
        replace p9 := Box.oth3 (g := W0.heap.size + 1) p9 hz9.1.symm (.bool qg.s) (.slice A11 n11 c11) (.int .i64 qg.e)
        replace h9 := h9.put3 xg2 (.bool qg.s) (.slice A11 n11 c11) (.int .i64 qg.e)
        replace qx2 := Qs.put3 qx2 xg2 hz9.2.1 (.bool qg.s) (.slice A11 n11 c11) (.int .i64 qg.e)
        replace qy2 := Qs.put3 qy2 xg2 hz9.2.2.1 (.bool qg.s) (.slice A11 n11 c11) (.int .i64 qg.e)
        replace r2 := Ibx.oth3 (g := W0.heap.size + 1) r2 hz9.2.2.2 (.bool qg.s) (.slice A11 n11 c11) (.int .i64 qg.e)
        replace p0 := cell_oth3 (g := W0.heap.size + 1) p0 hz9.1.symm (.bool qg.s) (.slice A11 n11 c11) (.int .i64 qg.e)
        replace p1 := cell_oth3 (g := W0.heap.size + 1) p1 hz9.1.symm (.bool qg.s) (.slice A11 n11 c11) (.int .i64 qg.e)
        replace p2 := cell_oth3 (g := W0.heap.size + 1) p2 hz9.1.symm (.bool qg.s) (.slice A11 n11 c11) (.int .i64 qg.e)
        replace h10 := h10.put3 xg2 (.bool qg.s) (.slice A11 n11 c11) (.int .i64 qg.e)
        replace h11 := h11.put3 xg2 (.bool qg.s) (.slice A11 n11 c11) (.int .i64 qg.e)
        replace BB := below_put3 (g := W0.heap.size + 1) BB (by have := lgw.out; omega) (.bool qg.s) (.slice A11 n11 c11) (.int .i64 qg.e)
        replace xg2 := xg2.put qg.s A11 n11 c11 qg.e
        clear f0 f1 f2 z0 z1 z2 hz9
        generalize ((x_5.setCell ⟨W0.heap.size + 1, 0, none⟩ (.bool qg.s)).setCell ⟨W0.heap.size + 1, 1, none⟩ (.slice A11 n11 c11)).setCell ⟨W0.heap.size + 1, 2, none⟩ (.int .i64 qg.e) = x_6 at *
        refine hK.out _ _ (by exact ⟨p0, p1, p2⟩) (fun hHeldk6 => ?_)
        clear hK K hHeldk5
        try simp only [Act.put]
        refine wpAnyH_done (by kernel_rfl) ?_ _
        go_wp2
        go_roundg (G1 - 1)
        case measure => have := HG.out; omega
        case rel => exact ⟨i + 1, L ++ [z], by have := HG.out; omega, by go_num, HPN.out, BB, qx2, qy2, r2, ql, qg, A10, n10, c10, A11, n11, c11, HQ9.out.1, HQ9.out.2, xl2, h10, xg2, h11⟩
      ·go_simp
       refine hK.out _ _ (by exact ⟨p0, p1, p2⟩) (fun hHeldk1 => ?_)
       clear hK K hHeldk0
       try simp only [Act.put]
       refine rdy 0 fun K hK => ?_
       go_simp
       refine hK.out _ _ (by exact ⟨p0, p1, p2⟩) (fun hHeldk2 => ?_)
       clear hK K hHeldk1
       try simp only [Act.put]
       refine rdy 2 fun K hK => ?_
       go_simp
       refine (show Calls _ _ _ _ (GivQ ql _) from by rw [HQ9.out.1, ← HE.out.1]; exact rleast_any (K := S.K) S.big q5 h9).mono ?_
       rintro en x_3 ⟨A10, n10, c10, rfl, h10, b⟩
       replace BB := bnx BB b
       have G := mv b rfl (J18 xl2 q5 xg2 q6 p9 h9 qx2 qy2 r2 p0 p1 p2 k0 k1 k2 s0 s1 s2)
       clear b xl2 q5 xg2 q6 p9 h9 qx2 qy2 r2 p0 p1 p2 k0 k1 k2 s0 s1 s2
       obtain ⟨xl2, q5, xg2, q6, p9, h9, qx2, qy2, r2, p0, p1, p2, k0, k1, k2, s0, s1, s2⟩ := G
       refine hK.out _ _ (by exact ⟨p0, p1, p2⟩) (fun hHeldk3 => ?_)
       clear hK K hHeldk2
       try simp only [Act.put]
       refine rdy 5 fun K hK => ?_
       go_simp
       refine (show Calls _ _ _ _ (GivQ qg _) from by rw [HQ9.out.2, ← HE.out.2]; exact rgreatest_any (K := S.K) S.big q6 h9).mono ?_
       rintro en x_4 ⟨A11, n11, c11, rfl, h11, b⟩
       replace BB := bnx BB b
       have G := mv b rfl (J19 xl2 q5 xg2 q6 p9 h9 qx2 qy2 r2 p0 p1 p2 k0 k1 k2 s0 s1 s2 h10)
       clear b xl2 q5 xg2 q6 p9 h9 qx2 qy2 r2 p0 p1 p2 k0 k1 k2 s0 s1 s2 h10
       obtain ⟨xl2, q5, xg2, q6, p9, h9, qx2, qy2, r2, p0, p1, p2, k0, k1, k2, s0, s1, s2, h10⟩ := G
       refine hK.out _ _ (by exact ⟨p0, p1, p2⟩) (fun hHeldk4 => ?_)
       clear hK K hHeldk3
       try simp only [Act.put]
       refine rdy 6 fun K hK => ?_
       obtain ⟨f0, f1, f2⟩ := xl2.open
       obtain ⟨z0, z1, z2⟩ := xl2.held
       clear k0 k1 k2 s0 s1 s2
       go_simp
       have hz9 : W0.heap.size ≠ g9 ∧ gx ≠ W0.heap.size ∧ gy ≠ W0.heap.size ∧ w.heap.size + 2 ≠ W0.heap.size := by have := lgl.out; have := lgg.out; have := lr_.out; have := lgxy.out; exact ⟨by omega, by omega, by omega, by omega⟩
       replace q5 := q5.put3 xl2 (.bool ql.s) (.slice A10 n10 c10) (.int .i64 ql.e)
       replace xg2 := Box.oth3 (g := W0.heap.size) xg2 (by omega) (.bool ql.s) (.slice A10 n10 c10) (.int .i64 ql.e)
       replace q6 := q6.put3 xl2 (.bool ql.s) (.slice A10 n10 c10) (.int .i64 ql.e)
       replace p9 := Box.oth3 (g := W0.heap.size) p9 hz9.1.symm (.bool ql.s) (.slice A10 n10 c10) (.int .i64 ql.e)
       replace h9 := h9.put3 xl2 (.bool ql.s) (.slice A10 n10 c10) (.int .i64 ql.e)
       replace qx2 := Qs.put3 qx2 xl2 hz9.2.1 (.bool ql.s) (.slice A10 n10 c10) (.int .i64 ql.e)
       replace qy2 := Qs.put3 qy2 xl2 hz9.2.2.1 (.bool ql.s) (.slice A10 n10 c10) (.int .i64 ql.e)
       replace r2 := Ibx.oth3 (g := W0.heap.size) r2 hz9.2.2.2 (.bool ql.s) (.slice A10 n10 c10) (.int .i64 ql.e)
       replace p0 := cell_oth3 (g := W0.heap.size) p0 hz9.1.symm (.bool ql.s) (.slice A10 n10 c10) (.int .i64 ql.e)
       replace p1 := cell_oth3 (g := W0.heap.size) p1 hz9.1.symm (.bool ql.s) (.slice A10 n10 c10) (.int .i64 ql.e)
       replace p2 := cell_oth3 (g := W0.heap.size) p2 hz9.1.symm (.bool ql.s) (.slice A10 n10 c10) (.int .i64 ql.e)
       replace h10 := h10.put3 xl2 (.bool ql.s) (.slice A10 n10 c10) (.int .i64 ql.e)
       replace h11 := h11.put3 xl2 (.bool ql.s) (.slice A10 n10 c10) (.int .i64 ql.e)
       replace BB := below_put3 (g := W0.heap.size) BB (by have := lgw.out; omega) (.bool ql.s) (.slice A10 n10 c10) (.int .i64 ql.e)
       replace xl2 := xl2.put ql.s A10 n10 c10 ql.e
       clear f0 f1 f2 z0 z1 z2 hz9
       generalize ((x_4.setCell ⟨W0.heap.size, 0, none⟩ (.bool ql.s)).setCell ⟨W0.heap.size, 1, none⟩ (.slice A10 n10 c10)).setCell ⟨W0.heap.size, 2, none⟩ (.int .i64 ql.e) = x_5 at *
       refine hK.out _ _ (by exact ⟨p0, p1, p2⟩) (fun hHeldk5 => ?_)
       clear hK K hHeldk4
       try simp only [Act.put]
       refine rdy 7 fun K hK => ?_
       obtain ⟨f0, f1, f2⟩ := xg2.open
       obtain ⟨z0, z1, z2⟩ := xg2.held
       skip
       go_simp
       have hz9 : W0.heap.size + 1 ≠ g9 ∧ gx ≠ W0.heap.size + 1 ∧ gy ≠ W0.heap.size + 1 ∧ w.heap.size + 2 ≠ W0.heap.size + 1 := by have := lgl.out; have := lgg.out; have := lr_.out; have := lgxy.out; exact ⟨by omega, by omega, by omega, by omega⟩
       replace xl2 := Box.oth3 (g := W0.heap.size + 1) xl2 (by omega) (.bool qg.s) (.slice A11 n11 c11) (.int .i64 qg.e)
       replace q5 := q5.put3 xg2 (.bool qg.s) (.slice A11 n11 c11) (.int .i64 qg.e)
       replace q6 := q6.put3 xg2 (.bool qg.s) (.slice A11 n11 c11) (.int .i64 qg.e)
       replace p9 := Box.oth3 (g := W0.heap.size + 1) p9 hz9.1.symm (.bool qg.s) (.slice A11 n11 c11) (.int .i64 qg.e)
       replace h9 := h9.put3 xg2 (.bool qg.s) (.slice A11 n11 c11) (.int .i64 qg.e)
       replace qx2 := Qs.put3 qx2 xg2 hz9.2.1 (.bool qg.s) (.slice A11 n11 c11) (.int .i64 qg.e)
       replace qy2 := Qs.put3 qy2 xg2 hz9.2.2.1 (.bool qg.s) (.slice A11 n11 c11) (.int .i64 qg.e)
       replace r2 := Ibx.oth3 (g := W0.heap.size + 1) r2 hz9.2.2.2 (.bool qg.s) (.slice A11 n11 c11) (.int .i64 qg.e)
       replace p0 := cell_oth3 (g := W0.heap.size + 1) p0 hz9.1.symm (.bool qg.s) (.slice A11 n11 c11) (.int .i64 qg.e)
       replace p1 := cell_oth3 (g := W0.heap.size + 1) p1 hz9.1.symm (.bool qg.s) (.slice A11 n11 c11) (.int .i64 qg.e)
       replace p2 := cell_oth3 (g := W0.heap.size + 1) p2 hz9.1.symm (.bool qg.s) (.slice A11 n11 c11) (.int .i64 qg.e)
       replace h10 := h10.put3 xg2 (.bool qg.s) (.slice A11 n11 c11) (.int .i64 qg.e)
       replace h11 := h11.put3 xg2 (.bool qg.s) (.slice A11 n11 c11) (.int .i64 qg.e)
       replace BB := below_put3 (g := W0.heap.size + 1) BB (by have := lgw.out; omega) (.bool qg.s) (.slice A11 n11 c11) (.int .i64 qg.e)
       replace xg2 := xg2.put qg.s A11 n11 c11 qg.e
       clear f0 f1 f2 z0 z1 z2 hz9
       generalize ((x_5.setCell ⟨W0.heap.size + 1, 0, none⟩ (.bool qg.s)).setCell ⟨W0.heap.size + 1, 1, none⟩ (.slice A11 n11 c11)).setCell ⟨W0.heap.size + 1, 2, none⟩ (.int .i64 qg.e) = x_6 at *
       refine hK.out _ _ (by exact ⟨p0, p1, p2⟩) (fun hHeldk6 => ?_)
       clear hK K hHeldk5
       try simp only [Act.put]
       refine wpAnyH_done (by kernel_rfl) ?_ _
       go_wp2
       go_roundg (G1 - 1)
       case measure => have := HG.out; omega
       case rel => exact ⟨i + 1, L ++ [z], by have := HG.out; omega, by go_num, HPN.out, BB, qx2, qy2, r2, ql, qg, A10, n10, c10, A11, n11, c11, HQ9.out.1, HQ9.out.2, xl2, h10, xg2, h11⟩
   ·have hi4 : i = 4 := by have := HG.out; omega
    subst hi4
    have HD := Lib.hid (pre_done (HP.out : Pre (mulO S) x y (2 * 2) L))
    clear qx2 qy2
    obtain ⟨k0, k1, k2⟩ := xl2.held
    obtain ⟨s0, s1, s2⟩ := xg2.held
    go_wp2_with fail
    refine (tello_to (HF.out.trans (by unfold mulI; rw [HD.out]; show outO S (leaL S L) (greL S L) p = outO S m M p; rw [← HM.out.1, ← HM.out.2])) (rends_any S q5 q6)).mono ?_
    rintro en x9 ⟨A7, n7, c7, A8, n8, c8, rfl, h7, h8, b⟩
    replace BB := bnx BB b
    have G := mv b rfl (J11 r2 xl2 q5 xg2 q6 k0 k1 k2 s0 s1 s2)
    clear b r2 xl2 q5 xg2 q6 k0 k1 k2 s0 s1 s2
    obtain ⟨r2, xl2, q5, xg2, q6, k0, k1, k2, s0, s1, s2⟩ := G
    have r := r2
    obtain ⟨f0, f1, f2, f3, f4, f5⟩ := r.open
    obtain ⟨z0, z1, z2, z3, z4, z5⟩ := r.held
    go_wp2
    have qq := r.put (oiv q).lo.s A7 n7 c7 (oiv q).lo.e (oiv q).hi.s A8 n8 c8 (oiv q).hi.e
    have hN := h7.put6 r (.bool (oiv q).lo.s) (.slice A7 n7 c7) (.int .i64 (oiv q).lo.e) (.bool (oiv q).hi.s) (.slice A8 n8 c8) (.int .i64 (oiv q).hi.e)
    have hM := h8.put6 r (.bool (oiv q).lo.s) (.slice A7 n7 c7) (.int .i64 (oiv q).lo.e) (.bool (oiv q).hi.s) (.slice A8 n8 c8) (.int .i64 (oiv q).hi.e)
    have HB3 := below_put6 (g := w.heap.size + 2) BB (by omega) (.bool (oiv q).lo.s) (.slice A7 n7 c7) (.int .i64 (oiv q).lo.e) (.bool (oiv q).hi.s) (.slice A8 n8 c8) (.int .i64 (oiv q).hi.e)
    obtain ⟨z0, z1, z2, z3, z4, z5⟩ := qq.held
    exact bodyPost_ret (v := .tuple #[.agg #[.bool (oiv q).lo.s, .slice A7 n7 c7, .int .i64 (oiv q).lo.e, .bool (oiv q).hi.s, .slice A8 n8 c8, .int .i64 (oiv q).hi.e], .int .i64 (okc q)]) (by simp [results, Tryz.results11, go_sem, z0, z1, z2, z3, z4, z5]) rfl ⟨_, _, _, _, _, _, rfl, hN, hM, HB3⟩

end Go.Proofs.YtdklnpaocaebkaaGreatDoor
