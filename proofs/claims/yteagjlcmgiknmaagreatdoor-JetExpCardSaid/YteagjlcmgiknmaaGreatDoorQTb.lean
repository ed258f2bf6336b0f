/-
 Contracts of arith's roots, outward, sum and opposite, at this translation. Condition: the slices read as limbs, the table of math/bits reads as its text lays it.
-/
import Derived.Test.YteagjlcmgiknmaaGreatDoorQLc
import Derived.Test.YteagjlcmgiknmaaGreatDoorQLb
import Derived.Test.YteagjlcmgiknmaaGreatDoorQEb
import Derived.Test.YteagjlcmgiknmaaGreatDoorQRt
import Derived.Test.YteagjlcmgiknmaaGreatDoorQIs
import Derived.Test.YteagjlcmgiknmaaGreatDoorQLf
set_option maxHeartbeats 8000000
set_option maxRecDepth 100000
namespace Go.Proofs.YteagjlcmgiknmaaGreatDoor
open Go.RowKit

theorem sum_run (S : Sc) {p : Int} {w : World} {x y : Iv} {A1 : Option Addr} {n1 c1 : Nat} {A2 : Option Addr} {n2 c2 : Nat} {A3 : Option Addr} {n3 c3 : Nat} {A4 : Option Addr} {n4 c4 : Nat} (hT : Tab w) (h1 : Rd w .u64 Go.Proofs.YteagjlcmgiknmaaGreatDoor.W A1 n1 c1 x.lo.l) (h2 : Rd w .u64 Go.Proofs.YteagjlcmgiknmaaGreatDoor.W A2 n2 c2 x.hi.l) (h3 : Rd w .u64 Go.Proofs.YteagjlcmgiknmaaGreatDoor.W A3 n3 c3 y.lo.l) (h4 : Rd w .u64 Go.Proofs.YteagjlcmgiknmaaGreatDoor.W A4 n4 c4 y.hi.l) :
  Calls Tryz.prog 142 #[.agg #[.bool x.lo.s, .slice A1 n1 c1, .int .i64 x.lo.e, .bool x.hi.s, .slice A2 n2 c2, .int .i64 x.hi.e], .agg #[.bool y.lo.s, .slice A3 n3 c3, .int .i64 y.lo.e, .bool y.hi.s, .slice A4 n4 c4, .int .i64 y.hi.e], .int .i64 p] w (RunI (sumO S x y p) w) := by
 obtain ⟨q, hq⟩ : ∃ q : Except Int Iv, q = sumO S x y p := ⟨_, rfl⟩
 rw [← hq]
 have HQ := Lib.hid hq
 clear hq
 have BB := three_below w (.cells #[.bool x.lo.s, .slice A1 n1 c1, .int .i64 x.lo.e, .bool x.hi.s, .slice A2 n2 c2, .int .i64 x.hi.e] 29) (.cells #[.bool y.lo.s, .slice A3 n3 c3, .int .i64 y.lo.e, .bool y.hi.s, .slice A4 n4 c4, .int .i64 y.hi.e] 29) (.cells #[.bool false, .slice none 0 0, .int .i64 0, .bool false, .slice none 0 0, .int .i64 0] 29)
 obtain ⟨_, xa, xb⟩ := two_ivl w (x := x) (y := y) (A1 := A1) (n1 := n1) (c1 := c1) (A2 := A2) (n2 := n2) (c2 := c2) (A3 := A3) (n3 := n3) (c3 := c3) (A4 := A4) (n4 := n4) (c4 := c4)
 replace xa := xa.alloc (.cells #[.bool false, .slice none 0 0, .int .i64 0, .bool false, .slice none 0 0, .int .i64 0] 29)
 replace xb := xb.alloc (.cells #[.bool false, .slice none 0 0, .int .i64 0, .bool false, .slice none 0 0, .int .i64 0] 29)
 have r := ibx_two w (.cells #[.bool x.lo.s, .slice A1 n1 c1, .int .i64 x.lo.e, .bool x.hi.s, .slice A2 n2 c2, .int .i64 x.hi.e] 29) (.cells #[.bool y.lo.s, .slice A3 n3 c3, .int .i64 y.lo.e, .bool y.hi.s, .slice A4 n4 c4, .int .i64 y.hi.e] 29) false none 0 0 0 false none 0 0 0
 obtain ⟨a0, a1, a2, a3, a4, a5⟩ := xa.held
 obtain ⟨b0, b1, b2, b3, b4, b5⟩ := xb.held
 have G := mv BB rfl (J5 hT h1 h2 h3 h4)
 clear hT h1 h2 h3 h4
 obtain ⟨hT, h1, h2, h3, h4⟩ := G
 go_enter Tryz.func142, Tryz.ntmps142
 obtain ⟨o1, ho1⟩ : ∃ o, o = addO S x.lo y.lo := ⟨_, rfl⟩
 have HO1 := Lib.hid ho1
 clear ho1
 have HC1 : Cod o1 := by rw [HO1.out]; exact addO_cod
 go_wp2_with fail
 refine (tellq_to HO1.out (dadd_tell S (a := x.lo) (b := y.lo) hT h1 h3)).mono ?_
 rintro en w1 ⟨A5, n5, c5, rfl, h5, b⟩
 replace BB := bnx BB b
 have G := mv b rfl (J18 hT h1 h2 h3 h4 r a0 a1 a2 a3 a4 a5 b0 b1 b2 b3 b4 b5)
 clear b hT h1 h2 h3 h4 r a0 a1 a2 a3 a4 a5 b0 b1 b2 b3 b4 b5
 obtain ⟨hT, h1, h2, h3, h4, r, a0, a1, a2, a3, a4, a5, b0, b1, b2, b3, b4, b5⟩ := G
 go_wp2_with fail
 refine (must_run HC1 h5).mono ?_
 rintro en w2 (⟨v1, hv1, A6, n6, c6, rfl, h6, b⟩ | ⟨kk, hk, hk0, rfl, b⟩)
 rotate_left
 ·replace BB := bnx BB b
  clear b
  have HKK := Lib.hid (And.intro hk hk0)
  clear hk hk0
  go_wp2
  exact ⟨rfl, .inr ⟨kk, (HQ.out.trans (by simp only [sumO, thn, ← HO1.out, HKK.out.1])), HKK.out.2, rfl, BB⟩⟩
 have HV1 := Lib.hid hv1
 clear hv1
 clear h5
 replace BB := bnx BB b
 have G := mv b rfl (J18 hT h1 h2 h3 h4 r a0 a1 a2 a3 a4 a5 b0 b1 b2 b3 b4 b5)
 clear b hT h1 h2 h3 h4 r a0 a1 a2 a3 a4 a5 b0 b1 b2 b3 b4 b5
 obtain ⟨hT, h1, h2, h3, h4, r, a0, a1, a2, a3, a4, a5, b0, b1, b2, b3, b4, b5⟩ := G
 obtain ⟨o2, ho2⟩ : ∃ o, o = rndO S v1 p false := ⟨_, rfl⟩
 have HO2 := Lib.hid ho2
 clear ho2
 go_wp2_with fail
 refine (runq_to HO2.out (down_run S hT h6)).mono ?_
 rintro en w3 (⟨v2, hv2, A7, n7, c7, rfl, h7, b⟩ | ⟨kk, hk, hk0, rfl, b⟩)
 rotate_left
 ·replace BB := bnx BB b
  clear b
  have HKK := Lib.hid (And.intro hk hk0)
  clear hk hk0
  go_wp2
  exact ⟨rfl, .inr ⟨kk, (HQ.out.trans (by simp only [sumO, thn, ← HO1.out, HV1.out, ← HO2.out, HKK.out.1])), HKK.out.2, rfl, BB⟩⟩
 have HV2 := Lib.hid hv2
 clear hv2
 replace BB := bnx BB b
 have G := mv b rfl (J19 hT h1 h2 h3 h4 r a0 a1 a2 a3 a4 a5 b0 b1 b2 b3 b4 b5 h6)
 clear b hT h1 h2 h3 h4 r a0 a1 a2 a3 a4 a5 b0 b1 b2 b3 b4 b5 h6
 obtain ⟨hT, h1, h2, h3, h4, r, a0, a1, a2, a3, a4, a5, b0, b1, b2, b3, b4, b5, h6⟩ := G
 obtain ⟨y0, y1, y2⟩ := (Box.new w3 v2.s A7 n7 c7 v2.e).held
 have b := below_alloc w3 (.cells #[.bool v2.s, .slice A7 n7 c7, .int .i64 v2.e] 25)
 replace BB := bnx BB b
 have G := mv b rfl (J20 hT h1 h2 h3 h4 r a0 a1 a2 a3 a4 a5 b0 b1 b2 b3 b4 b5 h6 h7)
 clear b hT h1 h2 h3 h4 r a0 a1 a2 a3 a4 a5 b0 b1 b2 b3 b4 b5 h6 h7
 obtain ⟨hT, h1, h2, h3, h4, r, a0, a1, a2, a3, a4, a5, b0, b1, b2, b3, b4, b5, h6, h7⟩ := G
 clear h6
 obtain ⟨o3, ho3⟩ : ∃ o, o = addO S x.hi y.hi := ⟨_, rfl⟩
 have HO3 := Lib.hid ho3
 clear ho3
 have HC3 : Cod o3 := by rw [HO3.out]; exact addO_cod
 go_wp2_with fail
 refine (tellq_to HO3.out (dadd_tell S (a := x.hi) (b := y.hi) hT h2 h4)).mono ?_
 rintro en w4 ⟨A8, n8, c8, rfl, h8, b⟩
 replace BB := bnx BB b
 have G := mv b rfl (J22 hT h1 h2 h3 h4 r a0 a1 a2 a3 a4 a5 b0 b1 b2 b3 b4 b5 h7 y0 y1 y2)
 clear b hT h1 h2 h3 h4 r a0 a1 a2 a3 a4 a5 b0 b1 b2 b3 b4 b5 h7 y0 y1 y2
 obtain ⟨hT, h1, h2, h3, h4, r, a0, a1, a2, a3, a4, a5, b0, b1, b2, b3, b4, b5, h7, y0, y1, y2⟩ := G
 go_wp2_with fail
 refine (must_run HC3 h8).mono ?_
 rintro en w5 (⟨v3, hv3, A9, n9, c9, rfl, h9, b⟩ | ⟨kk, hk, hk0, rfl, b⟩)
 rotate_left
 ·replace BB := bnx BB b
  clear b
  have HKK := Lib.hid (And.intro hk hk0)
  clear hk hk0
  go_wp2
  exact ⟨rfl, .inr ⟨kk, (HQ.out.trans (by simp only [sumO, thn, ← HO1.out, HV1.out, ← HO2.out, HV2.out, ← HO3.out, HKK.out.1])), HKK.out.2, rfl, BB⟩⟩
 have HV3 := Lib.hid hv3
 clear hv3
 clear h8
 replace BB := bnx BB b
 have G := mv b rfl (J22 hT h1 h2 h3 h4 r a0 a1 a2 a3 a4 a5 b0 b1 b2 b3 b4 b5 h7 y0 y1 y2)
 clear b hT h1 h2 h3 h4 r a0 a1 a2 a3 a4 a5 b0 b1 b2 b3 b4 b5 h7 y0 y1 y2
 obtain ⟨hT, h1, h2, h3, h4, r, a0, a1, a2, a3, a4, a5, b0, b1, b2, b3, b4, b5, h7, y0, y1, y2⟩ := G
 obtain ⟨o4, ho4⟩ : ∃ o, o = rndO S v3 p true := ⟨_, rfl⟩
 have HO4 := Lib.hid ho4
 clear ho4
 go_wp2_with fail
 refine (runq_to HO4.out (up_run S hT h9)).mono ?_
 rintro en w6 (⟨v4, hv4, A10, n10, c10, rfl, h10, b⟩ | ⟨kk, hk, hk0, rfl, b⟩)
 rotate_left
 ·replace BB := bnx BB b
  clear b
  have HKK := Lib.hid (And.intro hk hk0)
  clear hk hk0
  go_wp2
  exact ⟨rfl, .inr ⟨kk, (HQ.out.trans (by simp only [sumO, thn, ← HO1.out, HV1.out, ← HO2.out, HV2.out, ← HO3.out, HV3.out, ← HO4.out, HKK.out.1])), HKK.out.2, rfl, BB⟩⟩
 have HV4 := Lib.hid hv4
 clear hv4
 replace BB := bnx BB b
 have G := mv b rfl (J23 hT h1 h2 h3 h4 r a0 a1 a2 a3 a4 a5 b0 b1 b2 b3 b4 b5 h7 y0 y1 y2 h9)
 clear b hT h1 h2 h3 h4 r a0 a1 a2 a3 a4 a5 b0 b1 b2 b3 b4 b5 h7 y0 y1 y2 h9
 obtain ⟨hT, h1, h2, h3, h4, r, a0, a1, a2, a3, a4, a5, b0, b1, b2, b3, b4, b5, h7, y0, y1, y2, h9⟩ := G
 obtain ⟨u0, u1, u2⟩ := (Box.new w6 v4.s A10 n10 c10 v4.e).held
 have b := below_alloc w6 (.cells #[.bool v4.s, .slice A10 n10 c10, .int .i64 v4.e] 25)
 replace BB := bnx BB b
 have G := mv b rfl (J24 hT h1 h2 h3 h4 r a0 a1 a2 a3 a4 a5 b0 b1 b2 b3 b4 b5 h7 y0 y1 y2 h9 h10)
 clear b hT h1 h2 h3 h4 r a0 a1 a2 a3 a4 a5 b0 b1 b2 b3 b4 b5 h7 y0 y1 y2 h9 h10
 obtain ⟨hT, h1, h2, h3, h4, r, a0, a1, a2, a3, a4, a5, b0, b1, b2, b3, b4, b5, h7, y0, y1, y2, h9, h10⟩ := G
 obtain ⟨f0, f1, f2, f3, f4, f5⟩ := r.open
 obtain ⟨z0, z1, z2, z3, z4, z5⟩ := r.held
 go_wp2
 have qq := r.put v2.s A7 n7 c7 v2.e v4.s A10 n10 c10 v4.e
 have hN := h7.put6 r (.bool v2.s) (.slice A7 n7 c7) (.int .i64 v2.e) (.bool v4.s) (.slice A10 n10 c10) (.int .i64 v4.e)
 have hM := h10.put6 r (.bool v2.s) (.slice A7 n7 c7) (.int .i64 v2.e) (.bool v4.s) (.slice A10 n10 c10) (.int .i64 v4.e)
 have HB3 := below_put6 (g := w.heap.size + 2) BB (by omega) (.bool v2.s) (.slice A7 n7 c7) (.int .i64 v2.e) (.bool v4.s) (.slice A10 n10 c10) (.int .i64 v4.e)
 obtain ⟨z0, z1, z2, z3, z4, z5⟩ := qq.held
 exact bodyPost_ret (v := .agg #[.bool v2.s, .slice A7 n7 c7, .int .i64 v2.e, .bool v4.s, .slice A10 n10 c10, .int .i64 v4.e]) (by simp [results, Tryz.results142, go_sem, z0, z1, z2, z3, z4, z5]) rfl (.inl ⟨⟨v2, v4⟩, (HQ.out.trans (by simp only [sumO, thn, ← HO1.out, HV1.out, ← HO2.out, HV2.out, ← HO3.out, HV3.out, ← HO4.out, HV4.out])), _, _, _, _, _, _, rfl, hN, hM, HB3⟩)

theorem outward_run (S : Sc) {a b : Rw} {p : Int} {w : World} {A1 : Option Addr} {n1 c1 : Nat} {A2 : Option Addr} {n2 c2 : Nat} (hT : Tab w) (h1 : Rd w .u64 Go.Proofs.YteagjlcmgiknmaaGreatDoor.W A1 n1 c1 a.l) (h2 : Rd w .u64 Go.Proofs.YteagjlcmgiknmaaGreatDoor.W A2 n2 c2 b.l) :
  Calls Tryz.prog 121 #[.agg #[.bool a.s, .slice A1 n1 c1, .int .i64 a.e], .agg #[.bool b.s, .slice A2 n2 c2, .int .i64 b.e], .int .i64 p] w (RunI (outO S a b p) w) := by
 obtain ⟨q, hq⟩ : ∃ q : Except Int Iv, q = outO S a b p := ⟨_, rfl⟩
 rw [← hq]
 have HQ := Lib.hid hq
 clear hq
 have BB := three_below w (.cells #[.bool a.s, .slice A1 n1 c1, .int .i64 a.e] 25) (.cells #[.bool b.s, .slice A2 n2 c2, .int .i64 b.e] 25) (.cells #[.bool false, .slice none 0 0, .int .i64 0, .bool false, .slice none 0 0, .int .i64 0] 29)
 obtain ⟨a10, a11, a12, a20, a21, a22⟩ := ((two_new w a.s b.s A1 A2 n1 c1 n2 c2 a.e b.e).alloc (.cells #[.bool false, .slice none 0 0, .int .i64 0, .bool false, .slice none 0 0, .int .i64 0] 29)).held
 have r := ibx_two w (.cells #[.bool a.s, .slice A1 n1 c1, .int .i64 a.e] 25) (.cells #[.bool b.s, .slice A2 n2 c2, .int .i64 b.e] 25) false none 0 0 0 false none 0 0 0
 have G := mv BB rfl (J3 hT h1 h2)
 clear hT h1 h2
 obtain ⟨hT, h1, h2⟩ := G
 go_enter Tryz.func121, Tryz.ntmps121
 obtain ⟨o1, ho1⟩ : ∃ o, o = rndO S a p false := ⟨_, rfl⟩
 have HO1 := Lib.hid ho1
 clear ho1
 go_wp2_with fail
 refine (runq_to HO1.out (down_run S hT h1)).mono ?_
 rintro en w1 (⟨v1, hv1, A3, n3, c3, rfl, h3, b⟩ | ⟨kk, hk, hk0, rfl, b⟩)
 rotate_left
 ·replace BB := bnx BB b
  clear b
  have HKK := Lib.hid (And.intro hk hk0)
  clear hk hk0
  go_wp2
  exact ⟨rfl, .inr ⟨kk, (HQ.out.trans (by simp only [outO, thn, ← HO1.out, HKK.out.1])), HKK.out.2, rfl, BB⟩⟩
 have HV1 := Lib.hid hv1
 clear hv1
 replace BB := bnx BB b
 have G := mv b rfl (J7 hT h1 h2 r a20 a21 a22)
 clear b hT h1 h2 r a20 a21 a22
 obtain ⟨hT, h1, h2, r, a20, a21, a22⟩ := G
 have ny : w1.heap.size ≠ w.heap.size + 2 := by have := r.gl; omega
 obtain ⟨y0, y1, y2⟩ := (Box.new w1 v1.s A3 n3 c3 v1.e).held
 have b := below_alloc w1 (.cells #[.bool v1.s, .slice A3 n3 c3, .int .i64 v1.e] 25)
 replace BB := bnx BB b
 have G := mv b rfl (J8 hT h1 h2 r a20 a21 a22 h3)
 clear b hT h1 h2 r a20 a21 a22 h3
 obtain ⟨hT, h1, h2, r, a20, a21, a22, h3⟩ := G
 obtain ⟨o2, ho2⟩ : ∃ o, o = rndO S b p true := ⟨_, rfl⟩
 have HO2 := Lib.hid ho2
 clear ho2
 go_wp2_with fail
 have b : Below (w1.alloc (.cells #[.bool v1.s, .slice A3 n3 c3, .int .i64 v1.e] 25)).heap.size (w1.alloc (.cells #[.bool v1.s, .slice A3 n3 c3, .int .i64 v1.e] 25)) (World.drew (w1.alloc (.cells #[.bool v1.s, .slice A3 n3 c3, .int .i64 v1.e] 25))) := below_drewN (Below.refl _ _) 1
 replace BB := bnx BB b
 have G := mv b rfl (J11 hT h1 h2 r a20 a21 a22 h3 y0 y1 y2)
 clear b hT h1 h2 r a20 a21 a22 h3 y0 y1 y2
 obtain ⟨hT, h1, h2, r, a20, a21, a22, h3, y0, y1, y2⟩ := G
 refine wp_region_held_drew (S := fun w' => w'.cell? ⟨w1.heap.size, 0, none⟩ = some (.bool v1.s) ∧ w'.cell? ⟨w1.heap.size, 1, none⟩ = some (.slice A3 n3 c3) ∧ w'.cell? ⟨w1.heap.size, 2, none⟩ = some (.int .i64 v1.e) ∧ w'.cell? ⟨w.heap.size + 1, 0, none⟩ = some (.bool b.s) ∧ w'.cell? ⟨w.heap.size + 1, 1, none⟩ = some (.slice A2 n2 c2) ∧ w'.cell? ⟨w.heap.size + 1, 2, none⟩ = some (.int .i64 b.e)) (by kernel_rfl) (by exact ⟨y0, y1, y2, a20, a21, a22⟩) (fun hHeldv0 => ?_)
 generalize World.drew (w1.alloc (.cells #[.bool v1.s, .slice A3 n3 c3, .int .i64 v1.e] 25)) = wd at *
 refine tl 0 ?_
 refine tl 1 ?_
 refine tl 2 ?_
 refine rdy 3 fun K hK => ?_
 go_simp
 refine (runq_to HO2.out (up_run S hT h2)).mono ?_
 rintro en w' (⟨v2, hv2, A4, n4, c4, rfl, h4, b⟩ | ⟨kk, hk, hk0, rfl, b⟩)
 rotate_left
 ·exact ⟨rfl, .inr ⟨kk, (HQ.out.trans (by simp only [outO, thn, ← HO1.out, HV1.out, ← HO2.out, hk])), hk0, rfl, below_next BB BB.size b (by rfl) (by rfl) (by rfl) (by rfl)⟩⟩
 have HV2 := Lib.hid hv2
 clear hv2
 replace BB := below_next BB BB.size b (by rfl) (by rfl) (by rfl) (by rfl)
 have G := mv b (by rfl) <| And.intro hT <| And.intro h1 <| And.intro h2 <| And.intro r <| And.intro a20 <| And.intro a21 <| And.intro a22 <| And.intro h3 <| And.intro y0 <| And.intro y1 <| y2
 clear b hT h1 h2 r a20 a21 a22 h3 y0 y1 y2
 obtain ⟨hT, h1, h2, r, a20, a21, a22, h3, y0, y1, y2⟩ := G
 obtain ⟨f0, f1, f2, f3, f4, f5⟩ := r.open
 obtain ⟨z0, z1, z2, z3, z4, z5⟩ := r.held
 refine hK.out _ _ (by exact ⟨y0, y1, y2, a20, a21, a22⟩) (fun hHeldv1 => ?_)
 clear hK K hHeldv0
 try simp only [Act.put]
 refine tl 4 ?_
 refine rdy 5 fun K hK => ?_
 go_simp
 refine hK.out _ _ (by exact ⟨cell_oth6 y0 ny, cell_oth6 y1 ny, cell_oth6 y2 ny, cell_oth6 a20 (by omega), cell_oth6 a21 (by omega), cell_oth6 a22 (by omega)⟩) (fun hHeldv2 => ?_)
 clear hK K hHeldv1
 try simp only [Act.put]
 refine wpAnyH_done (by kernel_rfl) ?_ _
 go_wp2
 obtain ⟨f0, f1, f2, f3, f4, f5⟩ := r.open
 obtain ⟨z0, z1, z2, z3, z4, z5⟩ := r.held
 have qq := r.put v1.s A3 n3 c3 v1.e v2.s A4 n4 c4 v2.e
 have hN := h3.put6 r (.bool v1.s) (.slice A3 n3 c3) (.int .i64 v1.e) (.bool v2.s) (.slice A4 n4 c4) (.int .i64 v2.e)
 have hM := h4.put6 r (.bool v1.s) (.slice A3 n3 c3) (.int .i64 v1.e) (.bool v2.s) (.slice A4 n4 c4) (.int .i64 v2.e)
 have HB3 := below_put6 (g := w.heap.size + 2) BB (by omega) (.bool v1.s) (.slice A3 n3 c3) (.int .i64 v1.e) (.bool v2.s) (.slice A4 n4 c4) (.int .i64 v2.e)
 obtain ⟨z0, z1, z2, z3, z4, z5⟩ := qq.held
 exact bodyPost_ret (v := .agg #[.bool v1.s, .slice A3 n3 c3, .int .i64 v1.e, .bool v2.s, .slice A4 n4 c4, .int .i64 v2.e]) (by simp [results, Tryz.results121, go_sem, z0, z1, z2, z3, z4, z5]) rfl (.inl ⟨⟨v1, v2⟩, (HQ.out.trans (by simp only [outO, thn, ← HO1.out, HV1.out, ← HO2.out, HV2.out])), _, _, _, _, _, _, rfl, hN, hM, HB3⟩)

end Go.Proofs.YteagjlcmgiknmaaGreatDoor
namespace Go.Proofs.YteagjlcmgiknmaaGreatDoor

structure Ln where
 op : Int
 a : Int
 b : Int
 k : Iv
/-- what lines stand for: the time, states, inputs, parameters -/
structure En where
 t : Iv
 nx : Nat
 X : Nat → Iv
 nu : Nat
 U : Nat → Iv
 np : Nat
 P : Nat → Iv
structure Tp where
 n : Nat
 L : Nat → Ln
 m : Nat
 O : Nat → Int
def belowB (k n : Int) : Bool := decide (0 ≤ k) && decide (k < n)
theorem belowB_iff {k n : Int} : belowB k n = true ↔ 0 ≤ k ∧ k < n := by
 unfold belowB
 simp
def bareB (l : Ln) : Bool := sameI l.k Iv.zero
def mayLn (K : Nat) (l : Ln) (i x u p : Int) : Bool :=
 if l.op = 1 then mayI K l.k && (decide (l.a = 0) && decide (l.b = 0))
 else if l.op = 2 then decide (l.a = 0) && (decide (l.b = 0) && bareB l)
 else if l.op = 3 then belowB l.a x && (decide (l.b = 0) && bareB l)
 else if l.op = 4 then belowB l.a u && (decide (l.b = 0) && bareB l)
 else if l.op = 5 then belowB l.a p && (decide (l.b = 0) && bareB l)
 else if l.op = 6 ∨ l.op = 7 ∨ l.op = 8 ∨ l.op = 9 then belowB l.a i && (belowB l.b i && bareB l)
 else if l.op = 10 ∨ l.op = 11 ∨ l.op = 12 ∨ l.op = 13 then belowB l.a i && (decide (l.b = 0) && bareB l)
 else false
def allB (n : Nat) (f : Nat → Bool) : Bool := (List.range n).all f
theorem allB_iff {n : Nat} {f : Nat → Bool} : allB n f = true ↔ ∀ i, i < n → f i = true := by
 unfold allB
 simp [List.all_eq_true, List.mem_range]
def mayT (K : Nat) (T : Tp) (x u p : Int) : Bool := decide (T.n ≤ 200) && (decide (T.m ≤ 200) && (allB T.n (fun i => mayLn K (T.L i) i x u p) && allB T.m (fun j => belowB (T.O j) T.n)))
theorem mayT_iff {K : Nat} {T : Tp} {x u p : Int} : mayT K T x u p = true ↔ T.n ≤ 200 ∧ T.m ≤ 200 ∧ (∀ i, i < T.n → mayLn K (T.L i) i x u p = true) ∧ ∀ j, j < T.m → belowB (T.O j) T.n = true := by
 unfold mayT
 simp only [Bool.and_eq_true, decide_eq_true_eq, allB_iff]
end Go.Proofs.YteagjlcmgiknmaaGreatDoor
namespace Go.Proofs.YteagjlcmgiknmaaGreatDoor

section
variable (S : Sc)
/-- an interval with ends of p bits -/
def rouI (x : Iv) (p : Int) : Except Int Iv := outO S x.lo x.hi p
end
section
variable {S : Sc} {L : Nat → Ln} {E : En} {p : Int}
theorem tface2_cod {x y : Iv} {o : Except Int Iv} (h : Cod o) : Cod (face2 S x y p o) := by
 unfold face2
 split
 ·exact h
 ·exact err_cod (by decide)
theorem tmulI_cod {x y : Iv} : Cod (mulI S x y p) := thn_cod (corO_cod fun _ _ => mulO_cod) fun _ _ => outO_cod
end
end Go.Proofs.YteagjlcmgiknmaaGreatDoor
namespace Go.Proofs.YteagjlcmgiknmaaGreatDoor
open Go.RowKit

theorem cell_next {w X w2 : World} (b : Below X.heap.size X w2) (e : X.heap = w.heap) {p : Addr} {v : Value} (h : w.cell? p = some v) : w2.cell? p = some v := by
 have h1 : X.cell? p = some v := by rw [← h]; unfold World.cell?; rw [e]
 exact (b.cell (World.block_lt_of_cell? X _ h1)).trans h1
/-- a block of the call's own, cell for cell -/
structure Blk (w : World) (g : Nat) (cs : Array Value) (T : TypeId) : Prop where
 blk : w.heap[g]? = some (.cells cs T (0, 0))
section
variable {w w' : World} {g : Nat} {cs : Array Value} {T : TypeId}
theorem Blk.gl (h : Blk w g cs T) : g < w.heap.size := by
 rcases Nat.lt_or_ge g w.heap.size with hlt | hge
 ·exact hlt
 ·have := h.blk; rw [Array.getElem?_eq_none hge] at this; cases this
theorem Blk.at (h : Blk w g cs T) (i : Nat) {v : Value} (hv : cs[i]? = some v := by rfl) : w.cell? ⟨g, i, none⟩ = some v := (cell_of_row w g i _ T (0, 0) h.blk).trans hv
theorem Blk.frozen (h : Blk w g cs T) (i : Nat) : w.frozen? ⟨g, i, none⟩ = false := by
 have := h.blk
 simp [World.frozen?, this]
theorem Blk.next {X w2 : World} (h : Blk w g cs T) (b : Below X.heap.size X w2) (he : X.heap = w.heap) : Blk w2 g cs T := ⟨by
 have h1 : X.heap[g]? = some (.cells cs T (0, 0)) := by rw [he]; exact h.blk
 exact (b.block g (Array.getElem?_eq_some_iff.1 h1).1).trans h1⟩
theorem Blk.new (w : World) (cs : Array Value) (T : TypeId) : Blk (w.alloc (.cells cs T)) w.heap.size cs T := ⟨heap_alloc_new w _⟩
end
instance {w w2 : World} {g : Nat} {cs : Array Value} {T : TypeId} : Moves w w2 (Blk w g cs T) (Blk w2 g cs T) := ⟨fun _ b e h => h.next b e⟩
/-- a line that lies in nine cells -/
def LnAt (w : World) (g o : Nat) (l : Ln) : Prop := ∃ A1 n1 c1 A2 n2 c2, (w.cell? ⟨g, o, none⟩ = some (.int .i64 l.op) ∧ w.cell? ⟨g, o + 1, none⟩ = some (.int .i64 l.a) ∧ w.cell? ⟨g, o + 2, none⟩ = some (.int .i64 l.b) ∧ w.cell? ⟨g, o + 3, none⟩ = some (.bool l.k.lo.s) ∧ w.cell? ⟨g, o + 4, none⟩ = some (.slice A1 n1 c1) ∧ w.cell? ⟨g, o + 5, none⟩ = some (.int .i64 l.k.lo.e) ∧ w.cell? ⟨g, o + 6, none⟩ = some (.bool l.k.hi.s) ∧ w.cell? ⟨g, o + 7, none⟩ = some (.slice A2 n2 c2) ∧ w.cell? ⟨g, o + 8, none⟩ = some (.int .i64 l.k.hi.e)) ∧ Rd w .u64 Go.Proofs.YteagjlcmgiknmaaGreatDoor.W A1 n1 c1 l.k.lo.l ∧ Rd w .u64 Go.Proofs.YteagjlcmgiknmaaGreatDoor.W A2 n2 c2 l.k.hi.l
theorem LnAt.next {w X w2 : World} {g o : Nat} {l : Ln} (h : LnAt w g o l) (b : Below X.heap.size X w2) (e : X.heap = w.heap) : LnAt w2 g o l := by
 obtain ⟨A1, n1, c1, A2, n2, c2, ⟨h0, h1, h2, h3, h4, h5, h6, h7, h8⟩, r1, r2⟩ := h
 exact ⟨A1, n1, c1, A2, n2, c2, ⟨cell_next b e h0, cell_next b e h1, cell_next b e h2, cell_next b e h3, cell_next b e h4, cell_next b e h5, cell_next b e h6, cell_next b e h7, cell_next b e h8⟩, r1.next b e, r2.next b e⟩
instance {w w2 : World} {g o : Nat} {l : Ln} : Moves w w2 (LnAt w g o l) (LnAt w2 g o l) := ⟨fun _ b e h => h.next b e⟩
/-- a slice whose elements read as lines -/
structure RdL (w : World) (A : Option Addr) (n c : Nat) (L : Nat → Ln) : Prop where
 cap : n ≤ c
 max : c ≤ 9223372036854775807
 at_ : n ≠ 0 → ∃ b o, A = some ⟨b, o, none⟩ ∧ ∀ i, i < n → LnAt w b (o + i * 9) (L i)
theorem RdL.next {w X w2 : World} {A : Option Addr} {n c : Nat} {L : Nat → Ln} (h : RdL w A n c L) (b : Below X.heap.size X w2) (e : X.heap = w.heap) : RdL w2 A n c L :=
 ⟨h.cap, h.max, fun hn => by
  obtain ⟨g, o, ha, hc⟩ := h.at_ hn
  exact ⟨g, o, ha, fun i hi => (hc i hi).next b e⟩⟩
instance {w w2 : World} {A : Option Addr} {n c : Nat} {L : Nat → Ln} : Moves w w2 (RdL w A n c L) (RdL w2 A n c L) := ⟨fun _ b e h => h.next b e⟩
/-- a slice whose elements are numbers -/
structure RdZ (w : World) (A : Option Addr) (n c : Nat) (O : Nat → Int) : Prop where
 cap : n ≤ c
 max : c ≤ 9223372036854775807
 at_ : n ≠ 0 → ∃ b o, A = some ⟨b, o, none⟩ ∧ ∀ i, i < n → w.cell? ⟨b, o + i, none⟩ = some (.int .i64 (O i))
theorem RdZ.next {w X w2 : World} {A : Option Addr} {n c : Nat} {O : Nat → Int} (h : RdZ w A n c O) (b : Below X.heap.size X w2) (e : X.heap = w.heap) : RdZ w2 A n c O :=
 ⟨h.cap, h.max, fun hn => by
  obtain ⟨g, o, ha, hc⟩ := h.at_ hn
  exact ⟨g, o, ha, fun i hi => cell_next b e (hc i hi)⟩⟩
instance {w w2 : World} {A : Option Addr} {n c : Nat} {O : Nat → Int} : Moves w w2 (RdZ w A n c O) (RdZ w2 A n c O) := ⟨fun _ b e h => h.next b e⟩
theorem RdS.next {w Y w2 : World} {A : Option Addr} {n c : Nat} {X : Nat → Iv} (h : RdS w A n c X) (b : Below Y.heap.size Y w2) (e : Y.heap = w.heap) : RdS w2 A n c X :=
 ⟨h.cap, h.max, fun hn => by
  obtain ⟨g, o, ha, hc⟩ := h.at_ hn
  exact ⟨g, o, ha, hc.next b e⟩⟩
instance {w w2 : World} {A : Option Addr} {n c : Nat} {X : Nat → Iv} : Moves w w2 (RdS w A n c X) (RdS w2 A n c X) := ⟨fun _ b e h => h.next b e⟩
/-- an environment's value and what its slices read as -/
structure RdE (w : World) (E : En) (A1 : Option Addr) (n1 c1 : Nat) (A2 : Option Addr) (n2 c2 : Nat) (AX : Option Addr) (cX : Nat) (AU : Option Addr) (cU : Nat) (AP : Option Addr) (cP : Nat) : Prop where
 lo : Rd w .u64 Go.Proofs.YteagjlcmgiknmaaGreatDoor.W A1 n1 c1 E.t.lo.l
 hi : Rd w .u64 Go.Proofs.YteagjlcmgiknmaaGreatDoor.W A2 n2 c2 E.t.hi.l
 X : RdS w AX E.nx cX E.X
 U : RdS w AU E.nu cU E.U
 P : RdS w AP E.np cP E.P
instance {w w2 : World} {E : En} {A1 : Option Addr} {n1 c1 : Nat} {A2 : Option Addr} {n2 c2 : Nat} {AX : Option Addr} {cX : Nat} {AU : Option Addr} {cU : Nat} {AP : Option Addr} {cP : Nat} : Moves w w2 (RdE w E A1 n1 c1 A2 n2 c2 AX cX AU cU AP cP) (RdE w2 E A1 n1 c1 A2 n2 c2 AX cX AU cU AP cP) := ⟨fun _ b e h => ⟨h.lo.next b e, h.hi.next b e, h.X.next b e, h.U.next b e, h.P.next b e⟩⟩

/-- the cells of some intervals, one behind the other -/
def Celi (w : World) : List Iv → List Value → Prop
 | [], xs => xs = []
 | x :: L, xs => ∃ A n c B m d ys, xs = .bool x.lo.s :: .slice A n c :: .int .i64 x.lo.e :: .bool x.hi.s :: .slice B m d :: .int .i64 x.hi.e :: ys ∧ Rd w .u64 Go.Proofs.YteagjlcmgiknmaaGreatDoor.W A n c x.lo.l ∧ Rd w .u64 Go.Proofs.YteagjlcmgiknmaaGreatDoor.W B m d x.hi.l ∧ Celi w L ys
theorem Celi.mv {w w' : World} (f : ∀ A n c l, Rd w .u64 Go.Proofs.YteagjlcmgiknmaaGreatDoor.W A n c l → Rd w' .u64 Go.Proofs.YteagjlcmgiknmaaGreatDoor.W A n c l) : ∀ {L : List Iv} {xs : List Value}, Celi w L xs → Celi w' L xs
 | [], _, h => h
 | _ :: _, _, ⟨A, n, c, B, m, d, ys, h1, h2, h3, h4⟩ => ⟨A, n, c, B, m, d, ys, h1, f _ _ _ _ h2, f _ _ _ _ h3, h4.mv f⟩
theorem Celi.snoc {w : World} {x : Iv} {A : Option Addr} {n c : Nat} {B : Option Addr} {m d : Nat} (hr : Rd w .u64 Go.Proofs.YteagjlcmgiknmaaGreatDoor.W A n c x.lo.l) (hs : Rd w .u64 Go.Proofs.YteagjlcmgiknmaaGreatDoor.W B m d x.hi.l) : ∀ {L : List Iv} {xs : List Value}, Celi w L xs → Celi w (L ++ [x]) (xs ++ [.bool x.lo.s, .slice A n c, .int .i64 x.lo.e, .bool x.hi.s, .slice B m d, .int .i64 x.hi.e])
 | [], _, h => by
  have h : _ = [] := h
  subst h
  exact ⟨A, n, c, B, m, d, [], rfl, hr, hs, rfl⟩
 | _ :: _, _, ⟨A', n', c', B', m', d', ys, h1, h2, h3, h4⟩ => ⟨A', n', c', B', m', d', ys ++ [.bool x.lo.s, .slice A n c, .int .i64 x.lo.e, .bool x.hi.s, .slice B m d, .int .i64 x.hi.e], by rw [h1]; rfl, h2, h3, h4.snoc hr hs⟩
theorem Celi.get {w : World} : ∀ {L : List Iv} {xs : List Value}, Celi w L xs → ∀ i, i < L.length → ∃ A n c B m d, xs[i * 6]? = some (.bool (L.getD i Iv.zero).lo.s) ∧ xs[i * 6 + 1]? = some (.slice A n c) ∧ xs[i * 6 + 2]? = some (.int .i64 (L.getD i Iv.zero).lo.e) ∧ xs[i * 6 + 3]? = some (.bool (L.getD i Iv.zero).hi.s) ∧ xs[i * 6 + 4]? = some (.slice B m d) ∧ xs[i * 6 + 5]? = some (.int .i64 (L.getD i Iv.zero).hi.e) ∧ Rd w .u64 Go.Proofs.YteagjlcmgiknmaaGreatDoor.W A n c (L.getD i Iv.zero).lo.l ∧ Rd w .u64 Go.Proofs.YteagjlcmgiknmaaGreatDoor.W B m d (L.getD i Iv.zero).hi.l
 | [], _, _, i, hi => absurd hi (Nat.not_lt_zero _)
 | x :: L, _, ⟨A, n, c, B, m, d, ys, h1, h2, h3, h4⟩, 0, _ => by subst h1; exact ⟨A, n, c, B, m, d, rfl, rfl, rfl, rfl, rfl, rfl, h2, h3⟩
 | x :: L, _, ⟨A, n, c, B, m, d, ys, h1, h2, h3, h4⟩, i + 1, hi => by
  subst h1
  obtain ⟨A', n', c', B', m', d', g1, g2, g3, g4, g5, g6, g7, g8⟩ := h4.get i (by simpa using hi)
  have e0 : (i + 1) * 6 = i * 6 + 6 := by omega
  refine ⟨A', n', c', B', m', d', ?_, ?_, ?_, ?_, ?_, ?_, ?_, ?_⟩
  ·rw [e0]; simpa using g1
  ·rw [show (i + 1) * 6 + 1 = (i * 6 + 1) + 6 by omega]; simpa using g2
  ·rw [show (i + 1) * 6 + 2 = (i * 6 + 2) + 6 by omega]; simpa using g3
  ·rw [show (i + 1) * 6 + 3 = (i * 6 + 3) + 6 by omega]; simpa using g4
  ·rw [show (i + 1) * 6 + 4 = (i * 6 + 4) + 6 by omega]; simpa using g5
  ·rw [show (i + 1) * 6 + 5 = (i * 6 + 5) + 6 by omega]; simpa using g6
  ·simpa using g7
  ·simpa using g8
/-- a row of intervals of the call's own -/
def IRow (w : World) (base : Nat) (v : Value) (L : List Iv) : Prop := ∃ xs, RowN w base 29 6 v L.length xs ∧ Celi w L xs
theorem IRow.next {w X w2 : World} {base : Nat} {v : Value} {L : List Iv} (h : IRow w base v L) (b : Below X.heap.size X w2) (e : X.heap = w.heap) : IRow w2 base v L := by
 obtain ⟨xs, h1, h2⟩ := h
 exact ⟨xs, h1.next b e, h2.mv fun _ _ _ _ hr => hr.next b e⟩
instance {w w2 : World} {base : Nat} {v : Value} {L : List Iv} : Moves w w2 (IRow w base v L) (IRow w2 base v L) := ⟨fun _ b e h => h.next b e⟩
theorem irow_nil (w : World) (base : Nat) : IRow w base (.slice none 0 0) [] := ⟨[], rown_nil .., rfl⟩
theorem IRow.lt {w : World} {base : Nat} {v : Value} {L : List Iv} (h : IRow w base v L) : ∀ k, v.ownBlock = some k → base ≤ k ∧ k < w.heap.size := by
 obtain ⟨xs, h1, _⟩ := h
 exact h1.lt
theorem IRow.no {w : World} {base : Nat} {v : Value} {L : List Iv} (h : IRow w base v L) : ∀ k, v.ownBlock = some k → ∀ i x : Nat, w.cell? ⟨k, i, none⟩ ≠ some (.int .u64 (x : Int)) := by
 obtain ⟨xs, h1, _⟩ := h
 exact h1.2
/-- as a slice that reads as intervals -/
theorem IRow.form {w : World} {base : Nat} {v : Value} {L : List Iv} (h : IRow w base v L) : ∃ A c, v = .slice A L.length c ∧ RdS w A L.length c (fun i => L.getD i Iv.zero) ∧ (L ≠ [] → ∃ g, A = some ⟨g, 0, none⟩ ∧ v.ownBlock = some g ∧ g < w.heap.size ∧ Ivs w g 0 L.length (fun i => L.getD i Iv.zero)) := by
 obtain ⟨xs, h1, h2⟩ := h
 have hlt := h1.lt
 rcases h1.1.2 with ⟨hv, h3⟩ | ⟨g, cap, cur, hv, hb, hg, hc, hm, _, ht⟩
 ·refine ⟨none, 0, by rw [hv, h3], ⟨by omega, by omega, fun hn => absurd h3 hn⟩, fun h0 => absurd (List.eq_nil_of_length_eq_zero h3) h0⟩
 ·have hcell := h1.1.cells (g := g) (by rw [hv]; rfl)
  have key : ∀ j u, xs[j]? = some u → w.cell? ⟨g, j, none⟩ = some u := fun j u hu => by
   have := hcell j u hu
   rwa [show (⟨g, 0, none⟩ : Addr).add j = ⟨g, j, none⟩ by unfold Addr.add; split <;> simp_all] at this
  have hI : Ivs w g 0 L.length (fun i => L.getD i Iv.zero) := fun i hi => by
   obtain ⟨A, n, c, B, m, d, g1, g2, g3, g4, g5, g6, g7, g8⟩ := h2.get i hi
   rw [show 0 + i * 6 = i * 6 by omega]
   exact ⟨A, n, c, B, m, d, ⟨key _ _ g1, key _ _ g2, key _ _ g3, key _ _ g4, key _ _ g5, key _ _ g6⟩, g7, g8⟩
  exact ⟨some ⟨g, 0, none⟩, cap, hv, ⟨hc, by unfold maxLen at hm; omega, fun _ => ⟨g, 0, rfl, hI⟩⟩, fun _ => ⟨g, rfl, by rw [hv]; rfl, (hlt g (by rw [hv]; rfl)).2, hI⟩⟩
theorem infoIv : (Tryz.prog.info? 29).map (fun i => (i.zero, i.size, i.bytes)) = some (some (.agg #[.bool false, .slice none 0 0, .int .i64 0, .bool false, .slice none 0 0, .int .i64 0]), 6, 80) := by kernel_rfl
end Go.Proofs.YteagjlcmgiknmaaGreatDoor
