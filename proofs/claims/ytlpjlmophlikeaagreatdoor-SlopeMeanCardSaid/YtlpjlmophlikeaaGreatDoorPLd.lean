/-
 Contracts of arith's roots, outward, sum and opposite, at this translation. Condition: the slices read as limbs, the table of math/bits reads as its text lays it.
-/
import Derived.Test.YtlpjlmophlikeaaGreatDoorPLc
set_option maxHeartbeats 8000000
set_option maxRecDepth 100000
namespace Go.Proofs.YtlpjlmophlikeaaGreatDoor
open Go.RowKit

theorem sum_run (S : Sc) {p : Int} {w : World} {x y : Iv} {A1 : Option Addr} {n1 c1 : Nat} {A2 : Option Addr} {n2 c2 : Nat} {A3 : Option Addr} {n3 c3 : Nat} {A4 : Option Addr} {n4 c4 : Nat} (hT : Tab w) (h1 : Rd w .u64 Go.Proofs.YtlpjlmophlikeaaGreatDoor.W A1 n1 c1 x.lo.l) (h2 : Rd w .u64 Go.Proofs.YtlpjlmophlikeaaGreatDoor.W A2 n2 c2 x.hi.l) (h3 : Rd w .u64 Go.Proofs.YtlpjlmophlikeaaGreatDoor.W A3 n3 c3 y.lo.l) (h4 : Rd w .u64 Go.Proofs.YtlpjlmophlikeaaGreatDoor.W A4 n4 c4 y.hi.l) :
  Calls Tryz.prog 147 #[.agg #[.bool x.lo.s, .slice A1 n1 c1, .int .i64 x.lo.e, .bool x.hi.s, .slice A2 n2 c2, .int .i64 x.hi.e], .agg #[.bool y.lo.s, .slice A3 n3 c3, .int .i64 y.lo.e, .bool y.hi.s, .slice A4 n4 c4, .int .i64 y.hi.e], .int .i64 p] w (RunI (sumO S x y p) w) := by
 obtain ⟨q, hq⟩ : ∃ q : Except Int Iv, q = sumO S x y p := ⟨_, rfl⟩
 rw [← hq]
 have HQ := Lib.hid hq
 clear hq
 have BB := three_below w (.cells #[.bool x.lo.s, .slice A1 n1 c1, .int .i64 x.lo.e, .bool x.hi.s, .slice A2 n2 c2, .int .i64 x.hi.e] 29) (.cells #[.bool y.lo.s, .slice A3 n3 c3, .int .i64 y.lo.e, .bool y.hi.s, .slice A4 n4 c4, .int .i64 y.hi.e] 29) (.cells #[.bool false, .slice none 0 0, .int .i64 0, .bool false, .slice none 0 0, .int .i64 0] 29)
 obtain ⟨_, xa, xb⟩ := two_ivl w (x := x) (y := y) (A1 := A1) (n1 := n1) (c1 := c1) (A2 := A2) (n2 := n2) (c2 := c2) (A3 := A3) (n3 := n3) (c3 := c3) (A4 := A4) (n4 := n4) (c4 := c4)
 replace xa := xa.alloc (.cells #[.bool false, .slice none 0 0, .int .i64 0, .bool false, .slice none 0 0, .int .i64 0] 29)
 replace xb := xb.alloc (.cells #[.bool false, .slice none 0 0, .int .i64 0, .bool false, .slice none 0 0, .int .i64 0] 29)
 have r := ibx_two w (.cells #[.bool x.lo.s, .slice A1 n1 c1, .int .i64 x.lo.e, .bool x.hi.s, .slice A2 n2 c2, .int .i64 x.hi.e] 29) (.cells #[.bool y.lo.s, .slice A3 n3 c3, .int .i64 y.lo.e, .bool y.hi.s, .slice A4 n4 c4, .int .i64 y.hi.e] 29) false none 0 0 0 false none 0 0 0
 obtain ⟨a0, a1, a2, a3, a4, a5⟩ := xa.held
 obtain ⟨b0, b1, b2, b3, b4, b5⟩ := xb.held
 have G := mv BB rfl (J5 hT h1 h2 h3 h4)
 clear hT h1 h2 h3 h4
 obtain ⟨hT, h1, h2, h3, h4⟩ := G
 go_enter Tryz.func147, Tryz.ntmps147
 obtain ⟨o1, ho1⟩ : ∃ o, o = addO S x.lo y.lo := ⟨_, rfl⟩
 have HO1 := Lib.hid ho1
 clear ho1
 have HC1 : Cod o1 := by rw [HO1.out]; exact addO_cod
 go_wp2_with fail
 refine (tellq_to HO1.out (dadd_tell S (a := x.lo) (b := y.lo) hT h1 h3)).mono ?_
 rintro en w1 ⟨A5, n5, c5, rfl, h5, b⟩
 replace BB := bnx BB b
 have G := mv b rfl (J18 hT h1 h2 h3 h4 r a0 a1 a2 a3 a4 a5 b0 b1 b2 b3 b4 b5)
 clear b hT h1 h2 h3 h4 r a0 a1 a2 a3 a4 a5 b0 b1 b2 b3 b4 b5
 obtain ⟨hT, h1, h2, h3, h4, r, a0, a1, a2, a3, a4, a5, b0, b1, b2, b3, b4, b5⟩ := G
 go_wp2_with fail
 refine (must_run HC1 h5).mono ?_
 rintro en w2 (⟨v1, hv1, A6, n6, c6, rfl, h6, b⟩ | ⟨kk, hk, hk0, rfl, b⟩)
 rotate_left
 ·replace BB := bnx BB b
  clear b
  have HKK := Lib.hid (And.intro hk hk0)
  clear hk hk0
  go_wp2
  exact ⟨rfl, .inr ⟨kk, (HQ.out.trans (by simp only [sumO, thn, ← HO1.out, HKK.out.1])), HKK.out.2, rfl, BB⟩⟩
 have HV1 := Lib.hid hv1
 clear hv1
 clear h5
 replace BB := bnx BB b
 have G := mv b rfl (J18 hT h1 h2 h3 h4 r a0 a1 a2 a3 a4 a5 b0 b1 b2 b3 b4 b5)
 clear b hT h1 h2 h3 h4 r a0 a1 a2 a3 a4 a5 b0 b1 b2 b3 b4 b5
 obtain ⟨hT, h1, h2, h3, h4, r, a0, a1, a2, a3, a4, a5, b0, b1, b2, b3, b4, b5⟩ := G
 obtain ⟨o2, ho2⟩ : ∃ o, o = rndO S v1 p false := ⟨_, rfl⟩
 have HO2 := Lib.hid ho2
 clear ho2
 go_wp2_with fail
 refine (runq_to HO2.out (down_run S hT h6)).mono ?_
 rintro en w3 (⟨v2, hv2, A7, n7, c7, rfl, h7, b⟩ | ⟨kk, hk, hk0, rfl, b⟩)
 rotate_left
 ·replace BB := bnx BB b
  clear b
  have HKK := Lib.hid (And.intro hk hk0)
  clear hk hk0
  go_wp2
  exact ⟨rfl, .inr ⟨kk, (HQ.out.trans (by simp only [sumO, thn, ← HO1.out, HV1.out, ← HO2.out, HKK.out.1])), HKK.out.2, rfl, BB⟩⟩
 have HV2 := Lib.hid hv2
 clear hv2
 replace BB := bnx BB b
 have G := mv b rfl (J19 hT h1 h2 h3 h4 r a0 a1 a2 a3 a4 a5 b0 b1 b2 b3 b4 b5 h6)
 clear b hT h1 h2 h3 h4 r a0 a1 a2 a3 a4 a5 b0 b1 b2 b3 b4 b5 h6
 obtain ⟨hT, h1, h2, h3, h4, r, a0, a1, a2, a3, a4, a5, b0, b1, b2, b3, b4, b5, h6⟩ := G
 obtain ⟨y0, y1, y2⟩ := (Box.new w3 v2.s A7 n7 c7 v2.e).held
 have b := below_alloc w3 (.cells #[.bool v2.s, .slice A7 n7 c7, .int .i64 v2.e] 27)
 replace BB := bnx BB b
 have G := mv b rfl (J20 hT h1 h2 h3 h4 r a0 a1 a2 a3 a4 a5 b0 b1 b2 b3 b4 b5 h6 h7)
 clear b hT h1 h2 h3 h4 r a0 a1 a2 a3 a4 a5 b0 b1 b2 b3 b4 b5 h6 h7
 obtain ⟨hT, h1, h2, h3, h4, r, a0, a1, a2, a3, a4, a5, b0, b1, b2, b3, b4, b5, h6, h7⟩ := G
 clear h6
 obtain ⟨o3, ho3⟩ : ∃ o, o = addO S x.hi y.hi := ⟨_, rfl⟩
 have HO3 := Lib.hid ho3
 clear ho3
 have HC3 : Cod o3 := by rw [HO3.out]; exact addO_cod
 go_wp2_with fail
 refine (tellq_to HO3.out (dadd_tell S (a := x.hi) (b := y.hi) hT h2 h4)).mono ?_
 rintro en w4 ⟨A8, n8, c8, rfl, h8, b⟩
 replace BB := bnx BB b
 have G := mv b rfl (J22 hT h1 h2 h3 h4 r a0 a1 a2 a3 a4 a5 b0 b1 b2 b3 b4 b5 h7 y0 y1 y2)
 clear b hT h1 h2 h3 h4 r a0 a1 a2 a3 a4 a5 b0 b1 b2 b3 b4 b5 h7 y0 y1 y2
 obtain ⟨hT, h1, h2, h3, h4, r, a0, a1, a2, a3, a4, a5, b0, b1, b2, b3, b4, b5, h7, y0, y1, y2⟩ := G
 go_wp2_with fail
 refine (must_run HC3 h8).mono ?_
 rintro en w5 (⟨v3, hv3, A9, n9, c9, rfl, h9, b⟩ | ⟨kk, hk, hk0, rfl, b⟩)
 rotate_left
 ·replace BB := bnx BB b
  clear b
  have HKK := Lib.hid (And.intro hk hk0)
  clear hk hk0
  go_wp2
  exact ⟨rfl, .inr ⟨kk, (HQ.out.trans (by simp only [sumO, thn, ← HO1.out, HV1.out, ← HO2.out, HV2.out, ← HO3.out, HKK.out.1])), HKK.out.2, rfl, BB⟩⟩
 have HV3 := Lib.hid hv3
 clear hv3
 clear h8
 replace BB := bnx BB b
 have G := mv b rfl (J22 hT h1 h2 h3 h4 r a0 a1 a2 a3 a4 a5 b0 b1 b2 b3 b4 b5 h7 y0 y1 y2)
 clear b hT h1 h2 h3 h4 r a0 a1 a2 a3 a4 a5 b0 b1 b2 b3 b4 b5 h7 y0 y1 y2
 obtain ⟨hT, h1, h2, h3, h4, r, a0, a1, a2, a3, a4, a5, b0, b1, b2, b3, b4, b5, h7, y0, y1, y2⟩ := G
 obtain ⟨o4, ho4⟩ : ∃ o, o = rndO S v3 p true := ⟨_, rfl⟩
 have HO4 := Lib.hid ho4
 clear ho4
 go_wp2_with fail
 refine (runq_to HO4.out (up_run S hT h9)).mono ?_
 rintro en w6 (⟨v4, hv4, A10, n10, c10, rfl, h10, b⟩ | ⟨kk, hk, hk0, rfl, b⟩)
 rotate_left
 ·replace BB := bnx BB b
  clear b
  have HKK := Lib.hid (And.intro hk hk0)
  clear hk hk0
  go_wp2
  exact ⟨rfl, .inr ⟨kk, (HQ.out.trans (by simp only [sumO, thn, ← HO1.out, HV1.out, ← HO2.out, HV2.out, ← HO3.out, HV3.out, ← HO4.out, HKK.out.1])), HKK.out.2, rfl, BB⟩⟩
 have HV4 := Lib.hid hv4
 clear hv4
 replace BB := bnx BB b
 have G := mv b rfl (J23 hT h1 h2 h3 h4 r a0 a1 a2 a3 a4 a5 b0 b1 b2 b3 b4 b5 h7 y0 y1 y2 h9)
 clear b hT h1 h2 h3 h4 r a0 a1 a2 a3 a4 a5 b0 b1 b2 b3 b4 b5 h7 y0 y1 y2 h9
 obtain ⟨hT, h1, h2, h3, h4, r, a0, a1, a2, a3, a4, a5, b0, b1, b2, b3, b4, b5, h7, y0, y1, y2, h9⟩ := G
 obtain ⟨u0, u1, u2⟩ := (Box.new w6 v4.s A10 n10 c10 v4.e).held
 have b := below_alloc w6 (.cells #[.bool v4.s, .slice A10 n10 c10, .int .i64 v4.e] 27)
 replace BB := bnx BB b
 have G := mv b rfl (J24 hT h1 h2 h3 h4 r a0 a1 a2 a3 a4 a5 b0 b1 b2 b3 b4 b5 h7 y0 y1 y2 h9 h10)
 clear b hT h1 h2 h3 h4 r a0 a1 a2 a3 a4 a5 b0 b1 b2 b3 b4 b5 h7 y0 y1 y2 h9 h10
 obtain ⟨hT, h1, h2, h3, h4, r, a0, a1, a2, a3, a4, a5, b0, b1, b2, b3, b4, b5, h7, y0, y1, y2, h9, h10⟩ := G
 obtain ⟨f0, f1, f2, f3, f4, f5⟩ := r.open
 obtain ⟨z0, z1, z2, z3, z4, z5⟩ := r.held
 go_wp2
 have qq := r.put v2.s A7 n7 c7 v2.e v4.s A10 n10 c10 v4.e
 have hN := h7.put6 r (.bool v2.s) (.slice A7 n7 c7) (.int .i64 v2.e) (.bool v4.s) (.slice A10 n10 c10) (.int .i64 v4.e)
 have hM := h10.put6 r (.bool v2.s) (.slice A7 n7 c7) (.int .i64 v2.e) (.bool v4.s) (.slice A10 n10 c10) (.int .i64 v4.e)
 have HB3 := below_put6 (g := w.heap.size + 2) BB (by omega) (.bool v2.s) (.slice A7 n7 c7) (.int .i64 v2.e) (.bool v4.s) (.slice A10 n10 c10) (.int .i64 v4.e)
 obtain ⟨z0, z1, z2, z3, z4, z5⟩ := qq.held
 exact bodyPost_ret (v := .agg #[.bool v2.s, .slice A7 n7 c7, .int .i64 v2.e, .bool v4.s, .slice A10 n10 c10, .int .i64 v4.e]) (by simp [results, Tryz.results147, go_sem, z0, z1, z2, z3, z4, z5]) rfl (.inl ⟨⟨v2, v4⟩, (HQ.out.trans (by simp only [sumO, thn, ← HO1.out, HV1.out, ← HO2.out, HV2.out, ← HO3.out, HV3.out, ← HO4.out, HV4.out])), _, _, _, _, _, _, rfl, hN, hM, HB3⟩)

theorem outward_run (S : Sc) {a b : Rw} {p : Int} {w : World} {A1 : Option Addr} {n1 c1 : Nat} {A2 : Option Addr} {n2 c2 : Nat} (hT : Tab w) (h1 : Rd w .u64 Go.Proofs.YtlpjlmophlikeaaGreatDoor.W A1 n1 c1 a.l) (h2 : Rd w .u64 Go.Proofs.YtlpjlmophlikeaaGreatDoor.W A2 n2 c2 b.l) :
  Calls Tryz.prog 153 #[.agg #[.bool a.s, .slice A1 n1 c1, .int .i64 a.e], .agg #[.bool b.s, .slice A2 n2 c2, .int .i64 b.e], .int .i64 p] w (RunI (outO S a b p) w) := by
 obtain ⟨q, hq⟩ : ∃ q : Except Int Iv, q = outO S a b p := ⟨_, rfl⟩
 rw [← hq]
 have HQ := Lib.hid hq
 clear hq
 have BB := three_below w (.cells #[.bool a.s, .slice A1 n1 c1, .int .i64 a.e] 27) (.cells #[.bool b.s, .slice A2 n2 c2, .int .i64 b.e] 27) (.cells #[.bool false, .slice none 0 0, .int .i64 0, .bool false, .slice none 0 0, .int .i64 0] 29)
 obtain ⟨a10, a11, a12, a20, a21, a22⟩ := ((two_new w a.s b.s A1 A2 n1 c1 n2 c2 a.e b.e).alloc (.cells #[.bool false, .slice none 0 0, .int .i64 0, .bool false, .slice none 0 0, .int .i64 0] 29)).held
 have r := ibx_two w (.cells #[.bool a.s, .slice A1 n1 c1, .int .i64 a.e] 27) (.cells #[.bool b.s, .slice A2 n2 c2, .int .i64 b.e] 27) false none 0 0 0 false none 0 0 0
 have G := mv BB rfl (J3 hT h1 h2)
 clear hT h1 h2
 obtain ⟨hT, h1, h2⟩ := G
 go_enter Tryz.func153, Tryz.ntmps153
 obtain ⟨o1, ho1⟩ : ∃ o, o = rndO S a p false := ⟨_, rfl⟩
 have HO1 := Lib.hid ho1
 clear ho1
 go_wp2_with fail
 refine (runq_to HO1.out (down_run S hT h1)).mono ?_
 rintro en w1 (⟨v1, hv1, A3, n3, c3, rfl, h3, b⟩ | ⟨kk, hk, hk0, rfl, b⟩)
 rotate_left
 ·replace BB := bnx BB b
  clear b
  have HKK := Lib.hid (And.intro hk hk0)
  clear hk hk0
  go_wp2
  exact ⟨rfl, .inr ⟨kk, (HQ.out.trans (by simp only [outO, thn, ← HO1.out, HKK.out.1])), HKK.out.2, rfl, BB⟩⟩
 have HV1 := Lib.hid hv1
 clear hv1
 replace BB := bnx BB b
 have G := mv b rfl (J7 hT h1 h2 r a20 a21 a22)
 clear b hT h1 h2 r a20 a21 a22
 obtain ⟨hT, h1, h2, r, a20, a21, a22⟩ := G
 have ny : w1.heap.size ≠ w.heap.size + 2 := by have := r.gl; omega
 obtain ⟨y0, y1, y2⟩ := (Box.new w1 v1.s A3 n3 c3 v1.e).held
 have b := below_alloc w1 (.cells #[.bool v1.s, .slice A3 n3 c3, .int .i64 v1.e] 27)
 replace BB := bnx BB b
 have G := mv b rfl (J8 hT h1 h2 r a20 a21 a22 h3)
 clear b hT h1 h2 r a20 a21 a22 h3
 obtain ⟨hT, h1, h2, r, a20, a21, a22, h3⟩ := G
 obtain ⟨o2, ho2⟩ : ∃ o, o = rndO S b p true := ⟨_, rfl⟩
 have HO2 := Lib.hid ho2
 clear ho2
 go_wp2_with fail
 have b : Below (w1.alloc (.cells #[.bool v1.s, .slice A3 n3 c3, .int .i64 v1.e] 27)).heap.size (w1.alloc (.cells #[.bool v1.s, .slice A3 n3 c3, .int .i64 v1.e] 27)) (World.drew (w1.alloc (.cells #[.bool v1.s, .slice A3 n3 c3, .int .i64 v1.e] 27))) := below_drewN (Below.refl _ _) 1
 replace BB := bnx BB b
 have G := mv b rfl (J11 hT h1 h2 r a20 a21 a22 h3 y0 y1 y2)
 clear b hT h1 h2 r a20 a21 a22 h3 y0 y1 y2
 obtain ⟨hT, h1, h2, r, a20, a21, a22, h3, y0, y1, y2⟩ := G
 refine wp_region_held_drew (S := fun w' => w'.cell? ⟨w1.heap.size, 0, none⟩ = some (.bool v1.s) ∧ w'.cell? ⟨w1.heap.size, 1, none⟩ = some (.slice A3 n3 c3) ∧ w'.cell? ⟨w1.heap.size, 2, none⟩ = some (.int .i64 v1.e) ∧ w'.cell? ⟨w.heap.size + 1, 0, none⟩ = some (.bool b.s) ∧ w'.cell? ⟨w.heap.size + 1, 1, none⟩ = some (.slice A2 n2 c2) ∧ w'.cell? ⟨w.heap.size + 1, 2, none⟩ = some (.int .i64 b.e)) (by kernel_rfl) (by exact ⟨y0, y1, y2, a20, a21, a22⟩) (fun hHeldv0 => ?_)
 generalize World.drew (w1.alloc (.cells #[.bool v1.s, .slice A3 n3 c3, .int .i64 v1.e] 27)) = wd at *
 refine tl 0 ?_
 refine tl 1 ?_
 refine tl 2 ?_
 refine rdy 3 fun K hK => ?_
 go_simp
 refine (runq_to HO2.out (up_run S hT h2)).mono ?_
 rintro en w' (⟨v2, hv2, A4, n4, c4, rfl, h4, b⟩ | ⟨kk, hk, hk0, rfl, b⟩)
 rotate_left
 ·exact ⟨rfl, .inr ⟨kk, (HQ.out.trans (by simp only [outO, thn, ← HO1.out, HV1.out, ← HO2.out, hk])), hk0, rfl, below_next BB BB.size b (by rfl) (by rfl) (by rfl) (by rfl)⟩⟩
 have HV2 := Lib.hid hv2
 clear hv2
 replace BB := below_next BB BB.size b (by rfl) (by rfl) (by rfl) (by rfl)
 have G := mv b (by rfl) <| And.intro hT <| And.intro h1 <| And.intro h2 <| And.intro r <| And.intro a20 <| And.intro a21 <| And.intro a22 <| And.intro h3 <| And.intro y0 <| And.intro y1 <| y2
 clear b hT h1 h2 r a20 a21 a22 h3 y0 y1 y2
 obtain ⟨hT, h1, h2, r, a20, a21, a22, h3, y0, y1, y2⟩ := G
 obtain ⟨f0, f1, f2, f3, f4, f5⟩ := r.open
 obtain ⟨z0, z1, z2, z3, z4, z5⟩ := r.held
 refine hK.out _ _ (by exact ⟨y0, y1, y2, a20, a21, a22⟩) (fun hHeldv1 => ?_)
 clear hK K hHeldv0
 try simp only [Act.put]
 refine tl 4 ?_
 refine rdy 5 fun K hK => ?_
 go_simp
 refine hK.out _ _ (by exact ⟨cell_oth6 y0 ny, cell_oth6 y1 ny, cell_oth6 y2 ny, cell_oth6 a20 (by omega), cell_oth6 a21 (by omega), cell_oth6 a22 (by omega)⟩) (fun hHeldv2 => ?_)
 clear hK K hHeldv1
 try simp only [Act.put]
 refine wpAnyH_done (by kernel_rfl) ?_ _
 go_wp2
 obtain ⟨f0, f1, f2, f3, f4, f5⟩ := r.open
 obtain ⟨z0, z1, z2, z3, z4, z5⟩ := r.held
 have qq := r.put v1.s A3 n3 c3 v1.e v2.s A4 n4 c4 v2.e
 have hN := h3.put6 r (.bool v1.s) (.slice A3 n3 c3) (.int .i64 v1.e) (.bool v2.s) (.slice A4 n4 c4) (.int .i64 v2.e)
 have hM := h4.put6 r (.bool v1.s) (.slice A3 n3 c3) (.int .i64 v1.e) (.bool v2.s) (.slice A4 n4 c4) (.int .i64 v2.e)
 have HB3 := below_put6 (g := w.heap.size + 2) BB (by omega) (.bool v1.s) (.slice A3 n3 c3) (.int .i64 v1.e) (.bool v2.s) (.slice A4 n4 c4) (.int .i64 v2.e)
 obtain ⟨z0, z1, z2, z3, z4, z5⟩ := qq.held
 exact bodyPost_ret (v := .agg #[.bool v1.s, .slice A3 n3 c3, .int .i64 v1.e, .bool v2.s, .slice A4 n4 c4, .int .i64 v2.e]) (by simp [results, Tryz.results153, go_sem, z0, z1, z2, z3, z4, z5]) rfl (.inl ⟨⟨v1, v2⟩, (HQ.out.trans (by simp only [outO, thn, ← HO1.out, HV1.out, ← HO2.out, HV2.out])), _, _, _, _, _, _, rfl, hN, hM, HB3⟩)

theorem opposite_any {w : World} {x : Iv} {A1 : Option Addr} {n1 c1 : Nat} {A2 : Option Addr} {n2 c2 : Nat} (hT : Tab w) (h1 : Rd w .u64 Go.Proofs.YtlpjlmophlikeaaGreatDoor.W A1 n1 c1 x.lo.l) (h2 : Rd w .u64 Go.Proofs.YtlpjlmophlikeaaGreatDoor.W A2 n2 c2 x.hi.l) (hl1 : n1 ≤ 10000000000000) (hl2 : n2 ≤ 10000000000000) :
  Calls Tryz.prog 149 #[.agg #[.bool x.lo.s, .slice A1 n1 c1, .int .i64 x.lo.e, .bool x.hi.s, .slice A2 n2 c2, .int .i64 x.hi.e]] w (GivI (turnI x) w) := by
 have BB := two_below w (.cells #[.bool x.lo.s, .slice A1 n1 c1, .int .i64 x.lo.e, .bool x.hi.s, .slice A2 n2 c2, .int .i64 x.hi.e] 29) (.cells #[.bool false, .slice none 0 0, .int .i64 0, .bool false, .slice none 0 0, .int .i64 0] 29)
 have xa := (Ibx.new w x.lo.s A1 n1 c1 x.lo.e x.hi.s A2 n2 c2 x.hi.e).alloc (.cells #[.bool false, .slice none 0 0, .int .i64 0, .bool false, .slice none 0 0, .int .i64 0] 29)
 have r := ibx_one w (.cells #[.bool x.lo.s, .slice A1 n1 c1, .int .i64 x.lo.e, .bool x.hi.s, .slice A2 n2 c2, .int .i64 x.hi.e] 29) false none 0 0 0 false none 0 0 0
 obtain ⟨a0, a1, a2, a3, a4, a5⟩ := xa.held
 have HL1 := Lib.hid hl1
 have HL2 := Lib.hid hl2
 clear hl1 hl2 xa
 have G := mv BB rfl (J3 hT h1 h2)
 clear hT h1 h2
 obtain ⟨hT, h1, h2⟩ := G
 go_enter Tryz.func149, Tryz.ntmps149
 go_wp2_with fail
 have b : Below ((w.alloc (.cells #[.bool x.lo.s, .slice A1 n1 c1, .int .i64 x.lo.e, .bool x.hi.s, .slice A2 n2 c2, .int .i64 x.hi.e] 29)).alloc (.cells #[.bool false, .slice none 0 0, .int .i64 0, .bool false, .slice none 0 0, .int .i64 0] 29)).heap.size ((w.alloc (.cells #[.bool x.lo.s, .slice A1 n1 c1, .int .i64 x.lo.e, .bool x.hi.s, .slice A2 n2 c2, .int .i64 x.hi.e] 29)).alloc (.cells #[.bool false, .slice none 0 0, .int .i64 0, .bool false, .slice none 0 0, .int .i64 0] 29)) (World.drew ((w.alloc (.cells #[.bool x.lo.s, .slice A1 n1 c1, .int .i64 x.lo.e, .bool x.hi.s, .slice A2 n2 c2, .int .i64 x.hi.e] 29)).alloc (.cells #[.bool false, .slice none 0 0, .int .i64 0, .bool false, .slice none 0 0, .int .i64 0] 29))) := below_drewN (Below.refl _ _) 1
 replace BB := bnx BB b
 have G := mv b rfl (J10 hT h1 h2 r a0 a1 a2 a3 a4 a5)
 clear b hT h1 h2 r a0 a1 a2 a3 a4 a5
 obtain ⟨hT, h1, h2, r, a0, a1, a2, a3, a4, a5⟩ := G
 refine wp_region_held_drew (S := fun w' => w'.cell? ⟨w.heap.size, 0, none⟩ = some (.bool x.lo.s) ∧ w'.cell? ⟨w.heap.size, 1, none⟩ = some (.slice A1 n1 c1) ∧ w'.cell? ⟨w.heap.size, 2, none⟩ = some (.int .i64 x.lo.e) ∧ w'.cell? ⟨w.heap.size, 3, none⟩ = some (.bool x.hi.s) ∧ w'.cell? ⟨w.heap.size, 4, none⟩ = some (.slice A2 n2 c2) ∧ w'.cell? ⟨w.heap.size, 5, none⟩ = some (.int .i64 x.hi.e)) (by kernel_rfl) (by exact ⟨a0, a1, a2, a3, a4, a5⟩) (fun hHeldv0 => ?_)
 generalize World.drew ((w.alloc (.cells #[.bool x.lo.s, .slice A1 n1 c1, .int .i64 x.lo.e, .bool x.hi.s, .slice A2 n2 c2, .int .i64 x.hi.e] 29)).alloc (.cells #[.bool false, .slice none 0 0, .int .i64 0, .bool false, .slice none 0 0, .int .i64 0] 29)) = wd at *
 refine tl 0 ?_
 refine tl 1 ?_
 refine tl 3 ?_
 refine tl 4 ?_
 refine rdy 2 fun K hK => ?_
 go_simp
 refine (dneg_raw (s1 := x.hi.s) (e1 := x.hi.e) hT h2 HL2.out).mono ?_
 rintro en w' ⟨A3, c3, rfl, h3, b⟩
 replace BB := below_next BB BB.size b (by rfl) (by rfl) (by rfl) (by rfl)
 have G := mv b (by rfl) <| And.intro hT <| And.intro h1 <| And.intro h2 <| And.intro r <| And.intro a0 <| And.intro a1 <| And.intro a2 <| And.intro a3 <| And.intro a4 <| a5
 clear b hT h1 h2 r a0 a1 a2 a3 a4 a5
 obtain ⟨hT, h1, h2, r, a0, a1, a2, a3, a4, a5⟩ := G
 refine hK.out _ _ (by exact ⟨a0, a1, a2, a3, a4, a5⟩) (fun hHeldv1 => ?_)
 clear hK K hHeldv0
 try simp only [Act.put]
 refine rdy 5 fun K hK => ?_
 go_simp
 refine (dneg_raw (s1 := x.lo.s) (e1 := x.lo.e) hT h1 HL1.out).mono ?_
 rintro en w' ⟨A4, c4, rfl, h4, b⟩
 replace BB := below_next BB BB.size b (by rfl) (by rfl) (by rfl) (by rfl)
 have G := mv b (by rfl) <| And.intro hT <| And.intro h1 <| And.intro h2 <| And.intro r <| And.intro a0 <| And.intro a1 <| And.intro a2 <| And.intro a3 <| And.intro a4 <| And.intro a5 <| h3
 clear b hT h1 h2 r a0 a1 a2 a3 a4 a5 h3
 obtain ⟨hT, h1, h2, r, a0, a1, a2, a3, a4, a5, h3⟩ := G
 obtain ⟨f0, f1, f2, f3, f4, f5⟩ := r.open
 obtain ⟨z0, z1, z2, z3, z4, z5⟩ := r.held
 refine hK.out _ _ (by exact ⟨a0, a1, a2, a3, a4, a5⟩) (fun hHeldv2 => ?_)
 clear hK K hHeldv1
 try simp only [Act.put]
 refine tl 6 ?_
 refine rdy 7 fun K hK => ?_
 go_simp
 refine hK.out _ _ (by exact ⟨cell_oth6 a0 (by omega), cell_oth6 a1 (by omega), cell_oth6 a2 (by omega), cell_oth6 a3 (by omega), cell_oth6 a4 (by omega), cell_oth6 a5 (by omega)⟩) (fun hHeldv3 => ?_)
 clear hK K hHeldv2
 try simp only [Act.put]
 refine wpAnyH_done (by kernel_rfl) ?_ _
 go_wp2
 have qq := r.put (negR x.hi.s x.hi.l x.hi.e) A3 n2 c3 x.hi.e (negR x.lo.s x.lo.l x.lo.e) A4 n1 c4 x.lo.e
 have hN := h3.put6 r (.bool (negR x.hi.s x.hi.l x.hi.e)) (.slice A3 n2 c3) (.int .i64 x.hi.e) (.bool (negR x.lo.s x.lo.l x.lo.e)) (.slice A4 n1 c4) (.int .i64 x.lo.e)
 have hM := h4.put6 r (.bool (negR x.hi.s x.hi.l x.hi.e)) (.slice A3 n2 c3) (.int .i64 x.hi.e) (.bool (negR x.lo.s x.lo.l x.lo.e)) (.slice A4 n1 c4) (.int .i64 x.lo.e)
 have HB3 := below_put6 (g := w.heap.size + 1) BB (by omega) (.bool (negR x.hi.s x.hi.l x.hi.e)) (.slice A3 n2 c3) (.int .i64 x.hi.e) (.bool (negR x.lo.s x.lo.l x.lo.e)) (.slice A4 n1 c4) (.int .i64 x.lo.e)
 obtain ⟨z0, z1, z2, z3, z4, z5⟩ := qq.held
 exact bodyPost_ret (v := .agg #[.bool (negR x.hi.s x.hi.l x.hi.e), .slice A3 n2 c3, .int .i64 x.hi.e, .bool (negR x.lo.s x.lo.l x.lo.e), .slice A4 n1 c4, .int .i64 x.lo.e]) (by simp [results, Tryz.results149, go_sem, z0, z1, z2, z3, z4, z5]) rfl ⟨_, _, _, _, _, _, rfl, hN, hM, HB3⟩

end Go.Proofs.YtlpjlmophlikeaaGreatDoor
