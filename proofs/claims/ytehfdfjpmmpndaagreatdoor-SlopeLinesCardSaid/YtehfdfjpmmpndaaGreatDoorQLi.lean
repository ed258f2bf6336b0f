/-
  Contracts of the closures of arith's Add, Sub, Mul, Neg and Sqrt, at this translation.
-/
import Derived.Test.YtehfdfjpmmpndaaGreatDoorQTd
import Derived.Test.YtehfdfjpmmpndaaGreatDoorQLg
set_option maxHeartbeats 8000000
set_option maxRecDepth 100000
namespace Go.Proofs.YtehfdfjpmmpndaaGreatDoor
open Go.RowKit
variable {A1 A2 A3 A4 : Option Addr} {c1 c2 c3 c4 ga gb gp n1 n2 n3 n4 : Nat} {p : Int} {w : World} {x y : Iv}
theorem add1_run (S : Sc) (hT : Tab w) (h1 : Rd w .u64 W A1 n1 c1 x.lo.l) (h2 : Rd w .u64 W A2 n2 c2 x.hi.l) (h3 : Rd w .u64 W A3 n3 c3 y.lo.l) (h4 : Rd w .u64 W A4 n4 c4 y.hi.l) (xa : Ibx w ga x.lo.s A1 n1 c1 x.lo.e x.hi.s A2 n2 c2 x.hi.e) (xb : Ibx w gb y.lo.s A3 n3 c3 y.lo.e y.hi.s A4 n4 c4 y.hi.e) (xp : Cel w gp p) :
  Calls Tryz.prog 107 #[.pointer (some ⟨ga, 0, none⟩), .pointer (some ⟨gb, 0, none⟩), .pointer (some ⟨gp, 0, none⟩)] w (RunI (sumO S x y p) w) := by
 obtain ⟨q, hq⟩ : ∃ q : Except Int Iv, q = sumO S x y p := ⟨_, rfl⟩
 rw [← hq]
 have HQ := hyd hq
 clear hq
 have BB := below_alloc w (.cells #[.bool false, .slice none 0 0, .int .i64 0, .bool false, .slice none 0 0, .int .i64 0] 30)
 have r := Ibx.new w false none 0 0 0 false none 0 0 0
 have la := xa.gl
 have lb := xb.gl
 have lp := xp.gl
 obtain ⟨a0, a1, a2, a3, a4, a5⟩ := xa.held
 obtain ⟨e0, e1, e2, e3, e4, e5⟩ := xb.held
 have p0 := xp.c0
 clear xa xp xb
 have G := mv BB rfl (J18 hT h1 h2 h3 h4 a0 a1 a2 a3 a4 a5 e0 e1 e2 e3 e4 e5 p0)
 clear hT h1 h2 h3 h4 a0 a1 a2 a3 a4 a5 e0 e1 e2 e3 e4 e5 p0
 obtain ⟨hT, h1, h2, h3, h4, a0, a1, a2, a3, a4, a5, e0, e1, e2, e3, e4, e5, p0⟩ := G
 go_enter Tryz.func107, Tryz.ntmps107
 obtain ⟨o1, ho1⟩ : ∃ o, o = sumO S x y p := ⟨_, rfl⟩
 have HO1 := hyd ho1
 clear ho1
 go_wp2_with fail
 refine (runi_to HO1.out (sum_run S hT h1 h2 h3 h4)).mono ?_
 rintro en w1 (⟨v1, hv1, A5, n5, c5, A6, n6, c6, rfl, h5, h6, b⟩ | ⟨kk, hk, hk0, rfl, b⟩)
 rotate_left
 ·replace BB := bnx BB b
  clear b
  have HKK := hyd (And.intro hk hk0)
  clear hk hk0
  go_wp2
  exact ⟨rfl, .inr ⟨kk, (HQ.out.trans (by simp only [← HO1.out, HKK.out.1])), HKK.out.2, rfl, BB⟩⟩
 have HV1 := hyd hv1
 clear hv1
 replace BB := bnx BB b
 have G := mv b rfl (J19 hT h1 h2 h3 h4 a0 a1 a2 a3 a4 a5 e0 e1 e2 e3 e4 e5 p0 r)
 clear b hT h1 h2 h3 h4 a0 a1 a2 a3 a4 a5 e0 e1 e2 e3 e4 e5 p0 r
 obtain ⟨hT, h1, h2, h3, h4, a0, a1, a2, a3, a4, a5, e0, e1, e2, e3, e4, e5, p0, r⟩ := G
 have HL : q = .ok v1 := by rw [HQ.out, ← HO1.out, HV1.out]
 obtain ⟨f0, f1, f2, f3, f4, f5⟩ := r.open
 obtain ⟨z0, z1, z2, z3, z4, z5⟩ := r.held
 go_wp2
 exact ret6 rfl rfl rfl r h5 h6 BB (by omega) fun _ hN hM HB3 => (.inl ⟨v1, HL, _, _, _, _, _, _, rfl, hN, hM, HB3⟩)
theorem sub1_run (S : Sc) (hT : Tab w) (h1 : Rd w .u64 W A1 n1 c1 x.lo.l) (h2 : Rd w .u64 W A2 n2 c2 x.hi.l) (h3 : Rd w .u64 W A3 n3 c3 y.lo.l) (h4 : Rd w .u64 W A4 n4 c4 y.hi.l) (xa : Ibx w ga x.lo.s A1 n1 c1 x.lo.e x.hi.s A2 n2 c2 x.hi.e) (xb : Ibx w gb y.lo.s A3 n3 c3 y.lo.e y.hi.s A4 n4 c4 y.hi.e) (xp : Cel w gp p) (hl1 : n3 ≤ 10000000000000) (hl2 : n4 ≤ 10000000000000) :
  Calls Tryz.prog 109 #[.pointer (some ⟨ga, 0, none⟩), .pointer (some ⟨gb, 0, none⟩), .pointer (some ⟨gp, 0, none⟩)] w (RunI (sumO S x (turnI y) p) w) := by
 obtain ⟨q, hq⟩ : ∃ q : Except Int Iv, q = sumO S x (turnI y) p := ⟨_, rfl⟩
 rw [← hq]
 have HQ := hyd hq
 clear hq
 have BB := below_alloc w (.cells #[.bool false, .slice none 0 0, .int .i64 0, .bool false, .slice none 0 0, .int .i64 0] 30)
 have r := Ibx.new w false none 0 0 0 false none 0 0 0
 have la := xa.gl
 have lb := xb.gl
 have lp := xp.gl
 obtain ⟨a0, a1, a2, a3, a4, a5⟩ := xa.held
 obtain ⟨e0, e1, e2, e3, e4, e5⟩ := xb.held
 have p0 := xp.c0
 clear xa xp xb
 have G := mv BB rfl (J18 hT h1 h2 h3 h4 a0 a1 a2 a3 a4 a5 e0 e1 e2 e3 e4 e5 p0)
 clear hT h1 h2 h3 h4 a0 a1 a2 a3 a4 a5 e0 e1 e2 e3 e4 e5 p0
 obtain ⟨hT, h1, h2, h3, h4, a0, a1, a2, a3, a4, a5, e0, e1, e2, e3, e4, e5, p0⟩ := G
 have HL1 := hyd hl1
 have HL2 := hyd hl2
 clear hl1 hl2
 obtain ⟨yt, hyt⟩ : ∃ yt, yt = turnI y := ⟨_, rfl⟩
 have HYT := hyd hyt
 clear hyt
 go_enter Tryz.func109, Tryz.ntmps109
 obtain ⟨o1, ho1⟩ : ∃ o, o = sumO S x yt p := ⟨_, rfl⟩
 have HO1 := hyd ho1
 clear ho1
 go_wp2_with fail
 have b := drew_b (w.alloc (.cells #[.bool false, .slice none 0 0, .int .i64 0, .bool false, .slice none 0 0, .int .i64 0] 30))
 replace BB := bnx BB b
 have G := mv b rfl (J19 hT h1 h2 h3 h4 a0 a1 a2 a3 a4 a5 e0 e1 e2 e3 e4 e5 p0 r)
 clear b hT h1 h2 h3 h4 a0 a1 a2 a3 a4 a5 e0 e1 e2 e3 e4 e5 p0 r
 obtain ⟨hT, h1, h2, h3, h4, a0, a1, a2, a3, a4, a5, e0, e1, e2, e3, e4, e5, p0, r⟩ := G
 generalize hwd : World.drew (w.alloc (.cells #[.bool false, .slice none 0 0, .int .i64 0, .bool false, .slice none 0 0, .int .i64 0] 30)) = wd at *
 have HS := J13 a0 a1 a2 a3 a4 a5 e0 e1 e2 e3 e4 e5 p0
 revert HS
 apply rg hwd
 intro hHeldv0
 clear hwd
 refine tl 0 ?_
 refine tl 1 ?_
 refine tl 3 ?_
 refine rdy 2 fun K hK => ?_
 go_simp
 refine (show Calls _ _ _ _ (GivI yt _) from by rw [HYT.out]; exact opposite_any hT h3 h4 HL1.out HL2.out).mono ?_
 rintro en w' ⟨A5, n5, c5, A6, n6, c6, rfl, h5, h6, b⟩
 replace BB := bnx BB b
 have G := mv b (by rfl) (J19 hT h1 h2 h3 h4 a0 a1 a2 a3 a4 a5 e0 e1 e2 e3 e4 e5 p0 r)
 clear b hT h1 h2 h3 h4 a0 a1 a2 a3 a4 a5 e0 e1 e2 e3 e4 e5 p0 r
 obtain ⟨hT, h1, h2, h3, h4, a0, a1, a2, a3, a4, a5, e0, e1, e2, e3, e4, e5, p0, r⟩ := G
 refine kp hK ⟨a0, a1, a2, a3, a4, a5, e0, e1, e2, e3, e4, e5, p0⟩ fun hHeldv1 => ?_
 clear hK K hHeldv0
 try simp only [Act.put]
 refine rdy 4 fun K hK => ?_
 go_simp
 refine (runi_to HO1.out (sum_run S hT h1 h2 h5 h6)).mono ?_
 rintro en w' (⟨v1, hv1, A7, n7, c7, A8, n8, c8, rfl, h7, h8, b⟩ | ⟨kk, hk, hk0, rfl, b⟩)
 rotate_left
 ·exact ⟨rfl, .inr ⟨kk, (by rw [HQ.out, ← HYT.out, ← HO1.out]; exact hk), hk0, rfl, bnx BB b⟩⟩
 have HV1 := hyd hv1
 clear hv1
 replace BB := bnx BB b
 have G := mv b (by rfl) (J21 hT h1 h2 h3 h4 a0 a1 a2 a3 a4 a5 e0 e1 e2 e3 e4 e5 p0 r h5 h6)
 clear b hT h1 h2 h3 h4 a0 a1 a2 a3 a4 a5 e0 e1 e2 e3 e4 e5 p0 r h5 h6
 obtain ⟨hT, h1, h2, h3, h4, a0, a1, a2, a3, a4, a5, e0, e1, e2, e3, e4, e5, p0, r, h5, h6⟩ := G
 obtain ⟨f0, f1, f2, f3, f4, f5⟩ := r.open
 obtain ⟨z0, z1, z2, z3, z4, z5⟩ := r.held
 refine kp hK ⟨a0, a1, a2, a3, a4, a5, e0, e1, e2, e3, e4, e5, p0⟩ fun hHeldv2 => ?_
 clear hK K hHeldv1
 try simp only [Act.put]
 refine rdy 5 fun K hK => ?_
 go_simp
 refine hK.out _ _ (by exact ⟨cell_oth6 a0 (by omega), cell_oth6 a1 (by omega), cell_oth6 a2 (by omega), cell_oth6 a3 (by omega), cell_oth6 a4 (by omega), cell_oth6 a5 (by omega), cell_oth6 e0 (by omega), cell_oth6 e1 (by omega), cell_oth6 e2 (by omega), cell_oth6 e3 (by omega), cell_oth6 e4 (by omega), cell_oth6 e5 (by omega), cell_oth6 p0 (by omega)⟩) (fun hHeldv3 => ?_)
 clear hK K hHeldv2
 try simp only [Act.put]
 refine wpAnyH_done (by kernel_rfl) ?_ _
 have HL : q = .ok v1 := by rw [HQ.out, ← HYT.out, ← HO1.out, HV1.out]
 go_wp2
 obtain ⟨f0, f1, f2, f3, f4, f5⟩ := r.open
 obtain ⟨z0, z1, z2, z3, z4, z5⟩ := r.held
 exact ret6 rfl rfl rfl r h7 h8 BB (by omega) fun _ hN hM HB3 => (.inl ⟨v1, HL, _, _, _, _, _, _, rfl, hN, hM, HB3⟩)
theorem corO_len {F : Rw → Rw → Except Int Rw} {L : List Rw} (h : corO F x y = .ok L) : L ≠ [] ∧ L.length ≤ 1000 := by
 obtain ⟨a, b, c, d, _, _, _, _, rfl⟩ := corO_ok h
 exact ⟨List.cons_ne_nil _ _, show 4 ≤ 1000 by decide⟩
theorem runl_to {f : FuncId} {args : Array Value} {o o' : Except Int (List Rw)} (h : o = o') (hc : Calls Tryz.prog f args w (RunL o' w)) : Calls Tryz.prog f args w (RunL o w) := by subst h; exact hc
theorem mul1_run (S : Sc) (hT : Tab w) (h1 : Rd w .u64 W A1 n1 c1 x.lo.l) (h2 : Rd w .u64 W A2 n2 c2 x.hi.l) (h3 : Rd w .u64 W A3 n3 c3 y.lo.l) (h4 : Rd w .u64 W A4 n4 c4 y.hi.l) (xa : Ibx w ga x.lo.s A1 n1 c1 x.lo.e x.hi.s A2 n2 c2 x.hi.e) (xb : Ibx w gb y.lo.s A3 n3 c3 y.lo.e y.hi.s A4 n4 c4 y.hi.e) (xp : Cel w gp p) :
  Calls Tryz.prog 111 #[.pointer (some ⟨ga, 0, none⟩), .pointer (some ⟨gb, 0, none⟩), .pointer (some ⟨gp, 0, none⟩)] w (RunI (mulI S x y p) w) := by
 obtain ⟨q, hq⟩ : ∃ q : Except Int Iv, q = mulI S x y p := ⟨_, rfl⟩
 rw [← hq]
 have HQ := hyd hq
 clear hq
 have BB := below_alloc w (.cells #[.bool false, .slice none 0 0, .int .i64 0, .bool false, .slice none 0 0, .int .i64 0] 30)
 have r := Ibx.new w false none 0 0 0 false none 0 0 0
 have la := xa.gl
 have lb := xb.gl
 have lp := xp.gl
 obtain ⟨a0, a1, a2, a3, a4, a5⟩ := xa.held
 obtain ⟨e0, e1, e2, e3, e4, e5⟩ := xb.held
 have p0 := xp.c0
 clear xa xp xb
 have G := mv BB rfl (J18 hT h1 h2 h3 h4 a0 a1 a2 a3 a4 a5 e0 e1 e2 e3 e4 e5 p0)
 clear hT h1 h2 h3 h4 a0 a1 a2 a3 a4 a5 e0 e1 e2 e3 e4 e5 p0
 obtain ⟨hT, h1, h2, h3, h4, a0, a1, a2, a3, a4, a5, e0, e1, e2, e3, e4, e5, p0⟩ := G
 go_enter Tryz.func111, Tryz.ntmps111
 obtain ⟨o1, ho1⟩ : ∃ o, o = corO (mulO S) x y := ⟨_, rfl⟩
 have HO1 := hyd ho1
 clear ho1
 go_wp2_with fail
 refine (runl_to HO1.out (corners0_run (F := mulO S) (f := 113) h1 h2 h3 h4 (fun _ _ _ => by kernel_rfl) (fun W2 a b A1 n1 c1 A2 n2 c2 b2 ha hb => product_run S (hT.next b2 rfl) ha hb))).mono ?_
 rintro en w1 (⟨L1, g1, c9, hv1, rfl, hq1, b⟩ | ⟨kk, hk, hk0, rfl, b⟩)
 rotate_left
 ·replace BB := bnx BB b
  clear b
  have HKK := hyd (And.intro hk hk0)
  clear hk hk0
  go_wp2
  exact ⟨rfl, .inr ⟨kk, (HQ.out.trans (by simp only [mulI, thn, ← HO1.out, HKK.out.1])), HKK.out.2, rfl, BB⟩⟩
 have HV1 := hyd hv1
 clear hv1
 clear h1 h2 h3 h4 a0 a1 a2 a3 a4 a5 e0 e1 e2 e3 e4 e5
 replace BB := bnx BB b
 have G := mv b rfl (J3 hT p0 r)
 clear b hT p0 r
 obtain ⟨hT, p0, r⟩ := G
 have HL1 := hyd (corO_len (HO1.out.symm.trans HV1.out))
 obtain ⟨o2, ho2⟩ : ∃ o, o = outO S (leaL S L1) (greL S L1) p := ⟨_, rfl⟩
 have HO2 := hyd ho2
 clear ho2
 obtain ⟨ql, hql⟩ : ∃ z, z = leaL S L1 := ⟨_, rfl⟩
 obtain ⟨qg, hqg⟩ : ∃ z, z = greL S L1 := ⟨_, rfl⟩
 have HQL := hyd hql
 have HQG := hyd hqg
 clear hql hqg
 obtain ⟨n9, hn9⟩ : ∃ z, z = L1.length := ⟨_, rfl⟩
 rw [← hn9]
 have HN9 := hyd hn9
 clear hn9
 go_wp2_with fail
 have b := drew_b w1
 replace BB := bnx BB b
 have G := mv b rfl (J4 hT p0 r hq1)
 clear b hT p0 r hq1
 obtain ⟨hT, p0, r, hq1⟩ := G
 generalize hwd : World.drew w1 = wd at *
 have HS := p0
 revert HS
 apply rg hwd
 intro hHeldv0
 clear hwd
 refine tl 0 ?_
 refine tl 2 ?_
 refine tl 4 ?_
 refine rdy 1 fun K hK => ?_
 go_simp
 refine (show Calls _ _ _ _ (GivQ ql _) from by rw [HQL.out, HN9.out]; exact least_any S hT hq1 HL1.out.1 HL1.out.2).mono ?_
 rintro en w' ⟨A5, n5, c5, rfl, h5, b⟩
 replace BB := bnx BB b
 have G := mv b (by rfl) (J4 hT p0 r hq1)
 clear b hT p0 r hq1
 obtain ⟨hT, p0, r, hq1⟩ := G
 refine kp hK p0 fun hHeldv1 => ?_
 clear hK K hHeldv0
 try simp only [Act.put]
 refine rdy 3 fun K hK => ?_
 go_simp
 refine (show Calls _ _ _ _ (GivQ qg _) from by rw [HQG.out, HN9.out]; exact greatest_any S hT hq1 HL1.out.1 HL1.out.2).mono ?_
 rintro en w' ⟨A6, n6, c6, rfl, h6, b⟩
 replace BB := bnx BB b
 have G := mv b (by rfl) (J5 hT p0 r hq1 h5)
 clear b hT p0 r hq1 h5
 obtain ⟨hT, p0, r, hq1, h5⟩ := G
 refine kp hK p0 fun hHeldv2 => ?_
 clear hK K hHeldv1
 try simp only [Act.put]
 refine rdy 5 fun K hK => ?_
 go_simp
 refine (runi_to HO2.out (show Calls _ _ _ _ (RunI (outO S (leaL S L1) (greL S L1) p) _) from by rw [← HQL.out, ← HQG.out]; exact outward_run S hT h5 h6)).mono ?_
 rintro en w' (⟨v2, hv2, A7, n7, c7, A8, n8, c8, rfl, h7, h8, b⟩ | ⟨kk, hk, hk0, rfl, b⟩)
 rotate_left
 ·exact ⟨rfl, .inr ⟨kk, (HQ.out.trans (by simp only [mulI, thn, ← HO1.out, HV1.out, ← HO2.out, hk])), hk0, rfl, bnx BB b⟩⟩
 have HV2 := hyd hv2
 clear hv2
 replace BB := bnx BB b
 have G := mv b (by rfl) (J6 hT p0 r hq1 h5 h6)
 clear b hT p0 r hq1 h5 h6
 obtain ⟨hT, p0, r, hq1, h5, h6⟩ := G
 obtain ⟨f0, f1, f2, f3, f4, f5⟩ := r.open
 obtain ⟨z0, z1, z2, z3, z4, z5⟩ := r.held
 refine kp hK p0 fun hHeldv3 => ?_
 clear hK K hHeldv2
 try simp only [Act.put]
 refine rdy 6 fun K hK => ?_
 go_simp
 refine hK.out _ _ (by exact cell_oth6 p0 (by omega)) (fun hHeldv4 => ?_)
 clear hK K hHeldv3
 try simp only [Act.put]
 refine wpAnyH_done (by kernel_rfl) ?_ _
 go_wp2
 obtain ⟨f0, f1, f2, f3, f4, f5⟩ := r.open
 obtain ⟨z0, z1, z2, z3, z4, z5⟩ := r.held
 exact ret6 rfl rfl rfl r h7 h8 BB (by omega) fun _ hN hM HB3 => (.inl ⟨v2, (HQ.out.trans (by simp only [mulI, thn, ← HO1.out, HV1.out, ← HO2.out, HV2.out])), _, _, _, _, _, _, rfl, hN, hM, HB3⟩)
theorem neg1_run (S : Sc) (hT : Tab w) (h1 : Rd w .u64 W A1 n1 c1 x.lo.l) (h2 : Rd w .u64 W A2 n2 c2 x.hi.l) (xa : Ibx w ga x.lo.s A1 n1 c1 x.lo.e x.hi.s A2 n2 c2 x.hi.e) (xp : Cel w gp p) (hl1 : n1 ≤ 10000000000000) (hl2 : n2 ≤ 10000000000000) :
  Calls Tryz.prog 120 #[.pointer (some ⟨ga, 0, none⟩), .pointer (some ⟨gp, 0, none⟩)] w (RunI (negI S x p) w) := by
 obtain ⟨q, hq⟩ : ∃ q : Except Int Iv, q = negI S x p := ⟨_, rfl⟩
 rw [← hq]
 have HQ := hyd hq
 clear hq
 have BB := below_alloc w (.cells #[.bool false, .slice none 0 0, .int .i64 0, .bool false, .slice none 0 0, .int .i64 0] 30)
 have r := Ibx.new w false none 0 0 0 false none 0 0 0
 have la := xa.gl
 have lp := xp.gl
 obtain ⟨a0, a1, a2, a3, a4, a5⟩ := xa.held
 have p0 := xp.c0
 clear xa xp
 have G := mv BB rfl (J10 hT h1 h2 a0 a1 a2 a3 a4 a5 p0)
 clear hT h1 h2 a0 a1 a2 a3 a4 a5 p0
 obtain ⟨hT, h1, h2, a0, a1, a2, a3, a4, a5, p0⟩ := G
 have HL1 := hyd hl1
 have HL2 := hyd hl2
 clear hl1 hl2
 obtain ⟨xt, hxt⟩ : ∃ xt, xt = turnI x := ⟨_, rfl⟩
 have HXT := hyd hxt
 clear hxt
 go_enter Tryz.func120, Tryz.ntmps120
 go_wp2_with fail
 refine (show Calls _ _ _ _ (GivI xt _) from by rw [HXT.out]; exact opposite_any hT h1 h2 HL1.out HL2.out).mono ?_
 rintro en w1 ⟨A3, n3, c3, A4, n4, c4, rfl, h3, h4, b⟩
 replace BB := bnx BB b
 have G := mv b rfl (J11 hT h1 h2 a0 a1 a2 a3 a4 a5 p0 r)
 clear b hT h1 h2 a0 a1 a2 a3 a4 a5 p0 r
 obtain ⟨hT, h1, h2, a0, a1, a2, a3, a4, a5, p0, r⟩ := G
 obtain ⟨y0, y1, y2, y3, y4, y5⟩ := (Ibx.new w1 xt.lo.s A3 n3 c3 xt.lo.e xt.hi.s A4 n4 c4 xt.hi.e).held
 have b := below_alloc w1 (.cells #[.bool xt.lo.s, .slice A3 n3 c3, .int .i64 xt.lo.e, .bool xt.hi.s, .slice A4 n4 c4, .int .i64 xt.hi.e] 30)
 clear h1 h2 a0 a1 a2 a3 a4 a5
 replace BB := bnx BB b
 have G := mv b rfl (J5 hT p0 r h3 h4)
 clear b hT p0 r h3 h4
 obtain ⟨hT, p0, r, h3, h4⟩ := G
 obtain ⟨o1, ho1⟩ : ∃ o, o = outO S xt.lo xt.hi p := ⟨_, rfl⟩
 have HO1 := hyd ho1
 clear ho1
 go_wp2_with fail
 refine (runi_to HO1.out (outward_run S hT h3 h4)).mono ?_
 rintro en w2 (⟨v1, hv1, A5, n5, c5, A6, n6, c6, rfl, h5, h6, b⟩ | ⟨kk, hk, hk0, rfl, b⟩)
 rotate_left
 ·replace BB := bnx BB b
  clear b
  have HKK := hyd (And.intro hk hk0)
  clear hk hk0
  go_wp2
  exact ⟨rfl, .inr ⟨kk, (by rw [HQ.out]; unfold negI; rw [← HXT.out, ← HO1.out, HKK.out.1]), HKK.out.2, rfl, BB⟩⟩
 have HV1 := hyd hv1
 clear hv1
 replace BB := bnx BB b
 have G := mv b rfl (J11 hT p0 r h3 h4 y0 y1 y2 y3 y4 y5)
 clear b hT p0 r h3 h4 y0 y1 y2 y3 y4 y5
 obtain ⟨hT, p0, r, h3, h4, y0, y1, y2, y3, y4, y5⟩ := G
 have HL : q = .ok v1 := by rw [HQ.out]; unfold negI; rw [← HXT.out, ← HO1.out, HV1.out]
 obtain ⟨f0, f1, f2, f3, f4, f5⟩ := r.open
 obtain ⟨z0, z1, z2, z3, z4, z5⟩ := r.held
 go_wp2
 exact ret6 rfl rfl rfl r h5 h6 BB (by omega) fun _ hN hM HB3 => (.inl ⟨v1, HL, _, _, _, _, _, _, rfl, hN, hM, HB3⟩)
theorem sqrt1_run (S : Sc) (hT : Tab w) (h1 : Rd w .u64 W A1 n1 c1 x.lo.l) (h2 : Rd w .u64 W A2 n2 c2 x.hi.l) (xa : Ibx w ga x.lo.s A1 n1 c1 x.lo.e x.hi.s A2 n2 c2 x.hi.e) (xp : Cel w gp p) :
  Calls Tryz.prog 122 #[.pointer (some ⟨ga, 0, none⟩), .pointer (some ⟨gp, 0, none⟩)] w (RunI (sqtI S x p) w) := by
 obtain ⟨q, hq⟩ : ∃ q : Except Int Iv, q = sqtI S x p := ⟨_, rfl⟩
 rw [← hq]
 have HQ := hyd hq
 clear hq
 have BB := below_alloc w (.cells #[.bool false, .slice none 0 0, .int .i64 0, .bool false, .slice none 0 0, .int .i64 0] 30)
 have r := Ibx.new w false none 0 0 0 false none 0 0 0
 have la := xa.gl
 have lp := xp.gl
 obtain ⟨a0, a1, a2, a3, a4, a5⟩ := xa.held
 have p0 := xp.c0
 clear xa xp
 have G := mv BB rfl (J10 hT h1 h2 a0 a1 a2 a3 a4 a5 p0)
 clear hT h1 h2 a0 a1 a2 a3 a4 a5 p0
 obtain ⟨hT, h1, h2, a0, a1, a2, a3, a4, a5, p0⟩ := G
 obtain ⟨t, ht⟩ : ∃ t, t = signR x.lo.s x.lo.l x.lo.e := ⟨_, rfl⟩
 have HT := hyd ht
 clear ht
 go_enter Tryz.func122, Tryz.ntmps122
 go_wp2_with fail
 refine (show Calls _ _ _ _ (Ints t _) from by rw [HT.out]; exact dsign_raw (s1 := x.lo.s) (e1 := x.lo.e) hT h1).mono ?_
 rintro en w1 ⟨rfl, b⟩
 replace BB := bnx BB b
 have G := mv b rfl (J11 hT h1 h2 a0 a1 a2 a3 a4 a5 p0 r)
 clear b hT h1 h2 a0 a1 a2 a3 a4 a5 p0 r
 obtain ⟨hT, h1, h2, a0, a1, a2, a3, a4, a5, p0, r⟩ := G
 cases hd : decide (t < 0)
 rotate_left
 ·have HD := hyd (of_decide_eq_true hd)
  go_wp2
  exact ⟨rfl, .inr ⟨4, by rw [HQ.out]; unfold sqtI; rw [if_pos (HT.out ▸ HD.out)], by decide, rfl, BB⟩⟩
 have HD := hyd (of_decide_eq_false hd)
 have HSQ : sqtI S x p = rooI S x p := by unfold sqtI; rw [if_neg (HT.out ▸ HD.out)]
 have HSQ := hyd HSQ
 obtain ⟨o1, ho1⟩ : ∃ o, o = rooI S x p := ⟨_, rfl⟩
 have HO1 := hyd ho1
 clear ho1
 go_wp2_with fail
 refine (runi_to HO1.out (roots_run S hT h1 h2)).mono ?_
 rintro en w2 (⟨v1, hv1, A5, n5, c5, A6, n6, c6, rfl, h5, h6, b⟩ | ⟨kk, hk, hk0, rfl, b⟩)
 rotate_left
 ·replace BB := bnx BB b
  clear b
  have HKK := hyd (And.intro hk hk0)
  clear hk hk0
  go_wp2
  exact ⟨rfl, .inr ⟨kk, (by rw [HQ.out, HSQ.out, ← HO1.out, HKK.out.1]), HKK.out.2, rfl, BB⟩⟩
 have HV1 := hyd hv1
 clear hv1
 replace BB := bnx BB b
 have G := mv b rfl (J11 hT h1 h2 a0 a1 a2 a3 a4 a5 p0 r)
 clear b hT h1 h2 a0 a1 a2 a3 a4 a5 p0 r
 obtain ⟨hT, h1, h2, a0, a1, a2, a3, a4, a5, p0, r⟩ := G
 have HL : q = .ok v1 := by rw [HQ.out, HSQ.out, ← HO1.out, HV1.out]
 obtain ⟨f0, f1, f2, f3, f4, f5⟩ := r.open
 obtain ⟨z0, z1, z2, z3, z4, z5⟩ := r.held
 go_wp2
 exact ret6 rfl rfl rfl r h5 h6 BB (by omega) fun _ hN hM HB3 => (.inl ⟨v1, HL, _, _, _, _, _, _, rfl, hN, hM, HB3⟩)
set_option maxHeartbeats 8000000
set_option maxRecDepth 100000
theorem aquotient_any {up : Bool} :
  Calls Tryz.prog 119 #[.int .i64 p, .bool up] w (fun en w' => ∃ g g2, en = .returned (.func (Fn.func 146) #[] #[.pointer (some ⟨g, 0, none⟩), .pointer (some ⟨g2, 0, none⟩)]) ∧ Cel w' g p ∧ w'.cell? ⟨g2, 0, none⟩ = some (.bool up) ∧ Below w.heap.size w w') := by
 have BB := two_below w (.cells #[.int .i64 p] 3) (.cells #[.bool up] 4)
 have xp := (Cel.new w p).below (below_alloc _ (.cells #[.bool up] 4)) (by simp)
 have xu : ((w.alloc (.cells #[.int .i64 p] 3)).alloc (.cells #[.bool up] 4)).cell? ⟨w.heap.size + 1, 0, none⟩ = some (.bool up) := new_cell1 w _ _ _ 0
 have hmf := make_func
 go_enter Tryz.func119, Tryz.ntmps119
 go_wp2
 exact bodyPost_ret (v := .func (Fn.func 146) #[] #[.pointer (some ⟨w.heap.size, 0, none⟩), .pointer (some ⟨w.heap.size + 1, 0, none⟩)]) (by simp [results, Tryz.results119, go_sem]) rfl ⟨_, _, rfl, xp, xu, BB⟩
theorem div1_run (S : Sc) (hT : Tab w) (h1 : Rd w .u64 W A1 n1 c1 x.lo.l) (h2 : Rd w .u64 W A2 n2 c2 x.hi.l) (h3 : Rd w .u64 W A3 n3 c3 y.lo.l) (h4 : Rd w .u64 W A4 n4 c4 y.hi.l) (xa : Ibx w ga x.lo.s A1 n1 c1 x.lo.e x.hi.s A2 n2 c2 x.hi.e) (xb : Ibx w gb y.lo.s A3 n3 c3 y.lo.e y.hi.s A4 n4 c4 y.hi.e) (xp : Cel w gp p) :
  Calls Tryz.prog 117 #[.pointer (some ⟨gb, 0, none⟩), .pointer (some ⟨ga, 0, none⟩), .pointer (some ⟨gp, 0, none⟩)] w (RunI (divI S x y p) w) := by
 obtain ⟨q, hq⟩ : ∃ q : Except Int Iv, q = divI S x y p := ⟨_, rfl⟩
 rw [← hq]
 have HQ := hyd hq
 clear hq
 have BB := below_alloc w (.cells #[.bool false, .slice none 0 0, .int .i64 0, .bool false, .slice none 0 0, .int .i64 0] 30)
 have r := Ibx.new w false none 0 0 0 false none 0 0 0
 have la := xa.gl
 have lb := xb.gl
 have lp := xp.gl
 obtain ⟨a0, a1, a2, a3, a4, a5⟩ := xa.held
 obtain ⟨e0, e1, e2, e3, e4, e5⟩ := xb.held
 have p0 := xp.c0
 clear xa xp xb
 have G := mv BB rfl (J18 hT h1 h2 h3 h4 a0 a1 a2 a3 a4 a5 e0 e1 e2 e3 e4 e5 p0)
 clear hT h1 h2 h3 h4 a0 a1 a2 a3 a4 a5 e0 e1 e2 e3 e4 e5 p0
 obtain ⟨hT, h1, h2, h3, h4, a0, a1, a2, a3, a4, a5, e0, e1, e2, e3, e4, e5, p0⟩ := G
 obtain ⟨z, hz⟩ : ∃ z, z = hasI S.K y Rw.zero := ⟨_, rfl⟩
 have HZ := hyd hz
 clear hz
 go_enter Tryz.func117, Tryz.ntmps117
 have hnil : Rd (w.alloc (.cells #[.bool false, .slice none 0 0, .int .i64 0, .bool false, .slice none 0 0, .int .i64 0] 30)) .u64 W none 0 0 Rw.zero.l := Rd.nil _ _ _ _ (by omega)
 go_wp2_with fail
 refine (show Calls _ _ _ _ (Bools z _) from by rw [HZ.out]; exact ihas_any (K := S.K) (d := Rw.zero) S.big hT h3 h4 hnil).mono ?_
 rintro en w1 ⟨rfl, b⟩
 replace BB := bnx BB b
 have G := mv b rfl (J19 hT h1 h2 h3 h4 a0 a1 a2 a3 a4 a5 e0 e1 e2 e3 e4 e5 p0 r)
 clear b hT h1 h2 h3 h4 a0 a1 a2 a3 a4 a5 e0 e1 e2 e3 e4 e5 p0 r
 obtain ⟨hT, h1, h2, h3, h4, a0, a1, a2, a3, a4, a5, e0, e1, e2, e3, e4, e5, p0, r⟩ := G
 clear hnil
 cases z
 rotate_left
 ·go_wp2
  exact ⟨rfl, .inr ⟨4, by rw [HQ.out]; unfold divI; rw [if_pos HZ.out.symm], by decide, rfl, BB⟩⟩
 have HDV : divI S x y p = thn (corO (quoO S p false) x y) (fun L => thn (corO (quoO S p true) x y) fun M => .ok ⟨leaL S L, greL S M⟩) := by unfold divI; rw [if_neg (by rw [← HZ.out]; decide)]
 have HDV := hyd HDV
 clear HZ
 obtain ⟨o1, ho1⟩ : ∃ o, o = corO (quoO S p false) x y := ⟨_, rfl⟩
 have HO1 := hyd ho1
 clear ho1
 go_wp2_with fail
 have b := drew_b w1
 replace BB := bnx BB b
 have G := mv b rfl (J19 hT h1 h2 h3 h4 a0 a1 a2 a3 a4 a5 e0 e1 e2 e3 e4 e5 p0 r)
 clear b hT h1 h2 h3 h4 a0 a1 a2 a3 a4 a5 e0 e1 e2 e3 e4 e5 p0 r
 obtain ⟨hT, h1, h2, h3, h4, a0, a1, a2, a3, a4, a5, e0, e1, e2, e3, e4, e5, p0, r⟩ := G
 generalize hwd : World.drew w1 = wd at *
 have HS := J13 a0 a1 a2 a3 a4 a5 e0 e1 e2 e3 e4 e5 p0
 revert HS
 apply rg hwd
 intro hHeldv0
 clear hwd
 refine tl 0 ?_
 refine tl 1 ?_
 refine tl 2 ?_
 refine rdy 3 fun K hK => ?_
 go_simp
 refine (aquotient_any (p := p) (up := false)).mono ?_
 rintro en w' ⟨q1, q2, rfl, xq, xu, b⟩
 replace BB := bnx BB b
 have G := mv b (by rfl) (J19 hT h1 h2 h3 h4 a0 a1 a2 a3 a4 a5 e0 e1 e2 e3 e4 e5 p0 r)
 clear b hT h1 h2 h3 h4 a0 a1 a2 a3 a4 a5 e0 e1 e2 e3 e4 e5 p0 r
 obtain ⟨hT, h1, h2, h3, h4, a0, a1, a2, a3, a4, a5, e0, e1, e2, e3, e4, e5, p0, r⟩ := G
 refine kp hK ⟨a0, a1, a2, a3, a4, a5, e0, e1, e2, e3, e4, e5, p0⟩ fun hHeldv1 => ?_
 clear hK K hHeldv0
 try simp only [Act.put]
 refine rdy 4 fun K hK => ?_
 go_simp
 refine (runl_to HO1.out (corners2_run (F := quoO S p false) (f := 146) h1 h2 h3 h4 (fun _ _ _ => by kernel_rfl) (fun W2 a b A1 n1 c1 A2 n2 c2 b2 ha hb => quotient1_run S (hT.next b2 rfl) ha hb (mv b2 rfl xq) (mv b2 rfl xu)))).mono ?_
 rintro en w' (⟨L1, g1, c9, hv, rfl, hq1, b⟩ | ⟨kk, hk, hk0, rfl, b⟩)
 rotate_left
 ·exact ⟨rfl, .inr ⟨kk, (HQ.out.trans (by simp only [HDV.out, thn, ← HO1.out, hk])), hk0, rfl, bnx BB b⟩⟩
 have HV1 := hyd hv
 clear hv
 clear xq xu
 replace BB := bnx BB b
 have G := mv b (by rfl) (J19 hT h1 h2 h3 h4 a0 a1 a2 a3 a4 a5 e0 e1 e2 e3 e4 e5 p0 r)
 clear b hT h1 h2 h3 h4 a0 a1 a2 a3 a4 a5 e0 e1 e2 e3 e4 e5 p0 r
 obtain ⟨hT, h1, h2, h3, h4, a0, a1, a2, a3, a4, a5, e0, e1, e2, e3, e4, e5, p0, r⟩ := G
 refine kp hK ⟨a0, a1, a2, a3, a4, a5, e0, e1, e2, e3, e4, e5, p0⟩ fun hHeldv2 => ?_
 clear hK K hHeldv1
 try simp only [Act.put]
 refine tl 5 ?_
 refine wpAnyH_done (by kernel_rfl) ?_ _
 have HLL1 := hyd (corO_len (HO1.out.symm.trans HV1.out))
 obtain ⟨n91, hn9⟩ : ∃ z, z = L1.length := ⟨_, rfl⟩
 rw [← hn9]
 have HN1 := hyd hn9
 clear hn9
 obtain ⟨o2, ho2⟩ : ∃ o, o = corO (quoO S p true) x y := ⟨_, rfl⟩
 have HO2 := hyd ho2
 clear ho2
 go_wp2_with fail
 have b := drew_b w'
 replace BB := bnx BB b
 have G := mv b rfl (J20 hT h1 h2 h3 h4 a0 a1 a2 a3 a4 a5 e0 e1 e2 e3 e4 e5 p0 r hq1)
 clear b hT h1 h2 h3 h4 a0 a1 a2 a3 a4 a5 e0 e1 e2 e3 e4 e5 p0 r hq1
 obtain ⟨hT, h1, h2, h3, h4, a0, a1, a2, a3, a4, a5, e0, e1, e2, e3, e4, e5, p0, r, hq1⟩ := G
 generalize hwd : World.drew w' = wd at *
 have HS := J13 a0 a1 a2 a3 a4 a5 e0 e1 e2 e3 e4 e5 p0
 revert HS
 apply rg hwd
 intro hHeldu0
 clear hwd
 refine tl 0 ?_
 refine tl 1 ?_
 refine tl 2 ?_
 refine rdy 3 fun K hK => ?_
 go_simp
 refine (aquotient_any (p := p) (up := true)).mono ?_
 rintro en w' ⟨q3, q4, rfl, xq, xu, b⟩
 replace BB := bnx BB b
 have G := mv b (by rfl) (J20 hT h1 h2 h3 h4 a0 a1 a2 a3 a4 a5 e0 e1 e2 e3 e4 e5 p0 r hq1)
 clear b hT h1 h2 h3 h4 a0 a1 a2 a3 a4 a5 e0 e1 e2 e3 e4 e5 p0 r hq1
 obtain ⟨hT, h1, h2, h3, h4, a0, a1, a2, a3, a4, a5, e0, e1, e2, e3, e4, e5, p0, r, hq1⟩ := G
 refine kp hK ⟨a0, a1, a2, a3, a4, a5, e0, e1, e2, e3, e4, e5, p0⟩ fun hHeldu1 => ?_
 clear hK K hHeldu0
 try simp only [Act.put]
 refine rdy 4 fun K hK => ?_
 go_simp
 refine (runl_to HO2.out (corners2_run (F := quoO S p true) (f := 146) h1 h2 h3 h4 (fun _ _ _ => by kernel_rfl) (fun W2 a b A1 n1 c1 A2 n2 c2 b2 ha hb => quotient1_run S (hT.next b2 rfl) ha hb (mv b2 rfl xq) (mv b2 rfl xu)))).mono ?_
 rintro en w' (⟨L2, g2, c9, hv, rfl, hq2, b⟩ | ⟨kk, hk, hk0, rfl, b⟩)
 rotate_left
 ·exact ⟨rfl, .inr ⟨kk, (HQ.out.trans (by simp only [HDV.out, thn, ← HO1.out, HV1.out, ← HO2.out, hk])), hk0, rfl, bnx BB b⟩⟩
 have HV2 := hyd hv
 clear hv
 clear xq xu
 replace BB := bnx BB b
 have G := mv b (by rfl) (J20 hT h1 h2 h3 h4 a0 a1 a2 a3 a4 a5 e0 e1 e2 e3 e4 e5 p0 r hq1)
 clear b hT h1 h2 h3 h4 a0 a1 a2 a3 a4 a5 e0 e1 e2 e3 e4 e5 p0 r hq1
 obtain ⟨hT, h1, h2, h3, h4, a0, a1, a2, a3, a4, a5, e0, e1, e2, e3, e4, e5, p0, r, hq1⟩ := G
 refine kp hK ⟨a0, a1, a2, a3, a4, a5, e0, e1, e2, e3, e4, e5, p0⟩ fun hHeldu2 => ?_
 clear hK K hHeldu1
 try simp only [Act.put]
 refine tl 5 ?_
 refine wpAnyH_done (by kernel_rfl) ?_ _
 have HLL2 := hyd (corO_len (HO2.out.symm.trans HV2.out))
 obtain ⟨n92, hn9⟩ : ∃ z, z = L2.length := ⟨_, rfl⟩
 rw [← hn9]
 have HN2 := hyd hn9
 clear hn9
 clear h1 h2 h3 h4 a0 a1 a2 a3 a4 a5 e0 e1 e2 e3 e4 e5 p0
 obtain ⟨ql, hql⟩ : ∃ z, z = leaL S L1 := ⟨_, rfl⟩
 obtain ⟨qg, hqg⟩ : ∃ z, z = greL S L2 := ⟨_, rfl⟩
 have HQL := hyd hql
 have HQG := hyd hqg
 clear hql hqg
 go_wp2_with fail
 refine (show Calls _ _ _ _ (GivQ ql _) from by rw [HQL.out, HN1.out]; exact least_any S hT hq1 HLL1.out.1 HLL1.out.2).mono ?_
 rintro en w2 ⟨A5, n5, c5, rfl, h5, b⟩
 clear hq1
 replace BB := bnx BB b
 have G := mv b rfl (J3 hT r hq2)
 clear b hT r hq2
 obtain ⟨hT, r, hq2⟩ := G
 go_wp2_with fail
 refine (show Calls _ _ _ _ (GivQ qg _) from by rw [HQG.out, HN2.out]; exact greatest_any S hT hq2 HLL2.out.1 HLL2.out.2).mono ?_
 rintro en w3 ⟨A6, n6, c6, rfl, h6, b⟩
 clear hq2
 replace BB := bnx BB b
 have G := mv b rfl (J3 hT r h5)
 clear b hT r h5
 obtain ⟨hT, r, h5⟩ := G
 have HL : q = .ok ⟨ql, qg⟩ := by rw [HQL.out, HQG.out]; exact (HQ.out.trans (by simp only [HDV.out, thn, ← HO1.out, HV1.out, ← HO2.out, HV2.out]))
 replace HL := hyd HL
 obtain ⟨f0, f1, f2, f3, f4, f5⟩ := r.open
 obtain ⟨z0, z1, z2, z3, z4, z5⟩ := r.held
 go_wp2
 exact ret6 rfl rfl rfl r h5 h6 BB (by omega) fun _ hN hM HB3 => (.inl ⟨⟨ql, qg⟩, HL.out, _, _, _, _, _, _, rfl, hN, hM, HB3⟩)
theorem qrow_two {base : Nat} (hb : base ≤ w.heap.size) {a b : Rw} (h1 : Rd w .u64 W A1 n1 c1 a.l) (h2 : Rd w .u64 W A2 n2 c2 b.l) : QRow (w.alloc (.cells #[.bool a.s, .slice A1 n1 c1, .int .i64 a.e, .bool b.s, .slice A2 n2 c2, .int .i64 b.e] 28)) base (.slice (some ⟨w.heap.size, 0, none⟩) 2 2) [a, b] := by
 have bl := below_alloc w (.cells #[.bool a.s, .slice A1 n1 c1, .int .i64 a.e, .bool b.s, .slice A2 n2 c2, .int .i64 b.e] 28)
 refine ⟨[.bool a.s, .slice A1 n1 c1, .int .i64 a.e, .bool b.s, .slice A2 n2 c2, .int .i64 b.e], ⟨⟨rfl, .inr ⟨w.heap.size, 2, _, rfl, hb, heap_alloc_new w _, Nat.le_refl _, by decide, rfl, rfl⟩⟩, fun g hg i x => ?_⟩, ?_⟩
 ·cases hg
  have e9 := cell_of_row _ _ i _ 28 (0, 0) (heap_alloc_new w (.cells #[.bool a.s, .slice A1 n1 c1, .int .i64 a.e, .bool b.s, .slice A2 n2 c2, .int .i64 b.e] 28))
  show World.cell? _ ⟨w.heap.size, i, none⟩ ≠ _
  rw [e9]
  refine nol_at (fun u hu y hy => ?_) i x
  simp at hu
  rcases hu with rfl | rfl | rfl | rfl | rfl | rfl <;> cases hy
 exact ⟨A1, n1, c1, _, rfl, h1.next bl rfl, A2, n2, c2, _, rfl, h2.next bl rfl, rfl⟩
theorem sqr1_run (S : Sc) (hT : Tab w) (h1 : Rd w .u64 W A1 n1 c1 x.lo.l) (h2 : Rd w .u64 W A2 n2 c2 x.hi.l) (xa : Ibx w ga x.lo.s A1 n1 c1 x.lo.e x.hi.s A2 n2 c2 x.hi.e) (xp : Cel w gp p) :
  Calls Tryz.prog 121 #[.pointer (some ⟨ga, 0, none⟩), .pointer (some ⟨gp, 0, none⟩)] w (RunI (sqrI S x p) w) := by
 obtain ⟨q, hq⟩ : ∃ q : Except Int Iv, q = sqrI S x p := ⟨_, rfl⟩
 rw [← hq]
 have HQ := hyd hq
 clear hq
 have BB := below_alloc w (.cells #[.bool false, .slice none 0 0, .int .i64 0, .bool false, .slice none 0 0, .int .i64 0] 30)
 have r := Ibx.new w false none 0 0 0 false none 0 0 0
 have la := xa.gl
 have lp := xp.gl
 obtain ⟨a0, a1, a2, a3, a4, a5⟩ := xa.held
 have p0 := xp.c0
 have hT0 := hT
 have xp0 := xp
 clear xa xp
 have G := mv BB rfl (J10 hT h1 h2 a0 a1 a2 a3 a4 a5 p0)
 clear hT h1 h2 a0 a1 a2 a3 a4 a5 p0
 obtain ⟨hT, h1, h2, a0, a1, a2, a3, a4, a5, p0⟩ := G
 obtain ⟨o1, ho1⟩ : ∃ o, o = mulO S x.lo x.lo := ⟨_, rfl⟩
 have HO1 := hyd ho1
 clear ho1
 obtain ⟨o2, ho2⟩ : ∃ o, o = mulO S x.hi x.hi := ⟨_, rfl⟩
 have HO2 := hyd ho2
 clear ho2
 obtain ⟨z, hz⟩ : ∃ z, z = hasI S.K x Rw.zero := ⟨_, rfl⟩
 have HZ := hyd hz
 clear hz
 go_enter Tryz.func121, Tryz.ntmps121
 go_wp2_with fail
 have b := drew_b (w.alloc (.cells #[.bool false, .slice none 0 0, .int .i64 0, .bool false, .slice none 0 0, .int .i64 0] 30))
 replace BB := bnx BB b
 have G := mv b rfl (J11 hT h1 h2 a0 a1 a2 a3 a4 a5 p0 r)
 clear b hT h1 h2 a0 a1 a2 a3 a4 a5 p0 r
 obtain ⟨hT, h1, h2, a0, a1, a2, a3, a4, a5, p0, r⟩ := G
 generalize hwd : World.drew (w.alloc (.cells #[.bool false, .slice none 0 0, .int .i64 0, .bool false, .slice none 0 0, .int .i64 0] 30)) = wd at *
 have HS := J6 a0 a1 a2 a3 a4 a5
 revert HS
 apply rg hwd
 intro hHeldv0
 clear hwd
 refine tl 0 ?_
 refine tl 1 ?_
 refine tl 2 ?_
 refine tl 3 ?_
 refine tl 5 ?_
 refine tl 6 ?_
 refine tl 7 ?_
 refine tl 8 ?_
 refine rdy 4 fun K hK => ?_
 go_simp
 refine (runq_to HO1.out (product_run S (a := x.lo) (b := x.lo) hT h1 h1)).mono ?_
 rintro en w' (⟨v1, hv1, A3, n3, c3, rfl, h3, b⟩ | ⟨kk, hk, hk0, rfl, b⟩)
 rotate_left
 ·exact ⟨rfl, .inr ⟨kk, (by rw [HQ.out]; unfold sqrI; rw [← HO1.out, hk]; rfl), hk0, rfl, bnx BB b⟩⟩
 have HV1 := hyd hv1
 clear hv1
 replace BB := bnx BB b
 have G := mv b (by rfl) (J11 hT h1 h2 a0 a1 a2 a3 a4 a5 p0 r)
 clear b hT h1 h2 a0 a1 a2 a3 a4 a5 p0 r
 obtain ⟨hT, h1, h2, a0, a1, a2, a3, a4, a5, p0, r⟩ := G
 refine kp hK ⟨a0, a1, a2, a3, a4, a5⟩ fun hHeldv1 => ?_
 clear hK K hHeldv0
 try simp only [Act.put]
 refine rdy 9 fun K hK => ?_
 go_simp
 refine (runq_to HO2.out (product_run S (a := x.hi) (b := x.hi) hT h2 h2)).mono ?_
 rintro en w' (⟨v2, hv2, A4, n4, c4, rfl, h4, b⟩ | ⟨kk, hk, hk0, rfl, b⟩)
 rotate_left
 ·exact ⟨rfl, .inr ⟨kk, (by rw [HQ.out]; unfold sqrI; rw [← HO1.out, HV1.out]; show thn (mulO S x.hi x.hi) _ = _; rw [← HO2.out, hk]; rfl), hk0, rfl, bnx BB b⟩⟩
 have HV2 := hyd hv2
 clear hv2
 replace BB := bnx BB b
 have G := mv b (by rfl) (J12 hT h1 h2 a0 a1 a2 a3 a4 a5 p0 r h3)
 clear b hT h1 h2 a0 a1 a2 a3 a4 a5 p0 r h3
 obtain ⟨hT, h1, h2, a0, a1, a2, a3, a4, a5, p0, r, h3⟩ := G
 refine kp hK ⟨a0, a1, a2, a3, a4, a5⟩ fun hHeldv2 => ?_
 clear hK K hHeldv1
 try simp only [Act.put]
 refine rdy 10 fun K hK => ?_
 go_simp
 have hrow := qrow_two (w := w') (base := w.heap.size + 1) r.gl h3 h4
 have hq := qs_two (w := w') rfl h3 h4
 have b := below_alloc w' (.cells #[.bool v1.s, .slice A3 n3 c3, .int .i64 v1.e, .bool v2.s, .slice A4 n4 c4, .int .i64 v2.e] 28)
 replace BB := bnx BB b
 have G := mv b (by rfl) (J13 hT h1 h2 a0 a1 a2 a3 a4 a5 p0 r h3 h4)
 clear b hT h1 h2 a0 a1 a2 a3 a4 a5 p0 r h3 h4
 obtain ⟨hT, h1, h2, a0, a1, a2, a3, a4, a5, p0, r, h3, h4⟩ := G
 refine kp hK ⟨a0, a1, a2, a3, a4, a5⟩ fun hHeldv3 => ?_
 clear hK K hHeldv2
 try simp only [Act.put]
 refine tl 11 ?_
 refine wpAnyH_done (by kernel_rfl) ?_ _
 clear h3 h4
 have hnil : ∀ W2 : World, Rd W2 .u64 W none 0 0 Rw.zero.l := fun _ => Rd.nil _ _ _ _ (by omega)
 go_wp2_with fail
 refine (show Calls _ _ _ _ (Bools z _) from by rw [HZ.out]; exact ihas_any (K := S.K) (d := Rw.zero) S.big hT h1 h2 (hnil _)).mono ?_
 rintro en w5 ⟨rfl, b⟩
 replace BB := bnx BB b
 have G := mv b rfl (J13 hT h1 h2 a0 a1 a2 a3 a4 a5 p0 r hrow hq)
 clear b hT h1 h2 a0 a1 a2 a3 a4 a5 p0 r hrow hq
 obtain ⟨hT, h1, h2, a0, a1, a2, a3, a4, a5, p0, r, hrow, hq⟩ := G
 clear h1 h2 a0 a1 a2 a3 a4 a5
 cases z
 ·obtain ⟨L1, hL1⟩ : ∃ L, L = [v1, v2] := ⟨_, rfl⟩
  have HL0 := hyd (show L1 ≠ [] ∧ L1.length ≤ 1000 from by rw [hL1]; exact ⟨List.cons_ne_nil _ _, show 2 ≤ 1000 by decide⟩)
  have HN := hyd (show 2 = L1.length from by rw [hL1]; rfl)
  rw [← hL1] at hq
  have HLD := hyd hL1
  clear hL1 hrow
  obtain ⟨o3, ho3⟩ : ∃ o, o = outO S (leaL S L1) (greL S L1) p := ⟨_, rfl⟩
  have HO3 := hyd ho3
  clear ho3
  obtain ⟨ql, hql⟩ : ∃ z, z = leaL S L1 := ⟨_, rfl⟩
  obtain ⟨qg, hqg⟩ : ∃ z, z = greL S L1 := ⟨_, rfl⟩
  have HQL := hyd hql
  have HQG := hyd hqg
  clear hql hqg
  go_wp2_with fail
  have b := drew_b w5
  replace BB := bnx BB b
  have G := mv b rfl (J4 hT p0 r hq)
  clear b hT p0 r hq
  obtain ⟨hT, p0, r, hq⟩ := G
  generalize hwd : World.drew w5 = wd at *
  have HS := p0
  revert HS
  apply rg hwd
  intro hHeldt0
  clear hwd
  refine tl 0 ?_
  refine tl 2 ?_
  refine tl 4 ?_
  refine rdy 1 fun K hK => ?_
  go_simp
  refine (show Calls _ _ _ _ (GivQ ql _) from by rw [HQL.out, HN.out]; exact least_any S hT hq HL0.out.1 HL0.out.2).mono ?_
  rintro en w' ⟨A5, n5, c5, rfl, h5, b⟩
  replace BB := bnx BB b
  have G := mv b (by rfl) (J4 hT p0 r hq)
  clear b hT p0 r hq
  obtain ⟨hT, p0, r, hq⟩ := G
  refine kp hK p0 fun hHeldt1 => ?_
  clear hK K hHeldt0
  try simp only [Act.put]
  refine rdy 3 fun K hK => ?_
  go_simp
  refine (show Calls _ _ _ _ (GivQ qg _) from by rw [HQG.out, HN.out]; exact greatest_any S hT hq HL0.out.1 HL0.out.2).mono ?_
  rintro en w' ⟨A6, n6, c6, rfl, h6, b⟩
  replace BB := bnx BB b
  have G := mv b (by rfl) (J5 hT p0 r hq h5)
  clear b hT p0 r hq h5
  obtain ⟨hT, p0, r, hq, h5⟩ := G
  refine kp hK p0 fun hHeldt2 => ?_
  clear hK K hHeldt1
  try simp only [Act.put]
  refine rdy 5 fun K hK => ?_
  go_simp
  refine (runi_to HO3.out (show Calls _ _ _ _ (RunI (outO S (leaL S L1) (greL S L1) p) _) from by rw [← HQL.out, ← HQG.out]; exact outward_run S hT h5 h6)).mono ?_
  rintro en w' (⟨v3, hv3, A7, n7, c7, A8, n8, c8, rfl, h7, h8, b⟩ | ⟨kk, hk, hk0, rfl, b⟩)
  rotate_left
  ·exact ⟨rfl, .inr ⟨kk, (by rw [HQ.out]; unfold sqrI; rw [← HO1.out, HV1.out]; show thn (mulO S x.hi x.hi) _ = _; rw [← HO2.out, HV2.out]; show outO S (leaL S (if hasI S.K x Rw.zero = true then [v1, v2, Rw.zero] else [v1, v2])) (greL S (if hasI S.K x Rw.zero = true then [v1, v2, Rw.zero] else [v1, v2])) p = _; rw [← HZ.out]; show outO S (leaL S [v1, v2]) (greL S [v1, v2]) p = _; rw [← HLD.out, ← HO3.out, hk]), hk0, rfl, bnx BB b⟩⟩
  have HV3 := hyd hv3
  clear hv3
  replace BB := bnx BB b
  have G := mv b (by rfl) (J6 hT p0 r hq h5 h6)
  clear b hT p0 r hq h5 h6
  obtain ⟨hT, p0, r, hq, h5, h6⟩ := G
  obtain ⟨f0, f1, f2, f3, f4, f5⟩ := r.open
  obtain ⟨z0, z1, z2, z3, z4, z5⟩ := r.held
  refine kp hK p0 fun hHeldt3 => ?_
  clear hK K hHeldt2
  try simp only [Act.put]
  refine rdy 6 fun K hK => ?_
  go_simp
  refine hK.out _ _ (by exact cell_oth6 p0 (by omega)) (fun hHeldt4 => ?_)
  clear hK K hHeldt3
  try simp only [Act.put]
  refine wpAnyH_done (by kernel_rfl) ?_ _
  go_wp2
  obtain ⟨f0, f1, f2, f3, f4, f5⟩ := r.open
  obtain ⟨z0, z1, z2, z3, z4, z5⟩ := r.held
  exact ret6 rfl rfl rfl r h7 h8 BB (by omega) fun _ hN hM HB3 => (.inl ⟨v3, (by rw [HQ.out]; unfold sqrI; rw [← HO1.out, HV1.out]; show thn (mulO S x.hi x.hi) _ = _; rw [← HO2.out, HV2.out]; show outO S (leaL S (if hasI S.K x Rw.zero = true then [v1, v2, Rw.zero] else [v1, v2])) (greL S (if hasI S.K x Rw.zero = true then [v1, v2, Rw.zero] else [v1, v2])) p = _; rw [← HZ.out]; show outO S (leaL S [v1, v2]) (greL S [v1, v2]) p = _; rw [← HLD.out, ← HO3.out, HV3.out]), _, _, _, _, _, _, rfl, hN, hM, HB3⟩)
 have xv := Box.new w5 false none 0 0 0
 have b := below_alloc w5 (.cells #[.bool false, .slice none 0 0, .int .i64 0] 28)
 replace BB := bnx BB b
 have G := mv b rfl (J5 hT p0 r hrow hq)
 clear b hT p0 r hrow hq
 obtain ⟨hT, p0, r, hrow, hq⟩ := G
 clear hq p0 hT
 have hbase : w.heap.size + 1 ≤ (w5.alloc (.cells #[.bool false, .slice none 0 0, .int .i64 0] 28)).heap.size := r.gl
 go_wp2_with (at_builtin; refine wp_app (q := Rw.zero) rfl _ _ rfl rfl rfl hrow xv (hnil _) (show 2 ≤ 1000 by decide) hbase ?_)
 intro va w9 hrow9 hgrow hlimb hat
 replace r := grown_ibx hgrow r (fun e => by have := (hlimb _ e).1; omega)
 replace BB := grown_below hgrow BB (fun k hk => by have := (hlimb k hk).1; omega) (by have := BB.size; omega)
 have hT := hT0.next BB rfl
 have p0 := (mv BB rfl xp0).c0
 obtain ⟨L1, hL1⟩ : ∃ L, L = [v1, v2, Rw.zero] := ⟨_, rfl⟩
 replace hrow9 : QRow w9 (w.heap.size + 1) va [v1, v2, Rw.zero] := hrow9
 rw [← hL1] at hrow9
 have HL0 := hyd (show L1 ≠ [] ∧ L1.length ≤ 1000 from by rw [hL1]; exact ⟨List.cons_ne_nil _ _, show 3 ≤ 1000 by decide⟩)
 have HLD := hyd hL1
 clear hL1
 obtain ⟨g9, c9, rfl, _, _, _, hq⟩ := hrow9.form HL0.out.1
 clear hat hgrow hlimb hbase xv hrow hrow9
 obtain ⟨n9, hn9⟩ : ∃ z, z = L1.length := ⟨_, rfl⟩
 rw [← hn9]
 have HN := hyd hn9
 clear hn9
 obtain ⟨o3, ho3⟩ : ∃ o, o = outO S (leaL S L1) (greL S L1) p := ⟨_, rfl⟩
 have HO3 := hyd ho3
 clear ho3
 obtain ⟨ql, hql⟩ : ∃ z, z = leaL S L1 := ⟨_, rfl⟩
 obtain ⟨qg, hqg⟩ : ∃ z, z = greL S L1 := ⟨_, rfl⟩
 have HQL := hyd hql
 have HQG := hyd hqg
 clear hql hqg
 go_wp2_with fail
 have b := drew_b w9
 replace BB := bnx BB b
 have G := mv b rfl (J4 hT p0 r hq)
 clear b hT p0 r hq
 obtain ⟨hT, p0, r, hq⟩ := G
 generalize hwd : World.drew w9 = wd at *
 have HS := p0
 revert HS
 apply rg hwd
 intro hHelds0
 clear hwd
 refine tl 0 ?_
 refine tl 2 ?_
 refine tl 4 ?_
 refine rdy 1 fun K hK => ?_
 go_simp
 refine (show Calls _ _ _ _ (GivQ ql _) from by rw [HQL.out, HN.out]; exact least_any S hT hq HL0.out.1 HL0.out.2).mono ?_
 rintro en w' ⟨A5, n5, c5, rfl, h5, b⟩
 replace BB := bnx BB b
 have G := mv b (by rfl) (J4 hT p0 r hq)
 clear b hT p0 r hq
 obtain ⟨hT, p0, r, hq⟩ := G
 refine kp hK p0 fun hHelds1 => ?_
 clear hK K hHelds0
 try simp only [Act.put]
 refine rdy 3 fun K hK => ?_
 go_simp
 refine (show Calls _ _ _ _ (GivQ qg _) from by rw [HQG.out, HN.out]; exact greatest_any S hT hq HL0.out.1 HL0.out.2).mono ?_
 rintro en w' ⟨A6, n6, c6, rfl, h6, b⟩
 replace BB := bnx BB b
 have G := mv b (by rfl) (J5 hT p0 r hq h5)
 clear b hT p0 r hq h5
 obtain ⟨hT, p0, r, hq, h5⟩ := G
 refine kp hK p0 fun hHelds2 => ?_
 clear hK K hHelds1
 try simp only [Act.put]
 refine rdy 5 fun K hK => ?_
 go_simp
 refine (runi_to HO3.out (show Calls _ _ _ _ (RunI (outO S (leaL S L1) (greL S L1) p) _) from by rw [← HQL.out, ← HQG.out]; exact outward_run S hT h5 h6)).mono ?_
 rintro en w' (⟨v3, hv3, A7, n7, c7, A8, n8, c8, rfl, h7, h8, b⟩ | ⟨kk, hk, hk0, rfl, b⟩)
 rotate_left
 ·exact ⟨rfl, .inr ⟨kk, (by rw [HQ.out]; unfold sqrI; rw [← HO1.out, HV1.out]; show thn (mulO S x.hi x.hi) _ = _; rw [← HO2.out, HV2.out]; show outO S (leaL S (if hasI S.K x Rw.zero = true then [v1, v2, Rw.zero] else [v1, v2])) (greL S (if hasI S.K x Rw.zero = true then [v1, v2, Rw.zero] else [v1, v2])) p = _; rw [← HZ.out]; show outO S (leaL S [v1, v2, Rw.zero]) (greL S [v1, v2, Rw.zero]) p = _; rw [← HLD.out, ← HO3.out, hk]), hk0, rfl, bnx BB b⟩⟩
 have HV3 := hyd hv3
 clear hv3
 replace BB := bnx BB b
 have G := mv b (by rfl) (J6 hT p0 r hq h5 h6)
 clear b hT p0 r hq h5 h6
 obtain ⟨hT, p0, r, hq, h5, h6⟩ := G
 obtain ⟨f0, f1, f2, f3, f4, f5⟩ := r.open
 obtain ⟨z0, z1, z2, z3, z4, z5⟩ := r.held
 refine kp hK p0 fun hHelds3 => ?_
 clear hK K hHelds2
 try simp only [Act.put]
 refine rdy 6 fun K hK => ?_
 go_simp
 refine hK.out _ _ (by exact cell_oth6 p0 (by omega)) (fun hHelds4 => ?_)
 clear hK K hHelds3
 try simp only [Act.put]
 refine wpAnyH_done (by kernel_rfl) ?_ _
 go_wp2
 obtain ⟨f0, f1, f2, f3, f4, f5⟩ := r.open
 obtain ⟨z0, z1, z2, z3, z4, z5⟩ := r.held
 exact ret6 rfl rfl rfl r h7 h8 BB (by omega) fun _ hN hM HB3 => (.inl ⟨v3, (by rw [HQ.out]; unfold sqrI; rw [← HO1.out, HV1.out]; show thn (mulO S x.hi x.hi) _ = _; rw [← HO2.out, HV2.out]; show outO S (leaL S (if hasI S.K x Rw.zero = true then [v1, v2, Rw.zero] else [v1, v2])) (greL S (if hasI S.K x Rw.zero = true then [v1, v2, Rw.zero] else [v1, v2])) p = _; rw [← HZ.out]; show outO S (leaL S [v1, v2, Rw.zero]) (greL S [v1, v2, Rw.zero]) p = _; rw [← HLD.out, ← HO3.out, HV3.out]), _, _, _, _, _, _, rfl, hN, hM, HB3⟩)
end Go.Proofs.YtehfdfjpmmpndaaGreatDoor
