/-
 Contracts of the closures of arith's Add, Sub, Mul, Neg and Sqrt, at this translation. Condition: the slices read as limbs, the table of math/bits reads as its text lays it.
-/
import Derived.Test.YteagjlcmgiknmaaGreatDoorQLf
import Derived.Test.YteagjlcmgiknmaaGreatDoorQTb
set_option maxHeartbeats 8000000
set_option maxRecDepth 100000
namespace Go.Proofs.YteagjlcmgiknmaaGreatDoor
open Go.RowKit

theorem add1_run (S : Sc) {w : World} {x y : Iv} {p : Int} {ga gb gp : Nat} {A1 : Option Addr} {n1 c1 : Nat} {A2 : Option Addr} {n2 c2 : Nat} {A3 : Option Addr} {n3 c3 : Nat} {A4 : Option Addr} {n4 c4 : Nat} (hT : Tab w) (h1 : Rd w .u64 Go.Proofs.YteagjlcmgiknmaaGreatDoor.W A1 n1 c1 x.lo.l) (h2 : Rd w .u64 Go.Proofs.YteagjlcmgiknmaaGreatDoor.W A2 n2 c2 x.hi.l) (h3 : Rd w .u64 Go.Proofs.YteagjlcmgiknmaaGreatDoor.W A3 n3 c3 y.lo.l) (h4 : Rd w .u64 Go.Proofs.YteagjlcmgiknmaaGreatDoor.W A4 n4 c4 y.hi.l) (xa : Ibx w ga x.lo.s A1 n1 c1 x.lo.e x.hi.s A2 n2 c2 x.hi.e) (xb : Ibx w gb y.lo.s A3 n3 c3 y.lo.e y.hi.s A4 n4 c4 y.hi.e) (xp : Cel w gp p) :
  Calls Tryz.prog 141 #[.pointer (some ⟨ga, 0, none⟩), .pointer (some ⟨gb, 0, none⟩), .pointer (some ⟨gp, 0, none⟩)] w (RunI (sumO S x y p) w) := by
 obtain ⟨q, hq⟩ : ∃ q : Except Int Iv, q = sumO S x y p := ⟨_, rfl⟩
 rw [← hq]
 have HQ := Lib.hid hq
 clear hq
 have BB := below_alloc w (.cells #[.bool false, .slice none 0 0, .int .i64 0, .bool false, .slice none 0 0, .int .i64 0] 29)
 have r := Ibx.new w false none 0 0 0 false none 0 0 0
 have la := xa.gl
 have lb := xb.gl
 have lp := xp.gl
 obtain ⟨a0, a1, a2, a3, a4, a5⟩ := xa.held
 obtain ⟨e0, e1, e2, e3, e4, e5⟩ := xb.held
 have p0 := xp.c0
 clear xa xp xb
 have G := mv BB rfl (J18 hT h1 h2 h3 h4 a0 a1 a2 a3 a4 a5 e0 e1 e2 e3 e4 e5 p0)
 clear hT h1 h2 h3 h4 a0 a1 a2 a3 a4 a5 e0 e1 e2 e3 e4 e5 p0
 obtain ⟨hT, h1, h2, h3, h4, a0, a1, a2, a3, a4, a5, e0, e1, e2, e3, e4, e5, p0⟩ := G
 go_enter Tryz.func141, Tryz.ntmps141
 obtain ⟨o1, ho1⟩ : ∃ o, o = sumO S x y p := ⟨_, rfl⟩
 have HO1 := Lib.hid ho1
 clear ho1
 go_wp2_with fail
 refine (runi_to HO1.out (sum_run S hT h1 h2 h3 h4)).mono ?_
 rintro en w1 (⟨v1, hv1, A5, n5, c5, A6, n6, c6, rfl, h5, h6, b⟩ | ⟨kk, hk, hk0, rfl, b⟩)
 rotate_left
 ·replace BB := bnx BB b
  clear b
  have HKK := Lib.hid (And.intro hk hk0)
  clear hk hk0
  go_wp2
  exact ⟨rfl, .inr ⟨kk, (HQ.out.trans (by simp only [← HO1.out, HKK.out.1])), HKK.out.2, rfl, BB⟩⟩
 have HV1 := Lib.hid hv1
 clear hv1
 replace BB := bnx BB b
 have G := mv b rfl (J19 hT h1 h2 h3 h4 a0 a1 a2 a3 a4 a5 e0 e1 e2 e3 e4 e5 p0 r)
 clear b hT h1 h2 h3 h4 a0 a1 a2 a3 a4 a5 e0 e1 e2 e3 e4 e5 p0 r
 obtain ⟨hT, h1, h2, h3, h4, a0, a1, a2, a3, a4, a5, e0, e1, e2, e3, e4, e5, p0, r⟩ := G
 have HL : q = .ok v1 := by rw [HQ.out, ← HO1.out, HV1.out]
 obtain ⟨f0, f1, f2, f3, f4, f5⟩ := r.open
 obtain ⟨z0, z1, z2, z3, z4, z5⟩ := r.held
 go_wp2
 have qq := r.put v1.lo.s A5 n5 c5 v1.lo.e v1.hi.s A6 n6 c6 v1.hi.e
 have hN := h5.put6 r (.bool v1.lo.s) (.slice A5 n5 c5) (.int .i64 v1.lo.e) (.bool v1.hi.s) (.slice A6 n6 c6) (.int .i64 v1.hi.e)
 have hM := h6.put6 r (.bool v1.lo.s) (.slice A5 n5 c5) (.int .i64 v1.lo.e) (.bool v1.hi.s) (.slice A6 n6 c6) (.int .i64 v1.hi.e)
 have HB3 := below_put6 (g := w.heap.size) BB (by omega) (.bool v1.lo.s) (.slice A5 n5 c5) (.int .i64 v1.lo.e) (.bool v1.hi.s) (.slice A6 n6 c6) (.int .i64 v1.hi.e)
 obtain ⟨z0, z1, z2, z3, z4, z5⟩ := qq.held
 exact bodyPost_ret (v := .agg #[.bool v1.lo.s, .slice A5 n5 c5, .int .i64 v1.lo.e, .bool v1.hi.s, .slice A6 n6 c6, .int .i64 v1.hi.e]) (by simp [results, Tryz.results141, go_sem, z0, z1, z2, z3, z4, z5]) rfl (.inl ⟨v1, HL, _, _, _, _, _, _, rfl, hN, hM, HB3⟩)

theorem corO_len {F : Rw → Rw → Except Int Rw} {x y : Iv} {L : List Rw} (h : corO F x y = .ok L) : L ≠ [] ∧ L.length ≤ 1000 := by
 obtain ⟨a, b, c, d, _, _, _, _, rfl⟩ := corO_ok h
 exact ⟨List.cons_ne_nil _ _, show 4 ≤ 1000 by decide⟩
theorem runl_to {f : FuncId} {args : Array Value} {w : World} {o o' : Except Int (List Rw)} (h : o = o') (hc : Calls Tryz.prog f args w (RunL o' w)) : Calls Tryz.prog f args w (RunL o w) := by subst h; exact hc

theorem mul1_run (S : Sc) {w : World} {x y : Iv} {p : Int} {ga gb gp : Nat} {A1 : Option Addr} {n1 c1 : Nat} {A2 : Option Addr} {n2 c2 : Nat} {A3 : Option Addr} {n3 c3 : Nat} {A4 : Option Addr} {n4 c4 : Nat} (hT : Tab w) (h1 : Rd w .u64 Go.Proofs.YteagjlcmgiknmaaGreatDoor.W A1 n1 c1 x.lo.l) (h2 : Rd w .u64 Go.Proofs.YteagjlcmgiknmaaGreatDoor.W A2 n2 c2 x.hi.l) (h3 : Rd w .u64 Go.Proofs.YteagjlcmgiknmaaGreatDoor.W A3 n3 c3 y.lo.l) (h4 : Rd w .u64 Go.Proofs.YteagjlcmgiknmaaGreatDoor.W A4 n4 c4 y.hi.l) (xa : Ibx w ga x.lo.s A1 n1 c1 x.lo.e x.hi.s A2 n2 c2 x.hi.e) (xb : Ibx w gb y.lo.s A3 n3 c3 y.lo.e y.hi.s A4 n4 c4 y.hi.e) (xp : Cel w gp p) :
  Calls Tryz.prog 163 #[.pointer (some ⟨ga, 0, none⟩), .pointer (some ⟨gb, 0, none⟩), .pointer (some ⟨gp, 0, none⟩)] w (RunI (mulI S x y p) w) := by
 obtain ⟨q, hq⟩ : ∃ q : Except Int Iv, q = mulI S x y p := ⟨_, rfl⟩
 rw [← hq]
 have HQ := Lib.hid hq
 clear hq
 have BB := below_alloc w (.cells #[.bool false, .slice none 0 0, .int .i64 0, .bool false, .slice none 0 0, .int .i64 0] 29)
 have r := Ibx.new w false none 0 0 0 false none 0 0 0
 have la := xa.gl
 have lb := xb.gl
 have lp := xp.gl
 obtain ⟨a0, a1, a2, a3, a4, a5⟩ := xa.held
 obtain ⟨e0, e1, e2, e3, e4, e5⟩ := xb.held
 have p0 := xp.c0
 clear xa xp xb
 have G := mv BB rfl (J18 hT h1 h2 h3 h4 a0 a1 a2 a3 a4 a5 e0 e1 e2 e3 e4 e5 p0)
 clear hT h1 h2 h3 h4 a0 a1 a2 a3 a4 a5 e0 e1 e2 e3 e4 e5 p0
 obtain ⟨hT, h1, h2, h3, h4, a0, a1, a2, a3, a4, a5, e0, e1, e2, e3, e4, e5, p0⟩ := G
 go_enter Tryz.func163, Tryz.ntmps163
 obtain ⟨o1, ho1⟩ : ∃ o, o = corO (mulO S) x y := ⟨_, rfl⟩
 have HO1 := Lib.hid ho1
 clear ho1
 go_wp2_with fail
 refine (runl_to HO1.out (corners0_run (F := mulO S) (f := 149) h1 h2 h3 h4 (fun _ _ _ => by kernel_rfl) (fun W2 a b A1 n1 c1 A2 n2 c2 b2 ha hb => product_run S (hT.next b2 rfl) ha hb))).mono ?_
 rintro en w1 (⟨L1, g1, c9, hv1, rfl, hq1, b⟩ | ⟨kk, hk, hk0, rfl, b⟩)
 rotate_left
 ·replace BB := bnx BB b
  clear b
  have HKK := Lib.hid (And.intro hk hk0)
  clear hk hk0
  go_wp2
  exact ⟨rfl, .inr ⟨kk, (HQ.out.trans (by simp only [mulI, thn, ← HO1.out, HKK.out.1])), HKK.out.2, rfl, BB⟩⟩
 have HV1 := Lib.hid hv1
 clear hv1
 clear h1 h2 h3 h4 a0 a1 a2 a3 a4 a5 e0 e1 e2 e3 e4 e5
 replace BB := bnx BB b
 have G := mv b rfl (J3 hT p0 r)
 clear b hT p0 r
 obtain ⟨hT, p0, r⟩ := G
 have HL1 := Lib.hid (corO_len (HO1.out.symm.trans HV1.out))
 obtain ⟨o2, ho2⟩ : ∃ o, o = outO S (leaL S L1) (greL S L1) p := ⟨_, rfl⟩
 have HO2 := Lib.hid ho2
 clear ho2
 obtain ⟨ql, hql⟩ : ∃ z, z = leaL S L1 := ⟨_, rfl⟩
 obtain ⟨qg, hqg⟩ : ∃ z, z = greL S L1 := ⟨_, rfl⟩
 have HQL := Lib.hid hql
 have HQG := Lib.hid hqg
 clear hql hqg
 obtain ⟨n9, hn9⟩ : ∃ z, z = L1.length := ⟨_, rfl⟩
 rw [← hn9]
 have HN9 := Lib.hid hn9
 clear hn9
 go_wp2_with fail
 have b : Below w1.heap.size w1 (World.drew w1) := below_drewN (Below.refl _ _) 1
 replace BB := bnx BB b
 have G := mv b rfl (J4 hT p0 r hq1)
 clear b hT p0 r hq1
 obtain ⟨hT, p0, r, hq1⟩ := G
 refine wp_region_held_drew (S := fun w' => w'.cell? ⟨gp, 0, none⟩ = some (.int .i64 p)) (by kernel_rfl) (by exact p0) (fun hHeldv0 => ?_)
 generalize World.drew w1 = wd at *
 refine tl 0 ?_
 refine tl 2 ?_
 refine tl 4 ?_
 refine rdy 1 fun K hK => ?_
 go_simp
 refine (show Calls _ _ _ _ (GivQ ql _) from by rw [HQL.out, HN9.out]; exact least_any S hT hq1 HL1.out.1 HL1.out.2).mono ?_
 rintro en w' ⟨A5, n5, c5, rfl, h5, b⟩
 replace BB := below_next BB BB.size b (by rfl) (by rfl) (by rfl) (by rfl)
 have G := mv b (by rfl) <| And.intro hT <| And.intro p0 <| And.intro r <| hq1
 clear b hT p0 r hq1
 obtain ⟨hT, p0, r, hq1⟩ := G
 refine hK.out _ _ (by exact p0) (fun hHeldv1 => ?_)
 clear hK K hHeldv0
 try simp only [Act.put]
 refine rdy 3 fun K hK => ?_
 go_simp
 refine (show Calls _ _ _ _ (GivQ qg _) from by rw [HQG.out, HN9.out]; exact greatest_any S hT hq1 HL1.out.1 HL1.out.2).mono ?_
 rintro en w' ⟨A6, n6, c6, rfl, h6, b⟩
 replace BB := below_next BB BB.size b (by rfl) (by rfl) (by rfl) (by rfl)
 have G := mv b (by rfl) <| And.intro hT <| And.intro p0 <| And.intro r <| And.intro hq1 <| h5
 clear b hT p0 r hq1 h5
 obtain ⟨hT, p0, r, hq1, h5⟩ := G
 refine hK.out _ _ (by exact p0) (fun hHeldv2 => ?_)
 clear hK K hHeldv1
 try simp only [Act.put]
 refine rdy 5 fun K hK => ?_
 go_simp
 refine (runi_to HO2.out (show Calls _ _ _ _ (RunI (outO S (leaL S L1) (greL S L1) p) _) from by rw [← HQL.out, ← HQG.out]; exact outward_run S hT h5 h6)).mono ?_
 rintro en w' (⟨v2, hv2, A7, n7, c7, A8, n8, c8, rfl, h7, h8, b⟩ | ⟨kk, hk, hk0, rfl, b⟩)
 rotate_left
 ·exact ⟨rfl, .inr ⟨kk, (HQ.out.trans (by simp only [mulI, thn, ← HO1.out, HV1.out, ← HO2.out, hk])), hk0, rfl, below_next BB BB.size b (by rfl) (by rfl) (by rfl) (by rfl)⟩⟩
 have HV2 := Lib.hid hv2
 clear hv2
 replace BB := below_next BB BB.size b (by rfl) (by rfl) (by rfl) (by rfl)
 have G := mv b (by rfl) <| And.intro hT <| And.intro p0 <| And.intro r <| And.intro hq1 <| And.intro h5 <| h6
 clear b hT p0 r hq1 h5 h6
 obtain ⟨hT, p0, r, hq1, h5, h6⟩ := G
 obtain ⟨f0, f1, f2, f3, f4, f5⟩ := r.open
 obtain ⟨z0, z1, z2, z3, z4, z5⟩ := r.held
 refine hK.out _ _ (by exact p0) (fun hHeldv3 => ?_)
 clear hK K hHeldv2
 try simp only [Act.put]
 refine rdy 6 fun K hK => ?_
 go_simp
 refine hK.out _ _ (by exact cell_oth6 p0 (by omega)) (fun hHeldv4 => ?_)
 clear hK K hHeldv3
 try simp only [Act.put]
 refine wpAnyH_done (by kernel_rfl) ?_ _
 go_wp2
 obtain ⟨f0, f1, f2, f3, f4, f5⟩ := r.open
 obtain ⟨z0, z1, z2, z3, z4, z5⟩ := r.held
 have qq := r.put v2.lo.s A7 n7 c7 v2.lo.e v2.hi.s A8 n8 c8 v2.hi.e
 have hN := h7.put6 r (.bool v2.lo.s) (.slice A7 n7 c7) (.int .i64 v2.lo.e) (.bool v2.hi.s) (.slice A8 n8 c8) (.int .i64 v2.hi.e)
 have hM := h8.put6 r (.bool v2.lo.s) (.slice A7 n7 c7) (.int .i64 v2.lo.e) (.bool v2.hi.s) (.slice A8 n8 c8) (.int .i64 v2.hi.e)
 have HB3 := below_put6 (g := w.heap.size) BB (by omega) (.bool v2.lo.s) (.slice A7 n7 c7) (.int .i64 v2.lo.e) (.bool v2.hi.s) (.slice A8 n8 c8) (.int .i64 v2.hi.e)
 obtain ⟨z0, z1, z2, z3, z4, z5⟩ := qq.held
 exact bodyPost_ret (v := .agg #[.bool v2.lo.s, .slice A7 n7 c7, .int .i64 v2.lo.e, .bool v2.hi.s, .slice A8 n8 c8, .int .i64 v2.hi.e]) (by simp [results, Tryz.results163, go_sem, z0, z1, z2, z3, z4, z5]) rfl (.inl ⟨v2, (HQ.out.trans (by simp only [mulI, thn, ← HO1.out, HV1.out, ← HO2.out, HV2.out])), _, _, _, _, _, _, rfl, hN, hM, HB3⟩)

end Go.Proofs.YteagjlcmgiknmaaGreatDoor
set_option maxHeartbeats 8000000
set_option maxRecDepth 100000
namespace Go.Proofs.YteagjlcmgiknmaaGreatDoor
open Go.RowKit

theorem aquotient_any {w : World} {p : Int} {up : Bool} :
  Calls Tryz.prog 93 #[.int .i64 p, .bool up] w (fun en w' => ∃ g g2, en = .returned (.func (Fn.func 129) #[] #[.pointer (some ⟨g, 0, none⟩), .pointer (some ⟨g2, 0, none⟩)]) ∧ Cel w' g p ∧ w'.cell? ⟨g2, 0, none⟩ = some (.bool up) ∧ Below w.heap.size w w') := by
 have BB := two_below w (.cells #[.int .i64 p] 3) (.cells #[.bool up] 4)
 have xp := (Cel.new w p).below (below_alloc _ (.cells #[.bool up] 4)) (by simp)
 have xu : ((w.alloc (.cells #[.int .i64 p] 3)).alloc (.cells #[.bool up] 4)).cell? ⟨w.heap.size + 1, 0, none⟩ = some (.bool up) := new_cell1 w _ _ _ 0
 have hmf := make_func
 go_enter Tryz.func93, Tryz.ntmps93
 go_wp2
 exact bodyPost_ret (v := .func (Fn.func 129) #[] #[.pointer (some ⟨w.heap.size, 0, none⟩), .pointer (some ⟨w.heap.size + 1, 0, none⟩)]) (by simp [results, Tryz.results93, go_sem]) rfl ⟨_, _, rfl, xp, xu, BB⟩

theorem div1_run (S : Sc) {w : World} {x y : Iv} {p : Int} {ga gb gp : Nat} {A1 : Option Addr} {n1 c1 : Nat} {A2 : Option Addr} {n2 c2 : Nat} {A3 : Option Addr} {n3 c3 : Nat} {A4 : Option Addr} {n4 c4 : Nat} (hT : Tab w) (h1 : Rd w .u64 Go.Proofs.YteagjlcmgiknmaaGreatDoor.W A1 n1 c1 x.lo.l) (h2 : Rd w .u64 Go.Proofs.YteagjlcmgiknmaaGreatDoor.W A2 n2 c2 x.hi.l) (h3 : Rd w .u64 Go.Proofs.YteagjlcmgiknmaaGreatDoor.W A3 n3 c3 y.lo.l) (h4 : Rd w .u64 Go.Proofs.YteagjlcmgiknmaaGreatDoor.W A4 n4 c4 y.hi.l) (xa : Ibx w ga x.lo.s A1 n1 c1 x.lo.e x.hi.s A2 n2 c2 x.hi.e) (xb : Ibx w gb y.lo.s A3 n3 c3 y.lo.e y.hi.s A4 n4 c4 y.hi.e) (xp : Cel w gp p) :
  Calls Tryz.prog 91 #[.pointer (some ⟨gb, 0, none⟩), .pointer (some ⟨ga, 0, none⟩), .pointer (some ⟨gp, 0, none⟩)] w (RunI (divI S x y p) w) := by
 obtain ⟨q, hq⟩ : ∃ q : Except Int Iv, q = divI S x y p := ⟨_, rfl⟩
 rw [← hq]
 have HQ := Lib.hid hq
 clear hq
 have BB := below_alloc w (.cells #[.bool false, .slice none 0 0, .int .i64 0, .bool false, .slice none 0 0, .int .i64 0] 29)
 have r := Ibx.new w false none 0 0 0 false none 0 0 0
 have la := xa.gl
 have lb := xb.gl
 have lp := xp.gl
 obtain ⟨a0, a1, a2, a3, a4, a5⟩ := xa.held
 obtain ⟨e0, e1, e2, e3, e4, e5⟩ := xb.held
 have p0 := xp.c0
 clear xa xp xb
 have G := mv BB rfl (J18 hT h1 h2 h3 h4 a0 a1 a2 a3 a4 a5 e0 e1 e2 e3 e4 e5 p0)
 clear hT h1 h2 h3 h4 a0 a1 a2 a3 a4 a5 e0 e1 e2 e3 e4 e5 p0
 obtain ⟨hT, h1, h2, h3, h4, a0, a1, a2, a3, a4, a5, e0, e1, e2, e3, e4, e5, p0⟩ := G
 obtain ⟨z, hz⟩ : ∃ z, z = hasI S.K y Rw.zero := ⟨_, rfl⟩
 have HZ := Lib.hid hz
 clear hz
 go_enter Tryz.func91, Tryz.ntmps91
 have hnil : Rd (w.alloc (.cells #[.bool false, .slice none 0 0, .int .i64 0, .bool false, .slice none 0 0, .int .i64 0] 29)) .u64 Go.Proofs.YteagjlcmgiknmaaGreatDoor.W none 0 0 Rw.zero.l := Rd.nil _ _ _ _ (by omega)
 go_wp2_with fail
 refine (show Calls _ _ _ _ (Bools z _) from by rw [HZ.out]; exact ihas_any (K := S.K) (d := Rw.zero) S.big hT h3 h4 hnil).mono ?_
 rintro en w1 ⟨rfl, b⟩
 replace BB := bnx BB b
 have G := mv b rfl (J19 hT h1 h2 h3 h4 a0 a1 a2 a3 a4 a5 e0 e1 e2 e3 e4 e5 p0 r)
 clear b hT h1 h2 h3 h4 a0 a1 a2 a3 a4 a5 e0 e1 e2 e3 e4 e5 p0 r
 obtain ⟨hT, h1, h2, h3, h4, a0, a1, a2, a3, a4, a5, e0, e1, e2, e3, e4, e5, p0, r⟩ := G
 clear hnil
 cases z
 rotate_left
 ·go_wp2
  exact ⟨rfl, .inr ⟨4, by rw [HQ.out]; unfold divI; rw [if_pos HZ.out.symm], by decide, rfl, BB⟩⟩
 have HDV : divI S x y p = thn (corO (quoO S p false) x y) (fun L => thn (corO (quoO S p true) x y) fun M => .ok ⟨leaL S L, greL S M⟩) := by unfold divI; rw [if_neg (by rw [← HZ.out]; decide)]
 have HDV := Lib.hid HDV
 clear HZ
 obtain ⟨o1, ho1⟩ : ∃ o, o = corO (quoO S p false) x y := ⟨_, rfl⟩
 have HO1 := Lib.hid ho1
 clear ho1
 go_wp2_with fail
 have b : Below w1.heap.size w1 (World.drew w1) := below_drewN (Below.refl _ _) 1
 replace BB := bnx BB b
 have G := mv b rfl (J19 hT h1 h2 h3 h4 a0 a1 a2 a3 a4 a5 e0 e1 e2 e3 e4 e5 p0 r)
 clear b hT h1 h2 h3 h4 a0 a1 a2 a3 a4 a5 e0 e1 e2 e3 e4 e5 p0 r
 obtain ⟨hT, h1, h2, h3, h4, a0, a1, a2, a3, a4, a5, e0, e1, e2, e3, e4, e5, p0, r⟩ := G
 refine wp_region_held_drew (S := fun w' => w'.cell? ⟨ga, 0, none⟩ = some (.bool x.lo.s) ∧ w'.cell? ⟨ga, 1, none⟩ = some (.slice A1 n1 c1) ∧ w'.cell? ⟨ga, 2, none⟩ = some (.int .i64 x.lo.e) ∧ w'.cell? ⟨ga, 3, none⟩ = some (.bool x.hi.s) ∧ w'.cell? ⟨ga, 4, none⟩ = some (.slice A2 n2 c2) ∧ w'.cell? ⟨ga, 5, none⟩ = some (.int .i64 x.hi.e) ∧ w'.cell? ⟨gb, 0, none⟩ = some (.bool y.lo.s) ∧ w'.cell? ⟨gb, 1, none⟩ = some (.slice A3 n3 c3) ∧ w'.cell? ⟨gb, 2, none⟩ = some (.int .i64 y.lo.e) ∧ w'.cell? ⟨gb, 3, none⟩ = some (.bool y.hi.s) ∧ w'.cell? ⟨gb, 4, none⟩ = some (.slice A4 n4 c4) ∧ w'.cell? ⟨gb, 5, none⟩ = some (.int .i64 y.hi.e) ∧ w'.cell? ⟨gp, 0, none⟩ = some (.int .i64 p)) (by kernel_rfl) (by exact ⟨a0, a1, a2, a3, a4, a5, e0, e1, e2, e3, e4, e5, p0⟩) (fun hHeldv0 => ?_)
 generalize World.drew w1 = wd at *
 refine tl 0 ?_
 refine tl 1 ?_
 refine tl 2 ?_
 refine rdy 3 fun K hK => ?_
 go_simp
 refine (aquotient_any (p := p) (up := false)).mono ?_
 rintro en w' ⟨q1, q2, rfl, xq, xu, b⟩
 replace BB := below_next BB BB.size b (by rfl) (by rfl) (by rfl) (by rfl)
 have G := mv b (by rfl) <| And.intro hT <| And.intro h1 <| And.intro h2 <| And.intro h3 <| And.intro h4 <| And.intro a0 <| And.intro a1 <| And.intro a2 <| And.intro a3 <| And.intro a4 <| And.intro a5 <| And.intro e0 <| And.intro e1 <| And.intro e2 <| And.intro e3 <| And.intro e4 <| And.intro e5 <| And.intro p0 <| r
 clear b hT h1 h2 h3 h4 a0 a1 a2 a3 a4 a5 e0 e1 e2 e3 e4 e5 p0 r
 obtain ⟨hT, h1, h2, h3, h4, a0, a1, a2, a3, a4, a5, e0, e1, e2, e3, e4, e5, p0, r⟩ := G
 refine hK.out _ _ (by exact ⟨a0, a1, a2, a3, a4, a5, e0, e1, e2, e3, e4, e5, p0⟩) (fun hHeldv1 => ?_)
 clear hK K hHeldv0
 try simp only [Act.put]
 refine rdy 4 fun K hK => ?_
 go_simp
 refine (runl_to HO1.out (corners2_run (F := quoO S p false) (f := 129) h1 h2 h3 h4 (fun _ _ _ => by kernel_rfl) (fun W2 a b A1 n1 c1 A2 n2 c2 b2 ha hb => quotient1_run S (hT.next b2 rfl) ha hb (mv b2 rfl xq) (mv b2 rfl xu)))).mono ?_
 rintro en w' (⟨L1, g1, c9, hv, rfl, hq1, b⟩ | ⟨kk, hk, hk0, rfl, b⟩)
 rotate_left
 ·exact ⟨rfl, .inr ⟨kk, (HQ.out.trans (by simp only [HDV.out, thn, ← HO1.out, hk])), hk0, rfl, below_next BB BB.size b (by rfl) (by rfl) (by rfl) (by rfl)⟩⟩
 have HV1 := Lib.hid hv
 clear hv
 clear xq xu
 replace BB := below_next BB BB.size b (by rfl) (by rfl) (by rfl) (by rfl)
 have G := mv b (by rfl) <| And.intro hT <| And.intro h1 <| And.intro h2 <| And.intro h3 <| And.intro h4 <| And.intro a0 <| And.intro a1 <| And.intro a2 <| And.intro a3 <| And.intro a4 <| And.intro a5 <| And.intro e0 <| And.intro e1 <| And.intro e2 <| And.intro e3 <| And.intro e4 <| And.intro e5 <| And.intro p0 <| r
 clear b hT h1 h2 h3 h4 a0 a1 a2 a3 a4 a5 e0 e1 e2 e3 e4 e5 p0 r
 obtain ⟨hT, h1, h2, h3, h4, a0, a1, a2, a3, a4, a5, e0, e1, e2, e3, e4, e5, p0, r⟩ := G
 refine hK.out _ _ (by exact ⟨a0, a1, a2, a3, a4, a5, e0, e1, e2, e3, e4, e5, p0⟩) (fun hHeldv2 => ?_)
 clear hK K hHeldv1
 try simp only [Act.put]
 refine tl 5 ?_
 refine wpAnyH_done (by kernel_rfl) ?_ _
 have HLL1 := Lib.hid (corO_len (HO1.out.symm.trans HV1.out))
 obtain ⟨n91, hn9⟩ : ∃ z, z = L1.length := ⟨_, rfl⟩
 rw [← hn9]
 have HN1 := Lib.hid hn9
 clear hn9
 obtain ⟨o2, ho2⟩ : ∃ o, o = corO (quoO S p true) x y := ⟨_, rfl⟩
 have HO2 := Lib.hid ho2
 clear ho2
 go_wp2_with fail
 have b : Below w'.heap.size w' (World.drew w') := below_drewN (Below.refl _ _) 1
 replace BB := bnx BB b
 have G := mv b rfl (J20 hT h1 h2 h3 h4 a0 a1 a2 a3 a4 a5 e0 e1 e2 e3 e4 e5 p0 r hq1)
 clear b hT h1 h2 h3 h4 a0 a1 a2 a3 a4 a5 e0 e1 e2 e3 e4 e5 p0 r hq1
 obtain ⟨hT, h1, h2, h3, h4, a0, a1, a2, a3, a4, a5, e0, e1, e2, e3, e4, e5, p0, r, hq1⟩ := G
 refine wp_region_held_drew (S := fun w' => w'.cell? ⟨ga, 0, none⟩ = some (.bool x.lo.s) ∧ w'.cell? ⟨ga, 1, none⟩ = some (.slice A1 n1 c1) ∧ w'.cell? ⟨ga, 2, none⟩ = some (.int .i64 x.lo.e) ∧ w'.cell? ⟨ga, 3, none⟩ = some (.bool x.hi.s) ∧ w'.cell? ⟨ga, 4, none⟩ = some (.slice A2 n2 c2) ∧ w'.cell? ⟨ga, 5, none⟩ = some (.int .i64 x.hi.e) ∧ w'.cell? ⟨gb, 0, none⟩ = some (.bool y.lo.s) ∧ w'.cell? ⟨gb, 1, none⟩ = some (.slice A3 n3 c3) ∧ w'.cell? ⟨gb, 2, none⟩ = some (.int .i64 y.lo.e) ∧ w'.cell? ⟨gb, 3, none⟩ = some (.bool y.hi.s) ∧ w'.cell? ⟨gb, 4, none⟩ = some (.slice A4 n4 c4) ∧ w'.cell? ⟨gb, 5, none⟩ = some (.int .i64 y.hi.e) ∧ w'.cell? ⟨gp, 0, none⟩ = some (.int .i64 p)) (by kernel_rfl) (by exact ⟨a0, a1, a2, a3, a4, a5, e0, e1, e2, e3, e4, e5, p0⟩) (fun hHeldu0 => ?_)
 generalize World.drew w' = wd at *
 refine tl 0 ?_
 refine tl 1 ?_
 refine tl 2 ?_
 refine rdy 3 fun K hK => ?_
 go_simp
 refine (aquotient_any (p := p) (up := true)).mono ?_
 rintro en w' ⟨q3, q4, rfl, xq, xu, b⟩
 replace BB := below_next BB BB.size b (by rfl) (by rfl) (by rfl) (by rfl)
 have G := mv b (by rfl) <| And.intro hT <| And.intro h1 <| And.intro h2 <| And.intro h3 <| And.intro h4 <| And.intro a0 <| And.intro a1 <| And.intro a2 <| And.intro a3 <| And.intro a4 <| And.intro a5 <| And.intro e0 <| And.intro e1 <| And.intro e2 <| And.intro e3 <| And.intro e4 <| And.intro e5 <| And.intro p0 <| And.intro r <| hq1
 clear b hT h1 h2 h3 h4 a0 a1 a2 a3 a4 a5 e0 e1 e2 e3 e4 e5 p0 r hq1
 obtain ⟨hT, h1, h2, h3, h4, a0, a1, a2, a3, a4, a5, e0, e1, e2, e3, e4, e5, p0, r, hq1⟩ := G
 refine hK.out _ _ (by exact ⟨a0, a1, a2, a3, a4, a5, e0, e1, e2, e3, e4, e5, p0⟩) (fun hHeldu1 => ?_)
 clear hK K hHeldu0
 try simp only [Act.put]
 refine rdy 4 fun K hK => ?_
 go_simp
 refine (runl_to HO2.out (corners2_run (F := quoO S p true) (f := 129) h1 h2 h3 h4 (fun _ _ _ => by kernel_rfl) (fun W2 a b A1 n1 c1 A2 n2 c2 b2 ha hb => quotient1_run S (hT.next b2 rfl) ha hb (mv b2 rfl xq) (mv b2 rfl xu)))).mono ?_
 rintro en w' (⟨L2, g2, c9, hv, rfl, hq2, b⟩ | ⟨kk, hk, hk0, rfl, b⟩)
 rotate_left
 ·exact ⟨rfl, .inr ⟨kk, (HQ.out.trans (by simp only [HDV.out, thn, ← HO1.out, HV1.out, ← HO2.out, hk])), hk0, rfl, below_next BB BB.size b (by rfl) (by rfl) (by rfl) (by rfl)⟩⟩
 have HV2 := Lib.hid hv
 clear hv
 clear xq xu
 replace BB := below_next BB BB.size b (by rfl) (by rfl) (by rfl) (by rfl)
 have G := mv b (by rfl) <| And.intro hT <| And.intro h1 <| And.intro h2 <| And.intro h3 <| And.intro h4 <| And.intro a0 <| And.intro a1 <| And.intro a2 <| And.intro a3 <| And.intro a4 <| And.intro a5 <| And.intro e0 <| And.intro e1 <| And.intro e2 <| And.intro e3 <| And.intro e4 <| And.intro e5 <| And.intro p0 <| And.intro r <| hq1
 clear b hT h1 h2 h3 h4 a0 a1 a2 a3 a4 a5 e0 e1 e2 e3 e4 e5 p0 r hq1
 obtain ⟨hT, h1, h2, h3, h4, a0, a1, a2, a3, a4, a5, e0, e1, e2, e3, e4, e5, p0, r, hq1⟩ := G
 refine hK.out _ _ (by exact ⟨a0, a1, a2, a3, a4, a5, e0, e1, e2, e3, e4, e5, p0⟩) (fun hHeldu2 => ?_)
 clear hK K hHeldu1
 try simp only [Act.put]
 refine tl 5 ?_
 refine wpAnyH_done (by kernel_rfl) ?_ _
 have HLL2 := Lib.hid (corO_len (HO2.out.symm.trans HV2.out))
 obtain ⟨n92, hn9⟩ : ∃ z, z = L2.length := ⟨_, rfl⟩
 rw [← hn9]
 have HN2 := Lib.hid hn9
 clear hn9
 clear h1 h2 h3 h4 a0 a1 a2 a3 a4 a5 e0 e1 e2 e3 e4 e5 p0
 obtain ⟨ql, hql⟩ : ∃ z, z = leaL S L1 := ⟨_, rfl⟩
 obtain ⟨qg, hqg⟩ : ∃ z, z = greL S L2 := ⟨_, rfl⟩
 have HQL := Lib.hid hql
 have HQG := Lib.hid hqg
 clear hql hqg
 go_wp2_with fail
 refine (show Calls _ _ _ _ (GivQ ql _) from by rw [HQL.out, HN1.out]; exact least_any S hT hq1 HLL1.out.1 HLL1.out.2).mono ?_
 rintro en w2 ⟨A5, n5, c5, rfl, h5, b⟩
 clear hq1
 replace BB := bnx BB b
 have G := mv b rfl (J3 hT r hq2)
 clear b hT r hq2
 obtain ⟨hT, r, hq2⟩ := G
 go_wp2_with fail
 refine (show Calls _ _ _ _ (GivQ qg _) from by rw [HQG.out, HN2.out]; exact greatest_any S hT hq2 HLL2.out.1 HLL2.out.2).mono ?_
 rintro en w3 ⟨A6, n6, c6, rfl, h6, b⟩
 clear hq2
 replace BB := bnx BB b
 have G := mv b rfl (J3 hT r h5)
 clear b hT r h5
 obtain ⟨hT, r, h5⟩ := G
 have HL : q = .ok ⟨ql, qg⟩ := by rw [HQL.out, HQG.out]; exact (HQ.out.trans (by simp only [HDV.out, thn, ← HO1.out, HV1.out, ← HO2.out, HV2.out]))
 replace HL := Lib.hid HL
 obtain ⟨f0, f1, f2, f3, f4, f5⟩ := r.open
 obtain ⟨z0, z1, z2, z3, z4, z5⟩ := r.held
 go_wp2
 have qq := r.put ql.s A5 n5 c5 ql.e qg.s A6 n6 c6 qg.e
 have hN := h5.put6 r (.bool ql.s) (.slice A5 n5 c5) (.int .i64 ql.e) (.bool qg.s) (.slice A6 n6 c6) (.int .i64 qg.e)
 have hM := h6.put6 r (.bool ql.s) (.slice A5 n5 c5) (.int .i64 ql.e) (.bool qg.s) (.slice A6 n6 c6) (.int .i64 qg.e)
 have HB3 := below_put6 (g := w.heap.size) BB (by omega) (.bool ql.s) (.slice A5 n5 c5) (.int .i64 ql.e) (.bool qg.s) (.slice A6 n6 c6) (.int .i64 qg.e)
 obtain ⟨z0, z1, z2, z3, z4, z5⟩ := qq.held
 exact bodyPost_ret (v := .agg #[.bool ql.s, .slice A5 n5 c5, .int .i64 ql.e, .bool qg.s, .slice A6 n6 c6, .int .i64 qg.e]) (by simp [results, Tryz.results91, go_sem, z0, z1, z2, z3, z4, z5]) rfl (.inl ⟨⟨ql, qg⟩, HL.out, _, _, _, _, _, _, rfl, hN, hM, HB3⟩)

end Go.Proofs.YteagjlcmgiknmaaGreatDoor
