/-
 Contract of the statements' own told of layer 9: it returns true, at this translation. Condition: the slices read as limbs, the table of math/bits reads as its text lays it.
-/
import Derived.Test.YteagjlcmgiknmaaGreatDoorQJq
import Derived.Test.YteagjlcmgiknmaaGreatDoorQGv
set_option maxHeartbeats 8000000
set_option maxRecDepth 100000
namespace Go.Proofs.YteagjlcmgiknmaaGreatDoor
open Go.RowKit

theorem jsizes_13 {w : World} : Calls Tryz.prog 14 #[.int .i64 13, .int .i64 30] w (Bools false w) := by
 go_enter Tryz.func14, Tryz.ntmps14
 go_wp2
 exact bodyPost_ret (v := .bool false) (by simp [results, Tryz.results14, go_sem]) rfl ⟨rfl, Below.refl _ _⟩

theorem jsolve_no (S : Sc) {w : World} {nl cL cO : Nat} {AL AO : Option Addr} {L : Nat → Ln} {O : Nat → Int} (hT : Tab w) (hL : RdL w AL nl cL L) (hO : RdZ w AO 1 cO O) (hm : mayT S.K ⟨nl, L, 1, O⟩ 0 0 0 = false) :
  Calls Tryz.prog 6 #[.agg #[.slice AL nl cL, .slice AO 1 cO], .agg #[.bool false, .slice none 0 0, .int .i64 0, .bool false, .slice none 0 0, .int .i64 0], .slice none 0 0, .slice none 0 0, .int .i64 3, .int .i64 30] w (fun en w' => en = .returned (.tuple #[.slice none 0 0, .int .i64 1]) ∧ Below w.heap.size w w') := by
 have BB := two_below w (.cells #[.slice AL nl cL, .slice AO 1 cO] 35) (.cells #[.bool false, .slice none 0 0, .int .i64 0, .bool false, .slice none 0 0, .int .i64 0] 29)
 have xt := mv (below_alloc (w.alloc (.cells #[.slice AL nl cL, .slice AO 1 cO] 35)) (.cells #[.bool false, .slice none 0 0, .int .i64 0, .bool false, .slice none 0 0, .int .i64 0] 29)) rfl (Blk.new w #[.slice AL nl cL, .slice AO 1 cO] 35)
 have p0 : World.cell? _ ⟨_, 0, none⟩ = some (.slice AL nl cL) := xt.at 0
 have p1 : World.cell? _ ⟨_, 1, none⟩ = some (.slice AO 1 cO) := xt.at 1
 clear xt
 have G := mv BB rfl <| And.intro hT <| And.intro hL hO
 clear hT hL hO
 obtain ⟨hT, hL, hO⟩ := G
 have HmT := Lib.hid hm
 clear hm
 go_enter Tryz.func6, Tryz.ntmps6
 go_wp2
 go_step3
 generalize (w.alloc (.cells #[.slice AL nl cL, .slice AO 1 cO] 35)).alloc (.cells #[.bool false, .slice none 0 0, .int .i64 0, .bool false, .slice none 0 0, .int .i64 0] 29) = W1 at *
 go_wp2_with fail
 refine (jsizes_yes (w := W1) (k := 3) (p := 30) ⟨by decide, by decide, by decide, by decide⟩).mono ?_
 rintro en w2 ⟨rfl, b⟩
 replace BB := bnx BB b
 have G := mv b rfl (J5 hT hL hO p0 p1)
 clear b hT hL hO p0 p1
 obtain ⟨hT, hL, hO, p0, p1⟩ := G
 go_wp2_with fail
 refine (show Calls _ _ _ _ (Bools false _) from by have h := tmay_any (K := S.K) (x := 0) (u := 0) (p := 0) S.big hT hL hO; rw [HmT.out] at h; exact h).mono ?_
 rintro en w3 ⟨rfl, b⟩
 replace BB := bnx BB b
 clear b
 go_wp2
 first | rw [Exit.noGoto_ret] | skip
 exact bodyPost_ret (v := .tuple #[.slice none 0 0, .int .i64 1]) (by simp [results, Tryz.results6, go_sem]) rfl ⟨rfl, BB⟩

theorem jseries_13 {w : World} {nl cL cO : Nat} {AL AO : Option Addr} :
  Calls Tryz.prog 32 #[.agg #[.slice AL nl cL, .slice AO 1 cO], .slice none 0 0, .slice none 0 0, .slice none 0 0, .int .i64 13, .int .i64 30] w (fun en w' => en = .returned (.tuple #[.slice none 0 0, .int .i64 1]) ∧ Below w.heap.size w w') := by
 have BB := below_alloc w (.cells #[.slice AL nl cL, .slice AO 1 cO] 35)
 go_enter Tryz.func32, Tryz.ntmps32
 go_wp2
 go_step3
 generalize w.alloc (.cells #[.slice AL nl cL, .slice AO 1 cO] 35) = W1 at *
 go_wp2_with fail
 refine (jsizes_13 (w := W1)).mono ?_
 rintro en w2 ⟨rfl, b⟩
 replace BB := bnx BB b
 clear b
 go_wp2
 first | rw [Exit.noGoto_ret] | skip
 exact bodyPost_ret (v := .tuple #[.slice none 0 0, .int .i64 1]) (by simp [results, Tryz.results32, go_sem]) rfl ⟨rfl, BB⟩

theorem told9_any {w : World} (hT : Tab w) :
  Calls Tryz.prog 10 #[] w (Bools true w) := by
 obtain ⟨S⟩ := sc_has
 have HPl := Lib.hid (plan_t9 S)
 have HP0 := Lib.hid (t9_start S)
 obtain ⟨o1, ho1⟩ : ∃ o1 : Iv, o1 = pwI 0 := ⟨_, rfl⟩
 have HM := Lib.hid (show mayI S.K o1 = true by rw [ho1]; exact mayI_point (pw_may 0 (by omega) (by omega)))
 have HR := Lib.hid (show rouI S o1 30 = .ok (pwI 0) by rw [ho1]; exact rou_pw S 0 (by omega) (by omega))
 have HOF : ∀ (W : World), Rd W .u64 Go.Proofs.YteagjlcmgiknmaaGreatDoor.W (some ⟨w.heap.size, 0, none⟩) 1 1 [1] → Calls Tryz.prog 7 #[.agg #[.bool false, .slice (some ⟨w.heap.size, 0, none⟩) 1 1, .int .i64 0]] W (GivI o1 W) := fun W h => by
  have h2 := iof_any (a := pwQ 0) (w := W) (show Rd W .u64 Go.Proofs.YteagjlcmgiknmaaGreatDoor.W (some ⟨w.heap.size, 0, none⟩) 1 1 (pwQ 0).l from by rw [show (pwQ 0).l = [1] from dig_one (by omega) (small_W (by omega))]; exact h) (by omega)
  rw [ho1]
  exact h2
 clear ho1
 have BB := below_alloc w (.cells #[.int .u64 1] 46)
 have r1 := rd_wl (w := w) (v := 1) (by omega)
 replace hT := mv BB rfl hT
 go_enter Tryz.func10, Tryz.ntmps10
 go_wp2_with fail
 generalize w.alloc (.cells #[.int .u64 1] 46) = W1 at *
 refine (HOF W1 r1).mono ?_
 rintro en w1 ⟨A7, n7, c7, A8, n8, c8, rfl, h7, h8, b⟩
 clear r1
 replace BB := bnx BB b
 replace hT := mv b rfl hT
 clear b
 have b := below_alloc w1 (.cells #[.bool o1.lo.s, .slice A7 n7 c7, .int .i64 o1.lo.e, .bool o1.hi.s, .slice A8 n8 c8, .int .i64 o1.hi.e] 29)
 obtain ⟨m0, m1, m2, m3, m4, m5⟩ := (Ibx.new w1 o1.lo.s A7 n7 c7 o1.lo.e o1.hi.s A8 n8 c8 o1.hi.e).held
 replace BB := bnx BB b
 have G := mv b rfl (J3 hT h7 h8)
 clear b hT h7 h8
 obtain ⟨hT, h7, h8⟩ := G
 go_upto_region 2 with fail
 generalize w1.alloc (.cells #[.bool o1.lo.s, .slice A7 n7 c7, .int .i64 o1.lo.e, .bool o1.hi.s, .slice A8 n8 c8, .int .i64 o1.hi.e] 29) = W2 at *
 generalize w1.heap.size = s0 at *
 have b := three_below W2 (.cells #[.int .i64 3, .int .i64 0, .int .i64 0, .bool false, .slice none 0 0, .int .i64 0, .bool false, .slice none 0 0, .int .i64 0] 31) (.cells #[.int .i64 0] 3) (.cells #[.slice (some ⟨W2.heap.size, 0, none⟩) 1 1, .slice (some ⟨W2.heap.size + 1, 0, none⟩) 1 1] 35)
 have xl := mv (two_below (W2.alloc (.cells #[.int .i64 3, .int .i64 0, .int .i64 0, .bool false, .slice none 0 0, .int .i64 0, .bool false, .slice none 0 0, .int .i64 0] 31)) (.cells #[.int .i64 0] 3) (.cells #[.slice (some ⟨W2.heap.size, 0, none⟩) 1 1, .slice (some ⟨W2.heap.size + 1, 0, none⟩) 1 1] 35)) rfl (Blk.new W2 #[.int .i64 3, .int .i64 0, .int .i64 0, .bool false, .slice none 0 0, .int .i64 0, .bool false, .slice none 0 0, .int .i64 0] 31)
 have xo : Blk ((W2.alloc (.cells #[.int .i64 3, .int .i64 0, .int .i64 0, .bool false, .slice none 0 0, .int .i64 0, .bool false, .slice none 0 0, .int .i64 0] 31)).alloc (.cells #[.int .i64 0] 3)) (W2.heap.size + 1) #[.int .i64 0] 3 := by have := Blk.new (W2.alloc (.cells #[.int .i64 3, .int .i64 0, .int .i64 0, .bool false, .slice none 0 0, .int .i64 0, .bool false, .slice none 0 0, .int .i64 0] 31)) #[.int .i64 0] 3; rwa [World.size_alloc] at this
 replace xo := mv (below_alloc ((W2.alloc (.cells #[.int .i64 3, .int .i64 0, .int .i64 0, .bool false, .slice none 0 0, .int .i64 0, .bool false, .slice none 0 0, .int .i64 0] 31)).alloc (.cells #[.int .i64 0] 3)) (.cells #[.slice (some ⟨W2.heap.size, 0, none⟩) 1 1, .slice (some ⟨W2.heap.size + 1, 0, none⟩) 1 1] 35)) rfl xo
 have xt : Blk (((W2.alloc (.cells #[.int .i64 3, .int .i64 0, .int .i64 0, .bool false, .slice none 0 0, .int .i64 0, .bool false, .slice none 0 0, .int .i64 0] 31)).alloc (.cells #[.int .i64 0] 3)).alloc (.cells #[.slice (some ⟨W2.heap.size, 0, none⟩) 1 1, .slice (some ⟨W2.heap.size + 1, 0, none⟩) 1 1] 35)) (W2.heap.size + 2) #[.slice (some ⟨W2.heap.size, 0, none⟩) 1 1, .slice (some ⟨W2.heap.size + 1, 0, none⟩) 1 1] 35 := by have := Blk.new ((W2.alloc (.cells #[.int .i64 3, .int .i64 0, .int .i64 0, .bool false, .slice none 0 0, .int .i64 0, .bool false, .slice none 0 0, .int .i64 0] 31)).alloc (.cells #[.int .i64 0] 3)) #[.slice (some ⟨W2.heap.size, 0, none⟩) 1 1, .slice (some ⟨W2.heap.size + 1, 0, none⟩) 1 1] 35; rwa [World.size_alloc, World.size_alloc] at this
 replace BB := bnx BB b
 have G := mv b rfl (J9 hT m0 m1 m2 m3 m4 m5 h7 h8)
 clear b hT m0 m1 m2 m3 m4 m5 h7 h8
 obtain ⟨hT, m0, m1, m2, m3, m4, m5, h7, h8⟩ := G
 go_upto_region 3 with fail
 generalize ((W2.alloc (.cells #[.int .i64 3, .int .i64 0, .int .i64 0, .bool false, .slice none 0 0, .int .i64 0, .bool false, .slice none 0 0, .int .i64 0] 31)).alloc (.cells #[.int .i64 0] 3)).alloc (.cells #[.slice (some ⟨W2.heap.size, 0, none⟩) 1 1, .slice (some ⟨W2.heap.size + 1, 0, none⟩) 1 1] 35) = W3 at *
 generalize W2.heap.size = s1 at *
 have hL := rdl1x xl
 have hO := rdz1x xo
 clear xl xo
 have t0 : World.cell? _ ⟨s1 + 1 + 1, 0, none⟩ = some (.slice (some ⟨s1, 0, none⟩) 1 1) := xt.at 0
 have t1 : World.cell? _ ⟨s1 + 1 + 1, 1, none⟩ = some (.slice (some ⟨s1 + 1, 0, none⟩) 1 1) := xt.at 1
 clear xt
 have y0 := t0
 have y1 := t1
 have y2 := m0
 have y3 := m1
 have y4 := m2
 have y5 := m3
 have y6 := m4
 have y7 := m5
 have b := below_alloc W3 (.cells #[.bool o1.lo.s, .slice A7 n7 c7, .int .i64 o1.lo.e, .bool o1.hi.s, .slice A8 n8 c8, .int .i64 o1.hi.e] 29)
 have xb := Ibx.new W3 o1.lo.s A7 n7 c7 o1.lo.e o1.hi.s A8 n8 c8 o1.hi.e
 replace BB := bnx BB b
 have G := mv b rfl (J13 hT m0 m1 m2 m3 m4 m5 h7 h8 hL hO t0 t1)
 clear b hT m0 m1 m2 m3 m4 m5 h7 h8 hL hO t0 t1
 obtain ⟨hT, m0, m1, m2, m3, m4, m5, h7, h8, hL, hO, t0, t1⟩ := G
 go_wp2_with fail
 generalize W3.alloc (.cells #[.bool o1.lo.s, .slice A7 n7 c7, .int .i64 o1.lo.e, .bool o1.hi.s, .slice A8 n8 c8, .int .i64 o1.hi.e] 29) = W4 at *
 generalize W3.heap.size = s2 at *
 have hX := rds_one (x := o1) xb h7 h8
 clear xb m0 m1 m2 m3 m4 m5 h7 h8 y0 y1 y2 y3 y4 y5 y6 y7
 refine (jsolve_ok S (k := 3) (p := 30) (t := Iv.zero) (L := L1x) (O := fun _ => 0) (P := PE (Gt9 S)) hT hL hO (ln := 0) rfl (by omega) (by omega) (rd_nil0 _) (rd_nil0 _) hX (mayI_point Rw.zero_may) HM.out (may_l1 S.K) (by omega) ⟨by omega, by omega⟩ HR.out HP0.out HPl.out).mono ?_
 rintro en w5 ⟨gx, cx, vx, LX, QX, rfl, hx, hP, b⟩
 clear hX
 replace BB := bnx BB b
 have G := mv b rfl (J5 hT hL hO t0 t1)
 clear b hT hL hO t0 t1
 obtain ⟨hT, hL, hO, t0, t1⟩ := G
 have hPl := hP.1
 have HG := Lib.hid hP.2.2.1
 clear hP
 obtain ⟨AV, cV, hva, hV, _⟩ := hx.row.form
 have x0 := hx.first
 rw [hva, hPl] at x0
 rw [hPl] at hV
 clear hva hx
 obtain ⟨gv, ov, hav, hI⟩ := hV.at_ (by omega)
 subst hav
 have hI2 : IvAt w5 gv (ov + 2 * 6) (LX.getD 2 Iv.zero) := hI 2 (by omega)
 have hI3 : IvAt w5 gv (ov + 3 * 6) (LX.getD 3 Iv.zero) := hI 3 (by omega)
 clear hI hV
 have G2 := HG.out 2 (by omega)
 have G3 := HG.out 3 (by omega)
 rw [show LX.getD 2 Iv.zero = pwI (-1) from G2.2.2.2 rfl] at hI2
 clear G2
 obtain ⟨I3, hI9⟩ : ∃ I, I = LX.getD 3 Iv.zero := ⟨_, rfl⟩
 rw [← hI9] at hI3 G3
 clear hI9 HG
 obtain ⟨u, v, hu, hv, huv⟩ := t9_less G3
 clear G3
 obtain ⟨B1, k1, d1, B2, k2, d2, ⟨_, _, e2, _, _, _⟩, _, _⟩ := hI2
 obtain ⟨A1, n1, c1, A2, n2, c2, ⟨r0, r1, r2, r3, r4, r5⟩, q1, q2⟩ := hI3
 replace e2 : w5.cell? ⟨gv, ov + 2 * 6 + 2, none⟩ = some (.int .i64 (-1)) := e2
 go_wp2_with fail
 refine (jsolve_no S hT hL hO (by simpa using may_l1_no S.K)).mono ?_
 rintro en w6 ⟨rfl, b⟩
 replace BB := bnx BB b
 have G := mv b rfl (J15 hT hL hO t0 t1 x0 e2 r0 r1 r2 r3 r4 r5 q1 q2)
 clear b hT hL hO t0 t1 x0 e2 r0 r1 r2 r3 r4 r5 q1 q2
 obtain ⟨hT, hL, hO, t0, t1, x0, e2, r0, r1, r2, r3, r4, r5, q1, q2⟩ := G
 go_wp2_with fail
 refine (jseries_13 (w := w6)).mono ?_
 rintro en w7 ⟨rfl, b⟩
 replace BB := bnx BB b
 have G := mv b rfl (J15 hT hL hO t0 t1 x0 e2 r0 r1 r2 r3 r4 r5 q1 q2)
 clear b hT hL hO t0 t1 x0 e2 r0 r1 r2 r3 r4 r5 q1 q2
 obtain ⟨hT, hL, hO, t0, t1, x0, e2, r0, r1, r2, r3, r4, r5, q1, q2⟩ := G
 clear hL hO t0 t1
 go_upto_region 6 with fail
 have b : Below w7.heap.size w7 (World.drew w7) := below_drewN (Below.refl _ _) 1
 replace BB := bnx BB b
 have G := mv b rfl (J11 hT q1 q2 x0 e2 r0 r1 r2 r3 r4 r5)
 clear b hT q1 q2 x0 e2 r0 r1 r2 r3 r4 r5
 obtain ⟨hT, q1, q2, x0, e2, r0, r1, r2, r3, r4, r5⟩ := G
 refine wp_region_held_drew (S := fun w' => w'.cell? ⟨gx, 0, none⟩ = some (.slice (some ⟨gv, ov, none⟩) 4 cV) ∧ w'.cell? ⟨gv, ov + 2 * 6 + 2, none⟩ = some (.int .i64 (-1)) ∧ w'.cell? ⟨gv, ov + 3 * 6, none⟩ = some (.bool I3.lo.s) ∧ w'.cell? ⟨gv, ov + 3 * 6 + 1, none⟩ = some (.slice A1 n1 c1) ∧ w'.cell? ⟨gv, ov + 3 * 6 + 2, none⟩ = some (.int .i64 I3.lo.e) ∧ w'.cell? ⟨gv, ov + 3 * 6 + 3, none⟩ = some (.bool I3.hi.s) ∧ w'.cell? ⟨gv, ov + 3 * 6 + 4, none⟩ = some (.slice A2 n2 c2) ∧ w'.cell? ⟨gv, ov + 3 * 6 + 5, none⟩ = some (.int .i64 I3.hi.e)) (by kernel_rfl) (by exact ⟨x0, e2, r0, r1, r2, r3, r4, r5⟩) (fun hHeldv0 => ?_)
 generalize World.drew w7 = wd at *
 refine tl 0 ?_
 refine tl 1 ?_
 refine tl 2 ?_
 refine tl 3 ?_
 refine tl 4 ?_
 refine tl 5 ?_
 refine tl 6 ?_
 refine tl 7 ?_
 refine tl 8 ?_
 refine tl 9 ?_
 refine tl 10 ?_
 refine tl 11 ?_
 refine tl 12 ?_
 refine tl 13 ?_
 refine tl 14 ?_
 refine tl 15 ?_
 refine tl 16 ?_
 refine tl 17 ?_
 refine tl 18 ?_
 refine tl 19 ?_
 refine tl 20 ?_
 refine tl 21 ?_
 refine tl 22 ?_
 refine tl 23 ?_
 refine tl 24 ?_
 refine tl 25 ?_
 refine tl 26 ?_
 refine tl 27 ?_
 refine tl 28 ?_
 refine tl 29 ?_
 refine tl 30 ?_
 refine tl 31 ?_
 refine tl 32 ?_
 refine tl 33 ?_
 refine tl 34 ?_
 refine tl 35 ?_
 refine tl 36 ?_
 refine rdy 37 fun K hK => ?_
 go_simp
 refine (dcmp_at hT q1 q2 hu hv).mono ?_
 rintro en w8 ⟨rfl, b⟩
 rw [show cmpV u v = -1 from if_pos huv]
 clear hT q1 q2
 replace BB := bnx BB b
 have G := mv b rfl (J8 x0 e2 r0 r1 r2 r3 r4 r5)
 clear b x0 e2 r0 r1 r2 r3 r4 r5
 obtain ⟨x0, e2, r0, r1, r2, r3, r4, r5⟩ := G
 refine hK.out _ _ (by exact ⟨x0, e2, r0, r1, r2, r3, r4, r5⟩) (fun hHeldv1 => ?_)
 clear hK K hHeldv0
 try simp only [Act.put]
 refine tl 38 ?_
 refine tl 39 ?_
 refine tl 40 ?_
 refine tl 41 ?_
 refine tl 42 ?_
 refine tl 43 ?_
 refine tl 44 ?_
 refine tl 45 ?_
 refine tl 46 ?_
 refine tl 47 ?_
 refine tl 48 ?_
 refine wpAnyH_done (by kernel_rfl) ?_ _
 go_wp2
 go_ret
 exact ⟨by first | rfl | simp, BB⟩

end Go.Proofs.YteagjlcmgiknmaaGreatDoor
