/-
 Contract of the statement JetKnown's function: it returns true, whatever its arguments, at this translation. Condition: the slices read as limbs, the table of math/bits reads as its text lays it.
-/
import Derived.StillTailTactics
import Derived.Test.YteagjlcmgiknmaaGreatDoorQJr
import Derived.Test.YteagjlcmgiknmaaGreatDoorQGv
set_option maxHeartbeats 8000000
set_option maxRecDepth 100000
namespace Go.Proofs.YteagjlcmgiknmaaGreatDoor
open Go.RowKit

theorem kn_z (x : Int) : -15 ≤ wrap64 (wrap64 ((IntKind.u64.wrap x).tmod 31) - 15) ∧ wrap64 (wrap64 ((IntKind.u64.wrap x).tmod 31) - 15) ≤ 15 := by
 rw [IntKind.wrap_u64]
 unfold wrap64
 have : 0 ≤ x % 18446744073709551616 := Int.emod_nonneg _ (by decide)
 rw [Int.tmod_eq_emod_of_nonneg this]
 omega
theorem kn_p (x : Int) : 8 ≤ wrap64 (8 + wrap64 ((IntKind.u64.wrap x).tmod 73)) ∧ wrap64 (8 + wrap64 ((IntKind.u64.wrap x).tmod 73)) ≤ 80 := by
 rw [IntKind.wrap_u64]
 unfold wrap64
 have : 0 ≤ x % 18446744073709551616 := Int.emod_nonneg _ (by decide)
 rw [Int.tmod_eq_emod_of_nonneg this]
 omega
theorem kn_k (x : Int) : ∃ k : Nat, wrap64 ((IntKind.u64.wrap x).tmod 9) = (k : Int) ∧ k ≤ 8 := by
 rw [IntKind.wrap_u64]
 unfold wrap64
 have : 0 ≤ x % 18446744073709551616 := Int.emod_nonneg _ (by decide)
 rw [Int.tmod_eq_emod_of_nonneg this]
 exact ⟨(((x % 18446744073709551616 % 9 + 9223372036854775808) % 18446744073709551616 - 9223372036854775808)).toNat, by omega, by omega⟩

theorem jetknown_any {w : World} {nn kk bb : Int} (hT : Tab w) :
  Calls Tryz.prog 3 #[.int .i64 nn, .int .i64 kk, .int .i64 bb] w (Bools true w) := by
 obtain ⟨S⟩ := sc_has
 have BB := Below.refl w.heap.size w
 go_enter Tryz.func3, Tryz.ntmps3
 go_upto_region 3 with fail
 have HZ := kn_z nn
 have HPP := kn_p bb
 generalize wrap64 (wrap64 ((IntKind.u64.wrap nn).tmod 31) - 15) = z at HZ ⊢
 generalize wrap64 (8 + wrap64 ((IntKind.u64.wrap bb).tmod 73)) = p at HPP ⊢
 obtain ⟨HZ1, HZ2⟩ := HZ
 obtain ⟨HP1, HP2⟩ := HPP
 have HZA : z.natAbs ≤ 15 := by omega
 go_wp2_with fail
 refine (of_is S hT ⟨by omega, by omega⟩).mono ?_
 rintro en w1 ⟨d, A1, n1, c1, rfl, r1, e1, b⟩
 replace BB := bnx BB b
 replace hT := mv b rfl hT
 clear b
 have b := below_alloc w1 (.cells #[.bool d.s, .slice A1 n1 c1, .int .i64 d.e] 25)
 obtain ⟨a0, a1, a2⟩ := (Box.new w1 d.s A1 n1 c1 d.e).held
 replace BB := bnx BB b
 have G := mv b rfl <| And.intro hT <| r1
 clear b hT r1
 obtain ⟨hT, r1⟩ := G
 go_upto_region 4 with fail
 generalize w1.alloc (.cells #[.bool d.s, .slice A1 n1 c1, .int .i64 d.e] 25) = W2 at *
 generalize w1.heap.size = s0 at *
 have b := three_below W2 (.cells #[.int .i64 3, .int .i64 0, .int .i64 0, .bool false, .slice none 0 0, .int .i64 0, .bool false, .slice none 0 0, .int .i64 0, .int .i64 8, .int .i64 0, .int .i64 0, .bool false, .slice none 0 0, .int .i64 0, .bool false, .slice none 0 0, .int .i64 0] 31) (.cells #[.int .i64 1] 3) (.cells #[.slice (some ⟨W2.heap.size, 0, none⟩) 2 2, .slice (some ⟨W2.heap.size + 1, 0, none⟩) 1 1] 35)
 have xl := mv (two_below (W2.alloc (.cells #[.int .i64 3, .int .i64 0, .int .i64 0, .bool false, .slice none 0 0, .int .i64 0, .bool false, .slice none 0 0, .int .i64 0, .int .i64 8, .int .i64 0, .int .i64 0, .bool false, .slice none 0 0, .int .i64 0, .bool false, .slice none 0 0, .int .i64 0] 31)) (.cells #[.int .i64 1] 3) (.cells #[.slice (some ⟨W2.heap.size, 0, none⟩) 2 2, .slice (some ⟨W2.heap.size + 1, 0, none⟩) 1 1] 35)) rfl (Blk.new W2 #[.int .i64 3, .int .i64 0, .int .i64 0, .bool false, .slice none 0 0, .int .i64 0, .bool false, .slice none 0 0, .int .i64 0, .int .i64 8, .int .i64 0, .int .i64 0, .bool false, .slice none 0 0, .int .i64 0, .bool false, .slice none 0 0, .int .i64 0] 31)
 have xo : Blk ((W2.alloc (.cells #[.int .i64 3, .int .i64 0, .int .i64 0, .bool false, .slice none 0 0, .int .i64 0, .bool false, .slice none 0 0, .int .i64 0, .int .i64 8, .int .i64 0, .int .i64 0, .bool false, .slice none 0 0, .int .i64 0, .bool false, .slice none 0 0, .int .i64 0] 31)).alloc (.cells #[.int .i64 1] 3)) (W2.heap.size + 1) #[.int .i64 1] 3 := by have := Blk.new (W2.alloc (.cells #[.int .i64 3, .int .i64 0, .int .i64 0, .bool false, .slice none 0 0, .int .i64 0, .bool false, .slice none 0 0, .int .i64 0, .int .i64 8, .int .i64 0, .int .i64 0, .bool false, .slice none 0 0, .int .i64 0, .bool false, .slice none 0 0, .int .i64 0] 31)) #[.int .i64 1] 3; rwa [World.size_alloc] at this
 replace xo := mv (below_alloc ((W2.alloc (.cells #[.int .i64 3, .int .i64 0, .int .i64 0, .bool false, .slice none 0 0, .int .i64 0, .bool false, .slice none 0 0, .int .i64 0, .int .i64 8, .int .i64 0, .int .i64 0, .bool false, .slice none 0 0, .int .i64 0, .bool false, .slice none 0 0, .int .i64 0] 31)).alloc (.cells #[.int .i64 1] 3)) (.cells #[.slice (some ⟨W2.heap.size, 0, none⟩) 2 2, .slice (some ⟨W2.heap.size + 1, 0, none⟩) 1 1] 35)) rfl xo
 have xt : Blk (((W2.alloc (.cells #[.int .i64 3, .int .i64 0, .int .i64 0, .bool false, .slice none 0 0, .int .i64 0, .bool false, .slice none 0 0, .int .i64 0, .int .i64 8, .int .i64 0, .int .i64 0, .bool false, .slice none 0 0, .int .i64 0, .bool false, .slice none 0 0, .int .i64 0] 31)).alloc (.cells #[.int .i64 1] 3)).alloc (.cells #[.slice (some ⟨W2.heap.size, 0, none⟩) 2 2, .slice (some ⟨W2.heap.size + 1, 0, none⟩) 1 1] 35)) (W2.heap.size + 2) #[.slice (some ⟨W2.heap.size, 0, none⟩) 2 2, .slice (some ⟨W2.heap.size + 1, 0, none⟩) 1 1] 35 := by have := Blk.new ((W2.alloc (.cells #[.int .i64 3, .int .i64 0, .int .i64 0, .bool false, .slice none 0 0, .int .i64 0, .bool false, .slice none 0 0, .int .i64 0, .int .i64 8, .int .i64 0, .int .i64 0, .bool false, .slice none 0 0, .int .i64 0, .bool false, .slice none 0 0, .int .i64 0] 31)).alloc (.cells #[.int .i64 1] 3)) #[.slice (some ⟨W2.heap.size, 0, none⟩) 2 2, .slice (some ⟨W2.heap.size + 1, 0, none⟩) 1 1] 35; rwa [World.size_alloc, World.size_alloc] at this
 replace BB := bnx BB b
 have G := mv b rfl (J5 hT r1 a0 a1 a2)
 clear b hT r1 a0 a1 a2
 obtain ⟨hT, r1, a0, a1, a2⟩ := G
 go_upto_region 6 with fail
 generalize ((W2.alloc (.cells #[.int .i64 3, .int .i64 0, .int .i64 0, .bool false, .slice none 0 0, .int .i64 0, .bool false, .slice none 0 0, .int .i64 0, .int .i64 8, .int .i64 0, .int .i64 0, .bool false, .slice none 0 0, .int .i64 0, .bool false, .slice none 0 0, .int .i64 0] 31)).alloc (.cells #[.int .i64 1] 3)).alloc (.cells #[.slice (some ⟨W2.heap.size, 0, none⟩) 2 2, .slice (some ⟨W2.heap.size + 1, 0, none⟩) 1 1] 35) = W3 at *
 generalize W2.heap.size = s1 at *
 have hL := rdl2x xl
 have hO := rdz1x xo
 clear xl xo
 have t0 : World.cell? _ ⟨s1 + 1 + 1, 0, none⟩ = some (.slice (some ⟨s1, 0, none⟩) 2 2) := xt.at 0
 have t1 : World.cell? _ ⟨s1 + 1 + 1, 1, none⟩ = some (.slice (some ⟨s1 + 1, 0, none⟩) 1 1) := xt.at 1
 clear xt
 obtain ⟨k, hk, hk8⟩ := kn_k kk
 rw [hk]
 clear hk
 have hk0 : (0 : Int) ≤ k := by omega
 have hk9 : (k : Int) ≤ 8 := by omega
 have hw1 : IntKind.i64.wrap ((k : Int) + 1) = (k : Int) + 1 := IntWalk.i64_in _ (by omega)
 have hpp : 1 ≤ p ∧ p ≤ 100 := ⟨by omega, by omega⟩
 obtain ⟨hb0, hn0⟩ := sq_start (P := p.toNat + 8) (Q := p.toNat + 19) e1 (by omega)
 obtain ⟨c0, hR, hb1, hn1⟩ := sq_rou hpp (show 0 ≤ 8 by omega) (by omega) (by omega) hb0 hn0
 have HP0 := Lib.hid (ps_start (S := S) (p := p) (z := z) ⟨hb1, hn1⟩)
 have HPl := Lib.hid (plan_sq S (k := k) (p := p) (z := z) hpp (by omega) HZA)
 obtain ⟨I0, hI0⟩ : ∃ I0 : Iv, I0 = ⟨d, d⟩ := ⟨_, rfl⟩
 have HR := Lib.hid (show rouI S I0 p = .ok c0 by rw [hI0]; exact hR)
 have HM := Lib.hid (show mayI S.K I0 = true by rw [hI0]; exact bo_may hb0)
 clear hR hb0 hn0 hb1 hn1
 have hz1 : n1 ≤ 10000000000000 := len_at r1 (ends_small (x := ⟨d, d⟩) ⟨e1.1, e1.1⟩).1
 have HOF : ∀ (W : World), Rd W .u64 Go.Proofs.YteagjlcmgiknmaaGreatDoor.W A1 n1 c1 d.l → Calls Tryz.prog 7 #[.agg #[.bool d.s, .slice A1 n1 c1, .int .i64 d.e]] W (GivI I0 W) := fun W h => by rw [hI0]; exact iof_any h hz1
 clear hI0
 have b : Below W3.heap.size W3 (World.drew W3) := below_drewN (Below.refl _ _) 1
 replace BB := bnx BB b
 have G := mv b rfl (J9 hT r1 a0 a1 a2 hL hO t0 t1)
 clear b hT r1 a0 a1 a2 hL hO t0 t1
 obtain ⟨hT, r1, a0, a1, a2, hL, hO, t0, t1⟩ := G
 refine wp_region_held_drew (S := fun w' => w'.cell? ⟨s0, 0, none⟩ = some (.bool d.s) ∧ w'.cell? ⟨s0, 1, none⟩ = some (.slice A1 n1 c1) ∧ w'.cell? ⟨s0, 2, none⟩ = some (.int .i64 d.e) ∧ w'.cell? ⟨s1 + 1 + 1, 0, none⟩ = some (.slice (some ⟨s1, 0, none⟩) 2 2) ∧ w'.cell? ⟨s1 + 1 + 1, 1, none⟩ = some (.slice (some ⟨s1 + 1, 0, none⟩) 1 1)) (by kernel_rfl) (by exact ⟨a0, a1, a2, t0, t1⟩) (fun hHeldv0 => ?_)
 generalize World.drew W3 = wd at *
 refine tl 0 ?_
 refine tl 1 ?_
 refine tl 2 ?_
 refine tl 5 ?_
 refine tl 6 ?_
 refine rdy 3 fun K hK => ?_
 go_simp
 refine (HOF _ r1).mono ?_
 rintro en y1 ⟨A7, n7, c7, A8, n8, c8, rfl, h7, h8, b⟩
 replace BB := below_next BB BB.size b (by rfl) (by rfl) (by rfl) (by rfl)
 have G := mv b (by rfl) <| And.intro hT <| And.intro r1 <| And.intro a0 <| And.intro a1 <| And.intro a2 <| And.intro hL <| And.intro hO <| And.intro t0 <| t1
 clear b hT r1 a0 a1 a2 hL hO t0 t1
 obtain ⟨hT, r1, a0, a1, a2, hL, hO, t0, t1⟩ := G
 refine hK.out _ _ (by exact ⟨a0, a1, a2, t0, t1⟩) (fun hHeldv1 => ?_)
 clear hK K hHeldv0
 try simp only [Act.put]
 refine rdy 4 fun K hK => ?_
 go_simp
 have b := below_alloc y1 (.cells #[.bool I0.lo.s, .slice A7 n7 c7, .int .i64 I0.lo.e, .bool I0.hi.s, .slice A8 n8 c8, .int .i64 I0.hi.e] 29)
 have xb := Ibx.new y1 I0.lo.s A7 n7 c7 I0.lo.e I0.hi.s A8 n8 c8 I0.hi.e
 replace BB := below_next BB BB.size b (by rfl) (by rfl) (by rfl) (by rfl)
 have G := mv b (by rfl) <| And.intro hT <| And.intro r1 <| And.intro a0 <| And.intro a1 <| And.intro a2 <| And.intro hL <| And.intro hO <| And.intro t0 <| And.intro t1 <| And.intro h7 <| h8
 clear b hT r1 a0 a1 a2 hL hO t0 t1 h7 h8
 obtain ⟨hT, r1, a0, a1, a2, hL, hO, t0, t1, h7, h8⟩ := G
 have hX := rds_one (x := I0) xb h7 h8
 clear xb h7 h8
 generalize y1.alloc (.cells #[.bool I0.lo.s, .slice A7 n7 c7, .int .i64 I0.lo.e, .bool I0.hi.s, .slice A8 n8 c8, .int .i64 I0.hi.e] 29) = y2 at *
 generalize y1.heap.size = s2 at *
 refine hK.out _ _ (by exact ⟨a0, a1, a2, t0, t1⟩) (fun hHeldv2 => ?_)
 clear hK K hHeldv1
 try simp only [Act.put]
 refine rdy 7 fun K hK => ?_
 go_simp
 refine (jsolve_ok S (k := k) (p := p) (t := Iv.zero) (L := L2x) (O := fun _ => 1) (P := PS S p z) hT hL hO (ln := 1) rfl (by omega) (by omega) (rd_nil0 _) (rd_nil0 _) hX (mayI_point Rw.zero_may) HM.out (may_l2 S.K) (by omega) ⟨by omega, by omega⟩ HR.out HP0.out HPl.out).mono ?_
 rintro en y3 ⟨gx, cx, vx, LX, QX, rfl, hx, hP, b⟩
 clear hX hL hO
 replace BB := below_next BB BB.size b (by rfl) (by rfl) (by rfl) (by rfl)
 have G := mv b (by rfl) <| And.intro hT <| And.intro r1 <| And.intro a0 <| And.intro a1 <| And.intro a2 <| And.intro t0 <| t1
 clear b hT r1 a0 a1 a2 t0 t1
 obtain ⟨hT, r1, a0, a1, a2, t0, t1⟩ := G
 refine hK.out _ _ (by exact ⟨a0, a1, a2, t0, t1⟩) (fun hHeldv3 => ?_)
 clear hK K hHeldv2
 try simp only [Act.put]
 refine tl 8 ?_
 refine tl 9 ?_
 refine tl 10 ?_
 refine tl 11 ?_
 refine tl 12 ?_
 refine wpAnyH_done (by kernel_rfl) ?_ _
 have hPl := hP.1
 have HS := Lib.hid hP.2.2.2.1
 clear hP
 obtain ⟨AV, cV, hva, hV, _⟩ := hx.row.form
 have x0 := hx.first
 rw [hva, hPl] at x0
 rw [hPl] at hV
 clear hva hx hPl t0 t1
 go_upto_region 9 with fail
 have bd0 := below_alloc y3 (.cells #[.bool d.s, .slice A1 n1 c1, .int .i64 d.e] 25)
 have xd := Box.new y3 d.s A1 n1 c1 d.e
 have r2 := mv bd0 rfl r1
 have a0' := a0
 go_wp2
 go_loopg [16] (k + 1) (fun q v16 wr => ∃ (i : Nat) (c : Rw) (A3 : Option Addr) (n3 c3 : Nat), i + q = k + 1 ∧ v16 = .int .i64 i ∧ Box wr y3.heap.size c.s A3 n3 c3 c.e ∧ Rd wr .u64 Go.Proofs.YteagjlcmgiknmaaGreatDoor.W A3 n3 c3 c.l ∧ At S (3 * (i + 1)) (z ^ (i + 1)) c ∧ Below y3.heap.size y3 wr)
 case atStart => exact ⟨0, d, A1, n1, c1, by omega, rfl, xd, r2, by rw [Int.pow_succ, Int.pow_zero, Int.one_mul]; exact e1, bd0⟩
 case round =>
  clear xd r2 bd0 a0'
  obtain ⟨i, c, A3, n3, c3, hg, rfl, xc, r3, ec, hb⟩ := hrel
  have HG := Lib.hid hg
  clear hg
  have hT1 := mv hb rfl hT
  by_cases hi : i ≤ k
  ·have hi2 : (i : Int) ≤ (k : Int) := by omega
   have hi3 : (0 : Int) ≤ (i : Int) := by omega
   have hi4 : (i : Int) < (k : Int) + 1 := by omega
   obtain ⟨gv, ov, hav, hI⟩ := (mv hb rfl hV).at_ (by omega)
   have hIi : IvAt wr gv (ov + i * 6) (LX.getD i Iv.zero) := hI i (by omega)
   clear hI
   have HS2 := Lib.hid (HS.out i (by omega)).2
   obtain ⟨I, hI9⟩ : ∃ I, I = LX.getD i Iv.zero := ⟨_, rfl⟩
   rw [← hI9] at hIi HS2
   clear hI9
   have hhas := ni_has HS2.out ec
   have HH := Lib.hid hhas
   clear hhas
   obtain ⟨A5, n5, c5, A6, n6, c6, ⟨p0, p1, p2, p3, p4, p5⟩, q1, q2⟩ := hIi
   have x0r := mv hb rfl x0
   subst hav
   obtain ⟨d0, d1, d2⟩ := xc.held
   go_upto_region 13 with fail
   have b : Below wr.heap.size wr (World.drew wr) := below_drewN (Below.refl _ _) 1
   replace hb := below_next hb hb.size b (by rfl) (by rfl) (by rfl) (by rfl)
   have G := mv b (by rfl) <| And.intro hT1 <| And.intro q1 <| And.intro q2 <| And.intro r3 <| And.intro xc <| And.intro x0r <| And.intro p0 <| And.intro p1 <| And.intro p2 <| And.intro p3 <| And.intro p4 <| And.intro p5 <| And.intro d0 <| And.intro d1 <| d2
   clear b hT1 q1 q2 r3 xc x0r p0 p1 p2 p3 p4 p5 d0 d1 d2
   obtain ⟨hT1, q1, q2, r3, xc, x0r, p0, p1, p2, p3, p4, p5, d0, d1, d2⟩ := G
   refine wp_region_held_drew (S := fun w' => w'.cell? ⟨gx, 0, none⟩ = some (.slice (some ⟨gv, ov, none⟩) (k + 1) cV) ∧ w'.cell? ⟨gv, ov + i * 6, none⟩ = some (.bool I.lo.s) ∧ w'.cell? ⟨gv, ov + i * 6 + 1, none⟩ = some (.slice A5 n5 c5) ∧ w'.cell? ⟨gv, ov + i * 6 + 2, none⟩ = some (.int .i64 I.lo.e) ∧ w'.cell? ⟨gv, ov + i * 6 + 3, none⟩ = some (.bool I.hi.s) ∧ w'.cell? ⟨gv, ov + i * 6 + 4, none⟩ = some (.slice A6 n6 c6) ∧ w'.cell? ⟨gv, ov + i * 6 + 5, none⟩ = some (.int .i64 I.hi.e) ∧ w'.cell? ⟨y3.heap.size, 0, none⟩ = some (.bool c.s) ∧ w'.cell? ⟨y3.heap.size, 1, none⟩ = some (.slice A3 n3 c3) ∧ w'.cell? ⟨y3.heap.size, 2, none⟩ = some (.int .i64 c.e)) (by kernel_rfl) (by exact ⟨x0r, p0, p1, p2, p3, p4, p5, d0, d1, d2⟩) (fun hHeldu0 => ?_)
   generalize World.drew wr = we at *
   refine tl 0 ?_
   refine tl 1 ?_
   refine tl 2 ?_
   refine tl 3 ?_
   refine tl 4 ?_
   refine tl 5 ?_
   refine tl 6 ?_
   refine rdy 7 fun K hK => ?_
   go_simp
   refine (show Calls _ _ _ _ (Bools true _) from by have h := ihas_any (K := S.K) (x := I) (d := c) S.big hT1 q1 q2 r3; rw [HH.out] at h; exact h).mono ?_
   rintro en u1 ⟨rfl, b⟩
   replace hb := below_next hb hb.size b (by rfl) (by rfl) (by rfl) (by rfl)
   have G := mv b (by rfl) <| And.intro hT1 <| And.intro q1 <| And.intro q2 <| And.intro r3 <| And.intro xc <| And.intro x0r <| And.intro p0 <| And.intro p1 <| And.intro p2 <| And.intro p3 <| And.intro p4 <| And.intro p5 <| And.intro d0 <| And.intro d1 <| d2
   clear b hT1 q1 q2 r3 xc x0r p0 p1 p2 p3 p4 p5 d0 d1 d2
   obtain ⟨hT1, q1, q2, r3, xc, x0r, p0, p1, p2, p3, p4, p5, d0, d1, d2⟩ := G
   refine hK.out _ _ (by exact ⟨x0r, p0, p1, p2, p3, p4, p5, d0, d1, d2⟩) (fun hHeldu1 => ?_)
   clear hK K hHeldu0
   try simp only [Act.put]
   refine tl 8 ?_
   refine wpAnyH_done (by kernel_rfl) ?_ _
   clear x0r p0 p1 p2 p3 p4 p5 q1 q2
   have a0r := mv hb rfl a0
   have a1r := mv hb rfl a1
   have a2r := mv hb rfl a2
   have r1r := mv hb rfl r1
   go_wp2_with fail
   refine (dmul_at (m := 4 * (i + 2)) hT1 r3 r1r ec e1 (by omega) (by omega) (by rw [← Int.pow_succ]; exact z_abs HZA _)).mono ?_
   rintro en u2 ⟨c', A9, n9, c9, rfl, r9, e9, b⟩
   replace hb := below_next hb hb.size b (by rfl) (by rfl) (by rfl) (by rfl)
   have G := mv b (by rfl) <| And.intro hT1 <| xc
   clear b hT1 xc
   obtain ⟨hT1, xc⟩ := G
   clear a0r a1r a2r r1r d0 d1 d2 r3
   have b := below_alloc u2 (.cells #[.bool c'.s, .slice A9 n9 c9, .int .i64 c'.e] 25)
   obtain ⟨k0, k1, k2⟩ := (Box.new u2 c'.s A9 n9 c9 c'.e).held
   replace hb := below_next hb hb.size b (by rfl) (by rfl) (by rfl) (by rfl)
   have G := mv b (by rfl) <| And.intro xc <| r9
   clear b xc r9
   obtain ⟨xc, r9⟩ := G
   go_upto_region 18 with fail
   generalize u2.alloc (.cells #[.bool c'.s, .slice A9 n9 c9, .int .i64 c'.e] 25) = u3 at *
   generalize u2.heap.size = s9 at *
   obtain ⟨f0, f1, f2⟩ := xc.open
   obtain ⟨d0, d1, d2⟩ := xc.held
   go_wp2
   have xn := xc.put c'.s A9 n9 c9 c'.e
   have r8 := r9.put3 xc (.bool c'.s) (.slice A9 n9 c9) (.int .i64 c'.e)
   have hb3 := below_put3 (g := y3.heap.size) hb (Nat.le_refl _) (.bool c'.s) (.slice A9 n9 c9) (.int .i64 c'.e)
   go_roundg (gk - 1)
   case measure => have := HG.out; omega
   case rel => exact ⟨i + 1, c', A9, n9, c9, by have := HG.out; omega, by go_num, xn, r8, by rw [show 3 * (i + 1 + 1) = 3 * (i + 1) + 3 by omega, Int.pow_succ]; exact e9, hb3⟩
  ·have hik : i = k + 1 := by have := HG.out; omega
   subst hik
   go_wp2_with fail
   refine (told9_any hT1).mono ?_
   rintro en u1 ⟨rfl, b⟩
   replace hb := below_next hb hb.size b rfl rfl rfl rfl
   replace BB := below_next BB BB.size hb rfl rfl rfl rfl
   go_wp2
   go_ret
   exact ⟨by first | rfl | simp, BB⟩

end Go.Proofs.YteagjlcmgiknmaaGreatDoor
