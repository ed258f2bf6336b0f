/-
 Contract of the statement JetExp's function: it returns true, whatever its arguments, at this translation. Condition: the slices read as limbs, the table of math/bits reads as its text lays it.
-/
import Derived.StillTailTactics
import Derived.Test.YteagjlcmgiknmaaGreatDoorQJr
import Derived.Test.YteagjlcmgiknmaaGreatDoorQGv
set_option maxHeartbeats 8000000
set_option maxRecDepth 100000
namespace Go.Proofs.YteagjlcmgiknmaaGreatDoor
open Go.RowKit

theorem ke_z (x : Int) : -15 ≤ wrap64 (wrap64 ((IntKind.u64.wrap x).tmod 31) - 15) ∧ wrap64 (wrap64 ((IntKind.u64.wrap x).tmod 31) - 15) ≤ 15 := by
 rw [IntKind.wrap_u64]
 unfold wrap64
 have : 0 ≤ x % 18446744073709551616 := Int.emod_nonneg _ (by decide)
 rw [Int.tmod_eq_emod_of_nonneg this]
 omega
theorem ke_p (x : Int) : 10 ≤ wrap64 (10 + wrap64 ((IntKind.u64.wrap x).tmod 71)) ∧ wrap64 (10 + wrap64 ((IntKind.u64.wrap x).tmod 71)) ≤ 80 := by
 rw [IntKind.wrap_u64]
 unfold wrap64
 have : 0 ≤ x % 18446744073709551616 := Int.emod_nonneg _ (by decide)
 rw [Int.tmod_eq_emod_of_nonneg this]
 omega
theorem ke_k (x : Int) : ∃ k : Nat, wrap64 ((IntKind.u64.wrap x).tmod 9) = (k : Int) ∧ k ≤ 8 := by
 rw [IntKind.wrap_u64]
 unfold wrap64
 have : 0 ≤ x % 18446744073709551616 := Int.emod_nonneg _ (by decide)
 rw [Int.tmod_eq_emod_of_nonneg this]
 exact ⟨(((x % 18446744073709551616 % 9 + 9223372036854775808) % 18446744073709551616 - 9223372036854775808)).toNat, by omega, by omega⟩
theorem fac_le {i : Nat} (hi : i ≤ 8) : fac i ≤ 40320 := by
 rcases (show i = 0 ∨ i = 1 ∨ i = 2 ∨ i = 3 ∨ i = 4 ∨ i = 5 ∨ i = 6 ∨ i = 7 ∨ i = 8 by omega) with rfl | rfl | rfl | rfl | rfl | rfl | rfl | rfl | rfl <;> decide
/-- a small whole number as dyad.Of tells it -/
theorem of_nat_at (S : Sc) {w : World} {n : Nat} (hT : Tab w) (hn : n ≤ 40320) : Calls Tryz.prog 5 #[.int .i64 (n : Int), .int .i64 0] w (AtEnd S 0 (n : Int) w) := by
 refine (of_pos hT (by omega)).mono fun en w' h => ?_
 obtain ⟨k, s', m', e', h9⟩ := nm_total false n 0
 have hk := nm_good h9 (by have := (blen_le n 16).2 (by omega); omega) (by omega) (by omega)
 subst hk
 obtain ⟨A, m, c, he, hr, hb⟩ := told_is h (s := s') (m := m') (e := e') (k := 0) fun k1 s1 m1 e1 h2 => nm_fun h2 h9
 refine ⟨Rw.of s' m' e', A, m, c, he, hr.rd, ⟨Rw.of_may (nm_ok h9), ?_⟩, hb⟩
 have h0 := S.big
 rw [Rw.of_v, nm_value (by omega) h9, vz_1]
 simp
theorem cmp_le {x y : Int} (h : x ≤ y) : cmpV x y ≤ 0 := by
 unfold cmpV
 split
 ·omega
 ·split <;> omega

theorem jetexp_any {w : World} {nn kk bb : Int} (hT : Tab w) :
  Calls Tryz.prog 4 #[.int .i64 nn, .int .i64 kk, .int .i64 bb] w (Bools true w) := by
 obtain ⟨S⟩ := sc_has
 have BB := Below.refl w.heap.size w
 go_enter Tryz.func4, Tryz.ntmps4
 go_upto_region 3 with fail
 have HZ := ke_z nn
 have HPP := ke_p bb
 generalize wrap64 (wrap64 ((IntKind.u64.wrap nn).tmod 31) - 15) = z at HZ ⊢
 generalize wrap64 (10 + wrap64 ((IntKind.u64.wrap bb).tmod 71)) = p at HPP ⊢
 obtain ⟨HZ1, HZ2⟩ := HZ
 obtain ⟨HP1, HP2⟩ := HPP
 have HZA : z.natAbs ≤ 15 := by omega
 obtain ⟨k, hk, hk8⟩ := ke_k kk
 rw [hk]
 clear hk
 have hk0 : (0 : Int) ≤ k := by omega
 have hk9 : (k : Int) ≤ 8 := by omega
 have hw1 : IntKind.i64.wrap ((k : Int) + 1) = (k : Int) + 1 := IntWalk.i64_in _ (by omega)
 go_wp2_with fail
 refine (of_is S hT ⟨by omega, by omega⟩).mono ?_
 rintro en w1 ⟨d, A1, n1, c1, rfl, r1, e1, b⟩
 replace BB := bnx BB b
 replace hT := mv b rfl hT
 clear b
 have b := below_alloc w1 (.cells #[.bool d.s, .slice A1 n1 c1, .int .i64 d.e] 25)
 obtain ⟨a0, a1, a2⟩ := (Box.new w1 d.s A1 n1 c1 d.e).held
 replace BB := bnx BB b
 have G := mv b rfl <| And.intro hT <| r1
 clear b hT r1
 obtain ⟨hT, r1⟩ := G
 go_upto_region 4 with fail
 generalize w1.alloc (.cells #[.bool d.s, .slice A1 n1 c1, .int .i64 d.e] 25) = W2 at *
 generalize w1.heap.size = s0 at *
 have b := three_below W2 (.cells #[.int .i64 3, .int .i64 0, .int .i64 0, .bool false, .slice none 0 0, .int .i64 0, .bool false, .slice none 0 0, .int .i64 0] 31) (.cells #[.int .i64 0] 3) (.cells #[.slice (some ⟨W2.heap.size, 0, none⟩) 1 1, .slice (some ⟨W2.heap.size + 1, 0, none⟩) 1 1] 35)
 have xl := mv (two_below (W2.alloc (.cells #[.int .i64 3, .int .i64 0, .int .i64 0, .bool false, .slice none 0 0, .int .i64 0, .bool false, .slice none 0 0, .int .i64 0] 31)) (.cells #[.int .i64 0] 3) (.cells #[.slice (some ⟨W2.heap.size, 0, none⟩) 1 1, .slice (some ⟨W2.heap.size + 1, 0, none⟩) 1 1] 35)) rfl (Blk.new W2 #[.int .i64 3, .int .i64 0, .int .i64 0, .bool false, .slice none 0 0, .int .i64 0, .bool false, .slice none 0 0, .int .i64 0] 31)
 have xo : Blk ((W2.alloc (.cells #[.int .i64 3, .int .i64 0, .int .i64 0, .bool false, .slice none 0 0, .int .i64 0, .bool false, .slice none 0 0, .int .i64 0] 31)).alloc (.cells #[.int .i64 0] 3)) (W2.heap.size + 1) #[.int .i64 0] 3 := by have := Blk.new (W2.alloc (.cells #[.int .i64 3, .int .i64 0, .int .i64 0, .bool false, .slice none 0 0, .int .i64 0, .bool false, .slice none 0 0, .int .i64 0] 31)) #[.int .i64 0] 3; rwa [World.size_alloc] at this
 replace xo := mv (below_alloc ((W2.alloc (.cells #[.int .i64 3, .int .i64 0, .int .i64 0, .bool false, .slice none 0 0, .int .i64 0, .bool false, .slice none 0 0, .int .i64 0] 31)).alloc (.cells #[.int .i64 0] 3)) (.cells #[.slice (some ⟨W2.heap.size, 0, none⟩) 1 1, .slice (some ⟨W2.heap.size + 1, 0, none⟩) 1 1] 35)) rfl xo
 have xt : Blk (((W2.alloc (.cells #[.int .i64 3, .int .i64 0, .int .i64 0, .bool false, .slice none 0 0, .int .i64 0, .bool false, .slice none 0 0, .int .i64 0] 31)).alloc (.cells #[.int .i64 0] 3)).alloc (.cells #[.slice (some ⟨W2.heap.size, 0, none⟩) 1 1, .slice (some ⟨W2.heap.size + 1, 0, none⟩) 1 1] 35)) (W2.heap.size + 2) #[.slice (some ⟨W2.heap.size, 0, none⟩) 1 1, .slice (some ⟨W2.heap.size + 1, 0, none⟩) 1 1] 35 := by have := Blk.new ((W2.alloc (.cells #[.int .i64 3, .int .i64 0, .int .i64 0, .bool false, .slice none 0 0, .int .i64 0, .bool false, .slice none 0 0, .int .i64 0] 31)).alloc (.cells #[.int .i64 0] 3)) #[.slice (some ⟨W2.heap.size, 0, none⟩) 1 1, .slice (some ⟨W2.heap.size + 1, 0, none⟩) 1 1] 35; rwa [World.size_alloc, World.size_alloc] at this
 replace BB := bnx BB b
 have G := mv b rfl (J5 hT r1 a0 a1 a2)
 clear b hT r1 a0 a1 a2
 obtain ⟨hT, r1, a0, a1, a2⟩ := G
 go_upto_region 5 with fail
 generalize ((W2.alloc (.cells #[.int .i64 3, .int .i64 0, .int .i64 0, .bool false, .slice none 0 0, .int .i64 0, .bool false, .slice none 0 0, .int .i64 0] 31)).alloc (.cells #[.int .i64 0] 3)).alloc (.cells #[.slice (some ⟨W2.heap.size, 0, none⟩) 1 1, .slice (some ⟨W2.heap.size + 1, 0, none⟩) 1 1] 35) = W3 at *
 generalize W2.heap.size = s1 at *
 have hL := rdl1x xl
 have hO := rdz1x xo
 clear xl xo
 have t0 : World.cell? _ ⟨s1 + 1 + 1, 0, none⟩ = some (.slice (some ⟨s1, 0, none⟩) 1 1) := xt.at 0
 have t1 : World.cell? _ ⟨s1 + 1 + 1, 1, none⟩ = some (.slice (some ⟨s1 + 1, 0, none⟩) 1 1) := xt.at 1
 clear xt
 have hpp : 1 ≤ p ∧ p ≤ 100 := ⟨by omega, by omega⟩
 have hf0 := fx_start (P := p.toNat + 8) (Q := p.toNat + 9) e1 (by omega)
 obtain ⟨c0, hR, hf1⟩ := fx_rou hpp (show 0 ≤ 10 by omega) (by omega) (by omega) hf0
 have HP0 := Lib.hid (pe_start (G := Fx S (p.toNat + 8) (p.toNat + 9) (d.v S.K)) hf1)
 have HPl := Lib.hid (plan_fx S (k := k) (p := p) (D := d.v S.K) hpp (by omega) rfl rfl)
 obtain ⟨I0, hI0⟩ : ∃ I0 : Iv, I0 = ⟨d, d⟩ := ⟨_, rfl⟩
 have HR := Lib.hid (show rouI S I0 p = .ok c0 by rw [hI0]; exact hR)
 have HM := Lib.hid (show mayI S.K I0 = true by rw [hI0]; exact fx_may hf0)
 clear hR hf0 hf1
 have hz1 : n1 ≤ 10000000000000 := len_at r1 (ends_small (x := ⟨d, d⟩) ⟨e1.1, e1.1⟩).1
 have HOF : ∀ (W : World), Rd W .u64 Go.Proofs.YteagjlcmgiknmaaGreatDoor.W A1 n1 c1 d.l → Calls Tryz.prog 7 #[.agg #[.bool d.s, .slice A1 n1 c1, .int .i64 d.e]] W (GivI I0 W) := fun W h => by rw [hI0]; exact iof_any h hz1
 clear hI0
 have b : Below W3.heap.size W3 (World.drew W3) := below_drewN (Below.refl _ _) 1
 replace BB := bnx BB b
 have G := mv b rfl (J9 hT r1 a0 a1 a2 hL hO t0 t1)
 clear b hT r1 a0 a1 a2 hL hO t0 t1
 obtain ⟨hT, r1, a0, a1, a2, hL, hO, t0, t1⟩ := G
 refine wp_region_held_drew (S := fun w' => w'.cell? ⟨s0, 0, none⟩ = some (.bool d.s) ∧ w'.cell? ⟨s0, 1, none⟩ = some (.slice A1 n1 c1) ∧ w'.cell? ⟨s0, 2, none⟩ = some (.int .i64 d.e) ∧ w'.cell? ⟨s1 + 1 + 1, 0, none⟩ = some (.slice (some ⟨s1, 0, none⟩) 1 1) ∧ w'.cell? ⟨s1 + 1 + 1, 1, none⟩ = some (.slice (some ⟨s1 + 1, 0, none⟩) 1 1)) (by kernel_rfl) (by exact ⟨a0, a1, a2, t0, t1⟩) (fun hHeldv0 => ?_)
 generalize World.drew W3 = wd at *
 refine tl 0 ?_
 refine tl 1 ?_
 refine tl 2 ?_
 refine tl 5 ?_
 refine tl 6 ?_
 refine rdy 3 fun K hK => ?_
 go_simp
 refine (HOF _ r1).mono ?_
 rintro en y1 ⟨A7, n7, c7, A8, n8, c8, rfl, h7, h8, b⟩
 replace BB := below_next BB BB.size b (by rfl) (by rfl) (by rfl) (by rfl)
 have G := mv b (by rfl) <| And.intro hT <| And.intro r1 <| And.intro a0 <| And.intro a1 <| And.intro a2 <| And.intro hL <| And.intro hO <| And.intro t0 <| t1
 clear b hT r1 a0 a1 a2 hL hO t0 t1
 obtain ⟨hT, r1, a0, a1, a2, hL, hO, t0, t1⟩ := G
 refine hK.out _ _ (by exact ⟨a0, a1, a2, t0, t1⟩) (fun hHeldv1 => ?_)
 clear hK K hHeldv0
 try simp only [Act.put]
 refine rdy 4 fun K hK => ?_
 go_simp
 have b := below_alloc y1 (.cells #[.bool I0.lo.s, .slice A7 n7 c7, .int .i64 I0.lo.e, .bool I0.hi.s, .slice A8 n8 c8, .int .i64 I0.hi.e] 29)
 have xb := Ibx.new y1 I0.lo.s A7 n7 c7 I0.lo.e I0.hi.s A8 n8 c8 I0.hi.e
 replace BB := below_next BB BB.size b (by rfl) (by rfl) (by rfl) (by rfl)
 have G := mv b (by rfl) <| And.intro hT <| And.intro r1 <| And.intro a0 <| And.intro a1 <| And.intro a2 <| And.intro hL <| And.intro hO <| And.intro t0 <| And.intro t1 <| And.intro h7 <| h8
 clear b hT r1 a0 a1 a2 hL hO t0 t1 h7 h8
 obtain ⟨hT, r1, a0, a1, a2, hL, hO, t0, t1, h7, h8⟩ := G
 have hX := rds_one (x := I0) xb h7 h8
 clear xb h7 h8
 generalize y1.alloc (.cells #[.bool I0.lo.s, .slice A7 n7 c7, .int .i64 I0.lo.e, .bool I0.hi.s, .slice A8 n8 c8, .int .i64 I0.hi.e] 29) = y2 at *
 generalize y1.heap.size = s2 at *
 refine hK.out _ _ (by exact ⟨a0, a1, a2, t0, t1⟩) (fun hHeldv2 => ?_)
 clear hK K hHeldv1
 try simp only [Act.put]
 refine rdy 7 fun K hK => ?_
 go_simp
 refine (jsolve_ok S (k := k) (p := p) (t := Iv.zero) (L := L1x) (O := fun _ => 0) (P := PE (Fx S (p.toNat + 8) (p.toNat + 9) (d.v S.K))) hT hL hO (ln := 0) rfl (by omega) (by omega) (rd_nil0 _) (rd_nil0 _) hX (mayI_point Rw.zero_may) HM.out (may_l1 S.K) (by omega) ⟨by omega, by omega⟩ HR.out HP0.out HPl.out).mono ?_
 rintro en y3 ⟨gx, cx, vx, LX, QX, rfl, hx, hP, b⟩
 clear hX hL hO
 replace BB := below_next BB BB.size b (by rfl) (by rfl) (by rfl) (by rfl)
 have G := mv b (by rfl) <| And.intro hT <| And.intro r1 <| And.intro a0 <| And.intro a1 <| And.intro a2 <| And.intro t0 <| t1
 clear b hT r1 a0 a1 a2 t0 t1
 obtain ⟨hT, r1, a0, a1, a2, t0, t1⟩ := G
 refine hK.out _ _ (by exact ⟨a0, a1, a2, t0, t1⟩) (fun hHeldv3 => ?_)
 clear hK K hHeldv2
 try simp only [Act.put]
 refine tl 8 ?_
 refine tl 9 ?_
 refine tl 10 ?_
 refine tl 11 ?_
 refine tl 12 ?_
 refine wpAnyH_done (by kernel_rfl) ?_ _
 have hPl := hP.1
 have HS := Lib.hid hP.2.2.1
 clear hP
 obtain ⟨AV, cV, hva, hV, _⟩ := hx.row.form
 have x0 := hx.first
 rw [hva, hPl] at x0
 rw [hPl] at hV
 clear hva hx hPl t0 t1
 go_wp2
 go_loopg [15, 16] (k + 1) (fun q v15 v16 wr => ∃ (i : Nat) (F : Int), i + q = k + 1 ∧ v16 = .int .i64 i ∧ v15 = .int .i64 F ∧ Hid ((i = 0 → F = 1) ∧ (i ≠ 0 → F = (fac (i - 1) : Int))) ∧ Below y3.heap.size y3 wr)
 case atStart => exact ⟨0, 1, by omega, rfl, rfl, Lib.hid ⟨fun _ => rfl, fun h => absurd rfl h⟩, Below.refl _ _⟩
 case round =>
  obtain ⟨i, F, hg, rfl, rfl, HF, hb⟩ := hrel
  have HG := Lib.hid hg
  clear hg
  have hT1 := mv hb rfl hT
  by_cases hi : i ≤ k
  ·have hi2 : (i : Int) ≤ (k : Int) := by omega
   have hi3 : (0 : Int) ≤ (i : Int) := by omega
   have hi4 : (i : Int) < (k : Int) + 1 := by omega
   obtain ⟨gv, ov, hav, hI⟩ := (mv hb rfl hV).at_ (by omega)
   have hIi : IvAt wr gv (ov + i * 6) (LX.getD i Iv.zero) := hI i (by omega)
   clear hI
   have HS2 := HS.out i (by omega)
   obtain ⟨I, hI9⟩ : ∃ I, I = LX.getD i Iv.zero := ⟨_, rfl⟩
   rw [← hI9] at hIi HS2
   clear hI9
   obtain ⟨fu, fv, eu, ev, mu, mw, ed, lu, lv⟩ := fx_ends e1 HS2
   clear HS2
   have HLU := Lib.hid (And.intro lu lv)
   clear lu lv
   obtain ⟨A5, n5, c5, A6, n6, c6, ⟨p0, p1, p2, p3, p4, p5⟩, q1, q2⟩ := hIi
   have x0r := mv hb rfl x0
   subst hav
   have hiP : i * (p.toNat + 8) ≤ 8 * 88 := Nat.mul_le_mul (by omega) (by omega)
   have hiQ : i * (p.toNat + 9) ≤ 8 * 89 := Nat.mul_le_mul (by omega) (by omega)
   have HIP := Lib.hid (And.intro hiP hiQ)
   clear hiP hiQ
   rcases (show i = 0 ∨ i ≠ 0 by omega) with h0 | h0
   focus
    have hz0 : ¬ (0 : Int) < (i : Int) := by omega
    have HF2 : F = (fac i : Int) := by rw [HF.out.1 h0, h0]; rfl
    have HF3 := Lib.hid HF2
    clear HF HF2 h0
    go_upto_region 14 with fail
    clear hz0
    generalize F = G9 at HF3 ⊢
   rotate_left
   focus
    have hz0 : (0 : Int) < (i : Int) := by omega
    have HF2 : F * (i : Int) = (fac i : Int) := by
     rw [HF.out.2 h0]
     obtain ⟨j, rfl⟩ : ∃ j, i = j + 1 := ⟨i - 1, by omega⟩
     show ((fac j : Nat) : Int) * ((j + 1 : Nat) : Int) = ((fac j * (j + 1) : Nat) : Int)
     exact (Int.natCast_mul _ _).symm
    have hfl := fac_le (show i ≤ 8 by omega)
    have hw2 : IntKind.i64.wrap (F * (i : Int)) = F * (i : Int) := IntWalk.i64_in _ (by rw [HF2]; omega)
    clear HF h0 hfl
    have HF3 := Lib.hid HF2
    clear HF2
    go_upto_region 14 with fail
    clear hz0 hw2
    generalize F * (i : Int) = G9 at HF3 ⊢
   rotate_left
   all_goals (
    rw [HF3.out]
    clear HF3
    go_wp2_with fail
    refine (of_nat_at S hT1 (fac_le (show i ≤ 8 by omega))).mono ?_
    rintro en u1 ⟨qf, A3, n3, c3, rfl, r3, e3, b⟩
    replace hb := below_next hb hb.size b (by rfl) (by rfl) (by rfl) (by rfl)
    have G := mv b (by rfl) <| And.intro hT1 <| And.intro q1 <| And.intro q2 <| And.intro x0r <| And.intro p0 <| And.intro p1 <| And.intro p2 <| And.intro p3 <| And.intro p4 <| p5
    clear b hT1 q1 q2 x0r p0 p1 p2 p3 p4 p5
    obtain ⟨hT1, q1, q2, x0r, p0, p1, p2, p3, p4, p5⟩ := G
    have b := below_alloc u1 (.cells #[.bool qf.s, .slice A3 n3 c3, .int .i64 qf.e] 25)
    obtain ⟨k0, k1, k2⟩ := (Box.new u1 qf.s A3 n3 c3 qf.e).held
    replace hb := below_next hb hb.size b (by rfl) (by rfl) (by rfl) (by rfl)
    have G := mv b (by rfl) <| And.intro hT1 <| And.intro q1 <| And.intro q2 <| And.intro x0r <| And.intro p0 <| And.intro p1 <| And.intro p2 <| And.intro p3 <| And.intro p4 <| And.intro p5 <| r3
    clear b hT1 q1 q2 x0r p0 p1 p2 p3 p4 p5 r3
    obtain ⟨hT1, q1, q2, x0r, p0, p1, p2, p3, p4, p5, r3⟩ := G
    go_upto_region 15 with fail
    generalize u1.alloc (.cells #[.bool qf.s, .slice A3 n3 c3, .int .i64 qf.e] 25) = u2 at *
    generalize u1.heap.size = s3 at *
    have b : Below u2.heap.size u2 (World.drew u2) := below_drewN (Below.refl _ _) 1
    replace hb := below_next hb hb.size b (by rfl) (by rfl) (by rfl) (by rfl)
    have G := mv b (by rfl) <| And.intro hT1 <| And.intro q1 <| And.intro q2 <| And.intro x0r <| And.intro p0 <| And.intro p1 <| And.intro p2 <| And.intro p3 <| And.intro p4 <| And.intro p5 <| And.intro r3 <| And.intro k0 <| And.intro k1 <| k2
    clear b hT1 q1 q2 x0r p0 p1 p2 p3 p4 p5 r3 k0 k1 k2
    obtain ⟨hT1, q1, q2, x0r, p0, p1, p2, p3, p4, p5, r3, k0, k1, k2⟩ := G
    refine wp_region_held_drew (S := fun w' => w'.cell? ⟨gx, 0, none⟩ = some (.slice (some ⟨gv, ov, none⟩) (k + 1) cV) ∧ w'.cell? ⟨gv, ov + i * 6, none⟩ = some (.bool I.lo.s) ∧ w'.cell? ⟨gv, ov + i * 6 + 1, none⟩ = some (.slice A5 n5 c5) ∧ w'.cell? ⟨gv, ov + i * 6 + 2, none⟩ = some (.int .i64 I.lo.e) ∧ w'.cell? ⟨s3, 0, none⟩ = some (.bool qf.s) ∧ w'.cell? ⟨s3, 1, none⟩ = some (.slice A3 n3 c3) ∧ w'.cell? ⟨s3, 2, none⟩ = some (.int .i64 qf.e)) (by kernel_rfl) (by exact ⟨x0r, p0, p1, p2, k0, k1, k2⟩) (fun hHeldm0 => ?_)
    generalize World.drew u2 = wm at *
    have BD := Below.refl wm.heap.size wm
    refine tl 0 ?_
    refine tl 1 ?_
    refine tl 2 ?_
    refine tl 3 ?_
    refine tl 4 ?_
    refine tl 5 ?_
    refine tl 6 ?_
    refine wpAnyH_take (i := 7) (v := .agg #[.bool qf.s, .slice A3 n3 c3, .int .i64 qf.e]) rfl (by kernel_rfl) (by kernel_rfl) (by kernel_rfl) (fun _ _ _ h => panic_put (P := Tryz.prog) (fn := Tryz.f4) (R := (Bools true w)) h) (Or.inl ⟨by rfl, ?m33y7⟩) (by assumption) ?_
    case m33y7 => (intro w hSw; (try dsimp only at hSw); go_simp); try with_reducible rfl
    change wpAnyH _ _ _ _ _ _ _ (Act.put _ (some 100) _) _
    simp only [Act.put, List.setIfInBounds_toArray, List.set_cons_zero, List.set_cons_succ]
    refine wpAnyH_ready (rs := [8, 12]) (by kernel_rfl) (by simp) ?_
    refine AllReadyH.cons (o := _) rfl (fun K hK => ?_) (AllReadyH.cons (o := _) rfl (fun K hK => ?_) (AllReadyH.nil))
    go_simp
    refine (dmul_at (m := 4 + i * (p.toNat + 9) + 16) (mv BD rfl hT1) (mv BD rfl q1) (mv BD rfl r3) eu e3 (by have := HIP.out; omega) (by have := HIP.out; omega) (mul_abs mu (by have := fac_le (show i ≤ 8 by omega); omega))).mono ?_
    rintro en mx ⟨cm, A9m, n9m, c9m, rfl, r9m, e9m, b⟩
    replace BD := below_next BD BD.size b rfl rfl rfl rfl
    clear b
    refine hK.out _ _ (by exact ⟨mv BD rfl x0r, mv BD rfl p0, mv BD rfl p1, mv BD rfl p2, mv BD rfl k0, mv BD rfl k1, mv BD rfl k2⟩) (fun hHeldm1 => ?_)
    clear hK K hHeldm0
    try simp only [Act.put]
    refine wpAnyH_take (i := 9) (v := .tuple #[.agg #[.bool cm.s, .slice A9m n9m c9m, .int .i64 cm.e], .int .i64 0]) rfl (by kernel_rfl) (by kernel_rfl) (by kernel_rfl) (fun _ _ _ h => panic_put (P := Tryz.prog) (fn := Tryz.f4) (R := (Bools true w)) h) (Or.inl ⟨by rfl, ?m34y9⟩) (by assumption) ?_
    case m34y9 => (intro w hSw; (try dsimp only at hSw); go_simp); try with_reducible rfl
    change wpAnyH _ _ _ _ _ _ _ (Act.put _ (some 92) _) _
    simp only [Act.put, List.setIfInBounds_toArray, List.set_cons_zero, List.set_cons_succ]
    refine wpAnyH_take (i := 10) (v := .agg #[.bool cm.s, .slice A9m n9m c9m, .int .i64 cm.e]) rfl (by kernel_rfl) (by kernel_rfl) (by kernel_rfl) (fun _ _ _ h => panic_put (P := Tryz.prog) (fn := Tryz.f4) (R := (Bools true w)) h) (Or.inl ⟨by rfl, ?m35y10⟩) (by assumption) ?_
    case m35y10 => (intro w hSw; (try dsimp only at hSw); go_simp); try with_reducible rfl
    change wpAnyH _ _ _ _ _ _ _ (Act.put _ (some 102) _) _
    simp only [Act.put, List.setIfInBounds_toArray, List.set_cons_zero, List.set_cons_succ]
    refine tl 11 ?_
    refine rdy 12 fun K hK => ?_
    go_simp
    have hgs : wm.heap.size ≤ mx.heap.size := BD.size
    have b := below_alloc mx (.cells #[.bool false, .slice none 0 0, .int .i64 0] 25)
    have xzm := Box.new mx false none 0 0 0
    replace BD := below_next BD BD.size b rfl rfl rfl rfl
    replace r9m := mv b (by rfl) r9m
    clear b
    generalize mx.alloc (.cells #[.bool false, .slice none 0 0, .int .i64 0] 25) = my at *
    generalize hgzz : mx.heap.size = gzm at xzm ⊢
    have hgzm : wm.heap.size ≤ gzm := by omega
    clear hgzz hgs
    refine hK.out _ _ (by exact ⟨mv BD rfl x0r, mv BD rfl p0, mv BD rfl p1, mv BD rfl p2, mv BD rfl k0, mv BD rfl k1, mv BD rfl k2⟩) (fun hHeldm2 => ?_)
    clear hK K hHeldm1
    try simp only [Act.put]
    rotate_left
    go_simp
    have hgs : wm.heap.size ≤ wm.heap.size := BD.size
    have b := below_alloc wm (.cells #[.bool false, .slice none 0 0, .int .i64 0] 25)
    have xzm := Box.new wm false none 0 0 0
    replace BD := below_next BD BD.size b rfl rfl rfl rfl
    clear b
    generalize wm.alloc (.cells #[.bool false, .slice none 0 0, .int .i64 0] 25) = mx at *
    generalize hgzz : wm.heap.size = gzm at xzm ⊢
    have hgzm : wm.heap.size ≤ gzm := by omega
    clear hgzz hgs
    refine hK.out _ _ (by exact ⟨mv BD rfl x0r, mv BD rfl p0, mv BD rfl p1, mv BD rfl p2, mv BD rfl k0, mv BD rfl k1, mv BD rfl k2⟩) (fun hHeldm1 => ?_)
    clear hK K hHeldm0
    try simp only [Act.put]
    refine rdy 8 fun K hK => ?_
    go_simp
    refine (dmul_at (m := 4 + i * (p.toNat + 9) + 16) (mv BD rfl hT1) (mv BD rfl q1) (mv BD rfl r3) eu e3 (by have := HIP.out; omega) (by have := HIP.out; omega) (mul_abs mu (by have := fac_le (show i ≤ 8 by omega); omega))).mono ?_
    rintro en my ⟨cm, A9m, n9m, c9m, rfl, r9m, e9m, b⟩
    replace BD := below_next BD BD.size b rfl rfl rfl rfl
    replace xzm := mv b (by rfl) xzm
    clear b
    refine hK.out _ _ (by exact ⟨mv BD rfl x0r, mv BD rfl p0, mv BD rfl p1, mv BD rfl p2, mv BD rfl k0, mv BD rfl k1, mv BD rfl k2⟩) (fun hHeldm2 => ?_)
    clear hK K hHeldm1
    try simp only [Act.put]
    refine wpAnyH_take (i := 9) (v := .tuple #[.agg #[.bool cm.s, .slice A9m n9m c9m, .int .i64 cm.e], .int .i64 0]) rfl (by kernel_rfl) (by kernel_rfl) (by kernel_rfl) (fun _ _ _ h => panic_put (P := Tryz.prog) (fn := Tryz.f4) (R := (Bools true w)) h) (Or.inl ⟨by rfl, ?m37y9⟩) (by assumption) ?_
    case m37y9 => (intro w hSw; (try dsimp only at hSw); go_simp); try with_reducible rfl
    change wpAnyH _ _ _ _ _ _ _ (Act.put _ (some 92) _) _
    simp only [Act.put, List.setIfInBounds_toArray, List.set_cons_zero, List.set_cons_succ]
    refine wpAnyH_take (i := 10) (v := .agg #[.bool cm.s, .slice A9m n9m c9m, .int .i64 cm.e]) rfl (by kernel_rfl) (by kernel_rfl) (by kernel_rfl) (fun _ _ _ h => panic_put (P := Tryz.prog) (fn := Tryz.f4) (R := (Bools true w)) h) (Or.inl ⟨by rfl, ?m38y10⟩) (by assumption) ?_
    case m38y10 => (intro w hSw; (try dsimp only at hSw); go_simp); try with_reducible rfl
    change wpAnyH _ _ _ _ _ _ _ (Act.put _ (some 102) _) _
    simp only [Act.put, List.setIfInBounds_toArray, List.set_cons_zero, List.set_cons_succ]
    refine tl 11 ?_
    rotate_left
    all_goals (
     refine rdy 13 fun K hK => ?_
     obtain ⟨f0, f1, f2⟩ := xzm.open
     obtain ⟨z0, z1, z2⟩ := xzm.held
     go_simp
     have xdm := xzm.put cm.s A9m n9m c9m cm.e
     replace r9m := r9m.put3 xzm (.bool cm.s) (.slice A9m n9m c9m) (.int .i64 cm.e)
     replace BD := below_put3 (g := gzm) BD hgzm (.bool cm.s) (.slice A9m n9m c9m) (.int .i64 cm.e)
     refine hK.out _ _ (by exact ⟨mv BD rfl x0r, mv BD rfl p0, mv BD rfl p1, mv BD rfl p2, mv BD rfl k0, mv BD rfl k1, mv BD rfl k2⟩) (fun hHeldm3 => ?_)
     clear hK K hHeldm2
     try simp only [Act.put]
     refine tl 14 ?_
     refine wpAnyH_done (by kernel_rfl) ?_ _
     generalize (((my.setCell ⟨gzm, 0, none⟩ (.bool cm.s)).setCell ⟨gzm, 1, none⟩ (.slice A9m n9m c9m)).setCell ⟨gzm, 2, none⟩ (.int .i64 cm.e)) = Um at *
     have b := BD
     clear BD hgzm
     replace hb := below_next hb hb.size b (by rfl) (by rfl) (by rfl) (by rfl)
     have G := mv b (by rfl) <| And.intro hT1 <| And.intro q1 <| And.intro q2 <| And.intro x0r <| And.intro p0 <| And.intro p1 <| And.intro p2 <| And.intro p3 <| And.intro p4 <| And.intro p5 <| And.intro r3 <| And.intro k0 <| And.intro k1 <| k2
     clear b hT1 q1 q2 x0r p0 p1 p2 p3 p4 p5 r3 k0 k1 k2
     obtain ⟨hT1, q1, q2, x0r, p0, p1, p2, p3, p4, p5, r3, k0, k1, k2⟩ := G
     obtain ⟨m0, m1, m2⟩ := xdm.held
     clear q1 p0 p1 p2 eu mu xdm
     go_upto_region 16 with fail
     have b : Below Um.heap.size Um (World.drew Um) := below_drewN (Below.refl _ _) 1
     replace hb := below_next hb hb.size b (by rfl) (by rfl) (by rfl) (by rfl)
     have G := mv b (by rfl) <| And.intro hT1 <| And.intro q2 <| And.intro x0r <| And.intro p3 <| And.intro p4 <| And.intro p5 <| And.intro r3 <| And.intro k0 <| And.intro k1 <| And.intro k2 <| And.intro r9m <| And.intro m0 <| And.intro m1 <| m2
     clear b hT1 q2 x0r p3 p4 p5 r3 k0 k1 k2 r9m m0 m1 m2
     obtain ⟨hT1, q2, x0r, p3, p4, p5, r3, k0, k1, k2, r9m, m0, m1, m2⟩ := G
     refine wp_region_held_drew (S := fun w' => w'.cell? ⟨gx, 0, none⟩ = some (.slice (some ⟨gv, ov, none⟩) (k + 1) cV) ∧ w'.cell? ⟨gv, ov + i * 6 + 3, none⟩ = some (.bool I.hi.s) ∧ w'.cell? ⟨gv, ov + i * 6 + 4, none⟩ = some (.slice A6 n6 c6) ∧ w'.cell? ⟨gv, ov + i * 6 + 5, none⟩ = some (.int .i64 I.hi.e) ∧ w'.cell? ⟨s3, 0, none⟩ = some (.bool qf.s) ∧ w'.cell? ⟨s3, 1, none⟩ = some (.slice A3 n3 c3) ∧ w'.cell? ⟨s3, 2, none⟩ = some (.int .i64 qf.e)) (by kernel_rfl) (by exact ⟨x0r, p3, p4, p5, k0, k1, k2⟩) (fun hHeldj0 => ?_)
     generalize World.drew Um = wj at *
     have BD := Below.refl wj.heap.size wj
     refine tl 0 ?_
     refine tl 1 ?_
     refine tl 2 ?_
     refine tl 3 ?_
     refine tl 4 ?_
     refine tl 5 ?_
     refine tl 6 ?_
     refine wpAnyH_take (i := 7) (v := .agg #[.bool qf.s, .slice A3 n3 c3, .int .i64 qf.e]) rfl (by kernel_rfl) (by kernel_rfl) (by kernel_rfl) (fun _ _ _ h => panic_put (P := Tryz.prog) (fn := Tryz.f4) (R := (Bools true w)) h) (Or.inl ⟨by rfl, ?j18y7⟩) (by assumption) ?_
     case j18y7 => (intro w hSw; (try dsimp only at hSw); go_simp); try with_reducible rfl
     change wpAnyH _ _ _ _ _ _ _ (Act.put _ (some 112) _) _
     simp only [Act.put, List.setIfInBounds_toArray, List.set_cons_zero, List.set_cons_succ]
     refine wpAnyH_ready (rs := [8, 12]) (by kernel_rfl) (by simp) ?_
     refine AllReadyH.cons (o := _) rfl (fun K hK => ?_) (AllReadyH.cons (o := _) rfl (fun K hK => ?_) (AllReadyH.nil))
     go_simp
     refine (dmul_at (m := 4 + i * (p.toNat + 9) + 16) (mv BD rfl hT1) (mv BD rfl q2) (mv BD rfl r3) ev e3 (by have := HIP.out; omega) (by have := HIP.out; omega) (mul_abs mw (by have := fac_le (show i ≤ 8 by omega); omega))).mono ?_
     rintro en jx ⟨cj, A9j, n9j, c9j, rfl, r9j, e9j, b⟩
     replace BD := below_next BD BD.size b rfl rfl rfl rfl
     clear b
     refine hK.out _ _ (by exact ⟨mv BD rfl x0r, mv BD rfl p3, mv BD rfl p4, mv BD rfl p5, mv BD rfl k0, mv BD rfl k1, mv BD rfl k2⟩) (fun hHeldj1 => ?_)
     clear hK K hHeldj0
     try simp only [Act.put]
     refine wpAnyH_take (i := 9) (v := .tuple #[.agg #[.bool cj.s, .slice A9j n9j c9j, .int .i64 cj.e], .int .i64 0]) rfl (by kernel_rfl) (by kernel_rfl) (by kernel_rfl) (fun _ _ _ h => panic_put (P := Tryz.prog) (fn := Tryz.f4) (R := (Bools true w)) h) (Or.inl ⟨by rfl, ?j19y9⟩) (by assumption) ?_
     case j19y9 => (intro w hSw; (try dsimp only at hSw); go_simp); try with_reducible rfl
     change wpAnyH _ _ _ _ _ _ _ (Act.put _ (some 104) _) _
     simp only [Act.put, List.setIfInBounds_toArray, List.set_cons_zero, List.set_cons_succ]
     refine wpAnyH_take (i := 10) (v := .agg #[.bool cj.s, .slice A9j n9j c9j, .int .i64 cj.e]) rfl (by kernel_rfl) (by kernel_rfl) (by kernel_rfl) (fun _ _ _ h => panic_put (P := Tryz.prog) (fn := Tryz.f4) (R := (Bools true w)) h) (Or.inl ⟨by rfl, ?j20y10⟩) (by assumption) ?_
     case j20y10 => (intro w hSw; (try dsimp only at hSw); go_simp); try with_reducible rfl
     change wpAnyH _ _ _ _ _ _ _ (Act.put _ (some 114) _) _
     simp only [Act.put, List.setIfInBounds_toArray, List.set_cons_zero, List.set_cons_succ]
     refine tl 11 ?_
     refine rdy 12 fun K hK => ?_
     go_simp
     have hgs : wj.heap.size ≤ jx.heap.size := BD.size
     have b := below_alloc jx (.cells #[.bool false, .slice none 0 0, .int .i64 0] 25)
     have xzj := Box.new jx false none 0 0 0
     replace BD := below_next BD BD.size b rfl rfl rfl rfl
     replace r9j := mv b (by rfl) r9j
     clear b
     generalize jx.alloc (.cells #[.bool false, .slice none 0 0, .int .i64 0] 25) = jy at *
     generalize hgzz : jx.heap.size = gzj at xzj ⊢
     have hgzj : wj.heap.size ≤ gzj := by omega
     clear hgzz hgs
     refine hK.out _ _ (by exact ⟨mv BD rfl x0r, mv BD rfl p3, mv BD rfl p4, mv BD rfl p5, mv BD rfl k0, mv BD rfl k1, mv BD rfl k2⟩) (fun hHeldj2 => ?_)
     clear hK K hHeldj1
     try simp only [Act.put]
     rotate_left
     go_simp
     have hgs : wj.heap.size ≤ wj.heap.size := BD.size
     have b := below_alloc wj (.cells #[.bool false, .slice none 0 0, .int .i64 0] 25)
     have xzj := Box.new wj false none 0 0 0
     replace BD := below_next BD BD.size b rfl rfl rfl rfl
     clear b
     generalize wj.alloc (.cells #[.bool false, .slice none 0 0, .int .i64 0] 25) = jx at *
     generalize hgzz : wj.heap.size = gzj at xzj ⊢
     have hgzj : wj.heap.size ≤ gzj := by omega
     clear hgzz hgs
     refine hK.out _ _ (by exact ⟨mv BD rfl x0r, mv BD rfl p3, mv BD rfl p4, mv BD rfl p5, mv BD rfl k0, mv BD rfl k1, mv BD rfl k2⟩) (fun hHeldj1 => ?_)
     clear hK K hHeldj0
     try simp only [Act.put]
     refine rdy 8 fun K hK => ?_
     go_simp
     refine (dmul_at (m := 4 + i * (p.toNat + 9) + 16) (mv BD rfl hT1) (mv BD rfl q2) (mv BD rfl r3) ev e3 (by have := HIP.out; omega) (by have := HIP.out; omega) (mul_abs mw (by have := fac_le (show i ≤ 8 by omega); omega))).mono ?_
     rintro en jy ⟨cj, A9j, n9j, c9j, rfl, r9j, e9j, b⟩
     replace BD := below_next BD BD.size b rfl rfl rfl rfl
     replace xzj := mv b (by rfl) xzj
     clear b
     refine hK.out _ _ (by exact ⟨mv BD rfl x0r, mv BD rfl p3, mv BD rfl p4, mv BD rfl p5, mv BD rfl k0, mv BD rfl k1, mv BD rfl k2⟩) (fun hHeldj2 => ?_)
     clear hK K hHeldj1
     try simp only [Act.put]
     refine wpAnyH_take (i := 9) (v := .tuple #[.agg #[.bool cj.s, .slice A9j n9j c9j, .int .i64 cj.e], .int .i64 0]) rfl (by kernel_rfl) (by kernel_rfl) (by kernel_rfl) (fun _ _ _ h => panic_put (P := Tryz.prog) (fn := Tryz.f4) (R := (Bools true w)) h) (Or.inl ⟨by rfl, ?j22y9⟩) (by assumption) ?_
     case j22y9 => (intro w hSw; (try dsimp only at hSw); go_simp); try with_reducible rfl
     change wpAnyH _ _ _ _ _ _ _ (Act.put _ (some 104) _) _
     simp only [Act.put, List.setIfInBounds_toArray, List.set_cons_zero, List.set_cons_succ]
     refine wpAnyH_take (i := 10) (v := .agg #[.bool cj.s, .slice A9j n9j c9j, .int .i64 cj.e]) rfl (by kernel_rfl) (by kernel_rfl) (by kernel_rfl) (fun _ _ _ h => panic_put (P := Tryz.prog) (fn := Tryz.f4) (R := (Bools true w)) h) (Or.inl ⟨by rfl, ?j23y10⟩) (by assumption) ?_
     case j23y10 => (intro w hSw; (try dsimp only at hSw); go_simp); try with_reducible rfl
     change wpAnyH _ _ _ _ _ _ _ (Act.put _ (some 114) _) _
     simp only [Act.put, List.setIfInBounds_toArray, List.set_cons_zero, List.set_cons_succ]
     refine tl 11 ?_
     rotate_left
     all_goals (
      refine rdy 13 fun K hK => ?_
      obtain ⟨f0, f1, f2⟩ := xzj.open
      obtain ⟨z0, z1, z2⟩ := xzj.held
      go_simp
      have xdj := xzj.put cj.s A9j n9j c9j cj.e
      replace r9j := r9j.put3 xzj (.bool cj.s) (.slice A9j n9j c9j) (.int .i64 cj.e)
      replace BD := below_put3 (g := gzj) BD hgzj (.bool cj.s) (.slice A9j n9j c9j) (.int .i64 cj.e)
      refine hK.out _ _ (by exact ⟨mv BD rfl x0r, mv BD rfl p3, mv BD rfl p4, mv BD rfl p5, mv BD rfl k0, mv BD rfl k1, mv BD rfl k2⟩) (fun hHeldj3 => ?_)
      clear hK K hHeldj2
      try simp only [Act.put]
      refine tl 14 ?_
      refine wpAnyH_done (by kernel_rfl) ?_ _
      generalize (((jy.setCell ⟨gzj, 0, none⟩ (.bool cj.s)).setCell ⟨gzj, 1, none⟩ (.slice A9j n9j c9j)).setCell ⟨gzj, 2, none⟩ (.int .i64 cj.e)) = Un at *
      have b := BD
      clear BD hgzj
      replace hb := below_next hb hb.size b (by rfl) (by rfl) (by rfl) (by rfl)
      have G := mv b (by rfl) <| And.intro hT1 <| And.intro q2 <| And.intro x0r <| And.intro p3 <| And.intro p4 <| And.intro p5 <| And.intro r3 <| And.intro k0 <| And.intro k1 <| And.intro k2 <| And.intro r9m <| And.intro m0 <| And.intro m1 <| m2
      clear b hT1 q2 x0r p3 p4 p5 r3 k0 k1 k2 r9m m0 m1 m2
      obtain ⟨hT1, q2, x0r, p3, p4, p5, r3, k0, k1, k2, r9m, m0, m1, m2⟩ := G
      obtain ⟨j0, j1, j2⟩ := xdj.held
      clear q2 p3 p4 p5 k0 k1 k2 r3 x0r xdj
      go_upto_region 17 with fail
      have a0r := mv hb rfl a0
      have a1r := mv hb rfl a1
      have a2r := mv hb rfl a2
      have r1r := mv hb rfl r1
      rw [Nat.add_zero] at e9m e9j
      go_wp2_with fail
      refine (dcmp_at hT1 r9m r1r e9m ed).mono ?_
      rintro en v1 ⟨rfl, b⟩
      have hc1 := cmp_le HLU.out.1
      generalize cmpV _ _ = q1 at hc1 ⊢
      have hc2 : ¬ (0 : Int) < q1 := by omega
      replace hb := below_next hb hb.size b (by rfl) (by rfl) (by rfl) (by rfl)
      have G := mv b (by rfl) <| And.intro hT1 <| And.intro r9j <| And.intro r1r <| And.intro a0r <| And.intro a1r <| And.intro a2r <| And.intro j0 <| And.intro j1 <| j2
      clear b hT1 r9j r1r a0r a1r a2r j0 j1 j2
      obtain ⟨hT1, r9j, r1r, a0r, a1r, a2r, j0, j1, j2⟩ := G
      go_wp2_with fail
      any_goals (first | (exfalso; omega) | skip)
      refine (dcmp_at hT1 r1r r9j ed e9j).mono ?_
      rintro en v2 ⟨rfl, b⟩
      have hc3 := cmp_le HLU.out.2
      generalize cmpV _ _ = q2 at hc3 ⊢
      have hc4 : ¬ (0 : Int) < q2 := by omega
      replace hb := below_next hb hb.size b (by rfl) (by rfl) (by rfl) (by rfl)
      clear b
      go_wp2
      any_goals (first | (exfalso; omega) | skip)
      go_roundg (gk - 1)
      case measure => have := HG.out; omega
      case rel => exact ⟨i + 1, (fac i : Int), by have := HG.out; omega, by go_num, rfl, Lib.hid ⟨fun h => absurd h (by omega), fun _ => by rw [Nat.add_sub_cancel]⟩, hb⟩)))
  ·have hik : i = k + 1 := by have := HG.out; omega
   subst hik
   go_wp2_with fail
   refine (told9_any hT1).mono ?_
   rintro en u1 ⟨rfl, b⟩
   replace hb := below_next hb hb.size b rfl rfl rfl rfl
   replace BB := below_next BB BB.size hb rfl rfl rfl rfl
   go_wp2
   go_ret
   exact ⟨by first | rfl | simp, BB⟩

end Go.Proofs.YteagjlcmgiknmaaGreatDoor
