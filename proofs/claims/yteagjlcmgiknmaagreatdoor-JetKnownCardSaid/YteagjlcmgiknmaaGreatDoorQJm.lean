/-
 Contract of jet's raise for one state, where all is told, at this translation. Condition: the slices read as limbs, the table of math/bits reads as its text lays it.
-/
import Derived.StillTailTactics
import Derived.Deep.CutBlock
import Derived.Test.YteagjlcmgiknmaaGreatDoorQJl
set_option maxHeartbeats 8000000
set_option maxRecDepth 100000
namespace Go.Proofs.YteagjlcmgiknmaaGreatDoor
open Go.RowKit

theorem jraise_ok (S : Sc) {w0 w : World} {R : Iv} {gs gr gx nl n ln go oo co cx : Nat} {st sp vx : Value} {p : Int} {vs : Nat → Value} {Q : Nat → List Iv} {LX : List Iv} (hT : Tab w) (HB : Below w0.heap.size w0 w) (hs : JSh w w0.heap.size gs gr nl st (.slice (some ⟨gx, 0, none⟩) 1 cx) sp p vs Q) (hx : JX w w0.heap.size gx vx LX) (hne : gx ≠ gr) (hd : ∀ i k, i < nl → vx.ownBlock = some k → (vs i).ownBlock ≠ some k) (ho : w.cell? ⟨go, oo, none⟩ = some (.int .i64 (ln : Int))) (hl : ln < nl) (hn : n < (Q ln).length) (hn2 : n ≤ 12) (hkk : LX.length ≤ 1000) (hR : divF S ((Q ln).getD n Iv.zero) ⟨wQ (n + 1), wQ (n + 1)⟩ p = .ok R) :
  Calls Tryz.prog 22 #[.pointer (some ⟨gs, 0, none⟩), .slice (some ⟨go, oo, none⟩) 1 co, .int .i64 (n : Int)] w (fun en w' => en = .returned (.int .i64 0) ∧ (∃ v', JX w' w0.heap.size gx v' (LX ++ [R]) ∧ (v'.ownBlock = vx.ownBlock ∨ ∃ k, v'.ownBlock = some k ∧ w.heap.size ≤ k)) ∧ JSh w' w0.heap.size gs gr nl st (.slice (some ⟨gx, 0, none⟩) 1 cx) sp p vs Q ∧ Below w0.heap.size w0 w') := by
 have hw1 : IntKind.i64.wrap ((n : Int) + 1) = (n : Int) + 1 := IntWalk.i64_in _ (by omega)
 have hn0 : (0 : Int) ≤ n := by omega
 have hn3 : (n : Int) ≤ 12 := by omega
 obtain ⟨y, hy⟩ : ∃ y : Iv, y = ⟨wQ (n + 1), wQ (n + 1)⟩ := ⟨_, rfl⟩
 rw [← hy] at hR
 have HW : ∀ W : World, Tab W → Calls Tryz.prog 19 #[.int .i64 ((n : Int) + 1)] W (GivI y W) := fun W h => by
  have h2 := jwhole_ok (n := n + 1) h (by omega) (by omega)
  rw [← hy] at h2
  exact h2
 clear hy
 have HR := Lib.hid (show face2 S ((Q ln).getD n Iv.zero) y p (divI S ((Q ln).getD n Iv.zero) y p) = .ok R from hR)
 clear hR
 have s1 : w.cell? ⟨gs, 1, none⟩ = some (.slice (some ⟨gx, 0, none⟩) 1 cx) := hs.box.at 1
 have s3 : w.cell? ⟨gs, 3, none⟩ = some (.slice (some ⟨gr, 0, none⟩) nl nl) := hs.box.at 3
 have s4 : w.cell? ⟨gs, 4, none⟩ = some (.int .i64 p) := hs.box.at 4
 obtain ⟨Ar, cr, hvl, rr, hRd⟩ := hs.rows.at hl
 obtain ⟨gy, oy, rfl, hc⟩ := hRd.at_ (by omega)
 obtain ⟨A1, n1, c1, A2, n2, c2, ⟨r0, r1, r2, r3, r4, r5⟩, q1, q2⟩ := hc n hn
 clear hc hRd hvl
 dsimp only at r0 r1 r2 r3 r4 r5 q1 q2
 generalize (Q ln).length = nr at *
 have hl2 : (ln : Int) < nl := by omega
 have hl3 : (0 : Int) ≤ ln := by omega
 have hn4 : (n : Int) < nr := by omega
 generalize (Q ln).getD n Iv.zero = x at *
 go_enter Tryz.func22, Tryz.ntmps22
 go_wp2
 go_loopg [13] 1 (fun q v13 wr => ∃ i : Nat, i + q = 1 ∧ v13 = .int .i64 i ∧ (i = 0 → wr = w) ∧ (i ≠ 0 → (∃ v', JX wr w0.heap.size gx v' (LX ++ [R]) ∧ (v'.ownBlock = vx.ownBlock ∨ ∃ k, v'.ownBlock = some k ∧ w.heap.size ≤ k)) ∧ JSh wr w0.heap.size gs gr nl st (.slice (some ⟨gx, 0, none⟩) 1 cx) sp p vs Q ∧ Below w0.heap.size w0 wr))
 case atStart => exact ⟨0, rfl, rfl, fun _ => rfl, fun h => absurd rfl h⟩
 case round =>
  obtain ⟨i, hg, rfl, hz, hnz⟩ := hrel
  have HG := Lib.hid hg
  clear hg
  by_cases hi : i = 0
  ·subst hi
   obtain rfl := hz rfl
   clear hz hnz
   go_upto_region 4 with fail
   have bd : Below wr.heap.size wr (World.drew wr) := below_drewN (Below.refl _ _) 1
   have hTd := mv bd rfl hT
   replace s1 := mv bd (by rfl) s1
   replace s3 := mv bd (by rfl) s3
   replace s4 := mv bd (by rfl) s4
   replace rr := mv bd (by rfl) rr
   replace r0 := mv bd (by rfl) r0
   replace r1 := mv bd (by rfl) r1
   replace r2 := mv bd (by rfl) r2
   replace r3 := mv bd (by rfl) r3
   replace r4 := mv bd (by rfl) r4
   replace r5 := mv bd (by rfl) r5
   replace q1 := mv bd (by rfl) q1
   replace q2 := mv bd (by rfl) q2
   go_wp2_with fail
   refine wp_region_held_drew (S := fun w' => w'.cell? ⟨gs, 1, none⟩ = some (.slice (some ⟨gx, 0, none⟩) 1 cx) ∧ w'.cell? ⟨gs, 3, none⟩ = some (.slice (some ⟨gr, 0, none⟩) nl nl) ∧ w'.cell? ⟨gs, 4, none⟩ = some (.int .i64 p) ∧ w'.cell? ⟨gr, ln, none⟩ = some (.slice (some ⟨gy, oy, none⟩) nr cr) ∧ w'.cell? ⟨gy, oy + n * 6, none⟩ = some (.bool x.lo.s) ∧ w'.cell? ⟨gy, oy + n * 6 + 1, none⟩ = some (.slice A1 n1 c1) ∧ w'.cell? ⟨gy, oy + n * 6 + 2, none⟩ = some (.int .i64 x.lo.e) ∧ w'.cell? ⟨gy, oy + n * 6 + 3, none⟩ = some (.bool x.hi.s) ∧ w'.cell? ⟨gy, oy + n * 6 + 4, none⟩ = some (.slice A2 n2 c2) ∧ w'.cell? ⟨gy, oy + n * 6 + 5, none⟩ = some (.int .i64 x.hi.e)) (by kernel_rfl) (by exact ⟨s1, s3, s4, rr, r0, r1, r2, r3, r4, r5⟩) (fun hHeldm0 => ?_)
   generalize World.drew wr = wd at *
   have BD := Below.refl wd.heap.size wd
   refine tl 0 ?_
   refine tl 1 ?_
   refine tl 2 ?_
   refine tl 3 ?_
   refine tl 4 ?_
   refine tl 5 ?_
   refine tl 6 ?_
   refine tl 7 ?_
   refine tl 8 ?_
   refine tl 9 ?_
   refine tl 10 ?_
   refine tl 11 ?_
   refine tl 13 ?_
   refine tl 14 ?_
   refine tl 15 ?_
   refine tl 16 ?_
   refine wpAnyH_ready (rs := [12, 21]) (by kernel_rfl) (by simp) ?_
   refine AllReadyH.cons (o := _) rfl (fun K hK => ?_) (AllReadyH.cons (o := _) rfl (fun K hK => ?_) (AllReadyH.nil))
   go_simp
   refine (HW _ (mv BD rfl hTd)).mono ?_
   rintro en ux ⟨A3, n3, c3, A4, n4, c4, rfl, h3, h4, b⟩
   replace BD := below_next BD BD.size b rfl rfl rfl rfl
   clear b
   refine hK.out _ _ (by exact ⟨mv BD rfl s1, mv BD rfl s3, mv BD rfl s4, mv BD rfl rr, mv BD rfl r0, mv BD rfl r1, mv BD rfl r2, mv BD rfl r3, mv BD rfl r4, mv BD rfl r5⟩) (fun hHeldm1 => ?_)
   clear hK K hHeldm0
   try simp only [Act.put]
   refine wpAnyH_ready (rs := [17, 21]) (by kernel_rfl) (by simp) ?_
   refine AllReadyH.cons (o := _) rfl (fun K hK => ?_) (AllReadyH.cons (o := _) rfl (fun K hK => ?_) (AllReadyH.nil))
   go_simp
   refine (show Calls _ _ _ _ (TellI 0 R _) from by have h := adiv_any (p := p) S (mv BD rfl hTd) (mv BD rfl q1) (mv BD rfl q2) h3 h4; rw [HR.out] at h; exact h).mono ?_
   rintro en uy ⟨A5, n5, c5, A6, n6, c6, rfl, h5, h6, b⟩
   replace BD := below_next BD BD.size b rfl rfl rfl rfl
   clear h3 h4
   clear b
   refine hK.out _ _ (by exact ⟨mv BD rfl s1, mv BD rfl s3, mv BD rfl s4, mv BD rfl rr, mv BD rfl r0, mv BD rfl r1, mv BD rfl r2, mv BD rfl r3, mv BD rfl r4, mv BD rfl r5⟩) (fun hHeldm2 => ?_)
   clear hK K hHeldm1
   try simp only [Act.put]
   refine tl 18 ?_
   refine tl 19 ?_
   refine tl 20 ?_
   refine rdy 21 fun K hK => ?_
   go_simp
   have hgs : wd.heap.size ≤ uy.heap.size := BD.size
   have b := below_alloc uy (.cells #[.bool false, .slice none 0 0, .int .i64 0, .bool false, .slice none 0 0, .int .i64 0] 29)
   have xz := Ibx.new uy false none 0 0 0 false none 0 0 0
   replace BD := below_next BD BD.size b rfl rfl rfl rfl
   have G := mv b (by rfl) <| And.intro h5 <| h6
   clear h5 h6
   obtain ⟨h5, h6⟩ := G
   clear b
   generalize uy.alloc (.cells #[.bool false, .slice none 0 0, .int .i64 0, .bool false, .slice none 0 0, .int .i64 0] 29) = uz at *
   generalize hgzz : uy.heap.size = gz at xz ⊢
   have hgz : wd.heap.size ≤ gz := by omega
   clear hgzz hgs
   refine hK.out _ _ (by exact ⟨mv BD rfl s1, mv BD rfl s3, mv BD rfl s4, mv BD rfl rr, mv BD rfl r0, mv BD rfl r1, mv BD rfl r2, mv BD rfl r3, mv BD rfl r4, mv BD rfl r5⟩) (fun hHeldm3 => ?_)
   clear hK K hHeldm2
   try simp only [Act.put]
   rotate_left
   go_simp
   have hgs : wd.heap.size ≤ ux.heap.size := BD.size
   have b := below_alloc ux (.cells #[.bool false, .slice none 0 0, .int .i64 0, .bool false, .slice none 0 0, .int .i64 0] 29)
   have xz := Ibx.new ux false none 0 0 0 false none 0 0 0
   replace BD := below_next BD BD.size b rfl rfl rfl rfl
   have G := mv b (by rfl) <| And.intro h3 <| h4
   clear h3 h4
   obtain ⟨h3, h4⟩ := G
   clear b
   generalize ux.alloc (.cells #[.bool false, .slice none 0 0, .int .i64 0, .bool false, .slice none 0 0, .int .i64 0] 29) = uy at *
   generalize hgzz : ux.heap.size = gz at xz ⊢
   have hgz : wd.heap.size ≤ gz := by omega
   clear hgzz hgs
   refine hK.out _ _ (by exact ⟨mv BD rfl s1, mv BD rfl s3, mv BD rfl s4, mv BD rfl rr, mv BD rfl r0, mv BD rfl r1, mv BD rfl r2, mv BD rfl r3, mv BD rfl r4, mv BD rfl r5⟩) (fun hHeldm2 => ?_)
   clear hK K hHeldm1
   try simp only [Act.put]
   refine rdy 17 fun K hK => ?_
   go_simp
   refine (show Calls _ _ _ _ (TellI 0 R _) from by have h := adiv_any (p := p) S (mv BD rfl hTd) (mv BD rfl q1) (mv BD rfl q2) h3 h4; rw [HR.out] at h; exact h).mono ?_
   rintro en uz ⟨A5, n5, c5, A6, n6, c6, rfl, h5, h6, b⟩
   replace BD := below_next BD BD.size b rfl rfl rfl rfl
   clear h3 h4
   replace xz := mv b (by rfl) xz
   clear b
   refine hK.out _ _ (by exact ⟨mv BD rfl s1, mv BD rfl s3, mv BD rfl s4, mv BD rfl rr, mv BD rfl r0, mv BD rfl r1, mv BD rfl r2, mv BD rfl r3, mv BD rfl r4, mv BD rfl r5⟩) (fun hHeldm3 => ?_)
   clear hK K hHeldm2
   try simp only [Act.put]
   refine tl 18 ?_
   refine tl 19 ?_
   refine tl 20 ?_
   rotate_left
   go_simp
   have hgs : wd.heap.size ≤ wd.heap.size := BD.size
   have b := below_alloc wd (.cells #[.bool false, .slice none 0 0, .int .i64 0, .bool false, .slice none 0 0, .int .i64 0] 29)
   have xz := Ibx.new wd false none 0 0 0 false none 0 0 0
   replace BD := below_next BD BD.size b rfl rfl rfl rfl
   clear b
   generalize wd.alloc (.cells #[.bool false, .slice none 0 0, .int .i64 0, .bool false, .slice none 0 0, .int .i64 0] 29) = ux at *
   generalize hgzz : wd.heap.size = gz at xz ⊢
   have hgz : wd.heap.size ≤ gz := by omega
   clear hgzz hgs
   refine hK.out _ _ (by exact ⟨mv BD rfl s1, mv BD rfl s3, mv BD rfl s4, mv BD rfl rr, mv BD rfl r0, mv BD rfl r1, mv BD rfl r2, mv BD rfl r3, mv BD rfl r4, mv BD rfl r5⟩) (fun hHeldm1 => ?_)
   clear hK K hHeldm0
   try simp only [Act.put]
   refine rdy 12 fun K hK => ?_
   go_simp
   refine (HW _ (mv BD rfl hTd)).mono ?_
   rintro en uy ⟨A3, n3, c3, A4, n4, c4, rfl, h3, h4, b⟩
   replace BD := below_next BD BD.size b rfl rfl rfl rfl
   replace xz := mv b (by rfl) xz
   clear b
   refine hK.out _ _ (by exact ⟨mv BD rfl s1, mv BD rfl s3, mv BD rfl s4, mv BD rfl rr, mv BD rfl r0, mv BD rfl r1, mv BD rfl r2, mv BD rfl r3, mv BD rfl r4, mv BD rfl r5⟩) (fun hHeldm2 => ?_)
   clear hK K hHeldm1
   try simp only [Act.put]
   refine rdy 17 fun K hK => ?_
   go_simp
   refine (show Calls _ _ _ _ (TellI 0 R _) from by have h := adiv_any (p := p) S (mv BD rfl hTd) (mv BD rfl q1) (mv BD rfl q2) h3 h4; rw [HR.out] at h; exact h).mono ?_
   rintro en uz ⟨A5, n5, c5, A6, n6, c6, rfl, h5, h6, b⟩
   replace BD := below_next BD BD.size b rfl rfl rfl rfl
   clear h3 h4
   replace xz := mv b (by rfl) xz
   clear b
   refine hK.out _ _ (by exact ⟨mv BD rfl s1, mv BD rfl s3, mv BD rfl s4, mv BD rfl rr, mv BD rfl r0, mv BD rfl r1, mv BD rfl r2, mv BD rfl r3, mv BD rfl r4, mv BD rfl r5⟩) (fun hHeldm3 => ?_)
   clear hK K hHeldm2
   try simp only [Act.put]
   refine tl 18 ?_
   refine tl 19 ?_
   refine tl 20 ?_
   rotate_left
   all_goals (
    refine rdy 22 fun K hK => ?_
    obtain ⟨f0, f1, f2, f3, f4, f5⟩ := xz.open
    obtain ⟨z0, z1, z2, z3, z4, z5⟩ := xz.held
    go_simp
    have xd := xz.put R.lo.s A5 n5 c5 R.lo.e R.hi.s A6 n6 c6 R.hi.e
    have g5 := h5.put6 xz (.bool R.lo.s) (.slice A5 n5 c5) (.int .i64 R.lo.e) (.bool R.hi.s) (.slice A6 n6 c6) (.int .i64 R.hi.e)
    have g6 := h6.put6 xz (.bool R.lo.s) (.slice A5 n5 c5) (.int .i64 R.lo.e) (.bool R.hi.s) (.slice A6 n6 c6) (.int .i64 R.hi.e)
    replace BD := below_put6 (g := gz) BD hgz (.bool R.lo.s) (.slice A5 n5 c5) (.int .i64 R.lo.e) (.bool R.hi.s) (.slice A6 n6 c6) (.int .i64 R.hi.e)
    refine hK.out _ _ (by exact ⟨mv BD rfl s1, mv BD rfl s3, mv BD rfl s4, mv BD rfl rr, mv BD rfl r0, mv BD rfl r1, mv BD rfl r2, mv BD rfl r3, mv BD rfl r4, mv BD rfl r5⟩) (fun hHeldm4 => ?_)
    clear hK K hHeldm3
    try simp only [Act.put]
    refine tl 23 ?_
    refine wpAnyH_done (by kernel_rfl) ?_ _
    have BW := below_next bd bd.size BD rfl rfl rfl rfl
    generalize ((((((uz.setCell ⟨gz, 0, none⟩ (.bool R.lo.s)).setCell ⟨gz, 1, none⟩ (.slice A5 n5 c5)).setCell ⟨gz, 2, none⟩ (.int .i64 R.lo.e)).setCell ⟨gz, 3, none⟩ (.bool R.hi.s)).setCell ⟨gz, 4, none⟩ (.slice A6 n6 c6)).setCell ⟨gz, 5, none⟩ (.int .i64 R.hi.e)) = U at *
    have hgz2 : wr.heap.size ≤ gz := by have := bd.size; omega
    have BB := below_next HB HB.size BW rfl rfl rfl rfl
    have hgsx : gs ≠ gx := fun e => by
     obtain ⟨cs, hb, _, _⟩ := hx.blk
     have h1 := hs.box.blk
     rw [e, hb.blk] at h1
     injection h1 with h1
     injection h1 with _ h1
     exact absurd h1 (by decide)
    have hown : ∀ g, wr.heap.size ≤ g ∨ g = gs ∨ g = gx → some g ≠ vx.ownBlock := fun g hg e => by
     rcases hg with h | h | h
     ·have := (hx.row.lt g e.symm).2; omega
     ·rw [h] at e
      obtain ⟨cs, hc⟩ := hx.row.kind gs e.symm
      rw [hs.box.blk] at hc
      injection hc with hc
      injection hc with _ hc
      exact absurd hc (by decide)
     ·rw [h] at e
      obtain ⟨cs, hb, _, _⟩ := hx.blk
      exact hx.row.off hb e.symm
    have lgx : gx < wr.heap.size := hx.gl
    have lgs : gs < wr.heap.size := hs.box.gl
    have hlo := hx.lo
    clear s1 s3 s4 rr r0 r1 r2 r3 r4 r5 q1 q2 hT hTd ho
    replace hs := mv BW rfl hs
    replace hx := mv BW rfl hx
    obtain ⟨d0, d1, d2, d3, d4, d5⟩ := xd.held
    have s1 : U.cell? ⟨gs, 1, none⟩ = some (.slice (some ⟨gx, 0, none⟩) 1 cx) := hs.box.at 1
    obtain ⟨Av, cv, hvx⟩ := hx.row.slice
    have rr : U.cell? ⟨gx, 0, none⟩ = some (.slice Av LX.length cv) := by rw [← hvx]; exact hx.first
    have hrow := hx.row
    clear hgz BD
    go_upto_region 7 with fail
    have b : Below U.heap.size U (World.drew U) := below_drewN (Below.refl _ _) 1
    replace BB := bnx BB b
    replace BW := below_next BW BW.size b rfl rfl rfl rfl
    have G := mv b (by rfl) <| And.intro hs <| And.intro hx <| And.intro xd <| And.intro g5 <| And.intro g6 <| And.intro s1 <| And.intro rr <| And.intro hrow <| And.intro d0 <| And.intro d1 <| And.intro d2 <| And.intro d3 <| And.intro d4 <| d5
    clear hs hx xd g5 g6 s1 rr hrow d0 d1 d2 d3 d4 d5
    obtain ⟨hs, hx, xd, g5, g6, s1, rr, hrow, d0, d1, d2, d3, d4, d5⟩ := G
    clear b
    go_wp2_with fail
    refine wp_region_held_drew (S := fun w' => w'.cell? ⟨gs, 1, none⟩ = some (.slice (some ⟨gx, 0, none⟩) 1 cx) ∧ w'.cell? ⟨gz, 0, none⟩ = some (.bool R.lo.s) ∧ w'.cell? ⟨gz, 1, none⟩ = some (.slice A5 n5 c5) ∧ w'.cell? ⟨gz, 2, none⟩ = some (.int .i64 R.lo.e) ∧ w'.cell? ⟨gz, 3, none⟩ = some (.bool R.hi.s) ∧ w'.cell? ⟨gz, 4, none⟩ = some (.slice A6 n6 c6) ∧ w'.cell? ⟨gz, 5, none⟩ = some (.int .i64 R.hi.e)) (by kernel_rfl) (by exact ⟨s1, d0, d1, d2, d3, d4, d5⟩) (fun hHeldn0 => ?_)
    generalize World.drew U = we at *
    refine tl 0 ?_
    refine tl 1 ?_
    refine tl 2 ?_
    refine tl 3 ?_
    refine tl 4 ?_
    refine tl 5 ?_
    refine tl 6 ?_
    refine tl 7 ?_
    refine tl 8 ?_
    refine tl 9 ?_
    refine tl 10 ?_
    refine wpAnyH_take (i := 12) (v := .agg #[.bool R.lo.s, .slice A5 n5 c5, .int .i64 R.lo.e, .bool R.hi.s, .slice A6 n6 c6, .int .i64 R.hi.e]) rfl (by kernel_rfl) (by kernel_rfl) (by kernel_rfl) (fun _ _ _ h => panic_put (P := Tryz.prog) (fn := Tryz.f22) (R := (fun en w' => en = .returned (.int .i64 0) ∧ (∃ v', JX w' w0.heap.size gx v' (LX ++ [R]) ∧ (v'.ownBlock = vx.ownBlock ∨ ∃ k, v'.ownBlock = some k ∧ wr.heap.size ≤ k)) ∧ JSh w' w0.heap.size gs gr nl st (.slice (some ⟨gx, 0, none⟩) 1 cx) sp p vs Q ∧ Below w0.heap.size w0 w')) h) (Or.inl ⟨by rfl, ?n12y12⟩) (by assumption) ?_
    case n12y12 => (intro w hSw; (try dsimp only at hSw); go_simp); try with_reducible rfl
    change wpAnyH _ _ _ _ _ _ _ (Act.put _ (some 54) _) _
    simp only [Act.put, List.setIfInBounds_toArray, List.set_cons_zero, List.set_cons_succ]
    refine wpAnyH_ready (rs := [11, 13]) (by kernel_rfl) (by simp) ?_
    refine AllReadyH.cons (o := _) rfl (fun K hK => ?_) (AllReadyH.cons (o := _) rfl (fun K hK => ?_) (AllReadyH.nil))
    ·go_simp
     refine hK.out _ _ (by exact ⟨s1, d0, d1, d2, d3, d4, d5⟩) (fun hHeldn1 => ?_)
     clear hK K hHeldn0
     try simp only [Act.put]
     refine rdy 13 fun K hK => ?_
     go_simp
     have b := below_alloc we (.cells #[.bool R.lo.s, .slice A5 n5 c5, .int .i64 R.lo.e, .bool R.hi.s, .slice A6 n6 c6, .int .i64 R.hi.e] 29)
     have xv := Ibx.new we R.lo.s A5 n5 c5 R.lo.e R.hi.s A6 n6 c6 R.hi.e
     replace BB := below_next BB BB.size b (by rfl) (by rfl) (by rfl) (by rfl)
     replace BW := below_next BW BW.size b (by rfl) (by rfl) (by rfl) (by rfl)
     have G := mv b (by rfl) <| And.intro hs <| And.intro hx <| And.intro xd <| And.intro g5 <| And.intro g6 <| And.intro s1 <| And.intro rr <| And.intro hrow <| And.intro d0 <| And.intro d1 <| And.intro d2 <| And.intro d3 <| And.intro d4 <| d5
     clear hs hx xd g5 g6 s1 rr hrow d0 d1 d2 d3 d4 d5
     obtain ⟨hs, hx, xd, g5, g6, s1, rr, hrow, d0, d1, d2, d3, d4, d5⟩ := G
     clear b
     generalize we.alloc (.cells #[.bool R.lo.s, .slice A5 n5 c5, .int .i64 R.lo.e, .bool R.hi.s, .slice A6 n6 c6, .int .i64 R.hi.e] 29) = v_2 at *
     generalize we.heap.size = gv at *
     refine hK.out _ _ (by exact ⟨s1, d0, d1, d2, d3, d4, d5⟩) (fun hHeldn2 => ?_)
     clear hK K hHeldn1
     try simp only [Act.put]
     refine rdy 14 fun K hK => ?_
     obtain ⟨v', v_3, hr', g1, g2, g3⟩ := appi_run 40 hrow xv g5 g6 hkk (by have := hx.lo; have := hx.gl; omega)
     obtain ⟨A9, c9, e9, _⟩ := g1.form
     generalize (LX ++ [R]).length = n9 at e9
     subst e9
     have BN := grown_below g2 BB (fun g hg => (hx.row.lt g hg).1) BB.size
     have hS2 : JSh (v_3.setCell ⟨gx, 0, none⟩ (.slice A9 n9 c9)) w0.heap.size gs gr nl st (.slice (some ⟨gx, 0, none⟩) 1 cx) sp p vs Q := hs.far hx g2 hne hd
     have hX2 : JX (v_3.setCell ⟨gx, 0, none⟩ (.slice A9 n9 c9)) w0.heap.size gx (.slice A9 n9 c9) (LX ++ [R]) := hx.put g1 g2
     have hO9 : (Value.slice A9 n9 c9).ownBlock = vx.ownBlock ∨ ∃ k, (Value.slice A9 n9 c9).ownBlock = some k ∧ wr.heap.size ≤ k := g3.imp id fun e => ⟨_, e, BW.size⟩
     have f9 : v_3.frozen? ⟨gx, 0, none⟩ = false := by
      obtain ⟨cs, hb, _, _⟩ := hx.blk
      have := (jhg_block g2 hb (hx.row.off hb)).blk
      simp [World.frozen?, this]
     have hne2 : ∀ g, wr.heap.size ≤ g ∨ g = gs ∨ g = gx → some g ≠ vx.ownBlock := hown
     rw [hvx] at hr' hne2
     rw [hvx] at g2
     rw [if_pos (by rfl)]
     unfold Oper.wp execOp
     simp only [List.getElem_toArray, List.getElem_cons_succ, List.getElem_cons_zero, resolve, invoke, builtin, Sem.run_bind, Sem.run_pure, Result.andThen_ok, List.map_toArray, List.map_cons, List.map_nil]
     change Oper.upon _ _ _ _ _ ((Sem.run _ (Builtin.append_ _ _ #[.slice Av LX.length cv, .slice (some ⟨gv, 0, none⟩) 1 1]) _).andThen _)
     rw [hr']
     go_simp
     replace s1 := g2.cell s1 (hne2 (gs) (.inr (.inl rfl)))
     replace d0 := g2.cell d0 (hne2 (gz) (.inl (by omega)))
     replace d1 := g2.cell d1 (hne2 (gz) (.inl (by omega)))
     replace d2 := g2.cell d2 (hne2 (gz) (.inl (by omega)))
     replace d3 := g2.cell d3 (hne2 (gz) (.inl (by omega)))
     replace d4 := g2.cell d4 (hne2 (gz) (.inl (by omega)))
     replace d5 := g2.cell d5 (hne2 (gz) (.inl (by omega)))
     replace rr := g2.cell rr (hne2 gx (.inr (.inr rfl)))
     clear hr' g1 g2 g3 hs hx hrow xv g5 g6 xd BB
     refine hK.out _ _ (by exact ⟨s1, d0, d1, d2, d3, d4, d5⟩) (fun hHeldn3 => ?_)
     clear hK K hHeldn2
     try simp only [Act.put]
     refine tl 15 ?_
     refine rdy 16 fun K hK => ?_
     go_simp
     have BB := BN.setCell (p := ⟨gx, 0, none⟩) hlo (.slice A9 n9 c9)
     replace s1 := cell_oth s1 (show gs ≠ gx by omega) 0 (.slice A9 n9 c9)
     replace d0 := cell_oth d0 (show gz ≠ gx by omega) 0 (.slice A9 n9 c9)
     replace d1 := cell_oth d1 (show gz ≠ gx by omega) 0 (.slice A9 n9 c9)
     replace d2 := cell_oth d2 (show gz ≠ gx by omega) 0 (.slice A9 n9 c9)
     replace d3 := cell_oth d3 (show gz ≠ gx by omega) 0 (.slice A9 n9 c9)
     replace d4 := cell_oth d4 (show gz ≠ gx by omega) 0 (.slice A9 n9 c9)
     replace d5 := cell_oth d5 (show gz ≠ gx by omega) 0 (.slice A9 n9 c9)
     refine hK.out _ _ (by exact ⟨s1, d0, d1, d2, d3, d4, d5⟩) (fun hHeldn4 => ?_)
     clear hK K hHeldn3
     try simp only [Act.put]
     refine wpAnyH_done (by kernel_rfl) ?_ _
     go_wp2
     go_roundg (gk - 1)
     case measure => have := HG.out; omega
     case rel => exact ⟨1, by have := HG.out; omega, rfl, fun h => absurd h (by decide), fun _ => ⟨⟨_, hX2, hO9⟩, hS2, BB⟩⟩
    ·go_simp
     have b := below_alloc we (.cells #[.bool R.lo.s, .slice A5 n5 c5, .int .i64 R.lo.e, .bool R.hi.s, .slice A6 n6 c6, .int .i64 R.hi.e] 29)
     have xv := Ibx.new we R.lo.s A5 n5 c5 R.lo.e R.hi.s A6 n6 c6 R.hi.e
     replace BB := below_next BB BB.size b (by rfl) (by rfl) (by rfl) (by rfl)
     replace BW := below_next BW BW.size b (by rfl) (by rfl) (by rfl) (by rfl)
     have G := mv b (by rfl) <| And.intro hs <| And.intro hx <| And.intro xd <| And.intro g5 <| And.intro g6 <| And.intro s1 <| And.intro rr <| And.intro hrow <| And.intro d0 <| And.intro d1 <| And.intro d2 <| And.intro d3 <| And.intro d4 <| d5
     clear hs hx xd g5 g6 s1 rr hrow d0 d1 d2 d3 d4 d5
     obtain ⟨hs, hx, xd, g5, g6, s1, rr, hrow, d0, d1, d2, d3, d4, d5⟩ := G
     clear b
     generalize we.alloc (.cells #[.bool R.lo.s, .slice A5 n5 c5, .int .i64 R.lo.e, .bool R.hi.s, .slice A6 n6 c6, .int .i64 R.hi.e] 29) = v_1 at *
     generalize we.heap.size = gv at *
     refine hK.out _ _ (by exact ⟨s1, d0, d1, d2, d3, d4, d5⟩) (fun hHeldn1 => ?_)
     clear hK K hHeldn0
     try simp only [Act.put]
     refine rdy 11 fun K hK => ?_
     go_simp
     refine hK.out _ _ (by exact ⟨s1, d0, d1, d2, d3, d4, d5⟩) (fun hHeldn2 => ?_)
     clear hK K hHeldn1
     try simp only [Act.put]
     refine rdy 14 fun K hK => ?_
     obtain ⟨v', v_3, hr', g1, g2, g3⟩ := appi_run 40 hrow xv g5 g6 hkk (by have := hx.lo; have := hx.gl; omega)
     obtain ⟨A9, c9, e9, _⟩ := g1.form
     generalize (LX ++ [R]).length = n9 at e9
     subst e9
     have BN := grown_below g2 BB (fun g hg => (hx.row.lt g hg).1) BB.size
     have hS2 : JSh (v_3.setCell ⟨gx, 0, none⟩ (.slice A9 n9 c9)) w0.heap.size gs gr nl st (.slice (some ⟨gx, 0, none⟩) 1 cx) sp p vs Q := hs.far hx g2 hne hd
     have hX2 : JX (v_3.setCell ⟨gx, 0, none⟩ (.slice A9 n9 c9)) w0.heap.size gx (.slice A9 n9 c9) (LX ++ [R]) := hx.put g1 g2
     have hO9 : (Value.slice A9 n9 c9).ownBlock = vx.ownBlock ∨ ∃ k, (Value.slice A9 n9 c9).ownBlock = some k ∧ wr.heap.size ≤ k := g3.imp id fun e => ⟨_, e, BW.size⟩
     have f9 : v_3.frozen? ⟨gx, 0, none⟩ = false := by
      obtain ⟨cs, hb, _, _⟩ := hx.blk
      have := (jhg_block g2 hb (hx.row.off hb)).blk
      simp [World.frozen?, this]
     have hne2 : ∀ g, wr.heap.size ≤ g ∨ g = gs ∨ g = gx → some g ≠ vx.ownBlock := hown
     rw [hvx] at hr' hne2
     rw [hvx] at g2
     rw [if_pos (by rfl)]
     unfold Oper.wp execOp
     simp only [List.getElem_toArray, List.getElem_cons_succ, List.getElem_cons_zero, resolve, invoke, builtin, Sem.run_bind, Sem.run_pure, Result.andThen_ok, List.map_toArray, List.map_cons, List.map_nil]
     change Oper.upon _ _ _ _ _ ((Sem.run _ (Builtin.append_ _ _ #[.slice Av LX.length cv, .slice (some ⟨gv, 0, none⟩) 1 1]) _).andThen _)
     rw [hr']
     go_simp
     replace s1 := g2.cell s1 (hne2 (gs) (.inr (.inl rfl)))
     replace d0 := g2.cell d0 (hne2 (gz) (.inl (by omega)))
     replace d1 := g2.cell d1 (hne2 (gz) (.inl (by omega)))
     replace d2 := g2.cell d2 (hne2 (gz) (.inl (by omega)))
     replace d3 := g2.cell d3 (hne2 (gz) (.inl (by omega)))
     replace d4 := g2.cell d4 (hne2 (gz) (.inl (by omega)))
     replace d5 := g2.cell d5 (hne2 (gz) (.inl (by omega)))
     replace rr := g2.cell rr (hne2 gx (.inr (.inr rfl)))
     clear hr' g1 g2 g3 hs hx hrow xv g5 g6 xd BB
     refine hK.out _ _ (by exact ⟨s1, d0, d1, d2, d3, d4, d5⟩) (fun hHeldn3 => ?_)
     clear hK K hHeldn2
     try simp only [Act.put]
     refine tl 15 ?_
     refine rdy 16 fun K hK => ?_
     go_simp
     have BB := BN.setCell (p := ⟨gx, 0, none⟩) hlo (.slice A9 n9 c9)
     replace s1 := cell_oth s1 (show gs ≠ gx by omega) 0 (.slice A9 n9 c9)
     replace d0 := cell_oth d0 (show gz ≠ gx by omega) 0 (.slice A9 n9 c9)
     replace d1 := cell_oth d1 (show gz ≠ gx by omega) 0 (.slice A9 n9 c9)
     replace d2 := cell_oth d2 (show gz ≠ gx by omega) 0 (.slice A9 n9 c9)
     replace d3 := cell_oth d3 (show gz ≠ gx by omega) 0 (.slice A9 n9 c9)
     replace d4 := cell_oth d4 (show gz ≠ gx by omega) 0 (.slice A9 n9 c9)
     replace d5 := cell_oth d5 (show gz ≠ gx by omega) 0 (.slice A9 n9 c9)
     refine hK.out _ _ (by exact ⟨s1, d0, d1, d2, d3, d4, d5⟩) (fun hHeldn4 => ?_)
     clear hK K hHeldn3
     try simp only [Act.put]
     refine wpAnyH_done (by kernel_rfl) ?_ _
     go_wp2
     go_roundg (gk - 1)
     case measure => have := HG.out; omega
     case rel => exact ⟨1, by have := HG.out; omega, rfl, fun h => absurd h (by decide), fun _ => ⟨⟨_, hX2, hO9⟩, hS2, BB⟩⟩)
  ·have hi1 : i = 1 := by have := HG.out; omega
   subst hi1
   obtain ⟨hx2, hs2, hb2⟩ := hnz (by decide)
   go_wp2
   exact bodyPost_ret (v := .int .i64 0) (by simp [results, Tryz.results22, go_sem]) rfl ⟨rfl, hx2, hs2, hb2⟩

end Go.Proofs.YteagjlcmgiknmaaGreatDoor
