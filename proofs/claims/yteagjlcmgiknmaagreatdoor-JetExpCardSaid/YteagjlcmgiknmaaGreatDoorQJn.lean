/-
 Contract of jet's begin for one state, where all is told, at this translation. Condition: the slices read as limbs, the table of math/bits reads as its text lays it.
-/
import Derived.StillTailTactics
import Derived.Deep.CutBlock
import Derived.Test.YteagjlcmgiknmaaGreatDoorQJm
import Derived.Test.YteagjlcmgiknmaaGreatDoorQGb
set_option maxHeartbeats 8000000
set_option maxRecDepth 100000
namespace Go.Proofs.YteagjlcmgiknmaaGreatDoor
open Go.RowKit

/-- an interval's own block is a row of one -/
theorem irow_new {w : World} {b0 g : Nat} {R : Iv} {A : Option Addr} {n c : Nat} {B : Option Addr} {m d : Nat} (h : Ibx w g R.lo.s A n c R.lo.e R.hi.s B m d R.hi.e) (r1 : Rd w .u64 Go.Proofs.YteagjlcmgiknmaaGreatDoor.W A n c R.lo.l) (r2 : Rd w .u64 Go.Proofs.YteagjlcmgiknmaaGreatDoor.W B m d R.hi.l) (hb : b0 ≤ g) : IRow w b0 (.slice (some ⟨g, 0, none⟩) 1 1) [R] :=
 ⟨[.bool R.lo.s, .slice A n c, .int .i64 R.lo.e, .bool R.hi.s, .slice B m d, .int .i64 R.hi.e], ⟨⟨rfl, .inr ⟨g, 1, _, rfl, hb, h.blk, Nat.le_refl _, by unfold maxLen; omega, rfl, rfl⟩⟩, fun k hk i x => by
  injection hk with hk
  subst hk
  exact h.no i x⟩, ⟨A, n, c, B, m, d, [], rfl, r1, r2, rfl⟩⟩
theorem jx_new {w : World} {b0 : Nat} {v' vx : Value} {L : List Iv} (h : RowN w b0 40 1 v' 1 [vx]) (hr : IRow w b0 vx L) : ∃ gx cx, v' = .slice (some ⟨gx, 0, none⟩) 1 cx ∧ JX w b0 gx vx L := by
 rcases h.1.2 with ⟨_, h3⟩ | ⟨g, cap, cur, hv, hb, hg, hc, _, hs, ht⟩
 ·cases h3
 ·have h0 : cur[0]? = some vx := by
   have h1 : (cur.toList.take (1 * 1))[0]? = some vx := by rw [ht]; rfl
   simpa [List.getElem?_take] using h1
  refine ⟨g, cap, hv, ⟨⟨cur, ⟨hg⟩, h0, fun j x hj => ?_⟩, hr, hb⟩⟩
  refine h.2 g (by rw [hv]; rfl) j x ?_
  rw [cell_of_row w g j cur _ (0, 0) hg]
  exact hj
theorem jsh_sx {w : World} {b0 gs gr n : Nat} {st sx sp v' : Value} {p : Int} {vs : Nat → Value} {Q : Nat → List Iv} (hs : JSh w b0 gs gr n st sx sp p vs Q) (hn : 0 < n) (h0 : NoL st) (h1 : NoL sx) (h2 : NoL sp) : JSh (w.setCell ⟨gs, 1, none⟩ v') b0 gs gr n st v' sp p vs Q := by
 have hno : ∀ k, some gs = some k → ∀ i x : Nat, w.cell? ⟨k, i, none⟩ ≠ some (.int .u64 (x : Int)) := fun k e i x => by
  injection e with e
  subst e
  rw [cell_of_row w gs i _ _ (0, 0) hs.box.blk]
  refine nol_at (fun u hu => ?_) i x
  simp at hu
  rcases hu with rfl | rfl | rfl | rfl | rfl
  ·exact h0
  ·exact h1
  ·exact h2
  ·exact nol_slice
  ·exact nol_int _
 refine ⟨⟨?_⟩, ⟨⟨(Below.heap_setCell _ ⟨gs, 1, none⟩ v' gr (Ne.symm (jsh_off hs hn).2)).trans hs.rows.blk.blk⟩, fun i hi => (hs.rows.row i hi).grown (grownBy_set w gs 1 v') (fun k hk e => (jsh_off hs hi).1 (hk.trans e.symm)) hno, hs.rows.far⟩, hs.lo⟩
 have := hs.box.blk
 simp [World.setCell, Array.getElem?_modify, this]
theorem jsh_grown {w w' : World} {b0 gs gr n : Nat} {st sx sp : Value} {p : Int} {vs : Nat → Value} {Q : Nat → List Iv} (hs : JSh w b0 gs gr n st sx sp p vs Q) (hg : w.grownBy w' none) : JSh w' b0 gs gr n st sx sp p vs Q :=
 ⟨jhg_block hg hs.box (by simp), ⟨jhg_block hg hs.rows.blk (by simp), fun i hi => (hs.rows.row i hi).grown hg (fun k _ e => by cases e) (fun k e => by cases e), hs.rows.far⟩, hs.lo⟩
/-- append of one row, to nothing, as a run -/
theorem app0_run {w : World} (ty : TypeId) {base b : Nat} {u : Value} (hb : w.cell? ⟨b, 0, none⟩ = some u) (hu : u.oneCell' = true) (hn : NoL u) (hbase : base ≤ w.heap.size) :
  ∃ v' w', (Builtin.append_ #[36, 36] ty #[.slice none 0 0, .slice (some ⟨b, 0, none⟩) 1 1]).run Tryz.prog w = .ok v' w' ∧ RowN w' base 40 1 v' 1 [u] ∧ w.grownBy w' none ∧ (v'.ownBlock = none ∨ v'.ownBlock = some w.heap.size) := by
 obtain ⟨i0, hi, hz0, hz1, hz2⟩ := info_partsD infoR
 obtain ⟨v', w', hr', g1, g2, g3⟩ := run_append_n (ty := ty) (c := 1) Tryz.underlying36 hi hz0 hz1 hz2 rfl (by decide) (by intro u hu; simp [Value.cells] at hu; rw [hu]; exact nol_slice) (rown_nil w base 40 1) (a := ⟨b, 0, none⟩) (m := 1) (news := [u]) rfl
  (fun j y hy => by
   match j, hy with
   | 0, hy => simp at hy; subst hy; simpa [Addr.add] using hb)
  (fun y hy => by simp at hy; subst hy; exact hu) (fun y hy => by simp at hy; subst hy; exact hn) (by decide) (by unfold maxLen; omega) (by omega) hbase
 exact ⟨v', w', hr', g1, g2, g3⟩

theorem rown_lower {w : World} {base b0 : Nat} {E : TypeId} {size : Nat} {v : Value} {m : Nat} {xs : List Value} (h : RowN w base E size v m xs) (hb : b0 ≤ base) : RowN w b0 E size v m xs := by
 refine ⟨⟨h.1.1, ?_⟩, h.2⟩
 rcases h.1.2 with h2 | ⟨g, cap, cur, hv, h3, h4⟩
 ·exact .inl h2
 ·exact .inr ⟨g, cap, cur, hv, Nat.le_trans hb h3, h4⟩
theorem jx_far {w : World} {b0 gs gr n gx : Nat} {st sx sp vx v' : Value} {p : Int} {vs : Nat → Value} {Q : Nat → List Iv} {L : List Iv} (h : JX w b0 gx vx L) (hs : JSh w b0 gs gr n st sx sp p vs Q) (h0 : NoL st) (h1 : NoL sx) (h2 : NoL sp) : JX (w.setCell ⟨gs, 1, none⟩ v') b0 gx vx L := by
 have hno : ∀ k, some gs = some k → ∀ i x : Nat, w.cell? ⟨k, i, none⟩ ≠ some (.int .u64 (x : Int)) := fun k e i x => by
  injection e with e
  subst e
  rw [cell_of_row w gs i _ _ (0, 0) hs.box.blk]
  refine nol_at (fun u hu => ?_) i x
  simp at hu
  rcases hu with rfl | rfl | rfl | rfl | rfl
  ·exact h0
  ·exact h1
  ·exact h2
  ·exact nol_slice
  ·exact nol_int _
 refine h.grow (grownBy_set w gs 1 v') (fun e => ?_) (fun k hk e => ?_) hno
 ·injection e with e
  obtain ⟨cs, hb, _, _⟩ := h.blk
  have h1 := hs.box.blk
  rw [e, hb.blk] at h1
  injection h1 with h1
  injection h1 with _ h1
  exact absurd h1 (by decide)
 ·obtain ⟨cs, hc⟩ := h.row.kind k hk
  injection e with e
  rw [← e, hs.box.blk] at hc
  injection hc with hc
  injection hc with _ hc
  exact absurd hc (by decide)

theorem jbegin_ok (S : Sc) {w0 w : World} {R : Iv} {X : Nat → Iv} {gs gr nl cX : Nat} {AX : Option Addr} {st sp : Value} {p : Int} {vs : Nat → Value} {Q : Nat → List Iv} (hT : Tab w) (HB : Below w0.heap.size w0 w) (hlo : w0.heap.size ≤ gs) (hs : JSh w w0.heap.size gs gr nl st (.slice none 0 0) sp p vs Q) (hnl : 0 < nl) (hX : RdS w AX 1 cX X) (hst : NoL st) (hsp : NoL sp) (hm : mayI S.K (X 0) = true) (hp : 1 ≤ p ∧ p ≤ 2000) (hR : rouI S (X 0) p = .ok R) :
  Calls Tryz.prog 20 #[.pointer (some ⟨gs, 0, none⟩), .slice AX 1 cX] w (fun en w' => en = .returned (.int .i64 0) ∧ (∃ (gx cx : Nat) (vx : Value), JX w' w0.heap.size gx vx [R] ∧ JSh w' w0.heap.size gs gr nl st (.slice (some ⟨gx, 0, none⟩) 1 cx) sp p vs Q ∧ w.heap.size ≤ gx ∧ ∀ k, vx.ownBlock = some k → w.heap.size ≤ k) ∧ Below w0.heap.size w0 w') := by
 have HR := Lib.hid hR
 clear hR
 have HM := Lib.hid hm
 clear hm
 have hp1 := hp.1
 have hp2 := hp.2
 have s1 : w.cell? ⟨gs, 1, none⟩ = some (.slice none 0 0) := hs.box.at 1
 have s4 : w.cell? ⟨gs, 4, none⟩ = some (.int .i64 p) := hs.box.at 4
 obtain ⟨gy, oy, rfl, hc⟩ := hX.at_ (by omega)
 obtain ⟨A1, n1, c1, A2, n2, c2, ⟨r0, r1, r2, r3, r4, r5⟩, q1, q2⟩ := hc 0 (by omega)
 clear hc hX
 rw [Nat.zero_mul, Nat.add_zero] at r0 r1 r2 r3 r4 r5
 generalize X 0 = x at *
 go_enter Tryz.func20, Tryz.ntmps20
 go_wp2
 go_loopg [11] 1 (fun q v11 wr => ∃ i : Nat, i + q = 1 ∧ v11 = .int .i64 i ∧ (i = 0 → wr = w) ∧ (i ≠ 0 → (∃ (gx cx : Nat) (vx : Value), JX wr w0.heap.size gx vx [R] ∧ JSh wr w0.heap.size gs gr nl st (.slice (some ⟨gx, 0, none⟩) 1 cx) sp p vs Q ∧ w.heap.size ≤ gx ∧ ∀ k, vx.ownBlock = some k → w.heap.size ≤ k) ∧ Below w0.heap.size w0 wr))
 case atStart => exact ⟨0, rfl, rfl, fun _ => rfl, fun h => absurd rfl h⟩
 case round =>
  obtain ⟨i, hg, rfl, hz, hnz⟩ := hrel
  have HG := Lib.hid hg
  clear hg
  by_cases hi : i = 0
  ·subst hi
   obtain rfl := hz rfl
   clear hz hnz
   go_upto_region 4 with fail
   clear r0 r1 r2 r3 r4 r5
   have b := below_alloc wr (.cells #[.bool x.lo.s, .slice A1 n1 c1, .int .i64 x.lo.e, .bool x.hi.s, .slice A2 n2 c2, .int .i64 x.hi.e] 29)
   have BX := b
   have xb := Ibx.new wr x.lo.s A1 n1 c1 x.lo.e x.hi.s A2 n2 c2 x.hi.e
   have lgs : gs < wr.heap.size := hs.box.gl
   have G := mv b (by rfl) <| And.intro hT <| And.intro hs <| And.intro q1 <| And.intro q2 <| And.intro s1 <| s4
   clear hT hs q1 q2 s1 s4
   obtain ⟨hT, hs, q1, q2, s1, s4⟩ := G
   clear b
   obtain ⟨m0, m1, m2, m3, m4, m5⟩ := xb.held
   generalize wr.alloc (.cells #[.bool x.lo.s, .slice A1 n1 c1, .int .i64 x.lo.e, .bool x.hi.s, .slice A2 n2 c2, .int .i64 x.hi.e] 29) = W1 at *
   generalize hgb : wr.heap.size = gb at xb m0 m1 m2 m3 m4 m5 ⊢
   have b : Below W1.heap.size W1 (World.drew W1) := below_drewN (Below.refl _ _) 1
   replace BX := below_next BX BX.size b rfl rfl rfl rfl
   have G := mv b (by rfl) <| And.intro hT <| And.intro hs <| And.intro q1 <| And.intro q2 <| And.intro s1 <| And.intro s4 <| And.intro m0 <| And.intro m1 <| And.intro m2 <| And.intro m3 <| And.intro m4 <| m5
   clear hT hs q1 q2 s1 s4 m0 m1 m2 m3 m4 m5
   obtain ⟨hT, hs, q1, q2, s1, s4, m0, m1, m2, m3, m4, m5⟩ := G
   clear b xb
   go_wp2_with fail
   refine wp_region_held_drew (S := fun w' => w'.cell? ⟨gs, 1, none⟩ = some (.slice none 0 0) ∧ w'.cell? ⟨gs, 4, none⟩ = some (.int .i64 p) ∧ w'.cell? ⟨gb, 0, none⟩ = some (.bool x.lo.s) ∧ w'.cell? ⟨gb, 1, none⟩ = some (.slice A1 n1 c1) ∧ w'.cell? ⟨gb, 2, none⟩ = some (.int .i64 x.lo.e) ∧ w'.cell? ⟨gb, 3, none⟩ = some (.bool x.hi.s) ∧ w'.cell? ⟨gb, 4, none⟩ = some (.slice A2 n2 c2) ∧ w'.cell? ⟨gb, 5, none⟩ = some (.int .i64 x.hi.e)) (by kernel_rfl) (by exact ⟨s1, s4, m0, m1, m2, m3, m4, m5⟩) (fun hHeldm0 => ?_)
   generalize World.drew W1 = wd at *
   have BD := Below.refl wd.heap.size wd
   refine tl 0 ?_
   refine tl 1 ?_
   refine tl 2 ?_
   refine tl 3 ?_
   refine tl 4 ?_
   refine wpAnyH_ready (rs := [5, 9]) (by kernel_rfl) (by simp) ?_
   refine AllReadyH.cons (o := _) rfl (fun K hK => ?_) (AllReadyH.cons (o := _) rfl (fun K hK => ?_) (AllReadyH.nil))
   go_simp
   refine (show Calls _ _ _ _ (TellI 0 R _) from by have h := iround_tell S (x := x) (p := p) (mv BD rfl hT) (mv BD rfl q1) (mv BD rfl q2) HM.out hp1 hp2; rw [HR.out] at h; exact h).mono ?_
   rintro en ux ⟨A5, n5, c5, A6, n6, c6, rfl, h5, h6, b⟩
   replace BD := below_next BD BD.size b rfl rfl rfl rfl
   clear b
   refine hK.out _ _ (by exact ⟨mv BD rfl s1, mv BD rfl s4, mv BD rfl m0, mv BD rfl m1, mv BD rfl m2, mv BD rfl m3, mv BD rfl m4, mv BD rfl m5⟩) (fun hHeldm1 => ?_)
   clear hK K hHeldm0
   try simp only [Act.put]
   refine tl 6 ?_
   refine tl 7 ?_
   refine tl 8 ?_
   refine rdy 9 fun K hK => ?_
   go_simp
   have hgs : wd.heap.size ≤ ux.heap.size := BD.size
   have b := below_alloc ux (.cells #[.bool false, .slice none 0 0, .int .i64 0, .bool false, .slice none 0 0, .int .i64 0] 29)
   have xz := Ibx.new ux false none 0 0 0 false none 0 0 0
   replace BD := below_next BD BD.size b rfl rfl rfl rfl
   have G := mv b (by rfl) <| And.intro h5 <| h6
   clear h5 h6
   obtain ⟨h5, h6⟩ := G
   clear b
   generalize ux.alloc (.cells #[.bool false, .slice none 0 0, .int .i64 0, .bool false, .slice none 0 0, .int .i64 0] 29) = uy at *
   generalize hgzz : ux.heap.size = gz at xz ⊢
   have hgz : wd.heap.size ≤ gz := by omega
   clear hgzz hgs
   refine hK.out _ _ (by exact ⟨mv BD rfl s1, mv BD rfl s4, mv BD rfl m0, mv BD rfl m1, mv BD rfl m2, mv BD rfl m3, mv BD rfl m4, mv BD rfl m5⟩) (fun hHeldm2 => ?_)
   clear hK K hHeldm1
   try simp only [Act.put]
   rotate_left
   go_simp
   have hgs : wd.heap.size ≤ wd.heap.size := BD.size
   have b := below_alloc wd (.cells #[.bool false, .slice none 0 0, .int .i64 0, .bool false, .slice none 0 0, .int .i64 0] 29)
   have xz := Ibx.new wd false none 0 0 0 false none 0 0 0
   replace BD := below_next BD BD.size b rfl rfl rfl rfl
   clear b
   generalize wd.alloc (.cells #[.bool false, .slice none 0 0, .int .i64 0, .bool false, .slice none 0 0, .int .i64 0] 29) = ux at *
   generalize hgzz : wd.heap.size = gz at xz ⊢
   have hgz : wd.heap.size ≤ gz := by omega
   clear hgzz hgs
   refine hK.out _ _ (by exact ⟨mv BD rfl s1, mv BD rfl s4, mv BD rfl m0, mv BD rfl m1, mv BD rfl m2, mv BD rfl m3, mv BD rfl m4, mv BD rfl m5⟩) (fun hHeldm1 => ?_)
   clear hK K hHeldm0
   try simp only [Act.put]
   refine rdy 5 fun K hK => ?_
   go_simp
   refine (show Calls _ _ _ _ (TellI 0 R _) from by have h := iround_tell S (x := x) (p := p) (mv BD rfl hT) (mv BD rfl q1) (mv BD rfl q2) HM.out hp1 hp2; rw [HR.out] at h; exact h).mono ?_
   rintro en uy ⟨A5, n5, c5, A6, n6, c6, rfl, h5, h6, b⟩
   replace BD := below_next BD BD.size b rfl rfl rfl rfl
   replace xz := mv b (by rfl) xz
   clear b
   refine hK.out _ _ (by exact ⟨mv BD rfl s1, mv BD rfl s4, mv BD rfl m0, mv BD rfl m1, mv BD rfl m2, mv BD rfl m3, mv BD rfl m4, mv BD rfl m5⟩) (fun hHeldm2 => ?_)
   clear hK K hHeldm1
   try simp only [Act.put]
   refine tl 6 ?_
   refine tl 7 ?_
   refine tl 8 ?_
   rotate_left
   all_goals (
    refine rdy 10 fun K hK => ?_
    obtain ⟨f0, f1, f2, f3, f4, f5⟩ := xz.open
    obtain ⟨z0, z1, z2, z3, z4, z5⟩ := xz.held
    go_simp
    have xd := xz.put R.lo.s A5 n5 c5 R.lo.e R.hi.s A6 n6 c6 R.hi.e
    have g5 := h5.put6 xz (.bool R.lo.s) (.slice A5 n5 c5) (.int .i64 R.lo.e) (.bool R.hi.s) (.slice A6 n6 c6) (.int .i64 R.hi.e)
    have g6 := h6.put6 xz (.bool R.lo.s) (.slice A5 n5 c5) (.int .i64 R.lo.e) (.bool R.hi.s) (.slice A6 n6 c6) (.int .i64 R.hi.e)
    replace BD := below_put6 (g := gz) BD hgz (.bool R.lo.s) (.slice A5 n5 c5) (.int .i64 R.lo.e) (.bool R.hi.s) (.slice A6 n6 c6) (.int .i64 R.hi.e)
    refine hK.out _ _ (by exact ⟨mv BD rfl s1, mv BD rfl s4, mv BD rfl m0, mv BD rfl m1, mv BD rfl m2, mv BD rfl m3, mv BD rfl m4, mv BD rfl m5⟩) (fun hHeldm3 => ?_)
    clear hK K hHeldm2
    try simp only [Act.put]
    refine tl 11 ?_
    refine wpAnyH_done (by kernel_rfl) ?_ _
    have BW := below_next BX BX.size BD rfl rfl rfl rfl
    generalize ((((((uy.setCell ⟨gz, 0, none⟩ (.bool R.lo.s)).setCell ⟨gz, 1, none⟩ (.slice A5 n5 c5)).setCell ⟨gz, 2, none⟩ (.int .i64 R.lo.e)).setCell ⟨gz, 3, none⟩ (.bool R.hi.s)).setCell ⟨gz, 4, none⟩ (.slice A6 n6 c6)).setCell ⟨gz, 5, none⟩ (.int .i64 R.hi.e)) = U at *
    have hgz2 : wr.heap.size ≤ gz := by have := BX.size; omega
    have BB := below_next HB HB.size BW rfl rfl rfl rfl
    replace hs := mv BD rfl hs
    replace s1 := mv BD rfl s1
    clear hT q1 q2 s4 m0 m1 m2 m3 m4 m5 BX
    obtain ⟨d0, d1, d2, d3, d4, d5⟩ := xd.held
    clear hgz BD
    go_upto_region 7 with fail
    have b : Below U.heap.size U (World.drew U) := below_drewN (Below.refl _ _) 1
    replace BB := bnx BB b
    replace BW := below_next BW BW.size b rfl rfl rfl rfl
    have G := mv b (by rfl) <| And.intro hs <| And.intro xd <| And.intro g5 <| And.intro g6 <| And.intro s1 <| And.intro d0 <| And.intro d1 <| And.intro d2 <| And.intro d3 <| And.intro d4 <| d5
    clear hs xd g5 g6 s1 d0 d1 d2 d3 d4 d5
    obtain ⟨hs, xd, g5, g6, s1, d0, d1, d2, d3, d4, d5⟩ := G
    clear b
    go_wp2_with fail
    refine wp_region_held_drew (S := fun w' => w'.cell? ⟨gz, 0, none⟩ = some (.bool R.lo.s) ∧ w'.cell? ⟨gz, 1, none⟩ = some (.slice A5 n5 c5) ∧ w'.cell? ⟨gz, 2, none⟩ = some (.int .i64 R.lo.e) ∧ w'.cell? ⟨gz, 3, none⟩ = some (.bool R.hi.s) ∧ w'.cell? ⟨gz, 4, none⟩ = some (.slice A6 n6 c6) ∧ w'.cell? ⟨gz, 5, none⟩ = some (.int .i64 R.hi.e)) (by kernel_rfl) (by exact ⟨d0, d1, d2, d3, d4, d5⟩) (fun hHeldn0 => ?_)
    generalize World.drew U = we at *
    refine tl 0 ?_
    refine tl 1 ?_
    refine tl 2 ?_
    refine tl 3 ?_
    refine wpAnyH_take (i := 5) (v := .agg #[.bool R.lo.s, .slice A5 n5 c5, .int .i64 R.lo.e, .bool R.hi.s, .slice A6 n6 c6, .int .i64 R.hi.e]) rfl (by kernel_rfl) (by kernel_rfl) (by kernel_rfl) (fun _ _ _ h => panic_put (P := Tryz.prog) (fn := Tryz.f20) (R := (fun en w' => en = .returned (.int .i64 0) ∧ (∃ (gx cx : Nat) (vx : Value), JX w' w0.heap.size gx vx [R] ∧ JSh w' w0.heap.size gs gr nl st (.slice (some ⟨gx, 0, none⟩) 1 cx) sp p vs Q ∧ wr.heap.size ≤ gx ∧ ∀ k, vx.ownBlock = some k → wr.heap.size ≤ k) ∧ Below w0.heap.size w0 w')) h) (Or.inl ⟨by rfl, ?n5y5⟩) (by assumption) ?_
    case n5y5 => (intro w hSw; (try dsimp only at hSw); go_simp); try with_reducible rfl
    change wpAnyH _ _ _ _ _ _ _ (Act.put _ (some 32) _) _
    simp only [Act.put, List.setIfInBounds_toArray, List.set_cons_zero, List.set_cons_succ]
    refine wpAnyH_ready (rs := [4, 6]) (by kernel_rfl) (by simp) ?_
    refine AllReadyH.cons (o := _) rfl (fun K hK => ?_) (AllReadyH.cons (o := _) rfl (fun K hK => ?_) (AllReadyH.nil))
    ·go_simp
     refine hK.out _ _ (by exact ⟨d0, d1, d2, d3, d4, d5⟩) (fun hHeldn1 => ?_)
     clear hK K hHeldn0
     try simp only [Act.put]
     refine rdy 6 fun K hK => ?_
     go_simp
     have b := below_alloc we (.cells #[.bool R.lo.s, .slice A5 n5 c5, .int .i64 R.lo.e, .bool R.hi.s, .slice A6 n6 c6, .int .i64 R.hi.e] 29)
     have xv := Ibx.new we R.lo.s A5 n5 c5 R.lo.e R.hi.s A6 n6 c6 R.hi.e
     have hgv : wr.heap.size ≤ we.heap.size := BW.size
     replace BB := below_next BB BB.size b (by rfl) (by rfl) (by rfl) (by rfl)
     replace BW := below_next BW BW.size b (by rfl) (by rfl) (by rfl) (by rfl)
     have G := mv b (by rfl) <| And.intro hs <| And.intro xd <| And.intro g5 <| And.intro g6 <| And.intro s1 <| And.intro d0 <| And.intro d1 <| And.intro d2 <| And.intro d3 <| And.intro d4 <| d5
     clear hs xd g5 g6 s1 d0 d1 d2 d3 d4 d5
     obtain ⟨hs, xd, g5, g6, s1, d0, d1, d2, d3, d4, d5⟩ := G
     clear b
     generalize we.alloc (.cells #[.bool R.lo.s, .slice A5 n5 c5, .int .i64 R.lo.e, .bool R.hi.s, .slice A6 n6 c6, .int .i64 R.hi.e] 29) = v_2 at *
     generalize hgvv : we.heap.size = gv at xv hgv ⊢
     refine hK.out _ _ (by exact ⟨d0, d1, d2, d3, d4, d5⟩) (fun hHeldn2 => ?_)
     clear hK K hHeldn1
     try simp only [Act.put]
     refine rdy 7 fun K hK => ?_
     go_simp
     have b := below_alloc v_2 (.cells #[.slice (some ⟨gv, 0, none⟩) 1 1] 40)
     have xw := Blk.new v_2 #[.slice (some ⟨gv, 0, none⟩) 1 1] 40
     replace BB := below_next BB BB.size b (by rfl) (by rfl) (by rfl) (by rfl)
     replace BW := below_next BW BW.size b (by rfl) (by rfl) (by rfl) (by rfl)
     have G := mv b (by rfl) <| And.intro hs <| And.intro xd <| And.intro g5 <| And.intro g6 <| And.intro s1 <| And.intro d0 <| And.intro d1 <| And.intro d2 <| And.intro d3 <| And.intro d4 <| And.intro d5 <| xv
     clear hs xd g5 g6 s1 d0 d1 d2 d3 d4 d5 xv
     obtain ⟨hs, xd, g5, g6, s1, d0, d1, d2, d3, d4, d5, xv⟩ := G
     clear b
     generalize v_2.alloc (.cells #[.slice (some ⟨gv, 0, none⟩) 1 1] 40) = v_3 at *
     generalize hgww : v_2.heap.size = gw at xw ⊢
     refine hK.out _ _ (by exact ⟨d0, d1, d2, d3, d4, d5⟩) (fun hHeldn3 => ?_)
     clear hK K hHeldn2
     try simp only [Act.put]
     refine rdy 8 fun K hK => ?_
     have hrow : IRow v_3 w0.heap.size (.slice (some ⟨gv, 0, none⟩) 1 1) [R] := irow_new xv g5 g6 (by have := HB.size; omega)
     have w0c : v_3.cell? ⟨gw, 0, none⟩ = some (.slice (some ⟨gv, 0, none⟩) 1 1) := xw.at 0
     have hb9 : w0.heap.size ≤ v_3.heap.size := BB.size
     obtain ⟨v', v_4, hr', g1, g2, g3⟩ := app0_run 36 (base := v_3.heap.size) w0c rfl nol_slice (Nat.le_refl _)
     replace hrow := hrow.grown g2 (fun k _ e => by cases e) (fun k e => by cases e)
     obtain ⟨gx, cx, e9, jx⟩ := jx_new (rown_lower g1 hb9) hrow
     subst e9
     have hgx : wr.heap.size ≤ gx := by have h1 := (g1.lt gx rfl).1; have := BW.size; omega
     have BN := BB.grown g2 hb9 (fun _ e => by cases e)
     have hS2 := jsh_grown hs g2
     have f9 : v_4.frozen? ⟨gs, 1, none⟩ = false := by
      have := hS2.box.blk
      simp [World.frozen?, this]
     have hS3 := jsh_sx (v' := .slice (some ⟨gx, 0, none⟩) 1 cx) hS2 hnl hst nol_slice hsp
     have hX3 : JX (v_4.setCell ⟨gs, 1, none⟩ (.slice (some ⟨gx, 0, none⟩) 1 cx)) w0.heap.size gx (.slice (some ⟨gv, 0, none⟩) 1 1) [R] := jx_far jx hS2 hst nol_slice hsp
     rw [if_pos (by rfl)]
     unfold Oper.wp execOp
     simp only [List.getElem_toArray, List.getElem_cons_succ, List.getElem_cons_zero, resolve, invoke, builtin, Sem.run_bind, Sem.run_pure, Result.andThen_ok, List.map_toArray, List.map_cons, List.map_nil]
     change Oper.upon _ _ _ _ _ ((Sem.run _ (Builtin.append_ _ _ #[.slice none 0 0, .slice (some ⟨gw, 0, none⟩) 1 1]) _).andThen _)
     rw [hr']
     go_simp
     replace s1 := g2.cell s1 (by simp)
     replace d0 := g2.cell d0 (by simp)
     replace d1 := g2.cell d1 (by simp)
     replace d2 := g2.cell d2 (by simp)
     replace d3 := g2.cell d3 (by simp)
     replace d4 := g2.cell d4 (by simp)
     replace d5 := g2.cell d5 (by simp)
     clear hr' g1 g2 g3 hs hrow xv xw g5 g6 xd BB jx
     refine hK.out _ _ (by exact ⟨d0, d1, d2, d3, d4, d5⟩) (fun hHeldn4 => ?_)
     clear hK K hHeldn3
     try simp only [Act.put]
     refine tl 9 ?_
     refine tl 10 ?_
     refine rdy 11 fun K hK => ?_
     go_simp
     have BB := BN.setCell (p := ⟨gs, 1, none⟩) hlo (.slice (some ⟨gx, 0, none⟩) 1 cx)
     have s1' : (v_4.setCell ⟨gs, 1, none⟩ (.slice (some ⟨gx, 0, none⟩) 1 cx)).cell? ⟨gs, 1, none⟩ = some (.slice (some ⟨gx, 0, none⟩) 1 cx) := hS3.box.at 1
     replace d0 := cell_oth d0 (show gz ≠ gs by omega) 1 (.slice (some ⟨gx, 0, none⟩) 1 cx)
     replace d1 := cell_oth d1 (show gz ≠ gs by omega) 1 (.slice (some ⟨gx, 0, none⟩) 1 cx)
     replace d2 := cell_oth d2 (show gz ≠ gs by omega) 1 (.slice (some ⟨gx, 0, none⟩) 1 cx)
     replace d3 := cell_oth d3 (show gz ≠ gs by omega) 1 (.slice (some ⟨gx, 0, none⟩) 1 cx)
     replace d4 := cell_oth d4 (show gz ≠ gs by omega) 1 (.slice (some ⟨gx, 0, none⟩) 1 cx)
     replace d5 := cell_oth d5 (show gz ≠ gs by omega) 1 (.slice (some ⟨gx, 0, none⟩) 1 cx)
     refine hK.out _ _ (by exact ⟨d0, d1, d2, d3, d4, d5⟩) (fun hHeldn5 => ?_)
     clear hK K hHeldn4
     try simp only [Act.put]
     refine wpAnyH_done (by kernel_rfl) ?_ _
     go_wp2
     go_roundg (gk - 1)
     case measure => have := HG.out; omega
     case rel => exact ⟨1, by have := HG.out; omega, rfl, fun h => absurd h (by decide), fun _ => ⟨⟨gx, cx, _, hX3, hS3, hgx, fun k hk => by injection hk with hk; subst hk; exact hgv⟩, BB⟩⟩
    ·go_simp
     have b := below_alloc we (.cells #[.bool R.lo.s, .slice A5 n5 c5, .int .i64 R.lo.e, .bool R.hi.s, .slice A6 n6 c6, .int .i64 R.hi.e] 29)
     have xv := Ibx.new we R.lo.s A5 n5 c5 R.lo.e R.hi.s A6 n6 c6 R.hi.e
     have hgv : wr.heap.size ≤ we.heap.size := BW.size
     replace BB := below_next BB BB.size b (by rfl) (by rfl) (by rfl) (by rfl)
     replace BW := below_next BW BW.size b (by rfl) (by rfl) (by rfl) (by rfl)
     have G := mv b (by rfl) <| And.intro hs <| And.intro xd <| And.intro g5 <| And.intro g6 <| And.intro s1 <| And.intro d0 <| And.intro d1 <| And.intro d2 <| And.intro d3 <| And.intro d4 <| d5
     clear hs xd g5 g6 s1 d0 d1 d2 d3 d4 d5
     obtain ⟨hs, xd, g5, g6, s1, d0, d1, d2, d3, d4, d5⟩ := G
     clear b
     generalize we.alloc (.cells #[.bool R.lo.s, .slice A5 n5 c5, .int .i64 R.lo.e, .bool R.hi.s, .slice A6 n6 c6, .int .i64 R.hi.e] 29) = v_1 at *
     generalize hgvv : we.heap.size = gv at xv hgv ⊢
     refine hK.out _ _ (by exact ⟨d0, d1, d2, d3, d4, d5⟩) (fun hHeldn1 => ?_)
     clear hK K hHeldn0
     try simp only [Act.put]
     refine wpAnyH_ready (rs := [4, 7]) (by kernel_rfl) (by simp) ?_
     refine AllReadyH.cons (o := _) rfl (fun K hK => ?_) (AllReadyH.cons (o := _) rfl (fun K hK => ?_) (AllReadyH.nil))
     ·go_simp
      refine hK.out _ _ (by exact ⟨d0, d1, d2, d3, d4, d5⟩) (fun hHeldn2 => ?_)
      clear hK K hHeldn1
      try simp only [Act.put]
      refine rdy 7 fun K hK => ?_
      go_simp
      have b := below_alloc v_1 (.cells #[.slice (some ⟨gv, 0, none⟩) 1 1] 40)
      have xw := Blk.new v_1 #[.slice (some ⟨gv, 0, none⟩) 1 1] 40
      replace BB := below_next BB BB.size b (by rfl) (by rfl) (by rfl) (by rfl)
      replace BW := below_next BW BW.size b (by rfl) (by rfl) (by rfl) (by rfl)
      have G := mv b (by rfl) <| And.intro hs <| And.intro xd <| And.intro g5 <| And.intro g6 <| And.intro s1 <| And.intro d0 <| And.intro d1 <| And.intro d2 <| And.intro d3 <| And.intro d4 <| And.intro d5 <| xv
      clear hs xd g5 g6 s1 d0 d1 d2 d3 d4 d5 xv
      obtain ⟨hs, xd, g5, g6, s1, d0, d1, d2, d3, d4, d5, xv⟩ := G
      clear b
      generalize v_1.alloc (.cells #[.slice (some ⟨gv, 0, none⟩) 1 1] 40) = v_3 at *
      generalize hgww : v_1.heap.size = gw at xw ⊢
      refine hK.out _ _ (by exact ⟨d0, d1, d2, d3, d4, d5⟩) (fun hHeldn3 => ?_)
      clear hK K hHeldn2
      try simp only [Act.put]
      refine rdy 8 fun K hK => ?_
      have hrow : IRow v_3 w0.heap.size (.slice (some ⟨gv, 0, none⟩) 1 1) [R] := irow_new xv g5 g6 (by have := HB.size; omega)
      have w0c : v_3.cell? ⟨gw, 0, none⟩ = some (.slice (some ⟨gv, 0, none⟩) 1 1) := xw.at 0
      have hb9 : w0.heap.size ≤ v_3.heap.size := BB.size
      obtain ⟨v', v_4, hr', g1, g2, g3⟩ := app0_run 36 (base := v_3.heap.size) w0c rfl nol_slice (Nat.le_refl _)
      replace hrow := hrow.grown g2 (fun k _ e => by cases e) (fun k e => by cases e)
      obtain ⟨gx, cx, e9, jx⟩ := jx_new (rown_lower g1 hb9) hrow
      subst e9
      have hgx : wr.heap.size ≤ gx := by have h1 := (g1.lt gx rfl).1; have := BW.size; omega
      have BN := BB.grown g2 hb9 (fun _ e => by cases e)
      have hS2 := jsh_grown hs g2
      have f9 : v_4.frozen? ⟨gs, 1, none⟩ = false := by
       have := hS2.box.blk
       simp [World.frozen?, this]
      have hS3 := jsh_sx (v' := .slice (some ⟨gx, 0, none⟩) 1 cx) hS2 hnl hst nol_slice hsp
      have hX3 : JX (v_4.setCell ⟨gs, 1, none⟩ (.slice (some ⟨gx, 0, none⟩) 1 cx)) w0.heap.size gx (.slice (some ⟨gv, 0, none⟩) 1 1) [R] := jx_far jx hS2 hst nol_slice hsp
      rw [if_pos (by rfl)]
      unfold Oper.wp execOp
      simp only [List.getElem_toArray, List.getElem_cons_succ, List.getElem_cons_zero, resolve, invoke, builtin, Sem.run_bind, Sem.run_pure, Result.andThen_ok, List.map_toArray, List.map_cons, List.map_nil]
      change Oper.upon _ _ _ _ _ ((Sem.run _ (Builtin.append_ _ _ #[.slice none 0 0, .slice (some ⟨gw, 0, none⟩) 1 1]) _).andThen _)
      rw [hr']
      go_simp
      replace s1 := g2.cell s1 (by simp)
      replace d0 := g2.cell d0 (by simp)
      replace d1 := g2.cell d1 (by simp)
      replace d2 := g2.cell d2 (by simp)
      replace d3 := g2.cell d3 (by simp)
      replace d4 := g2.cell d4 (by simp)
      replace d5 := g2.cell d5 (by simp)
      clear hr' g1 g2 g3 hs hrow xv xw g5 g6 xd BB jx
      refine hK.out _ _ (by exact ⟨d0, d1, d2, d3, d4, d5⟩) (fun hHeldn4 => ?_)
      clear hK K hHeldn3
      try simp only [Act.put]
      refine tl 9 ?_
      refine tl 10 ?_
      refine rdy 11 fun K hK => ?_
      go_simp
      have BB := BN.setCell (p := ⟨gs, 1, none⟩) hlo (.slice (some ⟨gx, 0, none⟩) 1 cx)
      have s1' : (v_4.setCell ⟨gs, 1, none⟩ (.slice (some ⟨gx, 0, none⟩) 1 cx)).cell? ⟨gs, 1, none⟩ = some (.slice (some ⟨gx, 0, none⟩) 1 cx) := hS3.box.at 1
      replace d0 := cell_oth d0 (show gz ≠ gs by omega) 1 (.slice (some ⟨gx, 0, none⟩) 1 cx)
      replace d1 := cell_oth d1 (show gz ≠ gs by omega) 1 (.slice (some ⟨gx, 0, none⟩) 1 cx)
      replace d2 := cell_oth d2 (show gz ≠ gs by omega) 1 (.slice (some ⟨gx, 0, none⟩) 1 cx)
      replace d3 := cell_oth d3 (show gz ≠ gs by omega) 1 (.slice (some ⟨gx, 0, none⟩) 1 cx)
      replace d4 := cell_oth d4 (show gz ≠ gs by omega) 1 (.slice (some ⟨gx, 0, none⟩) 1 cx)
      replace d5 := cell_oth d5 (show gz ≠ gs by omega) 1 (.slice (some ⟨gx, 0, none⟩) 1 cx)
      refine hK.out _ _ (by exact ⟨d0, d1, d2, d3, d4, d5⟩) (fun hHeldn5 => ?_)
      clear hK K hHeldn4
      try simp only [Act.put]
      refine wpAnyH_done (by kernel_rfl) ?_ _
      go_wp2
      go_roundg (gk - 1)
      case measure => have := HG.out; omega
      case rel => exact ⟨1, by have := HG.out; omega, rfl, fun h => absurd h (by decide), fun _ => ⟨⟨gx, cx, _, hX3, hS3, hgx, fun k hk => by injection hk with hk; subst hk; exact hgv⟩, BB⟩⟩
     ·go_simp
      have b := below_alloc v_1 (.cells #[.slice (some ⟨gv, 0, none⟩) 1 1] 40)
      have xw := Blk.new v_1 #[.slice (some ⟨gv, 0, none⟩) 1 1] 40
      replace BB := below_next BB BB.size b (by rfl) (by rfl) (by rfl) (by rfl)
      replace BW := below_next BW BW.size b (by rfl) (by rfl) (by rfl) (by rfl)
      have G := mv b (by rfl) <| And.intro hs <| And.intro xd <| And.intro g5 <| And.intro g6 <| And.intro s1 <| And.intro d0 <| And.intro d1 <| And.intro d2 <| And.intro d3 <| And.intro d4 <| And.intro d5 <| xv
      clear hs xd g5 g6 s1 d0 d1 d2 d3 d4 d5 xv
      obtain ⟨hs, xd, g5, g6, s1, d0, d1, d2, d3, d4, d5, xv⟩ := G
      clear b
      generalize v_1.alloc (.cells #[.slice (some ⟨gv, 0, none⟩) 1 1] 40) = v_2 at *
      generalize hgww : v_1.heap.size = gw at xw ⊢
      refine hK.out _ _ (by exact ⟨d0, d1, d2, d3, d4, d5⟩) (fun hHeldn2 => ?_)
      clear hK K hHeldn1
      try simp only [Act.put]
      refine rdy 4 fun K hK => ?_
      go_simp
      refine hK.out _ _ (by exact ⟨d0, d1, d2, d3, d4, d5⟩) (fun hHeldn3 => ?_)
      clear hK K hHeldn2
      try simp only [Act.put]
      refine rdy 8 fun K hK => ?_
      have hrow : IRow v_2 w0.heap.size (.slice (some ⟨gv, 0, none⟩) 1 1) [R] := irow_new xv g5 g6 (by have := HB.size; omega)
      have w0c : v_2.cell? ⟨gw, 0, none⟩ = some (.slice (some ⟨gv, 0, none⟩) 1 1) := xw.at 0
      have hb9 : w0.heap.size ≤ v_2.heap.size := BB.size
      obtain ⟨v', v_4, hr', g1, g2, g3⟩ := app0_run 36 (base := v_2.heap.size) w0c rfl nol_slice (Nat.le_refl _)
      replace hrow := hrow.grown g2 (fun k _ e => by cases e) (fun k e => by cases e)
      obtain ⟨gx, cx, e9, jx⟩ := jx_new (rown_lower g1 hb9) hrow
      subst e9
      have hgx : wr.heap.size ≤ gx := by have h1 := (g1.lt gx rfl).1; have := BW.size; omega
      have BN := BB.grown g2 hb9 (fun _ e => by cases e)
      have hS2 := jsh_grown hs g2
      have f9 : v_4.frozen? ⟨gs, 1, none⟩ = false := by
       have := hS2.box.blk
       simp [World.frozen?, this]
      have hS3 := jsh_sx (v' := .slice (some ⟨gx, 0, none⟩) 1 cx) hS2 hnl hst nol_slice hsp
      have hX3 : JX (v_4.setCell ⟨gs, 1, none⟩ (.slice (some ⟨gx, 0, none⟩) 1 cx)) w0.heap.size gx (.slice (some ⟨gv, 0, none⟩) 1 1) [R] := jx_far jx hS2 hst nol_slice hsp
      rw [if_pos (by rfl)]
      unfold Oper.wp execOp
      simp only [List.getElem_toArray, List.getElem_cons_succ, List.getElem_cons_zero, resolve, invoke, builtin, Sem.run_bind, Sem.run_pure, Result.andThen_ok, List.map_toArray, List.map_cons, List.map_nil]
      change Oper.upon _ _ _ _ _ ((Sem.run _ (Builtin.append_ _ _ #[.slice none 0 0, .slice (some ⟨gw, 0, none⟩) 1 1]) _).andThen _)
      rw [hr']
      go_simp
      replace s1 := g2.cell s1 (by simp)
      replace d0 := g2.cell d0 (by simp)
      replace d1 := g2.cell d1 (by simp)
      replace d2 := g2.cell d2 (by simp)
      replace d3 := g2.cell d3 (by simp)
      replace d4 := g2.cell d4 (by simp)
      replace d5 := g2.cell d5 (by simp)
      clear hr' g1 g2 g3 hs hrow xv xw g5 g6 xd BB jx
      refine hK.out _ _ (by exact ⟨d0, d1, d2, d3, d4, d5⟩) (fun hHeldn4 => ?_)
      clear hK K hHeldn3
      try simp only [Act.put]
      refine tl 9 ?_
      refine tl 10 ?_
      refine rdy 11 fun K hK => ?_
      go_simp
      have BB := BN.setCell (p := ⟨gs, 1, none⟩) hlo (.slice (some ⟨gx, 0, none⟩) 1 cx)
      have s1' : (v_4.setCell ⟨gs, 1, none⟩ (.slice (some ⟨gx, 0, none⟩) 1 cx)).cell? ⟨gs, 1, none⟩ = some (.slice (some ⟨gx, 0, none⟩) 1 cx) := hS3.box.at 1
      replace d0 := cell_oth d0 (show gz ≠ gs by omega) 1 (.slice (some ⟨gx, 0, none⟩) 1 cx)
      replace d1 := cell_oth d1 (show gz ≠ gs by omega) 1 (.slice (some ⟨gx, 0, none⟩) 1 cx)
      replace d2 := cell_oth d2 (show gz ≠ gs by omega) 1 (.slice (some ⟨gx, 0, none⟩) 1 cx)
      replace d3 := cell_oth d3 (show gz ≠ gs by omega) 1 (.slice (some ⟨gx, 0, none⟩) 1 cx)
      replace d4 := cell_oth d4 (show gz ≠ gs by omega) 1 (.slice (some ⟨gx, 0, none⟩) 1 cx)
      replace d5 := cell_oth d5 (show gz ≠ gs by omega) 1 (.slice (some ⟨gx, 0, none⟩) 1 cx)
      refine hK.out _ _ (by exact ⟨d0, d1, d2, d3, d4, d5⟩) (fun hHeldn5 => ?_)
      clear hK K hHeldn4
      try simp only [Act.put]
      refine wpAnyH_done (by kernel_rfl) ?_ _
      go_wp2
      go_roundg (gk - 1)
      case measure => have := HG.out; omega
      case rel => exact ⟨1, by have := HG.out; omega, rfl, fun h => absurd h (by decide), fun _ => ⟨⟨gx, cx, _, hX3, hS3, hgx, fun k hk => by injection hk with hk; subst hk; exact hgv⟩, BB⟩⟩)
  ·have hi1 : i = 1 := by have := HG.out; omega
   subst hi1
   obtain ⟨hx2, hb2⟩ := hnz (by decide)
   go_wp2
   exact bodyPost_ret (v := .int .i64 0) (by simp [results, Tryz.results20, go_sem]) rfl ⟨rfl, hx2, hb2⟩

end Go.Proofs.YteagjlcmgiknmaaGreatDoor
