/-
 Contract of jet's Solve for one state, where all is told, at this translation. Condition: the slices read as limbs, the table of math/bits reads as its text lays it.
-/
import Derived.StillTailTactics
import Derived.Deep.CutBlock
import Derived.Test.YteagjlcmgiknmaaGreatDoorQJo
import Derived.Test.YteagjlcmgiknmaaGreatDoorQGb
import Derived.Test.YteagjlcmgiknmaaGreatDoorQJj
set_option maxHeartbeats 8000000
set_option maxRecDepth 100000
namespace Go.Proofs.YteagjlcmgiknmaaGreatDoor
open Go.RowKit

theorem jsolve_ok (S : Sc) {w : World} {nl k ln cL cO cX : Nat} {p : Int} {AL AO AX : Option Addr} {L : Nat → Ln} {O : Nat → Int} {t : Iv} {X : Nat → Iv} {c0 : Iv} {A1 : Option Addr} {n1 c1 : Nat} {A2 : Option Addr} {n2 c2 : Nat} {P : Nat → Nat → (Nat → List Iv) → List Iv → Prop} (hT : Tab w) (hL : RdL w AL nl cL L) (hO : RdZ w AO 1 cO O) (hO0 : O 0 = (ln : Int)) (hln : ln < nl) (hnl : nl ≤ 100) (h1 : Rd w .u64 Go.Proofs.YteagjlcmgiknmaaGreatDoor.W A1 n1 c1 t.lo.l) (h2 : Rd w .u64 Go.Proofs.YteagjlcmgiknmaaGreatDoor.W A2 n2 c2 t.hi.l) (hX : RdS w AX 1 cX X) (hmt : mayI S.K t = true) (hmx : mayI S.K (X 0) = true) (hmT : mayT S.K ⟨nl, L, 1, O⟩ 1 0 0 = true) (hk : k ≤ 12) (hp : 1 ≤ p ∧ p ≤ 300) (hc : rouI S (X 0) p = .ok c0) (hP0 : P 0 0 (fun _ => []) [c0]) (hPl : Plan S nl k ln p L P) :
  Calls Tryz.prog 6 #[.agg #[.slice AL nl cL, .slice AO 1 cO], .agg #[.bool t.lo.s, .slice A1 n1 c1, .int .i64 t.lo.e, .bool t.hi.s, .slice A2 n2 c2, .int .i64 t.hi.e], .slice AX 1 cX, .slice none 0 0, .int .i64 (k : Int), .int .i64 p] w (fun en w' => ∃ (gx cx : Nat) (vx : Value) (LX : List Iv) (Q : Nat → List Iv), en = .returned (.tuple #[.slice (some ⟨gx, 0, none⟩) 1 cx, .int .i64 0]) ∧ JX w' w.heap.size gx vx LX ∧ P k 0 Q LX ∧ Below w.heap.size w w') := by
 have HmT := Lib.hid hmT
 have Hmt := Lib.hid hmt
 have Hmx := Lib.hid hmx
 have Hc := Lib.hid hc
 have HP0 := Lib.hid hP0
 have HPl := Lib.hid hPl
 have HO0 := Lib.hid hO0
 clear hmT hmt hmx hc hP0 hPl hO0
 have hp1 := hp.1
 have hp2 := hp.2
 have hk0 : (0 : Int) ≤ k := by omega
 have hk1 : (k : Int) ≤ 12 := by omega
 have hw1 : IntKind.i64.wrap ((k : Int) + 1) = (k : Int) + 1 := IntWalk.i64_in _ (by omega)
 have hnl0 : (0 : Int) ≤ nl := by omega
 have hnl1 : (nl : Int) ≤ 100 := by omega
 obtain ⟨y, hy⟩ : ∃ y : Iv, y = ⟨wQ 1, wQ 1⟩ := ⟨_, rfl⟩
 have HW : ∀ W : World, Tab W → Calls Tryz.prog 19 #[.int .i64 1] W (GivI y W) := fun W h => by
  have h2 := jwhole_ok (n := 1) h (by omega) (by omega)
  rw [← hy] at h2
  exact h2
 clear hy
 have BB := two_below w (.cells #[.slice AL nl cL, .slice AO 1 cO] 35) (.cells #[.bool t.lo.s, .slice A1 n1 c1, .int .i64 t.lo.e, .bool t.hi.s, .slice A2 n2 c2, .int .i64 t.hi.e] 29)
 have xt := mv (below_alloc (w.alloc (.cells #[.slice AL nl cL, .slice AO 1 cO] 35)) (.cells #[.bool t.lo.s, .slice A1 n1 c1, .int .i64 t.lo.e, .bool t.hi.s, .slice A2 n2 c2, .int .i64 t.hi.e] 29)) rfl (Blk.new w #[.slice AL nl cL, .slice AO 1 cO] 35)
 have xi := Ibx.new (w.alloc (.cells #[.slice AL nl cL, .slice AO 1 cO] 35)) t.lo.s A1 n1 c1 t.lo.e t.hi.s A2 n2 c2 t.hi.e
 rw [show (w.alloc (.cells #[.slice AL nl cL, .slice AO 1 cO] 35)).heap.size = w.heap.size + 1 by simp] at xi
 have p0 : World.cell? _ ⟨_, 0, none⟩ = some (.slice AL nl cL) := xt.at 0
 have p1 : World.cell? _ ⟨_, 1, none⟩ = some (.slice AO 1 cO) := xt.at 1
 obtain ⟨m0, m1, m2, m3, m4, m5⟩ := xi.held
 clear xt xi
 have G := mv BB rfl <| And.intro hT <| And.intro hL <| And.intro hO <| And.intro h1 <| And.intro h2 hX
 clear hT hL hO h1 h2 hX
 obtain ⟨hT, hL, hO, h1, h2, hX⟩ := G
 go_enter Tryz.func6, Tryz.ntmps6
 go_wp2
 go_step3
 generalize (w.alloc (.cells #[.slice AL nl cL, .slice AO 1 cO] 35)).alloc (.cells #[.bool t.lo.s, .slice A1 n1 c1, .int .i64 t.lo.e, .bool t.hi.s, .slice A2 n2 c2, .int .i64 t.hi.e] 29) = W1 at *
 go_wp2_with fail
 refine (jsizes_yes (w := W1) (k := (k : Int)) (p := p) ⟨by omega, by omega, by omega, by omega⟩).mono ?_
 rintro en w2 ⟨rfl, b⟩
 replace BB := bnx BB b
 have G := mv b (by rfl) <| And.intro hT <| And.intro hL <| And.intro hO <| And.intro h1 <| And.intro h2 <| And.intro hX <| And.intro p0 <| And.intro p1 <| And.intro m0 <| And.intro m1 <| And.intro m2 <| And.intro m3 <| And.intro m4 <| m5
 clear hT hL hO h1 h2 hX p0 p1 m0 m1 m2 m3 m4 m5
 obtain ⟨hT, hL, hO, h1, h2, hX, p0, p1, m0, m1, m2, m3, m4, m5⟩ := G
 clear b
 go_wp2_with fail
 refine (show Calls _ _ _ _ (Bools true _) from by have h := tmay_any (K := S.K) (x := 1) (u := 0) (p := 0) S.big hT hL hO; rw [HmT.out] at h; exact h).mono ?_
 rintro en w3 ⟨rfl, b⟩
 replace BB := bnx BB b
 have G := mv b (by rfl) <| And.intro hT <| And.intro hL <| And.intro hO <| And.intro h1 <| And.intro h2 <| And.intro hX <| And.intro p0 <| And.intro p1 <| And.intro m0 <| And.intro m1 <| And.intro m2 <| And.intro m3 <| And.intro m4 <| m5
 clear hT hL hO h1 h2 hX p0 p1 m0 m1 m2 m3 m4 m5
 obtain ⟨hT, hL, hO, h1, h2, hX, p0, p1, m0, m1, m2, m3, m4, m5⟩ := G
 clear b
 go_wp2_with fail
 have b := two_below w3 (.cells #[.bool t.lo.s, .slice A1 n1 c1, .int .i64 t.lo.e, .bool t.hi.s, .slice A2 n2 c2, .int .i64 t.hi.e] 29) (.cells #[.slice (some ⟨w3.heap.size, 0, none⟩) 1 1, .slice AX 1 cX, .slice none 0 0] 40)
 have xb := mv (below_alloc (w3.alloc (.cells #[.bool t.lo.s, .slice A1 n1 c1, .int .i64 t.lo.e, .bool t.hi.s, .slice A2 n2 c2, .int .i64 t.hi.e] 29)) (.cells #[.slice (some ⟨w3.heap.size, 0, none⟩) 1 1, .slice AX 1 cX, .slice none 0 0] 40)) rfl (Ibx.new w3 t.lo.s A1 n1 c1 t.lo.e t.hi.s A2 n2 c2 t.hi.e)
 have xc : Blk ((w3.alloc (.cells #[.bool t.lo.s, .slice A1 n1 c1, .int .i64 t.lo.e, .bool t.hi.s, .slice A2 n2 c2, .int .i64 t.hi.e] 29)).alloc (.cells #[.slice (some ⟨w3.heap.size, 0, none⟩) 1 1, .slice AX 1 cX, .slice none 0 0] 40)) (w3.heap.size + 1) #[.slice (some ⟨w3.heap.size, 0, none⟩) 1 1, .slice AX 1 cX, .slice none 0 0] 40 := by have := Blk.new (w3.alloc (.cells #[.bool t.lo.s, .slice A1 n1 c1, .int .i64 t.lo.e, .bool t.hi.s, .slice A2 n2 c2, .int .i64 t.hi.e] 29)) #[.slice (some ⟨w3.heap.size, 0, none⟩) 1 1, .slice AX 1 cX, .slice none 0 0] 40; simpa using this
 replace BB := bnx BB b
 have G := mv b (by rfl) <| And.intro hT <| And.intro hL <| And.intro hO <| And.intro h1 <| And.intro h2 <| And.intro hX <| And.intro p0 <| And.intro p1 <| And.intro m0 <| And.intro m1 <| And.intro m2 <| And.intro m3 <| And.intro m4 <| m5
 clear hT hL hO h1 h2 hX p0 p1 m0 m1 m2 m3 m4 m5
 obtain ⟨hT, hL, hO, h1, h2, hX, p0, p1, m0, m1, m2, m3, m4, m5⟩ := G
 clear b
 generalize (w3.alloc (.cells #[.bool t.lo.s, .slice A1 n1 c1, .int .i64 t.lo.e, .bool t.hi.s, .slice A2 n2 c2, .int .i64 t.hi.e] 29)).alloc (.cells #[.slice (some ⟨w3.heap.size, 0, none⟩) 1 1, .slice AX 1 cX, .slice none 0 0] 40) = W4 at *
 generalize w3.heap.size = g3 at *
 have HS : ∀ i, i < 3 → W4.cell? ⟨g3 + 1, 0 + i, none⟩ = some (.slice (if i = 0 then some ⟨g3, 0, none⟩ else if i = 1 then AX else none) (if i = 0 then 1 else if i = 1 then 1 else 0) (if i = 0 then 1 else if i = 1 then cX else 0)) ∧ RdS W4 (if i = 0 then some ⟨g3, 0, none⟩ else if i = 1 then AX else none) (if i = 0 then 1 else if i = 1 then 1 else 0) (if i = 0 then 1 else if i = 1 then cX else 0) (if i = 0 then (fun _ => t) else X) := fun i hi => by
  match i, hi with
  | 0, _ => exact ⟨xc.at 0, rds_one xb h1 h2⟩
  | 1, _ => exact ⟨xc.at 1, hX⟩
  | 2, _ => exact ⟨xc.at 2, rds_nil _ _⟩
 refine (jconcat_ok (A := fun i => if i = 0 then some ⟨g3, 0, none⟩ else if i = 1 then AX else none) (n := fun i => if i = 0 then 1 else if i = 1 then 1 else 0) (c := fun i => if i = 0 then 1 else if i = 1 then cX else 0) (X := fun i => if i = 0 then (fun _ => t) else X) HS (by omega) (by decide) (by decide)).mono ?_
 rintro en w5 ⟨v, rfl, hv, b⟩
 clear HS xb xc
 replace BB := bnx BB b
 have G := mv b (by rfl) <| And.intro hT <| And.intro hL <| And.intro hO <| And.intro h1 <| And.intro h2 <| And.intro hX <| And.intro p0 <| And.intro p1 <| And.intro m0 <| And.intro m1 <| And.intro m2 <| And.intro m3 <| And.intro m4 <| m5
 clear hT hL hO h1 h2 hX p0 p1 m0 m1 m2 m3 m4 m5
 obtain ⟨hT, hL, hO, h1, h2, hX, p0, p1, m0, m1, m2, m3, m4, m5⟩ := G
 clear b
 have hv2 : IRow w5 W4.heap.size v [t, X 0] := hv
 clear hv
 obtain ⟨Av, cv, rfl, hvS, _⟩ := hv2.form
 clear hv2
 go_wp2_with fail
 refine (jmayrow_ok (K := S.K) S.big hT hvS (by simp) (fun i hi => by
  match i, hi with
  | 0, _ => exact Hmt.out
  | 1, _ => exact Hmx.out)).mono ?_
 rintro en w6 ⟨rfl, b⟩
 clear hvS
 replace BB := bnx BB b
 have G := mv b (by rfl) <| And.intro hT <| And.intro hL <| And.intro hO <| And.intro h1 <| And.intro h2 <| And.intro hX <| And.intro p0 <| And.intro p1 <| And.intro m0 <| And.intro m1 <| And.intro m2 <| And.intro m3 <| And.intro m4 <| m5
 clear hT hL hO h1 h2 hX p0 p1 m0 m1 m2 m3 m4 m5
 obtain ⟨hT, hL, hO, h1, h2, hX, p0, p1, m0, m1, m2, m3, m4, m5⟩ := G
 clear b
 go_upto_region 3 with fail
 go_cut [14] (fun v14 wc => ∃ (gs gr : Nat) (st : Value), v14 = .pointer (some ⟨gs, 0, none⟩) ∧ NoL st ∧ w6.heap.size ≤ gs ∧ JSh wc w6.heap.size gs gr nl st (.slice none 0 0) (.slice none 0 0) p (fun _ => .slice none 0 0) (fun _ => []) ∧ Below w6.heap.size w6 wc)
 case first =>
  rename_i j9 k9 ja kb
  rename_i zz0
  try clear zz0
  rename_i zz1
  try clear zz1
  rename_i zz2
  try clear zz2
  rename_i zz3
  try clear zz3
  have b : Below w6.heap.size w6 (World.drew w6) := below_drewN (Below.refl _ _) 1
  have BC := b
  replace BB := bnx BB b
  have G := mv b (by rfl) <| And.intro hT <| And.intro hL <| And.intro hO <| And.intro h1 <| And.intro h2 <| And.intro hX <| And.intro p0 <| And.intro p1 <| And.intro m0 <| And.intro m1 <| And.intro m2 <| And.intro m3 <| And.intro m4 <| m5
  clear hT hL hO h1 h2 hX p0 p1 m0 m1 m2 m3 m4 m5
  obtain ⟨hT, hL, hO, h1, h2, hX, p0, p1, m0, m1, m2, m3, m4, m5⟩ := G
  clear b
  refine wp_region_held_drew (S := fun w' => w'.cell? ⟨w.heap.size, 0, none⟩ = some (.slice AL nl cL) ∧ w'.cell? ⟨w.heap.size + 1, 0, none⟩ = some (.bool t.lo.s) ∧ w'.cell? ⟨w.heap.size + 1, 1, none⟩ = some (.slice A1 n1 c1) ∧ w'.cell? ⟨w.heap.size + 1, 2, none⟩ = some (.int .i64 t.lo.e) ∧ w'.cell? ⟨w.heap.size + 1, 3, none⟩ = some (.bool t.hi.s) ∧ w'.cell? ⟨w.heap.size + 1, 4, none⟩ = some (.slice A2 n2 c2) ∧ w'.cell? ⟨w.heap.size + 1, 5, none⟩ = some (.int .i64 t.hi.e)) (by kernel_rfl) (by exact ⟨p0, m0, m1, m2, m3, m4, m5⟩) (fun hHeldv0 => ?_)
  generalize World.drew w6 = wd at *
  have BD := Below.refl wd.heap.size wd
  refine tl 0 ?_
  refine tl 1 ?_
  refine tl 2 ?_
  refine tl 6 ?_
  refine tl 7 ?_
  refine tl 8 ?_
  refine tl 10 ?_
  refine wpAnyH_ready (rs := [3, 9, 12]) (by kernel_rfl) (by simp) ?_
  refine AllReadyH.cons (o := _) rfl (fun K hK => ?_) (AllReadyH.cons (o := _) rfl (fun K hK => ?_) (AllReadyH.cons (o := _) rfl (fun K hK => ?_) (AllReadyH.nil)))
  go_simp
  refine (HW _ (mv BD rfl hT)).mono ?_
  rintro en ub ⟨A3, n3, c3, A4, n4, c4, rfl, h3, h4, b⟩
  replace BD := below_next BD BD.size b rfl rfl rfl rfl
  clear b
  refine hK.out _ _ (by exact ⟨mv BD rfl p0, mv BD rfl m0, mv BD rfl m1, mv BD rfl m2, mv BD rfl m3, mv BD rfl m4, mv BD rfl m5⟩) (fun hHeldv1 => ?_)
  clear hK K hHeldv0
  try simp only [Act.put]
  refine wpAnyH_ready (rs := [4, 9, 12]) (by kernel_rfl) (by simp) ?_
  refine AllReadyH.cons (o := _) rfl (fun K hK => ?_) (AllReadyH.cons (o := _) rfl (fun K hK => ?_) (AllReadyH.cons (o := _) rfl (fun K hK => ?_) (AllReadyH.nil)))
  go_simp
  have b := below_alloc ub (.cells #[.bool t.lo.s, .slice A1 n1 c1, .int .i64 t.lo.e, .bool t.hi.s, .slice A2 n2 c2, .int .i64 t.hi.e, .bool y.lo.s, .slice A3 n3 c3, .int .i64 y.lo.e, .bool y.hi.s, .slice A4 n4 c4, .int .i64 y.hi.e] 29)
  have xy := Blk.new ub #[.bool t.lo.s, .slice A1 n1 c1, .int .i64 t.lo.e, .bool t.hi.s, .slice A2 n2 c2, .int .i64 t.hi.e, .bool y.lo.s, .slice A3 n3 c3, .int .i64 y.lo.e, .bool y.hi.s, .slice A4 n4 c4, .int .i64 y.hi.e] 29
  replace BD := below_next BD BD.size b rfl rfl rfl rfl
  have G := mv b (by rfl) <| And.intro h3 <| h4
  clear h3 h4
  obtain ⟨h3, h4⟩ := G
  clear b
  generalize ub.alloc (.cells #[.bool t.lo.s, .slice A1 n1 c1, .int .i64 t.lo.e, .bool t.hi.s, .slice A2 n2 c2, .int .i64 t.hi.e, .bool y.lo.s, .slice A3 n3 c3, .int .i64 y.lo.e, .bool y.hi.s, .slice A4 n4 c4, .int .i64 y.hi.e] 29) = uc at *
  generalize hgyy : ub.heap.size = gy at xy ⊢
  clear hgyy
  refine hK.out _ _ (by exact ⟨mv BD rfl p0, mv BD rfl m0, mv BD rfl m1, mv BD rfl m2, mv BD rfl m3, mv BD rfl m4, mv BD rfl m5⟩) (fun hHeldv2 => ?_)
  clear hK K hHeldv1
  try simp only [Act.put]
  refine wpAnyH_ready (rs := [5, 9, 12]) (by kernel_rfl) (by simp) ?_
  refine AllReadyH.cons (o := _) rfl (fun K hK => ?_) (AllReadyH.cons (o := _) rfl (fun K hK => ?_) (AllReadyH.cons (o := _) rfl (fun K hK => ?_) (AllReadyH.nil)))
  go_simp
  have hr2 := rds_two (x := t) (y := y) xy (mv BD rfl h1) (mv BD rfl h2) h3 h4
  refine (show Calls _ _ #[.int .i64 ((k : Int) + 1), _] _ _ from by have h := jseries_ok (n := k + 1) (by omega) hr2 (by decide); exact h).mono ?_
  rintro en ud ⟨gt, rfl, b⟩
  replace BD := below_next BD BD.size b rfl rfl rfl rfl
  clear hr2 h3 h4 xy
  clear b
  have hser := True.intro
  refine hK.out _ _ (by exact ⟨mv BD rfl p0, mv BD rfl m0, mv BD rfl m1, mv BD rfl m2, mv BD rfl m3, mv BD rfl m4, mv BD rfl m5⟩) (fun hHeldv3 => ?_)
  clear hK K hHeldv2
  try simp only [Act.put]
  refine wpAnyH_ready (rs := [9, 12]) (by kernel_rfl) (by simp) ?_
  refine AllReadyH.cons (o := _) rfl (fun K hK => ?_) (AllReadyH.cons (o := _) rfl (fun K hK => ?_) (AllReadyH.nil))
  go_simp
  obtain ⟨ue, hr', xrw, hg9⟩ := makeR_run ud (n := nl) w6.heap.size (by omega)
  rw [hr']
  go_simp
  have b := (Below.refl ud.heap.size ud).grown hg9 (Nat.le_refl _) (fun _ e => by cases e)
  have hgr : w6.heap.size ≤ ud.heap.size := by have := BC.size; have := BD.size; omega
  replace BD := below_next BD BD.size b rfl rfl rfl rfl
  clear b hg9 hr'
  generalize hgrr : ud.heap.size = gr at xrw hgr ⊢
  clear hgrr
  refine hK.out _ _ (by exact ⟨mv BD rfl p0, mv BD rfl m0, mv BD rfl m1, mv BD rfl m2, mv BD rfl m3, mv BD rfl m4, mv BD rfl m5⟩) (fun hHeldv4 => ?_)
  clear hK K hHeldv3
  try simp only [Act.put]
  refine tl 11 ?_
  refine rdy 12 fun K hK => ?_
  go_simp
  have hgs : wd.heap.size ≤ ue.heap.size := BD.size
  have b := below_alloc ue (.cells #[.slice none 0 0, .slice none 0 0, .slice none 0 0, .slice none 0 0, .int .i64 0] 56)
  have xz := Blk.new ue #[.slice none 0 0, .slice none 0 0, .slice none 0 0, .slice none 0 0, .int .i64 0] 56
  replace BD := below_next BD BD.size b rfl rfl rfl rfl
  replace xrw := mv b (by rfl) xrw
  clear b
  generalize ue.alloc (.cells #[.slice none 0 0, .slice none 0 0, .slice none 0 0, .slice none 0 0, .int .i64 0] 56) = uf at *
  generalize hgzz : ue.heap.size = gz at xz ⊢
  have hgz : wd.heap.size ≤ gz := by omega
  clear hgzz hgs
  refine hK.out _ _ (by exact ⟨mv BD rfl p0, mv BD rfl m0, mv BD rfl m1, mv BD rfl m2, mv BD rfl m3, mv BD rfl m4, mv BD rfl m5⟩) (fun hHeldv5 => ?_)
  clear hK K hHeldv4
  try simp only [Act.put]
  rotate_left
  go_simp
  have hgs : wd.heap.size ≤ ud.heap.size := BD.size
  have b := below_alloc ud (.cells #[.slice none 0 0, .slice none 0 0, .slice none 0 0, .slice none 0 0, .int .i64 0] 56)
  have xz := Blk.new ud #[.slice none 0 0, .slice none 0 0, .slice none 0 0, .slice none 0 0, .int .i64 0] 56
  replace BD := below_next BD BD.size b rfl rfl rfl rfl
  clear b
  generalize ud.alloc (.cells #[.slice none 0 0, .slice none 0 0, .slice none 0 0, .slice none 0 0, .int .i64 0] 56) = ue at *
  generalize hgzz : ud.heap.size = gz at xz ⊢
  have hgz : wd.heap.size ≤ gz := by omega
  clear hgzz hgs
  refine hK.out _ _ (by exact ⟨mv BD rfl p0, mv BD rfl m0, mv BD rfl m1, mv BD rfl m2, mv BD rfl m3, mv BD rfl m4, mv BD rfl m5⟩) (fun hHeldv4 => ?_)
  clear hK K hHeldv3
  try simp only [Act.put]
  refine rdy 9 fun K hK => ?_
  go_simp
  obtain ⟨uf, hr', xrw, hg9⟩ := makeR_run ue (n := nl) w6.heap.size (by omega)
  rw [hr']
  go_simp
  have b := (Below.refl ue.heap.size ue).grown hg9 (Nat.le_refl _) (fun _ e => by cases e)
  have hgr : w6.heap.size ≤ ue.heap.size := by have := BC.size; have := BD.size; omega
  replace BD := below_next BD BD.size b rfl rfl rfl rfl
  replace xz := mv b (by rfl) xz
  clear b hg9 hr'
  generalize hgrr : ue.heap.size = gr at xrw hgr ⊢
  clear hgrr
  refine hK.out _ _ (by exact ⟨mv BD rfl p0, mv BD rfl m0, mv BD rfl m1, mv BD rfl m2, mv BD rfl m3, mv BD rfl m4, mv BD rfl m5⟩) (fun hHeldv5 => ?_)
  clear hK K hHeldv4
  try simp only [Act.put]
  refine tl 11 ?_
  rotate_left
  go_simp
  obtain ⟨ud, hr', xrw, hg9⟩ := makeR_run uc (n := nl) w6.heap.size (by omega)
  rw [hr']
  go_simp
  have b := (Below.refl uc.heap.size uc).grown hg9 (Nat.le_refl _) (fun _ e => by cases e)
  have hgr : w6.heap.size ≤ uc.heap.size := by have := BC.size; have := BD.size; omega
  replace BD := below_next BD BD.size b rfl rfl rfl rfl
  have G := mv b (by rfl) <| And.intro h3 <| And.intro h4 <| xy
  clear h3 h4 xy
  obtain ⟨h3, h4, xy⟩ := G
  clear b hg9 hr'
  generalize hgrr : uc.heap.size = gr at xrw hgr ⊢
  clear hgrr
  refine hK.out _ _ (by exact ⟨mv BD rfl p0, mv BD rfl m0, mv BD rfl m1, mv BD rfl m2, mv BD rfl m3, mv BD rfl m4, mv BD rfl m5⟩) (fun hHeldv3 => ?_)
  clear hK K hHeldv2
  try simp only [Act.put]
  refine wpAnyH_ready (rs := [5, 12]) (by kernel_rfl) (by simp) ?_
  refine AllReadyH.cons (o := _) rfl (fun K hK => ?_) (AllReadyH.cons (o := _) rfl (fun K hK => ?_) (AllReadyH.nil))
  go_simp
  have hr2 := rds_two (x := t) (y := y) xy (mv BD rfl h1) (mv BD rfl h2) h3 h4
  refine (show Calls _ _ #[.int .i64 ((k : Int) + 1), _] _ _ from by have h := jseries_ok (n := k + 1) (by omega) hr2 (by decide); exact h).mono ?_
  rintro en ue ⟨gt, rfl, b⟩
  replace BD := below_next BD BD.size b rfl rfl rfl rfl
  clear hr2 h3 h4 xy
  replace xrw := mv b (by rfl) xrw
  clear b
  have hser := True.intro
  refine hK.out _ _ (by exact ⟨mv BD rfl p0, mv BD rfl m0, mv BD rfl m1, mv BD rfl m2, mv BD rfl m3, mv BD rfl m4, mv BD rfl m5⟩) (fun hHeldv4 => ?_)
  clear hK K hHeldv3
  try simp only [Act.put]
  refine tl 11 ?_
  refine rdy 12 fun K hK => ?_
  go_simp
  have hgs : wd.heap.size ≤ ue.heap.size := BD.size
  have b := below_alloc ue (.cells #[.slice none 0 0, .slice none 0 0, .slice none 0 0, .slice none 0 0, .int .i64 0] 56)
  have xz := Blk.new ue #[.slice none 0 0, .slice none 0 0, .slice none 0 0, .slice none 0 0, .int .i64 0] 56
  replace BD := below_next BD BD.size b rfl rfl rfl rfl
  replace xrw := mv b (by rfl) xrw
  clear b
  generalize ue.alloc (.cells #[.slice none 0 0, .slice none 0 0, .slice none 0 0, .slice none 0 0, .int .i64 0] 56) = uf at *
  generalize hgzz : ue.heap.size = gz at xz ⊢
  have hgz : wd.heap.size ≤ gz := by omega
  clear hgzz hgs
  refine hK.out _ _ (by exact ⟨mv BD rfl p0, mv BD rfl m0, mv BD rfl m1, mv BD rfl m2, mv BD rfl m3, mv BD rfl m4, mv BD rfl m5⟩) (fun hHeldv5 => ?_)
  clear hK K hHeldv4
  try simp only [Act.put]
  rotate_left
  go_simp
  have hgs : wd.heap.size ≤ ud.heap.size := BD.size
  have b := below_alloc ud (.cells #[.slice none 0 0, .slice none 0 0, .slice none 0 0, .slice none 0 0, .int .i64 0] 56)
  have xz := Blk.new ud #[.slice none 0 0, .slice none 0 0, .slice none 0 0, .slice none 0 0, .int .i64 0] 56
  replace BD := below_next BD BD.size b rfl rfl rfl rfl
  have G := mv b (by rfl) <| And.intro h3 <| And.intro h4 <| And.intro xrw <| xy
  clear h3 h4 xrw xy
  obtain ⟨h3, h4, xrw, xy⟩ := G
  clear b
  generalize ud.alloc (.cells #[.slice none 0 0, .slice none 0 0, .slice none 0 0, .slice none 0 0, .int .i64 0] 56) = ue at *
  generalize hgzz : ud.heap.size = gz at xz ⊢
  have hgz : wd.heap.size ≤ gz := by omega
  clear hgzz hgs
  refine hK.out _ _ (by exact ⟨mv BD rfl p0, mv BD rfl m0, mv BD rfl m1, mv BD rfl m2, mv BD rfl m3, mv BD rfl m4, mv BD rfl m5⟩) (fun hHeldv4 => ?_)
  clear hK K hHeldv3
  try simp only [Act.put]
  refine rdy 5 fun K hK => ?_
  go_simp
  have hr2 := rds_two (x := t) (y := y) xy (mv BD rfl h1) (mv BD rfl h2) h3 h4
  refine (show Calls _ _ #[.int .i64 ((k : Int) + 1), _] _ _ from by have h := jseries_ok (n := k + 1) (by omega) hr2 (by decide); exact h).mono ?_
  rintro en uf ⟨gt, rfl, b⟩
  replace BD := below_next BD BD.size b rfl rfl rfl rfl
  clear hr2 h3 h4 xy
  have G := mv b (by rfl) <| And.intro xrw <| xz
  clear xrw xz
  obtain ⟨xrw, xz⟩ := G
  clear b
  have hser := True.intro
  refine hK.out _ _ (by exact ⟨mv BD rfl p0, mv BD rfl m0, mv BD rfl m1, mv BD rfl m2, mv BD rfl m3, mv BD rfl m4, mv BD rfl m5⟩) (fun hHeldv5 => ?_)
  clear hK K hHeldv4
  try simp only [Act.put]
  refine tl 11 ?_
  rotate_left
  go_simp
  have hgs : wd.heap.size ≤ uc.heap.size := BD.size
  have b := below_alloc uc (.cells #[.slice none 0 0, .slice none 0 0, .slice none 0 0, .slice none 0 0, .int .i64 0] 56)
  have xz := Blk.new uc #[.slice none 0 0, .slice none 0 0, .slice none 0 0, .slice none 0 0, .int .i64 0] 56
  replace BD := below_next BD BD.size b rfl rfl rfl rfl
  have G := mv b (by rfl) <| And.intro h3 <| And.intro h4 <| xy
  clear h3 h4 xy
  obtain ⟨h3, h4, xy⟩ := G
  clear b
  generalize uc.alloc (.cells #[.slice none 0 0, .slice none 0 0, .slice none 0 0, .slice none 0 0, .int .i64 0] 56) = ud at *
  generalize hgzz : uc.heap.size = gz at xz ⊢
  have hgz : wd.heap.size ≤ gz := by omega
  clear hgzz hgs
  refine hK.out _ _ (by exact ⟨mv BD rfl p0, mv BD rfl m0, mv BD rfl m1, mv BD rfl m2, mv BD rfl m3, mv BD rfl m4, mv BD rfl m5⟩) (fun hHeldv3 => ?_)
  clear hK K hHeldv2
  try simp only [Act.put]
  refine wpAnyH_ready (rs := [5, 9]) (by kernel_rfl) (by simp) ?_
  refine AllReadyH.cons (o := _) rfl (fun K hK => ?_) (AllReadyH.cons (o := _) rfl (fun K hK => ?_) (AllReadyH.nil))
  go_simp
  have hr2 := rds_two (x := t) (y := y) xy (mv BD rfl h1) (mv BD rfl h2) h3 h4
  refine (show Calls _ _ #[.int .i64 ((k : Int) + 1), _] _ _ from by have h := jseries_ok (n := k + 1) (by omega) hr2 (by decide); exact h).mono ?_
  rintro en ue ⟨gt, rfl, b⟩
  replace BD := below_next BD BD.size b rfl rfl rfl rfl
  clear hr2 h3 h4 xy
  replace xz := mv b (by rfl) xz
  clear b
  have hser := True.intro
  refine hK.out _ _ (by exact ⟨mv BD rfl p0, mv BD rfl m0, mv BD rfl m1, mv BD rfl m2, mv BD rfl m3, mv BD rfl m4, mv BD rfl m5⟩) (fun hHeldv4 => ?_)
  clear hK K hHeldv3
  try simp only [Act.put]
  refine rdy 9 fun K hK => ?_
  go_simp
  obtain ⟨uf, hr', xrw, hg9⟩ := makeR_run ue (n := nl) w6.heap.size (by omega)
  rw [hr']
  go_simp
  have b := (Below.refl ue.heap.size ue).grown hg9 (Nat.le_refl _) (fun _ e => by cases e)
  have hgr : w6.heap.size ≤ ue.heap.size := by have := BC.size; have := BD.size; omega
  replace BD := below_next BD BD.size b rfl rfl rfl rfl
  replace xz := mv b (by rfl) xz
  clear b hg9 hr'
  generalize hgrr : ue.heap.size = gr at xrw hgr ⊢
  clear hgrr
  refine hK.out _ _ (by exact ⟨mv BD rfl p0, mv BD rfl m0, mv BD rfl m1, mv BD rfl m2, mv BD rfl m3, mv BD rfl m4, mv BD rfl m5⟩) (fun hHeldv5 => ?_)
  clear hK K hHeldv4
  try simp only [Act.put]
  refine tl 11 ?_
  rotate_left
  go_simp
  obtain ⟨ue, hr', xrw, hg9⟩ := makeR_run ud (n := nl) w6.heap.size (by omega)
  rw [hr']
  go_simp
  have b := (Below.refl ud.heap.size ud).grown hg9 (Nat.le_refl _) (fun _ e => by cases e)
  have hgr : w6.heap.size ≤ ud.heap.size := by have := BC.size; have := BD.size; omega
  replace BD := below_next BD BD.size b rfl rfl rfl rfl
  have G := mv b (by rfl) <| And.intro h3 <| And.intro h4 <| And.intro xy <| xz
  clear h3 h4 xy xz
  obtain ⟨h3, h4, xy, xz⟩ := G
  clear b hg9 hr'
  generalize hgrr : ud.heap.size = gr at xrw hgr ⊢
  clear hgrr
  refine hK.out _ _ (by exact ⟨mv BD rfl p0, mv BD rfl m0, mv BD rfl m1, mv BD rfl m2, mv BD rfl m3, mv BD rfl m4, mv BD rfl m5⟩) (fun hHeldv4 => ?_)
  clear hK K hHeldv3
  try simp only [Act.put]
  refine rdy 5 fun K hK => ?_
  go_simp
  have hr2 := rds_two (x := t) (y := y) xy (mv BD rfl h1) (mv BD rfl h2) h3 h4
  refine (show Calls _ _ #[.int .i64 ((k : Int) + 1), _] _ _ from by have h := jseries_ok (n := k + 1) (by omega) hr2 (by decide); exact h).mono ?_
  rintro en uf ⟨gt, rfl, b⟩
  replace BD := below_next BD BD.size b rfl rfl rfl rfl
  clear hr2 h3 h4 xy
  have G := mv b (by rfl) <| And.intro xrw <| xz
  clear xrw xz
  obtain ⟨xrw, xz⟩ := G
  clear b
  have hser := True.intro
  refine hK.out _ _ (by exact ⟨mv BD rfl p0, mv BD rfl m0, mv BD rfl m1, mv BD rfl m2, mv BD rfl m3, mv BD rfl m4, mv BD rfl m5⟩) (fun hHeldv5 => ?_)
  clear hK K hHeldv4
  try simp only [Act.put]
  refine tl 11 ?_
  rotate_left
  go_simp
  obtain ⟨uc, hr', xrw, hg9⟩ := makeR_run ub (n := nl) w6.heap.size (by omega)
  rw [hr']
  go_simp
  have b := (Below.refl ub.heap.size ub).grown hg9 (Nat.le_refl _) (fun _ e => by cases e)
  have hgr : w6.heap.size ≤ ub.heap.size := by have := BC.size; have := BD.size; omega
  replace BD := below_next BD BD.size b rfl rfl rfl rfl
  have G := mv b (by rfl) <| And.intro h3 <| h4
  clear h3 h4
  obtain ⟨h3, h4⟩ := G
  clear b hg9 hr'
  generalize hgrr : ub.heap.size = gr at xrw hgr ⊢
  clear hgrr
  refine hK.out _ _ (by exact ⟨mv BD rfl p0, mv BD rfl m0, mv BD rfl m1, mv BD rfl m2, mv BD rfl m3, mv BD rfl m4, mv BD rfl m5⟩) (fun hHeldv2 => ?_)
  clear hK K hHeldv1
  try simp only [Act.put]
  refine wpAnyH_ready (rs := [4, 12]) (by kernel_rfl) (by simp) ?_
  refine AllReadyH.cons (o := _) rfl (fun K hK => ?_) (AllReadyH.cons (o := _) rfl (fun K hK => ?_) (AllReadyH.nil))
  go_simp
  have b := below_alloc uc (.cells #[.bool t.lo.s, .slice A1 n1 c1, .int .i64 t.lo.e, .bool t.hi.s, .slice A2 n2 c2, .int .i64 t.hi.e, .bool y.lo.s, .slice A3 n3 c3, .int .i64 y.lo.e, .bool y.hi.s, .slice A4 n4 c4, .int .i64 y.hi.e] 29)
  have xy := Blk.new uc #[.bool t.lo.s, .slice A1 n1 c1, .int .i64 t.lo.e, .bool t.hi.s, .slice A2 n2 c2, .int .i64 t.hi.e, .bool y.lo.s, .slice A3 n3 c3, .int .i64 y.lo.e, .bool y.hi.s, .slice A4 n4 c4, .int .i64 y.hi.e] 29
  replace BD := below_next BD BD.size b rfl rfl rfl rfl
  have G := mv b (by rfl) <| And.intro h3 <| And.intro h4 <| xrw
  clear h3 h4 xrw
  obtain ⟨h3, h4, xrw⟩ := G
  clear b
  generalize uc.alloc (.cells #[.bool t.lo.s, .slice A1 n1 c1, .int .i64 t.lo.e, .bool t.hi.s, .slice A2 n2 c2, .int .i64 t.hi.e, .bool y.lo.s, .slice A3 n3 c3, .int .i64 y.lo.e, .bool y.hi.s, .slice A4 n4 c4, .int .i64 y.hi.e] 29) = ud at *
  generalize hgyy : uc.heap.size = gy at xy ⊢
  clear hgyy
  refine hK.out _ _ (by exact ⟨mv BD rfl p0, mv BD rfl m0, mv BD rfl m1, mv BD rfl m2, mv BD rfl m3, mv BD rfl m4, mv BD rfl m5⟩) (fun hHeldv3 => ?_)
  clear hK K hHeldv2
  try simp only [Act.put]
  refine wpAnyH_ready (rs := [5, 12]) (by kernel_rfl) (by simp) ?_
  refine AllReadyH.cons (o := _) rfl (fun K hK => ?_) (AllReadyH.cons (o := _) rfl (fun K hK => ?_) (AllReadyH.nil))
  go_simp
  have hr2 := rds_two (x := t) (y := y) xy (mv BD rfl h1) (mv BD rfl h2) h3 h4
  refine (show Calls _ _ #[.int .i64 ((k : Int) + 1), _] _ _ from by have h := jseries_ok (n := k + 1) (by omega) hr2 (by decide); exact h).mono ?_
  rintro en ue ⟨gt, rfl, b⟩
  replace BD := below_next BD BD.size b rfl rfl rfl rfl
  clear hr2 h3 h4 xy
  replace xrw := mv b (by rfl) xrw
  clear b
  have hser := True.intro
  refine hK.out _ _ (by exact ⟨mv BD rfl p0, mv BD rfl m0, mv BD rfl m1, mv BD rfl m2, mv BD rfl m3, mv BD rfl m4, mv BD rfl m5⟩) (fun hHeldv4 => ?_)
  clear hK K hHeldv3
  try simp only [Act.put]
  refine tl 11 ?_
  refine rdy 12 fun K hK => ?_
  go_simp
  have hgs : wd.heap.size ≤ ue.heap.size := BD.size
  have b := below_alloc ue (.cells #[.slice none 0 0, .slice none 0 0, .slice none 0 0, .slice none 0 0, .int .i64 0] 56)
  have xz := Blk.new ue #[.slice none 0 0, .slice none 0 0, .slice none 0 0, .slice none 0 0, .int .i64 0] 56
  replace BD := below_next BD BD.size b rfl rfl rfl rfl
  replace xrw := mv b (by rfl) xrw
  clear b
  generalize ue.alloc (.cells #[.slice none 0 0, .slice none 0 0, .slice none 0 0, .slice none 0 0, .int .i64 0] 56) = uf at *
  generalize hgzz : ue.heap.size = gz at xz ⊢
  have hgz : wd.heap.size ≤ gz := by omega
  clear hgzz hgs
  refine hK.out _ _ (by exact ⟨mv BD rfl p0, mv BD rfl m0, mv BD rfl m1, mv BD rfl m2, mv BD rfl m3, mv BD rfl m4, mv BD rfl m5⟩) (fun hHeldv5 => ?_)
  clear hK K hHeldv4
  try simp only [Act.put]
  rotate_left
  go_simp
  have hgs : wd.heap.size ≤ ud.heap.size := BD.size
  have b := below_alloc ud (.cells #[.slice none 0 0, .slice none 0 0, .slice none 0 0, .slice none 0 0, .int .i64 0] 56)
  have xz := Blk.new ud #[.slice none 0 0, .slice none 0 0, .slice none 0 0, .slice none 0 0, .int .i64 0] 56
  replace BD := below_next BD BD.size b rfl rfl rfl rfl
  have G := mv b (by rfl) <| And.intro h3 <| And.intro h4 <| And.intro xrw <| xy
  clear h3 h4 xrw xy
  obtain ⟨h3, h4, xrw, xy⟩ := G
  clear b
  generalize ud.alloc (.cells #[.slice none 0 0, .slice none 0 0, .slice none 0 0, .slice none 0 0, .int .i64 0] 56) = ue at *
  generalize hgzz : ud.heap.size = gz at xz ⊢
  have hgz : wd.heap.size ≤ gz := by omega
  clear hgzz hgs
  refine hK.out _ _ (by exact ⟨mv BD rfl p0, mv BD rfl m0, mv BD rfl m1, mv BD rfl m2, mv BD rfl m3, mv BD rfl m4, mv BD rfl m5⟩) (fun hHeldv4 => ?_)
  clear hK K hHeldv3
  try simp only [Act.put]
  refine rdy 5 fun K hK => ?_
  go_simp
  have hr2 := rds_two (x := t) (y := y) xy (mv BD rfl h1) (mv BD rfl h2) h3 h4
  refine (show Calls _ _ #[.int .i64 ((k : Int) + 1), _] _ _ from by have h := jseries_ok (n := k + 1) (by omega) hr2 (by decide); exact h).mono ?_
  rintro en uf ⟨gt, rfl, b⟩
  replace BD := below_next BD BD.size b rfl rfl rfl rfl
  clear hr2 h3 h4 xy
  have G := mv b (by rfl) <| And.intro xrw <| xz
  clear xrw xz
  obtain ⟨xrw, xz⟩ := G
  clear b
  have hser := True.intro
  refine hK.out _ _ (by exact ⟨mv BD rfl p0, mv BD rfl m0, mv BD rfl m1, mv BD rfl m2, mv BD rfl m3, mv BD rfl m4, mv BD rfl m5⟩) (fun hHeldv5 => ?_)
  clear hK K hHeldv4
  try simp only [Act.put]
  refine tl 11 ?_
  rotate_left
  go_simp
  have hgs : wd.heap.size ≤ uc.heap.size := BD.size
  have b := below_alloc uc (.cells #[.slice none 0 0, .slice none 0 0, .slice none 0 0, .slice none 0 0, .int .i64 0] 56)
  have xz := Blk.new uc #[.slice none 0 0, .slice none 0 0, .slice none 0 0, .slice none 0 0, .int .i64 0] 56
  replace BD := below_next BD BD.size b rfl rfl rfl rfl
  have G := mv b (by rfl) <| And.intro h3 <| And.intro h4 <| xrw
  clear h3 h4 xrw
  obtain ⟨h3, h4, xrw⟩ := G
  clear b
  generalize uc.alloc (.cells #[.slice none 0 0, .slice none 0 0, .slice none 0 0, .slice none 0 0, .int .i64 0] 56) = ud at *
  generalize hgzz : uc.heap.size = gz at xz ⊢
  have hgz : wd.heap.size ≤ gz := by omega
  clear hgzz hgs
  refine hK.out _ _ (by exact ⟨mv BD rfl p0, mv BD rfl m0, mv BD rfl m1, mv BD rfl m2, mv BD rfl m3, mv BD rfl m4, mv BD rfl m5⟩) (fun hHeldv3 => ?_)
  clear hK K hHeldv2
  try simp only [Act.put]
  refine rdy 4 fun K hK => ?_
  go_simp
  have b := below_alloc ud (.cells #[.bool t.lo.s, .slice A1 n1 c1, .int .i64 t.lo.e, .bool t.hi.s, .slice A2 n2 c2, .int .i64 t.hi.e, .bool y.lo.s, .slice A3 n3 c3, .int .i64 y.lo.e, .bool y.hi.s, .slice A4 n4 c4, .int .i64 y.hi.e] 29)
  have xy := Blk.new ud #[.bool t.lo.s, .slice A1 n1 c1, .int .i64 t.lo.e, .bool t.hi.s, .slice A2 n2 c2, .int .i64 t.hi.e, .bool y.lo.s, .slice A3 n3 c3, .int .i64 y.lo.e, .bool y.hi.s, .slice A4 n4 c4, .int .i64 y.hi.e] 29
  replace BD := below_next BD BD.size b rfl rfl rfl rfl
  have G := mv b (by rfl) <| And.intro h3 <| And.intro h4 <| And.intro xrw <| xz
  clear h3 h4 xrw xz
  obtain ⟨h3, h4, xrw, xz⟩ := G
  clear b
  generalize ud.alloc (.cells #[.bool t.lo.s, .slice A1 n1 c1, .int .i64 t.lo.e, .bool t.hi.s, .slice A2 n2 c2, .int .i64 t.hi.e, .bool y.lo.s, .slice A3 n3 c3, .int .i64 y.lo.e, .bool y.hi.s, .slice A4 n4 c4, .int .i64 y.hi.e] 29) = ue at *
  generalize hgyy : ud.heap.size = gy at xy ⊢
  clear hgyy
  refine hK.out _ _ (by exact ⟨mv BD rfl p0, mv BD rfl m0, mv BD rfl m1, mv BD rfl m2, mv BD rfl m3, mv BD rfl m4, mv BD rfl m5⟩) (fun hHeldv4 => ?_)
  clear hK K hHeldv3
  try simp only [Act.put]
  refine rdy 5 fun K hK => ?_
  go_simp
  have hr2 := rds_two (x := t) (y := y) xy (mv BD rfl h1) (mv BD rfl h2) h3 h4
  refine (show Calls _ _ #[.int .i64 ((k : Int) + 1), _] _ _ from by have h := jseries_ok (n := k + 1) (by omega) hr2 (by decide); exact h).mono ?_
  rintro en uf ⟨gt, rfl, b⟩
  replace BD := below_next BD BD.size b rfl rfl rfl rfl
  clear hr2 h3 h4 xy
  have G := mv b (by rfl) <| And.intro xrw <| xz
  clear xrw xz
  obtain ⟨xrw, xz⟩ := G
  clear b
  have hser := True.intro
  refine hK.out _ _ (by exact ⟨mv BD rfl p0, mv BD rfl m0, mv BD rfl m1, mv BD rfl m2, mv BD rfl m3, mv BD rfl m4, mv BD rfl m5⟩) (fun hHeldv5 => ?_)
  clear hK K hHeldv4
  try simp only [Act.put]
  refine tl 11 ?_
  rotate_left
  go_simp
  have hgs : wd.heap.size ≤ ub.heap.size := BD.size
  have b := below_alloc ub (.cells #[.slice none 0 0, .slice none 0 0, .slice none 0 0, .slice none 0 0, .int .i64 0] 56)
  have xz := Blk.new ub #[.slice none 0 0, .slice none 0 0, .slice none 0 0, .slice none 0 0, .int .i64 0] 56
  replace BD := below_next BD BD.size b rfl rfl rfl rfl
  have G := mv b (by rfl) <| And.intro h3 <| h4
  clear h3 h4
  obtain ⟨h3, h4⟩ := G
  clear b
  generalize ub.alloc (.cells #[.slice none 0 0, .slice none 0 0, .slice none 0 0, .slice none 0 0, .int .i64 0] 56) = uc at *
  generalize hgzz : ub.heap.size = gz at xz ⊢
  have hgz : wd.heap.size ≤ gz := by omega
  clear hgzz hgs
  refine hK.out _ _ (by exact ⟨mv BD rfl p0, mv BD rfl m0, mv BD rfl m1, mv BD rfl m2, mv BD rfl m3, mv BD rfl m4, mv BD rfl m5⟩) (fun hHeldv2 => ?_)
  clear hK K hHeldv1
  try simp only [Act.put]
  refine wpAnyH_ready (rs := [4, 9]) (by kernel_rfl) (by simp) ?_
  refine AllReadyH.cons (o := _) rfl (fun K hK => ?_) (AllReadyH.cons (o := _) rfl (fun K hK => ?_) (AllReadyH.nil))
  go_simp
  have b := below_alloc uc (.cells #[.bool t.lo.s, .slice A1 n1 c1, .int .i64 t.lo.e, .bool t.hi.s, .slice A2 n2 c2, .int .i64 t.hi.e, .bool y.lo.s, .slice A3 n3 c3, .int .i64 y.lo.e, .bool y.hi.s, .slice A4 n4 c4, .int .i64 y.hi.e] 29)
  have xy := Blk.new uc #[.bool t.lo.s, .slice A1 n1 c1, .int .i64 t.lo.e, .bool t.hi.s, .slice A2 n2 c2, .int .i64 t.hi.e, .bool y.lo.s, .slice A3 n3 c3, .int .i64 y.lo.e, .bool y.hi.s, .slice A4 n4 c4, .int .i64 y.hi.e] 29
  replace BD := below_next BD BD.size b rfl rfl rfl rfl
  have G := mv b (by rfl) <| And.intro h3 <| And.intro h4 <| xz
  clear h3 h4 xz
  obtain ⟨h3, h4, xz⟩ := G
  clear b
  generalize uc.alloc (.cells #[.bool t.lo.s, .slice A1 n1 c1, .int .i64 t.lo.e, .bool t.hi.s, .slice A2 n2 c2, .int .i64 t.hi.e, .bool y.lo.s, .slice A3 n3 c3, .int .i64 y.lo.e, .bool y.hi.s, .slice A4 n4 c4, .int .i64 y.hi.e] 29) = ud at *
  generalize hgyy : uc.heap.size = gy at xy ⊢
  clear hgyy
  refine hK.out _ _ (by exact ⟨mv BD rfl p0, mv BD rfl m0, mv BD rfl m1, mv BD rfl m2, mv BD rfl m3, mv BD rfl m4, mv BD rfl m5⟩) (fun hHeldv3 => ?_)
  clear hK K hHeldv2
  try simp only [Act.put]
  refine wpAnyH_ready (rs := [5, 9]) (by kernel_rfl) (by simp) ?_
  refine AllReadyH.cons (o := _) rfl (fun K hK => ?_) (AllReadyH.cons (o := _) rfl (fun K hK => ?_) (AllReadyH.nil))
  go_simp
  have hr2 := rds_two (x := t) (y := y) xy (mv BD rfl h1) (mv BD rfl h2) h3 h4
  refine (show Calls _ _ #[.int .i64 ((k : Int) + 1), _] _ _ from by have h := jseries_ok (n := k + 1) (by omega) hr2 (by decide); exact h).mono ?_
  rintro en ue ⟨gt, rfl, b⟩
  replace BD := below_next BD BD.size b rfl rfl rfl rfl
  clear hr2 h3 h4 xy
  replace xz := mv b (by rfl) xz
  clear b
  have hser := True.intro
  refine hK.out _ _ (by exact ⟨mv BD rfl p0, mv BD rfl m0, mv BD rfl m1, mv BD rfl m2, mv BD rfl m3, mv BD rfl m4, mv BD rfl m5⟩) (fun hHeldv4 => ?_)
  clear hK K hHeldv3
  try simp only [Act.put]
  refine rdy 9 fun K hK => ?_
  go_simp
  obtain ⟨uf, hr', xrw, hg9⟩ := makeR_run ue (n := nl) w6.heap.size (by omega)
  rw [hr']
  go_simp
  have b := (Below.refl ue.heap.size ue).grown hg9 (Nat.le_refl _) (fun _ e => by cases e)
  have hgr : w6.heap.size ≤ ue.heap.size := by have := BC.size; have := BD.size; omega
  replace BD := below_next BD BD.size b rfl rfl rfl rfl
  replace xz := mv b (by rfl) xz
  clear b hg9 hr'
  generalize hgrr : ue.heap.size = gr at xrw hgr ⊢
  clear hgrr
  refine hK.out _ _ (by exact ⟨mv BD rfl p0, mv BD rfl m0, mv BD rfl m1, mv BD rfl m2, mv BD rfl m3, mv BD rfl m4, mv BD rfl m5⟩) (fun hHeldv5 => ?_)
  clear hK K hHeldv4
  try simp only [Act.put]
  refine tl 11 ?_
  rotate_left
  go_simp
  obtain ⟨ue, hr', xrw, hg9⟩ := makeR_run ud (n := nl) w6.heap.size (by omega)
  rw [hr']
  go_simp
  have b := (Below.refl ud.heap.size ud).grown hg9 (Nat.le_refl _) (fun _ e => by cases e)
  have hgr : w6.heap.size ≤ ud.heap.size := by have := BC.size; have := BD.size; omega
  replace BD := below_next BD BD.size b rfl rfl rfl rfl
  have G := mv b (by rfl) <| And.intro h3 <| And.intro h4 <| And.intro xy <| xz
  clear h3 h4 xy xz
  obtain ⟨h3, h4, xy, xz⟩ := G
  clear b hg9 hr'
  generalize hgrr : ud.heap.size = gr at xrw hgr ⊢
  clear hgrr
  refine hK.out _ _ (by exact ⟨mv BD rfl p0, mv BD rfl m0, mv BD rfl m1, mv BD rfl m2, mv BD rfl m3, mv BD rfl m4, mv BD rfl m5⟩) (fun hHeldv4 => ?_)
  clear hK K hHeldv3
  try simp only [Act.put]
  refine rdy 5 fun K hK => ?_
  go_simp
  have hr2 := rds_two (x := t) (y := y) xy (mv BD rfl h1) (mv BD rfl h2) h3 h4
  refine (show Calls _ _ #[.int .i64 ((k : Int) + 1), _] _ _ from by have h := jseries_ok (n := k + 1) (by omega) hr2 (by decide); exact h).mono ?_
  rintro en uf ⟨gt, rfl, b⟩
  replace BD := below_next BD BD.size b rfl rfl rfl rfl
  clear hr2 h3 h4 xy
  have G := mv b (by rfl) <| And.intro xrw <| xz
  clear xrw xz
  obtain ⟨xrw, xz⟩ := G
  clear b
  have hser := True.intro
  refine hK.out _ _ (by exact ⟨mv BD rfl p0, mv BD rfl m0, mv BD rfl m1, mv BD rfl m2, mv BD rfl m3, mv BD rfl m4, mv BD rfl m5⟩) (fun hHeldv5 => ?_)
  clear hK K hHeldv4
  try simp only [Act.put]
  refine tl 11 ?_
  rotate_left
  go_simp
  obtain ⟨ud, hr', xrw, hg9⟩ := makeR_run uc (n := nl) w6.heap.size (by omega)
  rw [hr']
  go_simp
  have b := (Below.refl uc.heap.size uc).grown hg9 (Nat.le_refl _) (fun _ e => by cases e)
  have hgr : w6.heap.size ≤ uc.heap.size := by have := BC.size; have := BD.size; omega
  replace BD := below_next BD BD.size b rfl rfl rfl rfl
  have G := mv b (by rfl) <| And.intro h3 <| And.intro h4 <| xz
  clear h3 h4 xz
  obtain ⟨h3, h4, xz⟩ := G
  clear b hg9 hr'
  generalize hgrr : uc.heap.size = gr at xrw hgr ⊢
  clear hgrr
  refine hK.out _ _ (by exact ⟨mv BD rfl p0, mv BD rfl m0, mv BD rfl m1, mv BD rfl m2, mv BD rfl m3, mv BD rfl m4, mv BD rfl m5⟩) (fun hHeldv3 => ?_)
  clear hK K hHeldv2
  try simp only [Act.put]
  refine rdy 4 fun K hK => ?_
  go_simp
  have b := below_alloc ud (.cells #[.bool t.lo.s, .slice A1 n1 c1, .int .i64 t.lo.e, .bool t.hi.s, .slice A2 n2 c2, .int .i64 t.hi.e, .bool y.lo.s, .slice A3 n3 c3, .int .i64 y.lo.e, .bool y.hi.s, .slice A4 n4 c4, .int .i64 y.hi.e] 29)
  have xy := Blk.new ud #[.bool t.lo.s, .slice A1 n1 c1, .int .i64 t.lo.e, .bool t.hi.s, .slice A2 n2 c2, .int .i64 t.hi.e, .bool y.lo.s, .slice A3 n3 c3, .int .i64 y.lo.e, .bool y.hi.s, .slice A4 n4 c4, .int .i64 y.hi.e] 29
  replace BD := below_next BD BD.size b rfl rfl rfl rfl
  have G := mv b (by rfl) <| And.intro h3 <| And.intro h4 <| And.intro xrw <| xz
  clear h3 h4 xrw xz
  obtain ⟨h3, h4, xrw, xz⟩ := G
  clear b
  generalize ud.alloc (.cells #[.bool t.lo.s, .slice A1 n1 c1, .int .i64 t.lo.e, .bool t.hi.s, .slice A2 n2 c2, .int .i64 t.hi.e, .bool y.lo.s, .slice A3 n3 c3, .int .i64 y.lo.e, .bool y.hi.s, .slice A4 n4 c4, .int .i64 y.hi.e] 29) = ue at *
  generalize hgyy : ud.heap.size = gy at xy ⊢
  clear hgyy
  refine hK.out _ _ (by exact ⟨mv BD rfl p0, mv BD rfl m0, mv BD rfl m1, mv BD rfl m2, mv BD rfl m3, mv BD rfl m4, mv BD rfl m5⟩) (fun hHeldv4 => ?_)
  clear hK K hHeldv3
  try simp only [Act.put]
  refine rdy 5 fun K hK => ?_
  go_simp
  have hr2 := rds_two (x := t) (y := y) xy (mv BD rfl h1) (mv BD rfl h2) h3 h4
  refine (show Calls _ _ #[.int .i64 ((k : Int) + 1), _] _ _ from by have h := jseries_ok (n := k + 1) (by omega) hr2 (by decide); exact h).mono ?_
  rintro en uf ⟨gt, rfl, b⟩
  replace BD := below_next BD BD.size b rfl rfl rfl rfl
  clear hr2 h3 h4 xy
  have G := mv b (by rfl) <| And.intro xrw <| xz
  clear xrw xz
  obtain ⟨xrw, xz⟩ := G
  clear b
  have hser := True.intro
  refine hK.out _ _ (by exact ⟨mv BD rfl p0, mv BD rfl m0, mv BD rfl m1, mv BD rfl m2, mv BD rfl m3, mv BD rfl m4, mv BD rfl m5⟩) (fun hHeldv5 => ?_)
  clear hK K hHeldv4
  try simp only [Act.put]
  refine tl 11 ?_
  rotate_left
  go_simp
  obtain ⟨ub, hr', xrw, hg9⟩ := makeR_run wd (n := nl) w6.heap.size (by omega)
  rw [hr']
  go_simp
  have b := (Below.refl wd.heap.size wd).grown hg9 (Nat.le_refl _) (fun _ e => by cases e)
  have hgr : w6.heap.size ≤ wd.heap.size := by have := BC.size; have := BD.size; omega
  replace BD := below_next BD BD.size b rfl rfl rfl rfl
  clear b hg9 hr'
  generalize hgrr : wd.heap.size = gr at xrw hgr ⊢
  clear hgrr
  refine hK.out _ _ (by exact ⟨mv BD rfl p0, mv BD rfl m0, mv BD rfl m1, mv BD rfl m2, mv BD rfl m3, mv BD rfl m4, mv BD rfl m5⟩) (fun hHeldv1 => ?_)
  clear hK K hHeldv0
  try simp only [Act.put]
  refine wpAnyH_ready (rs := [3, 12]) (by kernel_rfl) (by simp) ?_
  refine AllReadyH.cons (o := _) rfl (fun K hK => ?_) (AllReadyH.cons (o := _) rfl (fun K hK => ?_) (AllReadyH.nil))
  go_simp
  refine (HW _ (mv BD rfl hT)).mono ?_
  rintro en uc ⟨A3, n3, c3, A4, n4, c4, rfl, h3, h4, b⟩
  replace BD := below_next BD BD.size b rfl rfl rfl rfl
  replace xrw := mv b (by rfl) xrw
  clear b
  refine hK.out _ _ (by exact ⟨mv BD rfl p0, mv BD rfl m0, mv BD rfl m1, mv BD rfl m2, mv BD rfl m3, mv BD rfl m4, mv BD rfl m5⟩) (fun hHeldv2 => ?_)
  clear hK K hHeldv1
  try simp only [Act.put]
  refine wpAnyH_ready (rs := [4, 12]) (by kernel_rfl) (by simp) ?_
  refine AllReadyH.cons (o := _) rfl (fun K hK => ?_) (AllReadyH.cons (o := _) rfl (fun K hK => ?_) (AllReadyH.nil))
  go_simp
  have b := below_alloc uc (.cells #[.bool t.lo.s, .slice A1 n1 c1, .int .i64 t.lo.e, .bool t.hi.s, .slice A2 n2 c2, .int .i64 t.hi.e, .bool y.lo.s, .slice A3 n3 c3, .int .i64 y.lo.e, .bool y.hi.s, .slice A4 n4 c4, .int .i64 y.hi.e] 29)
  have xy := Blk.new uc #[.bool t.lo.s, .slice A1 n1 c1, .int .i64 t.lo.e, .bool t.hi.s, .slice A2 n2 c2, .int .i64 t.hi.e, .bool y.lo.s, .slice A3 n3 c3, .int .i64 y.lo.e, .bool y.hi.s, .slice A4 n4 c4, .int .i64 y.hi.e] 29
  replace BD := below_next BD BD.size b rfl rfl rfl rfl
  have G := mv b (by rfl) <| And.intro h3 <| And.intro h4 <| xrw
  clear h3 h4 xrw
  obtain ⟨h3, h4, xrw⟩ := G
  clear b
  generalize uc.alloc (.cells #[.bool t.lo.s, .slice A1 n1 c1, .int .i64 t.lo.e, .bool t.hi.s, .slice A2 n2 c2, .int .i64 t.hi.e, .bool y.lo.s, .slice A3 n3 c3, .int .i64 y.lo.e, .bool y.hi.s, .slice A4 n4 c4, .int .i64 y.hi.e] 29) = ud at *
  generalize hgyy : uc.heap.size = gy at xy ⊢
  clear hgyy
  refine hK.out _ _ (by exact ⟨mv BD rfl p0, mv BD rfl m0, mv BD rfl m1, mv BD rfl m2, mv BD rfl m3, mv BD rfl m4, mv BD rfl m5⟩) (fun hHeldv3 => ?_)
  clear hK K hHeldv2
  try simp only [Act.put]
  refine wpAnyH_ready (rs := [5, 12]) (by kernel_rfl) (by simp) ?_
  refine AllReadyH.cons (o := _) rfl (fun K hK => ?_) (AllReadyH.cons (o := _) rfl (fun K hK => ?_) (AllReadyH.nil))
  go_simp
  have hr2 := rds_two (x := t) (y := y) xy (mv BD rfl h1) (mv BD rfl h2) h3 h4
  refine (show Calls _ _ #[.int .i64 ((k : Int) + 1), _] _ _ from by have h := jseries_ok (n := k + 1) (by omega) hr2 (by decide); exact h).mono ?_
  rintro en ue ⟨gt, rfl, b⟩
  replace BD := below_next BD BD.size b rfl rfl rfl rfl
  clear hr2 h3 h4 xy
  replace xrw := mv b (by rfl) xrw
  clear b
  have hser := True.intro
  refine hK.out _ _ (by exact ⟨mv BD rfl p0, mv BD rfl m0, mv BD rfl m1, mv BD rfl m2, mv BD rfl m3, mv BD rfl m4, mv BD rfl m5⟩) (fun hHeldv4 => ?_)
  clear hK K hHeldv3
  try simp only [Act.put]
  refine tl 11 ?_
  refine rdy 12 fun K hK => ?_
  go_simp
  have hgs : wd.heap.size ≤ ue.heap.size := BD.size
  have b := below_alloc ue (.cells #[.slice none 0 0, .slice none 0 0, .slice none 0 0, .slice none 0 0, .int .i64 0] 56)
  have xz := Blk.new ue #[.slice none 0 0, .slice none 0 0, .slice none 0 0, .slice none 0 0, .int .i64 0] 56
  replace BD := below_next BD BD.size b rfl rfl rfl rfl
  replace xrw := mv b (by rfl) xrw
  clear b
  generalize ue.alloc (.cells #[.slice none 0 0, .slice none 0 0, .slice none 0 0, .slice none 0 0, .int .i64 0] 56) = uf at *
  generalize hgzz : ue.heap.size = gz at xz ⊢
  have hgz : wd.heap.size ≤ gz := by omega
  clear hgzz hgs
  refine hK.out _ _ (by exact ⟨mv BD rfl p0, mv BD rfl m0, mv BD rfl m1, mv BD rfl m2, mv BD rfl m3, mv BD rfl m4, mv BD rfl m5⟩) (fun hHeldv5 => ?_)
  clear hK K hHeldv4
  try simp only [Act.put]
  rotate_left
  go_simp
  have hgs : wd.heap.size ≤ ud.heap.size := BD.size
  have b := below_alloc ud (.cells #[.slice none 0 0, .slice none 0 0, .slice none 0 0, .slice none 0 0, .int .i64 0] 56)
  have xz := Blk.new ud #[.slice none 0 0, .slice none 0 0, .slice none 0 0, .slice none 0 0, .int .i64 0] 56
  replace BD := below_next BD BD.size b rfl rfl rfl rfl
  have G := mv b (by rfl) <| And.intro h3 <| And.intro h4 <| And.intro xrw <| xy
  clear h3 h4 xrw xy
  obtain ⟨h3, h4, xrw, xy⟩ := G
  clear b
  generalize ud.alloc (.cells #[.slice none 0 0, .slice none 0 0, .slice none 0 0, .slice none 0 0, .int .i64 0] 56) = ue at *
  generalize hgzz : ud.heap.size = gz at xz ⊢
  have hgz : wd.heap.size ≤ gz := by omega
  clear hgzz hgs
  refine hK.out _ _ (by exact ⟨mv BD rfl p0, mv BD rfl m0, mv BD rfl m1, mv BD rfl m2, mv BD rfl m3, mv BD rfl m4, mv BD rfl m5⟩) (fun hHeldv4 => ?_)
  clear hK K hHeldv3
  try simp only [Act.put]
  refine rdy 5 fun K hK => ?_
  go_simp
  have hr2 := rds_two (x := t) (y := y) xy (mv BD rfl h1) (mv BD rfl h2) h3 h4
  refine (show Calls _ _ #[.int .i64 ((k : Int) + 1), _] _ _ from by have h := jseries_ok (n := k + 1) (by omega) hr2 (by decide); exact h).mono ?_
  rintro en uf ⟨gt, rfl, b⟩
  replace BD := below_next BD BD.size b rfl rfl rfl rfl
  clear hr2 h3 h4 xy
  have G := mv b (by rfl) <| And.intro xrw <| xz
  clear xrw xz
  obtain ⟨xrw, xz⟩ := G
  clear b
  have hser := True.intro
  refine hK.out _ _ (by exact ⟨mv BD rfl p0, mv BD rfl m0, mv BD rfl m1, mv BD rfl m2, mv BD rfl m3, mv BD rfl m4, mv BD rfl m5⟩) (fun hHeldv5 => ?_)
  clear hK K hHeldv4
  try simp only [Act.put]
  refine tl 11 ?_
  rotate_left
  go_simp
  have hgs : wd.heap.size ≤ uc.heap.size := BD.size
  have b := below_alloc uc (.cells #[.slice none 0 0, .slice none 0 0, .slice none 0 0, .slice none 0 0, .int .i64 0] 56)
  have xz := Blk.new uc #[.slice none 0 0, .slice none 0 0, .slice none 0 0, .slice none 0 0, .int .i64 0] 56
  replace BD := below_next BD BD.size b rfl rfl rfl rfl
  have G := mv b (by rfl) <| And.intro h3 <| And.intro h4 <| xrw
  clear h3 h4 xrw
  obtain ⟨h3, h4, xrw⟩ := G
  clear b
  generalize uc.alloc (.cells #[.slice none 0 0, .slice none 0 0, .slice none 0 0, .slice none 0 0, .int .i64 0] 56) = ud at *
  generalize hgzz : uc.heap.size = gz at xz ⊢
  have hgz : wd.heap.size ≤ gz := by omega
  clear hgzz hgs
  refine hK.out _ _ (by exact ⟨mv BD rfl p0, mv BD rfl m0, mv BD rfl m1, mv BD rfl m2, mv BD rfl m3, mv BD rfl m4, mv BD rfl m5⟩) (fun hHeldv3 => ?_)
  clear hK K hHeldv2
  try simp only [Act.put]
  refine rdy 4 fun K hK => ?_
  go_simp
  have b := below_alloc ud (.cells #[.bool t.lo.s, .slice A1 n1 c1, .int .i64 t.lo.e, .bool t.hi.s, .slice A2 n2 c2, .int .i64 t.hi.e, .bool y.lo.s, .slice A3 n3 c3, .int .i64 y.lo.e, .bool y.hi.s, .slice A4 n4 c4, .int .i64 y.hi.e] 29)
  have xy := Blk.new ud #[.bool t.lo.s, .slice A1 n1 c1, .int .i64 t.lo.e, .bool t.hi.s, .slice A2 n2 c2, .int .i64 t.hi.e, .bool y.lo.s, .slice A3 n3 c3, .int .i64 y.lo.e, .bool y.hi.s, .slice A4 n4 c4, .int .i64 y.hi.e] 29
  replace BD := below_next BD BD.size b rfl rfl rfl rfl
  have G := mv b (by rfl) <| And.intro h3 <| And.intro h4 <| And.intro xrw <| xz
  clear h3 h4 xrw xz
  obtain ⟨h3, h4, xrw, xz⟩ := G
  clear b
  generalize ud.alloc (.cells #[.bool t.lo.s, .slice A1 n1 c1, .int .i64 t.lo.e, .bool t.hi.s, .slice A2 n2 c2, .int .i64 t.hi.e, .bool y.lo.s, .slice A3 n3 c3, .int .i64 y.lo.e, .bool y.hi.s, .slice A4 n4 c4, .int .i64 y.hi.e] 29) = ue at *
  generalize hgyy : ud.heap.size = gy at xy ⊢
  clear hgyy
  refine hK.out _ _ (by exact ⟨mv BD rfl p0, mv BD rfl m0, mv BD rfl m1, mv BD rfl m2, mv BD rfl m3, mv BD rfl m4, mv BD rfl m5⟩) (fun hHeldv4 => ?_)
  clear hK K hHeldv3
  try simp only [Act.put]
  refine rdy 5 fun K hK => ?_
  go_simp
  have hr2 := rds_two (x := t) (y := y) xy (mv BD rfl h1) (mv BD rfl h2) h3 h4
  refine (show Calls _ _ #[.int .i64 ((k : Int) + 1), _] _ _ from by have h := jseries_ok (n := k + 1) (by omega) hr2 (by decide); exact h).mono ?_
  rintro en uf ⟨gt, rfl, b⟩
  replace BD := below_next BD BD.size b rfl rfl rfl rfl
  clear hr2 h3 h4 xy
  have G := mv b (by rfl) <| And.intro xrw <| xz
  clear xrw xz
  obtain ⟨xrw, xz⟩ := G
  clear b
  have hser := True.intro
  refine hK.out _ _ (by exact ⟨mv BD rfl p0, mv BD rfl m0, mv BD rfl m1, mv BD rfl m2, mv BD rfl m3, mv BD rfl m4, mv BD rfl m5⟩) (fun hHeldv5 => ?_)
  clear hK K hHeldv4
  try simp only [Act.put]
  refine tl 11 ?_
  rotate_left
  go_simp
  have hgs : wd.heap.size ≤ ub.heap.size := BD.size
  have b := below_alloc ub (.cells #[.slice none 0 0, .slice none 0 0, .slice none 0 0, .slice none 0 0, .int .i64 0] 56)
  have xz := Blk.new ub #[.slice none 0 0, .slice none 0 0, .slice none 0 0, .slice none 0 0, .int .i64 0] 56
  replace BD := below_next BD BD.size b rfl rfl rfl rfl
  replace xrw := mv b (by rfl) xrw
  clear b
  generalize ub.alloc (.cells #[.slice none 0 0, .slice none 0 0, .slice none 0 0, .slice none 0 0, .int .i64 0] 56) = uc at *
  generalize hgzz : ub.heap.size = gz at xz ⊢
  have hgz : wd.heap.size ≤ gz := by omega
  clear hgzz hgs
  refine hK.out _ _ (by exact ⟨mv BD rfl p0, mv BD rfl m0, mv BD rfl m1, mv BD rfl m2, mv BD rfl m3, mv BD rfl m4, mv BD rfl m5⟩) (fun hHeldv2 => ?_)
  clear hK K hHeldv1
  try simp only [Act.put]
  refine rdy 3 fun K hK => ?_
  go_simp
  refine (HW _ (mv BD rfl hT)).mono ?_
  rintro en ud ⟨A3, n3, c3, A4, n4, c4, rfl, h3, h4, b⟩
  replace BD := below_next BD BD.size b rfl rfl rfl rfl
  have G := mv b (by rfl) <| And.intro xrw <| xz
  clear xrw xz
  obtain ⟨xrw, xz⟩ := G
  clear b
  refine hK.out _ _ (by exact ⟨mv BD rfl p0, mv BD rfl m0, mv BD rfl m1, mv BD rfl m2, mv BD rfl m3, mv BD rfl m4, mv BD rfl m5⟩) (fun hHeldv3 => ?_)
  clear hK K hHeldv2
  try simp only [Act.put]
  refine rdy 4 fun K hK => ?_
  go_simp
  have b := below_alloc ud (.cells #[.bool t.lo.s, .slice A1 n1 c1, .int .i64 t.lo.e, .bool t.hi.s, .slice A2 n2 c2, .int .i64 t.hi.e, .bool y.lo.s, .slice A3 n3 c3, .int .i64 y.lo.e, .bool y.hi.s, .slice A4 n4 c4, .int .i64 y.hi.e] 29)
  have xy := Blk.new ud #[.bool t.lo.s, .slice A1 n1 c1, .int .i64 t.lo.e, .bool t.hi.s, .slice A2 n2 c2, .int .i64 t.hi.e, .bool y.lo.s, .slice A3 n3 c3, .int .i64 y.lo.e, .bool y.hi.s, .slice A4 n4 c4, .int .i64 y.hi.e] 29
  replace BD := below_next BD BD.size b rfl rfl rfl rfl
  have G := mv b (by rfl) <| And.intro h3 <| And.intro h4 <| And.intro xrw <| xz
  clear h3 h4 xrw xz
  obtain ⟨h3, h4, xrw, xz⟩ := G
  clear b
  generalize ud.alloc (.cells #[.bool t.lo.s, .slice A1 n1 c1, .int .i64 t.lo.e, .bool t.hi.s, .slice A2 n2 c2, .int .i64 t.hi.e, .bool y.lo.s, .slice A3 n3 c3, .int .i64 y.lo.e, .bool y.hi.s, .slice A4 n4 c4, .int .i64 y.hi.e] 29) = ue at *
  generalize hgyy : ud.heap.size = gy at xy ⊢
  clear hgyy
  refine hK.out _ _ (by exact ⟨mv BD rfl p0, mv BD rfl m0, mv BD rfl m1, mv BD rfl m2, mv BD rfl m3, mv BD rfl m4, mv BD rfl m5⟩) (fun hHeldv4 => ?_)
  clear hK K hHeldv3
  try simp only [Act.put]
  refine rdy 5 fun K hK => ?_
  go_simp
  have hr2 := rds_two (x := t) (y := y) xy (mv BD rfl h1) (mv BD rfl h2) h3 h4
  refine (show Calls _ _ #[.int .i64 ((k : Int) + 1), _] _ _ from by have h := jseries_ok (n := k + 1) (by omega) hr2 (by decide); exact h).mono ?_
  rintro en uf ⟨gt, rfl, b⟩
  replace BD := below_next BD BD.size b rfl rfl rfl rfl
  clear hr2 h3 h4 xy
  have G := mv b (by rfl) <| And.intro xrw <| xz
  clear xrw xz
  obtain ⟨xrw, xz⟩ := G
  clear b
  have hser := True.intro
  refine hK.out _ _ (by exact ⟨mv BD rfl p0, mv BD rfl m0, mv BD rfl m1, mv BD rfl m2, mv BD rfl m3, mv BD rfl m4, mv BD rfl m5⟩) (fun hHeldv5 => ?_)
  clear hK K hHeldv4
  try simp only [Act.put]
  refine tl 11 ?_
  rotate_left
  go_simp
  have hgs : wd.heap.size ≤ wd.heap.size := BD.size
  have b := below_alloc wd (.cells #[.slice none 0 0, .slice none 0 0, .slice none 0 0, .slice none 0 0, .int .i64 0] 56)
  have xz := Blk.new wd #[.slice none 0 0, .slice none 0 0, .slice none 0 0, .slice none 0 0, .int .i64 0] 56
  replace BD := below_next BD BD.size b rfl rfl rfl rfl
  clear b
  generalize wd.alloc (.cells #[.slice none 0 0, .slice none 0 0, .slice none 0 0, .slice none 0 0, .int .i64 0] 56) = ub at *
  generalize hgzz : wd.heap.size = gz at xz ⊢
  have hgz : wd.heap.size ≤ gz := by omega
  clear hgzz hgs
  refine hK.out _ _ (by exact ⟨mv BD rfl p0, mv BD rfl m0, mv BD rfl m1, mv BD rfl m2, mv BD rfl m3, mv BD rfl m4, mv BD rfl m5⟩) (fun hHeldv1 => ?_)
  clear hK K hHeldv0
  try simp only [Act.put]
  refine wpAnyH_ready (rs := [3, 9]) (by kernel_rfl) (by simp) ?_
  refine AllReadyH.cons (o := _) rfl (fun K hK => ?_) (AllReadyH.cons (o := _) rfl (fun K hK => ?_) (AllReadyH.nil))
  go_simp
  refine (HW _ (mv BD rfl hT)).mono ?_
  rintro en uc ⟨A3, n3, c3, A4, n4, c4, rfl, h3, h4, b⟩
  replace BD := below_next BD BD.size b rfl rfl rfl rfl
  replace xz := mv b (by rfl) xz
  clear b
  refine hK.out _ _ (by exact ⟨mv BD rfl p0, mv BD rfl m0, mv BD rfl m1, mv BD rfl m2, mv BD rfl m3, mv BD rfl m4, mv BD rfl m5⟩) (fun hHeldv2 => ?_)
  clear hK K hHeldv1
  try simp only [Act.put]
  refine wpAnyH_ready (rs := [4, 9]) (by kernel_rfl) (by simp) ?_
  refine AllReadyH.cons (o := _) rfl (fun K hK => ?_) (AllReadyH.cons (o := _) rfl (fun K hK => ?_) (AllReadyH.nil))
  go_simp
  have b := below_alloc uc (.cells #[.bool t.lo.s, .slice A1 n1 c1, .int .i64 t.lo.e, .bool t.hi.s, .slice A2 n2 c2, .int .i64 t.hi.e, .bool y.lo.s, .slice A3 n3 c3, .int .i64 y.lo.e, .bool y.hi.s, .slice A4 n4 c4, .int .i64 y.hi.e] 29)
  have xy := Blk.new uc #[.bool t.lo.s, .slice A1 n1 c1, .int .i64 t.lo.e, .bool t.hi.s, .slice A2 n2 c2, .int .i64 t.hi.e, .bool y.lo.s, .slice A3 n3 c3, .int .i64 y.lo.e, .bool y.hi.s, .slice A4 n4 c4, .int .i64 y.hi.e] 29
  replace BD := below_next BD BD.size b rfl rfl rfl rfl
  have G := mv b (by rfl) <| And.intro h3 <| And.intro h4 <| xz
  clear h3 h4 xz
  obtain ⟨h3, h4, xz⟩ := G
  clear b
  generalize uc.alloc (.cells #[.bool t.lo.s, .slice A1 n1 c1, .int .i64 t.lo.e, .bool t.hi.s, .slice A2 n2 c2, .int .i64 t.hi.e, .bool y.lo.s, .slice A3 n3 c3, .int .i64 y.lo.e, .bool y.hi.s, .slice A4 n4 c4, .int .i64 y.hi.e] 29) = ud at *
  generalize hgyy : uc.heap.size = gy at xy ⊢
  clear hgyy
  refine hK.out _ _ (by exact ⟨mv BD rfl p0, mv BD rfl m0, mv BD rfl m1, mv BD rfl m2, mv BD rfl m3, mv BD rfl m4, mv BD rfl m5⟩) (fun hHeldv3 => ?_)
  clear hK K hHeldv2
  try simp only [Act.put]
  refine wpAnyH_ready (rs := [5, 9]) (by kernel_rfl) (by simp) ?_
  refine AllReadyH.cons (o := _) rfl (fun K hK => ?_) (AllReadyH.cons (o := _) rfl (fun K hK => ?_) (AllReadyH.nil))
  go_simp
  have hr2 := rds_two (x := t) (y := y) xy (mv BD rfl h1) (mv BD rfl h2) h3 h4
  refine (show Calls _ _ #[.int .i64 ((k : Int) + 1), _] _ _ from by have h := jseries_ok (n := k + 1) (by omega) hr2 (by decide); exact h).mono ?_
  rintro en ue ⟨gt, rfl, b⟩
  replace BD := below_next BD BD.size b rfl rfl rfl rfl
  clear hr2 h3 h4 xy
  replace xz := mv b (by rfl) xz
  clear b
  have hser := True.intro
  refine hK.out _ _ (by exact ⟨mv BD rfl p0, mv BD rfl m0, mv BD rfl m1, mv BD rfl m2, mv BD rfl m3, mv BD rfl m4, mv BD rfl m5⟩) (fun hHeldv4 => ?_)
  clear hK K hHeldv3
  try simp only [Act.put]
  refine rdy 9 fun K hK => ?_
  go_simp
  obtain ⟨uf, hr', xrw, hg9⟩ := makeR_run ue (n := nl) w6.heap.size (by omega)
  rw [hr']
  go_simp
  have b := (Below.refl ue.heap.size ue).grown hg9 (Nat.le_refl _) (fun _ e => by cases e)
  have hgr : w6.heap.size ≤ ue.heap.size := by have := BC.size; have := BD.size; omega
  replace BD := below_next BD BD.size b rfl rfl rfl rfl
  replace xz := mv b (by rfl) xz
  clear b hg9 hr'
  generalize hgrr : ue.heap.size = gr at xrw hgr ⊢
  clear hgrr
  refine hK.out _ _ (by exact ⟨mv BD rfl p0, mv BD rfl m0, mv BD rfl m1, mv BD rfl m2, mv BD rfl m3, mv BD rfl m4, mv BD rfl m5⟩) (fun hHeldv5 => ?_)
  clear hK K hHeldv4
  try simp only [Act.put]
  refine tl 11 ?_
  rotate_left
  go_simp
  obtain ⟨ue, hr', xrw, hg9⟩ := makeR_run ud (n := nl) w6.heap.size (by omega)
  rw [hr']
  go_simp
  have b := (Below.refl ud.heap.size ud).grown hg9 (Nat.le_refl _) (fun _ e => by cases e)
  have hgr : w6.heap.size ≤ ud.heap.size := by have := BC.size; have := BD.size; omega
  replace BD := below_next BD BD.size b rfl rfl rfl rfl
  have G := mv b (by rfl) <| And.intro h3 <| And.intro h4 <| And.intro xy <| xz
  clear h3 h4 xy xz
  obtain ⟨h3, h4, xy, xz⟩ := G
  clear b hg9 hr'
  generalize hgrr : ud.heap.size = gr at xrw hgr ⊢
  clear hgrr
  refine hK.out _ _ (by exact ⟨mv BD rfl p0, mv BD rfl m0, mv BD rfl m1, mv BD rfl m2, mv BD rfl m3, mv BD rfl m4, mv BD rfl m5⟩) (fun hHeldv4 => ?_)
  clear hK K hHeldv3
  try simp only [Act.put]
  refine rdy 5 fun K hK => ?_
  go_simp
  have hr2 := rds_two (x := t) (y := y) xy (mv BD rfl h1) (mv BD rfl h2) h3 h4
  refine (show Calls _ _ #[.int .i64 ((k : Int) + 1), _] _ _ from by have h := jseries_ok (n := k + 1) (by omega) hr2 (by decide); exact h).mono ?_
  rintro en uf ⟨gt, rfl, b⟩
  replace BD := below_next BD BD.size b rfl rfl rfl rfl
  clear hr2 h3 h4 xy
  have G := mv b (by rfl) <| And.intro xrw <| xz
  clear xrw xz
  obtain ⟨xrw, xz⟩ := G
  clear b
  have hser := True.intro
  refine hK.out _ _ (by exact ⟨mv BD rfl p0, mv BD rfl m0, mv BD rfl m1, mv BD rfl m2, mv BD rfl m3, mv BD rfl m4, mv BD rfl m5⟩) (fun hHeldv5 => ?_)
  clear hK K hHeldv4
  try simp only [Act.put]
  refine tl 11 ?_
  rotate_left
  go_simp
  obtain ⟨ud, hr', xrw, hg9⟩ := makeR_run uc (n := nl) w6.heap.size (by omega)
  rw [hr']
  go_simp
  have b := (Below.refl uc.heap.size uc).grown hg9 (Nat.le_refl _) (fun _ e => by cases e)
  have hgr : w6.heap.size ≤ uc.heap.size := by have := BC.size; have := BD.size; omega
  replace BD := below_next BD BD.size b rfl rfl rfl rfl
  have G := mv b (by rfl) <| And.intro h3 <| And.intro h4 <| xz
  clear h3 h4 xz
  obtain ⟨h3, h4, xz⟩ := G
  clear b hg9 hr'
  generalize hgrr : uc.heap.size = gr at xrw hgr ⊢
  clear hgrr
  refine hK.out _ _ (by exact ⟨mv BD rfl p0, mv BD rfl m0, mv BD rfl m1, mv BD rfl m2, mv BD rfl m3, mv BD rfl m4, mv BD rfl m5⟩) (fun hHeldv3 => ?_)
  clear hK K hHeldv2
  try simp only [Act.put]
  refine rdy 4 fun K hK => ?_
  go_simp
  have b := below_alloc ud (.cells #[.bool t.lo.s, .slice A1 n1 c1, .int .i64 t.lo.e, .bool t.hi.s, .slice A2 n2 c2, .int .i64 t.hi.e, .bool y.lo.s, .slice A3 n3 c3, .int .i64 y.lo.e, .bool y.hi.s, .slice A4 n4 c4, .int .i64 y.hi.e] 29)
  have xy := Blk.new ud #[.bool t.lo.s, .slice A1 n1 c1, .int .i64 t.lo.e, .bool t.hi.s, .slice A2 n2 c2, .int .i64 t.hi.e, .bool y.lo.s, .slice A3 n3 c3, .int .i64 y.lo.e, .bool y.hi.s, .slice A4 n4 c4, .int .i64 y.hi.e] 29
  replace BD := below_next BD BD.size b rfl rfl rfl rfl
  have G := mv b (by rfl) <| And.intro h3 <| And.intro h4 <| And.intro xrw <| xz
  clear h3 h4 xrw xz
  obtain ⟨h3, h4, xrw, xz⟩ := G
  clear b
  generalize ud.alloc (.cells #[.bool t.lo.s, .slice A1 n1 c1, .int .i64 t.lo.e, .bool t.hi.s, .slice A2 n2 c2, .int .i64 t.hi.e, .bool y.lo.s, .slice A3 n3 c3, .int .i64 y.lo.e, .bool y.hi.s, .slice A4 n4 c4, .int .i64 y.hi.e] 29) = ue at *
  generalize hgyy : ud.heap.size = gy at xy ⊢
  clear hgyy
  refine hK.out _ _ (by exact ⟨mv BD rfl p0, mv BD rfl m0, mv BD rfl m1, mv BD rfl m2, mv BD rfl m3, mv BD rfl m4, mv BD rfl m5⟩) (fun hHeldv4 => ?_)
  clear hK K hHeldv3
  try simp only [Act.put]
  refine rdy 5 fun K hK => ?_
  go_simp
  have hr2 := rds_two (x := t) (y := y) xy (mv BD rfl h1) (mv BD rfl h2) h3 h4
  refine (show Calls _ _ #[.int .i64 ((k : Int) + 1), _] _ _ from by have h := jseries_ok (n := k + 1) (by omega) hr2 (by decide); exact h).mono ?_
  rintro en uf ⟨gt, rfl, b⟩
  replace BD := below_next BD BD.size b rfl rfl rfl rfl
  clear hr2 h3 h4 xy
  have G := mv b (by rfl) <| And.intro xrw <| xz
  clear xrw xz
  obtain ⟨xrw, xz⟩ := G
  clear b
  have hser := True.intro
  refine hK.out _ _ (by exact ⟨mv BD rfl p0, mv BD rfl m0, mv BD rfl m1, mv BD rfl m2, mv BD rfl m3, mv BD rfl m4, mv BD rfl m5⟩) (fun hHeldv5 => ?_)
  clear hK K hHeldv4
  try simp only [Act.put]
  refine tl 11 ?_
  rotate_left
  go_simp
  obtain ⟨uc, hr', xrw, hg9⟩ := makeR_run ub (n := nl) w6.heap.size (by omega)
  rw [hr']
  go_simp
  have b := (Below.refl ub.heap.size ub).grown hg9 (Nat.le_refl _) (fun _ e => by cases e)
  have hgr : w6.heap.size ≤ ub.heap.size := by have := BC.size; have := BD.size; omega
  replace BD := below_next BD BD.size b rfl rfl rfl rfl
  replace xz := mv b (by rfl) xz
  clear b hg9 hr'
  generalize hgrr : ub.heap.size = gr at xrw hgr ⊢
  clear hgrr
  refine hK.out _ _ (by exact ⟨mv BD rfl p0, mv BD rfl m0, mv BD rfl m1, mv BD rfl m2, mv BD rfl m3, mv BD rfl m4, mv BD rfl m5⟩) (fun hHeldv2 => ?_)
  clear hK K hHeldv1
  try simp only [Act.put]
  refine rdy 3 fun K hK => ?_
  go_simp
  refine (HW _ (mv BD rfl hT)).mono ?_
  rintro en ud ⟨A3, n3, c3, A4, n4, c4, rfl, h3, h4, b⟩
  replace BD := below_next BD BD.size b rfl rfl rfl rfl
  have G := mv b (by rfl) <| And.intro xrw <| xz
  clear xrw xz
  obtain ⟨xrw, xz⟩ := G
  clear b
  refine hK.out _ _ (by exact ⟨mv BD rfl p0, mv BD rfl m0, mv BD rfl m1, mv BD rfl m2, mv BD rfl m3, mv BD rfl m4, mv BD rfl m5⟩) (fun hHeldv3 => ?_)
  clear hK K hHeldv2
  try simp only [Act.put]
  refine rdy 4 fun K hK => ?_
  go_simp
  have b := below_alloc ud (.cells #[.bool t.lo.s, .slice A1 n1 c1, .int .i64 t.lo.e, .bool t.hi.s, .slice A2 n2 c2, .int .i64 t.hi.e, .bool y.lo.s, .slice A3 n3 c3, .int .i64 y.lo.e, .bool y.hi.s, .slice A4 n4 c4, .int .i64 y.hi.e] 29)
  have xy := Blk.new ud #[.bool t.lo.s, .slice A1 n1 c1, .int .i64 t.lo.e, .bool t.hi.s, .slice A2 n2 c2, .int .i64 t.hi.e, .bool y.lo.s, .slice A3 n3 c3, .int .i64 y.lo.e, .bool y.hi.s, .slice A4 n4 c4, .int .i64 y.hi.e] 29
  replace BD := below_next BD BD.size b rfl rfl rfl rfl
  have G := mv b (by rfl) <| And.intro h3 <| And.intro h4 <| And.intro xrw <| xz
  clear h3 h4 xrw xz
  obtain ⟨h3, h4, xrw, xz⟩ := G
  clear b
  generalize ud.alloc (.cells #[.bool t.lo.s, .slice A1 n1 c1, .int .i64 t.lo.e, .bool t.hi.s, .slice A2 n2 c2, .int .i64 t.hi.e, .bool y.lo.s, .slice A3 n3 c3, .int .i64 y.lo.e, .bool y.hi.s, .slice A4 n4 c4, .int .i64 y.hi.e] 29) = ue at *
  generalize hgyy : ud.heap.size = gy at xy ⊢
  clear hgyy
  refine hK.out _ _ (by exact ⟨mv BD rfl p0, mv BD rfl m0, mv BD rfl m1, mv BD rfl m2, mv BD rfl m3, mv BD rfl m4, mv BD rfl m5⟩) (fun hHeldv4 => ?_)
  clear hK K hHeldv3
  try simp only [Act.put]
  refine rdy 5 fun K hK => ?_
  go_simp
  have hr2 := rds_two (x := t) (y := y) xy (mv BD rfl h1) (mv BD rfl h2) h3 h4
  refine (show Calls _ _ #[.int .i64 ((k : Int) + 1), _] _ _ from by have h := jseries_ok (n := k + 1) (by omega) hr2 (by decide); exact h).mono ?_
  rintro en uf ⟨gt, rfl, b⟩
  replace BD := below_next BD BD.size b rfl rfl rfl rfl
  clear hr2 h3 h4 xy
  have G := mv b (by rfl) <| And.intro xrw <| xz
  clear xrw xz
  obtain ⟨xrw, xz⟩ := G
  clear b
  have hser := True.intro
  refine hK.out _ _ (by exact ⟨mv BD rfl p0, mv BD rfl m0, mv BD rfl m1, mv BD rfl m2, mv BD rfl m3, mv BD rfl m4, mv BD rfl m5⟩) (fun hHeldv5 => ?_)
  clear hK K hHeldv4
  try simp only [Act.put]
  refine tl 11 ?_
  rotate_left
  all_goals (
   refine rdy 13 fun K hK => ?_
   obtain ⟨f0, f1, f2, f3, f4⟩ := (show _ ∧ _ ∧ _ ∧ _ ∧ _ from ⟨blk_frozen xz 0, blk_frozen xz 1, blk_frozen xz 2, blk_frozen xz 3, blk_frozen xz 4⟩)
   have z0 : World.cell? _ ⟨gz, 0, none⟩ = some (.slice none 0 0) := xz.at 0
   have z1 : World.cell? _ ⟨gz, 1, none⟩ = some (.slice none 0 0) := xz.at 1
   have z2 : World.cell? _ ⟨gz, 2, none⟩ = some (.slice none 0 0) := xz.at 2
   have z3 : World.cell? _ ⟨gz, 3, none⟩ = some (.slice none 0 0) := xz.at 3
   have z4 : World.cell? _ ⟨gz, 4, none⟩ = some (.int .i64 0) := xz.at 4
   go_simp
   have hs := jsh_new (st := .slice (some ⟨gt, 0, none⟩) (k + 1) (k + 1)) (p := p) xz xrw hgr
   replace BD := below_put5 (g := gz) BD hgz (.slice (some ⟨gt, 0, none⟩) (k + 1) (k + 1)) (.slice none 0 0) (.slice none 0 0) (.slice (some ⟨gr, 0, none⟩) nl nl) (.int .i64 p)
   refine hK.out _ _ (by exact ⟨mv BD rfl p0, mv BD rfl m0, mv BD rfl m1, mv BD rfl m2, mv BD rfl m3, mv BD rfl m4, mv BD rfl m5⟩) (fun hHeldv6 => ?_)
   clear hK K hHeldv5
   try simp only [Act.put]
   refine wpAnyH_done (by kernel_rfl) ?_ _
   have BW := below_next BC BC.size BD rfl rfl rfl rfl
   have hgz2 : w6.heap.size ≤ gz := by have := BC.size; omega
   go_wp2
   go_meet
   case rel => exact ⟨gz, gr, _, rfl, nol_slice, hgz2, hs, BW⟩)
 case rest =>
  clear m0 m1 m2 m3 m4 m5 h1 h2
  obtain ⟨gs, gr, st, rfl, hst, hlo, hs, b⟩ := hcut
  have hTc := mv b rfl hT
  have hXc := mv b rfl hX
  go_wp2
  go_loopg [66] 0 (fun q v66 wr => v66 = .int .i64 0 ∧ wr = wc)
  case atStart => exact ⟨rfl, rfl⟩
  case round =>
   obtain ⟨rfl, hwr⟩ := hrel
   subst hwr
   go_wp2_with fail
   refine (jbegin_ok (w0 := w6) S hTc b hlo hs (by omega) hXc hst nol_slice Hmx.out ⟨hp1, by omega⟩ Hc.out).mono ?_
   rintro en w7 ⟨rfl, ⟨gx, cx, vx, hx, hs2, hgx, hvx⟩, b7⟩
   have hst0 : JSt w6 w7 gs gr gx nl cx st (.slice none 0 0) vx p (fun _ => .slice none 0 0) (fun _ => []) [c0] := ⟨hs2, hx, fun e => (by have := hs.rows.blk.gl; omega), fun i k hi hk e => (by have e2 : (none : Option Nat) = some k := e; cases e2), b7⟩
   clear b hs hx hs2 hTc hXc hst hgx hvx
   go_wp2
   go_step3
   go_wp2
   go_loopg [17, 87] k (fun q v17 v87 wr => ∃ (n : Nat) (vx : Value) (vs : Nat → Value) (Q : Nat → List Iv) (LX : List Iv), n + q = k ∧ v17 = .int .i64 0 ∧ v87 = .int .i64 n ∧ JSt w6 wr gs gr gx nl cx st (.slice none 0 0) vx p vs Q LX ∧ P n 0 Q LX)
   case atStart => exact ⟨0, vx, _, _, _, by omega, rfl, rfl, hst0, HP0.out⟩
   case round =>
    clear hst0 b7
    obtain ⟨n, vx, vs, Q, LX, hg, rfl, rfl, hst, hP⟩ := hrel
    have HG := Lib.hid hg
    clear hg
    have HP := Lib.hid hP
    clear hP
    have HL := Lib.hid (HPl.out.len _ _ _ _ HP.out)
    by_cases hn : n < k
    ·have hn2 : (n : Int) < (k : Int) := by omega
     have hn3 : (0 : Int) ≤ (n : Int) := by omega
     have p0r := mv hst.below rfl p0
     generalize gk = gk1 at *
     go_wp2
     go_loopg [17, 93] nl (fun q v17 v93 wr => ∃ (i : Nat) (vs : Nat → Value) (Q : Nat → List Iv), i + q = nl ∧ v17 = .int .i64 0 ∧ v93 = .int .i64 i ∧ JSt w6 wr gs gr gx nl cx st (.slice none 0 0) vx p vs Q LX ∧ P n i Q LX)
     case atStart => exact ⟨0, vs, Q, by omega, rfl, rfl, hst, HP.out⟩
     case round =>
      clear hst p0r HP HL
      obtain ⟨i, vs, Q, hg, rfl, rfl, hst, hP⟩ := hrel
      have HG2 := Lib.hid hg
      clear hg
      have HP := Lib.hid hP
      clear hP
      have HL := Lib.hid (HPl.out.len _ _ _ _ HP.out)
      by_cases hi : i < nl
      ·obtain ⟨R, hR⟩ := HPl.out.reck n i Q LX hn hi HP.out
       have HR := Lib.hid hR
       clear hR
       have hi2 : (i : Int) < (nl : Int) := by omega
       have hi3 : (0 : Int) ≤ (i : Int) := by omega
       obtain ⟨g, off, hal, hc⟩ := (mv hst.below rfl hL).at_ (by omega)
       obtain ⟨A1, n1, c1, A2, n2, c2, ⟨r0, r1, r2, r3, r4, r5, r6, r7, r8⟩, _, _⟩ := hc i hi
       subst hal
       have b1 := below_alloc wr (.cells #[.int .i64 (L i).op, .int .i64 (L i).a, .int .i64 (L i).b, .bool (L i).k.lo.s, .slice A1 n1 c1, .int .i64 (L i).k.lo.e, .bool (L i).k.hi.s, .slice A2 n2 c2, .int .i64 (L i).k.hi.e] 31)
       have hst1 := hst.go b1
       have hT1 := mv hst1.below rfl hT
       clear hc hst b1
       go_wp2_with fail
       refine (jreck_st (L := L) (R := R) hT1 hst1 hi (by have := HL.out.2 i hi; rw [this]; split <;> omega) HR.out.2).mono ?_
       rintro en w8 ⟨rfl, v', hst2⟩
       clear r0 r1 r2 r3 r4 r5 r6 r7 r8 hst1 hT1
       go_wp2
       go_roundg (gk - 1)
       case measure => have := HG2.out; omega
       case rel => exact ⟨i + 1, _, _, by have := HG2.out; omega, rfl, by go_num, hst2, HR.out.1⟩
      ·have hie : i = nl := by have := HG2.out; omega
       subst hie
       obtain ⟨R, hR⟩ := HPl.out.raise n Q LX hn HP.out
       have HR := Lib.hid hR
       clear hR
       have hT1 := mv hst.below rfl hT
       have p1r := mv hst.below rfl p1
       obtain ⟨go, oo, hao, hco⟩ := (mv hst.below rfl hO).at_ (by omega)
       have ho0 := hco 0 (by omega)
       rw [HO0.out, Nat.add_zero] at ho0
       subst hao
       clear hco
       go_wp2_with fail
       refine (jraise_st S hT1 hst ho0 hln (by have := HL.out.2 ln hln; rw [this, if_pos hln]; omega) (by omega) (by have := HL.out.1; omega) HR.out.1).mono ?_
       rintro en w8 ⟨rfl, v', hst2⟩
       clear hst hT1 p1r ho0
       go_wp2
       go_roundg (gk1 - 1)
       case measure => have := HG.out; omega
       case rel => exact ⟨n + 1, _, _, _, _, by have := HG.out; omega, rfl, by go_num, hst2, HR.out.2⟩
    ·have hne : n = k := by have := HG.out; omega
     subst hne
     have s1 : wr.cell? ⟨gs, 1, none⟩ = some (.slice (some ⟨gx, 0, none⟩) 1 cx) := hst.sh.box.at 1
     go_wp2
     have hbw : w.heap.size ≤ w6.heap.size := BB.size
     rw [Exit.noGoto_ret]
     exact bodyPost_ret (v := .tuple #[.slice (some ⟨gx, 0, none⟩) 1 cx, .int .i64 0]) (by simp [results, Tryz.results6, go_sem]) rfl ⟨gx, cx, vx, LX, Q, rfl, hst.x.lower hbw, HP.out, below_next BB BB.size hst.below rfl rfl rfl rfl⟩

end Go.Proofs.YteagjlcmgiknmaaGreatDoor
