/-
 Contracts of jet's next at a state's line and at the square of the first line, where all is told, at this translation. Condition: the slices read as limbs, the table of math/bits reads as its text lays it.
-/
import Derived.StillTailTactics
import Derived.Deep.CutBlock
import Derived.Test.YteagjlcmgiknmaaGreatDoorQJk
import Derived.Test.YteagjlcmgiknmaaGreatDoorQJp
import Derived.Test.YteagjlcmgiknmaaGreatDoorQJb
import Derived.Test.YteagjlcmgiknmaaGreatDoorQJf
import Derived.Test.YteagjlcmgiknmaaGreatDoorQRt
set_option maxHeartbeats 8000000
set_option maxRecDepth 100000
namespace Go.Proofs.YteagjlcmgiknmaaGreatDoor
open Go.RowKit


theorem jnext_state (S : Sc) {w : World} {kk R : Iv} {gs n cc : Nat} {Ac : Option Addr} {p : Int} {A1 : Option Addr} {n1 c1 : Nat} {A2 : Option Addr} {n2 c2 : Nat} {gx nx cx cX : Nat} {Ax : Option Addr} {X : Nat → Iv} (hT : Tab w) (s1 : w.cell? ⟨gs, 1, none⟩ = some (.slice (some ⟨gx, 0, none⟩) 1 cx)) (s4 : w.cell? ⟨gs, 4, none⟩ = some (.int .i64 p)) (x0 : w.cell? ⟨gx, 0, none⟩ = some (.slice Ax nx cX)) (hX : RdS w Ax nx cX X) (hn : n < nx) (hm : mayI S.K (X n) = true) (hp : 1 ≤ p ∧ p ≤ 2000) (hR : rouI S (X n) p = .ok R) :
  Calls Tryz.prog 50 #[.pointer (some ⟨gs, 0, none⟩), .agg #[.int .i64 3, .int .i64 0, .int .i64 0, .bool kk.lo.s, .slice A1 n1 c1, .int .i64 kk.lo.e, .bool kk.hi.s, .slice A2 n2 c2, .int .i64 kk.hi.e], .slice Ac n cc] w (GivI R w) := by
 obtain ⟨g1, o1, rfl, hc⟩ := hX.at_ (by omega)
 obtain ⟨A3, n3, c3, A4, n4, c4, ⟨a0, a1, a2, a3, a4, a5⟩, q3, q4⟩ := hc n hn
 clear hc hX
 generalize X n = x at *
 have HR := Lib.hid hR
 clear hR
 have hp2 : (n : Int) < nx := by omega
 have hp3 : (0 : Int) ≤ n := by omega
 have l1 : gs < w.heap.size := World.block_lt_of_cell? w _ s1
 have l2 : gx < w.heap.size := World.block_lt_of_cell? w _ x0
 have l4 : g1 < w.heap.size := World.block_lt_of_cell? w _ a0
 have e1 : gs ≠ w.heap.size + 1 := by omega
 have e2 : gx ≠ w.heap.size + 1 := by omega
 have e3 : w.heap.size ≠ w.heap.size + 1 := by omega
 have e4 : g1 ≠ w.heap.size + 1 := by omega
 have BB := two_below w (.cells #[.int .i64 3, .int .i64 0, .int .i64 0, .bool kk.lo.s, .slice A1 n1 c1, .int .i64 kk.lo.e, .bool kk.hi.s, .slice A2 n2 c2, .int .i64 kk.hi.e] 31) (.cells #[.bool false, .slice none 0 0, .int .i64 0, .bool false, .slice none 0 0, .int .i64 0] 29)
 have xl := mv (below_alloc (w.alloc (.cells #[.int .i64 3, .int .i64 0, .int .i64 0, .bool kk.lo.s, .slice A1 n1 c1, .int .i64 kk.lo.e, .bool kk.hi.s, .slice A2 n2 c2, .int .i64 kk.hi.e] 31)) (.cells #[.bool false, .slice none 0 0, .int .i64 0, .bool false, .slice none 0 0, .int .i64 0] 29)) rfl (Blk.new w #[.int .i64 3, .int .i64 0, .int .i64 0, .bool kk.lo.s, .slice A1 n1 c1, .int .i64 kk.lo.e, .bool kk.hi.s, .slice A2 n2 c2, .int .i64 kk.hi.e] 31)
 have r := ibx_one w (.cells #[.int .i64 3, .int .i64 0, .int .i64 0, .bool kk.lo.s, .slice A1 n1 c1, .int .i64 kk.lo.e, .bool kk.hi.s, .slice A2 n2 c2, .int .i64 kk.hi.e] 31) false none 0 0 0 false none 0 0 0
 have m0 : World.cell? _ ⟨_, 0, none⟩ = some (.int .i64 3) := xl.at 0
 have m1 : World.cell? _ ⟨_, 1, none⟩ = some (.int .i64 0) := xl.at 1
 have m2 : World.cell? _ ⟨_, 2, none⟩ = some (.int .i64 0) := xl.at 2
 clear xl
 clear m2
 have G := mv BB rfl <| And.intro hT <| And.intro s1 <| And.intro s4 <| And.intro x0 <| And.intro a0 <| And.intro a1 <| And.intro a2 <| And.intro a3 <| And.intro a4 <| And.intro a5 <| And.intro q3 q4
 clear hT s1 s4 x0 a0 a1 a2 a3 a4 a5 q3 q4
 obtain ⟨hT, s1, s4, x0, a0, a1, a2, a3, a4, a5, q3, q4⟩ := G
 go_enter Tryz.func50, Tryz.ntmps50
 go_upto_region 10 with fail
 generalize (w.alloc (.cells #[.int .i64 3, .int .i64 0, .int .i64 0, .bool kk.lo.s, .slice A1 n1 c1, .int .i64 kk.lo.e, .bool kk.hi.s, .slice A2 n2 c2, .int .i64 kk.hi.e] 31)).alloc (.cells #[.bool false, .slice none 0 0, .int .i64 0, .bool false, .slice none 0 0, .int .i64 0] 29) = W1 at *
 clear m0
 have b : Below W1.heap.size W1 (World.drew W1) := below_drewN (Below.refl _ _) 1
 replace BB := bnx BB b
 have G := mv b rfl (J14 hT r q3 q4 s1 s4 m1 x0 a0 a1 a2 a3 a4 a5)
 clear hT r q3 q4 s1 s4 m1 x0 a0 a1 a2 a3 a4 a5
 obtain ⟨hT, r, q3, q4, s1, s4, m1, x0, a0, a1, a2, a3, a4, a5⟩ := G
 clear b
 go_wp2_with fail
 refine wp_region_held_drew (S := fun w' => w'.cell? ⟨gs, 1, none⟩ = some (.slice (some ⟨gx, 0, none⟩) 1 cx) ∧ w'.cell? ⟨gs, 4, none⟩ = some (.int .i64 p) ∧ w'.cell? ⟨w.heap.size, 1, none⟩ = some (.int .i64 0) ∧ w'.cell? ⟨gx, 0, none⟩ = some (.slice (some ⟨g1, o1, none⟩) nx cX) ∧ w'.cell? ⟨g1, o1 + n * 6, none⟩ = some (.bool x.lo.s) ∧ w'.cell? ⟨g1, o1 + n * 6 + 1, none⟩ = some (.slice A3 n3 c3) ∧ w'.cell? ⟨g1, o1 + n * 6 + 2, none⟩ = some (.int .i64 x.lo.e) ∧ w'.cell? ⟨g1, o1 + n * 6 + 3, none⟩ = some (.bool x.hi.s) ∧ w'.cell? ⟨g1, o1 + n * 6 + 4, none⟩ = some (.slice A4 n4 c4) ∧ w'.cell? ⟨g1, o1 + n * 6 + 5, none⟩ = some (.int .i64 x.hi.e)) (by kernel_rfl) (by exact ⟨s1, s4, m1, x0, a0, a1, a2, a3, a4, a5⟩) (fun hHeldz0 => ?_)
 generalize World.drew W1 = wd at *
 refine tl 0 ?_
 refine tl 1 ?_
 refine tl 2 ?_
 refine tl 3 ?_
 refine tl 4 ?_
 refine tl 5 ?_
 refine tl 6 ?_
 refine tl 7 ?_
 refine tl 8 ?_
 refine tl 9 ?_
 refine tl 10 ?_
 refine tl 11 ?_
 refine rdy 12 fun K hK => ?_
 go_simp
 refine (jround_ok S hT q3 q4 hm hp s4 HR.out).mono ?_
 rintro en w2 ⟨A5, n5, c5, A6, n6, c6, rfl, h5, h6, b⟩
 replace BB := below_next BB BB.size b (by rfl) (by rfl) (by rfl) (by rfl)
 have G := mv b (by rfl) <| And.intro s1 <| And.intro s4 <| And.intro m1 <| And.intro x0 <| And.intro a0 <| And.intro a1 <| And.intro a2 <| And.intro a3 <| And.intro a4 <| And.intro a5 <| r
 clear s1 s4 m1 x0 a0 a1 a2 a3 a4 a5 r
 obtain ⟨s1, s4, m1, x0, a0, a1, a2, a3, a4, a5, r⟩ := G
 clear b hT q3 q4
 obtain ⟨f0, f1, f2, f3, f4, f5⟩ := r.open
 obtain ⟨z0, z1, z2, z3, z4, z5⟩ := r.held
 refine hK.out _ _ (by exact ⟨s1, s4, m1, x0, a0, a1, a2, a3, a4, a5⟩) (fun hHeldz1 => ?_)
 clear hK K hHeldz0
 try simp only [Act.put]
 refine rdy 13 fun K hK => ?_
 go_simp
 refine hK.out _ _ (by exact ⟨cell_oth6 s1 e1, cell_oth6 s4 e1, cell_oth6 m1 e3, cell_oth6 x0 e2, cell_oth6 a0 e4, cell_oth6 a1 e4, cell_oth6 a2 e4, cell_oth6 a3 e4, cell_oth6 a4 e4, cell_oth6 a5 e4⟩) (fun hHeldz2 => ?_)
 clear hK K hHeldz1
 try simp only [Act.put]
 refine wpAnyH_done (by kernel_rfl) ?_ _
 go_wp2
 have qq := r.put R.lo.s A5 n5 c5 R.lo.e R.hi.s A6 n6 c6 R.hi.e
 have hN := h5.put6 r (.bool R.lo.s) (.slice A5 n5 c5) (.int .i64 R.lo.e) (.bool R.hi.s) (.slice A6 n6 c6) (.int .i64 R.hi.e)
 have hM := h6.put6 r (.bool R.lo.s) (.slice A5 n5 c5) (.int .i64 R.lo.e) (.bool R.hi.s) (.slice A6 n6 c6) (.int .i64 R.hi.e)
 have HB3 := below_put6 (g := w.heap.size + 1) BB (by omega) (.bool R.lo.s) (.slice A5 n5 c5) (.int .i64 R.lo.e) (.bool R.hi.s) (.slice A6 n6 c6) (.int .i64 R.hi.e)
 obtain ⟨z0, z1, z2, z3, z4, z5⟩ := qq.held
 exact bodyPost_ret (v := .agg #[.bool R.lo.s, .slice A5 n5 c5, .int .i64 R.lo.e, .bool R.hi.s, .slice A6 n6 c6, .int .i64 R.hi.e]) (by simp [results, Tryz.results50, go_sem, z0, z1, z2, z3, z4, z5]) rfl ⟨_, _, _, _, _, _, rfl, hN, hM, HB3⟩

theorem jnext_mul (S : Sc) {w : World} {kk R : Iv} {gs n cc : Nat} {Ac : Option Addr} {p : Int} {A1 : Option Addr} {n1 c1 : Nat} {A2 : Option Addr} {n2 c2 : Nat} {gr nl cl nr cr : Nat} {Ar : Option Addr} {X : List Iv} (hT : Tab w) (s3 : w.cell? ⟨gs, 3, none⟩ = some (.slice (some ⟨gr, 0, none⟩) nl cl)) (s4 : w.cell? ⟨gs, 4, none⟩ = some (.int .i64 p)) (hl : 0 < nl) (y0 : w.cell? ⟨gr, 0, none⟩ = some (.slice Ar nr cr)) (hX : RdS w Ar nr cr (fun i => X.getD i Iv.zero)) (hn : n < nr) (hn2 : n ≤ 1000) (hR : prodO S X X n p n = .ok R) :
  Calls Tryz.prog 50 #[.pointer (some ⟨gs, 0, none⟩), .agg #[.int .i64 8, .int .i64 0, .int .i64 0, .bool kk.lo.s, .slice A1 n1 c1, .int .i64 kk.lo.e, .bool kk.hi.s, .slice A2 n2 c2, .int .i64 kk.hi.e], .slice Ac n cc] w (GivI R w) := by
 have HR := Lib.hid hR
 clear hR
 have l1 : gs < w.heap.size := World.block_lt_of_cell? w _ s3
 have hp2 : (0 : Int) < nl := by omega
 have BB := two_below w (.cells #[.int .i64 8, .int .i64 0, .int .i64 0, .bool kk.lo.s, .slice A1 n1 c1, .int .i64 kk.lo.e, .bool kk.hi.s, .slice A2 n2 c2, .int .i64 kk.hi.e] 31) (.cells #[.bool false, .slice none 0 0, .int .i64 0, .bool false, .slice none 0 0, .int .i64 0] 29)
 have xl := mv (below_alloc (w.alloc (.cells #[.int .i64 8, .int .i64 0, .int .i64 0, .bool kk.lo.s, .slice A1 n1 c1, .int .i64 kk.lo.e, .bool kk.hi.s, .slice A2 n2 c2, .int .i64 kk.hi.e] 31)) (.cells #[.bool false, .slice none 0 0, .int .i64 0, .bool false, .slice none 0 0, .int .i64 0] 29)) rfl (Blk.new w #[.int .i64 8, .int .i64 0, .int .i64 0, .bool kk.lo.s, .slice A1 n1 c1, .int .i64 kk.lo.e, .bool kk.hi.s, .slice A2 n2 c2, .int .i64 kk.hi.e] 31)
 have r := ibx_one w (.cells #[.int .i64 8, .int .i64 0, .int .i64 0, .bool kk.lo.s, .slice A1 n1 c1, .int .i64 kk.lo.e, .bool kk.hi.s, .slice A2 n2 c2, .int .i64 kk.hi.e] 31) false none 0 0 0 false none 0 0 0
 have m0 : World.cell? _ ⟨_, 0, none⟩ = some (.int .i64 8) := xl.at 0
 have m1 : World.cell? _ ⟨_, 1, none⟩ = some (.int .i64 0) := xl.at 1
 have m2 : World.cell? _ ⟨_, 2, none⟩ = some (.int .i64 0) := xl.at 2
 clear xl
 have G := mv BB rfl <| And.intro hT <| And.intro s3 <| And.intro s4 <| And.intro y0 hX
 clear hT s3 s4 y0 hX
 obtain ⟨hT, s3, s4, y0, hX⟩ := G
 go_enter Tryz.func50, Tryz.ntmps50
 go_upto_region 13 with fail
 generalize (w.alloc (.cells #[.int .i64 8, .int .i64 0, .int .i64 0, .bool kk.lo.s, .slice A1 n1 c1, .int .i64 kk.lo.e, .bool kk.hi.s, .slice A2 n2 c2, .int .i64 kk.hi.e] 31)).alloc (.cells #[.bool false, .slice none 0 0, .int .i64 0, .bool false, .slice none 0 0, .int .i64 0] 29) = W1 at *
 have b : Below W1.heap.size W1 (World.drew W1) := below_drewN (Below.refl _ _) 1
 replace BB := bnx BB b
 have G := mv b rfl (J9 hT r hX s4 m0 s3 m1 m2 y0)
 clear hT r hX s4 m0 s3 m1 m2 y0
 obtain ⟨hT, r, hX, s4, m0, s3, m1, m2, y0⟩ := G
 clear b
 go_wp2_with fail
 refine wp_region_held_drew (S := fun w' => w'.cell? ⟨gs, 3, none⟩ = some (.slice (some ⟨gr, 0, none⟩) nl cl) ∧ w'.cell? ⟨w.heap.size, 1, none⟩ = some (.int .i64 0) ∧ w'.cell? ⟨w.heap.size, 2, none⟩ = some (.int .i64 0) ∧ w'.cell? ⟨gr, 0, none⟩ = some (.slice Ar nr cr)) (by kernel_rfl) (by exact ⟨s3, m1, m2, y0⟩) (fun hHeldy0 => ?_)
 generalize World.drew W1 = wd at *
 refine tl 0 ?_
 refine tl 1 ?_
 refine tl 2 ?_
 refine tl 3 ?_
 refine tl 4 ?_
 refine tl 5 ?_
 refine tl 6 ?_
 refine tl 7 ?_
 refine tl 8 ?_
 refine tl 9 ?_
 refine tl 10 ?_
 refine tl 11 ?_
 refine tl 12 ?_
 refine tl 13 ?_
 refine tl 14 ?_
 refine tl 15 ?_
 refine tl 16 ?_
 refine tl 17 ?_
 refine wpAnyH_done (by kernel_rfl) ?_ _
 clear m1 m2 s3 y0
 go_wp2_with fail
 refine (jproduct_ok S hT s4 hX hX hn hn hn2 HR.out).mono ?_
 rintro en w2 ⟨A5, n5, c5, A6, n6, c6, rfl, h5, h6, b⟩
 replace BB := bnx BB b
 replace r := mv b rfl r
 clear b hT hX s4 m0
 obtain ⟨f0, f1, f2, f3, f4, f5⟩ := r.open
 obtain ⟨z0, z1, z2, z3, z4, z5⟩ := r.held
 go_wp2
 have qq := r.put R.lo.s A5 n5 c5 R.lo.e R.hi.s A6 n6 c6 R.hi.e
 have hN := h5.put6 r (.bool R.lo.s) (.slice A5 n5 c5) (.int .i64 R.lo.e) (.bool R.hi.s) (.slice A6 n6 c6) (.int .i64 R.hi.e)
 have hM := h6.put6 r (.bool R.lo.s) (.slice A5 n5 c5) (.int .i64 R.lo.e) (.bool R.hi.s) (.slice A6 n6 c6) (.int .i64 R.hi.e)
 have HB3 := below_put6 (g := w.heap.size + 1) BB (by omega) (.bool R.lo.s) (.slice A5 n5 c5) (.int .i64 R.lo.e) (.bool R.hi.s) (.slice A6 n6 c6) (.int .i64 R.hi.e)
 obtain ⟨z0, z1, z2, z3, z4, z5⟩ := qq.held
 exact bodyPost_ret (v := .agg #[.bool R.lo.s, .slice A5 n5 c5, .int .i64 R.lo.e, .bool R.hi.s, .slice A6 n6 c6, .int .i64 R.hi.e]) (by simp [results, Tryz.results50, go_sem, z0, z1, z2, z3, z4, z5]) rfl ⟨_, _, _, _, _, _, rfl, hN, hM, HB3⟩

end Go.Proofs.YteagjlcmgiknmaaGreatDoor
namespace Go.Proofs.YteagjlcmgiknmaaGreatDoor
open Go.RowKit

/-- a line that is the state -/
theorem next_state_ok (S : Sc) {nl i n : Nat} {p : Int} {L : Nat → Ln} {Q : Nat → List Iv} {LX : List Iv} {R : Iv} (hL : L i = ⟨3, 0, 0, Iv.zero⟩) (hn : (Q i).length = n) (hx : n < LX.length) (hm : mayI S.K (LX.getD n Iv.zero) = true) (hp : 1 ≤ p ∧ p ≤ 2000) (hR : rouI S (LX.getD n Iv.zero) p = .ok R) : NextOk nl p L i Q LX R := by
 intro w0 w gs gr gx cx st sp vx vs h hT Ac cc A1 n1 c1 A2 n2 c2
 obtain ⟨Ax, cX, hv, hX, _⟩ := h.x.row.form
 have h0 := h.x.first
 rw [hv] at h0
 rw [hL, hn]
 exact jnext_state (kk := Iv.zero) S hT (h.sh.box.at 1) (h.sh.box.at 4) h0 hX hx hm hp hR
/-- a line that is the first one times itself -/
theorem next_mul_ok (S : Sc) {nl i n : Nat} {p : Int} {L : Nat → Ln} {Q : Nat → List Iv} {LX : List Iv} {R : Iv} (hL : L i = ⟨8, 0, 0, Iv.zero⟩) (hn : (Q i).length = n) (h0 : 0 < nl) (hx : n < (Q 0).length) (hn2 : n ≤ 1000) (hR : prodO S (Q 0) (Q 0) n p n = .ok R) : NextOk nl p L i Q LX R := by
 intro w0 w gs gr gx cx st sp vx vs h hT Ac cc A1 n1 c1 A2 n2 c2
 obtain ⟨A, c, hv, hy, hX⟩ := h.sh.rows.at h0
 rw [hL, hn]
 exact jnext_mul (kk := Iv.zero) S hT (h.sh.box.at 3) (h.sh.box.at 4) h0 hy hX hx hn2 hR
theorem getD_app {L : List Iv} {n j : Nat} {R z : Iv} (hl : L.length = n) : (L ++ [R]).getD j z = if j < n then L.getD j z else if j = n then R else z := by
 subst hl
 rw [List.getD_eq_getElem?_getD, List.getD_eq_getElem?_getD]
 split
 ·next h => rw [List.getElem?_append_left h]
 ·next h =>
  split
  ·next e => subst e; rw [List.getElem?_append_right (Nat.le_refl _), Nat.sub_self]; rfl
  ·next e => rw [List.getElem?_eq_none (by rw [List.length_append, List.length_singleton]; omega)]; rfl
/-- something of each element, one more behind -/
theorem all_app {L : List Iv} {n : Nat} {R : Iv} {F : Nat → Iv → Prop} (hl : L.length = n) (h : ∀ j, j < n → F j (L.getD j Iv.zero)) (hR : F n R) : ∀ j, j < n + 1 → F j ((L ++ [R]).getD j Iv.zero) := fun j hj => by
 rw [getD_app hl]
 by_cases e : j < n
 ·rw [if_pos e]; exact h j e
 ·obtain rfl : j = n := by omega
  rw [if_neg e, if_pos rfl]; exact hR
def L1x : Nat → Ln := fun _ => ⟨3, 0, 0, Iv.zero⟩
/-- the state of Solve's loops for x' = x: G of the coefficient j -/
def PE (G : Nat → Iv → Prop) (n i : Nat) (R : Nat → List Iv) (X : List Iv) : Prop :=
 X.length = n + 1 ∧ (R 0).length = (if 0 < i then n + 1 else n) ∧ (∀ j, j < n + 1 → G j (X.getD j Iv.zero)) ∧ ∀ j, j < (if 0 < i then n + 1 else n) → G j ((R 0).getD j Iv.zero)
theorem plan_exp (S : Sc) {k : Nat} {p : Int} {G : Nat → Iv → Prop} (hp : 1 ≤ p ∧ p ≤ 100) (hm : ∀ n I, G n I → mayI S.K I = true) (h1 : ∀ n I, n < k → G n I → ∃ R, rouI S I p = .ok R ∧ G n R) (h2 : ∀ n I, n < k → G n I → ∃ R, divF S I ⟨wQ (n + 1), wQ (n + 1)⟩ p = .ok R ∧ G (n + 1) R) : Plan S 1 k 0 p L1x (PE G) where
 reck n i Q LX hn hi h := by
  obtain rfl : i = 0 := by omega
  obtain ⟨g1, g2, g3, g4⟩ := h
  rw [if_neg (by omega)] at g2 g4
  obtain ⟨R, hR, hg⟩ := h1 n _ hn (g3 n (by omega))
  refine ⟨R, ⟨g1, ?_, g3, ?_⟩, next_state_ok S rfl g2 (by omega) (hm _ _ (g3 n (by omega))) ⟨hp.1, by omega⟩ hR⟩
  ·rw [if_pos (by omega), upd_at, List.length_append, List.length_singleton, g2]
  ·rw [if_pos (by omega), upd_at]
   exact all_app (F := G) g2 g4 hg
 raise n Q LX hn h := by
  obtain ⟨g1, g2, g3, g4⟩ := h
  rw [if_pos (by omega)] at g2 g4
  obtain ⟨R, hR, hg⟩ := h2 n _ hn (g4 n (by omega))
  refine ⟨R, hR, ?_, ?_, all_app (F := G) g1 g3 hg, ?_⟩
  ·rw [List.length_append, List.length_singleton, g1]
  ·rw [if_neg (by omega)]; exact g2
  ·rw [if_neg (by omega)]; exact g4
 len n i Q LX h := ⟨h.1, fun j hj => by
  obtain rfl : j = 0 := by omega
  exact h.2.1⟩
theorem fx_may {S : Sc} {P Q n : Nat} {D : Int} {I : Iv} (h : Fx S P Q D n I) : mayI S.K I = true := bo_may h.1
theorem plan_fx (S : Sc) {k P Q : Nat} {p D : Int} (hp : 1 ≤ p ∧ p ≤ 100) (hk : k ≤ 9) (hP : P = p.toNat + 8) (hQ : Q = p.toNat + 9) : Plan S 1 k 0 p L1x (PE (Fx S P Q D)) :=
 plan_exp S hp (fun _ _ h => fx_may h) (fun n I hn h => fx_rou hp (by omega) (by omega) (by omega) h) (fun n I hn h => fx_next hp (by omega) hP hQ (who_small S (by omega) (by omega)) h)
def L2x : Nat → Ln
 | 0 => ⟨3, 0, 0, Iv.zero⟩
 | _ => ⟨8, 0, 0, Iv.zero⟩
/-- the state of Solve's loops for x' = x x -/
def PS (S : Sc) (p : Int) (z : Int) (n i : Nat) (R : Nat → List Iv) (X : List Iv) : Prop :=
 X.length = n + 1 ∧ (R 0).length = (if 0 < i then n + 1 else n) ∧ (R 1).length = (if 1 < i then n + 1 else n) ∧ Sq S (p.toNat + 8) (p.toNat + 19) z (n + 1) X ∧ Sq S (p.toNat + 8) (p.toNat + 19) z (if 0 < i then n + 1 else n) (R 0) ∧ (1 < i → prodO S (R 0) (R 0) n p n = .ok ((R 1).getD n Iv.zero))
theorem plan_sq (S : Sc) {k : Nat} {p z : Int} (hp : 1 ≤ p ∧ p ≤ 100) (hk : k ≤ 9) (hz : z.natAbs ≤ 15) : Plan S 2 k 1 p L2x (PS S p z) where
 reck n i Q LX hn hi h := by
  obtain ⟨g1, g2, g3, g4, g5, g6⟩ := h
  rcases (show i = 0 ∨ i = 1 by omega) with rfl | rfl
  ·rw [if_neg (by omega)] at g2 g3 g5
   obtain ⟨b, c⟩ := g4 n (by omega)
   obtain ⟨R, hR, hb, hc⟩ := sq_rou hp (by omega) (by omega) (by omega) b c
   refine ⟨R, ⟨g1, ?_, ?_, g4, ?_, fun h => absurd h (by omega)⟩, next_state_ok S rfl g2 (by omega) (bo_may b) ⟨hp.1, by omega⟩ hR⟩
   ·rw [if_pos (by omega), upd_at, List.length_append, List.length_singleton, g2]
   ·rw [if_neg (by omega), upd_far (by omega)]; exact g3
   ·rw [if_pos (by omega), upd_at]
    exact all_app (F := fun j I => Bo S (fB (p.toNat + 8) j) (mB (p.toNat + 19) j) I ∧ Ni S (3 * (j + 1)) (z ^ (j + 1)) I) g2 g5 ⟨hb, hc⟩
  ·rw [if_pos (by omega)] at g2 g5
   rw [if_neg (by omega)] at g3
   obtain ⟨t, x, ht, _⟩ := sq_next hp (by omega) rfl rfl hz (who_small S (n := n + 1) (by omega) (by omega)) g5
   refine ⟨t, ⟨g1, ?_, ?_, g4, ?_, fun _ => ?_⟩, next_mul_ok S rfl g3 (by omega) (by omega) (by omega) ht⟩
   ·rw [if_pos (by omega), upd_far (by omega)]; exact g2
   ·rw [if_pos (by omega), upd_at, List.length_append, List.length_singleton, g3]
   ·rw [if_pos (by omega), upd_far (by omega)]; exact g5
   ·rw [upd_at, upd_far (by omega), getD_app g3, if_neg (by omega), if_pos rfl]; exact ht
 raise n Q LX hn h := by
  obtain ⟨g1, g2, g3, g4, g5, g6⟩ := h
  rw [if_pos (by omega)] at g2 g3 g5
  obtain ⟨t, x, ht, hx, hb, hc⟩ := sq_next hp (by omega) rfl rfl hz (who_small S (n := n + 1) (by omega) (by omega)) g5
  have e : (Q 1).getD n Iv.zero = t := by
   have h := (g6 (by omega)).symm.trans ht
   injection h
  refine ⟨x, by rw [e]; exact hx, ?_, ?_, ?_, ?_, ?_, fun h => absurd h (by omega)⟩
  ·rw [List.length_append, List.length_singleton, g1]
  ·rw [if_neg (by omega)]; exact g2
  ·rw [if_neg (by omega)]; exact g3
  ·exact all_app (F := fun j I => Bo S (fB (p.toNat + 8) j) (mB (p.toNat + 19) j) I ∧ Ni S (3 * (j + 1)) (z ^ (j + 1)) I) g1 g4 ⟨hb, hc⟩
  ·rw [if_neg (by omega)]; exact g5
 len n i Q LX h := ⟨h.1, fun j hj => by
  rcases (show j = 0 ∨ j = 1 by omega) with rfl | rfl
  ·exact h.2.1
  ·exact h.2.2.1⟩
/-- 1 and 1/2, as they are rounded to 30 bits -/
theorem P30 : (1 : Int) ≤ 30 ∧ (30 : Int) ≤ 2000 := ⟨by decide, by decide⟩
theorem pw_may (e : Int) (h1 : -100 ≤ e) (h2 : e ≤ 100) : (pwQ e).may = true := Rw.of_may (okd_small rfl (by omega) (by omega) (by omega))
theorem pw_val (e : Int) : val Go.Proofs.YteagjlcmgiknmaaGreatDoor.W (pwQ e).l = 1 := val_dig W_two 1
theorem rou_pw (S : Sc) (e : Int) (h1 : -100 ≤ e) (h2 : e ≤ 100) : rouI S (pwI e) 30 = .ok (pwI e) := out_pt P30 (pw_may e h1 h2) (show blen (val Go.Proofs.YteagjlcmgiknmaaGreatDoor.W (pwQ e).l) ≤ _ by rw [pw_val, show blen 1 = 1 from blen_eq (k := 0) (by decide) (by decide)]; decide)
theorem wQ_one : wQ 1 = pwQ 0 := by
 unfold wQ pwQ
 rw [show Lib.ctz 64 1 = 0 by decide]
 rfl
theorem wQ_two : wQ 2 = pwQ 1 := by
 unfold wQ pwQ
 rw [show Lib.ctz 64 2 = 1 by decide]
 rfl
theorem quo_pw (S : Sc) (up : Bool) {e f : Int} (h1 : -50 ≤ e) (h2 : e ≤ 50) (h3 : -50 ≤ f) (h4 : f ≤ 50) : quoO S 30 up (pwQ e) (pwQ f) = .ok (pwQ (e - f)) := by
 have b1 : blen 1 = 1 := blen_eq (k := 0) (by decide) (by decide)
 have b30 : blen (2 ^ 30) = 31 := blen_eq (k := 30) (by decide) (by decide)
 refine (S.is _ 0 false 1 (e - f) quotR_only ?_).1 rfl
 unfold quotR
 rw [if_pos ⟨P30, pw_may e (by omega) (by omega), pw_may f (by omega) (by omega)⟩, if_neg (by rw [pw_val]; decide), pw_val, pw_val]
 unfold QuTold
 have eq : 1 * 2 ^ kUp 30 1 1 / (1 * 2 ^ kDn 30 1 1) = 2 ^ 30 := by unfold kUp kDn; rw [b1]
 have e0 : (30 : Int).toNat = 30 := rfl
 have e1 : ∀ u, cutR 30 (2 ^ 30) (!decide (1 * 2 ^ kUp 30 1 1 % (1 * 2 ^ kDn 30 1 1) = 0)) u = 2 ^ 29 * (2 * 0 + 1) := fun u => by
  have e2 : (1 * 2 ^ kUp 30 1 1 % (1 * 2 ^ kDn 30 1 1)) = 0 := by unfold kUp kDn; rw [b1]
  rw [e2]
  unfold cutR
  rw [b30]
  simp
 rw [e0, eq, e1, b30, b1]
 exact nm_small (by omega) (by show e - f - _ + _ + _ = _; omega) (by omega) (by omega)
theorem div_pw (S : Sc) {e f : Int} (h1 : -50 ≤ e) (h2 : e ≤ 50) (h3 : -50 ≤ f) (h4 : f ≤ 50) : divF S (pwI e) (pwI f) 30 = .ok (pwI (e - f)) := by
 unfold divF
 rw [show pwI e = ⟨pwQ e, pwQ e⟩ from rfl, show pwI f = ⟨pwQ f, pwQ f⟩ from rfl, face2_pt P30 (pw_may e (by omega) (by omega)) (pw_may f (by omega) (by omega))]
 unfold divI
 have hv : 0 < (pwQ f).v S.K := by
  unfold pwQ
  rw [Rw.of_v]
  exact (vz_pos (by omega)).1 rfl
 rw [if_neg (fun h => by
  have h1 := (hasI_iff.1 h).2.2.1
  have h2 : Rw.zero.v S.K = 0 := vz_zero S.K false 0
  have h3 : (pwQ f).v S.K ≤ Rw.zero.v S.K := h1
  omega)]
 have hcor : ∀ up, corO (quoO S 30 up) ⟨pwQ e, pwQ e⟩ ⟨pwQ f, pwQ f⟩ = .ok [pwQ (e - f), pwQ (e - f), pwQ (e - f), pwQ (e - f)] := fun up => by
  unfold corO
  simp only [thn, quo_pw S up h1 h2 h3 h4]
 have hall : ∀ z ∈ [pwQ (e - f), pwQ (e - f), pwQ (e - f), pwQ (e - f)], z = pwQ (e - f) := fun z hz => by simpa using hz
 have hmay : ∀ z ∈ [pwQ (e - f), pwQ (e - f), pwQ (e - f), pwQ (e - f)], z.may = true := fun z hz => by rw [hall z hz]; exact pw_may (e - f) (by omega) (by omega)
 have e1 := hall _ (lea_of (S := S) (List.cons_ne_nil _ _) hmay).1
 have e2 := hall _ (gre_of (S := S) (List.cons_ne_nil _ _) hmay).1
 rw [hcor, hcor]
 show Except.ok (⟨leaL S _, greL S _⟩ : Iv) = _
 rw [e1, e2]
 rfl
/-- what told asks of the coefficients of x' = x from 1: they are told exactly up to 1/2 -/
def Gt9 (S : Sc) (n : Nat) (I : Iv) : Prop := Fx S 38 39 ((pwQ 0).v S.K) n I ∧ (n = 0 → I = pwI 0) ∧ (n = 1 → I = pwI 0) ∧ (n = 2 → I = pwI (-1))
theorem plan_t9 (S : Sc) : Plan S 1 3 0 30 L1x (PE (Gt9 S)) := by
 have hp : (1 : Int) ≤ 30 ∧ (30 : Int) ≤ 100 := ⟨by decide, by decide⟩
 have e30 : (30 : Int).toNat = 30 := rfl
 have d1 : divF S (pwI 0) ⟨wQ 1, wQ 1⟩ 30 = .ok (pwI 0) := by
  rw [wQ_one]; exact div_pw S (e := 0) (f := 0) (by omega) (by omega) (by omega) (by omega)
 have d2 : divF S (pwI 0) ⟨wQ 2, wQ 2⟩ 30 = .ok (pwI (-1)) := by
  rw [wQ_two]; exact div_pw S (e := 0) (f := 1) (by omega) (by omega) (by omega) (by omega)
 have inj : ∀ {a b : Iv} {o : Except Int Iv}, o = .ok a → o = .ok b → a = b := fun h1 h2 => by
  have h := h1.symm.trans h2
  injection h
 refine plan_exp S hp (fun _ _ h => fx_may h.1) (fun n I hn h => ?_) (fun n I hn h => ?_)
 ·obtain ⟨R, hR, hg⟩ := fx_rou hp (show n ≤ 10 by omega) (by omega) (by omega) h.1
  refine ⟨R, hR, hg, fun e => ?_, fun e => ?_, fun e => ?_⟩
  ·rw [h.2.1 e] at hR; exact inj hR (rou_pw S 0 (by omega) (by omega))
  ·rw [h.2.2.1 e] at hR; exact inj hR (rou_pw S 0 (by omega) (by omega))
  ·rw [h.2.2.2 e] at hR; exact inj hR (rou_pw S (-1) (by omega) (by omega))
 ·obtain ⟨R, hR, hg⟩ := fx_next hp (show n ≤ 8 by omega) (P := 38) (Q := 39) rfl rfl (who_small S (n := n + 1) (by omega) (by omega)) h.1
  refine ⟨R, hR, hg, fun e => absurd e (by omega), fun e => ?_, fun e => ?_⟩
  ·obtain rfl : n = 0 := by omega
   rw [h.2.1 rfl] at hR; exact inj hR d1
  ·obtain rfl : n = 1 := by omega
   rw [h.2.2.1 rfl] at hR; exact inj hR d2
theorem at_pw0 {S : Sc} : At S 0 1 (pwQ 0) := at_of (m := 1) (j := 0) rfl (by omega) (by omega)
section
variable {S : Sc} {P Q : Nat} {z : Int} {d : Rw}
theorem fx_start (hd : At S 3 z d) (hz : z.natAbs ≤ 16) : Fx S P Q (d.v S.K) 0 ⟨d, d⟩ := by
 have hb : Bo S 3 4 ⟨d, d⟩ := ⟨z, z, hd, hd, Int.le_refl _, hz, hz⟩
 refine ⟨?_, ?_, ?_⟩
 ·rw [Nat.zero_mul, Nat.zero_mul]; exact hb
 ·show ((1 : Nat) : Int) * d.v S.K ≤ d.v S.K
  omega
 ·show d.v S.K ≤ ((1 : Nat) : Int) * d.v S.K
  omega
theorem sq_start (hd : At S 3 z d) (hz : z.natAbs ≤ 16) : Bo S (fB P 0) (mB Q 0) ⟨d, d⟩ ∧ Ni S (3 * (0 + 1)) (z ^ (0 + 1)) ⟨d, d⟩ := by
 have hb : Bo S 3 4 ⟨d, d⟩ := ⟨z, z, hd, hd, Int.le_refl _, hz, hz⟩
 refine ⟨?_, ?_⟩
 ·rw [show fB P 0 = 3 by unfold fB; omega, show mB Q 0 = 4 by unfold mB; omega]; exact hb
 ·rw [Int.pow_succ, Int.pow_zero, Int.one_mul]; exact pt_ni hd
end
theorem pe_start {G : Nat → Iv → Prop} {c : Iv} (h : G 0 c) : PE G 0 0 (fun _ => []) [c] := by
 refine ⟨rfl, rfl, fun j hj => ?_, fun j hj => absurd hj (by simp)⟩
 obtain rfl : j = 0 := by omega
 exact h
theorem ps_start {S : Sc} {p z : Int} {c : Iv} (h : Bo S (fB (p.toNat + 8) 0) (mB (p.toNat + 19) 0) c ∧ Ni S (3 * (0 + 1)) (z ^ (0 + 1)) c) : PS S p z 0 0 (fun _ => []) [c] := by
 refine ⟨rfl, rfl, rfl, fun j hj => ?_, fun j hj => absurd hj (by simp), fun h => absurd h (by omega)⟩
 obtain rfl : j = 0 := by omega
 exact h
theorem t9_start (S : Sc) : PE (Gt9 S) 0 0 (fun _ => []) [pwI 0] := by
 have h3 := at_up (at_pw0 (S := S)) 3
 exact pe_start ⟨fx_start h3 (by decide), fun _ => rfl, fun e => absurd e (by omega), fun e => absurd e (by omega)⟩
theorem t9_less {S : Sc} {I : Iv} (h : Gt9 S 3 I) : ∃ u v, At S 117 u I.lo ∧ At S 117 v I.hi ∧ u < v := by
 have h3 := at_up (at_pw0 (S := S)) 3
 obtain ⟨u, v, h1, h2, _, _, _, h4, h5⟩ := fx_ends h3 h.1
 refine ⟨u, v, h1, h2, ?_⟩
 have e1 : (fac 3 : Int) = 6 := rfl
 rw [e1] at h4 h5
 obtain ⟨k, hk⟩ : ∃ k : Int, (1 : Int) * ((2 ^ 3 : Nat) : Int) * ((2 ^ (3 * 38) : Nat) : Int) = 3 * k + 2 := ⟨(2 ^ 117 - 2) / 3, by decide⟩
 rw [hk] at h4 h5
 omega
theorem bare_same9 : sameI Iv.zero Iv.zero = true := by decide
theorem may_l1 (K : Nat) : mayT K ⟨1, L1x, 1, fun _ => 0⟩ 1 0 0 = true := mayT_iff.2 ⟨by show 1 ≤ 200; omega, by show 1 ≤ 200; omega, fun i _ => by
 show mayLn K ⟨3, 0, 0, Iv.zero⟩ _ 1 0 0 = true
 simp [mayLn, bareB, bare_same9, belowB], fun j _ => belowB_iff.2 ⟨by show (0 : Int) ≤ 0; omega, by show (0 : Int) < 1; omega⟩⟩
theorem may_l1_no (K : Nat) : ¬ mayT K ⟨1, L1x, 1, fun _ => 0⟩ 0 0 0 = true := fun h => by
 have := (mayT_iff.1 h).2.2.1 0 (by show 0 < 1; omega)
 have h2 : mayLn K ⟨3, 0, 0, Iv.zero⟩ ((0 : Nat) : Int) 0 0 0 = true := this
 simp [mayLn, belowB] at h2
theorem may_l2 (K : Nat) : mayT K ⟨2, L2x, 1, fun _ => 1⟩ 1 0 0 = true := mayT_iff.2 ⟨by show 2 ≤ 200; omega, by show 1 ≤ 200; omega, fun i hi => by
 have hi : i < 2 := hi
 rcases (show i = 0 ∨ i = 1 by omega) with rfl | rfl
 ·show mayLn K ⟨3, 0, 0, Iv.zero⟩ _ 1 0 0 = true
  simp [mayLn, bareB, bare_same9, belowB]
 ·show mayLn K ⟨8, 0, 0, Iv.zero⟩ _ 1 0 0 = true
  simp [mayLn, bareB, bare_same9, belowB], fun j _ => belowB_iff.2 ⟨by show (0 : Int) ≤ 1; omega, by show (1 : Int) < 2; omega⟩⟩
theorem rdl1x {w : World} {g : Nat} (x : Blk w g #[.int .i64 3, .int .i64 0, .int .i64 0, .bool false, .slice none 0 0, .int .i64 0, .bool false, .slice none 0 0, .int .i64 0] 31) : RdL w (some ⟨g, 0, none⟩) 1 1 L1x := ⟨Nat.le_refl 1, by decide, fun _ => ⟨g, 0, rfl, fun i hi => by
 obtain rfl : i = 0 := by omega
 exact ⟨none, 0, 0, none, 0, 0, ⟨x.at 0, x.at 1, x.at 2, x.at 3, x.at 4, x.at 5, x.at 6, x.at 7, x.at 8⟩, rd_nil0 w, rd_nil0 w⟩⟩⟩
theorem rdl2x {w : World} {g : Nat} (x : Blk w g #[.int .i64 3, .int .i64 0, .int .i64 0, .bool false, .slice none 0 0, .int .i64 0, .bool false, .slice none 0 0, .int .i64 0, .int .i64 8, .int .i64 0, .int .i64 0, .bool false, .slice none 0 0, .int .i64 0, .bool false, .slice none 0 0, .int .i64 0] 31) : RdL w (some ⟨g, 0, none⟩) 2 2 L2x := ⟨Nat.le_refl 2, by decide, fun _ => ⟨g, 0, rfl, fun i hi => by
 rcases (show i = 0 ∨ i = 1 by omega) with rfl | rfl
 ·exact ⟨none, 0, 0, none, 0, 0, ⟨x.at 0, x.at 1, x.at 2, x.at 3, x.at 4, x.at 5, x.at 6, x.at 7, x.at 8⟩, rd_nil0 w, rd_nil0 w⟩
 ·exact ⟨none, 0, 0, none, 0, 0, ⟨x.at 9, x.at 10, x.at 11, x.at 12, x.at 13, x.at 14, x.at 15, x.at 16, x.at 17⟩, rd_nil0 w, rd_nil0 w⟩⟩⟩
theorem rdz1x {w : World} {g : Nat} {o : Int} (x : Blk w g #[.int .i64 o] 3) : RdZ w (some ⟨g, 0, none⟩) 1 1 (fun _ => o) := ⟨Nat.le_refl 1, by decide, fun _ => ⟨g, 0, rfl, fun i hi => by
 obtain rfl : i = 0 := by omega
 exact x.at 0⟩⟩
end Go.Proofs.YteagjlcmgiknmaaGreatDoor
