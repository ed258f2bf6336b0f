/-
 Contracts of the reference's Prec, turn, ends, Round, Add, Sub, Neg, Sqrt and Sqr, at this translation. Condition: the slices read as limbs, the table of math/bits reads as its text lays it.
-/
import Derived.Test.YtdklnpaocaebkaaGreatDoorLd
import Derived.Test.YtdklnpaocaebkaaGreatDoorIm
import Derived.Test.YtdklnpaocaebkaaGreatDoorLg
set_option maxHeartbeats 8000000
set_option maxRecDepth 100000
namespace Go.Proofs.YtdklnpaocaebkaaGreatDoor
open Go.RowKit

/-- how one ends that tells a number, or nought and a code -/
def TelQ (o : Except Int Rw) (w : World) (en : Ending) (w' : World) : Prop := (∃ v, o = .ok v ∧ ∃ A n c, en = .returned (.tuple #[.agg #[.bool v.s, .slice A n c, .int .i64 v.e], .int .i64 0]) ∧ Rd w' .u64 Go.Proofs.YtdklnpaocaebkaaGreatDoor.W A n c v.l ∧ Below w.heap.size w w') ∨
 (∃ k, o = .error k ∧ k ≠ 0 ∧ ∃ A c, en = .returned (.tuple #[.agg #[.bool false, .slice A 0 c, .int .i64 0], .int .i64 k]) ∧ Below w.heap.size w w')
section
variable {f : FuncId} {args : Array Value} {w : World}
theorem telq_to {o o' : Except Int Rw} (h : o = o') (hc : Calls Tryz.prog f args w (TelQ o' w)) : Calls Tryz.prog f args w (TelQ o w) := by subst h; exact hc
theorem tellq_or {o : Except Int Rw} (h0 : Cod o) (h : Calls Tryz.prog f args w (TellQ o w)) : Calls Tryz.prog f args w (TelQ o w) := h.mono fun en w' => by
 rintro ⟨A, n, c, rfl, hr, b⟩
 cases o with
 | ok v => exact .inl ⟨v, rfl, A, n, c, rfl, hr, b⟩
 | error k =>
  obtain rfl : n = 0 := hr.len.symm
  exact .inr ⟨k, rfl, h0 k rfl, A, c, rfl, b⟩
end

theorem radd_tel (S : Sc) {w : World} {a b : Rw} {A1 : Option Addr} {n1 c1 : Nat} {A2 : Option Addr} {n2 c2 : Nat} (h1 : Rd w .u64 Go.Proofs.YtdklnpaocaebkaaGreatDoor.W A1 n1 c1 a.l) (h2 : Rd w .u64 Go.Proofs.YtdklnpaocaebkaaGreatDoor.W A2 n2 c2 b.l) : Calls Tryz.prog 30 #[.agg #[.bool a.s, .slice A1 n1 c1, .int .i64 a.e], .agg #[.bool b.s, .slice A2 n2 c2, .int .i64 b.e]] w (TelQ (addO S a b) w) := tellq_or addO_cod (tells_oc S addR_only addR_null (raddd_raw S.big h1 h2))
theorem rmul_tel (S : Sc) {w : World} {a b : Rw} {A1 : Option Addr} {n1 c1 : Nat} {A2 : Option Addr} {n2 c2 : Nat} (h1 : Rd w .u64 Go.Proofs.YtdklnpaocaebkaaGreatDoor.W A1 n1 c1 a.l) (h2 : Rd w .u64 Go.Proofs.YtdklnpaocaebkaaGreatDoor.W A2 n2 c2 b.l) : Calls Tryz.prog 41 #[.agg #[.bool a.s, .slice A1 n1 c1, .int .i64 a.e], .agg #[.bool b.s, .slice A2 n2 c2, .int .i64 b.e]] w (TelQ (mulO S a b) w) := tellq_or mulO_cod (tells_oc S mulR_only mulR_null (rmuld_raw h1 h2))
theorem rround_tel (S : Sc) {p : Int} {up : Bool} {w : World} {a : Rw} {A1 : Option Addr} {n1 c1 : Nat} (h1 : Rd w .u64 Go.Proofs.YtdklnpaocaebkaaGreatDoor.W A1 n1 c1 a.l) : Calls Tryz.prog 31 #[.agg #[.bool a.s, .slice A1 n1 c1, .int .i64 a.e], .int .i64 p, .bool up] w (TelQ (rndO S a p up) w) := by
 refine tellq_or rndO_cod (tells_oc S rndR_only rndR_null ?_)
 unfold rndR
 rcases prec_cases p a.may with h | h
 ·rw [if_pos h]
  obtain ⟨n, rfl⟩ := Int.eq_ofNat_of_zero_le (show 0 ≤ p by omega)
  obtain ⟨hN, hO, _⟩ := rd_okd h1 h.2
  exact rround_ok hN hO (by omega) (by omega)
 ·rw [if_neg (by rintro ⟨h2, h3⟩; rw [h3] at h; rcases h with h | h | h; omega; omega; cases h)]
  exact rround_no h1 h

theorem rprec_any {w : World} {p : Int} : Calls Tryz.prog 29 #[.int .i64 p] w (Bools (prec p) w) := by
 have BB := Below.refl w.heap.size w
 unfold prec
 cases d1 : decide (1 ≤ p)
 ·go_enter Tryz.func29, Tryz.ntmps29
  go_wp2
  go_ret
  exact ⟨by first | rfl | simp, BB⟩
 ·cases d2 : decide (p ≤ 2000)
  all_goals
   go_enter Tryz.func29, Tryz.ntmps29
   go_wp2
   go_ret
   exact ⟨by first | rfl | simp, BB⟩

theorem rturn_any {w : World} {x : Iv} {A1 : Option Addr} {n1 c1 : Nat} {A2 : Option Addr} {n2 c2 : Nat} (h1 : Rd w .u64 Go.Proofs.YtdklnpaocaebkaaGreatDoor.W A1 n1 c1 x.lo.l) (h2 : Rd w .u64 Go.Proofs.YtdklnpaocaebkaaGreatDoor.W A2 n2 c2 x.hi.l) :
  Calls Tryz.prog 34 #[.agg #[.bool x.lo.s, .slice A1 n1 c1, .int .i64 x.lo.e, .bool x.hi.s, .slice A2 n2 c2, .int .i64 x.hi.e]] w (GivI (turnI x) w) := by
 have BB := two_below w (.cells #[.bool x.lo.s, .slice A1 n1 c1, .int .i64 x.lo.e, .bool x.hi.s, .slice A2 n2 c2, .int .i64 x.hi.e] 26) (.cells #[.bool false, .slice none 0 0, .int .i64 0, .bool false, .slice none 0 0, .int .i64 0] 26)
 have xa := (Ibx.new w x.lo.s A1 n1 c1 x.lo.e x.hi.s A2 n2 c2 x.hi.e).alloc (.cells #[.bool false, .slice none 0 0, .int .i64 0, .bool false, .slice none 0 0, .int .i64 0] 26)
 have r := ibx_one w (.cells #[.bool x.lo.s, .slice A1 n1 c1, .int .i64 x.lo.e, .bool x.hi.s, .slice A2 n2 c2, .int .i64 x.hi.e] 26) false none 0 0 0 false none 0 0 0
 obtain ⟨a0, a1, a2, a3, a4, a5⟩ := xa.held
 clear xa
 have G := mv BB rfl <| And.intro h1 <| h2
 clear h1 h2
 obtain ⟨h1, h2⟩ := G
 go_enter Tryz.func34, Tryz.ntmps34
 go_wp2_with fail
 have b : Below ((w.alloc (.cells #[.bool x.lo.s, .slice A1 n1 c1, .int .i64 x.lo.e, .bool x.hi.s, .slice A2 n2 c2, .int .i64 x.hi.e] 26)).alloc (.cells #[.bool false, .slice none 0 0, .int .i64 0, .bool false, .slice none 0 0, .int .i64 0] 26)).heap.size ((w.alloc (.cells #[.bool x.lo.s, .slice A1 n1 c1, .int .i64 x.lo.e, .bool x.hi.s, .slice A2 n2 c2, .int .i64 x.hi.e] 26)).alloc (.cells #[.bool false, .slice none 0 0, .int .i64 0, .bool false, .slice none 0 0, .int .i64 0] 26)) (World.drew ((w.alloc (.cells #[.bool x.lo.s, .slice A1 n1 c1, .int .i64 x.lo.e, .bool x.hi.s, .slice A2 n2 c2, .int .i64 x.hi.e] 26)).alloc (.cells #[.bool false, .slice none 0 0, .int .i64 0, .bool false, .slice none 0 0, .int .i64 0] 26))) := below_drewN (Below.refl _ _) 1
 replace BB := bnx BB b
 have G := mv b rfl (J9 h1 h2 r a0 a1 a2 a3 a4 a5)
 clear b h1 h2 r a0 a1 a2 a3 a4 a5
 obtain ⟨h1, h2, r, a0, a1, a2, a3, a4, a5⟩ := G
 refine wp_region_held_drew (S := fun w' => w'.cell? ⟨w.heap.size, 0, none⟩ = some (.bool x.lo.s) ∧ w'.cell? ⟨w.heap.size, 1, none⟩ = some (.slice A1 n1 c1) ∧ w'.cell? ⟨w.heap.size, 2, none⟩ = some (.int .i64 x.lo.e) ∧ w'.cell? ⟨w.heap.size, 3, none⟩ = some (.bool x.hi.s) ∧ w'.cell? ⟨w.heap.size, 4, none⟩ = some (.slice A2 n2 c2) ∧ w'.cell? ⟨w.heap.size, 5, none⟩ = some (.int .i64 x.hi.e)) (by kernel_rfl) (by exact ⟨a0, a1, a2, a3, a4, a5⟩) (fun hHeldv0 => ?_)
 generalize World.drew ((w.alloc (.cells #[.bool x.lo.s, .slice A1 n1 c1, .int .i64 x.lo.e, .bool x.hi.s, .slice A2 n2 c2, .int .i64 x.hi.e] 26)).alloc (.cells #[.bool false, .slice none 0 0, .int .i64 0, .bool false, .slice none 0 0, .int .i64 0] 26)) = wd at *
 refine tl 0 ?_
 refine tl 1 ?_
 refine tl 3 ?_
 refine tl 4 ?_
 refine rdy 2 fun K hK => ?_
 go_simp
 refine (rneg_raw (s1 := x.hi.s) (e1 := x.hi.e) h2).mono ?_
 rintro en w' ⟨rfl, h3, b⟩
 replace BB := below_next BB BB.size b (by rfl) (by rfl) (by rfl) (by rfl)
 have G := mv b (by rfl) <| And.intro h1 <| And.intro h2 <| And.intro r <| And.intro a0 <| And.intro a1 <| And.intro a2 <| And.intro a3 <| And.intro a4 <| a5
 clear b h1 h2 r a0 a1 a2 a3 a4 a5
 obtain ⟨h1, h2, r, a0, a1, a2, a3, a4, a5⟩ := G
 refine hK.out _ _ (by exact ⟨a0, a1, a2, a3, a4, a5⟩) (fun hHeldv1 => ?_)
 clear hK K hHeldv0
 try simp only [Act.put]
 refine rdy 5 fun K hK => ?_
 go_simp
 refine (rneg_raw (s1 := x.lo.s) (e1 := x.lo.e) h1).mono ?_
 rintro en w' ⟨rfl, h4, b⟩
 replace BB := below_next BB BB.size b (by rfl) (by rfl) (by rfl) (by rfl)
 have G := mv b (by rfl) <| And.intro h1 <| And.intro h2 <| And.intro r <| And.intro a0 <| And.intro a1 <| And.intro a2 <| And.intro a3 <| And.intro a4 <| And.intro a5 <| h3
 clear b h1 h2 r a0 a1 a2 a3 a4 a5 h3
 obtain ⟨h1, h2, r, a0, a1, a2, a3, a4, a5, h3⟩ := G
 obtain ⟨f0, f1, f2, f3, f4, f5⟩ := r.open
 obtain ⟨z0, z1, z2, z3, z4, z5⟩ := r.held
 refine hK.out _ _ (by exact ⟨a0, a1, a2, a3, a4, a5⟩) (fun hHeldv2 => ?_)
 clear hK K hHeldv1
 try simp only [Act.put]
 refine tl 6 ?_
 refine rdy 7 fun K hK => ?_
 go_simp
 refine hK.out _ _ (by exact ⟨cell_oth6 a0 (by omega), cell_oth6 a1 (by omega), cell_oth6 a2 (by omega), cell_oth6 a3 (by omega), cell_oth6 a4 (by omega), cell_oth6 a5 (by omega)⟩) (fun hHeldv3 => ?_)
 clear hK K hHeldv2
 try simp only [Act.put]
 refine wpAnyH_done (by kernel_rfl) ?_ _
 go_wp2
 have qq := r.put (negR x.hi.s x.hi.l x.hi.e) A2 n2 c2 x.hi.e (negR x.lo.s x.lo.l x.lo.e) A1 n1 c1 x.lo.e
 have hN := h3.put6 r (.bool (negR x.hi.s x.hi.l x.hi.e)) (.slice A2 n2 c2) (.int .i64 x.hi.e) (.bool (negR x.lo.s x.lo.l x.lo.e)) (.slice A1 n1 c1) (.int .i64 x.lo.e)
 have hM := h4.put6 r (.bool (negR x.hi.s x.hi.l x.hi.e)) (.slice A2 n2 c2) (.int .i64 x.hi.e) (.bool (negR x.lo.s x.lo.l x.lo.e)) (.slice A1 n1 c1) (.int .i64 x.lo.e)
 have HB3 := below_put6 (g := w.heap.size + 1) BB (by omega) (.bool (negR x.hi.s x.hi.l x.hi.e)) (.slice A2 n2 c2) (.int .i64 x.hi.e) (.bool (negR x.lo.s x.lo.l x.lo.e)) (.slice A1 n1 c1) (.int .i64 x.lo.e)
 obtain ⟨z0, z1, z2, z3, z4, z5⟩ := qq.held
 exact bodyPost_ret (v := .agg #[.bool (negR x.hi.s x.hi.l x.hi.e), .slice A2 n2 c2, .int .i64 x.hi.e, .bool (negR x.lo.s x.lo.l x.lo.e), .slice A1 n1 c1, .int .i64 x.lo.e]) (by simp [results, Tryz.results34, go_sem, z0, z1, z2, z3, z4, z5]) rfl ⟨_, _, _, _, _, _, rfl, hN, hM, HB3⟩

theorem rends_any (S : Sc) {a b : Rw} {p : Int} {w : World} {A1 : Option Addr} {n1 c1 : Nat} {A2 : Option Addr} {n2 c2 : Nat} (h1 : Rd w .u64 Go.Proofs.YtdklnpaocaebkaaGreatDoor.W A1 n1 c1 a.l) (h2 : Rd w .u64 Go.Proofs.YtdklnpaocaebkaaGreatDoor.W A2 n2 c2 b.l) :
  Calls Tryz.prog 44 #[.agg #[.bool a.s, .slice A1 n1 c1, .int .i64 a.e], .agg #[.bool b.s, .slice A2 n2 c2, .int .i64 b.e], .int .i64 p] w (TellO (outO S a b p) w) := by
 obtain ⟨q, hq⟩ : ∃ q : Except Int Iv, q = outO S a b p := ⟨_, rfl⟩
 rw [← hq]
 have HQ := Lib.hid hq
 clear hq
 have BB := three_below w (.cells #[.bool a.s, .slice A1 n1 c1, .int .i64 a.e] 24) (.cells #[.bool b.s, .slice A2 n2 c2, .int .i64 b.e] 24) (.cells #[.bool false, .slice none 0 0, .int .i64 0, .bool false, .slice none 0 0, .int .i64 0] 26)
 obtain ⟨a10, a11, a12, a20, a21, a22⟩ := ((two_new w a.s b.s A1 A2 n1 c1 n2 c2 a.e b.e).alloc (.cells #[.bool false, .slice none 0 0, .int .i64 0, .bool false, .slice none 0 0, .int .i64 0] 26)).held
 have r := ibx_two w (.cells #[.bool a.s, .slice A1 n1 c1, .int .i64 a.e] 24) (.cells #[.bool b.s, .slice A2 n2 c2, .int .i64 b.e] 24) false none 0 0 0 false none 0 0 0
 have G := mv BB rfl <| And.intro h1 <| h2
 clear h1 h2
 obtain ⟨h1, h2⟩ := G
 go_enter Tryz.func44, Tryz.ntmps44
 obtain ⟨o1, ho1⟩ : ∃ o, o = rndO S a p false := ⟨_, rfl⟩
 have HO1 := Lib.hid ho1
 clear ho1
 go_wp2_with fail
 refine (telq_to HO1.out (rround_tel S h1)).mono ?_
 rintro en w1 (⟨v1, hv1, A3, n3, c3, rfl, h3, b⟩ | ⟨kk, hk, hk0, A3, c3, rfl, b⟩)
 rotate_left
 ·clear h1
  replace BB := bnx BB b
  have G := mv b rfl (J5 h2 r a20 a21 a22)
  clear b h2 r a20 a21 a22
  obtain ⟨h2, r, a20, a21, a22⟩ := G
  have HKK := Lib.hid (And.intro hk hk0)
  have g1 : (kk != 0) = true := by simp; exact hk0
  have g2 : (kk == 0) = false := by simp; exact hk0
  clear hk hk0
  have b := below_alloc w1 (.cells #[.bool false, .slice A3 0 c3, .int .i64 0] 24)
  replace BB := bnx BB b
  have G := mv b rfl (J5 h2 r a20 a21 a22)
  clear b h2 r a20 a21 a22
  obtain ⟨h2, r, a20, a21, a22⟩ := G
  have HL := Lib.hid (show q = .error kk from (HQ.out.trans (by simp only [outO, thn, ← HO1.out, HKK.out.1])))
  obtain ⟨f0, f1, f2, f3, f4, f5⟩ := r.open
  obtain ⟨z0, z1, z2, z3, z4, z5⟩ := r.held
  go_wp2
  have qq := r.put false none 0 0 0 false none 0 0 0
  have HB3 := below_put6 (g := w.heap.size + 2) BB (by omega) (.bool false) (.slice none 0 0) (.int .i64 0) (.bool false) (.slice none 0 0) (.int .i64 0)
  obtain ⟨z0, z1, z2, z3, z4, z5⟩ := qq.held
  exact bodyPost_ret (v := .tuple #[.agg #[.bool false, .slice none 0 0, .int .i64 0, .bool false, .slice none 0 0, .int .i64 0], .int .i64 kk]) (by simp [results, Tryz.results44, go_sem, z0, z1, z2, z3, z4, z5]) rfl (by rw [HL.out]; exact ⟨none, 0, 0, none, 0, 0, rfl, Rd.nil _ _ _ _ (by omega), Rd.nil _ _ _ _ (by omega), HB3⟩)
 have HV1 := Lib.hid hv1
 clear hv1
 clear h1
 replace BB := bnx BB b
 have G := mv b rfl (J5 h2 r a20 a21 a22)
 clear b h2 r a20 a21 a22
 obtain ⟨h2, r, a20, a21, a22⟩ := G
 have ly_ := Lib.hid r.gl
 obtain ⟨y0, y1, y2⟩ := (Box.new w1 v1.s A3 n3 c3 v1.e).held
 have b := below_alloc w1 (.cells #[.bool v1.s, .slice A3 n3 c3, .int .i64 v1.e] 24)
 replace BB := bnx BB b
 have G := mv b rfl (J6 h2 r a20 a21 a22 h3)
 clear b h2 r a20 a21 a22 h3
 obtain ⟨h2, r, a20, a21, a22, h3⟩ := G
 obtain ⟨o2, ho2⟩ : ∃ o, o = rndO S b p true := ⟨_, rfl⟩
 have HO2 := Lib.hid ho2
 clear ho2
 go_wp2_with fail
 refine (telq_to HO2.out (rround_tel S h2)).mono ?_
 rintro en w2 (⟨v2, hv2, A4, n4, c4, rfl, h4, b⟩ | ⟨kk, hk, hk0, A4, c4, rfl, b⟩)
 rotate_left
 ·clear h2
  replace BB := bnx BB b
  have G := mv b rfl (J8 r a20 a21 a22 h3 y0 y1 y2)
  clear b r a20 a21 a22 h3 y0 y1 y2
  obtain ⟨r, a20, a21, a22, h3, y0, y1, y2⟩ := G
  have HKK := Lib.hid (And.intro hk hk0)
  have g1 : (kk != 0) = true := by simp; exact hk0
  have g2 : (kk == 0) = false := by simp; exact hk0
  clear hk hk0
  have b := below_alloc w2 (.cells #[.bool false, .slice A4 0 c4, .int .i64 0] 24)
  replace BB := bnx BB b
  have G := mv b rfl (J8 r a20 a21 a22 h3 y0 y1 y2)
  clear b r a20 a21 a22 h3 y0 y1 y2
  obtain ⟨r, a20, a21, a22, h3, y0, y1, y2⟩ := G
  have HL := Lib.hid (show q = .error kk from (HQ.out.trans (by simp only [outO, thn, ← HO1.out, HV1.out, ← HO2.out, HKK.out.1])))
  obtain ⟨f0, f1, f2, f3, f4, f5⟩ := r.open
  obtain ⟨z0, z1, z2, z3, z4, z5⟩ := r.held
  go_wp2
  have qq := r.put false none 0 0 0 false none 0 0 0
  have HB3 := below_put6 (g := w.heap.size + 2) BB (by omega) (.bool false) (.slice none 0 0) (.int .i64 0) (.bool false) (.slice none 0 0) (.int .i64 0)
  obtain ⟨z0, z1, z2, z3, z4, z5⟩ := qq.held
  exact bodyPost_ret (v := .tuple #[.agg #[.bool false, .slice none 0 0, .int .i64 0, .bool false, .slice none 0 0, .int .i64 0], .int .i64 kk]) (by simp [results, Tryz.results44, go_sem, z0, z1, z2, z3, z4, z5]) rfl (by rw [HL.out]; exact ⟨none, 0, 0, none, 0, 0, rfl, Rd.nil _ _ _ _ (by omega), Rd.nil _ _ _ _ (by omega), HB3⟩)
 have HV2 := Lib.hid hv2
 clear hv2
 clear h2
 replace BB := bnx BB b
 have G := mv b rfl (J8 r a20 a21 a22 h3 y0 y1 y2)
 clear b r a20 a21 a22 h3 y0 y1 y2
 obtain ⟨r, a20, a21, a22, h3, y0, y1, y2⟩ := G
 have lu_ := Lib.hid r.gl
 obtain ⟨u0, u1, u2⟩ := (Box.new w2 v2.s A4 n4 c4 v2.e).held
 have b := below_alloc w2 (.cells #[.bool v2.s, .slice A4 n4 c4, .int .i64 v2.e] 24)
 replace BB := bnx BB b
 have G := mv b rfl (J9 r a20 a21 a22 h3 y0 y1 y2 h4)
 clear b r a20 a21 a22 h3 y0 y1 y2 h4
 obtain ⟨r, a20, a21, a22, h3, y0, y1, y2, h4⟩ := G
 obtain ⟨f0, f1, f2, f3, f4, f5⟩ := r.open
 obtain ⟨z0, z1, z2, z3, z4, z5⟩ := r.held
 go_wp2
 have HL := Lib.hid (show q = .ok ⟨v1, v2⟩ from (HQ.out.trans (by simp only [outO, thn, ← HO1.out, HV1.out, ← HO2.out, HV2.out])))
 have qq := r.put v1.s A3 n3 c3 v1.e v2.s A4 n4 c4 v2.e
 have hN := h3.put6 r (.bool v1.s) (.slice A3 n3 c3) (.int .i64 v1.e) (.bool v2.s) (.slice A4 n4 c4) (.int .i64 v2.e)
 have hM := h4.put6 r (.bool v1.s) (.slice A3 n3 c3) (.int .i64 v1.e) (.bool v2.s) (.slice A4 n4 c4) (.int .i64 v2.e)
 have HB3 := below_put6 (g := w.heap.size + 2) BB (by omega) (.bool v1.s) (.slice A3 n3 c3) (.int .i64 v1.e) (.bool v2.s) (.slice A4 n4 c4) (.int .i64 v2.e)
 obtain ⟨z0, z1, z2, z3, z4, z5⟩ := qq.held
 exact bodyPost_ret (v := .tuple #[.agg #[.bool v1.s, .slice A3 n3 c3, .int .i64 v1.e, .bool v2.s, .slice A4 n4 c4, .int .i64 v2.e], .int .i64 0]) (by simp [results, Tryz.results44, go_sem, z0, z1, z2, z3, z4, z5]) rfl (by rw [HL.out]; exact ⟨_, _, _, _, _, _, rfl, hN, hM, HB3⟩)

theorem rround5_any (S : Sc) {w : World} {x : Iv} {p : Int} {A1 : Option Addr} {n1 c1 : Nat} {A2 : Option Addr} {n2 c2 : Nat} (h1 : Rd w .u64 Go.Proofs.YtdklnpaocaebkaaGreatDoor.W A1 n1 c1 x.lo.l) (h2 : Rd w .u64 Go.Proofs.YtdklnpaocaebkaaGreatDoor.W A2 n2 c2 x.hi.l) :
  Calls Tryz.prog 49 #[.agg #[.bool x.lo.s, .slice A1 n1 c1, .int .i64 x.lo.e, .bool x.hi.s, .slice A2 n2 c2, .int .i64 x.hi.e], .int .i64 p] w (TellO (face1 S x p (outO S x.lo x.hi p)) w) := by
 obtain ⟨q, hq⟩ : ∃ q : Except Int Iv, q = face1 S x p (outO S x.lo x.hi p) := ⟨_, rfl⟩
 rw [← hq]
 have HQ := Lib.hid hq
 clear hq
 have BB := two_below w (.cells #[.bool x.lo.s, .slice A1 n1 c1, .int .i64 x.lo.e, .bool x.hi.s, .slice A2 n2 c2, .int .i64 x.hi.e] 26) (.cells #[.bool false, .slice none 0 0, .int .i64 0, .bool false, .slice none 0 0, .int .i64 0] 26)
 have xa := (Ibx.new w x.lo.s A1 n1 c1 x.lo.e x.hi.s A2 n2 c2 x.hi.e).alloc (.cells #[.bool false, .slice none 0 0, .int .i64 0, .bool false, .slice none 0 0, .int .i64 0] 26)
 have r := ibx_one w (.cells #[.bool x.lo.s, .slice A1 n1 c1, .int .i64 x.lo.e, .bool x.hi.s, .slice A2 n2 c2, .int .i64 x.hi.e] 26) false none 0 0 0 false none 0 0 0
 obtain ⟨a0, a1, a2, a3, a4, a5⟩ := xa.held
 clear xa
 have G := mv BB rfl <| And.intro h1 <| h2
 clear h1 h2
 obtain ⟨h1, h2⟩ := G
 go_enter Tryz.func49, Tryz.ntmps49
 obtain ⟨z1_, hz⟩ : ∃ z, z = mayI S.K x := ⟨_, rfl⟩
 have HZ1 := Lib.hid hz
 clear hz
 obtain ⟨z2_, hz⟩ : ∃ z, z = prec p := ⟨_, rfl⟩
 have HZ2 := Lib.hid hz
 clear hz
 go_wp2_with fail
 refine (show Calls _ _ _ _ (Bools z1_ _) from by rw [HZ1.out]; exact rmayi_any (K := S.K) S.big h1 h2).mono ?_
 rintro en w1 ⟨rfl, b⟩
 replace BB := bnx BB b
 have G := mv b rfl (J9 h1 h2 r a0 a1 a2 a3 a4 a5)
 clear b h1 h2 r a0 a1 a2 a3 a4 a5
 obtain ⟨h1, h2, r, a0, a1, a2, a3, a4, a5⟩ := G
 cases z1_
 ·have HL := Lib.hid (show q = .error 1 from by rw [HQ.out]; unfold face1; rw [if_neg (by intro h; rw [← HZ1.out] at h; simp at h)])
  obtain ⟨f0, f1, f2, f3, f4, f5⟩ := r.open
  obtain ⟨z0, z1, z2, z3, z4, z5⟩ := r.held
  go_wp2
  have qq := r.put false none 0 0 0 false none 0 0 0
  have HB3 := below_put6 (g := w.heap.size + 1) BB (by omega) (.bool false) (.slice none 0 0) (.int .i64 0) (.bool false) (.slice none 0 0) (.int .i64 0)
  obtain ⟨z0, z1, z2, z3, z4, z5⟩ := qq.held
  exact bodyPost_ret (v := .tuple #[.agg #[.bool false, .slice none 0 0, .int .i64 0, .bool false, .slice none 0 0, .int .i64 0], .int .i64 1]) (by simp [results, Tryz.results49, go_sem, z0, z1, z2, z3, z4, z5]) rfl (by rw [HL.out]; exact ⟨none, 0, 0, none, 0, 0, rfl, Rd.nil _ _ _ _ (by omega), Rd.nil _ _ _ _ (by omega), HB3⟩)
 go_wp2_with fail
 refine (show Calls _ _ _ _ (Bools z2_ _) from by rw [HZ2.out]; exact rprec_any).mono ?_
 rintro en w2 ⟨rfl, b⟩
 replace BB := bnx BB b
 have G := mv b rfl (J9 h1 h2 r a0 a1 a2 a3 a4 a5)
 clear b h1 h2 r a0 a1 a2 a3 a4 a5
 obtain ⟨h1, h2, r, a0, a1, a2, a3, a4, a5⟩ := G
 cases z2_
 ·have HL := Lib.hid (show q = .error 1 from by rw [HQ.out]; unfold face1; rw [if_neg (by intro h; rw [← HZ2.out] at h; simp at h)])
  obtain ⟨f0, f1, f2, f3, f4, f5⟩ := r.open
  obtain ⟨z0, z1, z2, z3, z4, z5⟩ := r.held
  go_wp2
  have qq := r.put false none 0 0 0 false none 0 0 0
  have HB3 := below_put6 (g := w.heap.size + 1) BB (by omega) (.bool false) (.slice none 0 0) (.int .i64 0) (.bool false) (.slice none 0 0) (.int .i64 0)
  obtain ⟨z0, z1, z2, z3, z4, z5⟩ := qq.held
  exact bodyPost_ret (v := .tuple #[.agg #[.bool false, .slice none 0 0, .int .i64 0, .bool false, .slice none 0 0, .int .i64 0], .int .i64 1]) (by simp [results, Tryz.results49, go_sem, z0, z1, z2, z3, z4, z5]) rfl (by rw [HL.out]; exact ⟨none, 0, 0, none, 0, 0, rfl, Rd.nil _ _ _ _ (by omega), Rd.nil _ _ _ _ (by omega), HB3⟩)
 have HF := Lib.hid (show q = outO S x.lo x.hi p from by rw [HQ.out]; unfold face1; rw [if_pos (by rw [← HZ1.out, ← HZ2.out]; rfl)])
 clear HZ1 HZ2
 go_wp2_with fail
 refine (tello_to HF.out (rends_any S h1 h2)).mono ?_
 rintro en w3 ⟨A3, n3, c3, A4, n4, c4, rfl, h3, h4, b⟩
 replace BB := bnx BB b
 have G := mv b rfl (J9 h1 h2 r a0 a1 a2 a3 a4 a5)
 clear b h1 h2 r a0 a1 a2 a3 a4 a5
 obtain ⟨h1, h2, r, a0, a1, a2, a3, a4, a5⟩ := G
 obtain ⟨f0, f1, f2, f3, f4, f5⟩ := r.open
 obtain ⟨z0, z1, z2, z3, z4, z5⟩ := r.held
 go_wp2
 have qq := r.put (oiv q).lo.s A3 n3 c3 (oiv q).lo.e (oiv q).hi.s A4 n4 c4 (oiv q).hi.e
 have hN := h3.put6 r (.bool (oiv q).lo.s) (.slice A3 n3 c3) (.int .i64 (oiv q).lo.e) (.bool (oiv q).hi.s) (.slice A4 n4 c4) (.int .i64 (oiv q).hi.e)
 have hM := h4.put6 r (.bool (oiv q).lo.s) (.slice A3 n3 c3) (.int .i64 (oiv q).lo.e) (.bool (oiv q).hi.s) (.slice A4 n4 c4) (.int .i64 (oiv q).hi.e)
 have HB3 := below_put6 (g := w.heap.size + 1) BB (by omega) (.bool (oiv q).lo.s) (.slice A3 n3 c3) (.int .i64 (oiv q).lo.e) (.bool (oiv q).hi.s) (.slice A4 n4 c4) (.int .i64 (oiv q).hi.e)
 obtain ⟨z0, z1, z2, z3, z4, z5⟩ := qq.held
 exact bodyPost_ret (v := .tuple #[.agg #[.bool (oiv q).lo.s, .slice A3 n3 c3, .int .i64 (oiv q).lo.e, .bool (oiv q).hi.s, .slice A4 n4 c4, .int .i64 (oiv q).hi.e], .int .i64 (okc q)]) (by simp [results, Tryz.results49, go_sem, z0, z1, z2, z3, z4, z5]) rfl ⟨_, _, _, _, _, _, rfl, hN, hM, HB3⟩

def sqrR (S : Sc) (x : Iv) (p : Int) : Except Int Iv := thn (mulO S x.lo x.lo) fun a => thn (mulO S x.hi x.hi) fun b => outO S (if hasI S.K x Rw.zero = true then Rw.zero else leastQ S.K a b) (greatQ S.K a b) p

theorem rsqr5_any (S : Sc) {w : World} {x : Iv} {p : Int} {A1 : Option Addr} {n1 c1 : Nat} {A2 : Option Addr} {n2 c2 : Nat} (h1 : Rd w .u64 Go.Proofs.YtdklnpaocaebkaaGreatDoor.W A1 n1 c1 x.lo.l) (h2 : Rd w .u64 Go.Proofs.YtdklnpaocaebkaaGreatDoor.W A2 n2 c2 x.hi.l) :
  Calls Tryz.prog 13 #[.agg #[.bool x.lo.s, .slice A1 n1 c1, .int .i64 x.lo.e, .bool x.hi.s, .slice A2 n2 c2, .int .i64 x.hi.e], .int .i64 p] w (TellO (face1 S x p (sqrR S x p)) w) := by
 obtain ⟨q, hq⟩ : ∃ q : Except Int Iv, q = face1 S x p (sqrR S x p) := ⟨_, rfl⟩
 rw [← hq]
 have HQ := Lib.hid hq
 clear hq
 have BB := two_below w (.cells #[.bool x.lo.s, .slice A1 n1 c1, .int .i64 x.lo.e, .bool x.hi.s, .slice A2 n2 c2, .int .i64 x.hi.e] 26) (.cells #[.bool false, .slice none 0 0, .int .i64 0, .bool false, .slice none 0 0, .int .i64 0] 26)
 have xa := (Ibx.new w x.lo.s A1 n1 c1 x.lo.e x.hi.s A2 n2 c2 x.hi.e).alloc (.cells #[.bool false, .slice none 0 0, .int .i64 0, .bool false, .slice none 0 0, .int .i64 0] 26)
 have r := ibx_one w (.cells #[.bool x.lo.s, .slice A1 n1 c1, .int .i64 x.lo.e, .bool x.hi.s, .slice A2 n2 c2, .int .i64 x.hi.e] 26) false none 0 0 0 false none 0 0 0
 obtain ⟨a0, a1, a2, a3, a4, a5⟩ := xa.held
 clear xa
 have G := mv BB rfl <| And.intro h1 <| h2
 clear h1 h2
 obtain ⟨h1, h2⟩ := G
 go_enter Tryz.func13, Tryz.ntmps13
 obtain ⟨z1_, hz⟩ : ∃ z, z = mayI S.K x := ⟨_, rfl⟩
 have HZ1 := Lib.hid hz
 clear hz
 obtain ⟨z2_, hz⟩ : ∃ z, z = prec p := ⟨_, rfl⟩
 have HZ2 := Lib.hid hz
 clear hz
 go_wp2_with fail
 refine (show Calls _ _ _ _ (Bools z1_ _) from by rw [HZ1.out]; exact rmayi_any (K := S.K) S.big h1 h2).mono ?_
 rintro en w1 ⟨rfl, b⟩
 replace BB := bnx BB b
 have G := mv b rfl (J9 h1 h2 r a0 a1 a2 a3 a4 a5)
 clear b h1 h2 r a0 a1 a2 a3 a4 a5
 obtain ⟨h1, h2, r, a0, a1, a2, a3, a4, a5⟩ := G
 cases z1_
 ·have HL := Lib.hid (show q = .error 1 from by rw [HQ.out]; unfold face1; rw [if_neg (by intro h; rw [← HZ1.out] at h; simp at h)])
  obtain ⟨f0, f1, f2, f3, f4, f5⟩ := r.open
  obtain ⟨z0, z1, z2, z3, z4, z5⟩ := r.held
  go_wp2
  have qq := r.put false none 0 0 0 false none 0 0 0
  have HB3 := below_put6 (g := w.heap.size + 1) BB (by omega) (.bool false) (.slice none 0 0) (.int .i64 0) (.bool false) (.slice none 0 0) (.int .i64 0)
  obtain ⟨z0, z1, z2, z3, z4, z5⟩ := qq.held
  exact bodyPost_ret (v := .tuple #[.agg #[.bool false, .slice none 0 0, .int .i64 0, .bool false, .slice none 0 0, .int .i64 0], .int .i64 1]) (by simp [results, Tryz.results13, go_sem, z0, z1, z2, z3, z4, z5]) rfl (by rw [HL.out]; exact ⟨none, 0, 0, none, 0, 0, rfl, Rd.nil _ _ _ _ (by omega), Rd.nil _ _ _ _ (by omega), HB3⟩)
 go_wp2_with fail
 refine (show Calls _ _ _ _ (Bools z2_ _) from by rw [HZ2.out]; exact rprec_any).mono ?_
 rintro en w2 ⟨rfl, b⟩
 replace BB := bnx BB b
 have G := mv b rfl (J9 h1 h2 r a0 a1 a2 a3 a4 a5)
 clear b h1 h2 r a0 a1 a2 a3 a4 a5
 obtain ⟨h1, h2, r, a0, a1, a2, a3, a4, a5⟩ := G
 cases z2_
 ·have HL := Lib.hid (show q = .error 1 from by rw [HQ.out]; unfold face1; rw [if_neg (by intro h; rw [← HZ2.out] at h; simp at h)])
  obtain ⟨f0, f1, f2, f3, f4, f5⟩ := r.open
  obtain ⟨z0, z1, z2, z3, z4, z5⟩ := r.held
  go_wp2
  have qq := r.put false none 0 0 0 false none 0 0 0
  have HB3 := below_put6 (g := w.heap.size + 1) BB (by omega) (.bool false) (.slice none 0 0) (.int .i64 0) (.bool false) (.slice none 0 0) (.int .i64 0)
  obtain ⟨z0, z1, z2, z3, z4, z5⟩ := qq.held
  exact bodyPost_ret (v := .tuple #[.agg #[.bool false, .slice none 0 0, .int .i64 0, .bool false, .slice none 0 0, .int .i64 0], .int .i64 1]) (by simp [results, Tryz.results13, go_sem, z0, z1, z2, z3, z4, z5]) rfl (by rw [HL.out]; exact ⟨none, 0, 0, none, 0, 0, rfl, Rd.nil _ _ _ _ (by omega), Rd.nil _ _ _ _ (by omega), HB3⟩)
 have HF := Lib.hid (show q = sqrR S x p from by rw [HQ.out]; unfold face1; rw [if_pos (by rw [← HZ1.out, ← HZ2.out]; rfl)])
 clear HZ1 HZ2
 obtain ⟨o1, ho1⟩ : ∃ o, o = mulO S x.lo x.lo := ⟨_, rfl⟩
 have HO1 := Lib.hid ho1
 clear ho1
 go_wp2_with fail
 refine (telq_to HO1.out (rmul_tel S (a := x.lo) (b := x.lo) h1 h1)).mono ?_
 rintro en w3 (⟨v1, hv1, A3, n3, c3, rfl, h3, b⟩ | ⟨kk, hk, hk0, A3, c3, rfl, b⟩)
 rotate_left
 ·replace BB := bnx BB b
  have G := mv b rfl (J9 h1 h2 r a0 a1 a2 a3 a4 a5)
  clear b h1 h2 r a0 a1 a2 a3 a4 a5
  obtain ⟨h1, h2, r, a0, a1, a2, a3, a4, a5⟩ := G
  have HKK := Lib.hid (And.intro hk hk0)
  have g1 : (kk != 0) = true := by simp; exact hk0
  have g2 : (kk == 0) = false := by simp; exact hk0
  clear hk hk0
  have b := below_alloc w3 (.cells #[.bool false, .slice A3 0 c3, .int .i64 0] 24)
  replace BB := bnx BB b
  have G := mv b rfl (J9 h1 h2 r a0 a1 a2 a3 a4 a5)
  clear b h1 h2 r a0 a1 a2 a3 a4 a5
  obtain ⟨h1, h2, r, a0, a1, a2, a3, a4, a5⟩ := G
  have HL := Lib.hid (show q = .error kk from (HF.out.trans (by simp only [sqrR, thn, ← HO1.out, HKK.out.1])))
  obtain ⟨f0, f1, f2, f3, f4, f5⟩ := r.open
  obtain ⟨z0, z1, z2, z3, z4, z5⟩ := r.held
  go_wp2
  have qq := r.put false none 0 0 0 false none 0 0 0
  have HB3 := below_put6 (g := w.heap.size + 1) BB (by omega) (.bool false) (.slice none 0 0) (.int .i64 0) (.bool false) (.slice none 0 0) (.int .i64 0)
  obtain ⟨z0, z1, z2, z3, z4, z5⟩ := qq.held
  exact bodyPost_ret (v := .tuple #[.agg #[.bool false, .slice none 0 0, .int .i64 0, .bool false, .slice none 0 0, .int .i64 0], .int .i64 kk]) (by simp [results, Tryz.results13, go_sem, z0, z1, z2, z3, z4, z5]) rfl (by rw [HL.out]; exact ⟨none, 0, 0, none, 0, 0, rfl, Rd.nil _ _ _ _ (by omega), Rd.nil _ _ _ _ (by omega), HB3⟩)
 have HV1 := Lib.hid hv1
 clear hv1
 replace BB := bnx BB b
 have G := mv b rfl (J9 h1 h2 r a0 a1 a2 a3 a4 a5)
 clear b h1 h2 r a0 a1 a2 a3 a4 a5
 obtain ⟨h1, h2, r, a0, a1, a2, a3, a4, a5⟩ := G
 have ly_ := Lib.hid r.gl
 obtain ⟨y0, y1, y2⟩ := (Box.new w3 v1.s A3 n3 c3 v1.e).held
 have b := below_alloc w3 (.cells #[.bool v1.s, .slice A3 n3 c3, .int .i64 v1.e] 24)
 replace BB := bnx BB b
 have G := mv b rfl (J10 h1 h2 r a0 a1 a2 a3 a4 a5 h3)
 clear b h1 h2 r a0 a1 a2 a3 a4 a5 h3
 obtain ⟨h1, h2, r, a0, a1, a2, a3, a4, a5, h3⟩ := G
 obtain ⟨o2, ho2⟩ : ∃ o, o = mulO S x.hi x.hi := ⟨_, rfl⟩
 have HO2 := Lib.hid ho2
 clear ho2
 go_wp2_with fail
 refine (telq_to HO2.out (rmul_tel S (a := x.hi) (b := x.hi) h2 h2)).mono ?_
 rintro en w4 (⟨v2, hv2, A4, n4, c4, rfl, h4, b⟩ | ⟨kk, hk, hk0, A4, c4, rfl, b⟩)
 rotate_left
 ·replace BB := bnx BB b
  have G := mv b rfl (J13 h1 h2 r a0 a1 a2 a3 a4 a5 h3 y0 y1 y2)
  clear b h1 h2 r a0 a1 a2 a3 a4 a5 h3 y0 y1 y2
  obtain ⟨h1, h2, r, a0, a1, a2, a3, a4, a5, h3, y0, y1, y2⟩ := G
  have HKK := Lib.hid (And.intro hk hk0)
  have g1 : (kk != 0) = true := by simp; exact hk0
  have g2 : (kk == 0) = false := by simp; exact hk0
  clear hk hk0
  have b := below_alloc w4 (.cells #[.bool false, .slice A4 0 c4, .int .i64 0] 24)
  replace BB := bnx BB b
  have G := mv b rfl (J13 h1 h2 r a0 a1 a2 a3 a4 a5 h3 y0 y1 y2)
  clear b h1 h2 r a0 a1 a2 a3 a4 a5 h3 y0 y1 y2
  obtain ⟨h1, h2, r, a0, a1, a2, a3, a4, a5, h3, y0, y1, y2⟩ := G
  have HL := Lib.hid (show q = .error kk from (HF.out.trans (by simp only [sqrR, thn, ← HO1.out, HV1.out, ← HO2.out, HKK.out.1])))
  obtain ⟨f0, f1, f2, f3, f4, f5⟩ := r.open
  obtain ⟨z0, z1, z2, z3, z4, z5⟩ := r.held
  go_wp2
  have qq := r.put false none 0 0 0 false none 0 0 0
  have HB3 := below_put6 (g := w.heap.size + 1) BB (by omega) (.bool false) (.slice none 0 0) (.int .i64 0) (.bool false) (.slice none 0 0) (.int .i64 0)
  obtain ⟨z0, z1, z2, z3, z4, z5⟩ := qq.held
  exact bodyPost_ret (v := .tuple #[.agg #[.bool false, .slice none 0 0, .int .i64 0, .bool false, .slice none 0 0, .int .i64 0], .int .i64 kk]) (by simp [results, Tryz.results13, go_sem, z0, z1, z2, z3, z4, z5]) rfl (by rw [HL.out]; exact ⟨none, 0, 0, none, 0, 0, rfl, Rd.nil _ _ _ _ (by omega), Rd.nil _ _ _ _ (by omega), HB3⟩)
 have HV2 := Lib.hid hv2
 clear hv2
 replace BB := bnx BB b
 have G := mv b rfl (J13 h1 h2 r a0 a1 a2 a3 a4 a5 h3 y0 y1 y2)
 clear b h1 h2 r a0 a1 a2 a3 a4 a5 h3 y0 y1 y2
 obtain ⟨h1, h2, r, a0, a1, a2, a3, a4, a5, h3, y0, y1, y2⟩ := G
 have lu_ := Lib.hid r.gl
 obtain ⟨u0, u1, u2⟩ := (Box.new w4 v2.s A4 n4 c4 v2.e).held
 have b := below_alloc w4 (.cells #[.bool v2.s, .slice A4 n4 c4, .int .i64 v2.e] 24)
 replace BB := bnx BB b
 have G := mv b rfl (J14 h1 h2 r a0 a1 a2 a3 a4 a5 h3 y0 y1 y2 h4)
 clear b h1 h2 r a0 a1 a2 a3 a4 a5 h3 y0 y1 y2 h4
 obtain ⟨h1, h2, r, a0, a1, a2, a3, a4, a5, h3, y0, y1, y2, h4⟩ := G
 obtain ⟨ql, hql⟩ : ∃ z, z = leastQ S.K v1 v2 := ⟨_, rfl⟩
 obtain ⟨qg, hqg⟩ : ∃ z, z = greatQ S.K v1 v2 := ⟨_, rfl⟩
 have HQL := Lib.hid hql
 have HQG := Lib.hid hqg
 clear hql hqg
 obtain ⟨z, hz⟩ : ∃ z, z = hasI S.K x Rw.zero := ⟨_, rfl⟩
 have HZ := Lib.hid hz
 clear hz
 have hnil : ∀ W2 : World, Rd W2 .u64 Go.Proofs.YtdklnpaocaebkaaGreatDoor.W none 0 0 Rw.zero.l := fun _ => Rd.nil _ _ _ _ (by omega)
 go_wp2_with fail
 refine (show Calls _ _ _ _ (GivQ ql _) from by rw [HQL.out]; exact rleast_any (K := S.K) S.big h3 h4).mono ?_
 rintro en x5 ⟨A5, n5, c5, rfl, h5, b⟩
 replace BB := bnx BB b
 have G := mv b rfl (J17 h1 h2 r a0 a1 a2 a3 a4 a5 h3 y0 y1 y2 h4 u0 u1 u2)
 clear b h1 h2 r a0 a1 a2 a3 a4 a5 h3 y0 y1 y2 h4 u0 u1 u2
 obtain ⟨h1, h2, r, a0, a1, a2, a3, a4, a5, h3, y0, y1, y2, h4, u0, u1, u2⟩ := G
 have l15 : w3.heap.size < x5.heap.size := World.block_lt_of_cell? _ _ y0
 have l25 : w4.heap.size < x5.heap.size := World.block_lt_of_cell? _ _ u0
 have lr5 := r.gl
 have ly9 := ly_.out
 have lu9 := lu_.out
 have n15 : w3.heap.size ≠ x5.heap.size := by omega
 have n25 : w4.heap.size ≠ x5.heap.size := by omega
 have nb : w.heap.size ≤ x5.heap.size := by omega
 have nr : x5.heap.size ≠ w.heap.size + 1 := by omega
 have ny5 : w3.heap.size ≠ w.heap.size + 1 ∧ w4.heap.size ≠ w.heap.size + 1 ∧ x5.heap.size ≠ w.heap.size + 1 := by omega
 clear l15 l25 lr5 ly9 lu9
 obtain ⟨s0, s1, s2⟩ := (Box.new x5 ql.s A5 n5 c5 ql.e).held
 have b := below_alloc x5 (.cells #[.bool ql.s, .slice A5 n5 c5, .int .i64 ql.e] 24)
 replace BB := bnx BB b
 have G := mv b rfl (J18 h1 h2 r a0 a1 a2 a3 a4 a5 h3 y0 y1 y2 h4 u0 u1 u2 h5)
 clear b h1 h2 r a0 a1 a2 a3 a4 a5 h3 y0 y1 y2 h4 u0 u1 u2 h5
 obtain ⟨h1, h2, r, a0, a1, a2, a3, a4, a5, h3, y0, y1, y2, h4, u0, u1, u2, h5⟩ := G
 have xs : Box (x5.alloc (.cells #[.bool ql.s, .slice A5 n5 c5, .int .i64 ql.e] 24)) x5.heap.size ql.s A5 n5 c5 ql.e := Box.new x5 _ _ _ _ _
 go_wp2_with fail
 refine (show Calls _ _ _ _ (Bools z _) from by rw [HZ.out]; exact rhas_any (K := S.K) (d := Rw.zero) S.big h1 h2 (hnil _)).mono ?_
 rintro en x6 ⟨rfl, b⟩
 replace BB := bnx BB b
 have G := mv b rfl (J22 h1 h2 r a0 a1 a2 a3 a4 a5 h3 y0 y1 y2 h4 u0 u1 u2 h5 s0 s1 s2 xs)
 clear b h1 h2 r a0 a1 a2 a3 a4 a5 h3 y0 y1 y2 h4 u0 u1 u2 h5 s0 s1 s2 xs
 obtain ⟨h1, h2, r, a0, a1, a2, a3, a4, a5, h3, y0, y1, y2, h4, u0, u1, u2, h5, s0, s1, s2, xs⟩ := G
 clear h1 h2 a0 a1 a2 a3 a4 a5
 cases z
 ·have hm := h5
  obtain ⟨o3, ho3⟩ : ∃ o, o = outO S ql qg p := ⟨_, rfl⟩
  have HO3 := Lib.hid ho3
  clear ho3
  have HE := Lib.hid (show q = o3 from HF.out.trans (by simp only [sqrR, thn, ← HO1.out, HV1.out, ← HO2.out, HV2.out]; rw [← HZ.out, if_neg Bool.false_ne_true, ← HQL.out, ← HQG.out]; exact HO3.out.symm))
  go_wp2_with fail
  have b : Below x6.heap.size x6 (World.drew x6) := below_drewN (Below.refl _ _) 1
  replace BB := bnx BB b
  have G := mv b rfl (J15 r h3 y0 y1 y2 h4 u0 u1 u2 h5 s0 s1 s2 xs hm)
  clear b r h3 y0 y1 y2 h4 u0 u1 u2 h5 s0 s1 s2 xs hm
  obtain ⟨r, h3, y0, y1, y2, h4, u0, u1, u2, h5, s0, s1, s2, xs, hm⟩ := G
  refine wp_region_held_drew (S := fun w' => w'.cell? ⟨x5.heap.size, 0, none⟩ = some (.bool ql.s) ∧ w'.cell? ⟨x5.heap.size, 1, none⟩ = some (.slice A5 n5 c5) ∧ w'.cell? ⟨x5.heap.size, 2, none⟩ = some (.int .i64 ql.e) ∧ w'.cell? ⟨w4.heap.size, 0, none⟩ = some (.bool v2.s) ∧ w'.cell? ⟨w4.heap.size, 1, none⟩ = some (.slice A4 n4 c4) ∧ w'.cell? ⟨w4.heap.size, 2, none⟩ = some (.int .i64 v2.e) ∧ w'.cell? ⟨w3.heap.size, 0, none⟩ = some (.bool v1.s) ∧ w'.cell? ⟨w3.heap.size, 1, none⟩ = some (.slice A3 n3 c3) ∧ w'.cell? ⟨w3.heap.size, 2, none⟩ = some (.int .i64 v1.e)) (by kernel_rfl) (by exact ⟨s0, s1, s2, u0, u1, u2, y0, y1, y2⟩) (fun hHeldt0 => ?_)
  generalize World.drew x6 = wd at *
  refine tl 0 ?_
  refine tl 1 ?_
  refine tl 2 ?_
  refine tl 4 ?_
  refine rdy 3 fun K hK => ?_
  go_simp
  refine (show Calls _ _ _ _ (GivQ qg _) from by rw [HQG.out]; exact rgreatest_any (K := S.K) S.big h3 h4).mono ?_
  rintro en w' ⟨A6, n6, c6, rfl, h6, b⟩
  replace BB := below_next BB BB.size b (by rfl) (by rfl) (by rfl) (by rfl)
  have G := mv b (by rfl) <| And.intro r <| And.intro h3 <| And.intro y0 <| And.intro y1 <| And.intro y2 <| And.intro h4 <| And.intro u0 <| And.intro u1 <| And.intro u2 <| And.intro h5 <| And.intro s0 <| And.intro s1 <| And.intro s2 <| And.intro xs <| hm
  clear b r h3 y0 y1 y2 h4 u0 u1 u2 h5 s0 s1 s2 xs hm
  obtain ⟨r, h3, y0, y1, y2, h4, u0, u1, u2, h5, s0, s1, s2, xs, hm⟩ := G
  refine hK.out _ _ (by exact ⟨s0, s1, s2, u0, u1, u2, y0, y1, y2⟩) (fun hHeldt1 => ?_)
  clear hK K hHeldt0
  try simp only [Act.put]
  refine rdy 5 fun K hK => ?_
  go_simp
  refine (tello_to (HE.out.trans HO3.out) (rends_any S hm h6)).mono ?_
  rintro en w' ⟨A7, n7, c7, A8, n8, c8, rfl, h7, h8, b⟩
  replace BB := below_next BB BB.size b (by rfl) (by rfl) (by rfl) (by rfl)
  have G := mv b (by rfl) <| And.intro r <| And.intro h3 <| And.intro y0 <| And.intro y1 <| And.intro y2 <| And.intro h4 <| And.intro u0 <| And.intro u1 <| And.intro u2 <| And.intro h5 <| And.intro s0 <| And.intro s1 <| And.intro s2 <| And.intro xs <| And.intro hm <| h6
  clear b r h3 y0 y1 y2 h4 u0 u1 u2 h5 s0 s1 s2 xs hm h6
  obtain ⟨r, h3, y0, y1, y2, h4, u0, u1, u2, h5, s0, s1, s2, xs, hm, h6⟩ := G
  obtain ⟨f0, f1, f2, f3, f4, f5⟩ := r.open
  obtain ⟨z0, z1, z2, z3, z4, z5⟩ := r.held
  refine hK.out _ _ (by exact ⟨s0, s1, s2, u0, u1, u2, y0, y1, y2⟩) (fun hHeldt2 => ?_)
  clear hK K hHeldt1
  try simp only [Act.put]
  refine tl 6 ?_
  refine tl 7 ?_
  refine rdy 8 fun K hK => ?_
  go_simp
  refine hK.out _ _ (by exact ⟨cell_oth6 s0 (by omega), cell_oth6 s1 (by omega), cell_oth6 s2 (by omega), cell_oth6 u0 (by omega), cell_oth6 u1 (by omega), cell_oth6 u2 (by omega), cell_oth6 y0 (by omega), cell_oth6 y1 (by omega), cell_oth6 y2 (by omega)⟩) (fun hHeldt3 => ?_)
  clear hK K hHeldt2
  try simp only [Act.put]
  refine tl 9 ?_
  refine wpAnyH_done (by kernel_rfl) ?_ _
  go_wp2
  obtain ⟨f0, f1, f2, f3, f4, f5⟩ := r.open
  obtain ⟨z0, z1, z2, z3, z4, z5⟩ := r.held
  have qq := r.put (oiv q).lo.s A7 n7 c7 (oiv q).lo.e (oiv q).hi.s A8 n8 c8 (oiv q).hi.e
  have hN := h7.put6 r (.bool (oiv q).lo.s) (.slice A7 n7 c7) (.int .i64 (oiv q).lo.e) (.bool (oiv q).hi.s) (.slice A8 n8 c8) (.int .i64 (oiv q).hi.e)
  have hM := h8.put6 r (.bool (oiv q).lo.s) (.slice A7 n7 c7) (.int .i64 (oiv q).lo.e) (.bool (oiv q).hi.s) (.slice A8 n8 c8) (.int .i64 (oiv q).hi.e)
  have HB3 := below_put6 (g := w.heap.size + 1) BB (by omega) (.bool (oiv q).lo.s) (.slice A7 n7 c7) (.int .i64 (oiv q).lo.e) (.bool (oiv q).hi.s) (.slice A8 n8 c8) (.int .i64 (oiv q).hi.e)
  obtain ⟨z0, z1, z2, z3, z4, z5⟩ := qq.held
  exact bodyPost_ret (v := .tuple #[.agg #[.bool (oiv q).lo.s, .slice A7 n7 c7, .int .i64 (oiv q).lo.e, .bool (oiv q).hi.s, .slice A8 n8 c8, .int .i64 (oiv q).hi.e], .int .i64 (okc q)]) (by simp [results, Tryz.results13, go_sem, z0, z1, z2, z3, z4, z5]) rfl ⟨_, _, _, _, _, _, rfl, hN, hM, HB3⟩
 ·obtain ⟨t0, t1, t2⟩ := xs.open
  have xs3 := xs.put false none 0 0 0
  have h33 := h3.put3 xs (.bool false) (.slice none 0 0) (.int .i64 0)
  have h43 := h4.put3 xs (.bool false) (.slice none 0 0) (.int .i64 0)
  have BB3 := below_put3 (g := x5.heap.size) BB nb (.bool false) (.slice none 0 0) (.int .i64 0)
  have r3 := ((r.other nr.symm 0 (.bool false)).other nr.symm 1 (.slice none 0 0)).other nr.symm 2 (.int .i64 0)
  have y03 := cell_oth (cell_oth (cell_oth y0 n15 0 (.bool false)) n15 1 (.slice none 0 0)) n15 2 (.int .i64 0)
  have y13 := cell_oth (cell_oth (cell_oth y1 n15 0 (.bool false)) n15 1 (.slice none 0 0)) n15 2 (.int .i64 0)
  have y23 := cell_oth (cell_oth (cell_oth y2 n15 0 (.bool false)) n15 1 (.slice none 0 0)) n15 2 (.int .i64 0)
  have u03 := cell_oth (cell_oth (cell_oth u0 n25 0 (.bool false)) n25 1 (.slice none 0 0)) n25 2 (.int .i64 0)
  have u13 := cell_oth (cell_oth (cell_oth u1 n25 0 (.bool false)) n25 1 (.slice none 0 0)) n25 2 (.int .i64 0)
  have u23 := cell_oth (cell_oth (cell_oth u2 n25 0 (.bool false)) n25 1 (.slice none 0 0)) n25 2 (.int .i64 0)
  clear h5
  go_wp2_with fail
  clear s0 s1 s2 y0 y1 y2 u0 u1 u2 h3 h4 r t0 t1 t2 BB
  obtain ⟨s0, s1, s2⟩ := xs3.held
  have h3 := h33
  have h4 := h43
  have BB := BB3
  have r := r3
  have y0 := y03
  have y1 := y13
  have y2 := y23
  have u0 := u03
  have u1 := u13
  have u2 := u23
  clear xs xs3 h33 h43 BB3 r3 y03 y13 y23 u03 u13 u23
  have hm := hnil (((x6.setCell ⟨x5.heap.size, 0, none⟩ (.bool false)).setCell ⟨x5.heap.size, 1, none⟩ (.slice none 0 0)).setCell ⟨x5.heap.size, 2, none⟩ (.int .i64 0))
  generalize (((x6.setCell ⟨x5.heap.size, 0, none⟩ (.bool false)).setCell ⟨x5.heap.size, 1, none⟩ (.slice none 0 0)).setCell ⟨x5.heap.size, 2, none⟩ (.int .i64 0)) = x7 at *
  obtain ⟨o3, ho3⟩ : ∃ o, o = outO S Rw.zero qg p := ⟨_, rfl⟩
  have HO3 := Lib.hid ho3
  clear ho3
  have HE := Lib.hid (show q = o3 from HF.out.trans (by simp only [sqrR, thn, ← HO1.out, HV1.out, ← HO2.out, HV2.out]; rw [← HZ.out, if_pos rfl, ← HQG.out]; exact HO3.out.symm))
  go_wp2_with fail
  have b : Below x7.heap.size x7 (World.drew x7) := below_drewN (Below.refl _ _) 1
  replace BB := bnx BB b
  have G := mv b rfl (J13 h3 h4 r s0 s1 s2 y0 y1 y2 u0 u1 u2 hm)
  clear b h3 h4 r s0 s1 s2 y0 y1 y2 u0 u1 u2 hm
  obtain ⟨h3, h4, r, s0, s1, s2, y0, y1, y2, u0, u1, u2, hm⟩ := G
  refine wp_region_held_drew (S := fun w' => w'.cell? ⟨x5.heap.size, 0, none⟩ = some (.bool false) ∧ w'.cell? ⟨x5.heap.size, 1, none⟩ = some (.slice none 0 0) ∧ w'.cell? ⟨x5.heap.size, 2, none⟩ = some (.int .i64 0) ∧ w'.cell? ⟨w4.heap.size, 0, none⟩ = some (.bool v2.s) ∧ w'.cell? ⟨w4.heap.size, 1, none⟩ = some (.slice A4 n4 c4) ∧ w'.cell? ⟨w4.heap.size, 2, none⟩ = some (.int .i64 v2.e) ∧ w'.cell? ⟨w3.heap.size, 0, none⟩ = some (.bool v1.s) ∧ w'.cell? ⟨w3.heap.size, 1, none⟩ = some (.slice A3 n3 c3) ∧ w'.cell? ⟨w3.heap.size, 2, none⟩ = some (.int .i64 v1.e)) (by kernel_rfl) (by exact ⟨s0, s1, s2, u0, u1, u2, y0, y1, y2⟩) (fun hHelds0 => ?_)
  generalize World.drew x7 = wd at *
  refine tl 0 ?_
  refine tl 1 ?_
  refine tl 2 ?_
  refine tl 4 ?_
  refine rdy 3 fun K hK => ?_
  go_simp
  refine (show Calls _ _ _ _ (GivQ qg _) from by rw [HQG.out]; exact rgreatest_any (K := S.K) S.big h3 h4).mono ?_
  rintro en w' ⟨A6, n6, c6, rfl, h6, b⟩
  replace BB := below_next BB BB.size b (by rfl) (by rfl) (by rfl) (by rfl)
  have G := mv b (by rfl) <| And.intro h3 <| And.intro h4 <| And.intro r <| And.intro s0 <| And.intro s1 <| And.intro s2 <| And.intro y0 <| And.intro y1 <| And.intro y2 <| And.intro u0 <| And.intro u1 <| And.intro u2 <| hm
  clear b h3 h4 r s0 s1 s2 y0 y1 y2 u0 u1 u2 hm
  obtain ⟨h3, h4, r, s0, s1, s2, y0, y1, y2, u0, u1, u2, hm⟩ := G
  refine hK.out _ _ (by exact ⟨s0, s1, s2, u0, u1, u2, y0, y1, y2⟩) (fun hHelds1 => ?_)
  clear hK K hHelds0
  try simp only [Act.put]
  refine rdy 5 fun K hK => ?_
  go_simp
  refine (tello_to (HE.out.trans HO3.out) (rends_any S hm h6)).mono ?_
  rintro en w' ⟨A7, n7, c7, A8, n8, c8, rfl, h7, h8, b⟩
  replace BB := below_next BB BB.size b (by rfl) (by rfl) (by rfl) (by rfl)
  have G := mv b (by rfl) <| And.intro h3 <| And.intro h4 <| And.intro r <| And.intro s0 <| And.intro s1 <| And.intro s2 <| And.intro y0 <| And.intro y1 <| And.intro y2 <| And.intro u0 <| And.intro u1 <| And.intro u2 <| And.intro hm <| h6
  clear b h3 h4 r s0 s1 s2 y0 y1 y2 u0 u1 u2 hm h6
  obtain ⟨h3, h4, r, s0, s1, s2, y0, y1, y2, u0, u1, u2, hm, h6⟩ := G
  obtain ⟨f0, f1, f2, f3, f4, f5⟩ := r.open
  obtain ⟨z0, z1, z2, z3, z4, z5⟩ := r.held
  refine hK.out _ _ (by exact ⟨s0, s1, s2, u0, u1, u2, y0, y1, y2⟩) (fun hHelds2 => ?_)
  clear hK K hHelds1
  try simp only [Act.put]
  refine tl 6 ?_
  refine tl 7 ?_
  refine rdy 8 fun K hK => ?_
  go_simp
  refine hK.out _ _ (by exact ⟨cell_oth6 s0 (by omega), cell_oth6 s1 (by omega), cell_oth6 s2 (by omega), cell_oth6 u0 (by omega), cell_oth6 u1 (by omega), cell_oth6 u2 (by omega), cell_oth6 y0 (by omega), cell_oth6 y1 (by omega), cell_oth6 y2 (by omega)⟩) (fun hHelds3 => ?_)
  clear hK K hHelds2
  try simp only [Act.put]
  refine tl 9 ?_
  refine wpAnyH_done (by kernel_rfl) ?_ _
  go_wp2
  obtain ⟨f0, f1, f2, f3, f4, f5⟩ := r.open
  obtain ⟨z0, z1, z2, z3, z4, z5⟩ := r.held
  have qq := r.put (oiv q).lo.s A7 n7 c7 (oiv q).lo.e (oiv q).hi.s A8 n8 c8 (oiv q).hi.e
  have hN := h7.put6 r (.bool (oiv q).lo.s) (.slice A7 n7 c7) (.int .i64 (oiv q).lo.e) (.bool (oiv q).hi.s) (.slice A8 n8 c8) (.int .i64 (oiv q).hi.e)
  have hM := h8.put6 r (.bool (oiv q).lo.s) (.slice A7 n7 c7) (.int .i64 (oiv q).lo.e) (.bool (oiv q).hi.s) (.slice A8 n8 c8) (.int .i64 (oiv q).hi.e)
  have HB3 := below_put6 (g := w.heap.size + 1) BB (by omega) (.bool (oiv q).lo.s) (.slice A7 n7 c7) (.int .i64 (oiv q).lo.e) (.bool (oiv q).hi.s) (.slice A8 n8 c8) (.int .i64 (oiv q).hi.e)
  obtain ⟨z0, z1, z2, z3, z4, z5⟩ := qq.held
  exact bodyPost_ret (v := .tuple #[.agg #[.bool (oiv q).lo.s, .slice A7 n7 c7, .int .i64 (oiv q).lo.e, .bool (oiv q).hi.s, .slice A8 n8 c8, .int .i64 (oiv q).hi.e], .int .i64 (okc q)]) (by simp [results, Tryz.results13, go_sem, z0, z1, z2, z3, z4, z5]) rfl ⟨_, _, _, _, _, _, rfl, hN, hM, HB3⟩

end Go.Proofs.YtdklnpaocaebkaaGreatDoor
