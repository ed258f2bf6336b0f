/-
 Contracts of expo's domain, check, one and of the faces Exp and Over, at this translation. Condition: the slices read as limbs, the table of math/bits reads as its text lays it.
-/
import Derived.Test.YtldbafifgkobcaaGreatDoorQEb
set_option maxHeartbeats 8000000
set_option maxRecDepth 100000
namespace Go.Proofs.YtldbafifgkobcaaGreatDoor
open Go.RowKit

theorem of_1 {w : World} (hT : Tab w) : Calls Tryz.prog 136 #[.int .i64 1, .int .i64 0] w (ToldIs false 1 0 0 w) :=
 (of_pos (a := 1) hT (by omega)).mono fun _ _ h => told_is h fun _ _ _ _ hp => nm_fun hp (nm_self okd_1)
theorem of_64 {w : World} (hT : Tab w) : Calls Tryz.prog 136 #[.int .i64 64, .int .i64 0] w (ToldIs false 1 6 0 w) :=
 (of_pos (a := 64) hT (by omega)).mono fun _ _ h => told_is h fun _ _ _ _ hp => nm_fun hp (.inr ⟨6, 0, rfl, .inr (.inr ⟨small64 (by omega), by decide, rfl, rfl, rfl, rfl⟩)⟩)

theorem eone_ok {w : World} (hT : Tab w) : Calls Tryz.prog 91 #[] w (Goods false 1 0 w) := by
 have BB := below_alloc w (.cells #[.bool false, .slice none 0 0, .int .i64 0] 24)
 have r := Box.new w false none 0 0 0
 replace hT := mv BB rfl hT
 go_enter Tryz.func91, Tryz.ntmps91
 go_wp2_with fail
 refine (of_1 hT).mono ?_
 rintro en w1 ⟨A1, n1, c1, rfl, h1, b⟩
 replace BB := bnx BB b
 have G := mv b rfl <| And.intro hT <| r
 clear b hT r
 obtain ⟨hT, r⟩ := G
 go_wp2_with fail
 refine (must_ok h1).mono ?_
 rintro en w2 ⟨A2, n2, c2, rfl, h2, b⟩
 clear h1
 replace BB := bnx BB b
 have G := mv b rfl <| And.intro hT <| r
 clear b hT r
 obtain ⟨hT, r⟩ := G
 obtain ⟨f0, f1, f2⟩ := r.open
 obtain ⟨z0, z1, z2⟩ := r.held
 go_wp2
 have qq := r.put false A2 n2 c2 0
 have hN := h2.put3 r (.bool false) (.slice A2 n2 c2) (.int .i64 0)
 have HB3 := below_put3 (g := w.heap.size) BB (by omega) (.bool false) (.slice A2 n2 c2) (.int .i64 0)
 obtain ⟨z0, z1, z2⟩ := qq.held
 exact bodyPost_ret (v := .agg #[.bool false, .slice A2 n2 c2, .int .i64 0]) (by simp [results, Tryz.results91, go_sem, z0, z1, z2]) rfl ⟨_, _, _, rfl, hN, HB3⟩

theorem edom_ok {w : World} (hT : Tab w) : Calls Tryz.prog 90 #[] w (GivI d64 w) := by
 have BB := below_alloc w (.cells #[.bool false, .slice none 0 0, .int .i64 0, .bool false, .slice none 0 0, .int .i64 0] 33)
 have r := Ibx.new w false none 0 0 0 false none 0 0 0
 replace hT := mv BB rfl hT
 go_enter Tryz.func90, Tryz.ntmps90
 go_wp2_with fail
 refine (of_64 hT).mono ?_
 rintro en w1 ⟨A1, n1, c1, rfl, h1, b⟩
 replace BB := bnx BB b
 have G := mv b rfl <| And.intro hT <| r
 clear b hT r
 obtain ⟨hT, r⟩ := G
 go_wp2_with fail
 refine (must_ok h1).mono ?_
 rintro en w2 ⟨A2, n2, c2, rfl, h2, b⟩
 clear h1
 replace BB := bnx BB b
 have G := mv b rfl <| And.intro hT <| r
 clear b hT r
 obtain ⟨hT, r⟩ := G
 have gl2 := r.gl
 obtain ⟨y0, y1, y2⟩ := (Box.new w2 false A2 n2 c2 6).held
 have b := below_alloc w2 (.cells #[.bool false, .slice A2 n2 c2, .int .i64 6] 24)
 replace BB := bnx BB b
 have G := mv b rfl (J3 hT r h2)
 clear b hT r h2
 obtain ⟨hT, r, h2⟩ := G
 go_wp2_with fail
 have b : Below (w2.alloc (.cells #[.bool false, .slice A2 n2 c2, .int .i64 6] 24)).heap.size (w2.alloc (.cells #[.bool false, .slice A2 n2 c2, .int .i64 6] 24)) (World.drew (w2.alloc (.cells #[.bool false, .slice A2 n2 c2, .int .i64 6] 24))) := below_drewN (Below.refl _ _) 1
 replace BB := bnx BB b
 have G := mv b rfl (J6 hT r h2 y0 y1 y2)
 clear b hT r h2 y0 y1 y2
 obtain ⟨hT, r, h2, y0, y1, y2⟩ := G
 refine wp_region_held_drew (S := fun w' => w'.cell? ⟨w2.heap.size, 0, none⟩ = some (.bool false) ∧ w'.cell? ⟨w2.heap.size, 1, none⟩ = some (.slice A2 n2 c2) ∧ w'.cell? ⟨w2.heap.size, 2, none⟩ = some (.int .i64 6)) (by kernel_rfl) (by exact ⟨y0, y1, y2⟩) (fun hHeldv0 => ?_)
 generalize World.drew (w2.alloc (.cells #[.bool false, .slice A2 n2 c2, .int .i64 6] 24)) = wd at *
 refine tl 0 ?_
 refine tl 2 ?_
 refine rdy 1 fun K hK => ?_
 go_simp
 refine (show Calls _ _ _ _ (Goods true 1 6 _) from dneg_any hT h2 (okd_64 false)).mono ?_
 rintro en w' ⟨A3, n3, c3, rfl, h3, b⟩
 replace BB := below_next BB BB.size b (by rfl) (by rfl) (by rfl) (by rfl)
 have G := mv b (by rfl) <| And.intro hT <| And.intro r <| And.intro h2 <| And.intro y0 <| And.intro y1 <| y2
 clear b hT r h2 y0 y1 y2
 obtain ⟨hT, r, h2, y0, y1, y2⟩ := G
 obtain ⟨f0, f1, f2, f3, f4, f5⟩ := r.open
 obtain ⟨z0, z1, z2, z3, z4, z5⟩ := r.held
 refine hK.out _ _ (by exact ⟨y0, y1, y2⟩) (fun hHeldv1 => ?_)
 clear hK K hHeldv0
 try simp only [Act.put]
 refine tl 3 ?_
 refine rdy 4 fun K hK => ?_
 go_simp
 refine hK.out _ _ (by exact ⟨cell_oth6 y0 (by omega), cell_oth6 y1 (by omega), cell_oth6 y2 (by omega)⟩) (fun hHeldv2 => ?_)
 clear hK K hHeldv1
 try simp only [Act.put]
 refine wpAnyH_done (by kernel_rfl) ?_ _
 go_wp2
 have qq := r.put true A3 n3 c3 6 false A2 n2 c2 6
 have hN := h3.put6 r (.bool true) (.slice A3 n3 c3) (.int .i64 6) (.bool false) (.slice A2 n2 c2) (.int .i64 6)
 have hM := h2.put6 r (.bool true) (.slice A3 n3 c3) (.int .i64 6) (.bool false) (.slice A2 n2 c2) (.int .i64 6)
 have HB3 := below_put6 (g := w.heap.size) BB (by omega) (.bool true) (.slice A3 n3 c3) (.int .i64 6) (.bool false) (.slice A2 n2 c2) (.int .i64 6)
 obtain ⟨z0, z1, z2, z3, z4, z5⟩ := qq.held
 exact bodyPost_ret (v := .agg #[.bool true, .slice A3 n3 c3, .int .i64 6, .bool false, .slice A2 n2 c2, .int .i64 6]) (by simp [results, Tryz.results90, go_sem, z0, z1, z2, z3, z4, z5]) rfl ⟨_, _, _, _, _, _, rfl, hN.rd, hM.rd, HB3⟩

/-- what check finds of an interval and p bits -/
def chk (K : Nat) (x : Iv) (p : Int) : Int := if mayI K x = false ∨ p < 1 ∨ 300 < p then 1 else if withinI K x d64 = false then 4 else if x.lo.e < -400 ∨ x.hi.e < -400 then 2 else 0
def ChkIs (k : Int) (w : World) (en : Ending) (w' : World) : Prop := (k = 0 ∧ en = .returned (.tuple #[]) ∧ Below w.heap.size w w') ∨ (k ≠ 0 ∧ Faults k w en w')
theorem chk_bad {K : Nat} {x : Iv} {p : Int} (h : mayI K x = false ∨ p < 1 ∨ 300 < p) : chk K x p = 1 := by unfold chk; rw [if_pos h]
theorem chk_out {K : Nat} {x : Iv} {p : Int} (h : ¬ (mayI K x = false ∨ p < 1 ∨ 300 < p)) (h2 : withinI K x d64 = false) : chk K x p = 4 := by unfold chk; rw [if_neg h, if_pos h2]
theorem chk_fine {K : Nat} {x : Iv} {p : Int} (h : ¬ (mayI K x = false ∨ p < 1 ∨ 300 < p)) (h2 : ¬ withinI K x d64 = false) (h3 : x.lo.e < -400 ∨ x.hi.e < -400) : chk K x p = 2 := by unfold chk; rw [if_neg h, if_neg h2, if_pos h3]
theorem chk_good {K : Nat} {x : Iv} {p : Int} (h : ¬ (mayI K x = false ∨ p < 1 ∨ 300 < p)) (h2 : ¬ withinI K x d64 = false) (h3 : ¬ (x.lo.e < -400 ∨ x.hi.e < -400)) : chk K x p = 0 := by unfold chk; rw [if_neg h, if_neg h2, if_neg h3]

theorem echeck_any {w : World} {K : Nat} {x : Iv} {p : Int} {A1 : Option Addr} {n1 c1 : Nat} {A2 : Option Addr} {n2 c2 : Nat} (hK : 4194304 ≤ K) (hT : Tab w) (h1 : Rd w .u64 Go.Proofs.YtldbafifgkobcaaGreatDoor.W A1 n1 c1 x.lo.l) (h2 : Rd w .u64 Go.Proofs.YtldbafifgkobcaaGreatDoor.W A2 n2 c2 x.hi.l) :
  Calls Tryz.prog 38 #[.agg #[.bool x.lo.s, .slice A1 n1 c1, .int .i64 x.lo.e, .bool x.hi.s, .slice A2 n2 c2, .int .i64 x.hi.e], .int .i64 p] w (ChkIs (chk K x p) w) := by
 have BB := below_alloc w (.cells #[.bool x.lo.s, .slice A1 n1 c1, .int .i64 x.lo.e, .bool x.hi.s, .slice A2 n2 c2, .int .i64 x.hi.e] 33)
 obtain ⟨a0, a1, a2, a3, a4, a5⟩ := (Ibx.new w x.lo.s A1 n1 c1 x.lo.e x.hi.s A2 n2 c2 x.hi.e).held
 obtain ⟨k, hk⟩ : ∃ k, k = chk K x p := ⟨_, rfl⟩
 rw [← hk]
 have HK0 := Lib.hid hk
 clear hk
 have HK := Lib.hid hK
 clear hK
 obtain ⟨m, hm⟩ : ∃ m, m = mayI K x := ⟨_, rfl⟩
 have HM := Lib.hid hm
 clear hm
 obtain ⟨z, hz⟩ : ∃ z, z = withinI K x d64 := ⟨_, rfl⟩
 have HZ := Lib.hid hz
 clear hz
 have G := mv BB rfl (J3 hT h1 h2)
 clear hT h1 h2
 obtain ⟨hT, h1, h2⟩ := G
 go_enter Tryz.func38, Tryz.ntmps38
 go_wp2_with fail
 refine (show Calls _ _ _ _ (Bools m _) from by rw [HM.out]; exact imay_any HK.out hT h1 h2).mono ?_
 rintro en w1 ⟨rfl, b⟩
 replace BB := bnx BB b
 have G := mv b rfl (J9 hT h1 h2 a0 a1 a2 a3 a4 a5)
 clear b hT h1 h2 a0 a1 a2 a3 a4 a5
 obtain ⟨hT, h1, h2, a0, a1, a2, a3, a4, a5⟩ := G
 cases m
 ·go_wp2
  exact ⟨rfl, .inr ⟨by rw [HK0.out, chk_bad (.inl HM.out.symm)]; decide, by rw [HK0.out, chk_bad (.inl HM.out.symm)]; exact ⟨rfl, BB⟩⟩⟩
 by_cases hp1 : p < 1
 ·have d1 : decide (p < (1 : Int)) = true := decide_eq_true hp1
  go_wp2
  exact ⟨rfl, .inr ⟨by rw [HK0.out, chk_bad (.inr (.inl hp1))]; decide, by rw [HK0.out, chk_bad (.inr (.inl hp1))]; exact ⟨rfl, BB⟩⟩⟩
 have d1 : decide (p < (1 : Int)) = false := decide_eq_false hp1
 by_cases hp2 : 300 < p
 ·have d2 : decide (p > (300 : Int)) = true := decide_eq_true hp2
  have d3 : decide ((300 : Int) < p) = true := d2
  go_wp2
  exact ⟨rfl, .inr ⟨by rw [HK0.out, chk_bad (.inr (.inr hp2))]; decide, by rw [HK0.out, chk_bad (.inr (.inr hp2))]; exact ⟨rfl, BB⟩⟩⟩
 have d2 : decide (p > (300 : Int)) = false := decide_eq_false hp2
 have d3 : decide ((300 : Int) < p) = false := d2
 have HB := Lib.hid (show ¬ (mayI K x = false ∨ p < 1 ∨ 300 < p) from fun h => by rcases h with h | h | h; exact absurd (HM.out.trans h) (by decide); exact hp1 h; exact hp2 h)
 clear hp1 hp2 HM
 go_wp2_with fail
 have b : Below w1.heap.size w1 (World.drew w1) := below_drewN (Below.refl _ _) 1
 replace BB := bnx BB b
 have G := mv b rfl (J9 hT h1 h2 a0 a1 a2 a3 a4 a5)
 clear b hT h1 h2 a0 a1 a2 a3 a4 a5
 obtain ⟨hT, h1, h2, a0, a1, a2, a3, a4, a5⟩ := G
 refine wp_region_held_drew (S := fun w' => w'.cell? ⟨w.heap.size, 0, none⟩ = some (.bool x.lo.s) ∧ w'.cell? ⟨w.heap.size, 1, none⟩ = some (.slice A1 n1 c1) ∧ w'.cell? ⟨w.heap.size, 2, none⟩ = some (.int .i64 x.lo.e) ∧ w'.cell? ⟨w.heap.size, 3, none⟩ = some (.bool x.hi.s) ∧ w'.cell? ⟨w.heap.size, 4, none⟩ = some (.slice A2 n2 c2) ∧ w'.cell? ⟨w.heap.size, 5, none⟩ = some (.int .i64 x.hi.e)) (by kernel_rfl) (by exact ⟨a0, a1, a2, a3, a4, a5⟩) (fun hHeldv0 => ?_)
 generalize World.drew w1 = wd at *
 refine tl 0 ?_
 refine rdy 1 fun K hK => ?_
 go_simp
 refine (edom_ok hT).mono ?_
 rintro en w' ⟨A3, n3, c3, A4, n4, c4, rfl, h3, h4, b⟩
 replace BB := below_next BB BB.size b (by rfl) (by rfl) (by rfl) (by rfl)
 have G := mv b (by rfl) <| And.intro hT <| And.intro h1 <| And.intro h2 <| And.intro a0 <| And.intro a1 <| And.intro a2 <| And.intro a3 <| And.intro a4 <| a5
 clear b hT h1 h2 a0 a1 a2 a3 a4 a5
 obtain ⟨hT, h1, h2, a0, a1, a2, a3, a4, a5⟩ := G
 refine hK.out _ _ (by exact ⟨a0, a1, a2, a3, a4, a5⟩) (fun hHeldv1 => ?_)
 clear hK K hHeldv0
 try simp only [Act.put]
 refine rdy 2 fun K hK => ?_
 go_simp
 refine (show Calls _ _ _ _ (Bools z _) from by rw [HZ.out]; exact iwithin_any (y := d64) HK.out hT h1 h2 h3 h4).mono ?_
 rintro en w' ⟨rfl, b⟩
 replace BB := below_next BB BB.size b (by rfl) (by rfl) (by rfl) (by rfl)
 have G := mv b (by rfl) <| And.intro hT <| And.intro h1 <| And.intro h2 <| And.intro a0 <| And.intro a1 <| And.intro a2 <| And.intro a3 <| And.intro a4 <| And.intro a5 <| And.intro h3 <| h4
 clear b hT h1 h2 a0 a1 a2 a3 a4 a5 h3 h4
 obtain ⟨hT, h1, h2, a0, a1, a2, a3, a4, a5, h3, h4⟩ := G
 refine hK.out _ _ (by exact ⟨a0, a1, a2, a3, a4, a5⟩) (fun hHeldv2 => ?_)
 clear hK K hHeldv1
 try simp only [Act.put]
 refine tl 3 ?_
 refine tl 4 ?_
 refine wpAnyH_done (by kernel_rfl) ?_ _
 clear hHeldv2
 cases z
 ·go_wp2
  exact ⟨rfl, .inr ⟨by rw [HK0.out, chk_out HB.out HZ.out.symm]; decide, by rw [HK0.out, chk_out HB.out HZ.out.symm]; exact ⟨rfl, BB⟩⟩⟩
 have HW := Lib.hid (show ¬ withinI K x d64 = false from fun h => absurd (HZ.out.trans h) (by decide))
 clear HZ
 by_cases he1 : x.lo.e < -400
 ·have d4 : decide (x.lo.e < (-400 : Int)) = true := decide_eq_true he1
  go_wp2
  exact ⟨rfl, .inr ⟨by rw [HK0.out, chk_fine HB.out HW.out (.inl he1)]; decide, by rw [HK0.out, chk_fine HB.out HW.out (.inl he1)]; exact ⟨rfl, BB⟩⟩⟩
 have d4 : decide (x.lo.e < (-400 : Int)) = false := decide_eq_false he1
 by_cases he2 : x.hi.e < -400
 ·have d5 : decide (x.hi.e < (-400 : Int)) = true := decide_eq_true he2
  go_wp2
  exact ⟨rfl, .inr ⟨by rw [HK0.out, chk_fine HB.out HW.out (.inr he2)]; decide, by rw [HK0.out, chk_fine HB.out HW.out (.inr he2)]; exact ⟨rfl, BB⟩⟩⟩
 have d5 : decide (x.hi.e < (-400 : Int)) = false := decide_eq_false he2
 go_wp2
 simp [bodyPost, results, Tryz.results38]
 exact .inl ⟨by rw [HK0.out]; exact chk_good HB.out HW.out (fun h => by rcases h with h | h <;> omega), rfl, BB⟩

theorem echeck_no {k : Int} {f : FuncId} {args : Array Value} {w : World} {j : Int} (h : Calls Tryz.prog f args w (ChkIs j w)) (hj : j = k) (hk : k ≠ 0) : Calls Tryz.prog f args w (Faults k w) := h.mono fun _ _ h => by
 subst hj
 rcases h with ⟨h0, _⟩ | ⟨_, h1⟩
 ·exact absurd h0 hk
 ·exact h1
theorem echeck_ok {f : FuncId} {args : Array Value} {w : World} {j : Int} (h : Calls Tryz.prog f args w (ChkIs j w)) (hj : j = 0) : Calls Tryz.prog f args w (fun en w' => en = .returned (.tuple #[]) ∧ Below w.heap.size w w') := h.mono fun _ _ h => by
 rcases h with ⟨_, h1⟩ | ⟨h0, _⟩
 ·exact h1
 ·exact absurd hj h0

theorem eexp1_no {w : World} {K g : Nat} {a : Rw} {p : Int} {up : Bool} {A1 : Option Addr} {n1 c1 : Nat} (hK : 4194304 ≤ K) (hT : Tab w) (h1 : Rd w .u64 Go.Proofs.YtldbafifgkobcaaGreatDoor.W A1 n1 c1 a.l) (hn : n1 ≤ 10000000000000) (xa : Box w g a.s A1 n1 c1 a.e) (xp : Cel w (g + 1) p) (u0 : w.cell? ⟨g + 2, 0, none⟩ = some (.bool up)) {k : Int} (hc : chk K ⟨a, a⟩ p = k) (hk : k ≠ 0) :
  Calls Tryz.prog 37 #[.pointer (some ⟨g, 0, none⟩), .pointer (some ⟨g + 1, 0, none⟩), .pointer (some ⟨g + 2, 0, none⟩)] w (Faults k w) := by
 have BB := below_alloc w (.cells #[.bool false, .slice none 0 0, .int .i64 0] 24)
 have r := Box.new w false none 0 0 0
 obtain ⟨a0, a1, a2⟩ := xa.held
 have p0 := xp.c0
 have lg := xa.gl
 have HC := Lib.hid hc
 have HN := Lib.hid hn
 have HK := Lib.hid hK
 clear hc hn hK xa xp
 have HK1 := Lib.hid hk
 clear hk
 have G := mv BB rfl (J7 hT h1 a0 a1 a2 p0 u0)
 clear hT h1 a0 a1 a2 p0 u0
 obtain ⟨hT, h1, a0, a1, a2, p0, u0⟩ := G
 go_enter Tryz.func37, Tryz.ntmps37
 go_wp2_with fail
 have b : Below (w.alloc (.cells #[.bool false, .slice none 0 0, .int .i64 0] 24)).heap.size (w.alloc (.cells #[.bool false, .slice none 0 0, .int .i64 0] 24)) (World.drew (w.alloc (.cells #[.bool false, .slice none 0 0, .int .i64 0] 24))) := below_drewN (Below.refl _ _) 1
 replace BB := bnx BB b
 have G := mv b rfl (J8 hT h1 a0 a1 a2 p0 u0 r)
 clear b hT h1 a0 a1 a2 p0 u0 r
 obtain ⟨hT, h1, a0, a1, a2, p0, u0, r⟩ := G
 refine wp_region_held_drew (S := fun w' => w'.cell? ⟨g, 0, none⟩ = some (.bool a.s) ∧ w'.cell? ⟨g, 1, none⟩ = some (.slice A1 n1 c1) ∧ w'.cell? ⟨g, 2, none⟩ = some (.int .i64 a.e) ∧ w'.cell? ⟨g + 1, 0, none⟩ = some (.int .i64 p)) (by kernel_rfl) (by exact ⟨a0, a1, a2, p0⟩) (fun hHeldv0 => ?_)
 generalize World.drew (w.alloc (.cells #[.bool false, .slice none 0 0, .int .i64 0] 24)) = wd at *
 refine tl 0 ?_
 refine tl 2 ?_
 refine rdy 1 fun K hK => ?_
 go_simp
 refine (iof_any h1 HN.out).mono ?_
 rintro en w' ⟨A2, n2, c2, A3, n3, c3, rfl, h2, h3, b⟩
 replace BB := below_next BB BB.size b (by rfl) (by rfl) (by rfl) (by rfl)
 have G := mv b (by rfl) <| And.intro hT <| And.intro h1 <| And.intro a0 <| And.intro a1 <| And.intro a2 <| And.intro p0 <| And.intro u0 <| r
 clear b hT h1 a0 a1 a2 p0 u0 r
 obtain ⟨hT, h1, a0, a1, a2, p0, u0, r⟩ := G
 refine hK.out _ _ (by exact ⟨a0, a1, a2, p0⟩) (fun hHeldv1 => ?_)
 clear hK K hHeldv0
 try dsimp only
 refine rdy 3 fun K hK => ?_
 go_simp
 refine (echeck_no (echeck_any (x := ⟨a, a⟩) HK.out hT h2 h3) HC.out HK1.out).mono ?_
 rintro en w' ⟨rfl, b⟩
 replace BB := below_next BB BB.size b (by rfl) (by rfl) (by rfl) (by rfl)
 exact ⟨rfl, rfl, BB⟩

theorem below_heap {b0 : Nat} {w0 w w' : World} (h : Below b0 w0 w) (e1 : w' = w) : Below b0 w0 w' := by rw [e1]; exact h

theorem eexp1_ok {w : World} {K g : Nat} {a : Rw} {p : Int} {up : Bool} {A1 : Option Addr} {n1 c1 : Nat} (hK : 4194304 ≤ K) (hT : Tab w) (h1 : Rd w .u64 Go.Proofs.YtldbafifgkobcaaGreatDoor.W A1 n1 c1 a.l) (hn : n1 ≤ 10000000000000) (xa : Box w g a.s A1 n1 c1 a.e) (xp : Cel w (g + 1) p) (u0 : w.cell? ⟨g + 2, 0, none⟩ = some (.bool up)) {s : Bool} {m : Nat} {e : Int} (hc : chk K ⟨a, a⟩ p = 0) (hpow : ∀ W2 : World, Below w.heap.size w W2 → Calls Tryz.prog 39 #[.agg #[.bool a.s, .slice A1 n1 c1, .int .i64 a.e], .int .i64 p, .bool up] W2 (Goods s m e W2)) :
  Calls Tryz.prog 37 #[.pointer (some ⟨g, 0, none⟩), .pointer (some ⟨g + 1, 0, none⟩), .pointer (some ⟨g + 2, 0, none⟩)] w (Goods s m e w) := by
 have BB := below_alloc w (.cells #[.bool false, .slice none 0 0, .int .i64 0] 24)
 have r := Box.new w false none 0 0 0
 obtain ⟨a0, a1, a2⟩ := xa.held
 have p0 := xp.c0
 have lg := xa.gl
 have HC := Lib.hid hc
 have HN := Lib.hid hn
 have HK := Lib.hid hK
 clear hc hn hK xa xp
 have HP := Lib.hid hpow
 clear hpow
 have G := mv BB rfl (J7 hT h1 a0 a1 a2 p0 u0)
 clear hT h1 a0 a1 a2 p0 u0
 obtain ⟨hT, h1, a0, a1, a2, p0, u0⟩ := G
 go_enter Tryz.func37, Tryz.ntmps37
 go_wp2_with fail
 have b : Below (w.alloc (.cells #[.bool false, .slice none 0 0, .int .i64 0] 24)).heap.size (w.alloc (.cells #[.bool false, .slice none 0 0, .int .i64 0] 24)) (World.drew (w.alloc (.cells #[.bool false, .slice none 0 0, .int .i64 0] 24))) := below_drewN (Below.refl _ _) 1
 replace BB := bnx BB b
 have G := mv b rfl (J8 hT h1 a0 a1 a2 p0 u0 r)
 clear b hT h1 a0 a1 a2 p0 u0 r
 obtain ⟨hT, h1, a0, a1, a2, p0, u0, r⟩ := G
 refine wp_region_held_drew (S := fun w' => w'.cell? ⟨g, 0, none⟩ = some (.bool a.s) ∧ w'.cell? ⟨g, 1, none⟩ = some (.slice A1 n1 c1) ∧ w'.cell? ⟨g, 2, none⟩ = some (.int .i64 a.e) ∧ w'.cell? ⟨g + 1, 0, none⟩ = some (.int .i64 p)) (by kernel_rfl) (by exact ⟨a0, a1, a2, p0⟩) (fun hHeldv0 => ?_)
 generalize World.drew (w.alloc (.cells #[.bool false, .slice none 0 0, .int .i64 0] 24)) = wd at *
 refine tl 0 ?_
 refine tl 2 ?_
 refine rdy 1 fun K hK => ?_
 go_simp
 refine (iof_any h1 HN.out).mono ?_
 rintro en w' ⟨A2, n2, c2, A3, n3, c3, rfl, h2, h3, b⟩
 replace BB := below_next BB BB.size b (by rfl) (by rfl) (by rfl) (by rfl)
 have G := mv b (by rfl) <| And.intro hT <| And.intro h1 <| And.intro a0 <| And.intro a1 <| And.intro a2 <| And.intro p0 <| And.intro u0 <| r
 clear b hT h1 a0 a1 a2 p0 u0 r
 obtain ⟨hT, h1, a0, a1, a2, p0, u0, r⟩ := G
 refine hK.out _ _ (by exact ⟨a0, a1, a2, p0⟩) (fun hHeldv1 => ?_)
 clear hK K hHeldv0
 try dsimp only
 refine rdy 3 fun K hK => ?_
 go_simp
 refine (echeck_ok (echeck_any (x := ⟨a, a⟩) HK.out hT h2 h3) HC.out).mono ?_
 rintro en w' ⟨rfl, b⟩
 clear h2 h3
 replace BB := below_next BB BB.size b (by rfl) (by rfl) (by rfl) (by rfl)
 have G := mv b (by rfl) <| And.intro hT <| And.intro h1 <| And.intro a0 <| And.intro a1 <| And.intro a2 <| And.intro p0 <| And.intro u0 <| r
 clear b hT h1 a0 a1 a2 p0 u0 r
 obtain ⟨hT, h1, a0, a1, a2, p0, u0, r⟩ := G
 refine hK.out _ _ (by exact ⟨a0, a1, a2, p0⟩) (fun hHeldv2 => ?_)
 clear hK K hHeldv1
 try simp only [Act.put]
 refine wpAnyH_done (by kernel_rfl) ?_ _
 clear hHeldv2
 go_wp2_with fail
 refine (HP.out _ (below_heap BB rfl)).mono ?_
 rintro en w2 ⟨A5, n5, c5, rfl, h5, b⟩
 clear a0 a1 a2 p0 u0 h1 hT
 replace BB := bnx BB b
 replace r := mv b rfl r
 clear b
 obtain ⟨f0, f1, f2⟩ := r.open
 obtain ⟨z0, z1, z2⟩ := r.held
 go_wp2
 have qq := r.put s A5 n5 c5 e
 have hN := h5.put3 r (.bool s) (.slice A5 n5 c5) (.int .i64 e)
 have HB3 := below_put3 (g := w.heap.size) BB (by omega) (.bool s) (.slice A5 n5 c5) (.int .i64 e)
 obtain ⟨z0, z1, z2⟩ := qq.held
 exact bodyPost_ret (v := .agg #[.bool s, .slice A5 n5 c5, .int .i64 e]) (by simp [results, Tryz.results37, go_sem, z0, z1, z2]) rfl ⟨_, _, _, rfl, hN, HB3⟩

theorem face_exp {P : Int → Bool → Nat → Int → Prop} {w : World} {a : Rw} {p : Int} {up : Bool} {A1 : Option Addr} {n1 c1 : Nat} (hT : Tab w) (h1 : Rd w .u64 Go.Proofs.YtldbafifgkobcaaGreatDoor.W A1 n1 c1 a.l)
  (hc : ∀ W2 : World, Below w.heap.size w W2 → Tab W2 → Rd W2 .u64 Go.Proofs.YtldbafifgkobcaaGreatDoor.W A1 n1 c1 a.l → Box W2 w.heap.size a.s A1 n1 c1 a.e → Cel W2 (w.heap.size + 1) p → W2.cell? ⟨w.heap.size + 2, 0, none⟩ = some (.bool up) → Calls Tryz.prog 37 #[.pointer (some ⟨w.heap.size, 0, none⟩), .pointer (some ⟨w.heap.size + 1, 0, none⟩), .pointer (some ⟨w.heap.size + 2, 0, none⟩)] W2 (Ran P W2)) :
  Calls Tryz.prog 11 #[.agg #[.bool a.s, .slice A1 n1 c1, .int .i64 a.e], .int .i64 p, .bool up] w (Tells P w) := by
 have HC := Lib.hid hc
 clear hc
 have hmf := make_func
 have BB := (three_below w (.cells #[.bool a.s, .slice A1 n1 c1, .int .i64 a.e] 24) (.cells #[.int .i64 p] 3) (.cells #[.bool up] 4)).trans ((below_alloc _ (.cells #[.bool false, .slice none 0 0, .int .i64 0] 24)).mono (by simp; omega))
 have xa := (((Box.new w a.s A1 n1 c1 a.e).alloc (.cells #[.int .i64 p] 3)).alloc (.cells #[.bool up] 4)).alloc (.cells #[.bool false, .slice none 0 0, .int .i64 0] 24)
 have b2 := below_alloc ((w.alloc (.cells #[.bool a.s, .slice A1 n1 c1, .int .i64 a.e] 24)).alloc (.cells #[.int .i64 p] 3)) (.cells #[.bool up] 4)
 have b3 := below_alloc (((w.alloc (.cells #[.bool a.s, .slice A1 n1 c1, .int .i64 a.e] 24)).alloc (.cells #[.int .i64 p] 3)).alloc (.cells #[.bool up] 4)) (.cells #[.bool false, .slice none 0 0, .int .i64 0] 24)
 have xp := mv b3 rfl (mv b2 rfl (Cel.new1 w (.cells #[.bool a.s, .slice A1 n1 c1, .int .i64 a.e] 24) p))
 have xu0 : World.cell? (((w.alloc (.cells #[.bool a.s, .slice A1 n1 c1, .int .i64 a.e] 24)).alloc (.cells #[.int .i64 p] 3)).alloc (.cells #[.bool up] 4)) ⟨(w.alloc (.cells #[.bool a.s, .slice A1 n1 c1, .int .i64 a.e] 24)).heap.size + 1, 0, none⟩ = some (.bool up) := new_cell1 (w.alloc (.cells #[.bool a.s, .slice A1 n1 c1, .int .i64 a.e] 24)) (.cells #[.int .i64 p] 3) #[.bool up] 4 0
 have xu := mv b3 rfl xu0
 clear xu0
 have e2 : (w.alloc (.cells #[.bool a.s, .slice A1 n1 c1, .int .i64 a.e] 24)).heap.size + 1 = w.heap.size + 2 := by simp
 rw [e2] at xu
 have r := Box.new (((w.alloc (.cells #[.bool a.s, .slice A1 n1 c1, .int .i64 a.e] 24)).alloc (.cells #[.int .i64 p] 3)).alloc (.cells #[.bool up] 4)) false none 0 0 0
 have e3 : (((w.alloc (.cells #[.bool a.s, .slice A1 n1 c1, .int .i64 a.e] 24)).alloc (.cells #[.int .i64 p] 3)).alloc (.cells #[.bool up] 4)).heap.size = w.heap.size + 3 := by simp
 rw [e3] at r
 clear e2 e3 b2 b3
 have G := mv BB rfl <| And.intro hT <| h1
 clear hT h1
 obtain ⟨hT, h1⟩ := G
 go_enter Tryz.func11, Tryz.ntmps11
 go_wp2_with fail
 refine (told_any3 (P := P) (fun _ => by kernel_rfl) (fun W2 h2 => ?_)).mono ?_
 ·subst h2
  have b4 := two_below ((((w.alloc (.cells #[.bool a.s, .slice A1 n1 c1, .int .i64 a.e] 24)).alloc (.cells #[.int .i64 p] 3)).alloc (.cells #[.bool up] 4)).alloc (.cells #[.bool false, .slice none 0 0, .int .i64 0] 24)) (.cells #[.bool false, .slice none 0 0, .int .i64 0] 24) (.cells #[.int .i64 0] 3)
  exact HC.out _ (BB.trans (b4.mono BB.size)) (mv b4 rfl hT) (mv b4 rfl h1) (mv b4 rfl xa) (mv b4 rfl xp) (mv b4 rfl xu)
 rintro en w5 ⟨k, s', A5, n5, c5, m', e', rfl, hP, h5, b⟩
 have HP := Lib.hid hP
 replace r := r.next b rfl
 replace BB := bnx BB b
 obtain ⟨f0, f1, f2⟩ := r.open
 obtain ⟨z0, z1, z2⟩ := r.held
 clear b hP xa xp xu HC hT h1
 go_wp2
 have p := r.put s' A5 n5 c5 e'
 have hN5 := h5.put3 r (.bool s') (.slice A5 n5 c5) (.int .i64 e')
 have HB3 := below_put3 (g := w.heap.size + 3) BB (by omega) (.bool s') (.slice A5 n5 c5) (.int .i64 e')
 obtain ⟨z0, z1, z2⟩ := p.held
 exact bodyPost_ret (v := .tuple #[.agg #[.bool s', .slice A5 n5 c5, .int .i64 e'], .int .i64 k]) (by simp [results, Tryz.results11, go_sem, z0, z1, z2]) rfl ⟨_, _, _, _, _, _, _, rfl, HP.out, hN5, HB3⟩
theorem goods_ran {s : Bool} {m : Nat} {e : Int} {w w' : World} {en : Ending} (h : Goods s m e w en w') : Ran (IsD s m e) w en w' := by
 obtain ⟨A, n, c, h1, h2, h3⟩ := h
 exact .inl ⟨s, A, n, c, m, e, h1, ⟨rfl, rfl, rfl, rfl⟩, h2, h3⟩

theorem eexp_no {w : World} {K : Nat} {a : Rw} {p : Int} {up : Bool} {k : Int} {A1 : Option Addr} {n1 c1 : Nat} (hK : 4194304 ≤ K) (hT : Tab w) (h1 : Rd w .u64 Go.Proofs.YtldbafifgkobcaaGreatDoor.W A1 n1 c1 a.l) (hn : n1 ≤ 10000000000000) (hc : chk K ⟨a, a⟩ p = k) (hk : k ≠ 0) :
  Calls Tryz.prog 11 #[.agg #[.bool a.s, .slice A1 n1 c1, .int .i64 a.e], .int .i64 p, .bool up] w (ToldIs false 0 0 k w) :=
 told_is' (P := fun k' s m e => k' = k ∧ s = false ∧ m = 0 ∧ e = 0) (face_exp hT h1 fun _ _ t h a p u => (eexp1_no hK t h hn a p u hc hk).mono fun _ _ hg => ran_fault hg hk ⟨rfl, rfl, rfl, rfl⟩) fun _ _ _ _ h => h
theorem eexp_is {w : World} {K : Nat} {a : Rw} {p : Int} {up : Bool} {s : Bool} {m : Nat} {e : Int} {A1 : Option Addr} {n1 c1 : Nat} (hK : 4194304 ≤ K) (hT : Tab w) (h1 : Rd w .u64 Go.Proofs.YtldbafifgkobcaaGreatDoor.W A1 n1 c1 a.l) (hn : n1 ≤ 10000000000000) (hc : chk K ⟨a, a⟩ p = 0) (hpow : ∀ W2 : World, Below w.heap.size w W2 → Calls Tryz.prog 39 #[.agg #[.bool a.s, .slice A1 n1 c1, .int .i64 a.e], .int .i64 p, .bool up] W2 (Goods s m e W2)) :
  Calls Tryz.prog 11 #[.agg #[.bool a.s, .slice A1 n1 c1, .int .i64 a.e], .int .i64 p, .bool up] w (ToldIs s m e 0 w) :=
 told_is' (P := IsD s m e) (face_exp hT h1 fun _ bb t h a p u => (eexp1_ok hK t h hn a p u hc fun _ b2 => hpow _ (bb.trans (b2.mono bb.size))).mono fun _ _ hg => goods_ran hg) fun _ _ _ _ h => h

theorem eover1_no {w : World} {K g : Nat} {x : Iv} {p k : Int} {A1 : Option Addr} {n1 c1 : Nat} {A2 : Option Addr} {n2 c2 : Nat} (hK : 4194304 ≤ K) (hT : Tab w) (h1 : Rd w .u64 Go.Proofs.YtldbafifgkobcaaGreatDoor.W A1 n1 c1 x.lo.l) (h2 : Rd w .u64 Go.Proofs.YtldbafifgkobcaaGreatDoor.W A2 n2 c2 x.hi.l) (xa : Ibx w g x.lo.s A1 n1 c1 x.lo.e x.hi.s A2 n2 c2 x.hi.e) (xp : Cel w (g + 1) p) (hc : chk K x p = k) (hk : k ≠ 0) :
  Calls Tryz.prog 51 #[.pointer (some ⟨g, 0, none⟩), .pointer (some ⟨g + 1, 0, none⟩)] w (Faults k w) := by
 have BB := below_alloc w (.cells #[.bool false, .slice none 0 0, .int .i64 0, .bool false, .slice none 0 0, .int .i64 0] 33)
 obtain ⟨a0, a1, a2, a3, a4, a5⟩ := xa.held
 have p0 := xp.c0
 have HC := Lib.hid hc
 have HK1 := Lib.hid hk
 have HK := Lib.hid hK
 clear hc hk hK xa xp
 have G := mv BB rfl (J10 hT h1 h2 a0 a1 a2 a3 a4 a5 p0)
 clear hT h1 h2 a0 a1 a2 a3 a4 a5 p0
 obtain ⟨hT, h1, h2, a0, a1, a2, a3, a4, a5, p0⟩ := G
 go_enter Tryz.func51, Tryz.ntmps51
 go_wp2_with fail
 refine (echeck_no (echeck_any (x := x) HK.out hT h1 h2) HC.out HK1.out).mono ?_
 rintro en w2 ⟨rfl, b⟩
 replace BB := bnx BB b
 go_wp2
 exact ⟨rfl, rfl, BB⟩

theorem eover_no {w : World} {K : Nat} {x : Iv} {p k : Int} {A1 : Option Addr} {n1 c1 : Nat} {A2 : Option Addr} {n2 c2 : Nat} (hK : 4194304 ≤ K) (hT : Tab w) (h1 : Rd w .u64 Go.Proofs.YtldbafifgkobcaaGreatDoor.W A1 n1 c1 x.lo.l) (h2 : Rd w .u64 Go.Proofs.YtldbafifgkobcaaGreatDoor.W A2 n2 c2 x.hi.l) (hc : chk K x p = k) (hk : k ≠ 0) :
  Calls Tryz.prog 19 #[.agg #[.bool x.lo.s, .slice A1 n1 c1, .int .i64 x.lo.e, .bool x.hi.s, .slice A2 n2 c2, .int .i64 x.hi.e], .int .i64 p] w (TellI k Iv.zero w) := by
 have hmf := make_func
 have HC := Lib.hid hc
 have HK1 := Lib.hid hk
 have HK := Lib.hid hK
 clear hc hk hK
 have BB := three_below w (.cells #[.bool x.lo.s, .slice A1 n1 c1, .int .i64 x.lo.e, .bool x.hi.s, .slice A2 n2 c2, .int .i64 x.hi.e] 33) (.cells #[.int .i64 p] 3) (.cells #[.bool false, .slice none 0 0, .int .i64 0, .bool false, .slice none 0 0, .int .i64 0] 33)
 have xa := ((Ibx.new w x.lo.s A1 n1 c1 x.lo.e x.hi.s A2 n2 c2 x.hi.e).alloc (.cells #[.int .i64 p] 3)).alloc (.cells #[.bool false, .slice none 0 0, .int .i64 0, .bool false, .slice none 0 0, .int .i64 0] 33)
 have xp := mv (below_alloc ((w.alloc (.cells #[.bool x.lo.s, .slice A1 n1 c1, .int .i64 x.lo.e, .bool x.hi.s, .slice A2 n2 c2, .int .i64 x.hi.e] 33)).alloc (.cells #[.int .i64 p] 3)) (.cells #[.bool false, .slice none 0 0, .int .i64 0, .bool false, .slice none 0 0, .int .i64 0] 33)) rfl (Cel.new1 w (.cells #[.bool x.lo.s, .slice A1 n1 c1, .int .i64 x.lo.e, .bool x.hi.s, .slice A2 n2 c2, .int .i64 x.hi.e] 33) p)
 have r := ibx_two w (.cells #[.bool x.lo.s, .slice A1 n1 c1, .int .i64 x.lo.e, .bool x.hi.s, .slice A2 n2 c2, .int .i64 x.hi.e] 33) (.cells #[.int .i64 p] 3) false none 0 0 0 false none 0 0 0
 have G := mv BB rfl (J3 hT h1 h2)
 clear hT h1 h2
 obtain ⟨hT, h1, h2⟩ := G
 go_enter Tryz.func19, Tryz.ntmps19
 go_wp2_with fail
 refine (itold_no (k := k) (fun _ => by kernel_rfl) fun _ b => eover1_no HK.out (mv b rfl hT) (mv b rfl h1) (mv b rfl h2) (mv b rfl xa) (mv b rfl xp) HC.out HK1.out).mono ?_
 rintro en w5 ⟨A5, n5, c5, A6, n6, c6, rfl, h5, h6, b⟩
 clear hT h1 h2 xa xp
 replace BB := bnx BB b
 replace r := mv b rfl r
 clear b
 obtain ⟨f0, f1, f2, f3, f4, f5⟩ := r.open
 obtain ⟨z0, z1, z2, z3, z4, z5⟩ := r.held
 go_wp2
 have qq := r.put Iv.zero.lo.s A5 n5 c5 Iv.zero.lo.e Iv.zero.hi.s A6 n6 c6 Iv.zero.hi.e
 have hN := h5.put6 r (.bool Iv.zero.lo.s) (.slice A5 n5 c5) (.int .i64 Iv.zero.lo.e) (.bool Iv.zero.hi.s) (.slice A6 n6 c6) (.int .i64 Iv.zero.hi.e)
 have hM := h6.put6 r (.bool Iv.zero.lo.s) (.slice A5 n5 c5) (.int .i64 Iv.zero.lo.e) (.bool Iv.zero.hi.s) (.slice A6 n6 c6) (.int .i64 Iv.zero.hi.e)
 have HB3 := below_put6 (g := w.heap.size + 2) BB (by omega) (.bool Iv.zero.lo.s) (.slice A5 n5 c5) (.int .i64 Iv.zero.lo.e) (.bool Iv.zero.hi.s) (.slice A6 n6 c6) (.int .i64 Iv.zero.hi.e)
 obtain ⟨z0, z1, z2, z3, z4, z5⟩ := qq.held
 exact bodyPost_ret (v := .tuple #[.agg #[.bool Iv.zero.lo.s, .slice A5 n5 c5, .int .i64 Iv.zero.lo.e, .bool Iv.zero.hi.s, .slice A6 n6 c6, .int .i64 Iv.zero.hi.e], .int .i64 k]) (by simp [results, Tryz.results19, go_sem, z0, z1, z2, z3, z4, z5]) rfl ⟨_, _, _, _, _, _, rfl, hN, hM, HB3⟩

end Go.Proofs.YtldbafifgkobcaaGreatDoor
