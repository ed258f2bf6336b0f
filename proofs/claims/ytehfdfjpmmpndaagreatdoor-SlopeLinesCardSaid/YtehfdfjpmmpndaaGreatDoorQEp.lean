/-
  Contracts of expo's domain, check, one and of the faces Exp and Over, at this translation.
-/
import Derived.Test.YtehfdfjpmmpndaaGreatDoorQEb
import Derived.Test.YtehfdfjpmmpndaaGreatDoorQRt
set_option maxHeartbeats 8000000
set_option maxRecDepth 100000
namespace Go.Proofs.YtehfdfjpmmpndaaGreatDoor
open Go.RowKit
variable {A1 A2 A3 A4 : Option Addr} {K c1 c2 c3 c4 n1 n2 n3 n4 q x1 x2 y1 y2 : Nat} {p : Int} {w : World} {x : Iv}
theorem of_1 (hT : Tab w) : Calls Tryz.prog 12 #[.int .i64 1, .int .i64 0] w (ToldIs false 1 0 0 w) :=
 (of_pos (a := 1) hT (by omega)).mono fun _ _ h => told_is h fun _ _ _ _ hp => nm_fun hp (nm_self okd_1)
theorem of_64 (hT : Tab w) : Calls Tryz.prog 12 #[.int .i64 64, .int .i64 0] w (ToldIs false 1 6 0 w) :=
 (of_pos (a := 64) hT (by omega)).mono fun _ _ h => told_is h fun _ _ _ _ hp => nm_fun hp (.inr ⟨6, 0, rfl, .inr (.inr ⟨small64 (by omega), by decide, rfl, rfl, rfl, rfl⟩)⟩)
theorem eone_ok (hT : Tab w) : Calls Tryz.prog 150 #[] w (Goods false 1 0 w) := by
 have BB := below_alloc w (.cells #[.bool false, .slice none 0 0, .int .i64 0] 28)
 have r := Box.new w false none 0 0 0
 replace hT := mv BB rfl hT
 go_enter Tryz.func150, Tryz.ntmps150
 go_wp2_with fail
 refine (of_1 hT).mono ?_
 rintro en w1 ⟨A1, n1, c1, rfl, h1, b⟩
 replace BB := bnx BB b
 have G := mv b rfl <| And.intro hT <| r
 clear b hT r
 obtain ⟨hT, r⟩ := G
 go_wp2_with fail
 refine (must_ok h1).mono ?_
 rintro en w2 ⟨A2, n2, c2, rfl, h2, b⟩
 clear h1
 replace BB := bnx BB b
 have G := mv b rfl <| And.intro hT <| r
 clear b hT r
 obtain ⟨hT, r⟩ := G
 obtain ⟨f0, f1, f2⟩ := r.open
 obtain ⟨z0, z1, z2⟩ := r.held
 go_wp2
 exact ret3 rfl rfl rfl r BB (by omega) (h2.put3 r _ _ _) fun hN HB3 => ⟨_, _, _, rfl, hN, HB3⟩
theorem edom_ok (hT : Tab w) : Calls Tryz.prog 149 #[] w (GivI d64 w) := by
 have BB := below_alloc w (.cells #[.bool false, .slice none 0 0, .int .i64 0, .bool false, .slice none 0 0, .int .i64 0] 30)
 have r := Ibx.new w false none 0 0 0 false none 0 0 0
 replace hT := mv BB rfl hT
 go_enter Tryz.func149, Tryz.ntmps149
 go_wp2_with fail
 refine (of_64 hT).mono ?_
 rintro en w1 ⟨A1, n1, c1, rfl, h1, b⟩
 replace BB := bnx BB b
 have G := mv b rfl <| And.intro hT <| r
 clear b hT r
 obtain ⟨hT, r⟩ := G
 go_wp2_with fail
 refine (must_ok h1).mono ?_
 rintro en w2 ⟨A2, n2, c2, rfl, h2, b⟩
 clear h1
 replace BB := bnx BB b
 have G := mv b rfl <| And.intro hT <| r
 clear b hT r
 obtain ⟨hT, r⟩ := G
 have gl2 := r.gl
 obtain ⟨y0, y1, y2⟩ := (Box.new w2 false A2 n2 c2 6).held
 have b := below_alloc w2 (.cells #[.bool false, .slice A2 n2 c2, .int .i64 6] 28)
 replace BB := bnx BB b
 have G := mv b rfl (J3 hT r h2)
 clear b hT r h2
 obtain ⟨hT, r, h2⟩ := G
 go_wp2_with fail
 have b := drew_b (w2.alloc (.cells #[.bool false, .slice A2 n2 c2, .int .i64 6] 28))
 replace BB := bnx BB b
 have G := mv b rfl (J6 hT r h2 y0 y1 y2)
 clear b hT r h2 y0 y1 y2
 obtain ⟨hT, r, h2, y0, y1, y2⟩ := G
 generalize hwd : World.drew (w2.alloc (.cells #[.bool false, .slice A2 n2 c2, .int .i64 6] 28)) = wd at *
 have HS := J3 y0 y1 y2
 revert HS
 apply rg hwd
 intro hHeldv0
 clear hwd
 refine tl 0 ?_
 refine tl 2 ?_
 refine rdy 1 fun K hK => ?_
 go_simp
 refine (show Calls _ _ _ _ (Goods true 1 6 _) from dneg_any hT h2 (okd_64 false)).mono ?_
 rintro en w' ⟨A3, n3, c3, rfl, h3, b⟩
 replace BB := bnx BB b
 have G := mv b (by rfl) (J6 hT r h2 y0 y1 y2)
 clear b hT r h2 y0 y1 y2
 obtain ⟨hT, r, h2, y0, y1, y2⟩ := G
 obtain ⟨f0, f1, f2, f3, f4, f5⟩ := r.open
 obtain ⟨z0, z1, z2, z3, z4, z5⟩ := r.held
 refine kp hK ⟨y0, y1, y2⟩ fun hHeldv1 => ?_
 clear hK K hHeldv0
 try simp only [Act.put]
 refine tl 3 ?_
 refine rdy 4 fun K hK => ?_
 go_simp
 refine hK.out _ _ (by exact ⟨cell_oth6 y0 (by omega), cell_oth6 y1 (by omega), cell_oth6 y2 (by omega)⟩) (fun hHeldv2 => ?_)
 clear hK K hHeldv1
 try simp only [Act.put]
 refine wpAnyH_done (by kernel_rfl) ?_ _
 go_wp2
 exact ret6 rfl rfl rfl r h3.rd h2.rd BB (by omega) fun _ hN hM HB3 => ⟨_, _, _, _, _, _, rfl, hN, hM, HB3⟩
def chk (K : Nat) (x : Iv) (p : Int) : Int := if mayI K x = false ∨ p < 1 ∨ 300 < p then 1 else if withinI K x d64 = false then 4 else if x.lo.e < -400 ∨ x.hi.e < -400 then 2 else 0
def ChkIs (k : Int) (w : World) (en : Ending) (w' : World) : Prop := (k = 0 ∧ en = .returned (.tuple #[]) ∧ Below w.heap.size w w') ∨ (k ≠ 0 ∧ Faults k w en w')
theorem chk_bad (h : mayI K x = false ∨ p < 1 ∨ 300 < p) : chk K x p = 1 := by unfold chk; rw [if_pos h]
theorem chk_out (h : ¬ (mayI K x = false ∨ p < 1 ∨ 300 < p)) (h2 : withinI K x d64 = false) : chk K x p = 4 := by unfold chk; rw [if_neg h, if_pos h2]
theorem chk_fine (h : ¬ (mayI K x = false ∨ p < 1 ∨ 300 < p)) (h2 : ¬ withinI K x d64 = false) (h3 : x.lo.e < -400 ∨ x.hi.e < -400) : chk K x p = 2 := by unfold chk; rw [if_neg h, if_neg h2, if_pos h3]
theorem chk_good (h : ¬ (mayI K x = false ∨ p < 1 ∨ 300 < p)) (h2 : ¬ withinI K x d64 = false) (h3 : ¬ (x.lo.e < -400 ∨ x.hi.e < -400)) : chk K x p = 0 := by unfold chk; rw [if_neg h, if_neg h2, if_neg h3]
theorem echeck_any (hK : 4194304 ≤ K) (hT : Tab w) (h1 : Rd w .u64 YtehfdfjpmmpndaaGreatDoor.W A1 n1 c1 x.lo.l) (h2 : Rd w .u64 YtehfdfjpmmpndaaGreatDoor.W A2 n2 c2 x.hi.l) :
  Calls Tryz.prog 125 #[.agg #[.bool x.lo.s, .slice A1 n1 c1, .int .i64 x.lo.e, .bool x.hi.s, .slice A2 n2 c2, .int .i64 x.hi.e], .int .i64 p] w (ChkIs (chk K x p) w) := by
 have BB := below_alloc w (.cells #[.bool x.lo.s, .slice A1 n1 c1, .int .i64 x.lo.e, .bool x.hi.s, .slice A2 n2 c2, .int .i64 x.hi.e] 30)
 obtain ⟨a0, a1, a2, a3, a4, a5⟩ := (Ibx.new w x.lo.s A1 n1 c1 x.lo.e x.hi.s A2 n2 c2 x.hi.e).held
 obtain ⟨k, hk⟩ : ∃ k, k = chk K x p := ⟨_, rfl⟩
 rw [← hk]
 have HK0 := hyd hk
 clear hk
 have HK := hyd hK
 clear hK
 obtain ⟨m, hm⟩ : ∃ m, m = mayI K x := ⟨_, rfl⟩
 have HM := hyd hm
 clear hm
 obtain ⟨z, hz⟩ : ∃ z, z = withinI K x d64 := ⟨_, rfl⟩
 have HZ := hyd hz
 clear hz
 have G := mv BB rfl (J3 hT h1 h2)
 clear hT h1 h2
 obtain ⟨hT, h1, h2⟩ := G
 go_enter Tryz.func125, Tryz.ntmps125
 go_wp2_with fail
 refine (show Calls _ _ _ _ (Bools m _) from by rw [HM.out]; exact imay_any HK.out hT h1 h2).mono ?_
 rintro en w1 ⟨rfl, b⟩
 replace BB := bnx BB b
 have G := mv b rfl (J9 hT h1 h2 a0 a1 a2 a3 a4 a5)
 clear b hT h1 h2 a0 a1 a2 a3 a4 a5
 obtain ⟨hT, h1, h2, a0, a1, a2, a3, a4, a5⟩ := G
 cases m
 ·go_wp2
  exact ⟨rfl, .inr ⟨by rw [HK0.out, chk_bad (.inl HM.out.symm)]; decide, by rw [HK0.out, chk_bad (.inl HM.out.symm)]; exact ⟨rfl, BB⟩⟩⟩
 by_cases hp1 : p < 1
 ·have d1 : decide (p < (1 : Int)) = true := decide_eq_true hp1
  go_wp2
  exact ⟨rfl, .inr ⟨by rw [HK0.out, chk_bad (.inr (.inl hp1))]; decide, by rw [HK0.out, chk_bad (.inr (.inl hp1))]; exact ⟨rfl, BB⟩⟩⟩
 have d1 : decide (p < (1 : Int)) = false := decide_eq_false hp1
 by_cases hp2 : 300 < p
 ·have d2 : decide (p > (300 : Int)) = true := decide_eq_true hp2
  have d3 : decide ((300 : Int) < p) = true := d2
  go_wp2
  exact ⟨rfl, .inr ⟨by rw [HK0.out, chk_bad (.inr (.inr hp2))]; decide, by rw [HK0.out, chk_bad (.inr (.inr hp2))]; exact ⟨rfl, BB⟩⟩⟩
 have d2 : decide (p > (300 : Int)) = false := decide_eq_false hp2
 have d3 : decide ((300 : Int) < p) = false := d2
 have HB := hyd (show ¬ (mayI K x = false ∨ p < 1 ∨ 300 < p) from fun h => by rcases h with h | h | h; exact absurd (HM.out.trans h) (by decide); exact hp1 h; exact hp2 h)
 clear hp1 hp2 HM
 go_wp2_with fail
 have b := drew_b w1
 replace BB := bnx BB b
 have G := mv b rfl (J9 hT h1 h2 a0 a1 a2 a3 a4 a5)
 clear b hT h1 h2 a0 a1 a2 a3 a4 a5
 obtain ⟨hT, h1, h2, a0, a1, a2, a3, a4, a5⟩ := G
 generalize hwd : World.drew w1 = wd at *
 have HS := J6 a0 a1 a2 a3 a4 a5
 revert HS
 apply rg hwd
 intro hHeldv0
 clear hwd
 refine tl 0 ?_
 refine rdy 1 fun K hK => ?_
 go_simp
 refine (edom_ok hT).mono ?_
 rintro en w' ⟨A3, n3, c3, A4, n4, c4, rfl, h3, h4, b⟩
 replace BB := bnx BB b
 have G := mv b (by rfl) (J9 hT h1 h2 a0 a1 a2 a3 a4 a5)
 clear b hT h1 h2 a0 a1 a2 a3 a4 a5
 obtain ⟨hT, h1, h2, a0, a1, a2, a3, a4, a5⟩ := G
 refine kp hK ⟨a0, a1, a2, a3, a4, a5⟩ fun hHeldv1 => ?_
 clear hK K hHeldv0
 try simp only [Act.put]
 refine rdy 2 fun K hK => ?_
 go_simp
 refine (show Calls _ _ _ _ (Bools z _) from by rw [HZ.out]; exact iwithin_any (y := d64) HK.out hT h1 h2 h3 h4).mono ?_
 rintro en w' ⟨rfl, b⟩
 replace BB := bnx BB b
 have G := mv b (by rfl) (J11 hT h1 h2 a0 a1 a2 a3 a4 a5 h3 h4)
 clear b hT h1 h2 a0 a1 a2 a3 a4 a5 h3 h4
 obtain ⟨hT, h1, h2, a0, a1, a2, a3, a4, a5, h3, h4⟩ := G
 refine kp hK ⟨a0, a1, a2, a3, a4, a5⟩ fun hHeldv2 => ?_
 clear hK K hHeldv1
 try simp only [Act.put]
 refine tl 3 ?_
 refine tl 4 ?_
 refine wpAnyH_done (by kernel_rfl) ?_ _
 clear hHeldv2
 cases z
 ·go_wp2
  exact ⟨rfl, .inr ⟨by rw [HK0.out, chk_out HB.out HZ.out.symm]; decide, by rw [HK0.out, chk_out HB.out HZ.out.symm]; exact ⟨rfl, BB⟩⟩⟩
 have HW := hyd (show ¬ withinI K x d64 = false from fun h => absurd (HZ.out.trans h) (by decide))
 clear HZ
 by_cases he1 : x.lo.e < -400
 ·have d4 : decide (x.lo.e < (-400 : Int)) = true := decide_eq_true he1
  go_wp2
  exact ⟨rfl, .inr ⟨by rw [HK0.out, chk_fine HB.out HW.out (.inl he1)]; decide, by rw [HK0.out, chk_fine HB.out HW.out (.inl he1)]; exact ⟨rfl, BB⟩⟩⟩
 have d4 : decide (x.lo.e < (-400 : Int)) = false := decide_eq_false he1
 by_cases he2 : x.hi.e < -400
 ·have d5 : decide (x.hi.e < (-400 : Int)) = true := decide_eq_true he2
  go_wp2
  exact ⟨rfl, .inr ⟨by rw [HK0.out, chk_fine HB.out HW.out (.inr he2)]; decide, by rw [HK0.out, chk_fine HB.out HW.out (.inr he2)]; exact ⟨rfl, BB⟩⟩⟩
 have d5 : decide (x.hi.e < (-400 : Int)) = false := decide_eq_false he2
 go_wp2
 simp [bodyPost, results, Tryz.results125]
 exact .inl ⟨by rw [HK0.out]; exact chk_good HB.out HW.out (fun h => by rcases h with h | h <;> omega), rfl, BB⟩
theorem echeck_no {k : Int} {f : FuncId} {args : Array Value} {j : Int} (h : Calls Tryz.prog f args w (ChkIs j w)) (hj : j = k) (hk : k ≠ 0) : Calls Tryz.prog f args w (Faults k w) := h.mono fun _ _ h => by
 subst hj
 rcases h with ⟨h0, _⟩ | ⟨_, h1⟩
 ·exact absurd h0 hk
 exact h1
theorem echeck_ok {f : FuncId} {args : Array Value} {j : Int} (h : Calls Tryz.prog f args w (ChkIs j w)) (hj : j = 0) : Calls Tryz.prog f args w (fun en w' => en = .returned (.tuple #[]) ∧ Below w.heap.size w w') := h.mono fun _ _ h => by
 rcases h with ⟨_, h1⟩ | ⟨h0, _⟩
 ·exact h1
 exact absurd hj h0
theorem eover1_no {K g : Nat} {p k : Int} (hK : 4194304 ≤ K) (hT : Tab w) (h1 : Rd w .u64 YtehfdfjpmmpndaaGreatDoor.W A1 n1 c1 x.lo.l) (h2 : Rd w .u64 YtehfdfjpmmpndaaGreatDoor.W A2 n2 c2 x.hi.l) (xa : Ibx w g x.lo.s A1 n1 c1 x.lo.e x.hi.s A2 n2 c2 x.hi.e) (xp : Cel w (g + 1) p) (hc : chk K x p = k) (hk : k ≠ 0) :
  Calls Tryz.prog 124 #[.pointer (some ⟨g, 0, none⟩), .pointer (some ⟨g + 1, 0, none⟩)] w (Faults k w) := by
 have BB := below_alloc w (.cells #[.bool false, .slice none 0 0, .int .i64 0, .bool false, .slice none 0 0, .int .i64 0] 30)
 obtain ⟨a0, a1, a2, a3, a4, a5⟩ := xa.held
 have p0 := xp.c0
 have HC := hyd hc
 have HK1 := hyd hk
 have HK := hyd hK
 clear hc hk hK xa xp
 have G := mv BB rfl (J10 hT h1 h2 a0 a1 a2 a3 a4 a5 p0)
 clear hT h1 h2 a0 a1 a2 a3 a4 a5 p0
 obtain ⟨hT, h1, h2, a0, a1, a2, a3, a4, a5, p0⟩ := G
 go_enter Tryz.func124, Tryz.ntmps124
 go_wp2_with fail
 refine (echeck_no (echeck_any (x := x) HK.out hT h1 h2) HC.out HK1.out).mono ?_
 rintro en w2 ⟨rfl, b⟩
 replace BB := bnx BB b
 go_wp2
 exact ⟨rfl, rfl, BB⟩
set_option maxHeartbeats 8000000
set_option maxRecDepth 100000
def sStep (x y q i : Nat) (s : Nat × Nat × Nat × Nat) : Nat × Nat × Nat × Nat :=
 (s.1 * x / 2 ^ q / i, ceilN (upN (s.2.1 * y) q) i, s.2.2.1 + s.1 * x / 2 ^ q / i, s.2.2.2 + ceilN (upN (s.2.1 * y) q) i)
def sIt (x y q : Nat) : Nat → Nat × Nat × Nat × Nat
 | 0 => (2 ^ q, 2 ^ q, 2 ^ q, 2 ^ q)
 | i + 1 => sStep x y q (i + 1) (sIt x y q i)
theorem epart_ok {x k q n : Nat} {s : Bool} {e : Int} (h1 : Nt w A1 n1 c1 x) (hn : e - (k : Int) + (q : Int) = (n : Int)) (he1 : -1000000 ≤ e) (he2 : e ≤ 1000000) (hk : k ≤ 1000000) (hn2 : n ≤ 1000000) (hl : x * 2 ^ n < W ^ 64) :
  Calls Tryz.prog 167 #[.agg #[.bool s, .slice A1 n1 c1, .int .i64 e], .int .i64 (k : Int), .int .i64 (q : Int)] w (NearIs (x * 2 ^ n) (x * 2 ^ n) (q : Int) w) := by
 have BB := two_below w (.cells #[.bool s, .slice A1 n1 c1, .int .i64 e] 28) (.cells #[.slice none 0 0, .slice none 0 0, .int .i64 0] 143)
 obtain ⟨a0, a1, a2⟩ := ((Box.new w s A1 n1 c1 e).alloc (.cells #[.slice none 0 0, .slice none 0 0, .int .i64 0] 143)).held
 have r := Nrb.at_ (w := (w.alloc (.cells #[.bool s, .slice A1 n1 c1, .int .i64 e] 28))) (sizes_up rfl) none 0 0 none 0 0 0
 have HL := hyd hl
 have hw1 : IntKind.i64.wrap (e - (k : Int)) = e - (k : Int) := IntWalk.i64_in _ (by omega)
 have hw2 : IntKind.i64.wrap (e - (k : Int) + (q : Int)) = (n : Int) := by rw [hn]; exact IntWalk.i64_in _ (by omega)
 have d1 : decide ((n : Int) ≥ 0) = true := decide_eq_true (by omega)
 have d2 : decide ((0 : Int) ≤ (n : Int)) = true := d1
 clear hl hn
 replace h1 := mv BB rfl h1
 go_enter Tryz.func167, Tryz.ntmps167
 go_wp2_with fail
 refine (shl_ok (s := n) h1 hn2 HL.out).mono ?_
 rintro en w1 ⟨A3, n3, c3, rfl, h3, b⟩
 replace BB := bnx BB b
 have G := mv b rfl (J5 h1 a0 a1 a2 r)
 clear b h1 a0 a1 a2 r
 obtain ⟨h1, a0, a1, a2, r⟩ := G
 go_wp2_with fail
 refine natural_ok.mono ?_
 rintro en w' ⟨rfl, rfl⟩
 obtain ⟨f0, f1, f2⟩ := r.open
 obtain ⟨z0, z1, z2⟩ := r.held
 go_wp2
 have qq := r.put A3 n3 c3 A3 n3 c3 (q : Int)
 have hN := h3.putN r (.slice A3 n3 c3) (.slice A3 n3 c3) (.int .i64 (q : Int))
 have hM := h3.putN r (.slice A3 n3 c3) (.slice A3 n3 c3) (.int .i64 (q : Int))
 have HB3 := below_put3 (g := w.heap.size + 1) BB (by omega) (.slice A3 n3 c3) (.slice A3 n3 c3) (.int .i64 (q : Int))
 obtain ⟨z0, z1, z2⟩ := qq.held
 exact bodyPost_ret (v := .agg #[.slice A3 n3 c3, .slice A3 n3 c3, .int .i64 (q : Int)]) (by simp [results, Tryz.results167, go_sem, z0, z1, z2]) rfl ⟨_, _, _, _, _, _, rfl, hN, hM, HB3⟩
def qStep (q : Nat) (s : Nat × Nat) : Nat × Nat := (s.1 * s.1 / 2 ^ q, upN (s.2 * s.2) q)
set_option maxHeartbeats 8000000
set_option maxRecDepth 100000
theorem epower_0 {up : Bool} (hT : Tab w) (h1 : Nt w A1 n1 c1 0) :
  Calls Tryz.prog 126 #[.agg #[.bool false, .slice A1 n1 c1, .int .i64 0], .int .i64 p, .bool up] w (Goods false 1 0 w) := by
 have BB := two_below w (.cells #[.bool false, .slice A1 n1 c1, .int .i64 0] 28) (.cells #[.bool false, .slice none 0 0, .int .i64 0] 28)
 obtain ⟨a0, a1, a2⟩ := ((Box.new w false A1 n1 c1 0).alloc (.cells #[.bool false, .slice none 0 0, .int .i64 0] 28)).held
 have r := box_one w (.cells #[.bool false, .slice A1 n1 c1, .int .i64 0] 28) false none 0 0 0
 have G := mv BB rfl <| And.intro hT <| h1
 clear hT h1
 obtain ⟨hT, h1⟩ := G
 go_enter Tryz.func126, Tryz.ntmps126
 go_wp2
 go_step3
 go_wp2_with fail
 refine (sign_is (z := 0) hT h1 okd_zero (by decide)).mono ?_
 rintro en w1 ⟨rfl, b⟩
 clear a0 a1 a2
 replace BB := bnx BB b
 have G := mv b rfl (J3 hT h1 r)
 clear b hT h1 r
 obtain ⟨hT, h1, r⟩ := G
 go_wp2_with fail
 refine (eone_ok hT).mono ?_
 rintro en w2 ⟨A3, n3, c3, rfl, h3, b⟩
 clear hT h1
 replace BB := bnx BB b
 replace r := mv b rfl r
 clear b
 obtain ⟨f0, f1, f2⟩ := r.open
 obtain ⟨z0, z1, z2⟩ := r.held
 go_wp2
 first | rw [Exit.noGoto_ret] | skip
 exact ret3 rfl rfl rfl r BB (by omega) (h3.put3 r _ _ _) fun hN HB3 => ⟨_, _, _, rfl, hN, HB3⟩
set_option maxHeartbeats 8000000
set_option maxRecDepth 100000
def NearO (o : Option (Nat × Nat)) (q : Int) (w : World) (en : Ending) (w' : World) : Prop := match o with
 | some z => NearIs z.1 z.2 q w en w'
 | none => Faults 2 w en w'
def timO (q : Nat) (a b : Nat × Nat) : Option (Nat × Nat) := if a.1 * b.1 < W ^ 64 ∧ a.2 * b.2 < W ^ 64 then some (a.1 * b.1 / 2 ^ q, upN (a.2 * b.2) q) else none
def pluO (a b : Nat × Nat) : Option (Nat × Nat) := if a.1 + b.1 < W ^ 64 ∧ a.2 + b.2 < W ^ 64 then some (a.1 + b.1, a.2 + b.2) else none
theorem half_fits {y q : Nat} (hq : 1 ≤ q) (h : y < W ^ 64) : y / 2 ^ q + 1 < W ^ 64 := by
 have h1 : 2 ≤ 2 ^ q := by
  have := Nat.pow_le_pow_right (n := 2) (by omega) hq
  rwa [Nat.pow_one] at this
 have h2 : y / 2 ^ q ≤ y / 2 := Nat.div_le_div_left h1 (by omega)
 have h3 : 2 < W ^ 64 := small64 (by omega)
 omega
theorem etim_no1 {q2 : Int} (h1 : Nt w A1 n1 c1 x1) (h2 : Nt w A2 n2 c2 y1) (h3 : Nt w A3 n3 c3 x2) (h4 : Nt w A4 n4 c4 y2) (hno : W ^ 64 ≤ x1 * x2) :
  Calls Tryz.prog 168 #[.agg #[.slice A1 n1 c1, .slice A2 n2 c2, .int .i64 (q : Int)], .agg #[.slice A3 n3 c3, .slice A4 n4 c4, .int .i64 q2]] w (Faults 2 w) := by
 have BB := three_below w (.cells #[.slice A1 n1 c1, .slice A2 n2 c2, .int .i64 (q : Int)] 143) (.cells #[.slice A3 n3 c3, .slice A4 n4 c4, .int .i64 q2] 143) (.cells #[.slice none 0 0, .slice none 0 0, .int .i64 0] 143)
 have xa := ((Nrb.new w A1 n1 c1 A2 n2 c2 (q : Int)).alloc (.cells #[.slice A3 n3 c3, .slice A4 n4 c4, .int .i64 q2] 143)).alloc (.cells #[.slice none 0 0, .slice none 0 0, .int .i64 0] 143)
 have xb := (Nrb.at_ (w := (w.alloc (.cells #[.slice A1 n1 c1, .slice A2 n2 c2, .int .i64 (q : Int)] 143))) (sizes_up rfl) A3 n3 c3 A4 n4 c4 q2).alloc (.cells #[.slice none 0 0, .slice none 0 0, .int .i64 0] 143)
 obtain ⟨a0, a1, a2⟩ := xa.held
 obtain ⟨b0, b1, b2⟩ := xb.held
 clear xa xb
 have HL := hyd hno
 clear hno
 skip
 have G := mv BB rfl (J4 h1 h2 h3 h4)
 clear h1 h2 h3 h4
 obtain ⟨h1, h2, h3, h4⟩ := G
 go_enter Tryz.func168, Tryz.ntmps168
 go_wp2_with fail
 have b := drew_b (((w.alloc (.cells #[.slice A1 n1 c1, .slice A2 n2 c2, .int .i64 (q : Int)] 143)).alloc (.cells #[.slice A3 n3 c3, .slice A4 n4 c4, .int .i64 q2] 143)).alloc (.cells #[.slice none 0 0, .slice none 0 0, .int .i64 0] 143))
 replace BB := bnx BB b
 have G := mv b rfl (J10 h1 h2 h3 h4 a0 a1 a2 b0 b1 b2)
 clear b h1 h2 h3 h4 a0 a1 a2 b0 b1 b2
 obtain ⟨h1, h2, h3, h4, a0, a1, a2, b0, b1, b2⟩ := G
 generalize hwd : World.drew (((w.alloc (.cells #[.slice A1 n1 c1, .slice A2 n2 c2, .int .i64 (q : Int)] 143)).alloc (.cells #[.slice A3 n3 c3, .slice A4 n4 c4, .int .i64 q2] 143)).alloc (.cells #[.slice none 0 0, .slice none 0 0, .int .i64 0] 143)) = wd at *
 have HS := J6 a0 a1 a2 b0 b1 b2
 revert HS
 apply rg hwd
 intro hHeldv0
 clear hwd
 refine tl 0 ?_
 refine tl 1 ?_
 refine tl 2 ?_
 refine tl 3 ?_
 refine tl 8 ?_
 refine tl 9 ?_
 refine tl 10 ?_
 refine tl 11 ?_
 refine rdy 4 fun K hK => ?_
 go_simp
 refine (mul_over h1 h3 HL.out).mono ?_
 rintro en w' ⟨rfl, b⟩
 replace BB := bnx BB b
 have G := mv b (by rfl) (J10 h1 h2 h3 h4 a0 a1 a2 b0 b1 b2)
 clear b h1 h2 h3 h4 a0 a1 a2 b0 b1 b2
 obtain ⟨h1, h2, h3, h4, a0, a1, a2, b0, b1, b2⟩ := G
 refine kp hK ⟨a0, a1, a2, b0, b1, b2⟩ fun hHeldv1 => ?_
 clear hK K hHeldv0
 try simp only [Act.put]
 refine tl 5 ?_
 refine tl 6 ?_
 refine rdy 7 fun K hK => ?_
 go_simp
 refine (natural_bad (by decide)).mono ?_
 rintro en w' ⟨rfl, rfl⟩
 exact ⟨rfl, rfl, BB⟩
theorem etim_no2 {q2 : Int} (h1 : Nt w A1 n1 c1 x1) (h2 : Nt w A2 n2 c2 y1) (h3 : Nt w A3 n3 c3 x2) (h4 : Nt w A4 n4 c4 y2) (hno : x1 * x2 < W ^ 64 ∧ W ^ 64 ≤ y1 * y2) :
  Calls Tryz.prog 168 #[.agg #[.slice A1 n1 c1, .slice A2 n2 c2, .int .i64 (q : Int)], .agg #[.slice A3 n3 c3, .slice A4 n4 c4, .int .i64 q2]] w (Faults 2 w) := by
 have BB := three_below w (.cells #[.slice A1 n1 c1, .slice A2 n2 c2, .int .i64 (q : Int)] 143) (.cells #[.slice A3 n3 c3, .slice A4 n4 c4, .int .i64 q2] 143) (.cells #[.slice none 0 0, .slice none 0 0, .int .i64 0] 143)
 have xa := ((Nrb.new w A1 n1 c1 A2 n2 c2 (q : Int)).alloc (.cells #[.slice A3 n3 c3, .slice A4 n4 c4, .int .i64 q2] 143)).alloc (.cells #[.slice none 0 0, .slice none 0 0, .int .i64 0] 143)
 have xb := (Nrb.at_ (w := (w.alloc (.cells #[.slice A1 n1 c1, .slice A2 n2 c2, .int .i64 (q : Int)] 143))) (sizes_up rfl) A3 n3 c3 A4 n4 c4 q2).alloc (.cells #[.slice none 0 0, .slice none 0 0, .int .i64 0] 143)
 obtain ⟨a0, a1, a2⟩ := xa.held
 obtain ⟨b0, b1, b2⟩ := xb.held
 clear xa xb
 have HL := hyd hno
 clear hno
 skip
 have G := mv BB rfl (J4 h1 h2 h3 h4)
 clear h1 h2 h3 h4
 obtain ⟨h1, h2, h3, h4⟩ := G
 go_enter Tryz.func168, Tryz.ntmps168
 go_wp2_with fail
 have b := drew_b (((w.alloc (.cells #[.slice A1 n1 c1, .slice A2 n2 c2, .int .i64 (q : Int)] 143)).alloc (.cells #[.slice A3 n3 c3, .slice A4 n4 c4, .int .i64 q2] 143)).alloc (.cells #[.slice none 0 0, .slice none 0 0, .int .i64 0] 143))
 replace BB := bnx BB b
 have G := mv b rfl (J10 h1 h2 h3 h4 a0 a1 a2 b0 b1 b2)
 clear b h1 h2 h3 h4 a0 a1 a2 b0 b1 b2
 obtain ⟨h1, h2, h3, h4, a0, a1, a2, b0, b1, b2⟩ := G
 generalize hwd : World.drew (((w.alloc (.cells #[.slice A1 n1 c1, .slice A2 n2 c2, .int .i64 (q : Int)] 143)).alloc (.cells #[.slice A3 n3 c3, .slice A4 n4 c4, .int .i64 q2] 143)).alloc (.cells #[.slice none 0 0, .slice none 0 0, .int .i64 0] 143)) = wd at *
 have HS := J6 a0 a1 a2 b0 b1 b2
 revert HS
 apply rg hwd
 intro hHeldv0
 clear hwd
 refine tl 0 ?_
 refine tl 1 ?_
 refine tl 2 ?_
 refine tl 3 ?_
 refine tl 8 ?_
 refine tl 9 ?_
 refine tl 10 ?_
 refine tl 11 ?_
 refine rdy 4 fun K hK => ?_
 go_simp
 refine (mul_ok h1 h3 HL.out.1).mono ?_
 rintro en w' ⟨A5, n5, c5, rfl, h5, b⟩
 replace BB := bnx BB b
 have G := mv b (by rfl) (J10 h1 h2 h3 h4 a0 a1 a2 b0 b1 b2)
 clear b h1 h2 h3 h4 a0 a1 a2 b0 b1 b2
 obtain ⟨h1, h2, h3, h4, a0, a1, a2, b0, b1, b2⟩ := G
 refine kp hK ⟨a0, a1, a2, b0, b1, b2⟩ fun hHeldv1 => ?_
 clear hK K hHeldv0
 try simp only [Act.put]
 refine tl 5 ?_
 refine tl 6 ?_
 refine rdy 7 fun K hK => ?_
 go_simp
 refine natural_ok.mono ?_
 rintro en w' ⟨rfl, rfl⟩
 refine kp hK ⟨a0, a1, a2, b0, b1, b2⟩ fun hHeldv2 => ?_
 clear hK K hHeldv1
 try simp only [Act.put]
 refine rdy 12 fun K hK => ?_
 go_simp
 refine (mul_over h2 h4 HL.out.2).mono ?_
 rintro en w' ⟨rfl, b⟩
 replace BB := bnx BB b
 have G := mv b (by rfl) (J11 h1 h2 h3 h4 a0 a1 a2 b0 b1 b2 h5)
 clear b h1 h2 h3 h4 a0 a1 a2 b0 b1 b2 h5
 obtain ⟨h1, h2, h3, h4, a0, a1, a2, b0, b1, b2, h5⟩ := G
 refine kp hK ⟨a0, a1, a2, b0, b1, b2⟩ fun hHeldv3 => ?_
 clear hK K hHeldv2
 try simp only [Act.put]
 refine tl 13 ?_
 refine tl 14 ?_
 refine rdy 15 fun K hK => ?_
 go_simp
 refine (natural_bad (by decide)).mono ?_
 rintro en w' ⟨rfl, rfl⟩
 exact ⟨rfl, rfl, BB⟩
theorem eplus_no1 {q2 : Int} (h1 : Nt w A1 n1 c1 x1) (h2 : Nt w A2 n2 c2 y1) (h3 : Nt w A3 n3 c3 x2) (h4 : Nt w A4 n4 c4 y2) (hno : W ^ 64 ≤ x1 + x2) :
  Calls Tryz.prog 175 #[.agg #[.slice A1 n1 c1, .slice A2 n2 c2, .int .i64 (q : Int)], .agg #[.slice A3 n3 c3, .slice A4 n4 c4, .int .i64 q2]] w (Faults 2 w) := by
 have BB := three_below w (.cells #[.slice A1 n1 c1, .slice A2 n2 c2, .int .i64 (q : Int)] 143) (.cells #[.slice A3 n3 c3, .slice A4 n4 c4, .int .i64 q2] 143) (.cells #[.slice none 0 0, .slice none 0 0, .int .i64 0] 143)
 have xa := ((Nrb.new w A1 n1 c1 A2 n2 c2 (q : Int)).alloc (.cells #[.slice A3 n3 c3, .slice A4 n4 c4, .int .i64 q2] 143)).alloc (.cells #[.slice none 0 0, .slice none 0 0, .int .i64 0] 143)
 have xb := (Nrb.at_ (w := (w.alloc (.cells #[.slice A1 n1 c1, .slice A2 n2 c2, .int .i64 (q : Int)] 143))) (sizes_up rfl) A3 n3 c3 A4 n4 c4 q2).alloc (.cells #[.slice none 0 0, .slice none 0 0, .int .i64 0] 143)
 obtain ⟨a0, a1, a2⟩ := xa.held
 obtain ⟨b0, b1, b2⟩ := xb.held
 clear xa xb
 have HL := hyd hno
 clear hno
 skip
 have G := mv BB rfl (J4 h1 h2 h3 h4)
 clear h1 h2 h3 h4
 obtain ⟨h1, h2, h3, h4⟩ := G
 go_enter Tryz.func175, Tryz.ntmps175
 go_wp2_with fail
 have b := drew_b (((w.alloc (.cells #[.slice A1 n1 c1, .slice A2 n2 c2, .int .i64 (q : Int)] 143)).alloc (.cells #[.slice A3 n3 c3, .slice A4 n4 c4, .int .i64 q2] 143)).alloc (.cells #[.slice none 0 0, .slice none 0 0, .int .i64 0] 143))
 replace BB := bnx BB b
 have G := mv b rfl (J10 h1 h2 h3 h4 a0 a1 a2 b0 b1 b2)
 clear b h1 h2 h3 h4 a0 a1 a2 b0 b1 b2
 obtain ⟨h1, h2, h3, h4, a0, a1, a2, b0, b1, b2⟩ := G
 generalize hwd : World.drew (((w.alloc (.cells #[.slice A1 n1 c1, .slice A2 n2 c2, .int .i64 (q : Int)] 143)).alloc (.cells #[.slice A3 n3 c3, .slice A4 n4 c4, .int .i64 q2] 143)).alloc (.cells #[.slice none 0 0, .slice none 0 0, .int .i64 0] 143)) = wd at *
 have HS := J6 a0 a1 a2 b0 b1 b2
 revert HS
 apply rg hwd
 intro hHeldv0
 clear hwd
 refine tl 0 ?_
 refine tl 1 ?_
 refine tl 2 ?_
 refine tl 3 ?_
 refine tl 8 ?_
 refine tl 9 ?_
 refine tl 10 ?_
 refine tl 11 ?_
 refine tl 16 ?_
 refine tl 17 ?_
 refine rdy 4 fun K hK => ?_
 go_simp
 refine (add_over h1 h3 HL.out).mono ?_
 rintro en w' ⟨rfl, b⟩
 replace BB := bnx BB b
 have G := mv b (by rfl) (J10 h1 h2 h3 h4 a0 a1 a2 b0 b1 b2)
 clear b h1 h2 h3 h4 a0 a1 a2 b0 b1 b2
 obtain ⟨h1, h2, h3, h4, a0, a1, a2, b0, b1, b2⟩ := G
 refine kp hK ⟨a0, a1, a2, b0, b1, b2⟩ fun hHeldv1 => ?_
 clear hK K hHeldv0
 try simp only [Act.put]
 refine tl 5 ?_
 refine tl 6 ?_
 refine rdy 7 fun K hK => ?_
 go_simp
 refine (natural_bad (by decide)).mono ?_
 rintro en w' ⟨rfl, rfl⟩
 exact ⟨rfl, rfl, BB⟩
theorem eplus_no2 {q2 : Int} (h1 : Nt w A1 n1 c1 x1) (h2 : Nt w A2 n2 c2 y1) (h3 : Nt w A3 n3 c3 x2) (h4 : Nt w A4 n4 c4 y2) (hno : x1 + x2 < W ^ 64 ∧ W ^ 64 ≤ y1 + y2) :
  Calls Tryz.prog 175 #[.agg #[.slice A1 n1 c1, .slice A2 n2 c2, .int .i64 (q : Int)], .agg #[.slice A3 n3 c3, .slice A4 n4 c4, .int .i64 q2]] w (Faults 2 w) := by
 have BB := three_below w (.cells #[.slice A1 n1 c1, .slice A2 n2 c2, .int .i64 (q : Int)] 143) (.cells #[.slice A3 n3 c3, .slice A4 n4 c4, .int .i64 q2] 143) (.cells #[.slice none 0 0, .slice none 0 0, .int .i64 0] 143)
 have xa := ((Nrb.new w A1 n1 c1 A2 n2 c2 (q : Int)).alloc (.cells #[.slice A3 n3 c3, .slice A4 n4 c4, .int .i64 q2] 143)).alloc (.cells #[.slice none 0 0, .slice none 0 0, .int .i64 0] 143)
 have xb := (Nrb.at_ (w := (w.alloc (.cells #[.slice A1 n1 c1, .slice A2 n2 c2, .int .i64 (q : Int)] 143))) (sizes_up rfl) A3 n3 c3 A4 n4 c4 q2).alloc (.cells #[.slice none 0 0, .slice none 0 0, .int .i64 0] 143)
 obtain ⟨a0, a1, a2⟩ := xa.held
 obtain ⟨b0, b1, b2⟩ := xb.held
 clear xa xb
 have HL := hyd hno
 clear hno
 skip
 have G := mv BB rfl (J4 h1 h2 h3 h4)
 clear h1 h2 h3 h4
 obtain ⟨h1, h2, h3, h4⟩ := G
 go_enter Tryz.func175, Tryz.ntmps175
 go_wp2_with fail
 have b := drew_b (((w.alloc (.cells #[.slice A1 n1 c1, .slice A2 n2 c2, .int .i64 (q : Int)] 143)).alloc (.cells #[.slice A3 n3 c3, .slice A4 n4 c4, .int .i64 q2] 143)).alloc (.cells #[.slice none 0 0, .slice none 0 0, .int .i64 0] 143))
 replace BB := bnx BB b
 have G := mv b rfl (J10 h1 h2 h3 h4 a0 a1 a2 b0 b1 b2)
 clear b h1 h2 h3 h4 a0 a1 a2 b0 b1 b2
 obtain ⟨h1, h2, h3, h4, a0, a1, a2, b0, b1, b2⟩ := G
 generalize hwd : World.drew (((w.alloc (.cells #[.slice A1 n1 c1, .slice A2 n2 c2, .int .i64 (q : Int)] 143)).alloc (.cells #[.slice A3 n3 c3, .slice A4 n4 c4, .int .i64 q2] 143)).alloc (.cells #[.slice none 0 0, .slice none 0 0, .int .i64 0] 143)) = wd at *
 have HS := J6 a0 a1 a2 b0 b1 b2
 revert HS
 apply rg hwd
 intro hHeldv0
 clear hwd
 refine tl 0 ?_
 refine tl 1 ?_
 refine tl 2 ?_
 refine tl 3 ?_
 refine tl 8 ?_
 refine tl 9 ?_
 refine tl 10 ?_
 refine tl 11 ?_
 refine tl 16 ?_
 refine tl 17 ?_
 refine rdy 4 fun K hK => ?_
 go_simp
 refine (add_ok h1 h3 HL.out.1).mono ?_
 rintro en w' ⟨A5, n5, c5, rfl, h5, b⟩
 replace BB := bnx BB b
 have G := mv b (by rfl) (J10 h1 h2 h3 h4 a0 a1 a2 b0 b1 b2)
 clear b h1 h2 h3 h4 a0 a1 a2 b0 b1 b2
 obtain ⟨h1, h2, h3, h4, a0, a1, a2, b0, b1, b2⟩ := G
 refine kp hK ⟨a0, a1, a2, b0, b1, b2⟩ fun hHeldv1 => ?_
 clear hK K hHeldv0
 try simp only [Act.put]
 refine tl 5 ?_
 refine tl 6 ?_
 refine rdy 7 fun K hK => ?_
 go_simp
 refine natural_ok.mono ?_
 rintro en w' ⟨rfl, rfl⟩
 refine kp hK ⟨a0, a1, a2, b0, b1, b2⟩ fun hHeldv2 => ?_
 clear hK K hHeldv1
 try simp only [Act.put]
 refine rdy 12 fun K hK => ?_
 go_simp
 refine (add_over h2 h4 HL.out.2).mono ?_
 rintro en w' ⟨rfl, b⟩
 replace BB := bnx BB b
 have G := mv b (by rfl) (J11 h1 h2 h3 h4 a0 a1 a2 b0 b1 b2 h5)
 clear b h1 h2 h3 h4 a0 a1 a2 b0 b1 b2 h5
 obtain ⟨h1, h2, h3, h4, a0, a1, a2, b0, b1, b2, h5⟩ := G
 refine kp hK ⟨a0, a1, a2, b0, b1, b2⟩ fun hHeldv3 => ?_
 clear hK K hHeldv2
 try simp only [Act.put]
 refine tl 13 ?_
 refine tl 14 ?_
 refine rdy 15 fun K hK => ?_
 go_simp
 refine (natural_bad (by decide)).mono ?_
 rintro en w' ⟨rfl, rfl⟩
 exact ⟨rfl, rfl, BB⟩
theorem etim_any {q2 : Int} (hT : Tab w) (h1 : Nt w A1 n1 c1 x1) (h2 : Nt w A2 n2 c2 y1) (h3 : Nt w A3 n3 c3 x2) (h4 : Nt w A4 n4 c4 y2) (l0 : y1 * y2 ≠ 0) (hq1 : 1 ≤ q) (hq : q ≤ 64000000) :
  Calls Tryz.prog 168 #[.agg #[.slice A1 n1 c1, .slice A2 n2 c2, .int .i64 (q : Int)], .agg #[.slice A3 n3 c3, .slice A4 n4 c4, .int .i64 q2]] w (NearO (timO q (x1, y1) (x2, y2)) (q : Int) w) := by
 unfold timO
 by_cases l1 : x1 * x2 < W ^ 64
 ·by_cases l2 : y1 * y2 < W ^ 64
  ·rw [if_pos ⟨l1, l2⟩]
   exact etim_ok hT h1 h2 h3 h4 l1 l2 l0 (half_fits hq1 l2) hq
  rw [if_neg (fun h => l2 h.2)]
  exact etim_no2 h1 h2 h3 h4 ⟨l1, by omega⟩
 rw [if_neg (fun h => l1 h.1)]
 exact etim_no1 h1 h2 h3 h4 (by omega)
theorem eplus_any {q2 : Int} (h1 : Nt w A1 n1 c1 x1) (h2 : Nt w A2 n2 c2 y1) (h3 : Nt w A3 n3 c3 x2) (h4 : Nt w A4 n4 c4 y2) :
  Calls Tryz.prog 175 #[.agg #[.slice A1 n1 c1, .slice A2 n2 c2, .int .i64 (q : Int)], .agg #[.slice A3 n3 c3, .slice A4 n4 c4, .int .i64 q2]] w (NearO (pluO (x1, y1) (x2, y2)) (q : Int) w) := by
 unfold pluO
 by_cases l1 : x1 + x2 < W ^ 64
 ·by_cases l2 : y1 + y2 < W ^ 64
  ·rw [if_pos ⟨l1, l2⟩]
   exact eplus_ok h1 h2 h3 h4 l1 l2
  rw [if_neg (fun h => l2 h.2)]
  exact eplus_no2 h1 h2 h3 h4 ⟨l1, by omega⟩
 rw [if_neg (fun h => l1 h.1)]
 exact eplus_no1 h1 h2 h3 h4 (by omega)
end Go.Proofs.YtehfdfjpmmpndaaGreatDoor
