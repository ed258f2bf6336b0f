/-
  Contract of the statement ArithTurns's function at this translation: it returns true, whatever its arguments. Condition: the slices read as limbs, the table of math/bits reads as its text lays it.
-/
import Derived.Test.YtcbkhmejlaaieaaGreatDoorLs
namespace Go.Proofs.YtcbkhmejlaaieaaGreatDoor
open Go.RowKit


set_option maxRecDepth 100000 in
set_option maxHeartbeats 8000000 in
theorem arithturns_any {w : World} {x y : Iv} {A1 : Option Addr} {n1 c1 : Nat} {A2 : Option Addr} {n2 c2 : Nat} {A3 : Option Addr} {n3 c3 : Nat} {A4 : Option Addr} {n4 c4 : Nat} {p : Int} (hT : Tab w) (h1 : Rd w .u64 Go.Proofs.YtcbkhmejlaaieaaGreatDoor.W A1 n1 c1 x.lo.l) (h2 : Rd w .u64 Go.Proofs.YtcbkhmejlaaieaaGreatDoor.W A2 n2 c2 x.hi.l) (h3 : Rd w .u64 Go.Proofs.YtcbkhmejlaaieaaGreatDoor.W A3 n3 c3 y.lo.l) (h4 : Rd w .u64 Go.Proofs.YtcbkhmejlaaieaaGreatDoor.W A4 n4 c4 y.hi.l) :
    Calls Tryz.prog 7 #[.agg #[.bool x.lo.s, .slice A1 n1 c1, .int .i64 x.lo.e, .bool x.hi.s, .slice A2 n2 c2, .int .i64 x.hi.e], .agg #[.bool y.lo.s, .slice A3 n3 c3, .int .i64 y.lo.e, .bool y.hi.s, .slice A4 n4 c4, .int .i64 y.hi.e], .int .i64 p] w fun en w' => ToldEnd w en w' := by
  obtain ⟨S⟩ := sc_has
  have hT_o := hT
  have h1_o := h1
  have h2_o := h2
  have h3_o := h3
  have h4_o := h4
  have y1 : n1 ≤ 9223372036854775807 := Nat.le_trans h1.cap h1.max
  have y2 : n2 ≤ 9223372036854775807 := Nat.le_trans h2.cap h2.max
  have y3 : n3 ≤ 9223372036854775807 := Nat.le_trans h3.cap h3.max
  have y4 : n4 ≤ 9223372036854775807 := Nat.le_trans h4.cap h4.max
  have BB := two_below w (.cells #[.bool x.lo.s, .slice A1 n1 c1, .int .i64 x.lo.e, .bool x.hi.s, .slice A2 n2 c2, .int .i64 x.hi.e] 26) (.cells #[.bool y.lo.s, .slice A3 n3 c3, .int .i64 y.lo.e, .bool y.hi.s, .slice A4 n4 c4, .int .i64 y.hi.e] 26)
  obtain ⟨_, xa, xb⟩ := two_ivl w (x := x) (y := y) (A1 := A1) (n1 := n1) (c1 := c1) (A2 := A2) (n2 := n2) (c2 := c2) (A3 := A3) (n3 := n3) (c3 := c3) (A4 := A4) (n4 := n4) (c4 := c4)
  obtain ⟨a0, a1, a2, a3, a4, a5⟩ := xa.held
  obtain ⟨e0, e1, e2, e3, e4, e5⟩ := xb.held
  clear xa xb
  have G := mv BB rfl (J5 hT h1 h2 h3 h4)
  clear hT h1 h2 h3 h4
  obtain ⟨hT, h1, h2, h3, h4⟩ := G
  obtain ⟨rn, hrn⟩ := Int.eq_ofNat_of_zero_le (show 0 ≤ IntKind.u64.wrap p by rw [IntKind.wrap_u64]; omega)
  obtain ⟨qn, hqn⟩ : ∃ q, q = rn % 200 := ⟨_, rfl⟩
  obtain ⟨n, hnn⟩ : ∃ n, n = 1 + qn := ⟨_, rfl⟩
  have uun : (rn : Int) % 200 = (qn : Int) := by omega
  have uvn : (1 : Int) + (qn : Int) = (n : Int) := by omega
  have uwn : (0 : Int) ≤ (rn : Int) := by omega
  have uxn : (qn : Int) ≤ 200 := by omega
  have nlo : 1 ≤ n := by omega
  have nhi : n ≤ 200 := by omega
  have uyn : (n : Int) ≤ 200 := by omega
  clear hqn hnn
  obtain ⟨P, hP⟩ : ∃ P : Int, P = (n : Int) := ⟨_, rfl⟩
  have HPR := Lib.hid (show 1 ≤ P ∧ P ≤ 2000 from by omega)
  rw [← hP] at uvn uyn
  have HPN := Lib.hid hP
  clear hP
  go_enter Tryz.func7, Tryz.ntmps7
  go_wp2_with fail
  refine (few5_any (x := x) y1 y2).mono ?_
  rintro en w1 ⟨rfl, b⟩
  replace BB := bnx BB b rfl rfl rfl rfl
  have G := mv b rfl (J17 a0 a1 a2 a3 a4 a5 e0 e1 e2 e3 e4 e5 hT h1 h2 h3 h4)
  clear b a0 a1 a2 a3 a4 a5 e0 e1 e2 e3 e4 e5 hT h1 h2 h3 h4
  obtain ⟨a0, a1, a2, a3, a4, a5, e0, e1, e2, e3, e4, e5, hT, h1, h2, h3, h4⟩ := G
  cases f1 : (decide (n1 ≤ 70) && decide (n2 ≤ 70))
  · clear f1
    go_wp2_with fail
    refine (told6_any hT).mono ?_
    rintro en w99 ⟨rfl, b⟩
    replace BB := bnx BB b rfl rfl rfl rfl
    clear b
    go_wp2
    go_ret
    exact ⟨by first | rfl | simp, BB⟩
  clear f1
  go_wp2_with fail
  refine (few5_any (x := y) y3 y4).mono ?_
  rintro en w2 ⟨rfl, b⟩
  replace BB := bnx BB b rfl rfl rfl rfl
  have G := mv b rfl (J17 a0 a1 a2 a3 a4 a5 e0 e1 e2 e3 e4 e5 hT h1 h2 h3 h4)
  clear b a0 a1 a2 a3 a4 a5 e0 e1 e2 e3 e4 e5 hT h1 h2 h3 h4
  obtain ⟨a0, a1, a2, a3, a4, a5, e0, e1, e2, e3, e4, e5, hT, h1, h2, h3, h4⟩ := G
  cases f1 : (decide (n3 ≤ 70) && decide (n4 ≤ 70))
  · clear f1
    go_wp2_with fail
    refine (told6_any hT).mono ?_
    rintro en w99 ⟨rfl, b⟩
    replace BB := bnx BB b rfl rfl rfl rfl
    clear b
    go_wp2
    go_ret
    exact ⟨by first | rfl | simp, BB⟩
  clear f1
  clear y1 y2 y3 y4
  go_wp2_with fail
  refine (imay_any (K := S.K) (x := x) S.big hT h1 h2).mono ?_
  rintro en w3 ⟨rfl, b⟩
  replace BB := bnx BB b rfl rfl rfl rfl
  have G := mv b rfl (J17 a0 a1 a2 a3 a4 a5 e0 e1 e2 e3 e4 e5 hT h1 h2 h3 h4)
  clear b a0 a1 a2 a3 a4 a5 e0 e1 e2 e3 e4 e5 hT h1 h2 h3 h4
  obtain ⟨a0, a1, a2, a3, a4, a5, e0, e1, e2, e3, e4, e5, hT, h1, h2, h3, h4⟩ := G
  cases hm : mayI S.K x
  · clear hm
    go_wp2_with fail
    refine (told6_any hT).mono ?_
    rintro en w99 ⟨rfl, b⟩
    replace BB := bnx BB b rfl rfl rfl rfl
    clear b
    go_wp2
    go_ret
    exact ⟨by first | rfl | simp, BB⟩
  have HMx := Lib.hid hm
  clear hm
  go_wp2_with fail
  refine (imay_any (K := S.K) (x := y) S.big hT h3 h4).mono ?_
  rintro en w4 ⟨rfl, b⟩
  replace BB := bnx BB b rfl rfl rfl rfl
  have G := mv b rfl (J17 a0 a1 a2 a3 a4 a5 e0 e1 e2 e3 e4 e5 hT h1 h2 h3 h4)
  clear b a0 a1 a2 a3 a4 a5 e0 e1 e2 e3 e4 e5 hT h1 h2 h3 h4
  obtain ⟨a0, a1, a2, a3, a4, a5, e0, e1, e2, e3, e4, e5, hT, h1, h2, h3, h4⟩ := G
  cases hm : mayI S.K y
  · clear hm
    go_wp2_with fail
    refine (told6_any hT).mono ?_
    rintro en w99 ⟨rfl, b⟩
    replace BB := bnx BB b rfl rfl rfl rfl
    clear b
    go_wp2
    go_ret
    exact ⟨by first | rfl | simp, BB⟩
  have HMy := Lib.hid hm
  clear hm
  have NL3 : Hid (n3 ≤ 10000000000000) := Lib.hid (len_at h3 (may_len HMy.out).1)
  have NL4 : Hid (n4 ≤ 10000000000000) := Lib.hid (len_at h4 (may_len HMy.out).2)
  obtain ⟨q1, hq⟩ : ∃ q : Except Int Iv, q = face2 S x y P (sumO S x y P) := ⟨_, rfl⟩
  have HQ1 := Lib.hid hq
  clear hq
  obtain ⟨q2, hq⟩ : ∃ q : Except Int Iv, q = face2 S x y P (sumO S x (turnI y) P) := ⟨_, rfl⟩
  have HQ2 := Lib.hid hq
  clear hq
  obtain ⟨q3, hq⟩ : ∃ q : Except Int Iv, q = face2 S x y P (mulI S x y P) := ⟨_, rfl⟩
  have HQ3 := Lib.hid hq
  clear hq
  obtain ⟨q4, hq⟩ : ∃ q : Except Int Iv, q = face2 S y x P (mulI S y x P) := ⟨_, rfl⟩
  have HQ4 := Lib.hid hq
  clear hq
  obtain ⟨q5, hq⟩ : ∃ q : Except Int Iv, q = face1 S x P (sqrI S x P) := ⟨_, rfl⟩
  have HQ5 := Lib.hid hq
  clear hq
  obtain ⟨q6, hq⟩ : ∃ q : Except Int Iv, q = face2 S x x P (mulI S x x P) := ⟨_, rfl⟩
  have HQ6 := Lib.hid hq
  clear hq
  try rw [show (n : Int) = P from HPN.out.symm]
  go_wp2_with fail
  refine (tello_to HQ1.out (aadd_any S (p := P) hT h1 h2 h3 h4)).mono ?_
  rintro en v1 ⟨A10, n10, c10, A11, n11, c11, rfl, h10, h11, b⟩
  replace BB := bnx BB b rfl rfl rfl rfl
  have G := mv b rfl (J17 a0 a1 a2 a3 a4 a5 e0 e1 e2 e3 e4 e5 hT h1 h2 h3 h4)
  clear b a0 a1 a2 a3 a4 a5 e0 e1 e2 e3 e4 e5 hT h1 h2 h3 h4
  obtain ⟨a0, a1, a2, a3, a4, a5, e0, e1, e2, e3, e4, e5, hT, h1, h2, h3, h4⟩ := G
  have l01 := Lib.hid (show w.heap.size + 1 < v1.heap.size from World.block_lt_of_cell? _ _ e0)
  have X8 := Ibx.new v1 (oiv q1).lo.s A10 n10 c10 (oiv q1).lo.e (oiv q1).hi.s A11 n11 c11 (oiv q1).hi.e
  obtain ⟨p0, p1, p2, p3, p4, p5⟩ := (Ibx.new v1 (oiv q1).lo.s A10 n10 c10 (oiv q1).lo.e (oiv q1).hi.s A11 n11 c11 (oiv q1).hi.e).held
  have b := below_alloc v1 (.cells #[.bool (oiv q1).lo.s, .slice A10 n10 c10, .int .i64 (oiv q1).lo.e, .bool (oiv q1).hi.s, .slice A11 n11 c11, .int .i64 (oiv q1).hi.e] 26)
  replace BB := bnx BB b rfl rfl rfl rfl
  have G := mv b rfl (J19 a0 a1 a2 a3 a4 a5 e0 e1 e2 e3 e4 e5 hT h1 h2 h3 h4 h10 h11)
  clear b a0 a1 a2 a3 a4 a5 e0 e1 e2 e3 e4 e5 hT h1 h2 h3 h4 h10 h11
  obtain ⟨a0, a1, a2, a3, a4, a5, e0, e1, e2, e3, e4, e5, hT, h1, h2, h3, h4, h10, h11⟩ := G
  go_wp2_with fail
  refine (tello_to (HQ1.out.trans sum_turn) (aadd_any S (p := P) hT h3 h4 h1 h2)).mono ?_
  rintro en v2 ⟨A12, n12, c12, A13, n13, c13, rfl, h12, h13, b⟩
  replace BB := bnx BB b rfl rfl rfl rfl
  have G := mv b rfl (J26 a0 a1 a2 a3 a4 a5 e0 e1 e2 e3 e4 e5 hT h1 h2 h3 h4 h10 h11 p0 p1 p2 p3 p4 p5 X8)
  clear b a0 a1 a2 a3 a4 a5 e0 e1 e2 e3 e4 e5 hT h1 h2 h3 h4 h10 h11 p0 p1 p2 p3 p4 p5 X8
  obtain ⟨a0, a1, a2, a3, a4, a5, e0, e1, e2, e3, e4, e5, hT, h1, h2, h3, h4, h10, h11, p0, p1, p2, p3, p4, p5, X8⟩ := G
  have l12 := Lib.hid (show v1.heap.size < v2.heap.size from World.block_lt_of_cell? _ _ p0)
  have X10 := Ibx.new v2 (oiv q1).lo.s A12 n12 c12 (oiv q1).lo.e (oiv q1).hi.s A13 n13 c13 (oiv q1).hi.e
  obtain ⟨k0, k1, k2, k3, k4, k5⟩ := (Ibx.new v2 (oiv q1).lo.s A12 n12 c12 (oiv q1).lo.e (oiv q1).hi.s A13 n13 c13 (oiv q1).hi.e).held
  have b := below_alloc v2 (.cells #[.bool (oiv q1).lo.s, .slice A12 n12 c12, .int .i64 (oiv q1).lo.e, .bool (oiv q1).hi.s, .slice A13 n13 c13, .int .i64 (oiv q1).hi.e] 26)
  replace BB := bnx BB b rfl rfl rfl rfl
  have G := mv b rfl (J28 a0 a1 a2 a3 a4 a5 e0 e1 e2 e3 e4 e5 hT h1 h2 h3 h4 h10 h11 p0 p1 p2 p3 p4 p5 X8 h12 h13)
  clear b a0 a1 a2 a3 a4 a5 e0 e1 e2 e3 e4 e5 hT h1 h2 h3 h4 h10 h11 p0 p1 p2 p3 p4 p5 X8 h12 h13
  obtain ⟨a0, a1, a2, a3, a4, a5, e0, e1, e2, e3, e4, e5, hT, h1, h2, h3, h4, h10, h11, p0, p1, p2, p3, p4, p5, X8, h12, h13⟩ := G
  have g0 : (okc q1 != okc q1) = false := by simp
  go_wp2_with fail
  refine (show Calls _ _ _ _ (Bools true _) from by have := isame_any (x := oiv q1) (y := oiv q1) h10 h11 h12 h13; rwa [sameI_iff.2 rfl] at this).mono ?_
  rintro en v3 ⟨rfl, b⟩
  clear h10 h11 h12 h13 p0 p1 p2 p3 p4 p5 k0 k1 k2 k3 k4 k5
  replace BB := bnx BB b rfl rfl rfl rfl
  have G := mv b rfl (J19 a0 a1 a2 a3 a4 a5 e0 e1 e2 e3 e4 e5 hT h1 h2 h3 h4 X8 X10)
  clear b a0 a1 a2 a3 a4 a5 e0 e1 e2 e3 e4 e5 hT h1 h2 h3 h4 X8 X10
  obtain ⟨a0, a1, a2, a3, a4, a5, e0, e1, e2, e3, e4, e5, hT, h1, h2, h3, h4, X8, X10⟩ := G
  have LX := Lib.hid (show v1.heap.size < v3.heap.size ∧ v2.heap.size < v3.heap.size from ⟨X8.gl, X10.gl⟩)
  go_upto_region 8 with fail
  generalize v3 = W1 at *
  go_cut [12] (fun v wx => ∃ (g : Nat) (A : Option Addr) (n c : Nat) (B : Option Addr) (m d : Nat), v = .pointer (some ⟨g, 0, none⟩) ∧ W1.heap.size ≤ g ∧ Ibx wx g (negR y.hi.s y.hi.l y.hi.e) A n c y.hi.e (negR y.lo.s y.lo.l y.lo.e) B m d y.lo.e ∧ Rd wx .u64 Go.Proofs.YtcbkhmejlaaieaaGreatDoor.W A n c y.hi.l ∧ Rd wx .u64 Go.Proofs.YtcbkhmejlaaieaaGreatDoor.W B m d y.lo.l ∧ Below W1.heap.size W1 wx)
  case first =>
    have B1 := Below.refl W1.heap.size W1
    have lE : w.heap.size + 1 < W1.heap.size := World.block_lt_of_cell? _ _ e0
    clear BB
    have BB := B1
    clear B1
    have b : Below W1.heap.size W1 (World.drew W1) := below_drewN (Below.refl _ _) 1
    replace BB := bnx BB b rfl rfl rfl rfl
    have G := mv b rfl (J9 hT h3 h4 e0 e1 e2 e3 e4 e5)
    clear b hT h3 h4 e0 e1 e2 e3 e4 e5
    obtain ⟨hT, h3, h4, e0, e1, e2, e3, e4, e5⟩ := G
    refine wp_region_held_drew (S := fun w' => w'.cell? ⟨w.heap.size + 1, 0, none⟩ = some (.bool y.lo.s) ∧ w'.cell? ⟨w.heap.size + 1, 1, none⟩ = some (.slice A3 n3 c3) ∧ w'.cell? ⟨w.heap.size + 1, 2, none⟩ = some (.int .i64 y.lo.e) ∧ w'.cell? ⟨w.heap.size + 1, 3, none⟩ = some (.bool y.hi.s) ∧ w'.cell? ⟨w.heap.size + 1, 4, none⟩ = some (.slice A4 n4 c4) ∧ w'.cell? ⟨w.heap.size + 1, 5, none⟩ = some (.int .i64 y.hi.e)) (by kernel_rfl) (by exact ⟨e0, e1, e2, e3, e4, e5⟩) (fun hHeldp0 => ?_)
    generalize World.drew W1 = wd at *
    refine wpAnyH_take (i := 0) (v := ?p1v0) rfl (by kernel_rfl) (by kernel_rfl) (by kernel_rfl) (fun _ _ _ h => panic_put (P := Tryz.prog) (fn := Tryz.f7) (R := (fun en w' => ToldEnd w en w')) h) (Or.inl ⟨by rfl, ?p1y0⟩) (by assumption) ?_
    case p1y0 => (intro w hSw; (try dsimp only at hSw); go_simp); try with_reducible rfl
    change wpAnyH _ _ _ _ _ _ _ (Act.put _ (some 60) _) _
    simp only [Act.put, List.setIfInBounds_toArray, List.set_cons_zero, List.set_cons_succ]
    refine wpAnyH_take (i := 1) (v := ?p2v1) rfl (by kernel_rfl) (by kernel_rfl) (by kernel_rfl) (fun _ _ _ h => panic_put (P := Tryz.prog) (fn := Tryz.f7) (R := (fun en w' => ToldEnd w en w')) h) (Or.inl ⟨by rfl, ?p2y1⟩) (by assumption) ?_
    case p2y1 => (intro w hSw; (try dsimp only at hSw); go_simp); try with_reducible rfl
    change wpAnyH _ _ _ _ _ _ _ (Act.put _ (some 61) _) _
    simp only [Act.put, List.setIfInBounds_toArray, List.set_cons_zero, List.set_cons_succ]
    refine wpAnyH_take (i := 3) (v := ?p3v3) rfl (by kernel_rfl) (by kernel_rfl) (by kernel_rfl) (fun _ _ _ h => panic_put (P := Tryz.prog) (fn := Tryz.f7) (R := (fun en w' => ToldEnd w en w')) h) (Or.inl ⟨by rfl, ?p3y3⟩) (by assumption) ?_
    case p3y3 => (intro w hSw; (try dsimp only at hSw); go_simp); try with_reducible rfl
    change wpAnyH _ _ _ _ _ _ _ (Act.put _ (some 63) _) _
    simp only [Act.put, List.setIfInBounds_toArray, List.set_cons_zero, List.set_cons_succ]
    refine wpAnyH_take (i := 4) (v := ?p4v4) rfl (by kernel_rfl) (by kernel_rfl) (by kernel_rfl) (fun _ _ _ h => panic_put (P := Tryz.prog) (fn := Tryz.f7) (R := (fun en w' => ToldEnd w en w')) h) (Or.inl ⟨by rfl, ?p4y4⟩) (by assumption) ?_
    case p4y4 => (intro w hSw; (try dsimp only at hSw); go_simp); try with_reducible rfl
    change wpAnyH _ _ _ _ _ _ _ (Act.put _ (some 64) _) _
    simp only [Act.put, List.setIfInBounds_toArray, List.set_cons_zero, List.set_cons_succ]
    refine wpAnyH_ready (rs := [2, 7]) (by kernel_rfl) (by simp) ?_
    refine AllReadyH.cons (o := _) rfl (fun K hK => ?_) (AllReadyH.cons (o := _) rfl (fun K hK => ?_) (AllReadyH.nil))
    · go_simp
      refine (dneg_raw (s1 := y.hi.s) (e1 := y.hi.e) hT h4 NL4.out).mono ?_
      rintro en u_1 ⟨A8_, c8_, rfl, k8, b⟩
      replace BB := bnx BB b rfl rfl rfl rfl
      have G := mv b rfl (J9 hT h3 h4 e0 e1 e2 e3 e4 e5)
      clear b hT h3 h4 e0 e1 e2 e3 e4 e5
      obtain ⟨hT, h3, h4, e0, e1, e2, e3, e4, e5⟩ := G
      refine hK.out _ _ (by exact ⟨e0, e1, e2, e3, e4, e5⟩) (fun hHeldp1 => ?_)
      clear hK K hHeldp0
      try simp only [Act.put]
      refine wpAnyH_ready (rs := [5, 7]) (by kernel_rfl) (by simp) ?_
      refine AllReadyH.cons (o := _) rfl (fun K hK => ?_) (AllReadyH.cons (o := _) rfl (fun K hK => ?_) (AllReadyH.nil))
      · go_simp
        refine (dneg_raw (s1 := y.lo.s) (e1 := y.lo.e) hT h3 NL3.out).mono ?_
        rintro en u_2 ⟨A9_, c9_, rfl, k9, b⟩
        replace BB := bnx BB b rfl rfl rfl rfl
        have G := mv b rfl (J10 hT h3 h4 e0 e1 e2 e3 e4 e5 k8)
        clear b hT h3 h4 e0 e1 e2 e3 e4 e5 k8
        obtain ⟨hT, h3, h4, e0, e1, e2, e3, e4, e5, k8⟩ := G
        refine hK.out _ _ (by exact ⟨e0, e1, e2, e3, e4, e5⟩) (fun hHeldp2 => ?_)
        clear hK K hHeldp1
        try simp only [Act.put]
        refine wpAnyH_take (i := 6) (v := ?p5v6) rfl (by kernel_rfl) (by kernel_rfl) (by kernel_rfl) (fun _ _ _ h => panic_put (P := Tryz.prog) (fn := Tryz.f7) (R := (fun en w' => ToldEnd w en w')) h) (Or.inl ⟨by rfl, ?p5y6⟩) (by assumption) ?_
        case p5y6 => (intro w hSw; (try dsimp only at hSw); go_simp); try with_reducible rfl
        change wpAnyH _ _ _ _ _ _ _ (Act.put _ (some 66) _) _
        simp only [Act.put, List.setIfInBounds_toArray, List.set_cons_zero, List.set_cons_succ]
        refine wpAnyH_ready (rs := [7]) (by kernel_rfl) (by simp) ?_
        refine AllReadyH.cons (o := _) rfl (fun K hK => ?_) (AllReadyH.nil)
        go_simp
        have gl9 : W1.heap.size ≤ u_2.heap.size := BB.size
        have p9 := Ibx.new u_2 false none 0 0 0 false none 0 0 0
        have b := below_alloc u_2 (.cells #[.bool false, .slice none 0 0, .int .i64 0, .bool false, .slice none 0 0, .int .i64 0] 26)
        replace BB := bnx BB b rfl rfl rfl rfl
        have G := mv b rfl (J11 hT h3 h4 e0 e1 e2 e3 e4 e5 k8 k9)
        clear b hT h3 h4 e0 e1 e2 e3 e4 e5 k8 k9
        obtain ⟨hT, h3, h4, e0, e1, e2, e3, e4, e5, k8, k9⟩ := G
        generalize u_2.alloc (.cells #[.bool false, .slice none 0 0, .int .i64 0, .bool false, .slice none 0 0, .int .i64 0] 26) = u_3 at *
        generalize u_2.heap.size = g9 at *
        refine hK.out _ _ (by exact ⟨e0, e1, e2, e3, e4, e5⟩) (fun hHeldp3 => ?_)
        clear hK K hHeldp2
        try simp only [Act.put]
        refine wpAnyH_ready (rs := [8]) (by kernel_rfl) (by simp) ?_
        refine AllReadyH.cons (o := _) rfl (fun K hK => ?_) (AllReadyH.nil)
        obtain ⟨f0_, f1_, f2_, f3_, f4_, f5_⟩ := p9.open
        obtain ⟨z0, z1, z2, z3, z4, z5⟩ := p9.held
        go_simp
        clear hT h3 h4
        replace e0 := cell_oth6 (g := g9) (u0 := .bool (negR y.hi.s y.hi.l y.hi.e)) (u1 := .slice A8_ n4 c8_) (u2 := .int .i64 y.hi.e) (u3 := .bool (negR y.lo.s y.lo.l y.lo.e)) (u4 := .slice A9_ n3 c9_) (u5 := .int .i64 y.lo.e) e0 (by omega)
        replace e1 := cell_oth6 (g := g9) (u0 := .bool (negR y.hi.s y.hi.l y.hi.e)) (u1 := .slice A8_ n4 c8_) (u2 := .int .i64 y.hi.e) (u3 := .bool (negR y.lo.s y.lo.l y.lo.e)) (u4 := .slice A9_ n3 c9_) (u5 := .int .i64 y.lo.e) e1 (by omega)
        replace e2 := cell_oth6 (g := g9) (u0 := .bool (negR y.hi.s y.hi.l y.hi.e)) (u1 := .slice A8_ n4 c8_) (u2 := .int .i64 y.hi.e) (u3 := .bool (negR y.lo.s y.lo.l y.lo.e)) (u4 := .slice A9_ n3 c9_) (u5 := .int .i64 y.lo.e) e2 (by omega)
        replace e3 := cell_oth6 (g := g9) (u0 := .bool (negR y.hi.s y.hi.l y.hi.e)) (u1 := .slice A8_ n4 c8_) (u2 := .int .i64 y.hi.e) (u3 := .bool (negR y.lo.s y.lo.l y.lo.e)) (u4 := .slice A9_ n3 c9_) (u5 := .int .i64 y.lo.e) e3 (by omega)
        replace e4 := cell_oth6 (g := g9) (u0 := .bool (negR y.hi.s y.hi.l y.hi.e)) (u1 := .slice A8_ n4 c8_) (u2 := .int .i64 y.hi.e) (u3 := .bool (negR y.lo.s y.lo.l y.lo.e)) (u4 := .slice A9_ n3 c9_) (u5 := .int .i64 y.lo.e) e4 (by omega)
        replace e5 := cell_oth6 (g := g9) (u0 := .bool (negR y.hi.s y.hi.l y.hi.e)) (u1 := .slice A8_ n4 c8_) (u2 := .int .i64 y.hi.e) (u3 := .bool (negR y.lo.s y.lo.l y.lo.e)) (u4 := .slice A9_ n3 c9_) (u5 := .int .i64 y.lo.e) e5 (by omega)
        replace k8 := k8.put6 p9 (.bool (negR y.hi.s y.hi.l y.hi.e)) (.slice A8_ n4 c8_) (.int .i64 y.hi.e) (.bool (negR y.lo.s y.lo.l y.lo.e)) (.slice A9_ n3 c9_) (.int .i64 y.lo.e)
        replace k9 := k9.put6 p9 (.bool (negR y.hi.s y.hi.l y.hi.e)) (.slice A8_ n4 c8_) (.int .i64 y.hi.e) (.bool (negR y.lo.s y.lo.l y.lo.e)) (.slice A9_ n3 c9_) (.int .i64 y.lo.e)
        replace BB := below_put6 (g := g9) BB gl9 (.bool (negR y.hi.s y.hi.l y.hi.e)) (.slice A8_ n4 c8_) (.int .i64 y.hi.e) (.bool (negR y.lo.s y.lo.l y.lo.e)) (.slice A9_ n3 c9_) (.int .i64 y.lo.e)
        replace p9 := p9.put (negR y.hi.s y.hi.l y.hi.e) A8_ n4 c8_ y.hi.e (negR y.lo.s y.lo.l y.lo.e) A9_ n3 c9_ y.lo.e
        clear f0_ f1_ f2_ f3_ f4_ f5_ z0 z1 z2 z3 z4 z5
        generalize (((((u_3.setCell ⟨g9, 0, none⟩ (.bool (negR y.hi.s y.hi.l y.hi.e))).setCell ⟨g9, 1, none⟩ (.slice A8_ n4 c8_)).setCell ⟨g9, 2, none⟩ (.int .i64 y.hi.e)).setCell ⟨g9, 3, none⟩ (.bool (negR y.lo.s y.lo.l y.lo.e))).setCell ⟨g9, 4, none⟩ (.slice A9_ n3 c9_)).setCell ⟨g9, 5, none⟩ (.int .i64 y.lo.e) = u_4 at *
        refine hK.out _ _ (by exact ⟨e0, e1, e2, e3, e4, e5⟩) (fun hHeldp4 => ?_)
        clear hK K hHeldp3
        try simp only [Act.put]
        refine wpAnyH_done (by kernel_rfl) ?_ _
        go_wp2_with fail
        go_meet
        case rel => exact ⟨g9, A8_, n4, c8_, A9_, n3, c9_, rfl, gl9, p9, k8, k9, BB⟩
      · go_simp
        have gl9 : W1.heap.size ≤ u_1.heap.size := BB.size
        have p9 := Ibx.new u_1 false none 0 0 0 false none 0 0 0
        have b := below_alloc u_1 (.cells #[.bool false, .slice none 0 0, .int .i64 0, .bool false, .slice none 0 0, .int .i64 0] 26)
        replace BB := bnx BB b rfl rfl rfl rfl
        have G := mv b rfl (J10 hT h3 h4 e0 e1 e2 e3 e4 e5 k8)
        clear b hT h3 h4 e0 e1 e2 e3 e4 e5 k8
        obtain ⟨hT, h3, h4, e0, e1, e2, e3, e4, e5, k8⟩ := G
        generalize u_1.alloc (.cells #[.bool false, .slice none 0 0, .int .i64 0, .bool false, .slice none 0 0, .int .i64 0] 26) = u_2 at *
        generalize u_1.heap.size = g9 at *
        refine hK.out _ _ (by exact ⟨e0, e1, e2, e3, e4, e5⟩) (fun hHeldp2 => ?_)
        clear hK K hHeldp1
        try simp only [Act.put]
        refine wpAnyH_ready (rs := [5]) (by kernel_rfl) (by simp) ?_
        refine AllReadyH.cons (o := _) rfl (fun K hK => ?_) (AllReadyH.nil)
        go_simp
        refine (dneg_raw (s1 := y.lo.s) (e1 := y.lo.e) hT h3 NL3.out).mono ?_
        rintro en u_3 ⟨A9_, c9_, rfl, k9, b⟩
        replace BB := bnx BB b rfl rfl rfl rfl
        have G := mv b rfl (J11 hT h3 h4 e0 e1 e2 e3 e4 e5 k8 p9)
        clear b hT h3 h4 e0 e1 e2 e3 e4 e5 k8 p9
        obtain ⟨hT, h3, h4, e0, e1, e2, e3, e4, e5, k8, p9⟩ := G
        refine hK.out _ _ (by exact ⟨e0, e1, e2, e3, e4, e5⟩) (fun hHeldp3 => ?_)
        clear hK K hHeldp2
        try simp only [Act.put]
        refine wpAnyH_take (i := 6) (v := ?p6v6) rfl (by kernel_rfl) (by kernel_rfl) (by kernel_rfl) (fun _ _ _ h => panic_put (P := Tryz.prog) (fn := Tryz.f7) (R := (fun en w' => ToldEnd w en w')) h) (Or.inl ⟨by rfl, ?p6y6⟩) (by assumption) ?_
        case p6y6 => (intro w hSw; (try dsimp only at hSw); go_simp); try with_reducible rfl
        change wpAnyH _ _ _ _ _ _ _ (Act.put _ (some 66) _) _
        simp only [Act.put, List.setIfInBounds_toArray, List.set_cons_zero, List.set_cons_succ]
        refine wpAnyH_ready (rs := [8]) (by kernel_rfl) (by simp) ?_
        refine AllReadyH.cons (o := _) rfl (fun K hK => ?_) (AllReadyH.nil)
        obtain ⟨f0_, f1_, f2_, f3_, f4_, f5_⟩ := p9.open
        obtain ⟨z0, z1, z2, z3, z4, z5⟩ := p9.held
        go_simp
        clear hT h3 h4
        replace e0 := cell_oth6 (g := g9) (u0 := .bool (negR y.hi.s y.hi.l y.hi.e)) (u1 := .slice A8_ n4 c8_) (u2 := .int .i64 y.hi.e) (u3 := .bool (negR y.lo.s y.lo.l y.lo.e)) (u4 := .slice A9_ n3 c9_) (u5 := .int .i64 y.lo.e) e0 (by omega)
        replace e1 := cell_oth6 (g := g9) (u0 := .bool (negR y.hi.s y.hi.l y.hi.e)) (u1 := .slice A8_ n4 c8_) (u2 := .int .i64 y.hi.e) (u3 := .bool (negR y.lo.s y.lo.l y.lo.e)) (u4 := .slice A9_ n3 c9_) (u5 := .int .i64 y.lo.e) e1 (by omega)
        replace e2 := cell_oth6 (g := g9) (u0 := .bool (negR y.hi.s y.hi.l y.hi.e)) (u1 := .slice A8_ n4 c8_) (u2 := .int .i64 y.hi.e) (u3 := .bool (negR y.lo.s y.lo.l y.lo.e)) (u4 := .slice A9_ n3 c9_) (u5 := .int .i64 y.lo.e) e2 (by omega)
        replace e3 := cell_oth6 (g := g9) (u0 := .bool (negR y.hi.s y.hi.l y.hi.e)) (u1 := .slice A8_ n4 c8_) (u2 := .int .i64 y.hi.e) (u3 := .bool (negR y.lo.s y.lo.l y.lo.e)) (u4 := .slice A9_ n3 c9_) (u5 := .int .i64 y.lo.e) e3 (by omega)
        replace e4 := cell_oth6 (g := g9) (u0 := .bool (negR y.hi.s y.hi.l y.hi.e)) (u1 := .slice A8_ n4 c8_) (u2 := .int .i64 y.hi.e) (u3 := .bool (negR y.lo.s y.lo.l y.lo.e)) (u4 := .slice A9_ n3 c9_) (u5 := .int .i64 y.lo.e) e4 (by omega)
        replace e5 := cell_oth6 (g := g9) (u0 := .bool (negR y.hi.s y.hi.l y.hi.e)) (u1 := .slice A8_ n4 c8_) (u2 := .int .i64 y.hi.e) (u3 := .bool (negR y.lo.s y.lo.l y.lo.e)) (u4 := .slice A9_ n3 c9_) (u5 := .int .i64 y.lo.e) e5 (by omega)
        replace k8 := k8.put6 p9 (.bool (negR y.hi.s y.hi.l y.hi.e)) (.slice A8_ n4 c8_) (.int .i64 y.hi.e) (.bool (negR y.lo.s y.lo.l y.lo.e)) (.slice A9_ n3 c9_) (.int .i64 y.lo.e)
        replace k9 := k9.put6 p9 (.bool (negR y.hi.s y.hi.l y.hi.e)) (.slice A8_ n4 c8_) (.int .i64 y.hi.e) (.bool (negR y.lo.s y.lo.l y.lo.e)) (.slice A9_ n3 c9_) (.int .i64 y.lo.e)
        replace BB := below_put6 (g := g9) BB gl9 (.bool (negR y.hi.s y.hi.l y.hi.e)) (.slice A8_ n4 c8_) (.int .i64 y.hi.e) (.bool (negR y.lo.s y.lo.l y.lo.e)) (.slice A9_ n3 c9_) (.int .i64 y.lo.e)
        replace p9 := p9.put (negR y.hi.s y.hi.l y.hi.e) A8_ n4 c8_ y.hi.e (negR y.lo.s y.lo.l y.lo.e) A9_ n3 c9_ y.lo.e
        clear f0_ f1_ f2_ f3_ f4_ f5_ z0 z1 z2 z3 z4 z5
        generalize (((((u_3.setCell ⟨g9, 0, none⟩ (.bool (negR y.hi.s y.hi.l y.hi.e))).setCell ⟨g9, 1, none⟩ (.slice A8_ n4 c8_)).setCell ⟨g9, 2, none⟩ (.int .i64 y.hi.e)).setCell ⟨g9, 3, none⟩ (.bool (negR y.lo.s y.lo.l y.lo.e))).setCell ⟨g9, 4, none⟩ (.slice A9_ n3 c9_)).setCell ⟨g9, 5, none⟩ (.int .i64 y.lo.e) = u_4 at *
        refine hK.out _ _ (by exact ⟨e0, e1, e2, e3, e4, e5⟩) (fun hHeldp4 => ?_)
        clear hK K hHeldp3
        try simp only [Act.put]
        refine wpAnyH_done (by kernel_rfl) ?_ _
        go_wp2_with fail
        go_meet
        case rel => exact ⟨g9, A8_, n4, c8_, A9_, n3, c9_, rfl, gl9, p9, k8, k9, BB⟩
    · go_simp
      have gl9 : W1.heap.size ≤ wd.heap.size := BB.size
      have p9 := Ibx.new wd false none 0 0 0 false none 0 0 0
      have b := below_alloc wd (.cells #[.bool false, .slice none 0 0, .int .i64 0, .bool false, .slice none 0 0, .int .i64 0] 26)
      replace BB := bnx BB b rfl rfl rfl rfl
      have G := mv b rfl (J9 hT h3 h4 e0 e1 e2 e3 e4 e5)
      clear b hT h3 h4 e0 e1 e2 e3 e4 e5
      obtain ⟨hT, h3, h4, e0, e1, e2, e3, e4, e5⟩ := G
      generalize wd.alloc (.cells #[.bool false, .slice none 0 0, .int .i64 0, .bool false, .slice none 0 0, .int .i64 0] 26) = u_1 at *
      generalize wd.heap.size = g9 at *
      refine hK.out _ _ (by exact ⟨e0, e1, e2, e3, e4, e5⟩) (fun hHeldp1 => ?_)
      clear hK K hHeldp0
      try simp only [Act.put]
      refine wpAnyH_ready (rs := [2]) (by kernel_rfl) (by simp) ?_
      refine AllReadyH.cons (o := _) rfl (fun K hK => ?_) (AllReadyH.nil)
      go_simp
      refine (dneg_raw (s1 := y.hi.s) (e1 := y.hi.e) hT h4 NL4.out).mono ?_
      rintro en u_2 ⟨A8_, c8_, rfl, k8, b⟩
      replace BB := bnx BB b rfl rfl rfl rfl
      have G := mv b rfl (J10 hT h3 h4 e0 e1 e2 e3 e4 e5 p9)
      clear b hT h3 h4 e0 e1 e2 e3 e4 e5 p9
      obtain ⟨hT, h3, h4, e0, e1, e2, e3, e4, e5, p9⟩ := G
      refine hK.out _ _ (by exact ⟨e0, e1, e2, e3, e4, e5⟩) (fun hHeldp2 => ?_)
      clear hK K hHeldp1
      try simp only [Act.put]
      refine wpAnyH_ready (rs := [5]) (by kernel_rfl) (by simp) ?_
      refine AllReadyH.cons (o := _) rfl (fun K hK => ?_) (AllReadyH.nil)
      go_simp
      refine (dneg_raw (s1 := y.lo.s) (e1 := y.lo.e) hT h3 NL3.out).mono ?_
      rintro en u_3 ⟨A9_, c9_, rfl, k9, b⟩
      replace BB := bnx BB b rfl rfl rfl rfl
      have G := mv b rfl (J11 hT h3 h4 e0 e1 e2 e3 e4 e5 p9 k8)
      clear b hT h3 h4 e0 e1 e2 e3 e4 e5 p9 k8
      obtain ⟨hT, h3, h4, e0, e1, e2, e3, e4, e5, p9, k8⟩ := G
      refine hK.out _ _ (by exact ⟨e0, e1, e2, e3, e4, e5⟩) (fun hHeldp3 => ?_)
      clear hK K hHeldp2
      try simp only [Act.put]
      refine wpAnyH_take (i := 6) (v := ?p7v6) rfl (by kernel_rfl) (by kernel_rfl) (by kernel_rfl) (fun _ _ _ h => panic_put (P := Tryz.prog) (fn := Tryz.f7) (R := (fun en w' => ToldEnd w en w')) h) (Or.inl ⟨by rfl, ?p7y6⟩) (by assumption) ?_
      case p7y6 => (intro w hSw; (try dsimp only at hSw); go_simp); try with_reducible rfl
      change wpAnyH _ _ _ _ _ _ _ (Act.put _ (some 66) _) _
      simp only [Act.put, List.setIfInBounds_toArray, List.set_cons_zero, List.set_cons_succ]
      refine wpAnyH_ready (rs := [8]) (by kernel_rfl) (by simp) ?_
      refine AllReadyH.cons (o := _) rfl (fun K hK => ?_) (AllReadyH.nil)
      obtain ⟨f0_, f1_, f2_, f3_, f4_, f5_⟩ := p9.open
      obtain ⟨z0, z1, z2, z3, z4, z5⟩ := p9.held
      go_simp
      clear hT h3 h4
      replace e0 := cell_oth6 (g := g9) (u0 := .bool (negR y.hi.s y.hi.l y.hi.e)) (u1 := .slice A8_ n4 c8_) (u2 := .int .i64 y.hi.e) (u3 := .bool (negR y.lo.s y.lo.l y.lo.e)) (u4 := .slice A9_ n3 c9_) (u5 := .int .i64 y.lo.e) e0 (by omega)
      replace e1 := cell_oth6 (g := g9) (u0 := .bool (negR y.hi.s y.hi.l y.hi.e)) (u1 := .slice A8_ n4 c8_) (u2 := .int .i64 y.hi.e) (u3 := .bool (negR y.lo.s y.lo.l y.lo.e)) (u4 := .slice A9_ n3 c9_) (u5 := .int .i64 y.lo.e) e1 (by omega)
      replace e2 := cell_oth6 (g := g9) (u0 := .bool (negR y.hi.s y.hi.l y.hi.e)) (u1 := .slice A8_ n4 c8_) (u2 := .int .i64 y.hi.e) (u3 := .bool (negR y.lo.s y.lo.l y.lo.e)) (u4 := .slice A9_ n3 c9_) (u5 := .int .i64 y.lo.e) e2 (by omega)
      replace e3 := cell_oth6 (g := g9) (u0 := .bool (negR y.hi.s y.hi.l y.hi.e)) (u1 := .slice A8_ n4 c8_) (u2 := .int .i64 y.hi.e) (u3 := .bool (negR y.lo.s y.lo.l y.lo.e)) (u4 := .slice A9_ n3 c9_) (u5 := .int .i64 y.lo.e) e3 (by omega)
      replace e4 := cell_oth6 (g := g9) (u0 := .bool (negR y.hi.s y.hi.l y.hi.e)) (u1 := .slice A8_ n4 c8_) (u2 := .int .i64 y.hi.e) (u3 := .bool (negR y.lo.s y.lo.l y.lo.e)) (u4 := .slice A9_ n3 c9_) (u5 := .int .i64 y.lo.e) e4 (by omega)
      replace e5 := cell_oth6 (g := g9) (u0 := .bool (negR y.hi.s y.hi.l y.hi.e)) (u1 := .slice A8_ n4 c8_) (u2 := .int .i64 y.hi.e) (u3 := .bool (negR y.lo.s y.lo.l y.lo.e)) (u4 := .slice A9_ n3 c9_) (u5 := .int .i64 y.lo.e) e5 (by omega)
      replace k8 := k8.put6 p9 (.bool (negR y.hi.s y.hi.l y.hi.e)) (.slice A8_ n4 c8_) (.int .i64 y.hi.e) (.bool (negR y.lo.s y.lo.l y.lo.e)) (.slice A9_ n3 c9_) (.int .i64 y.lo.e)
      replace k9 := k9.put6 p9 (.bool (negR y.hi.s y.hi.l y.hi.e)) (.slice A8_ n4 c8_) (.int .i64 y.hi.e) (.bool (negR y.lo.s y.lo.l y.lo.e)) (.slice A9_ n3 c9_) (.int .i64 y.lo.e)
      replace BB := below_put6 (g := g9) BB gl9 (.bool (negR y.hi.s y.hi.l y.hi.e)) (.slice A8_ n4 c8_) (.int .i64 y.hi.e) (.bool (negR y.lo.s y.lo.l y.lo.e)) (.slice A9_ n3 c9_) (.int .i64 y.lo.e)
      replace p9 := p9.put (negR y.hi.s y.hi.l y.hi.e) A8_ n4 c8_ y.hi.e (negR y.lo.s y.lo.l y.lo.e) A9_ n3 c9_ y.lo.e
      clear f0_ f1_ f2_ f3_ f4_ f5_ z0 z1 z2 z3 z4 z5
      generalize (((((u_3.setCell ⟨g9, 0, none⟩ (.bool (negR y.hi.s y.hi.l y.hi.e))).setCell ⟨g9, 1, none⟩ (.slice A8_ n4 c8_)).setCell ⟨g9, 2, none⟩ (.int .i64 y.hi.e)).setCell ⟨g9, 3, none⟩ (.bool (negR y.lo.s y.lo.l y.lo.e))).setCell ⟨g9, 4, none⟩ (.slice A9_ n3 c9_)).setCell ⟨g9, 5, none⟩ (.int .i64 y.lo.e) = u_4 at *
      refine hK.out _ _ (by exact ⟨e0, e1, e2, e3, e4, e5⟩) (fun hHeldp4 => ?_)
      clear hK K hHeldp3
      try simp only [Act.put]
      refine wpAnyH_done (by kernel_rfl) ?_ _
      go_wp2_with fail
      go_meet
      case rel => exact ⟨g9, A8_, n4, c8_, A9_, n3, c9_, rfl, gl9, p9, k8, k9, BB⟩
  case rest =>
    obtain ⟨g9, A8, n8, c8, A9, n9, c9, rfl, gl9, p9, h8, h9, b⟩ := hcut
    replace BB := bnx BB b rfl rfl rfl rfl
    have G := mv b rfl (J19 a0 a1 a2 a3 a4 a5 e0 e1 e2 e3 e4 e5 hT h1 h2 h3 h4 X8 X10)
    clear b a0 a1 a2 a3 a4 a5 e0 e1 e2 e3 e4 e5 hT h1 h2 h3 h4 X8 X10
    obtain ⟨a0, a1, a2, a3, a4, a5, e0, e1, e2, e3, e4, e5, hT, h1, h2, h3, h4, X8, X10⟩ := G
    generalize wc = W5 at *
    obtain ⟨s0, s1, s2, s3, s4, s5⟩ := p9.held
    have LW : Hid (w.heap.size + 1 < v1.heap.size ∧ v1.heap.size < v2.heap.size ∧ v2.heap.size < g9) := Lib.hid ⟨l01.out, l12.out, by have := LX.out; omega⟩
    go_wp2_with fail
    refine (tello_to HQ2.out (asub_any S (p := P) hT h1 h2 h3 h4)).mono ?_
    rintro en v4 ⟨A20, n20, c20, A21, n21, c21, rfl, h20, h21, b⟩
    replace BB := bnx BB b rfl rfl rfl rfl
    have G := mv b rfl (J28 a0 a1 a2 a3 a4 a5 e0 e1 e2 e3 e4 e5 hT h1 h2 h3 h4 X8 X10 p9 h8 h9 s0 s1 s2 s3 s4 s5)
    clear b a0 a1 a2 a3 a4 a5 e0 e1 e2 e3 e4 e5 hT h1 h2 h3 h4 X8 X10 p9 h8 h9 s0 s1 s2 s3 s4 s5
    obtain ⟨a0, a1, a2, a3, a4, a5, e0, e1, e2, e3, e4, e5, hT, h1, h2, h3, h4, X8, X10, p9, h8, h9, s0, s1, s2, s3, s4, s5⟩ := G
    clear hT h1 h2 h3 h4
    obtain ⟨t0, t1, t2, t3, t4, t5⟩ := X8.open
    obtain ⟨m0, m1, m2, m3, m4, m5⟩ := X8.held
    replace h8 := h8.put6 X8 (.bool (oiv q2).lo.s) (.slice A20 n20 c20) (.int .i64 (oiv q2).lo.e) (.bool (oiv q2).hi.s) (.slice A21 n21 c21) (.int .i64 (oiv q2).hi.e)
    replace h9 := h9.put6 X8 (.bool (oiv q2).lo.s) (.slice A20 n20 c20) (.int .i64 (oiv q2).lo.e) (.bool (oiv q2).hi.s) (.slice A21 n21 c21) (.int .i64 (oiv q2).hi.e)
    replace h20 := h20.put6 X8 (.bool (oiv q2).lo.s) (.slice A20 n20 c20) (.int .i64 (oiv q2).lo.e) (.bool (oiv q2).hi.s) (.slice A21 n21 c21) (.int .i64 (oiv q2).hi.e)
    replace h21 := h21.put6 X8 (.bool (oiv q2).lo.s) (.slice A20 n20 c20) (.int .i64 (oiv q2).lo.e) (.bool (oiv q2).hi.s) (.slice A21 n21 c21) (.int .i64 (oiv q2).hi.e)
    replace a0 := cell_oth6 (g := v1.heap.size) (u0 := .bool (oiv q2).lo.s) (u1 := .slice A20 n20 c20) (u2 := .int .i64 (oiv q2).lo.e) (u3 := .bool (oiv q2).hi.s) (u4 := .slice A21 n21 c21) (u5 := .int .i64 (oiv q2).hi.e) a0 (by have := LW.out; omega)
    replace a1 := cell_oth6 (g := v1.heap.size) (u0 := .bool (oiv q2).lo.s) (u1 := .slice A20 n20 c20) (u2 := .int .i64 (oiv q2).lo.e) (u3 := .bool (oiv q2).hi.s) (u4 := .slice A21 n21 c21) (u5 := .int .i64 (oiv q2).hi.e) a1 (by have := LW.out; omega)
    replace a2 := cell_oth6 (g := v1.heap.size) (u0 := .bool (oiv q2).lo.s) (u1 := .slice A20 n20 c20) (u2 := .int .i64 (oiv q2).lo.e) (u3 := .bool (oiv q2).hi.s) (u4 := .slice A21 n21 c21) (u5 := .int .i64 (oiv q2).hi.e) a2 (by have := LW.out; omega)
    replace a3 := cell_oth6 (g := v1.heap.size) (u0 := .bool (oiv q2).lo.s) (u1 := .slice A20 n20 c20) (u2 := .int .i64 (oiv q2).lo.e) (u3 := .bool (oiv q2).hi.s) (u4 := .slice A21 n21 c21) (u5 := .int .i64 (oiv q2).hi.e) a3 (by have := LW.out; omega)
    replace a4 := cell_oth6 (g := v1.heap.size) (u0 := .bool (oiv q2).lo.s) (u1 := .slice A20 n20 c20) (u2 := .int .i64 (oiv q2).lo.e) (u3 := .bool (oiv q2).hi.s) (u4 := .slice A21 n21 c21) (u5 := .int .i64 (oiv q2).hi.e) a4 (by have := LW.out; omega)
    replace a5 := cell_oth6 (g := v1.heap.size) (u0 := .bool (oiv q2).lo.s) (u1 := .slice A20 n20 c20) (u2 := .int .i64 (oiv q2).lo.e) (u3 := .bool (oiv q2).hi.s) (u4 := .slice A21 n21 c21) (u5 := .int .i64 (oiv q2).hi.e) a5 (by have := LW.out; omega)
    replace e0 := cell_oth6 (g := v1.heap.size) (u0 := .bool (oiv q2).lo.s) (u1 := .slice A20 n20 c20) (u2 := .int .i64 (oiv q2).lo.e) (u3 := .bool (oiv q2).hi.s) (u4 := .slice A21 n21 c21) (u5 := .int .i64 (oiv q2).hi.e) e0 (by have := LW.out; omega)
    replace e1 := cell_oth6 (g := v1.heap.size) (u0 := .bool (oiv q2).lo.s) (u1 := .slice A20 n20 c20) (u2 := .int .i64 (oiv q2).lo.e) (u3 := .bool (oiv q2).hi.s) (u4 := .slice A21 n21 c21) (u5 := .int .i64 (oiv q2).hi.e) e1 (by have := LW.out; omega)
    replace e2 := cell_oth6 (g := v1.heap.size) (u0 := .bool (oiv q2).lo.s) (u1 := .slice A20 n20 c20) (u2 := .int .i64 (oiv q2).lo.e) (u3 := .bool (oiv q2).hi.s) (u4 := .slice A21 n21 c21) (u5 := .int .i64 (oiv q2).hi.e) e2 (by have := LW.out; omega)
    replace e3 := cell_oth6 (g := v1.heap.size) (u0 := .bool (oiv q2).lo.s) (u1 := .slice A20 n20 c20) (u2 := .int .i64 (oiv q2).lo.e) (u3 := .bool (oiv q2).hi.s) (u4 := .slice A21 n21 c21) (u5 := .int .i64 (oiv q2).hi.e) e3 (by have := LW.out; omega)
    replace e4 := cell_oth6 (g := v1.heap.size) (u0 := .bool (oiv q2).lo.s) (u1 := .slice A20 n20 c20) (u2 := .int .i64 (oiv q2).lo.e) (u3 := .bool (oiv q2).hi.s) (u4 := .slice A21 n21 c21) (u5 := .int .i64 (oiv q2).hi.e) e4 (by have := LW.out; omega)
    replace e5 := cell_oth6 (g := v1.heap.size) (u0 := .bool (oiv q2).lo.s) (u1 := .slice A20 n20 c20) (u2 := .int .i64 (oiv q2).lo.e) (u3 := .bool (oiv q2).hi.s) (u4 := .slice A21 n21 c21) (u5 := .int .i64 (oiv q2).hi.e) e5 (by have := LW.out; omega)
    replace s0 := cell_oth6 (g := v1.heap.size) (u0 := .bool (oiv q2).lo.s) (u1 := .slice A20 n20 c20) (u2 := .int .i64 (oiv q2).lo.e) (u3 := .bool (oiv q2).hi.s) (u4 := .slice A21 n21 c21) (u5 := .int .i64 (oiv q2).hi.e) s0 (by have := LW.out; omega)
    replace s1 := cell_oth6 (g := v1.heap.size) (u0 := .bool (oiv q2).lo.s) (u1 := .slice A20 n20 c20) (u2 := .int .i64 (oiv q2).lo.e) (u3 := .bool (oiv q2).hi.s) (u4 := .slice A21 n21 c21) (u5 := .int .i64 (oiv q2).hi.e) s1 (by have := LW.out; omega)
    replace s2 := cell_oth6 (g := v1.heap.size) (u0 := .bool (oiv q2).lo.s) (u1 := .slice A20 n20 c20) (u2 := .int .i64 (oiv q2).lo.e) (u3 := .bool (oiv q2).hi.s) (u4 := .slice A21 n21 c21) (u5 := .int .i64 (oiv q2).hi.e) s2 (by have := LW.out; omega)
    replace s3 := cell_oth6 (g := v1.heap.size) (u0 := .bool (oiv q2).lo.s) (u1 := .slice A20 n20 c20) (u2 := .int .i64 (oiv q2).lo.e) (u3 := .bool (oiv q2).hi.s) (u4 := .slice A21 n21 c21) (u5 := .int .i64 (oiv q2).hi.e) s3 (by have := LW.out; omega)
    replace s4 := cell_oth6 (g := v1.heap.size) (u0 := .bool (oiv q2).lo.s) (u1 := .slice A20 n20 c20) (u2 := .int .i64 (oiv q2).lo.e) (u3 := .bool (oiv q2).hi.s) (u4 := .slice A21 n21 c21) (u5 := .int .i64 (oiv q2).hi.e) s4 (by have := LW.out; omega)
    replace s5 := cell_oth6 (g := v1.heap.size) (u0 := .bool (oiv q2).lo.s) (u1 := .slice A20 n20 c20) (u2 := .int .i64 (oiv q2).lo.e) (u3 := .bool (oiv q2).hi.s) (u4 := .slice A21 n21 c21) (u5 := .int .i64 (oiv q2).hi.e) s5 (by have := LW.out; omega)
    replace X10 := Ibx.oth6 (g := v1.heap.size) X10 (by have := LW.out; omega) (.bool (oiv q2).lo.s) (.slice A20 n20 c20) (.int .i64 (oiv q2).lo.e) (.bool (oiv q2).hi.s) (.slice A21 n21 c21) (.int .i64 (oiv q2).hi.e)
    replace p9 := Ibx.oth6 (g := v1.heap.size) p9 (by have := LW.out; omega) (.bool (oiv q2).lo.s) (.slice A20 n20 c20) (.int .i64 (oiv q2).lo.e) (.bool (oiv q2).hi.s) (.slice A21 n21 c21) (.int .i64 (oiv q2).hi.e)
    replace BB := below_put6 (g := v1.heap.size) BB (by have := LW.out; omega) (.bool (oiv q2).lo.s) (.slice A20 n20 c20) (.int .i64 (oiv q2).lo.e) (.bool (oiv q2).hi.s) (.slice A21 n21 c21) (.int .i64 (oiv q2).hi.e)
    replace X8 := X8.put (oiv q2).lo.s A20 n20 c20 (oiv q2).lo.e (oiv q2).hi.s A21 n21 c21 (oiv q2).hi.e
    have hT := mv BB rfl hT_o
    have h1 := mv BB rfl h1_o
    have h2 := mv BB rfl h2_o
    have h3 := mv BB rfl h3_o
    have h4 := mv BB rfl h4_o
    go_wp2_with fail
    clear t0 t1 t2 t3 t4 t5 m0 m1 m2 m3 m4 m5
    generalize ((((((v4.setCell ⟨v1.heap.size, 0, none⟩ (.bool (oiv q2).lo.s)).setCell ⟨v1.heap.size, 1, none⟩ (.slice A20 n20 c20)).setCell ⟨v1.heap.size, 2, none⟩ (.int .i64 (oiv q2).lo.e)).setCell ⟨v1.heap.size, 3, none⟩ (.bool (oiv q2).hi.s)).setCell ⟨v1.heap.size, 4, none⟩ (.slice A21 n21 c21)).setCell ⟨v1.heap.size, 5, none⟩ (.int .i64 (oiv q2).hi.e)) = x1 at *
    refine (tello_to (HQ2.out.trans (show face2 S x y P (sumO S x (turnI y) P) = face2 S x (turnI y) P (sumO S x (turnI y) P) from by unfold face2; rw [turn_may])) (aadd_any S (y := turnI y) (p := P) hT h1 h2 h8 h9)).mono ?_
    rintro en v5 ⟨A22, n22, c22, A23, n23, c23, rfl, h22, h23, b⟩
    replace BB := bnx BB b rfl rfl rfl rfl
    have G := mv b rfl (J30 a0 a1 a2 a3 a4 a5 e0 e1 e2 e3 e4 e5 X8 X10 p9 h8 h9 s0 s1 s2 s3 s4 s5 h20 h21 hT h1 h2 h3 h4)
    clear b a0 a1 a2 a3 a4 a5 e0 e1 e2 e3 e4 e5 X8 X10 p9 h8 h9 s0 s1 s2 s3 s4 s5 h20 h21 hT h1 h2 h3 h4
    obtain ⟨a0, a1, a2, a3, a4, a5, e0, e1, e2, e3, e4, e5, X8, X10, p9, h8, h9, s0, s1, s2, s3, s4, s5, h20, h21, hT, h1, h2, h3, h4⟩ := G
    clear h8 h9 p9 s0 s1 s2 s3 s4 s5
    clear hT h1 h2 h3 h4
    obtain ⟨t0, t1, t2, t3, t4, t5⟩ := X10.open
    obtain ⟨m0, m1, m2, m3, m4, m5⟩ := X10.held
    replace h20 := h20.put6 X10 (.bool (oiv q2).lo.s) (.slice A22 n22 c22) (.int .i64 (oiv q2).lo.e) (.bool (oiv q2).hi.s) (.slice A23 n23 c23) (.int .i64 (oiv q2).hi.e)
    replace h21 := h21.put6 X10 (.bool (oiv q2).lo.s) (.slice A22 n22 c22) (.int .i64 (oiv q2).lo.e) (.bool (oiv q2).hi.s) (.slice A23 n23 c23) (.int .i64 (oiv q2).hi.e)
    replace h22 := h22.put6 X10 (.bool (oiv q2).lo.s) (.slice A22 n22 c22) (.int .i64 (oiv q2).lo.e) (.bool (oiv q2).hi.s) (.slice A23 n23 c23) (.int .i64 (oiv q2).hi.e)
    replace h23 := h23.put6 X10 (.bool (oiv q2).lo.s) (.slice A22 n22 c22) (.int .i64 (oiv q2).lo.e) (.bool (oiv q2).hi.s) (.slice A23 n23 c23) (.int .i64 (oiv q2).hi.e)
    replace a0 := cell_oth6 (g := v2.heap.size) (u0 := .bool (oiv q2).lo.s) (u1 := .slice A22 n22 c22) (u2 := .int .i64 (oiv q2).lo.e) (u3 := .bool (oiv q2).hi.s) (u4 := .slice A23 n23 c23) (u5 := .int .i64 (oiv q2).hi.e) a0 (by have := LW.out; omega)
    replace a1 := cell_oth6 (g := v2.heap.size) (u0 := .bool (oiv q2).lo.s) (u1 := .slice A22 n22 c22) (u2 := .int .i64 (oiv q2).lo.e) (u3 := .bool (oiv q2).hi.s) (u4 := .slice A23 n23 c23) (u5 := .int .i64 (oiv q2).hi.e) a1 (by have := LW.out; omega)
    replace a2 := cell_oth6 (g := v2.heap.size) (u0 := .bool (oiv q2).lo.s) (u1 := .slice A22 n22 c22) (u2 := .int .i64 (oiv q2).lo.e) (u3 := .bool (oiv q2).hi.s) (u4 := .slice A23 n23 c23) (u5 := .int .i64 (oiv q2).hi.e) a2 (by have := LW.out; omega)
    replace a3 := cell_oth6 (g := v2.heap.size) (u0 := .bool (oiv q2).lo.s) (u1 := .slice A22 n22 c22) (u2 := .int .i64 (oiv q2).lo.e) (u3 := .bool (oiv q2).hi.s) (u4 := .slice A23 n23 c23) (u5 := .int .i64 (oiv q2).hi.e) a3 (by have := LW.out; omega)
    replace a4 := cell_oth6 (g := v2.heap.size) (u0 := .bool (oiv q2).lo.s) (u1 := .slice A22 n22 c22) (u2 := .int .i64 (oiv q2).lo.e) (u3 := .bool (oiv q2).hi.s) (u4 := .slice A23 n23 c23) (u5 := .int .i64 (oiv q2).hi.e) a4 (by have := LW.out; omega)
    replace a5 := cell_oth6 (g := v2.heap.size) (u0 := .bool (oiv q2).lo.s) (u1 := .slice A22 n22 c22) (u2 := .int .i64 (oiv q2).lo.e) (u3 := .bool (oiv q2).hi.s) (u4 := .slice A23 n23 c23) (u5 := .int .i64 (oiv q2).hi.e) a5 (by have := LW.out; omega)
    replace e0 := cell_oth6 (g := v2.heap.size) (u0 := .bool (oiv q2).lo.s) (u1 := .slice A22 n22 c22) (u2 := .int .i64 (oiv q2).lo.e) (u3 := .bool (oiv q2).hi.s) (u4 := .slice A23 n23 c23) (u5 := .int .i64 (oiv q2).hi.e) e0 (by have := LW.out; omega)
    replace e1 := cell_oth6 (g := v2.heap.size) (u0 := .bool (oiv q2).lo.s) (u1 := .slice A22 n22 c22) (u2 := .int .i64 (oiv q2).lo.e) (u3 := .bool (oiv q2).hi.s) (u4 := .slice A23 n23 c23) (u5 := .int .i64 (oiv q2).hi.e) e1 (by have := LW.out; omega)
    replace e2 := cell_oth6 (g := v2.heap.size) (u0 := .bool (oiv q2).lo.s) (u1 := .slice A22 n22 c22) (u2 := .int .i64 (oiv q2).lo.e) (u3 := .bool (oiv q2).hi.s) (u4 := .slice A23 n23 c23) (u5 := .int .i64 (oiv q2).hi.e) e2 (by have := LW.out; omega)
    replace e3 := cell_oth6 (g := v2.heap.size) (u0 := .bool (oiv q2).lo.s) (u1 := .slice A22 n22 c22) (u2 := .int .i64 (oiv q2).lo.e) (u3 := .bool (oiv q2).hi.s) (u4 := .slice A23 n23 c23) (u5 := .int .i64 (oiv q2).hi.e) e3 (by have := LW.out; omega)
    replace e4 := cell_oth6 (g := v2.heap.size) (u0 := .bool (oiv q2).lo.s) (u1 := .slice A22 n22 c22) (u2 := .int .i64 (oiv q2).lo.e) (u3 := .bool (oiv q2).hi.s) (u4 := .slice A23 n23 c23) (u5 := .int .i64 (oiv q2).hi.e) e4 (by have := LW.out; omega)
    replace e5 := cell_oth6 (g := v2.heap.size) (u0 := .bool (oiv q2).lo.s) (u1 := .slice A22 n22 c22) (u2 := .int .i64 (oiv q2).lo.e) (u3 := .bool (oiv q2).hi.s) (u4 := .slice A23 n23 c23) (u5 := .int .i64 (oiv q2).hi.e) e5 (by have := LW.out; omega)
    replace X8 := Ibx.oth6 (g := v2.heap.size) X8 (by have := LW.out; omega) (.bool (oiv q2).lo.s) (.slice A22 n22 c22) (.int .i64 (oiv q2).lo.e) (.bool (oiv q2).hi.s) (.slice A23 n23 c23) (.int .i64 (oiv q2).hi.e)
    replace BB := below_put6 (g := v2.heap.size) BB (by have := LW.out; omega) (.bool (oiv q2).lo.s) (.slice A22 n22 c22) (.int .i64 (oiv q2).lo.e) (.bool (oiv q2).hi.s) (.slice A23 n23 c23) (.int .i64 (oiv q2).hi.e)
    replace X10 := X10.put (oiv q2).lo.s A22 n22 c22 (oiv q2).lo.e (oiv q2).hi.s A23 n23 c23 (oiv q2).hi.e
    have hT := mv BB rfl hT_o
    have h1 := mv BB rfl h1_o
    have h2 := mv BB rfl h2_o
    have h3 := mv BB rfl h3_o
    have h4 := mv BB rfl h4_o
    obtain ⟨p0, p1, p2, p3, p4, p5⟩ := X8.held
    obtain ⟨k0, k1, k2, k3, k4, k5⟩ := X10.held
    have g1 : (okc q2 != okc q2) = false := by simp
    go_wp2_with fail
    clear t0 t1 t2 t3 t4 t5 m0 m1 m2 m3 m4 m5
    generalize ((((((v5.setCell ⟨v2.heap.size, 0, none⟩ (.bool (oiv q2).lo.s)).setCell ⟨v2.heap.size, 1, none⟩ (.slice A22 n22 c22)).setCell ⟨v2.heap.size, 2, none⟩ (.int .i64 (oiv q2).lo.e)).setCell ⟨v2.heap.size, 3, none⟩ (.bool (oiv q2).hi.s)).setCell ⟨v2.heap.size, 4, none⟩ (.slice A23 n23 c23)).setCell ⟨v2.heap.size, 5, none⟩ (.int .i64 (oiv q2).hi.e)) = x2 at *
    refine (show Calls _ _ _ _ (Bools true _) from by have := isame_any (x := oiv q2) (y := oiv q2) h20 h21 h22 h23; rwa [sameI_iff.2 rfl] at this).mono ?_
    rintro en v6 ⟨rfl, b⟩
    clear h20 h21 h22 h23 p0 p1 p2 p3 p4 p5 k0 k1 k2 k3 k4 k5
    replace BB := bnx BB b rfl rfl rfl rfl
    have G := mv b rfl (J19 a0 a1 a2 a3 a4 a5 e0 e1 e2 e3 e4 e5 X8 X10 hT h1 h2 h3 h4)
    clear b a0 a1 a2 a3 a4 a5 e0 e1 e2 e3 e4 e5 X8 X10 hT h1 h2 h3 h4
    obtain ⟨a0, a1, a2, a3, a4, a5, e0, e1, e2, e3, e4, e5, X8, X10, hT, h1, h2, h3, h4⟩ := G
    go_wp2_with fail
    refine (tello_to HQ3.out (amul_any S (p := P) hT h1 h2 h3 h4)).mono ?_
    rintro en v7 ⟨A30, n30, c30, A31, n31, c31, rfl, h30, h31, b⟩
    replace BB := bnx BB b rfl rfl rfl rfl
    have G := mv b rfl (J19 a0 a1 a2 a3 a4 a5 e0 e1 e2 e3 e4 e5 X8 X10 hT h1 h2 h3 h4)
    clear b a0 a1 a2 a3 a4 a5 e0 e1 e2 e3 e4 e5 X8 X10 hT h1 h2 h3 h4
    obtain ⟨a0, a1, a2, a3, a4, a5, e0, e1, e2, e3, e4, e5, X8, X10, hT, h1, h2, h3, h4⟩ := G
    clear hT h1 h2 h3 h4
    obtain ⟨t0, t1, t2, t3, t4, t5⟩ := X8.open
    obtain ⟨m0, m1, m2, m3, m4, m5⟩ := X8.held
    replace h30 := h30.put6 X8 (.bool (oiv q3).lo.s) (.slice A30 n30 c30) (.int .i64 (oiv q3).lo.e) (.bool (oiv q3).hi.s) (.slice A31 n31 c31) (.int .i64 (oiv q3).hi.e)
    replace h31 := h31.put6 X8 (.bool (oiv q3).lo.s) (.slice A30 n30 c30) (.int .i64 (oiv q3).lo.e) (.bool (oiv q3).hi.s) (.slice A31 n31 c31) (.int .i64 (oiv q3).hi.e)
    replace a0 := cell_oth6 (g := v1.heap.size) (u0 := .bool (oiv q3).lo.s) (u1 := .slice A30 n30 c30) (u2 := .int .i64 (oiv q3).lo.e) (u3 := .bool (oiv q3).hi.s) (u4 := .slice A31 n31 c31) (u5 := .int .i64 (oiv q3).hi.e) a0 (by have := LW.out; omega)
    replace a1 := cell_oth6 (g := v1.heap.size) (u0 := .bool (oiv q3).lo.s) (u1 := .slice A30 n30 c30) (u2 := .int .i64 (oiv q3).lo.e) (u3 := .bool (oiv q3).hi.s) (u4 := .slice A31 n31 c31) (u5 := .int .i64 (oiv q3).hi.e) a1 (by have := LW.out; omega)
    replace a2 := cell_oth6 (g := v1.heap.size) (u0 := .bool (oiv q3).lo.s) (u1 := .slice A30 n30 c30) (u2 := .int .i64 (oiv q3).lo.e) (u3 := .bool (oiv q3).hi.s) (u4 := .slice A31 n31 c31) (u5 := .int .i64 (oiv q3).hi.e) a2 (by have := LW.out; omega)
    replace a3 := cell_oth6 (g := v1.heap.size) (u0 := .bool (oiv q3).lo.s) (u1 := .slice A30 n30 c30) (u2 := .int .i64 (oiv q3).lo.e) (u3 := .bool (oiv q3).hi.s) (u4 := .slice A31 n31 c31) (u5 := .int .i64 (oiv q3).hi.e) a3 (by have := LW.out; omega)
    replace a4 := cell_oth6 (g := v1.heap.size) (u0 := .bool (oiv q3).lo.s) (u1 := .slice A30 n30 c30) (u2 := .int .i64 (oiv q3).lo.e) (u3 := .bool (oiv q3).hi.s) (u4 := .slice A31 n31 c31) (u5 := .int .i64 (oiv q3).hi.e) a4 (by have := LW.out; omega)
    replace a5 := cell_oth6 (g := v1.heap.size) (u0 := .bool (oiv q3).lo.s) (u1 := .slice A30 n30 c30) (u2 := .int .i64 (oiv q3).lo.e) (u3 := .bool (oiv q3).hi.s) (u4 := .slice A31 n31 c31) (u5 := .int .i64 (oiv q3).hi.e) a5 (by have := LW.out; omega)
    replace e0 := cell_oth6 (g := v1.heap.size) (u0 := .bool (oiv q3).lo.s) (u1 := .slice A30 n30 c30) (u2 := .int .i64 (oiv q3).lo.e) (u3 := .bool (oiv q3).hi.s) (u4 := .slice A31 n31 c31) (u5 := .int .i64 (oiv q3).hi.e) e0 (by have := LW.out; omega)
    replace e1 := cell_oth6 (g := v1.heap.size) (u0 := .bool (oiv q3).lo.s) (u1 := .slice A30 n30 c30) (u2 := .int .i64 (oiv q3).lo.e) (u3 := .bool (oiv q3).hi.s) (u4 := .slice A31 n31 c31) (u5 := .int .i64 (oiv q3).hi.e) e1 (by have := LW.out; omega)
    replace e2 := cell_oth6 (g := v1.heap.size) (u0 := .bool (oiv q3).lo.s) (u1 := .slice A30 n30 c30) (u2 := .int .i64 (oiv q3).lo.e) (u3 := .bool (oiv q3).hi.s) (u4 := .slice A31 n31 c31) (u5 := .int .i64 (oiv q3).hi.e) e2 (by have := LW.out; omega)
    replace e3 := cell_oth6 (g := v1.heap.size) (u0 := .bool (oiv q3).lo.s) (u1 := .slice A30 n30 c30) (u2 := .int .i64 (oiv q3).lo.e) (u3 := .bool (oiv q3).hi.s) (u4 := .slice A31 n31 c31) (u5 := .int .i64 (oiv q3).hi.e) e3 (by have := LW.out; omega)
    replace e4 := cell_oth6 (g := v1.heap.size) (u0 := .bool (oiv q3).lo.s) (u1 := .slice A30 n30 c30) (u2 := .int .i64 (oiv q3).lo.e) (u3 := .bool (oiv q3).hi.s) (u4 := .slice A31 n31 c31) (u5 := .int .i64 (oiv q3).hi.e) e4 (by have := LW.out; omega)
    replace e5 := cell_oth6 (g := v1.heap.size) (u0 := .bool (oiv q3).lo.s) (u1 := .slice A30 n30 c30) (u2 := .int .i64 (oiv q3).lo.e) (u3 := .bool (oiv q3).hi.s) (u4 := .slice A31 n31 c31) (u5 := .int .i64 (oiv q3).hi.e) e5 (by have := LW.out; omega)
    replace X10 := Ibx.oth6 (g := v1.heap.size) X10 (by have := LW.out; omega) (.bool (oiv q3).lo.s) (.slice A30 n30 c30) (.int .i64 (oiv q3).lo.e) (.bool (oiv q3).hi.s) (.slice A31 n31 c31) (.int .i64 (oiv q3).hi.e)
    replace BB := below_put6 (g := v1.heap.size) BB (by have := LW.out; omega) (.bool (oiv q3).lo.s) (.slice A30 n30 c30) (.int .i64 (oiv q3).lo.e) (.bool (oiv q3).hi.s) (.slice A31 n31 c31) (.int .i64 (oiv q3).hi.e)
    replace X8 := X8.put (oiv q3).lo.s A30 n30 c30 (oiv q3).lo.e (oiv q3).hi.s A31 n31 c31 (oiv q3).hi.e
    have hT := mv BB rfl hT_o
    have h1 := mv BB rfl h1_o
    have h2 := mv BB rfl h2_o
    have h3 := mv BB rfl h3_o
    have h4 := mv BB rfl h4_o
    go_wp2_with fail
    clear t0 t1 t2 t3 t4 t5 m0 m1 m2 m3 m4 m5
    generalize ((((((v7.setCell ⟨v1.heap.size, 0, none⟩ (.bool (oiv q3).lo.s)).setCell ⟨v1.heap.size, 1, none⟩ (.slice A30 n30 c30)).setCell ⟨v1.heap.size, 2, none⟩ (.int .i64 (oiv q3).lo.e)).setCell ⟨v1.heap.size, 3, none⟩ (.bool (oiv q3).hi.s)).setCell ⟨v1.heap.size, 4, none⟩ (.slice A31 n31 c31)).setCell ⟨v1.heap.size, 5, none⟩ (.int .i64 (oiv q3).hi.e)) = x3 at *
    refine (tello_to HQ4.out (amul_any S (p := P) hT h3 h4 h1 h2)).mono ?_
    rintro en v8 ⟨A32, n32, c32, A33, n33, c33, rfl, h32, h33, b⟩
    replace BB := bnx BB b rfl rfl rfl rfl
    have G := mv b rfl (J21 a0 a1 a2 a3 a4 a5 e0 e1 e2 e3 e4 e5 X8 X10 h30 h31 hT h1 h2 h3 h4)
    clear b a0 a1 a2 a3 a4 a5 e0 e1 e2 e3 e4 e5 X8 X10 h30 h31 hT h1 h2 h3 h4
    obtain ⟨a0, a1, a2, a3, a4, a5, e0, e1, e2, e3, e4, e5, X8, X10, h30, h31, hT, h1, h2, h3, h4⟩ := G
    clear hT h1 h2 h3 h4
    obtain ⟨t0, t1, t2, t3, t4, t5⟩ := X10.open
    obtain ⟨m0, m1, m2, m3, m4, m5⟩ := X10.held
    replace h30 := h30.put6 X10 (.bool (oiv q4).lo.s) (.slice A32 n32 c32) (.int .i64 (oiv q4).lo.e) (.bool (oiv q4).hi.s) (.slice A33 n33 c33) (.int .i64 (oiv q4).hi.e)
    replace h31 := h31.put6 X10 (.bool (oiv q4).lo.s) (.slice A32 n32 c32) (.int .i64 (oiv q4).lo.e) (.bool (oiv q4).hi.s) (.slice A33 n33 c33) (.int .i64 (oiv q4).hi.e)
    replace h32 := h32.put6 X10 (.bool (oiv q4).lo.s) (.slice A32 n32 c32) (.int .i64 (oiv q4).lo.e) (.bool (oiv q4).hi.s) (.slice A33 n33 c33) (.int .i64 (oiv q4).hi.e)
    replace h33 := h33.put6 X10 (.bool (oiv q4).lo.s) (.slice A32 n32 c32) (.int .i64 (oiv q4).lo.e) (.bool (oiv q4).hi.s) (.slice A33 n33 c33) (.int .i64 (oiv q4).hi.e)
    replace a0 := cell_oth6 (g := v2.heap.size) (u0 := .bool (oiv q4).lo.s) (u1 := .slice A32 n32 c32) (u2 := .int .i64 (oiv q4).lo.e) (u3 := .bool (oiv q4).hi.s) (u4 := .slice A33 n33 c33) (u5 := .int .i64 (oiv q4).hi.e) a0 (by have := LW.out; omega)
    replace a1 := cell_oth6 (g := v2.heap.size) (u0 := .bool (oiv q4).lo.s) (u1 := .slice A32 n32 c32) (u2 := .int .i64 (oiv q4).lo.e) (u3 := .bool (oiv q4).hi.s) (u4 := .slice A33 n33 c33) (u5 := .int .i64 (oiv q4).hi.e) a1 (by have := LW.out; omega)
    replace a2 := cell_oth6 (g := v2.heap.size) (u0 := .bool (oiv q4).lo.s) (u1 := .slice A32 n32 c32) (u2 := .int .i64 (oiv q4).lo.e) (u3 := .bool (oiv q4).hi.s) (u4 := .slice A33 n33 c33) (u5 := .int .i64 (oiv q4).hi.e) a2 (by have := LW.out; omega)
    replace a3 := cell_oth6 (g := v2.heap.size) (u0 := .bool (oiv q4).lo.s) (u1 := .slice A32 n32 c32) (u2 := .int .i64 (oiv q4).lo.e) (u3 := .bool (oiv q4).hi.s) (u4 := .slice A33 n33 c33) (u5 := .int .i64 (oiv q4).hi.e) a3 (by have := LW.out; omega)
    replace a4 := cell_oth6 (g := v2.heap.size) (u0 := .bool (oiv q4).lo.s) (u1 := .slice A32 n32 c32) (u2 := .int .i64 (oiv q4).lo.e) (u3 := .bool (oiv q4).hi.s) (u4 := .slice A33 n33 c33) (u5 := .int .i64 (oiv q4).hi.e) a4 (by have := LW.out; omega)
    replace a5 := cell_oth6 (g := v2.heap.size) (u0 := .bool (oiv q4).lo.s) (u1 := .slice A32 n32 c32) (u2 := .int .i64 (oiv q4).lo.e) (u3 := .bool (oiv q4).hi.s) (u4 := .slice A33 n33 c33) (u5 := .int .i64 (oiv q4).hi.e) a5 (by have := LW.out; omega)
    replace e0 := cell_oth6 (g := v2.heap.size) (u0 := .bool (oiv q4).lo.s) (u1 := .slice A32 n32 c32) (u2 := .int .i64 (oiv q4).lo.e) (u3 := .bool (oiv q4).hi.s) (u4 := .slice A33 n33 c33) (u5 := .int .i64 (oiv q4).hi.e) e0 (by have := LW.out; omega)
    replace e1 := cell_oth6 (g := v2.heap.size) (u0 := .bool (oiv q4).lo.s) (u1 := .slice A32 n32 c32) (u2 := .int .i64 (oiv q4).lo.e) (u3 := .bool (oiv q4).hi.s) (u4 := .slice A33 n33 c33) (u5 := .int .i64 (oiv q4).hi.e) e1 (by have := LW.out; omega)
    replace e2 := cell_oth6 (g := v2.heap.size) (u0 := .bool (oiv q4).lo.s) (u1 := .slice A32 n32 c32) (u2 := .int .i64 (oiv q4).lo.e) (u3 := .bool (oiv q4).hi.s) (u4 := .slice A33 n33 c33) (u5 := .int .i64 (oiv q4).hi.e) e2 (by have := LW.out; omega)
    replace e3 := cell_oth6 (g := v2.heap.size) (u0 := .bool (oiv q4).lo.s) (u1 := .slice A32 n32 c32) (u2 := .int .i64 (oiv q4).lo.e) (u3 := .bool (oiv q4).hi.s) (u4 := .slice A33 n33 c33) (u5 := .int .i64 (oiv q4).hi.e) e3 (by have := LW.out; omega)
    replace e4 := cell_oth6 (g := v2.heap.size) (u0 := .bool (oiv q4).lo.s) (u1 := .slice A32 n32 c32) (u2 := .int .i64 (oiv q4).lo.e) (u3 := .bool (oiv q4).hi.s) (u4 := .slice A33 n33 c33) (u5 := .int .i64 (oiv q4).hi.e) e4 (by have := LW.out; omega)
    replace e5 := cell_oth6 (g := v2.heap.size) (u0 := .bool (oiv q4).lo.s) (u1 := .slice A32 n32 c32) (u2 := .int .i64 (oiv q4).lo.e) (u3 := .bool (oiv q4).hi.s) (u4 := .slice A33 n33 c33) (u5 := .int .i64 (oiv q4).hi.e) e5 (by have := LW.out; omega)
    replace X8 := Ibx.oth6 (g := v2.heap.size) X8 (by have := LW.out; omega) (.bool (oiv q4).lo.s) (.slice A32 n32 c32) (.int .i64 (oiv q4).lo.e) (.bool (oiv q4).hi.s) (.slice A33 n33 c33) (.int .i64 (oiv q4).hi.e)
    replace BB := below_put6 (g := v2.heap.size) BB (by have := LW.out; omega) (.bool (oiv q4).lo.s) (.slice A32 n32 c32) (.int .i64 (oiv q4).lo.e) (.bool (oiv q4).hi.s) (.slice A33 n33 c33) (.int .i64 (oiv q4).hi.e)
    replace X10 := X10.put (oiv q4).lo.s A32 n32 c32 (oiv q4).lo.e (oiv q4).hi.s A33 n33 c33 (oiv q4).hi.e
    have hT := mv BB rfl hT_o
    have h1 := mv BB rfl h1_o
    have h2 := mv BB rfl h2_o
    have h3 := mv BB rfl h3_o
    have h4 := mv BB rfl h4_o
    obtain ⟨p0, p1, p2, p3, p4, p5⟩ := X8.held
    obtain ⟨k0, k1, k2, k3, k4, k5⟩ := X10.held
    have hmt := mul_turn (p := P) HMx.out HMy.out
    rw [← HQ3.out, ← HQ4.out] at hmt
    have hk : (okc q3 == 0) = (okc q4 == 0) := by rw [Bool.eq_iff_iff, beq_iff_eq, beq_iff_eq]; exact hmt.1
    have g2 : ((okc q3 == 0) != (okc q4 == 0)) = false := by rw [hk]; simp
    have g3 : (!((okc q3 == 0) == (okc q4 == 0))) = false := by rw [hk]; simp
    have HMT := Lib.hid hmt.2
    clear hmt hk
    go_wp2_with fail
    clear t0 t1 t2 t3 t4 t5 m0 m1 m2 m3 m4 m5
    generalize ((((((v8.setCell ⟨v2.heap.size, 0, none⟩ (.bool (oiv q4).lo.s)).setCell ⟨v2.heap.size, 1, none⟩ (.slice A32 n32 c32)).setCell ⟨v2.heap.size, 2, none⟩ (.int .i64 (oiv q4).lo.e)).setCell ⟨v2.heap.size, 3, none⟩ (.bool (oiv q4).hi.s)).setCell ⟨v2.heap.size, 4, none⟩ (.slice A33 n33 c33)).setCell ⟨v2.heap.size, 5, none⟩ (.int .i64 (oiv q4).hi.e)) = x4 at *
    refine (show Calls _ _ _ _ (Bools true _) from by have := isame_any (x := oiv q3) (y := oiv q4) h30 h31 h32 h33; rwa [sameI_iff.2 HMT.out] at this).mono ?_
    rintro en v9 ⟨rfl, b⟩
    clear h30 h31 h32 h33 p0 p1 p2 p3 p4 p5 k0 k1 k2 k3 k4 k5
    replace BB := bnx BB b rfl rfl rfl rfl
    have G := mv b rfl (J19 a0 a1 a2 a3 a4 a5 e0 e1 e2 e3 e4 e5 X8 X10 hT h1 h2 h3 h4)
    clear b a0 a1 a2 a3 a4 a5 e0 e1 e2 e3 e4 e5 X8 X10 hT h1 h2 h3 h4
    obtain ⟨a0, a1, a2, a3, a4, a5, e0, e1, e2, e3, e4, e5, X8, X10, hT, h1, h2, h3, h4⟩ := G
    clear g2 g3
    go_wp2_with fail
    refine (tello_to HQ5.out (asqr_any S (p := P) hT h1 h2)).mono ?_
    rintro en v10 ⟨A40, n40, c40, A41, n41, c41, rfl, h40, h41, b⟩
    replace BB := bnx BB b rfl rfl rfl rfl
    have G := mv b rfl (J19 a0 a1 a2 a3 a4 a5 e0 e1 e2 e3 e4 e5 X8 X10 hT h1 h2 h3 h4)
    clear b a0 a1 a2 a3 a4 a5 e0 e1 e2 e3 e4 e5 X8 X10 hT h1 h2 h3 h4
    obtain ⟨a0, a1, a2, a3, a4, a5, e0, e1, e2, e3, e4, e5, X8, X10, hT, h1, h2, h3, h4⟩ := G
    clear hT h1 h2 h3 h4
    obtain ⟨t0, t1, t2, t3, t4, t5⟩ := X8.open
    obtain ⟨m0, m1, m2, m3, m4, m5⟩ := X8.held
    replace h40 := h40.put6 X8 (.bool (oiv q5).lo.s) (.slice A40 n40 c40) (.int .i64 (oiv q5).lo.e) (.bool (oiv q5).hi.s) (.slice A41 n41 c41) (.int .i64 (oiv q5).hi.e)
    replace h41 := h41.put6 X8 (.bool (oiv q5).lo.s) (.slice A40 n40 c40) (.int .i64 (oiv q5).lo.e) (.bool (oiv q5).hi.s) (.slice A41 n41 c41) (.int .i64 (oiv q5).hi.e)
    replace a0 := cell_oth6 (g := v1.heap.size) (u0 := .bool (oiv q5).lo.s) (u1 := .slice A40 n40 c40) (u2 := .int .i64 (oiv q5).lo.e) (u3 := .bool (oiv q5).hi.s) (u4 := .slice A41 n41 c41) (u5 := .int .i64 (oiv q5).hi.e) a0 (by have := LW.out; omega)
    replace a1 := cell_oth6 (g := v1.heap.size) (u0 := .bool (oiv q5).lo.s) (u1 := .slice A40 n40 c40) (u2 := .int .i64 (oiv q5).lo.e) (u3 := .bool (oiv q5).hi.s) (u4 := .slice A41 n41 c41) (u5 := .int .i64 (oiv q5).hi.e) a1 (by have := LW.out; omega)
    replace a2 := cell_oth6 (g := v1.heap.size) (u0 := .bool (oiv q5).lo.s) (u1 := .slice A40 n40 c40) (u2 := .int .i64 (oiv q5).lo.e) (u3 := .bool (oiv q5).hi.s) (u4 := .slice A41 n41 c41) (u5 := .int .i64 (oiv q5).hi.e) a2 (by have := LW.out; omega)
    replace a3 := cell_oth6 (g := v1.heap.size) (u0 := .bool (oiv q5).lo.s) (u1 := .slice A40 n40 c40) (u2 := .int .i64 (oiv q5).lo.e) (u3 := .bool (oiv q5).hi.s) (u4 := .slice A41 n41 c41) (u5 := .int .i64 (oiv q5).hi.e) a3 (by have := LW.out; omega)
    replace a4 := cell_oth6 (g := v1.heap.size) (u0 := .bool (oiv q5).lo.s) (u1 := .slice A40 n40 c40) (u2 := .int .i64 (oiv q5).lo.e) (u3 := .bool (oiv q5).hi.s) (u4 := .slice A41 n41 c41) (u5 := .int .i64 (oiv q5).hi.e) a4 (by have := LW.out; omega)
    replace a5 := cell_oth6 (g := v1.heap.size) (u0 := .bool (oiv q5).lo.s) (u1 := .slice A40 n40 c40) (u2 := .int .i64 (oiv q5).lo.e) (u3 := .bool (oiv q5).hi.s) (u4 := .slice A41 n41 c41) (u5 := .int .i64 (oiv q5).hi.e) a5 (by have := LW.out; omega)
    replace e0 := cell_oth6 (g := v1.heap.size) (u0 := .bool (oiv q5).lo.s) (u1 := .slice A40 n40 c40) (u2 := .int .i64 (oiv q5).lo.e) (u3 := .bool (oiv q5).hi.s) (u4 := .slice A41 n41 c41) (u5 := .int .i64 (oiv q5).hi.e) e0 (by have := LW.out; omega)
    replace e1 := cell_oth6 (g := v1.heap.size) (u0 := .bool (oiv q5).lo.s) (u1 := .slice A40 n40 c40) (u2 := .int .i64 (oiv q5).lo.e) (u3 := .bool (oiv q5).hi.s) (u4 := .slice A41 n41 c41) (u5 := .int .i64 (oiv q5).hi.e) e1 (by have := LW.out; omega)
    replace e2 := cell_oth6 (g := v1.heap.size) (u0 := .bool (oiv q5).lo.s) (u1 := .slice A40 n40 c40) (u2 := .int .i64 (oiv q5).lo.e) (u3 := .bool (oiv q5).hi.s) (u4 := .slice A41 n41 c41) (u5 := .int .i64 (oiv q5).hi.e) e2 (by have := LW.out; omega)
    replace e3 := cell_oth6 (g := v1.heap.size) (u0 := .bool (oiv q5).lo.s) (u1 := .slice A40 n40 c40) (u2 := .int .i64 (oiv q5).lo.e) (u3 := .bool (oiv q5).hi.s) (u4 := .slice A41 n41 c41) (u5 := .int .i64 (oiv q5).hi.e) e3 (by have := LW.out; omega)
    replace e4 := cell_oth6 (g := v1.heap.size) (u0 := .bool (oiv q5).lo.s) (u1 := .slice A40 n40 c40) (u2 := .int .i64 (oiv q5).lo.e) (u3 := .bool (oiv q5).hi.s) (u4 := .slice A41 n41 c41) (u5 := .int .i64 (oiv q5).hi.e) e4 (by have := LW.out; omega)
    replace e5 := cell_oth6 (g := v1.heap.size) (u0 := .bool (oiv q5).lo.s) (u1 := .slice A40 n40 c40) (u2 := .int .i64 (oiv q5).lo.e) (u3 := .bool (oiv q5).hi.s) (u4 := .slice A41 n41 c41) (u5 := .int .i64 (oiv q5).hi.e) e5 (by have := LW.out; omega)
    replace X10 := Ibx.oth6 (g := v1.heap.size) X10 (by have := LW.out; omega) (.bool (oiv q5).lo.s) (.slice A40 n40 c40) (.int .i64 (oiv q5).lo.e) (.bool (oiv q5).hi.s) (.slice A41 n41 c41) (.int .i64 (oiv q5).hi.e)
    replace BB := below_put6 (g := v1.heap.size) BB (by have := LW.out; omega) (.bool (oiv q5).lo.s) (.slice A40 n40 c40) (.int .i64 (oiv q5).lo.e) (.bool (oiv q5).hi.s) (.slice A41 n41 c41) (.int .i64 (oiv q5).hi.e)
    replace X8 := X8.put (oiv q5).lo.s A40 n40 c40 (oiv q5).lo.e (oiv q5).hi.s A41 n41 c41 (oiv q5).hi.e
    have hT := mv BB rfl hT_o
    have h1 := mv BB rfl h1_o
    have h2 := mv BB rfl h2_o
    have h3 := mv BB rfl h3_o
    have h4 := mv BB rfl h4_o
    go_wp2_with fail
    clear t0 t1 t2 t3 t4 t5 m0 m1 m2 m3 m4 m5
    generalize ((((((v10.setCell ⟨v1.heap.size, 0, none⟩ (.bool (oiv q5).lo.s)).setCell ⟨v1.heap.size, 1, none⟩ (.slice A40 n40 c40)).setCell ⟨v1.heap.size, 2, none⟩ (.int .i64 (oiv q5).lo.e)).setCell ⟨v1.heap.size, 3, none⟩ (.bool (oiv q5).hi.s)).setCell ⟨v1.heap.size, 4, none⟩ (.slice A41 n41 c41)).setCell ⟨v1.heap.size, 5, none⟩ (.int .i64 (oiv q5).hi.e)) = x5 at *
    refine (tello_to HQ6.out (amul_any S (p := P) hT h1 h2 h1 h2)).mono ?_
    rintro en v11 ⟨A42, n42, c42, A43, n43, c43, rfl, h42, h43, b⟩
    replace BB := bnx BB b rfl rfl rfl rfl
    have G := mv b rfl (J21 a0 a1 a2 a3 a4 a5 e0 e1 e2 e3 e4 e5 X8 X10 h40 h41 hT h1 h2 h3 h4)
    clear b a0 a1 a2 a3 a4 a5 e0 e1 e2 e3 e4 e5 X8 X10 h40 h41 hT h1 h2 h3 h4
    obtain ⟨a0, a1, a2, a3, a4, a5, e0, e1, e2, e3, e4, e5, X8, X10, h40, h41, hT, h1, h2, h3, h4⟩ := G
    clear hT h1 h2 h3 h4
    obtain ⟨t0, t1, t2, t3, t4, t5⟩ := X10.open
    obtain ⟨m0, m1, m2, m3, m4, m5⟩ := X10.held
    replace h40 := h40.put6 X10 (.bool (oiv q6).lo.s) (.slice A42 n42 c42) (.int .i64 (oiv q6).lo.e) (.bool (oiv q6).hi.s) (.slice A43 n43 c43) (.int .i64 (oiv q6).hi.e)
    replace h41 := h41.put6 X10 (.bool (oiv q6).lo.s) (.slice A42 n42 c42) (.int .i64 (oiv q6).lo.e) (.bool (oiv q6).hi.s) (.slice A43 n43 c43) (.int .i64 (oiv q6).hi.e)
    replace h42 := h42.put6 X10 (.bool (oiv q6).lo.s) (.slice A42 n42 c42) (.int .i64 (oiv q6).lo.e) (.bool (oiv q6).hi.s) (.slice A43 n43 c43) (.int .i64 (oiv q6).hi.e)
    replace h43 := h43.put6 X10 (.bool (oiv q6).lo.s) (.slice A42 n42 c42) (.int .i64 (oiv q6).lo.e) (.bool (oiv q6).hi.s) (.slice A43 n43 c43) (.int .i64 (oiv q6).hi.e)
    replace a0 := cell_oth6 (g := v2.heap.size) (u0 := .bool (oiv q6).lo.s) (u1 := .slice A42 n42 c42) (u2 := .int .i64 (oiv q6).lo.e) (u3 := .bool (oiv q6).hi.s) (u4 := .slice A43 n43 c43) (u5 := .int .i64 (oiv q6).hi.e) a0 (by have := LW.out; omega)
    replace a1 := cell_oth6 (g := v2.heap.size) (u0 := .bool (oiv q6).lo.s) (u1 := .slice A42 n42 c42) (u2 := .int .i64 (oiv q6).lo.e) (u3 := .bool (oiv q6).hi.s) (u4 := .slice A43 n43 c43) (u5 := .int .i64 (oiv q6).hi.e) a1 (by have := LW.out; omega)
    replace a2 := cell_oth6 (g := v2.heap.size) (u0 := .bool (oiv q6).lo.s) (u1 := .slice A42 n42 c42) (u2 := .int .i64 (oiv q6).lo.e) (u3 := .bool (oiv q6).hi.s) (u4 := .slice A43 n43 c43) (u5 := .int .i64 (oiv q6).hi.e) a2 (by have := LW.out; omega)
    replace a3 := cell_oth6 (g := v2.heap.size) (u0 := .bool (oiv q6).lo.s) (u1 := .slice A42 n42 c42) (u2 := .int .i64 (oiv q6).lo.e) (u3 := .bool (oiv q6).hi.s) (u4 := .slice A43 n43 c43) (u5 := .int .i64 (oiv q6).hi.e) a3 (by have := LW.out; omega)
    replace a4 := cell_oth6 (g := v2.heap.size) (u0 := .bool (oiv q6).lo.s) (u1 := .slice A42 n42 c42) (u2 := .int .i64 (oiv q6).lo.e) (u3 := .bool (oiv q6).hi.s) (u4 := .slice A43 n43 c43) (u5 := .int .i64 (oiv q6).hi.e) a4 (by have := LW.out; omega)
    replace a5 := cell_oth6 (g := v2.heap.size) (u0 := .bool (oiv q6).lo.s) (u1 := .slice A42 n42 c42) (u2 := .int .i64 (oiv q6).lo.e) (u3 := .bool (oiv q6).hi.s) (u4 := .slice A43 n43 c43) (u5 := .int .i64 (oiv q6).hi.e) a5 (by have := LW.out; omega)
    replace e0 := cell_oth6 (g := v2.heap.size) (u0 := .bool (oiv q6).lo.s) (u1 := .slice A42 n42 c42) (u2 := .int .i64 (oiv q6).lo.e) (u3 := .bool (oiv q6).hi.s) (u4 := .slice A43 n43 c43) (u5 := .int .i64 (oiv q6).hi.e) e0 (by have := LW.out; omega)
    replace e1 := cell_oth6 (g := v2.heap.size) (u0 := .bool (oiv q6).lo.s) (u1 := .slice A42 n42 c42) (u2 := .int .i64 (oiv q6).lo.e) (u3 := .bool (oiv q6).hi.s) (u4 := .slice A43 n43 c43) (u5 := .int .i64 (oiv q6).hi.e) e1 (by have := LW.out; omega)
    replace e2 := cell_oth6 (g := v2.heap.size) (u0 := .bool (oiv q6).lo.s) (u1 := .slice A42 n42 c42) (u2 := .int .i64 (oiv q6).lo.e) (u3 := .bool (oiv q6).hi.s) (u4 := .slice A43 n43 c43) (u5 := .int .i64 (oiv q6).hi.e) e2 (by have := LW.out; omega)
    replace e3 := cell_oth6 (g := v2.heap.size) (u0 := .bool (oiv q6).lo.s) (u1 := .slice A42 n42 c42) (u2 := .int .i64 (oiv q6).lo.e) (u3 := .bool (oiv q6).hi.s) (u4 := .slice A43 n43 c43) (u5 := .int .i64 (oiv q6).hi.e) e3 (by have := LW.out; omega)
    replace e4 := cell_oth6 (g := v2.heap.size) (u0 := .bool (oiv q6).lo.s) (u1 := .slice A42 n42 c42) (u2 := .int .i64 (oiv q6).lo.e) (u3 := .bool (oiv q6).hi.s) (u4 := .slice A43 n43 c43) (u5 := .int .i64 (oiv q6).hi.e) e4 (by have := LW.out; omega)
    replace e5 := cell_oth6 (g := v2.heap.size) (u0 := .bool (oiv q6).lo.s) (u1 := .slice A42 n42 c42) (u2 := .int .i64 (oiv q6).lo.e) (u3 := .bool (oiv q6).hi.s) (u4 := .slice A43 n43 c43) (u5 := .int .i64 (oiv q6).hi.e) e5 (by have := LW.out; omega)
    replace X8 := Ibx.oth6 (g := v2.heap.size) X8 (by have := LW.out; omega) (.bool (oiv q6).lo.s) (.slice A42 n42 c42) (.int .i64 (oiv q6).lo.e) (.bool (oiv q6).hi.s) (.slice A43 n43 c43) (.int .i64 (oiv q6).hi.e)
    replace BB := below_put6 (g := v2.heap.size) BB (by have := LW.out; omega) (.bool (oiv q6).lo.s) (.slice A42 n42 c42) (.int .i64 (oiv q6).lo.e) (.bool (oiv q6).hi.s) (.slice A43 n43 c43) (.int .i64 (oiv q6).hi.e)
    replace X10 := X10.put (oiv q6).lo.s A42 n42 c42 (oiv q6).lo.e (oiv q6).hi.s A43 n43 c43 (oiv q6).hi.e
    have hT := mv BB rfl hT_o
    have h1 := mv BB rfl h1_o
    have h2 := mv BB rfl h2_o
    have h3 := mv BB rfl h3_o
    have h4 := mv BB rfl h4_o
    obtain ⟨p0, p1, p2, p3, p4, p5⟩ := X8.held
    obtain ⟨k0, k1, k2, k3, k4, k5⟩ := X10.held
    go_wp2_with fail
    clear t0 t1 t2 t3 t4 t5 m0 m1 m2 m3 m4 m5
    generalize ((((((v11.setCell ⟨v2.heap.size, 0, none⟩ (.bool (oiv q6).lo.s)).setCell ⟨v2.heap.size, 1, none⟩ (.slice A42 n42 c42)).setCell ⟨v2.heap.size, 2, none⟩ (.int .i64 (oiv q6).lo.e)).setCell ⟨v2.heap.size, 3, none⟩ (.bool (oiv q6).hi.s)).setCell ⟨v2.heap.size, 4, none⟩ (.slice A43 n43 c43)).setCell ⟨v2.heap.size, 5, none⟩ (.int .i64 (oiv q6).hi.e)) = x6 at *
    refine (told6_any hT).mono ?_
    rintro en v12 ⟨rfl, b⟩
    clear h1 h2 h3 h4 a0 a1 a2 a3 a4 a5 e0 e1 e2 e3 e4 e5
    replace BB := bnx BB b rfl rfl rfl rfl
    have G := mv b rfl (J19 X8 X10 h40 h41 h42 h43 hT p0 p1 p2 p3 p4 p5 k0 k1 k2 k3 k4 k5)
    clear b X8 X10 h40 h41 h42 h43 hT p0 p1 p2 p3 p4 p5 k0 k1 k2 k3 k4 k5
    obtain ⟨X8, X10, h40, h41, h42, h43, hT, p0, p1, p2, p3, p4, p5, k0, k1, k2, k3, k4, k5⟩ := G
    by_cases z5 : okc q5 = 0
    rotate_left
    · have d5 : (okc q5 != 0) = true := by simp; exact z5
      clear z5
      go_wp2
      go_ret
      exact ⟨by first | rfl | simp, BB⟩
    by_cases z6 : okc q6 = 0
    rotate_left
    · have d5 : (okc q5 != 0) = false := by simp; exact z5
      have d6 : (okc q6 != 0) = true := by simp; exact z6
      clear z5 z6
      go_wp2
      go_ret
      exact ⟨by first | rfl | simp, BB⟩
    have d5 : (okc q5 != 0) = false := by simp; exact z5
    have d6 : (okc q6 != 0) = false := by simp; exact z6
    have e5 : q5 = .ok (oiv q5) := iok_of (by rw [HQ5.out]; exact face1_cod sqrI_cod) z5
    have e6 : q6 = .ok (oiv q6) := iok_of (by rw [HQ6.out]; exact face2_cod mulI_cod) z6
    have f5 := face1_ok (HQ5.out.symm.trans e5)
    have f6 := face2_ok (HQ6.out.symm.trans e6)
    have HW := Lib.hid (sqr_in HPR.out HMx.out f5 f6)
    have HS9 := Lib.hid (sqr_sign HPR.out HMx.out f5)
    clear z5 z6 e5 e6 f5 f6
    go_wp2_with fail
    refine (show Calls _ _ _ _ (Bools true _) from by have := iwithin_any (K := S.K) (x := oiv q5) (y := oiv q6) S.big hT h40 h41 h42 h43; rwa [HW.out] at this).mono ?_
    rintro en v13 ⟨rfl, b⟩
    replace BB := bnx BB b rfl rfl rfl rfl
    have G := mv b rfl (J19 X8 X10 h40 h41 h42 h43 hT p0 p1 p2 p3 p4 p5 k0 k1 k2 k3 k4 k5)
    clear b X8 X10 h40 h41 h42 h43 hT p0 p1 p2 p3 p4 p5 k0 k1 k2 k3 k4 k5
    obtain ⟨X8, X10, h40, h41, h42, h43, hT, p0, p1, p2, p3, p4, p5, k0, k1, k2, k3, k4, k5⟩ := G
    obtain ⟨t, ht⟩ : ∃ t, t = signR (oiv q5).lo.s (oiv q5).lo.l (oiv q5).lo.e := ⟨_, rfl⟩
    have HT := Lib.hid ht
    have g9_ : decide (0 ≤ t) = true := decide_eq_true (by rw [ht]; exact HS9.out)
    clear ht
    go_wp2_with fail
    refine (show Calls _ _ _ _ (Ints t _) from by rw [HT.out]; exact dsign_raw (s1 := (oiv q5).lo.s) (e1 := (oiv q5).lo.e) hT h40).mono ?_
    rintro en v14 ⟨rfl, b⟩
    replace BB := bnx BB b rfl rfl rfl rfl
    have G := mv b rfl (J19 X8 X10 h40 h41 h42 h43 hT p0 p1 p2 p3 p4 p5 k0 k1 k2 k3 k4 k5)
    clear b X8 X10 h40 h41 h42 h43 hT p0 p1 p2 p3 p4 p5 k0 k1 k2 k3 k4 k5
    obtain ⟨X8, X10, h40, h41, h42, h43, hT, p0, p1, p2, p3, p4, p5, k0, k1, k2, k3, k4, k5⟩ := G
    go_wp2
    go_ret
    exact ⟨by first | rfl | simp, BB⟩

end Go.Proofs.YtcbkhmejlaaieaaGreatDoor
