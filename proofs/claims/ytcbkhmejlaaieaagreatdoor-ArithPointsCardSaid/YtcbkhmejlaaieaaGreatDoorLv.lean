/-
  Contract of the statement ArithPoints's function at this translation: it returns true, whatever its arguments. Condition: the slices read as limbs, the table of math/bits reads as its text lays it.
-/
import Derived.Test.YtcbkhmejlaaieaaGreatDoorLu
import Derived.Test.YtcbkhmejlaaieaaGreatDoorLs
namespace Go.Proofs.YtcbkhmejlaaieaaGreatDoor
open Go.RowKit


/-- the interval of one number -/
def ptI (c : Rw) : Iv := ⟨c, c⟩
theorem few_of {a : Rw} {n : Nat} (ha : a.may = true) (hl : a.l.length = n) (hn : n ≤ 2) (h1 : decide (a.e < -100) = false) (h2 : decide (100 < a.e) = false) : Few2 a := by
  refine ⟨ha, ?_, ?_, ?_⟩
  · refine (blen_le _ 128).2 (Nat.lt_of_lt_of_le (val_lt a.lt) ?_)
    rw [W_pow, ← Nat.pow_mul]
    exact Nat.pow_le_pow_right (by omega) (by omega)
  · have := of_decide_eq_false h1; omega
  · have := of_decide_eq_false h2; omega

set_option maxRecDepth 100000 in
set_option maxHeartbeats 8000000 in
theorem arithpoints_any {w : World} {a b : Rw} {A1 : Option Addr} {n1 c1 : Nat} {A2 : Option Addr} {n2 c2 : Nat} (hT : Tab w) (h1 : Rd w .u64 Go.Proofs.YtcbkhmejlaaieaaGreatDoor.W A1 n1 c1 a.l) (h2 : Rd w .u64 Go.Proofs.YtcbkhmejlaaieaaGreatDoor.W A2 n2 c2 b.l) :
    Calls Tryz.prog 6 #[.agg #[.bool a.s, .slice A1 n1 c1, .int .i64 a.e], .agg #[.bool b.s, .slice A2 n2 c2, .int .i64 b.e]] w fun en w' => ToldEnd w en w' := by
  obtain ⟨S⟩ := sc_has
  have BB := two_below w (.cells #[.bool a.s, .slice A1 n1 c1, .int .i64 a.e] 24) (.cells #[.bool b.s, .slice A2 n2 c2, .int .i64 b.e] 24)
  obtain ⟨a0, a1, a2, e0, e1, e2⟩ := (two_new w a.s b.s A1 A2 n1 c1 n2 c2 a.e b.e).held
  have G := mv BB rfl (J3 hT h1 h2)
  clear hT h1 h2
  obtain ⟨hT, h1, h2⟩ := G
  by_cases f1 : n1 ≤ 2
  rotate_left
  · have d1 : decide ((2 : Int) < (n1 : Int)) = true := decide_eq_true (by omega)
    clear f1
    go_enter Tryz.func6, Tryz.ntmps6
    go_wp2_with fail
    refine (told6_any hT).mono ?_
    rintro en w99 ⟨rfl, b⟩
    replace BB := bnx BB b rfl rfl rfl rfl
    clear b
    go_wp2
    go_ret
    exact ⟨by first | rfl | simp, BB⟩
  have d1 : decide ((2 : Int) < (n1 : Int)) = false := decide_eq_false (by omega)
  have F1 := Lib.hid f1
  clear f1
  by_cases f2 : n2 ≤ 2
  rotate_left
  · have d2 : decide ((2 : Int) < (n2 : Int)) = true := decide_eq_true (by omega)
    clear f2
    go_enter Tryz.func6, Tryz.ntmps6
    go_wp2_with fail
    refine (told6_any hT).mono ?_
    rintro en w99 ⟨rfl, b⟩
    replace BB := bnx BB b rfl rfl rfl rfl
    clear b
    go_wp2
    go_ret
    exact ⟨by first | rfl | simp, BB⟩
  have d2 : decide ((2 : Int) < (n2 : Int)) = false := decide_eq_false (by omega)
  have F2 := Lib.hid f2
  clear f2
  go_enter Tryz.func6, Tryz.ntmps6
  go_wp2_with fail
  refine (dmay_any (s := a.s) (e := a.e) hT h1).mono ?_
  rintro en w1 ⟨rfl, b⟩
  replace BB := bnx BB b rfl rfl rfl rfl
  have G := mv b rfl (J9 a0 a1 a2 e0 e1 e2 hT h1 h2)
  clear b a0 a1 a2 e0 e1 e2 hT h1 h2
  obtain ⟨a0, a1, a2, e0, e1, e2, hT, h1, h2⟩ := G
  cases hm : mayD a.s a.l a.e
  · clear hm
    go_wp2_with fail
    refine (told6_any hT).mono ?_
    rintro en w99 ⟨rfl, b⟩
    replace BB := bnx BB b rfl rfl rfl rfl
    clear b
    go_wp2
    go_ret
    exact ⟨by first | rfl | simp, BB⟩
  have HMa : Hid (a.may = true) := Lib.hid hm
  clear hm
  go_wp2_with fail
  refine (dmay_any (s := b.s) (e := b.e) hT h2).mono ?_
  rintro en w2 ⟨rfl, b⟩
  replace BB := bnx BB b rfl rfl rfl rfl
  have G := mv b rfl (J9 a0 a1 a2 e0 e1 e2 hT h1 h2)
  clear b a0 a1 a2 e0 e1 e2 hT h1 h2
  obtain ⟨a0, a1, a2, e0, e1, e2, hT, h1, h2⟩ := G
  cases hm : mayD b.s b.l b.e
  · clear hm
    go_wp2_with fail
    refine (told6_any hT).mono ?_
    rintro en w99 ⟨rfl, b⟩
    replace BB := bnx BB b rfl rfl rfl rfl
    clear b
    go_wp2
    go_ret
    exact ⟨by first | rfl | simp, BB⟩
  have HMb : Hid (b.may = true) := Lib.hid hm
  clear hm
  cases xal : decide (a.e < (-100 : Int))
  rotate_left
  · go_wp2_with fail
    refine (told6_any hT).mono ?_
    rintro en w99 ⟨rfl, b⟩
    replace BB := bnx BB b rfl rfl rfl rfl
    clear b
    go_wp2
    go_ret
    exact ⟨by first | rfl | simp, BB⟩
  cases xag : decide ((100 : Int) < a.e)
  rotate_left
  · go_wp2_with fail
    refine (told6_any hT).mono ?_
    rintro en w99 ⟨rfl, b⟩
    replace BB := bnx BB b rfl rfl rfl rfl
    clear b
    go_wp2
    go_ret
    exact ⟨by first | rfl | simp, BB⟩
  cases xbl : decide (b.e < (-100 : Int))
  rotate_left
  · go_wp2_with fail
    refine (told6_any hT).mono ?_
    rintro en w99 ⟨rfl, b⟩
    replace BB := bnx BB b rfl rfl rfl rfl
    clear b
    go_wp2
    go_ret
    exact ⟨by first | rfl | simp, BB⟩
  cases xbg : decide ((100 : Int) < b.e)
  rotate_left
  · go_wp2_with fail
    refine (told6_any hT).mono ?_
    rintro en w99 ⟨rfl, b⟩
    replace BB := bnx BB b rfl rfl rfl rfl
    clear b
    go_wp2
    go_ret
    exact ⟨by first | rfl | simp, BB⟩
  have HFa := Lib.hid (few_of HMa.out h1.len F1.out xal xag)
  have HFb := Lib.hid (few_of HMb.out h2.len F2.out xbl xbg)
  have Z1 := Lib.hid (len_at h1 (may_len (mayI_point (K := S.K) HMa.out)).1)
  have Z2 := Lib.hid (len_at h2 (may_len (mayI_point (K := S.K) HMb.out)).1)
  obtain ⟨p1, x1, x2, x3⟩ := small_add (S := S) HFa.out HFb.out
  obtain ⟨p2, y1, y2, y3⟩ := small_add (S := S) HFa.out (neg_few HFb.out)
  obtain ⟨p3, z1, z2, z3⟩ := small_mul (S := S) HFa.out HFb.out
  obtain ⟨p4, u1, u2, u3⟩ := small_mul (S := S) HFa.out HFa.out
  obtain ⟨p5, hp5⟩ : ∃ p, p = negQ a := ⟨_, rfl⟩
  have HP5 := Lib.hid hp5
  have v1_ : p5.may = true := by rw [hp5, negQ_may]; exact HMa.out
  have E1 := Lib.hid (And.intro x1 <| And.intro x2 x3)
  have E2 := Lib.hid (And.intro y1 <| And.intro y2 y3)
  have E3 := Lib.hid (And.intro z1 <| And.intro z2 z3)
  have E4 := Lib.hid (And.intro u1 <| And.intro u2 u3)
  have E5 := Lib.hid v1_
  clear x1 x2 x3 y1 y2 y3 z1 z2 z3 u1 u2 u3 hp5 v1_
  have KA := Lib.hid (show face2 S (ptI a) (ptI b) 600 (sumO S (ptI a) (ptI b) 600) = .ok (ptI p1) from by unfold face2; rw [if_pos (by rw [show mayI S.K (ptI a) = true from mayI_point HMa.out, show mayI S.K (ptI b) = true from mayI_point HMb.out]; decide)]; exact add600 HMa.out HMb.out E1.out.1 E1.out.2.1 E1.out.2.2)
  have KS := Lib.hid (show face2 S (ptI a) (ptI b) 600 (sumO S (ptI a) (turnI (ptI b)) 600) = .ok (ptI p2) from by unfold face2; rw [if_pos (by rw [show mayI S.K (ptI a) = true from mayI_point HMa.out, show mayI S.K (ptI b) = true from mayI_point HMb.out]; decide)]; exact add600 HMa.out (neg_few HFb.out).1 E2.out.1 E2.out.2.1 E2.out.2.2)
  have KM := Lib.hid (show face2 S (ptI a) (ptI b) 600 (mulI S (ptI a) (ptI b) 600) = .ok (ptI p3) from by unfold face2; rw [if_pos (by rw [show mayI S.K (ptI a) = true from mayI_point HMa.out, show mayI S.K (ptI b) = true from mayI_point HMb.out]; decide)]; exact mul600 HMa.out HMb.out E3.out.1 E3.out.2.1 E3.out.2.2)
  have KQ := Lib.hid (show face1 S (ptI a) 600 (sqrI S (ptI a) 600) = .ok (ptI p4) from by unfold face1; rw [if_pos (by rw [show mayI S.K (ptI a) = true from mayI_point HMa.out]; decide)]; exact sqr600 HMa.out E4.out.1 E4.out.2.1 E4.out.2.2)
  have KN := Lib.hid (show face1 S (ptI a) 600 (negI S (ptI a) 600) = .ok (ptI p5) from by unfold face1; rw [if_pos (by rw [show mayI S.K (ptI a) = true from mayI_point HMa.out]; decide), HP5.out]; exact neg600 HFa.out)
  go_upto_region 3 with fail
  generalize w2 = W3_ at *
  go_cut [5, 6] (fun v5 v6 wx => ∃ (g : Nat) (A : Option Addr) (n c : Nat) (B : Option Addr) (m d : Nat), v5 = .pointer (some ⟨g, 0, none⟩) ∧ v6 = .int .i64 0 ∧ Ibx wx g (ptI p1).lo.s A n c (ptI p1).lo.e (ptI p1).hi.s B m d (ptI p1).hi.e ∧ Rd wx .u64 Go.Proofs.YtcbkhmejlaaieaaGreatDoor.W A n c (ptI p1).lo.l ∧ Rd wx .u64 Go.Proofs.YtcbkhmejlaaieaaGreatDoor.W B m d (ptI p1).hi.l ∧ Below W3_.heap.size W3_ wx)
  case first => as_aux_lemma =>
    have B1 := Below.refl W3_.heap.size W3_
    clear BB
    have BB := B1
    clear B1
    have b : Below W3_.heap.size W3_ (World.drew W3_) := below_drewN (Below.refl _ _) 1
    replace BB := bnx BB b rfl rfl rfl rfl
    have G := mv b rfl (J9 hT h1 h2 a0 a1 a2 e0 e1 e2)
    clear b hT h1 h2 a0 a1 a2 e0 e1 e2
    obtain ⟨hT, h1, h2, a0, a1, a2, e0, e1, e2⟩ := G
    refine wp_region_held_drew (S := fun w' => w'.cell? ⟨w.heap.size, 0, none⟩ = some (.bool a.s) ∧ w'.cell? ⟨w.heap.size, 1, none⟩ = some (.slice A1 n1 c1) ∧ w'.cell? ⟨w.heap.size, 2, none⟩ = some (.int .i64 a.e) ∧ w'.cell? ⟨w.heap.size + 1, 0, none⟩ = some (.bool b.s) ∧ w'.cell? ⟨w.heap.size + 1, 1, none⟩ = some (.slice A2 n2 c2) ∧ w'.cell? ⟨w.heap.size + 1, 2, none⟩ = some (.int .i64 b.e)) (by kernel_rfl) (by exact ⟨a0, a1, a2, e0, e1, e2⟩) (fun hHeldp0 => ?_)
    generalize World.drew W3_ = wd at *
    refine wpAnyH_take (i := 0) (v := ?p1v0) rfl (by kernel_rfl) (by kernel_rfl) (by kernel_rfl) (fun _ _ _ h => panic_put (P := Tryz.prog) (fn := Tryz.f6) (R := (fun en w' => ToldEnd w en w')) h) (Or.inl ⟨by rfl, ?p1y0⟩) (by assumption) ?_
    case p1y0 => (intro w hSw; (try dsimp only at hSw); go_simp); try with_reducible rfl
    change wpAnyH _ _ _ _ _ _ _ (Act.put _ (some 65) _) _
    simp only [Act.put, List.setIfInBounds_toArray, List.set_cons_zero, List.set_cons_succ]
    refine wpAnyH_take (i := 2) (v := ?p2v2) rfl (by kernel_rfl) (by kernel_rfl) (by kernel_rfl) (fun _ _ _ h => panic_put (P := Tryz.prog) (fn := Tryz.f6) (R := (fun en w' => ToldEnd w en w')) h) (Or.inl ⟨by rfl, ?p2y2⟩) (by assumption) ?_
    case p2y2 => (intro w hSw; (try dsimp only at hSw); go_simp); try with_reducible rfl
    change wpAnyH _ _ _ _ _ _ _ (Act.put _ (some 67) _) _
    simp only [Act.put, List.setIfInBounds_toArray, List.set_cons_zero, List.set_cons_succ]
    refine wpAnyH_ready (rs := [1, 8]) (by kernel_rfl) (by simp) ?_
    refine AllReadyH.cons (o := _) rfl (fun K hK => ?_) (AllReadyH.cons (o := _) rfl (fun K hK => ?_) (AllReadyH.nil))
    · go_simp
      refine (show Calls _ _ _ _ (GivI (ptI a) _) from iof_any (a := a) h1 Z1.out).mono ?_
      rintro en u_1 ⟨A60, n60, c60, A61, n61, c61, rfl, h60, h61, b⟩
      replace BB := bnx BB b rfl rfl rfl rfl
      have G := mv b rfl (J9 hT h1 h2 a0 a1 a2 e0 e1 e2)
      clear b hT h1 h2 a0 a1 a2 e0 e1 e2
      obtain ⟨hT, h1, h2, a0, a1, a2, e0, e1, e2⟩ := G
      refine hK.out _ _ (by exact ⟨a0, a1, a2, e0, e1, e2⟩) (fun hHeldp1 => ?_)
      clear hK K hHeldp0
      try simp only [Act.put]
      refine wpAnyH_ready (rs := [3, 8]) (by kernel_rfl) (by simp) ?_
      refine AllReadyH.cons (o := _) rfl (fun K hK => ?_) (AllReadyH.cons (o := _) rfl (fun K hK => ?_) (AllReadyH.nil))
      · go_simp
        refine (show Calls _ _ _ _ (GivI (ptI b) _) from iof_any (a := b) h2 Z2.out).mono ?_
        rintro en u_2 ⟨A62, n62, c62, A63, n63, c63, rfl, h62, h63, b⟩
        replace BB := bnx BB b rfl rfl rfl rfl
        have G := mv b rfl (J11 hT h1 h2 a0 a1 a2 e0 e1 e2 h60 h61)
        clear b hT h1 h2 a0 a1 a2 e0 e1 e2 h60 h61
        obtain ⟨hT, h1, h2, a0, a1, a2, e0, e1, e2, h60, h61⟩ := G
        refine hK.out _ _ (by exact ⟨a0, a1, a2, e0, e1, e2⟩) (fun hHeldp2 => ?_)
        clear hK K hHeldp1
        try simp only [Act.put]
        refine wpAnyH_ready (rs := [4, 8]) (by kernel_rfl) (by simp) ?_
        refine AllReadyH.cons (o := _) rfl (fun K hK => ?_) (AllReadyH.cons (o := _) rfl (fun K hK => ?_) (AllReadyH.nil))
        · go_simp
          refine (show Calls _ _ _ _ (TellI 0 (ptI p1) _) from by have := aadd_any S (x := ptI a) (y := ptI b) (p := 600) hT h60 h61 h62 h63; rwa [KA.out] at this).mono ?_
          rintro en u_3 ⟨A10, n10, c10, A11, n11, c11, rfl, h10, h11, b⟩
          clear h60 h61 h62 h63
          replace BB := bnx BB b rfl rfl rfl rfl
          have G := mv b rfl (J9 hT h1 h2 a0 a1 a2 e0 e1 e2)
          clear b hT h1 h2 a0 a1 a2 e0 e1 e2
          obtain ⟨hT, h1, h2, a0, a1, a2, e0, e1, e2⟩ := G
          refine hK.out _ _ (by exact ⟨a0, a1, a2, e0, e1, e2⟩) (fun hHeldp3 => ?_)
          clear hK K hHeldp2
          try simp only [Act.put]
          refine wpAnyH_take (i := 5) (v := ?p3v5) rfl (by kernel_rfl) (by kernel_rfl) (by kernel_rfl) (fun _ _ _ h => panic_put (P := Tryz.prog) (fn := Tryz.f6) (R := (fun en w' => ToldEnd w en w')) h) (Or.inl ⟨by rfl, ?p3y5⟩) (by assumption) ?_
          case p3y5 => (intro w hSw; (try dsimp only at hSw); go_simp); try with_reducible rfl
          change wpAnyH _ _ _ _ _ _ _ (Act.put _ (some 64) _) _
          simp only [Act.put, List.setIfInBounds_toArray, List.set_cons_zero, List.set_cons_succ]
          refine wpAnyH_take (i := 6) (v := ?p4v6) rfl (by kernel_rfl) (by kernel_rfl) (by kernel_rfl) (fun _ _ _ h => panic_put (P := Tryz.prog) (fn := Tryz.f6) (R := (fun en w' => ToldEnd w en w')) h) (Or.inl ⟨by rfl, ?p4y6⟩) (by assumption) ?_
          case p4y6 => (intro w hSw; (try dsimp only at hSw); go_simp); try with_reducible rfl
          change wpAnyH _ _ _ _ _ _ _ (Act.put _ (some 70) _) _
          simp only [Act.put, List.setIfInBounds_toArray, List.set_cons_zero, List.set_cons_succ]
          refine wpAnyH_take (i := 7) (v := ?p5v7) rfl (by kernel_rfl) (by kernel_rfl) (by kernel_rfl) (fun _ _ _ h => panic_put (P := Tryz.prog) (fn := Tryz.f6) (R := (fun en w' => ToldEnd w en w')) h) (Or.inl ⟨by rfl, ?p5y7⟩) (by assumption) ?_
          case p5y7 => (intro w hSw; (try dsimp only at hSw); go_simp); try with_reducible rfl
          change wpAnyH _ _ _ _ _ _ _ (Act.put _ (some 71) _) _
          simp only [Act.put, List.setIfInBounds_toArray, List.set_cons_zero, List.set_cons_succ]
          refine wpAnyH_ready (rs := [8]) (by kernel_rfl) (by simp) ?_
          refine AllReadyH.cons (o := _) rfl (fun K hK => ?_) (AllReadyH.nil)
          go_simp
          have gl9 : W3_.heap.size ≤ u_3.heap.size := BB.size
          have gy9 : w.heap.size + 1 < u_3.heap.size := World.block_lt_of_cell? _ _ e0
          have p9 := Ibx.new u_3 false none 0 0 0 false none 0 0 0
          have b := below_alloc u_3 (.cells #[.bool false, .slice none 0 0, .int .i64 0, .bool false, .slice none 0 0, .int .i64 0] 26)
          replace BB := bnx BB b rfl rfl rfl rfl
          have G := mv b rfl (J11 hT h1 h2 a0 a1 a2 e0 e1 e2 h10 h11)
          clear b hT h1 h2 a0 a1 a2 e0 e1 e2 h10 h11
          obtain ⟨hT, h1, h2, a0, a1, a2, e0, e1, e2, h10, h11⟩ := G
          generalize u_3.alloc (.cells #[.bool false, .slice none 0 0, .int .i64 0, .bool false, .slice none 0 0, .int .i64 0] 26) = u_4 at *
          generalize u_3.heap.size = g9 at *
          refine hK.out _ _ (by exact ⟨a0, a1, a2, e0, e1, e2⟩) (fun hHeldp4 => ?_)
          clear hK K hHeldp3
          try simp only [Act.put]
          refine wpAnyH_ready (rs := [9]) (by kernel_rfl) (by simp) ?_
          refine AllReadyH.cons (o := _) rfl (fun K hK => ?_) (AllReadyH.nil)
          obtain ⟨f0_, f1_, f2_, f3_, f4_, f5_⟩ := p9.open
          obtain ⟨z0, z1, z2, z3, z4, z5⟩ := p9.held
          go_simp
          clear hT h1 h2
          replace a0 := cell_oth6 (g := g9) (u0 := .bool (ptI p1).lo.s) (u1 := .slice A10 n10 c10) (u2 := .int .i64 (ptI p1).lo.e) (u3 := .bool (ptI p1).hi.s) (u4 := .slice A11 n11 c11) (u5 := .int .i64 (ptI p1).hi.e) a0 (by omega)
          replace a1 := cell_oth6 (g := g9) (u0 := .bool (ptI p1).lo.s) (u1 := .slice A10 n10 c10) (u2 := .int .i64 (ptI p1).lo.e) (u3 := .bool (ptI p1).hi.s) (u4 := .slice A11 n11 c11) (u5 := .int .i64 (ptI p1).hi.e) a1 (by omega)
          replace a2 := cell_oth6 (g := g9) (u0 := .bool (ptI p1).lo.s) (u1 := .slice A10 n10 c10) (u2 := .int .i64 (ptI p1).lo.e) (u3 := .bool (ptI p1).hi.s) (u4 := .slice A11 n11 c11) (u5 := .int .i64 (ptI p1).hi.e) a2 (by omega)
          replace e0 := cell_oth6 (g := g9) (u0 := .bool (ptI p1).lo.s) (u1 := .slice A10 n10 c10) (u2 := .int .i64 (ptI p1).lo.e) (u3 := .bool (ptI p1).hi.s) (u4 := .slice A11 n11 c11) (u5 := .int .i64 (ptI p1).hi.e) e0 (by omega)
          replace e1 := cell_oth6 (g := g9) (u0 := .bool (ptI p1).lo.s) (u1 := .slice A10 n10 c10) (u2 := .int .i64 (ptI p1).lo.e) (u3 := .bool (ptI p1).hi.s) (u4 := .slice A11 n11 c11) (u5 := .int .i64 (ptI p1).hi.e) e1 (by omega)
          replace e2 := cell_oth6 (g := g9) (u0 := .bool (ptI p1).lo.s) (u1 := .slice A10 n10 c10) (u2 := .int .i64 (ptI p1).lo.e) (u3 := .bool (ptI p1).hi.s) (u4 := .slice A11 n11 c11) (u5 := .int .i64 (ptI p1).hi.e) e2 (by omega)
          replace h10 := h10.put6 p9 (.bool (ptI p1).lo.s) (.slice A10 n10 c10) (.int .i64 (ptI p1).lo.e) (.bool (ptI p1).hi.s) (.slice A11 n11 c11) (.int .i64 (ptI p1).hi.e)
          replace h11 := h11.put6 p9 (.bool (ptI p1).lo.s) (.slice A10 n10 c10) (.int .i64 (ptI p1).lo.e) (.bool (ptI p1).hi.s) (.slice A11 n11 c11) (.int .i64 (ptI p1).hi.e)
          replace BB := below_put6 (g := g9) BB gl9 (.bool (ptI p1).lo.s) (.slice A10 n10 c10) (.int .i64 (ptI p1).lo.e) (.bool (ptI p1).hi.s) (.slice A11 n11 c11) (.int .i64 (ptI p1).hi.e)
          replace p9 := p9.put (ptI p1).lo.s A10 n10 c10 (ptI p1).lo.e (ptI p1).hi.s A11 n11 c11 (ptI p1).hi.e
          clear f0_ f1_ f2_ f3_ f4_ f5_ z0 z1 z2 z3 z4 z5
          generalize (((((u_4.setCell ⟨g9, 0, none⟩ (.bool (ptI p1).lo.s)).setCell ⟨g9, 1, none⟩ (.slice A10 n10 c10)).setCell ⟨g9, 2, none⟩ (.int .i64 (ptI p1).lo.e)).setCell ⟨g9, 3, none⟩ (.bool (ptI p1).hi.s)).setCell ⟨g9, 4, none⟩ (.slice A11 n11 c11)).setCell ⟨g9, 5, none⟩ (.int .i64 (ptI p1).hi.e) = u_5 at *
          refine hK.out _ _ (by exact ⟨a0, a1, a2, e0, e1, e2⟩) (fun hHeldp5 => ?_)
          clear hK K hHeldp4
          try simp only [Act.put]
          refine wpAnyH_take (i := 10) (v := ?p6v10) rfl (by kernel_rfl) (by kernel_rfl) (by kernel_rfl) (fun _ _ _ h => panic_put (P := Tryz.prog) (fn := Tryz.f6) (R := (fun en w' => ToldEnd w en w')) h) (Or.inl ⟨by rfl, ?p6y10⟩) (by assumption) ?_
          case p6y10 => (intro w hSw; (try dsimp only at hSw); go_simp); try with_reducible rfl
          change wpAnyH _ _ _ _ _ _ _ (Act.put _ (some 6) _) _
          simp only [Act.put, List.setIfInBounds_toArray, List.set_cons_zero, List.set_cons_succ]
          refine wpAnyH_done (by kernel_rfl) ?_ _
          go_wp2_with fail
          go_meet
          case rel => exact ⟨g9, A10, n10, c10, A11, n11, c11, rfl, rfl, p9, h10, h11, BB⟩
        · go_simp
          have gl9 : W3_.heap.size ≤ u_2.heap.size := BB.size
          have gy9 : w.heap.size + 1 < u_2.heap.size := World.block_lt_of_cell? _ _ e0
          have p9 := Ibx.new u_2 false none 0 0 0 false none 0 0 0
          have b := below_alloc u_2 (.cells #[.bool false, .slice none 0 0, .int .i64 0, .bool false, .slice none 0 0, .int .i64 0] 26)
          replace BB := bnx BB b rfl rfl rfl rfl
          have G := mv b rfl (J13 hT h1 h2 a0 a1 a2 e0 e1 e2 h60 h61 h62 h63)
          clear b hT h1 h2 a0 a1 a2 e0 e1 e2 h60 h61 h62 h63
          obtain ⟨hT, h1, h2, a0, a1, a2, e0, e1, e2, h60, h61, h62, h63⟩ := G
          generalize u_2.alloc (.cells #[.bool false, .slice none 0 0, .int .i64 0, .bool false, .slice none 0 0, .int .i64 0] 26) = u_3 at *
          generalize u_2.heap.size = g9 at *
          refine hK.out _ _ (by exact ⟨a0, a1, a2, e0, e1, e2⟩) (fun hHeldp3 => ?_)
          clear hK K hHeldp2
          try simp only [Act.put]
          refine wpAnyH_ready (rs := [4]) (by kernel_rfl) (by simp) ?_
          refine AllReadyH.cons (o := _) rfl (fun K hK => ?_) (AllReadyH.nil)
          go_simp
          refine (show Calls _ _ _ _ (TellI 0 (ptI p1) _) from by have := aadd_any S (x := ptI a) (y := ptI b) (p := 600) hT h60 h61 h62 h63; rwa [KA.out] at this).mono ?_
          rintro en u_4 ⟨A10, n10, c10, A11, n11, c11, rfl, h10, h11, b⟩
          clear h60 h61 h62 h63
          replace BB := bnx BB b rfl rfl rfl rfl
          have G := mv b rfl (J10 hT h1 h2 a0 a1 a2 e0 e1 e2 p9)
          clear b hT h1 h2 a0 a1 a2 e0 e1 e2 p9
          obtain ⟨hT, h1, h2, a0, a1, a2, e0, e1, e2, p9⟩ := G
          refine hK.out _ _ (by exact ⟨a0, a1, a2, e0, e1, e2⟩) (fun hHeldp4 => ?_)
          clear hK K hHeldp3
          try simp only [Act.put]
          refine wpAnyH_take (i := 5) (v := ?p7v5) rfl (by kernel_rfl) (by kernel_rfl) (by kernel_rfl) (fun _ _ _ h => panic_put (P := Tryz.prog) (fn := Tryz.f6) (R := (fun en w' => ToldEnd w en w')) h) (Or.inl ⟨by rfl, ?p7y5⟩) (by assumption) ?_
          case p7y5 => (intro w hSw; (try dsimp only at hSw); go_simp); try with_reducible rfl
          change wpAnyH _ _ _ _ _ _ _ (Act.put _ (some 64) _) _
          simp only [Act.put, List.setIfInBounds_toArray, List.set_cons_zero, List.set_cons_succ]
          refine wpAnyH_take (i := 6) (v := ?p8v6) rfl (by kernel_rfl) (by kernel_rfl) (by kernel_rfl) (fun _ _ _ h => panic_put (P := Tryz.prog) (fn := Tryz.f6) (R := (fun en w' => ToldEnd w en w')) h) (Or.inl ⟨by rfl, ?p8y6⟩) (by assumption) ?_
          case p8y6 => (intro w hSw; (try dsimp only at hSw); go_simp); try with_reducible rfl
          change wpAnyH _ _ _ _ _ _ _ (Act.put _ (some 70) _) _
          simp only [Act.put, List.setIfInBounds_toArray, List.set_cons_zero, List.set_cons_succ]
          refine wpAnyH_take (i := 7) (v := ?p9v7) rfl (by kernel_rfl) (by kernel_rfl) (by kernel_rfl) (fun _ _ _ h => panic_put (P := Tryz.prog) (fn := Tryz.f6) (R := (fun en w' => ToldEnd w en w')) h) (Or.inl ⟨by rfl, ?p9y7⟩) (by assumption) ?_
          case p9y7 => (intro w hSw; (try dsimp only at hSw); go_simp); try with_reducible rfl
          change wpAnyH _ _ _ _ _ _ _ (Act.put _ (some 71) _) _
          simp only [Act.put, List.setIfInBounds_toArray, List.set_cons_zero, List.set_cons_succ]
          refine wpAnyH_ready (rs := [9]) (by kernel_rfl) (by simp) ?_
          refine AllReadyH.cons (o := _) rfl (fun K hK => ?_) (AllReadyH.nil)
          obtain ⟨f0_, f1_, f2_, f3_, f4_, f5_⟩ := p9.open
          obtain ⟨z0, z1, z2, z3, z4, z5⟩ := p9.held
          go_simp
          clear hT h1 h2
          replace a0 := cell_oth6 (g := g9) (u0 := .bool (ptI p1).lo.s) (u1 := .slice A10 n10 c10) (u2 := .int .i64 (ptI p1).lo.e) (u3 := .bool (ptI p1).hi.s) (u4 := .slice A11 n11 c11) (u5 := .int .i64 (ptI p1).hi.e) a0 (by omega)
          replace a1 := cell_oth6 (g := g9) (u0 := .bool (ptI p1).lo.s) (u1 := .slice A10 n10 c10) (u2 := .int .i64 (ptI p1).lo.e) (u3 := .bool (ptI p1).hi.s) (u4 := .slice A11 n11 c11) (u5 := .int .i64 (ptI p1).hi.e) a1 (by omega)
          replace a2 := cell_oth6 (g := g9) (u0 := .bool (ptI p1).lo.s) (u1 := .slice A10 n10 c10) (u2 := .int .i64 (ptI p1).lo.e) (u3 := .bool (ptI p1).hi.s) (u4 := .slice A11 n11 c11) (u5 := .int .i64 (ptI p1).hi.e) a2 (by omega)
          replace e0 := cell_oth6 (g := g9) (u0 := .bool (ptI p1).lo.s) (u1 := .slice A10 n10 c10) (u2 := .int .i64 (ptI p1).lo.e) (u3 := .bool (ptI p1).hi.s) (u4 := .slice A11 n11 c11) (u5 := .int .i64 (ptI p1).hi.e) e0 (by omega)
          replace e1 := cell_oth6 (g := g9) (u0 := .bool (ptI p1).lo.s) (u1 := .slice A10 n10 c10) (u2 := .int .i64 (ptI p1).lo.e) (u3 := .bool (ptI p1).hi.s) (u4 := .slice A11 n11 c11) (u5 := .int .i64 (ptI p1).hi.e) e1 (by omega)
          replace e2 := cell_oth6 (g := g9) (u0 := .bool (ptI p1).lo.s) (u1 := .slice A10 n10 c10) (u2 := .int .i64 (ptI p1).lo.e) (u3 := .bool (ptI p1).hi.s) (u4 := .slice A11 n11 c11) (u5 := .int .i64 (ptI p1).hi.e) e2 (by omega)
          replace h10 := h10.put6 p9 (.bool (ptI p1).lo.s) (.slice A10 n10 c10) (.int .i64 (ptI p1).lo.e) (.bool (ptI p1).hi.s) (.slice A11 n11 c11) (.int .i64 (ptI p1).hi.e)
          replace h11 := h11.put6 p9 (.bool (ptI p1).lo.s) (.slice A10 n10 c10) (.int .i64 (ptI p1).lo.e) (.bool (ptI p1).hi.s) (.slice A11 n11 c11) (.int .i64 (ptI p1).hi.e)
          replace BB := below_put6 (g := g9) BB gl9 (.bool (ptI p1).lo.s) (.slice A10 n10 c10) (.int .i64 (ptI p1).lo.e) (.bool (ptI p1).hi.s) (.slice A11 n11 c11) (.int .i64 (ptI p1).hi.e)
          replace p9 := p9.put (ptI p1).lo.s A10 n10 c10 (ptI p1).lo.e (ptI p1).hi.s A11 n11 c11 (ptI p1).hi.e
          clear f0_ f1_ f2_ f3_ f4_ f5_ z0 z1 z2 z3 z4 z5
          generalize (((((u_4.setCell ⟨g9, 0, none⟩ (.bool (ptI p1).lo.s)).setCell ⟨g9, 1, none⟩ (.slice A10 n10 c10)).setCell ⟨g9, 2, none⟩ (.int .i64 (ptI p1).lo.e)).setCell ⟨g9, 3, none⟩ (.bool (ptI p1).hi.s)).setCell ⟨g9, 4, none⟩ (.slice A11 n11 c11)).setCell ⟨g9, 5, none⟩ (.int .i64 (ptI p1).hi.e) = u_5 at *
          refine hK.out _ _ (by exact ⟨a0, a1, a2, e0, e1, e2⟩) (fun hHeldp5 => ?_)
          clear hK K hHeldp4
          try simp only [Act.put]
          refine wpAnyH_take (i := 10) (v := ?p10v10) rfl (by kernel_rfl) (by kernel_rfl) (by kernel_rfl) (fun _ _ _ h => panic_put (P := Tryz.prog) (fn := Tryz.f6) (R := (fun en w' => ToldEnd w en w')) h) (Or.inl ⟨by rfl, ?p10y10⟩) (by assumption) ?_
          case p10y10 => (intro w hSw; (try dsimp only at hSw); go_simp); try with_reducible rfl
          change wpAnyH _ _ _ _ _ _ _ (Act.put _ (some 6) _) _
          simp only [Act.put, List.setIfInBounds_toArray, List.set_cons_zero, List.set_cons_succ]
          refine wpAnyH_done (by kernel_rfl) ?_ _
          go_wp2_with fail
          go_meet
          case rel => exact ⟨g9, A10, n10, c10, A11, n11, c11, rfl, rfl, p9, h10, h11, BB⟩
      · go_simp
        have gl9 : W3_.heap.size ≤ u_1.heap.size := BB.size
        have gy9 : w.heap.size + 1 < u_1.heap.size := World.block_lt_of_cell? _ _ e0
        have p9 := Ibx.new u_1 false none 0 0 0 false none 0 0 0
        have b := below_alloc u_1 (.cells #[.bool false, .slice none 0 0, .int .i64 0, .bool false, .slice none 0 0, .int .i64 0] 26)
        replace BB := bnx BB b rfl rfl rfl rfl
        have G := mv b rfl (J11 hT h1 h2 a0 a1 a2 e0 e1 e2 h60 h61)
        clear b hT h1 h2 a0 a1 a2 e0 e1 e2 h60 h61
        obtain ⟨hT, h1, h2, a0, a1, a2, e0, e1, e2, h60, h61⟩ := G
        generalize u_1.alloc (.cells #[.bool false, .slice none 0 0, .int .i64 0, .bool false, .slice none 0 0, .int .i64 0] 26) = u_2 at *
        generalize u_1.heap.size = g9 at *
        refine hK.out _ _ (by exact ⟨a0, a1, a2, e0, e1, e2⟩) (fun hHeldp2 => ?_)
        clear hK K hHeldp1
        try simp only [Act.put]
        refine wpAnyH_ready (rs := [3]) (by kernel_rfl) (by simp) ?_
        refine AllReadyH.cons (o := _) rfl (fun K hK => ?_) (AllReadyH.nil)
        go_simp
        refine (show Calls _ _ _ _ (GivI (ptI b) _) from iof_any (a := b) h2 Z2.out).mono ?_
        rintro en u_3 ⟨A62, n62, c62, A63, n63, c63, rfl, h62, h63, b⟩
        replace BB := bnx BB b rfl rfl rfl rfl
        have G := mv b rfl (J12 hT h1 h2 a0 a1 a2 e0 e1 e2 h60 h61 p9)
        clear b hT h1 h2 a0 a1 a2 e0 e1 e2 h60 h61 p9
        obtain ⟨hT, h1, h2, a0, a1, a2, e0, e1, e2, h60, h61, p9⟩ := G
        refine hK.out _ _ (by exact ⟨a0, a1, a2, e0, e1, e2⟩) (fun hHeldp3 => ?_)
        clear hK K hHeldp2
        try simp only [Act.put]
        refine wpAnyH_ready (rs := [4]) (by kernel_rfl) (by simp) ?_
        refine AllReadyH.cons (o := _) rfl (fun K hK => ?_) (AllReadyH.nil)
        go_simp
        refine (show Calls _ _ _ _ (TellI 0 (ptI p1) _) from by have := aadd_any S (x := ptI a) (y := ptI b) (p := 600) hT h60 h61 h62 h63; rwa [KA.out] at this).mono ?_
        rintro en u_4 ⟨A10, n10, c10, A11, n11, c11, rfl, h10, h11, b⟩
        clear h60 h61 h62 h63
        replace BB := bnx BB b rfl rfl rfl rfl
        have G := mv b rfl (J10 hT h1 h2 a0 a1 a2 e0 e1 e2 p9)
        clear b hT h1 h2 a0 a1 a2 e0 e1 e2 p9
        obtain ⟨hT, h1, h2, a0, a1, a2, e0, e1, e2, p9⟩ := G
        refine hK.out _ _ (by exact ⟨a0, a1, a2, e0, e1, e2⟩) (fun hHeldp4 => ?_)
        clear hK K hHeldp3
        try simp only [Act.put]
        refine wpAnyH_take (i := 5) (v := ?p11v5) rfl (by kernel_rfl) (by kernel_rfl) (by kernel_rfl) (fun _ _ _ h => panic_put (P := Tryz.prog) (fn := Tryz.f6) (R := (fun en w' => ToldEnd w en w')) h) (Or.inl ⟨by rfl, ?p11y5⟩) (by assumption) ?_
        case p11y5 => (intro w hSw; (try dsimp only at hSw); go_simp); try with_reducible rfl
        change wpAnyH _ _ _ _ _ _ _ (Act.put _ (some 64) _) _
        simp only [Act.put, List.setIfInBounds_toArray, List.set_cons_zero, List.set_cons_succ]
        refine wpAnyH_take (i := 6) (v := ?p12v6) rfl (by kernel_rfl) (by kernel_rfl) (by kernel_rfl) (fun _ _ _ h => panic_put (P := Tryz.prog) (fn := Tryz.f6) (R := (fun en w' => ToldEnd w en w')) h) (Or.inl ⟨by rfl, ?p12y6⟩) (by assumption) ?_
        case p12y6 => (intro w hSw; (try dsimp only at hSw); go_simp); try with_reducible rfl
        change wpAnyH _ _ _ _ _ _ _ (Act.put _ (some 70) _) _
        simp only [Act.put, List.setIfInBounds_toArray, List.set_cons_zero, List.set_cons_succ]
        refine wpAnyH_take (i := 7) (v := ?p13v7) rfl (by kernel_rfl) (by kernel_rfl) (by kernel_rfl) (fun _ _ _ h => panic_put (P := Tryz.prog) (fn := Tryz.f6) (R := (fun en w' => ToldEnd w en w')) h) (Or.inl ⟨by rfl, ?p13y7⟩) (by assumption) ?_
        case p13y7 => (intro w hSw; (try dsimp only at hSw); go_simp); try with_reducible rfl
        change wpAnyH _ _ _ _ _ _ _ (Act.put _ (some 71) _) _
        simp only [Act.put, List.setIfInBounds_toArray, List.set_cons_zero, List.set_cons_succ]
        refine wpAnyH_ready (rs := [9]) (by kernel_rfl) (by simp) ?_
        refine AllReadyH.cons (o := _) rfl (fun K hK => ?_) (AllReadyH.nil)
        obtain ⟨f0_, f1_, f2_, f3_, f4_, f5_⟩ := p9.open
        obtain ⟨z0, z1, z2, z3, z4, z5⟩ := p9.held
        go_simp
        clear hT h1 h2
        replace a0 := cell_oth6 (g := g9) (u0 := .bool (ptI p1).lo.s) (u1 := .slice A10 n10 c10) (u2 := .int .i64 (ptI p1).lo.e) (u3 := .bool (ptI p1).hi.s) (u4 := .slice A11 n11 c11) (u5 := .int .i64 (ptI p1).hi.e) a0 (by omega)
        replace a1 := cell_oth6 (g := g9) (u0 := .bool (ptI p1).lo.s) (u1 := .slice A10 n10 c10) (u2 := .int .i64 (ptI p1).lo.e) (u3 := .bool (ptI p1).hi.s) (u4 := .slice A11 n11 c11) (u5 := .int .i64 (ptI p1).hi.e) a1 (by omega)
        replace a2 := cell_oth6 (g := g9) (u0 := .bool (ptI p1).lo.s) (u1 := .slice A10 n10 c10) (u2 := .int .i64 (ptI p1).lo.e) (u3 := .bool (ptI p1).hi.s) (u4 := .slice A11 n11 c11) (u5 := .int .i64 (ptI p1).hi.e) a2 (by omega)
        replace e0 := cell_oth6 (g := g9) (u0 := .bool (ptI p1).lo.s) (u1 := .slice A10 n10 c10) (u2 := .int .i64 (ptI p1).lo.e) (u3 := .bool (ptI p1).hi.s) (u4 := .slice A11 n11 c11) (u5 := .int .i64 (ptI p1).hi.e) e0 (by omega)
        replace e1 := cell_oth6 (g := g9) (u0 := .bool (ptI p1).lo.s) (u1 := .slice A10 n10 c10) (u2 := .int .i64 (ptI p1).lo.e) (u3 := .bool (ptI p1).hi.s) (u4 := .slice A11 n11 c11) (u5 := .int .i64 (ptI p1).hi.e) e1 (by omega)
        replace e2 := cell_oth6 (g := g9) (u0 := .bool (ptI p1).lo.s) (u1 := .slice A10 n10 c10) (u2 := .int .i64 (ptI p1).lo.e) (u3 := .bool (ptI p1).hi.s) (u4 := .slice A11 n11 c11) (u5 := .int .i64 (ptI p1).hi.e) e2 (by omega)
        replace h10 := h10.put6 p9 (.bool (ptI p1).lo.s) (.slice A10 n10 c10) (.int .i64 (ptI p1).lo.e) (.bool (ptI p1).hi.s) (.slice A11 n11 c11) (.int .i64 (ptI p1).hi.e)
        replace h11 := h11.put6 p9 (.bool (ptI p1).lo.s) (.slice A10 n10 c10) (.int .i64 (ptI p1).lo.e) (.bool (ptI p1).hi.s) (.slice A11 n11 c11) (.int .i64 (ptI p1).hi.e)
        replace BB := below_put6 (g := g9) BB gl9 (.bool (ptI p1).lo.s) (.slice A10 n10 c10) (.int .i64 (ptI p1).lo.e) (.bool (ptI p1).hi.s) (.slice A11 n11 c11) (.int .i64 (ptI p1).hi.e)
        replace p9 := p9.put (ptI p1).lo.s A10 n10 c10 (ptI p1).lo.e (ptI p1).hi.s A11 n11 c11 (ptI p1).hi.e
        clear f0_ f1_ f2_ f3_ f4_ f5_ z0 z1 z2 z3 z4 z5
        generalize (((((u_4.setCell ⟨g9, 0, none⟩ (.bool (ptI p1).lo.s)).setCell ⟨g9, 1, none⟩ (.slice A10 n10 c10)).setCell ⟨g9, 2, none⟩ (.int .i64 (ptI p1).lo.e)).setCell ⟨g9, 3, none⟩ (.bool (ptI p1).hi.s)).setCell ⟨g9, 4, none⟩ (.slice A11 n11 c11)).setCell ⟨g9, 5, none⟩ (.int .i64 (ptI p1).hi.e) = u_5 at *
        refine hK.out _ _ (by exact ⟨a0, a1, a2, e0, e1, e2⟩) (fun hHeldp5 => ?_)
        clear hK K hHeldp4
        try simp only [Act.put]
        refine wpAnyH_take (i := 10) (v := ?p14v10) rfl (by kernel_rfl) (by kernel_rfl) (by kernel_rfl) (fun _ _ _ h => panic_put (P := Tryz.prog) (fn := Tryz.f6) (R := (fun en w' => ToldEnd w en w')) h) (Or.inl ⟨by rfl, ?p14y10⟩) (by assumption) ?_
        case p14y10 => (intro w hSw; (try dsimp only at hSw); go_simp); try with_reducible rfl
        change wpAnyH _ _ _ _ _ _ _ (Act.put _ (some 6) _) _
        simp only [Act.put, List.setIfInBounds_toArray, List.set_cons_zero, List.set_cons_succ]
        refine wpAnyH_done (by kernel_rfl) ?_ _
        go_wp2_with fail
        go_meet
        case rel => exact ⟨g9, A10, n10, c10, A11, n11, c11, rfl, rfl, p9, h10, h11, BB⟩
    · go_simp
      have gl9 : W3_.heap.size ≤ wd.heap.size := BB.size
      have gy9 : w.heap.size + 1 < wd.heap.size := World.block_lt_of_cell? _ _ e0
      have p9 := Ibx.new wd false none 0 0 0 false none 0 0 0
      have b := below_alloc wd (.cells #[.bool false, .slice none 0 0, .int .i64 0, .bool false, .slice none 0 0, .int .i64 0] 26)
      replace BB := bnx BB b rfl rfl rfl rfl
      have G := mv b rfl (J9 hT h1 h2 a0 a1 a2 e0 e1 e2)
      clear b hT h1 h2 a0 a1 a2 e0 e1 e2
      obtain ⟨hT, h1, h2, a0, a1, a2, e0, e1, e2⟩ := G
      generalize wd.alloc (.cells #[.bool false, .slice none 0 0, .int .i64 0, .bool false, .slice none 0 0, .int .i64 0] 26) = u_1 at *
      generalize wd.heap.size = g9 at *
      refine hK.out _ _ (by exact ⟨a0, a1, a2, e0, e1, e2⟩) (fun hHeldp1 => ?_)
      clear hK K hHeldp0
      try simp only [Act.put]
      refine wpAnyH_ready (rs := [1]) (by kernel_rfl) (by simp) ?_
      refine AllReadyH.cons (o := _) rfl (fun K hK => ?_) (AllReadyH.nil)
      go_simp
      refine (show Calls _ _ _ _ (GivI (ptI a) _) from iof_any (a := a) h1 Z1.out).mono ?_
      rintro en u_2 ⟨A60, n60, c60, A61, n61, c61, rfl, h60, h61, b⟩
      replace BB := bnx BB b rfl rfl rfl rfl
      have G := mv b rfl (J10 hT h1 h2 a0 a1 a2 e0 e1 e2 p9)
      clear b hT h1 h2 a0 a1 a2 e0 e1 e2 p9
      obtain ⟨hT, h1, h2, a0, a1, a2, e0, e1, e2, p9⟩ := G
      refine hK.out _ _ (by exact ⟨a0, a1, a2, e0, e1, e2⟩) (fun hHeldp2 => ?_)
      clear hK K hHeldp1
      try simp only [Act.put]
      refine wpAnyH_ready (rs := [3]) (by kernel_rfl) (by simp) ?_
      refine AllReadyH.cons (o := _) rfl (fun K hK => ?_) (AllReadyH.nil)
      go_simp
      refine (show Calls _ _ _ _ (GivI (ptI b) _) from iof_any (a := b) h2 Z2.out).mono ?_
      rintro en u_3 ⟨A62, n62, c62, A63, n63, c63, rfl, h62, h63, b⟩
      replace BB := bnx BB b rfl rfl rfl rfl
      have G := mv b rfl (J12 hT h1 h2 a0 a1 a2 e0 e1 e2 p9 h60 h61)
      clear b hT h1 h2 a0 a1 a2 e0 e1 e2 p9 h60 h61
      obtain ⟨hT, h1, h2, a0, a1, a2, e0, e1, e2, p9, h60, h61⟩ := G
      refine hK.out _ _ (by exact ⟨a0, a1, a2, e0, e1, e2⟩) (fun hHeldp3 => ?_)
      clear hK K hHeldp2
      try simp only [Act.put]
      refine wpAnyH_ready (rs := [4]) (by kernel_rfl) (by simp) ?_
      refine AllReadyH.cons (o := _) rfl (fun K hK => ?_) (AllReadyH.nil)
      go_simp
      refine (show Calls _ _ _ _ (TellI 0 (ptI p1) _) from by have := aadd_any S (x := ptI a) (y := ptI b) (p := 600) hT h60 h61 h62 h63; rwa [KA.out] at this).mono ?_
      rintro en u_4 ⟨A10, n10, c10, A11, n11, c11, rfl, h10, h11, b⟩
      clear h60 h61 h62 h63
      replace BB := bnx BB b rfl rfl rfl rfl
      have G := mv b rfl (J10 hT h1 h2 a0 a1 a2 e0 e1 e2 p9)
      clear b hT h1 h2 a0 a1 a2 e0 e1 e2 p9
      obtain ⟨hT, h1, h2, a0, a1, a2, e0, e1, e2, p9⟩ := G
      refine hK.out _ _ (by exact ⟨a0, a1, a2, e0, e1, e2⟩) (fun hHeldp4 => ?_)
      clear hK K hHeldp3
      try simp only [Act.put]
      refine wpAnyH_take (i := 5) (v := ?p15v5) rfl (by kernel_rfl) (by kernel_rfl) (by kernel_rfl) (fun _ _ _ h => panic_put (P := Tryz.prog) (fn := Tryz.f6) (R := (fun en w' => ToldEnd w en w')) h) (Or.inl ⟨by rfl, ?p15y5⟩) (by assumption) ?_
      case p15y5 => (intro w hSw; (try dsimp only at hSw); go_simp); try with_reducible rfl
      change wpAnyH _ _ _ _ _ _ _ (Act.put _ (some 64) _) _
      simp only [Act.put, List.setIfInBounds_toArray, List.set_cons_zero, List.set_cons_succ]
      refine wpAnyH_take (i := 6) (v := ?p16v6) rfl (by kernel_rfl) (by kernel_rfl) (by kernel_rfl) (fun _ _ _ h => panic_put (P := Tryz.prog) (fn := Tryz.f6) (R := (fun en w' => ToldEnd w en w')) h) (Or.inl ⟨by rfl, ?p16y6⟩) (by assumption) ?_
      case p16y6 => (intro w hSw; (try dsimp only at hSw); go_simp); try with_reducible rfl
      change wpAnyH _ _ _ _ _ _ _ (Act.put _ (some 70) _) _
      simp only [Act.put, List.setIfInBounds_toArray, List.set_cons_zero, List.set_cons_succ]
      refine wpAnyH_take (i := 7) (v := ?p17v7) rfl (by kernel_rfl) (by kernel_rfl) (by kernel_rfl) (fun _ _ _ h => panic_put (P := Tryz.prog) (fn := Tryz.f6) (R := (fun en w' => ToldEnd w en w')) h) (Or.inl ⟨by rfl, ?p17y7⟩) (by assumption) ?_
      case p17y7 => (intro w hSw; (try dsimp only at hSw); go_simp); try with_reducible rfl
      change wpAnyH _ _ _ _ _ _ _ (Act.put _ (some 71) _) _
      simp only [Act.put, List.setIfInBounds_toArray, List.set_cons_zero, List.set_cons_succ]
      refine wpAnyH_ready (rs := [9]) (by kernel_rfl) (by simp) ?_
      refine AllReadyH.cons (o := _) rfl (fun K hK => ?_) (AllReadyH.nil)
      obtain ⟨f0_, f1_, f2_, f3_, f4_, f5_⟩ := p9.open
      obtain ⟨z0, z1, z2, z3, z4, z5⟩ := p9.held
      go_simp
      clear hT h1 h2
      replace a0 := cell_oth6 (g := g9) (u0 := .bool (ptI p1).lo.s) (u1 := .slice A10 n10 c10) (u2 := .int .i64 (ptI p1).lo.e) (u3 := .bool (ptI p1).hi.s) (u4 := .slice A11 n11 c11) (u5 := .int .i64 (ptI p1).hi.e) a0 (by omega)
      replace a1 := cell_oth6 (g := g9) (u0 := .bool (ptI p1).lo.s) (u1 := .slice A10 n10 c10) (u2 := .int .i64 (ptI p1).lo.e) (u3 := .bool (ptI p1).hi.s) (u4 := .slice A11 n11 c11) (u5 := .int .i64 (ptI p1).hi.e) a1 (by omega)
      replace a2 := cell_oth6 (g := g9) (u0 := .bool (ptI p1).lo.s) (u1 := .slice A10 n10 c10) (u2 := .int .i64 (ptI p1).lo.e) (u3 := .bool (ptI p1).hi.s) (u4 := .slice A11 n11 c11) (u5 := .int .i64 (ptI p1).hi.e) a2 (by omega)
      replace e0 := cell_oth6 (g := g9) (u0 := .bool (ptI p1).lo.s) (u1 := .slice A10 n10 c10) (u2 := .int .i64 (ptI p1).lo.e) (u3 := .bool (ptI p1).hi.s) (u4 := .slice A11 n11 c11) (u5 := .int .i64 (ptI p1).hi.e) e0 (by omega)
      replace e1 := cell_oth6 (g := g9) (u0 := .bool (ptI p1).lo.s) (u1 := .slice A10 n10 c10) (u2 := .int .i64 (ptI p1).lo.e) (u3 := .bool (ptI p1).hi.s) (u4 := .slice A11 n11 c11) (u5 := .int .i64 (ptI p1).hi.e) e1 (by omega)
      replace e2 := cell_oth6 (g := g9) (u0 := .bool (ptI p1).lo.s) (u1 := .slice A10 n10 c10) (u2 := .int .i64 (ptI p1).lo.e) (u3 := .bool (ptI p1).hi.s) (u4 := .slice A11 n11 c11) (u5 := .int .i64 (ptI p1).hi.e) e2 (by omega)
      replace h10 := h10.put6 p9 (.bool (ptI p1).lo.s) (.slice A10 n10 c10) (.int .i64 (ptI p1).lo.e) (.bool (ptI p1).hi.s) (.slice A11 n11 c11) (.int .i64 (ptI p1).hi.e)
      replace h11 := h11.put6 p9 (.bool (ptI p1).lo.s) (.slice A10 n10 c10) (.int .i64 (ptI p1).lo.e) (.bool (ptI p1).hi.s) (.slice A11 n11 c11) (.int .i64 (ptI p1).hi.e)
      replace BB := below_put6 (g := g9) BB gl9 (.bool (ptI p1).lo.s) (.slice A10 n10 c10) (.int .i64 (ptI p1).lo.e) (.bool (ptI p1).hi.s) (.slice A11 n11 c11) (.int .i64 (ptI p1).hi.e)
      replace p9 := p9.put (ptI p1).lo.s A10 n10 c10 (ptI p1).lo.e (ptI p1).hi.s A11 n11 c11 (ptI p1).hi.e
      clear f0_ f1_ f2_ f3_ f4_ f5_ z0 z1 z2 z3 z4 z5
      generalize (((((u_4.setCell ⟨g9, 0, none⟩ (.bool (ptI p1).lo.s)).setCell ⟨g9, 1, none⟩ (.slice A10 n10 c10)).setCell ⟨g9, 2, none⟩ (.int .i64 (ptI p1).lo.e)).setCell ⟨g9, 3, none⟩ (.bool (ptI p1).hi.s)).setCell ⟨g9, 4, none⟩ (.slice A11 n11 c11)).setCell ⟨g9, 5, none⟩ (.int .i64 (ptI p1).hi.e) = u_5 at *
      refine hK.out _ _ (by exact ⟨a0, a1, a2, e0, e1, e2⟩) (fun hHeldp5 => ?_)
      clear hK K hHeldp4
      try simp only [Act.put]
      refine wpAnyH_take (i := 10) (v := ?p18v10) rfl (by kernel_rfl) (by kernel_rfl) (by kernel_rfl) (fun _ _ _ h => panic_put (P := Tryz.prog) (fn := Tryz.f6) (R := (fun en w' => ToldEnd w en w')) h) (Or.inl ⟨by rfl, ?p18y10⟩) (by assumption) ?_
      case p18y10 => (intro w hSw; (try dsimp only at hSw); go_simp); try with_reducible rfl
      change wpAnyH _ _ _ _ _ _ _ (Act.put _ (some 6) _) _
      simp only [Act.put, List.setIfInBounds_toArray, List.set_cons_zero, List.set_cons_succ]
      refine wpAnyH_done (by kernel_rfl) ?_ _
      go_wp2_with fail
      go_meet
      case rel => exact ⟨g9, A10, n10, c10, A11, n11, c11, rfl, rfl, p9, h10, h11, BB⟩
  case rest => as_aux_lemma =>
    obtain ⟨g3_, A10, n10, c10, A11, n11, c11, rfl, rfl, X3, h10, h11, b⟩ := hcut
    replace BB := bnx BB b rfl rfl rfl rfl
    have G := mv b rfl (J9 a0 a1 a2 e0 e1 e2 hT h1 h2)
    clear b a0 a1 a2 e0 e1 e2 hT h1 h2
    obtain ⟨a0, a1, a2, e0, e1, e2, hT, h1, h2⟩ := G
    generalize wc = V3_ at *
    go_upto_region 4 with fail
    generalize V3_ = W4_ at *
    go_cut [7, 8] (fun v5 v6 wx => ∃ (g : Nat) (A : Option Addr) (n c : Nat) (B : Option Addr) (m d : Nat), v5 = .pointer (some ⟨g, 0, none⟩) ∧ v6 = .int .i64 0 ∧ Ibx wx g (ptI p2).lo.s A n c (ptI p2).lo.e (ptI p2).hi.s B m d (ptI p2).hi.e ∧ Rd wx .u64 Go.Proofs.YtcbkhmejlaaieaaGreatDoor.W A n c (ptI p2).lo.l ∧ Rd wx .u64 Go.Proofs.YtcbkhmejlaaieaaGreatDoor.W B m d (ptI p2).hi.l ∧ Below W4_.heap.size W4_ wx)
    case first => as_aux_lemma =>
      have B1 := Below.refl W4_.heap.size W4_
      clear BB
      have BB := B1
      clear B1
      have b : Below W4_.heap.size W4_ (World.drew W4_) := below_drewN (Below.refl _ _) 1
      replace BB := bnx BB b rfl rfl rfl rfl
      have G := mv b rfl (J9 hT h1 h2 a0 a1 a2 e0 e1 e2)
      clear b hT h1 h2 a0 a1 a2 e0 e1 e2
      obtain ⟨hT, h1, h2, a0, a1, a2, e0, e1, e2⟩ := G
      refine wp_region_held_drew (S := fun w' => w'.cell? ⟨w.heap.size, 0, none⟩ = some (.bool a.s) ∧ w'.cell? ⟨w.heap.size, 1, none⟩ = some (.slice A1 n1 c1) ∧ w'.cell? ⟨w.heap.size, 2, none⟩ = some (.int .i64 a.e) ∧ w'.cell? ⟨w.heap.size + 1, 0, none⟩ = some (.bool b.s) ∧ w'.cell? ⟨w.heap.size + 1, 1, none⟩ = some (.slice A2 n2 c2) ∧ w'.cell? ⟨w.heap.size + 1, 2, none⟩ = some (.int .i64 b.e)) (by kernel_rfl) (by exact ⟨a0, a1, a2, e0, e1, e2⟩) (fun hHeldk0 => ?_)
      generalize World.drew W4_ = wd at *
      refine wpAnyH_take (i := 0) (v := ?k19v0) rfl (by kernel_rfl) (by kernel_rfl) (by kernel_rfl) (fun _ _ _ h => panic_put (P := Tryz.prog) (fn := Tryz.f6) (R := (fun en w' => ToldEnd w en w')) h) (Or.inl ⟨by rfl, ?k19y0⟩) (by assumption) ?_
      case k19y0 => (intro w hSw; (try dsimp only at hSw); go_simp); try with_reducible rfl
      change wpAnyH _ _ _ _ _ _ _ (Act.put _ (some 73) _) _
      simp only [Act.put, List.setIfInBounds_toArray, List.set_cons_zero, List.set_cons_succ]
      refine wpAnyH_take (i := 2) (v := ?k20v2) rfl (by kernel_rfl) (by kernel_rfl) (by kernel_rfl) (fun _ _ _ h => panic_put (P := Tryz.prog) (fn := Tryz.f6) (R := (fun en w' => ToldEnd w en w')) h) (Or.inl ⟨by rfl, ?k20y2⟩) (by assumption) ?_
      case k20y2 => (intro w hSw; (try dsimp only at hSw); go_simp); try with_reducible rfl
      change wpAnyH _ _ _ _ _ _ _ (Act.put _ (some 75) _) _
      simp only [Act.put, List.setIfInBounds_toArray, List.set_cons_zero, List.set_cons_succ]
      refine wpAnyH_ready (rs := [1, 8]) (by kernel_rfl) (by simp) ?_
      refine AllReadyH.cons (o := _) rfl (fun K hK => ?_) (AllReadyH.cons (o := _) rfl (fun K hK => ?_) (AllReadyH.nil))
      · go_simp
        refine (show Calls _ _ _ _ (GivI (ptI a) _) from iof_any (a := a) h1 Z1.out).mono ?_
        rintro en u_1 ⟨A60, n60, c60, A61, n61, c61, rfl, h60, h61, b⟩
        replace BB := bnx BB b rfl rfl rfl rfl
        have G := mv b rfl (J9 hT h1 h2 a0 a1 a2 e0 e1 e2)
        clear b hT h1 h2 a0 a1 a2 e0 e1 e2
        obtain ⟨hT, h1, h2, a0, a1, a2, e0, e1, e2⟩ := G
        refine hK.out _ _ (by exact ⟨a0, a1, a2, e0, e1, e2⟩) (fun hHeldk1 => ?_)
        clear hK K hHeldk0
        try simp only [Act.put]
        refine wpAnyH_ready (rs := [3, 8]) (by kernel_rfl) (by simp) ?_
        refine AllReadyH.cons (o := _) rfl (fun K hK => ?_) (AllReadyH.cons (o := _) rfl (fun K hK => ?_) (AllReadyH.nil))
        · go_simp
          refine (show Calls _ _ _ _ (GivI (ptI b) _) from iof_any (a := b) h2 Z2.out).mono ?_
          rintro en u_2 ⟨A62, n62, c62, A63, n63, c63, rfl, h62, h63, b⟩
          replace BB := bnx BB b rfl rfl rfl rfl
          have G := mv b rfl (J11 hT h1 h2 a0 a1 a2 e0 e1 e2 h60 h61)
          clear b hT h1 h2 a0 a1 a2 e0 e1 e2 h60 h61
          obtain ⟨hT, h1, h2, a0, a1, a2, e0, e1, e2, h60, h61⟩ := G
          refine hK.out _ _ (by exact ⟨a0, a1, a2, e0, e1, e2⟩) (fun hHeldk2 => ?_)
          clear hK K hHeldk1
          try simp only [Act.put]
          refine wpAnyH_ready (rs := [4, 8]) (by kernel_rfl) (by simp) ?_
          refine AllReadyH.cons (o := _) rfl (fun K hK => ?_) (AllReadyH.cons (o := _) rfl (fun K hK => ?_) (AllReadyH.nil))
          · go_simp
            refine (show Calls _ _ _ _ (TellI 0 (ptI p2) _) from by have := asub_any S (x := ptI a) (y := ptI b) (p := 600) hT h60 h61 h62 h63; rwa [KS.out] at this).mono ?_
            rintro en u_3 ⟨A12, n12, c12, A13, n13, c13, rfl, h12, h13, b⟩
            clear h60 h61 h62 h63
            replace BB := bnx BB b rfl rfl rfl rfl
            have G := mv b rfl (J9 hT h1 h2 a0 a1 a2 e0 e1 e2)
            clear b hT h1 h2 a0 a1 a2 e0 e1 e2
            obtain ⟨hT, h1, h2, a0, a1, a2, e0, e1, e2⟩ := G
            refine hK.out _ _ (by exact ⟨a0, a1, a2, e0, e1, e2⟩) (fun hHeldk3 => ?_)
            clear hK K hHeldk2
            try simp only [Act.put]
            refine wpAnyH_take (i := 5) (v := ?k21v5) rfl (by kernel_rfl) (by kernel_rfl) (by kernel_rfl) (fun _ _ _ h => panic_put (P := Tryz.prog) (fn := Tryz.f6) (R := (fun en w' => ToldEnd w en w')) h) (Or.inl ⟨by rfl, ?k21y5⟩) (by assumption) ?_
            case k21y5 => (intro w hSw; (try dsimp only at hSw); go_simp); try with_reducible rfl
            change wpAnyH _ _ _ _ _ _ _ (Act.put _ (some 72) _) _
            simp only [Act.put, List.setIfInBounds_toArray, List.set_cons_zero, List.set_cons_succ]
            refine wpAnyH_take (i := 6) (v := ?k22v6) rfl (by kernel_rfl) (by kernel_rfl) (by kernel_rfl) (fun _ _ _ h => panic_put (P := Tryz.prog) (fn := Tryz.f6) (R := (fun en w' => ToldEnd w en w')) h) (Or.inl ⟨by rfl, ?k22y6⟩) (by assumption) ?_
            case k22y6 => (intro w hSw; (try dsimp only at hSw); go_simp); try with_reducible rfl
            change wpAnyH _ _ _ _ _ _ _ (Act.put _ (some 78) _) _
            simp only [Act.put, List.setIfInBounds_toArray, List.set_cons_zero, List.set_cons_succ]
            refine wpAnyH_take (i := 7) (v := ?k23v7) rfl (by kernel_rfl) (by kernel_rfl) (by kernel_rfl) (fun _ _ _ h => panic_put (P := Tryz.prog) (fn := Tryz.f6) (R := (fun en w' => ToldEnd w en w')) h) (Or.inl ⟨by rfl, ?k23y7⟩) (by assumption) ?_
            case k23y7 => (intro w hSw; (try dsimp only at hSw); go_simp); try with_reducible rfl
            change wpAnyH _ _ _ _ _ _ _ (Act.put _ (some 79) _) _
            simp only [Act.put, List.setIfInBounds_toArray, List.set_cons_zero, List.set_cons_succ]
            refine wpAnyH_ready (rs := [8]) (by kernel_rfl) (by simp) ?_
            refine AllReadyH.cons (o := _) rfl (fun K hK => ?_) (AllReadyH.nil)
            go_simp
            have gl9 : W4_.heap.size ≤ u_3.heap.size := BB.size
            have gy9 : w.heap.size + 1 < u_3.heap.size := World.block_lt_of_cell? _ _ e0
            have p9 := Ibx.new u_3 false none 0 0 0 false none 0 0 0
            have b := below_alloc u_3 (.cells #[.bool false, .slice none 0 0, .int .i64 0, .bool false, .slice none 0 0, .int .i64 0] 26)
            replace BB := bnx BB b rfl rfl rfl rfl
            have G := mv b rfl (J11 hT h1 h2 a0 a1 a2 e0 e1 e2 h12 h13)
            clear b hT h1 h2 a0 a1 a2 e0 e1 e2 h12 h13
            obtain ⟨hT, h1, h2, a0, a1, a2, e0, e1, e2, h12, h13⟩ := G
            generalize u_3.alloc (.cells #[.bool false, .slice none 0 0, .int .i64 0, .bool false, .slice none 0 0, .int .i64 0] 26) = u_4 at *
            generalize u_3.heap.size = g9 at *
            refine hK.out _ _ (by exact ⟨a0, a1, a2, e0, e1, e2⟩) (fun hHeldk4 => ?_)
            clear hK K hHeldk3
            try simp only [Act.put]
            refine wpAnyH_ready (rs := [9]) (by kernel_rfl) (by simp) ?_
            refine AllReadyH.cons (o := _) rfl (fun K hK => ?_) (AllReadyH.nil)
            obtain ⟨f0_, f1_, f2_, f3_, f4_, f5_⟩ := p9.open
            obtain ⟨z0, z1, z2, z3, z4, z5⟩ := p9.held
            go_simp
            clear hT h1 h2
            replace a0 := cell_oth6 (g := g9) (u0 := .bool (ptI p2).lo.s) (u1 := .slice A12 n12 c12) (u2 := .int .i64 (ptI p2).lo.e) (u3 := .bool (ptI p2).hi.s) (u4 := .slice A13 n13 c13) (u5 := .int .i64 (ptI p2).hi.e) a0 (by omega)
            replace a1 := cell_oth6 (g := g9) (u0 := .bool (ptI p2).lo.s) (u1 := .slice A12 n12 c12) (u2 := .int .i64 (ptI p2).lo.e) (u3 := .bool (ptI p2).hi.s) (u4 := .slice A13 n13 c13) (u5 := .int .i64 (ptI p2).hi.e) a1 (by omega)
            replace a2 := cell_oth6 (g := g9) (u0 := .bool (ptI p2).lo.s) (u1 := .slice A12 n12 c12) (u2 := .int .i64 (ptI p2).lo.e) (u3 := .bool (ptI p2).hi.s) (u4 := .slice A13 n13 c13) (u5 := .int .i64 (ptI p2).hi.e) a2 (by omega)
            replace e0 := cell_oth6 (g := g9) (u0 := .bool (ptI p2).lo.s) (u1 := .slice A12 n12 c12) (u2 := .int .i64 (ptI p2).lo.e) (u3 := .bool (ptI p2).hi.s) (u4 := .slice A13 n13 c13) (u5 := .int .i64 (ptI p2).hi.e) e0 (by omega)
            replace e1 := cell_oth6 (g := g9) (u0 := .bool (ptI p2).lo.s) (u1 := .slice A12 n12 c12) (u2 := .int .i64 (ptI p2).lo.e) (u3 := .bool (ptI p2).hi.s) (u4 := .slice A13 n13 c13) (u5 := .int .i64 (ptI p2).hi.e) e1 (by omega)
            replace e2 := cell_oth6 (g := g9) (u0 := .bool (ptI p2).lo.s) (u1 := .slice A12 n12 c12) (u2 := .int .i64 (ptI p2).lo.e) (u3 := .bool (ptI p2).hi.s) (u4 := .slice A13 n13 c13) (u5 := .int .i64 (ptI p2).hi.e) e2 (by omega)
            replace h12 := h12.put6 p9 (.bool (ptI p2).lo.s) (.slice A12 n12 c12) (.int .i64 (ptI p2).lo.e) (.bool (ptI p2).hi.s) (.slice A13 n13 c13) (.int .i64 (ptI p2).hi.e)
            replace h13 := h13.put6 p9 (.bool (ptI p2).lo.s) (.slice A12 n12 c12) (.int .i64 (ptI p2).lo.e) (.bool (ptI p2).hi.s) (.slice A13 n13 c13) (.int .i64 (ptI p2).hi.e)
            replace BB := below_put6 (g := g9) BB gl9 (.bool (ptI p2).lo.s) (.slice A12 n12 c12) (.int .i64 (ptI p2).lo.e) (.bool (ptI p2).hi.s) (.slice A13 n13 c13) (.int .i64 (ptI p2).hi.e)
            replace p9 := p9.put (ptI p2).lo.s A12 n12 c12 (ptI p2).lo.e (ptI p2).hi.s A13 n13 c13 (ptI p2).hi.e
            clear f0_ f1_ f2_ f3_ f4_ f5_ z0 z1 z2 z3 z4 z5
            generalize (((((u_4.setCell ⟨g9, 0, none⟩ (.bool (ptI p2).lo.s)).setCell ⟨g9, 1, none⟩ (.slice A12 n12 c12)).setCell ⟨g9, 2, none⟩ (.int .i64 (ptI p2).lo.e)).setCell ⟨g9, 3, none⟩ (.bool (ptI p2).hi.s)).setCell ⟨g9, 4, none⟩ (.slice A13 n13 c13)).setCell ⟨g9, 5, none⟩ (.int .i64 (ptI p2).hi.e) = u_5 at *
            refine hK.out _ _ (by exact ⟨a0, a1, a2, e0, e1, e2⟩) (fun hHeldk5 => ?_)
            clear hK K hHeldk4
            try simp only [Act.put]
            refine wpAnyH_take (i := 10) (v := ?k24v10) rfl (by kernel_rfl) (by kernel_rfl) (by kernel_rfl) (fun _ _ _ h => panic_put (P := Tryz.prog) (fn := Tryz.f6) (R := (fun en w' => ToldEnd w en w')) h) (Or.inl ⟨by rfl, ?k24y10⟩) (by assumption) ?_
            case k24y10 => (intro w hSw; (try dsimp only at hSw); go_simp); try with_reducible rfl
            change wpAnyH _ _ _ _ _ _ _ (Act.put _ (some 8) _) _
            simp only [Act.put, List.setIfInBounds_toArray, List.set_cons_zero, List.set_cons_succ]
            refine wpAnyH_done (by kernel_rfl) ?_ _
            go_wp2_with fail
            go_meet
            case rel => exact ⟨g9, A12, n12, c12, A13, n13, c13, rfl, rfl, p9, h12, h13, BB⟩
          · go_simp
            have gl9 : W4_.heap.size ≤ u_2.heap.size := BB.size
            have gy9 : w.heap.size + 1 < u_2.heap.size := World.block_lt_of_cell? _ _ e0
            have p9 := Ibx.new u_2 false none 0 0 0 false none 0 0 0
            have b := below_alloc u_2 (.cells #[.bool false, .slice none 0 0, .int .i64 0, .bool false, .slice none 0 0, .int .i64 0] 26)
            replace BB := bnx BB b rfl rfl rfl rfl
            have G := mv b rfl (J13 hT h1 h2 a0 a1 a2 e0 e1 e2 h60 h61 h62 h63)
            clear b hT h1 h2 a0 a1 a2 e0 e1 e2 h60 h61 h62 h63
            obtain ⟨hT, h1, h2, a0, a1, a2, e0, e1, e2, h60, h61, h62, h63⟩ := G
            generalize u_2.alloc (.cells #[.bool false, .slice none 0 0, .int .i64 0, .bool false, .slice none 0 0, .int .i64 0] 26) = u_3 at *
            generalize u_2.heap.size = g9 at *
            refine hK.out _ _ (by exact ⟨a0, a1, a2, e0, e1, e2⟩) (fun hHeldk3 => ?_)
            clear hK K hHeldk2
            try simp only [Act.put]
            refine wpAnyH_ready (rs := [4]) (by kernel_rfl) (by simp) ?_
            refine AllReadyH.cons (o := _) rfl (fun K hK => ?_) (AllReadyH.nil)
            go_simp
            refine (show Calls _ _ _ _ (TellI 0 (ptI p2) _) from by have := asub_any S (x := ptI a) (y := ptI b) (p := 600) hT h60 h61 h62 h63; rwa [KS.out] at this).mono ?_
            rintro en u_4 ⟨A12, n12, c12, A13, n13, c13, rfl, h12, h13, b⟩
            clear h60 h61 h62 h63
            replace BB := bnx BB b rfl rfl rfl rfl
            have G := mv b rfl (J10 hT h1 h2 a0 a1 a2 e0 e1 e2 p9)
            clear b hT h1 h2 a0 a1 a2 e0 e1 e2 p9
            obtain ⟨hT, h1, h2, a0, a1, a2, e0, e1, e2, p9⟩ := G
            refine hK.out _ _ (by exact ⟨a0, a1, a2, e0, e1, e2⟩) (fun hHeldk4 => ?_)
            clear hK K hHeldk3
            try simp only [Act.put]
            refine wpAnyH_take (i := 5) (v := ?k25v5) rfl (by kernel_rfl) (by kernel_rfl) (by kernel_rfl) (fun _ _ _ h => panic_put (P := Tryz.prog) (fn := Tryz.f6) (R := (fun en w' => ToldEnd w en w')) h) (Or.inl ⟨by rfl, ?k25y5⟩) (by assumption) ?_
            case k25y5 => (intro w hSw; (try dsimp only at hSw); go_simp); try with_reducible rfl
            change wpAnyH _ _ _ _ _ _ _ (Act.put _ (some 72) _) _
            simp only [Act.put, List.setIfInBounds_toArray, List.set_cons_zero, List.set_cons_succ]
            refine wpAnyH_take (i := 6) (v := ?k26v6) rfl (by kernel_rfl) (by kernel_rfl) (by kernel_rfl) (fun _ _ _ h => panic_put (P := Tryz.prog) (fn := Tryz.f6) (R := (fun en w' => ToldEnd w en w')) h) (Or.inl ⟨by rfl, ?k26y6⟩) (by assumption) ?_
            case k26y6 => (intro w hSw; (try dsimp only at hSw); go_simp); try with_reducible rfl
            change wpAnyH _ _ _ _ _ _ _ (Act.put _ (some 78) _) _
            simp only [Act.put, List.setIfInBounds_toArray, List.set_cons_zero, List.set_cons_succ]
            refine wpAnyH_take (i := 7) (v := ?k27v7) rfl (by kernel_rfl) (by kernel_rfl) (by kernel_rfl) (fun _ _ _ h => panic_put (P := Tryz.prog) (fn := Tryz.f6) (R := (fun en w' => ToldEnd w en w')) h) (Or.inl ⟨by rfl, ?k27y7⟩) (by assumption) ?_
            case k27y7 => (intro w hSw; (try dsimp only at hSw); go_simp); try with_reducible rfl
            change wpAnyH _ _ _ _ _ _ _ (Act.put _ (some 79) _) _
            simp only [Act.put, List.setIfInBounds_toArray, List.set_cons_zero, List.set_cons_succ]
            refine wpAnyH_ready (rs := [9]) (by kernel_rfl) (by simp) ?_
            refine AllReadyH.cons (o := _) rfl (fun K hK => ?_) (AllReadyH.nil)
            obtain ⟨f0_, f1_, f2_, f3_, f4_, f5_⟩ := p9.open
            obtain ⟨z0, z1, z2, z3, z4, z5⟩ := p9.held
            go_simp
            clear hT h1 h2
            replace a0 := cell_oth6 (g := g9) (u0 := .bool (ptI p2).lo.s) (u1 := .slice A12 n12 c12) (u2 := .int .i64 (ptI p2).lo.e) (u3 := .bool (ptI p2).hi.s) (u4 := .slice A13 n13 c13) (u5 := .int .i64 (ptI p2).hi.e) a0 (by omega)
            replace a1 := cell_oth6 (g := g9) (u0 := .bool (ptI p2).lo.s) (u1 := .slice A12 n12 c12) (u2 := .int .i64 (ptI p2).lo.e) (u3 := .bool (ptI p2).hi.s) (u4 := .slice A13 n13 c13) (u5 := .int .i64 (ptI p2).hi.e) a1 (by omega)
            replace a2 := cell_oth6 (g := g9) (u0 := .bool (ptI p2).lo.s) (u1 := .slice A12 n12 c12) (u2 := .int .i64 (ptI p2).lo.e) (u3 := .bool (ptI p2).hi.s) (u4 := .slice A13 n13 c13) (u5 := .int .i64 (ptI p2).hi.e) a2 (by omega)
            replace e0 := cell_oth6 (g := g9) (u0 := .bool (ptI p2).lo.s) (u1 := .slice A12 n12 c12) (u2 := .int .i64 (ptI p2).lo.e) (u3 := .bool (ptI p2).hi.s) (u4 := .slice A13 n13 c13) (u5 := .int .i64 (ptI p2).hi.e) e0 (by omega)
            replace e1 := cell_oth6 (g := g9) (u0 := .bool (ptI p2).lo.s) (u1 := .slice A12 n12 c12) (u2 := .int .i64 (ptI p2).lo.e) (u3 := .bool (ptI p2).hi.s) (u4 := .slice A13 n13 c13) (u5 := .int .i64 (ptI p2).hi.e) e1 (by omega)
            replace e2 := cell_oth6 (g := g9) (u0 := .bool (ptI p2).lo.s) (u1 := .slice A12 n12 c12) (u2 := .int .i64 (ptI p2).lo.e) (u3 := .bool (ptI p2).hi.s) (u4 := .slice A13 n13 c13) (u5 := .int .i64 (ptI p2).hi.e) e2 (by omega)
            replace h12 := h12.put6 p9 (.bool (ptI p2).lo.s) (.slice A12 n12 c12) (.int .i64 (ptI p2).lo.e) (.bool (ptI p2).hi.s) (.slice A13 n13 c13) (.int .i64 (ptI p2).hi.e)
            replace h13 := h13.put6 p9 (.bool (ptI p2).lo.s) (.slice A12 n12 c12) (.int .i64 (ptI p2).lo.e) (.bool (ptI p2).hi.s) (.slice A13 n13 c13) (.int .i64 (ptI p2).hi.e)
            replace BB := below_put6 (g := g9) BB gl9 (.bool (ptI p2).lo.s) (.slice A12 n12 c12) (.int .i64 (ptI p2).lo.e) (.bool (ptI p2).hi.s) (.slice A13 n13 c13) (.int .i64 (ptI p2).hi.e)
            replace p9 := p9.put (ptI p2).lo.s A12 n12 c12 (ptI p2).lo.e (ptI p2).hi.s A13 n13 c13 (ptI p2).hi.e
            clear f0_ f1_ f2_ f3_ f4_ f5_ z0 z1 z2 z3 z4 z5
            generalize (((((u_4.setCell ⟨g9, 0, none⟩ (.bool (ptI p2).lo.s)).setCell ⟨g9, 1, none⟩ (.slice A12 n12 c12)).setCell ⟨g9, 2, none⟩ (.int .i64 (ptI p2).lo.e)).setCell ⟨g9, 3, none⟩ (.bool (ptI p2).hi.s)).setCell ⟨g9, 4, none⟩ (.slice A13 n13 c13)).setCell ⟨g9, 5, none⟩ (.int .i64 (ptI p2).hi.e) = u_5 at *
            refine hK.out _ _ (by exact ⟨a0, a1, a2, e0, e1, e2⟩) (fun hHeldk5 => ?_)
            clear hK K hHeldk4
            try simp only [Act.put]
            refine wpAnyH_take (i := 10) (v := ?k28v10) rfl (by kernel_rfl) (by kernel_rfl) (by kernel_rfl) (fun _ _ _ h => panic_put (P := Tryz.prog) (fn := Tryz.f6) (R := (fun en w' => ToldEnd w en w')) h) (Or.inl ⟨by rfl, ?k28y10⟩) (by assumption) ?_
            case k28y10 => (intro w hSw; (try dsimp only at hSw); go_simp); try with_reducible rfl
            change wpAnyH _ _ _ _ _ _ _ (Act.put _ (some 8) _) _
            simp only [Act.put, List.setIfInBounds_toArray, List.set_cons_zero, List.set_cons_succ]
            refine wpAnyH_done (by kernel_rfl) ?_ _
            go_wp2_with fail
            go_meet
            case rel => exact ⟨g9, A12, n12, c12, A13, n13, c13, rfl, rfl, p9, h12, h13, BB⟩
        · go_simp
          have gl9 : W4_.heap.size ≤ u_1.heap.size := BB.size
          have gy9 : w.heap.size + 1 < u_1.heap.size := World.block_lt_of_cell? _ _ e0
          have p9 := Ibx.new u_1 false none 0 0 0 false none 0 0 0
          have b := below_alloc u_1 (.cells #[.bool false, .slice none 0 0, .int .i64 0, .bool false, .slice none 0 0, .int .i64 0] 26)
          replace BB := bnx BB b rfl rfl rfl rfl
          have G := mv b rfl (J11 hT h1 h2 a0 a1 a2 e0 e1 e2 h60 h61)
          clear b hT h1 h2 a0 a1 a2 e0 e1 e2 h60 h61
          obtain ⟨hT, h1, h2, a0, a1, a2, e0, e1, e2, h60, h61⟩ := G
          generalize u_1.alloc (.cells #[.bool false, .slice none 0 0, .int .i64 0, .bool false, .slice none 0 0, .int .i64 0] 26) = u_2 at *
          generalize u_1.heap.size = g9 at *
          refine hK.out _ _ (by exact ⟨a0, a1, a2, e0, e1, e2⟩) (fun hHeldk2 => ?_)
          clear hK K hHeldk1
          try simp only [Act.put]
          refine wpAnyH_ready (rs := [3]) (by kernel_rfl) (by simp) ?_
          refine AllReadyH.cons (o := _) rfl (fun K hK => ?_) (AllReadyH.nil)
          go_simp
          refine (show Calls _ _ _ _ (GivI (ptI b) _) from iof_any (a := b) h2 Z2.out).mono ?_
          rintro en u_3 ⟨A62, n62, c62, A63, n63, c63, rfl, h62, h63, b⟩
          replace BB := bnx BB b rfl rfl rfl rfl
          have G := mv b rfl (J12 hT h1 h2 a0 a1 a2 e0 e1 e2 h60 h61 p9)
          clear b hT h1 h2 a0 a1 a2 e0 e1 e2 h60 h61 p9
          obtain ⟨hT, h1, h2, a0, a1, a2, e0, e1, e2, h60, h61, p9⟩ := G
          refine hK.out _ _ (by exact ⟨a0, a1, a2, e0, e1, e2⟩) (fun hHeldk3 => ?_)
          clear hK K hHeldk2
          try simp only [Act.put]
          refine wpAnyH_ready (rs := [4]) (by kernel_rfl) (by simp) ?_
          refine AllReadyH.cons (o := _) rfl (fun K hK => ?_) (AllReadyH.nil)
          go_simp
          refine (show Calls _ _ _ _ (TellI 0 (ptI p2) _) from by have := asub_any S (x := ptI a) (y := ptI b) (p := 600) hT h60 h61 h62 h63; rwa [KS.out] at this).mono ?_
          rintro en u_4 ⟨A12, n12, c12, A13, n13, c13, rfl, h12, h13, b⟩
          clear h60 h61 h62 h63
          replace BB := bnx BB b rfl rfl rfl rfl
          have G := mv b rfl (J10 hT h1 h2 a0 a1 a2 e0 e1 e2 p9)
          clear b hT h1 h2 a0 a1 a2 e0 e1 e2 p9
          obtain ⟨hT, h1, h2, a0, a1, a2, e0, e1, e2, p9⟩ := G
          refine hK.out _ _ (by exact ⟨a0, a1, a2, e0, e1, e2⟩) (fun hHeldk4 => ?_)
          clear hK K hHeldk3
          try simp only [Act.put]
          refine wpAnyH_take (i := 5) (v := ?k29v5) rfl (by kernel_rfl) (by kernel_rfl) (by kernel_rfl) (fun _ _ _ h => panic_put (P := Tryz.prog) (fn := Tryz.f6) (R := (fun en w' => ToldEnd w en w')) h) (Or.inl ⟨by rfl, ?k29y5⟩) (by assumption) ?_
          case k29y5 => (intro w hSw; (try dsimp only at hSw); go_simp); try with_reducible rfl
          change wpAnyH _ _ _ _ _ _ _ (Act.put _ (some 72) _) _
          simp only [Act.put, List.setIfInBounds_toArray, List.set_cons_zero, List.set_cons_succ]
          refine wpAnyH_take (i := 6) (v := ?k30v6) rfl (by kernel_rfl) (by kernel_rfl) (by kernel_rfl) (fun _ _ _ h => panic_put (P := Tryz.prog) (fn := Tryz.f6) (R := (fun en w' => ToldEnd w en w')) h) (Or.inl ⟨by rfl, ?k30y6⟩) (by assumption) ?_
          case k30y6 => (intro w hSw; (try dsimp only at hSw); go_simp); try with_reducible rfl
          change wpAnyH _ _ _ _ _ _ _ (Act.put _ (some 78) _) _
          simp only [Act.put, List.setIfInBounds_toArray, List.set_cons_zero, List.set_cons_succ]
          refine wpAnyH_take (i := 7) (v := ?k31v7) rfl (by kernel_rfl) (by kernel_rfl) (by kernel_rfl) (fun _ _ _ h => panic_put (P := Tryz.prog) (fn := Tryz.f6) (R := (fun en w' => ToldEnd w en w')) h) (Or.inl ⟨by rfl, ?k31y7⟩) (by assumption) ?_
          case k31y7 => (intro w hSw; (try dsimp only at hSw); go_simp); try with_reducible rfl
          change wpAnyH _ _ _ _ _ _ _ (Act.put _ (some 79) _) _
          simp only [Act.put, List.setIfInBounds_toArray, List.set_cons_zero, List.set_cons_succ]
          refine wpAnyH_ready (rs := [9]) (by kernel_rfl) (by simp) ?_
          refine AllReadyH.cons (o := _) rfl (fun K hK => ?_) (AllReadyH.nil)
          obtain ⟨f0_, f1_, f2_, f3_, f4_, f5_⟩ := p9.open
          obtain ⟨z0, z1, z2, z3, z4, z5⟩ := p9.held
          go_simp
          clear hT h1 h2
          replace a0 := cell_oth6 (g := g9) (u0 := .bool (ptI p2).lo.s) (u1 := .slice A12 n12 c12) (u2 := .int .i64 (ptI p2).lo.e) (u3 := .bool (ptI p2).hi.s) (u4 := .slice A13 n13 c13) (u5 := .int .i64 (ptI p2).hi.e) a0 (by omega)
          replace a1 := cell_oth6 (g := g9) (u0 := .bool (ptI p2).lo.s) (u1 := .slice A12 n12 c12) (u2 := .int .i64 (ptI p2).lo.e) (u3 := .bool (ptI p2).hi.s) (u4 := .slice A13 n13 c13) (u5 := .int .i64 (ptI p2).hi.e) a1 (by omega)
          replace a2 := cell_oth6 (g := g9) (u0 := .bool (ptI p2).lo.s) (u1 := .slice A12 n12 c12) (u2 := .int .i64 (ptI p2).lo.e) (u3 := .bool (ptI p2).hi.s) (u4 := .slice A13 n13 c13) (u5 := .int .i64 (ptI p2).hi.e) a2 (by omega)
          replace e0 := cell_oth6 (g := g9) (u0 := .bool (ptI p2).lo.s) (u1 := .slice A12 n12 c12) (u2 := .int .i64 (ptI p2).lo.e) (u3 := .bool (ptI p2).hi.s) (u4 := .slice A13 n13 c13) (u5 := .int .i64 (ptI p2).hi.e) e0 (by omega)
          replace e1 := cell_oth6 (g := g9) (u0 := .bool (ptI p2).lo.s) (u1 := .slice A12 n12 c12) (u2 := .int .i64 (ptI p2).lo.e) (u3 := .bool (ptI p2).hi.s) (u4 := .slice A13 n13 c13) (u5 := .int .i64 (ptI p2).hi.e) e1 (by omega)
          replace e2 := cell_oth6 (g := g9) (u0 := .bool (ptI p2).lo.s) (u1 := .slice A12 n12 c12) (u2 := .int .i64 (ptI p2).lo.e) (u3 := .bool (ptI p2).hi.s) (u4 := .slice A13 n13 c13) (u5 := .int .i64 (ptI p2).hi.e) e2 (by omega)
          replace h12 := h12.put6 p9 (.bool (ptI p2).lo.s) (.slice A12 n12 c12) (.int .i64 (ptI p2).lo.e) (.bool (ptI p2).hi.s) (.slice A13 n13 c13) (.int .i64 (ptI p2).hi.e)
          replace h13 := h13.put6 p9 (.bool (ptI p2).lo.s) (.slice A12 n12 c12) (.int .i64 (ptI p2).lo.e) (.bool (ptI p2).hi.s) (.slice A13 n13 c13) (.int .i64 (ptI p2).hi.e)
          replace BB := below_put6 (g := g9) BB gl9 (.bool (ptI p2).lo.s) (.slice A12 n12 c12) (.int .i64 (ptI p2).lo.e) (.bool (ptI p2).hi.s) (.slice A13 n13 c13) (.int .i64 (ptI p2).hi.e)
          replace p9 := p9.put (ptI p2).lo.s A12 n12 c12 (ptI p2).lo.e (ptI p2).hi.s A13 n13 c13 (ptI p2).hi.e
          clear f0_ f1_ f2_ f3_ f4_ f5_ z0 z1 z2 z3 z4 z5
          generalize (((((u_4.setCell ⟨g9, 0, none⟩ (.bool (ptI p2).lo.s)).setCell ⟨g9, 1, none⟩ (.slice A12 n12 c12)).setCell ⟨g9, 2, none⟩ (.int .i64 (ptI p2).lo.e)).setCell ⟨g9, 3, none⟩ (.bool (ptI p2).hi.s)).setCell ⟨g9, 4, none⟩ (.slice A13 n13 c13)).setCell ⟨g9, 5, none⟩ (.int .i64 (ptI p2).hi.e) = u_5 at *
          refine hK.out _ _ (by exact ⟨a0, a1, a2, e0, e1, e2⟩) (fun hHeldk5 => ?_)
          clear hK K hHeldk4
          try simp only [Act.put]
          refine wpAnyH_take (i := 10) (v := ?k32v10) rfl (by kernel_rfl) (by kernel_rfl) (by kernel_rfl) (fun _ _ _ h => panic_put (P := Tryz.prog) (fn := Tryz.f6) (R := (fun en w' => ToldEnd w en w')) h) (Or.inl ⟨by rfl, ?k32y10⟩) (by assumption) ?_
          case k32y10 => (intro w hSw; (try dsimp only at hSw); go_simp); try with_reducible rfl
          change wpAnyH _ _ _ _ _ _ _ (Act.put _ (some 8) _) _
          simp only [Act.put, List.setIfInBounds_toArray, List.set_cons_zero, List.set_cons_succ]
          refine wpAnyH_done (by kernel_rfl) ?_ _
          go_wp2_with fail
          go_meet
          case rel => exact ⟨g9, A12, n12, c12, A13, n13, c13, rfl, rfl, p9, h12, h13, BB⟩
      · go_simp
        have gl9 : W4_.heap.size ≤ wd.heap.size := BB.size
        have gy9 : w.heap.size + 1 < wd.heap.size := World.block_lt_of_cell? _ _ e0
        have p9 := Ibx.new wd false none 0 0 0 false none 0 0 0
        have b := below_alloc wd (.cells #[.bool false, .slice none 0 0, .int .i64 0, .bool false, .slice none 0 0, .int .i64 0] 26)
        replace BB := bnx BB b rfl rfl rfl rfl
        have G := mv b rfl (J9 hT h1 h2 a0 a1 a2 e0 e1 e2)
        clear b hT h1 h2 a0 a1 a2 e0 e1 e2
        obtain ⟨hT, h1, h2, a0, a1, a2, e0, e1, e2⟩ := G
        generalize wd.alloc (.cells #[.bool false, .slice none 0 0, .int .i64 0, .bool false, .slice none 0 0, .int .i64 0] 26) = u_1 at *
        generalize wd.heap.size = g9 at *
        refine hK.out _ _ (by exact ⟨a0, a1, a2, e0, e1, e2⟩) (fun hHeldk1 => ?_)
        clear hK K hHeldk0
        try simp only [Act.put]
        refine wpAnyH_ready (rs := [1]) (by kernel_rfl) (by simp) ?_
        refine AllReadyH.cons (o := _) rfl (fun K hK => ?_) (AllReadyH.nil)
        go_simp
        refine (show Calls _ _ _ _ (GivI (ptI a) _) from iof_any (a := a) h1 Z1.out).mono ?_
        rintro en u_2 ⟨A60, n60, c60, A61, n61, c61, rfl, h60, h61, b⟩
        replace BB := bnx BB b rfl rfl rfl rfl
        have G := mv b rfl (J10 hT h1 h2 a0 a1 a2 e0 e1 e2 p9)
        clear b hT h1 h2 a0 a1 a2 e0 e1 e2 p9
        obtain ⟨hT, h1, h2, a0, a1, a2, e0, e1, e2, p9⟩ := G
        refine hK.out _ _ (by exact ⟨a0, a1, a2, e0, e1, e2⟩) (fun hHeldk2 => ?_)
        clear hK K hHeldk1
        try simp only [Act.put]
        refine wpAnyH_ready (rs := [3]) (by kernel_rfl) (by simp) ?_
        refine AllReadyH.cons (o := _) rfl (fun K hK => ?_) (AllReadyH.nil)
        go_simp
        refine (show Calls _ _ _ _ (GivI (ptI b) _) from iof_any (a := b) h2 Z2.out).mono ?_
        rintro en u_3 ⟨A62, n62, c62, A63, n63, c63, rfl, h62, h63, b⟩
        replace BB := bnx BB b rfl rfl rfl rfl
        have G := mv b rfl (J12 hT h1 h2 a0 a1 a2 e0 e1 e2 p9 h60 h61)
        clear b hT h1 h2 a0 a1 a2 e0 e1 e2 p9 h60 h61
        obtain ⟨hT, h1, h2, a0, a1, a2, e0, e1, e2, p9, h60, h61⟩ := G
        refine hK.out _ _ (by exact ⟨a0, a1, a2, e0, e1, e2⟩) (fun hHeldk3 => ?_)
        clear hK K hHeldk2
        try simp only [Act.put]
        refine wpAnyH_ready (rs := [4]) (by kernel_rfl) (by simp) ?_
        refine AllReadyH.cons (o := _) rfl (fun K hK => ?_) (AllReadyH.nil)
        go_simp
        refine (show Calls _ _ _ _ (TellI 0 (ptI p2) _) from by have := asub_any S (x := ptI a) (y := ptI b) (p := 600) hT h60 h61 h62 h63; rwa [KS.out] at this).mono ?_
        rintro en u_4 ⟨A12, n12, c12, A13, n13, c13, rfl, h12, h13, b⟩
        clear h60 h61 h62 h63
        replace BB := bnx BB b rfl rfl rfl rfl
        have G := mv b rfl (J10 hT h1 h2 a0 a1 a2 e0 e1 e2 p9)
        clear b hT h1 h2 a0 a1 a2 e0 e1 e2 p9
        obtain ⟨hT, h1, h2, a0, a1, a2, e0, e1, e2, p9⟩ := G
        refine hK.out _ _ (by exact ⟨a0, a1, a2, e0, e1, e2⟩) (fun hHeldk4 => ?_)
        clear hK K hHeldk3
        try simp only [Act.put]
        refine wpAnyH_take (i := 5) (v := ?k33v5) rfl (by kernel_rfl) (by kernel_rfl) (by kernel_rfl) (fun _ _ _ h => panic_put (P := Tryz.prog) (fn := Tryz.f6) (R := (fun en w' => ToldEnd w en w')) h) (Or.inl ⟨by rfl, ?k33y5⟩) (by assumption) ?_
        case k33y5 => (intro w hSw; (try dsimp only at hSw); go_simp); try with_reducible rfl
        change wpAnyH _ _ _ _ _ _ _ (Act.put _ (some 72) _) _
        simp only [Act.put, List.setIfInBounds_toArray, List.set_cons_zero, List.set_cons_succ]
        refine wpAnyH_take (i := 6) (v := ?k34v6) rfl (by kernel_rfl) (by kernel_rfl) (by kernel_rfl) (fun _ _ _ h => panic_put (P := Tryz.prog) (fn := Tryz.f6) (R := (fun en w' => ToldEnd w en w')) h) (Or.inl ⟨by rfl, ?k34y6⟩) (by assumption) ?_
        case k34y6 => (intro w hSw; (try dsimp only at hSw); go_simp); try with_reducible rfl
        change wpAnyH _ _ _ _ _ _ _ (Act.put _ (some 78) _) _
        simp only [Act.put, List.setIfInBounds_toArray, List.set_cons_zero, List.set_cons_succ]
        refine wpAnyH_take (i := 7) (v := ?k35v7) rfl (by kernel_rfl) (by kernel_rfl) (by kernel_rfl) (fun _ _ _ h => panic_put (P := Tryz.prog) (fn := Tryz.f6) (R := (fun en w' => ToldEnd w en w')) h) (Or.inl ⟨by rfl, ?k35y7⟩) (by assumption) ?_
        case k35y7 => (intro w hSw; (try dsimp only at hSw); go_simp); try with_reducible rfl
        change wpAnyH _ _ _ _ _ _ _ (Act.put _ (some 79) _) _
        simp only [Act.put, List.setIfInBounds_toArray, List.set_cons_zero, List.set_cons_succ]
        refine wpAnyH_ready (rs := [9]) (by kernel_rfl) (by simp) ?_
        refine AllReadyH.cons (o := _) rfl (fun K hK => ?_) (AllReadyH.nil)
        obtain ⟨f0_, f1_, f2_, f3_, f4_, f5_⟩ := p9.open
        obtain ⟨z0, z1, z2, z3, z4, z5⟩ := p9.held
        go_simp
        clear hT h1 h2
        replace a0 := cell_oth6 (g := g9) (u0 := .bool (ptI p2).lo.s) (u1 := .slice A12 n12 c12) (u2 := .int .i64 (ptI p2).lo.e) (u3 := .bool (ptI p2).hi.s) (u4 := .slice A13 n13 c13) (u5 := .int .i64 (ptI p2).hi.e) a0 (by omega)
        replace a1 := cell_oth6 (g := g9) (u0 := .bool (ptI p2).lo.s) (u1 := .slice A12 n12 c12) (u2 := .int .i64 (ptI p2).lo.e) (u3 := .bool (ptI p2).hi.s) (u4 := .slice A13 n13 c13) (u5 := .int .i64 (ptI p2).hi.e) a1 (by omega)
        replace a2 := cell_oth6 (g := g9) (u0 := .bool (ptI p2).lo.s) (u1 := .slice A12 n12 c12) (u2 := .int .i64 (ptI p2).lo.e) (u3 := .bool (ptI p2).hi.s) (u4 := .slice A13 n13 c13) (u5 := .int .i64 (ptI p2).hi.e) a2 (by omega)
        replace e0 := cell_oth6 (g := g9) (u0 := .bool (ptI p2).lo.s) (u1 := .slice A12 n12 c12) (u2 := .int .i64 (ptI p2).lo.e) (u3 := .bool (ptI p2).hi.s) (u4 := .slice A13 n13 c13) (u5 := .int .i64 (ptI p2).hi.e) e0 (by omega)
        replace e1 := cell_oth6 (g := g9) (u0 := .bool (ptI p2).lo.s) (u1 := .slice A12 n12 c12) (u2 := .int .i64 (ptI p2).lo.e) (u3 := .bool (ptI p2).hi.s) (u4 := .slice A13 n13 c13) (u5 := .int .i64 (ptI p2).hi.e) e1 (by omega)
        replace e2 := cell_oth6 (g := g9) (u0 := .bool (ptI p2).lo.s) (u1 := .slice A12 n12 c12) (u2 := .int .i64 (ptI p2).lo.e) (u3 := .bool (ptI p2).hi.s) (u4 := .slice A13 n13 c13) (u5 := .int .i64 (ptI p2).hi.e) e2 (by omega)
        replace h12 := h12.put6 p9 (.bool (ptI p2).lo.s) (.slice A12 n12 c12) (.int .i64 (ptI p2).lo.e) (.bool (ptI p2).hi.s) (.slice A13 n13 c13) (.int .i64 (ptI p2).hi.e)
        replace h13 := h13.put6 p9 (.bool (ptI p2).lo.s) (.slice A12 n12 c12) (.int .i64 (ptI p2).lo.e) (.bool (ptI p2).hi.s) (.slice A13 n13 c13) (.int .i64 (ptI p2).hi.e)
        replace BB := below_put6 (g := g9) BB gl9 (.bool (ptI p2).lo.s) (.slice A12 n12 c12) (.int .i64 (ptI p2).lo.e) (.bool (ptI p2).hi.s) (.slice A13 n13 c13) (.int .i64 (ptI p2).hi.e)
        replace p9 := p9.put (ptI p2).lo.s A12 n12 c12 (ptI p2).lo.e (ptI p2).hi.s A13 n13 c13 (ptI p2).hi.e
        clear f0_ f1_ f2_ f3_ f4_ f5_ z0 z1 z2 z3 z4 z5
        generalize (((((u_4.setCell ⟨g9, 0, none⟩ (.bool (ptI p2).lo.s)).setCell ⟨g9, 1, none⟩ (.slice A12 n12 c12)).setCell ⟨g9, 2, none⟩ (.int .i64 (ptI p2).lo.e)).setCell ⟨g9, 3, none⟩ (.bool (ptI p2).hi.s)).setCell ⟨g9, 4, none⟩ (.slice A13 n13 c13)).setCell ⟨g9, 5, none⟩ (.int .i64 (ptI p2).hi.e) = u_5 at *
        refine hK.out _ _ (by exact ⟨a0, a1, a2, e0, e1, e2⟩) (fun hHeldk5 => ?_)
        clear hK K hHeldk4
        try simp only [Act.put]
        refine wpAnyH_take (i := 10) (v := ?k36v10) rfl (by kernel_rfl) (by kernel_rfl) (by kernel_rfl) (fun _ _ _ h => panic_put (P := Tryz.prog) (fn := Tryz.f6) (R := (fun en w' => ToldEnd w en w')) h) (Or.inl ⟨by rfl, ?k36y10⟩) (by assumption) ?_
        case k36y10 => (intro w hSw; (try dsimp only at hSw); go_simp); try with_reducible rfl
        change wpAnyH _ _ _ _ _ _ _ (Act.put _ (some 8) _) _
        simp only [Act.put, List.setIfInBounds_toArray, List.set_cons_zero, List.set_cons_succ]
        refine wpAnyH_done (by kernel_rfl) ?_ _
        go_wp2_with fail
        go_meet
        case rel => exact ⟨g9, A12, n12, c12, A13, n13, c13, rfl, rfl, p9, h12, h13, BB⟩
    case rest => as_aux_lemma =>
      obtain ⟨g4_, A12, n12, c12, A13, n13, c13, rfl, rfl, X4, h12, h13, b⟩ := hcut
      replace BB := bnx BB b rfl rfl rfl rfl
      have G := mv b rfl (J12 a0 a1 a2 e0 e1 e2 hT h1 h2 X3 h10 h11)
      clear b a0 a1 a2 e0 e1 e2 hT h1 h2 X3 h10 h11
      obtain ⟨a0, a1, a2, e0, e1, e2, hT, h1, h2, X3, h10, h11⟩ := G
      generalize wc = V4_ at *
      go_upto_region 5 with fail
      generalize V4_ = W5_ at *
      go_cut [9, 10] (fun v5 v6 wx => ∃ (g : Nat) (A : Option Addr) (n c : Nat) (B : Option Addr) (m d : Nat), v5 = .pointer (some ⟨g, 0, none⟩) ∧ v6 = .int .i64 0 ∧ Ibx wx g (ptI p3).lo.s A n c (ptI p3).lo.e (ptI p3).hi.s B m d (ptI p3).hi.e ∧ Rd wx .u64 Go.Proofs.YtcbkhmejlaaieaaGreatDoor.W A n c (ptI p3).lo.l ∧ Rd wx .u64 Go.Proofs.YtcbkhmejlaaieaaGreatDoor.W B m d (ptI p3).hi.l ∧ Below W5_.heap.size W5_ wx)
      case first => as_aux_lemma =>
        have B1 := Below.refl W5_.heap.size W5_
        clear BB
        have BB := B1
        clear B1
        have b : Below W5_.heap.size W5_ (World.drew W5_) := below_drewN (Below.refl _ _) 1
        replace BB := bnx BB b rfl rfl rfl rfl
        have G := mv b rfl (J9 hT h1 h2 a0 a1 a2 e0 e1 e2)
        clear b hT h1 h2 a0 a1 a2 e0 e1 e2
        obtain ⟨hT, h1, h2, a0, a1, a2, e0, e1, e2⟩ := G
        refine wp_region_held_drew (S := fun w' => w'.cell? ⟨w.heap.size, 0, none⟩ = some (.bool a.s) ∧ w'.cell? ⟨w.heap.size, 1, none⟩ = some (.slice A1 n1 c1) ∧ w'.cell? ⟨w.heap.size, 2, none⟩ = some (.int .i64 a.e) ∧ w'.cell? ⟨w.heap.size + 1, 0, none⟩ = some (.bool b.s) ∧ w'.cell? ⟨w.heap.size + 1, 1, none⟩ = some (.slice A2 n2 c2) ∧ w'.cell? ⟨w.heap.size + 1, 2, none⟩ = some (.int .i64 b.e)) (by kernel_rfl) (by exact ⟨a0, a1, a2, e0, e1, e2⟩) (fun hHelds0 => ?_)
        generalize World.drew W5_ = wd at *
        refine wpAnyH_take (i := 0) (v := ?s37v0) rfl (by kernel_rfl) (by kernel_rfl) (by kernel_rfl) (fun _ _ _ h => panic_put (P := Tryz.prog) (fn := Tryz.f6) (R := (fun en w' => ToldEnd w en w')) h) (Or.inl ⟨by rfl, ?s37y0⟩) (by assumption) ?_
        case s37y0 => (intro w hSw; (try dsimp only at hSw); go_simp); try with_reducible rfl
        change wpAnyH _ _ _ _ _ _ _ (Act.put _ (some 81) _) _
        simp only [Act.put, List.setIfInBounds_toArray, List.set_cons_zero, List.set_cons_succ]
        refine wpAnyH_take (i := 2) (v := ?s38v2) rfl (by kernel_rfl) (by kernel_rfl) (by kernel_rfl) (fun _ _ _ h => panic_put (P := Tryz.prog) (fn := Tryz.f6) (R := (fun en w' => ToldEnd w en w')) h) (Or.inl ⟨by rfl, ?s38y2⟩) (by assumption) ?_
        case s38y2 => (intro w hSw; (try dsimp only at hSw); go_simp); try with_reducible rfl
        change wpAnyH _ _ _ _ _ _ _ (Act.put _ (some 83) _) _
        simp only [Act.put, List.setIfInBounds_toArray, List.set_cons_zero, List.set_cons_succ]
        refine wpAnyH_ready (rs := [1, 8]) (by kernel_rfl) (by simp) ?_
        refine AllReadyH.cons (o := _) rfl (fun K hK => ?_) (AllReadyH.cons (o := _) rfl (fun K hK => ?_) (AllReadyH.nil))
        · go_simp
          refine (show Calls _ _ _ _ (GivI (ptI a) _) from iof_any (a := a) h1 Z1.out).mono ?_
          rintro en u_1 ⟨A60, n60, c60, A61, n61, c61, rfl, h60, h61, b⟩
          replace BB := bnx BB b rfl rfl rfl rfl
          have G := mv b rfl (J9 hT h1 h2 a0 a1 a2 e0 e1 e2)
          clear b hT h1 h2 a0 a1 a2 e0 e1 e2
          obtain ⟨hT, h1, h2, a0, a1, a2, e0, e1, e2⟩ := G
          refine hK.out _ _ (by exact ⟨a0, a1, a2, e0, e1, e2⟩) (fun hHelds1 => ?_)
          clear hK K hHelds0
          try simp only [Act.put]
          refine wpAnyH_ready (rs := [3, 8]) (by kernel_rfl) (by simp) ?_
          refine AllReadyH.cons (o := _) rfl (fun K hK => ?_) (AllReadyH.cons (o := _) rfl (fun K hK => ?_) (AllReadyH.nil))
          · go_simp
            refine (show Calls _ _ _ _ (GivI (ptI b) _) from iof_any (a := b) h2 Z2.out).mono ?_
            rintro en u_2 ⟨A62, n62, c62, A63, n63, c63, rfl, h62, h63, b⟩
            replace BB := bnx BB b rfl rfl rfl rfl
            have G := mv b rfl (J11 hT h1 h2 a0 a1 a2 e0 e1 e2 h60 h61)
            clear b hT h1 h2 a0 a1 a2 e0 e1 e2 h60 h61
            obtain ⟨hT, h1, h2, a0, a1, a2, e0, e1, e2, h60, h61⟩ := G
            refine hK.out _ _ (by exact ⟨a0, a1, a2, e0, e1, e2⟩) (fun hHelds2 => ?_)
            clear hK K hHelds1
            try simp only [Act.put]
            refine wpAnyH_ready (rs := [4, 8]) (by kernel_rfl) (by simp) ?_
            refine AllReadyH.cons (o := _) rfl (fun K hK => ?_) (AllReadyH.cons (o := _) rfl (fun K hK => ?_) (AllReadyH.nil))
            · go_simp
              refine (show Calls _ _ _ _ (TellI 0 (ptI p3) _) from by have := amul_any S (x := ptI a) (y := ptI b) (p := 600) hT h60 h61 h62 h63; rwa [KM.out] at this).mono ?_
              rintro en u_3 ⟨A14, n14, c14, A15, n15, c15, rfl, h14, h15, b⟩
              clear h60 h61 h62 h63
              replace BB := bnx BB b rfl rfl rfl rfl
              have G := mv b rfl (J9 hT h1 h2 a0 a1 a2 e0 e1 e2)
              clear b hT h1 h2 a0 a1 a2 e0 e1 e2
              obtain ⟨hT, h1, h2, a0, a1, a2, e0, e1, e2⟩ := G
              refine hK.out _ _ (by exact ⟨a0, a1, a2, e0, e1, e2⟩) (fun hHelds3 => ?_)
              clear hK K hHelds2
              try simp only [Act.put]
              refine wpAnyH_take (i := 5) (v := ?s39v5) rfl (by kernel_rfl) (by kernel_rfl) (by kernel_rfl) (fun _ _ _ h => panic_put (P := Tryz.prog) (fn := Tryz.f6) (R := (fun en w' => ToldEnd w en w')) h) (Or.inl ⟨by rfl, ?s39y5⟩) (by assumption) ?_
              case s39y5 => (intro w hSw; (try dsimp only at hSw); go_simp); try with_reducible rfl
              change wpAnyH _ _ _ _ _ _ _ (Act.put _ (some 80) _) _
              simp only [Act.put, List.setIfInBounds_toArray, List.set_cons_zero, List.set_cons_succ]
              refine wpAnyH_take (i := 6) (v := ?s40v6) rfl (by kernel_rfl) (by kernel_rfl) (by kernel_rfl) (fun _ _ _ h => panic_put (P := Tryz.prog) (fn := Tryz.f6) (R := (fun en w' => ToldEnd w en w')) h) (Or.inl ⟨by rfl, ?s40y6⟩) (by assumption) ?_
              case s40y6 => (intro w hSw; (try dsimp only at hSw); go_simp); try with_reducible rfl
              change wpAnyH _ _ _ _ _ _ _ (Act.put _ (some 86) _) _
              simp only [Act.put, List.setIfInBounds_toArray, List.set_cons_zero, List.set_cons_succ]
              refine wpAnyH_take (i := 7) (v := ?s41v7) rfl (by kernel_rfl) (by kernel_rfl) (by kernel_rfl) (fun _ _ _ h => panic_put (P := Tryz.prog) (fn := Tryz.f6) (R := (fun en w' => ToldEnd w en w')) h) (Or.inl ⟨by rfl, ?s41y7⟩) (by assumption) ?_
              case s41y7 => (intro w hSw; (try dsimp only at hSw); go_simp); try with_reducible rfl
              change wpAnyH _ _ _ _ _ _ _ (Act.put _ (some 87) _) _
              simp only [Act.put, List.setIfInBounds_toArray, List.set_cons_zero, List.set_cons_succ]
              refine wpAnyH_ready (rs := [8]) (by kernel_rfl) (by simp) ?_
              refine AllReadyH.cons (o := _) rfl (fun K hK => ?_) (AllReadyH.nil)
              go_simp
              have gl9 : W5_.heap.size ≤ u_3.heap.size := BB.size
              have gy9 : w.heap.size + 1 < u_3.heap.size := World.block_lt_of_cell? _ _ e0
              have p9 := Ibx.new u_3 false none 0 0 0 false none 0 0 0
              have b := below_alloc u_3 (.cells #[.bool false, .slice none 0 0, .int .i64 0, .bool false, .slice none 0 0, .int .i64 0] 26)
              replace BB := bnx BB b rfl rfl rfl rfl
              have G := mv b rfl (J11 hT h1 h2 a0 a1 a2 e0 e1 e2 h14 h15)
              clear b hT h1 h2 a0 a1 a2 e0 e1 e2 h14 h15
              obtain ⟨hT, h1, h2, a0, a1, a2, e0, e1, e2, h14, h15⟩ := G
              generalize u_3.alloc (.cells #[.bool false, .slice none 0 0, .int .i64 0, .bool false, .slice none 0 0, .int .i64 0] 26) = u_4 at *
              generalize u_3.heap.size = g9 at *
              refine hK.out _ _ (by exact ⟨a0, a1, a2, e0, e1, e2⟩) (fun hHelds4 => ?_)
              clear hK K hHelds3
              try simp only [Act.put]
              refine wpAnyH_ready (rs := [9]) (by kernel_rfl) (by simp) ?_
              refine AllReadyH.cons (o := _) rfl (fun K hK => ?_) (AllReadyH.nil)
              obtain ⟨f0_, f1_, f2_, f3_, f4_, f5_⟩ := p9.open
              obtain ⟨z0, z1, z2, z3, z4, z5⟩ := p9.held
              go_simp
              clear hT h1 h2
              replace a0 := cell_oth6 (g := g9) (u0 := .bool (ptI p3).lo.s) (u1 := .slice A14 n14 c14) (u2 := .int .i64 (ptI p3).lo.e) (u3 := .bool (ptI p3).hi.s) (u4 := .slice A15 n15 c15) (u5 := .int .i64 (ptI p3).hi.e) a0 (by omega)
              replace a1 := cell_oth6 (g := g9) (u0 := .bool (ptI p3).lo.s) (u1 := .slice A14 n14 c14) (u2 := .int .i64 (ptI p3).lo.e) (u3 := .bool (ptI p3).hi.s) (u4 := .slice A15 n15 c15) (u5 := .int .i64 (ptI p3).hi.e) a1 (by omega)
              replace a2 := cell_oth6 (g := g9) (u0 := .bool (ptI p3).lo.s) (u1 := .slice A14 n14 c14) (u2 := .int .i64 (ptI p3).lo.e) (u3 := .bool (ptI p3).hi.s) (u4 := .slice A15 n15 c15) (u5 := .int .i64 (ptI p3).hi.e) a2 (by omega)
              replace e0 := cell_oth6 (g := g9) (u0 := .bool (ptI p3).lo.s) (u1 := .slice A14 n14 c14) (u2 := .int .i64 (ptI p3).lo.e) (u3 := .bool (ptI p3).hi.s) (u4 := .slice A15 n15 c15) (u5 := .int .i64 (ptI p3).hi.e) e0 (by omega)
              replace e1 := cell_oth6 (g := g9) (u0 := .bool (ptI p3).lo.s) (u1 := .slice A14 n14 c14) (u2 := .int .i64 (ptI p3).lo.e) (u3 := .bool (ptI p3).hi.s) (u4 := .slice A15 n15 c15) (u5 := .int .i64 (ptI p3).hi.e) e1 (by omega)
              replace e2 := cell_oth6 (g := g9) (u0 := .bool (ptI p3).lo.s) (u1 := .slice A14 n14 c14) (u2 := .int .i64 (ptI p3).lo.e) (u3 := .bool (ptI p3).hi.s) (u4 := .slice A15 n15 c15) (u5 := .int .i64 (ptI p3).hi.e) e2 (by omega)
              replace h14 := h14.put6 p9 (.bool (ptI p3).lo.s) (.slice A14 n14 c14) (.int .i64 (ptI p3).lo.e) (.bool (ptI p3).hi.s) (.slice A15 n15 c15) (.int .i64 (ptI p3).hi.e)
              replace h15 := h15.put6 p9 (.bool (ptI p3).lo.s) (.slice A14 n14 c14) (.int .i64 (ptI p3).lo.e) (.bool (ptI p3).hi.s) (.slice A15 n15 c15) (.int .i64 (ptI p3).hi.e)
              replace BB := below_put6 (g := g9) BB gl9 (.bool (ptI p3).lo.s) (.slice A14 n14 c14) (.int .i64 (ptI p3).lo.e) (.bool (ptI p3).hi.s) (.slice A15 n15 c15) (.int .i64 (ptI p3).hi.e)
              replace p9 := p9.put (ptI p3).lo.s A14 n14 c14 (ptI p3).lo.e (ptI p3).hi.s A15 n15 c15 (ptI p3).hi.e
              clear f0_ f1_ f2_ f3_ f4_ f5_ z0 z1 z2 z3 z4 z5
              generalize (((((u_4.setCell ⟨g9, 0, none⟩ (.bool (ptI p3).lo.s)).setCell ⟨g9, 1, none⟩ (.slice A14 n14 c14)).setCell ⟨g9, 2, none⟩ (.int .i64 (ptI p3).lo.e)).setCell ⟨g9, 3, none⟩ (.bool (ptI p3).hi.s)).setCell ⟨g9, 4, none⟩ (.slice A15 n15 c15)).setCell ⟨g9, 5, none⟩ (.int .i64 (ptI p3).hi.e) = u_5 at *
              refine hK.out _ _ (by exact ⟨a0, a1, a2, e0, e1, e2⟩) (fun hHelds5 => ?_)
              clear hK K hHelds4
              try simp only [Act.put]
              refine wpAnyH_take (i := 10) (v := ?s42v10) rfl (by kernel_rfl) (by kernel_rfl) (by kernel_rfl) (fun _ _ _ h => panic_put (P := Tryz.prog) (fn := Tryz.f6) (R := (fun en w' => ToldEnd w en w')) h) (Or.inl ⟨by rfl, ?s42y10⟩) (by assumption) ?_
              case s42y10 => (intro w hSw; (try dsimp only at hSw); go_simp); try with_reducible rfl
              change wpAnyH _ _ _ _ _ _ _ (Act.put _ (some 10) _) _
              simp only [Act.put, List.setIfInBounds_toArray, List.set_cons_zero, List.set_cons_succ]
              refine wpAnyH_done (by kernel_rfl) ?_ _
              go_wp2_with fail
              go_meet
              case rel => exact ⟨g9, A14, n14, c14, A15, n15, c15, rfl, rfl, p9, h14, h15, BB⟩
            · go_simp
              have gl9 : W5_.heap.size ≤ u_2.heap.size := BB.size
              have gy9 : w.heap.size + 1 < u_2.heap.size := World.block_lt_of_cell? _ _ e0
              have p9 := Ibx.new u_2 false none 0 0 0 false none 0 0 0
              have b := below_alloc u_2 (.cells #[.bool false, .slice none 0 0, .int .i64 0, .bool false, .slice none 0 0, .int .i64 0] 26)
              replace BB := bnx BB b rfl rfl rfl rfl
              have G := mv b rfl (J13 hT h1 h2 a0 a1 a2 e0 e1 e2 h60 h61 h62 h63)
              clear b hT h1 h2 a0 a1 a2 e0 e1 e2 h60 h61 h62 h63
              obtain ⟨hT, h1, h2, a0, a1, a2, e0, e1, e2, h60, h61, h62, h63⟩ := G
              generalize u_2.alloc (.cells #[.bool false, .slice none 0 0, .int .i64 0, .bool false, .slice none 0 0, .int .i64 0] 26) = u_3 at *
              generalize u_2.heap.size = g9 at *
              refine hK.out _ _ (by exact ⟨a0, a1, a2, e0, e1, e2⟩) (fun hHelds3 => ?_)
              clear hK K hHelds2
              try simp only [Act.put]
              refine wpAnyH_ready (rs := [4]) (by kernel_rfl) (by simp) ?_
              refine AllReadyH.cons (o := _) rfl (fun K hK => ?_) (AllReadyH.nil)
              go_simp
              refine (show Calls _ _ _ _ (TellI 0 (ptI p3) _) from by have := amul_any S (x := ptI a) (y := ptI b) (p := 600) hT h60 h61 h62 h63; rwa [KM.out] at this).mono ?_
              rintro en u_4 ⟨A14, n14, c14, A15, n15, c15, rfl, h14, h15, b⟩
              clear h60 h61 h62 h63
              replace BB := bnx BB b rfl rfl rfl rfl
              have G := mv b rfl (J10 hT h1 h2 a0 a1 a2 e0 e1 e2 p9)
              clear b hT h1 h2 a0 a1 a2 e0 e1 e2 p9
              obtain ⟨hT, h1, h2, a0, a1, a2, e0, e1, e2, p9⟩ := G
              refine hK.out _ _ (by exact ⟨a0, a1, a2, e0, e1, e2⟩) (fun hHelds4 => ?_)
              clear hK K hHelds3
              try simp only [Act.put]
              refine wpAnyH_take (i := 5) (v := ?s43v5) rfl (by kernel_rfl) (by kernel_rfl) (by kernel_rfl) (fun _ _ _ h => panic_put (P := Tryz.prog) (fn := Tryz.f6) (R := (fun en w' => ToldEnd w en w')) h) (Or.inl ⟨by rfl, ?s43y5⟩) (by assumption) ?_
              case s43y5 => (intro w hSw; (try dsimp only at hSw); go_simp); try with_reducible rfl
              change wpAnyH _ _ _ _ _ _ _ (Act.put _ (some 80) _) _
              simp only [Act.put, List.setIfInBounds_toArray, List.set_cons_zero, List.set_cons_succ]
              refine wpAnyH_take (i := 6) (v := ?s44v6) rfl (by kernel_rfl) (by kernel_rfl) (by kernel_rfl) (fun _ _ _ h => panic_put (P := Tryz.prog) (fn := Tryz.f6) (R := (fun en w' => ToldEnd w en w')) h) (Or.inl ⟨by rfl, ?s44y6⟩) (by assumption) ?_
              case s44y6 => (intro w hSw; (try dsimp only at hSw); go_simp); try with_reducible rfl
              change wpAnyH _ _ _ _ _ _ _ (Act.put _ (some 86) _) _
              simp only [Act.put, List.setIfInBounds_toArray, List.set_cons_zero, List.set_cons_succ]
              refine wpAnyH_take (i := 7) (v := ?s45v7) rfl (by kernel_rfl) (by kernel_rfl) (by kernel_rfl) (fun _ _ _ h => panic_put (P := Tryz.prog) (fn := Tryz.f6) (R := (fun en w' => ToldEnd w en w')) h) (Or.inl ⟨by rfl, ?s45y7⟩) (by assumption) ?_
              case s45y7 => (intro w hSw; (try dsimp only at hSw); go_simp); try with_reducible rfl
              change wpAnyH _ _ _ _ _ _ _ (Act.put _ (some 87) _) _
              simp only [Act.put, List.setIfInBounds_toArray, List.set_cons_zero, List.set_cons_succ]
              refine wpAnyH_ready (rs := [9]) (by kernel_rfl) (by simp) ?_
              refine AllReadyH.cons (o := _) rfl (fun K hK => ?_) (AllReadyH.nil)
              obtain ⟨f0_, f1_, f2_, f3_, f4_, f5_⟩ := p9.open
              obtain ⟨z0, z1, z2, z3, z4, z5⟩ := p9.held
              go_simp
              clear hT h1 h2
              replace a0 := cell_oth6 (g := g9) (u0 := .bool (ptI p3).lo.s) (u1 := .slice A14 n14 c14) (u2 := .int .i64 (ptI p3).lo.e) (u3 := .bool (ptI p3).hi.s) (u4 := .slice A15 n15 c15) (u5 := .int .i64 (ptI p3).hi.e) a0 (by omega)
              replace a1 := cell_oth6 (g := g9) (u0 := .bool (ptI p3).lo.s) (u1 := .slice A14 n14 c14) (u2 := .int .i64 (ptI p3).lo.e) (u3 := .bool (ptI p3).hi.s) (u4 := .slice A15 n15 c15) (u5 := .int .i64 (ptI p3).hi.e) a1 (by omega)
              replace a2 := cell_oth6 (g := g9) (u0 := .bool (ptI p3).lo.s) (u1 := .slice A14 n14 c14) (u2 := .int .i64 (ptI p3).lo.e) (u3 := .bool (ptI p3).hi.s) (u4 := .slice A15 n15 c15) (u5 := .int .i64 (ptI p3).hi.e) a2 (by omega)
              replace e0 := cell_oth6 (g := g9) (u0 := .bool (ptI p3).lo.s) (u1 := .slice A14 n14 c14) (u2 := .int .i64 (ptI p3).lo.e) (u3 := .bool (ptI p3).hi.s) (u4 := .slice A15 n15 c15) (u5 := .int .i64 (ptI p3).hi.e) e0 (by omega)
              replace e1 := cell_oth6 (g := g9) (u0 := .bool (ptI p3).lo.s) (u1 := .slice A14 n14 c14) (u2 := .int .i64 (ptI p3).lo.e) (u3 := .bool (ptI p3).hi.s) (u4 := .slice A15 n15 c15) (u5 := .int .i64 (ptI p3).hi.e) e1 (by omega)
              replace e2 := cell_oth6 (g := g9) (u0 := .bool (ptI p3).lo.s) (u1 := .slice A14 n14 c14) (u2 := .int .i64 (ptI p3).lo.e) (u3 := .bool (ptI p3).hi.s) (u4 := .slice A15 n15 c15) (u5 := .int .i64 (ptI p3).hi.e) e2 (by omega)
              replace h14 := h14.put6 p9 (.bool (ptI p3).lo.s) (.slice A14 n14 c14) (.int .i64 (ptI p3).lo.e) (.bool (ptI p3).hi.s) (.slice A15 n15 c15) (.int .i64 (ptI p3).hi.e)
              replace h15 := h15.put6 p9 (.bool (ptI p3).lo.s) (.slice A14 n14 c14) (.int .i64 (ptI p3).lo.e) (.bool (ptI p3).hi.s) (.slice A15 n15 c15) (.int .i64 (ptI p3).hi.e)
              replace BB := below_put6 (g := g9) BB gl9 (.bool (ptI p3).lo.s) (.slice A14 n14 c14) (.int .i64 (ptI p3).lo.e) (.bool (ptI p3).hi.s) (.slice A15 n15 c15) (.int .i64 (ptI p3).hi.e)
              replace p9 := p9.put (ptI p3).lo.s A14 n14 c14 (ptI p3).lo.e (ptI p3).hi.s A15 n15 c15 (ptI p3).hi.e
              clear f0_ f1_ f2_ f3_ f4_ f5_ z0 z1 z2 z3 z4 z5
              generalize (((((u_4.setCell ⟨g9, 0, none⟩ (.bool (ptI p3).lo.s)).setCell ⟨g9, 1, none⟩ (.slice A14 n14 c14)).setCell ⟨g9, 2, none⟩ (.int .i64 (ptI p3).lo.e)).setCell ⟨g9, 3, none⟩ (.bool (ptI p3).hi.s)).setCell ⟨g9, 4, none⟩ (.slice A15 n15 c15)).setCell ⟨g9, 5, none⟩ (.int .i64 (ptI p3).hi.e) = u_5 at *
              refine hK.out _ _ (by exact ⟨a0, a1, a2, e0, e1, e2⟩) (fun hHelds5 => ?_)
              clear hK K hHelds4
              try simp only [Act.put]
              refine wpAnyH_take (i := 10) (v := ?s46v10) rfl (by kernel_rfl) (by kernel_rfl) (by kernel_rfl) (fun _ _ _ h => panic_put (P := Tryz.prog) (fn := Tryz.f6) (R := (fun en w' => ToldEnd w en w')) h) (Or.inl ⟨by rfl, ?s46y10⟩) (by assumption) ?_
              case s46y10 => (intro w hSw; (try dsimp only at hSw); go_simp); try with_reducible rfl
              change wpAnyH _ _ _ _ _ _ _ (Act.put _ (some 10) _) _
              simp only [Act.put, List.setIfInBounds_toArray, List.set_cons_zero, List.set_cons_succ]
              refine wpAnyH_done (by kernel_rfl) ?_ _
              go_wp2_with fail
              go_meet
              case rel => exact ⟨g9, A14, n14, c14, A15, n15, c15, rfl, rfl, p9, h14, h15, BB⟩
          · go_simp
            have gl9 : W5_.heap.size ≤ u_1.heap.size := BB.size
            have gy9 : w.heap.size + 1 < u_1.heap.size := World.block_lt_of_cell? _ _ e0
            have p9 := Ibx.new u_1 false none 0 0 0 false none 0 0 0
            have b := below_alloc u_1 (.cells #[.bool false, .slice none 0 0, .int .i64 0, .bool false, .slice none 0 0, .int .i64 0] 26)
            replace BB := bnx BB b rfl rfl rfl rfl
            have G := mv b rfl (J11 hT h1 h2 a0 a1 a2 e0 e1 e2 h60 h61)
            clear b hT h1 h2 a0 a1 a2 e0 e1 e2 h60 h61
            obtain ⟨hT, h1, h2, a0, a1, a2, e0, e1, e2, h60, h61⟩ := G
            generalize u_1.alloc (.cells #[.bool false, .slice none 0 0, .int .i64 0, .bool false, .slice none 0 0, .int .i64 0] 26) = u_2 at *
            generalize u_1.heap.size = g9 at *
            refine hK.out _ _ (by exact ⟨a0, a1, a2, e0, e1, e2⟩) (fun hHelds2 => ?_)
            clear hK K hHelds1
            try simp only [Act.put]
            refine wpAnyH_ready (rs := [3]) (by kernel_rfl) (by simp) ?_
            refine AllReadyH.cons (o := _) rfl (fun K hK => ?_) (AllReadyH.nil)
            go_simp
            refine (show Calls _ _ _ _ (GivI (ptI b) _) from iof_any (a := b) h2 Z2.out).mono ?_
            rintro en u_3 ⟨A62, n62, c62, A63, n63, c63, rfl, h62, h63, b⟩
            replace BB := bnx BB b rfl rfl rfl rfl
            have G := mv b rfl (J12 hT h1 h2 a0 a1 a2 e0 e1 e2 h60 h61 p9)
            clear b hT h1 h2 a0 a1 a2 e0 e1 e2 h60 h61 p9
            obtain ⟨hT, h1, h2, a0, a1, a2, e0, e1, e2, h60, h61, p9⟩ := G
            refine hK.out _ _ (by exact ⟨a0, a1, a2, e0, e1, e2⟩) (fun hHelds3 => ?_)
            clear hK K hHelds2
            try simp only [Act.put]
            refine wpAnyH_ready (rs := [4]) (by kernel_rfl) (by simp) ?_
            refine AllReadyH.cons (o := _) rfl (fun K hK => ?_) (AllReadyH.nil)
            go_simp
            refine (show Calls _ _ _ _ (TellI 0 (ptI p3) _) from by have := amul_any S (x := ptI a) (y := ptI b) (p := 600) hT h60 h61 h62 h63; rwa [KM.out] at this).mono ?_
            rintro en u_4 ⟨A14, n14, c14, A15, n15, c15, rfl, h14, h15, b⟩
            clear h60 h61 h62 h63
            replace BB := bnx BB b rfl rfl rfl rfl
            have G := mv b rfl (J10 hT h1 h2 a0 a1 a2 e0 e1 e2 p9)
            clear b hT h1 h2 a0 a1 a2 e0 e1 e2 p9
            obtain ⟨hT, h1, h2, a0, a1, a2, e0, e1, e2, p9⟩ := G
            refine hK.out _ _ (by exact ⟨a0, a1, a2, e0, e1, e2⟩) (fun hHelds4 => ?_)
            clear hK K hHelds3
            try simp only [Act.put]
            refine wpAnyH_take (i := 5) (v := ?s47v5) rfl (by kernel_rfl) (by kernel_rfl) (by kernel_rfl) (fun _ _ _ h => panic_put (P := Tryz.prog) (fn := Tryz.f6) (R := (fun en w' => ToldEnd w en w')) h) (Or.inl ⟨by rfl, ?s47y5⟩) (by assumption) ?_
            case s47y5 => (intro w hSw; (try dsimp only at hSw); go_simp); try with_reducible rfl
            change wpAnyH _ _ _ _ _ _ _ (Act.put _ (some 80) _) _
            simp only [Act.put, List.setIfInBounds_toArray, List.set_cons_zero, List.set_cons_succ]
            refine wpAnyH_take (i := 6) (v := ?s48v6) rfl (by kernel_rfl) (by kernel_rfl) (by kernel_rfl) (fun _ _ _ h => panic_put (P := Tryz.prog) (fn := Tryz.f6) (R := (fun en w' => ToldEnd w en w')) h) (Or.inl ⟨by rfl, ?s48y6⟩) (by assumption) ?_
            case s48y6 => (intro w hSw; (try dsimp only at hSw); go_simp); try with_reducible rfl
            change wpAnyH _ _ _ _ _ _ _ (Act.put _ (some 86) _) _
            simp only [Act.put, List.setIfInBounds_toArray, List.set_cons_zero, List.set_cons_succ]
            refine wpAnyH_take (i := 7) (v := ?s49v7) rfl (by kernel_rfl) (by kernel_rfl) (by kernel_rfl) (fun _ _ _ h => panic_put (P := Tryz.prog) (fn := Tryz.f6) (R := (fun en w' => ToldEnd w en w')) h) (Or.inl ⟨by rfl, ?s49y7⟩) (by assumption) ?_
            case s49y7 => (intro w hSw; (try dsimp only at hSw); go_simp); try with_reducible rfl
            change wpAnyH _ _ _ _ _ _ _ (Act.put _ (some 87) _) _
            simp only [Act.put, List.setIfInBounds_toArray, List.set_cons_zero, List.set_cons_succ]
            refine wpAnyH_ready (rs := [9]) (by kernel_rfl) (by simp) ?_
            refine AllReadyH.cons (o := _) rfl (fun K hK => ?_) (AllReadyH.nil)
            obtain ⟨f0_, f1_, f2_, f3_, f4_, f5_⟩ := p9.open
            obtain ⟨z0, z1, z2, z3, z4, z5⟩ := p9.held
            go_simp
            clear hT h1 h2
            replace a0 := cell_oth6 (g := g9) (u0 := .bool (ptI p3).lo.s) (u1 := .slice A14 n14 c14) (u2 := .int .i64 (ptI p3).lo.e) (u3 := .bool (ptI p3).hi.s) (u4 := .slice A15 n15 c15) (u5 := .int .i64 (ptI p3).hi.e) a0 (by omega)
            replace a1 := cell_oth6 (g := g9) (u0 := .bool (ptI p3).lo.s) (u1 := .slice A14 n14 c14) (u2 := .int .i64 (ptI p3).lo.e) (u3 := .bool (ptI p3).hi.s) (u4 := .slice A15 n15 c15) (u5 := .int .i64 (ptI p3).hi.e) a1 (by omega)
            replace a2 := cell_oth6 (g := g9) (u0 := .bool (ptI p3).lo.s) (u1 := .slice A14 n14 c14) (u2 := .int .i64 (ptI p3).lo.e) (u3 := .bool (ptI p3).hi.s) (u4 := .slice A15 n15 c15) (u5 := .int .i64 (ptI p3).hi.e) a2 (by omega)
            replace e0 := cell_oth6 (g := g9) (u0 := .bool (ptI p3).lo.s) (u1 := .slice A14 n14 c14) (u2 := .int .i64 (ptI p3).lo.e) (u3 := .bool (ptI p3).hi.s) (u4 := .slice A15 n15 c15) (u5 := .int .i64 (ptI p3).hi.e) e0 (by omega)
            replace e1 := cell_oth6 (g := g9) (u0 := .bool (ptI p3).lo.s) (u1 := .slice A14 n14 c14) (u2 := .int .i64 (ptI p3).lo.e) (u3 := .bool (ptI p3).hi.s) (u4 := .slice A15 n15 c15) (u5 := .int .i64 (ptI p3).hi.e) e1 (by omega)
            replace e2 := cell_oth6 (g := g9) (u0 := .bool (ptI p3).lo.s) (u1 := .slice A14 n14 c14) (u2 := .int .i64 (ptI p3).lo.e) (u3 := .bool (ptI p3).hi.s) (u4 := .slice A15 n15 c15) (u5 := .int .i64 (ptI p3).hi.e) e2 (by omega)
            replace h14 := h14.put6 p9 (.bool (ptI p3).lo.s) (.slice A14 n14 c14) (.int .i64 (ptI p3).lo.e) (.bool (ptI p3).hi.s) (.slice A15 n15 c15) (.int .i64 (ptI p3).hi.e)
            replace h15 := h15.put6 p9 (.bool (ptI p3).lo.s) (.slice A14 n14 c14) (.int .i64 (ptI p3).lo.e) (.bool (ptI p3).hi.s) (.slice A15 n15 c15) (.int .i64 (ptI p3).hi.e)
            replace BB := below_put6 (g := g9) BB gl9 (.bool (ptI p3).lo.s) (.slice A14 n14 c14) (.int .i64 (ptI p3).lo.e) (.bool (ptI p3).hi.s) (.slice A15 n15 c15) (.int .i64 (ptI p3).hi.e)
            replace p9 := p9.put (ptI p3).lo.s A14 n14 c14 (ptI p3).lo.e (ptI p3).hi.s A15 n15 c15 (ptI p3).hi.e
            clear f0_ f1_ f2_ f3_ f4_ f5_ z0 z1 z2 z3 z4 z5
            generalize (((((u_4.setCell ⟨g9, 0, none⟩ (.bool (ptI p3).lo.s)).setCell ⟨g9, 1, none⟩ (.slice A14 n14 c14)).setCell ⟨g9, 2, none⟩ (.int .i64 (ptI p3).lo.e)).setCell ⟨g9, 3, none⟩ (.bool (ptI p3).hi.s)).setCell ⟨g9, 4, none⟩ (.slice A15 n15 c15)).setCell ⟨g9, 5, none⟩ (.int .i64 (ptI p3).hi.e) = u_5 at *
            refine hK.out _ _ (by exact ⟨a0, a1, a2, e0, e1, e2⟩) (fun hHelds5 => ?_)
            clear hK K hHelds4
            try simp only [Act.put]
            refine wpAnyH_take (i := 10) (v := ?s50v10) rfl (by kernel_rfl) (by kernel_rfl) (by kernel_rfl) (fun _ _ _ h => panic_put (P := Tryz.prog) (fn := Tryz.f6) (R := (fun en w' => ToldEnd w en w')) h) (Or.inl ⟨by rfl, ?s50y10⟩) (by assumption) ?_
            case s50y10 => (intro w hSw; (try dsimp only at hSw); go_simp); try with_reducible rfl
            change wpAnyH _ _ _ _ _ _ _ (Act.put _ (some 10) _) _
            simp only [Act.put, List.setIfInBounds_toArray, List.set_cons_zero, List.set_cons_succ]
            refine wpAnyH_done (by kernel_rfl) ?_ _
            go_wp2_with fail
            go_meet
            case rel => exact ⟨g9, A14, n14, c14, A15, n15, c15, rfl, rfl, p9, h14, h15, BB⟩
        · go_simp
          have gl9 : W5_.heap.size ≤ wd.heap.size := BB.size
          have gy9 : w.heap.size + 1 < wd.heap.size := World.block_lt_of_cell? _ _ e0
          have p9 := Ibx.new wd false none 0 0 0 false none 0 0 0
          have b := below_alloc wd (.cells #[.bool false, .slice none 0 0, .int .i64 0, .bool false, .slice none 0 0, .int .i64 0] 26)
          replace BB := bnx BB b rfl rfl rfl rfl
          have G := mv b rfl (J9 hT h1 h2 a0 a1 a2 e0 e1 e2)
          clear b hT h1 h2 a0 a1 a2 e0 e1 e2
          obtain ⟨hT, h1, h2, a0, a1, a2, e0, e1, e2⟩ := G
          generalize wd.alloc (.cells #[.bool false, .slice none 0 0, .int .i64 0, .bool false, .slice none 0 0, .int .i64 0] 26) = u_1 at *
          generalize wd.heap.size = g9 at *
          refine hK.out _ _ (by exact ⟨a0, a1, a2, e0, e1, e2⟩) (fun hHelds1 => ?_)
          clear hK K hHelds0
          try simp only [Act.put]
          refine wpAnyH_ready (rs := [1]) (by kernel_rfl) (by simp) ?_
          refine AllReadyH.cons (o := _) rfl (fun K hK => ?_) (AllReadyH.nil)
          go_simp
          refine (show Calls _ _ _ _ (GivI (ptI a) _) from iof_any (a := a) h1 Z1.out).mono ?_
          rintro en u_2 ⟨A60, n60, c60, A61, n61, c61, rfl, h60, h61, b⟩
          replace BB := bnx BB b rfl rfl rfl rfl
          have G := mv b rfl (J10 hT h1 h2 a0 a1 a2 e0 e1 e2 p9)
          clear b hT h1 h2 a0 a1 a2 e0 e1 e2 p9
          obtain ⟨hT, h1, h2, a0, a1, a2, e0, e1, e2, p9⟩ := G
          refine hK.out _ _ (by exact ⟨a0, a1, a2, e0, e1, e2⟩) (fun hHelds2 => ?_)
          clear hK K hHelds1
          try simp only [Act.put]
          refine wpAnyH_ready (rs := [3]) (by kernel_rfl) (by simp) ?_
          refine AllReadyH.cons (o := _) rfl (fun K hK => ?_) (AllReadyH.nil)
          go_simp
          refine (show Calls _ _ _ _ (GivI (ptI b) _) from iof_any (a := b) h2 Z2.out).mono ?_
          rintro en u_3 ⟨A62, n62, c62, A63, n63, c63, rfl, h62, h63, b⟩
          replace BB := bnx BB b rfl rfl rfl rfl
          have G := mv b rfl (J12 hT h1 h2 a0 a1 a2 e0 e1 e2 p9 h60 h61)
          clear b hT h1 h2 a0 a1 a2 e0 e1 e2 p9 h60 h61
          obtain ⟨hT, h1, h2, a0, a1, a2, e0, e1, e2, p9, h60, h61⟩ := G
          refine hK.out _ _ (by exact ⟨a0, a1, a2, e0, e1, e2⟩) (fun hHelds3 => ?_)
          clear hK K hHelds2
          try simp only [Act.put]
          refine wpAnyH_ready (rs := [4]) (by kernel_rfl) (by simp) ?_
          refine AllReadyH.cons (o := _) rfl (fun K hK => ?_) (AllReadyH.nil)
          go_simp
          refine (show Calls _ _ _ _ (TellI 0 (ptI p3) _) from by have := amul_any S (x := ptI a) (y := ptI b) (p := 600) hT h60 h61 h62 h63; rwa [KM.out] at this).mono ?_
          rintro en u_4 ⟨A14, n14, c14, A15, n15, c15, rfl, h14, h15, b⟩
          clear h60 h61 h62 h63
          replace BB := bnx BB b rfl rfl rfl rfl
          have G := mv b rfl (J10 hT h1 h2 a0 a1 a2 e0 e1 e2 p9)
          clear b hT h1 h2 a0 a1 a2 e0 e1 e2 p9
          obtain ⟨hT, h1, h2, a0, a1, a2, e0, e1, e2, p9⟩ := G
          refine hK.out _ _ (by exact ⟨a0, a1, a2, e0, e1, e2⟩) (fun hHelds4 => ?_)
          clear hK K hHelds3
          try simp only [Act.put]
          refine wpAnyH_take (i := 5) (v := ?s51v5) rfl (by kernel_rfl) (by kernel_rfl) (by kernel_rfl) (fun _ _ _ h => panic_put (P := Tryz.prog) (fn := Tryz.f6) (R := (fun en w' => ToldEnd w en w')) h) (Or.inl ⟨by rfl, ?s51y5⟩) (by assumption) ?_
          case s51y5 => (intro w hSw; (try dsimp only at hSw); go_simp); try with_reducible rfl
          change wpAnyH _ _ _ _ _ _ _ (Act.put _ (some 80) _) _
          simp only [Act.put, List.setIfInBounds_toArray, List.set_cons_zero, List.set_cons_succ]
          refine wpAnyH_take (i := 6) (v := ?s52v6) rfl (by kernel_rfl) (by kernel_rfl) (by kernel_rfl) (fun _ _ _ h => panic_put (P := Tryz.prog) (fn := Tryz.f6) (R := (fun en w' => ToldEnd w en w')) h) (Or.inl ⟨by rfl, ?s52y6⟩) (by assumption) ?_
          case s52y6 => (intro w hSw; (try dsimp only at hSw); go_simp); try with_reducible rfl
          change wpAnyH _ _ _ _ _ _ _ (Act.put _ (some 86) _) _
          simp only [Act.put, List.setIfInBounds_toArray, List.set_cons_zero, List.set_cons_succ]
          refine wpAnyH_take (i := 7) (v := ?s53v7) rfl (by kernel_rfl) (by kernel_rfl) (by kernel_rfl) (fun _ _ _ h => panic_put (P := Tryz.prog) (fn := Tryz.f6) (R := (fun en w' => ToldEnd w en w')) h) (Or.inl ⟨by rfl, ?s53y7⟩) (by assumption) ?_
          case s53y7 => (intro w hSw; (try dsimp only at hSw); go_simp); try with_reducible rfl
          change wpAnyH _ _ _ _ _ _ _ (Act.put _ (some 87) _) _
          simp only [Act.put, List.setIfInBounds_toArray, List.set_cons_zero, List.set_cons_succ]
          refine wpAnyH_ready (rs := [9]) (by kernel_rfl) (by simp) ?_
          refine AllReadyH.cons (o := _) rfl (fun K hK => ?_) (AllReadyH.nil)
          obtain ⟨f0_, f1_, f2_, f3_, f4_, f5_⟩ := p9.open
          obtain ⟨z0, z1, z2, z3, z4, z5⟩ := p9.held
          go_simp
          clear hT h1 h2
          replace a0 := cell_oth6 (g := g9) (u0 := .bool (ptI p3).lo.s) (u1 := .slice A14 n14 c14) (u2 := .int .i64 (ptI p3).lo.e) (u3 := .bool (ptI p3).hi.s) (u4 := .slice A15 n15 c15) (u5 := .int .i64 (ptI p3).hi.e) a0 (by omega)
          replace a1 := cell_oth6 (g := g9) (u0 := .bool (ptI p3).lo.s) (u1 := .slice A14 n14 c14) (u2 := .int .i64 (ptI p3).lo.e) (u3 := .bool (ptI p3).hi.s) (u4 := .slice A15 n15 c15) (u5 := .int .i64 (ptI p3).hi.e) a1 (by omega)
          replace a2 := cell_oth6 (g := g9) (u0 := .bool (ptI p3).lo.s) (u1 := .slice A14 n14 c14) (u2 := .int .i64 (ptI p3).lo.e) (u3 := .bool (ptI p3).hi.s) (u4 := .slice A15 n15 c15) (u5 := .int .i64 (ptI p3).hi.e) a2 (by omega)
          replace e0 := cell_oth6 (g := g9) (u0 := .bool (ptI p3).lo.s) (u1 := .slice A14 n14 c14) (u2 := .int .i64 (ptI p3).lo.e) (u3 := .bool (ptI p3).hi.s) (u4 := .slice A15 n15 c15) (u5 := .int .i64 (ptI p3).hi.e) e0 (by omega)
          replace e1 := cell_oth6 (g := g9) (u0 := .bool (ptI p3).lo.s) (u1 := .slice A14 n14 c14) (u2 := .int .i64 (ptI p3).lo.e) (u3 := .bool (ptI p3).hi.s) (u4 := .slice A15 n15 c15) (u5 := .int .i64 (ptI p3).hi.e) e1 (by omega)
          replace e2 := cell_oth6 (g := g9) (u0 := .bool (ptI p3).lo.s) (u1 := .slice A14 n14 c14) (u2 := .int .i64 (ptI p3).lo.e) (u3 := .bool (ptI p3).hi.s) (u4 := .slice A15 n15 c15) (u5 := .int .i64 (ptI p3).hi.e) e2 (by omega)
          replace h14 := h14.put6 p9 (.bool (ptI p3).lo.s) (.slice A14 n14 c14) (.int .i64 (ptI p3).lo.e) (.bool (ptI p3).hi.s) (.slice A15 n15 c15) (.int .i64 (ptI p3).hi.e)
          replace h15 := h15.put6 p9 (.bool (ptI p3).lo.s) (.slice A14 n14 c14) (.int .i64 (ptI p3).lo.e) (.bool (ptI p3).hi.s) (.slice A15 n15 c15) (.int .i64 (ptI p3).hi.e)
          replace BB := below_put6 (g := g9) BB gl9 (.bool (ptI p3).lo.s) (.slice A14 n14 c14) (.int .i64 (ptI p3).lo.e) (.bool (ptI p3).hi.s) (.slice A15 n15 c15) (.int .i64 (ptI p3).hi.e)
          replace p9 := p9.put (ptI p3).lo.s A14 n14 c14 (ptI p3).lo.e (ptI p3).hi.s A15 n15 c15 (ptI p3).hi.e
          clear f0_ f1_ f2_ f3_ f4_ f5_ z0 z1 z2 z3 z4 z5
          generalize (((((u_4.setCell ⟨g9, 0, none⟩ (.bool (ptI p3).lo.s)).setCell ⟨g9, 1, none⟩ (.slice A14 n14 c14)).setCell ⟨g9, 2, none⟩ (.int .i64 (ptI p3).lo.e)).setCell ⟨g9, 3, none⟩ (.bool (ptI p3).hi.s)).setCell ⟨g9, 4, none⟩ (.slice A15 n15 c15)).setCell ⟨g9, 5, none⟩ (.int .i64 (ptI p3).hi.e) = u_5 at *
          refine hK.out _ _ (by exact ⟨a0, a1, a2, e0, e1, e2⟩) (fun hHelds5 => ?_)
          clear hK K hHelds4
          try simp only [Act.put]
          refine wpAnyH_take (i := 10) (v := ?s54v10) rfl (by kernel_rfl) (by kernel_rfl) (by kernel_rfl) (fun _ _ _ h => panic_put (P := Tryz.prog) (fn := Tryz.f6) (R := (fun en w' => ToldEnd w en w')) h) (Or.inl ⟨by rfl, ?s54y10⟩) (by assumption) ?_
          case s54y10 => (intro w hSw; (try dsimp only at hSw); go_simp); try with_reducible rfl
          change wpAnyH _ _ _ _ _ _ _ (Act.put _ (some 10) _) _
          simp only [Act.put, List.setIfInBounds_toArray, List.set_cons_zero, List.set_cons_succ]
          refine wpAnyH_done (by kernel_rfl) ?_ _
          go_wp2_with fail
          go_meet
          case rel => exact ⟨g9, A14, n14, c14, A15, n15, c15, rfl, rfl, p9, h14, h15, BB⟩
      case rest => as_aux_lemma =>
        obtain ⟨g5_, A14, n14, c14, A15, n15, c15, rfl, rfl, X5, h14, h15, b⟩ := hcut
        replace BB := bnx BB b rfl rfl rfl rfl
        have G := mv b rfl (J15 a0 a1 a2 e0 e1 e2 hT h1 h2 X3 h10 h11 X4 h12 h13)
        clear b a0 a1 a2 e0 e1 e2 hT h1 h2 X3 h10 h11 X4 h12 h13
        obtain ⟨a0, a1, a2, e0, e1, e2, hT, h1, h2, X3, h10, h11, X4, h12, h13⟩ := G
        generalize wc = V5_ at *
        go_wp2_with fail
        refine (show Calls _ _ _ _ (GivI (ptI a) _) from iof_any (a := a) h1 Z1.out).mono ?_
        rintro en w3 ⟨A60, n60, c60, A61, n61, c61, rfl, h60, h61, b⟩
        replace BB := bnx BB b rfl rfl rfl rfl
        have G := mv b rfl (J18 a0 a1 a2 e0 e1 e2 hT h1 h2 X3 h10 h11 X4 h12 h13 X5 h14 h15)
        clear b a0 a1 a2 e0 e1 e2 hT h1 h2 X3 h10 h11 X4 h12 h13 X5 h14 h15
        obtain ⟨a0, a1, a2, e0, e1, e2, hT, h1, h2, X3, h10, h11, X4, h12, h13, X5, h14, h15⟩ := G
        go_wp2_with fail
        refine (show Calls _ _ _ _ (TellI 0 (ptI p4) _) from by have := asqr_any S (x := ptI a) (p := 600) hT h60 h61; rwa [KQ.out] at this).mono ?_
        rintro en r6 ⟨A16, n16, c16, A17, n17, c17, rfl, h16, h17, b⟩
        clear h60 h61
        replace BB := bnx BB b rfl rfl rfl rfl
        have G := mv b rfl (J18 a0 a1 a2 e0 e1 e2 hT h1 h2 X3 h10 h11 X4 h12 h13 X5 h14 h15)
        clear b a0 a1 a2 e0 e1 e2 hT h1 h2 X3 h10 h11 X4 h12 h13 X5 h14 h15
        obtain ⟨a0, a1, a2, e0, e1, e2, hT, h1, h2, X3, h10, h11, X4, h12, h13, X5, h14, h15⟩ := G
        have Xr6 := Ibx.new r6 (ptI p4).lo.s A16 n16 c16 (ptI p4).lo.e (ptI p4).hi.s A17 n17 c17 (ptI p4).hi.e
        have b := below_alloc r6 (.cells #[.bool (ptI p4).lo.s, .slice A16 n16 c16, .int .i64 (ptI p4).lo.e, .bool (ptI p4).hi.s, .slice A17 n17 c17, .int .i64 (ptI p4).hi.e] 26)
        replace BB := bnx BB b rfl rfl rfl rfl
        have G := mv b rfl (J20 a0 a1 a2 e0 e1 e2 hT h1 h2 X3 h10 h11 X4 h12 h13 X5 h14 h15 h16 h17)
        clear b a0 a1 a2 e0 e1 e2 hT h1 h2 X3 h10 h11 X4 h12 h13 X5 h14 h15 h16 h17
        obtain ⟨a0, a1, a2, e0, e1, e2, hT, h1, h2, X3, h10, h11, X4, h12, h13, X5, h14, h15, h16, h17⟩ := G
        go_wp2_with fail
        refine (show Calls _ _ _ _ (GivI (ptI a) _) from iof_any (a := a) h1 Z1.out).mono ?_
        rintro en w5 ⟨A60, n60, c60, A61, n61, c61, rfl, h60, h61, b⟩
        replace BB := bnx BB b rfl rfl rfl rfl
        have G := mv b rfl (J21 a0 a1 a2 e0 e1 e2 hT h1 h2 X3 h10 h11 X4 h12 h13 X5 h14 h15 h16 h17 Xr6)
        clear b a0 a1 a2 e0 e1 e2 hT h1 h2 X3 h10 h11 X4 h12 h13 X5 h14 h15 h16 h17 Xr6
        obtain ⟨a0, a1, a2, e0, e1, e2, hT, h1, h2, X3, h10, h11, X4, h12, h13, X5, h14, h15, h16, h17, Xr6⟩ := G
        go_wp2_with fail
        refine (show Calls _ _ _ _ (TellI 0 (ptI p5) _) from by have := aneg_any S (x := ptI a) (p := 600) hT h60 h61; rwa [KN.out] at this).mono ?_
        rintro en r7 ⟨A18, n18, c18, A19, n19, c19, rfl, h18, h19, b⟩
        clear h60 h61
        replace BB := bnx BB b rfl rfl rfl rfl
        have G := mv b rfl (J21 a0 a1 a2 e0 e1 e2 hT h1 h2 X3 h10 h11 X4 h12 h13 X5 h14 h15 h16 h17 Xr6)
        clear b a0 a1 a2 e0 e1 e2 hT h1 h2 X3 h10 h11 X4 h12 h13 X5 h14 h15 h16 h17 Xr6
        obtain ⟨a0, a1, a2, e0, e1, e2, hT, h1, h2, X3, h10, h11, X4, h12, h13, X5, h14, h15, h16, h17, Xr6⟩ := G
        have Xr7 := Ibx.new r7 (ptI p5).lo.s A18 n18 c18 (ptI p5).lo.e (ptI p5).hi.s A19 n19 c19 (ptI p5).hi.e
        have b := below_alloc r7 (.cells #[.bool (ptI p5).lo.s, .slice A18 n18 c18, .int .i64 (ptI p5).lo.e, .bool (ptI p5).hi.s, .slice A19 n19 c19, .int .i64 (ptI p5).hi.e] 26)
        replace BB := bnx BB b rfl rfl rfl rfl
        have G := mv b rfl (J23 a0 a1 a2 e0 e1 e2 hT h1 h2 X3 h10 h11 X4 h12 h13 X5 h14 h15 h16 h17 Xr6 h18 h19)
        clear b a0 a1 a2 e0 e1 e2 hT h1 h2 X3 h10 h11 X4 h12 h13 X5 h14 h15 h16 h17 Xr6 h18 h19
        obtain ⟨a0, a1, a2, e0, e1, e2, hT, h1, h2, X3, h10, h11, X4, h12, h13, X5, h14, h15, h16, h17, Xr6, h18, h19⟩ := G
        go_wp2_with fail
        refine (told_c E1.out.1 (dadd_raw (s1 := a.s) (e1 := a.e) (s2 := b.s) (e2 := b.e) S.big hT h1 h2) (add_told HMa.out HMb.out E1.out.1 E1.out.2.1)).mono ?_
        rintro en r8 ⟨A20, n20, c20, rfl, h20, b⟩
        replace BB := bnx BB b rfl rfl rfl rfl
        have G := mv b rfl (J24 a0 a1 a2 e0 e1 e2 hT h1 h2 X3 h10 h11 X4 h12 h13 X5 h14 h15 h16 h17 Xr6 h18 h19 Xr7)
        clear b a0 a1 a2 e0 e1 e2 hT h1 h2 X3 h10 h11 X4 h12 h13 X5 h14 h15 h16 h17 Xr6 h18 h19 Xr7
        obtain ⟨a0, a1, a2, e0, e1, e2, hT, h1, h2, X3, h10, h11, X4, h12, h13, X5, h14, h15, h16, h17, Xr6, h18, h19, Xr7⟩ := G
        have Dr8 := Box.new r8 p1.s A20 n20 c20 p1.e
        have b := below_alloc r8 (.cells #[.bool p1.s, .slice A20 n20 c20, .int .i64 p1.e] 24)
        replace BB := bnx BB b rfl rfl rfl rfl
        have G := mv b rfl (J25 a0 a1 a2 e0 e1 e2 hT h1 h2 X3 h10 h11 X4 h12 h13 X5 h14 h15 h16 h17 Xr6 h18 h19 Xr7 h20)
        clear b a0 a1 a2 e0 e1 e2 hT h1 h2 X3 h10 h11 X4 h12 h13 X5 h14 h15 h16 h17 Xr6 h18 h19 Xr7 h20
        obtain ⟨a0, a1, a2, e0, e1, e2, hT, h1, h2, X3, h10, h11, X4, h12, h13, X5, h14, h15, h16, h17, Xr6, h18, h19, Xr7, h20⟩ := G
        go_wp2_with fail
        refine (told_c E2.out.1 (dsub_raw (s1 := a.s) (e1 := a.e) (s2 := b.s) (e2 := b.e) S.big hT h1 h2) (sub_told HMa.out HMb.out E2.out.1 E2.out.2.1)).mono ?_
        rintro en r9 ⟨A21, n21, c21, rfl, h21, b⟩
        replace BB := bnx BB b rfl rfl rfl rfl
        have G := mv b rfl (J26 a0 a1 a2 e0 e1 e2 hT h1 h2 X3 h10 h11 X4 h12 h13 X5 h14 h15 h16 h17 Xr6 h18 h19 Xr7 h20 Dr8)
        clear b a0 a1 a2 e0 e1 e2 hT h1 h2 X3 h10 h11 X4 h12 h13 X5 h14 h15 h16 h17 Xr6 h18 h19 Xr7 h20 Dr8
        obtain ⟨a0, a1, a2, e0, e1, e2, hT, h1, h2, X3, h10, h11, X4, h12, h13, X5, h14, h15, h16, h17, Xr6, h18, h19, Xr7, h20, Dr8⟩ := G
        have Dr9 := Box.new r9 p2.s A21 n21 c21 p2.e
        have b := below_alloc r9 (.cells #[.bool p2.s, .slice A21 n21 c21, .int .i64 p2.e] 24)
        replace BB := bnx BB b rfl rfl rfl rfl
        have G := mv b rfl (J27 a0 a1 a2 e0 e1 e2 hT h1 h2 X3 h10 h11 X4 h12 h13 X5 h14 h15 h16 h17 Xr6 h18 h19 Xr7 h20 Dr8 h21)
        clear b a0 a1 a2 e0 e1 e2 hT h1 h2 X3 h10 h11 X4 h12 h13 X5 h14 h15 h16 h17 Xr6 h18 h19 Xr7 h20 Dr8 h21
        obtain ⟨a0, a1, a2, e0, e1, e2, hT, h1, h2, X3, h10, h11, X4, h12, h13, X5, h14, h15, h16, h17, Xr6, h18, h19, Xr7, h20, Dr8, h21⟩ := G
        go_wp2_with fail
        refine (told_c E3.out.1 (dmul_raw (s1 := a.s) (e1 := a.e) (s2 := b.s) (e2 := b.e) hT h1 h2) (mul_told (S := S) HMa.out HMb.out E3.out.1 E3.out.2.1)).mono ?_
        rintro en r10 ⟨A22, n22, c22, rfl, h22, b⟩
        replace BB := bnx BB b rfl rfl rfl rfl
        have G := mv b rfl (J28 a0 a1 a2 e0 e1 e2 hT h1 h2 X3 h10 h11 X4 h12 h13 X5 h14 h15 h16 h17 Xr6 h18 h19 Xr7 h20 Dr8 h21 Dr9)
        clear b a0 a1 a2 e0 e1 e2 hT h1 h2 X3 h10 h11 X4 h12 h13 X5 h14 h15 h16 h17 Xr6 h18 h19 Xr7 h20 Dr8 h21 Dr9
        obtain ⟨a0, a1, a2, e0, e1, e2, hT, h1, h2, X3, h10, h11, X4, h12, h13, X5, h14, h15, h16, h17, Xr6, h18, h19, Xr7, h20, Dr8, h21, Dr9⟩ := G
        have Dr10 := Box.new r10 p3.s A22 n22 c22 p3.e
        have b := below_alloc r10 (.cells #[.bool p3.s, .slice A22 n22 c22, .int .i64 p3.e] 24)
        replace BB := bnx BB b rfl rfl rfl rfl
        have G := mv b rfl (J29 a0 a1 a2 e0 e1 e2 hT h1 h2 X3 h10 h11 X4 h12 h13 X5 h14 h15 h16 h17 Xr6 h18 h19 Xr7 h20 Dr8 h21 Dr9 h22)
        clear b a0 a1 a2 e0 e1 e2 hT h1 h2 X3 h10 h11 X4 h12 h13 X5 h14 h15 h16 h17 Xr6 h18 h19 Xr7 h20 Dr8 h21 Dr9 h22
        obtain ⟨a0, a1, a2, e0, e1, e2, hT, h1, h2, X3, h10, h11, X4, h12, h13, X5, h14, h15, h16, h17, Xr6, h18, h19, Xr7, h20, Dr8, h21, Dr9, h22⟩ := G
        go_wp2_with fail
        refine (told_c E4.out.1 (dmul_raw (s1 := a.s) (e1 := a.e) (s2 := a.s) (e2 := a.e) hT h1 h1) (mul_told (S := S) HMa.out HMa.out E4.out.1 E4.out.2.1)).mono ?_
        rintro en r11 ⟨A23, n23, c23, rfl, h23, b⟩
        replace BB := bnx BB b rfl rfl rfl rfl
        have G := mv b rfl (J30 a0 a1 a2 e0 e1 e2 hT h1 h2 X3 h10 h11 X4 h12 h13 X5 h14 h15 h16 h17 Xr6 h18 h19 Xr7 h20 Dr8 h21 Dr9 h22 Dr10)
        clear b a0 a1 a2 e0 e1 e2 hT h1 h2 X3 h10 h11 X4 h12 h13 X5 h14 h15 h16 h17 Xr6 h18 h19 Xr7 h20 Dr8 h21 Dr9 h22 Dr10
        obtain ⟨a0, a1, a2, e0, e1, e2, hT, h1, h2, X3, h10, h11, X4, h12, h13, X5, h14, h15, h16, h17, Xr6, h18, h19, Xr7, h20, Dr8, h21, Dr9, h22, Dr10⟩ := G
        have Dr11 := Box.new r11 p4.s A23 n23 c23 p4.e
        have b := below_alloc r11 (.cells #[.bool p4.s, .slice A23 n23 c23, .int .i64 p4.e] 24)
        replace BB := bnx BB b rfl rfl rfl rfl
        have G := mv b rfl (J31 a0 a1 a2 e0 e1 e2 hT h1 h2 X3 h10 h11 X4 h12 h13 X5 h14 h15 h16 h17 Xr6 h18 h19 Xr7 h20 Dr8 h21 Dr9 h22 Dr10 h23)
        clear b a0 a1 a2 e0 e1 e2 hT h1 h2 X3 h10 h11 X4 h12 h13 X5 h14 h15 h16 h17 Xr6 h18 h19 Xr7 h20 Dr8 h21 Dr9 h22 Dr10 h23
        obtain ⟨a0, a1, a2, e0, e1, e2, hT, h1, h2, X3, h10, h11, X4, h12, h13, X5, h14, h15, h16, h17, Xr6, h18, h19, Xr7, h20, Dr8, h21, Dr9, h22, Dr10, h23⟩ := G
        obtain ⟨i0, i1, i2, i3, i4, i5⟩ := X3.held
        clear X3
        obtain ⟨j0, j1, j2, j3, j4, j5⟩ := X4.held
        clear X4
        obtain ⟨k0, k1, k2, k3, k4, k5⟩ := X5.held
        clear X5
        obtain ⟨l0, l1, l2, l3, l4, l5⟩ := Xr6.held
        clear Xr6
        obtain ⟨o0, o1, o2, o3, o4, o5⟩ := Xr7.held
        clear Xr7
        obtain ⟨s0, s1, s2⟩ := Dr8.held
        clear Dr8
        obtain ⟨t0, t1, t2⟩ := Dr9.held
        clear Dr9
        obtain ⟨u0, u1, u2⟩ := Dr10.held
        clear Dr10
        obtain ⟨v0, v1, v2⟩ := Dr11.held
        clear Dr11
        clear h2 e0 e1 e2
        have ZL : ∀ {w : World} {c : Rw} {A : Option Addr} {n d : Nat}, c.may = true → Rd w .u64 Go.Proofs.YtcbkhmejlaaieaaGreatDoor.W A n d c.l → n ≤ 10000000000000 := fun hc hr => len_at hr (may_len (mayI_point (K := S.K) hc)).1
        go_wp2_with fail
        have b : Below (r11.alloc (.cells #[.bool p4.s, .slice A23 n23 c23, .int .i64 p4.e] 24)).heap.size (r11.alloc (.cells #[.bool p4.s, .slice A23 n23 c23, .int .i64 p4.e] 24)) (World.drew (r11.alloc (.cells #[.bool p4.s, .slice A23 n23 c23, .int .i64 p4.e] 24))) := below_drewN (Below.refl _ _) 1
        replace BB := bnx BB b rfl rfl rfl rfl
        have G := mv b rfl (J30 a0 a1 a2 hT h1 h10 h11 h12 h13 h14 h15 h16 h17 h18 h19 h20 h21 h22 h23 i0 i1 i2 i3 i4 i5 j0 j1 j2 j3 j4)
        clear a0 a1 a2 hT h1 h10 h11 h12 h13 h14 h15 h16 h17 h18 h19 h20 h21 h22 h23 i0 i1 i2 i3 i4 i5 j0 j1 j2 j3 j4
        obtain ⟨a0, a1, a2, hT, h1, h10, h11, h12, h13, h14, h15, h16, h17, h18, h19, h20, h21, h22, h23, i0, i1, i2, i3, i4, i5, j0, j1, j2, j3, j4⟩ := G
        have G := mv b rfl (J30 j5 k0 k1 k2 k3 k4 k5 l0 l1 l2 l3 l4 l5 o0 o1 o2 o3 o4 o5 s0 s1 s2 t0 t1 t2 u0 u1 u2 v0 v1)
        clear j5 k0 k1 k2 k3 k4 k5 l0 l1 l2 l3 l4 l5 o0 o1 o2 o3 o4 o5 s0 s1 s2 t0 t1 t2 u0 u1 u2 v0 v1
        obtain ⟨j5, k0, k1, k2, k3, k4, k5, l0, l1, l2, l3, l4, l5, o0, o1, o2, o3, o4, o5, s0, s1, s2, t0, t1, t2, u0, u1, u2, v0, v1⟩ := G
        replace v2 := mv b rfl v2
        clear b
        refine wp_region_held_drew (S := fun w' => w'.cell? ⟨g3_, 0, none⟩ = some (.bool (ptI p1).lo.s) ∧ w'.cell? ⟨g3_, 1, none⟩ = some (.slice A10 n10 c10) ∧ w'.cell? ⟨g3_, 2, none⟩ = some (.int .i64 (ptI p1).lo.e) ∧ w'.cell? ⟨g3_, 3, none⟩ = some (.bool (ptI p1).hi.s) ∧ w'.cell? ⟨g3_, 4, none⟩ = some (.slice A11 n11 c11) ∧ w'.cell? ⟨g3_, 5, none⟩ = some (.int .i64 (ptI p1).hi.e) ∧ w'.cell? ⟨g4_, 0, none⟩ = some (.bool (ptI p2).lo.s) ∧ w'.cell? ⟨g4_, 1, none⟩ = some (.slice A12 n12 c12) ∧ w'.cell? ⟨g4_, 2, none⟩ = some (.int .i64 (ptI p2).lo.e) ∧ w'.cell? ⟨g4_, 3, none⟩ = some (.bool (ptI p2).hi.s) ∧ w'.cell? ⟨g4_, 4, none⟩ = some (.slice A13 n13 c13) ∧ w'.cell? ⟨g4_, 5, none⟩ = some (.int .i64 (ptI p2).hi.e) ∧ w'.cell? ⟨g5_, 0, none⟩ = some (.bool (ptI p3).lo.s) ∧ w'.cell? ⟨g5_, 1, none⟩ = some (.slice A14 n14 c14) ∧ w'.cell? ⟨g5_, 2, none⟩ = some (.int .i64 (ptI p3).lo.e) ∧ w'.cell? ⟨g5_, 3, none⟩ = some (.bool (ptI p3).hi.s) ∧ w'.cell? ⟨g5_, 4, none⟩ = some (.slice A15 n15 c15) ∧ w'.cell? ⟨g5_, 5, none⟩ = some (.int .i64 (ptI p3).hi.e) ∧ w'.cell? ⟨r6.heap.size, 0, none⟩ = some (.bool (ptI p4).lo.s) ∧ w'.cell? ⟨r6.heap.size, 1, none⟩ = some (.slice A16 n16 c16) ∧ w'.cell? ⟨r6.heap.size, 2, none⟩ = some (.int .i64 (ptI p4).lo.e) ∧ w'.cell? ⟨r6.heap.size, 3, none⟩ = some (.bool (ptI p4).hi.s) ∧ w'.cell? ⟨r6.heap.size, 4, none⟩ = some (.slice A17 n17 c17) ∧ w'.cell? ⟨r6.heap.size, 5, none⟩ = some (.int .i64 (ptI p4).hi.e) ∧ w'.cell? ⟨r7.heap.size, 0, none⟩ = some (.bool (ptI p5).lo.s) ∧ w'.cell? ⟨r7.heap.size, 1, none⟩ = some (.slice A18 n18 c18) ∧ w'.cell? ⟨r7.heap.size, 2, none⟩ = some (.int .i64 (ptI p5).lo.e) ∧ w'.cell? ⟨r7.heap.size, 3, none⟩ = some (.bool (ptI p5).hi.s) ∧ w'.cell? ⟨r7.heap.size, 4, none⟩ = some (.slice A19 n19 c19) ∧ w'.cell? ⟨r7.heap.size, 5, none⟩ = some (.int .i64 (ptI p5).hi.e) ∧ w'.cell? ⟨r8.heap.size, 0, none⟩ = some (.bool p1.s) ∧ w'.cell? ⟨r8.heap.size, 1, none⟩ = some (.slice A20 n20 c20) ∧ w'.cell? ⟨r8.heap.size, 2, none⟩ = some (.int .i64 p1.e) ∧ w'.cell? ⟨r9.heap.size, 0, none⟩ = some (.bool p2.s) ∧ w'.cell? ⟨r9.heap.size, 1, none⟩ = some (.slice A21 n21 c21) ∧ w'.cell? ⟨r9.heap.size, 2, none⟩ = some (.int .i64 p2.e) ∧ w'.cell? ⟨r10.heap.size, 0, none⟩ = some (.bool p3.s) ∧ w'.cell? ⟨r10.heap.size, 1, none⟩ = some (.slice A22 n22 c22) ∧ w'.cell? ⟨r10.heap.size, 2, none⟩ = some (.int .i64 p3.e) ∧ w'.cell? ⟨r11.heap.size, 0, none⟩ = some (.bool p4.s) ∧ w'.cell? ⟨r11.heap.size, 1, none⟩ = some (.slice A23 n23 c23) ∧ w'.cell? ⟨r11.heap.size, 2, none⟩ = some (.int .i64 p4.e) ∧ w'.cell? ⟨w.heap.size, 0, none⟩ = some (.bool a.s) ∧ w'.cell? ⟨w.heap.size, 1, none⟩ = some (.slice A1 n1 c1) ∧ w'.cell? ⟨w.heap.size, 2, none⟩ = some (.int .i64 a.e)) (by kernel_rfl) (by exact ⟨i0, i1, i2, i3, i4, i5, j0, j1, j2, j3, j4, j5, k0, k1, k2, k3, k4, k5, l0, l1, l2, l3, l4, l5, o0, o1, o2, o3, o4, o5, s0, s1, s2, t0, t1, t2, u0, u1, u2, v0, v1, v2, a0, a1, a2⟩) (fun hHeldz0 => ?_)
        generalize World.drew (r11.alloc (.cells #[.bool p4.s, .slice A23 n23 c23, .int .i64 p4.e] 24)) = wd at *
        refine wpAnyH_ready (rs := [0]) (by kernel_rfl) (by simp) ?_
        refine AllReadyH.cons (o := _) rfl (fun K hK => ?_) AllReadyH.nil
        go_simp
        refine (told6_any hT).mono ?_
        rintro en w' ⟨rfl, b⟩
        replace BB := below_next BB BB.size b (by rfl) (by rfl) (by rfl) (by rfl)
        have G := mv b (by rfl) <| And.intro a0 <| And.intro a1 <| And.intro a2 <| And.intro hT <| And.intro h1 <| And.intro h10 <| And.intro h11 <| And.intro h12 <| And.intro h13 <| And.intro h14 <| And.intro h15 <| And.intro h16 <| And.intro h17 <| And.intro h18 <| And.intro h19 <| And.intro h20 <| And.intro h21 <| And.intro h22 <| And.intro h23 <| And.intro i0 <| And.intro i1 <| And.intro i2 <| And.intro i3 <| And.intro i4 <| And.intro i5 <| And.intro j0 <| And.intro j1 <| And.intro j2 <| And.intro j3 <| j4
        clear a0 a1 a2 hT h1 h10 h11 h12 h13 h14 h15 h16 h17 h18 h19 h20 h21 h22 h23 i0 i1 i2 i3 i4 i5 j0 j1 j2 j3 j4
        obtain ⟨a0, a1, a2, hT, h1, h10, h11, h12, h13, h14, h15, h16, h17, h18, h19, h20, h21, h22, h23, i0, i1, i2, i3, i4, i5, j0, j1, j2, j3, j4⟩ := G
        have G := mv b (by rfl) <| And.intro j5 <| And.intro k0 <| And.intro k1 <| And.intro k2 <| And.intro k3 <| And.intro k4 <| And.intro k5 <| And.intro l0 <| And.intro l1 <| And.intro l2 <| And.intro l3 <| And.intro l4 <| And.intro l5 <| And.intro o0 <| And.intro o1 <| And.intro o2 <| And.intro o3 <| And.intro o4 <| And.intro o5 <| And.intro s0 <| And.intro s1 <| And.intro s2 <| And.intro t0 <| And.intro t1 <| And.intro t2 <| And.intro u0 <| And.intro u1 <| And.intro u2 <| And.intro v0 <| v1
        clear j5 k0 k1 k2 k3 k4 k5 l0 l1 l2 l3 l4 l5 o0 o1 o2 o3 o4 o5 s0 s1 s2 t0 t1 t2 u0 u1 u2 v0 v1
        obtain ⟨j5, k0, k1, k2, k3, k4, k5, l0, l1, l2, l3, l4, l5, o0, o1, o2, o3, o4, o5, s0, s1, s2, t0, t1, t2, u0, u1, u2, v0, v1⟩ := G
        replace v2 := mv b (by rfl) v2
        clear b
        refine hK.out _ _ (by exact ⟨i0, i1, i2, i3, i4, i5, j0, j1, j2, j3, j4, j5, k0, k1, k2, k3, k4, k5, l0, l1, l2, l3, l4, l5, o0, o1, o2, o3, o4, o5, s0, s1, s2, t0, t1, t2, u0, u1, u2, v0, v1, v2, a0, a1, a2⟩) (fun hHeldz1 => ?_)
        clear hK K hHeldz0
        try simp only [Act.put]
        refine wpAnyH_take (i := 1) (v := ?zv1) rfl (by kernel_rfl) (by kernel_rfl) (by kernel_rfl) (fun _ _ _ h => panic_put (P := Tryz.prog) (fn := Tryz.f6) (R := (fun en w' => ToldEnd w en w')) h) (Or.inl ⟨by rfl, ?zy1⟩) (by assumption) ?_
        case zy1 => (intro w hSw; (try dsimp only at hSw); go_simp); try with_reducible rfl
        change wpAnyH _ _ _ _ _ _ _ (Act.put _ (some 125) _) _
        simp only [Act.put, List.setIfInBounds_toArray, List.set_cons_zero, List.set_cons_succ]
        refine wpAnyH_take (i := 2) (v := ?zv2) rfl (by kernel_rfl) (by kernel_rfl) (by kernel_rfl) (fun _ _ _ h => panic_put (P := Tryz.prog) (fn := Tryz.f6) (R := (fun en w' => ToldEnd w en w')) h) (Or.inl ⟨by rfl, ?zy2⟩) (by assumption) ?_
        case zy2 => (intro w hSw; (try dsimp only at hSw); go_simp); try with_reducible rfl
        change wpAnyH _ _ _ _ _ _ _ (Act.put _ (some 126) _) _
        simp only [Act.put, List.setIfInBounds_toArray, List.set_cons_zero, List.set_cons_succ]
        refine wpAnyH_take (i := 3) (v := ?zv3) rfl (by kernel_rfl) (by kernel_rfl) (by kernel_rfl) (fun _ _ _ h => panic_put (P := Tryz.prog) (fn := Tryz.f6) (R := (fun en w' => ToldEnd w en w')) h) (Or.inl ⟨by rfl, ?zy3⟩) (by assumption) ?_
        case zy3 => (intro w hSw; (try dsimp only at hSw); go_simp); try with_reducible rfl
        change wpAnyH _ _ _ _ _ _ _ (Act.put _ (some 127) _) _
        simp only [Act.put, List.setIfInBounds_toArray, List.set_cons_zero, List.set_cons_succ]
        refine wpAnyH_take (i := 4) (v := ?zv4) rfl (by kernel_rfl) (by kernel_rfl) (by kernel_rfl) (fun _ _ _ h => panic_put (P := Tryz.prog) (fn := Tryz.f6) (R := (fun en w' => ToldEnd w en w')) h) (Or.inl ⟨by rfl, ?zy4⟩) (by assumption) ?_
        case zy4 => (intro w hSw; (try dsimp only at hSw); go_simp); try with_reducible rfl
        change wpAnyH _ _ _ _ _ _ _ (Act.put _ (some 128) _) _
        simp only [Act.put, List.setIfInBounds_toArray, List.set_cons_zero, List.set_cons_succ]
        refine wpAnyH_take (i := 5) (v := ?zv5) rfl (by kernel_rfl) (by kernel_rfl) (by kernel_rfl) (fun _ _ _ h => panic_put (P := Tryz.prog) (fn := Tryz.f6) (R := (fun en w' => ToldEnd w en w')) h) (Or.inl ⟨by rfl, ?zy5⟩) (by assumption) ?_
        case zy5 => (intro w hSw; (try dsimp only at hSw); go_simp); try with_reducible rfl
        change wpAnyH _ _ _ _ _ _ _ (Act.put _ (some 129) _) _
        simp only [Act.put, List.setIfInBounds_toArray, List.set_cons_zero, List.set_cons_succ]
        refine wpAnyH_take (i := 6) (v := ?zv6) rfl (by kernel_rfl) (by kernel_rfl) (by kernel_rfl) (fun _ _ _ h => panic_put (P := Tryz.prog) (fn := Tryz.f6) (R := (fun en w' => ToldEnd w en w')) h) (Or.inl ⟨by rfl, ?zy6⟩) (by assumption) ?_
        case zy6 => (intro w hSw; (try dsimp only at hSw); go_simp); try with_reducible rfl
        change wpAnyH _ _ _ _ _ _ _ (Act.put _ (some 130) _) _
        simp only [Act.put, List.setIfInBounds_toArray, List.set_cons_zero, List.set_cons_succ]
        refine wpAnyH_take (i := 7) (v := ?zv7) rfl (by kernel_rfl) (by kernel_rfl) (by kernel_rfl) (fun _ _ _ h => panic_put (P := Tryz.prog) (fn := Tryz.f6) (R := (fun en w' => ToldEnd w en w')) h) (Or.inl ⟨by rfl, ?zy7⟩) (by assumption) ?_
        case zy7 => (intro w hSw; (try dsimp only at hSw); go_simp); try with_reducible rfl
        change wpAnyH _ _ _ _ _ _ _ (Act.put _ (some 131) _) _
        simp only [Act.put, List.setIfInBounds_toArray, List.set_cons_zero, List.set_cons_succ]
        refine wpAnyH_take (i := 8) (v := ?zv8) rfl (by kernel_rfl) (by kernel_rfl) (by kernel_rfl) (fun _ _ _ h => panic_put (P := Tryz.prog) (fn := Tryz.f6) (R := (fun en w' => ToldEnd w en w')) h) (Or.inl ⟨by rfl, ?zy8⟩) (by assumption) ?_
        case zy8 => (intro w hSw; (try dsimp only at hSw); go_simp); try with_reducible rfl
        change wpAnyH _ _ _ _ _ _ _ (Act.put _ (some 132) _) _
        simp only [Act.put, List.setIfInBounds_toArray, List.set_cons_zero, List.set_cons_succ]
        refine wpAnyH_take (i := 9) (v := ?zv9) rfl (by kernel_rfl) (by kernel_rfl) (by kernel_rfl) (fun _ _ _ h => panic_put (P := Tryz.prog) (fn := Tryz.f6) (R := (fun en w' => ToldEnd w en w')) h) (Or.inl ⟨by rfl, ?zy9⟩) (by assumption) ?_
        case zy9 => (intro w hSw; (try dsimp only at hSw); go_simp); try with_reducible rfl
        change wpAnyH _ _ _ _ _ _ _ (Act.put _ (some 133) _) _
        simp only [Act.put, List.setIfInBounds_toArray, List.set_cons_zero, List.set_cons_succ]
        refine wpAnyH_take (i := 10) (v := ?zv10) rfl (by kernel_rfl) (by kernel_rfl) (by kernel_rfl) (fun _ _ _ h => panic_put (P := Tryz.prog) (fn := Tryz.f6) (R := (fun en w' => ToldEnd w en w')) h) (Or.inl ⟨by rfl, ?zy10⟩) (by assumption) ?_
        case zy10 => (intro w hSw; (try dsimp only at hSw); go_simp); try with_reducible rfl
        change wpAnyH _ _ _ _ _ _ _ (Act.put _ (some 134) _) _
        simp only [Act.put, List.setIfInBounds_toArray, List.set_cons_zero, List.set_cons_succ]
        refine wpAnyH_take (i := 11) (v := ?zv11) rfl (by kernel_rfl) (by kernel_rfl) (by kernel_rfl) (fun _ _ _ h => panic_put (P := Tryz.prog) (fn := Tryz.f6) (R := (fun en w' => ToldEnd w en w')) h) (Or.inl ⟨by rfl, ?zy11⟩) (by assumption) ?_
        case zy11 => (intro w hSw; (try dsimp only at hSw); go_simp); try with_reducible rfl
        change wpAnyH _ _ _ _ _ _ _ (Act.put _ (some 135) _) _
        simp only [Act.put, List.setIfInBounds_toArray, List.set_cons_zero, List.set_cons_succ]
        refine wpAnyH_take (i := 12) (v := ?zv12) rfl (by kernel_rfl) (by kernel_rfl) (by kernel_rfl) (fun _ _ _ h => panic_put (P := Tryz.prog) (fn := Tryz.f6) (R := (fun en w' => ToldEnd w en w')) h) (Or.inl ⟨by rfl, ?zy12⟩) (by assumption) ?_
        case zy12 => (intro w hSw; (try dsimp only at hSw); go_simp); try with_reducible rfl
        change wpAnyH _ _ _ _ _ _ _ (Act.put _ (some 136) _) _
        simp only [Act.put, List.setIfInBounds_toArray, List.set_cons_zero, List.set_cons_succ]
        refine wpAnyH_take (i := 13) (v := ?zv13) rfl (by kernel_rfl) (by kernel_rfl) (by kernel_rfl) (fun _ _ _ h => panic_put (P := Tryz.prog) (fn := Tryz.f6) (R := (fun en w' => ToldEnd w en w')) h) (Or.inl ⟨by rfl, ?zy13⟩) (by assumption) ?_
        case zy13 => (intro w hSw; (try dsimp only at hSw); go_simp); try with_reducible rfl
        change wpAnyH _ _ _ _ _ _ _ (Act.put _ (some 137) _) _
        simp only [Act.put, List.setIfInBounds_toArray, List.set_cons_zero, List.set_cons_succ]
        refine wpAnyH_take (i := 14) (v := ?zv14) rfl (by kernel_rfl) (by kernel_rfl) (by kernel_rfl) (fun _ _ _ h => panic_put (P := Tryz.prog) (fn := Tryz.f6) (R := (fun en w' => ToldEnd w en w')) h) (Or.inl ⟨by rfl, ?zy14⟩) (by assumption) ?_
        case zy14 => (intro w hSw; (try dsimp only at hSw); go_simp); try with_reducible rfl
        change wpAnyH _ _ _ _ _ _ _ (Act.put _ (some 138) _) _
        simp only [Act.put, List.setIfInBounds_toArray, List.set_cons_zero, List.set_cons_succ]
        refine wpAnyH_take (i := 15) (v := ?zv15) rfl (by kernel_rfl) (by kernel_rfl) (by kernel_rfl) (fun _ _ _ h => panic_put (P := Tryz.prog) (fn := Tryz.f6) (R := (fun en w' => ToldEnd w en w')) h) (Or.inl ⟨by rfl, ?zy15⟩) (by assumption) ?_
        case zy15 => (intro w hSw; (try dsimp only at hSw); go_simp); try with_reducible rfl
        change wpAnyH _ _ _ _ _ _ _ (Act.put _ (some 139) _) _
        simp only [Act.put, List.setIfInBounds_toArray, List.set_cons_zero, List.set_cons_succ]
        refine wpAnyH_take (i := 16) (v := ?zv16) rfl (by kernel_rfl) (by kernel_rfl) (by kernel_rfl) (fun _ _ _ h => panic_put (P := Tryz.prog) (fn := Tryz.f6) (R := (fun en w' => ToldEnd w en w')) h) (Or.inl ⟨by rfl, ?zy16⟩) (by assumption) ?_
        case zy16 => (intro w hSw; (try dsimp only at hSw); go_simp); try with_reducible rfl
        change wpAnyH _ _ _ _ _ _ _ (Act.put _ (some 140) _) _
        simp only [Act.put, List.setIfInBounds_toArray, List.set_cons_zero, List.set_cons_succ]
        refine wpAnyH_take (i := 17) (v := ?zv17) rfl (by kernel_rfl) (by kernel_rfl) (by kernel_rfl) (fun _ _ _ h => panic_put (P := Tryz.prog) (fn := Tryz.f6) (R := (fun en w' => ToldEnd w en w')) h) (Or.inl ⟨by rfl, ?zy17⟩) (by assumption) ?_
        case zy17 => (intro w hSw; (try dsimp only at hSw); go_simp); try with_reducible rfl
        change wpAnyH _ _ _ _ _ _ _ (Act.put _ (some 141) _) _
        simp only [Act.put, List.setIfInBounds_toArray, List.set_cons_zero, List.set_cons_succ]
        refine wpAnyH_take (i := 18) (v := ?zv18) rfl (by kernel_rfl) (by kernel_rfl) (by kernel_rfl) (fun _ _ _ h => panic_put (P := Tryz.prog) (fn := Tryz.f6) (R := (fun en w' => ToldEnd w en w')) h) (Or.inl ⟨by rfl, ?zy18⟩) (by assumption) ?_
        case zy18 => (intro w hSw; (try dsimp only at hSw); go_simp); try with_reducible rfl
        change wpAnyH _ _ _ _ _ _ _ (Act.put _ (some 142) _) _
        simp only [Act.put, List.setIfInBounds_toArray, List.set_cons_zero, List.set_cons_succ]
        refine wpAnyH_take (i := 19) (v := ?zv19) rfl (by kernel_rfl) (by kernel_rfl) (by kernel_rfl) (fun _ _ _ h => panic_put (P := Tryz.prog) (fn := Tryz.f6) (R := (fun en w' => ToldEnd w en w')) h) (Or.inl ⟨by rfl, ?zy19⟩) (by assumption) ?_
        case zy19 => (intro w hSw; (try dsimp only at hSw); go_simp); try with_reducible rfl
        change wpAnyH _ _ _ _ _ _ _ (Act.put _ (some 143) _) _
        simp only [Act.put, List.setIfInBounds_toArray, List.set_cons_zero, List.set_cons_succ]
        refine wpAnyH_take (i := 20) (v := ?zv20) rfl (by kernel_rfl) (by kernel_rfl) (by kernel_rfl) (fun _ _ _ h => panic_put (P := Tryz.prog) (fn := Tryz.f6) (R := (fun en w' => ToldEnd w en w')) h) (Or.inl ⟨by rfl, ?zy20⟩) (by assumption) ?_
        case zy20 => (intro w hSw; (try dsimp only at hSw); go_simp); try with_reducible rfl
        change wpAnyH _ _ _ _ _ _ _ (Act.put _ (some 144) _) _
        simp only [Act.put, List.setIfInBounds_toArray, List.set_cons_zero, List.set_cons_succ]
        refine wpAnyH_take (i := 21) (v := ?zv21) rfl (by kernel_rfl) (by kernel_rfl) (by kernel_rfl) (fun _ _ _ h => panic_put (P := Tryz.prog) (fn := Tryz.f6) (R := (fun en w' => ToldEnd w en w')) h) (Or.inl ⟨by rfl, ?zy21⟩) (by assumption) ?_
        case zy21 => (intro w hSw; (try dsimp only at hSw); go_simp); try with_reducible rfl
        change wpAnyH _ _ _ _ _ _ _ (Act.put _ (some 145) _) _
        simp only [Act.put, List.setIfInBounds_toArray, List.set_cons_zero, List.set_cons_succ]
        refine wpAnyH_take (i := 22) (v := ?zv22) rfl (by kernel_rfl) (by kernel_rfl) (by kernel_rfl) (fun _ _ _ h => panic_put (P := Tryz.prog) (fn := Tryz.f6) (R := (fun en w' => ToldEnd w en w')) h) (Or.inl ⟨by rfl, ?zy22⟩) (by assumption) ?_
        case zy22 => (intro w hSw; (try dsimp only at hSw); go_simp); try with_reducible rfl
        change wpAnyH _ _ _ _ _ _ _ (Act.put _ (some 146) _) _
        simp only [Act.put, List.setIfInBounds_toArray, List.set_cons_zero, List.set_cons_succ]
        refine wpAnyH_take (i := 23) (v := ?zv23) rfl (by kernel_rfl) (by kernel_rfl) (by kernel_rfl) (fun _ _ _ h => panic_put (P := Tryz.prog) (fn := Tryz.f6) (R := (fun en w' => ToldEnd w en w')) h) (Or.inl ⟨by rfl, ?zy23⟩) (by assumption) ?_
        case zy23 => (intro w hSw; (try dsimp only at hSw); go_simp); try with_reducible rfl
        change wpAnyH _ _ _ _ _ _ _ (Act.put _ (some 147) _) _
        simp only [Act.put, List.setIfInBounds_toArray, List.set_cons_zero, List.set_cons_succ]
        refine wpAnyH_ready (rs := [24]) (by kernel_rfl) (by simp) ?_
        refine AllReadyH.cons (o := _) rfl (fun K hK => ?_) AllReadyH.nil
        go_simp
        refine (show Calls _ _ _ _ (GivI (ptI p1) _) from iof_any (a := p1) h20 (ZL E1.out.1 h20)).mono ?_
        rintro en w' ⟨A70, n70, c70, A71, n71, c71, rfl, h70, h71, b⟩
        clear h20
        replace BB := below_next BB BB.size b (by rfl) (by rfl) (by rfl) (by rfl)
        have G := mv b (by rfl) <| And.intro a0 <| And.intro a1 <| And.intro a2 <| And.intro hT <| And.intro h1 <| And.intro h10 <| And.intro h11 <| And.intro h12 <| And.intro h13 <| And.intro h14 <| And.intro h15 <| And.intro h16 <| And.intro h17 <| And.intro h18 <| And.intro h19 <| And.intro h21 <| And.intro h22 <| And.intro h23 <| And.intro i0 <| And.intro i1 <| And.intro i2 <| And.intro i3 <| And.intro i4 <| And.intro i5 <| And.intro j0 <| And.intro j1 <| And.intro j2 <| And.intro j3 <| And.intro j4 <| j5
        clear a0 a1 a2 hT h1 h10 h11 h12 h13 h14 h15 h16 h17 h18 h19 h21 h22 h23 i0 i1 i2 i3 i4 i5 j0 j1 j2 j3 j4 j5
        obtain ⟨a0, a1, a2, hT, h1, h10, h11, h12, h13, h14, h15, h16, h17, h18, h19, h21, h22, h23, i0, i1, i2, i3, i4, i5, j0, j1, j2, j3, j4, j5⟩ := G
        have G := mv b (by rfl) <| And.intro k0 <| And.intro k1 <| And.intro k2 <| And.intro k3 <| And.intro k4 <| And.intro k5 <| And.intro l0 <| And.intro l1 <| And.intro l2 <| And.intro l3 <| And.intro l4 <| And.intro l5 <| And.intro o0 <| And.intro o1 <| And.intro o2 <| And.intro o3 <| And.intro o4 <| And.intro o5 <| And.intro s0 <| And.intro s1 <| And.intro s2 <| And.intro t0 <| And.intro t1 <| And.intro t2 <| And.intro u0 <| And.intro u1 <| And.intro u2 <| And.intro v0 <| And.intro v1 <| v2
        clear k0 k1 k2 k3 k4 k5 l0 l1 l2 l3 l4 l5 o0 o1 o2 o3 o4 o5 s0 s1 s2 t0 t1 t2 u0 u1 u2 v0 v1 v2
        obtain ⟨k0, k1, k2, k3, k4, k5, l0, l1, l2, l3, l4, l5, o0, o1, o2, o3, o4, o5, s0, s1, s2, t0, t1, t2, u0, u1, u2, v0, v1, v2⟩ := G
        clear b
        refine hK.out _ _ (by exact ⟨i0, i1, i2, i3, i4, i5, j0, j1, j2, j3, j4, j5, k0, k1, k2, k3, k4, k5, l0, l1, l2, l3, l4, l5, o0, o1, o2, o3, o4, o5, s0, s1, s2, t0, t1, t2, u0, u1, u2, v0, v1, v2, a0, a1, a2⟩) (fun hHeldz2 => ?_)
        clear hK K hHeldz1
        try simp only [Act.put]
        refine wpAnyH_ready (rs := [25]) (by kernel_rfl) (by simp) ?_
        refine AllReadyH.cons (o := _) rfl (fun K hK => ?_) AllReadyH.nil
        go_simp
        refine (show Calls _ _ _ _ (Bools true _) from by have := isame_any (x := ptI p1) (y := ptI p1) h10 h11 h70 h71; rwa [sameI_iff.2 rfl] at this).mono ?_
        rintro en w' ⟨rfl, b⟩
        clear h70 h71 h10 h11
        replace BB := below_next BB BB.size b (by rfl) (by rfl) (by rfl) (by rfl)
        have G := mv b (by rfl) <| And.intro a0 <| And.intro a1 <| And.intro a2 <| And.intro hT <| And.intro h1 <| And.intro h12 <| And.intro h13 <| And.intro h14 <| And.intro h15 <| And.intro h16 <| And.intro h17 <| And.intro h18 <| And.intro h19 <| And.intro h21 <| And.intro h22 <| And.intro h23 <| And.intro i0 <| And.intro i1 <| And.intro i2 <| And.intro i3 <| And.intro i4 <| And.intro i5 <| And.intro j0 <| And.intro j1 <| And.intro j2 <| And.intro j3 <| And.intro j4 <| And.intro j5 <| And.intro k0 <| k1
        clear a0 a1 a2 hT h1 h12 h13 h14 h15 h16 h17 h18 h19 h21 h22 h23 i0 i1 i2 i3 i4 i5 j0 j1 j2 j3 j4 j5 k0 k1
        obtain ⟨a0, a1, a2, hT, h1, h12, h13, h14, h15, h16, h17, h18, h19, h21, h22, h23, i0, i1, i2, i3, i4, i5, j0, j1, j2, j3, j4, j5, k0, k1⟩ := G
        have G := mv b (by rfl) <| And.intro k2 <| And.intro k3 <| And.intro k4 <| And.intro k5 <| And.intro l0 <| And.intro l1 <| And.intro l2 <| And.intro l3 <| And.intro l4 <| And.intro l5 <| And.intro o0 <| And.intro o1 <| And.intro o2 <| And.intro o3 <| And.intro o4 <| And.intro o5 <| And.intro s0 <| And.intro s1 <| And.intro s2 <| And.intro t0 <| And.intro t1 <| And.intro t2 <| And.intro u0 <| And.intro u1 <| And.intro u2 <| And.intro v0 <| And.intro v1 <| v2
        clear k2 k3 k4 k5 l0 l1 l2 l3 l4 l5 o0 o1 o2 o3 o4 o5 s0 s1 s2 t0 t1 t2 u0 u1 u2 v0 v1 v2
        obtain ⟨k2, k3, k4, k5, l0, l1, l2, l3, l4, l5, o0, o1, o2, o3, o4, o5, s0, s1, s2, t0, t1, t2, u0, u1, u2, v0, v1, v2⟩ := G
        clear b
        refine hK.out _ _ (by exact ⟨i0, i1, i2, i3, i4, i5, j0, j1, j2, j3, j4, j5, k0, k1, k2, k3, k4, k5, l0, l1, l2, l3, l4, l5, o0, o1, o2, o3, o4, o5, s0, s1, s2, t0, t1, t2, u0, u1, u2, v0, v1, v2, a0, a1, a2⟩) (fun hHeldz3 => ?_)
        clear hK K hHeldz2
        try simp only [Act.put]
        refine wpAnyH_take (i := 26) (v := ?zv26) rfl (by kernel_rfl) (by kernel_rfl) (by kernel_rfl) (fun _ _ _ h => panic_put (P := Tryz.prog) (fn := Tryz.f6) (R := (fun en w' => ToldEnd w en w')) h) (Or.inl ⟨by rfl, ?zy26⟩) (by assumption) ?_
        case zy26 => (intro w hSw; (try dsimp only at hSw); go_simp); try with_reducible rfl
        change wpAnyH _ _ _ _ _ _ _ (Act.put _ (some 150) _) _
        simp only [Act.put, List.setIfInBounds_toArray, List.set_cons_zero, List.set_cons_succ]
        refine wpAnyH_take (i := 27) (v := ?zv27) rfl (by kernel_rfl) (by kernel_rfl) (by kernel_rfl) (fun _ _ _ h => panic_put (P := Tryz.prog) (fn := Tryz.f6) (R := (fun en w' => ToldEnd w en w')) h) (Or.inl ⟨by rfl, ?zy27⟩) (by assumption) ?_
        case zy27 => (intro w hSw; (try dsimp only at hSw); go_simp); try with_reducible rfl
        change wpAnyH _ _ _ _ _ _ _ (Act.put _ (some 151) _) _
        simp only [Act.put, List.setIfInBounds_toArray, List.set_cons_zero, List.set_cons_succ]
        refine wpAnyH_take (i := 28) (v := ?zv28) rfl (by kernel_rfl) (by kernel_rfl) (by kernel_rfl) (fun _ _ _ h => panic_put (P := Tryz.prog) (fn := Tryz.f6) (R := (fun en w' => ToldEnd w en w')) h) (Or.inl ⟨by rfl, ?zy28⟩) (by assumption) ?_
        case zy28 => (intro w hSw; (try dsimp only at hSw); go_simp); try with_reducible rfl
        change wpAnyH _ _ _ _ _ _ _ (Act.put _ (some 152) _) _
        simp only [Act.put, List.setIfInBounds_toArray, List.set_cons_zero, List.set_cons_succ]
        refine wpAnyH_take (i := 29) (v := ?zv29) rfl (by kernel_rfl) (by kernel_rfl) (by kernel_rfl) (fun _ _ _ h => panic_put (P := Tryz.prog) (fn := Tryz.f6) (R := (fun en w' => ToldEnd w en w')) h) (Or.inl ⟨by rfl, ?zy29⟩) (by assumption) ?_
        case zy29 => (intro w hSw; (try dsimp only at hSw); go_simp); try with_reducible rfl
        change wpAnyH _ _ _ _ _ _ _ (Act.put _ (some 153) _) _
        simp only [Act.put, List.setIfInBounds_toArray, List.set_cons_zero, List.set_cons_succ]
        refine wpAnyH_ready (rs := [30]) (by kernel_rfl) (by simp) ?_
        refine AllReadyH.cons (o := _) rfl (fun K hK => ?_) AllReadyH.nil
        go_simp
        refine (show Calls _ _ _ _ (GivI (ptI p2) _) from iof_any (a := p2) h21 (ZL E2.out.1 h21)).mono ?_
        rintro en w' ⟨A70, n70, c70, A71, n71, c71, rfl, h70, h71, b⟩
        clear h21
        replace BB := below_next BB BB.size b (by rfl) (by rfl) (by rfl) (by rfl)
        have G := mv b (by rfl) <| And.intro a0 <| And.intro a1 <| And.intro a2 <| And.intro hT <| And.intro h1 <| And.intro h12 <| And.intro h13 <| And.intro h14 <| And.intro h15 <| And.intro h16 <| And.intro h17 <| And.intro h18 <| And.intro h19 <| And.intro h22 <| And.intro h23 <| And.intro i0 <| And.intro i1 <| And.intro i2 <| And.intro i3 <| And.intro i4 <| And.intro i5 <| And.intro j0 <| And.intro j1 <| And.intro j2 <| And.intro j3 <| And.intro j4 <| And.intro j5 <| And.intro k0 <| And.intro k1 <| k2
        clear a0 a1 a2 hT h1 h12 h13 h14 h15 h16 h17 h18 h19 h22 h23 i0 i1 i2 i3 i4 i5 j0 j1 j2 j3 j4 j5 k0 k1 k2
        obtain ⟨a0, a1, a2, hT, h1, h12, h13, h14, h15, h16, h17, h18, h19, h22, h23, i0, i1, i2, i3, i4, i5, j0, j1, j2, j3, j4, j5, k0, k1, k2⟩ := G
        have G := mv b (by rfl) <| And.intro k3 <| And.intro k4 <| And.intro k5 <| And.intro l0 <| And.intro l1 <| And.intro l2 <| And.intro l3 <| And.intro l4 <| And.intro l5 <| And.intro o0 <| And.intro o1 <| And.intro o2 <| And.intro o3 <| And.intro o4 <| And.intro o5 <| And.intro s0 <| And.intro s1 <| And.intro s2 <| And.intro t0 <| And.intro t1 <| And.intro t2 <| And.intro u0 <| And.intro u1 <| And.intro u2 <| And.intro v0 <| And.intro v1 <| v2
        clear k3 k4 k5 l0 l1 l2 l3 l4 l5 o0 o1 o2 o3 o4 o5 s0 s1 s2 t0 t1 t2 u0 u1 u2 v0 v1 v2
        obtain ⟨k3, k4, k5, l0, l1, l2, l3, l4, l5, o0, o1, o2, o3, o4, o5, s0, s1, s2, t0, t1, t2, u0, u1, u2, v0, v1, v2⟩ := G
        clear b
        refine hK.out _ _ (by exact ⟨i0, i1, i2, i3, i4, i5, j0, j1, j2, j3, j4, j5, k0, k1, k2, k3, k4, k5, l0, l1, l2, l3, l4, l5, o0, o1, o2, o3, o4, o5, s0, s1, s2, t0, t1, t2, u0, u1, u2, v0, v1, v2, a0, a1, a2⟩) (fun hHeldz4 => ?_)
        clear hK K hHeldz3
        try simp only [Act.put]
        refine wpAnyH_ready (rs := [31]) (by kernel_rfl) (by simp) ?_
        refine AllReadyH.cons (o := _) rfl (fun K hK => ?_) AllReadyH.nil
        go_simp
        refine (show Calls _ _ _ _ (Bools true _) from by have := isame_any (x := ptI p2) (y := ptI p2) h12 h13 h70 h71; rwa [sameI_iff.2 rfl] at this).mono ?_
        rintro en w' ⟨rfl, b⟩
        clear h70 h71 h12 h13
        replace BB := below_next BB BB.size b (by rfl) (by rfl) (by rfl) (by rfl)
        have G := mv b (by rfl) <| And.intro a0 <| And.intro a1 <| And.intro a2 <| And.intro hT <| And.intro h1 <| And.intro h14 <| And.intro h15 <| And.intro h16 <| And.intro h17 <| And.intro h18 <| And.intro h19 <| And.intro h22 <| And.intro h23 <| And.intro i0 <| And.intro i1 <| And.intro i2 <| And.intro i3 <| And.intro i4 <| And.intro i5 <| And.intro j0 <| And.intro j1 <| And.intro j2 <| And.intro j3 <| And.intro j4 <| And.intro j5 <| And.intro k0 <| And.intro k1 <| And.intro k2 <| And.intro k3 <| k4
        clear a0 a1 a2 hT h1 h14 h15 h16 h17 h18 h19 h22 h23 i0 i1 i2 i3 i4 i5 j0 j1 j2 j3 j4 j5 k0 k1 k2 k3 k4
        obtain ⟨a0, a1, a2, hT, h1, h14, h15, h16, h17, h18, h19, h22, h23, i0, i1, i2, i3, i4, i5, j0, j1, j2, j3, j4, j5, k0, k1, k2, k3, k4⟩ := G
        have G := mv b (by rfl) <| And.intro k5 <| And.intro l0 <| And.intro l1 <| And.intro l2 <| And.intro l3 <| And.intro l4 <| And.intro l5 <| And.intro o0 <| And.intro o1 <| And.intro o2 <| And.intro o3 <| And.intro o4 <| And.intro o5 <| And.intro s0 <| And.intro s1 <| And.intro s2 <| And.intro t0 <| And.intro t1 <| And.intro t2 <| And.intro u0 <| And.intro u1 <| And.intro u2 <| And.intro v0 <| And.intro v1 <| v2
        clear k5 l0 l1 l2 l3 l4 l5 o0 o1 o2 o3 o4 o5 s0 s1 s2 t0 t1 t2 u0 u1 u2 v0 v1 v2
        obtain ⟨k5, l0, l1, l2, l3, l4, l5, o0, o1, o2, o3, o4, o5, s0, s1, s2, t0, t1, t2, u0, u1, u2, v0, v1, v2⟩ := G
        clear b
        refine hK.out _ _ (by exact ⟨i0, i1, i2, i3, i4, i5, j0, j1, j2, j3, j4, j5, k0, k1, k2, k3, k4, k5, l0, l1, l2, l3, l4, l5, o0, o1, o2, o3, o4, o5, s0, s1, s2, t0, t1, t2, u0, u1, u2, v0, v1, v2, a0, a1, a2⟩) (fun hHeldz5 => ?_)
        clear hK K hHeldz4
        try simp only [Act.put]
        refine wpAnyH_take (i := 32) (v := ?zv32) rfl (by kernel_rfl) (by kernel_rfl) (by kernel_rfl) (fun _ _ _ h => panic_put (P := Tryz.prog) (fn := Tryz.f6) (R := (fun en w' => ToldEnd w en w')) h) (Or.inl ⟨by rfl, ?zy32⟩) (by assumption) ?_
        case zy32 => (intro w hSw; (try dsimp only at hSw); go_simp); try with_reducible rfl
        change wpAnyH _ _ _ _ _ _ _ (Act.put _ (some 156) _) _
        simp only [Act.put, List.setIfInBounds_toArray, List.set_cons_zero, List.set_cons_succ]
        refine wpAnyH_take (i := 33) (v := ?zv33) rfl (by kernel_rfl) (by kernel_rfl) (by kernel_rfl) (fun _ _ _ h => panic_put (P := Tryz.prog) (fn := Tryz.f6) (R := (fun en w' => ToldEnd w en w')) h) (Or.inl ⟨by rfl, ?zy33⟩) (by assumption) ?_
        case zy33 => (intro w hSw; (try dsimp only at hSw); go_simp); try with_reducible rfl
        change wpAnyH _ _ _ _ _ _ _ (Act.put _ (some 157) _) _
        simp only [Act.put, List.setIfInBounds_toArray, List.set_cons_zero, List.set_cons_succ]
        refine wpAnyH_take (i := 34) (v := ?zv34) rfl (by kernel_rfl) (by kernel_rfl) (by kernel_rfl) (fun _ _ _ h => panic_put (P := Tryz.prog) (fn := Tryz.f6) (R := (fun en w' => ToldEnd w en w')) h) (Or.inl ⟨by rfl, ?zy34⟩) (by assumption) ?_
        case zy34 => (intro w hSw; (try dsimp only at hSw); go_simp); try with_reducible rfl
        change wpAnyH _ _ _ _ _ _ _ (Act.put _ (some 158) _) _
        simp only [Act.put, List.setIfInBounds_toArray, List.set_cons_zero, List.set_cons_succ]
        refine wpAnyH_take (i := 35) (v := ?zv35) rfl (by kernel_rfl) (by kernel_rfl) (by kernel_rfl) (fun _ _ _ h => panic_put (P := Tryz.prog) (fn := Tryz.f6) (R := (fun en w' => ToldEnd w en w')) h) (Or.inl ⟨by rfl, ?zy35⟩) (by assumption) ?_
        case zy35 => (intro w hSw; (try dsimp only at hSw); go_simp); try with_reducible rfl
        change wpAnyH _ _ _ _ _ _ _ (Act.put _ (some 159) _) _
        simp only [Act.put, List.setIfInBounds_toArray, List.set_cons_zero, List.set_cons_succ]
        refine wpAnyH_ready (rs := [36]) (by kernel_rfl) (by simp) ?_
        refine AllReadyH.cons (o := _) rfl (fun K hK => ?_) AllReadyH.nil
        go_simp
        refine (show Calls _ _ _ _ (GivI (ptI p3) _) from iof_any (a := p3) h22 (ZL E3.out.1 h22)).mono ?_
        rintro en w' ⟨A70, n70, c70, A71, n71, c71, rfl, h70, h71, b⟩
        clear h22
        replace BB := below_next BB BB.size b (by rfl) (by rfl) (by rfl) (by rfl)
        have G := mv b (by rfl) <| And.intro a0 <| And.intro a1 <| And.intro a2 <| And.intro hT <| And.intro h1 <| And.intro h14 <| And.intro h15 <| And.intro h16 <| And.intro h17 <| And.intro h18 <| And.intro h19 <| And.intro h23 <| And.intro i0 <| And.intro i1 <| And.intro i2 <| And.intro i3 <| And.intro i4 <| And.intro i5 <| And.intro j0 <| And.intro j1 <| And.intro j2 <| And.intro j3 <| And.intro j4 <| And.intro j5 <| And.intro k0 <| And.intro k1 <| And.intro k2 <| And.intro k3 <| And.intro k4 <| k5
        clear a0 a1 a2 hT h1 h14 h15 h16 h17 h18 h19 h23 i0 i1 i2 i3 i4 i5 j0 j1 j2 j3 j4 j5 k0 k1 k2 k3 k4 k5
        obtain ⟨a0, a1, a2, hT, h1, h14, h15, h16, h17, h18, h19, h23, i0, i1, i2, i3, i4, i5, j0, j1, j2, j3, j4, j5, k0, k1, k2, k3, k4, k5⟩ := G
        have G := mv b (by rfl) <| And.intro l0 <| And.intro l1 <| And.intro l2 <| And.intro l3 <| And.intro l4 <| And.intro l5 <| And.intro o0 <| And.intro o1 <| And.intro o2 <| And.intro o3 <| And.intro o4 <| And.intro o5 <| And.intro s0 <| And.intro s1 <| And.intro s2 <| And.intro t0 <| And.intro t1 <| And.intro t2 <| And.intro u0 <| And.intro u1 <| And.intro u2 <| And.intro v0 <| And.intro v1 <| v2
        clear l0 l1 l2 l3 l4 l5 o0 o1 o2 o3 o4 o5 s0 s1 s2 t0 t1 t2 u0 u1 u2 v0 v1 v2
        obtain ⟨l0, l1, l2, l3, l4, l5, o0, o1, o2, o3, o4, o5, s0, s1, s2, t0, t1, t2, u0, u1, u2, v0, v1, v2⟩ := G
        clear b
        refine hK.out _ _ (by exact ⟨i0, i1, i2, i3, i4, i5, j0, j1, j2, j3, j4, j5, k0, k1, k2, k3, k4, k5, l0, l1, l2, l3, l4, l5, o0, o1, o2, o3, o4, o5, s0, s1, s2, t0, t1, t2, u0, u1, u2, v0, v1, v2, a0, a1, a2⟩) (fun hHeldz6 => ?_)
        clear hK K hHeldz5
        try simp only [Act.put]
        refine wpAnyH_ready (rs := [37]) (by kernel_rfl) (by simp) ?_
        refine AllReadyH.cons (o := _) rfl (fun K hK => ?_) AllReadyH.nil
        go_simp
        refine (show Calls _ _ _ _ (Bools true _) from by have := isame_any (x := ptI p3) (y := ptI p3) h14 h15 h70 h71; rwa [sameI_iff.2 rfl] at this).mono ?_
        rintro en w' ⟨rfl, b⟩
        clear h70 h71 h14 h15
        replace BB := below_next BB BB.size b (by rfl) (by rfl) (by rfl) (by rfl)
        have G := mv b (by rfl) <| And.intro a0 <| And.intro a1 <| And.intro a2 <| And.intro hT <| And.intro h1 <| And.intro h16 <| And.intro h17 <| And.intro h18 <| And.intro h19 <| And.intro h23 <| And.intro i0 <| And.intro i1 <| And.intro i2 <| And.intro i3 <| And.intro i4 <| And.intro i5 <| And.intro j0 <| And.intro j1 <| And.intro j2 <| And.intro j3 <| And.intro j4 <| And.intro j5 <| And.intro k0 <| And.intro k1 <| And.intro k2 <| And.intro k3 <| And.intro k4 <| And.intro k5 <| And.intro l0 <| l1
        clear a0 a1 a2 hT h1 h16 h17 h18 h19 h23 i0 i1 i2 i3 i4 i5 j0 j1 j2 j3 j4 j5 k0 k1 k2 k3 k4 k5 l0 l1
        obtain ⟨a0, a1, a2, hT, h1, h16, h17, h18, h19, h23, i0, i1, i2, i3, i4, i5, j0, j1, j2, j3, j4, j5, k0, k1, k2, k3, k4, k5, l0, l1⟩ := G
        have G := mv b (by rfl) <| And.intro l2 <| And.intro l3 <| And.intro l4 <| And.intro l5 <| And.intro o0 <| And.intro o1 <| And.intro o2 <| And.intro o3 <| And.intro o4 <| And.intro o5 <| And.intro s0 <| And.intro s1 <| And.intro s2 <| And.intro t0 <| And.intro t1 <| And.intro t2 <| And.intro u0 <| And.intro u1 <| And.intro u2 <| And.intro v0 <| And.intro v1 <| v2
        clear l2 l3 l4 l5 o0 o1 o2 o3 o4 o5 s0 s1 s2 t0 t1 t2 u0 u1 u2 v0 v1 v2
        obtain ⟨l2, l3, l4, l5, o0, o1, o2, o3, o4, o5, s0, s1, s2, t0, t1, t2, u0, u1, u2, v0, v1, v2⟩ := G
        clear b
        refine hK.out _ _ (by exact ⟨i0, i1, i2, i3, i4, i5, j0, j1, j2, j3, j4, j5, k0, k1, k2, k3, k4, k5, l0, l1, l2, l3, l4, l5, o0, o1, o2, o3, o4, o5, s0, s1, s2, t0, t1, t2, u0, u1, u2, v0, v1, v2, a0, a1, a2⟩) (fun hHeldz7 => ?_)
        clear hK K hHeldz6
        try simp only [Act.put]
        refine wpAnyH_take (i := 38) (v := ?zv38) rfl (by kernel_rfl) (by kernel_rfl) (by kernel_rfl) (fun _ _ _ h => panic_put (P := Tryz.prog) (fn := Tryz.f6) (R := (fun en w' => ToldEnd w en w')) h) (Or.inl ⟨by rfl, ?zy38⟩) (by assumption) ?_
        case zy38 => (intro w hSw; (try dsimp only at hSw); go_simp); try with_reducible rfl
        change wpAnyH _ _ _ _ _ _ _ (Act.put _ (some 162) _) _
        simp only [Act.put, List.setIfInBounds_toArray, List.set_cons_zero, List.set_cons_succ]
        refine wpAnyH_take (i := 39) (v := ?zv39) rfl (by kernel_rfl) (by kernel_rfl) (by kernel_rfl) (fun _ _ _ h => panic_put (P := Tryz.prog) (fn := Tryz.f6) (R := (fun en w' => ToldEnd w en w')) h) (Or.inl ⟨by rfl, ?zy39⟩) (by assumption) ?_
        case zy39 => (intro w hSw; (try dsimp only at hSw); go_simp); try with_reducible rfl
        change wpAnyH _ _ _ _ _ _ _ (Act.put _ (some 163) _) _
        simp only [Act.put, List.setIfInBounds_toArray, List.set_cons_zero, List.set_cons_succ]
        refine wpAnyH_take (i := 40) (v := ?zv40) rfl (by kernel_rfl) (by kernel_rfl) (by kernel_rfl) (fun _ _ _ h => panic_put (P := Tryz.prog) (fn := Tryz.f6) (R := (fun en w' => ToldEnd w en w')) h) (Or.inl ⟨by rfl, ?zy40⟩) (by assumption) ?_
        case zy40 => (intro w hSw; (try dsimp only at hSw); go_simp); try with_reducible rfl
        change wpAnyH _ _ _ _ _ _ _ (Act.put _ (some 164) _) _
        simp only [Act.put, List.setIfInBounds_toArray, List.set_cons_zero, List.set_cons_succ]
        refine wpAnyH_take (i := 41) (v := ?zv41) rfl (by kernel_rfl) (by kernel_rfl) (by kernel_rfl) (fun _ _ _ h => panic_put (P := Tryz.prog) (fn := Tryz.f6) (R := (fun en w' => ToldEnd w en w')) h) (Or.inl ⟨by rfl, ?zy41⟩) (by assumption) ?_
        case zy41 => (intro w hSw; (try dsimp only at hSw); go_simp); try with_reducible rfl
        change wpAnyH _ _ _ _ _ _ _ (Act.put _ (some 165) _) _
        simp only [Act.put, List.setIfInBounds_toArray, List.set_cons_zero, List.set_cons_succ]
        refine wpAnyH_ready (rs := [42]) (by kernel_rfl) (by simp) ?_
        refine AllReadyH.cons (o := _) rfl (fun K hK => ?_) AllReadyH.nil
        go_simp
        refine (show Calls _ _ _ _ (GivI (ptI p4) _) from iof_any (a := p4) h23 (ZL E4.out.1 h23)).mono ?_
        rintro en w' ⟨A70, n70, c70, A71, n71, c71, rfl, h70, h71, b⟩
        clear h23
        replace BB := below_next BB BB.size b (by rfl) (by rfl) (by rfl) (by rfl)
        have G := mv b (by rfl) <| And.intro a0 <| And.intro a1 <| And.intro a2 <| And.intro hT <| And.intro h1 <| And.intro h16 <| And.intro h17 <| And.intro h18 <| And.intro h19 <| And.intro i0 <| And.intro i1 <| And.intro i2 <| And.intro i3 <| And.intro i4 <| And.intro i5 <| And.intro j0 <| And.intro j1 <| And.intro j2 <| And.intro j3 <| And.intro j4 <| And.intro j5 <| And.intro k0 <| And.intro k1 <| And.intro k2 <| And.intro k3 <| And.intro k4 <| And.intro k5 <| And.intro l0 <| And.intro l1 <| l2
        clear a0 a1 a2 hT h1 h16 h17 h18 h19 i0 i1 i2 i3 i4 i5 j0 j1 j2 j3 j4 j5 k0 k1 k2 k3 k4 k5 l0 l1 l2
        obtain ⟨a0, a1, a2, hT, h1, h16, h17, h18, h19, i0, i1, i2, i3, i4, i5, j0, j1, j2, j3, j4, j5, k0, k1, k2, k3, k4, k5, l0, l1, l2⟩ := G
        have G := mv b (by rfl) <| And.intro l3 <| And.intro l4 <| And.intro l5 <| And.intro o0 <| And.intro o1 <| And.intro o2 <| And.intro o3 <| And.intro o4 <| And.intro o5 <| And.intro s0 <| And.intro s1 <| And.intro s2 <| And.intro t0 <| And.intro t1 <| And.intro t2 <| And.intro u0 <| And.intro u1 <| And.intro u2 <| And.intro v0 <| And.intro v1 <| v2
        clear l3 l4 l5 o0 o1 o2 o3 o4 o5 s0 s1 s2 t0 t1 t2 u0 u1 u2 v0 v1 v2
        obtain ⟨l3, l4, l5, o0, o1, o2, o3, o4, o5, s0, s1, s2, t0, t1, t2, u0, u1, u2, v0, v1, v2⟩ := G
        clear b
        refine hK.out _ _ (by exact ⟨i0, i1, i2, i3, i4, i5, j0, j1, j2, j3, j4, j5, k0, k1, k2, k3, k4, k5, l0, l1, l2, l3, l4, l5, o0, o1, o2, o3, o4, o5, s0, s1, s2, t0, t1, t2, u0, u1, u2, v0, v1, v2, a0, a1, a2⟩) (fun hHeldz8 => ?_)
        clear hK K hHeldz7
        try simp only [Act.put]
        refine wpAnyH_ready (rs := [43]) (by kernel_rfl) (by simp) ?_
        refine AllReadyH.cons (o := _) rfl (fun K hK => ?_) AllReadyH.nil
        go_simp
        refine (show Calls _ _ _ _ (Bools true _) from by have := isame_any (x := ptI p4) (y := ptI p4) h16 h17 h70 h71; rwa [sameI_iff.2 rfl] at this).mono ?_
        rintro en w' ⟨rfl, b⟩
        clear h70 h71 h16 h17
        replace BB := below_next BB BB.size b (by rfl) (by rfl) (by rfl) (by rfl)
        have G := mv b (by rfl) <| And.intro a0 <| And.intro a1 <| And.intro a2 <| And.intro hT <| And.intro h1 <| And.intro h18 <| And.intro h19 <| And.intro i0 <| And.intro i1 <| And.intro i2 <| And.intro i3 <| And.intro i4 <| And.intro i5 <| And.intro j0 <| And.intro j1 <| And.intro j2 <| And.intro j3 <| And.intro j4 <| And.intro j5 <| And.intro k0 <| And.intro k1 <| And.intro k2 <| And.intro k3 <| And.intro k4 <| And.intro k5 <| And.intro l0 <| And.intro l1 <| And.intro l2 <| And.intro l3 <| l4
        clear a0 a1 a2 hT h1 h18 h19 i0 i1 i2 i3 i4 i5 j0 j1 j2 j3 j4 j5 k0 k1 k2 k3 k4 k5 l0 l1 l2 l3 l4
        obtain ⟨a0, a1, a2, hT, h1, h18, h19, i0, i1, i2, i3, i4, i5, j0, j1, j2, j3, j4, j5, k0, k1, k2, k3, k4, k5, l0, l1, l2, l3, l4⟩ := G
        have G := mv b (by rfl) <| And.intro l5 <| And.intro o0 <| And.intro o1 <| And.intro o2 <| And.intro o3 <| And.intro o4 <| And.intro o5 <| And.intro s0 <| And.intro s1 <| And.intro s2 <| And.intro t0 <| And.intro t1 <| And.intro t2 <| And.intro u0 <| And.intro u1 <| And.intro u2 <| And.intro v0 <| And.intro v1 <| v2
        clear l5 o0 o1 o2 o3 o4 o5 s0 s1 s2 t0 t1 t2 u0 u1 u2 v0 v1 v2
        obtain ⟨l5, o0, o1, o2, o3, o4, o5, s0, s1, s2, t0, t1, t2, u0, u1, u2, v0, v1, v2⟩ := G
        clear b
        refine hK.out _ _ (by exact ⟨i0, i1, i2, i3, i4, i5, j0, j1, j2, j3, j4, j5, k0, k1, k2, k3, k4, k5, l0, l1, l2, l3, l4, l5, o0, o1, o2, o3, o4, o5, s0, s1, s2, t0, t1, t2, u0, u1, u2, v0, v1, v2, a0, a1, a2⟩) (fun hHeldz9 => ?_)
        clear hK K hHeldz8
        try simp only [Act.put]
        refine wpAnyH_take (i := 44) (v := ?zv44) rfl (by kernel_rfl) (by kernel_rfl) (by kernel_rfl) (fun _ _ _ h => panic_put (P := Tryz.prog) (fn := Tryz.f6) (R := (fun en w' => ToldEnd w en w')) h) (Or.inl ⟨by rfl, ?zy44⟩) (by assumption) ?_
        case zy44 => (intro w hSw; (try dsimp only at hSw); go_simp); try with_reducible rfl
        change wpAnyH _ _ _ _ _ _ _ (Act.put _ (some 168) _) _
        simp only [Act.put, List.setIfInBounds_toArray, List.set_cons_zero, List.set_cons_succ]
        refine wpAnyH_take (i := 45) (v := ?zv45) rfl (by kernel_rfl) (by kernel_rfl) (by kernel_rfl) (fun _ _ _ h => panic_put (P := Tryz.prog) (fn := Tryz.f6) (R := (fun en w' => ToldEnd w en w')) h) (Or.inl ⟨by rfl, ?zy45⟩) (by assumption) ?_
        case zy45 => (intro w hSw; (try dsimp only at hSw); go_simp); try with_reducible rfl
        change wpAnyH _ _ _ _ _ _ _ (Act.put _ (some 169) _) _
        simp only [Act.put, List.setIfInBounds_toArray, List.set_cons_zero, List.set_cons_succ]
        refine wpAnyH_take (i := 46) (v := ?zv46) rfl (by kernel_rfl) (by kernel_rfl) (by kernel_rfl) (fun _ _ _ h => panic_put (P := Tryz.prog) (fn := Tryz.f6) (R := (fun en w' => ToldEnd w en w')) h) (Or.inl ⟨by rfl, ?zy46⟩) (by assumption) ?_
        case zy46 => (intro w hSw; (try dsimp only at hSw); go_simp); try with_reducible rfl
        change wpAnyH _ _ _ _ _ _ _ (Act.put _ (some 170) _) _
        simp only [Act.put, List.setIfInBounds_toArray, List.set_cons_zero, List.set_cons_succ]
        refine wpAnyH_take (i := 47) (v := ?zv47) rfl (by kernel_rfl) (by kernel_rfl) (by kernel_rfl) (fun _ _ _ h => panic_put (P := Tryz.prog) (fn := Tryz.f6) (R := (fun en w' => ToldEnd w en w')) h) (Or.inl ⟨by rfl, ?zy47⟩) (by assumption) ?_
        case zy47 => (intro w hSw; (try dsimp only at hSw); go_simp); try with_reducible rfl
        change wpAnyH _ _ _ _ _ _ _ (Act.put _ (some 171) _) _
        simp only [Act.put, List.setIfInBounds_toArray, List.set_cons_zero, List.set_cons_succ]
        refine wpAnyH_ready (rs := [48]) (by kernel_rfl) (by simp) ?_
        refine AllReadyH.cons (o := _) rfl (fun K hK => ?_) AllReadyH.nil
        go_simp
        refine (show Calls _ _ _ _ (GivQ p5 _) from by rw [HP5.out]; exact (dneg_raw (s1 := a.s) (e1 := a.e) hT h1 Z1.out).mono fun _ _ ⟨A, c, h2, h3, h4⟩ => ⟨A, _, c, h2, h3, h4⟩).mono ?_
        rintro en w' ⟨A72, n72, c72, rfl, h72, b⟩
        clear h1
        replace BB := below_next BB BB.size b (by rfl) (by rfl) (by rfl) (by rfl)
        have G := mv b (by rfl) <| And.intro a0 <| And.intro a1 <| And.intro a2 <| And.intro hT <| And.intro h18 <| And.intro h19 <| And.intro i0 <| And.intro i1 <| And.intro i2 <| And.intro i3 <| And.intro i4 <| And.intro i5 <| And.intro j0 <| And.intro j1 <| And.intro j2 <| And.intro j3 <| And.intro j4 <| And.intro j5 <| And.intro k0 <| And.intro k1 <| And.intro k2 <| And.intro k3 <| And.intro k4 <| And.intro k5 <| And.intro l0 <| And.intro l1 <| And.intro l2 <| And.intro l3 <| And.intro l4 <| l5
        clear a0 a1 a2 hT h18 h19 i0 i1 i2 i3 i4 i5 j0 j1 j2 j3 j4 j5 k0 k1 k2 k3 k4 k5 l0 l1 l2 l3 l4 l5
        obtain ⟨a0, a1, a2, hT, h18, h19, i0, i1, i2, i3, i4, i5, j0, j1, j2, j3, j4, j5, k0, k1, k2, k3, k4, k5, l0, l1, l2, l3, l4, l5⟩ := G
        have G := mv b (by rfl) <| And.intro o0 <| And.intro o1 <| And.intro o2 <| And.intro o3 <| And.intro o4 <| And.intro o5 <| And.intro s0 <| And.intro s1 <| And.intro s2 <| And.intro t0 <| And.intro t1 <| And.intro t2 <| And.intro u0 <| And.intro u1 <| And.intro u2 <| And.intro v0 <| And.intro v1 <| v2
        clear o0 o1 o2 o3 o4 o5 s0 s1 s2 t0 t1 t2 u0 u1 u2 v0 v1 v2
        obtain ⟨o0, o1, o2, o3, o4, o5, s0, s1, s2, t0, t1, t2, u0, u1, u2, v0, v1, v2⟩ := G
        clear b
        refine hK.out _ _ (by exact ⟨i0, i1, i2, i3, i4, i5, j0, j1, j2, j3, j4, j5, k0, k1, k2, k3, k4, k5, l0, l1, l2, l3, l4, l5, o0, o1, o2, o3, o4, o5, s0, s1, s2, t0, t1, t2, u0, u1, u2, v0, v1, v2, a0, a1, a2⟩) (fun hHeldz10 => ?_)
        clear hK K hHeldz9
        try simp only [Act.put]
        refine wpAnyH_ready (rs := [49]) (by kernel_rfl) (by simp) ?_
        refine AllReadyH.cons (o := _) rfl (fun K hK => ?_) AllReadyH.nil
        go_simp
        refine (show Calls _ _ _ _ (GivI (ptI p5) _) from iof_any (a := p5) h72 (ZL E5.out h72)).mono ?_
        rintro en w' ⟨A70, n70, c70, A71, n71, c71, rfl, h70, h71, b⟩
        clear h72
        replace BB := below_next BB BB.size b (by rfl) (by rfl) (by rfl) (by rfl)
        have G := mv b (by rfl) <| And.intro a0 <| And.intro a1 <| And.intro a2 <| And.intro hT <| And.intro h18 <| And.intro h19 <| And.intro i0 <| And.intro i1 <| And.intro i2 <| And.intro i3 <| And.intro i4 <| And.intro i5 <| And.intro j0 <| And.intro j1 <| And.intro j2 <| And.intro j3 <| And.intro j4 <| And.intro j5 <| And.intro k0 <| And.intro k1 <| And.intro k2 <| And.intro k3 <| And.intro k4 <| And.intro k5 <| And.intro l0 <| And.intro l1 <| And.intro l2 <| And.intro l3 <| And.intro l4 <| l5
        clear a0 a1 a2 hT h18 h19 i0 i1 i2 i3 i4 i5 j0 j1 j2 j3 j4 j5 k0 k1 k2 k3 k4 k5 l0 l1 l2 l3 l4 l5
        obtain ⟨a0, a1, a2, hT, h18, h19, i0, i1, i2, i3, i4, i5, j0, j1, j2, j3, j4, j5, k0, k1, k2, k3, k4, k5, l0, l1, l2, l3, l4, l5⟩ := G
        have G := mv b (by rfl) <| And.intro o0 <| And.intro o1 <| And.intro o2 <| And.intro o3 <| And.intro o4 <| And.intro o5 <| And.intro s0 <| And.intro s1 <| And.intro s2 <| And.intro t0 <| And.intro t1 <| And.intro t2 <| And.intro u0 <| And.intro u1 <| And.intro u2 <| And.intro v0 <| And.intro v1 <| v2
        clear o0 o1 o2 o3 o4 o5 s0 s1 s2 t0 t1 t2 u0 u1 u2 v0 v1 v2
        obtain ⟨o0, o1, o2, o3, o4, o5, s0, s1, s2, t0, t1, t2, u0, u1, u2, v0, v1, v2⟩ := G
        clear b
        refine hK.out _ _ (by exact ⟨i0, i1, i2, i3, i4, i5, j0, j1, j2, j3, j4, j5, k0, k1, k2, k3, k4, k5, l0, l1, l2, l3, l4, l5, o0, o1, o2, o3, o4, o5, s0, s1, s2, t0, t1, t2, u0, u1, u2, v0, v1, v2, a0, a1, a2⟩) (fun hHeldz11 => ?_)
        clear hK K hHeldz10
        try simp only [Act.put]
        refine wpAnyH_ready (rs := [50]) (by kernel_rfl) (by simp) ?_
        refine AllReadyH.cons (o := _) rfl (fun K hK => ?_) AllReadyH.nil
        go_simp
        refine (show Calls _ _ _ _ (Bools true _) from by have := isame_any (x := ptI p5) (y := ptI p5) h18 h19 h70 h71; rwa [sameI_iff.2 rfl] at this).mono ?_
        rintro en w' ⟨rfl, b⟩
        clear h70 h71 h18 h19
        replace BB := below_next BB BB.size b (by rfl) (by rfl) (by rfl) (by rfl)
        have G := mv b (by rfl) <| And.intro a0 <| And.intro a1 <| And.intro a2 <| And.intro hT <| And.intro i0 <| And.intro i1 <| And.intro i2 <| And.intro i3 <| And.intro i4 <| And.intro i5 <| And.intro j0 <| And.intro j1 <| And.intro j2 <| And.intro j3 <| And.intro j4 <| And.intro j5 <| And.intro k0 <| And.intro k1 <| And.intro k2 <| And.intro k3 <| And.intro k4 <| And.intro k5 <| And.intro l0 <| And.intro l1 <| And.intro l2 <| And.intro l3 <| And.intro l4 <| And.intro l5 <| And.intro o0 <| o1
        clear a0 a1 a2 hT i0 i1 i2 i3 i4 i5 j0 j1 j2 j3 j4 j5 k0 k1 k2 k3 k4 k5 l0 l1 l2 l3 l4 l5 o0 o1
        obtain ⟨a0, a1, a2, hT, i0, i1, i2, i3, i4, i5, j0, j1, j2, j3, j4, j5, k0, k1, k2, k3, k4, k5, l0, l1, l2, l3, l4, l5, o0, o1⟩ := G
        have G := mv b (by rfl) <| And.intro o2 <| And.intro o3 <| And.intro o4 <| And.intro o5 <| And.intro s0 <| And.intro s1 <| And.intro s2 <| And.intro t0 <| And.intro t1 <| And.intro t2 <| And.intro u0 <| And.intro u1 <| And.intro u2 <| And.intro v0 <| And.intro v1 <| v2
        clear o2 o3 o4 o5 s0 s1 s2 t0 t1 t2 u0 u1 u2 v0 v1 v2
        obtain ⟨o2, o3, o4, o5, s0, s1, s2, t0, t1, t2, u0, u1, u2, v0, v1, v2⟩ := G
        clear b
        refine hK.out _ _ (by exact ⟨i0, i1, i2, i3, i4, i5, j0, j1, j2, j3, j4, j5, k0, k1, k2, k3, k4, k5, l0, l1, l2, l3, l4, l5, o0, o1, o2, o3, o4, o5, s0, s1, s2, t0, t1, t2, u0, u1, u2, v0, v1, v2, a0, a1, a2⟩) (fun hHeldz12 => ?_)
        clear hK K hHeldz11
        try simp only [Act.put]
        refine wpAnyH_take (i := 51) (v := ?zv51) rfl (by kernel_rfl) (by kernel_rfl) (by kernel_rfl) (fun _ _ _ h => panic_put (P := Tryz.prog) (fn := Tryz.f6) (R := (fun en w' => ToldEnd w en w')) h) (Or.inl ⟨by rfl, ?zy51⟩) (by assumption) ?_
        case zy51 => (intro w hSw; (try dsimp only at hSw); go_simp); try with_reducible rfl
        change wpAnyH _ _ _ _ _ _ _ (Act.put _ (some 175) _) _
        simp only [Act.put, List.setIfInBounds_toArray, List.set_cons_zero, List.set_cons_succ]
        refine wpAnyH_take (i := 52) (v := ?zv52) rfl (by kernel_rfl) (by kernel_rfl) (by kernel_rfl) (fun _ _ _ h => panic_put (P := Tryz.prog) (fn := Tryz.f6) (R := (fun en w' => ToldEnd w en w')) h) (Or.inl ⟨by rfl, ?zy52⟩) (by assumption) ?_
        case zy52 => (intro w hSw; (try dsimp only at hSw); go_simp); try with_reducible rfl
        change wpAnyH _ _ _ _ _ _ _ (Act.put _ (some 4) _) _
        simp only [Act.put, List.setIfInBounds_toArray, List.set_cons_zero, List.set_cons_succ]
        refine wpAnyH_done (by kernel_rfl) ?_ _
        go_wp2
        go_ret
        exact ⟨by first | rfl | simp, BB⟩

end Go.Proofs.YtcbkhmejlaaieaaGreatDoor
