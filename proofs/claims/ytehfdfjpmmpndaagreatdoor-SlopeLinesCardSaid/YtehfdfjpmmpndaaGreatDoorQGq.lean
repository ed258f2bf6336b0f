/-
  Contract of the statement SlopeLines's function: it returns true, whatever its arguments, at this translation.
-/
import Derived.StillTailTactics
import Derived.Deep.CutBlock
import Derived.Test.YtehfdfjpmmpndaaGreatDoorQGn
set_option maxHeartbeats 8000000
set_option maxRecDepth 100000
namespace Go.Proofs.YtehfdfjpmmpndaaGreatDoor
open Go.RowKit
variable {w : World}
theorem lin_start (w : World) : LinW w ((w.alloc (.cells #[.slice none 0 0, .slice none 0 0] 25)).alloc (.cells #[.bool false, .slice none 0 0, .int .i64 0, .bool false, .slice none 0 0, .int .i64 0, .slice none 0 0, .slice none 0 0, .slice none 0 0] 33)) (.slice none 0 0) (.slice none 0 0) (.slice none 0 0) [] [] [] :=
 ⟨two_below w _ _, mv (below_alloc _ _) rfl (Blk.new w #[.slice none 0 0, .slice none 0 0] 25), by
  have := Blk.new (w.alloc (.cells #[.slice none 0 0, .slice none 0 0] 25)) #[.bool false, .slice none 0 0, .int .i64 0, .bool false, .slice none 0 0, .int .i64 0, .slice none 0 0, .slice none 0 0, .slice none 0 0] 33
  simpa using this, grow_nil _ _, irow_nil _ _, grow_nil _ _⟩
theorem egh_in (z : Int) : -32 ≤ wrap64 (wrap64 ((IntKind.u64.wrap z).tmod 65) - 32) ∧ wrap64 (wrap64 ((IntKind.u64.wrap z).tmod 65) - 32) ≤ 32 := by
 rw [IntKind.wrap_u64]
 unfold wrap64
 have : 0 ≤ z % 18446744073709551616 := Int.emod_nonneg _ (by decide)
 rw [Int.tmod_eq_emod_of_nonneg this]
 omega
theorem bits_in (z : Int) : 20 ≤ wrap64 (20 + wrap64 ((IntKind.u64.wrap z).tmod 61)) ∧ wrap64 (20 + wrap64 ((IntKind.u64.wrap z).tmod 61)) ≤ 80 := by
 rw [IntKind.wrap_u64]
 unfold wrap64
 have : 0 ≤ z % 18446744073709551616 := Int.emod_nonneg _ (by decide)
 rw [Int.tmod_eq_emod_of_nonneg this]
 omega
theorem rdz_one {g : Nat} {z : Int} (x : Blk w g #[.int .i64 z] 3) : RdZ w (some ⟨g, 0, none⟩) 1 1 (fun _ => z) := ⟨Nat.le_refl 1, by decide, fun _ => ⟨g, 0, rfl, fun i hi => by
 obtain rfl : i = 0 := by omega
 exact x.at 0⟩⟩
theorem wp_run {ops : Array Oper} {rest : List Oper} {o : Oper} {a : Act} {Q : Exit → Act → World → Prop} {w w' : World} {T : TypeId} {v u v' : Value} (hgd : o.guard = none) (s x : Operand)
  (ho : o.op = .call { callee := .builtin .append, args := #[s, x], argTypes := #[T, T] }) (hs : a.eval s = v) (hx : a.eval x = u) (hr : (Builtin.append_ #[T, T] o.type #[v, u]).run Tryz.prog w = .ok v' w')
  (hK : wpList Tryz.prog ops Q rest (a.put o.dst v') w') : wpList Tryz.prog ops Q (o :: rest) a w := by
 refine wpList_plain hgd fun K hK2 => ?_
 unfold Oper.wp execOp
 simp only [ho, resolve, invoke, builtin, Sem.run_bind, Sem.run_pure, Result.andThen_ok, List.map_toArray, List.map_cons, List.map_nil, hs, hx, hr]
 exact hK2 _ _ hK
theorem slopelines_any {Al : Option Addr} {nl cl : Nat} {Zl : Nat → Int} {Ax : Option Addr} {nx cx : Nat} {Zx : Nat → Int} {p : Int} (hT : Tab w) (hl : RdZ w Al nl cl Zl) (hx : RdZ w Ax nx cx Zx) :
  Calls Tryz.prog 5 #[.slice Al nl cl, .slice Ax nx cx, .int .i64 p] w (Bools true w) := by
 obtain ⟨S⟩ := sc_has
 have h1 : (nl : Int) ≤ 9223372036854775807 := by have := hl.cap; have := hl.max; omega
 have h2 : (nx : Int) ≤ 9223372036854775807 := by have := hx.cap; have := hx.max; omega
 go_enter Tryz.func5, Tryz.ntmps5
 go_upto_region 2 with fail
 generalize hq : (if (6 : Int) < (if nx < nl then (nx : Int) else (nl : Int)) then (6 : Int) else if nx < nl then (nx : Int) else (nl : Int)) = q
 obtain ⟨n, rfl, hn6, hnl, hnx⟩ : ∃ n : Nat, q = (n : Int) ∧ n ≤ 6 ∧ n ≤ nl ∧ n ≤ nx := ⟨q.toNat, by omega, by omega, by omega, by omega⟩
 clear hq
 by_cases hn0 : n = 0
 ·subst hn0
  go_wp2_with fail
  refine (told10_any hT).mono ?_
  rintro en w99 ⟨rfl, b⟩
  go_wp2
  go_ret
  exact ⟨by first | rfl | simp, b⟩
 have hn1 : 1 ≤ n := by omega
 have hn1' : ¬ (n : Int) < 1 := by omega
 have hni : (n : Int) ≤ 6 := by omega
 have LW := lin_start w
 go_wp2
 go_loopg [11, 12, 13] n (fun gk v11 v12 v13 wr => ∃ (i : Nat) (AW : Option Addr) (cW : Nat) (AX : Option Addr) (cX : Nat) (AL : Option Addr) (nL cL : Nat) (D X : List Rw) (Ls : List Ln), i + gk = n ∧ v13 = .int .i64 i ∧ v11 = .slice AW i cW ∧ v12 = .int .i64 ((nL : Int) - 1) ∧ LinW w wr (.slice AW i cW) (.slice AX i cX) (.slice AL nL cL) D X Ls ∧ Hid (D.length = i ∧ X.length = i ∧ Ls.length = nL ∧ LinP D Ls ∧ AllE S D ∧ AllE S X))
 case atStart => exact ⟨0, none, 0, none, 0, none, 0, 0, [], [], [], by omega, rfl, rfl, rfl, LW, hyd ⟨rfl, rfl, rfl, linp_nil, (fun a ha => by cases ha), (fun a ha => by cases ha)⟩⟩
 case round =>
  clear LW
  obtain ⟨i, AW, cW, AX, cX, AL, nL, cL, D, X, Ls, hg, rfl, rfl, rfl, LW, HP⟩ := hrel
  have HG := hyd hg
  clear hg
  have hT0 := hT
  replace hT := mv LW.below rfl hT
  by_cases hi : i < n
  ·have hi2 : (i : Int) < (n : Int) := by omega
   have hi3 : (0 : Int) ≤ (i : Int) := by omega
   have hil : (i : Int) < (nl : Int) := by omega
   have hix : (i : Int) < (nx : Int) := by omega
   have HZ := egh_in (Zl i)
   have HY := egh_in (Zx i)
   obtain ⟨gl, ol, hal, hcl⟩ := (mv LW.below rfl hl).at_ (by omega)
   obtain ⟨gx, ox, hax, hcx⟩ := (mv LW.below rfl hx).at_ (by omega)
   have cl0 := hcl i (by omega)
   have cx0 := hcx i (by omega)
   clear hcl hcx
   subst hal hax
   go_wp2_with fail
   refine (of_egh S hT HZ).mono ?_
   rintro en w1 ⟨qd, A1, n1, c1, z1, rfl, r1, e1, m1, b⟩
   replace LW := LW.go b
   replace hT := mv b rfl hT
   replace cx0 := mv b rfl cx0
   clear b cl0 HZ
   have hkW : ∀ q, (Value.slice AW i cW).ownBlock = some q → q < w1.heap.size := fun q e => (GRow.lt LW.W q e).2
   have hkX : ∀ q, (Value.slice AX i cX).ownBlock = some q → q < w1.heap.size := fun q e => (LW.X.lt q e).2
   have hkL : ∀ q, (Value.slice AL nL cL).ownBlock = some q → q < w1.heap.size := fun q e => (GRow.lt LW.L q e).2
   have hw1 := LW.big
   have b := below_alloc w1 (.cells #[.bool qd.s, .slice A1 n1 c1, .int .i64 qd.e] 28)
   obtain ⟨a0, a1, a2⟩ := (Box.new w1 qd.s A1 n1 c1 qd.e).held
   replace LW := LW.go b
   have G := mv b (by rfl) (J3 hT cx0 r1)
   clear hT cx0 r1
   obtain ⟨hT, cx0, r1⟩ := G
   clear b
   have s1 : w1.heap.size < (w1.alloc (.cells #[.bool qd.s, .slice A1 n1 c1, .int .i64 qd.e] 28)).heap.size := by simp
   go_upto_region 13 with fail
   generalize w1.alloc (.cells #[.bool qd.s, .slice A1 n1 c1, .int .i64 qd.e] 28) = W1 at *
   generalize w1.heap.size = g1 at *
   go_wp2_with fail
   refine (of_egh S hT HY).mono ?_
   rintro en w2 ⟨qx, A2, n2, c2, z2, rfl, r2, e2, m2, b⟩
   have s2 := b.size
   replace LW := LW.go b
   have G := mv b (by rfl) (J5 hT a0 a1 a2 r1)
   clear hT a0 a1 a2 r1
   obtain ⟨hT, a0, a1, a2, r1⟩ := G
   clear b cx0 HY
   have b := below_alloc w2 (.cells #[.bool qx.s, .slice A2 n2 c2, .int .i64 qx.e] 28)
   obtain ⟨d0, d1, d2⟩ := (Box.new w2 qx.s A2 n2 c2 qx.e).held
   replace LW := LW.go b
   have G := mv b (by rfl) (J6 hT a0 a1 a2 r1 r2)
   clear hT a0 a1 a2 r1 r2
   obtain ⟨hT, a0, a1, a2, r1, r2⟩ := G
   clear b
   go_upto_region 14 with fail
   generalize w2.alloc (.cells #[.bool qx.s, .slice A2 n2 c2, .int .i64 qx.e] 28) = W2 at *
   have hg12 : g1 < w2.heap.size := by omega
   clear s1 s2
   generalize w2.heap.size = g2 at *
   go_upto_region 16 with fail
   have b := below_alloc W2 (.cells #[.bool qd.s, .slice A1 n1 c1, .int .i64 qd.e] 28)
   have xz := Blk.new W2 #[.bool qd.s, .slice A1 n1 c1, .int .i64 qd.e] 28
   replace LW := LW.go b
   have G := mv b rfl <| And.intro a0 <| And.intro a1 <| And.intro a2 <| And.intro d0 <| And.intro d1 <| And.intro d2 <| And.intro r1 r2
   clear b hT
   obtain ⟨p0, p1, p2, p3, p4, p5, t1, t2⟩ := G
   obtain ⟨vW, W3, hr', G1, G2, _⟩ := appd_run 53 LW.W xz t1 (by rw [HP.out.1]; omega) LW.big
   go_wp2_with (at_builtin; refine wp_run rfl _ _ rfl rfl rfl hr' ?_)
   have hne : ∀ g, g1 ≤ g → some g ≠ (Value.slice AW i cW).ownBlock := fun g hg e => by have := hkW _ e.symm; omega
   replace p0 := G2.cell p0 (hne g1 (by omega))
   replace p1 := G2.cell p1 (hne g1 (by omega))
   replace p2 := G2.cell p2 (hne g1 (by omega))
   replace p3 := G2.cell p3 (hne g2 (by omega))
   replace p4 := G2.cell p4 (hne g2 (by omega))
   replace p5 := G2.cell p5 (hne g2 (by omega))
   replace t1 := rd_own t1 G2 (GRow.no LW.W)
   replace t2 := rd_own t2 G2 (GRow.no LW.W)
   replace LW := LW.want G1 G2
   obtain ⟨⟨AV, cV, hV⟩, _⟩ := LW.forms
   rw [List.length_append, HP.out.1] at hV
   simp only [List.length_cons, List.length_nil, Nat.zero_add] at hV
   subst hV
   clear hr' G1 G2 hne hkW xz r1 r2 a0 a1 a2 d0 d1 d2
   have zz : n2 ≤ 10000000000000 := len_at t2 (may_small e2.1)
   generalize hwv : W2.alloc (.cells #[.bool qd.s, .slice A1 n1 c1, .int .i64 qd.e] 28) = WX at *
   clear hwv
   go_cut [75] from 36 to 113 (fun v75 wc => ∃ (A9 : Option Addr) (c9 : Nat), LinW w wc (.slice AV (i + 1) cV) (.slice A9 (i + 1) c9) (.slice AL nL cL) (D ++ [qd]) (X ++ [qx]) Ls ∧ (wc.cell? ⟨g1, 0, none⟩ = some (.bool qd.s) ∧ wc.cell? ⟨g1, 1, none⟩ = some (.slice A1 n1 c1) ∧ wc.cell? ⟨g1, 2, none⟩ = some (.int .i64 qd.e)) ∧ Rd wc .u64 W A1 n1 c1 qd.l)
   case first =>
    have b := drew_b W3
    have x6 : World.cell? _ ⟨_, 6, none⟩ = some (.slice AX i cX) := LW.env.at 6
    replace LW := LW.go b
    have G := mv b (by rfl) (J9 p0 p1 p2 p3 p4 p5 t1 t2 x6)
    clear p0 p1 p2 p3 p4 p5 t1 t2 x6
    obtain ⟨p0, p1, p2, p3, p4, p5, t1, t2, x6⟩ := G
    clear b
    generalize hwd : World.drew W3 = wd at *
    have HS := J3 p3 p4 p5
    revert HS
    apply rg hwd
    intro hHeldv0
    clear hwd
    refine tl 0 ?_
    refine tl 2 ?_
    refine wpAnyH_ready (rs := [1, 3]) (by kernel_rfl) (by simp) ?_
    refine AllReadyH.cons (o := _) rfl (fun K hK => ?_) (AllReadyH.cons (o := _) rfl (fun K hK => ?_) (AllReadyH.nil))
    go_simp
    refine kp hK ⟨p3, p4, p5⟩ fun hHeldv1 => ?_
    clear hK K hHeldv0
    try simp only [Act.put]
    refine rdy 3 fun K hK => ?_
    go_simp
    refine (iof_any t2 zz).mono ?_
    rintro en uc ⟨A5, n5, c5, A6, n6, c6, rfl, h5, h6, b⟩
    replace LW := LW.go b
    have G := mv b (by rfl) (J8 p0 p1 p2 p3 p4 p5 t1 x6)
    clear p0 p1 p2 p3 p4 p5 t1 x6
    obtain ⟨p0, p1, p2, p3, p4, p5, t1, x6⟩ := G
    clear b t2
    refine kp hK ⟨p3, p4, p5⟩ fun hHeldv2 => ?_
    clear hK K hHeldv1
    try simp only
    refine rdy 4 fun K hK => ?_
    go_simp
    have b := below_alloc uc (.cells #[.bool qx.s, .slice A5 n5 c5, .int .i64 qx.e, .bool qx.s, .slice A6 n6 c6, .int .i64 qx.e] 30)
    have xv := Ibx.new uc qx.s A5 n5 c5 qx.e qx.s A6 n6 c6 qx.e
    replace LW := LW.go b
    have G := mv b (by rfl) (J10 p0 p1 p2 p3 p4 p5 t1 x6 h5 h6)
    clear p0 p1 p2 p3 p4 p5 t1 x6 h5 h6
    obtain ⟨p0, p1, p2, p3, p4, p5, t1, x6, h5, h6⟩ := G
    clear b
    generalize uc.alloc (.cells #[.bool qx.s, .slice A5 n5 c5, .int .i64 qx.e, .bool qx.s, .slice A6 n6 c6, .int .i64 qx.e] 30) = ub at *
    generalize uc.heap.size = gv at *
    refine kp hK ⟨p3, p4, p5⟩ fun hHeldv3 => ?_
    clear hK K hHeldv2
    try simp only [Act.put]
    rotate_left
    go_simp
    refine (iof_any t2 zz).mono ?_
    rintro en uc ⟨A5, n5, c5, A6, n6, c6, rfl, h5, h6, b⟩
    replace LW := LW.go b
    have G := mv b (by rfl) (J8 p0 p1 p2 p3 p4 p5 t1 x6)
    clear p0 p1 p2 p3 p4 p5 t1 x6
    obtain ⟨p0, p1, p2, p3, p4, p5, t1, x6⟩ := G
    clear b t2
    refine kp hK ⟨p3, p4, p5⟩ fun hHeldv1 => ?_
    clear hK K hHeldv0
    try simp only
    refine wpAnyH_ready (rs := [1, 4]) (by kernel_rfl) (by simp) ?_
    refine AllReadyH.cons (o := _) rfl (fun K hK => ?_) (AllReadyH.cons (o := _) rfl (fun K hK => ?_) (AllReadyH.nil))
    go_simp
    refine kp hK ⟨p3, p4, p5⟩ fun hHeldv2 => ?_
    clear hK K hHeldv1
    try simp only [Act.put]
    refine rdy 4 fun K hK => ?_
    go_simp
    have b := below_alloc uc (.cells #[.bool qx.s, .slice A5 n5 c5, .int .i64 qx.e, .bool qx.s, .slice A6 n6 c6, .int .i64 qx.e] 30)
    have xv := Ibx.new uc qx.s A5 n5 c5 qx.e qx.s A6 n6 c6 qx.e
    replace LW := LW.go b
    have G := mv b (by rfl) (J10 p0 p1 p2 p3 p4 p5 t1 x6 h5 h6)
    clear p0 p1 p2 p3 p4 p5 t1 x6 h5 h6
    obtain ⟨p0, p1, p2, p3, p4, p5, t1, x6, h5, h6⟩ := G
    clear b
    generalize uc.alloc (.cells #[.bool qx.s, .slice A5 n5 c5, .int .i64 qx.e, .bool qx.s, .slice A6 n6 c6, .int .i64 qx.e] 30) = ub at *
    generalize uc.heap.size = gv at *
    refine kp hK ⟨p3, p4, p5⟩ fun hHeldv3 => ?_
    clear hK K hHeldv2
    try simp only [Act.put]
    rotate_left
    go_simp
    have b := below_alloc uc (.cells #[.bool qx.s, .slice A5 n5 c5, .int .i64 qx.e, .bool qx.s, .slice A6 n6 c6, .int .i64 qx.e] 30)
    have xv := Ibx.new uc qx.s A5 n5 c5 qx.e qx.s A6 n6 c6 qx.e
    replace LW := LW.go b
    have G := mv b (by rfl) (J10 p0 p1 p2 p3 p4 p5 t1 x6 h5 h6)
    clear p0 p1 p2 p3 p4 p5 t1 x6 h5 h6
    obtain ⟨p0, p1, p2, p3, p4, p5, t1, x6, h5, h6⟩ := G
    clear b
    generalize uc.alloc (.cells #[.bool qx.s, .slice A5 n5 c5, .int .i64 qx.e, .bool qx.s, .slice A6 n6 c6, .int .i64 qx.e] 30) = ub at *
    generalize uc.heap.size = gv at *
    refine kp hK ⟨p3, p4, p5⟩ fun hHeldv2 => ?_
    clear hK K hHeldv1
    try simp only [Act.put]
    refine rdy 1 fun K hK => ?_
    go_simp
    refine kp hK ⟨p3, p4, p5⟩ fun hHeldv3 => ?_
    clear hK K hHeldv2
    try simp only [Act.put]
    rotate_left
    all_goals (
     refine rdy 5 fun K hK => ?_
     obtain ⟨v', ua, hr', G1, G2, _⟩ := appi_run 31 (q := ptI qx) LW.X xv h5 h6 (by rw [List.length_map, HP.out.2.1]; omega) LW.big
     obtain ⟨A9, c9, e9⟩ := G1.slice
     rw [show (X.map ptI ++ [ptI qx]).length = i + 1 by simp [HP.out.2.1]] at e9
     subst e9
     have LX := LW.xs G1 G2
     have t9 := LW.xs_rd (v' := .slice A9 (i + 1) c9) G2 t1
     have f9 := (LW.envAt G2).frozen 6
     have hne : ∀ g, g1 ≤ g → some g ≠ (Value.slice AX i cX).ownBlock := fun g hg e => by have := hkX _ e.symm; omega
     replace p0 := G2.cell p0 (hne g1 (by omega))
     replace p1 := G2.cell p1 (hne g1 (by omega))
     replace p2 := G2.cell p2 (hne g1 (by omega))
     replace p3 := G2.cell p3 (hne g2 (by omega))
     replace p4 := G2.cell p4 (hne g2 (by omega))
     replace p5 := G2.cell p5 (hne g2 (by omega))
     rw [if_pos (by rfl)]
     unfold Oper.wp execOp
     simp only [List.getElem_toArray, List.getElem_cons_succ, List.getElem_cons_zero, resolve, invoke, builtin, Sem.run_bind, Sem.run_pure, Result.andThen_ok, List.map_toArray, List.map_cons, List.map_nil]
     change Oper.upon _ _ _ _ _ ((Sem.run _ (Builtin.append_ _ _ #[.slice AX i cX, .slice (some ⟨gv, 0, none⟩) 1 1]) _).andThen _)
     rw [hr']
     clear x6
     have x6 : World.cell? _ ⟨_, 6, none⟩ = some (.slice AX i cX) := (LW.envAt G2).at 6
     go_simp
     clear hr' G1 G2 hne LW t1 h5 h6 xv
     refine kp hK ⟨p3, p4, p5⟩ fun hHeldv4 => ?_
     clear hK K hHeldv3
     try simp only [Act.put]
     refine tl 6 ?_
     refine rdy 7 fun K hK => ?_
     go_simp
     replace p0 := cell_oth p0 (show g1 ≠ w.heap.size + 1 by omega) 6 (.slice A9 (i + 1) c9)
     replace p1 := cell_oth p1 (show g1 ≠ w.heap.size + 1 by omega) 6 (.slice A9 (i + 1) c9)
     replace p2 := cell_oth p2 (show g1 ≠ w.heap.size + 1 by omega) 6 (.slice A9 (i + 1) c9)
     replace p3 := cell_oth p3 (show g2 ≠ w.heap.size + 1 by omega) 6 (.slice A9 (i + 1) c9)
     replace p4 := cell_oth p4 (show g2 ≠ w.heap.size + 1 by omega) 6 (.slice A9 (i + 1) c9)
     replace p5 := cell_oth p5 (show g2 ≠ w.heap.size + 1 by omega) 6 (.slice A9 (i + 1) c9)
     clear x6 f9
     refine kp hK ⟨p3, p4, p5⟩ fun hHeldv5 => ?_
     clear hK K hHeldv4
     try simp only [Act.put]
     refine wpAnyH_done (by kernel_rfl) ?_ _
     go_wp2
     go_meet
     case rel => exact ⟨A9, c9, LX, ⟨p0, p1, p2⟩, t9⟩)
   case rest =>
    clear p0 p1 p2 p3 p4 p5 t1 t2 LW zz hkX
    obtain ⟨A9, c9, LW, ⟨p0, p1, p2⟩, t1⟩ := hcut
    have zz : n1 ≤ 10000000000000 := len_at t1 (may_small e1.1)
    have hnL : nL = gB i := by have h1 := HP.out.2.2.1; have h2 := HP.out.2.2.2.1.len; rw [HP.out.1] at h2; omega
    have hnb : nL ≤ 40 := by rw [hnL]; unfold gB; omega
    have hNL := hyd hnL
    clear hnL
    have t0 : World.cell? _ ⟨_, 0, none⟩ = some (.slice AL nL cL) := LW.tape.at 0
    go_upto_region 19 with fail
    have hw1 : IntKind.i64.wrap ((nL : Int) + 1) = (nL : Int) + 1 := IntWalk.i64_in _ (by omega)
    go_cut [85] from 36 to 113 (fun v85 wz => ∃ (A8 : Option Addr) (c8 : Nat), LinW w wz (.slice AV (i + 1) cV) (.slice A9 (i + 1) c9) (.slice A8 (nL + 3) c8) (D ++ [qd]) (X ++ [qx]) (Ls ++ [⟨1, 0, 0, ptI qd⟩, ⟨3, (i : Int), 0, Iv.zero⟩, ⟨8, (nL : Int), (nL : Int) + 1, Iv.zero⟩]))
    case first =>
     have b := drew_b wc
     replace LW := LW.go b
     have G := mv b (by rfl) (J5 p0 p1 p2 t1 t0)
     clear p0 p1 p2 t1 t0
     obtain ⟨p0, p1, p2, t1, t0⟩ := G
     clear b
     generalize hwd : World.drew wc = wd at *
     have HS := J3 p0 p1 p2
     revert HS
     apply rg hwd
     intro hHeldx0
     clear hwd
     refine tl 0 ?_
     refine tl 2 ?_
     refine tl 5 ?_
     refine tl 6 ?_
     refine tl 7 ?_
     refine tl 8 ?_
     refine wpAnyH_take (i := 9) (v := ?x10v9) rfl (by kernel_rfl) (by kernel_rfl) (by kernel_rfl) (fun _ _ _ h => panic_put (P := Tryz.prog) (fn := Tryz.f5) (R := (Bools true w)) h) (Or.inl ⟨by rfl, ?x10y9⟩) (by assumption) ?_
     case x10y9 => (intro w hSw; (try dsimp only at hSw); go_simp; (try simp only [hw1])); try with_reducible rfl
     change wpAnyH _ _ _ _ _ _ _ (Act.put _ (some 94) _) _
     simp only [Act.put, List.setIfInBounds_toArray, List.set_cons_zero, List.set_cons_succ]
     refine tl 10 ?_
     refine wpAnyH_ready (rs := [1, 3]) (by kernel_rfl) (by simp) ?_
     refine AllReadyH.cons (o := _) rfl (fun K hK => ?_) (AllReadyH.cons (o := _) rfl (fun K hK => ?_) (AllReadyH.nil))
     go_simp
     refine kp hK ⟨p0, p1, p2⟩ fun hHeldx1 => ?_
     clear hK K hHeldx0
     try simp only [Act.put]
     refine rdy 3 fun K hK => ?_
     go_simp
     refine (iof_any t1 zz).mono ?_
     rintro en uc ⟨A5, n5, c5, A6, n6, c6, rfl, h5, h6, b⟩
     replace LW := LW.go b
     have G := mv b (by rfl) (J4 p0 p1 p2 t0)
     clear p0 p1 p2 t0
     obtain ⟨p0, p1, p2, t0⟩ := G
     clear b t1
     refine kp hK ⟨p0, p1, p2⟩ fun hHeldx2 => ?_
     clear hK K hHeldx1
     try simp only
     refine tl 4 ?_
     refine rdy 11 fun K hK => ?_
     go_simp
     have b := below_alloc uc (.cells #[.int .i64 1, .int .i64 0, .int .i64 0, .bool qd.s, .slice A5 n5 c5, .int .i64 qd.e, .bool qd.s, .slice A6 n6 c6, .int .i64 qd.e, .int .i64 3, .int .i64 (i : Int), .int .i64 0, .bool false, .slice none 0 0, .int .i64 0, .bool false, .slice none 0 0, .int .i64 0, .int .i64 8, .int .i64 (nL : Int), .int .i64 ((nL : Int) + 1), .bool false, .slice none 0 0, .int .i64 0, .bool false, .slice none 0 0, .int .i64 0] 46)
     have xv := Blk.new uc #[.int .i64 1, .int .i64 0, .int .i64 0, .bool qd.s, .slice A5 n5 c5, .int .i64 qd.e, .bool qd.s, .slice A6 n6 c6, .int .i64 qd.e, .int .i64 3, .int .i64 (i : Int), .int .i64 0, .bool false, .slice none 0 0, .int .i64 0, .bool false, .slice none 0 0, .int .i64 0, .int .i64 8, .int .i64 (nL : Int), .int .i64 ((nL : Int) + 1), .bool false, .slice none 0 0, .int .i64 0, .bool false, .slice none 0 0, .int .i64 0] 46
     replace LW := LW.go b
     have G := mv b (by rfl) (J6 p0 p1 p2 t0 h5 h6)
     clear p0 p1 p2 t0 h5 h6
     obtain ⟨p0, p1, p2, t0, h5, h6⟩ := G
     clear b
     generalize uc.alloc (.cells #[.int .i64 1, .int .i64 0, .int .i64 0, .bool qd.s, .slice A5 n5 c5, .int .i64 qd.e, .bool qd.s, .slice A6 n6 c6, .int .i64 qd.e, .int .i64 3, .int .i64 (i : Int), .int .i64 0, .bool false, .slice none 0 0, .int .i64 0, .bool false, .slice none 0 0, .int .i64 0, .int .i64 8, .int .i64 (nL : Int), .int .i64 ((nL : Int) + 1), .bool false, .slice none 0 0, .int .i64 0, .bool false, .slice none 0 0, .int .i64 0] 46) = ub at *
     generalize uc.heap.size = gv at *
     refine kp hK ⟨p0, p1, p2⟩ fun hHeldx3 => ?_
     clear hK K hHeldx2
     try simp only [Act.put]
     rotate_left
     go_simp
     refine (iof_any t1 zz).mono ?_
     rintro en uc ⟨A5, n5, c5, A6, n6, c6, rfl, h5, h6, b⟩
     replace LW := LW.go b
     have G := mv b (by rfl) (J4 p0 p1 p2 t0)
     clear p0 p1 p2 t0
     obtain ⟨p0, p1, p2, t0⟩ := G
     clear b t1
     refine kp hK ⟨p0, p1, p2⟩ fun hHeldx1 => ?_
     clear hK K hHeldx0
     try simp only
     refine tl 4 ?_
     refine wpAnyH_ready (rs := [1, 11]) (by kernel_rfl) (by simp) ?_
     refine AllReadyH.cons (o := _) rfl (fun K hK => ?_) (AllReadyH.cons (o := _) rfl (fun K hK => ?_) (AllReadyH.nil))
     go_simp
     refine kp hK ⟨p0, p1, p2⟩ fun hHeldx2 => ?_
     clear hK K hHeldx1
     try simp only [Act.put]
     refine rdy 11 fun K hK => ?_
     go_simp
     have b := below_alloc uc (.cells #[.int .i64 1, .int .i64 0, .int .i64 0, .bool qd.s, .slice A5 n5 c5, .int .i64 qd.e, .bool qd.s, .slice A6 n6 c6, .int .i64 qd.e, .int .i64 3, .int .i64 (i : Int), .int .i64 0, .bool false, .slice none 0 0, .int .i64 0, .bool false, .slice none 0 0, .int .i64 0, .int .i64 8, .int .i64 (nL : Int), .int .i64 ((nL : Int) + 1), .bool false, .slice none 0 0, .int .i64 0, .bool false, .slice none 0 0, .int .i64 0] 46)
     have xv := Blk.new uc #[.int .i64 1, .int .i64 0, .int .i64 0, .bool qd.s, .slice A5 n5 c5, .int .i64 qd.e, .bool qd.s, .slice A6 n6 c6, .int .i64 qd.e, .int .i64 3, .int .i64 (i : Int), .int .i64 0, .bool false, .slice none 0 0, .int .i64 0, .bool false, .slice none 0 0, .int .i64 0, .int .i64 8, .int .i64 (nL : Int), .int .i64 ((nL : Int) + 1), .bool false, .slice none 0 0, .int .i64 0, .bool false, .slice none 0 0, .int .i64 0] 46
     replace LW := LW.go b
     have G := mv b (by rfl) (J6 p0 p1 p2 t0 h5 h6)
     clear p0 p1 p2 t0 h5 h6
     obtain ⟨p0, p1, p2, t0, h5, h6⟩ := G
     clear b
     generalize uc.alloc (.cells #[.int .i64 1, .int .i64 0, .int .i64 0, .bool qd.s, .slice A5 n5 c5, .int .i64 qd.e, .bool qd.s, .slice A6 n6 c6, .int .i64 qd.e, .int .i64 3, .int .i64 (i : Int), .int .i64 0, .bool false, .slice none 0 0, .int .i64 0, .bool false, .slice none 0 0, .int .i64 0, .int .i64 8, .int .i64 (nL : Int), .int .i64 ((nL : Int) + 1), .bool false, .slice none 0 0, .int .i64 0, .bool false, .slice none 0 0, .int .i64 0] 46) = ub at *
     generalize uc.heap.size = gv at *
     refine kp hK ⟨p0, p1, p2⟩ fun hHeldx3 => ?_
     clear hK K hHeldx2
     try simp only [Act.put]
     rotate_left
     go_simp
     have b := below_alloc uc (.cells #[.int .i64 1, .int .i64 0, .int .i64 0, .bool qd.s, .slice A5 n5 c5, .int .i64 qd.e, .bool qd.s, .slice A6 n6 c6, .int .i64 qd.e, .int .i64 3, .int .i64 (i : Int), .int .i64 0, .bool false, .slice none 0 0, .int .i64 0, .bool false, .slice none 0 0, .int .i64 0, .int .i64 8, .int .i64 (nL : Int), .int .i64 ((nL : Int) + 1), .bool false, .slice none 0 0, .int .i64 0, .bool false, .slice none 0 0, .int .i64 0] 46)
     have xv := Blk.new uc #[.int .i64 1, .int .i64 0, .int .i64 0, .bool qd.s, .slice A5 n5 c5, .int .i64 qd.e, .bool qd.s, .slice A6 n6 c6, .int .i64 qd.e, .int .i64 3, .int .i64 (i : Int), .int .i64 0, .bool false, .slice none 0 0, .int .i64 0, .bool false, .slice none 0 0, .int .i64 0, .int .i64 8, .int .i64 (nL : Int), .int .i64 ((nL : Int) + 1), .bool false, .slice none 0 0, .int .i64 0, .bool false, .slice none 0 0, .int .i64 0] 46
     replace LW := LW.go b
     have G := mv b (by rfl) (J6 p0 p1 p2 t0 h5 h6)
     clear p0 p1 p2 t0 h5 h6
     obtain ⟨p0, p1, p2, t0, h5, h6⟩ := G
     clear b
     generalize uc.alloc (.cells #[.int .i64 1, .int .i64 0, .int .i64 0, .bool qd.s, .slice A5 n5 c5, .int .i64 qd.e, .bool qd.s, .slice A6 n6 c6, .int .i64 qd.e, .int .i64 3, .int .i64 (i : Int), .int .i64 0, .bool false, .slice none 0 0, .int .i64 0, .bool false, .slice none 0 0, .int .i64 0, .int .i64 8, .int .i64 (nL : Int), .int .i64 ((nL : Int) + 1), .bool false, .slice none 0 0, .int .i64 0, .bool false, .slice none 0 0, .int .i64 0] 46) = ub at *
     generalize uc.heap.size = gv at *
     refine kp hK ⟨p0, p1, p2⟩ fun hHeldx2 => ?_
     clear hK K hHeldx1
     try simp only [Act.put]
     refine rdy 1 fun K hK => ?_
     go_simp
     refine kp hK ⟨p0, p1, p2⟩ fun hHeldx3 => ?_
     clear hK K hHeldx2
     try simp only [Act.put]
     rotate_left
     all_goals (
      refine rdy 12 fun K hK => ?_
      obtain ⟨v', ua, hr', G1, G2, _⟩ := app3_run 22 (d := ptI qd) LW.L xv h5 h6 (by rw [HP.out.2.2.1]; omega) LW.big
      obtain ⟨A8, c8, e8, _⟩ := GRow.form G1
      rw [List.length_append, HP.out.2.2.1] at e8
      simp only [List.length_cons, List.length_nil, Nat.zero_add] at e8
      subst e8
      have LX := LW.lines G1 G2
      have f9 := (LW.tapeAt G2).frozen 0
      have hne : ∀ g, g1 ≤ g → some g ≠ (Value.slice AL nL cL).ownBlock := fun g hg e => by have := hkL _ e.symm; omega
      replace p0 := G2.cell p0 (hne g1 (by omega))
      replace p1 := G2.cell p1 (hne g1 (by omega))
      replace p2 := G2.cell p2 (hne g1 (by omega))
      rw [if_pos (by rfl)]
      unfold Oper.wp execOp
      simp only [List.getElem_toArray, List.getElem_cons_succ, List.getElem_cons_zero, resolve, invoke, builtin, Sem.run_bind, Sem.run_pure, Result.andThen_ok, List.map_toArray, List.map_cons, List.map_nil]
      change Oper.upon _ _ _ _ _ ((Sem.run _ (Builtin.append_ _ _ #[.slice AL nL cL, .slice (some ⟨gv, 0, none⟩) 3 3]) _).andThen _)
      rw [hr']
      clear t0
      have t0 : World.cell? _ ⟨_, 0, none⟩ = some (.slice AL nL cL) := (LW.tapeAt G2).at 0
      go_simp
      clear hr' G1 G2 hne LW h5 h6 xv
      refine kp hK ⟨p0, p1, p2⟩ fun hHeldx4 => ?_
      clear hK K hHeldx3
      try simp only [Act.put]
      refine tl 13 ?_
      refine rdy 14 fun K hK => ?_
      go_simp
      replace p0 := cell_oth p0 (show g1 ≠ w.heap.size by omega) 0 (.slice A8 (nL + 3) c8)
      replace p1 := cell_oth p1 (show g1 ≠ w.heap.size by omega) 0 (.slice A8 (nL + 3) c8)
      replace p2 := cell_oth p2 (show g1 ≠ w.heap.size by omega) 0 (.slice A8 (nL + 3) c8)
      clear t0 f9
      refine kp hK ⟨p0, p1, p2⟩ fun hHeldx5 => ?_
      clear hK K hHeldx4
      try simp only [Act.put]
      refine wpAnyH_done (by kernel_rfl) ?_ _
      go_wp2
      go_meet
      case rel => exact ⟨A8, c8, LX⟩)
    case rest =>
     clear p0 p1 p2 t1 t0 LW zz
     obtain ⟨A8, c8, LW⟩ := hcut
     have t0 : World.cell? _ ⟨_, 0, none⟩ = some (.slice A8 (nL + 3) c8) := LW.tape.at 0
     have hw2 : IntKind.i64.wrap ((nL : Int) + 2) = (nL : Int) + 2 := IntWalk.i64_in _ (by omega)
     by_cases hi0 : i = 0
     ·have hnl0 : nL = 0 := by rw [hNL.out, hi0]; rfl
      have hc : ¬ (0 : Int) ≤ (nL : Int) - 1 := by omega
      go_wp2_with fail
      go_roundg (gk - 1)
      case measure => have := HG.out; omega
      case rel => exact ⟨i + 1, AV, cV, A9, c9, A8, nL + 3, c8, D ++ [qd], X ++ [qx], _, by have := HG.out; omega, by go_num, by rw [hi0], by go_num, LW, hyd ⟨by rw [List.length_append, HP.out.1]; rfl, by rw [List.length_append, HP.out.2.1]; rfl, by rw [List.length_append, HP.out.2.2.1]; rfl, linp_first HP.out.2.2.2.1 HP.out.1 hNL.out hi0, HP.out.2.2.2.2.1.snoc e1 m1, HP.out.2.2.2.2.2.snoc e2 m2⟩⟩
     have hi1 : 1 ≤ i := by omega
     have hnl3 : 3 ≤ nL := by rw [hNL.out]; unfold gB; omega
     have hc : (0 : Int) ≤ (nL : Int) - 1 := by omega
     go_upto_region 21 with fail
     have b := below_alloc wc (.cells #[.int .i64 6, .int .i64 ((nL : Int) - 1), .int .i64 ((nL : Int) + 2), .bool false, .slice none 0 0, .int .i64 0, .bool false, .slice none 0 0, .int .i64 0] 46)
     have xz := Blk.new wc #[.int .i64 6, .int .i64 ((nL : Int) - 1), .int .i64 ((nL : Int) + 2), .bool false, .slice none 0 0, .int .i64 0, .bool false, .slice none 0 0, .int .i64 0] 46
     replace LW := LW.go b
     obtain ⟨v', W5, hr', G1, G2, _⟩ := app1_run 22 LW.L xz (by rw [List.length_append, HP.out.2.2.1]; show nL + 3 ≤ 900; omega) LW.big
     obtain ⟨A7, c7, e7, _⟩ := GRow.form G1
     rw [List.length_append, List.length_append, HP.out.2.2.1] at e7
     simp only [List.length_cons, List.length_nil, Nat.zero_add] at e7
     subst e7
     have LX := LW.lines G1 G2
     have f9 := (LW.tapeAt G2).frozen 0
     have t9 : World.cell? _ ⟨_, 0, none⟩ = some (.slice A8 (nL + 3) c8) := (LW.tapeAt G2).at 0
     have t7 : World.cell? _ ⟨_, 0, none⟩ = some (.slice A7 (nL + 3 + 1) c7) := LX.tape.at 0
     clear G1 G2 LW b xz
     go_wp2_with (at_builtin; refine wp_run rfl _ _ rfl rfl rfl hr' ?_)
     go_roundg (gk - 1)
     case measure => have := HG.out; omega
     case rel => exact ⟨i + 1, AV, cV, A9, c9, A7, nL + 3 + 1, c7, D ++ [qd], X ++ [qx], _, by have := HG.out; omega, by go_num, rfl, by go_num, LX, hyd ⟨by rw [List.length_append, HP.out.1]; rfl, by rw [List.length_append, HP.out.2.1]; rfl, by rw [List.length_append, List.length_append, HP.out.2.2.1]; rfl, linp_next HP.out.2.2.2.1 HP.out.1 hNL.out hi1, HP.out.2.2.2.2.1.snoc e1 m1, HP.out.2.2.2.2.2.snoc e2 m2⟩⟩
  have hin : i = n := by have := HG.out; omega
  subst hin
  have HPN := bits_in p
  have hbg := LW.big
  have b := below_alloc wr (.cells #[.int .i64 ((nL : Int) - 1)] 3)
  have xo := Blk.new wr #[.int .i64 ((nL : Int) - 1)] 3
  replace LW := LW.go b
  have f9 := LW.tape.frozen 1
  have t1 : World.cell? _ ⟨_, 1, none⟩ = some (.slice none 0 0) := LW.tape.at 1
  have O6 := blk_oth (g2 := w.heap.size) (i := 1) (v := .slice (some ⟨wr.heap.size, 0, none⟩) 1 1) xo (by omega)
  obtain ⟨B6, T6, E6, W6, X6, L6⟩ := LW.outs (v := .slice (some ⟨wr.heap.size, 0, none⟩) 1 1)
  clear LW xo b hT
  have hT := mv B6 rfl hT0
  obtain ⟨AX', cX', hvX, hRX, _⟩ := X6.form
  rw [List.length_map, HP.out.2.1] at hvX hRX
  injection hvX with y1 _ y2
  subst y1 y2
  obtain ⟨AL', cL', hvL, hRL⟩ := lrow_rd (d := dl) L6
  rw [HP.out.2.2.1] at hvL hRL
  injection hvL with y1 _ y2
  subst y1 y2
  clear X6 L6
  have hO6 := rdz_one O6
  have hE6 : RdE _ (linE i X) none 0 0 none 0 0 AX cX none 0 none 0 := ⟨rd_nil0 _, rd_nil0 _, hRX, ⟨Nat.le_refl 0, by decide, fun h => absurd rfl h⟩, ⟨Nat.le_refl 0, by decide, fun h => absurd rfl h⟩⟩
  have t0 : World.cell? _ ⟨_, 0, none⟩ = some (.slice AL nL cL) := T6.at 0
  have t2 : World.cell? _ ⟨_, 1, none⟩ = some (.slice (some ⟨wr.heap.size, 0, none⟩) 1 1) := T6.at 1
  have k0 : World.cell? _ ⟨_, 0, none⟩ = some (.bool false) := E6.at 0
  have k1 : World.cell? _ ⟨_, 1, none⟩ = some (.slice none 0 0) := E6.at 1
  have k2 : World.cell? _ ⟨_, 2, none⟩ = some (.int .i64 0) := E6.at 2
  have k3 : World.cell? _ ⟨_, 3, none⟩ = some (.bool false) := E6.at 3
  have k4 : World.cell? _ ⟨_, 4, none⟩ = some (.slice none 0 0) := E6.at 4
  have k5 : World.cell? _ ⟨_, 5, none⟩ = some (.int .i64 0) := E6.at 5
  have k6 : World.cell? _ ⟨_, 6, none⟩ = some (.slice AX i cX) := E6.at 6
  have k7 : World.cell? _ ⟨_, 7, none⟩ = some (.slice none 0 0) := E6.at 7
  have k8 : World.cell? _ ⟨_, 8, none⟩ = some (.slice none 0 0) := E6.at 8
  clear hRX O6 T6 E6
  obtain ⟨R, hR⟩ := grad_linp (S := S) (O := fun _ => (nL : Int) - 1) ⟨hn1, hn6⟩ HPN HP.out.2.2.2.1 HP.out.1 HP.out.2.1 HP.out.2.2.2.2.1 HP.out.2.2.2.2.2 (by rw [HP.out.2.2.1])
  rw [HP.out.2.2.1] at hR
  have HR := hyd hR
  clear hR
  go_upto_region 24 with fail
  generalize (wr.alloc (.cells #[.int .i64 ((nL : Int) - 1)] 3)).setCell ⟨w.heap.size, 1, none⟩ (.slice (some ⟨wr.heap.size, 0, none⟩) 1 1) = w6 at *
  generalize wr.heap.size = go at *
  go_wp2_with fail
  refine (gradEnd_to HR.out.symm (sgrad_any S hT hRL hO6 hE6 (by show i ≤ 900; omega))).mono ?_
  intro en w7 hge
  obtain ⟨v1, Ag, cg, rfl, _, hd, b⟩ := grad_is hge
  have BB := below_next B6 B6.size b rfl rfl rfl rfl
  replace W6 := GRow.next W6 b rfl
  clear hge b k0 k1 k2 k3 k4 k5 k6 k7 k8 t0 t1 t2 hRL hO6 hE6 B6 hT f9
  have hT := mv BB rfl hT0
  obtain ⟨AW', cW', hvW, _, _, hW⟩ := GRow.form W6
  rw [HP.out.1] at hvW
  injection hvW with y1 _ y2
  subst y1 y2
  obtain ⟨gw, hgw, hW9⟩ := hW (fun h => by have := HP.out.1; rw [h] at this; exact hn0 this.symm)
  clear hW
  subst hgw
  have HW := hyd hW9
  clear hW9 W6
  obtain ⟨gd, od, had, hD⟩ := hd.at_ (by decide)
  subst had
  obtain ⟨Bd, cd, hB, hRd⟩ := hD 0 (by decide)
  clear hD hd
  have hlen : (([(List.range i).map fun k => ptI (D.getD k Rw.zero)] : List (List Iv)).getD 0 []).length = i := by simp
  rw [hlen] at hB hRd
  rw [Nat.add_zero] at hB
  clear hlen
  obtain ⟨gr, og, hBd, hI⟩ := hRd.at_ hn0
  subst hBd
  have HI := hyd hI
  clear hI hRd HR
  have hii : ((i : Int) != (i : Int)) = false := by simp
  have hi9 : (i : Int) ≤ 6 := by omega
  go_wp2
  go_loopg [22] i (fun gk v wr => ∃ k : Nat, k + gk = i ∧ v = .int .i64 k ∧ Below w7.heap.size w7 wr)
  case atStart => exact ⟨0, by omega, rfl, Below.refl _ _⟩
  case round =>
   obtain ⟨k, hg, rfl, hb⟩ := hrel
   have HGG := hyd hg
   clear hg
   have hs7 : w.heap.size ≤ w7.heap.size := BB.size
   by_cases hk : k < i
   ·have hk2 : (k : Int) < (i : Int) := by omega
    have hk3 : (0 : Int) ≤ (k : Int) := by omega
    obtain ⟨A1, n1, c1, A2, n2, c2, ⟨x0, x1, x2, x3, x4, x5⟩, r1, r2⟩ := HI.out k hk
    have he : ((([(List.range i).map fun k => ptI (D.getD k Rw.zero)] : List (List Iv)).getD 0 []).getD k Iv.zero) = ptI (D.getD k Rw.zero) := gd_map hk
    dsimp only at x0 x2 x3 x5 r1 r2
    rw [he] at x0 x2 x3 x5 r1 r2
    clear he
    obtain ⟨q, hq⟩ : ∃ q, q = D.getD k Rw.zero := ⟨_, rfl⟩
    rw [← hq] at x0 x2 x3 x5 r1 r2
    have hDk : D[k]? = some q := by rw [hq, List.getD_eq_getElem?_getD, List.getElem?_eq_getElem (by have := HP.out.1; omega)]; rfl
    obtain ⟨zq, hzq, _⟩ := HP.out.2.2.2.2.1 q (List.mem_of_getElem? hDk)
    obtain ⟨cs, ⟨A3, n3, c3, rfl, r3⟩, hat⟩ := HW.out k q hDk
    have y0 := hat 0 _ rfl
    have y1 := hat 1 _ rfl
    have y2 := hat 2 _ rfl
    clear hat hq hDk
    have zz : n3 ≤ 10000000000000 := len_at r3 (may_small hzq.1)
    have h0 := hB
    rw [Nat.add_zero] at y0
    have b := drew_b wr
    have bb := below_next hb hb.size b rfl rfl rfl rfl
    have G := mv bb (by rfl) (J13 h0 x0 x1 x2 x3 x4 x5 y0 y1 y2 r1 r2 r3)
    clear h0 x0 x1 x2 x3 x4 x5 y0 y1 y2 r1 r2 r3
    obtain ⟨h0, x0, x1, x2, x3, x4, x5, y0, y1, y2, r1, r2, r3⟩ := G
    have hss : sameI (ptI q) (ptI q) = true := sameI_iff.2 rfl
    go_wp2_with fail
    refine wp_region_held_drew (S := fun w' => w'.cell? ⟨gd, od, none⟩ = some (.slice (some ⟨gr, og, none⟩) i cd) ∧ w'.cell? ⟨gr, og + k * 6, none⟩ = some (.bool q.s) ∧ w'.cell? ⟨gr, og + k * 6 + 1, none⟩ = some (.slice A1 n1 c1) ∧ w'.cell? ⟨gr, og + k * 6 + 2, none⟩ = some (.int .i64 q.e) ∧ w'.cell? ⟨gr, og + k * 6 + 3, none⟩ = some (.bool q.s) ∧ w'.cell? ⟨gr, og + k * 6 + 4, none⟩ = some (.slice A2 n2 c2) ∧ w'.cell? ⟨gr, og + k * 6 + 5, none⟩ = some (.int .i64 q.e) ∧ w'.cell? ⟨gw, k * 3, none⟩ = some (.bool q.s) ∧ w'.cell? ⟨gw, k * 3 + 1, none⟩ = some (.slice A3 n3 c3) ∧ w'.cell? ⟨gw, k * 3 + 2, none⟩ = some (.int .i64 q.e)) (by kernel_rfl) (by exact ⟨h0, x0, x1, x2, x3, x4, x5, y0, y1, y2⟩) (fun hHeldq0 => ?_)
    generalize hwd : World.drew wr = wd at *
    refine tl 0 ?_
    refine tl 1 ?_
    refine tl 2 ?_
    refine tl 3 ?_
    refine tl 4 ?_
    refine tl 5 ?_
    refine tl 6 ?_
    refine tl 7 ?_
    refine tl 8 ?_
    refine tl 9 ?_
    refine rdy 10 fun K hK => ?_
    go_simp
    refine (iof_any r3 zz).mono ?_
    rintro en z1 ⟨A5, n5, c5, A6, n6, c6, rfl, h5, h6, b9⟩
    replace bb := below_next bb bb.size b9 (by rfl) (by rfl) (by rfl) (by rfl)
    have G := mv b9 (by rfl) (J12 h0 x0 x1 x2 x3 x4 x5 y0 y1 y2 r1 r2)
    clear h0 x0 x1 x2 x3 x4 x5 y0 y1 y2 r1 r2
    obtain ⟨h0, x0, x1, x2, x3, x4, x5, y0, y1, y2, r1, r2⟩ := G
    clear b9 r3
    refine kp hK ⟨h0, x0, x1, x2, x3, x4, x5, y0, y1, y2⟩ fun hHeldq1 => ?_
    clear hK K hHeldq0
    try simp only
    refine rdy 11 fun K hK => ?_
    go_simp
    refine (show Calls _ _ _ _ (Bools (sameI (ptI q) (ptI q)) _) from isame_any r1 r2 h5 h6).mono ?_
    rintro en z2 ⟨rfl, b9⟩
    replace bb := below_next bb bb.size b9 (by rfl) (by rfl) (by rfl) (by rfl)
    have G := mv b9 (by rfl) (J10 h0 x0 x1 x2 x3 x4 x5 y0 y1 y2)
    clear h0 x0 x1 x2 x3 x4 x5 y0 y1 y2
    obtain ⟨h0, x0, x1, x2, x3, x4, x5, y0, y1, y2⟩ := G
    clear b9 r1 r2 h5 h6
    refine kp hK ⟨h0, x0, x1, x2, x3, x4, x5, y0, y1, y2⟩ fun hHeldq2 => ?_
    clear hK K hHeldq1
    try simp only [Act.put]
    refine tl 12 ?_
    refine wpAnyH_done (by kernel_rfl) ?_ _
    skip
    go_wp2
    go_roundg (gk - 1)
    case measure => have := HGG.out; omega
    case rel => exact ⟨k + 1, by have := HGG.out; omega, by go_num, bb⟩
   have hki : k = i := by have := HGG.out; omega
   subst hki
   replace BB := BB.trans (hb.mono hs7)
   replace hT := mv hb rfl hT
   go_wp2_with fail
   refine (told10_any hT).mono ?_
   rintro en w99 ⟨rfl, b⟩
   replace BB := bnx BB b
   go_wp2
   go_ret
   exact ⟨by first | rfl | simp, BB⟩
end Go.Proofs.YtehfdfjpmmpndaaGreatDoor
