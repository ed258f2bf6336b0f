/-
 Contract of the statement BoxRows's function: it returns true, whatever its arguments, at this translation. Condition: the slices read as limbs, the table of math/bits reads as its text lays it.
-/
import Derived.StillTailTactics
import Derived.Deep.CutBlock
import Derived.Deep.DeepCutAuto
import Derived.Test.YtlpjlmophlikeaaGreatDoorQHf
import Derived.Test.YtlpjlmophlikeaaGreatDoorQTq
set_option maxHeartbeats 8000000
set_option maxRecDepth 100000
namespace Go.Proofs.YtlpjlmophlikeaaGreatDoor
open Go.RowKit


theorem boxrows_any {w : World} {n c m d : Nat} {A B : Option Addr} {X Y : Nat → Iv} (hT : Tab w) (hX : RdS w A n c X) (hY : RdS w B m d Y) :
  Calls Tryz.prog 5 #[.slice A n c, .slice B m d] w (Bools true w) := by
 obtain ⟨KS, hKS⟩ := scale_has
 have BB := Below.refl w.heap.size w
 have hn9 : (n : Int) ≤ 9223372036854775807 := by have := hX.cap; have := hX.max; omega
 have hm9 : (m : Int) ≤ 9223372036854775807 := by have := hY.cap; have := hY.max; omega
 go_enter Tryz.func5, Tryz.ntmps5
 go_upto_region 1 with fail
 go_cut [37] (fun v37 wc => ∃ bb : Bool, v37 = .bool bb ∧ (bb = false → n = m ∧ n ≤ 8 ∧ (eachB n fun i => mayI KS (X i)) = true ∧ (eachB m fun i => mayI KS (Y i)) = true) ∧ Below w.heap.size w wc)
 case first =>
  have hT1 := hT
  have hX1 := hX
  have hY1 := hY
  go_wp2_with fail
  refine (trow_any hX1).mono ?_
  rintro en w1 ⟨b1, rfl, g1, b⟩
  replace BB := bnx BB b
  have G := mv b rfl (J3 hT1 hX1 hY1)
  clear hT1 hX1 hY1
  obtain ⟨hT1, hX1, hY1⟩ := G
  clear b
  cases b1 with
  | false =>
   clear g1 hT1 hX1 hY1
   go_wp2
   go_meet
   case rel => exact ⟨true, rfl, fun h => (by cases h), BB⟩
  | true =>
   have hn8 := g1 rfl
   clear g1
   go_wp2_with fail
   refine (trow_any hY1).mono ?_
   rintro en w2 ⟨b2, rfl, g2, b⟩
   replace BB := bnx BB b
   have G := mv b rfl (J3 hT1 hX1 hY1)
   clear hT1 hX1 hY1
   obtain ⟨hT1, hX1, hY1⟩ := G
   clear b
   cases b2 with
   | false =>
    clear g2 hT1 hX1 hY1
    go_wp2
    go_meet
    case rel => exact ⟨true, rfl, fun h => (by cases h), BB⟩
   | true =>
    have hm8 := g2 rfl
    clear g2
    obtain ⟨b3, hb3⟩ : ∃ b, b = eachB n fun i => mayI KS (X i) := ⟨_, rfl⟩
    go_wp2_with fail
    refine (bmay_any hKS hT1 hX1 (by omega)).mono ?_
    rintro en w3 ⟨rfl, b⟩
    rw [← hb3]
    have B3 := Lib.hid hb3
    clear hb3
    replace BB := bnx BB b
    have G := mv b rfl (J3 hT1 hX1 hY1)
    clear hT1 hX1 hY1
    obtain ⟨hT1, hX1, hY1⟩ := G
    clear b
    cases b3 with
    | false =>
     clear B3 hT1 hX1 hY1
     go_wp2
     go_meet
     case rel => exact ⟨true, rfl, fun h => (by cases h), BB⟩
    | true =>
     obtain ⟨b4, hb4⟩ : ∃ b, b = eachB m fun i => mayI KS (Y i) := ⟨_, rfl⟩
     go_wp2_with fail
     refine (bmay_any hKS hT1 hY1 (by omega)).mono ?_
     rintro en w4 ⟨rfl, b⟩
     rw [← hb4]
     have B4 := Lib.hid hb4
     clear hb4
     replace BB := bnx BB b
     clear b hT1 hX1 hY1
     cases b4 with
     | false =>
      clear B4
      go_wp2
      go_meet
      case rel => exact ⟨true, rfl, fun h => (by cases h), BB⟩
     | true =>
      by_cases hnm : (n : Int) = (m : Int)
      ·go_wp2
       go_meet
       case rel => exact ⟨false, rfl, fun _ => ⟨by omega, hn8, B3.out.symm, B4.out.symm⟩, BB⟩
      ·go_wp2
       go_meet
       case rel => exact ⟨true, by simp [hnm], fun h => (by cases h), BB⟩
 case rest =>
  obtain ⟨bb, rfl, hbb, BB⟩ := hcut
  cases bb with
  | true =>
   clear hbb
   go_wp2_with fail
   refine (told11_any (mv BB rfl hT)).mono ?_
   rintro en w9 ⟨rfl, b⟩
   replace BB := bnx BB b
   go_wp2
   go_ret
   exact ⟨by first | rfl | simp, BB⟩
  | false =>
   obtain ⟨rfl, hn8, ha, hb⟩ := hbb rfl
   have HA := Lib.hid ha
   have HB := Lib.hid hb
   clear hbb ha hb hm9
   go_wp2
   go_loopg [5, 6, 7, 8] n (fun q v5 v6 v7 v8 wr => ∃ i : Nat, i + q = n ∧ v8 = .int .i64 i ∧ v5 = .bool (eachB i fun j => withinI KS (X j) (Y j)) ∧ v6 = .bool (eachB i fun j => insideI KS (X j) (Y j)) ∧ v7 = .bool (eachB i fun j => decide (meetK KS (X j) (Y j) = 0)) ∧ Below w.heap.size w wr)
   case atStart => exact ⟨0, by omega, rfl, by rw [eachB_zero], by rw [eachB_zero], by rw [eachB_zero], BB⟩
   case round =>
    clear BB
    obtain ⟨i, hg, rfl, rfl, rfl, rfl, BB⟩ := hrel
    have HG := Lib.hid hg
    clear hg
    by_cases hi : i < n
    ·have hp2 : (i : Int) < n := by omega
     have hp3 : (0 : Int) ≤ i := by omega
     obtain ⟨g1, o1, hAX, hc⟩ := (mv BB rfl hX).at_ (by omega)
     obtain ⟨g2, o2, hAY, hd⟩ := (mv BB rfl hY).at_ (by omega)
     obtain ⟨A1, n1, c1, A2, n2, c2, ⟨r0, r1, r2, r3, r4, r5⟩, q1, q2⟩ := hc i hi
     obtain ⟨A3, n3, c3, A4, n4, c4, ⟨s0, s1, s2, s3, s4, s5⟩, q3, q4⟩ := hd i hi
     clear hc hd
     have E5 := Lib.hid (eachB_step (i := i) (g := fun j => withinI KS (X j) (Y j)))
     have E6 := Lib.hid (eachB_step (i := i) (g := fun j => insideI KS (X j) (Y j)))
     have E7 := Lib.hid (eachB_step (i := i) (g := fun j => decide (meetK KS (X j) (Y j) = 0)))
     generalize (eachB i fun j => withinI KS (X j) (Y j)) = bv5 at *
     generalize (eachB i fun j => insideI KS (X j) (Y j)) = bv6 at *
     generalize (eachB i fun j => decide (meetK KS (X j) (Y j) = 0)) = bv7 at *
     have hXi := Lib.hid (rfl : X i = X i)
     generalize X i = x at *
     generalize Y i = y at *
     clear hXi
     subst hAX hAY
     go_upto_region 7 with fail
     go_cut [5] from 45 to 56 (fun v5 wc => v5 = .bool (bv5 && withinI KS x y) ∧ Below wr.heap.size wr wc)
     case first =>
      cases bv5 with
      | false =>
       have bd : Below wr.heap.size wr (World.drew wr) := below_drewN (Below.refl _ _) 1
       have G := mv bd rfl (J16 r0 r1 r2 r3 r4 r5 s0 s1 s2 s3 s4 s5 q1 q2 q3 q4)
       clear r0 r1 r2 r3 r4 r5 s0 s1 s2 s3 s4 s5 q1 q2 q3 q4
       obtain ⟨r0, r1, r2, r3, r4, r5, s0, s1, s2, s3, s4, s5, q1, q2, q3, q4⟩ := G
       have hTd := mv (below_next BB BB.size bd rfl rfl rfl rfl) rfl hT
       go_wp2_with fail
       refine wp_region_held_drew (S := fun w' => w'.cell? ⟨g1, o1 + i * 6, none⟩ = some (.bool x.lo.s) ∧ w'.cell? ⟨g1, o1 + i * 6 + 1, none⟩ = some (.slice A1 n1 c1) ∧ w'.cell? ⟨g1, o1 + i * 6 + 2, none⟩ = some (.int .i64 x.lo.e) ∧ w'.cell? ⟨g1, o1 + i * 6 + 3, none⟩ = some (.bool x.hi.s) ∧ w'.cell? ⟨g1, o1 + i * 6 + 4, none⟩ = some (.slice A2 n2 c2) ∧ w'.cell? ⟨g1, o1 + i * 6 + 5, none⟩ = some (.int .i64 x.hi.e) ∧ w'.cell? ⟨g2, o2 + i * 6, none⟩ = some (.bool y.lo.s) ∧ w'.cell? ⟨g2, o2 + i * 6 + 1, none⟩ = some (.slice A3 n3 c3) ∧ w'.cell? ⟨g2, o2 + i * 6 + 2, none⟩ = some (.int .i64 y.lo.e) ∧ w'.cell? ⟨g2, o2 + i * 6 + 3, none⟩ = some (.bool y.hi.s) ∧ w'.cell? ⟨g2, o2 + i * 6 + 4, none⟩ = some (.slice A4 n4 c4) ∧ w'.cell? ⟨g2, o2 + i * 6 + 5, none⟩ = some (.int .i64 y.hi.e)) (by kernel_rfl) (by exact ⟨r0, r1, r2, r3, r4, r5, s0, s1, s2, s3, s4, s5⟩) (fun hHeldaf0 => ?_)
       generalize World.drew wr = wd at *
       refine tl 0 ?_
       refine tl 1 ?_
       refine wpAnyH_take (i := 2) (v := undef) rfl (by kernel_rfl) (by kernel_rfl) (by kernel_rfl) (fun _ _ _ h => panic_put (P := Tryz.prog) (fn := Tryz.f5) (R := (Bools true w)) h) (Or.inr ⟨by rfl, rfl⟩) (by assumption) ?_
       change wpAnyH _ _ _ _ _ _ _ (Act.put _ (some 47) _) _
       simp only [Act.put, List.setIfInBounds_toArray, List.set_cons_zero, List.set_cons_succ]
       refine wpAnyH_take (i := 3) (v := undef) rfl (by kernel_rfl) (by kernel_rfl) (by kernel_rfl) (fun _ _ _ h => panic_put (P := Tryz.prog) (fn := Tryz.f5) (R := (Bools true w)) h) (Or.inr ⟨by rfl, rfl⟩) (by assumption) ?_
       change wpAnyH _ _ _ _ _ _ _ (Act.put _ (some 48) _) _
       simp only [Act.put, List.setIfInBounds_toArray, List.set_cons_zero, List.set_cons_succ]
       refine wpAnyH_take (i := 4) (v := undef) rfl (by kernel_rfl) (by kernel_rfl) (by kernel_rfl) (fun _ _ _ h => panic_put (P := Tryz.prog) (fn := Tryz.f5) (R := (Bools true w)) h) (Or.inr ⟨by rfl, rfl⟩) (by assumption) ?_
       change wpAnyH _ _ _ _ _ _ _ (Act.put _ (some 49) _) _
       simp only [Act.put, List.setIfInBounds_toArray, List.set_cons_zero, List.set_cons_succ]
       refine wpAnyH_take (i := 5) (v := undef) rfl (by kernel_rfl) (by kernel_rfl) (by kernel_rfl) (fun _ _ _ h => panic_put (P := Tryz.prog) (fn := Tryz.f5) (R := (Bools true w)) h) (Or.inr ⟨by rfl, rfl⟩) (by assumption) ?_
       change wpAnyH _ _ _ _ _ _ _ (Act.put _ (some 50) _) _
       simp only [Act.put, List.setIfInBounds_toArray, List.set_cons_zero, List.set_cons_succ]
       refine wpAnyH_take (i := 6) (v := undef) rfl (by kernel_rfl) (by kernel_rfl) (by kernel_rfl) (fun _ _ _ h => panic_put (P := Tryz.prog) (fn := Tryz.f5) (R := (Bools true w)) h) (Or.inr ⟨by rfl, rfl⟩) (by assumption) ?_
       change wpAnyH _ _ _ _ _ _ _ (Act.put _ (some 51) _) _
       simp only [Act.put, List.setIfInBounds_toArray, List.set_cons_zero, List.set_cons_succ]
       refine wpAnyH_take (i := 7) (v := undef) rfl (by kernel_rfl) (by kernel_rfl) (by kernel_rfl) (fun _ _ _ h => panic_put (P := Tryz.prog) (fn := Tryz.f5) (R := (Bools true w)) h) (Or.inr ⟨by rfl, rfl⟩) (by assumption) ?_
       change wpAnyH _ _ _ _ _ _ _ (Act.put _ (some 52) _) _
       simp only [Act.put, List.setIfInBounds_toArray, List.set_cons_zero, List.set_cons_succ]
       refine wpAnyH_take (i := 8) (v := undef) rfl (by kernel_rfl) (by kernel_rfl) (by kernel_rfl) (fun _ _ _ h => panic_put (P := Tryz.prog) (fn := Tryz.f5) (R := (Bools true w)) h) (Or.inr ⟨by rfl, rfl⟩) (by assumption) ?_
       change wpAnyH _ _ _ _ _ _ _ (Act.put _ (some 53) _) _
       simp only [Act.put, List.setIfInBounds_toArray, List.set_cons_zero, List.set_cons_succ]
       refine wpAnyH_take (i := 9) (v := undef) rfl (by kernel_rfl) (by kernel_rfl) (by kernel_rfl) (fun _ _ _ h => panic_put (P := Tryz.prog) (fn := Tryz.f5) (R := (Bools true w)) h) (Or.inr ⟨by rfl, rfl⟩) (by assumption) ?_
       change wpAnyH _ _ _ _ _ _ _ (Act.put _ (some 54) _) _
       simp only [Act.put, List.setIfInBounds_toArray, List.set_cons_zero, List.set_cons_succ]
       refine wpAnyH_take (i := 10) (v := undef) rfl (by kernel_rfl) (by kernel_rfl) (by kernel_rfl) (fun _ _ _ h => panic_put (P := Tryz.prog) (fn := Tryz.f5) (R := (Bools true w)) h) (Or.inr ⟨by rfl, rfl⟩) (by assumption) ?_
       change wpAnyH _ _ _ _ _ _ _ (Act.put _ (some 55) _) _
       simp only [Act.put, List.setIfInBounds_toArray, List.set_cons_zero, List.set_cons_succ]
       refine tl 11 ?_
       refine tl 12 ?_
       refine wpAnyH_done (by kernel_rfl) ?_ _
       go_wp2
       go_meet
       case rel => exact ⟨by rw [Bool.false_and], bd⟩
      | true =>
       have bd : Below wr.heap.size wr (World.drew wr) := below_drewN (Below.refl _ _) 1
       have G := mv bd rfl (J16 r0 r1 r2 r3 r4 r5 s0 s1 s2 s3 s4 s5 q1 q2 q3 q4)
       clear r0 r1 r2 r3 r4 r5 s0 s1 s2 s3 s4 s5 q1 q2 q3 q4
       obtain ⟨r0, r1, r2, r3, r4, r5, s0, s1, s2, s3, s4, s5, q1, q2, q3, q4⟩ := G
       have hTd := mv (below_next BB BB.size bd rfl rfl rfl rfl) rfl hT
       go_wp2_with fail
       refine wp_region_held_drew (S := fun w' => w'.cell? ⟨g1, o1 + i * 6, none⟩ = some (.bool x.lo.s) ∧ w'.cell? ⟨g1, o1 + i * 6 + 1, none⟩ = some (.slice A1 n1 c1) ∧ w'.cell? ⟨g1, o1 + i * 6 + 2, none⟩ = some (.int .i64 x.lo.e) ∧ w'.cell? ⟨g1, o1 + i * 6 + 3, none⟩ = some (.bool x.hi.s) ∧ w'.cell? ⟨g1, o1 + i * 6 + 4, none⟩ = some (.slice A2 n2 c2) ∧ w'.cell? ⟨g1, o1 + i * 6 + 5, none⟩ = some (.int .i64 x.hi.e) ∧ w'.cell? ⟨g2, o2 + i * 6, none⟩ = some (.bool y.lo.s) ∧ w'.cell? ⟨g2, o2 + i * 6 + 1, none⟩ = some (.slice A3 n3 c3) ∧ w'.cell? ⟨g2, o2 + i * 6 + 2, none⟩ = some (.int .i64 y.lo.e) ∧ w'.cell? ⟨g2, o2 + i * 6 + 3, none⟩ = some (.bool y.hi.s) ∧ w'.cell? ⟨g2, o2 + i * 6 + 4, none⟩ = some (.slice A4 n4 c4) ∧ w'.cell? ⟨g2, o2 + i * 6 + 5, none⟩ = some (.int .i64 y.hi.e)) (by kernel_rfl) (by exact ⟨r0, r1, r2, r3, r4, r5, s0, s1, s2, s3, s4, s5⟩) (fun hHeldat0 => ?_)
       generalize World.drew wr = wd at *
       refine tl 0 ?_
       refine tl 1 ?_
       refine tl 2 ?_
       refine tl 3 ?_
       refine tl 4 ?_
       refine tl 5 ?_
       refine tl 6 ?_
       refine tl 7 ?_
       refine tl 8 ?_
       refine tl 9 ?_
       refine rdy 10 fun K hK => ?_
       go_simp
       refine (iwithin_any (K := KS) hKS hTd q1 q2 q3 q4).mono ?_
       rintro en w7 ⟨rfl, b7⟩
       replace bd := below_next bd bd.size b7 (by rfl) (by rfl) (by rfl) (by rfl)
       have G := mv b7 (by rfl) <| And.intro r0 <| And.intro r1 <| And.intro r2 <| And.intro r3 <| And.intro r4 <| And.intro r5 <| And.intro s0 <| And.intro s1 <| And.intro s2 <| And.intro s3 <| And.intro s4 <| s5
       clear r0 r1 r2 r3 r4 r5 s0 s1 s2 s3 s4 s5
       obtain ⟨r0, r1, r2, r3, r4, r5, s0, s1, s2, s3, s4, s5⟩ := G
       clear b7
       refine hK.out _ _ (by exact ⟨r0, r1, r2, r3, r4, r5, s0, s1, s2, s3, s4, s5⟩) (fun hHeldat1 => ?_)
       clear hK K hHeldat0
       try simp only [Act.put]
       refine tl 11 ?_
       refine tl 12 ?_
       refine wpAnyH_done (by kernel_rfl) ?_ _
       go_wp2
       go_meet
       case rel => exact ⟨by rw [Bool.true_and], bd⟩
     case rest =>
      obtain ⟨rfl, b9⟩ := hcut
      replace BB := below_next BB BB.size b9 rfl rfl rfl rfl
      have G := mv b9 rfl (J16 r0 r1 r2 r3 r4 r5 s0 s1 s2 s3 s4 s5 q1 q2 q3 q4)
      clear r0 r1 r2 r3 r4 r5 s0 s1 s2 s3 s4 s5 q1 q2 q3 q4
      obtain ⟨r0, r1, r2, r3, r4, r5, s0, s1, s2, s3, s4, s5, q1, q2, q3, q4⟩ := G
      clear b9
      generalize wc = w5 at *
      go_upto_region 8 with fail
      go_cut [6] from 57 to 68 (fun v6 wc => v6 = .bool (bv6 && insideI KS x y) ∧ Below w5.heap.size w5 wc)
      case first =>
       cases bv6 with
       | false =>
        have bd : Below w5.heap.size w5 (World.drew w5) := below_drewN (Below.refl _ _) 1
        have G := mv bd rfl (J16 r0 r1 r2 r3 r4 r5 s0 s1 s2 s3 s4 s5 q1 q2 q3 q4)
        clear r0 r1 r2 r3 r4 r5 s0 s1 s2 s3 s4 s5 q1 q2 q3 q4
        obtain ⟨r0, r1, r2, r3, r4, r5, s0, s1, s2, s3, s4, s5, q1, q2, q3, q4⟩ := G
        have hTd := mv (below_next BB BB.size bd rfl rfl rfl rfl) rfl hT
        go_wp2_with fail
        refine wp_region_held_drew (S := fun w' => w'.cell? ⟨g1, o1 + i * 6, none⟩ = some (.bool x.lo.s) ∧ w'.cell? ⟨g1, o1 + i * 6 + 1, none⟩ = some (.slice A1 n1 c1) ∧ w'.cell? ⟨g1, o1 + i * 6 + 2, none⟩ = some (.int .i64 x.lo.e) ∧ w'.cell? ⟨g1, o1 + i * 6 + 3, none⟩ = some (.bool x.hi.s) ∧ w'.cell? ⟨g1, o1 + i * 6 + 4, none⟩ = some (.slice A2 n2 c2) ∧ w'.cell? ⟨g1, o1 + i * 6 + 5, none⟩ = some (.int .i64 x.hi.e) ∧ w'.cell? ⟨g2, o2 + i * 6, none⟩ = some (.bool y.lo.s) ∧ w'.cell? ⟨g2, o2 + i * 6 + 1, none⟩ = some (.slice A3 n3 c3) ∧ w'.cell? ⟨g2, o2 + i * 6 + 2, none⟩ = some (.int .i64 y.lo.e) ∧ w'.cell? ⟨g2, o2 + i * 6 + 3, none⟩ = some (.bool y.hi.s) ∧ w'.cell? ⟨g2, o2 + i * 6 + 4, none⟩ = some (.slice A4 n4 c4) ∧ w'.cell? ⟨g2, o2 + i * 6 + 5, none⟩ = some (.int .i64 y.hi.e)) (by kernel_rfl) (by exact ⟨r0, r1, r2, r3, r4, r5, s0, s1, s2, s3, s4, s5⟩) (fun hHeldbf0 => ?_)
        generalize World.drew w5 = wd at *
        refine tl 0 ?_
        refine tl 1 ?_
        refine wpAnyH_take (i := 2) (v := undef) rfl (by kernel_rfl) (by kernel_rfl) (by kernel_rfl) (fun _ _ _ h => panic_put (P := Tryz.prog) (fn := Tryz.f5) (R := (Bools true w)) h) (Or.inr ⟨by rfl, rfl⟩) (by assumption) ?_
        change wpAnyH _ _ _ _ _ _ _ (Act.put _ (some 59) _) _
        simp only [Act.put, List.setIfInBounds_toArray, List.set_cons_zero, List.set_cons_succ]
        refine wpAnyH_take (i := 3) (v := undef) rfl (by kernel_rfl) (by kernel_rfl) (by kernel_rfl) (fun _ _ _ h => panic_put (P := Tryz.prog) (fn := Tryz.f5) (R := (Bools true w)) h) (Or.inr ⟨by rfl, rfl⟩) (by assumption) ?_
        change wpAnyH _ _ _ _ _ _ _ (Act.put _ (some 60) _) _
        simp only [Act.put, List.setIfInBounds_toArray, List.set_cons_zero, List.set_cons_succ]
        refine wpAnyH_take (i := 4) (v := undef) rfl (by kernel_rfl) (by kernel_rfl) (by kernel_rfl) (fun _ _ _ h => panic_put (P := Tryz.prog) (fn := Tryz.f5) (R := (Bools true w)) h) (Or.inr ⟨by rfl, rfl⟩) (by assumption) ?_
        change wpAnyH _ _ _ _ _ _ _ (Act.put _ (some 61) _) _
        simp only [Act.put, List.setIfInBounds_toArray, List.set_cons_zero, List.set_cons_succ]
        refine wpAnyH_take (i := 5) (v := undef) rfl (by kernel_rfl) (by kernel_rfl) (by kernel_rfl) (fun _ _ _ h => panic_put (P := Tryz.prog) (fn := Tryz.f5) (R := (Bools true w)) h) (Or.inr ⟨by rfl, rfl⟩) (by assumption) ?_
        change wpAnyH _ _ _ _ _ _ _ (Act.put _ (some 62) _) _
        simp only [Act.put, List.setIfInBounds_toArray, List.set_cons_zero, List.set_cons_succ]
        refine wpAnyH_take (i := 6) (v := undef) rfl (by kernel_rfl) (by kernel_rfl) (by kernel_rfl) (fun _ _ _ h => panic_put (P := Tryz.prog) (fn := Tryz.f5) (R := (Bools true w)) h) (Or.inr ⟨by rfl, rfl⟩) (by assumption) ?_
        change wpAnyH _ _ _ _ _ _ _ (Act.put _ (some 63) _) _
        simp only [Act.put, List.setIfInBounds_toArray, List.set_cons_zero, List.set_cons_succ]
        refine wpAnyH_take (i := 7) (v := undef) rfl (by kernel_rfl) (by kernel_rfl) (by kernel_rfl) (fun _ _ _ h => panic_put (P := Tryz.prog) (fn := Tryz.f5) (R := (Bools true w)) h) (Or.inr ⟨by rfl, rfl⟩) (by assumption) ?_
        change wpAnyH _ _ _ _ _ _ _ (Act.put _ (some 64) _) _
        simp only [Act.put, List.setIfInBounds_toArray, List.set_cons_zero, List.set_cons_succ]
        refine wpAnyH_take (i := 8) (v := undef) rfl (by kernel_rfl) (by kernel_rfl) (by kernel_rfl) (fun _ _ _ h => panic_put (P := Tryz.prog) (fn := Tryz.f5) (R := (Bools true w)) h) (Or.inr ⟨by rfl, rfl⟩) (by assumption) ?_
        change wpAnyH _ _ _ _ _ _ _ (Act.put _ (some 65) _) _
        simp only [Act.put, List.setIfInBounds_toArray, List.set_cons_zero, List.set_cons_succ]
        refine wpAnyH_take (i := 9) (v := undef) rfl (by kernel_rfl) (by kernel_rfl) (by kernel_rfl) (fun _ _ _ h => panic_put (P := Tryz.prog) (fn := Tryz.f5) (R := (Bools true w)) h) (Or.inr ⟨by rfl, rfl⟩) (by assumption) ?_
        change wpAnyH _ _ _ _ _ _ _ (Act.put _ (some 66) _) _
        simp only [Act.put, List.setIfInBounds_toArray, List.set_cons_zero, List.set_cons_succ]
        refine wpAnyH_take (i := 10) (v := undef) rfl (by kernel_rfl) (by kernel_rfl) (by kernel_rfl) (fun _ _ _ h => panic_put (P := Tryz.prog) (fn := Tryz.f5) (R := (Bools true w)) h) (Or.inr ⟨by rfl, rfl⟩) (by assumption) ?_
        change wpAnyH _ _ _ _ _ _ _ (Act.put _ (some 67) _) _
        simp only [Act.put, List.setIfInBounds_toArray, List.set_cons_zero, List.set_cons_succ]
        refine tl 11 ?_
        refine tl 12 ?_
        refine wpAnyH_done (by kernel_rfl) ?_ _
        go_wp2
        go_meet
        case rel => exact ⟨by rw [Bool.false_and], bd⟩
       | true =>
        have bd : Below w5.heap.size w5 (World.drew w5) := below_drewN (Below.refl _ _) 1
        have G := mv bd rfl (J16 r0 r1 r2 r3 r4 r5 s0 s1 s2 s3 s4 s5 q1 q2 q3 q4)
        clear r0 r1 r2 r3 r4 r5 s0 s1 s2 s3 s4 s5 q1 q2 q3 q4
        obtain ⟨r0, r1, r2, r3, r4, r5, s0, s1, s2, s3, s4, s5, q1, q2, q3, q4⟩ := G
        have hTd := mv (below_next BB BB.size bd rfl rfl rfl rfl) rfl hT
        go_wp2_with fail
        refine wp_region_held_drew (S := fun w' => w'.cell? ⟨g1, o1 + i * 6, none⟩ = some (.bool x.lo.s) ∧ w'.cell? ⟨g1, o1 + i * 6 + 1, none⟩ = some (.slice A1 n1 c1) ∧ w'.cell? ⟨g1, o1 + i * 6 + 2, none⟩ = some (.int .i64 x.lo.e) ∧ w'.cell? ⟨g1, o1 + i * 6 + 3, none⟩ = some (.bool x.hi.s) ∧ w'.cell? ⟨g1, o1 + i * 6 + 4, none⟩ = some (.slice A2 n2 c2) ∧ w'.cell? ⟨g1, o1 + i * 6 + 5, none⟩ = some (.int .i64 x.hi.e) ∧ w'.cell? ⟨g2, o2 + i * 6, none⟩ = some (.bool y.lo.s) ∧ w'.cell? ⟨g2, o2 + i * 6 + 1, none⟩ = some (.slice A3 n3 c3) ∧ w'.cell? ⟨g2, o2 + i * 6 + 2, none⟩ = some (.int .i64 y.lo.e) ∧ w'.cell? ⟨g2, o2 + i * 6 + 3, none⟩ = some (.bool y.hi.s) ∧ w'.cell? ⟨g2, o2 + i * 6 + 4, none⟩ = some (.slice A4 n4 c4) ∧ w'.cell? ⟨g2, o2 + i * 6 + 5, none⟩ = some (.int .i64 y.hi.e)) (by kernel_rfl) (by exact ⟨r0, r1, r2, r3, r4, r5, s0, s1, s2, s3, s4, s5⟩) (fun hHeldbt0 => ?_)
        generalize World.drew w5 = wd at *
        refine tl 0 ?_
        refine tl 1 ?_
        refine tl 2 ?_
        refine tl 3 ?_
        refine tl 4 ?_
        refine tl 5 ?_
        refine tl 6 ?_
        refine tl 7 ?_
        refine tl 8 ?_
        refine tl 9 ?_
        refine rdy 10 fun K hK => ?_
        go_simp
        refine (iinside_any (K := KS) hKS hTd q1 q2 q3 q4).mono ?_
        rintro en w7 ⟨rfl, b7⟩
        replace bd := below_next bd bd.size b7 (by rfl) (by rfl) (by rfl) (by rfl)
        have G := mv b7 (by rfl) <| And.intro r0 <| And.intro r1 <| And.intro r2 <| And.intro r3 <| And.intro r4 <| And.intro r5 <| And.intro s0 <| And.intro s1 <| And.intro s2 <| And.intro s3 <| And.intro s4 <| s5
        clear r0 r1 r2 r3 r4 r5 s0 s1 s2 s3 s4 s5
        obtain ⟨r0, r1, r2, r3, r4, r5, s0, s1, s2, s3, s4, s5⟩ := G
        clear b7
        refine hK.out _ _ (by exact ⟨r0, r1, r2, r3, r4, r5, s0, s1, s2, s3, s4, s5⟩) (fun hHeldbt1 => ?_)
        clear hK K hHeldbt0
        try simp only [Act.put]
        refine tl 11 ?_
        refine tl 12 ?_
        refine wpAnyH_done (by kernel_rfl) ?_ _
        go_wp2
        go_meet
        case rel => exact ⟨by rw [Bool.true_and], bd⟩
      case rest =>
       obtain ⟨rfl, b9⟩ := hcut
       replace BB := below_next BB BB.size b9 rfl rfl rfl rfl
       have G := mv b9 rfl (J16 r0 r1 r2 r3 r4 r5 s0 s1 s2 s3 s4 s5 q1 q2 q3 q4)
       clear r0 r1 r2 r3 r4 r5 s0 s1 s2 s3 s4 s5 q1 q2 q3 q4
       obtain ⟨r0, r1, r2, r3, r4, r5, s0, s1, s2, s3, s4, s5, q1, q2, q3, q4⟩ := G
       clear b9
       generalize wc = w6 at *
       go_upto_region 9 with fail
       go_cut [9, 10] from 69 to 80 (fun v9 v10 wc => v10 = .int .i64 (meetK KS x y) ∧ Below w6.heap.size w6 wc)
       case first =>
        have bd : Below w6.heap.size w6 (World.drew w6) := below_drewN (Below.refl _ _) 1
        have G := mv bd (by rfl) <| And.intro r0 <| And.intro r1 <| And.intro r2 <| And.intro r3 <| And.intro r4 <| And.intro r5 <| And.intro s0 <| And.intro s1 <| And.intro s2 <| And.intro s3 <| And.intro s4 <| And.intro s5 <| And.intro q1 <| And.intro q2 <| And.intro q3 <| q4
        clear r0 r1 r2 r3 r4 r5 s0 s1 s2 s3 s4 s5 q1 q2 q3 q4
        obtain ⟨r0, r1, r2, r3, r4, r5, s0, s1, s2, s3, s4, s5, q1, q2, q3, q4⟩ := G
        have hTd := mv (below_next BB BB.size bd rfl rfl rfl rfl) rfl hT
        clear BB E5 E6 E7
        go_wp2_with fail
        refine wp_region_held_drew (S := fun w' => w'.cell? ⟨g1, o1 + i * 6, none⟩ = some (.bool x.lo.s) ∧ w'.cell? ⟨g1, o1 + i * 6 + 1, none⟩ = some (.slice A1 n1 c1) ∧ w'.cell? ⟨g1, o1 + i * 6 + 2, none⟩ = some (.int .i64 x.lo.e) ∧ w'.cell? ⟨g1, o1 + i * 6 + 3, none⟩ = some (.bool x.hi.s) ∧ w'.cell? ⟨g1, o1 + i * 6 + 4, none⟩ = some (.slice A2 n2 c2) ∧ w'.cell? ⟨g1, o1 + i * 6 + 5, none⟩ = some (.int .i64 x.hi.e) ∧ w'.cell? ⟨g2, o2 + i * 6, none⟩ = some (.bool y.lo.s) ∧ w'.cell? ⟨g2, o2 + i * 6 + 1, none⟩ = some (.slice A3 n3 c3) ∧ w'.cell? ⟨g2, o2 + i * 6 + 2, none⟩ = some (.int .i64 y.lo.e) ∧ w'.cell? ⟨g2, o2 + i * 6 + 3, none⟩ = some (.bool y.hi.s) ∧ w'.cell? ⟨g2, o2 + i * 6 + 4, none⟩ = some (.slice A4 n4 c4) ∧ w'.cell? ⟨g2, o2 + i * 6 + 5, none⟩ = some (.int .i64 y.hi.e)) (by kernel_rfl) (by exact ⟨r0, r1, r2, r3, r4, r5, s0, s1, s2, s3, s4, s5⟩) (fun hHeldm0 => ?_)
        generalize World.drew w6 = wd at *
        have BD := Below.refl wd.heap.size wd
        refine tl 0 ?_
        refine tl 1 ?_
        refine tl 2 ?_
        refine tl 3 ?_
        refine tl 4 ?_
        refine tl 5 ?_
        refine tl 6 ?_
        refine tl 7 ?_
        refine wpAnyH_ready (rs := [8, 12]) (by kernel_rfl) (by simp) ?_
        refine AllReadyH.cons (o := _) rfl (fun K hK => ?_) (AllReadyH.cons (o := _) rfl (fun K hK => ?_) (AllReadyH.nil))
        go_simp
        refine (imeet_any (K := KS) hKS (mv BD rfl hTd) (mv BD rfl q1) (mv BD rfl q2) (mv BD rfl q3) (mv BD rfl q4)).mono ?_
        rintro en uy ⟨A5, n5, c5, A6, n6, c6, rfl, h5, h6, b⟩
        replace BD := below_next BD BD.size b rfl rfl rfl rfl
        clear b h5 h6
        refine hK.out _ _ (by exact ⟨mv BD rfl r0, mv BD rfl r1, mv BD rfl r2, mv BD rfl r3, mv BD rfl r4, mv BD rfl r5, mv BD rfl s0, mv BD rfl s1, mv BD rfl s2, mv BD rfl s3, mv BD rfl s4, mv BD rfl s5⟩) (fun hHeldm1 => ?_)
        clear hK K hHeldm0
        try simp only [Act.put]
        refine tl 9 ?_
        refine tl 10 ?_
        refine tl 11 ?_
        refine rdy 12 fun K hK => ?_
        go_simp
        have hgs : wd.heap.size ≤ uy.heap.size := BD.size
        have b := below_alloc uy (.cells #[.bool false, .slice none 0 0, .int .i64 0, .bool false, .slice none 0 0, .int .i64 0] 29)
        have xz := Ibx.new uy false none 0 0 0 false none 0 0 0
        replace BD := below_next BD BD.size b rfl rfl rfl rfl
        clear b
        generalize uy.alloc (.cells #[.bool false, .slice none 0 0, .int .i64 0, .bool false, .slice none 0 0, .int .i64 0] 29) = uz at *
        generalize hgzz : uy.heap.size = gz at xz ⊢
        have hgz : wd.heap.size ≤ gz := by omega
        clear hgzz hgs
        refine hK.out _ _ (by exact ⟨mv BD rfl r0, mv BD rfl r1, mv BD rfl r2, mv BD rfl r3, mv BD rfl r4, mv BD rfl r5, mv BD rfl s0, mv BD rfl s1, mv BD rfl s2, mv BD rfl s3, mv BD rfl s4, mv BD rfl s5⟩) (fun hHeldm2 => ?_)
        clear hK K hHeldm1
        try simp only [Act.put]
        rotate_left
        go_simp
        have hgs : wd.heap.size ≤ wd.heap.size := BD.size
        have b := below_alloc wd (.cells #[.bool false, .slice none 0 0, .int .i64 0, .bool false, .slice none 0 0, .int .i64 0] 29)
        have xz := Ibx.new wd false none 0 0 0 false none 0 0 0
        replace BD := below_next BD BD.size b rfl rfl rfl rfl
        clear b
        generalize wd.alloc (.cells #[.bool false, .slice none 0 0, .int .i64 0, .bool false, .slice none 0 0, .int .i64 0] 29) = uy at *
        generalize hgzz : wd.heap.size = gz at xz ⊢
        have hgz : wd.heap.size ≤ gz := by omega
        clear hgzz hgs
        refine hK.out _ _ (by exact ⟨mv BD rfl r0, mv BD rfl r1, mv BD rfl r2, mv BD rfl r3, mv BD rfl r4, mv BD rfl r5, mv BD rfl s0, mv BD rfl s1, mv BD rfl s2, mv BD rfl s3, mv BD rfl s4, mv BD rfl s5⟩) (fun hHeldm1 => ?_)
        clear hK K hHeldm0
        try simp only [Act.put]
        refine rdy 8 fun K hK => ?_
        go_simp
        refine (imeet_any (K := KS) hKS (mv BD rfl hTd) (mv BD rfl q1) (mv BD rfl q2) (mv BD rfl q3) (mv BD rfl q4)).mono ?_
        rintro en uz ⟨A5, n5, c5, A6, n6, c6, rfl, h5, h6, b⟩
        replace BD := below_next BD BD.size b rfl rfl rfl rfl
        replace xz := mv b (by rfl) xz
        clear b h5 h6
        refine hK.out _ _ (by exact ⟨mv BD rfl r0, mv BD rfl r1, mv BD rfl r2, mv BD rfl r3, mv BD rfl r4, mv BD rfl r5, mv BD rfl s0, mv BD rfl s1, mv BD rfl s2, mv BD rfl s3, mv BD rfl s4, mv BD rfl s5⟩) (fun hHeldm2 => ?_)
        clear hK K hHeldm1
        try simp only [Act.put]
        refine tl 9 ?_
        refine tl 10 ?_
        refine tl 11 ?_
        rotate_left
        all_goals (
         refine rdy 13 fun K hK => ?_
         generalize meetI KS x y = zq at *
         obtain ⟨f0, f1, f2, f3, f4, f5⟩ := xz.open
         obtain ⟨z0, z1, z2, z3, z4, z5⟩ := xz.held
         go_simp
         replace BD := below_put6 (g := gz) BD hgz (.bool zq.lo.s) (.slice A5 n5 c5) (.int .i64 zq.lo.e) (.bool zq.hi.s) (.slice A6 n6 c6) (.int .i64 zq.hi.e)
         refine hK.out _ _ (by exact ⟨mv BD rfl r0, mv BD rfl r1, mv BD rfl r2, mv BD rfl r3, mv BD rfl r4, mv BD rfl r5, mv BD rfl s0, mv BD rfl s1, mv BD rfl s2, mv BD rfl s3, mv BD rfl s4, mv BD rfl s5⟩) (fun hHeldm3 => ?_)
         clear hK K hHeldm2
         try simp only [Act.put]
         refine tl 14 ?_
         refine wpAnyH_done (by kernel_rfl) ?_ _
         go_wp2
         go_meet
         case rel => exact ⟨rfl, below_next bd bd.size BD rfl rfl rfl rfl⟩)
       case rest =>
        obtain ⟨rfl, b9⟩ := hcut
        replace BB := below_next BB BB.size b9 rfl rfl rfl rfl
        clear b9 r0 r1 r2 r3 r4 r5 s0 s1 s2 s3 s4 s5 q1 q2 q3 q4
        generalize wc = w7 at *
        obtain ⟨km, hkm⟩ : ∃ q, q = meetK KS x y := ⟨_, rfl⟩
        rw [← hkm] at E7
        have HK := Lib.hid hkm
        rw [← hkm]
        clear hkm
        cases bv7 with
        | false =>
         go_wp2
         go_roundg (gk - 1)
         case measure => have := HG.out; omega
         case rel => exact ⟨i + 1, by have := HG.out; omega, by go_num, by rw [E5.out], by rw [E6.out], by rw [E7.out, Bool.false_and], BB⟩
        | true =>
         by_cases hz : km = 0
         ·have hz2 : decide (km = 0) = true := decide_eq_true hz
          have HZ := Lib.hid hz2
          clear hz2
          subst hz
          go_wp2
          go_roundg (gk - 1)
          case measure => have := HG.out; omega
          case rel => exact ⟨i + 1, by have := HG.out; omega, by go_num, by rw [E5.out], by rw [E6.out], by rw [E7.out, HZ.out, Bool.true_and], BB⟩
         ·have hz2 : decide (km = 0) = false := decide_eq_false hz
          have HZ := Lib.hid hz2
          clear hz2
          go_wp2
          go_roundg (gk - 1)
          case measure => have := HG.out; omega
          case rel => exact ⟨i + 1, by have := HG.out; omega, by go_num, by rw [E5.out], by rw [E6.out], by rw [E7.out, HZ.out, Bool.true_and]; simp [hz], BB⟩
    ·have hin : i = n := by have := HG.out; omega
     subst hin
     have hT1 := mv BB rfl hT
     have hX1 := mv BB rfl hX
     have hY1 := mv BB rfl hY
     have E7 := Lib.hid (firstE_all (n := i) (k := fun j => meetK KS (X j) (Y j)))
     have E8 := Lib.hid (bothK_ok (kk := meetK KS) HA.out HB.out)
     generalize hb5 : (eachB i fun j => withinI KS (X j) (Y j)) = bv5 at *
     generalize hb6 : (eachB i fun j => insideI KS (X j) (Y j)) = bv6 at *
     generalize (eachB i fun j => decide (meetK KS (X j) (Y j) = 0)) = bv7 at *
     have HB5 := Lib.hid hb5
     have HB6 := Lib.hid hb6
     clear hb5 hb6
     go_wp2_with fail
     refine (bmeet_any (K := KS) hKS hT1 hX1 hY1 (by omega) (by omega)).mono ?_
     rintro en w5 ⟨A5, m5, c5, rfl, hz1, hz2, b⟩
     clear hz1 hz2
     rw [E8.out]
     replace BB := bnx BB b
     have G := mv b rfl (J3 hT1 hX1 hY1)
     clear hT1 hX1 hY1
     obtain ⟨hT1, hX1, hY1⟩ := G
     clear b E8
     generalize firstE (fun j => meetK KS (X j) (Y j)) i = km at *
     go_wp2_with fail
     refine (told11_any hT1).mono ?_
     rintro en w6 ⟨rfl, b⟩
     replace BB := bnx BB b
     have G := mv b rfl (J3 hT1 hX1 hY1)
     clear hT1 hX1 hY1
     obtain ⟨hT1, hX1, hY1⟩ := G
     clear b
     go_wp2_with fail
     refine (bwithin_any (K := KS) hKS hT1 hX1 hY1 (by omega)).mono ?_
     rintro en w7 ⟨rfl, b⟩
     rw [two_is, HB5.out]
     replace BB := bnx BB b
     have G := mv b rfl (J3 hT1 hX1 hY1)
     clear hT1 hX1 hY1
     obtain ⟨hT1, hX1, hY1⟩ := G
     clear b
     cases bv5
     all_goals
      go_wp2_with fail
      refine (binside_any (K := KS) hKS hT1 hX1 hY1 (by omega)).mono ?_
      rintro en w8 ⟨rfl, b⟩
      rw [two_is, HB6.out]
      replace BB := bnx BB b
      clear b hT1 hX1 hY1
      cases bv6
      all_goals
       by_cases hz : km = 0
       ·have hz2 : bv7 = true := E7.out.symm.trans (decide_eq_true hz)
        subst hz hz2
        go_wp2
        go_ret
        exact ⟨by first | rfl | simp, BB⟩
       ·have hz2 : bv7 = false := E7.out.symm.trans (decide_eq_false hz)
        subst hz2
        go_wp2
        go_ret
        exact ⟨by simp [hz], BB⟩

end Go.Proofs.YtlpjlmophlikeaaGreatDoor
