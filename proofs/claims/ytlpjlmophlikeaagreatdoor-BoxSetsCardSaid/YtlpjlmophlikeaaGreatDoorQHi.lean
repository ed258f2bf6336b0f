/-
 Contract of the statement BoxSets's function: it returns true, whatever its arguments, at this translation. Condition: the slices read as limbs, the table of math/bits reads as its text lays it.
-/
import Derived.StillTailTactics
import Derived.Deep.CutBlock
import Derived.Deep.DeepCutAuto
import Derived.Test.YtlpjlmophlikeaaGreatDoorQHf
import Derived.Test.YtlpjlmophlikeaaGreatDoorQTq
set_option maxHeartbeats 8000000
set_option maxRecDepth 100000
namespace Go.Proofs.YtlpjlmophlikeaaGreatDoor
open Go.RowKit


theorem boxsets_any {w : World} {n c m d : Nat} {A B : Option Addr} {X Y : Nat → Iv} {iz kz : Int} (hT : Tab w) (hX : RdS w A n c X) (hY : RdS w B m d Y) :
  Calls Tryz.prog 4 #[.slice A n c, .slice B m d, .int .i64 iz, .int .i64 kz] w (Bools true w) := by
 obtain ⟨KS, hKS⟩ := scale_has
 have BB := Below.refl w.heap.size w
 have hn9 : (n : Int) ≤ 9223372036854775807 := by have := hX.cap; have := hX.max; omega
 have hm9 : (m : Int) ≤ 9223372036854775807 := by have := hY.cap; have := hY.max; omega
 go_enter Tryz.func4, Tryz.ntmps4
 go_upto_region 1 with fail
 go_cut [40] (fun v40 wc => ∃ bb : Bool, v40 = .bool bb ∧ (bb = false → n = m ∧ n ≤ 8 ∧ (eachB n fun i => mayI KS (X i)) = true ∧ (eachB m fun i => mayI KS (Y i)) = true) ∧ Below w.heap.size w wc)
 case first =>
  have hT1 := hT
  have hX1 := hX
  have hY1 := hY
  go_wp2_with fail
  refine (trow_any hX1).mono ?_
  rintro en w1 ⟨b1, rfl, g1, b⟩
  replace BB := bnx BB b
  have G := mv b rfl (J3 hT1 hX1 hY1)
  clear hT1 hX1 hY1
  obtain ⟨hT1, hX1, hY1⟩ := G
  clear b
  cases b1 with
  | false =>
   clear g1 hT1 hX1 hY1
   go_wp2
   go_meet
   case rel => exact ⟨true, rfl, fun h => (by cases h), BB⟩
  | true =>
   have hn8 := g1 rfl
   clear g1
   go_wp2_with fail
   refine (trow_any hY1).mono ?_
   rintro en w2 ⟨b2, rfl, g2, b⟩
   replace BB := bnx BB b
   have G := mv b rfl (J3 hT1 hX1 hY1)
   clear hT1 hX1 hY1
   obtain ⟨hT1, hX1, hY1⟩ := G
   clear b
   cases b2 with
   | false =>
    clear g2 hT1 hX1 hY1
    go_wp2
    go_meet
    case rel => exact ⟨true, rfl, fun h => (by cases h), BB⟩
   | true =>
    have hm8 := g2 rfl
    clear g2
    obtain ⟨b3, hb3⟩ : ∃ b, b = eachB n fun i => mayI KS (X i) := ⟨_, rfl⟩
    go_wp2_with fail
    refine (bmay_any hKS hT1 hX1 (by omega)).mono ?_
    rintro en w3 ⟨rfl, b⟩
    rw [← hb3]
    have B3 := Lib.hid hb3
    clear hb3
    replace BB := bnx BB b
    have G := mv b rfl (J3 hT1 hX1 hY1)
    clear hT1 hX1 hY1
    obtain ⟨hT1, hX1, hY1⟩ := G
    clear b
    cases b3 with
    | false =>
     clear B3 hT1 hX1 hY1
     go_wp2
     go_meet
     case rel => exact ⟨true, rfl, fun h => (by cases h), BB⟩
    | true =>
     obtain ⟨b4, hb4⟩ : ∃ b, b = eachB m fun i => mayI KS (Y i) := ⟨_, rfl⟩
     go_wp2_with fail
     refine (bmay_any hKS hT1 hY1 (by omega)).mono ?_
     rintro en w4 ⟨rfl, b⟩
     rw [← hb4]
     have B4 := Lib.hid hb4
     clear hb4
     replace BB := bnx BB b
     clear b hT1 hX1 hY1
     cases b4 with
     | false =>
      clear B4
      go_wp2
      go_meet
      case rel => exact ⟨true, rfl, fun h => (by cases h), BB⟩
     | true =>
      by_cases hnm : (n : Int) = (m : Int)
      ·go_wp2
       go_meet
       case rel => exact ⟨false, rfl, fun _ => ⟨by omega, hn8, B3.out.symm, B4.out.symm⟩, BB⟩
      ·go_wp2
       go_meet
       case rel => exact ⟨true, by simp [hnm], fun h => (by cases h), BB⟩
 case rest =>
  obtain ⟨bb, rfl, hbb, BB⟩ := hcut
  cases bb with
  | true =>
   clear hbb
   go_wp2_with fail
   refine (told11_any (mv BB rfl hT)).mono ?_
   rintro en w9 ⟨rfl, b⟩
   replace BB := bnx BB b
   go_wp2
   go_ret
   exact ⟨by first | rfl | simp, BB⟩
  | false =>
   obtain ⟨rfl, hn8, ha, hb⟩ := hbb rfl
   have HA := Lib.hid ha
   have HB := Lib.hid hb
   clear hbb ha hb hm9
   have hT1 := mv BB rfl hT
   have hX1 := mv BB rfl hX
   have hY1 := mv BB rfl hY
   go_wp2_with fail
   refine (bcorner_any (K := KS) (kz := iz) hKS hT1 hX1 (by omega) HA.out).mono ?_
   rintro en w1 ⟨Ac, cc, rfl, hC, b⟩
   replace BB := bnx BB b
   have G := mv b rfl (J3 hT1 hX1 hY1)
   clear hT1 hX1 hY1
   obtain ⟨hT1, hX1, hY1⟩ := G
   clear b
   go_wp2_with fail
   refine (bcorner_any (K := KS) (kz := kz) hKS hT1 hY1 (by omega) HB.out).mono ?_
   rintro en w2 ⟨Ad, cd, rfl, hD, b⟩
   replace BB := bnx BB b
   have G := mv b rfl (J4 hT1 hX1 hY1 hC)
   clear hT1 hX1 hY1 hC
   obtain ⟨hT1, hX1, hY1, hC⟩ := G
   clear b
   have F0 := Lib.hid (hull_rows HA.out HB.out)
   have F1 := Lib.hid (hulls (k := iz) (j := kz) HA.out HB.out)
   go_wp2_with fail
   refine (bhull_any (K := KS) hKS hT1 hX1 hY1 (by omega) (by omega)).mono ?_
   rintro en w3 ⟨Ah, mh, ch, rfl, hz, _, b⟩
   rw [F0.out] at hz ⊢
   obtain ⟨e9, hH⟩ := hz rfl
   have e8 := e9.symm
   clear e9
   subst e8
   replace BB := bnx BB b
   have G := mv b rfl (J5 hT1 hX1 hY1 hC hD)
   clear hT1 hX1 hY1 hC hD
   obtain ⟨hT1, hX1, hY1, hC, hD⟩ := G
   clear b
   obtain ⟨km, hkm⟩ : ∃ q, q = bothK KS n n X Y (meetK KS) := ⟨_, rfl⟩
   have HKM := Lib.hid hkm
   clear hkm
   go_wp2_with fail
   refine (bmeet_any (K := KS) hKS hT1 hX1 hY1 (by omega) (by omega)).mono ?_
   rintro en w4 ⟨Am, mm, cm, rfl, hz1, hz2, b⟩
   rw [← HKM.out] at hz1 hz2 ⊢
   have HZ1 := Lib.hid (And.intro hz1 hz2)
   clear hz1 hz2
   replace BB := bnx BB b
   have HM := Lib.hid HZ1.out.1
   have G := mv b rfl (J6 hT1 hX1 hY1 hC hD hH)
   clear hT1 hX1 hY1 hC hD hH
   obtain ⟨hT1, hX1, hY1, hC, hD, hH⟩ := G
   have HZ : Hid (km = 0 → mm = n ∧ RdS w4 Am n cm (fun i => meetI KS (X i) (Y i))) := Lib.hid HZ1.out.1
   clear HM HZ1 b
   go_upto_region 6 with fail
   go_wp2_with fail
   refine (bhas_any (K := KS) hKS hT1 hX1 hC (by omega)).mono ?_
   rintro en w5 ⟨rfl, b⟩
   rw [two_is, F1.out.1]
   replace BB := bnx BB b
   have G := mv b rfl (J6 hT1 hX1 hY1 hC hD hH)
   clear hT1 hX1 hY1 hC hD hH
   obtain ⟨hT1, hX1, hY1, hC, hD, hH⟩ := G
   replace HZ := Lib.hid fun e => And.intro (HZ.out e).1 (mv b rfl (HZ.out e).2)
   clear b
   go_wp2_with fail
   refine (bhas_any (K := KS) hKS hT1 hH hC (by omega)).mono ?_
   rintro en w5 ⟨rfl, b⟩
   rw [two_is, F1.out.2.1]
   replace BB := bnx BB b
   have G := mv b rfl (J6 hT1 hX1 hY1 hC hD hH)
   clear hT1 hX1 hY1 hC hD hH
   obtain ⟨hT1, hX1, hY1, hC, hD, hH⟩ := G
   replace HZ := Lib.hid fun e => And.intro (HZ.out e).1 (mv b rfl (HZ.out e).2)
   clear b
   go_wp2_with fail
   refine (bhas_any (K := KS) hKS hT1 hH hD (by omega)).mono ?_
   rintro en w5 ⟨rfl, b⟩
   rw [two_is, F1.out.2.2.1]
   replace BB := bnx BB b
   have G := mv b rfl (J6 hT1 hX1 hY1 hC hD hH)
   clear hT1 hX1 hY1 hC hD hH
   obtain ⟨hT1, hX1, hY1, hC, hD, hH⟩ := G
   replace HZ := Lib.hid fun e => And.intro (HZ.out e).1 (mv b rfl (HZ.out e).2)
   clear b
   go_wp2_with fail
   refine (bwithin_any (K := KS) hKS hT1 hX1 hH (by omega)).mono ?_
   rintro en w5 ⟨rfl, b⟩
   rw [two_is, F1.out.2.2.2.1]
   replace BB := bnx BB b
   have G := mv b rfl (J6 hT1 hX1 hY1 hC hD hH)
   clear hT1 hX1 hY1 hC hD hH
   obtain ⟨hT1, hX1, hY1, hC, hD, hH⟩ := G
   replace HZ := Lib.hid fun e => And.intro (HZ.out e).1 (mv b rfl (HZ.out e).2)
   clear b
   go_wp2_with fail
   refine (bwithin_any (K := KS) hKS hT1 hY1 hH (by omega)).mono ?_
   rintro en w5 ⟨rfl, b⟩
   rw [two_is, F1.out.2.2.2.2]
   replace BB := bnx BB b
   have G := mv b rfl (J6 hT1 hX1 hY1 hC hD hH)
   clear hT1 hX1 hY1 hC hD hH
   obtain ⟨hT1, hX1, hY1, hC, hD, hH⟩ := G
   replace HZ := Lib.hid fun e => And.intro (HZ.out e).1 (mv b rfl (HZ.out e).2)
   clear b
   obtain ⟨bo, hbo⟩ : ∃ q, q = (eachB n fun i => hasI KS (Y i) (cornQ iz i (X i))) := ⟨_, rfl⟩
   have HBO := Lib.hid hbo
   clear hbo
   go_wp2_with fail
   refine (bhas_any (K := KS) hKS hT1 hY1 hC (by omega)).mono ?_
   rintro en w6 ⟨rfl, b⟩
   rw [two_is, ← HBO.out]
   replace BB := bnx BB b
   have G := mv b rfl (J6 hT1 hX1 hY1 hC hD hH)
   clear hT1 hX1 hY1 hC hD hH
   obtain ⟨hT1, hX1, hY1, hC, hD, hH⟩ := G
   replace HZ := Lib.hid fun e => And.intro (HZ.out e).1 (mv b rfl (HZ.out e).2)
   clear b
   clear hH hD F0 F1
   by_cases hk0 : km = 0
   ·obtain ⟨e9, hM⟩ := HZ.out hk0
    have e8 := e9.symm
    clear e9
    subst e8
    have F2 := Lib.hid (meets (k := iz) HA.out HB.out (HKM.out.symm.trans hk0))
    subst hk0
    clear HZ
    go_wp2_with fail
    refine (told11_any hT1).mono ?_
    rintro en w7 ⟨rfl, b⟩
    replace BB := bnx BB b
    have G := mv b rfl (J5 hT1 hX1 hY1 hC hM)
    clear hT1 hX1 hY1 hC hM
    obtain ⟨hT1, hX1, hY1, hC, hM⟩ := G
    clear b
    go_wp2_with fail
    refine (bwithin_any (K := KS) hKS hT1 hM hX1 (by omega)).mono ?_
    rintro en w8 ⟨rfl, b⟩
    rw [two_is, F2.out.1]
    replace BB := bnx BB b
    have G := mv b rfl (J5 hT1 hX1 hY1 hC hM)
    clear hT1 hX1 hY1 hC hM
    obtain ⟨hT1, hX1, hY1, hC, hM⟩ := G
    clear b
    go_wp2_with fail
    refine (bwithin_any (K := KS) hKS hT1 hM hY1 (by omega)).mono ?_
    rintro en w9 ⟨rfl, b⟩
    rw [two_is, F2.out.2.1]
    replace BB := bnx BB b
    have G := mv b rfl (J5 hT1 hX1 hY1 hC hM)
    clear hT1 hX1 hY1 hC hM
    obtain ⟨hT1, hX1, hY1, hC, hM⟩ := G
    clear b
    go_wp2_with fail
    refine (bhas_any (K := KS) hKS hT1 hM hC (by omega)).mono ?_
    rintro en w10 ⟨rfl, b⟩
    rw [two_is, F2.out.2.2, ← HBO.out]
    replace BB := bnx BB b
    clear b hT1 hX1 hY1 hC hM
    go_wp2
    go_ret
    exact ⟨by first | rfl | simp, BB⟩
   ·have F2 := Lib.hid (no_meets (k := iz) HA.out HB.out (fun h => hk0 (HKM.out.trans h)))
    have hk5 : km = 5 := HKM.out.trans F2.out.1
    have hb0 : bo = false := HBO.out.trans F2.out.2
    subst hk5 hb0
    clear HZ hX1 hY1 hC
    go_wp2_with fail
    refine (told11_any hT1).mono ?_
    rintro en w7 ⟨rfl, b⟩
    replace BB := bnx BB b
    clear b hT1
    go_wp2
    go_ret
    exact ⟨by first | rfl | simp, BB⟩

end Go.Proofs.YtlpjlmophlikeaaGreatDoor
