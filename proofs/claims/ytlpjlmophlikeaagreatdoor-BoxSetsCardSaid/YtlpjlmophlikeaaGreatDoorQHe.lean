/-
 What boxes' hulls, meets and corners have to do with one another. No condition; nothing of the program is named here.
-/
import Derived.Test.YtlpjlmophlikeaaGreatDoorQHd
namespace Go.Proofs.YtlpjlmophlikeaaGreatDoor
open Go.RowKit

section
variable {K n : Nat} {X Y : Nat → Iv}
theorem eachB_step {i : Nat} {g : Nat → Bool} : eachB (i + 1) g = (eachB i g && g i) := by
 cases h : g i
 ·rw [Bool.and_false]
  exact eachB_no (Nat.lt_succ_self i) h
 ·rw [Bool.and_true]
  unfold eachB
  refine decide_eq_decide.2 ⟨fun hg j hj => hg j (by omega), fun hg j hj => ?_⟩
  rcases (show j < i ∨ j = i by omega) with h1 | rfl
  ·exact hg j h1
  ·exact h
theorem eachB_zero {g : Nat → Bool} : eachB 0 g = true := eachB_iff.2 fun i hi => absurd hi (Nat.not_lt_zero i)
theorem eachB_not {n : Nat} {g : Nat → Bool} (h : eachB n g = false) : ∃ i, i < n ∧ g i = false := by
 induction n with
 | zero => rw [eachB_zero] at h; cases h
 | succ n ih =>
  rw [eachB_step, Bool.and_eq_false_iff] at h
  rcases h with h | h
  ·obtain ⟨i, h1, h2⟩ := ih h
   exact ⟨i, by omega, h2⟩
  ·exact ⟨n, by omega, h⟩
theorem two_yes {n : Nat} {g : Nat → Bool} (h : ∀ i, i < n → g i = true) : (decide (n = n) && eachB n g) = true := by rw [decide_eq_true rfl, Bool.true_and]; exact eachB_iff.2 h
theorem two_is {n : Nat} {g : Nat → Bool} : (decide (n = n) && eachB n g) = eachB n g := by rw [decide_eq_true rfl, Bool.true_and]
theorem bothK_ok {kk : Iv → Iv → Int} (ha : (eachB n fun i => mayI K (X i)) = true) (hb : (eachB n fun i => mayI K (Y i)) = true) : bothK K n n X Y kk = firstE (fun i => kk (X i) (Y i)) n := if_pos ⟨rfl, ha, hb⟩
theorem hull_rows (ha : (eachB n fun i => mayI K (X i)) = true) (hb : (eachB n fun i => mayI K (Y i)) = true) : bothK K n n X Y (hullK K) = 0 := by
 rw [bothK_ok ha hb]
 exact firstE_zero.2 fun i hi => hullK_ok (eachB_iff.1 ha i hi) (eachB_iff.1 hb i hi)
theorem firstE_or {k : Nat → Int} (h : ∀ i, i < n → k i = 0 ∨ k i = 5) : firstE k n = 0 ∨ firstE k n = 5 := by
 induction n with
 | zero => exact .inl rfl
 | succ n ih =>
  show (if firstE k n = 0 then k n else firstE k n) = 0 ∨ (if firstE k n = 0 then k n else firstE k n) = 5
  split
  ·exact h n (Nat.lt_succ_self n)
  ·exact ih fun i hi => h i (by omega)
theorem firstE_not {k : Nat → Int} (h : firstE k n ≠ 0) : ∃ i, i < n ∧ k i ≠ 0 := by
 cases hq : eachB n (fun i => decide (k i = 0))
 ·obtain ⟨i, h1, h2⟩ := eachB_not hq
  exact ⟨i, h1, of_decide_eq_false h2⟩
 ·exact absurd (firstE_zero.2 fun i hi => of_decide_eq_true (eachB_iff.1 hq i hi)) h
theorem firstE_all {k : Nat → Int} : decide (firstE k n = 0) = eachB n (fun i => decide (k i = 0)) := by
 cases hq : eachB n (fun i => decide (k i = 0))
 ·obtain ⟨i, h1, h2⟩ := eachB_not hq
  exact decide_eq_false fun h => of_decide_eq_false h2 (firstE_zero.1 h i h1)
 ·exact decide_eq_true (firstE_zero.2 fun i hi => of_decide_eq_true (eachB_iff.1 hq i hi))
variable {x y : Iv} {d : Rw}
theorem corn_has {k : Int} {i : Nat} (h : mayI K x = true) : hasI K x (cornQ k i x) = true := by
 obtain ⟨h1, h2, h3⟩ := mayI_iff.1 h
 unfold cornQ
 split
 ·exact hasI_iff.2 ⟨h, h2, h3, Int.le_refl _⟩
 ·exact hasI_iff.2 ⟨h, h1, Int.le_refl _, h3⟩
theorem has_in (h : hasI K x d = true) (h' : withinI K x y = true) : hasI K y d = true := by
 obtain ⟨_, h2, h3, h4⟩ := hasI_iff.1 h
 obtain ⟨_, g2, g3, g4⟩ := withinI_iff.1 h'
 exact hasI_iff.2 ⟨g2, h2, Int.le_trans g3 h3, Int.le_trans h4 g4⟩
theorem meet_in (hx : mayI K x = true) (hy : mayI K y = true) (hm : mayI K (meetQ K x y) = true) : withinI K (meetQ K x y) x = true ∧ withinI K (meetQ K x y) y = true := by
 obtain ⟨x1, x2, _⟩ := mayI_iff.1 hx
 obtain ⟨y1, y2, _⟩ := mayI_iff.1 hy
 have h1 := fur_up (K := K) x1 y1
 have h2 := fur_dn (K := K) x2 y2
 exact ⟨withinI_iff.2 ⟨hm, hx, h1.2.2.1, h2.2.2.1⟩, withinI_iff.2 ⟨hm, hy, h1.2.2.2.1, h2.2.2.2.1⟩⟩
theorem meetK_or (hx : mayI K x = true) (hy : mayI K y = true) : (meetK K x y = 0 ∧ mayI K (meetQ K x y) = true ∧ meetI K x y = meetQ K x y) ∨ (meetK K x y = 5 ∧ mayI K (meetQ K x y) = false) := by
 cases h : mayI K (meetQ K x y)
 ·exact .inr ⟨by unfold meetK; rw [if_pos ⟨hx, hy⟩, h, if_neg Bool.false_ne_true], rfl⟩
 ·exact .inl ⟨by unfold meetK; rw [if_pos ⟨hx, hy⟩, if_pos h], rfl, by unfold meetI; rw [if_pos ⟨⟨hx, hy⟩, h⟩]⟩
/-- all that the statement BoxSets asks of hulls -/
theorem hulls (ha : (eachB n fun i => mayI K (X i)) = true) (hb : (eachB n fun i => mayI K (Y i)) = true) {k j : Int} :
  (eachB n fun i => hasI K (X i) (cornQ k i (X i))) = true ∧ (eachB n fun i => hasI K (hullI K (X i) (Y i)) (cornQ k i (X i))) = true ∧ (eachB n fun i => hasI K (hullI K (X i) (Y i)) (cornQ j i (Y i))) = true ∧
  (eachB n fun i => withinI K (X i) (hullI K (X i) (Y i))) = true ∧ (eachB n fun i => withinI K (Y i) (hullI K (X i) (Y i))) = true := by
 have key : ∀ i, i < n → withinI K (X i) (hullI K (X i) (Y i)) = true ∧ withinI K (Y i) (hullI K (X i) (Y i)) = true := fun i hi => by
  have hx := eachB_iff.1 ha i hi
  have hy := eachB_iff.1 hb i hi
  rw [hullI_ok hx hy]
  exact (hull_ok hx hy).2
 exact ⟨eachB_iff.2 fun i hi => corn_has (eachB_iff.1 ha i hi), eachB_iff.2 fun i hi => has_in (corn_has (eachB_iff.1 ha i hi)) (key i hi).1, eachB_iff.2 fun i hi => has_in (corn_has (eachB_iff.1 hb i hi)) (key i hi).2, eachB_iff.2 fun i hi => (key i hi).1, eachB_iff.2 fun i hi => (key i hi).2⟩
/-- and of meets: where there is one -/
theorem meets (ha : (eachB n fun i => mayI K (X i)) = true) (hb : (eachB n fun i => mayI K (Y i)) = true) {k : Int} (h : bothK K n n X Y (meetK K) = 0) :
  (eachB n fun i => withinI K (meetI K (X i) (Y i)) (X i)) = true ∧ (eachB n fun i => withinI K (meetI K (X i) (Y i)) (Y i)) = true ∧
  (eachB n fun i => hasI K (meetI K (X i) (Y i)) (cornQ k i (X i))) = (eachB n fun i => hasI K (Y i) (cornQ k i (X i))) := by
 rw [bothK_ok ha hb] at h
 have hz := firstE_zero.1 h
 have key : ∀ i, i < n → mayI K (meetQ K (X i) (Y i)) = true ∧ meetI K (X i) (Y i) = meetQ K (X i) (Y i) := fun i hi => by
  rcases meetK_or (eachB_iff.1 ha i hi) (eachB_iff.1 hb i hi) with ⟨_, h2, h3⟩ | ⟨h1, _⟩
  ·exact ⟨h2, h3⟩
  ·have h0 : meetK K (X i) (Y i) = 0 := hz i hi
   rw [h0] at h1; cases h1
 refine ⟨eachB_iff.2 fun i hi => ?_, eachB_iff.2 fun i hi => ?_, ?_⟩
 ·rw [(key i hi).2]; exact (meet_in (eachB_iff.1 ha i hi) (eachB_iff.1 hb i hi) (key i hi).1).1
 ·rw [(key i hi).2]; exact (meet_in (eachB_iff.1 ha i hi) (eachB_iff.1 hb i hi) (key i hi).1).2
 ·refine eachB_congr fun i hi => ?_
  have hx := eachB_iff.1 ha i hi
  rw [(key i hi).2, meet_has hx (eachB_iff.1 hb i hi) (key i hi).1, corn_has hx, Bool.true_and]
/-- where there is none -/
theorem no_meets (ha : (eachB n fun i => mayI K (X i)) = true) (hb : (eachB n fun i => mayI K (Y i)) = true) {k : Int} (h : bothK K n n X Y (meetK K) ≠ 0) :
  bothK K n n X Y (meetK K) = 5 ∧ (eachB n fun i => hasI K (Y i) (cornQ k i (X i))) = false := by
 rw [bothK_ok ha hb] at h ⊢
 refine ⟨(firstE_or fun i hi => ?_).resolve_left h, ?_⟩
 ·rcases meetK_or (eachB_iff.1 ha i hi) (eachB_iff.1 hb i hi) with ⟨h1, _⟩ | ⟨h1, _⟩
  ·exact .inl h1
  ·exact .inr h1
 ·obtain ⟨i, hi, h0⟩ := firstE_not h
  have hx := eachB_iff.1 ha i hi
  have hy := eachB_iff.1 hb i hi
  rcases meetK_or hx hy with ⟨h1, _⟩ | ⟨_, h2⟩
  ·exact absurd h1 h0
  ·refine eachB_no hi ?_
   have h3 := meet_none (d := cornQ k i (X i)) hx hy h2
   rwa [corn_has hx, Bool.true_and] at h3
end
end Go.Proofs.YtlpjlmophlikeaaGreatDoor
