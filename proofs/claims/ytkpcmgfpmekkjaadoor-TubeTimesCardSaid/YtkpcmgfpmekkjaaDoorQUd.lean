/-
  Parts of a tube: what is cut, joined, halved; a part that is all is within the tube, and the tube within it. No condition.
-/
import Derived.Test.YtkpcmgfpmekkjaaDoorQUb
namespace Go.Proofs.YtkpcmgfpmekkjaaDoor
open Go.RowKit

/-- t is what a is from s to e: each of its cells lies in one of a's and has its V -/
structure Part (K : Nat) (a t : Tb) (s e : Int) : Prop where
  may : MayT K t
  first : t.t K 0 = s
  last : t.t K t.n = e
  cell : ∀ i, i < t.n → ∃ j, j < a.n ∧ a.t K j ≤ t.t K i ∧ t.t K (i + 1) ≤ a.t K (j + 1) ∧ t.V i = a.V j
section
variable {K : Nat} {a t u : Tb} {x y : Rw}
/-- a part that is all -/
theorem part_all (ha : MayT K a) (h : Part K a t (a.t K 0) (a.t K a.n)) : InT K (withinI K) t a ∧ InT K (withinI K) a t := by
  have key : ∀ i, i < t.n → ∀ k, k < a.n → t.t K i < a.t K (k + 1) → a.t K k < t.t K (i + 1) → t.V i = a.V k := fun i hi k hk l1 l2 => by
    obtain ⟨j, hj, j1, j2, hv⟩ := h.cell i hi
    rw [hv]
    congr 1
    refine laps_self ha.rise hj hk ⟨?_, ?_⟩
    · omega
    · omega
  refine ⟨⟨h.may, ha, h.first, h.last, fun i hi k hk hl => ?_⟩, ⟨ha, h.may, h.first.symm, h.last.symm, fun k hk i hi hl => ?_⟩⟩
  · show withinI K (t.V i) (a.V k) = true
    rw [key i hi k hk hl.1 hl.2]; exact within_self (ha.V k hk)
  · show withinI K (a.V k) (t.V i) = true
    rw [key i hi k hk hl.2 hl.1]; exact within_self (ha.V k hk)
/-- two tubes, one behind the other -/
def joinT (a b : Tb) : Tb := ⟨a.n + b.n, fun i => if i < a.n then a.V i else b.V (i - a.n), a.n + b.n + 1, fun i => if i < a.n + 1 then a.T i else b.T (i - a.n)⟩
theorem joinT_t (i : Nat) : (joinT a t).t K i = if i ≤ a.n then a.t K i else t.t K (i - a.n) := by
  unfold joinT Tb.t
  show (if i < a.n + 1 then a.T i else t.T (i - a.n)).v K = _
  by_cases h1 : i ≤ a.n
  · rw [if_pos h1, if_pos (by omega)]
  · rw [if_neg h1, if_neg (by omega)]
theorem join_may (ha : MayT K a) (hb : MayT K t) (h : a.t K a.n = t.t K 0) (hn : a.n + t.n ≤ 256) : MayT K (joinT a t) := by
  refine ⟨by show 1 ≤ a.n + t.n; have := ha.pos; omega, hn, rfl, fun i hi => ?_, fun i hi => ?_, fun i hi => ?_⟩
  · have hi : i < a.n + t.n := hi
    show mayI K (if i < a.n then a.V i else t.V (i - a.n)) = true
    split
    · next h1 => exact ha.V i h1
    · exact hb.V _ (by omega)
  · have hi : i < a.n + t.n + 1 := hi
    show (if i < a.n + 1 then a.T i else t.T (i - a.n)).may = true
    split
    · next h1 => exact ha.T i h1
    · exact hb.T _ (by omega)
  · have hi : i < a.n + t.n := hi
    rw [joinT_t, joinT_t]
    by_cases h1 : i < a.n
    · rw [if_pos (by omega), if_pos (by omega)]
      exact ha.rise i h1
    · rw [if_neg (show ¬ i + 1 ≤ a.n by omega)]
      by_cases h2 : i = a.n
      · subst h2
        rw [if_pos (Nat.le_refl _), h, show a.n + 1 - a.n = 0 + 1 by omega]
        exact hb.rise 0 hb.pos
      · rw [if_neg (by omega), show i + 1 - a.n = (i - a.n) + 1 by omega]
        exact hb.rise _ (by omega)
/-- a tube as its lists have it -/
def tbL (ts : List Rw) (vs : List Iv) : Tb := ⟨vs.length, fun i => vs.getD i Iv.zero, ts.length, fun i => ts.getD i Rw.zero⟩
end
end Go.Proofs.YtkpcmgfpmekkjaaDoor
namespace Go.Proofs.YtkpcmgfpmekkjaaDoor
open Go.RowKit

section
variable {K : Nat} {a t : Tb} {x y : Rw} {v : Iv}
/-- each cell in two, at M -/
def halfT (a : Tb) (M : Nat → Rw) : Tb := ⟨2 * a.n, fun i => a.V (i / 2), 2 * a.n + 1, fun i => if i % 2 = 0 then a.T (i / 2) else M (i / 2)⟩
theorem half_t {M : Nat → Rw} (i : Nat) : (halfT a M).t K i = if i % 2 = 0 then a.t K (i / 2) else (M (i / 2)).v K := by
  unfold halfT Tb.t
  show (if i % 2 = 0 then a.T (i / 2) else M (i / 2)).v K = _
  split <;> rfl
theorem half_part {M : Nat → Rw} (ha : MayT K a) (hn : 2 * a.n ≤ 256) (hM : ∀ i, i < a.n → (M i).may = true ∧ a.t K i < (M i).v K ∧ (M i).v K < a.t K (i + 1)) : Part K a (halfT a M) (a.t K 0) (a.t K a.n) := by
  have step : ∀ i, i < 2 * a.n → (halfT a M).t K i < (halfT a M).t K (i + 1) ∧ a.t K (i / 2) ≤ (halfT a M).t K i ∧ (halfT a M).t K (i + 1) ≤ a.t K (i / 2 + 1) := fun i hi => by
    rw [half_t, half_t]
    obtain ⟨_, m1, m2⟩ := hM (i / 2) (by omega)
    by_cases h : i % 2 = 0
    · rw [if_pos h, if_neg (show ¬ (i + 1) % 2 = 0 by omega), show (i + 1) / 2 = i / 2 by omega]
      exact ⟨m1, Int.le_refl _, Int.le_of_lt m2⟩
    · rw [if_neg h, if_pos (show (i + 1) % 2 = 0 by omega), show (i + 1) / 2 = i / 2 + 1 by omega]
      exact ⟨m2, Int.le_of_lt m1, Int.le_refl _⟩
  refine ⟨⟨by show 1 ≤ 2 * a.n; have := ha.pos; omega, hn, rfl, fun i hi => ha.V _ (by have hi : i < 2 * a.n := hi; omega), fun i hi => ?_, fun i hi => (step i hi).1⟩, ?_, ?_, fun i hi => ?_⟩
  · have hi : i < 2 * a.n + 1 := hi
    show (if i % 2 = 0 then a.T (i / 2) else M (i / 2)).may = true
    split
    · exact ha.T _ (by omega)
    · exact (hM _ (by omega)).1
  · rw [half_t, if_pos (by omega), show 0 / 2 = 0 by omega]
  · show (halfT a M).t K (2 * a.n) = _
    rw [half_t, if_pos (by omega), show 2 * a.n / 2 = a.n by omega]
  · have hi : i < 2 * a.n := hi
    obtain ⟨_, h1, h2⟩ := step i hi
    exact ⟨i / 2, by omega, h1, h2, rfl⟩
/-- what is told of two that are joined -/
def joinK (K : Nat) (a b : Tb) : Int := if (mayTb K a && (mayTb K b && (decide (cmpQ K (a.T a.n) (b.T 0) = 0) && decide (a.n + b.n ≤ 256)))) = true then 0 else 1
theorem joinK_ok : joinK K a t = 0 ↔ MayT K a ∧ MayT K t ∧ a.t K a.n = t.t K 0 ∧ a.n + t.n ≤ 256 := by
  unfold joinK
  constructor
  · intro h
    split at h
    · next h1 =>
      simp only [Bool.and_eq_true, decide_eq_true_eq, mayTb_iff] at h1
      obtain ⟨g1, g2, g3, g4⟩ := h1
      exact ⟨g1, g2, (cmpQ_eq (g1.T _ (by omega)) (g2.T 0 (by omega))).1 g3, g4⟩
    · exact absurd h (by decide)
  · rintro ⟨g1, g2, g3, g4⟩
    rw [if_pos (by
      simp only [Bool.and_eq_true, decide_eq_true_eq, mayTb_iff]
      exact ⟨g1, g2, (cmpQ_eq (g1.T _ (by omega)) (g2.T 0 (by omega))).2 g3, g4⟩)]
end
end Go.Proofs.YtkpcmgfpmekkjaaDoor
