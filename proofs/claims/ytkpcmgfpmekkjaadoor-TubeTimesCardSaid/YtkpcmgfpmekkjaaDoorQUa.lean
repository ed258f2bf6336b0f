/-
  Times that rise and what stands in the cells between them: which cells of two such rows meet, what is within what. No condition; nothing of the program is named here.
-/

namespace Go.Proofs.YtkpcmgfpmekkjaaDoor

/-- n + 1 times, one after the other -/
def Rise (n : Nat) (A : Nat → Int) : Prop := ∀ i, i < n → A i < A (i + 1)
theorem Rise.lt {n : Nat} {A : Nat → Int} (h : Rise n A) : ∀ {k i : Nat}, i < k → k ≤ n → A i < A k
  | 0, _, hi, _ => absurd hi (Nat.not_lt_zero _)
  | k + 1, i, hi, hk => by
    have h1 := h k (by omega)
    rcases Nat.lt_or_ge i k with h2 | h2
    · exact Int.lt_trans (h.lt h2 (by omega)) h1
    · obtain rfl : i = k := by omega
      exact h1
theorem Rise.le {n : Nat} {A : Nat → Int} (h : Rise n A) {i k : Nat} (hi : i ≤ k) (hk : k ≤ n) : A i ≤ A k := by
  rcases Nat.lt_or_ge i k with h2 | h2
  · exact Int.le_of_lt (h.lt h2 hk)
  · obtain rfl : i = k := by omega
    exact Int.le_refl _
/-- the cell in which a time begins, or goes on -/
theorem Rise.at_left {A : Nat → Int} : ∀ {n : Nat}, Rise n A → ∀ {t : Int}, A 0 ≤ t → t < A n → ∃ k, k < n ∧ A k ≤ t ∧ t < A (k + 1)
  | 0, _, t, h1, h2 => absurd (Int.lt_of_le_of_lt h1 h2) (Int.lt_irrefl _)
  | n + 1, h, t, h1, h2 => by
    by_cases h3 : t < A n
    · obtain ⟨k, hk, h4⟩ := Rise.at_left (n := n) (fun i hi => h i (by omega)) h1 h3
      exact ⟨k, by omega, h4⟩
    · exact ⟨n, by omega, by omega, h2⟩
/-- the cell in which a time ends, or goes on -/
theorem Rise.at_right {A : Nat → Int} : ∀ {n : Nat}, Rise n A → ∀ {t : Int}, A 0 < t → t ≤ A n → ∃ k, k < n ∧ A k < t ∧ t ≤ A (k + 1)
  | 0, _, t, h1, h2 => absurd (Int.lt_of_lt_of_le h1 h2) (Int.lt_irrefl _)
  | n + 1, h, t, h1, h2 => by
    by_cases h3 : t ≤ A n
    · obtain ⟨k, hk, h4⟩ := Rise.at_right (n := n) (fun i hi => h i (by omega)) h1 h3
      exact ⟨k, by omega, h4⟩
    · exact ⟨n, by omega, by omega, h2⟩
/-- cells i of A and k of B have more than one time in common -/
def Laps (A B : Nat → Int) (i k : Nat) : Prop := A i < B (k + 1) ∧ B k < A (i + 1)
theorem laps_self {n : Nat} {A : Nat → Int} (h : Rise n A) {i k : Nat} (hi : i < n) (hk : k < n) (hl : Laps A A i k) : i = k := by
  rcases Nat.lt_trichotomy i k with h1 | h1 | h1
  · have := h.le (show i + 1 ≤ k by omega) (by omega)
    have := hl.2
    omega
  · exact h1
  · have := h.le (show k + 1 ≤ i by omega) (by omega)
    have := hl.1
    omega
/-- two rows with the same beginning and end; R holds wherever their cells lap -/
def Holds2 {α : Type} (R : α → α → Prop) (n : Nat) (A : Nat → Int) (V : Nat → α) (m : Nat) (B : Nat → Int) (W : Nat → α) : Prop :=
  A 0 = B 0 ∧ A n = B m ∧ ∀ i, i < n → ∀ k, k < m → Laps A B i k → R (V i) (W k)
section
variable {α : Type} {n m l : Nat} {A B C : Nat → Int} {V W X : Nat → α}
theorem holds_refl {R : α → α → Prop} (hA : Rise n A) (hR : ∀ i, i < n → R (V i) (V i)) : Holds2 R n A V n A V := ⟨rfl, rfl, fun i hi k hk hl => by
  obtain rfl := laps_self hA hi hk hl
  exact hR i hi⟩
theorem holds_trans {R Q P : α → α → Prop} (hA : Rise n A) (hB : Rise m B) (hC : Rise l C) (h1 : Holds2 R n A V m B W) (h2 : Holds2 Q m B W l C X) (hP : ∀ x y z, R x y → Q y z → P x z) : Holds2 P n A V l C X := by
  obtain ⟨a0, an, aR⟩ := h1
  obtain ⟨b0, bn, bR⟩ := h2
  refine ⟨a0.trans b0, an.trans bn, fun i hi k hk hl => ?_⟩
  obtain ⟨l1, l2⟩ := hl
  have hi0 := hA.le (Nat.zero_le i) (by omega)
  have hin := hA.le (show i + 1 ≤ n by omega) (Nat.le_refl n)
  have hii := hA i hi
  have hk0 := hC.le (Nat.zero_le k) (by omega)
  have hkn := hC.le (show k + 1 ≤ l by omega) (Nat.le_refl l)
  have hkk := hC k hk
  -- from the later one of both beginnings on
  have key : ∀ s : Int, A i ≤ s → C k ≤ s → s < A (i + 1) → s < C (k + 1) → P (V i) (X k) := fun s s1 s2 s3 s4 => by
    obtain ⟨j, hj, j1, j2⟩ := hB.at_left (t := s) (by omega) (by omega)
    exact hP _ (W j) _ (aR i hi j hj ⟨by omega, by omega⟩) (bR j hj k hk ⟨by omega, by omega⟩)
  by_cases h : A i ≤ C k
  · exact key (C k) h (Int.le_refl _) l2 hkk
  · exact key (A i) (Int.le_refl _) (by omega) hii l1
/-- the cell i has a time from x to y -/
def Touch (A : Nat → Int) (i : Nat) (x y : Int) : Prop := x ≤ A (i + 1) ∧ A i ≤ y
/-- some cell has a time of a span that is not outside -/
theorem touch_some (hA : Rise n A) (hn : 0 < n) {x y : Int} (hx : A 0 ≤ x) (hxy : x ≤ y) (hy : y ≤ A n) : ∃ i, i < n ∧ Touch A i x y := by
  by_cases h : x < A n
  · obtain ⟨k, hk, k1, k2⟩ := hA.at_left hx h
    exact ⟨k, hk, ⟨by omega, by omega⟩⟩
  · have h0 := hA.lt hn (Nat.le_refl n)
    obtain ⟨k, hk, k1, k2⟩ := hA.at_right (t := x) (by omega) (by omega)
    exact ⟨k, hk, ⟨k2, by omega⟩⟩
end
end Go.Proofs.YtkpcmgfpmekkjaaDoor
