/-
  What boxes are, as plain terms; rows of Dyads as they lie, at this translation. Condition: the slices read as limbs.
-/
import Derived.Test.YtkpcmgfpmekkjaaDoorQGc
namespace Go.Proofs.YtkpcmgfpmekkjaaDoor
open Go.RowKit

/-- is each of n so? -/
def eachB (n : Nat) (g : Nat → Bool) : Bool := decide (∀ i, i < n → g i = true)
theorem eachB_iff {n : Nat} {g : Nat → Bool} : eachB n g = true ↔ ∀ i, i < n → g i = true := decide_eq_true_iff
/-- the first error of n -/
def firstE (k : Nat → Int) : Nat → Int
  | 0 => 0
  | n + 1 => if firstE k n = 0 then k n else firstE k n
theorem firstE_zero {k : Nat → Int} : ∀ {n : Nat}, firstE k n = 0 ↔ ∀ i, i < n → k i = 0
  | 0 => ⟨fun _ i hi => absurd hi (Nat.not_lt_zero i), fun _ => rfl⟩
  | n + 1 => by
    show (if firstE k n = 0 then k n else firstE k n) = 0 ↔ _
    by_cases h : firstE k n = 0
    · rw [if_pos h]
      refine ⟨fun h2 i hi => ?_, fun h2 => h2 n (Nat.lt_succ_self n)⟩
      rcases (show i < n ∨ i = n by omega) with h3 | rfl
      · exact firstE_zero.1 h i h3
      · exact h2
    · rw [if_neg h]
      exact ⟨fun h2 => absurd h2 h, fun h2 => absurd (firstE_zero.2 fun i hi => h2 i (by omega)) h⟩
theorem firstE_hit {k : Nat → Int} {i : Nat} (h : ∀ j, j < i → k j = 0) (h2 : k i ≠ 0) : ∀ {n : Nat}, i < n → firstE k n = k i
  | 0, hi => absurd hi (Nat.not_lt_zero i)
  | n + 1, hi => by
    show (if firstE k n = 0 then k n else firstE k n) = k i
    by_cases e : i = n
    · subst e
      rw [if_pos (firstE_zero.2 h)]
    · have := firstE_hit h h2 (n := n) (by omega)
      rw [this, if_neg h2]
/-- n elements, of which the first i are what they shall be -/
def filX {α : Type} (z : α) (X : Nat → α) (n i : Nat) : List α := (List.range n).map fun j => if j < i then X j else z
section
variable {α : Type} {z : α} {X : Nat → α} {n i : Nat}
theorem filX_len : (filX z X n i).length = n := by simp [filX]
theorem filX_get {j : Nat} (hj : j < n) : (filX z X n n).getD j z = X j := by simp [filX, List.getD_eq_getElem?_getD, hj]
theorem filX_zero : filX z X n 0 = List.replicate n z := by
  unfold filX
  apply List.ext_getElem?
  intro i
  by_cases h : i < n
  · simp [h]
  · simp [h]
theorem filX_next : (filX z X n i).set i (X i) = filX z X n (i + 1) := by
  unfold filX
  apply List.ext_getElem?
  intro j
  by_cases h : j < n
  · by_cases e : j = i
    · subst e; simp [h]
    · have e2 : (j < i + 1) ↔ (j < i) := by omega
      simp [h, Ne.symm e, e2]
  · simp [h]
end
/-- a Dyad that lies in three cells -/
def DyAt (w : World) (g o : Nat) (x : Rw) : Prop := ∃ A n c, (w.cell? ⟨g, o, none⟩ = some (.bool x.s) ∧ w.cell? ⟨g, o + 1, none⟩ = some (.slice A n c) ∧ w.cell? ⟨g, o + 2, none⟩ = some (.int .i64 x.e)) ∧ Rd w .u64 Go.Proofs.YtkpcmgfpmekkjaaDoor.W A n c x.l
theorem DyAt.next {w X w2 : World} {g o : Nat} {x : Rw} (h : DyAt w g o x) (b : Below X.heap.size X w2) (e : X.heap = w.heap) : DyAt w2 g o x := by
  obtain ⟨A, n, c, ⟨h0, h1, h2⟩, r⟩ := h
  exact ⟨A, n, c, ⟨cell_next b e h0, cell_next b e h1, cell_next b e h2⟩, r.next b e⟩
/-- a slice whose elements read as Dyads -/
structure RdD (w : World) (A : Option Addr) (n c : Nat) (X : Nat → Rw) : Prop where
  cap : n ≤ c
  max : c ≤ 9223372036854775807
  at_ : n ≠ 0 → ∃ b o, A = some ⟨b, o, none⟩ ∧ ∀ i, i < n → DyAt w b (o + i * 3) (X i)
theorem RdD.next {w Y w2 : World} {A : Option Addr} {n c : Nat} {X : Nat → Rw} (h : RdD w A n c X) (b : Below Y.heap.size Y w2) (e : Y.heap = w.heap) : RdD w2 A n c X :=
  ⟨h.cap, h.max, fun hn => by
    obtain ⟨g, o, ha, hc⟩ := h.at_ hn
    exact ⟨g, o, ha, fun i hi => (hc i hi).next b e⟩⟩
instance {w w2 : World} {A : Option Addr} {n c : Nat} {X : Nat → Rw} : Moves w w2 (RdD w A n c X) (RdD w2 A n c X) := ⟨fun _ b e h => h.next b e⟩
theorem rdd_nil (w : World) (X : Nat → Rw) : RdD w none 0 0 X := ⟨by omega, by omega, fun h => absurd rfl h⟩
theorem rds_nil (w : World) (X : Nat → Iv) : RdS w none 0 0 X := ⟨by omega, by omega, fun h => absurd rfl h⟩
/-- a row of Dyads of the call's own -/
def HRow (w : World) (base : Nat) (v : Value) (L : List Rw) : Prop := ∃ xs, RowN w base 28 3 v L.length xs ∧ ∀ i, i < L.length → ∃ A n c, xs[i * 3]? = some (.bool (L.getD i Rw.zero).s) ∧ xs[i * 3 + 1]? = some (.slice A n c) ∧ xs[i * 3 + 2]? = some (.int .i64 (L.getD i Rw.zero).e) ∧ Rd w .u64 Go.Proofs.YtkpcmgfpmekkjaaDoor.W A n c (L.getD i Rw.zero).l
theorem HRow.next {w X w2 : World} {base : Nat} {v : Value} {L : List Rw} (h : HRow w base v L) (b : Below X.heap.size X w2) (e : X.heap = w.heap) : HRow w2 base v L := by
  obtain ⟨xs, h1, h2⟩ := h
  refine ⟨xs, h1.next b e, fun i hi => ?_⟩
  obtain ⟨A, n, c, g0, g1, g2, r⟩ := h2 i hi
  exact ⟨A, n, c, g0, g1, g2, r.next b e⟩
instance {w w2 : World} {base : Nat} {v : Value} {L : List Rw} : Moves w w2 (HRow w base v L) (HRow w2 base v L) := ⟨fun _ b e h => h.next b e⟩
section
variable {w w' : World} {base g i : Nat} {v : Value} {L : List Rw}
theorem HRow.lt (h : HRow w base v L) : ∀ k, v.ownBlock = some k → base ≤ k ∧ k < w.heap.size := by
  obtain ⟨xs, h1, _⟩ := h
  exact h1.lt
theorem HRow.frozen (h : HRow w base v L) (hv : v.ownBlock = some g) (j : Nat) : w.frozen? ⟨g, j, none⟩ = false := by
  obtain ⟨xs, ⟨⟨_, h1⟩, _⟩, _⟩ := h
  rcases h1 with ⟨rfl, _⟩ | ⟨g', cap, cur, rfl, _, hg, _⟩
  · cases hv
  · injection hv with hv
    have hv : g' = g := hv
    subst hv
    simp [World.frozen?, hg]
/-- as a slice that reads as Dyads -/
theorem HRow.form (h : HRow w base v L) : ∃ A c, v = .slice A L.length c ∧ RdD w A L.length c (fun i => L.getD i Rw.zero) ∧ (L ≠ [] → ∃ g, A = some ⟨g, 0, none⟩ ∧ v.ownBlock = some g ∧ g < w.heap.size ∧ ∀ i, i < L.length → DyAt w g (i * 3) (L.getD i Rw.zero)) := by
  obtain ⟨xs, h1, h2⟩ := h
  have hlt := h1.lt
  rcases h1.1.2 with ⟨hv, h3⟩ | ⟨g, cap, cur, hv, hb, hg, hc, hm, _, ht⟩
  · exact ⟨none, 0, by rw [hv, h3], ⟨by omega, by omega, fun hn => absurd h3 hn⟩, fun h0 => absurd (List.eq_nil_of_length_eq_zero h3) h0⟩
  · have hcell := h1.1.cells (g := g) (by rw [hv]; rfl)
    have key : ∀ j u, xs[j]? = some u → w.cell? ⟨g, j, none⟩ = some u := fun j u hu => by
      have := hcell j u hu
      rwa [show (⟨g, 0, none⟩ : Addr).add j = ⟨g, j, none⟩ by unfold Addr.add; split <;> simp_all] at this
    have hI : ∀ i, i < L.length → DyAt w g (i * 3) (L.getD i Rw.zero) := fun i hi => by
      obtain ⟨A, n, c, g0, g1, g2, r⟩ := h2 i hi
      exact ⟨A, n, c, ⟨key _ _ g0, key _ _ g1, key _ _ g2⟩, r⟩
    exact ⟨some ⟨g, 0, none⟩, cap, hv, ⟨hc, by unfold maxLen at hm; omega, fun _ => ⟨g, 0, rfl, fun i hi => by rw [Nat.zero_add]; exact hI i hi⟩⟩, fun _ => ⟨g, rfl, by rw [hv]; rfl, (hlt g (by rw [hv]; rfl)).2, hI⟩⟩
theorem HRow.open3 (h : HRow w base v L) (hv : v.ownBlock = some g) (hi : i < L.length) : (∃ u0 u1 u2, w.cell? ⟨g, i * 3, none⟩ = some u0 ∧ w.cell? ⟨g, i * 3 + 1, none⟩ = some u1 ∧ w.cell? ⟨g, i * 3 + 2, none⟩ = some u2) ∧ w.frozen? ⟨g, i * 3, none⟩ = false ∧ w.frozen? ⟨g, i * 3 + 1, none⟩ = false ∧ w.frozen? ⟨g, i * 3 + 2, none⟩ = false := by
  refine ⟨?_, h.frozen hv _, h.frozen hv _, h.frozen hv _⟩
  obtain ⟨A, c, _, _, hf⟩ := h.form
  obtain ⟨g', _, hg', _, hI⟩ := hf (fun e => by rw [e] at hi; exact absurd hi (Nat.not_lt_zero _))
  rw [hv] at hg'
  injection hg' with hg'
  subst hg'
  obtain ⟨_, _, _, ⟨c0, c1, c2⟩, _⟩ := hI i hi
  exact ⟨_, _, _, c0, c1, c2⟩
theorem below_at3 {b0 : Nat} {w0 : World} (h : Below b0 w0 w) (hg : b0 ≤ g) (u0 u1 u2 : Value) : Below b0 w0 (((w.setCell ⟨g, i * 3, none⟩ u0).setCell ⟨g, i * 3 + 1, none⟩ u1).setCell ⟨g, i * 3 + 2, none⟩ u2) :=
  ((h.setCell hg u0).setCell hg u1).setCell hg u2
/-- a Dyad stored into such a row, in its place -/
theorem HRow.setAt (h : HRow w base v L) (hv : v.ownBlock = some g) (hi : i < L.length) {x : Rw} {A : Option Addr} {n c : Nat} (r1 : Rd w .u64 Go.Proofs.YtkpcmgfpmekkjaaDoor.W A n c x.l) :
    HRow (((w.setCell ⟨g, i * 3, none⟩ (.bool x.s)).setCell ⟨g, i * 3 + 1, none⟩ (.slice A n c)).setCell ⟨g, i * 3 + 2, none⟩ (.int .i64 x.e)) base v (L.set i x) := by
  obtain ⟨xs, h1, h2⟩ := h
  have k0 := h1.set (j := i * 3) hv (u := .bool x.s) (fun _ h => by cases h)
  have k1 := k0.set (j := i * 3 + 1) hv (u := .slice A n c) (fun _ h => by cases h)
  have k2 := k1.set (j := i * 3 + 2) hv (u := .int .i64 x.e) (fun _ h => by cases h)
  have mvR : ∀ (A' : Option Addr) (n' c' : Nat) (l : List Nat), Rd w .u64 Go.Proofs.YtkpcmgfpmekkjaaDoor.W A' n' c' l → Rd (((w.setCell ⟨g, i * 3, none⟩ (.bool x.s)).setCell ⟨g, i * 3 + 1, none⟩ (.slice A n c)).setCell ⟨g, i * 3 + 2, none⟩ (.int .i64 x.e)) .u64 Go.Proofs.YtkpcmgfpmekkjaaDoor.W A' n' c' l := fun A' n' c' l hr => by
    have hne := hr.off (h1.2 g hv)
    exact ((hr.set1 hne _ _).set1 hne _ _).set1 hne _ _
  have hlen : xs.length = L.length * 3 := h1.1.1
  refine ⟨_, by rw [List.length_set]; exact k2, fun j hj => ?_⟩
  rw [List.length_set] at hj
  by_cases e : j = i
  · subst e
    have e1 : (L.set j x).getD j Rw.zero = x := by simp [List.getD_eq_getElem?_getD, hj]
    rw [e1]
    refine ⟨A, n, c, ?_, ?_, ?_, mvR _ _ _ _ r1⟩ <;> simp [List.getElem?_set] <;> omega
  · have e1 : (L.set i x).getD j Rw.zero = L.getD j Rw.zero := by simp [List.getD_eq_getElem?_getD, Ne.symm e]
    rw [e1]
    obtain ⟨A', n', c', g0, g1, g2, q1⟩ := h2 j hj
    refine ⟨A', n', c', ?_, ?_, ?_, mvR _ _ _ _ q1⟩
    · rw [← g0]; simp only [List.getElem?_set]; repeat rw [if_neg (by omega)]
    · rw [← g1]; simp only [List.getElem?_set]; repeat rw [if_neg (by omega)]
    · rw [← g2]; simp only [List.getElem?_set]; repeat rw [if_neg (by omega)]
end
theorem infoHr : (Tryd.prog.info? 28).map (fun i => (i.zero, i.size, i.bytes)) = some (some (.agg #[.bool false, .slice none 0 0, .int .i64 0]), 3, 40) := by kernel_rfl
def zeroHr : Array Value := #[.bool false, .slice none 0 0, .int .i64 0]
end Go.Proofs.YtkpcmgfpmekkjaaDoor
namespace Go.Proofs.YtkpcmgfpmekkjaaDoor
open Go.RowKit


/-- how one ends that tells a Dyad and a code -/
def TellD (k : Int) (x : Rw) (w : World) (en : Ending) (w' : World) : Prop := ∃ A n c, en = .returned (.tuple #[.agg #[.bool x.s, .slice A n c, .int .i64 x.e], .int .i64 k]) ∧ Rd w' .u64 Go.Proofs.YtkpcmgfpmekkjaaDoor.W A n c x.l ∧ Below w.heap.size w w'
theorem RdS.congr {w : World} {A : Option Addr} {n c : Nat} {X Y : Nat → Iv} (h : RdS w A n c X) (e : ∀ i, i < n → X i = Y i) : RdS w A n c Y := ⟨h.cap, h.max, fun hn => by
  obtain ⟨b, o, ha, hc⟩ := h.at_ hn
  exact ⟨b, o, ha, fun i hi => by rw [← e i hi]; exact hc i hi⟩⟩
theorem RdD.congr {w : World} {A : Option Addr} {n c : Nat} {X Y : Nat → Rw} (h : RdD w A n c X) (e : ∀ i, i < n → X i = Y i) : RdD w A n c Y := ⟨h.cap, h.max, fun hn => by
  obtain ⟨b, o, ha, hc⟩ := h.at_ hn
  exact ⟨b, o, ha, fun i hi => by rw [← e i hi]; exact hc i hi⟩⟩
theorem HRow.lower {w : World} {base b0 : Nat} {v : Value} {L : List Rw} (h : HRow w base v L) (hb : b0 ≤ base) : HRow w b0 v L := by
  obtain ⟨xs, h1, h2⟩ := h
  refine ⟨xs, ⟨⟨h1.1.1, ?_⟩, h1.2⟩, h2⟩
  rcases h1.1.2 with h3 | ⟨g, cap, cur, hv, h3, h4⟩
  · exact .inl h3
  · exact .inr ⟨g, cap, cur, hv, Nat.le_trans hb h3, h4⟩

end Go.Proofs.YtkpcmgfpmekkjaaDoor
