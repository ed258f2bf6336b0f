/-
  What does not hang on the order; squares lie within products; greater intervals make no less, of squares. No condition; nothing of the program is named here.
-/
import Derived.Test.YtcbkhmejlaaieaaGreatDoorLb
import Derived.Test.YtcbkhmejlaaieaaGreatDoorLo
import Derived.Test.YtcbkhmejlaaieaaGreatDoorLj
namespace Go.Proofs.YtcbkhmejlaaieaaGreatDoor

section
variable {S : Sc} {a b c d : Rw} {x y r : Iv} {p : Int}
theorem sum_turn : face2 S x y p (sumO S x y p) = face2 S y x p (sumO S y x p) := by
  have e : sumO S x y p = sumO S y x p := by
    unfold sumO
    rw [addO_comm (a := x.lo) (b := y.lo), addO_comm (a := x.hi) (b := y.hi)]
  unfold face2
  rw [e, Bool.and_comm (mayI S.K x) (mayI S.K y)]
theorem cor_turn {L : List Rw} (h : corO (mulO S) x y = .ok L) : ∃ M, corO (mulO S) y x = .ok M ∧ ∀ z, z ∈ L ↔ z ∈ M := by
  obtain ⟨a, b, c, d, h1, h2, h3, h4, rfl⟩ := corO_ok h
  refine ⟨[a, c, b, d], ?_, fun z => ?_⟩
  · unfold corO
    rw [mulO_comm (a := y.lo) (b := x.lo), mulO_comm (a := y.lo) (b := x.hi), mulO_comm (a := y.hi) (b := x.lo), mulO_comm (a := y.hi) (b := x.hi), h1, h2, h3, h4]
    rfl
  · simp only [List.mem_cons, List.not_mem_nil, or_false]
    constructor
    · rintro (h | h | h | h)
      · exact .inl h
      · exact .inr (.inr (.inl h))
      · exact .inr (.inl h)
      · exact .inr (.inr (.inr h))
    · rintro (h | h | h | h)
      · exact .inl h
      · exact .inr (.inr (.inl h))
      · exact .inr (.inl h)
      · exact .inr (.inr (.inr h))
theorem lea_sets {L M : List Rw} (h0 : L ≠ []) (h1 : M ≠ []) (hl : ∀ z ∈ L, z.may = true) (hLM : ∀ z, z ∈ L ↔ z ∈ M) : leaL S L = leaL S M ∧ greL S L = greL S M := by
  have hm : ∀ z ∈ M, z.may = true := fun z hz => hl z ((hLM z).2 hz)
  obtain ⟨l1, l2⟩ := lea_of (S := S) h0 hl
  obtain ⟨l3, l4⟩ := lea_of (S := S) h1 hm
  obtain ⟨g1, g2⟩ := gre_of (S := S) h0 hl
  obtain ⟨g3, g4⟩ := gre_of (S := S) h1 hm
  have k1 := l2 _ ((hLM _).2 l3)
  have k2 := l4 _ ((hLM _).1 l1)
  have k3 := g2 _ ((hLM _).2 g3)
  have k4 := g4 _ ((hLM _).1 g1)
  exact ⟨one_of_v S.big (hl _ l1) (hm _ l3) (by omega), one_of_v S.big (hl _ g1) (hm _ g3) (by omega)⟩
theorem mul_one_way {o : Iv} (hx : mayI S.K x = true) (hy : mayI S.K y = true) (h : mulI S x y p = .ok o) : mulI S y x p = .ok o := by
  obtain ⟨L, h1, h2⟩ := thn_ok h
  obtain ⟨M, h3, h4⟩ := cor_turn h1
  obtain ⟨c0, c1, _⟩ := cor_mul hx hy h1
  obtain ⟨d0, _, _⟩ := cor_mul hy hx h3
  obtain ⟨e1, e2⟩ := lea_sets (S := S) c0 d0 c1 h4
  unfold mulI
  rw [h3]
  show outO S (leaL S M) (greL S M) p = _
  rw [← e1, ← e2]
  exact h2
/-- products do not hang on the order; which error is told may -/
theorem mul_turn (hx : mayI S.K x = true) (hy : mayI S.K y = true) : (okc (face2 S x y p (mulI S x y p)) = 0 ↔ okc (face2 S y x p (mulI S y x p)) = 0) ∧ oiv (face2 S x y p (mulI S x y p)) = oiv (face2 S y x p (mulI S y x p)) := by
  unfold face2
  rw [hx, hy]
  cases hp : prec p
  · exact ⟨Iff.rfl, rfl⟩
  · rw [if_pos (by decide), if_pos (by decide)]
    have hc1 : Cod (mulI S x y p) := thn_cod (corO_cod fun _ _ => mulO_cod) fun _ _ => outO_cod
    have hc2 : Cod (mulI S y x p) := thn_cod (corO_cod fun _ _ => mulO_cod) fun _ _ => outO_cod
    cases h1 : mulI S x y p with
    | ok o => rw [mul_one_way hx hy h1]; exact ⟨Iff.rfl, rfl⟩
    | error k =>
      cases h2 : mulI S y x p with
      | ok o => rw [mul_one_way hy hx h2] at h1; cases h1
      | error j => exact ⟨⟨fun h => absurd h (hc1 k h1), fun h => absurd h (hc2 j h2)⟩, rfl⟩
theorem sq_pos (u : Int) : 0 ≤ u * u := by
  rcases Int.le_total 0 u with h | h
  · exact Int.mul_nonneg h h
  · exact Int.mul_nonneg_of_nonpos_of_nonpos h h
theorem v_zero (K : Nat) : Rw.zero.v K = 0 := vz_zero K _ _
/-- the squares among which a square's ends are chosen -/
theorem sqrI_ok (hp : 1 ≤ p ∧ p ≤ 2000) (hx : mayI S.K x = true) (h : sqrI S x p = .ok r) : ∃ L, Tight S p ((leaL S L).v S.K) ((greL S L).v S.K) r ∧ (leaL S L).v S.K ≤ (greL S L).v S.K ∧ leaL S L ∈ L ∧ greL S L ∈ L ∧ (∀ z ∈ L, (leaL S L).v S.K ≤ z.v S.K ∧ z.v S.K ≤ (greL S L).v S.K) ∧
    (∀ z ∈ L, z.may = true ∧ ∃ u : Int, x.lo.v S.K ≤ u ∧ u ≤ x.hi.v S.K ∧ z.v S.K * ((2 ^ S.K : Nat) : Int) = u * u ∧ ((u = x.lo.v S.K ∨ u = x.hi.v S.K) ∨ hasI S.K x Rw.zero = true ∧ u = 0)) ∧
    (∃ z ∈ L, z.v S.K * ((2 ^ S.K : Nat) : Int) = x.lo.v S.K * x.lo.v S.K) ∧ (∃ z ∈ L, z.v S.K * ((2 ^ S.K : Nat) : Int) = x.hi.v S.K * x.hi.v S.K) ∧ (hasI S.K x Rw.zero = true → Rw.zero ∈ L) := by
  obtain ⟨a, h1, h⟩ := thn_ok h
  obtain ⟨b, h2, h⟩ := thn_ok h
  have k := mayI_iff.1 hx
  have m1 := mulO_ok k.1 k.1 h1
  have m2 := mulO_ok k.2.1 k.2.1 h2
  obtain ⟨L, hL⟩ : ∃ L, L = if hasI S.K x Rw.zero = true then [a, b, Rw.zero] else [a, b] := ⟨_, rfl⟩
  rw [← hL] at h
  have ha : a ∈ L := by rw [hL]; split <;> simp
  have hb : b ∈ L := by rw [hL]; split <;> simp
  have h0 : L ≠ [] := List.ne_nil_of_mem ha
  have hall : ∀ z ∈ L, z.may = true ∧ ∃ u : Int, x.lo.v S.K ≤ u ∧ u ≤ x.hi.v S.K ∧ z.v S.K * ((2 ^ S.K : Nat) : Int) = u * u ∧ ((u = x.lo.v S.K ∨ u = x.hi.v S.K) ∨ hasI S.K x Rw.zero = true ∧ u = 0) := fun z hz => by
    have key : z = a ∨ z = b ∨ (z = Rw.zero ∧ hasI S.K x Rw.zero = true) := by
      rw [hL] at hz
      split at hz
      · simp only [List.mem_cons, List.not_mem_nil, or_false] at hz
        rcases hz with h | h | h
        · exact .inl h
        · exact .inr (.inl h)
        · exact .inr (.inr ⟨h, by assumption⟩)
      · simp only [List.mem_cons, List.not_mem_nil, or_false] at hz
        rcases hz with h | h
        · exact .inl h
        · exact .inr (.inl h)
    rcases key with rfl | rfl | ⟨rfl, hz0⟩
    · exact ⟨m1.1, _, Int.le_refl _, k.2.2, m1.2, .inl (.inl rfl)⟩
    · exact ⟨m2.1, _, k.2.2, Int.le_refl _, m2.2, .inl (.inr rfl)⟩
    · have := hasI_iff.1 hz0
      rw [v_zero] at this
      exact ⟨Rw.zero_may, 0, this.2.2.1, this.2.2.2, by rw [v_zero, Int.zero_mul, Int.zero_mul], .inr ⟨hz0, rfl⟩⟩
  obtain ⟨n1, n2, n3⟩ := lea_gre (S := S) h0 (fun z hz => (hall z hz).1)
  obtain ⟨l1, l2⟩ := lea_of (S := S) h0 (fun z hz => (hall z hz).1)
  obtain ⟨g1, g2⟩ := gre_of (S := S) h0 (fun z hz => (hall z hz).1)
  exact ⟨L, outO_ok hp n1 n2 h, n3, l1, g1, fun z hz => ⟨l2 z hz, g2 z hz⟩, hall, ⟨a, ha, m1.2⟩, ⟨b, hb, m2.2⟩, fun hz => by rw [hL, if_pos hz]; simp⟩
/-- a square is within the product -/
theorem sqr_in {R : Iv} (hp : 1 ≤ p ∧ p ≤ 2000) (hx : mayI S.K x = true) (h : sqrI S x p = .ok r) (h' : mulI S x x p = .ok R) : withinI S.K r R = true := by
  obtain ⟨L, t1, o1, e1, e2, _, hall, _⟩ := sqrI_ok hp hx h
  obtain ⟨M, d1, t2, _⟩ := mulI_ok hp hx hx h'
  refine tight_grow (Int.le_refl _) t1 t2 o1 ?_ ?_
  · obtain ⟨_, u, u1, u2, hv, _⟩ := hall _ e1
    have := (cor_between hx hx d1 (u := u) (w := u) u1 u2 u1 u2).1
    rw [← hv] at this
    exact of_scaled this
  · obtain ⟨_, u, u1, u2, hv, _⟩ := hall _ e2
    have := (cor_between hx hx d1 (u := u) (w := u) u1 u2 u1 u2).2
    rw [← hv] at this
    exact of_scaled this
theorem sign_ge (ha : a.may = true) (h : 0 ≤ a.v S.K) : 0 ≤ signR a.s a.l a.e := by
  unfold signR
  rw [if_pos (show mayD a.s a.l a.e = true from ha)]
  unfold signD
  by_cases h0 : val W a.l = 0
  · rw [if_pos h0]; exact Int.le_refl _
  · rw [if_neg h0]
    cases hs : a.s
    · simp
    · exfalso
      have h2 : a.v S.K = - vz S.K false (val W a.l) a.e := by
        show vz S.K a.s (val W a.l) a.e = _
        rw [hs, show true = !false from rfl, vz_not]
      have h3 : vz S.K false (val W a.l) a.e = ((val W a.l * 2 ^ (a.e + S.K).toNat : Nat) : Int) := by
        unfold vz sg
        simp
      have h4 := Nat.mul_pos (show 0 < val W a.l by omega) (pow_pos2 (a.e + S.K).toNat)
      omega
theorem sqr_sign (hp : 1 ≤ p ∧ p ≤ 2000) (hx : mayI S.K x = true) (h : sqrI S x p = .ok r) : 0 ≤ signR r.lo.s r.lo.l r.lo.e := by
  obtain ⟨L, t1, _, e1, _, _, hall, _⟩ := sqrI_ok hp hx h
  obtain ⟨_, u, _, _, hv, _⟩ := hall _ e1
  have h0 : 0 ≤ (leaL S L).v S.K := of_scaled (K := S.K) (by rw [Int.zero_mul, hv]; exact sq_pos u)
  have h1 := t1.1.2.2.2 Rw.zero Rw.zero_may (fits_zero _) (by rw [v_zero]; exact h0)
  rw [v_zero] at h1
  exact sign_ge t1.1.1 h1
/-- of greater intervals a square makes no less -/
theorem sqr_grow {q : Int} {X R : Iv} (hp : 1 ≤ p ∧ p ≤ 2000) (hq : 1 ≤ q ∧ q ≤ p) (hx : withinI S.K x X = true) (h : sqrI S x p = .ok r) (h' : sqrI S X q = .ok R) : withinI S.K r R = true := by
  obtain ⟨a1, a2, a3, a4⟩ := withinI_iff.1 hx
  obtain ⟨L, t1, o1, e1, e2, _, hall, _⟩ := sqrI_ok hp a1 h
  obtain ⟨M, t2, _, e3, e4, hb, hallM, ⟨z1, hz1, v1⟩, ⟨z2, hz2, v2⟩, hz0⟩ := sqrI_ok ⟨hq.1, by omega⟩ a2 h'
  have k := mayI_iff.1 a2
  refine tight_grow hq.2 t1 t2 o1 ?_ ?_
  · -- the least: nought, or of the end that is nearer to it
    obtain ⟨_, u, u1, u2, hv, _⟩ := hall _ e1
    by_cases hz : hasI S.K X Rw.zero = true
    · have := (hb _ (hz0 hz)).1
      rw [v_zero] at this
      refine Int.le_trans this (of_scaled (K := S.K) ?_)
      rw [Int.zero_mul, hv]
      exact sq_pos u
    · rcases Int.lt_or_le 0 (X.lo.v S.K) with hpos | hneg
      · have h9 : X.lo.v S.K * X.lo.v S.K ≤ u * u := Int.mul_le_mul (by omega) (by omega) (by omega) (by omega)
        rw [← v1, ← hv] at h9
        exact Int.le_trans (hb _ hz1).1 (of_scaled h9)
      · have hhi : X.hi.v S.K < 0 := by
          rcases Int.lt_or_le (X.hi.v S.K) 0 with h8 | h8
          · exact h8
          · exact absurd (hasI_iff.2 ⟨a2, Rw.zero_may, by rw [v_zero]; exact hneg, by rw [v_zero]; exact h8⟩) hz
        have h9 : -(X.hi.v S.K) * -(X.hi.v S.K) ≤ -u * -u := Int.mul_le_mul (by omega) (by omega) (by omega) (by omega)
        rw [Int.neg_mul_neg, Int.neg_mul_neg, ← v2, ← hv] at h9
        exact Int.le_trans (hb _ hz2).1 (of_scaled h9)
  · obtain ⟨_, u, u1, u2, hv, _⟩ := hall _ e2
    rcases Int.le_total 0 u with hu | hu
    · have h9 : u * u ≤ X.hi.v S.K * X.hi.v S.K := Int.mul_le_mul (by omega) (by omega) (by omega) (by omega)
      rw [← v2, ← hv] at h9
      exact Int.le_trans (of_scaled h9) (hb _ hz2).2
    · have h9 : -u * -u ≤ -(X.lo.v S.K) * -(X.lo.v S.K) := Int.mul_le_mul (by omega) (by omega) (by omega) (by omega)
      rw [Int.neg_mul_neg, Int.neg_mul_neg, ← v1, ← hv] at h9
      exact Int.le_trans (of_scaled h9) (hb _ hz1).2
end
end Go.Proofs.YtcbkhmejlaaieaaGreatDoor
namespace Go.Proofs.YtcbkhmejlaaieaaGreatDoor
open Go.RowKit


theorem iok_of {o : Except Int Iv} (hc : Cod o) (h : okc o = 0) : o = .ok (oiv o) := by
  cases o with
  | ok v => rfl
  | error k => exact absurd h (hc k rfl)
theorem face1_cod {S : Sc} {x : Iv} {p : Int} {o : Except Int Iv} (h : Cod o) : Cod (face1 S x p o) := by
  unfold face1
  split
  · exact h
  · exact err_cod (by decide)
theorem face2_cod {S : Sc} {x y : Iv} {p : Int} {o : Except Int Iv} (h : Cod o) : Cod (face2 S x y p o) := by
  unfold face2
  split
  · exact h
  · exact err_cod (by decide)
theorem face1_ok {S : Sc} {x : Iv} {p : Int} {o : Except Int Iv} {r : Iv} (h : face1 S x p o = .ok r) : o = .ok r := by
  unfold face1 at h
  split at h
  · exact h
  · cases h
theorem face2_ok {S : Sc} {x y : Iv} {p : Int} {o : Except Int Iv} {r : Iv} (h : face2 S x y p o = .ok r) : o = .ok r := by
  unfold face2 at h
  split at h
  · exact h
  · cases h
theorem sqrI_cod {S : Sc} {x : Iv} {p : Int} : Cod (sqrI S x p) := thn_cod mulO_cod fun _ _ => thn_cod mulO_cod fun _ _ => outO_cod
theorem mulI_cod {S : Sc} {x y : Iv} {p : Int} : Cod (mulI S x y p) := thn_cod (corO_cod fun _ _ => mulO_cod) fun _ _ => outO_cod
end Go.Proofs.YtcbkhmejlaaieaaGreatDoor
