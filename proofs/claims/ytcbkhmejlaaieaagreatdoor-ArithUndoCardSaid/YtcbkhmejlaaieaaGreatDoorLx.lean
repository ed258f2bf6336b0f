/-
  What undoes what: a quotient times its divisor holds the dividend, a root times itself what the root is of; which codes quotients and roots tell. No condition; nothing of the program is named here.
-/
import Derived.Test.YtcbkhmejlaaieaaGreatDoorLs
namespace Go.Proofs.YtcbkhmejlaaieaaGreatDoor

theorem okd_blen {s : Bool} {m : Nat} {e : Int} (h : OkD s m e) : blen m ≤ 4096 := by
  rcases h with ⟨rfl, _⟩ | ⟨_, h, _⟩
  · rw [blen_zero]; omega
  · refine (blen_le _ _).2 ?_
    rw [W_pow, ← Nat.pow_mul] at h
    rw [show (64 * 64 : Nat) = 4096 from rfl] at h
    exact h
theorem vz_flip {K : Nat} {s : Bool} {m : Nat} {e : Int} : vz K (!s) m e = - vz K s m e := by
  unfold vz
  rw [sg_not, Int.neg_mul]
theorem vz_nonneg {K : Nat} {m : Nat} {e : Int} : 0 ≤ vz K false m e := by
  unfold vz
  rw [show sg false = 1 from rfl, Int.one_mul]
  exact Int.natCast_nonneg _
/-- a quotient times the divisor, as values -/
theorem quot_val {K : Nat} {s : Bool} {x : Nat} {e : Int} {y : Nat} {f : Int} {p : Nat} {up : Bool} {s' : Bool} {m' : Nat} {e' : Int} (hK : 4194304 ≤ K) (hy : y ≠ 0) (hp : p ≤ 2000) (bx : blen x ≤ 4096) (bY : blen y ≤ 4096) (r1 : -1048576 ≤ e ∧ e ≤ 1048576) (r2 : -1048576 ≤ f ∧ f ≤ 1048576)
    (h : QuTold s x e false y f p up 0 s' m' e') : (up = false → vz K s' m' e' * vz K false y f ≤ vz K s x e * ((2 ^ K : Nat) : Int)) ∧ (up = true → vz K s x e * ((2 ^ K : Nat) : Int) ≤ vz K s' m' e' * vz K false y f) := by
  have r3 := okd_ge hK (nm_okd h)
  have hk : (p : Int) + (blen y : Int) - (blen x : Int) = ((kUp p x y : Nat) : Int) - ((kDn p x y : Nat) : Int) := by unfold kUp kDn; omega
  have hi : kUp p x y ≤ 10000 := by unfold kUp; omega
  have hj : kDn p x y ≤ 10000 := by unfold kDn; omega
  unfold QuTold at h
  rw [hk] at h
  generalize kUp p x y = i at *
  generalize kDn p x y = j at *
  have hsf : (s != false) = s := by cases s <;> rfl
  rw [hsf] at h
  have hD : 0 < y * 2 ^ j := Nat.mul_pos (Nat.pos_of_ne_zero hy) (pow_pos2 j)
  obtain ⟨rest, hrest⟩ : ∃ r : Bool, r = !decide (x * 2 ^ i % (y * 2 ^ j) = 0) := ⟨_, rfl⟩
  rw [← hrest] at h
  have hdm := Nat.div_add_mod (x * 2 ^ i) (y * 2 ^ j)
  have hml := Nat.mod_lt (x * 2 ^ i) hD
  generalize hq : x * 2 ^ i / (y * 2 ^ j) = q at *
  obtain ⟨L, hL⟩ : ∃ L, L = cutR p q rest (up != s) * 2 ^ (blen q - p) := ⟨_, rfl⟩
  have hside : ((up != s) = false → L * (y * 2 ^ j) ≤ x * 2 ^ i) ∧ ((up != s) = true → x * 2 ^ i ≤ L * (y * 2 ^ j)) := by
    constructor
    · intro hu
      rw [hu] at hL
      have h1 : L ≤ q := by rw [hL]; exact cutR_le
      have h2 := Nat.mul_le_mul_right (y * 2 ^ j) h1
      rw [Nat.mul_comm q] at h2
      omega
    · intro hu
      rw [hu] at hL
      obtain ⟨h1, h2⟩ := cutR_ge (p := p) (x := q) (rest := rest)
      rw [← hL] at h1 h2
      cases hr : rest
      · rw [hr] at hrest
        have h3 : x * 2 ^ i % (y * 2 ^ j) = 0 := by
          have := hrest.symm
          simpa using this
        have h4 := Nat.mul_le_mul_right (y * 2 ^ j) h1
        rw [Nat.mul_comm q] at h4
        omega
      · have h4 := Nat.mul_le_mul_right (y * 2 ^ j) (h2 hr)
        rw [Nat.add_mul, Nat.one_mul, Nat.mul_comm q] at h4
        omega
  have hE : -(K : Int) ≤ e - f - ((i : Int) - (j : Int)) := by omega
  have v1 := nm_value (K := K) (by omega) h
  rw [vz_up hE, ← hL] at v1
  have m2 := vz_mul (K := K) (s := s) (t := false) (m := L) (n := y) (e := e - f - ((i : Int) - (j : Int))) (f := f) hE (by omega) (by omega)
  have e1 : e - f - ((i : Int) - (j : Int)) + f = (e - (i : Int)) + ((j : Nat) : Int) := by omega
  have e2 : e = (e - (i : Int)) + ((i : Nat) : Int) := by omega
  have v3 := vz_up (K := K) (s := s) (m := L * y) (e := e - (i : Int)) (by omega) j
  have v4 := vz_up (K := K) (s := s) (m := x) (e := e - (i : Int)) (by omega) i
  rw [hsf, e1, v3, Nat.mul_assoc] at m2
  rw [← e2] at v4
  rw [v1, m2, v4]
  constructor
  · intro hu
    refine Int.mul_le_mul_of_nonneg_right ?_ (Int.le_of_lt pos_of_pow)
    cases hs : s
    · rw [hu, hs] at hside; exact (vz_mono (hside.1 rfl)).1 rfl
    · rw [hu, hs] at hside; exact (vz_mono (hside.2 rfl)).2 rfl
  · intro hu
    refine Int.mul_le_mul_of_nonneg_right ?_ (Int.le_of_lt pos_of_pow)
    cases hs : s
    · rw [hu, hs] at hside; exact (vz_mono (hside.2 rfl)).1 rfl
    · rw [hu, hs] at hside; exact (vz_mono (hside.1 rfl)).2 rfl
/-- a root times itself, as values; a root is not below nought -/
theorem root_val {K : Nat} {x : Nat} {e : Int} {p : Nat} {up : Bool} {s' : Bool} {m' : Nat} {e' : Int} (hK : 4194304 ≤ K) (hp : p ≤ 2000) (bx : blen x ≤ 4096) (r1 : -1048576 ≤ e ∧ e ≤ 1048576)
    (h : RoTold x e p up 0 s' m' e') : 0 ≤ vz K s' m' e' ∧ (up = false → vz K s' m' e' * vz K s' m' e' ≤ vz K false x e * ((2 ^ K : Nat) : Int)) ∧ (up = true → vz K false x e * ((2 ^ K : Nat) : Int) ≤ vz K s' m' e' * vz K s' m' e') := by
  obtain ⟨i, j, r, f, ⟨h1, h2, h3, h4, h5, h6⟩, h⟩ := h
  have r3 := okd_ge hK (nm_okd h)
  have huf : (up != false) = up := by cases up <;> rfl
  rw [huf] at h
  obtain ⟨rest, hrest⟩ : ∃ b : Bool, b = !decide (r * r * 2 ^ j = x * 2 ^ i) := ⟨_, rfl⟩
  rw [← hrest] at h
  obtain ⟨L, hL⟩ : ∃ L, L = cutR p r rest up * 2 ^ (blen r - p) := ⟨_, rfl⟩
  have hdm := Nat.div_add_mod (x * 2 ^ i) (2 ^ j)
  have hml := Nat.mod_lt (x * 2 ^ i) (pow_pos2 j)
  generalize hq : x * 2 ^ i / 2 ^ j = q at *
  have hside : (up = false → L * L * 2 ^ j ≤ x * 2 ^ i) ∧ (up = true → x * 2 ^ i ≤ L * L * 2 ^ j) := by
    constructor
    · intro hu
      rw [hu] at hL
      have a1 : L ≤ r := by rw [hL]; exact cutR_le
      have a2 := Nat.mul_le_mul a1 a1
      have a3 := Nat.mul_le_mul_right (2 ^ j) (Nat.le_trans a2 h5)
      rw [Nat.mul_comm q] at a3
      omega
    · intro hu
      rw [hu] at hL
      obtain ⟨a1, a2⟩ := cutR_ge (p := p) (x := r) (rest := rest)
      rw [← hL] at a1 a2
      cases hr : rest
      · rw [hr] at hrest
        have a3 : r * r * 2 ^ j = x * 2 ^ i := by
          have := hrest.symm
          simpa using this
        rw [← a3]
        exact Nat.mul_le_mul_right _ (Nat.mul_le_mul a1 a1)
      · have a4 := a2 hr
        have a5 := Nat.mul_le_mul a4 a4
        have a6 := Nat.mul_le_mul_right (2 ^ j) (show q + 1 ≤ L * L by omega)
        rw [Nat.add_mul, Nat.one_mul, Nat.mul_comm q] at a6
        omega
  have hf1 : -(K : Int) ≤ f ∧ -(K : Int) ≤ f + f := by omega
  have v1 := nm_value (K := K) (by omega) h
  rw [vz_up hf1.1, ← hL] at v1
  have m2 := vz_mul (K := K) (s := false) (t := false) (m := L) (n := L) (e := f) (f := f) hf1.1 hf1.1 hf1.2
  have hff : (false != false) = false := rfl
  have e1 : f + f = (e - (i : Int)) + ((j : Nat) : Int) := by omega
  have e2 : e = (e - (i : Int)) + ((i : Nat) : Int) := by omega
  have v3 := vz_up (K := K) (s := false) (m := L * L) (e := e - (i : Int)) (by omega) j
  have v4 := vz_up (K := K) (s := false) (m := x) (e := e - (i : Int)) (by omega) i
  rw [hff, e1, v3] at m2
  rw [← e2] at v4
  rw [v1, m2, v4]
  exact ⟨vz_nonneg, fun hu => Int.mul_le_mul_of_nonneg_right ((vz_mono (hside.1 hu)).1 rfl) (Int.le_of_lt pos_of_pow), fun hu => Int.mul_le_mul_of_nonneg_right ((vz_mono (hside.2 hu)).1 rfl) (Int.le_of_lt pos_of_pow)⟩
theorem nm_codes {p : Nat} {s : Bool} {m : Nat} {e k : Int} {s' : Bool} {m' : Nat} {e' : Int} (h : Nm s m e k s' m' e') (hf : Fits p m) (hp : p ≤ 2000) : k = 0 ∨ k = 3 := by
  rcases h with ⟨_, h, _⟩ | ⟨k', q, hm, ⟨h1, _⟩ | ⟨_, _, h, _⟩ | ⟨_, _, h, _⟩⟩
  · exact .inl h
  · exfalso
    rw [hm] at hf
    rw [W_pow, ← Nat.pow_mul] at h1
    obtain ⟨T, hT⟩ : ∃ T, T = 64 * 64 := ⟨_, rfl⟩
    rw [← hT] at h1
    have a2 : 2 ^ p ≤ 2 ^ T := Nat.pow_le_pow_right (by omega) (by omega)
    exact Nat.lt_irrefl _ (Nat.lt_of_lt_of_le (fits_odd hf) (Nat.le_trans a2 h1))
  · exact .inr h
  · exact .inl h
section
variable {S : Sc} {a b c : Rw} {x y q r m : Iv} {p k : Int}
theorem quoO_ok {up : Bool} (hp : 1 ≤ p ∧ p ≤ 2000) (ha : a.may = true) (hb : b.may = true) (h : quoO S p up a b = .ok c) : c.may = true ∧
    (0 < b.v S.K → (up = false → c.v S.K * b.v S.K ≤ a.v S.K * ((2 ^ S.K : Nat) : Int)) ∧ (up = true → a.v S.K * ((2 ^ S.K : Nat) : Int) ≤ c.v S.K * b.v S.K)) ∧
    (b.v S.K < 0 → (up = false → a.v S.K * ((2 ^ S.K : Nat) : Int) ≤ c.v S.K * b.v S.K) ∧ (up = true → c.v S.K * b.v S.K ≤ a.v S.K * ((2 ^ S.K : Nat) : Int))) := by
  obtain ⟨s, m, e, hq, rfl⟩ := S.of_ok quotR_only quotR_some h
  unfold quotR at hq
  rw [if_pos ⟨hp, ha, hb⟩] at hq
  by_cases h0 : val W b.l = 0
  · rw [if_pos h0] at hq
    exact absurd hq.1 (by decide)
  · rw [if_neg h0] at hq
    have o1 := (mayD_of a.lt ha).2
    have o2 := (mayD_of b.lt hb).2
    have g1 := okd_ge S.big o1
    have g2 := okd_ge S.big o2
    refine ⟨Rw.of_may (nm_okd hq), ?_⟩
    obtain ⟨t, ht⟩ : ∃ t, t = b.s := ⟨_, rfl⟩
    have bv : b.v S.K = vz S.K t (val W b.l) b.e := by rw [ht]; rfl
    have av : a.v S.K = vz S.K a.s (val W a.l) a.e := rfl
    rw [← ht] at hq
    rw [Rw.of_v, bv, av]
    cases t
    · have k := quot_val (K := S.K) S.big h0 (by omega) (okd_blen o1) (okd_blen o2) ⟨g1.1, g1.2.1⟩ ⟨g2.1, g2.2.1⟩ hq
      exact ⟨fun _ => k, fun hn => absurd hn (Int.not_lt.2 (Int.le_of_lt ((vz_pos h0).1 rfl)))⟩
    · have hq2 : QuTold (!a.s) (val W a.l) a.e false (val W b.l) b.e p.toNat up 0 s m e := by
        have e1 : ((!a.s) != false) = (a.s != true) := by cases a.s <;> rfl
        unfold QuTold at hq ⊢
        rw [e1]
        exact hq
      have k := quot_val (K := S.K) S.big h0 (by omega) (okd_blen o1) (okd_blen o2) ⟨g1.1, g1.2.1⟩ ⟨g2.1, g2.2.1⟩ hq2
      have n1 : vz S.K true (val W b.l) b.e = - vz S.K false (val W b.l) b.e := vz_flip (s := false)
      refine ⟨fun hn => absurd hn (Int.not_lt.2 (Int.le_of_lt ((vz_pos h0).2 rfl))), fun _ => ?_⟩
      rw [n1, Int.mul_neg]
      rw [vz_flip, Int.neg_mul] at k
      refine ⟨fun hu => ?_, fun hu => ?_⟩
      · have := Int.neg_le_neg (k.1 hu)
        rwa [Int.neg_neg] at this
      · have := Int.neg_le_neg (k.2 hu)
        rwa [Int.neg_neg] at this
theorem quoO_code {up : Bool} (hp : 1 ≤ p ∧ p ≤ 2000) (ha : a.may = true) (hb : b.may = true) (h0 : b.v S.K ≠ 0) (h : quoO S p up a b = .error k) : k = 3 := by
  obtain ⟨hk, s, m, e, hq⟩ := S.of_err quotR_only quotR_some h
  unfold quotR at hq
  rw [if_pos ⟨hp, ha, hb⟩, if_neg (fun h1 => h0 (by unfold Rw.v; rw [h1]; exact vz_zero _ _ _))] at hq
  unfold QuTold at hq
  rcases nm_codes (p := p.toNat) hq (cutR_fits (by omega)) (by omega) with h | h
  · exact absurd h hk
  · exact h
theorem div_free (hy : mayI S.K y = true) (hz : ¬ hasI S.K y Rw.zero = true) : 0 < y.lo.v S.K ∨ y.hi.v S.K < 0 := by
  by_cases s1 : 0 < y.lo.v S.K
  · exact Or.inl s1
  · by_cases s2 : y.hi.v S.K < 0
    · exact Or.inr s2
    · exact absurd (hasI_iff.2 ⟨hy, Rw.zero_may, by rw [v_zero]; omega, by rw [v_zero]; omega⟩) hz
theorem div_undo (hp : 1 ≤ p ∧ p ≤ 2000) (hx : mayI S.K x = true) (hy : mayI S.K y = true) (h : divI S x y p = .ok q) (hq : mayI S.K q = true) (h' : mulI S q y p = .ok m) : withinI S.K x m = true := by
  unfold divI at h
  split at h
  · cases h
  · next hz =>
    obtain ⟨L, hL, h⟩ := thn_ok h
    obtain ⟨M, hM, h⟩ := thn_ok h
    cases h
    obtain ⟨a1, b1, c1, d1, f1, f2, f3, f4, rfl⟩ := corO_ok hL
    obtain ⟨a2, b2, c2, d2, g1, g2, g3, g4, rfl⟩ := corO_ok hM
    obtain ⟨m1, m2, m3⟩ := mayI_iff.1 hx
    obtain ⟨n1, n2, n3⟩ := mayI_iff.1 hy
    have F1 := quoO_ok hp m1 n1 f1
    have F2 := quoO_ok hp m1 n2 f2
    have F3 := quoO_ok hp m2 n1 f3
    have F4 := quoO_ok hp m2 n2 f4
    have G1 := quoO_ok hp m1 n1 g1
    have G2 := quoO_ok hp m1 n2 g2
    have G3 := quoO_ok hp m2 n1 g3
    have G4 := quoO_ok hp m2 n2 g4
    obtain ⟨_, l2⟩ := lea_of (S := S) (L := [a1, b1, c1, d1]) (by simp) (by simpa using ⟨F1.1, F2.1, F3.1, F4.1⟩)
    obtain ⟨_, u2⟩ := gre_of (S := S) (L := [a2, b2, c2, d2]) (by simp) (by simpa using ⟨G1.1, G2.1, G3.1, G4.1⟩)
    obtain ⟨L', k1, k2, k3, _⟩ := mulI_ok hp hq hy h'
    have hlh := (mayI_iff.1 hq).2.2
    refine withinI_iff.2 ⟨hx, tight_may k2 k3, ?_, ?_⟩
    · rcases div_free hy hz with s1 | s1
      · have t1 := (F1.2.1 s1).1 rfl
        have t3 := Int.mul_le_mul_of_nonneg_right (l2 a1 (by simp)) (Int.le_of_lt s1)
        have t4 := (cor_between hq hy k1 (Int.le_refl _) hlh (Int.le_refl _) n3).1
        exact Int.le_trans k2.1.2.1 (of_scaled (Int.le_trans t4 (Int.le_trans t3 t1)))
      · have t1 := (G2.2.2 s1).2 rfl
        have t3 := Int.mul_le_mul_of_nonpos_right (u2 b2 (by simp)) (Int.le_of_lt s1)
        have t4 := (cor_between hq hy k1 hlh (Int.le_refl _) n3 (Int.le_refl _)).1
        exact Int.le_trans k2.1.2.1 (of_scaled (Int.le_trans t4 (Int.le_trans t3 t1)))
    · rcases div_free hy hz with s1 | s1
      · have t1 := (G3.2.1 s1).2 rfl
        have t3 := Int.mul_le_mul_of_nonneg_right (u2 c2 (by simp)) (Int.le_of_lt s1)
        have t4 := (cor_between hq hy k1 hlh (Int.le_refl _) (Int.le_refl _) n3).2
        exact Int.le_trans (of_scaled (Int.le_trans t1 (Int.le_trans t3 t4))) k2.2.2.1
      · have t1 := (F4.2.2 s1).1 rfl
        have t3 := Int.mul_le_mul_of_nonpos_right (l2 d1 (by simp)) (Int.le_of_lt s1)
        have t4 := (cor_between hq hy k1 (Int.le_refl _) hlh n3 (Int.le_refl _)).2
        exact Int.le_trans (of_scaled (Int.le_trans t1 (Int.le_trans t3 t4))) k2.2.2.1
theorem thn_err {α β : Type} {o : Except Int α} {f : α → Except Int β} (h : thn o f = .error k) : o = .error k ∨ ∃ v, o = .ok v ∧ f v = .error k := by
  cases o with
  | ok v => exact .inr ⟨v, rfl, h⟩
  | error j =>
    have h2 : (Except.error j : Except Int β) = .error k := h
    cases h2
    exact .inl rfl
theorem corO_err {F : Rw → Rw → Except Int Rw} (h : corO F x y = .error k) : ∃ a b : Rw, (a = x.lo ∨ a = x.hi) ∧ (b = y.lo ∨ b = y.hi) ∧ F a b = .error k := by
  rcases thn_err h with h | ⟨_, _, h⟩
  · exact ⟨_, _, .inl rfl, .inl rfl, h⟩
  · rcases thn_err h with h | ⟨_, _, h⟩
    · exact ⟨_, _, .inl rfl, .inr rfl, h⟩
    · rcases thn_err h with h | ⟨_, _, h⟩
      · exact ⟨_, _, .inr rfl, .inl rfl, h⟩
      · rcases thn_err h with h | ⟨_, _, h⟩
        · exact ⟨_, _, .inr rfl, .inr rfl, h⟩
        · cases h
theorem div_code (hp : 1 ≤ p ∧ p ≤ 2000) (hx : mayI S.K x = true) (hy : mayI S.K y = true) (h : divI S x y p = .error k) : k = 3 ∨ (k = 4 ∧ hasI S.K y Rw.zero = true) := by
  unfold divI at h
  split at h
  · next hz =>
    cases h
    exact .inr ⟨rfl, hz⟩
  · next hz =>
    refine .inl ?_
    obtain ⟨m1, m2, _⟩ := mayI_iff.1 hx
    obtain ⟨n1, n2, n3⟩ := mayI_iff.1 hy
    have key : ∀ up : Bool, corO (quoO S p up) x y = .error k → k = 3 := fun up h => by
      obtain ⟨a, b, ha, hb, h⟩ := corO_err h
      have h1 : a.may = true := by rcases ha with rfl | rfl <;> assumption
      have h2 : b.may = true := by rcases hb with rfl | rfl <;> assumption
      have h3 : b.v S.K ≠ 0 := by
        rcases div_free hy hz with s1 | s1 <;> rcases hb with rfl | rfl <;> omega
      exact quoO_code hp h1 h2 h3 h
    rcases thn_err h with h | ⟨_, _, h⟩
    · exact key _ h
    · rcases thn_err h with h | ⟨_, _, h⟩
      · exact key _ h
      · cases h
theorem pos_plain (ha : a.may = true) (h : 0 ≤ a.v S.K) : a.s = false := by
  have o1 := (mayD_of a.lt ha).2
  cases hs : a.s
  · rfl
  · exfalso
    rw [hs] at o1
    have h0 : val W a.l ≠ 0 := by
      rcases o1 with ⟨_, h1, _⟩ | ⟨h1, _⟩
      · cases h1
      · intro h2; rw [h2] at h1; cases h1
    have := (vz_pos (K := S.K) (e := a.e) h0 (s := true)).2 rfl
    have av : a.v S.K = vz S.K a.s (val W a.l) a.e := rfl
    rw [hs] at av
    omega
theorem rooO_ok {up : Bool} (hp : 1 ≤ p ∧ p ≤ 2000) (ha : a.may = true) (h : rooO S a p up = .ok c) : c.may = true ∧ 0 ≤ c.v S.K ∧ (up = false → c.v S.K * c.v S.K ≤ a.v S.K * ((2 ^ S.K : Nat) : Int)) ∧ (up = true → a.v S.K * ((2 ^ S.K : Nat) : Int) ≤ c.v S.K * c.v S.K) := by
  obtain ⟨s, m, e, hq, rfl⟩ := S.of_ok (rootR_only a.lt) rootR_some h
  unfold rootR at hq
  rw [if_pos ⟨hp, ha⟩] at hq
  have o1 := (mayD_of a.lt ha).2
  have g1 := okd_ge S.big o1
  cases hs : a.s
  · rw [if_neg (by rw [hs]; decide)] at hq
    have hm : (Rw.of s m e).may = true := by
      obtain ⟨_, _, _, _, _, h⟩ := hq
      exact Rw.of_may (nm_okd h)
    have av : a.v S.K = vz S.K false (val W a.l) a.e := by rw [← hs]; rfl
    rw [Rw.of_v, av]
    exact ⟨hm, root_val S.big (by omega) (okd_blen o1) ⟨g1.1, g1.2.1⟩ hq⟩
  · rw [if_pos hs] at hq
    exact absurd hq.1 (by decide)
theorem rooO_code {up : Bool} (hp : 1 ≤ p ∧ p ≤ 2000) (ha : a.may = true) (h0 : 0 ≤ a.v S.K) (h : rooO S a p up = .error k) : k = 3 := by
  obtain ⟨hk, s, m, e, hq⟩ := S.of_err (rootR_only a.lt) rootR_some h
  unfold rootR at hq
  rw [if_pos ⟨hp, ha⟩, if_neg (by rw [pos_plain ha h0]; decide)] at hq
  obtain ⟨_, _, _, _, _, hq⟩ := hq
  rcases nm_codes (p := p.toNat) hq (cutR_fits (by omega)) (by omega) with h | h
  · exact absurd h hk
  · exact h
theorem sign_v (ha : a.may = true) (h : 0 ≤ signR a.s a.l a.e) : 0 ≤ a.v S.K := by
  unfold signR at h
  rw [if_pos (show mayD a.s a.l a.e = true from ha)] at h
  unfold signD at h
  have av : a.v S.K = vz S.K a.s (val W a.l) a.e := rfl
  by_cases h0 : val W a.l = 0
  · rw [av, h0, vz_zero]; omega
  · rw [if_neg h0] at h
    cases hs : a.s
    · rw [av, hs]; exact vz_nonneg
    · rw [hs] at h
      exact absurd h (by decide)
theorem sqt_undo (hp : 1 ≤ p ∧ p ≤ 2000) (hx : mayI S.K x = true) (h : sqtI S x p = .ok r) (hr : mayI S.K r = true) (h' : sqrI S r p = .ok m) : withinI S.K x m = true := by
  unfold sqtI at h
  split at h
  · cases h
  · obtain ⟨l, hl, h⟩ := thn_ok h
    obtain ⟨u, hu, h⟩ := thn_ok h
    cases h
    obtain ⟨m1, m2, m3⟩ := mayI_iff.1 hx
    have R1 := (rooO_ok hp m1 hl).2.2.1 rfl
    have R2 := (rooO_ok hp m2 hu).2.2.2 rfl
    obtain ⟨L, k2, k3, _, _, k4, _, ⟨z1, i1, e1⟩, ⟨z2, i2, e2⟩, _⟩ := sqrI_ok hp hr h'
    refine withinI_iff.2 ⟨hx, tight_may k2 k3, ?_, ?_⟩
    · exact Int.le_trans k2.1.2.1 (Int.le_trans (k4 z1 i1).1 (of_scaled (Int.le_trans (Int.le_of_eq e1) R1)))
    · exact Int.le_trans (of_scaled (Int.le_trans R2 (Int.le_of_eq e2.symm))) (Int.le_trans (k4 z2 i2).2 k2.2.2.1)
theorem sqt_code (hp : 1 ≤ p ∧ p ≤ 2000) (hx : mayI S.K x = true) (h : sqtI S x p = .error k) : k = 3 ∨ (k = 4 ∧ signR x.lo.s x.lo.l x.lo.e < 0) := by
  unfold sqtI at h
  split at h
  · next hz =>
    cases h
    exact .inr ⟨rfl, hz⟩
  · next hz =>
    refine .inl ?_
    obtain ⟨m1, m2, m3⟩ := mayI_iff.1 hx
    have h0 := sign_v (S := S) m1 (Int.not_lt.1 hz)
    rcases thn_err h with h | ⟨_, _, h⟩
    · exact rooO_code hp m1 h0 h
    · rcases thn_err h with h | ⟨_, _, h⟩
      · exact rooO_code hp m2 (Int.le_trans h0 m3) h
      · cases h
theorem divI_cd : Cod (divI S x y p) := by
  unfold divI
  split
  · exact err_cod (by decide)
  · exact thn_cod (corO_cod fun _ _ => quoO_cod) fun _ _ => thn_cod (corO_cod fun _ _ => quoO_cod) fun _ _ => ok_cod
theorem sqtI_cd : Cod (sqtI S x p) := by
  unfold sqtI
  split
  · exact err_cod (by decide)
  · exact rooI_cod
theorem face2_on {o : Except Int Iv} (hx : mayI S.K x = true) (hy : mayI S.K y = true) (hp : 1 ≤ p ∧ p ≤ 2000) : face2 S x y p o = o := by
  unfold face2 prec
  rw [if_pos (by rw [hx, hy, decide_eq_true hp.1, decide_eq_true hp.2]; rfl)]
theorem face1_on {o : Except Int Iv} (hx : mayI S.K x = true) (hp : 1 ≤ p ∧ p ≤ 2000) : face1 S x p o = o := by
  unfold face1 prec
  rw [if_pos (by rw [hx, decide_eq_true hp.1, decide_eq_true hp.2]; rfl)]
theorem face2_may {o : Except Int Iv} (h : face2 S x y p o = .ok r) : mayI S.K x = true := by
  unfold face2 at h
  split at h
  · next hc =>
    simp only [Bool.and_eq_true] at hc
    exact hc.1.1
  · cases h
theorem face1_may {o : Except Int Iv} (h : face1 S x p o = .ok r) : mayI S.K x = true := by
  unfold face1 at h
  split at h
  · next hc =>
    simp only [Bool.and_eq_true] at hc
    exact hc.1
  · cases h
theorem div_codes {q' : Except Int Iv} (hp : 1 ≤ p ∧ p ≤ 2000) (hx : mayI S.K x = true) (hy : mayI S.K y = true) (hq : q' = face2 S x y p (divI S x y p)) (hz : okc q' ≠ 0) : okc q' = 3 ∨ okc q' = 4 ∧ hasI S.K y Rw.zero = true := by
  rw [face2_on hx hy hp] at hq
  subst hq
  cases h : divI S x y p with
  | ok v => rw [h] at hz; exact absurd rfl hz
  | error k => exact div_code hp hx hy h
theorem div_within {q' m' : Except Int Iv} (hp : 1 ≤ p ∧ p ≤ 2000) (hx : mayI S.K x = true) (hy : mayI S.K y = true) (hq : q' = face2 S x y p (divI S x y p)) (hm : m' = face2 S (oiv q') y p (mulI S (oiv q') y p)) (z1 : okc q' = 0) (z2 : okc m' = 0) : withinI S.K x (oiv m') = true := by
  have e1 : q' = .ok (oiv q') := iok_of (by rw [hq]; exact face2_cod divI_cd) z1
  have e2 : m' = .ok (oiv m') := iok_of (by rw [hm]; exact face2_cod mulI_cod) z2
  have f1 := face2_ok (hq.symm.trans e1)
  have f2 := hm.symm.trans e2
  exact div_undo hp hx hy f1 (face2_may f2) (face2_ok f2)
theorem sqt_codes {q' : Except Int Iv} (hp : 1 ≤ p ∧ p ≤ 2000) (hx : mayI S.K x = true) (hq : q' = face1 S x p (sqtI S x p)) (hz : okc q' ≠ 0) : okc q' = 3 ∨ okc q' = 4 ∧ signR x.lo.s x.lo.l x.lo.e < 0 := by
  rw [face1_on hx hp] at hq
  subst hq
  cases h : sqtI S x p with
  | ok v => rw [h] at hz; exact absurd rfl hz
  | error k => exact sqt_code hp hx h
theorem sqt_within {q' m' : Except Int Iv} (hp : 1 ≤ p ∧ p ≤ 2000) (hx : mayI S.K x = true) (hq : q' = face1 S x p (sqtI S x p)) (hm : m' = face1 S (oiv q') p (sqrI S (oiv q') p)) (z1 : okc q' = 0) (z2 : okc m' = 0) : withinI S.K x (oiv m') = true := by
  have e1 : q' = .ok (oiv q') := iok_of (by rw [hq]; exact face1_cod sqtI_cd) z1
  have e2 : m' = .ok (oiv m') := iok_of (by rw [hm]; exact face1_cod sqrI_cod) z2
  have f1 := face1_ok (hq.symm.trans e1)
  have f2 := hm.symm.trans e2
  exact sqt_undo hp hx f1 (face1_may f2) (face1_ok f2)
end
end Go.Proofs.YtcbkhmejlaaieaaGreatDoor
