/-
 Plain facts on quotients and roots that are reckoned to some bits more, their last bit set if anything is left: cut to p bits they are what the shorter ones with their rests are. No condition; nothing of the program is named here.
-/
import Derived.Test.YtdhdebapjlcjdaaGreatDoorURt
import Derived.Test.YtdhdebapjlcjdaaGreatDoorURa
namespace Go.Proofs.YtdhdebapjlcjdaaGreatDoor

theorem cutR_le {p x : Nat} {rest : Bool} : cutR p x rest false * 2 ^ (blen x - p) ≤ x := by
 unfold cutR
 simp only [Bool.false_eq_true, false_and, if_false, Nat.add_zero]
 exact Nat.div_mul_le_self _ _
theorem cutR_ge {p x : Nat} {rest : Bool} : x ≤ cutR p x rest true * 2 ^ (blen x - p) ∧ (rest = true → x + 1 ≤ cutR p x rest true * 2 ^ (blen x - p)) := by
 have h := cut_parts p x
 have h2 := Nat.mod_lt x (pow_pos2 (blen x - p))
 unfold cutR
 by_cases hr : x % 2 ^ (blen x - p) = 0
 ·cases rest
  ·rw [if_neg (by simp [hr]), Nat.add_zero]
   exact ⟨by omega, fun h => by cases h⟩
  ·rw [if_pos ⟨rfl, .inl rfl⟩, Nat.add_mul, Nat.one_mul]
   exact ⟨by omega, fun _ => by omega⟩
 ·rw [if_pos ⟨rfl, .inr hr⟩, Nat.add_mul, Nat.one_mul]
  exact ⟨by omega, fun _ => by omega⟩
theorem cutR_fits {p x : Nat} {rest u : Bool} (hp : 1 ≤ p) : Fits p (cutR p x rest u) := by
 have h := cut_lt p x
 have h2 : cutR p x rest u ≤ x / 2 ^ (blen x - p) + 1 := by unfold cutR; split <;> omega
 by_cases h3 : cutR p x rest u < 2 ^ p
 ·exact fits_of h3
 ·have h4 : cutR p x rest u = 2 ^ p := by omega
  rw [h4]
  exact ⟨1, p, by omega, Nat.one_lt_two_pow (by omega)⟩
end Go.Proofs.YtdhdebapjlcjdaaGreatDoor

namespace Go.Proofs.YtdhdebapjlcjdaaGreatDoor

/-- Q is q with D bits more behind it; rest: q times 2^D is not Q itself -/
theorem cut_sticky {p q Q D : Nat} {rest u : Bool} (hq : q ≠ 0) (hb : p ≤ blen q) (h0 : rest = false → Q = q * 2 ^ D) (h1 : rest = true → q * 2 ^ D < Q ∧ Q < (q + 1) * 2 ^ D) :
  cutN p Q u * 2 ^ (blen Q - p) = cutR p q rest u * 2 ^ (blen q - p) * 2 ^ D := by
 cases rest
 ·have h2 := h0 rfl
  rw [cutR_false, h2]
  have hbl := blen_shift (k := D) hq
  have e1 : blen (q * 2 ^ D) - p = (blen q - p) + D := by omega
  unfold cutN
  rw [e1, Nat.pow_add, Nat.mul_div_mul_right _ _ (pow_pos2 D), Nat.mul_mod_mul_right]
  have e2 : (q % 2 ^ (blen q - p) * 2 ^ D ≠ 0) = (q % 2 ^ (blen q - p) ≠ 0) := by
   apply propext
   have := pow_pos2 D
   constructor
   ·intro h h3; apply h; rw [h3, Nat.zero_mul]
   ·intro h h3
    rcases Nat.mul_eq_zero.1 h3 with h4 | h4
    ·exact h h4
    ·omega
  simp only [e2]
  rw [Nat.mul_assoc]
 ·obtain ⟨h2, h3⟩ := h1 rfl
  have hQ : Q / 2 ^ D = q := by
   apply Nat.le_antisymm
   ·exact Nat.lt_succ_iff.1 ((Nat.div_lt_iff_lt_mul (pow_pos2 D)).2 h3)
   ·exact (Nat.le_div_iff_mul_le (pow_pos2 D)).2 (Nat.le_of_lt h2)
  have hbl : blen Q = blen q + D := by
   obtain ⟨b1, b2, b3⟩ := blen_pos hq
   apply Nat.le_antisymm
   ·rw [blen_le, Nat.pow_add]
    have h4 := Nat.mul_le_mul_right (2 ^ D) (show q + 1 ≤ 2 ^ blen q by omega)
    omega
   ·have h4 := (blen_le Q (blen q + D - 1))
    rcases Nat.lt_or_ge (blen Q) (blen q + D) with h5 | h5
    ·exfalso
     have h6 := h4.1 (by omega)
     have h7 := Nat.mul_le_mul_right (2 ^ D) b1
     rw [← Nat.pow_add] at h7
     have e3 : blen q - 1 + D = blen q + D - 1 := by omega
     rw [e3] at h7
     omega
    ·exact h5
  have e1 : blen Q - p = D + (blen q - p) := by omega
  have hdiv : Q / 2 ^ (blen Q - p) = q / 2 ^ (blen q - p) := by rw [e1, Nat.pow_add, ← Nat.div_div_eq_div_mul, hQ]
  have hmod : Q % 2 ^ (blen Q - p) ≠ 0 := by
   intro h4
   obtain ⟨t, ht⟩ := Nat.dvd_of_mod_eq_zero h4
   rw [e1, Nat.pow_add, Nat.mul_assoc] at ht
   have h5 : Q / 2 ^ D = 2 ^ (blen q - p) * t := by rw [ht, Nat.mul_div_cancel_left _ (pow_pos2 D)]
   rw [hQ] at h5
   rw [← h5, Nat.mul_comm] at ht
   omega
  unfold cutN cutR
  rw [hdiv, e1, Nat.pow_add, Nat.mul_comm (2 ^ D), ← Nat.mul_assoc]
  rw [e1, Nat.pow_add, Nat.mul_comm (2 ^ D)] at hmod
  congr 2
  cases u <;> simp [hmod]
/-- the reference's quotient, doubled, its last bit set if anything is left -/
theorem sticky_quot {A B q f r D : Nat} {rest : Bool} (hB : 0 < B) (hD : 1 ≤ D) (hq1 : q * 2 ^ D * B ≤ A) (hq2 : A < (q + 1) * 2 ^ D * B) (hr : rest = false ↔ q * 2 ^ D * B = A) (hf : 2 * f * B + 2 * r = A) (hrB : r < B) :
  (rest = false → (2 * f + if r = 0 then 0 else 1) = q * 2 ^ D) ∧ (rest = true → q * 2 ^ D < (2 * f + if r = 0 then 0 else 1) ∧ (2 * f + if r = 0 then 0 else 1) < (q + 1) * 2 ^ D) := by
 obtain ⟨d, rfl⟩ : ∃ d, D = d + 1 := ⟨D - 1, by omega⟩
 have e1 : q * 2 ^ (d + 1) = 2 * (q * 2 ^ d) := by rw [Nat.pow_succ]; ac_rfl
 have e2 : (q + 1) * 2 ^ (d + 1) = 2 * ((q + 1) * 2 ^ d) := by rw [Nat.pow_succ]; ac_rfl
 rw [e1] at hq1 hr ⊢
 rw [e2] at hq2 ⊢
 generalize q * 2 ^ d = a at *
 generalize (q + 1) * 2 ^ d = b at *
 have m1 : 2 * a * B = 2 * (a * B) := Nat.mul_assoc ..
 have m2 : 2 * b * B = 2 * (b * B) := Nat.mul_assoc ..
 have m3 : 2 * f * B = 2 * (f * B) := Nat.mul_assoc ..
 rw [m1] at hq1 hr
 rw [m2] at hq2
 rw [m3] at hf
 have hfb : f < b := by
  rcases Nat.lt_or_ge f b with h | h
  ·exact h
  ·have := Nat.mul_le_mul_right B h; omega
 have haf : a ≤ f := by
  rcases Nat.lt_or_ge f a with h | h
  ·have h2 := Nat.mul_le_mul_right B (show f + 1 ≤ a by omega)
   rw [Nat.add_mul, Nat.one_mul] at h2
   omega
  ·exact h
 constructor
 ·intro h
  have h2 := hr.1 h
  have h3 : f = a := by
   rcases Nat.lt_or_ge a f with h4 | h4
   ·have h5 := Nat.mul_le_mul_right B (show a + 1 ≤ f by omega)
    rw [Nat.add_mul, Nat.one_mul] at h5
    omega
   ·omega
  subst h3
  have h4 : r = 0 := by omega
  rw [if_pos h4]; omega
 ·intro h
  have h2 : ¬ 2 * (a * B) = A := fun h3 => by rw [hr.2 h3] at h; cases h
  by_cases hr0 : r = 0
  ·rw [if_pos hr0]
   have h3 : f ≠ a := by intro h4; rw [h4] at hf; omega
   omega
  ·rw [if_neg hr0]; omega
end Go.Proofs.YtdhdebapjlcjdaaGreatDoor

namespace Go.Proofs.YtdhdebapjlcjdaaGreatDoor

def moreBits (p x y : Nat) : Nat := p + 3 + blen y - blen x
/-- the quotient, doubled, its last bit set if anything is left -/
def stickyQ (s x y : Nat) : Nat := 2 * (x * 2 ^ s / y) + if x * 2 ^ s % y = 0 then 0 else 1
theorem scale_eqs {a y Dn x U P T : Nat} (h : P * U = T * Dn) : a * P * y * U = a * (y * Dn) * T ∧ x * T * U = x * U * T := by
 constructor
 ·have e1 : a * P * y * U = a * y * (P * U) := by ac_rfl
  have e2 : a * (y * Dn) * T = a * y * (T * Dn) := by ac_rfl
  rw [e1, e2, h]
 ·ac_rfl
theorem scale_le {a y Dn x U P T : Nat} (hU : 0 < U) (h : P * U = T * Dn) (hle : a * (y * Dn) ≤ x * U) : a * P * y ≤ x * T := by
 obtain ⟨e1, e2⟩ := scale_eqs (a := a) (y := y) (x := x) h
 refine Nat.le_of_mul_le_mul_right (c := U) ?_ hU
 rw [e1, e2]
 exact Nat.mul_le_mul_right _ hle
theorem scale_lt {a y Dn x U P T : Nat} (hT : 0 < T) (h : P * U = T * Dn) (hle : x * U < a * (y * Dn)) : x * T < a * P * y := by
 obtain ⟨e1, e2⟩ := scale_eqs (a := a) (y := y) (x := x) h
 refine Nat.lt_of_mul_lt_mul_right (a := U) ?_
 rw [e1, e2]
 exact Nat.mul_lt_mul_of_pos_right hle hT
theorem scale_eq {a y Dn x U P T : Nat} (hU : 0 < U) (hT : 0 < T) (h : P * U = T * Dn) : a * P * y = x * T ↔ a * (y * Dn) = x * U := by
 obtain ⟨e1, e2⟩ := scale_eqs (a := a) (y := y) (x := x) h
 constructor
 ·intro h3
  refine Nat.eq_of_mul_eq_mul_right hT ?_
  rw [← e1, ← e2, h3]
 ·intro h3
  refine Nat.eq_of_mul_eq_mul_right hU ?_
  rw [e1, e2, h3]

theorem quot_bits {p x y : Nat} (hx : x ≠ 0) (hy : y ≠ 0) (hp : 1 ≤ p) : p ≤ blen (x * 2 ^ kUp p x y / (y * 2 ^ kDn p x y)) := by
 have hX0 : x * 2 ^ kUp p x y ≠ 0 := Nat.mul_ne_zero hx (Nat.pos_iff_ne_zero.1 (pow_pos2 _))
 have hY0 : y * 2 ^ kDn p x y ≠ 0 := Nat.mul_ne_zero hy (Nat.pos_iff_ne_zero.1 (pow_pos2 _))
 have hbX := blen_shift (k := kUp p x y) hx
 have hbY := blen_shift (k := kDn p x y) hy
 have hsum : blen (x * 2 ^ kUp p x y) = p + blen (y * 2 ^ kDn p x y) := by
  have h1 := (blen_pos hx).2.2
  rw [hbX, hbY]; unfold kUp kDn; omega
 clear hbX hbY
 generalize x * 2 ^ kUp p x y = X at *
 generalize y * 2 ^ kDn p x y = Y at *
 obtain ⟨hX1, _, hX3⟩ := blen_pos hX0
 have hY2 := (blen_le Y _).1 (Nat.le_refl _)
 rcases Nat.lt_or_ge (blen (X / Y)) p with h | h
 ·exfalso
  have h1 : X / Y < 2 ^ (p - 1) := (blen_le _ (p - 1)).1 (by omega)
  have h2 : X < 2 ^ (p - 1) * Y := (Nat.div_lt_iff_lt_mul (Nat.pos_of_ne_zero hY0)).1 h1
  have h3 : 2 ^ (blen X - 1) = 2 ^ (p - 1) * 2 ^ blen Y := by
   rw [← Nat.pow_add]
   exact congrArg (2 ^ ·) (show blen X - 1 = p - 1 + blen Y by omega)
  have h4 : 2 ^ (p - 1) * Y ≤ 2 ^ (p - 1) * 2 ^ blen Y := Nat.mul_le_mul_left _ (Nat.le_of_lt hY2)
  omega
 ·exact h
theorem quot_cut {p x y : Nat} {u : Bool} (hx : x ≠ 0) (hy : y ≠ 0) (hp : 1 ≤ p) : ∃ D, D + kUp p x y = moreBits p x y + 1 + kDn p x y ∧
  cutN p (stickyQ (moreBits p x y) x y) u * 2 ^ (blen (stickyQ (moreBits p x y) x y) - p) = cutR p (x * 2 ^ kUp p x y / (y * 2 ^ kDn p x y)) (!decide (x * 2 ^ kUp p x y % (y * 2 ^ kDn p x y) = 0)) u * 2 ^ (blen (x * 2 ^ kUp p x y / (y * 2 ^ kDn p x y)) - p) * 2 ^ D := by
 obtain ⟨D, hD⟩ : ∃ D, D + kUp p x y = moreBits p x y + 1 + kDn p x y := ⟨moreBits p x y + 1 + kDn p x y - kUp p x y, by unfold moreBits kUp kDn; omega⟩
 have hD1 : 1 ≤ D := by unfold moreBits kUp kDn at hD; omega
 refine ⟨D, hD, ?_⟩
 have hb := quot_bits (p := p) hx hy hp
 have hP : 2 ^ D * 2 ^ kUp p x y = 2 ^ (moreBits p x y + 1) * 2 ^ kDn p x y := by rw [← Nat.pow_add, ← Nat.pow_add, hD]
 have hY0 : 0 < y * 2 ^ kDn p x y := Nat.mul_pos (Nat.pos_of_ne_zero hy) (pow_pos2 _)
 have hU := pow_pos2 (kUp p x y)
 have hT := pow_pos2 (moreBits p x y + 1)
 have hq1 := Nat.div_mul_le_self (x * 2 ^ kUp p x y) (y * 2 ^ kDn p x y)
 have hq2 := (Nat.div_lt_iff_lt_mul hY0).1 (Nat.lt_succ_self (x * 2 ^ kUp p x y / (y * 2 ^ kDn p x y)))
 have hq3 : x * 2 ^ kUp p x y % (y * 2 ^ kDn p x y) = 0 ↔ x * 2 ^ kUp p x y / (y * 2 ^ kDn p x y) * (y * 2 ^ kDn p x y) = x * 2 ^ kUp p x y := by
  have := Nat.div_add_mod (x * 2 ^ kUp p x y) (y * 2 ^ kDn p x y)
  rw [Nat.mul_comm] at this
  omega
 have hq0 : x * 2 ^ kUp p x y / (y * 2 ^ kDn p x y) ≠ 0 := by
  intro h0
  rw [h0] at hb
  have : blen 0 ≤ 0 := (blen_le 0 0).2 (by decide)
  omega
 have hF := Nat.div_add_mod (x * 2 ^ moreBits p x y) y
 have hrB := Nat.mod_lt (x * 2 ^ moreBits p x y) (Nat.pos_of_ne_zero hy)
 have hS1 : x * 2 ^ (moreBits p x y + 1) = 2 * (x * 2 ^ moreBits p x y) := by rw [Nat.pow_succ]; ac_rfl
 obtain ⟨rest, hrest⟩ : ∃ rest, rest = !decide (x * 2 ^ kUp p x y % (y * 2 ^ kDn p x y) = 0) := ⟨_, rfl⟩
 rw [← hrest]
 have hr : rest = false ↔ x * 2 ^ kUp p x y / (y * 2 ^ kDn p x y) * 2 ^ D * y = x * 2 ^ (moreBits p x y + 1) := by
  rw [scale_eq hU hT hP, ← hq3, hrest]
  simp
 have g1 := scale_le hU hP hq1
 have g2 := scale_lt hT hP hq2
 unfold stickyQ
 generalize x * 2 ^ kUp p x y / (y * 2 ^ kDn p x y) = q at *
 generalize x * 2 ^ moreBits p x y / y = f at *
 generalize x * 2 ^ moreBits p x y % y = r at *
 have hf : 2 * f * y + 2 * r = x * 2 ^ (moreBits p x y + 1) := by
  rw [hS1, ← hF, Nat.mul_assoc, Nat.mul_comm f y]
  omega
 obtain ⟨s1, s2⟩ := sticky_quot (Nat.pos_of_ne_zero hy) hD1 g1 g2 hr hf hrB
 exact cut_sticky hq0 hb s1 s2
/-- the quotient of the longer reckoning and that of the shorter one have one form -/
theorem quot_same {p x y : Nat} {s up : Bool} {e1 e2 k : Int} {s' : Bool} {m' : Nat} {e' : Int} (hx : x ≠ 0) (hy : y ≠ 0) (hp : 1 ≤ p) (hp2 : p ≤ 2000) (bx : blen x ≤ 4096) (hb : blen y ≤ 4096) (r1 : -1048576 ≤ e1) (r2 : e1 ≤ 1048576) (r3 : -1048576 ≤ e2) (r4 : e2 ≤ 1048576)
  (h : Nm s (cutN p (stickyQ (moreBits p x y) x y) up) (e1 - e2 - ((moreBits p x y : Nat) : Int) - 1 + ((blen (stickyQ (moreBits p x y) x y) - p : Nat) : Int)) k s' m' e') :
  Nm s (cutR p (x * 2 ^ kUp p x y / (y * 2 ^ kDn p x y)) (!decide (x * 2 ^ kUp p x y % (y * 2 ^ kDn p x y) = 0)) up) (e1 - e2 - ((p : Int) + (blen y : Int) - (blen x : Int)) + ((blen (x * 2 ^ kUp p x y / (y * 2 ^ kDn p x y)) - p : Nat) : Int)) k s' m' e' := by
 obtain ⟨D, hD, hcut⟩ := quot_cut (u := up) hx hy hp
 obtain ⟨K, hK⟩ : ∃ K : Nat, 20000000 ≤ K := ⟨_, Nat.le_refl _⟩
 have hsb : moreBits p x y ≤ 7000 := by unfold moreBits; omega
 have hE : e1 - e2 - ((p : Int) + (blen y : Int) - (blen x : Int)) = e1 - e2 - ((moreBits p x y : Nat) : Int) - 1 + (D : Int) := by
  have h2 : (kUp p x y : Int) - (kDn p x y : Int) = (p : Int) + (blen y : Int) - (blen x : Int) := by unfold kUp kDn; omega
  omega
 rw [hE]
 refine nm_congr (K := K) (by omega) (by omega) ?_ h
 rw [vz_up (by omega), vz_up (by omega), vz_up (by omega), hcut]
theorem quot_nought {p y : Nat} {s1 s2 up : Bool} {e1 e2 k : Int} {s' : Bool} {m' : Nat} {e' : Int} (h : QuTold s1 0 e1 s2 y e2 p up k s' m' e') : k = 0 ∧ s' = false ∧ m' = 0 ∧ e' = 0 := by
 unfold QuTold at h
 have e : cutR p (0 * 2 ^ kUp p 0 y / (y * 2 ^ kDn p 0 y)) (!decide (0 * 2 ^ kUp p 0 y % (y * 2 ^ kDn p 0 y) = 0)) (up != (s1 != s2)) = 0 := by
  unfold cutR
  simp
 rw [e] at h
 exact nm_fun h (.inl ⟨rfl, rfl, rfl, rfl, rfl⟩)

end Go.Proofs.YtdhdebapjlcjdaaGreatDoor
namespace Go.Proofs.YtdhdebapjlcjdaaGreatDoor

theorem near_top {p q c t : Nat} (hp : 1 ≤ p) (hq : p ≤ blen q) (h : c < 2 ^ (p + t - 1)) : c < q * 2 ^ t := by
 have hq0 : q ≠ 0 := by
  intro h0
  rw [h0, blen_zero] at hq
  omega
 have h1 := (blen_pos hq0).1
 refine Nat.lt_of_lt_of_le h ?_
 have h2 : 2 ^ (p + t - 1) ≤ 2 ^ (blen q - 1) * 2 ^ t := by
  rw [← Nat.pow_add]
  exact Nat.pow_le_pow_right (by omega) (by omega)
 exact Nat.le_trans h2 (Nat.mul_le_mul_right _ h1)
theorem near_top_down {p q c t : Nat} (hp : 1 ≤ p) (hq : p ≤ blen q) (h : c < 2 ^ (p + t - 1)) : c ≤ cutR p q false false * 2 ^ (blen q - p) * 2 ^ t := by
 have hq0 : q ≠ 0 := by
  intro h0
  rw [h0, blen_zero] at hq
  omega
 have h1 := rd_top hp hq0
 have h2 : 2 ^ (p + t - 1) ≤ 2 ^ (blen q - 1) * 2 ^ t := by
  rw [← Nat.pow_add]
  exact Nat.pow_le_pow_right (by omega) (by omega)
 refine Nat.le_of_lt (Nat.lt_of_lt_of_le h (Nat.le_trans h2 (Nat.mul_le_mul_right _ ?_)))
 refine Nat.le_trans h1 (Nat.mul_le_mul_right _ ?_)
 unfold cutR
 omega
theorem cutR_down {p q : Nat} {rest : Bool} : cutR p q rest false = cutN p q false := by
 unfold cutR cutN
 simp
theorem cutR_up_least {p q b : Nat} {rest : Bool} (hp : 1 ≤ p) (hq : p ≤ blen q) (hb : Fits p b) (h1 : q ≤ b) (h2 : rest = true → q + 1 ≤ b) : cutR p q rest true * 2 ^ (blen q - p) ≤ b := by
 cases rest
 ·have := rd_least hp hb h1
  have e : cutR p q false true = cutN p q true := by unfold cutR cutN; simp
  rw [e]
  exact this
 ·have h2 := h2 rfl
  have e : cutR p q true true = q / 2 ^ (blen q - p) + 1 := by unfold cutR; simp
  rw [e]
  have key : ∀ d, b = d * 2 ^ (blen q - p) → (q / 2 ^ (blen q - p) + 1) * 2 ^ (blen q - p) ≤ b := fun d hd => by
   rw [hd]
   refine Nat.mul_le_mul_right _ ?_
   refine (Nat.div_lt_iff_lt_mul (pow_pos2 _)).2 ?_
   rw [← hd]
   omega
  rcases fits_cases (n := blen q - p) hb with ⟨d, hd⟩ | h3 | h3
  ·exact key d hd
  ·exfalso
   have := near_top (t := blen q - p) hp hq h3
   have h4 : q ≠ 0 := by
    intro h0
    rw [h0, blen_zero] at hq
    omega
   have h5 := (blen_pos h4).1
   have h6 : p + (blen q - p) - 1 = blen q - 1 := by omega
   rw [h6] at h3
   omega
  ·exact key b (by rw [h3, Nat.pow_zero, Nat.mul_one])
/-- the greatest number of p bits that is not above a quotient -/
theorem near_low {p q c t X Y : Nat} {rest : Bool} (hp : 1 ≤ p) (hq : p ≤ blen q) (hY : 0 < Y) (hX : X / Y = q) (hc : Fits p c) (h : c * Y ≤ X * 2 ^ t) : c ≤ cutR p q rest false * 2 ^ (blen q - p) * 2 ^ t := by
 have key : ∀ b, c = b * 2 ^ t → c ≤ cutR p q rest false * 2 ^ (blen q - p) * 2 ^ t := fun b hb => by
  rw [hb] at hc h
  rw [hb, cutR_down]
  refine Nat.mul_le_mul_right _ (rd_greatest hp (unfits hc) ?_)
  rw [← hX]
  refine (Nat.le_div_iff_mul_le hY).2 ?_
  refine Nat.le_of_mul_le_mul_right (c := 2 ^ t) ?_ (pow_pos2 t)
  rw [show b * Y * 2 ^ t = b * 2 ^ t * Y by ac_rfl]
  exact h
 rcases fits_cases (n := t) hc with ⟨b, hb⟩ | h1 | h1
 ·exact key b hb
 ·have := near_top_down (t := t) hp hq h1
  rw [cutR_down] at this ⊢
  exact this
 ·exact key c (by rw [h1, Nat.pow_zero, Nat.mul_one])
/-- the least one that is not below it -/
theorem near_high {p q c t X Y : Nat} {rest : Bool} (hp : 1 ≤ p) (hq : p ≤ blen q) (hY : 0 < Y) (hX : X / Y = q) (hr : rest = true → X % Y ≠ 0) (hc : Fits p c) (h : X * 2 ^ t ≤ c * Y) : cutR p q rest true * 2 ^ (blen q - p) * 2 ^ t ≤ c := by
 have hdm := Nat.div_add_mod X Y
 rw [hX] at hdm
 have key : ∀ b, c = b * 2 ^ t → cutR p q rest true * 2 ^ (blen q - p) * 2 ^ t ≤ c := fun b hb => by
  rw [hb] at hc h
  rw [hb]
  have h2 : X ≤ b * Y := by
   refine Nat.le_of_mul_le_mul_right (c := 2 ^ t) ?_ (pow_pos2 t)
   rw [show b * Y * 2 ^ t = b * 2 ^ t * Y by ac_rfl]
   exact h
  refine Nat.mul_le_mul_right _ (cutR_up_least hp hq (unfits hc) ?_ ?_)
  ·refine Nat.le_of_mul_le_mul_right (c := Y) ?_ hY
   rw [Nat.mul_comm q]
   omega
  ·intro hr1
   have h3 := hr hr1
   refine Nat.lt_of_mul_lt_mul_right (a := Y) ?_
   rw [Nat.mul_comm q]
   omega
 rcases fits_cases (n := t) hc with ⟨b, hb⟩ | h1 | h1
 ·exact key b hb
 ·exfalso
  have h2 := near_top (t := t) hp hq h1
  have h3 : q * 2 ^ t * Y ≤ c * Y := by
   refine Nat.le_trans ?_ h
   rw [show q * 2 ^ t * Y = Y * q * 2 ^ t by ac_rfl]
   exact Nat.mul_le_mul_right _ (by omega)
  have h4 := Nat.le_of_mul_le_mul_right h3 hY
  omega
 ·exact key c (by rw [h1, Nat.pow_zero, Nat.mul_one])
theorem vz_pos_eq {K : Nat} {m : Nat} {e : Int} : vz K false m e = ((m * 2 ^ (e + K).toNat : Nat) : Int) := by
 unfold vz
 rw [show sg false = 1 from rfl, Int.one_mul]
/-- products of values, as naturals at one exponent -/
theorem quot_units {K c y x i j : Nat} {g f e lo : Int} {t : Nat} (hK : 4194304 ≤ K) (hf : -1048576 ≤ f) (he : -1048576 ≤ e) (hlo : -2300000 ≤ lo) (hg : lo ≤ g) (hE : e - f - ((i : Int) - (j : Int)) = lo + t) :
  ∃ B : Nat, c * 2 ^ (g + K).toNat * (y * 2 ^ (f + K).toNat) * 2 ^ j = c * 2 ^ (g - lo).toNat * (y * 2 ^ j) * 2 ^ B ∧ x * 2 ^ (e + K).toNat * 2 ^ K * 2 ^ j = x * 2 ^ i * 2 ^ t * 2 ^ B := by
 refine ⟨(lo + f + 2 * K).toNat, ?_, ?_⟩
 ·have e1 : 2 ^ (g + K).toNat * 2 ^ (f + K).toNat = 2 ^ (g - lo).toNat * 2 ^ (lo + f + 2 * K).toNat := by
   rw [← Nat.pow_add, ← Nat.pow_add]
   exact congrArg (2 ^ ·) (by omega)
  rw [show c * 2 ^ (g + K).toNat * (y * 2 ^ (f + K).toNat) * 2 ^ j = c * y * 2 ^ j * (2 ^ (g + K).toNat * 2 ^ (f + K).toNat) by ac_rfl, e1]
  ac_rfl
 ·have e1 : 2 ^ (e + K).toNat * 2 ^ K * 2 ^ j = 2 ^ i * 2 ^ t * 2 ^ (lo + f + 2 * K).toNat := by
   rw [← Nat.pow_add, ← Nat.pow_add, ← Nat.pow_add, ← Nat.pow_add]
   exact congrArg (2 ^ ·) (by omega)
  rw [show x * 2 ^ (e + K).toNat * 2 ^ K * 2 ^ j = x * (2 ^ (e + K).toNat * 2 ^ K * 2 ^ j) by ac_rfl, e1]
  ac_rfl
/-- of a quotient above 0, and a number not below it -/
theorem quot_near0 {K : Nat} {x : Nat} {e : Int} {y : Nat} {f : Int} {p : Nat} {u : Bool} {s s' : Bool} {m' : Nat} {e' : Int} {c : Nat} {g : Int} (hK : 4194304 ≤ K) (hx : x ≠ 0) (hy : y ≠ 0) (hp1 : 1 ≤ p) (hp : p ≤ 2000) (bx : blen x ≤ 4096) (bY : blen y ≤ 4096) (r1 : -1048576 ≤ e ∧ e ≤ 1048576) (r2 : -1048576 ≤ f ∧ f ≤ 1048576) (r3 : -1048576 ≤ g ∧ g ≤ 1048576) (hc : Fits p c)
  (h : Nm s (cutR p (x * 2 ^ kUp p x y / (y * 2 ^ kDn p x y)) (!decide (x * 2 ^ kUp p x y % (y * 2 ^ kDn p x y) = 0)) u) (e - f - ((p : Int) + (blen y : Int) - (blen x : Int)) + ((blen (x * 2 ^ kUp p x y / (y * 2 ^ kDn p x y)) - p : Nat) : Int)) 0 s' m' e') :
  (u = false → vz K false c g * vz K false y f ≤ vz K false x e * ((2 ^ K : Nat) : Int) → vz K false c g ≤ sg s * vz K s' m' e') ∧ (u = true → vz K false x e * ((2 ^ K : Nat) : Int) ≤ vz K false c g * vz K false y f → sg s * vz K s' m' e' ≤ vz K false c g) := by
 have hk : (p : Int) + (blen y : Int) - (blen x : Int) = ((kUp p x y : Nat) : Int) - ((kDn p x y : Nat) : Int) := by unfold kUp kDn; omega
 have hi : kUp p x y ≤ 10000 := by unfold kUp; omega
 have hj : kDn p x y ≤ 10000 := by unfold kDn; omega
 have hqb := quot_bits (p := p) hx hy hp1
 rw [hk] at h
 generalize kUp p x y = i at *
 generalize kDn p x y = j at *
 have hD : 0 < y * 2 ^ j := Nat.mul_pos (Nat.pos_of_ne_zero hy) (pow_pos2 j)
 obtain ⟨rest, hrest⟩ : ∃ r : Bool, r = !decide (x * 2 ^ i % (y * 2 ^ j) = 0) := ⟨_, rfl⟩
 rw [← hrest] at h
 have hr : rest = true → x * 2 ^ i % (y * 2 ^ j) ≠ 0 := fun h1 h2 => by
  rw [h2] at hrest
  simp at hrest
  rw [hrest] at h1
  cases h1
 obtain ⟨q, hq⟩ : ∃ q, x * 2 ^ i / (y * 2 ^ j) = q := ⟨_, rfl⟩
 rw [hq] at h hqb
 obtain ⟨lo, hlo⟩ : ∃ lo : Int, lo = min g (e - f - ((i : Int) - (j : Int))) := ⟨_, rfl⟩
 obtain ⟨t, ht⟩ : ∃ t : Nat, e - f - ((i : Int) - (j : Int)) = lo + t := ⟨(e - f - ((i : Int) - (j : Int)) - lo).toNat, by omega⟩
 obtain ⟨B, u1, u2⟩ := quot_units (K := K) (c := c) (y := y) (x := x) (i := i) (j := j) (g := g) (f := f) (e := e) (lo := lo) (t := t) hK r2.1 r1.1 (by omega) (by omega) ht
 have hv : sg s * vz K s' m' e' = ((cutR p q rest u * 2 ^ (blen q - p) * 2 ^ t * 2 ^ (lo + K).toNat : Nat) : Int) := by
  have h1 := nm_value (K := K) (by omega) h
  rw [h1, ht]
  unfold vz
  rw [← Int.mul_assoc, show sg s * sg s = 1 by cases s <;> rfl, Int.one_mul]
  rw [show (lo + (t : Int) + ((blen q - p : Nat) : Int) + (K : Int)).toNat = (blen q - p) + t + (lo + K).toNat by omega, Nat.pow_add, Nat.pow_add]
  congr 1
  ac_rfl
 have hcv : c * 2 ^ (g + K).toNat = c * 2 ^ (g - lo).toNat * 2 ^ (lo + K).toNat := by
  rw [Nat.mul_assoc, ← Nat.pow_add]
  exact congrArg (c * 2 ^ ·) (by omega)
 have hc1 : Fits p (c * 2 ^ (g - lo).toNat) := fits_shift hc
 constructor
 ·intro hu hle
  subst hu
  rw [hv, vz_pos_eq, hcv]
  rw [vz_pos_eq, vz_pos_eq, vz_pos_eq, ← Int.natCast_mul, ← Int.natCast_mul] at hle
  have h2 := Nat.mul_le_mul_right (2 ^ j) (Int.ofNat_le.1 hle)
  rw [u1, u2] at h2
  have h3 := near_low (rest := rest) hp1 hqb hD hq hc1 (Nat.le_of_mul_le_mul_right h2 (pow_pos2 B))
  exact Int.ofNat_le.2 (Nat.mul_le_mul_right _ h3)
 ·intro hu hle
  subst hu
  rw [hv, vz_pos_eq, hcv]
  rw [vz_pos_eq, vz_pos_eq, vz_pos_eq, ← Int.natCast_mul, ← Int.natCast_mul] at hle
  have h2 := Nat.mul_le_mul_right (2 ^ j) (Int.ofNat_le.1 hle)
  rw [u1, u2] at h2
  have h3 := near_high hp1 hqb hD hq hr hc1 (Nat.le_of_mul_le_mul_right h2 (pow_pos2 B))
  exact Int.ofNat_le.2 (Nat.mul_le_mul_right _ h3)
/-- a quotient is the nearest number of so few bits on its side -/
theorem quot_near {K : Nat} {s : Bool} {x : Nat} {e : Int} {y : Nat} {f : Int} {p : Nat} {up : Bool} {s' : Bool} {m' : Nat} {e' : Int} {t : Bool} {c : Nat} {g : Int} (hK : 4194304 ≤ K) (hy : y ≠ 0) (hp1 : 1 ≤ p) (hp : p ≤ 2000) (bx : blen x ≤ 4096) (bY : blen y ≤ 4096) (r1 : -1048576 ≤ e ∧ e ≤ 1048576) (r2 : -1048576 ≤ f ∧ f ≤ 1048576) (r3 : -1048576 ≤ g ∧ g ≤ 1048576) (hc : Fits p c)
  (h : QuTold s x e false y f p up 0 s' m' e') :
  (up = false → vz K t c g * vz K false y f ≤ vz K s x e * ((2 ^ K : Nat) : Int) → vz K t c g ≤ vz K s' m' e') ∧ (up = true → vz K s x e * ((2 ^ K : Nat) : Int) ≤ vz K t c g * vz K false y f → vz K s' m' e' ≤ vz K t c g) := by
 have hyp : 0 < vz K false y f := by
  rw [vz_pos_eq]
  exact Int.natCast_pos.2 (Nat.mul_pos (Nat.pos_of_ne_zero hy) (pow_pos2 _))
 have hP : (0 : Int) < ((2 ^ K : Nat) : Int) := pos_of_pow
 rcases Nat.eq_zero_or_pos x with hx | hx
 ·subst hx
  obtain ⟨-, rfl, rfl, rfl⟩ := quot_nought h
  rw [vz_zero, vz_zero, Int.zero_mul]
  refine ⟨fun _ h1 => ?_, fun _ h1 => ?_⟩
  ·refine Int.le_of_mul_le_mul_right (a := vz K false y f) ?_ hyp
   rw [Int.zero_mul]; exact h1
  ·refine Int.le_of_mul_le_mul_right (a := vz K false y f) ?_ hyp
   rw [Int.zero_mul]; exact h1
 ·have hx := Nat.pos_iff_ne_zero.1 hx
  unfold QuTold at h
  rw [show (s != false) = s by cases s <;> rfl] at h
  obtain ⟨n1, n2⟩ := quot_near0 hK hx hy hp1 hp bx bY r1 r2 r3 hc h
  -- the sign of what is told
  have hs0 : 0 ≤ sg s * vz K s' m' e' := by
   have h1 := nm_value (K := K) (by omega) h
   rw [h1]
   unfold vz
   rw [← Int.mul_assoc, show sg s * sg s = 1 by cases s <;> rfl, Int.one_mul]
   exact Int.natCast_nonneg _
  have hxv : 0 ≤ vz K false x e := vz_sgn.1
  have hcv : 0 ≤ vz K false c g := vz_sgn.1
  have hc2 : vz K true c g = - vz K false c g := vz_not K false c g
  have hx2 : vz K true x e = - vz K false x e := vz_not K false x e
  have hxp : 0 < vz K false x e := by
   rw [vz_pos_eq]
   exact Int.natCast_pos.2 (Nat.mul_pos (Nat.pos_of_ne_zero hx) (pow_pos2 _))
  have hxP := Int.mul_pos hxp hP
  have hcy := Int.mul_nonneg hcv (Int.le_of_lt hyp)
  cases s <;> cases t
  ·rw [show sg false = 1 from rfl, Int.one_mul] at n1 n2
   exact ⟨fun hu => n1 (by rw [hu]; rfl), fun hu => n2 (by rw [hu]; rfl)⟩
  ·rw [show sg false = 1 from rfl, Int.one_mul] at n1 n2 hs0
   rw [hc2, Int.neg_mul]
   exact ⟨fun _ _ => by omega, fun _ h1 => by omega⟩
  ·rw [show sg true = -1 from rfl, Int.neg_mul, Int.one_mul] at n1 n2 hs0
   rw [hx2, Int.neg_mul]
   exact ⟨fun _ h1 => by omega, fun _ _ => by omega⟩
  ·rw [show sg true = -1 from rfl, Int.neg_mul, Int.one_mul] at n1 n2 hs0
   rw [hx2, hc2, Int.neg_mul, Int.neg_mul]
   refine ⟨fun hu h1 => ?_, fun hu h1 => ?_⟩
   ·have := n2 (by rw [hu]; rfl) (by omega)
    omega
   ·have := n1 (by rw [hu]; rfl) (by omega)
    omega
end Go.Proofs.YtdhdebapjlcjdaaGreatDoor
