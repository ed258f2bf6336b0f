/-
 Plain facts on quotients and roots that are reckoned to some bits more, their last bit set if anything is left: cut to p bits they are what the shorter ones with their rests are. No condition; nothing of the program is named here.
-/
import Derived.Test.YtcbkhmejlaaieaaGreatDoorQRt
import Derived.Test.YtcbkhmejlaaieaaGreatDoorQRm
namespace Go.Proofs.YtcbkhmejlaaieaaGreatDoor

end Go.Proofs.YtcbkhmejlaaieaaGreatDoor

namespace Go.Proofs.YtcbkhmejlaaieaaGreatDoor

/-- Q is q with D bits more behind it; rest: q times 2^D is not Q itself -/
theorem cut_sticky {p q Q D : Nat} {rest u : Bool} (hq : q ≠ 0) (hb : p ≤ blen q) (h0 : rest = false → Q = q * 2 ^ D) (h1 : rest = true → q * 2 ^ D < Q ∧ Q < (q + 1) * 2 ^ D) :
  cutN p Q u * 2 ^ (blen Q - p) = cutR p q rest u * 2 ^ (blen q - p) * 2 ^ D := by
 cases rest
 ·have h2 := h0 rfl
  rw [cutR_false, h2]
  have hbl := blen_shift (k := D) hq
  have e1 : blen (q * 2 ^ D) - p = (blen q - p) + D := by omega
  unfold cutN
  rw [e1, Nat.pow_add, Nat.mul_div_mul_right _ _ (pow_pos2 D), Nat.mul_mod_mul_right]
  have e2 : (q % 2 ^ (blen q - p) * 2 ^ D ≠ 0) = (q % 2 ^ (blen q - p) ≠ 0) := by
   apply propext
   have := pow_pos2 D
   constructor
   ·intro h h3; apply h; rw [h3, Nat.zero_mul]
   ·intro h h3
    rcases Nat.mul_eq_zero.1 h3 with h4 | h4
    ·exact h h4
    ·omega
  simp only [e2]
  rw [Nat.mul_assoc]
 ·obtain ⟨h2, h3⟩ := h1 rfl
  have hQ : Q / 2 ^ D = q := by
   apply Nat.le_antisymm
   ·exact Nat.lt_succ_iff.1 ((Nat.div_lt_iff_lt_mul (pow_pos2 D)).2 h3)
   ·exact (Nat.le_div_iff_mul_le (pow_pos2 D)).2 (Nat.le_of_lt h2)
  have hbl : blen Q = blen q + D := by
   obtain ⟨b1, b2, b3⟩ := blen_pos hq
   apply Nat.le_antisymm
   ·rw [blen_le, Nat.pow_add]
    have h4 := Nat.mul_le_mul_right (2 ^ D) (show q + 1 ≤ 2 ^ blen q by omega)
    omega
   ·have h4 := (blen_le Q (blen q + D - 1))
    rcases Nat.lt_or_ge (blen Q) (blen q + D) with h5 | h5
    ·exfalso
     have h6 := h4.1 (by omega)
     have h7 := Nat.mul_le_mul_right (2 ^ D) b1
     rw [← Nat.pow_add] at h7
     have e3 : blen q - 1 + D = blen q + D - 1 := by omega
     rw [e3] at h7
     omega
    ·exact h5
  have e1 : blen Q - p = D + (blen q - p) := by omega
  have hdiv : Q / 2 ^ (blen Q - p) = q / 2 ^ (blen q - p) := by rw [e1, Nat.pow_add, ← Nat.div_div_eq_div_mul, hQ]
  have hmod : Q % 2 ^ (blen Q - p) ≠ 0 := by
   intro h4
   obtain ⟨t, ht⟩ := Nat.dvd_of_mod_eq_zero h4
   rw [e1, Nat.pow_add, Nat.mul_assoc] at ht
   have h5 : Q / 2 ^ D = 2 ^ (blen q - p) * t := by rw [ht, Nat.mul_div_cancel_left _ (pow_pos2 D)]
   rw [hQ] at h5
   rw [← h5, Nat.mul_comm] at ht
   omega
  unfold cutN cutR
  rw [hdiv, e1, Nat.pow_add, Nat.mul_comm (2 ^ D), ← Nat.mul_assoc]
  rw [e1, Nat.pow_add, Nat.mul_comm (2 ^ D)] at hmod
  congr 2
  cases u <;> simp [hmod]
/-- the reference's quotient, doubled, its last bit set if anything is left -/
theorem sticky_quot {A B q f r D : Nat} {rest : Bool} (hB : 0 < B) (hD : 1 ≤ D) (hq1 : q * 2 ^ D * B ≤ A) (hq2 : A < (q + 1) * 2 ^ D * B) (hr : rest = false ↔ q * 2 ^ D * B = A) (hf : 2 * f * B + 2 * r = A) (hrB : r < B) :
  (rest = false → (2 * f + if r = 0 then 0 else 1) = q * 2 ^ D) ∧ (rest = true → q * 2 ^ D < (2 * f + if r = 0 then 0 else 1) ∧ (2 * f + if r = 0 then 0 else 1) < (q + 1) * 2 ^ D) := by
 obtain ⟨d, rfl⟩ : ∃ d, D = d + 1 := ⟨D - 1, by omega⟩
 have e1 : q * 2 ^ (d + 1) = 2 * (q * 2 ^ d) := by rw [Nat.pow_succ]; ac_rfl
 have e2 : (q + 1) * 2 ^ (d + 1) = 2 * ((q + 1) * 2 ^ d) := by rw [Nat.pow_succ]; ac_rfl
 rw [e1] at hq1 hr ⊢
 rw [e2] at hq2 ⊢
 generalize q * 2 ^ d = a at *
 generalize (q + 1) * 2 ^ d = b at *
 have m1 : 2 * a * B = 2 * (a * B) := Nat.mul_assoc ..
 have m2 : 2 * b * B = 2 * (b * B) := Nat.mul_assoc ..
 have m3 : 2 * f * B = 2 * (f * B) := Nat.mul_assoc ..
 rw [m1] at hq1 hr
 rw [m2] at hq2
 rw [m3] at hf
 have hfb : f < b := by
  rcases Nat.lt_or_ge f b with h | h
  ·exact h
  ·have := Nat.mul_le_mul_right B h; omega
 have haf : a ≤ f := by
  rcases Nat.lt_or_ge f a with h | h
  ·have h2 := Nat.mul_le_mul_right B (show f + 1 ≤ a by omega)
   rw [Nat.add_mul, Nat.one_mul] at h2
   omega
  ·exact h
 constructor
 ·intro h
  have h2 := hr.1 h
  have h3 : f = a := by
   rcases Nat.lt_or_ge a f with h4 | h4
   ·have h5 := Nat.mul_le_mul_right B (show a + 1 ≤ f by omega)
    rw [Nat.add_mul, Nat.one_mul] at h5
    omega
   ·omega
  subst h3
  have h4 : r = 0 := by omega
  rw [if_pos h4]; omega
 ·intro h
  have h2 : ¬ 2 * (a * B) = A := fun h3 => by rw [hr.2 h3] at h; cases h
  by_cases hr0 : r = 0
  ·rw [if_pos hr0]
   have h3 : f ≠ a := by intro h4; rw [h4] at hf; omega
   omega
  ·rw [if_neg hr0]; omega
end Go.Proofs.YtcbkhmejlaaieaaGreatDoor

namespace Go.Proofs.YtcbkhmejlaaieaaGreatDoor

def moreBits (p x y : Nat) : Nat := p + 3 + blen y - blen x
/-- the quotient, doubled, its last bit set if anything is left -/
def stickyQ (s x y : Nat) : Nat := 2 * (x * 2 ^ s / y) + if x * 2 ^ s % y = 0 then 0 else 1
/-- the same of a root -/
def stickyR (s x r : Nat) : Nat := 2 * r + if r * r = x * 2 ^ s then 0 else 1

theorem scale_eqs {a y Dn x U P T : Nat} (h : P * U = T * Dn) : a * P * y * U = a * (y * Dn) * T ∧ x * T * U = x * U * T := by
 constructor
 ·have e1 : a * P * y * U = a * y * (P * U) := by ac_rfl
  have e2 : a * (y * Dn) * T = a * y * (T * Dn) := by ac_rfl
  rw [e1, e2, h]
 ·ac_rfl
theorem scale_le {a y Dn x U P T : Nat} (hU : 0 < U) (h : P * U = T * Dn) (hle : a * (y * Dn) ≤ x * U) : a * P * y ≤ x * T := by
 obtain ⟨e1, e2⟩ := scale_eqs (a := a) (y := y) (x := x) h
 refine Nat.le_of_mul_le_mul_right (c := U) ?_ hU
 rw [e1, e2]
 exact Nat.mul_le_mul_right _ hle
theorem scale_lt {a y Dn x U P T : Nat} (hT : 0 < T) (h : P * U = T * Dn) (hle : x * U < a * (y * Dn)) : x * T < a * P * y := by
 obtain ⟨e1, e2⟩ := scale_eqs (a := a) (y := y) (x := x) h
 refine Nat.lt_of_mul_lt_mul_right (a := U) ?_
 rw [e1, e2]
 exact Nat.mul_lt_mul_of_pos_right hle hT
theorem scale_eq {a y Dn x U P T : Nat} (hU : 0 < U) (hT : 0 < T) (h : P * U = T * Dn) : a * P * y = x * T ↔ a * (y * Dn) = x * U := by
 obtain ⟨e1, e2⟩ := scale_eqs (a := a) (y := y) (x := x) h
 constructor
 ·intro h3
  refine Nat.eq_of_mul_eq_mul_right hT ?_
  rw [← e1, ← e2, h3]
 ·intro h3
  refine Nat.eq_of_mul_eq_mul_right hU ?_
  rw [e1, e2, h3]

theorem quot_bits {p x y : Nat} (hx : x ≠ 0) (hy : y ≠ 0) (hp : 1 ≤ p) : p ≤ blen (x * 2 ^ kUp p x y / (y * 2 ^ kDn p x y)) := by
 have hX0 : x * 2 ^ kUp p x y ≠ 0 := Nat.mul_ne_zero hx (Nat.pos_iff_ne_zero.1 (pow_pos2 _))
 have hY0 : y * 2 ^ kDn p x y ≠ 0 := Nat.mul_ne_zero hy (Nat.pos_iff_ne_zero.1 (pow_pos2 _))
 have hbX := blen_shift (k := kUp p x y) hx
 have hbY := blen_shift (k := kDn p x y) hy
 have hsum : blen (x * 2 ^ kUp p x y) = p + blen (y * 2 ^ kDn p x y) := by
  have h1 := (blen_pos hx).2.2
  rw [hbX, hbY]; unfold kUp kDn; omega
 clear hbX hbY
 generalize x * 2 ^ kUp p x y = X at *
 generalize y * 2 ^ kDn p x y = Y at *
 obtain ⟨hX1, _, hX3⟩ := blen_pos hX0
 have hY2 := (blen_le Y _).1 (Nat.le_refl _)
 rcases Nat.lt_or_ge (blen (X / Y)) p with h | h
 ·exfalso
  have h1 : X / Y < 2 ^ (p - 1) := (blen_le _ (p - 1)).1 (by omega)
  have h2 : X < 2 ^ (p - 1) * Y := (Nat.div_lt_iff_lt_mul (Nat.pos_of_ne_zero hY0)).1 h1
  have h3 : 2 ^ (blen X - 1) = 2 ^ (p - 1) * 2 ^ blen Y := by
   rw [← Nat.pow_add]
   exact congrArg (2 ^ ·) (show blen X - 1 = p - 1 + blen Y by omega)
  have h4 : 2 ^ (p - 1) * Y ≤ 2 ^ (p - 1) * 2 ^ blen Y := Nat.mul_le_mul_left _ (Nat.le_of_lt hY2)
  omega
 ·exact h
theorem quot_cut {p x y : Nat} {u : Bool} (hx : x ≠ 0) (hy : y ≠ 0) (hp : 1 ≤ p) : ∃ D, D + kUp p x y = moreBits p x y + 1 + kDn p x y ∧
  cutN p (stickyQ (moreBits p x y) x y) u * 2 ^ (blen (stickyQ (moreBits p x y) x y) - p) = cutR p (x * 2 ^ kUp p x y / (y * 2 ^ kDn p x y)) (!decide (x * 2 ^ kUp p x y % (y * 2 ^ kDn p x y) = 0)) u * 2 ^ (blen (x * 2 ^ kUp p x y / (y * 2 ^ kDn p x y)) - p) * 2 ^ D := by
 obtain ⟨D, hD⟩ : ∃ D, D + kUp p x y = moreBits p x y + 1 + kDn p x y := ⟨moreBits p x y + 1 + kDn p x y - kUp p x y, by unfold moreBits kUp kDn; omega⟩
 have hD1 : 1 ≤ D := by unfold moreBits kUp kDn at hD; omega
 refine ⟨D, hD, ?_⟩
 have hb := quot_bits (p := p) hx hy hp
 have hP : 2 ^ D * 2 ^ kUp p x y = 2 ^ (moreBits p x y + 1) * 2 ^ kDn p x y := by rw [← Nat.pow_add, ← Nat.pow_add, hD]
 have hY0 : 0 < y * 2 ^ kDn p x y := Nat.mul_pos (Nat.pos_of_ne_zero hy) (pow_pos2 _)
 have hU := pow_pos2 (kUp p x y)
 have hT := pow_pos2 (moreBits p x y + 1)
 have hq1 := Nat.div_mul_le_self (x * 2 ^ kUp p x y) (y * 2 ^ kDn p x y)
 have hq2 := (Nat.div_lt_iff_lt_mul hY0).1 (Nat.lt_succ_self (x * 2 ^ kUp p x y / (y * 2 ^ kDn p x y)))
 have hq3 : x * 2 ^ kUp p x y % (y * 2 ^ kDn p x y) = 0 ↔ x * 2 ^ kUp p x y / (y * 2 ^ kDn p x y) * (y * 2 ^ kDn p x y) = x * 2 ^ kUp p x y := by
  have := Nat.div_add_mod (x * 2 ^ kUp p x y) (y * 2 ^ kDn p x y)
  rw [Nat.mul_comm] at this
  omega
 have hq0 : x * 2 ^ kUp p x y / (y * 2 ^ kDn p x y) ≠ 0 := by
  intro h0
  rw [h0] at hb
  have : blen 0 ≤ 0 := (blen_le 0 0).2 (by decide)
  omega
 have hF := Nat.div_add_mod (x * 2 ^ moreBits p x y) y
 have hrB := Nat.mod_lt (x * 2 ^ moreBits p x y) (Nat.pos_of_ne_zero hy)
 have hS1 : x * 2 ^ (moreBits p x y + 1) = 2 * (x * 2 ^ moreBits p x y) := by rw [Nat.pow_succ]; ac_rfl
 obtain ⟨rest, hrest⟩ : ∃ rest, rest = !decide (x * 2 ^ kUp p x y % (y * 2 ^ kDn p x y) = 0) := ⟨_, rfl⟩
 rw [← hrest]
 have hr : rest = false ↔ x * 2 ^ kUp p x y / (y * 2 ^ kDn p x y) * 2 ^ D * y = x * 2 ^ (moreBits p x y + 1) := by
  rw [scale_eq hU hT hP, ← hq3, hrest]
  simp
 have g1 := scale_le hU hP hq1
 have g2 := scale_lt hT hP hq2
 unfold stickyQ
 generalize x * 2 ^ kUp p x y / (y * 2 ^ kDn p x y) = q at *
 generalize x * 2 ^ moreBits p x y / y = f at *
 generalize x * 2 ^ moreBits p x y % y = r at *
 have hf : 2 * f * y + 2 * r = x * 2 ^ (moreBits p x y + 1) := by
  rw [hS1, ← hF, Nat.mul_assoc, Nat.mul_comm f y]
  omega
 obtain ⟨s1, s2⟩ := sticky_quot (Nat.pos_of_ne_zero hy) hD1 g1 g2 hr hf hrB
 exact cut_sticky hq0 hb s1 s2
/-- the quotient of the longer reckoning and that of the shorter one have one form -/
theorem quot_same {p x y : Nat} {s up : Bool} {e1 e2 k : Int} {s' : Bool} {m' : Nat} {e' : Int} (hx : x ≠ 0) (hy : y ≠ 0) (hp : 1 ≤ p) (hp2 : p ≤ 2000) (bx : blen x ≤ 4096) (hb : blen y ≤ 4096) (r1 : -1048576 ≤ e1) (r2 : e1 ≤ 1048576) (r3 : -1048576 ≤ e2) (r4 : e2 ≤ 1048576)
  (h : Nm s (cutN p (stickyQ (moreBits p x y) x y) up) (e1 - e2 - ((moreBits p x y : Nat) : Int) - 1 + ((blen (stickyQ (moreBits p x y) x y) - p : Nat) : Int)) k s' m' e') :
  Nm s (cutR p (x * 2 ^ kUp p x y / (y * 2 ^ kDn p x y)) (!decide (x * 2 ^ kUp p x y % (y * 2 ^ kDn p x y) = 0)) up) (e1 - e2 - ((p : Int) + (blen y : Int) - (blen x : Int)) + ((blen (x * 2 ^ kUp p x y / (y * 2 ^ kDn p x y)) - p : Nat) : Int)) k s' m' e' := by
 obtain ⟨D, hD, hcut⟩ := quot_cut (u := up) hx hy hp
 obtain ⟨K, hK⟩ : ∃ K : Nat, 20000000 ≤ K := ⟨_, Nat.le_refl _⟩
 have hsb : moreBits p x y ≤ 7000 := by unfold moreBits; omega
 have hE : e1 - e2 - ((p : Int) + (blen y : Int) - (blen x : Int)) = e1 - e2 - ((moreBits p x y : Nat) : Int) - 1 + (D : Int) := by
  have h2 : (kUp p x y : Int) - (kDn p x y : Int) = (p : Int) + (blen y : Int) - (blen x : Int) := by unfold kUp kDn; omega
  omega
 rw [hE]
 refine nm_congr (K := K) (by omega) (by omega) ?_ h
 rw [vz_up (by omega), vz_up (by omega), vz_up (by omega), hcut]
theorem sq_le {a b : Nat} (h : a ≤ b) : a * a ≤ b * b := Nat.mul_le_mul h h
theorem sq_lt_of {a b : Nat} (h : a * a < b * b) : a < b := by
 rcases Nat.lt_or_ge a b with h1 | h1
 ·exact h1
 ·have := sq_le h1; omega
theorem sq_le_of {a b : Nat} (h : a * a ≤ b * b) : a ≤ b := by
 rcases Nat.lt_or_ge b a with h1 | h1
 ·have h2 := sq_le (show b + 1 ≤ a by omega)
  have e : (b + 1) * (b + 1) = b * b + b + b + 1 := by rw [Nat.add_mul, Nat.mul_add, Nat.mul_one, Nat.one_mul]; omega
  omega
 ·exact h1
theorem root_bits {p x i j r : Nat} (hx : x ≠ 0) (hp : 1 ≤ p) (hb : 2 * p + j ≤ blen x + i + 1) (hr : x * 2 ^ i / 2 ^ j < (r + 1) * (r + 1)) : p ≤ blen r := by
 obtain ⟨h1, _, h3⟩ := blen_pos hx
 have h4 : 2 ^ (p - 1) * 2 ^ (p - 1) * 2 ^ j ≤ x * 2 ^ i := by
  have h5 := Nat.mul_le_mul_right (2 ^ i) h1
  rw [← Nat.pow_add] at h5 ⊢
  rw [← Nat.pow_add]
  exact Nat.le_trans (Nat.pow_le_pow_right (by omega) (by omega)) h5
 have h5 := (Nat.le_div_iff_mul_le (pow_pos2 j)).2 h4
 have h6 := sq_lt_of (Nat.lt_of_le_of_lt h5 hr)
 rcases Nat.lt_or_ge (blen r) p with h7 | h7
 ·have h8 : r < 2 ^ (p - 1) := (blen_le r (p - 1)).1 (by omega)
  omega
 ·exact h7
theorem root_cut {p x i j r R S d : Nat} {u : Bool} (hx : x ≠ 0) (hp : 1 ≤ p) (hb : 2 * p + j ≤ blen x + i + 1) (h1 : r * r ≤ x * 2 ^ i / 2 ^ j) (h2 : x * 2 ^ i / 2 ^ j < (r + 1) * (r + 1)) (hd : d + d + i = S + j) (hR1 : R * R ≤ x * 2 ^ S) (hR2 : x * 2 ^ S < (R + 1) * (R + 1)) :
  cutN p (stickyR S x R) u * 2 ^ (blen (stickyR S x R) - p) = cutR p r (!decide (r * r * 2 ^ j = x * 2 ^ i)) u * 2 ^ (blen r - p) * 2 ^ (d + 1) := by
 have hbr := root_bits hx hp hb h2
 have hr0 : r ≠ 0 := by
  intro h0
  rw [h0] at hbr
  have : blen 0 ≤ 0 := (blen_le 0 0).2 (by decide)
  omega
 have g1 := (Nat.le_div_iff_mul_le (pow_pos2 j)).1 h1
 have g2 := (Nat.div_lt_iff_lt_mul (pow_pos2 j)).1 h2
 have hP : 2 ^ d * 2 ^ d * 2 ^ i = 2 ^ S * 2 ^ j := by rw [← Nat.pow_add, ← Nat.pow_add, ← Nat.pow_add, hd]
 have hI := pow_pos2 i
 have hM := pow_pos2 S
 have hD : 2 ^ (d + 1) = 2 * 2 ^ d := by rw [Nat.pow_succ, Nat.mul_comm]
 generalize 2 ^ i = I at *
 generalize 2 ^ j = J at *
 unfold stickyR
 generalize 2 ^ S = M at *
 have hd0 := pow_pos2 d
 generalize hdd : 2 ^ d = c at *
 have sqe : ∀ a : Nat, a * c * (a * c) = a * a * (c * c) * 1 := fun a => by rw [Nat.mul_one]; ac_rfl
 have k1 : r * c * (r * c) ≤ x * M := by
  rw [sqe]
  exact scale_le (y := 1) (Dn := J) hI hP (by rw [Nat.one_mul]; exact g1)
 have k2 : x * M < (r + 1) * c * ((r + 1) * c) := by
  rw [sqe]
  exact scale_lt (y := 1) (Dn := J) hM hP (by rw [Nat.one_mul]; exact g2)
 have k3 : r * c * (r * c) = x * M ↔ r * r * J = x * I := by
  rw [sqe, scale_eq (y := 1) (Dn := J) hI hM hP, Nat.one_mul]
 have l1 : r * c ≤ R := by
  have := sq_lt_of (Nat.lt_of_le_of_lt k1 hR2)
  omega
 have l2 : R < (r + 1) * c := sq_lt_of (Nat.lt_of_le_of_lt hR1 k2)
 refine cut_sticky hr0 hbr (fun h => ?_) (fun h => ?_)
 ·have h3 : r * c * (r * c) = x * M := k3.2 (by simpa using h)
  have h4 : R = r * c := by
   have := sq_le_of (show R * R ≤ r * c * (r * c) by omega)
   omega
  rw [if_pos (by rw [h4]; exact h3), hD, h4]
  have e : r * (2 * c) = 2 * (r * c) := by ac_rfl
  omega
 ·have h3 : ¬ r * c * (r * c) = x * M := fun h4 => by
   have := k3.1 h4
   rw [decide_eq_true this] at h
   cases h
  have e1 : r * (2 * c) = 2 * (r * c) := by ac_rfl
  have e2 : (r + 1) * (2 * c) = 2 * ((r + 1) * c) := by ac_rfl
  rw [hD, e1, e2]
  by_cases hR : R = r * c
  ·rw [if_neg (by rw [hR]; exact h3)]
   omega
  ·split <;> omega
/-- the root of the longer reckoning and that of the shorter one have one form -/
theorem root_same {p x R S : Nat} {up : Bool} {e g k : Int} {s' : Bool} {m' : Nat} {e' k2 : Int} {s2 : Bool} {m2 : Nat} {e2 : Int} (hx : x ≠ 0) (hp : 1 ≤ p) (r1 : -1048576 ≤ e) (r2 : e ≤ 1048576)
  (hS1 : 2 * p + 6 ≤ blen x + S) (hS2 : S ≤ 8000) (hg : e - (S : Int) = 2 * g) (hR1 : R * R ≤ x * 2 ^ S) (hR2 : x * 2 ^ S < (R + 1) * (R + 1))
  (h' : RoTold x e p up k2 s2 m2 e2) (h : Nm false (cutN p (stickyR S x R) (up != false)) (g - 1 + ((blen (stickyR S x R) - p : Nat) : Int)) k s' m' e') : k2 = k ∧ s2 = s' ∧ m2 = m' ∧ e2 = e' := by
 obtain ⟨i, j, r, f, ⟨hij, hf, hb1, hb2, hr1, hr2⟩, hN⟩ := h'
 obtain ⟨d, hd⟩ := Int.eq_ofNat_of_zero_le (show 0 ≤ f - g by omega)
 have hcut := root_cut (u := up != false) (d := d) hx hp hb2 hr1 hr2 (by omega) hR1 hR2
 obtain ⟨K, hK⟩ : ∃ K : Nat, 20000000 ≤ K := ⟨_, Nat.le_refl _⟩
 have hE : f = g - 1 + ((d + 1 : Nat) : Int) := by omega
 refine nm_fun hN (nm_congr (K := K) (by omega) (by omega) ?_ h)
 rw [vz_up (by omega), vz_up (by omega)]
 rw [hE, vz_up (by omega), hcut]
end Go.Proofs.YtcbkhmejlaaieaaGreatDoor
