/-
 Plain facts: a rounded quotient is the nearest number of so few bits on its side. No condition; nothing of the program is named here.
-/
import Derived.Test.YtdhdebapjlcjdaaGreatDoorQVi
namespace Go.Proofs.YtdhdebapjlcjdaaGreatDoor

theorem near_top {p q c t : Nat} (hp : 1 ≤ p) (hq : p ≤ blen q) (h : c < 2 ^ (p + t - 1)) : c < q * 2 ^ t := by
 have hq0 : q ≠ 0 := by
  intro h0
  rw [h0, blen_zero] at hq
  omega
 have h1 := (blen_pos hq0).1
 refine Nat.lt_of_lt_of_le h ?_
 have h2 : 2 ^ (p + t - 1) ≤ 2 ^ (blen q - 1) * 2 ^ t := by
  rw [← Nat.pow_add]
  exact Nat.pow_le_pow_right (by omega) (by omega)
 exact Nat.le_trans h2 (Nat.mul_le_mul_right _ h1)
theorem near_top_down {p q c t : Nat} (hp : 1 ≤ p) (hq : p ≤ blen q) (h : c < 2 ^ (p + t - 1)) : c ≤ cutR p q false false * 2 ^ (blen q - p) * 2 ^ t := by
 have hq0 : q ≠ 0 := by
  intro h0
  rw [h0, blen_zero] at hq
  omega
 have h1 := rd_top hp hq0
 have h2 : 2 ^ (p + t - 1) ≤ 2 ^ (blen q - 1) * 2 ^ t := by
  rw [← Nat.pow_add]
  exact Nat.pow_le_pow_right (by omega) (by omega)
 refine Nat.le_of_lt (Nat.lt_of_lt_of_le h (Nat.le_trans h2 (Nat.mul_le_mul_right _ ?_)))
 refine Nat.le_trans h1 (Nat.mul_le_mul_right _ ?_)
 unfold cutR
 omega
theorem cutR_down {p q : Nat} {rest : Bool} : cutR p q rest false = cutN p q false := by
 unfold cutR cutN
 simp
theorem cutR_up_least {p q b : Nat} {rest : Bool} (hp : 1 ≤ p) (hq : p ≤ blen q) (hb : Fits p b) (h1 : q ≤ b) (h2 : rest = true → q + 1 ≤ b) : cutR p q rest true * 2 ^ (blen q - p) ≤ b := by
 cases rest
 ·have := rd_least hp hb h1
  have e : cutR p q false true = cutN p q true := by unfold cutR cutN; simp
  rw [e]
  exact this
 ·have h2 := h2 rfl
  have e : cutR p q true true = q / 2 ^ (blen q - p) + 1 := by unfold cutR; simp
  rw [e]
  have key : ∀ d, b = d * 2 ^ (blen q - p) → (q / 2 ^ (blen q - p) + 1) * 2 ^ (blen q - p) ≤ b := fun d hd => by
   rw [hd]
   refine Nat.mul_le_mul_right _ ?_
   refine (Nat.div_lt_iff_lt_mul (pow_pos2 _)).2 ?_
   rw [← hd]
   omega
  rcases fits_cases (n := blen q - p) hb with ⟨d, hd⟩ | h3 | h3
  ·exact key d hd
  ·exfalso
   have := near_top (t := blen q - p) hp hq h3
   have h4 : q ≠ 0 := by
    intro h0
    rw [h0, blen_zero] at hq
    omega
   have h5 := (blen_pos h4).1
   have h6 : p + (blen q - p) - 1 = blen q - 1 := by omega
   rw [h6] at h3
   omega
  ·exact key b (by rw [h3, Nat.pow_zero, Nat.mul_one])
/-- the greatest number of p bits that is not above a quotient -/
theorem near_low {p q c t X Y : Nat} {rest : Bool} (hp : 1 ≤ p) (hq : p ≤ blen q) (hY : 0 < Y) (hX : X / Y = q) (hc : Fits p c) (h : c * Y ≤ X * 2 ^ t) : c ≤ cutR p q rest false * 2 ^ (blen q - p) * 2 ^ t := by
 have key : ∀ b, c = b * 2 ^ t → c ≤ cutR p q rest false * 2 ^ (blen q - p) * 2 ^ t := fun b hb => by
  rw [hb] at hc h
  rw [hb, cutR_down]
  refine Nat.mul_le_mul_right _ (rd_greatest hp (unfits hc) ?_)
  rw [← hX]
  refine (Nat.le_div_iff_mul_le hY).2 ?_
  refine Nat.le_of_mul_le_mul_right (c := 2 ^ t) ?_ (pow_pos2 t)
  rw [show b * Y * 2 ^ t = b * 2 ^ t * Y by ac_rfl]
  exact h
 rcases fits_cases (n := t) hc with ⟨b, hb⟩ | h1 | h1
 ·exact key b hb
 ·have := near_top_down (t := t) hp hq h1
  rw [cutR_down] at this ⊢
  exact this
 ·exact key c (by rw [h1, Nat.pow_zero, Nat.mul_one])
/-- the least one that is not below it -/
theorem near_high {p q c t X Y : Nat} {rest : Bool} (hp : 1 ≤ p) (hq : p ≤ blen q) (hY : 0 < Y) (hX : X / Y = q) (hr : rest = true → X % Y ≠ 0) (hc : Fits p c) (h : X * 2 ^ t ≤ c * Y) : cutR p q rest true * 2 ^ (blen q - p) * 2 ^ t ≤ c := by
 have hdm := Nat.div_add_mod X Y
 rw [hX] at hdm
 have key : ∀ b, c = b * 2 ^ t → cutR p q rest true * 2 ^ (blen q - p) * 2 ^ t ≤ c := fun b hb => by
  rw [hb] at hc h
  rw [hb]
  have h2 : X ≤ b * Y := by
   refine Nat.le_of_mul_le_mul_right (c := 2 ^ t) ?_ (pow_pos2 t)
   rw [show b * Y * 2 ^ t = b * 2 ^ t * Y by ac_rfl]
   exact h
  refine Nat.mul_le_mul_right _ (cutR_up_least hp hq (unfits hc) ?_ ?_)
  ·refine Nat.le_of_mul_le_mul_right (c := Y) ?_ hY
   rw [Nat.mul_comm q]
   omega
  ·intro hr1
   have h3 := hr hr1
   refine Nat.lt_of_mul_lt_mul_right (a := Y) ?_
   rw [Nat.mul_comm q]
   omega
 rcases fits_cases (n := t) hc with ⟨b, hb⟩ | h1 | h1
 ·exact key b hb
 ·exfalso
  have h2 := near_top (t := t) hp hq h1
  have h3 : q * 2 ^ t * Y ≤ c * Y := by
   refine Nat.le_trans ?_ h
   rw [show q * 2 ^ t * Y = Y * q * 2 ^ t by ac_rfl]
   exact Nat.mul_le_mul_right _ (by omega)
  have h4 := Nat.le_of_mul_le_mul_right h3 hY
  omega
 ·exact key c (by rw [h1, Nat.pow_zero, Nat.mul_one])
theorem vz_pos_eq {K : Nat} {m : Nat} {e : Int} : vz K false m e = ((m * 2 ^ (e + K).toNat : Nat) : Int) := by
 unfold vz
 rw [show sg false = 1 from rfl, Int.one_mul]
/-- products of values, as naturals at one exponent -/
theorem quot_units {K c y x i j : Nat} {g f e lo : Int} {t : Nat} (hK : 4194304 ≤ K) (hf : -1048576 ≤ f) (he : -1048576 ≤ e) (hlo : -2300000 ≤ lo) (hg : lo ≤ g) (hE : e - f - ((i : Int) - (j : Int)) = lo + t) :
  ∃ B : Nat, c * 2 ^ (g + K).toNat * (y * 2 ^ (f + K).toNat) * 2 ^ j = c * 2 ^ (g - lo).toNat * (y * 2 ^ j) * 2 ^ B ∧ x * 2 ^ (e + K).toNat * 2 ^ K * 2 ^ j = x * 2 ^ i * 2 ^ t * 2 ^ B := by
 refine ⟨(lo + f + 2 * K).toNat, ?_, ?_⟩
 ·have e1 : 2 ^ (g + K).toNat * 2 ^ (f + K).toNat = 2 ^ (g - lo).toNat * 2 ^ (lo + f + 2 * K).toNat := by
   rw [← Nat.pow_add, ← Nat.pow_add]
   exact congrArg (2 ^ ·) (by omega)
  rw [show c * 2 ^ (g + K).toNat * (y * 2 ^ (f + K).toNat) * 2 ^ j = c * y * 2 ^ j * (2 ^ (g + K).toNat * 2 ^ (f + K).toNat) by ac_rfl, e1]
  ac_rfl
 ·have e1 : 2 ^ (e + K).toNat * 2 ^ K * 2 ^ j = 2 ^ i * 2 ^ t * 2 ^ (lo + f + 2 * K).toNat := by
   rw [← Nat.pow_add, ← Nat.pow_add, ← Nat.pow_add, ← Nat.pow_add]
   exact congrArg (2 ^ ·) (by omega)
  rw [show x * 2 ^ (e + K).toNat * 2 ^ K * 2 ^ j = x * (2 ^ (e + K).toNat * 2 ^ K * 2 ^ j) by ac_rfl, e1]
  ac_rfl
/-- of a quotient above 0, and a number not below it -/
theorem quot_near0 {K : Nat} {x : Nat} {e : Int} {y : Nat} {f : Int} {p : Nat} {u : Bool} {s s' : Bool} {m' : Nat} {e' : Int} {c : Nat} {g : Int} (hK : 4194304 ≤ K) (hx : x ≠ 0) (hy : y ≠ 0) (hp1 : 1 ≤ p) (hp : p ≤ 2000) (bx : blen x ≤ 4096) (bY : blen y ≤ 4096) (r1 : -1048576 ≤ e ∧ e ≤ 1048576) (r2 : -1048576 ≤ f ∧ f ≤ 1048576) (r3 : -1048576 ≤ g ∧ g ≤ 1048576) (hc : Fits p c)
  (h : Nm s (cutR p (x * 2 ^ kUp p x y / (y * 2 ^ kDn p x y)) (!decide (x * 2 ^ kUp p x y % (y * 2 ^ kDn p x y) = 0)) u) (e - f - ((p : Int) + (blen y : Int) - (blen x : Int)) + ((blen (x * 2 ^ kUp p x y / (y * 2 ^ kDn p x y)) - p : Nat) : Int)) 0 s' m' e') :
  (u = false → vz K false c g * vz K false y f ≤ vz K false x e * ((2 ^ K : Nat) : Int) → vz K false c g ≤ sg s * vz K s' m' e') ∧ (u = true → vz K false x e * ((2 ^ K : Nat) : Int) ≤ vz K false c g * vz K false y f → sg s * vz K s' m' e' ≤ vz K false c g) := by
 have hk : (p : Int) + (blen y : Int) - (blen x : Int) = ((kUp p x y : Nat) : Int) - ((kDn p x y : Nat) : Int) := by unfold kUp kDn; omega
 have hi : kUp p x y ≤ 10000 := by unfold kUp; omega
 have hj : kDn p x y ≤ 10000 := by unfold kDn; omega
 have hqb := quot_bits (p := p) hx hy hp1
 rw [hk] at h
 generalize kUp p x y = i at *
 generalize kDn p x y = j at *
 have hD : 0 < y * 2 ^ j := Nat.mul_pos (Nat.pos_of_ne_zero hy) (pow_pos2 j)
 obtain ⟨rest, hrest⟩ : ∃ r : Bool, r = !decide (x * 2 ^ i % (y * 2 ^ j) = 0) := ⟨_, rfl⟩
 rw [← hrest] at h
 have hr : rest = true → x * 2 ^ i % (y * 2 ^ j) ≠ 0 := fun h1 h2 => by
  rw [h2] at hrest
  simp at hrest
  rw [hrest] at h1
  cases h1
 obtain ⟨q, hq⟩ : ∃ q, x * 2 ^ i / (y * 2 ^ j) = q := ⟨_, rfl⟩
 rw [hq] at h hqb
 obtain ⟨lo, hlo⟩ : ∃ lo : Int, lo = min g (e - f - ((i : Int) - (j : Int))) := ⟨_, rfl⟩
 obtain ⟨t, ht⟩ : ∃ t : Nat, e - f - ((i : Int) - (j : Int)) = lo + t := ⟨(e - f - ((i : Int) - (j : Int)) - lo).toNat, by omega⟩
 obtain ⟨B, u1, u2⟩ := quot_units (K := K) (c := c) (y := y) (x := x) (i := i) (j := j) (g := g) (f := f) (e := e) (lo := lo) (t := t) hK r2.1 r1.1 (by omega) (by omega) ht
 have hv : sg s * vz K s' m' e' = ((cutR p q rest u * 2 ^ (blen q - p) * 2 ^ t * 2 ^ (lo + K).toNat : Nat) : Int) := by
  have h1 := nm_value (K := K) (by omega) h
  rw [h1, ht]
  unfold vz
  rw [← Int.mul_assoc, show sg s * sg s = 1 by cases s <;> rfl, Int.one_mul]
  rw [show (lo + (t : Int) + ((blen q - p : Nat) : Int) + (K : Int)).toNat = (blen q - p) + t + (lo + K).toNat by omega, Nat.pow_add, Nat.pow_add]
  congr 1
  ac_rfl
 have hcv : c * 2 ^ (g + K).toNat = c * 2 ^ (g - lo).toNat * 2 ^ (lo + K).toNat := by
  rw [Nat.mul_assoc, ← Nat.pow_add]
  exact congrArg (c * 2 ^ ·) (by omega)
 have hc1 : Fits p (c * 2 ^ (g - lo).toNat) := fits_shift hc
 constructor
 ·intro hu hle
  subst hu
  rw [hv, vz_pos_eq, hcv]
  rw [vz_pos_eq, vz_pos_eq, vz_pos_eq, ← Int.natCast_mul, ← Int.natCast_mul] at hle
  have h2 := Nat.mul_le_mul_right (2 ^ j) (Int.ofNat_le.1 hle)
  rw [u1, u2] at h2
  have h3 := near_low (rest := rest) hp1 hqb hD hq hc1 (Nat.le_of_mul_le_mul_right h2 (pow_pos2 B))
  exact Int.ofNat_le.2 (Nat.mul_le_mul_right _ h3)
 ·intro hu hle
  subst hu
  rw [hv, vz_pos_eq, hcv]
  rw [vz_pos_eq, vz_pos_eq, vz_pos_eq, ← Int.natCast_mul, ← Int.natCast_mul] at hle
  have h2 := Nat.mul_le_mul_right (2 ^ j) (Int.ofNat_le.1 hle)
  rw [u1, u2] at h2
  have h3 := near_high hp1 hqb hD hq hr hc1 (Nat.le_of_mul_le_mul_right h2 (pow_pos2 B))
  exact Int.ofNat_le.2 (Nat.mul_le_mul_right _ h3)
/-- a quotient is the nearest number of so few bits on its side -/
theorem quot_near {K : Nat} {s : Bool} {x : Nat} {e : Int} {y : Nat} {f : Int} {p : Nat} {up : Bool} {s' : Bool} {m' : Nat} {e' : Int} {t : Bool} {c : Nat} {g : Int} (hK : 4194304 ≤ K) (hy : y ≠ 0) (hp1 : 1 ≤ p) (hp : p ≤ 2000) (bx : blen x ≤ 4096) (bY : blen y ≤ 4096) (r1 : -1048576 ≤ e ∧ e ≤ 1048576) (r2 : -1048576 ≤ f ∧ f ≤ 1048576) (r3 : -1048576 ≤ g ∧ g ≤ 1048576) (hc : Fits p c)
  (h : QuTold s x e false y f p up 0 s' m' e') :
  (up = false → vz K t c g * vz K false y f ≤ vz K s x e * ((2 ^ K : Nat) : Int) → vz K t c g ≤ vz K s' m' e') ∧ (up = true → vz K s x e * ((2 ^ K : Nat) : Int) ≤ vz K t c g * vz K false y f → vz K s' m' e' ≤ vz K t c g) := by
 have hyp : 0 < vz K false y f := by
  rw [vz_pos_eq]
  exact Int.natCast_pos.2 (Nat.mul_pos (Nat.pos_of_ne_zero hy) (pow_pos2 _))
 have hP : (0 : Int) < ((2 ^ K : Nat) : Int) := pos_of_pow
 rcases Nat.eq_zero_or_pos x with hx | hx
 ·subst hx
  obtain ⟨-, rfl, rfl, rfl⟩ := quot_nought h
  rw [vz_zero, vz_zero, Int.zero_mul]
  refine ⟨fun _ h1 => ?_, fun _ h1 => ?_⟩
  ·refine Int.le_of_mul_le_mul_right (a := vz K false y f) ?_ hyp
   rw [Int.zero_mul]; exact h1
  ·refine Int.le_of_mul_le_mul_right (a := vz K false y f) ?_ hyp
   rw [Int.zero_mul]; exact h1
 ·have hx := Nat.pos_iff_ne_zero.1 hx
  unfold QuTold at h
  rw [show (s != false) = s by cases s <;> rfl] at h
  obtain ⟨n1, n2⟩ := quot_near0 hK hx hy hp1 hp bx bY r1 r2 r3 hc h
  -- the sign of what is told
  have hs0 : 0 ≤ sg s * vz K s' m' e' := by
   have h1 := nm_value (K := K) (by omega) h
   rw [h1]
   unfold vz
   rw [← Int.mul_assoc, show sg s * sg s = 1 by cases s <;> rfl, Int.one_mul]
   exact Int.natCast_nonneg _
  have hxv : 0 ≤ vz K false x e := vz_sgn.1
  have hcv : 0 ≤ vz K false c g := vz_sgn.1
  have hc2 : vz K true c g = - vz K false c g := vz_not K false c g
  have hx2 : vz K true x e = - vz K false x e := vz_not K false x e
  have hxp : 0 < vz K false x e := by
   rw [vz_pos_eq]
   exact Int.natCast_pos.2 (Nat.mul_pos (Nat.pos_of_ne_zero hx) (pow_pos2 _))
  have hxP := Int.mul_pos hxp hP
  have hcy := Int.mul_nonneg hcv (Int.le_of_lt hyp)
  cases s <;> cases t
  ·rw [show sg false = 1 from rfl, Int.one_mul] at n1 n2
   exact ⟨fun hu => n1 (by rw [hu]; rfl), fun hu => n2 (by rw [hu]; rfl)⟩
  ·rw [show sg false = 1 from rfl, Int.one_mul] at n1 n2 hs0
   rw [hc2, Int.neg_mul]
   exact ⟨fun _ _ => by omega, fun _ h1 => by omega⟩
  ·rw [show sg true = -1 from rfl, Int.neg_mul, Int.one_mul] at n1 n2 hs0
   rw [hx2, Int.neg_mul]
   exact ⟨fun _ h1 => by omega, fun _ _ => by omega⟩
  ·rw [show sg true = -1 from rfl, Int.neg_mul, Int.one_mul] at n1 n2 hs0
   rw [hx2, hc2, Int.neg_mul, Int.neg_mul]
   refine ⟨fun hu h1 => ?_, fun hu h1 => ?_⟩
   ·have := n2 (by rw [hu]; rfl) (by omega)
    omega
   ·have := n1 (by rw [hu]; rfl) (by omega)
    omega
end Go.Proofs.YtdhdebapjlcjdaaGreatDoor
