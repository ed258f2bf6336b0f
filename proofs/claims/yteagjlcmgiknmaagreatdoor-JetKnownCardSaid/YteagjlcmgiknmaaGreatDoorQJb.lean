/-
 A quotient by a small whole number, as it is told of numbers with few bits behind the point. No condition; nothing of the program is named here.
-/
import Derived.Test.YteagjlcmgiknmaaGreatDoorQGv
import Derived.Test.YteagjlcmgiknmaaGreatDoorQGj
namespace Go.Proofs.YteagjlcmgiknmaaGreatDoor

section
variable {S : Sc} {f m : Nat} {x : Int} {a c : Rw} {p : Int}
theorem blen_quo {x y p : Nat} : blen (x * 2 ^ kUp p x y / (y * 2 ^ kDn p x y)) ≤ p + blen y + 0 := by
 have h0 : x * 2 ^ kUp p x y / (y * 2 ^ kDn p x y) ≤ x * 2 ^ kUp p x y / 2 ^ kDn p x y := by
  rcases Nat.eq_zero_or_pos y with rfl | hy
  ·simp
  ·exact Nat.div_le_div_left (Nat.le_mul_of_pos_left _ hy) (pow_pos2 _)
 refine (blen_le _ _).2 (Nat.lt_of_le_of_lt h0 ?_)
 have h1 : x < 2 ^ blen x := (blen_le x (blen x)).1 (Nat.le_refl _)
 unfold kUp kDn
 rcases Nat.le_total (blen x) (p + blen y) with h | h
 ·rw [show blen x - (p + blen y) = 0 by omega, Nat.pow_zero, Nat.div_one]
  have h2 : x * 2 ^ (p + blen y - blen x) < 2 ^ blen x * 2 ^ (p + blen y - blen x) := Nat.mul_lt_mul_of_pos_right h1 (pow_pos2 _)
  rwa [← Nat.pow_add, show blen x + (p + blen y - blen x) = p + blen y by omega] at h2
 ·rw [show p + blen y - blen x = 0 by omega, Nat.pow_zero, Nat.mul_one, Nat.div_lt_iff_lt_mul (pow_pos2 _), ← Nat.pow_add, show p + blen y + 0 + (blen x - (p + blen y)) = blen x by omega]
  exact h1
theorem cutR_most {p x : Nat} {rest u : Bool} : cutR p x rest u ≤ 2 ^ p := by
 have h := cut_lt p x
 have h2 : cutR p x rest u ≤ x / 2 ^ (blen x - p) + 1 := by unfold cutR; split <;> omega
 omega
theorem quo_at {up : Bool} {n : Nat} (hp : 1 ≤ p ∧ p ≤ 300) (ha : At S f x a) (hcm : c.may = true) (hcv : c.v S.K = (n : Int) * ((2 ^ S.K : Nat) : Int)) (hn : 1 ≤ n) (hce : 0 ≤ c.e ∧ c.e ≤ 3) (hcl : blen (val Go.Proofs.YteagjlcmgiknmaaGreatDoor.W c.l) ≤ 4) (hf : f ≤ 1500) (hm : m ≤ 1400) (hx : x.natAbs ≤ 2 ^ m) :
  ∃ q v, quoO S p up a c = .ok q ∧ At S (f + p.toNat + 8) v q ∧ v.natAbs ≤ 2 ^ (m + p.toNat + 9) ∧ (up = false → (n : Int) * q.v S.K ≤ a.v S.K) ∧ (up = true → a.v S.K ≤ (n : Int) * q.v S.K) := by
 have hK := S.big
 have hxl : x.natAbs < 2 ^ (m + 1) := Nat.lt_of_le_of_lt hx (Nat.pow_lt_pow_right (by omega) (by omega))
 obtain ⟨a1, a2, a3, a4, a5⟩ := at_low ha (by omega) (show m + 1 ≤ 1900 by omega) hxl
 have hP : 0 < 2 ^ S.K := pow_pos2 _
 have hr0 : val Go.Proofs.YteagjlcmgiknmaaGreatDoor.W c.l ≠ 0 := fun h0 => by
  have h1 : c.v S.K = 0 := by unfold Rw.v; rw [h0, vz_zero]
  rw [h1] at hcv
  have h2 : 0 < (n : Int) * ((2 ^ S.K : Nat) : Int) := Int.mul_pos (by omega) (by exact_mod_cast hP)
  omega
 obtain ⟨k, s', m', e', hq⟩ : Some (quotR a.s a.l a.e c.s c.l c.e p up) := quotR_some
 have hq2 := hq
 unfold quotR at hq
 rw [if_pos ⟨⟨hp.1, by omega⟩, ha.1, hcm⟩, if_neg hr0] at hq
 unfold QuTold at hq
 obtain ⟨X, hX⟩ : ∃ X, X = val Go.Proofs.YteagjlcmgiknmaaGreatDoor.W a.l := ⟨_, rfl⟩
 obtain ⟨Y, hY⟩ : ∃ Y, Y = val Go.Proofs.YteagjlcmgiknmaaGreatDoor.W c.l := ⟨_, rfl⟩
 rw [← hX, ← hY] at hq
 rw [← hX] at a3 a4
 rw [← hY] at hcl
 have hbq := blen_quo (x := X) (y := Y) (p := p.toNat)
 obtain ⟨Q, hQ⟩ : ∃ Q, Q = X * 2 ^ kUp p.toNat X Y / (Y * 2 ^ kDn p.toNat X Y) := ⟨_, rfl⟩
 rw [← hQ] at hq hbq
 obtain ⟨M, hM⟩ : ∃ M, M = cutR p.toNat Q (!decide (X * 2 ^ kUp p.toNat X Y % (Y * 2 ^ kDn p.toNat X Y) = 0)) (up != (a.s != c.s)) := ⟨_, rfl⟩
 have hMle : M ≤ 2 ^ p.toNat := by rw [hM]; exact cutR_most
 rw [← hM] at hq
 obtain ⟨E, hE⟩ : ∃ E, E = a.e - c.e - ((p.toNat : Int) + (blen Y : Int) - (blen X : Int)) + ((blen Q - p.toNat : Nat) : Int) := ⟨_, rfl⟩
 rw [← hE] at hq
 have hMb : blen M ≤ p.toNat + 1 := (blen_le _ _).2 (Nat.lt_of_le_of_lt hMle (Nat.pow_lt_pow_right (by omega) (by omega)))
 have hk : k = 0 := nm_good hq (by omega) (by omega) (by omega)
 subst hk
 have hE1 : -((f + p.toNat + 8 : Nat) : Int) ≤ E := by omega
 obtain ⟨j, hj⟩ : ∃ j : Nat, E = -((f + p.toNat + 8 : Nat) : Int) + (j : Int) := ⟨(E + ((f + p.toNat + 8 : Nat) : Int)).toNat, by omega⟩
 have hval := nm_value (K := S.K) (by omega) hq
 have hok := nm_okd hq
 obtain ⟨hoc, _⟩ : quoO S p up a c = .ok (Rw.of s' m' e') ∧ True := ⟨(S.is _ _ _ _ _ quotR_only hq2).1 rfl, trivial⟩
 refine ⟨Rw.of s' m' e', sg (a.s != c.s) * ((M * 2 ^ j : Nat) : Int), hoc, ⟨Rw.of_may hok, ?_⟩, ?_, ?_⟩
 ·rw [Rw.of_v, hval, hj, vz_up (by omega), vz_at_neg (by omega)]
 ·have e1 : (sg (a.s != c.s) * ((M * 2 ^ j : Nat) : Int)).natAbs = M * 2 ^ j := by
   rw [Int.natAbs_mul, Int.natAbs_natCast]
   rcases sg_cases (a.s != c.s) with ⟨_, h⟩ | ⟨_, h⟩ <;> rw [h] <;> simp
  rw [e1]
  by_cases hX0 : X = 0
  ·have hQ0 : Q = 0 := by rw [hQ, hX0]; simp
   have hM0 : M = 0 := by rw [hM, hQ0, hX0]; simp [cutR]
   rw [hM0, Nat.zero_mul]
   exact Nat.zero_le _
  ·have hX1 : 2 ^ (blen X - 1) ≤ X := by
    rcases Nat.lt_or_ge X (2 ^ (blen X - 1)) with h | h
    ·have h1 := (blen_le X (blen X - 1)).2 h
     have h2 : X < 2 ^ 0 := (blen_le X 0).1 (by omega)
     omega
    ·exact h
   have h3 : 2 ^ (blen X - 1) * 2 ^ (a.e + f).toNat ≤ 2 ^ m := Nat.le_trans (Nat.le_trans (Nat.mul_le_mul_right _ hX1) (Nat.le_of_eq a4)) hx
   rw [← Nat.pow_add] at h3
   have h4 : blen X - 1 + (a.e + f).toNat ≤ m := (Nat.pow_le_pow_iff_right (by omega)).1 h3
   have h5 : M * 2 ^ j ≤ 2 ^ p.toNat * 2 ^ j := Nat.mul_le_mul_right _ hMle
   rw [← Nat.pow_add] at h5
   exact Nat.le_trans h5 (Nat.pow_le_pow_right (by omega) (by omega))
 ·have g := quoO_ok (S := S) (up := up) ⟨hp.1, by omega⟩ ha.1 hcm hoc
  have hb : 0 < c.v S.K := by rw [hcv]; exact Int.mul_pos (by omega) (by exact_mod_cast hP)
  obtain ⟨g1, g2⟩ := g.2.1 hb
  rw [hcv] at g1 g2
  have hPi : (0 : Int) < ((2 ^ S.K : Nat) : Int) := by exact_mod_cast hP
  refine ⟨fun hu => ?_, fun hu => ?_⟩
  ·have h3 := g1 hu
   rw [← Int.mul_assoc] at h3
   have := Int.le_of_mul_le_mul_right h3 hPi
   rwa [Int.mul_comm] at this
  ·have h3 := g2 hu
   rw [← Int.mul_assoc] at h3
   have := Int.le_of_mul_le_mul_right h3 hPi
   rwa [Int.mul_comm ((Rw.of s' m' e').v S.K)] at this
/-- a small whole number as it is laid, c of it what n is -/
structure Who (S : Sc) (n : Nat) (c : Rw) : Prop where
 may : c.may = true
 val : c.v S.K = (n : Int) * ((2 ^ S.K : Nat) : Int)
 pos : 1 ≤ n
 e : 0 ≤ c.e ∧ c.e ≤ 3
 len : blen (Go.Proofs.YteagjlcmgiknmaaGreatDoor.val Go.Proofs.YteagjlcmgiknmaaGreatDoor.W c.l) ≤ 4
theorem divW {n : Nat} {I : Iv} (hw : Who S n c) (hp : 1 ≤ p ∧ p ≤ 300) (hf : f ≤ 1500) (hm : m ≤ 1400) (hI : Bo S f m I) :
  ∃ R, divF S I ⟨c, c⟩ p = .ok R ∧ Bo S (f + p.toNat + 8) (m + p.toNat + 9) R ∧ (n : Int) * R.lo.v S.K ≤ I.lo.v S.K ∧ I.hi.v S.K ≤ (n : Int) * R.hi.v S.K := by
 have hP : (0 : Int) < ((2 ^ S.K : Nat) : Int) := by exact_mod_cast pow_pos2 _
 have hc0 : 0 < c.v S.K := by rw [hw.val]; exact Int.mul_pos (by have := hw.pos; omega) hP
 have hImay := bo_may hI
 have hI2 := hI
 obtain ⟨u, v, u1, u2, u3, u4, u5⟩ := hI2
 have q := fun (up : Bool) {x : Int} {a : Rw} (ha : At S f x a) (hx : x.natAbs ≤ 2 ^ m) => quo_at (up := up) hp ha hw.may hw.val hw.pos hw.e hw.len hf hm hx
 obtain ⟨a1, x1, f1, A1, b1, l1, _⟩ := q false u1 u4
 obtain ⟨a2, x2, f2, A2, b2, _⟩ := q false u2 u5
 obtain ⟨a3, x3, f3, A3, b3, _⟩ := q true u1 u4
 obtain ⟨a4, x4, f4, A4, b4, _, l4⟩ := q true u2 u5
 have l1 := l1 rfl
 have l4 := l4 rfl
 have hcl : corO (quoO S p false) I ⟨c, c⟩ = .ok [a1, a1, a2, a2] := by
  unfold corO
  simp only [thn, f1, f2]
 have hch : corO (quoO S p true) I ⟨c, c⟩ = .ok [a3, a3, a4, a4] := by
  unfold corO
  simp only [thn, f3, f4]
 have hm1 : ∀ z ∈ [a1, a1, a2, a2], ∃ y : Int, At S (f + p.toNat + 8) y z ∧ y.natAbs ≤ 2 ^ (m + p.toNat + 9) := fun z hz => by
  simp at hz
  rcases hz with rfl | rfl
  ·exact ⟨_, A1, b1⟩
  ·exact ⟨_, A2, b2⟩
 have hm2 : ∀ z ∈ [a3, a3, a4, a4], ∃ y : Int, At S (f + p.toNat + 8) y z ∧ y.natAbs ≤ 2 ^ (m + p.toNat + 9) := fun z hz => by
  simp at hz
  rcases hz with rfl | rfl
  ·exact ⟨_, A3, b3⟩
  ·exact ⟨_, A4, b4⟩
 obtain ⟨g1, g2⟩ := lea_of (S := S) (L := [a1, a1, a2, a2]) (List.cons_ne_nil _ _) fun z hz => by obtain ⟨_, h, _⟩ := hm1 z hz; exact h.1
 obtain ⟨g3, g4⟩ := gre_of (S := S) (L := [a3, a3, a4, a4]) (List.cons_ne_nil _ _) fun z hz => by obtain ⟨_, h, _⟩ := hm2 z hz; exact h.1
 obtain ⟨y1, Y1, c1⟩ := hm1 _ g1
 obtain ⟨y2, Y2, c2⟩ := hm2 _ g3
 have k1 := g2 a1 (by simp)
 have k4 := g4 a4 (by simp)
 have hn0 : (0 : Int) ≤ (n : Int) := by omega
 have r1 : (n : Int) * (leaL S [a1, a1, a2, a2]).v S.K ≤ I.lo.v S.K := Int.le_trans (Int.mul_le_mul_of_nonneg_left k1 hn0) l1
 have r2 : I.hi.v S.K ≤ (n : Int) * (greL S [a3, a3, a4, a4]).v S.K := Int.le_trans l4 (Int.mul_le_mul_of_nonneg_left k4 hn0)
 have hle : (leaL S [a1, a1, a2, a2]).v S.K ≤ (greL S [a3, a3, a4, a4]).v S.K := by
  have h1 := (mayI_iff.1 hImay).2.2
  have h2 := Int.le_trans r1 (Int.le_trans h1 r2)
  exact Int.le_of_mul_le_mul_left h2 (by have := hw.pos; omega)
 refine ⟨⟨leaL S [a1, a1, a2, a2], greL S [a3, a3, a4, a4]⟩, ?_, ⟨y1, y2, Y1, Y2, (at_le Y1 Y2).1 hle, c1, c2⟩, r1, r2⟩
 unfold divF
 rw [face2_bo ⟨hp.1, by omega⟩ hImay (mayI_point hw.may)]
 unfold divI
 rw [if_neg (fun h => by
  have h1 := (hasI_iff.1 h).2.2.1
  have h2 : Rw.zero.v S.K = 0 := vz_zero S.K false 0
  have h3 : c.v S.K ≤ Rw.zero.v S.K := h1
  omega), hcl, hch]
 rfl
/-- what holds n times a number holds the number when it is divided by n -/
theorem divW_ni {n L : Nat} {I R : Iv} {z : Int} (hw : Who S n c) (hf : f ≤ 1500) (hL : L ≤ 1800) (hz : z.natAbs ≤ 2 ^ L) (h : Ni S f ((n : Int) * z) I) (hR : mayI S.K R = true) (h1 : (n : Int) * R.lo.v S.K ≤ I.lo.v S.K) (h2 : I.hi.v S.K ≤ (n : Int) * R.hi.v S.K) : Ni S f z R := by
 obtain ⟨b, hb, hin⟩ := h
 obtain ⟨a, ha, _⟩ := at_has S (f := f) (L := L + 1) (z := z) (by omega) (by omega) (Nat.lt_of_le_of_lt hz (Nat.pow_lt_pow_right (by omega) (by omega)))
 obtain ⟨_, _, i1, i2⟩ := withinI_iff.1 hin
 have i1 : I.lo.v S.K ≤ b.v S.K := i1
 have i2 : b.v S.K ≤ I.hi.v S.K := i2
 have hF : (0 : Int) < ((2 ^ f : Nat) : Int) := by exact_mod_cast pow_pos2 _
 have hab : b.v S.K = (n : Int) * a.v S.K := by
  refine Int.eq_of_mul_eq_mul_right (Int.ne_of_gt hF) ?_
  rw [hb.2, Int.mul_assoc, Int.mul_assoc, ha.2]
 have hn : (0 : Int) < (n : Int) := by have := hw.pos; omega
 exact ⟨a, ha, withinI_iff.2 ⟨mayI_point ha.1, hR, Int.le_of_mul_le_mul_left (by rw [← hab]; exact Int.le_trans h1 i1) hn, Int.le_of_mul_le_mul_left (by rw [← hab]; exact Int.le_trans i2 h2) hn⟩⟩
end
end Go.Proofs.YteagjlcmgiknmaaGreatDoor
namespace Go.Proofs.YteagjlcmgiknmaaGreatDoor

section
variable {S : Sc} {f m n : Nat} {p : Int} {I J R : Iv} {z : Int}
theorem bo_up {k : Nat} (h : Bo S f m I) (hk : m ≤ k) : Bo S f k I := by
 obtain ⟨u, v, u1, u2, u3, u4, u5⟩ := h
 have hp : 2 ^ m ≤ 2 ^ k := Nat.pow_le_pow_right (by omega) hk
 exact ⟨u, v, u1, u2, u3, Nat.le_trans u4 hp, Nat.le_trans u5 hp⟩
theorem rou_bo (hp : 1 ≤ p ∧ p ≤ 2000) (hf : f ≤ 2000) (hm : m ≤ 1800) (hI : Bo S f m I) : ∃ R, rouI S I p = .ok R ∧ Bo S f m R ∧ withinI S.K I R = true := by
 have hI2 := bo_may hI
 obtain ⟨u, v, u1, u2, u3, u4, u5⟩ := hI
 obtain ⟨R, h1, h2⟩ := out_bo hp hf hm u1 u2 u3 u4 u5
 have h3 := outO_ok hp u1.1 u2.1 h1
 exact ⟨R, h1, h2, withinI_iff.2 ⟨hI2, bo_may h2, h3.1.2.1, h3.2.2.1⟩⟩
theorem ni_in (h : Ni S f z I) (hw : withinI S.K I J = true) : Ni S f z J := by
 obtain ⟨a, ha, h⟩ := h
 obtain ⟨g1, g2, g3, g4⟩ := withinI_iff.1 h
 obtain ⟨_, k2, k3, k4⟩ := withinI_iff.1 hw
 exact ⟨a, ha, withinI_iff.2 ⟨g1, k2, Int.le_trans k3 g3, Int.le_trans g4 k4⟩⟩
theorem ni_has {a : Rw} (h : Ni S f z I) (ha : At S f z a) : hasI S.K I a = true := by
 obtain ⟨b, hb, h⟩ := h
 rw [at_fun ha hb]
 exact h
/-- the terms 0 to j of a product's coefficient n, added one by one -/
def prodO (S : Sc) (a b : List Iv) (n : Nat) (p : Int) : Nat → Except Int Iv
 | 0 => mulF S (a.getD 0 Iv.zero) (b.getD n Iv.zero) p
 | j + 1 => thn (prodO S a b n p j) fun s => thn (mulF S (a.getD (j + 1) Iv.zero) (b.getD (n - (j + 1)) Iv.zero) p) fun t => addF S s t p
/-- how many bits are behind the point of the coefficient i, how great it may be -/
def fB (P i : Nat) : Nat := 3 * (i + 1) + i * P
def mB (Q i : Nat) : Nat := 4 * (i + 1) + i * Q
/-- the coefficients 0 to n of x' = x x, as they lie -/
def Sq (S : Sc) (P Q : Nat) (z : Int) (n : Nat) (X : List Iv) : Prop := ∀ i, i < n → Bo S (fB P i) (mB Q i) (X.getD i Iv.zero) ∧ Ni S (3 * (i + 1)) (z ^ (i + 1)) (X.getD i Iv.zero)
theorem z_abs (hz : z.natAbs ≤ 15) (n : Nat) : (z ^ n).natAbs ≤ 2 ^ (4 * n) := by
 rw [Int.natAbs_pow, Nat.pow_mul]
 exact Nat.pow_le_pow_left (by omega) n
theorem prod_ok {P Q : Nat} {X : List Iv} (hp : 1 ≤ p ∧ p ≤ 300) (hn : n ≤ 10) (hP : P ≤ 120) (hQ : Q ≤ 120) (hz : z.natAbs ≤ 15) (h : Sq S P Q z (n + 1) X) :
  ∀ j, j ≤ n → ∃ R, prodO S X X n p j = .ok R ∧ Bo S (3 * (n + 2) + n * P) (4 * (n + 2) + n * Q + j) R ∧ Ni S (3 * (n + 2)) (((j + 1 : Nat) : Int) * z ^ (n + 2)) R := by
 have hnP : n * P ≤ 10 * 120 := Nat.mul_le_mul hn hP
 have hnQ : n * Q ≤ 10 * 120 := Nat.mul_le_mul hn hQ
 have hp2 : 1 ≤ p ∧ p ≤ 2000 := ⟨hp.1, by omega⟩
 have term : ∀ j, j ≤ n → ∃ R, mulF S (X.getD j Iv.zero) (X.getD (n - j) Iv.zero) p = .ok R ∧ Bo S (3 * (n + 2) + n * P) (4 * (n + 2) + n * Q) R ∧ Ni S (3 * (n + 2)) (z ^ (n + 2)) R := fun j hj => by
  obtain ⟨b1, n1⟩ := h j (by omega)
  obtain ⟨b2, n2⟩ := h (n - j) (by omega)
  have e1 : fB P j + fB P (n - j) = 3 * (n + 2) + n * P := by
   have : j * P + (n - j) * P = n * P := by rw [← Nat.add_mul]; congr 1; omega
   unfold fB; omega
  have e2 : mB Q j + mB Q (n - j) = 4 * (n + 2) + n * Q := by
   have : j * Q + (n - j) * Q = n * Q := by rw [← Nat.add_mul]; congr 1; omega
   unfold mB; omega
  obtain ⟨R, hR, hb⟩ := mulF_bo hp2 (by omega) (by omega) b1 b2
  rw [e1, e2] at hb
  have e3 : z ^ (j + 1) * z ^ (n - j + 1) = z ^ (n + 2) := by rw [← Int.pow_add]; congr 1; omega
  have e4 : 3 * (j + 1) + 3 * (n - j + 1) = 3 * (n + 2) := by omega
  have hni := mulF_ni (L := 4 * (n + 2)) hp2 (by omega) (by omega) n1 n2 (by rw [e3]; exact z_abs hz _) hR
  rw [e3, e4] at hni
  exact ⟨R, hR, hb, hni⟩
 intro j
 induction j with
 | zero =>
  intro _
  obtain ⟨R, h1, h2, h3⟩ := term 0 (Nat.zero_le n)
  exact ⟨R, h1, h2, by rw [show ((0 + 1 : Nat) : Int) = 1 from rfl, Int.one_mul]; exact h3⟩
 | succ j ih =>
  intro hj
  obtain ⟨A, a1, a2, a3⟩ := ih (by omega)
  obtain ⟨B, b1, b2, b3⟩ := term (j + 1) hj
  obtain ⟨R, hR, hb⟩ := addF_bo hp2 (by omega) (by omega) a2 (bo_up b2 (Nat.le_add_right _ j))
  have e1 : ((j + 1 : Nat) : Int) * z ^ (n + 2) + z ^ (n + 2) = ((j + 1 + 1 : Nat) : Int) * z ^ (n + 2) := by
   rw [show ((j + 1 + 1 : Nat) : Int) = ((j + 1 : Nat) : Int) + 1 by omega, Int.add_mul, Int.one_mul]
  have hni := addF_ni (L := 4 * (n + 2) + 4) hp2 (by omega) (by omega) a3 b3 (by
   rw [e1, Int.natAbs_mul, Int.natAbs_natCast, Nat.pow_add, Nat.mul_comm]
   exact Nat.mul_le_mul (z_abs hz _) (by omega)) hR
  rw [e1] at hni
  refine ⟨R, ?_, hb, hni⟩
  show thn (prodO S X X n p j) _ = _
  rw [a1]
  show thn (mulF S _ _ p) _ = _
  rw [b1]
  exact hR
/-- one order more: the state's own row is rounded, squared, and divided -/
theorem sq_next {P Q : Nat} {r : List Iv} {c : Rw} (hp : 1 ≤ p ∧ p ≤ 100) (hn : n ≤ 8) (hP : P = p.toNat + 8) (hQ : Q = p.toNat + 19) (hz : z.natAbs ≤ 15) (hw : Who S (n + 1) c) (hr : Sq S P Q z (n + 1) r) :
  ∃ t x, prodO S r r n p n = .ok t ∧ divF S t ⟨c, c⟩ p = .ok x ∧ Bo S (fB P (n + 1)) (mB Q (n + 1)) x ∧ Ni S (3 * (n + 1 + 1)) (z ^ (n + 1 + 1)) x := by
 obtain ⟨t, h1, h2, h3⟩ := prod_ok (P := P) (Q := Q) ⟨hp.1, by omega⟩ (show n ≤ 10 by omega) (by omega) (by omega) hz hr n (Nat.le_refl n)
 have hnP : n * P ≤ 8 * 120 := Nat.mul_le_mul hn (by omega)
 have hnQ : n * Q ≤ 8 * 120 := Nat.mul_le_mul hn (by omega)
 obtain ⟨x, g1, g2, g3, g4⟩ := divW hw ⟨hp.1, by omega⟩ (by omega) (by omega) h2
 have e1 : 3 * (n + 2) + n * P + p.toNat + 8 = fB P (n + 1) := by
  unfold fB
  rw [Nat.add_mul, Nat.one_mul]
  omega
 rw [e1] at g2
 have g5 : Bo S (fB P (n + 1)) (mB Q (n + 1)) x := bo_up g2 (by unfold mB; rw [Nat.add_mul, Nat.one_mul]; omega)
 exact ⟨t, x, h1, g1, g5, divW_ni (L := 4 * (n + 2)) hw (by omega) (by omega) (z_abs hz _) h3 (bo_may g5) g3 g4⟩
theorem sq_rou {P Q : Nat} {x : Iv} (hp : 1 ≤ p ∧ p ≤ 100) (hn : n ≤ 8) (hP : P ≤ 120) (hQ : Q ≤ 120) (hb : Bo S (fB P n) (mB Q n) x) (hi : Ni S (3 * (n + 1)) (z ^ (n + 1)) x) : ∃ R, rouI S x p = .ok R ∧ Bo S (fB P n) (mB Q n) R ∧ Ni S (3 * (n + 1)) (z ^ (n + 1)) R := by
 have hnP : n * P ≤ 8 * 120 := Nat.mul_le_mul hn (by omega)
 have hnQ : n * Q ≤ 8 * 120 := Nat.mul_le_mul hn (by omega)
 obtain ⟨R, h1, h2, h3⟩ := rou_bo (S := S) (p := p) ⟨hp.1, by omega⟩ (show fB P n ≤ 2000 by unfold fB; omega) (show mB Q n ≤ 1800 by unfold mB; omega) hb
 exact ⟨R, h1, h2, ni_in hi h3⟩
def fac : Nat → Nat
 | 0 => 1
 | n + 1 => fac n * (n + 1)
/-- the coefficient i of x' = x, as it lies: D is the beginning's value -/
def Fx (S : Sc) (P Q : Nat) (D : Int) (i : Nat) (I : Iv) : Prop := Bo S (3 + i * P) (4 + i * Q) I ∧ (fac i : Int) * I.lo.v S.K ≤ D ∧ D ≤ (fac i : Int) * I.hi.v S.K
theorem fx_rou {P Q : Nat} {D : Int} (hp : 1 ≤ p ∧ p ≤ 100) (hn : n ≤ 10) (hP : P ≤ 120) (hQ : Q ≤ 120) (h : Fx S P Q D n I) : ∃ R, rouI S I p = .ok R ∧ Fx S P Q D n R := by
 obtain ⟨h1, h2, h3⟩ := h
 have hnP : n * P ≤ 10 * 120 := Nat.mul_le_mul hn hP
 have hnQ : n * Q ≤ 10 * 120 := Nat.mul_le_mul hn hQ
 obtain ⟨R, g1, g2, g3⟩ := rou_bo (S := S) (p := p) ⟨hp.1, by omega⟩ (by omega) (by omega) h1
 obtain ⟨_, _, k1, k2⟩ := withinI_iff.1 g3
 have h0 : (0 : Int) ≤ (fac n : Int) := Int.natCast_nonneg _
 exact ⟨R, g1, g2, Int.le_trans (Int.mul_le_mul_of_nonneg_left k1 h0) h2, Int.le_trans h3 (Int.mul_le_mul_of_nonneg_left k2 h0)⟩
theorem fx_next {P Q : Nat} {D : Int} {c : Rw} (hp : 1 ≤ p ∧ p ≤ 100) (hn : n ≤ 8) (hP : P = p.toNat + 8) (hQ : Q = p.toNat + 9) (hw : Who S (n + 1) c) (h : Fx S P Q D n I) : ∃ R, divF S I ⟨c, c⟩ p = .ok R ∧ Fx S P Q D (n + 1) R := by
 obtain ⟨h1, h2, h3⟩ := h
 have hnP : n * P ≤ 8 * 120 := Nat.mul_le_mul hn (by omega)
 have hnQ : n * Q ≤ 8 * 120 := Nat.mul_le_mul hn (by omega)
 obtain ⟨R, g1, g2, g3, g4⟩ := divW hw ⟨hp.1, by omega⟩ (by omega) (by omega) h1
 have h0 : (0 : Int) ≤ (fac n : Int) := Int.natCast_nonneg _
 have e : ((fac (n + 1) : Nat) : Int) = (fac n : Int) * ((n + 1 : Nat) : Int) := Int.natCast_mul _ _
 refine ⟨R, g1, ?_, ?_, ?_⟩
 ·rwa [show 3 + n * P + p.toNat + 8 = 3 + (n + 1) * P by rw [Nat.add_mul, Nat.one_mul]; omega, show 4 + n * Q + p.toNat + 9 = 4 + (n + 1) * Q by rw [Nat.add_mul, Nat.one_mul]; omega] at g2
 ·rw [e, Int.mul_assoc]
  exact Int.le_trans (Int.mul_le_mul_of_nonneg_left g3 h0) h2
 ·rw [e, Int.mul_assoc]
  exact Int.le_trans h3 (Int.mul_le_mul_of_nonneg_left g4 h0)
/-- the same number with more bits behind the point -/
theorem at_more {a : Rw} {k : Nat} (h : At S f z a) : At S (f + k) (z * ((2 ^ k : Nat) : Int)) a := ⟨h.1, by
 rw [Nat.pow_add, Int.natCast_mul, ← Int.mul_assoc, h.2, Int.mul_assoc, Int.mul_assoc, Int.mul_comm ((2 ^ S.K : Nat) : Int)]⟩
/-- what is asked of the ends at the end: times n! they are not above, not below the beginning -/
theorem fx_ends {P Q : Nat} {d : Rw} {i : Nat} (hd : At S 3 z d) (h : Fx S P Q (d.v S.K) i I) : ∃ u v, At S (3 + i * P) u I.lo ∧ At S (3 + i * P) v I.hi ∧ u.natAbs ≤ 2 ^ (4 + i * Q) ∧ v.natAbs ≤ 2 ^ (4 + i * Q) ∧ At S (3 + i * P) (z * ((2 ^ (i * P) : Nat) : Int)) d ∧ u * (fac i : Int) ≤ z * ((2 ^ (i * P) : Nat) : Int) ∧ z * ((2 ^ (i * P) : Nat) : Int) ≤ v * (fac i : Int) := by
 obtain ⟨⟨u, v, u1, u2, u3, u4, u5⟩, h2, h3⟩ := h
 have hd2 := at_more (k := i * P) hd
 have hF : (0 : Int) < ((2 ^ (3 + i * P) : Nat) : Int) := by exact_mod_cast pow_pos2 _
 have hK : (0 : Int) < ((2 ^ S.K : Nat) : Int) := by exact_mod_cast pow_pos2 _
 have key : ∀ (a : Rw) (w : Int), At S (3 + i * P) w a → ((fac i : Int) * a.v S.K) * ((2 ^ (3 + i * P) : Nat) : Int) = (w * (fac i : Int)) * ((2 ^ S.K : Nat) : Int) := fun a w ha => by
  rw [Int.mul_assoc, ha.2, ← Int.mul_assoc, Int.mul_comm (fac i : Int)]
 refine ⟨u, v, u1, u2, u4, u5, hd2, ?_, ?_⟩
 ·refine Int.le_of_mul_le_mul_right ?_ hK
  rw [← key _ _ u1, ← hd2.2]
  exact Int.mul_le_mul_of_nonneg_right h2 (Int.le_of_lt hF)
 ·refine Int.le_of_mul_le_mul_right ?_ hK
  rw [← key _ _ u2, ← hd2.2]
  exact Int.mul_le_mul_of_nonneg_right h3 (Int.le_of_lt hF)
end
end Go.Proofs.YteagjlcmgiknmaaGreatDoor
