/-
 Plain facts on quotients and roots that are reckoned to some bits more, their last bit set if anything is left: cut to p bits they are what the shorter ones with their rests are. No condition; nothing of the program is named here.
-/
import Derived.Test.YtlpjlmophlikeaaGreatDoorPEa
import Derived.Test.YtlpjlmophlikeaaGreatDoorPRm
import Derived.Test.YtlpjlmophlikeaaGreatDoorPIc
import Derived.Test.YtlpjlmophlikeaaGreatDoorPRf
import Derived.Test.YtlpjlmophlikeaaGreatDoorPDn
import Derived.Test.YtlpjlmophlikeaaGreatDoorPIs
namespace Go.Proofs.YtlpjlmophlikeaaGreatDoor

end Go.Proofs.YtlpjlmophlikeaaGreatDoor

namespace Go.Proofs.YtlpjlmophlikeaaGreatDoor

/-- Q is q with D bits more behind it; rest: q times 2^D is not Q itself -/
theorem cut_sticky {p q Q D : Nat} {rest u : Bool} (hq : q ≠ 0) (hb : p ≤ blen q) (h0 : rest = false → Q = q * 2 ^ D) (h1 : rest = true → q * 2 ^ D < Q ∧ Q < (q + 1) * 2 ^ D) :
  cutN p Q u * 2 ^ (blen Q - p) = cutR p q rest u * 2 ^ (blen q - p) * 2 ^ D := by
 cases rest
 ·have h2 := h0 rfl
  rw [cutR_false, h2]
  have hbl := blen_shift (k := D) hq
  have e1 : blen (q * 2 ^ D) - p = (blen q - p) + D := by omega
  unfold cutN
  rw [e1, Nat.pow_add, Nat.mul_div_mul_right _ _ (pow_pos2 D), Nat.mul_mod_mul_right]
  have e2 : (q % 2 ^ (blen q - p) * 2 ^ D ≠ 0) = (q % 2 ^ (blen q - p) ≠ 0) := by
   apply propext
   have := pow_pos2 D
   constructor
   ·intro h h3; apply h; rw [h3, Nat.zero_mul]
   ·intro h h3
    rcases Nat.mul_eq_zero.1 h3 with h4 | h4
    ·exact h h4
    ·omega
  simp only [e2]
  rw [Nat.mul_assoc]
 ·obtain ⟨h2, h3⟩ := h1 rfl
  have hQ : Q / 2 ^ D = q := by
   apply Nat.le_antisymm
   ·exact Nat.lt_succ_iff.1 ((Nat.div_lt_iff_lt_mul (pow_pos2 D)).2 h3)
   ·exact (Nat.le_div_iff_mul_le (pow_pos2 D)).2 (Nat.le_of_lt h2)
  have hbl : blen Q = blen q + D := by
   obtain ⟨b1, b2, b3⟩ := blen_pos hq
   apply Nat.le_antisymm
   ·rw [blen_le, Nat.pow_add]
    have h4 := Nat.mul_le_mul_right (2 ^ D) (show q + 1 ≤ 2 ^ blen q by omega)
    omega
   ·have h4 := (blen_le Q (blen q + D - 1))
    rcases Nat.lt_or_ge (blen Q) (blen q + D) with h5 | h5
    ·exfalso
     have h6 := h4.1 (by omega)
     have h7 := Nat.mul_le_mul_right (2 ^ D) b1
     rw [← Nat.pow_add] at h7
     have e3 : blen q - 1 + D = blen q + D - 1 := by omega
     rw [e3] at h7
     omega
    ·exact h5
  have e1 : blen Q - p = D + (blen q - p) := by omega
  have hdiv : Q / 2 ^ (blen Q - p) = q / 2 ^ (blen q - p) := by rw [e1, Nat.pow_add, ← Nat.div_div_eq_div_mul, hQ]
  have hmod : Q % 2 ^ (blen Q - p) ≠ 0 := by
   intro h4
   obtain ⟨t, ht⟩ := Nat.dvd_of_mod_eq_zero h4
   rw [e1, Nat.pow_add, Nat.mul_assoc] at ht
   have h5 : Q / 2 ^ D = 2 ^ (blen q - p) * t := by rw [ht, Nat.mul_div_cancel_left _ (pow_pos2 D)]
   rw [hQ] at h5
   rw [← h5, Nat.mul_comm] at ht
   omega
  unfold cutN cutR
  rw [hdiv, e1, Nat.pow_add, Nat.mul_comm (2 ^ D), ← Nat.mul_assoc]
  rw [e1, Nat.pow_add, Nat.mul_comm (2 ^ D)] at hmod
  congr 2
  cases u <;> simp [hmod]
end Go.Proofs.YtlpjlmophlikeaaGreatDoor

namespace Go.Proofs.YtlpjlmophlikeaaGreatDoor

/-- the same of a root -/
def stickyR (s x r : Nat) : Nat := 2 * r + if r * r = x * 2 ^ s then 0 else 1

theorem scale_eqs {a y Dn x U P T : Nat} (h : P * U = T * Dn) : a * P * y * U = a * (y * Dn) * T ∧ x * T * U = x * U * T := by
 constructor
 ·have e1 : a * P * y * U = a * y * (P * U) := by ac_rfl
  have e2 : a * (y * Dn) * T = a * y * (T * Dn) := by ac_rfl
  rw [e1, e2, h]
 ·ac_rfl
theorem scale_le {a y Dn x U P T : Nat} (hU : 0 < U) (h : P * U = T * Dn) (hle : a * (y * Dn) ≤ x * U) : a * P * y ≤ x * T := by
 obtain ⟨e1, e2⟩ := scale_eqs (a := a) (y := y) (x := x) h
 refine Nat.le_of_mul_le_mul_right (c := U) ?_ hU
 rw [e1, e2]
 exact Nat.mul_le_mul_right _ hle
theorem scale_lt {a y Dn x U P T : Nat} (hT : 0 < T) (h : P * U = T * Dn) (hle : x * U < a * (y * Dn)) : x * T < a * P * y := by
 obtain ⟨e1, e2⟩ := scale_eqs (a := a) (y := y) (x := x) h
 refine Nat.lt_of_mul_lt_mul_right (a := U) ?_
 rw [e1, e2]
 exact Nat.mul_lt_mul_of_pos_right hle hT
theorem scale_eq {a y Dn x U P T : Nat} (hU : 0 < U) (hT : 0 < T) (h : P * U = T * Dn) : a * P * y = x * T ↔ a * (y * Dn) = x * U := by
 obtain ⟨e1, e2⟩ := scale_eqs (a := a) (y := y) (x := x) h
 constructor
 ·intro h3
  refine Nat.eq_of_mul_eq_mul_right hT ?_
  rw [← e1, ← e2, h3]
 ·intro h3
  refine Nat.eq_of_mul_eq_mul_right hU ?_
  rw [e1, e2, h3]

theorem sq_le {a b : Nat} (h : a ≤ b) : a * a ≤ b * b := Nat.mul_le_mul h h
theorem sq_lt_of {a b : Nat} (h : a * a < b * b) : a < b := by
 rcases Nat.lt_or_ge a b with h1 | h1
 ·exact h1
 ·have := sq_le h1; omega
theorem sq_le_of {a b : Nat} (h : a * a ≤ b * b) : a ≤ b := by
 rcases Nat.lt_or_ge b a with h1 | h1
 ·have h2 := sq_le (show b + 1 ≤ a by omega)
  have e : (b + 1) * (b + 1) = b * b + b + b + 1 := by rw [Nat.add_mul, Nat.mul_add, Nat.mul_one, Nat.one_mul]; omega
  omega
 ·exact h1
theorem root_bits {p x i j r : Nat} (hx : x ≠ 0) (hp : 1 ≤ p) (hb : 2 * p + j ≤ blen x + i + 1) (hr : x * 2 ^ i / 2 ^ j < (r + 1) * (r + 1)) : p ≤ blen r := by
 obtain ⟨h1, _, h3⟩ := blen_pos hx
 have h4 : 2 ^ (p - 1) * 2 ^ (p - 1) * 2 ^ j ≤ x * 2 ^ i := by
  have h5 := Nat.mul_le_mul_right (2 ^ i) h1
  rw [← Nat.pow_add] at h5 ⊢
  rw [← Nat.pow_add]
  exact Nat.le_trans (Nat.pow_le_pow_right (by omega) (by omega)) h5
 have h5 := (Nat.le_div_iff_mul_le (pow_pos2 j)).2 h4
 have h6 := sq_lt_of (Nat.lt_of_le_of_lt h5 hr)
 rcases Nat.lt_or_ge (blen r) p with h7 | h7
 ·have h8 : r < 2 ^ (p - 1) := (blen_le r (p - 1)).1 (by omega)
  omega
 ·exact h7
theorem root_cut {p x i j r R S d : Nat} {u : Bool} (hx : x ≠ 0) (hp : 1 ≤ p) (hb : 2 * p + j ≤ blen x + i + 1) (h1 : r * r ≤ x * 2 ^ i / 2 ^ j) (h2 : x * 2 ^ i / 2 ^ j < (r + 1) * (r + 1)) (hd : d + d + i = S + j) (hR1 : R * R ≤ x * 2 ^ S) (hR2 : x * 2 ^ S < (R + 1) * (R + 1)) :
  cutN p (stickyR S x R) u * 2 ^ (blen (stickyR S x R) - p) = cutR p r (!decide (r * r * 2 ^ j = x * 2 ^ i)) u * 2 ^ (blen r - p) * 2 ^ (d + 1) := by
 have hbr := root_bits hx hp hb h2
 have hr0 : r ≠ 0 := by
  intro h0
  rw [h0] at hbr
  have : blen 0 ≤ 0 := (blen_le 0 0).2 (by decide)
  omega
 have g1 := (Nat.le_div_iff_mul_le (pow_pos2 j)).1 h1
 have g2 := (Nat.div_lt_iff_lt_mul (pow_pos2 j)).1 h2
 have hP : 2 ^ d * 2 ^ d * 2 ^ i = 2 ^ S * 2 ^ j := by rw [← Nat.pow_add, ← Nat.pow_add, ← Nat.pow_add, hd]
 have hI := pow_pos2 i
 have hM := pow_pos2 S
 have hD : 2 ^ (d + 1) = 2 * 2 ^ d := by rw [Nat.pow_succ, Nat.mul_comm]
 generalize 2 ^ i = I at *
 generalize 2 ^ j = J at *
 unfold stickyR
 generalize 2 ^ S = M at *
 have hd0 := pow_pos2 d
 generalize hdd : 2 ^ d = c at *
 have sqe : ∀ a : Nat, a * c * (a * c) = a * a * (c * c) * 1 := fun a => by rw [Nat.mul_one]; ac_rfl
 have k1 : r * c * (r * c) ≤ x * M := by
  rw [sqe]
  exact scale_le (y := 1) (Dn := J) hI hP (by rw [Nat.one_mul]; exact g1)
 have k2 : x * M < (r + 1) * c * ((r + 1) * c) := by
  rw [sqe]
  exact scale_lt (y := 1) (Dn := J) hM hP (by rw [Nat.one_mul]; exact g2)
 have k3 : r * c * (r * c) = x * M ↔ r * r * J = x * I := by
  rw [sqe, scale_eq (y := 1) (Dn := J) hI hM hP, Nat.one_mul]
 have l1 : r * c ≤ R := by
  have := sq_lt_of (Nat.lt_of_le_of_lt k1 hR2)
  omega
 have l2 : R < (r + 1) * c := sq_lt_of (Nat.lt_of_le_of_lt hR1 k2)
 refine cut_sticky hr0 hbr (fun h => ?_) (fun h => ?_)
 ·have h3 : r * c * (r * c) = x * M := k3.2 (by simpa using h)
  have h4 : R = r * c := by
   have := sq_le_of (show R * R ≤ r * c * (r * c) by omega)
   omega
  rw [if_pos (by rw [h4]; exact h3), hD, h4]
  have e : r * (2 * c) = 2 * (r * c) := by ac_rfl
  omega
 ·have h3 : ¬ r * c * (r * c) = x * M := fun h4 => by
   have := k3.1 h4
   rw [decide_eq_true this] at h
   cases h
  have e1 : r * (2 * c) = 2 * (r * c) := by ac_rfl
  have e2 : (r + 1) * (2 * c) = 2 * ((r + 1) * c) := by ac_rfl
  rw [hD, e1, e2]
  by_cases hR : R = r * c
  ·rw [if_neg (by rw [hR]; exact h3)]
   omega
  ·split <;> omega
/-- the root of the longer reckoning and that of the shorter one have one form -/
theorem root_same {p x R S : Nat} {up : Bool} {e g k : Int} {s' : Bool} {m' : Nat} {e' k2 : Int} {s2 : Bool} {m2 : Nat} {e2 : Int} (hx : x ≠ 0) (hp : 1 ≤ p) (r1 : -1048576 ≤ e) (r2 : e ≤ 1048576)
  (hS1 : 2 * p + 6 ≤ blen x + S) (hS2 : S ≤ 8000) (hg : e - (S : Int) = 2 * g) (hR1 : R * R ≤ x * 2 ^ S) (hR2 : x * 2 ^ S < (R + 1) * (R + 1))
  (h' : RoTold x e p up k2 s2 m2 e2) (h : Nm false (cutN p (stickyR S x R) (up != false)) (g - 1 + ((blen (stickyR S x R) - p : Nat) : Int)) k s' m' e') : k2 = k ∧ s2 = s' ∧ m2 = m' ∧ e2 = e' := by
 obtain ⟨i, j, r, f, ⟨hij, hf, hb1, hb2, hr1, hr2⟩, hN⟩ := h'
 obtain ⟨d, hd⟩ := Int.eq_ofNat_of_zero_le (show 0 ≤ f - g by omega)
 have hcut := root_cut (u := up != false) (d := d) hx hp hb2 hr1 hr2 (by omega) hR1 hR2
 obtain ⟨K, hK⟩ : ∃ K : Nat, 20000000 ≤ K := ⟨_, Nat.le_refl _⟩
 have hE : f = g - 1 + ((d + 1 : Nat) : Int) := by omega
 refine nm_fun hN (nm_congr (K := K) (by omega) (by omega) ?_ h)
 rw [vz_up (by omega), vz_up (by omega)]
 rw [hE, vz_up (by omega), hcut]
end Go.Proofs.YtlpjlmophlikeaaGreatDoor
namespace Go.Proofs.YtlpjlmophlikeaaGreatDoor
open Go.RowKit

theorem Dg.drew {w : World} {A : Option Addr} {n c x : Nat} (h : Dg w A n c x) : Dg w.drew A n c x := Dg.heap32 h rfl
end Go.Proofs.YtlpjlmophlikeaaGreatDoor

namespace Go.Proofs.YtlpjlmophlikeaaGreatDoor
open Go.RowKit

def quotR (s : Bool) (l : List Nat) (e : Int) (t : Bool) (r : List Nat) (f : Int) (p : Int) (up : Bool) : Int → Bool → Nat → Int → Prop :=
 if (1 ≤ p ∧ p ≤ 2000) ∧ mayD s l e = true ∧ mayD t r f = true then (if val Go.Proofs.YtlpjlmophlikeaaGreatDoor.W r = 0 then Outside else QuTold s (val Go.Proofs.YtlpjlmophlikeaaGreatDoor.W l) e t (val Go.Proofs.YtlpjlmophlikeaaGreatDoor.W r) f p.toNat up) else Wrong
theorem outside_fun {k k2 : Int} {s1 s2 : Bool} {m1 m2 : Nat} {e1 e2 : Int} (h : Outside k s1 m1 e1) (h' : Outside k2 s2 m2 e2) : k = k2 ∧ s1 = s2 ∧ m1 = m2 ∧ e1 = e2 := by
 obtain ⟨rfl, rfl, rfl, rfl⟩ := h
 obtain ⟨rfl, rfl, rfl, rfl⟩ := h'
 exact ⟨rfl, rfl, rfl, rfl⟩
theorem quotR_fun {s : Bool} {l : List Nat} {e : Int} {t : Bool} {r : List Nat} {f p : Int} {up : Bool} {k k2 : Int} {s1 s2 : Bool} {m1 m2 : Nat} {e1 e2 : Int} (h : quotR s l e t r f p up k s1 m1 e1) (h' : quotR s l e t r f p up k2 s2 m2 e2) : k = k2 ∧ s1 = s2 ∧ m1 = m2 ∧ e1 = e2 := by
 unfold quotR at h h'
 split at h
 ·rw [if_pos (by assumption)] at h'
  split at h
  ·rw [if_pos (by assumption)] at h'; exact outside_fun h h'
  ·rw [if_neg (by assumption)] at h'; exact nm_fun h h'
 ·rw [if_neg (by assumption)] at h'; exact wrong_fun h h'
end Go.Proofs.YtlpjlmophlikeaaGreatDoor
namespace Go.Proofs.YtlpjlmophlikeaaGreatDoor
open Go.RowKit

theorem root_nought {p : Nat} {up : Bool} {e k : Int} {s' : Bool} {m' : Nat} {e' : Int} (h : RoTold 0 e p up k s' m' e') : k = 0 ∧ s' = false ∧ m' = 0 ∧ e' = 0 := by
 obtain ⟨i, j, r, f, ⟨_, _, _, _, h1, _⟩, hN⟩ := h
 have hr : r = 0 := by
  rw [Nat.zero_mul, Nat.zero_div] at h1
  rcases Nat.mul_eq_zero.1 (Nat.le_zero.1 h1) with h2 | h2 <;> exact h2
 have e : cutR p r (!decide (r * r * 2 ^ j = 0 * 2 ^ i)) (up != false) = 0 := by
  rw [hr]
  unfold cutR
  simp
 rw [e] at hN
 exact nm_fun hN (.inl ⟨rfl, rfl, rfl, rfl, rfl⟩)
/-- what the longer reckoning tells -/
def SqTold (x : Nat) (e : Int) (p : Nat) (up : Bool) (k : Int) (s' : Bool) (m' : Nat) (e' : Int) : Prop :=
 ∃ (R S : Nat) (g : Int), (2 * p + 6 ≤ blen x + S ∧ S ≤ 8000 ∧ e - (S : Int) = 2 * g ∧ R * R ≤ x * 2 ^ S ∧ x * 2 ^ S < (R + 1) * (R + 1)) ∧ Nm false (cutN p (stickyR S x R) (up != false)) (g - 1 + ((blen (stickyR S x R) - p : Nat) : Int)) k s' m' e'
def Nought (k : Int) (s' : Bool) (m' : Nat) (e' : Int) : Prop := k = 0 ∧ s' = false ∧ m' = 0 ∧ e' = 0
def rootR (s : Bool) (l : List Nat) (e : Int) (p : Int) (up : Bool) : Int → Bool → Nat → Int → Prop :=
 if (1 ≤ p ∧ p ≤ 2000) ∧ mayD s l e = true then (if s = true then Outside else RoTold (val Go.Proofs.YtlpjlmophlikeaaGreatDoor.W l) e p.toNat up) else Wrong
def rootQ (s : Bool) (l : List Nat) (e : Int) (p : Int) (up : Bool) : Int → Bool → Nat → Int → Prop :=
 if (1 ≤ p ∧ p ≤ 2000) ∧ mayD s l e = true then (if s = true then Outside else if val Go.Proofs.YtlpjlmophlikeaaGreatDoor.W l = 0 then Nought else SqTold (val Go.Proofs.YtlpjlmophlikeaaGreatDoor.W l) e p.toNat up) else Wrong
theorem root_agree {s : Bool} {l : List Nat} {e p : Int} {up : Bool} {k k2 : Int} {s1 s2 : Bool} {m1 m2 : Nat} {e1 e2 : Int} (hlt : Lt Go.Proofs.YtlpjlmophlikeaaGreatDoor.W l) (h : rootR s l e p up k s1 m1 e1) (h' : rootQ s l e p up k2 s2 m2 e2) : k = k2 ∧ s1 = s2 ∧ m1 = m2 ∧ e1 = e2 := by
 unfold rootR at h
 unfold rootQ at h'
 by_cases hd : (1 ≤ p ∧ p ≤ 2000) ∧ mayD s l e = true
 ·rw [if_pos hd] at h h'
  by_cases hs : s = true
  ·rw [if_pos hs] at h h'; exact outside_fun h h'
  ·rw [if_neg hs] at h h'
   by_cases hx : val Go.Proofs.YtlpjlmophlikeaaGreatDoor.W l = 0
   ·rw [if_pos hx] at h'
    rw [hx] at h
    obtain ⟨rfl, rfl, rfl, rfl⟩ := root_nought h
    obtain ⟨rfl, rfl, rfl, rfl⟩ := h'
    exact ⟨rfl, rfl, rfl, rfl⟩
   ·rw [if_neg hx] at h'
    obtain ⟨R, S, g, ⟨g1, g2, g3, g4, g5⟩, hN⟩ := h'
    obtain ⟨_, hok⟩ := mayD_of hlt hd.2
    have r := okd_ge (K := 4194304) (Nat.le_refl _) hok
    exact root_same hx (by omega) r.1 r.2.1 g1 g2 g3 g4 g5 h hN
 ·rw [if_neg hd] at h h'; exact wrong_fun h h'
theorem root_has (m : Nat) : ∃ R : Nat, R * R ≤ m ∧ m < (R + 1) * (R + 1) := by
 induction m with
 | zero => exact ⟨0, by decide, by decide⟩
 | succ m ih =>
  obtain ⟨R, h1, h2⟩ := ih
  by_cases h : m + 1 < (R + 1) * (R + 1)
  ·exact ⟨R, by omega, h⟩
  ·have e : (R + 1 + 1) * (R + 1 + 1) = (R + 1) * (R + 1) + (R + 1) + (R + 1) + 1 := by rw [Nat.add_mul (R + 1) 1, Nat.mul_add (R + 1), Nat.mul_one, Nat.one_mul]; omega
   exact ⟨R + 1, by omega, by omega⟩
end Go.Proofs.YtlpjlmophlikeaaGreatDoor
namespace Go.Proofs.YtlpjlmophlikeaaGreatDoor
open Go.RowKit

theorem down_le {K p : Nat} {a : Rw} {s : Bool} {m : Nat} {e : Int} (hK : 4194304 ≤ K) (ha : a.may = true) (h : RdTold a.s (val W a.l) a.e p false 0 s m e) : (Rw.of s m e).v K ≤ a.v K := by
 have r := okd_ge hK (mayD_of a.lt ha).2
 rw [Rw.of_v, nm_value r.2.2 h]
 exact rd_between.1
theorem up_ge {K p : Nat} {a : Rw} {s : Bool} {m : Nat} {e : Int} (hK : 4194304 ≤ K) (ha : a.may = true) (h : RdTold a.s (val W a.l) a.e p true 0 s m e) : a.v K ≤ (Rw.of s m e).v K := by
 have r := okd_ge hK (mayD_of a.lt ha).2
 rw [Rw.of_v, nm_value r.2.2 h]
 exact rd_between.2
end Go.Proofs.YtlpjlmophlikeaaGreatDoor
namespace Go.Proofs.YtlpjlmophlikeaaGreatDoor

def Only (P : Int → Bool → Nat → Int → Prop) : Prop := ∀ k s m e k2 s2 m2 e2, P k s m e → P k2 s2 m2 e2 → k = k2 ∧ s = s2 ∧ m = m2 ∧ e = e2
/-- where it goes wrong nought is told -/
def Null (P : Int → Bool → Nat → Int → Prop) : Prop := ∀ k s m e, P k s m e → k ≠ 0 → s = false ∧ m = 0 ∧ e = 0
def Some (P : Int → Bool → Nat → Int → Prop) : Prop := ∃ k s m e, P k s m e
/-- a scale, and a name for each answer that is the only one -/
structure Sc where
 K : Nat
 big : 4194304 ≤ K
 oc : (Int → Bool → Nat → Int → Prop) → Except Int Rw
 is : ∀ P k s m e, Only P → P k s m e → (k = 0 → oc P = .ok (Rw.of s m e)) ∧ (k ≠ 0 → oc P = .error k)
theorem sc_has : Nonempty Sc := by
 obtain ⟨K, hK⟩ := scale_has
 have key : ∀ P : Int → Bool → Nat → Int → Prop, ∃ o : Except Int Rw, ∀ k s m e, Only P → P k s m e → (k = 0 → o = .ok (Rw.of s m e)) ∧ (k ≠ 0 → o = .error k) := fun P => by
  by_cases h : ∃ s m e, P 0 s m e
  ·obtain ⟨s, m, e, h⟩ := h
   refine ⟨.ok (Rw.of s m e), fun k s' m' e' ho hp => ?_⟩
   obtain ⟨rfl, rfl, rfl, rfl⟩ := ho _ _ _ _ _ _ _ _ h hp
   exact ⟨fun _ => rfl, fun h => absurd rfl h⟩
  ·by_cases h2 : ∃ k s m e, P k s m e
   ·obtain ⟨k, s, m, e, h2⟩ := h2
    refine ⟨.error k, fun k' s' m' e' ho hp => ?_⟩
    obtain ⟨rfl, rfl, rfl, rfl⟩ := ho _ _ _ _ _ _ _ _ h2 hp
    exact ⟨fun h3 => absurd ⟨_, _, _, h3 ▸ h2⟩ h, fun _ => rfl⟩
   ·exact ⟨.error 0, fun k s m e _ hp => absurd ⟨k, s, m, e, hp⟩ h2⟩
 exact ⟨⟨K, hK, fun P => (key P).choose, fun P => (key P).choose_spec⟩⟩
theorem Sc.of_ok (S : Sc) {P : Int → Bool → Nat → Int → Prop} {a : Rw} (ho : Only P) (hs : Some P) (h : S.oc P = .ok a) : ∃ s m e, P 0 s m e ∧ a = Rw.of s m e := by
 obtain ⟨k, s, m, e, hp⟩ := hs
 have h2 := S.is P k s m e ho hp
 by_cases hk : k = 0
 ·subst hk
  have h3 := h2.1 rfl
  rw [h3] at h
  cases h
  exact ⟨s, m, e, hp, rfl⟩
 ·rw [h2.2 hk] at h
  cases h
theorem Sc.of_err (S : Sc) {P : Int → Bool → Nat → Int → Prop} {k : Int} (ho : Only P) (hs : Some P) (h : S.oc P = .error k) : k ≠ 0 ∧ ∃ s m e, P k s m e := by
 obtain ⟨k', s, m, e, hp⟩ := hs
 have h2 := S.is P k' s m e ho hp
 by_cases hk : k' = 0
 ·rw [h2.1 hk] at h; cases h
 ·rw [h2.2 hk] at h
  cases h
  exact ⟨hk, s, m, e, hp⟩
/-- one behind the other -/
def thn {α β : Type} (o : Except Int α) (f : α → Except Int β) : Except Int β := match o with
 | .ok a => f a
 | .error k => .error k
def okc {α : Type} (o : Except Int α) : Int := match o with
 | .ok _ => 0
 | .error k => k
def orw (o : Except Int Rw) : Rw := match o with
 | .ok a => a
 | .error _ => Rw.zero
def oiv (o : Except Int Iv) : Iv := match o with
 | .ok a => a
 | .error _ => Iv.zero
/-- no outcome is an error without a code -/
def Cod {α : Type} (o : Except Int α) : Prop := ∀ k, o = .error k → k ≠ 0
theorem thn_cod {α β : Type} {o : Except Int α} {f : α → Except Int β} (h : Cod o) (h2 : ∀ a, o = .ok a → Cod (f a)) : Cod (thn o f) := by
 intro k hk
 cases o with
 | ok a => exact h2 a rfl k hk
 | error j => exact h k (by cases hk; rfl)

theorem wrong_only : Only Wrong := fun _ _ _ _ _ _ _ _ h h' => wrong_fun h h'
theorem wrong_null : Null Wrong := fun _ _ _ _ h _ => h.2
theorem wrong_some : Some Wrong := ⟨_, _, _, _, rfl, rfl, rfl, rfl⟩
theorem outside_some : Some Outside := ⟨_, _, _, _, rfl, rfl, rfl, rfl⟩
theorem nm_only (s : Bool) (m : Nat) (e : Int) : Only (Nm s m e) := fun _ _ _ _ _ _ _ _ h h' => nm_fun h h'
theorem nm_null (s : Bool) (m : Nat) (e : Int) : Null (Nm s m e) := fun _ _ _ _ h hk => by
 rcases nm_code h with h1 | ⟨_, h1⟩
 ·exact absurd h1 hk
 ·exact h1
theorem nm_some (s : Bool) (m : Nat) (e : Int) : Some (Nm s m e) := nm_total s m e
section
variable {K : Nat} {s t : Bool} {l r : List Nat} {e f p : Int} {up : Bool}
theorem addR_only : Only (addR K s l e t r f) := fun _ _ _ _ _ _ _ _ h h' => addR_fun h h'
theorem addR_null : Null (addR K s l e t r f) := by
 unfold addR
 split
 ·rintro k s m e ⟨_, _, _, _, _, h⟩ hk; exact nm_null _ _ _ _ _ _ _ h hk
 ·exact wrong_null
theorem addR_some (hK : 4194304 ≤ K) (hl : Lt W l) (hr : Lt W r) : Some (addR K s l e t r f) := by
 unfold addR
 split
 ·next h => 
  obtain ⟨_, o1⟩ := mayD_of hl h.1
  obtain ⟨_, o2⟩ := mayD_of hr h.2
  have r1 := okd_ge hK o1
  have r2 := okd_ge hK o2
  exact sum_has hK ⟨r1.1, r1.2.1⟩ ⟨r2.1, r2.2.1⟩
 ·exact wrong_some
theorem mulR_only : Only (mulR s l e t r f) := fun _ _ _ _ _ _ _ _ h h' => mulR_fun h h'
theorem mulR_null : Null (mulR s l e t r f) := by
 unfold mulR
 split
 ·exact nm_null _ _ _
 ·exact wrong_null
theorem mulR_some : Some (mulR s l e t r f) := by
 unfold mulR
 split
 ·exact nm_some _ _ _
 ·exact wrong_some
theorem quotR_only : Only (quotR s l e t r f p up) := fun _ _ _ _ _ _ _ _ h h' => quotR_fun h h'
theorem quotR_some : Some (quotR s l e t r f p up) := by
 unfold quotR
 split
 ·split
  ·exact outside_some
  ·exact nm_some _ _ _
 ·exact wrong_some
theorem rootR_some : Some (rootR s l e p up) := by
 unfold rootR
 split
 ·split
  ·exact outside_some
  ·obtain ⟨q, hq⟩ : ∃ q, q = p.toNat := ⟨_, rfl⟩
   rw [← hq]
   generalize val W l = x
   obtain ⟨d, hd⟩ : ∃ d : Int, (e - d) % 2 = 0 ∧ (blen x : Int) + d ≤ 2 * q ∧ 2 * (q : Int) ≤ (blen x : Int) + d + 1 := by
    by_cases h : (e - (2 * (q : Int) - blen x)) % 2 = 0
    ·exact ⟨_, h, by omega, by omega⟩
    ·exact ⟨2 * (q : Int) - blen x - 1, by omega, by omega, by omega⟩
   obtain ⟨r, h1, h2⟩ := root_has (x * 2 ^ d.toNat / 2 ^ (-d).toNat)
   obtain ⟨k, s', m', e', hN⟩ := nm_total false (cutR q r (!decide (r * r * 2 ^ (-d).toNat = x * 2 ^ d.toNat)) (up != false)) ((e - d) / 2 + ((blen r - q : Nat) : Int))
   exact ⟨k, s', m', e', d.toNat, (-d).toNat, r, (e - d) / 2, ⟨by omega, by omega, by omega, by omega, h1, h2⟩, hN⟩
 ·exact wrong_some
theorem rootQ_some : Some (rootQ s l e p up) := by
 unfold rootQ
 split
 ·split
  ·exact outside_some
  ·split
   ·exact ⟨_, _, _, _, rfl, rfl, rfl, rfl⟩
   ·obtain ⟨q, hq⟩ : ∃ q, q = p.toNat := ⟨_, rfl⟩
    next h _ _ =>
    have hq2 : q ≤ 2000 := by omega
    rw [← hq]
    generalize val W l = x
    obtain ⟨S, hS⟩ : ∃ S : Nat, 2 * q + 6 ≤ S ∧ S ≤ 2 * q + 7 ∧ (e - (S : Int)) % 2 = 0 := by
     by_cases h : (e - ((2 * q + 6 : Nat) : Int)) % 2 = 0
     ·exact ⟨_, Nat.le_refl _, by omega, h⟩
     ·exact ⟨2 * q + 7, by omega, by omega, by omega⟩
    obtain ⟨R, h1, h2⟩ := root_has (x * 2 ^ S)
    obtain ⟨k, s', m', e', hN⟩ := nm_total false (cutN q (stickyR S x R) (up != false)) ((e - (S : Int)) / 2 - 1 + ((blen (stickyR S x R) - q : Nat) : Int))
    exact ⟨k, s', m', e', R, S, (e - (S : Int)) / 2, ⟨by omega, by omega, by omega, h1, h2⟩, hN⟩
 ·exact wrong_some
theorem rootR_only (hl : Lt W l) : Only (rootR s l e p up) := fun k s1 m1 e1 k2 s2 m2 e2 h h' => by
 obtain ⟨k3, s3, m3, e3, h3⟩ := rootQ_some (s := s) (l := l) (e := e) (p := p) (up := up)
 obtain ⟨rfl, rfl, rfl, rfl⟩ := root_agree hl h h3
 obtain ⟨rfl, rfl, rfl, rfl⟩ := root_agree hl h' h3
 exact ⟨rfl, rfl, rfl, rfl⟩
end
/-- what rounding tells of any, raw ones too -/
def rndR (a : Rw) (p : Int) (up : Bool) : Int → Bool → Nat → Int → Prop := if (1 ≤ p ∧ p ≤ 2000) ∧ a.may = true then RdTold a.s (val W a.l) a.e p.toNat up else Wrong
theorem rndR_only {a : Rw} {p : Int} {up : Bool} : Only (rndR a p up) := by
 unfold rndR
 split
 ·exact nm_only _ _ _
 ·exact wrong_only
theorem rndR_null {a : Rw} {p : Int} {up : Bool} : Null (rndR a p up) := by
 unfold rndR
 split
 ·exact nm_null _ _ _
 ·exact wrong_null
theorem rndR_some {a : Rw} {p : Int} {up : Bool} : Some (rndR a p up) := by
 unfold rndR
 split
 ·exact nm_some _ _ _
 ·exact wrong_some
section
variable (S : Sc)
def addO (a b : Rw) : Except Int Rw := S.oc (addR S.K a.s a.l a.e b.s b.l b.e)
def mulO (a b : Rw) : Except Int Rw := S.oc (mulR a.s a.l a.e b.s b.l b.e)
def quoO (p : Int) (up : Bool) (a b : Rw) : Except Int Rw := S.oc (quotR a.s a.l a.e b.s b.l b.e p up)
def rooO (a : Rw) (p : Int) (up : Bool) : Except Int Rw := S.oc (rootR a.s a.l a.e p up)
def rndO (a : Rw) (p : Int) (up : Bool) : Except Int Rw := S.oc (rndR a p up)
def negQ (a : Rw) : Rw := ⟨negR a.s a.l a.e, a.l, a.e, a.lt⟩
def turnI (x : Iv) : Iv := ⟨negQ x.hi, negQ x.lo⟩
/-- Down of one, Up of another one -/
def outO (a b : Rw) (p : Int) : Except Int Iv := thn (rndO S a p false) fun l => thn (rndO S b p true) fun h => .ok ⟨l, h⟩
def sumO (x y : Iv) (p : Int) : Except Int Iv := thn (addO S x.lo y.lo) fun a => thn (rndO S a p false) fun l => thn (addO S x.hi y.hi) fun b => thn (rndO S b p true) fun h => .ok ⟨l, h⟩
def rooI (x : Iv) (p : Int) : Except Int Iv := thn (rooO S x.lo p false) fun l => thn (rooO S x.hi p true) fun h => .ok ⟨l, h⟩
def corO (F : Rw → Rw → Except Int Rw) (x y : Iv) : Except Int (List Rw) := thn (F x.lo y.lo) fun a => thn (F x.lo y.hi) fun b => thn (F x.hi y.lo) fun c => thn (F x.hi y.hi) fun d => .ok [a, b, c, d]
def leaL : List Rw → Rw
 | [] => Rw.zero
 | a :: l => l.foldl (leastQ S.K) a
def greL : List Rw → Rw
 | [] => Rw.zero
 | a :: l => l.foldl (greatQ S.K) a
def mulI (x y : Iv) (p : Int) : Except Int Iv := thn (corO (mulO S) x y) fun L => outO S (leaL S L) (greL S L) p
def divI (x y : Iv) (p : Int) : Except Int Iv := if hasI S.K y Rw.zero = true then .error 4 else thn (corO (quoO S p false) x y) fun L => thn (corO (quoO S p true) x y) fun M => .ok ⟨leaL S L, greL S M⟩
def sqrI (x : Iv) (p : Int) : Except Int Iv := thn (mulO S x.lo x.lo) fun a => thn (mulO S x.hi x.hi) fun b =>
 outO S (leaL S (if hasI S.K x Rw.zero = true then [a, b, Rw.zero] else [a, b])) (greL S (if hasI S.K x Rw.zero = true then [a, b, Rw.zero] else [a, b])) p
def sqtI (x : Iv) (p : Int) : Except Int Iv := if signR x.lo.s x.lo.l x.lo.e < 0 then .error 4 else rooI S x p
def negI (x : Iv) (p : Int) : Except Int Iv := outO S (turnI x).lo (turnI x).hi p
def prec (p : Int) : Bool := decide (1 ≤ p) && decide (p ≤ 2000)
/-- a face of two intervals, of one -/
def face2 (x y : Iv) (p : Int) (o : Except Int Iv) : Except Int Iv := if (mayI S.K x && mayI S.K y && prec p) = true then o else .error 1
def face1 (x : Iv) (p : Int) (o : Except Int Iv) : Except Int Iv := if (mayI S.K x && prec p) = true then o else .error 1
end
end Go.Proofs.YtlpjlmophlikeaaGreatDoor
