/-
  Plain facts on rounded dyadic numbers: what is told of them, and what follows of their values.
-/
import Derived.Test.YtehfdfjpmmpndaaGreatDoorQRj
import Derived.Test.YtehfdfjpmmpndaaGreatDoorQRb
import Derived.Test.YtehfdfjpmmpndaaGreatDoorQRt
import Derived.Test.YtehfdfjpmmpndaaGreatDoorQDn
namespace Go.Proofs.YtehfdfjpmmpndaaGreatDoor
variable {A1 A2 : Option Addr} {a b c1 c2 m' m1 m2 n1 n2 p x : Nat} {e e' e1 e2 k k2 : Int} {s s' s1 s2 u up : Bool} {w : World}
theorem pos_of_pow {k : Nat} : (0 : Int) < ((2 ^ k : Nat) : Int) := by
 have := pow_pos2 k
 generalize 2 ^ k = P at *
 omega
theorem nm_good {m : Nat} (h : Nm s m e k s' m' e') (hm : blen m ≤ 4096) (he : -100000 ≤ e) (he' : e ≤ 100000) : k = 0 := by
 rcases h with ⟨_, h, _⟩ | ⟨j, q, hm0, h⟩
 ·exact h
 have h1 := (blen_le m _).1 hm
 obtain ⟨L, hL⟩ : ∃ L, L = 64 * 64 := ⟨_, rfl⟩
 have e1 : 4096 = L := by omega
 rw [e1] at h1
 have h2 : 1 * (2 * q + 1) ≤ 2 ^ j * (2 * q + 1) := Nat.mul_le_mul_right _ (pow_pos2 j)
 have h3 : 2 ^ j * 1 ≤ 2 ^ j * (2 * q + 1) := Nat.mul_le_mul_left _ (by omega)
 have h4 : j < L := by
  rcases Nat.lt_or_ge j L with h5 | h5
  ·exact h5
  have := Nat.pow_le_pow_right (n := 2) (by omega) h5
  omega
 have h5 : 2 * q + 1 < W ^ 64 := by rw [W64_pow, ← hL]; omega
 rcases h with ⟨h6, _⟩ | ⟨_, h6, _⟩ | ⟨_, _, h6, _⟩
 ·exact absurd h5 (by omega)
 ·exact absurd (And.intro (show -1048576 ≤ e + (j : Int) by omega) (show e + (j : Int) ≤ 1048576 by omega)) h6
 exact h6
theorem nm_small_e {m : Nat} (h : Nm s m e 0 s' m' e') (he : -100000 ≤ e) : blen m' ≤ blen m ∧ -100000 ≤ e' ∧ e' ≤ e + blen m ∨ (m' = 0 ∧ e' = 0) := by
 rcases h with ⟨_, _, _, h2, h3⟩ | ⟨j, q, hm0, ⟨_, h, _⟩ | ⟨_, _, h, _⟩ | ⟨_, _, _, _, h2, h3⟩⟩
 ·exact .inr ⟨h2, h3⟩
 ·cases h
 ·cases h
 left
 have e1 : m = (2 * q + 1) * 2 ^ j := by rw [hm0, Nat.mul_comm]
 have h4 := blen_shift (x := 2 * q + 1) (k := j) (by omega)
 rw [← e1] at h4
 rw [h2, h3]
 omega
theorem okd_fits (hd : OkD s x e) : Fits p x ↔ blen x ≤ p := by
 rcases hd with ⟨rfl, _⟩ | ⟨h, _⟩
 ·rw [blen_zero]; exact ⟨fun _ => Nat.zero_le _, fun _ => fits_zero p⟩
 have := fits_blen (p := p) (q := x / 2) (k := 0)
 have e1 : 2 * (x / 2) + 1 = x := by omega
 rw [e1, Nat.pow_zero, Nat.one_mul] at this
 exact this
open Go.RowKit
theorem rd_fit (hp : 1 ≤ p) (hd : OkD s x e) (hb : blen x ≤ p) (h : RdTold s x e p u k s' m' e') : k = 0 ∧ s' = s ∧ m' = x ∧ e' = e := by
 unfold RdTold at h
 rw [rd_self hp ((okd_fits hd).2 hb)] at h
 exact nm_fun h (nm_self hd)
theorem cut_sticky {p q Q D : Nat} {rest u : Bool} (hq : q ≠ 0) (hb : p ≤ blen q) (h0 : rest = false → Q = q * 2 ^ D) (h1 : rest = true → q * 2 ^ D < Q ∧ Q < (q + 1) * 2 ^ D) :
  cutN p Q u * 2 ^ (blen Q - p) = cutR p q rest u * 2 ^ (blen q - p) * 2 ^ D := by
 cases rest
 ·have h2 := h0 rfl
  rw [cutR_false, h2]
  have hbl := blen_shift (k := D) hq
  have e1 : blen (q * 2 ^ D) - p = (blen q - p) + D := by omega
  unfold cutN
  rw [e1, Nat.pow_add, Nat.mul_div_mul_right _ _ (pow_pos2 D), Nat.mul_mod_mul_right]
  have e2 : (q % 2 ^ (blen q - p) * 2 ^ D ≠ 0) = (q % 2 ^ (blen q - p) ≠ 0) := by
   apply propext
   have := pow_pos2 D
   constructor
   ·intro h h3; apply h; rw [h3, Nat.zero_mul]
   intro h h3
   rcases Nat.mul_eq_zero.1 h3 with h4 | h4
   ·exact h h4
   omega
  simp only [e2]
  rw [Nat.mul_assoc]
 obtain ⟨h2, h3⟩ := h1 rfl
 have hQ : Q / 2 ^ D = q := by
  apply Nat.le_antisymm
  ·exact Nat.lt_succ_iff.1 ((Nat.div_lt_iff_lt_mul (pow_pos2 D)).2 h3)
  exact (Nat.le_div_iff_mul_le (pow_pos2 D)).2 (Nat.le_of_lt h2)
 have hbl : blen Q = blen q + D := by
  obtain ⟨b1, b2, b3⟩ := blen_pos hq
  apply Nat.le_antisymm
  ·rw [blen_le, Nat.pow_add]
   have h4 := Nat.mul_le_mul_right (2 ^ D) (show q + 1 ≤ 2 ^ blen q by omega)
   omega
  have h4 := (blen_le Q (blen q + D - 1))
  rcases Nat.lt_or_ge (blen Q) (blen q + D) with h5 | h5
  ·exfalso
   have h6 := h4.1 (by omega)
   have h7 := Nat.mul_le_mul_right (2 ^ D) b1
   rw [← Nat.pow_add] at h7
   have e3 : blen q - 1 + D = blen q + D - 1 := by omega
   rw [e3] at h7
   omega
  exact h5
 have e1 : blen Q - p = D + (blen q - p) := by omega
 have hdiv : Q / 2 ^ (blen Q - p) = q / 2 ^ (blen q - p) := by rw [e1, Nat.pow_add, ← Nat.div_div_eq_div_mul, hQ]
 have hmod : Q % 2 ^ (blen Q - p) ≠ 0 := by
  intro h4
  obtain ⟨t, ht⟩ := Nat.dvd_of_mod_eq_zero h4
  rw [e1, Nat.pow_add, Nat.mul_assoc] at ht
  have h5 : Q / 2 ^ D = 2 ^ (blen q - p) * t := by rw [ht, Nat.mul_div_cancel_left _ (pow_pos2 D)]
  rw [hQ] at h5
  rw [← h5, Nat.mul_comm] at ht
  omega
 unfold cutN cutR
 rw [hdiv, e1, Nat.pow_add, Nat.mul_comm (2 ^ D), ← Nat.mul_assoc]
 rw [e1, Nat.pow_add, Nat.mul_comm (2 ^ D)] at hmod
 congr 2
 cases u <;> simp [hmod]
def stickyR (s x r : Nat) : Nat := 2 * r + if r * r = x * 2 ^ s then 0 else 1
theorem scale_eqs {a y Dn x U P T : Nat} (h : P * U = T * Dn) : a * P * y * U = a * (y * Dn) * T ∧ x * T * U = x * U * T := by
 constructor
 ·have e1 : a * P * y * U = a * y * (P * U) := by ac_rfl
  have e2 : a * (y * Dn) * T = a * y * (T * Dn) := by ac_rfl
  rw [e1, e2, h]
 ac_rfl
theorem scale_le {a y Dn x U P T : Nat} (hU : 0 < U) (h : P * U = T * Dn) (hle : a * (y * Dn) ≤ x * U) : a * P * y ≤ x * T := by
 obtain ⟨e1, e2⟩ := scale_eqs (a := a) (y := y) (x := x) h
 refine Nat.le_of_mul_le_mul_right (c := U) ?_ hU
 rw [e1, e2]
 exact Nat.mul_le_mul_right _ hle
theorem scale_lt {a y Dn x U P T : Nat} (hT : 0 < T) (h : P * U = T * Dn) (hle : x * U < a * (y * Dn)) : x * T < a * P * y := by
 obtain ⟨e1, e2⟩ := scale_eqs (a := a) (y := y) (x := x) h
 refine Nat.lt_of_mul_lt_mul_right (a := U) ?_
 rw [e1, e2]
 exact Nat.mul_lt_mul_of_pos_right hle hT
theorem scale_eq {a y Dn x U P T : Nat} (hU : 0 < U) (hT : 0 < T) (h : P * U = T * Dn) : a * P * y = x * T ↔ a * (y * Dn) = x * U := by
 obtain ⟨e1, e2⟩ := scale_eqs (a := a) (y := y) (x := x) h
 constructor
 ·intro h3
  refine Nat.eq_of_mul_eq_mul_right hT ?_
  rw [← e1, ← e2, h3]
 intro h3
 refine Nat.eq_of_mul_eq_mul_right hU ?_
 rw [e1, e2, h3]
theorem sq_le (h : a ≤ b) : a * a ≤ b * b := Nat.mul_le_mul h h
theorem sq_lt_of (h : a * a < b * b) : a < b := by
 rcases Nat.lt_or_ge a b with h1 | h1
 ·exact h1
 have := sq_le h1; omega
theorem sq_le_of (h : a * a ≤ b * b) : a ≤ b := by
 rcases Nat.lt_or_ge b a with h1 | h1
 ·have h2 := sq_le (show b + 1 ≤ a by omega)
  have e : (b + 1) * (b + 1) = b * b + b + b + 1 := by rw [Nat.add_mul, Nat.mul_add, Nat.mul_one, Nat.one_mul]; omega
  omega
 exact h1
theorem root_bits {p x i j r : Nat} (hx : x ≠ 0) (hp : 1 ≤ p) (hb : 2 * p + j ≤ blen x + i + 1) (hr : x * 2 ^ i / 2 ^ j < (r + 1) * (r + 1)) : p ≤ blen r := by
 obtain ⟨h1, _, h3⟩ := blen_pos hx
 have h4 : 2 ^ (p - 1) * 2 ^ (p - 1) * 2 ^ j ≤ x * 2 ^ i := by
  have h5 := Nat.mul_le_mul_right (2 ^ i) h1
  rw [← Nat.pow_add] at h5 ⊢
  rw [← Nat.pow_add]
  exact Nat.le_trans (Nat.pow_le_pow_right (by omega) (by omega)) h5
 have h5 := (Nat.le_div_iff_mul_le (pow_pos2 j)).2 h4
 have h6 := sq_lt_of (Nat.lt_of_le_of_lt h5 hr)
 rcases Nat.lt_or_ge (blen r) p with h7 | h7
 ·have h8 : r < 2 ^ (p - 1) := (blen_le r (p - 1)).1 (by omega)
  omega
 exact h7
theorem root_cut {p x i j r R S d : Nat} (hx : x ≠ 0) (hp : 1 ≤ p) (hb : 2 * p + j ≤ blen x + i + 1) (h1 : r * r ≤ x * 2 ^ i / 2 ^ j) (h2 : x * 2 ^ i / 2 ^ j < (r + 1) * (r + 1)) (hd : d + d + i = S + j) (hR1 : R * R ≤ x * 2 ^ S) (hR2 : x * 2 ^ S < (R + 1) * (R + 1)) :
  cutN p (stickyR S x R) u * 2 ^ (blen (stickyR S x R) - p) = cutR p r (!decide (r * r * 2 ^ j = x * 2 ^ i)) u * 2 ^ (blen r - p) * 2 ^ (d + 1) := by
 have hbr := root_bits hx hp hb h2
 have hr0 : r ≠ 0 := by
  intro h0
  rw [h0] at hbr
  have : blen 0 ≤ 0 := (blen_le 0 0).2 (by decide)
  omega
 have g1 := (Nat.le_div_iff_mul_le (pow_pos2 j)).1 h1
 have g2 := (Nat.div_lt_iff_lt_mul (pow_pos2 j)).1 h2
 have hP : 2 ^ d * 2 ^ d * 2 ^ i = 2 ^ S * 2 ^ j := by rw [← Nat.pow_add, ← Nat.pow_add, ← Nat.pow_add, hd]
 have hI := pow_pos2 i
 have hM := pow_pos2 S
 have hD : 2 ^ (d + 1) = 2 * 2 ^ d := by rw [Nat.pow_succ, Nat.mul_comm]
 generalize 2 ^ i = I at *
 generalize 2 ^ j = J at *
 unfold stickyR
 generalize 2 ^ S = M at *
 have hd0 := pow_pos2 d
 generalize hdd : 2 ^ d = c at *
 have sqe : ∀ a : Nat, a * c * (a * c) = a * a * (c * c) * 1 := fun a => by rw [Nat.mul_one]; ac_rfl
 have k1 : r * c * (r * c) ≤ x * M := by
  rw [sqe]
  exact scale_le (y := 1) (Dn := J) hI hP (by rw [Nat.one_mul]; exact g1)
 have k2 : x * M < (r + 1) * c * ((r + 1) * c) := by
  rw [sqe]
  exact scale_lt (y := 1) (Dn := J) hM hP (by rw [Nat.one_mul]; exact g2)
 have k3 : r * c * (r * c) = x * M ↔ r * r * J = x * I := by
  rw [sqe, scale_eq (y := 1) (Dn := J) hI hM hP, Nat.one_mul]
 have l1 : r * c ≤ R := by
  have := sq_lt_of (Nat.lt_of_le_of_lt k1 hR2)
  omega
 have l2 : R < (r + 1) * c := sq_lt_of (Nat.lt_of_le_of_lt hR1 k2)
 refine cut_sticky hr0 hbr (fun h => ?_) (fun h => ?_)
 ·have h3 : r * c * (r * c) = x * M := k3.2 (by simpa using h)
  have h4 : R = r * c := by
   have := sq_le_of (show R * R ≤ r * c * (r * c) by omega)
   omega
  rw [if_pos (by rw [h4]; exact h3), hD, h4]
  have e : r * (2 * c) = 2 * (r * c) := by ac_rfl
  omega
 have h3 : ¬ r * c * (r * c) = x * M := fun h4 => by
  have := k3.1 h4
  rw [decide_eq_true this] at h
  cases h
 have e1 : r * (2 * c) = 2 * (r * c) := by ac_rfl
 have e2 : (r + 1) * (2 * c) = 2 * ((r + 1) * c) := by ac_rfl
 rw [hD, e1, e2]
 by_cases hR : R = r * c
 ·rw [if_neg (by rw [hR]; exact h3)]
  omega
 split <;> omega
theorem root_same {p x R S : Nat} {e g k : Int} (hx : x ≠ 0) (hp : 1 ≤ p) (r1 : -1048576 ≤ e) (r2 : e ≤ 1048576)
  (hS1 : 2 * p + 6 ≤ blen x + S) (hS2 : S ≤ 8000) (hg : e - (S : Int) = 2 * g) (hR1 : R * R ≤ x * 2 ^ S) (hR2 : x * 2 ^ S < (R + 1) * (R + 1))
  (h' : RoTold x e p up k2 s2 m2 e2) (h : Nm false (cutN p (stickyR S x R) (up != false)) (g - 1 + ((blen (stickyR S x R) - p : Nat) : Int)) k s' m' e') : k2 = k ∧ s2 = s' ∧ m2 = m' ∧ e2 = e' := by
 obtain ⟨i, j, r, f, ⟨hij, hf, hb1, hb2, hr1, hr2⟩, hN⟩ := h'
 obtain ⟨d, hd⟩ := Int.eq_ofNat_of_zero_le (show 0 ≤ f - g by omega)
 have hcut := root_cut (u := up != false) (d := d) hx hp hb2 hr1 hr2 (by omega) hR1 hR2
 obtain ⟨K, hK⟩ : ∃ K : Nat, 20000000 ≤ K := ⟨_, Nat.le_refl _⟩
 have hE : f = g - 1 + ((d + 1 : Nat) : Int) := by omega
 refine nm_fun hN (nm_congr (K := K) (by omega) (by omega) ?_ h)
 rw [vz_up (by omega), vz_up (by omega)]
 rw [hE, vz_up (by omega), hcut]
theorem two_dbl (w : World) : Box ((w.alloc (.cells #[.bool s1, .slice A1 n1 c1, .int .i64 e1] 28)).alloc (.cells #[.bool s2, .slice A2 n2 c2, .int .i64 e2] 28)) w.heap.size s1 A1 n1 c1 e1 ∧ Box ((w.alloc (.cells #[.bool s1, .slice A1 n1 c1, .int .i64 e1] 28)).alloc (.cells #[.bool s2, .slice A2 n2 c2, .int .i64 e2] 28)) (w.heap.size + 1) s2 A2 n2 c2 e2 :=
 ⟨(two_new w s1 s2 A1 A2 n1 c1 n2 c2 e1 e2).a, (two_new w s1 s2 A1 A2 n1 c1 n2 c2 e1 e2).b⟩
theorem three_dbl (w : World) : Below w.heap.size w (((w.alloc (.cells #[.bool s1, .slice A1 n1 c1, .int .i64 e1] 28)).alloc (.cells #[.bool s2, .slice A2 n2 c2, .int .i64 e2] 28)).alloc (.cells #[.bool false, .slice none 0 0, .int .i64 0] 28)) ∧ Box (((w.alloc (.cells #[.bool s1, .slice A1 n1 c1, .int .i64 e1] 28)).alloc (.cells #[.bool s2, .slice A2 n2 c2, .int .i64 e2] 28)).alloc (.cells #[.bool false, .slice none 0 0, .int .i64 0] 28)) w.heap.size s1 A1 n1 c1 e1 ∧ Box (((w.alloc (.cells #[.bool s1, .slice A1 n1 c1, .int .i64 e1] 28)).alloc (.cells #[.bool s2, .slice A2 n2 c2, .int .i64 e2] 28)).alloc (.cells #[.bool false, .slice none 0 0, .int .i64 0] 28)) (w.heap.size + 1) s2 A2 n2 c2 e2 ∧ Box (((w.alloc (.cells #[.bool s1, .slice A1 n1 c1, .int .i64 e1] 28)).alloc (.cells #[.bool s2, .slice A2 n2 c2, .int .i64 e2] 28)).alloc (.cells #[.bool false, .slice none 0 0, .int .i64 0] 28)) (w.heap.size + 2) false none 0 0 0 := by
 obtain ⟨xa, xb⟩ := two_dbl w (s1 := s1) (A1 := A1) (n1 := n1) (c1 := c1) (e1 := e1) (s2 := s2) (A2 := A2) (n2 := n2) (c2 := c2) (e2 := e2)
 refine ⟨three_below w _ _ _, xa.alloc _, xb.alloc _, ?_⟩
 simpa using Box.new ((w.alloc (.cells #[.bool s1, .slice A1 n1 c1, .int .i64 e1] 28)).alloc (.cells #[.bool s2, .slice A2 n2 c2, .int .i64 e2] 28)) false none 0 0 0
section
variable {w : World} {g g' k i n c x n0 c0 : Nat} {A A0 : Option Addr} {s s0 : Bool} {e e0 : Int} {v u0 u1 u2 : Value}
theorem Box.put3 (h : Box w g' s A n c e) (hne : g' ≠ g) (u0 u1 u2 : Value) : Box (((w.setCell ⟨g, 0, none⟩ u0).setCell ⟨g, 1, none⟩ u1).setCell ⟨g, 2, none⟩ u2) g' s A n c e := ((h.other hne 0 u0).other hne 1 u1).other hne 2 u2
end
open Go.RowKit
theorem Dg.drew {A : Option Addr} {n c x : Nat} (h : Dg w A n c x) : Dg w.drew A n c x := Dg.heap32 h rfl
open Go.RowKit
def quotR (s : Bool) (l : List Nat) (e : Int) (t : Bool) (r : List Nat) (f : Int) (p : Int) (up : Bool) : Int → Bool → Nat → Int → Prop :=
 if (1 ≤ p ∧ p ≤ 2000) ∧ mayD s l e = true ∧ mayD t r f = true then (if val YtehfdfjpmmpndaaGreatDoor.W r = 0 then Outside else QuTold s (val YtehfdfjpmmpndaaGreatDoor.W l) e t (val YtehfdfjpmmpndaaGreatDoor.W r) f p.toNat up) else Wrong
theorem outside_fun (h : Outside k s1 m1 e1) (h' : Outside k2 s2 m2 e2) : k = k2 ∧ s1 = s2 ∧ m1 = m2 ∧ e1 = e2 := by
 obtain ⟨rfl, rfl, rfl, rfl⟩ := h
 obtain ⟨rfl, rfl, rfl, rfl⟩ := h'
 exact ⟨rfl, rfl, rfl, rfl⟩
theorem quotR_fun {l : List Nat} {t : Bool} {r : List Nat} {f p : Int} (h : quotR s l e t r f p up k s1 m1 e1) (h' : quotR s l e t r f p up k2 s2 m2 e2) : k = k2 ∧ s1 = s2 ∧ m1 = m2 ∧ e1 = e2 := by
 unfold quotR at h h'
 split at h
 ·rw [if_pos (by assumption)] at h'
  split at h
  ·rw [if_pos (by assumption)] at h'; exact outside_fun h h'
  rw [if_neg (by assumption)] at h'; exact nm_fun h h'
 rw [if_neg (by assumption)] at h'; exact wrong_fun h h'
theorem dquot_raw {l1 : List Nat} {l2 : List Nat} {p : Int} (hT : Tab w) (h1 : Rd w .u64 YtehfdfjpmmpndaaGreatDoor.W A1 n1 c1 l1) (h2 : Rd w .u64 YtehfdfjpmmpndaaGreatDoor.W A2 n2 c2 l2) :
  Calls Tryz.prog 147 #[.agg #[.bool s1, .slice A1 n1 c1, .int .i64 e1], .agg #[.bool s2, .slice A2 n2 c2, .int .i64 e2], .int .i64 p, .bool up] w (Tells (quotR s1 l1 e1 s2 l2 e2 p up) w) := by
 unfold quotR
 by_cases hd : (1 ≤ p ∧ p ≤ 2000) ∧ mayD s1 l1 e1 = true ∧ mayD s2 l2 e2 = true
 ·rw [if_pos hd]
  obtain ⟨q, rfl⟩ := Int.eq_ofNat_of_zero_le (show 0 ≤ p by omega)
  obtain ⟨hN, hok, _⟩ := rd_okd h1 hd.2.1
  obtain ⟨hN', hok', _⟩ := rd_okd h2 hd.2.2
  by_cases hy : val YtehfdfjpmmpndaaGreatDoor.W l2 = 0
  ·rw [if_pos hy]
   exact rquot_zero hT hN hN' hok hok' (by omega) (by omega) hy
  rw [if_neg hy]
  exact rquot_ok hT hN hN' hok hok' (by omega) (by omega) hy
 rw [if_neg hd]
 refine rquot_no hT h1 h2 ?_
 by_cases hp : 1 ≤ p ∧ p ≤ 2000
 ·refine .inr (.inr ?_)
  cases q : mayD s1 l1 e1 <;> cases q' : mayD s2 l2 e2 <;> first | rfl | exact absurd ⟨hp, q, q'⟩ hd
 omega
open Go.RowKit
theorem root_nought (h : RoTold 0 e p up k s' m' e') : k = 0 ∧ s' = false ∧ m' = 0 ∧ e' = 0 := by
 obtain ⟨i, j, r, f, ⟨_, _, _, _, h1, _⟩, hN⟩ := h
 have hr : r = 0 := by
  rw [Nat.zero_mul, Nat.zero_div] at h1
  rcases Nat.mul_eq_zero.1 (Nat.le_zero.1 h1) with h2 | h2 <;> exact h2
 have e : cutR p r (!decide (r * r * 2 ^ j = 0 * 2 ^ i)) (up != false) = 0 := by
  rw [hr]
  unfold cutR
  simp
 rw [e] at hN
 exact nm_fun hN (.inl ⟨rfl, rfl, rfl, rfl, rfl⟩)
def SqTold (x : Nat) (e : Int) (p : Nat) (up : Bool) (k : Int) (s' : Bool) (m' : Nat) (e' : Int) : Prop :=
 ∃ (R S : Nat) (g : Int), (2 * p + 6 ≤ blen x + S ∧ S ≤ 8000 ∧ e - (S : Int) = 2 * g ∧ R * R ≤ x * 2 ^ S ∧ x * 2 ^ S < (R + 1) * (R + 1)) ∧ Nm false (cutN p (stickyR S x R) (up != false)) (g - 1 + ((blen (stickyR S x R) - p : Nat) : Int)) k s' m' e'
def Nought (k : Int) (s' : Bool) (m' : Nat) (e' : Int) : Prop := k = 0 ∧ s' = false ∧ m' = 0 ∧ e' = 0
def rootR (s : Bool) (l : List Nat) (e : Int) (p : Int) (up : Bool) : Int → Bool → Nat → Int → Prop :=
 if (1 ≤ p ∧ p ≤ 2000) ∧ mayD s l e = true then (if s = true then Outside else RoTold (val YtehfdfjpmmpndaaGreatDoor.W l) e p.toNat up) else Wrong
def rootQ (s : Bool) (l : List Nat) (e : Int) (p : Int) (up : Bool) : Int → Bool → Nat → Int → Prop :=
 if (1 ≤ p ∧ p ≤ 2000) ∧ mayD s l e = true then (if s = true then Outside else if val YtehfdfjpmmpndaaGreatDoor.W l = 0 then Nought else SqTold (val YtehfdfjpmmpndaaGreatDoor.W l) e p.toNat up) else Wrong
theorem root_agree {l : List Nat} {e p : Int} (hlt : Lt YtehfdfjpmmpndaaGreatDoor.W l) (h : rootR s l e p up k s1 m1 e1) (h' : rootQ s l e p up k2 s2 m2 e2) : k = k2 ∧ s1 = s2 ∧ m1 = m2 ∧ e1 = e2 := by
 unfold rootR at h
 unfold rootQ at h'
 by_cases hd : (1 ≤ p ∧ p ≤ 2000) ∧ mayD s l e = true
 ·rw [if_pos hd] at h h'
  by_cases hs : s = true
  ·rw [if_pos hs] at h h'; exact outside_fun h h'
  rw [if_neg hs] at h h'
  by_cases hx : val YtehfdfjpmmpndaaGreatDoor.W l = 0
  ·rw [if_pos hx] at h'
   rw [hx] at h
   obtain ⟨rfl, rfl, rfl, rfl⟩ := root_nought h
   obtain ⟨rfl, rfl, rfl, rfl⟩ := h'
   exact ⟨rfl, rfl, rfl, rfl⟩
  rw [if_neg hx] at h'
  obtain ⟨R, S, g, ⟨g1, g2, g3, g4, g5⟩, hN⟩ := h'
  obtain ⟨_, hok⟩ := mayD_of hlt hd.2
  have r := okd_ge (K := 4194304) (Nat.le_refl _) hok
  exact root_same hx (by omega) r.1 r.2.1 g1 g2 g3 g4 g5 h hN
 rw [if_neg hd] at h h'; exact wrong_fun h h'
theorem root_has (m : Nat) : ∃ R : Nat, R * R ≤ m ∧ m < (R + 1) * (R + 1) := by
 induction m with
 | zero => exact ⟨0, by decide, by decide⟩
 | succ m ih =>
  obtain ⟨R, h1, h2⟩ := ih
  by_cases h : m + 1 < (R + 1) * (R + 1)
  ·exact ⟨R, by omega, h⟩
  have e : (R + 1 + 1) * (R + 1 + 1) = (R + 1) * (R + 1) + (R + 1) + (R + 1) + 1 := by rw [Nat.add_mul (R + 1) 1, Nat.mul_add (R + 1), Nat.mul_one, Nat.one_mul]; omega
  exact ⟨R + 1, by omega, by omega⟩
theorem droot_raw {l1 : List Nat} {p : Int} (hT : Tab w) (h1 : Rd w .u64 YtehfdfjpmmpndaaGreatDoor.W A1 n1 c1 l1) :
  Calls Tryz.prog 148 #[.agg #[.bool s1, .slice A1 n1 c1, .int .i64 e1], .int .i64 p, .bool up] w (Tells (rootR s1 l1 e1 p up) w) := by
 unfold rootR
 by_cases hd : (1 ≤ p ∧ p ≤ 2000) ∧ mayD s1 l1 e1 = true
 ·rw [if_pos hd]
  obtain ⟨q, rfl⟩ := Int.eq_ofNat_of_zero_le (show 0 ≤ p by omega)
  obtain ⟨hN, hok, _⟩ := rd_okd h1 hd.2
  by_cases hs : s1 = true
  ·rw [if_pos hs]
   exact rroot_neg hT hN hok (by omega) (by omega) hs
  rw [if_neg hs]
  exact rroot_ok hT hN hok (by omega) (by omega) (Bool.eq_false_iff.2 hs)
 rw [if_neg hd]
 refine rroot_no hT h1 ?_
 by_cases hp : 1 ≤ p ∧ p ≤ 2000
 ·exact .inr (.inr (Bool.eq_false_iff.2 fun h => hd ⟨hp, h⟩))
 omega
end Go.Proofs.YtehfdfjpmmpndaaGreatDoor
