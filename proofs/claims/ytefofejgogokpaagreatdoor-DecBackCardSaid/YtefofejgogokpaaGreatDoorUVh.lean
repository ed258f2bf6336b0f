/-
 Plain facts on quotients and roots that are reckoned to some bits more, their last bit set if anything is left: cut to p bits they are what the shorter ones with their rests are. No condition; nothing of the program is named here.
-/
import Derived.Test.YtefofejgogokpaaGreatDoorURt
import Derived.Test.YtefofejgogokpaaGreatDoorURe
import Derived.Test.YtefofejgogokpaaGreatDoorUKj
namespace Go.Proofs.YtefofejgogokpaaGreatDoor

theorem cutR_le {p x : Nat} {rest : Bool} : cutR p x rest false * 2 ^ (blen x - p) ≤ x := by
 unfold cutR
 simp only [Bool.false_eq_true, false_and, if_false, Nat.add_zero]
 exact Nat.div_mul_le_self _ _
theorem cutR_ge {p x : Nat} {rest : Bool} : x ≤ cutR p x rest true * 2 ^ (blen x - p) ∧ (rest = true → x + 1 ≤ cutR p x rest true * 2 ^ (blen x - p)) := by
 have h := cut_parts p x
 have h2 := Nat.mod_lt x (pow_pos2 (blen x - p))
 unfold cutR
 by_cases hr : x % 2 ^ (blen x - p) = 0
 ·cases rest
  ·rw [if_neg (by simp [hr]), Nat.add_zero]
   exact ⟨by omega, fun h => by cases h⟩
  ·rw [if_pos ⟨rfl, .inl rfl⟩, Nat.add_mul, Nat.one_mul]
   exact ⟨by omega, fun _ => by omega⟩
 ·rw [if_pos ⟨rfl, .inr hr⟩, Nat.add_mul, Nat.one_mul]
  exact ⟨by omega, fun _ => by omega⟩
theorem cutR_fits {p x : Nat} {rest u : Bool} (hp : 1 ≤ p) : Fits p (cutR p x rest u) := by
 have h := cut_lt p x
 have h2 : cutR p x rest u ≤ x / 2 ^ (blen x - p) + 1 := by unfold cutR; split <;> omega
 by_cases h3 : cutR p x rest u < 2 ^ p
 ·exact fits_of h3
 ·have h4 : cutR p x rest u = 2 ^ p := by omega
  rw [h4]
  exact ⟨1, p, by omega, Nat.one_lt_two_pow (by omega)⟩
theorem side_bits {p : Nat} {s : Bool} {x : Nat} {e k : Int} {rest u : Bool} {s' : Bool} {m' : Nat} {e' : Int} (hp : 1 ≤ p) (h : Nm s (cutR p x rest u) e k s' m' e') : blen m' ≤ p := (okd_fits (nm_okd h)).1 (nm_fits h (cutR_fits hp))
end Go.Proofs.YtefofejgogokpaaGreatDoor

namespace Go.Proofs.YtefofejgogokpaaGreatDoor

end Go.Proofs.YtefofejgogokpaaGreatDoor

namespace Go.Proofs.YtefofejgogokpaaGreatDoor

end Go.Proofs.YtefofejgogokpaaGreatDoor
namespace Go.Proofs.YtefofejgogokpaaGreatDoor

theorem span_app {a r : List UInt8} (ha : Digs a) (hr : r = [] ∨ ∃ c t, r = c :: t ∧ isDig c = false) : spanD (a ++ r) = a ∧ restD (a ++ r) = r := by
 induction a with
 | nil =>
  rcases hr with rfl | ⟨c, t, rfl, hc⟩
  ·exact ⟨rfl, rfl⟩
  ·constructor
   ·show List.takeWhile isDig (c :: t) = []
    rw [List.takeWhile_cons, hc]
    rfl
   ·show List.dropWhile isDig (c :: t) = c :: t
    rw [List.dropWhile_cons, hc]
    rfl
 | cons x xs ih =>
  have hx : isDig x = true := ha x List.mem_cons_self
  obtain ⟨h1, h2⟩ := ih (fun c hc => ha c (List.mem_cons_of_mem _ hc))
  constructor
  ·show List.takeWhile isDig (x :: (xs ++ r)) = x :: xs
   rw [List.takeWhile_cons, hx, if_pos rfl]
   exact congrArg _ h1
  ·show List.dropWhile isDig (x :: (xs ++ r)) = r
   rw [List.dropWhile_cons, hx, if_pos rfl]
   exact h2
theorem read_plain {a : List UInt8} (ha : Digs a) (h0 : a ≠ []) (hl : a.length ≤ 60) : readD a = some (a, 0) := by
 obtain ⟨h1, h2⟩ := span_app (r := []) ha (.inl rfl)
 rw [List.append_nil] at h1 h2
 unfold readD
 rw [h1, h2, if_neg (fun h => h.elim (fun h => by omega) h0)]
 show some (a ++ [], (0 : Int) - (([] : List UInt8).length : Int)) = some (a, 0)
 rw [List.append_nil]
 rfl
theorem read_point {a b : List UInt8} (ha : Digs a) (h0 : a ≠ []) (hb : Digs b) (h1 : b ≠ []) (hl : a.length + 1 + b.length ≤ 60) : readD (a ++ 46 :: b) = some (a ++ b, -(b.length : Int)) := by
 obtain ⟨h2, h3⟩ := span_app (r := 46 :: b) ha (.inr ⟨46, b, rfl, by decide⟩)
 obtain ⟨h4, h5⟩ := span_app (r := []) hb (.inl rfl)
 rw [List.append_nil] at h4 h5
 have hp : partD (46 :: b) = some (b, []) := by
  unfold partD
  rw [show Lib.hasPrefix (46 :: b) [46] = true from rfl, if_pos rfl, show Lib.trimPrefix (46 :: b) [46] = b from rfl, h4, h5, if_neg h1]
 unfold readD
 rw [h2, h3, hp, if_neg (fun h => h.elim (fun h => by rw [List.length_append, List.length_cons] at h; omega) h0)]
 show some (a ++ b, (0 : Int) - (b.length : Int)) = some (a ++ b, -(b.length : Int))
 rw [Int.zero_sub]
theorem digs_take {l : List UInt8} (h : Digs l) (n : Nat) : Digs (l.take n) := fun c hc => h c (List.mem_of_mem_take hc)
theorem digs_drop {l : List UInt8} (h : Digs l) (n : Nat) : Digs (l.drop n) := fun c hc => h c (List.mem_of_mem_drop hc)
/-- a quotient times the divisor, as values -/
theorem quot_valD {K : Nat} {s : Bool} {x : Nat} {e : Int} {y : Nat} {f : Int} {p : Nat} {up : Bool} {s' : Bool} {m' : Nat} {e' : Int} (hK : 4194304 ≤ K) (hy : y ≠ 0) (hp : p ≤ 2000) (bx : blen x ≤ 4096) (bY : blen y ≤ 4096) (r1 : -1048576 ≤ e ∧ e ≤ 1048576) (r2 : -1048576 ≤ f ∧ f ≤ 1048576)
  (h : QuTold s x e false y f p up 0 s' m' e') : (up = false → vz K s' m' e' * vz K false y f ≤ vz K s x e * ((2 ^ K : Nat) : Int)) ∧ (up = true → vz K s x e * ((2 ^ K : Nat) : Int) ≤ vz K s' m' e' * vz K false y f) := by
 have r3 := okd_ge hK (nm_okd h)
 have hk : (p : Int) + (blen y : Int) - (blen x : Int) = ((kUp p x y : Nat) : Int) - ((kDn p x y : Nat) : Int) := by unfold kUp kDn; omega
 have hi : kUp p x y ≤ 10000 := by unfold kUp; omega
 have hj : kDn p x y ≤ 10000 := by unfold kDn; omega
 unfold QuTold at h
 rw [hk] at h
 generalize kUp p x y = i at *
 generalize kDn p x y = j at *
 have hsf : (s != false) = s := by cases s <;> rfl
 rw [hsf] at h
 have hD : 0 < y * 2 ^ j := Nat.mul_pos (Nat.pos_of_ne_zero hy) (pow_pos2 j)
 obtain ⟨rest, hrest⟩ : ∃ r : Bool, r = !decide (x * 2 ^ i % (y * 2 ^ j) = 0) := ⟨_, rfl⟩
 rw [← hrest] at h
 have hdm := Nat.div_add_mod (x * 2 ^ i) (y * 2 ^ j)
 have hml := Nat.mod_lt (x * 2 ^ i) hD
 generalize hq : x * 2 ^ i / (y * 2 ^ j) = q at *
 obtain ⟨L, hL⟩ : ∃ L, L = cutR p q rest (up != s) * 2 ^ (blen q - p) := ⟨_, rfl⟩
 have hside : ((up != s) = false → L * (y * 2 ^ j) ≤ x * 2 ^ i) ∧ ((up != s) = true → x * 2 ^ i ≤ L * (y * 2 ^ j)) := by
  constructor
  ·intro hu
   rw [hu] at hL
   have h1 : L ≤ q := by rw [hL]; exact cutR_le
   have h2 := Nat.mul_le_mul_right (y * 2 ^ j) h1
   rw [Nat.mul_comm q] at h2
   omega
  ·intro hu
   rw [hu] at hL
   obtain ⟨h1, h2⟩ := cutR_ge (p := p) (x := q) (rest := rest)
   rw [← hL] at h1 h2
   cases hr : rest
   ·rw [hr] at hrest
    have h3 : x * 2 ^ i % (y * 2 ^ j) = 0 := by
     have := hrest.symm
     simpa using this
    have h4 := Nat.mul_le_mul_right (y * 2 ^ j) h1
    rw [Nat.mul_comm q] at h4
    omega
   ·have h4 := Nat.mul_le_mul_right (y * 2 ^ j) (h2 hr)
    rw [Nat.add_mul, Nat.one_mul, Nat.mul_comm q] at h4
    omega
 have hE : -(K : Int) ≤ e - f - ((i : Int) - (j : Int)) := by omega
 have v1 := nm_value (K := K) (by omega) h
 rw [vz_up hE, ← hL] at v1
 have m2 := vz_mul (K := K) (s := s) (t := false) (m := L) (n := y) (e := e - f - ((i : Int) - (j : Int))) (f := f) hE (by omega) (by omega)
 have e1 : e - f - ((i : Int) - (j : Int)) + f = (e - (i : Int)) + ((j : Nat) : Int) := by omega
 have e2 : e = (e - (i : Int)) + ((i : Nat) : Int) := by omega
 have v3 := vz_up (K := K) (s := s) (m := L * y) (e := e - (i : Int)) (by omega) j
 have v4 := vz_up (K := K) (s := s) (m := x) (e := e - (i : Int)) (by omega) i
 rw [hsf, e1, v3, Nat.mul_assoc] at m2
 rw [← e2] at v4
 rw [v1, m2, v4]
 constructor
 ·intro hu
  refine Int.mul_le_mul_of_nonneg_right ?_ (Int.le_of_lt pos_of_pow)
  cases hs : s
  ·rw [hu, hs] at hside; exact (vz_mono (hside.1 rfl)).1 rfl
  ·rw [hu, hs] at hside; exact (vz_mono (hside.2 rfl)).2 rfl
 ·intro hu
  refine Int.mul_le_mul_of_nonneg_right ?_ (Int.le_of_lt pos_of_pow)
  cases hs : s
  ·rw [hu, hs] at hside; exact (vz_mono (hside.2 rfl)).1 rfl
  ·rw [hu, hs] at hside; exact (vz_mono (hside.1 rfl)).2 rfl
theorem quot_size {s1 : Bool} {x : Nat} {e1 : Int} {s2 : Bool} {y : Nat} {e2 : Int} {p : Nat} {up : Bool} {s : Bool} {m : Nat} {e : Int} (h : QuTold s1 x e1 s2 y e2 p up 0 s m e) (hp1 : 1 ≤ p) (hp : p ≤ 2000) (bx : blen x ≤ 4096) (hb : blen y ≤ 4096) (h1 : -10000 ≤ e1) (h2 : e1 ≤ 10000) (h3 : -10000 ≤ e2) (h4 : e2 ≤ 10000) : OkD s m e ∧ blen m ≤ p ∧ -100000 ≤ e ∧ e ≤ 100000 := by
 unfold QuTold at h
 have hq : blen (x * 2 ^ kUp p x y / (y * 2 ^ kDn p x y)) ≤ 20000 := by
  refine Nat.le_trans (blen_mono (Nat.div_le_self _ _)) (Nat.le_trans (blen_up _ _) ?_)
  unfold kUp
  omega
 have hc : blen (cutR p (x * 2 ^ kUp p x y / (y * 2 ^ kDn p x y)) (!decide (x * 2 ^ kUp p x y % (y * 2 ^ kDn p x y) = 0)) (up != (s1 != s2))) ≤ 20001 := by
  refine Nat.le_trans (blen_mono (show _ ≤ x * 2 ^ kUp p x y / (y * 2 ^ kDn p x y) * 2 + 1 from ?_)) ?_
  ·have h5 := Nat.div_le_self (x * 2 ^ kUp p x y / (y * 2 ^ kDn p x y)) (2 ^ (blen (x * 2 ^ kUp p x y / (y * 2 ^ kDn p x y)) - p))
   unfold cutR
   split <;> omega
  ·generalize x * 2 ^ kUp p x y / (y * 2 ^ kDn p x y) = q at *
   refine Nat.le_trans ((blen_le _ (blen q + 1)).2 ?_) (by omega)
   have h7 := (blen_le q _).1 (Nat.le_refl _)
   rw [Nat.pow_succ]
   omega
 have h6 := nm_exp h
 refine ⟨nm_okd h, side_bits hp1 h, ?_, ?_⟩
 ·omega
 ·omega
theorem nm_plain {m : Nat} {e : Int} {s' : Bool} {m' : Nat} {e' : Int} (h : Nm false m e 0 s' m' e') : s' = false := by
 rcases h with ⟨_, _, h, _⟩ | ⟨k, q, _, ⟨_, _, h, _⟩ | ⟨_, _, _, h, _⟩ | ⟨_, _, _, h, _⟩⟩ <;> exact h
/-- the ends of a literal's interval -/
theorem lit_ends {K p k : Nat} {d : List UInt8} {x : Iv} (hK : 4194304 ≤ K) (hp1 : 1 ≤ p) (hp : p ≤ 2000) (hk : k ≤ 160) (hd : Digs d) (hl : d.length ≤ 60) (h : LitQ d (-(k : Int)) p x) :
  ∃ s3 v3 f3 s4 v4 f4, x = ⟨rwOf s3 v3 f3, rwOf s4 v4 f4⟩ ∧ (OkD s3 v3 f3 ∧ blen v3 ≤ p ∧ -100000 ≤ f3 ∧ f3 ≤ 100000) ∧ (OkD s4 v4 f4 ∧ blen v4 ≤ p ∧ -100000 ≤ f4 ∧ f4 ≤ 100000) ∧ vz K s3 v3 f3 * ((10 ^ k : Nat) : Int) ≤ ((numV d * 2 ^ K : Nat) : Int) ∧ ((numV d * 2 ^ K : Nat) : Int) ≤ vz K s4 v4 f4 * ((10 ^ k : Nat) : Int) := by
 obtain ⟨s1, v1, f1, s2, v2, f2, s3, v3, f3, s4, v4, f4, n1, n2, q1, q2, rfl⟩ := h
 obtain ⟨t1, w1, g1, t2, w2, g2, m1, m2, hv, b1, b2, r1, r2, r3, r4⟩ := lit_norms hd hl (show -160 ≤ -(k : Int) by omega) (by omega)
 obtain ⟨-, rfl, rfl, rfl⟩ := nm_fun n1 m1
 obtain ⟨-, rfl, rfl, rfl⟩ := nm_fun n2 m2
 clear m1 m2
 rw [show (-(k : Int)).toNat = 0 by omega, Nat.pow_zero, Nat.mul_one] at n1
 rw [show (-(-(k : Int))).toNat = k by omega] at n2
 obtain rfl := nm_plain n1
 obtain rfl := nm_plain n2
 have A := nm_value (K := K) (by omega) n1
 have B := nm_value (K := K) (by omega) n2
 have l1 := (quot_valD hK hv hp b1 b2 (by omega) (by omega) q1).1 rfl
 have l2 := (quot_valD hK hv hp b1 b2 (by omega) (by omega) q2).2 rfl
 refine ⟨s3, v3, f3, s4, v4, f4, rfl, quot_size q1 hp1 hp b1 b2 r1 r2 r3 r4, quot_size q2 hp1 hp b1 b2 r1 r2 r3 r4, ?_⟩
 rw [A, B] at l1 l2
 clear A B n1 n2 q1 q2 b1 b2 r1 r2 r3 r4 hv
 generalize vz K s3 v3 f3 = a at *
 generalize vz K s4 v4 f4 = b at *
 unfold vz at l1 l2
 rw [show sg false = 1 from rfl, Int.one_mul, Int.one_mul, show ((0 : Int) + (K : Int)).toNat = K by omega, show (-(k : Int) + (K : Int)).toNat = K - k by omega, Int.natCast_mul (5 ^ k), Int.natCast_mul (numV d)] at l1 l2
 have hz : ((2 ^ (K - k) : Nat) : Int) * ((2 ^ k : Nat) : Int) = ((2 ^ K : Nat) : Int) := by rw [← Int.natCast_mul, ← Nat.pow_add]; congr 2; omega
 have ht : ((10 ^ k : Nat) : Int) = ((5 ^ k : Nat) : Int) * ((2 ^ k : Nat) : Int) := by rw [← Int.natCast_mul, ← Nat.mul_pow]
 have hP : (0 : Int) < ((2 ^ K : Nat) : Int) := pos_of_pow
 have hZ : (0 : Int) ≤ ((2 ^ k : Nat) : Int) := Int.le_of_lt pos_of_pow
 rw [ht, Int.natCast_mul (numV d), ← hz]
 generalize ((2 ^ K : Nat) : Int) = P at *
 generalize ((2 ^ (K - k) : Nat) : Int) = Y at *
 generalize ((2 ^ k : Nat) : Int) = Z at *
 generalize ((5 ^ k : Nat) : Int) = F at *
 generalize ((numV d : Nat) : Int) = V at *
 rw [← Int.mul_assoc] at l1 l2
 have l3 := Int.mul_le_mul_of_nonneg_right (Int.le_of_mul_le_mul_right l1 hP) hZ
 have l4 := Int.mul_le_mul_of_nonneg_right (Int.le_of_mul_le_mul_right l2 hP) hZ
 rw [Int.mul_assoc, Int.mul_assoc] at l3 l4
 exact ⟨l3, l4⟩
theorem okd_lt {s : Bool} {m : Nat} {e : Int} (h : OkD s m e) : m < Go.Proofs.YtefofejgogokpaaGreatDoor.W ^ 64 := by
 rcases h with ⟨rfl, _⟩ | ⟨_, h, _⟩
 ·exact small64 (by omega)
 ·exact h
end Go.Proofs.YtefofejgogokpaaGreatDoor
