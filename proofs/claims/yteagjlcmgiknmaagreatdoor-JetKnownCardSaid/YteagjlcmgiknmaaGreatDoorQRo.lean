/-
 Contracts of the reference's May and of the statements' helper is, at this translation. Condition: the slices read as limbs, or as digits of sixteen bits.
-/
import Derived.Test.YteagjlcmgiknmaaGreatDoorQCaps
import Derived.OwnWalk
namespace Go.Proofs.YteagjlcmgiknmaaGreatDoor
open Go.RowKit

theorem nt_of {w : World} {A : Option Addr} {n c : Nat} {l : List Nat} (h : Rd w .u64 W A n c l) (hb : mayB l = true) : Nt w A n c (val W l) ∧ Can W l ∧ n ≤ 64 := by
 unfold mayB at hb
 simp only [Bool.and_eq_true, Bool.or_eq_true, decide_eq_true_eq] at hb
 have hn : n ≤ 64 := by rw [← h.len]; exact hb.1
 have hc : Can W l := ⟨h.lt, fun h0 => hb.2.resolve_left h0⟩
 refine ⟨⟨by rw [dig_val W_two hc]; exact h, ?_⟩, hc, hn⟩
 have h1 := val_lt h.lt
 rw [h.len] at h1
 exact Nat.lt_of_lt_of_le h1 (Nat.pow_le_pow_right (by rw [W_eq]; omega) hn)
end Go.Proofs.YteagjlcmgiknmaaGreatDoor

namespace Go.Proofs.YteagjlcmgiknmaaGreatDoor
open Go.RowKit

/-- what a call has made by append reads as numbers -/
def Own (base : Nat) (w : World) (e : TypeId) (k : IntKind) (v : Value) (l : List Nat) : Prop := w.ownsRow base e 1 v l.length (iv k l)
theorem Own.nil (base : Nat) (w : World) (e : TypeId) (k : IntKind) : Own base w e k (.slice none 0 0) [] := World.ownsRow_nil ..
theorem Own.rd {base B : Nat} {w : World} {e : TypeId} {k : IntKind} {v : Value} {l : List Nat} (h : Own base w e k v l) (hl : Lt B l) : ∃ A c, v = .slice A l.length c ∧ Rd w k B A l.length c l := by
 by_cases h0 : l.length = 0
 ·obtain rfl : l = [] := List.eq_nil_of_length_eq_zero h0
  rcases h.2 with ⟨rfl, _⟩ | ⟨g, cap, cur, rfl, _, _, _, hm, _⟩
  ·exact ⟨none, 0, rfl, Rd.nil _ _ _ _ (by omega)⟩
  ·exact ⟨some ⟨g, 0, none⟩, cap, rfl, Rd.nil _ _ _ _ (by unfold maxLen at hm; omega)⟩
 ·obtain ⟨g, cap, post, rfl, _, hc, hm, hrow⟩ := Row.of_own h h0
  exact ⟨_, _, rfl, hrow.rd hl hc (by unfold maxLen at hm; omega)⟩
theorem Own.below {base : Nat} {w w' : World} {e : TypeId} {k : IntKind} {v : Value} {l : List Nat} (h : Own base w e k v l) (hb : Below w.heap.size w w') : Own base w' e k v l :=
 h.kept (grownBy_below hb none) (by cases hv : v.ownBlock <;> simp)

theorem Own.drew {base : Nat} {w : World} {e : TypeId} {k : IntKind} {v : Value} {l : List Nat} (h : Own base w e k v l) : Own base w.drew e k v l := h
/-- a slice that reads as the digits of a number -/
def Dg (w : World) (A : Option Addr) (n c x : Nat) : Prop := Rd w .u32 H A n c (dig H x)
theorem Dg.below {w w' : World} {A : Option Addr} {n c x : Nat} (h : Dg w A n c x) (hb : Below w.heap.size w w') : Dg w' A n c x := Rd.below h hb
end Go.Proofs.YteagjlcmgiknmaaGreatDoor

namespace Go.Proofs.YteagjlcmgiknmaaGreatDoor
open Go.RowKit

end Go.Proofs.YteagjlcmgiknmaaGreatDoor

namespace Go.Proofs.YteagjlcmgiknmaaGreatDoor
open Go.RowKit

end Go.Proofs.YteagjlcmgiknmaaGreatDoor

namespace Go.Proofs.YteagjlcmgiknmaaGreatDoor
open Go.RowKit

end Go.Proofs.YteagjlcmgiknmaaGreatDoor
namespace Go.Proofs.YteagjlcmgiknmaaGreatDoor
open Go.RowKit

theorem blen_shift {x k : Nat} (h : x ≠ 0) : blen (x * 2 ^ k) = blen x + k := by
 obtain ⟨h1, h2, h3⟩ := blen_pos h
 have hp : 0 < 2 ^ k := Nat.pow_pos Nat.zero_lt_two
 have e : blen x + k = (blen x - 1 + k) + 1 := by omega
 rw [e]
 refine blen_eq ?_ ?_
 ·rw [Nat.pow_add]; exact Nat.mul_le_mul_right _ h1
 ·have e2 : blen x - 1 + k + 1 = blen x + k := by omega
  rw [e2, Nat.pow_add]
  exact Nat.mul_lt_mul_of_pos_right h2 hp
theorem low_lt {x l m : Nat} (h : IsLow x l) (hx : x < 2 ^ m) : l < m := by
 obtain ⟨a, rfl⟩ := h
 rcases Nat.lt_or_ge l m with h1 | h1
 ·exact h1
 ·exfalso
  have h2 : 2 ^ m ≤ 2 ^ l := Nat.pow_le_pow_right Nat.zero_lt_two h1
  have h3 : 2 ^ l * 1 ≤ 2 ^ l * (2 * a + 1) := Nat.mul_le_mul_left _ (by omega)
  generalize 2 ^ l * (2 * a + 1) = p at *
  generalize 2 ^ l = q at *
  generalize 2 ^ m = r at *
  omega
end Go.Proofs.YteagjlcmgiknmaaGreatDoor

namespace Go.Proofs.YteagjlcmgiknmaaGreatDoor
open Go.RowKit

theorem norm_any {w : World} {A : Option Addr} {n c : Nat} {l : List Nat} (h : Rd w .u64 W A n c l) (hn : n ≤ 1000000) :
  Calls Tryz.prog 13 #[.slice A n c] w fun e w' => ∃ A' n' c', e = .returned (.slice A' n' c') ∧ Rd w' .u64 W A' n' c' (dig W (val W l)) ∧ Below w.heap.size w w' := by
 have ht := rd_trimmed h
 have hle := (take_dig W_two h.lt).1
 rw [h.len] at hle
 go_enter Tryz.func13, Tryz.ntmps13
 go_wp2_with fail
 refine (trimmed_any h).mono ?_
 rintro e w' ⟨rfl, rfl⟩
 go_wp2_with fail
 refine (clone_any ht (by omega)).mono ?_
 rintro e w1 ⟨A', c', rfl, hr, hb, _⟩
 go_wp2
 go_ret
 exact ⟨_, _, _, rfl, hr, hb⟩

theorem Dg.len {w : World} {A : Option Addr} {n c x : Nat} (h : Dg w A n c x) : (dig H x).length = n := Rd.len h
theorem Dg.cap {w : World} {A : Option Addr} {n c x : Nat} (h : Dg w A n c x) : n ≤ c := Rd.cap h
theorem Dg.max {w : World} {A : Option Addr} {n c x : Nat} (h : Dg w A n c x) : c ≤ 9223372036854775807 := Rd.max h
theorem Dg.zero {w : World} {A : Option Addr} {n c x : Nat} (h : Dg w A n c x) : n = 0 ↔ x = 0 := by
 rw [← h.len]; exact dig_len_zero H_two
theorem Dg.lt {w : World} {A : Option Addr} {n c x : Nat} (h : Dg w A n c x) : x < H ^ n := (len_dig H_two x n).1 (by rw [h.len]; exact Nat.le_refl _)

theorem low_has {x : Nat} (h : x ≠ 0) : ∃ k, IsLow x k := by
 induction x using Nat.strongRecOn with
 | ind x ih =>
  by_cases h2 : x % 2 = 1
  ·exact ⟨0, x / 2, by rw [Nat.pow_zero]; omega⟩
  ·obtain ⟨k, m, hm⟩ := ih (x / 2) (by omega) (by omega)
   exact ⟨k + 1, m, by rw [Nat.pow_succ, Nat.mul_comm (2 ^ k) 2, Nat.mul_assoc, ← hm]; omega⟩

end Go.Proofs.YteagjlcmgiknmaaGreatDoor
namespace Go.Proofs.YteagjlcmgiknmaaGreatDoor
open Go.RowKit

theorem Dg.nil (w : World) (A : Option Addr) {c : Nat} (hc : c ≤ 9223372036854775807) : Dg w A 0 c 0 := by unfold Dg; rw [dig_zero]; exact Rd.nil _ _ _ _ hc

end Go.Proofs.YteagjlcmgiknmaaGreatDoor

namespace Go.Proofs.YteagjlcmgiknmaaGreatDoor
open Go.RowKit

end Go.Proofs.YteagjlcmgiknmaaGreatDoor

namespace Go.Proofs.YteagjlcmgiknmaaGreatDoor
open Go.RowKit

theorem low_bad {w : World} {A : Option Addr} {n c : Nat} {l : List Nat} (h : Rd w .u64 W A n c l) (hb : mayB l = false) : Calls Tryz.prog 57 #[.slice A n c] w fun e w' => e = .returned (.int .i64 (-1)) ∧ w = w' := by
 go_enter Tryz.func57, Tryz.ntmps57
 go_wp2
 go_step3
 go_wp2_with fail
 refine (may_no h hb).mono ?_
 rintro e w' ⟨rfl, rfl⟩
 go_wp2
 rw [Exit.noGoto_ret]
 go_ret
 exact ⟨rfl, rfl⟩
theorem shl_nought {w : World} {A : Option Addr} {c s : Nat} (h : Nt w A 0 c 0) :
  Calls Tryz.prog 104 #[.slice A 0 c, .int .i64 s] w fun e w' => e = .returned (.tuple #[.slice none 0 0, .int .i64 0]) ∧ w = w' := by
 go_enter Tryz.func104, Tryz.ntmps104
 go_wp2_with fail
 refine (may_nt h).mono ?_
 rintro e w' ⟨rfl, rfl⟩
 go_wp2
 go_ret2
 exact ⟨rfl, rfl⟩
end Go.Proofs.YteagjlcmgiknmaaGreatDoor
namespace Go.Proofs.YteagjlcmgiknmaaGreatDoor
open Go.RowKit

/-- what nat tells of a number that may have too many limbs -/
def Is (w : World) (A : Option Addr) (n c : Nat) (k : Int) (x : Nat) : Prop := (Nt w A n c x ∧ k = 0) ∨ (n = 0 ∧ k = 2 ∧ W ^ 64 ≤ x)
theorem Is.below {w w' : World} {A : Option Addr} {n c x : Nat} {k : Int} (h : Is w A n c k x) (hb : Below w.heap.size w w') : Is w' A n c k x := by
 rcases h with ⟨h1, h2⟩ | h2
 ·exact .inl ⟨h1.below hb, h2⟩
 ·exact .inr h2
theorem mul_over {w : World} {A B : Option Addr} {n c m d x y : Nat} (h : Nt w A n c x) (h' : Nt w B m d y) (hs : W ^ 64 ≤ x * y) :
  Calls Tryz.prog 31 #[.slice A n c, .slice B m d] w fun e w' => ResBad w 2 e w' := by
 have hn := h.le
 have hm := h'.le
 go_enter Tryz.func31, Tryz.ntmps31
 go_wp2_with fail
 refine (may_nt h).mono ?_
 rintro e w' ⟨rfl, rfl⟩
 go_wp2_with fail
 refine (may_nt h').mono ?_
 rintro e w' ⟨rfl, rfl⟩
 go_wp2_with fail
 refine (product_any h.rd h'.rd (by omega) (by omega)).mono ?_
 rintro e w1 ⟨A1, n1, c1, rfl, hr1, hb1⟩
 rw [h.val, h'.val] at hr1
 have h64 : 64 < n1 := by
  rw [← hr1.len]
  rcases Nat.lt_or_ge 64 (dig W (x * y)).length with h5 | h5
  ·exact h5
  ·have := (len_dig W_two _ _).1 h5
   omega
 have hn1 : n1 ≤ 1000000000 := by
  rw [← hr1.len]
  have h65 : x * y < W ^ (64 + 64) := by
   rw [Nat.pow_add]
   exact Nat.mul_lt_mul'' h.lt h'.lt
  have := (len_dig W_two _ _).2 h65
  omega
 go_wp2_with fail
 refine (fits_over h64 hn1).mono ?_
 rintro e w' ⟨rfl, rfl⟩
 go_wp2
 go_ret2
 exact ⟨rfl, hb1⟩
theorem cmp_swap (x y : Nat) : cmpN y x = - cmpN x y ∧ -1 ≤ cmpN x y ∧ cmpN x y ≤ 1 ∧ (cmpN x y < 0 ↔ x < y) := by
 rcases Nat.lt_trichotomy x y with h | h | h
 ·rw [cmpN_lt h, cmpN_gt h]; omega
 ·rw [cmpN_eq h, cmpN_eq h.symm]; omega
 ·rw [cmpN_gt h, cmpN_lt h]; omega

end Go.Proofs.YteagjlcmgiknmaaGreatDoor
namespace Go.Proofs.YteagjlcmgiknmaaGreatDoor
open Go.RowKit

theorem Own.blk {base g N cap i : Nat} {w : World} {e : TypeId} {k : IntKind} {l : List Nat} (h : Own base w e k (.slice (some ⟨g, 0, none⟩) N cap) l) (hi : i < N) (hl : l.length = N) : g < w.heap.size := by
 obtain ⟨g', cap', post, hv, _, _, _, hrow⟩ := Row.of_own h (by omega)
 injection hv with hv1 _ _
 injection hv1 with hv1
 injection hv1 with hv1
 subst hv1
 exact hrow.gl

end Go.Proofs.YteagjlcmgiknmaaGreatDoor

namespace Go.Proofs.YteagjlcmgiknmaaGreatDoor
open Go.RowKit

end Go.Proofs.YteagjlcmgiknmaaGreatDoor
namespace Go.Proofs.YteagjlcmgiknmaaGreatDoor

def sg (s : Bool) : Int := if s then -1 else 1
/-- (-1)^s times m times 2^e, times 2^K -/
def vz (K : Nat) (s : Bool) (m : Nat) (e : Int) : Int := sg s * ((m * 2 ^ (e + K).toNat : Nat) : Int)
/-- a number that may be -/
def OkD (s : Bool) (m : Nat) (e : Int) : Prop := (m = 0 ∧ s = false ∧ e = 0) ∨ (m % 2 = 1 ∧ m < W ^ 64 ∧ -1048576 ≤ e ∧ e ≤ 1048576)
/-- the one form of (-1)^s m 2^e, with what is told of it: c -/
def Nm (s : Bool) (m : Nat) (e : Int) (c : Int) (s' : Bool) (m' : Nat) (e' : Int) : Prop :=
 (m = 0 ∧ c = 0 ∧ s' = false ∧ m' = 0 ∧ e' = 0) ∨
 ∃ k q : Nat, m = 2 ^ k * (2 * q + 1) ∧
  ((W ^ 64 ≤ 2 * q + 1 ∧ c = 2 ∧ s' = false ∧ m' = 0 ∧ e' = 0) ∨
   (2 * q + 1 < W ^ 64 ∧ ¬ (-1048576 ≤ e + k ∧ e + k ≤ 1048576) ∧ c = 3 ∧ s' = false ∧ m' = 0 ∧ e' = 0) ∨
   (2 * q + 1 < W ^ 64 ∧ (-1048576 ≤ e + k ∧ e + k ≤ 1048576) ∧ c = 0 ∧ s' = s ∧ m' = 2 * q + 1 ∧ e' = e + k))
/-- the same, of a value -/
def NmV (K : Nat) (V : Int) (c : Int) (s' : Bool) (m' : Nat) (e' : Int) : Prop := ∃ s m e, -(K : Int) ≤ e ∧ vz K s m e = V ∧ Nm s m e c s' m' e'

theorem sg_mul (s t : Bool) : sg s * sg t = sg (s != t) := by cases s <;> cases t <;> rfl
theorem sg_not (s : Bool) : sg (!s) = - sg s := by cases s <;> rfl
theorem sg_cases (s : Bool) : (s = false ∧ sg s = 1) ∨ (s = true ∧ sg s = -1) := by cases s <;> simp [sg]
theorem vz_zero (K : Nat) (s : Bool) (e : Int) : vz K s 0 e = 0 := by simp [vz]
theorem vz_not (K : Nat) (s : Bool) (m : Nat) (e : Int) : vz K (!s) m e = - vz K s m e := by unfold vz; rw [sg_not, Int.neg_mul]
theorem vz_up {K : Nat} {s : Bool} {m : Nat} {e : Int} (he : -(K : Int) ≤ e) (k : Nat) : vz K s m (e + k) = vz K s (m * 2 ^ k) e := by
 unfold vz
 have e1 : (e + k + K).toNat = k + (e + K).toNat := by omega
 rw [e1, Nat.pow_add, Nat.mul_assoc]
theorem vz_eq_zero {K : Nat} {s : Bool} {m : Nat} {e : Int} : vz K s m e = 0 ↔ m = 0 := by
 unfold vz
 have hp : 0 < 2 ^ (e + K).toNat := Nat.pow_pos (by omega)
 constructor
 ·intro h
  rcases Nat.eq_zero_or_pos m with h0 | h0
  ·exact h0
  ·have h1 : 0 < m * 2 ^ (e + K).toNat := Nat.mul_pos h0 hp
   generalize m * 2 ^ (e + K).toNat = x at *
   rcases sg_cases s with ⟨_, h2⟩ | ⟨_, h2⟩ <;> rw [h2] at h <;> omega
 ·intro h; rw [h]; simp
theorem odd_uniq {a b i j : Nat} (h : 2 ^ i * (2 * a + 1) = 2 ^ j * (2 * b + 1)) : i = j ∧ a = b := by
 have h1 : i = j := IsLow.unique (x := 2 ^ i * (2 * a + 1)) ⟨a, rfl⟩ ⟨b, h⟩
 subst h1
 have := Nat.eq_of_mul_eq_mul_left (Nat.pow_pos (by omega)) h
 exact ⟨rfl, by omega⟩
theorem vz_abs {K : Nat} {s : Bool} {m : Nat} {e : Int} : (vz K s m e).natAbs = m * 2 ^ (e + K).toNat := by
 unfold vz
 rw [Int.natAbs_mul, Int.natAbs_natCast]
 rcases sg_cases s with ⟨_, h2⟩ | ⟨_, h2⟩ <;> rw [h2] <;> simp
theorem vz_sign {K : Nat} {s t : Bool} {m n : Nat} {e f : Int} (h : vz K s m e = vz K t n f) (hm : m ≠ 0) : s = t := by
 have h0 : vz K s m e ≠ 0 := fun h1 => hm (vz_eq_zero.1 h1)
 have ha := vz_abs (K := K) (s := s) (m := m) (e := e)
 have hb := vz_abs (K := K) (s := t) (m := n) (e := f)
 rw [← h] at hb
 unfold vz at h h0
 rw [← hb, ← ha] at h
 rw [← ha] at h0
 generalize (vz K s m e).natAbs = x at *
 cases s <;> cases t <;> simp only [sg, Bool.false_eq_true, if_false, if_true] at h h0 <;> first | rfl | (exfalso; omega)
theorem nm_fun {s : Bool} {m : Nat} {e : Int} {c c2 : Int} {s1 s2 : Bool} {m1 m2 : Nat} {e1 e2 : Int} (h : Nm s m e c s1 m1 e1) (h' : Nm s m e c2 s2 m2 e2) : c = c2 ∧ s1 = s2 ∧ m1 = m2 ∧ e1 = e2 := by
 rcases h with ⟨a0, a1, a2, a3, a4⟩ | ⟨k, q, hm, h⟩
 ·rcases h' with ⟨_, b1, b2, b3, b4⟩ | ⟨k, q, hm, _⟩
  ·subst a1 a2 a3 a4 b1 b2 b3 b4; exact ⟨rfl, rfl, rfl, rfl⟩
  ·exfalso
   have : 0 < 2 ^ k * (2 * q + 1) := Nat.mul_pos (Nat.pow_pos (by omega)) (by omega)
   omega
 ·rcases h' with ⟨b0, _⟩ | ⟨k', q', hm', h'⟩
  ·exfalso
   have : 0 < 2 ^ k * (2 * q + 1) := Nat.mul_pos (Nat.pow_pos (by omega)) (by omega)
   omega
  ·obtain ⟨rfl, rfl⟩ := odd_uniq (hm.symm.trans hm')
   generalize W ^ 64 = P at *
   rcases h with ⟨a0, a1, a2, a3, a4⟩ | ⟨a0, a5, a1, a2, a3, a4⟩ | ⟨a0, a5, a1, a2, a3, a4⟩ <;> rcases h' with ⟨b0, b1, b2, b3, b4⟩ | ⟨b0, b5, b1, b2, b3, b4⟩ | ⟨b0, b5, b1, b2, b3, b4⟩ <;>
    first
    | (subst a1 a2 a3 a4 b1 b2 b3 b4; exact ⟨rfl, rfl, rfl, rfl⟩)
    | (exfalso; omega)
theorem nm_congr {K : Nat} {s t : Bool} {m n : Nat} {e f : Int} {c : Int} {s' : Bool} {m' : Nat} {e' : Int} (he : -(K : Int) ≤ e) (hf : -(K : Int) ≤ f) (h : vz K s m e = vz K t n f) (hN : Nm s m e c s' m' e') : Nm t n f c s' m' e' := by
 rcases hN with ⟨a0, a1⟩ | ⟨k, q, hm, hN⟩
 ·refine .inl ⟨?_, a1⟩
  rw [a0, vz_zero] at h
  exact vz_eq_zero.1 h.symm
 ·have h0 : m ≠ 0 := by
   have : 0 < 2 ^ k * (2 * q + 1) := Nat.mul_pos (Nat.pow_pos (by omega)) (by omega)
   omega
  have hst := vz_sign h h0
  subst hst
  have ha := vz_abs (K := K) (s := s) (m := m) (e := e)
  have hb := vz_abs (K := K) (s := s) (m := n) (e := f)
  rw [h, hb] at ha
  have hn0 : n ≠ 0 := by
   intro hn
   rw [hn, vz_zero, vz_eq_zero] at h
   exact h0 h
  obtain ⟨k', q', hn⟩ := low_has hn0
  rw [hm, hn] at ha
  have ha' : 2 ^ (k' + (f + K).toNat) * (2 * q' + 1) = 2 ^ (k + (e + K).toNat) * (2 * q + 1) := by
   rw [Nat.pow_add, Nat.pow_add]
   have r1 : 2 ^ k' * 2 ^ (f + K).toNat * (2 * q' + 1) = 2 ^ k' * (2 * q' + 1) * 2 ^ (f + K).toNat := by ac_rfl
   have r2 : 2 ^ k * 2 ^ (e + K).toNat * (2 * q + 1) = 2 ^ k * (2 * q + 1) * 2 ^ (e + K).toNat := by ac_rfl
   rw [r1, r2, ha]
  obtain ⟨hk, rfl⟩ := odd_uniq ha'
  refine .inr ⟨k', q', hn, ?_⟩
  have hek : f + k' = e + k := by omega
  rw [hek]
  exact hN
theorem nmv_fun {K : Nat} {V : Int} {c c2 : Int} {s1 s2 : Bool} {m1 m2 : Nat} {e1 e2 : Int} (h : NmV K V c s1 m1 e1) (h' : NmV K V c2 s2 m2 e2) : c = c2 ∧ s1 = s2 ∧ m1 = m2 ∧ e1 = e2 := by
 obtain ⟨s, m, e, he, hv, hN⟩ := h
 obtain ⟨t, n, f, hf, hv', hN'⟩ := h'
 exact nm_fun (nm_congr he hf (hv.trans hv'.symm) hN) hN'
theorem nm_self {s : Bool} {m : Nat} {e : Int} (h : OkD s m e) : Nm s m e 0 s m e := by
 rcases h with ⟨rfl, rfl, rfl⟩ | ⟨h1, h2, h3, h4⟩
 ·exact .inl ⟨rfl, rfl, rfl, rfl, rfl⟩
 ·refine .inr ⟨0, m / 2, by rw [Nat.pow_zero, Nat.one_mul]; omega, .inr (.inr ?_)⟩
  have e1 : 2 * (m / 2) + 1 = m := by omega
  rw [e1]
  exact ⟨h2, by omega, rfl, rfl, rfl, by omega⟩
theorem okd_ge {K : Nat} {s : Bool} {m : Nat} {e : Int} (hK : 4194304 ≤ K) (h : OkD s m e) : -1048576 ≤ e ∧ e ≤ 1048576 ∧ -(K : Int) ≤ e := by
 rcases h with ⟨_, _, rfl⟩ | ⟨_, _, h3, h4⟩ <;> omega
theorem nmv_self {K : Nat} {s : Bool} {m : Nat} {e : Int} (hK : 4194304 ≤ K) (h : OkD s m e) : NmV K (vz K s m e) 0 s m e :=
 ⟨s, m, e, (okd_ge hK h).2.2, rfl, nm_self h⟩
theorem nm_ok {s : Bool} {m : Nat} {e : Int} {s' : Bool} {m' : Nat} {e' : Int} (hN : Nm s m e 0 s' m' e') : OkD s' m' e' := by
 rcases hN with ⟨_, _, h2, h3, h4⟩ | ⟨k, q, _, ⟨_, h, _⟩ | ⟨_, _, h, _⟩ | ⟨h1, h2, _, h3, h4, h5⟩⟩
 ·exact .inl ⟨h3, h2, h4⟩
 ·cases h
 ·cases h
 ·exact .inr ⟨by omega, by rw [h4]; exact h1, by omega, by omega⟩
theorem nm_value {K : Nat} {s : Bool} {m : Nat} {e : Int} {s' : Bool} {m' : Nat} {e' : Int} (he : -(K : Int) ≤ e) (hN : Nm s m e 0 s' m' e') : vz K s' m' e' = vz K s m e := by
 rcases hN with ⟨h0, _, h2, h3, h4⟩ | ⟨k, q, hm, ⟨_, h, _⟩ | ⟨_, _, h, _⟩ | ⟨h1, h2, _, h3, h4, h5⟩⟩
 ·rw [h0, h3, vz_zero, vz_zero]
 ·cases h
 ·cases h
 ·rw [h3, h4, h5, vz_up he, hm, Nat.mul_comm]
theorem nm_code {s : Bool} {m : Nat} {e c : Int} {s' : Bool} {m' : Nat} {e' : Int} (hN : Nm s m e c s' m' e') : c = 0 ∨ ((c = 2 ∨ c = 3) ∧ s' = false ∧ m' = 0 ∧ e' = 0) := by
 rcases hN with ⟨_, h, _⟩ | ⟨_, _, _, ⟨_, h, h2⟩ | ⟨_, _, h, h2⟩ | ⟨_, _, h, _⟩⟩
 ·exact .inl h
 ·exact .inr ⟨.inl h, h2⟩
 ·exact .inr ⟨.inr h, h2⟩
 ·exact .inl h
theorem okd_one {K : Nat} {s t : Bool} {m n : Nat} {e f : Int} (hK : 4194304 ≤ K) (h : OkD s m e) (h' : OkD t n f) (hv : vz K s m e = vz K t n f) : s = t ∧ m = n ∧ e = f := by
 have h1 := nmv_self hK h
 rw [hv] at h1
 obtain ⟨_, h2⟩ := nmv_fun h1 (nmv_self hK h')
 exact h2
/-- what has a form that may be is told it -/
theorem nmv_hit {K : Nat} {V : Int} {c : Int} {s t : Bool} {m n : Nat} {e f : Int} (hK : 4194304 ≤ K) (h : NmV K V c s m e) (h' : OkD t n f) (hv : vz K t n f = V) : c = 0 ∧ s = t ∧ m = n ∧ e = f := by
 have h1 := nmv_self hK h'
 rw [hv] at h1
 exact nmv_fun h h1
theorem nm_big {s : Bool} {m : Nat} {e : Int} (h1 : m % 2 = 1) (h2 : W ^ 64 ≤ m) : Nm s m e 2 false 0 0 := by
 refine .inr ⟨0, m / 2, by rw [Nat.pow_zero, Nat.one_mul]; omega, .inl ⟨?_, rfl, rfl, rfl, rfl⟩⟩
 have e1 : 2 * (m / 2) + 1 = m := by omega
 rw [e1]; exact h2

/- sums and products -/
theorem vz_add {K : Nat} {s : Bool} {m n : Nat} {e : Int} : vz K s (m + n) e = vz K s m e + vz K s n e := by
 unfold vz
 rw [Nat.add_mul, Int.natCast_add, Int.mul_add]
theorem vz_sub {K : Nat} {s : Bool} {m n : Nat} {e : Int} (h : n ≤ m) : vz K s (m - n) e = vz K s m e + vz K (!s) n e := by
 have := vz_add (K := K) (s := s) (m := m - n) (n := n) (e := e)
 rw [Nat.sub_add_cancel h] at this
 rw [vz_not]
 omega
theorem vz_mul {K : Nat} {s t : Bool} {m n : Nat} {e f : Int} (he : -(K : Int) ≤ e) (hf : -(K : Int) ≤ f) (hef : -(K : Int) ≤ e + f) : vz K s m e * vz K t n f = vz K (s != t) (m * n) (e + f) * ((2 ^ K : Nat) : Int) := by
 unfold vz
 have e1 : (e + K).toNat + (f + K).toNat = (e + f + K).toNat + K := by omega
 have e2 : m * 2 ^ (e + K).toNat * (n * 2 ^ (f + K).toNat) = m * n * 2 ^ (e + f + K).toNat * 2 ^ K := by
  have : m * 2 ^ (e + K).toNat * (n * 2 ^ (f + K).toNat) = m * n * (2 ^ (e + K).toNat * 2 ^ (f + K).toNat) := by ac_rfl
  rw [this, ← Nat.pow_add, e1, Nat.pow_add, Nat.mul_assoc (m * n)]
 rw [← sg_mul]
 have e3 : sg s * ((m * 2 ^ (e + K).toNat : Nat) : Int) * (sg t * ((n * 2 ^ (f + K).toNat : Nat) : Int)) = sg s * sg t * ((m * 2 ^ (e + K).toNat * (n * 2 ^ (f + K).toNat) : Nat) : Int) := by
  rw [Int.natCast_mul (m * 2 ^ (e + K).toNat)]
  ac_rfl
 rw [e3, e2, Int.natCast_mul (m * n * 2 ^ (e + f + K).toNat), ← Int.mul_assoc]
theorem vz_half {K : Nat} {s : Bool} {m n : Nat} {e : Int} (he : -(K : Int) ≤ e) (hm : m % 2 = 1) (hn : n % 2 = 1) : vz K s (m / 2 + (n / 2 + 1)) (e + 1) = vz K s m e + vz K s n e := by
 have h1 := vz_up (K := K) (s := s) (m := m / 2 + (n / 2 + 1)) he 1
 have h2 : (m / 2 + (n / 2 + 1)) * 2 ^ 1 = m + n := by omega
 rw [h2, vz_add (m := m)] at h1
 exact h1
end Go.Proofs.YteagjlcmgiknmaaGreatDoor
namespace Go.Proofs.YteagjlcmgiknmaaGreatDoor

/-- has x at most p bits, its noughts at the end left out? -/
def Fits (p x : Nat) : Prop := ∃ a k, x = a * 2 ^ k ∧ a < 2 ^ p
/-- x cut to p bits, down; up: the next one, if anything was cut off -/
def cutN (p x : Nat) (up : Bool) : Nat := x / 2 ^ (blen x - p) + if up = true ∧ x % 2 ^ (blen x - p) ≠ 0 then 1 else 0
def rdN (p x : Nat) (up : Bool) : Nat := cutN p x up * 2 ^ (blen x - p)

theorem pow_pos2 (k : Nat) : 0 < 2 ^ k := Nat.pow_pos (by omega)
theorem fits_mono {p q x : Nat} (h : Fits p x) (hpq : p ≤ q) : Fits q x := by
 obtain ⟨a, k, e, ha⟩ := h
 exact ⟨a, k, e, Nat.lt_of_lt_of_le ha (Nat.pow_le_pow_right (by omega) hpq)⟩
theorem fits_shift {p x j : Nat} (h : Fits p x) : Fits p (x * 2 ^ j) := by
 obtain ⟨a, k, e, ha⟩ := h
 exact ⟨a, k + j, by rw [e, Nat.pow_add, Nat.mul_assoc], ha⟩
theorem fits_zero (p : Nat) : Fits p 0 := ⟨0, 0, by simp, pow_pos2 p⟩
theorem fits_of {p x : Nat} (h : x < 2 ^ p) : Fits p x := ⟨x, 0, by simp, h⟩
/-- an odd number's bits are all there -/
theorem fits_odd {p q k : Nat} (h : Fits p (2 ^ k * (2 * q + 1))) : 2 * q + 1 < 2 ^ p := by
 obtain ⟨a, j, e, ha⟩ := h
 have ha0 : a ≠ 0 := by
  intro h0
  rw [h0, Nat.zero_mul] at e
  have : 0 < 2 ^ k * (2 * q + 1) := Nat.mul_pos (pow_pos2 k) (by omega)
  omega
 obtain ⟨i, b, hb⟩ := low_has ha0
 have e2 : 2 ^ k * (2 * q + 1) = 2 ^ (i + j) * (2 * b + 1) := by
  rw [e, hb, Nat.pow_add]; ac_rfl
 obtain ⟨_, h2⟩ := odd_uniq e2
 have h3 : 1 * (2 * b + 1) ≤ 2 ^ i * (2 * b + 1) := Nat.mul_le_mul_right _ (pow_pos2 i)
 omega
theorem fits_blen {p q k : Nat} : Fits p (2 ^ k * (2 * q + 1)) ↔ blen (2 * q + 1) ≤ p := by
 rw [blen_le]
 constructor
 ·exact fits_odd
 ·intro h
  exact ⟨2 * q + 1, k, Nat.mul_comm _ _, h⟩
theorem unfits {p x j : Nat} (h : Fits p (x * 2 ^ j)) : Fits p x := by
 rcases Nat.eq_zero_or_pos x with h0 | h0
 ·rw [h0]; exact fits_zero p
 ·obtain ⟨k, q, hq⟩ := low_has (x := x) (by omega)
  have e1 : x * 2 ^ j = 2 ^ (k + j) * (2 * q + 1) := by rw [hq, Nat.pow_add]; ac_rfl
  rw [e1, fits_blen] at h
  rw [hq, fits_blen]
  exact h

theorem cut_parts (p x : Nat) : x = x / 2 ^ (blen x - p) * 2 ^ (blen x - p) + x % 2 ^ (blen x - p) := by
 have := Nat.div_add_mod x (2 ^ (blen x - p))
 rw [Nat.mul_comm] at this
 omega
theorem cut_lt (p x : Nat) : x / 2 ^ (blen x - p) < 2 ^ p := by
 rw [Nat.div_lt_iff_lt_mul (pow_pos2 _), ← Nat.pow_add]
 refine Nat.lt_of_lt_of_le ((blen_le x (blen x)).1 (Nat.le_refl _)) (Nat.pow_le_pow_right (by omega) (by omega))
theorem rd_down_le (p x : Nat) : rdN p x false ≤ x := by
 unfold rdN cutN
 simp only [Bool.false_eq_true, false_and, if_false, Nat.add_zero]
 exact Nat.div_mul_le_self _ _
theorem rd_up_ge (p x : Nat) : x ≤ rdN p x true := by
 have h := cut_parts p x
 unfold rdN cutN
 by_cases hr : x % 2 ^ (blen x - p) = 0
 ·rw [if_neg (by simp [hr])]
  rw [Nat.add_zero]; omega
 ·rw [if_pos ⟨rfl, hr⟩, Nat.add_mul, Nat.one_mul]
  have := Nat.mod_lt x (pow_pos2 (blen x - p))
  omega
theorem rd_fits {p : Nat} (hp : 1 ≤ p) (x : Nat) (up : Bool) : Fits p (rdN p x up) := by
 unfold rdN
 apply fits_shift
 have h := cut_lt p x
 have h2 : cutN p x up ≤ x / 2 ^ (blen x - p) + 1 := by unfold cutN; split <;> omega
 by_cases h3 : cutN p x up < 2 ^ p
 ·exact fits_of h3
 ·have h4 : cutN p x up = 2 ^ p := by omega
  rw [h4]
  exact ⟨1, p, by omega, Nat.one_lt_two_pow (by omega)⟩
/-- what is cut off leaves the highest bit -/
theorem rd_top {p x : Nat} (hp : 1 ≤ p) (hx : x ≠ 0) : 2 ^ (blen x - 1) ≤ x / 2 ^ (blen x - p) * 2 ^ (blen x - p) := by
 obtain ⟨h1, h2, h3⟩ := blen_pos hx
 have e1 : 2 ^ (blen x - 1) = 2 ^ (blen x - 1 - (blen x - p)) * 2 ^ (blen x - p) := by rw [← Nat.pow_add]; congr 1; omega
 rw [e1] at h1 ⊢
 exact Nat.mul_le_mul_right _ ((Nat.le_div_iff_mul_le (pow_pos2 _)).2 h1)
theorem fits_cases {p c n : Nat} (h : Fits p c) : (∃ b, c = b * 2 ^ n) ∨ c < 2 ^ (p + n - 1) ∨ n = 0 := by
 obtain ⟨a, k, e, ha⟩ := h
 rcases Nat.lt_or_ge k n with h1 | h1
 ·refine .inr (.inl ?_)
  rw [e]
  have h2 : a * 2 ^ k < 2 ^ p * 2 ^ k := Nat.mul_lt_mul_of_pos_right ha (pow_pos2 k)
  rw [← Nat.pow_add] at h2
  exact Nat.lt_of_lt_of_le h2 (Nat.pow_le_pow_right (by omega) (by omega))
 ·refine .inl ⟨a * 2 ^ (k - n), ?_⟩
  rw [e, Nat.mul_assoc, ← Nat.pow_add]
  congr 2; omega
theorem rd_greatest {p x c : Nat} (hp : 1 ≤ p) (hc : Fits p c) (h : c ≤ x) : c ≤ rdN p x false := by
 unfold rdN cutN
 simp only [Bool.false_eq_true, false_and, if_false, Nat.add_zero]
 by_cases hx : x = 0
 ·subst hx; simp; omega
 have ht := rd_top hp hx
 rcases fits_cases (n := blen x - p) hc with ⟨b, hb⟩ | h2 | h2
 ·rw [hb] at h ⊢
  exact Nat.mul_le_mul_right _ ((Nat.le_div_iff_mul_le (pow_pos2 _)).2 h)
 ·by_cases h3 : blen x - p = 0
  ·rw [h3, Nat.pow_zero, Nat.div_one, Nat.mul_one]; exact h
  ·have e1 : p + (blen x - p) - 1 = blen x - 1 := by omega
   rw [e1] at h2
   omega
 ·rw [h2, Nat.pow_zero, Nat.div_one, Nat.mul_one]; exact h
theorem rd_least {p x c : Nat} (hp : 1 ≤ p) (hc : Fits p c) (h : x ≤ c) : rdN p x true ≤ c := by
 unfold rdN cutN
 have hq := cut_parts p x
 by_cases hr : x % 2 ^ (blen x - p) = 0
 ·rw [if_neg (by simp [hr]), Nat.add_zero]; omega
 ·rw [if_pos ⟨rfl, hr⟩]
  have hx : x ≠ 0 := by intro h0; rw [h0] at hr; simp at hr
  obtain ⟨h1, _, h3⟩ := blen_pos hx
  rcases fits_cases (n := blen x - p) hc with ⟨b, hb⟩ | h2 | h2
  ·rw [hb] at h ⊢
   have h4 : x / 2 ^ (blen x - p) * 2 ^ (blen x - p) < b * 2 ^ (blen x - p) := by omega
   exact Nat.mul_le_mul_right _ (Nat.lt_of_mul_lt_mul_right h4)
  ·exfalso
   by_cases h5 : blen x - p = 0
   ·rw [h5, Nat.pow_zero, Nat.mod_one] at hr; exact hr rfl
   ·have e1 : p + (blen x - p) - 1 = blen x - 1 := by omega
    rw [e1] at h2
    omega
  ·exfalso
   rw [h2, Nat.pow_zero, Nat.mod_one] at hr; exact hr rfl
theorem rd_self {p x : Nat} (hp : 1 ≤ p) (h : Fits p x) (up : Bool) : rdN p x up = x := by
 cases up
 ·exact Nat.le_antisymm (rd_down_le p x) (rd_greatest hp h (Nat.le_refl _))
 ·exact Nat.le_antisymm (rd_least hp h (Nat.le_refl _)) (rd_up_ge p x)
theorem rd_zero (p : Nat) (up : Bool) : rdN p 0 up = 0 := by unfold rdN cutN; simp
end Go.Proofs.YteagjlcmgiknmaaGreatDoor
