/-
 Plain facts on rounded dyadic numbers: what is told of them, and what follows of their values. No condition; nothing of the program is named here.
-/
import Derived.Test.YteagjlcmgiknmaaGreatDoorQRj
import Derived.Test.YteagjlcmgiknmaaGreatDoorQRo
import Derived.Test.YteagjlcmgiknmaaGreatDoorQRt
import Derived.Test.YteagjlcmgiknmaaGreatDoorQIg
import Derived.Test.YteagjlcmgiknmaaGreatDoorCards
import Derived.Test.YteagjlcmgiknmaaGreatDoorTie
import Derived.Test.YteagjlcmgiknmaaGreatDoorQCaps
import Derived.WalkKit
import Derived.ProofKit
import Derived.OpenShut
import Derived.Carry
import Derived.Deep.DeepHandedRow
import Derived.Lib.LaidTab
import Derived.Lib.SmallJoins
import Derived.LaidSub
import Derived.Lay
import Derived.Deep.DeepWitnessRowRef
namespace Go.Proofs.YteagjlcmgiknmaaGreatDoor

theorem pos_of_pow {k : Nat} : (0 : Int) < ((2 ^ k : Nat) : Int) := by
 have := pow_pos2 k
 generalize 2 ^ k = P at *
 omega
/-- what is small and near is told no error -/
theorem nm_good {s : Bool} {m : Nat} {e k : Int} {s' : Bool} {m' : Nat} {e' : Int} (h : Nm s m e k s' m' e') (hm : blen m ≤ 4096) (he : -100000 ≤ e) (he' : e ≤ 100000) : k = 0 := by
 rcases h with ⟨_, h, _⟩ | ⟨j, q, hm0, h⟩
 ·exact h
 ·have h1 := (blen_le m _).1 hm
  obtain ⟨L, hL⟩ : ∃ L, L = 64 * 64 := ⟨_, rfl⟩
  have e1 : 4096 = L := by omega
  rw [e1] at h1
  have h2 : 1 * (2 * q + 1) ≤ 2 ^ j * (2 * q + 1) := Nat.mul_le_mul_right _ (pow_pos2 j)
  have h3 : 2 ^ j * 1 ≤ 2 ^ j * (2 * q + 1) := Nat.mul_le_mul_left _ (by omega)
  have h4 : j < L := by
   rcases Nat.lt_or_ge j L with h5 | h5
   ·exact h5
   ·have := Nat.pow_le_pow_right (n := 2) (by omega) h5
    omega
  have h5 : 2 * q + 1 < W ^ 64 := by rw [W64_pow, ← hL]; omega
  rcases h with ⟨h6, _⟩ | ⟨_, h6, _⟩ | ⟨_, _, h6, _⟩
  ·exact absurd h5 (by omega)
  ·exact absurd (And.intro (show -1048576 ≤ e + (j : Int) by omega) (show e + (j : Int) ≤ 1048576 by omega)) h6
  ·exact h6
theorem nm_small_e {s : Bool} {m : Nat} {e : Int} {s' : Bool} {m' : Nat} {e' : Int} (h : Nm s m e 0 s' m' e') (he : -100000 ≤ e) : blen m' ≤ blen m ∧ -100000 ≤ e' ∧ e' ≤ e + blen m ∨ (m' = 0 ∧ e' = 0) := by
 rcases h with ⟨_, _, _, h2, h3⟩ | ⟨j, q, hm0, ⟨_, h, _⟩ | ⟨_, _, h, _⟩ | ⟨_, _, _, _, h2, h3⟩⟩
 ·exact .inr ⟨h2, h3⟩
 ·cases h
 ·cases h
 ·left
  have e1 : m = (2 * q + 1) * 2 ^ j := by rw [hm0, Nat.mul_comm]
  have h4 := blen_shift (x := 2 * q + 1) (k := j) (by omega)
  rw [← e1] at h4
  rw [h2, h3]
  omega
theorem rd_shift {p x j : Nat} (hp : 1 ≤ p) (u : Bool) : rdN p (x * 2 ^ j) u = rdN p x u * 2 ^ j := by
 by_cases hx : x = 0
 ·subst hx; rw [Nat.zero_mul, rd_zero, Nat.zero_mul]
 ·have hb := blen_shift (k := j) hx
  rcases Nat.lt_or_ge (blen x) p with h1 | h1
  ·have hf : Fits p x := fits_of (by have := (blen_le x p).1 (by omega); exact this)
   rw [rd_self hp hf, rd_self hp (fits_shift hf)]
  ·have e1 : blen x + j - p = (blen x - p) + j := by omega
   unfold rdN cutN
   rw [hb, e1, Nat.pow_add, Nat.mul_div_mul_right _ _ (pow_pos2 j), Nat.mul_mod_mul_right]
   have e2 : (x % 2 ^ (blen x - p) * 2 ^ j ≠ 0) = (x % 2 ^ (blen x - p) ≠ 0) := by
    apply propext
    have := pow_pos2 j
    constructor
    ·intro h h2; apply h; rw [h2, Nat.zero_mul]
    ·intro h h2
     rcases Nat.mul_eq_zero.1 h2 with h3 | h3
     ·exact h h3
     ·omega
   simp only [e2]
   rw [Nat.mul_assoc]
theorem vz_mono {K : Nat} {s : Bool} {x y : Nat} {e : Int} (h : x ≤ y) : (s = false → vz K s x e ≤ vz K s y e) ∧ (s = true → vz K s y e ≤ vz K s x e) := by
 unfold vz
 have := Nat.mul_le_mul_right (2 ^ (e + K).toNat) h
 generalize x * 2 ^ (e + K).toNat = X at *
 generalize y * 2 ^ (e + K).toNat = Y at *
 constructor
 ·rintro rfl; simp only [sg, Bool.false_eq_true, if_false]; omega
 ·rintro rfl; simp only [sg, if_true]; omega
theorem rd_between {K p x : Nat} {s : Bool} {e : Int} : vz K s (rdN p x (false != s)) e ≤ vz K s x e ∧ vz K s x e ≤ vz K s (rdN p x (true != s)) e := by
 cases s
 ·exact ⟨(vz_mono (rd_down_le p x)).1 rfl, (vz_mono (rd_up_ge p x)).1 rfl⟩
 ·exact ⟨(vz_mono (rd_up_ge p x)).2 rfl, (vz_mono (rd_down_le p x)).2 rfl⟩
theorem vz_at {K : Nat} {s : Bool} {x : Nat} {e lo : Int} (hlo : -(K : Int) ≤ lo) (h : lo ≤ e) : vz K s x e = vz K s (x * 2 ^ (e - lo).toNat) lo := by
 have e1 : e = lo + ((e - lo).toNat : Nat) := by omega
 have := vz_up (K := K) (s := s) (m := x) hlo (e - lo).toNat
 rw [← e1] at this
 exact this
theorem vz_le_same {K : Nat} {x y : Nat} {e : Int} : (vz K false x e ≤ vz K false y e ↔ x ≤ y) ∧ (vz K true x e ≤ vz K true y e ↔ y ≤ x) := by
 have key : ∀ a b : Nat, (a * 2 ^ (e + K).toNat ≤ b * 2 ^ (e + K).toNat ↔ a ≤ b) := fun a b => ⟨fun h => Nat.le_of_mul_le_mul_right h (pow_pos2 _), fun h => Nat.mul_le_mul_right _ h⟩
 have k1 := key x y
 have k2 := key y x
 unfold vz
 simp only [sg, Bool.false_eq_true, if_false, if_true]
 generalize x * 2 ^ (e + K).toNat = X at *
 generalize y * 2 ^ (e + K).toNat = Y at *
 constructor
 ·rw [← k1]; omega
 ·rw [← k2]; omega
theorem vz_sgn {K : Nat} {x : Nat} {e : Int} : 0 ≤ vz K false x e ∧ vz K true x e ≤ 0 := by
 unfold vz
 simp only [sg, Bool.false_eq_true, if_false, if_true]
 omega
/-- the greatest of few bits: nothing of so few bits lies between -/
theorem near_down {K p : Nat} {s t : Bool} {x y : Nat} {e f : Int} (hp : 1 ≤ p) (he : -(K : Int) ≤ e) (hf : -(K : Int) ≤ f) (hy : Fits p y) (h : vz K t y f ≤ vz K s x e) : vz K t y f ≤ vz K s (rdN p x (false != s)) e := by
 obtain ⟨lo, hlo⟩ : ∃ lo, min e f = lo := ⟨_, rfl⟩
 have e1 := vz_at (K := K) (s := s) (x := x) (e := e) (lo := lo) (by omega) (by omega)
 have e2 := vz_at (K := K) (s := s) (x := rdN p x (false != s)) (e := e) (lo := lo) (by omega) (by omega)
 have e3 := vz_at (K := K) (s := t) (x := y) (e := f) (lo := lo) (by omega) (by omega)
 rw [e2, e3]
 rw [e1, e3] at h
 rw [← rd_shift hp]
 have hy2 := fits_shift (j := (f - lo).toNat) hy
 generalize y * 2 ^ (f - lo).toNat = Y at *
 generalize x * 2 ^ (e - lo).toNat = X at *
 cases s <;> cases t
 ·exact vz_le_same.1.2 (rd_greatest hp hy2 (vz_le_same.1.1 h))
 ·exact Int.le_trans vz_sgn.2 vz_sgn.1
 ·by_cases hX : X = 0
  ·rw [hX, rd_zero]; rw [hX] at h; exact h
  ·exfalso
   have h1 := (vz_pos (K := K) (s := true) (x := X) (e := lo) hX).2 rfl
   have h2 := (vz_sgn (K := K) (x := Y) (e := lo)).1
   omega
 ·exact vz_le_same.2.2 (rd_least hp hy2 (vz_le_same.2.1 h))
theorem near_up {K p : Nat} {s t : Bool} {x y : Nat} {e f : Int} (hp : 1 ≤ p) (he : -(K : Int) ≤ e) (hf : -(K : Int) ≤ f) (hy : Fits p y) (h : vz K s x e ≤ vz K t y f) : vz K s (rdN p x (true != s)) e ≤ vz K t y f := by
 have h1 := near_down (K := K) (s := !s) (t := !t) (x := x) hp he hf hy (by rw [vz_not, vz_not]; omega)
 have e1 : (false != !s) = (true != s) := by cases s <;> rfl
 rw [e1, vz_not, vz_not] at h1
 omega
/-- an M that is odd, or nought -/
theorem okd_fits {p : Nat} {s : Bool} {x : Nat} {e : Int} (hd : OkD s x e) : Fits p x ↔ blen x ≤ p := by
 rcases hd with ⟨rfl, _⟩ | ⟨h, _⟩
 ·rw [blen_zero]; exact ⟨fun _ => Nat.zero_le _, fun _ => fits_zero p⟩
 ·have := fits_blen (p := p) (q := x / 2) (k := 0)
  have e1 : 2 * (x / 2) + 1 = x := by omega
  rw [e1, Nat.pow_zero, Nat.one_mul] at this
  exact this
theorem nm_fits {p : Nat} {s : Bool} {y : Nat} {e k : Int} {s' : Bool} {m' : Nat} {e' : Int} (h : Nm s y e k s' m' e') (hy : Fits p y) : Fits p m' := by
 rcases h with ⟨_, _, _, h3, _⟩ | ⟨j, q, hm0, ⟨_, _, _, h3, _⟩ | ⟨_, _, _, _, h3, _⟩ | ⟨_, _, _, hs, h3, h4⟩⟩
 ·rw [h3]; exact fits_zero p
 ·rw [h3]; exact fits_zero p
 ·rw [h3]; exact fits_zero p
 ·rw [h3]
  rw [hm0, Nat.mul_comm] at hy
  exact unfits hy
end Go.Proofs.YteagjlcmgiknmaaGreatDoor
namespace Go.Proofs.YteagjlcmgiknmaaGreatDoor
open Go.RowKit

theorem rd_fit {s : Bool} {x : Nat} {e : Int} {p : Nat} {u : Bool} {k : Int} {s' : Bool} {m' : Nat} {e' : Int} (hp : 1 ≤ p) (hd : OkD s x e) (hb : blen x ≤ p) (h : RdTold s x e p u k s' m' e') : k = 0 ∧ s' = s ∧ m' = x ∧ e' = e := by
 unfold RdTold at h
 rw [rd_self hp ((okd_fits hd).2 hb)] at h
 exact nm_fun h (nm_self hd)
end Go.Proofs.YteagjlcmgiknmaaGreatDoor
namespace Go.Proofs.YteagjlcmgiknmaaGreatDoor
open Go.RowKit

end Go.Proofs.YteagjlcmgiknmaaGreatDoor

namespace Go.Proofs.YteagjlcmgiknmaaGreatDoor
open Go.RowKit

end Go.Proofs.YteagjlcmgiknmaaGreatDoor

namespace Go.Proofs.YteagjlcmgiknmaaGreatDoor
open Go.RowKit

theorem two_dbl (w : World) {A1 A2 : Option Addr} {n1 c1 n2 c2 : Nat} {s1 s2 : Bool} {e1 e2 : Int} : Box ((w.alloc (.cells #[.bool s1, .slice A1 n1 c1, .int .i64 e1] 25)).alloc (.cells #[.bool s2, .slice A2 n2 c2, .int .i64 e2] 25)) w.heap.size s1 A1 n1 c1 e1 ∧ Box ((w.alloc (.cells #[.bool s1, .slice A1 n1 c1, .int .i64 e1] 25)).alloc (.cells #[.bool s2, .slice A2 n2 c2, .int .i64 e2] 25)) (w.heap.size + 1) s2 A2 n2 c2 e2 :=
 ⟨(two_new w s1 s2 A1 A2 n1 c1 n2 c2 e1 e2).a, (two_new w s1 s2 A1 A2 n1 c1 n2 c2 e1 e2).b⟩
theorem three_dbl (w : World) {A1 A2 : Option Addr} {n1 c1 n2 c2 : Nat} {s1 s2 : Bool} {e1 e2 : Int} : Below w.heap.size w (((w.alloc (.cells #[.bool s1, .slice A1 n1 c1, .int .i64 e1] 25)).alloc (.cells #[.bool s2, .slice A2 n2 c2, .int .i64 e2] 25)).alloc (.cells #[.bool false, .slice none 0 0, .int .i64 0] 25)) ∧ Box (((w.alloc (.cells #[.bool s1, .slice A1 n1 c1, .int .i64 e1] 25)).alloc (.cells #[.bool s2, .slice A2 n2 c2, .int .i64 e2] 25)).alloc (.cells #[.bool false, .slice none 0 0, .int .i64 0] 25)) w.heap.size s1 A1 n1 c1 e1 ∧ Box (((w.alloc (.cells #[.bool s1, .slice A1 n1 c1, .int .i64 e1] 25)).alloc (.cells #[.bool s2, .slice A2 n2 c2, .int .i64 e2] 25)).alloc (.cells #[.bool false, .slice none 0 0, .int .i64 0] 25)) (w.heap.size + 1) s2 A2 n2 c2 e2 ∧ Box (((w.alloc (.cells #[.bool s1, .slice A1 n1 c1, .int .i64 e1] 25)).alloc (.cells #[.bool s2, .slice A2 n2 c2, .int .i64 e2] 25)).alloc (.cells #[.bool false, .slice none 0 0, .int .i64 0] 25)) (w.heap.size + 2) false none 0 0 0 := by
 obtain ⟨xa, xb⟩ := two_dbl w (s1 := s1) (A1 := A1) (n1 := n1) (c1 := c1) (e1 := e1) (s2 := s2) (A2 := A2) (n2 := n2) (c2 := c2) (e2 := e2)
 refine ⟨three_below w _ _ _, xa.alloc _, xb.alloc _, ?_⟩
 simpa using Box.new ((w.alloc (.cells #[.bool s1, .slice A1 n1 c1, .int .i64 e1] 25)).alloc (.cells #[.bool s2, .slice A2 n2 c2, .int .i64 e2] 25)) false none 0 0 0
end Go.Proofs.YteagjlcmgiknmaaGreatDoor
namespace Go.Proofs.YteagjlcmgiknmaaGreatDoor
open Go.RowKit

section
variable {w : World} {g g' k i n c x n0 c0 : Nat} {A A0 : Option Addr} {s s0 : Bool} {e e0 : Int} {v u0 u1 u2 : Value}
theorem Box.put3 (h : Box w g' s A n c e) (hne : g' ≠ g) (u0 u1 u2 : Value) : Box (((w.setCell ⟨g, 0, none⟩ u0).setCell ⟨g, 1, none⟩ u1).setCell ⟨g, 2, none⟩ u2) g' s A n c e := ((h.other hne 0 u0).other hne 1 u1).other hne 2 u2
end

end Go.Proofs.YteagjlcmgiknmaaGreatDoor
namespace Go.Proofs.YteagjlcmgiknmaaGreatDoor

theorem cutR_le {p x : Nat} {rest : Bool} : cutR p x rest false * 2 ^ (blen x - p) ≤ x := by
 unfold cutR
 simp only [Bool.false_eq_true, false_and, if_false, Nat.add_zero]
 exact Nat.div_mul_le_self _ _
theorem cutR_ge {p x : Nat} {rest : Bool} : x ≤ cutR p x rest true * 2 ^ (blen x - p) ∧ (rest = true → x + 1 ≤ cutR p x rest true * 2 ^ (blen x - p)) := by
 have h := cut_parts p x
 have h2 := Nat.mod_lt x (pow_pos2 (blen x - p))
 unfold cutR
 by_cases hr : x % 2 ^ (blen x - p) = 0
 ·cases rest
  ·rw [if_neg (by simp [hr]), Nat.add_zero]
   exact ⟨by omega, fun h => by cases h⟩
  ·rw [if_pos ⟨rfl, .inl rfl⟩, Nat.add_mul, Nat.one_mul]
   exact ⟨by omega, fun _ => by omega⟩
 ·rw [if_pos ⟨rfl, .inr hr⟩, Nat.add_mul, Nat.one_mul]
  exact ⟨by omega, fun _ => by omega⟩
end Go.Proofs.YteagjlcmgiknmaaGreatDoor

namespace Go.Proofs.YteagjlcmgiknmaaGreatDoor

end Go.Proofs.YteagjlcmgiknmaaGreatDoor

namespace Go.Proofs.YteagjlcmgiknmaaGreatDoor

end Go.Proofs.YteagjlcmgiknmaaGreatDoor
namespace Go.Proofs.YteagjlcmgiknmaaGreatDoor
open Go.RowKit

theorem Dg.drew {w : World} {A : Option Addr} {n c x : Nat} (h : Dg w A n c x) : Dg w.drew A n c x := Dg.heap32 h rfl
end Go.Proofs.YteagjlcmgiknmaaGreatDoor

namespace Go.Proofs.YteagjlcmgiknmaaGreatDoor
open Go.RowKit

def quotR (s : Bool) (l : List Nat) (e : Int) (t : Bool) (r : List Nat) (f : Int) (p : Int) (up : Bool) : Int → Bool → Nat → Int → Prop :=
 if (1 ≤ p ∧ p ≤ 2000) ∧ mayD s l e = true ∧ mayD t r f = true then (if val Go.Proofs.YteagjlcmgiknmaaGreatDoor.W r = 0 then Outside else QuTold s (val Go.Proofs.YteagjlcmgiknmaaGreatDoor.W l) e t (val Go.Proofs.YteagjlcmgiknmaaGreatDoor.W r) f p.toNat up) else Wrong
theorem outside_fun {k k2 : Int} {s1 s2 : Bool} {m1 m2 : Nat} {e1 e2 : Int} (h : Outside k s1 m1 e1) (h' : Outside k2 s2 m2 e2) : k = k2 ∧ s1 = s2 ∧ m1 = m2 ∧ e1 = e2 := by
 obtain ⟨rfl, rfl, rfl, rfl⟩ := h
 obtain ⟨rfl, rfl, rfl, rfl⟩ := h'
 exact ⟨rfl, rfl, rfl, rfl⟩
theorem quotR_fun {s : Bool} {l : List Nat} {e : Int} {t : Bool} {r : List Nat} {f p : Int} {up : Bool} {k k2 : Int} {s1 s2 : Bool} {m1 m2 : Nat} {e1 e2 : Int} (h : quotR s l e t r f p up k s1 m1 e1) (h' : quotR s l e t r f p up k2 s2 m2 e2) : k = k2 ∧ s1 = s2 ∧ m1 = m2 ∧ e1 = e2 := by
 unfold quotR at h h'
 split at h
 ·rw [if_pos (by assumption)] at h'
  split at h
  ·rw [if_pos (by assumption)] at h'; exact outside_fun h h'
  ·rw [if_neg (by assumption)] at h'; exact nm_fun h h'
 ·rw [if_neg (by assumption)] at h'; exact wrong_fun h h'
theorem dquot_raw {w : World} {A1 : Option Addr} {n1 c1 : Nat} {l1 : List Nat} {s1 : Bool} {e1 : Int} {A2 : Option Addr} {n2 c2 : Nat} {l2 : List Nat} {s2 : Bool} {e2 : Int} {p : Int} {up : Bool} (hT : Tab w) (h1 : Rd w .u64 Go.Proofs.YteagjlcmgiknmaaGreatDoor.W A1 n1 c1 l1) (h2 : Rd w .u64 Go.Proofs.YteagjlcmgiknmaaGreatDoor.W A2 n2 c2 l2) :
  Calls Tryz.prog 130 #[.agg #[.bool s1, .slice A1 n1 c1, .int .i64 e1], .agg #[.bool s2, .slice A2 n2 c2, .int .i64 e2], .int .i64 p, .bool up] w (Tells (quotR s1 l1 e1 s2 l2 e2 p up) w) := by
 unfold quotR
 by_cases hd : (1 ≤ p ∧ p ≤ 2000) ∧ mayD s1 l1 e1 = true ∧ mayD s2 l2 e2 = true
 ·rw [if_pos hd]
  obtain ⟨q, rfl⟩ := Int.eq_ofNat_of_zero_le (show 0 ≤ p by omega)
  obtain ⟨hN, hok, _⟩ := rd_okd h1 hd.2.1
  obtain ⟨hN', hok', _⟩ := rd_okd h2 hd.2.2
  by_cases hy : val Go.Proofs.YteagjlcmgiknmaaGreatDoor.W l2 = 0
  ·rw [if_pos hy]
   exact rquot_zero hT hN hN' hok hok' (by omega) (by omega) hy
  ·rw [if_neg hy]
   exact rquot_ok hT hN hN' hok hok' (by omega) (by omega) hy
 ·rw [if_neg hd]
  refine rquot_no hT h1 h2 ?_
  by_cases hp : 1 ≤ p ∧ p ≤ 2000
  ·refine .inr (.inr ?_)
   cases q : mayD s1 l1 e1 <;> cases q' : mayD s2 l2 e2 <;> first | rfl | exact absurd ⟨hp, q, q'⟩ hd
  ·omega

end Go.Proofs.YteagjlcmgiknmaaGreatDoor
set_option maxHeartbeats 8000000
set_option maxRecDepth 100000
namespace Go.Proofs.YteagjlcmgiknmaaGreatDoor
open Go.RowKit

theorem two_may {K : Nat} {x y : Iv} : (∀ i, i < 2 → mayI K (if i = 0 then x else y) = true) ↔ (mayI K x = true ∧ mayI K y = true) := by
 constructor
 ·exact fun h => ⟨h 0 (by omega), h 1 (by omega)⟩
 ·rintro ⟨h1, h2⟩ i hi
  rcases (show i = 0 ∨ i = 1 by omega) with rfl | rfl
  ·exact h1
  ·exact h2
theorem one_may {K : Nat} {x : Iv} : (∀ i, i < 1 → mayI K x = true) ↔ mayI K x = true := ⟨fun h => h 0 (by omega), fun h _ _ => h⟩
theorem up3 (w : World) (o o' o'' : Obj) : (((w.alloc o).alloc o').alloc o'').heap.size = w.heap.size + 3 := by simp
theorem ibx_one (w : World) (o : Obj) (s : Bool) (A : Option Addr) (n c : Nat) (e : Int) (t : Bool) (B : Option Addr) (m d : Nat) (f : Int) : Ibx ((w.alloc o).alloc (.cells #[.bool s, .slice A n c, .int .i64 e, .bool t, .slice B m d, .int .i64 f] 29)) (w.heap.size + 1) s A n c e t B m d f := by
 have := Ibx.new (w.alloc o) s A n c e t B m d f
 simpa using this
theorem rows_one {w : World} {g : Nat} (hg : w.heap.size = g) {x : Iv} {A1 : Option Addr} {n1 c1 : Nat} {A2 : Option Addr} {n2 c2 : Nat} (h1 : Rd w .u64 Go.Proofs.YteagjlcmgiknmaaGreatDoor.W A1 n1 c1 x.lo.l) (h2 : Rd w .u64 Go.Proofs.YteagjlcmgiknmaaGreatDoor.W A2 n2 c2 x.hi.l) : Ivs (w.alloc (.cells #[.bool x.lo.s, .slice A1 n1 c1, .int .i64 x.lo.e, .bool x.hi.s, .slice A2 n2 c2, .int .i64 x.hi.e] 29)) g 0 1 (fun _ => x) := by
 subst hg
 exact ivs_one w h1 h2
theorem rows_two {w : World} {g : Nat} (hg : w.heap.size = g) {x y : Iv} {A1 : Option Addr} {n1 c1 : Nat} {A2 : Option Addr} {n2 c2 : Nat} {A3 : Option Addr} {n3 c3 : Nat} {A4 : Option Addr} {n4 c4 : Nat} (h1 : Rd w .u64 Go.Proofs.YteagjlcmgiknmaaGreatDoor.W A1 n1 c1 x.lo.l) (h2 : Rd w .u64 Go.Proofs.YteagjlcmgiknmaaGreatDoor.W A2 n2 c2 x.hi.l) (h3 : Rd w .u64 Go.Proofs.YteagjlcmgiknmaaGreatDoor.W A3 n3 c3 y.lo.l) (h4 : Rd w .u64 Go.Proofs.YteagjlcmgiknmaaGreatDoor.W A4 n4 c4 y.hi.l) : Ivs (w.alloc (.cells #[.bool x.lo.s, .slice A1 n1 c1, .int .i64 x.lo.e, .bool x.hi.s, .slice A2 n2 c2, .int .i64 x.hi.e, .bool y.lo.s, .slice A3 n3 c3, .int .i64 y.lo.e, .bool y.hi.s, .slice A4 n4 c4, .int .i64 y.hi.e] 29)) g 0 2 (fun i => if i = 0 then x else y) := by
 subst hg
 exact ivs_two w h1 h2 h3 h4

theorem iof_any {w : World} {a : Rw} {A1 : Option Addr} {n1 c1 : Nat} (h1 : Rd w .u64 Go.Proofs.YteagjlcmgiknmaaGreatDoor.W A1 n1 c1 a.l) (hn : n1 ≤ 10000000000000) :
  Calls Tryz.prog 7 #[.agg #[.bool a.s, .slice A1 n1 c1, .int .i64 a.e]] w (GivI ⟨a, a⟩ w) := by
 have BB := two_below w (.cells #[.bool a.s, .slice A1 n1 c1, .int .i64 a.e] 25) (.cells #[.bool false, .slice none 0 0, .int .i64 0, .bool false, .slice none 0 0, .int .i64 0] 29)
 have xa := (Box.new w a.s A1 n1 c1 a.e).alloc (.cells #[.bool false, .slice none 0 0, .int .i64 0, .bool false, .slice none 0 0, .int .i64 0] 29)
 have r := ibx_one w (.cells #[.bool a.s, .slice A1 n1 c1, .int .i64 a.e] 25) false none 0 0 0 false none 0 0 0
 have hmf := make_func
 have HN := Lib.hid hn
 clear hn
 replace h1 := mv BB rfl h1
 go_enter Tryz.func7, Tryz.ntmps7
 go_wp2_with fail
 refine (ends1_ok (x := ⟨a, a⟩) (fun _ _ => by kernel_rfl) (by rw [h1.len]; exact HN.out) (fun W2 b2 => of1_any (hi := false) (mv b2 rfl h1) (mv b2 rfl xa)) (by rw [h1.len]; exact HN.out) (fun W2 b2 => of1_any (hi := true) (mv b2 rfl h1) (mv b2 rfl xa))).mono ?_
 rintro en w1 ⟨A3, n3, c3, A4, n4, c4, rfl, h3, h4, b⟩
 clear h1 xa
 replace BB := bnx BB b
 replace r := mv b rfl r
 clear b
 replace h3 : Rd w1 .u64 Go.Proofs.YteagjlcmgiknmaaGreatDoor.W A3 n3 c3 a.l := h3
 replace h4 : Rd w1 .u64 Go.Proofs.YteagjlcmgiknmaaGreatDoor.W A4 n4 c4 a.l := h4
 obtain ⟨f0, f1, f2, f3, f4, f5⟩ := r.open
 obtain ⟨z0, z1, z2, z3, z4, z5⟩ := r.held
 go_wp2
 have qq := r.put a.s A3 n3 c3 a.e a.s A4 n4 c4 a.e
 have hN := h3.put6 r (.bool a.s) (.slice A3 n3 c3) (.int .i64 a.e) (.bool a.s) (.slice A4 n4 c4) (.int .i64 a.e)
 have hM := h4.put6 r (.bool a.s) (.slice A3 n3 c3) (.int .i64 a.e) (.bool a.s) (.slice A4 n4 c4) (.int .i64 a.e)
 have HB3 := below_put6 (g := w.heap.size + 1) BB (by omega) (.bool a.s) (.slice A3 n3 c3) (.int .i64 a.e) (.bool a.s) (.slice A4 n4 c4) (.int .i64 a.e)
 obtain ⟨z0, z1, z2, z3, z4, z5⟩ := qq.held
 exact bodyPost_ret (v := .agg #[.bool a.s, .slice A3 n3 c3, .int .i64 a.e, .bool a.s, .slice A4 n4 c4, .int .i64 a.e]) (by simp [results, Tryz.results7, go_sem, z0, z1, z2, z3, z4, z5]) rfl ⟨_, _, _, _, _, _, rfl, hN, hM, HB3⟩

end Go.Proofs.YteagjlcmgiknmaaGreatDoor

namespace Go.Proofs.YteagjlcmgiknmaaGreatDoor
open Go.RowKit

end Go.Proofs.YteagjlcmgiknmaaGreatDoor
set_option maxHeartbeats 200000
set_option maxRecDepth 100000
namespace Go.Proofs.YteagjlcmgiknmaaGreatDoor
open Go.ChangeShapes Go.WideShapes Go.ChangeAt Go.RowKit

theorem own : ownKnob Tryz.prog.godebug = none := by kernel_rfl
theorem gTab : Tryz.prog.globalNamed "math/bits.deBruijn64tab" = some 1 := by kernel_rfl
theorem gTabType : (Tryz.prog.globals[1]?).map (·.type) = some 128 := by kernel_rfl
theorem cellsTab : Tryz.prog.cellsOf 128 = 64 := by kernel_rfl
theorem cellsU8 : Tryz.prog.cellsOf 5 = 1 := by kernel_rfl
def tabInts : List Int := Lib.deBruijn64tab.map (fun x : Nat => (x : Int))
theorem tab_of {W : World} (h : Lib.TabIs Tryz.prog W "math/bits.deBruijn64tab" .u8 tabInts) : Tab W := fun j hj => by
 have hl : tabInts.length = Lib.deBruijn64tab.length := by simp [tabInts]
 have := h.cell gTab j (by rw [hl]; exact hj)
 rw [this]
 congr 2
 simp only [tabInts, List.getD_eq_getElem?_getD, List.getElem?_map]
 rw [List.getElem?_eq_getElem hj]
 simp
theorem table {W : World} (h : laidMetH Tryz.prog [("math/bits.deBruijn64tab", Rows.laid_math_bits_deBruijn64tab)] W) : Tab W :=
 tab_of (Lib.tabIs_of_head (rest := []) gTab gTabType Tryz.underlying128 Tryz.underlying5 cellsU8 cellsTab h)

/-- 'true', and each argument reads as it did: the post of every law here. -/
theorem post_true {H : Type} {enc : TypeId × Value → H} {f : Func} {s : ChangeSpec} {W W' : World} {args : Array Value} {ds gs : List (DataW H)} {before pa : List MemPlace}
  (hW : DataW.Whole enc Tryz.prog f.params.toList s.vars false W args.toList ds gs before) (hr : f.resultTypes = #[4]) (hs : (s.fn H (ds ++ gs)).results = [.lit (.bool true)]) (hv : DataW.TrodVars enc Tryz.prog W' (fun b => decide (b < W.heap.size)) s.vars (s.fn H (ds ++ gs)).vars [])
  (hargs : DataW.TrodAll enc Tryz.prog W' 0 (fun b => decide (b < W.heap.size)) true f.params.toList args.toList (s.fn H (ds ++ gs)).args pa) (hb : Below W.heap.size W W') :
  s.post enc Tryz.prog f false true false false W args (.bool true) W' := by
 refine ⟨ds, gs, before, [], pa, [], hW, ?_, hargs, hv, hb.frame _, fun h => by cases h⟩
 rw [hs, hr]
 exact trodAll_cons_mk (shut_bool Tryz.underlying4 _) trodAll_mk0
end Go.Proofs.YteagjlcmgiknmaaGreatDoor

namespace Go.Proofs.YteagjlcmgiknmaaGreatDoor
open Go.ChangeShapes Go.WideShapes Go.ChangeAt Go.RowKit

end Go.Proofs.YteagjlcmgiknmaaGreatDoor

namespace Go.Proofs.YteagjlcmgiknmaaGreatDoor
open Go.ChangeShapes Go.WideShapes Go.ChangeAt Go.RowKit

end Go.Proofs.YteagjlcmgiknmaaGreatDoor

namespace Go.Proofs.YteagjlcmgiknmaaGreatDoor
open Go.ChangeShapes Go.WideShapes Go.ChangeAt Go.RowKit

end Go.Proofs.YteagjlcmgiknmaaGreatDoor
set_option maxHeartbeats 200000
set_option maxRecDepth 100000
namespace Go.Proofs.YteagjlcmgiknmaaGreatDoor
open Go.ChangeShapes Go.WideShapes Go.ChangeAt Go.RowKit

def laid9 : List (String × DataW Unit) := [("math/bits.deBruijn32tab", Rows.laid_math_bits_deBruijn32tab), ("math/bits.deBruijn64tab", Rows.laid_math_bits_deBruijn64tab)]
theorem table9 {W : World} (h : laidMetH Tryz.prog laid9 W) : Tab W := by
 have e1 : laid9.filter (fun x => x.1 == "math/bits.deBruijn64tab") = [("math/bits.deBruijn64tab", Rows.laid_math_bits_deBruijn64tab)] := by kernel_rfl
 have h1 := h.filter (fun x => x.1 == "math/bits.deBruijn64tab")
 rw [e1] at h1
 exact table h1
/-- a world for the witness -/
noncomputable def laidWorld9 (os : Os) : World := World.laidAll Tryz.prog os laid9
end Go.Proofs.YteagjlcmgiknmaaGreatDoor
namespace Go.Proofs.YteagjlcmgiknmaaGreatDoor
open Go.RowKit

def Rw.of (s : Bool) (m : Nat) (e : Int) : Rw := ⟨s, dig Go.Proofs.YteagjlcmgiknmaaGreatDoor.W m, e, (can_dig W_two m).1⟩
theorem Rw.of_may {s : Bool} {m : Nat} {e : Int} (h : OkD s m e) : (Rw.of s m e).may = true := mayD_ok h
theorem Rw.of_v {K : Nat} {s : Bool} {m : Nat} {e : Int} : (Rw.of s m e).v K = vz K s m e := by
 unfold Rw.of Rw.v
 rw [val_dig W_two]
theorem vz_1 (K m : Nat) : vz K false m 0 = (m : Int) * ((2 ^ K : Nat) : Int) := by
 unfold vz sg
 have e1 : ((0 : Int) + (K : Int)).toNat = K := by omega
 rw [e1, if_neg Bool.false_ne_true, Int.one_mul, Int.natCast_mul]
theorem vz_2 (K m j : Nat) : vz K false m (j : Int) = ((m * 2 ^ j : Nat) : Int) * ((2 ^ K : Nat) : Int) := by
 have h := vz_up (K := K) (s := false) (m := m) (e := 0) (by omega) j
 rw [Int.zero_add] at h
 rw [h, vz_1]
/-- 1, 3, and the interval from 1 to 3 -/
def q1 : Rw := Rw.of false 1 0
def q3 : Rw := Rw.of false 3 0
theorem told_is' {f : FuncId} {args : Array Value} {P : Int → Bool → Nat → Int → Prop} {w : World} {s : Bool} {m : Nat} {e k : Int} (h : Calls Tryz.prog f args w (Tells P w)) (hP : ∀ k1 s1 m1 e1, P k1 s1 m1 e1 → k1 = k ∧ s1 = s ∧ m1 = m ∧ e1 = e) : Calls Tryz.prog f args w (ToldIs s m e k w) := h.mono fun _ _ h => told_is h hP

end Go.Proofs.YteagjlcmgiknmaaGreatDoor
namespace Go.Proofs.YteagjlcmgiknmaaGreatDoor
open Go.ChangeShapes Go.WideShapes Go.ChangeAt Go.RowKit

/-- a slice whose elements read as intervals -/
structure RdS (w : World) (A : Option Addr) (n c : Nat) (X : Nat → Iv) : Prop where
 cap : n ≤ c
 max : c ≤ 9223372036854775807
 at_ : n ≠ 0 → ∃ b o, A = some ⟨b, o, none⟩ ∧ Ivs w b o n X
end Go.Proofs.YteagjlcmgiknmaaGreatDoor
namespace Go.Proofs.YteagjlcmgiknmaaGreatDoor
open Go.RowKit

/-- a block that holds a near's three parts -/
structure Nrb (w : World) (g : Nat) (A : Option Addr) (n c : Nat) (B : Option Addr) (m d : Nat) (e : Int) : Prop where
 blk : w.heap[g]? = some (.cells #[.slice A n c, .slice B m d, .int .i64 e] 156 (0, 0))
section
variable {w w' : World} {g : Nat} {A : Option Addr} {n c : Nat} {B : Option Addr} {m d : Nat} {e : Int}
theorem Nrb.gl (h : Nrb w g A n c B m d e) : g < w.heap.size := by
 rcases Nat.lt_or_ge g w.heap.size with hlt | hge
 ·exact hlt
 ·have := h.blk; rw [Array.getElem?_eq_none hge] at this; cases this
theorem Nrb.at (h : Nrb w g A n c B m d e) (i : Nat) : w.cell? ⟨g, i, none⟩ = #[Value.slice A n c, .slice B m d, .int .i64 e][i]? := cell_of_row w g i _ 156 (0, 0) h.blk
theorem Nrb.held (h : Nrb w g A n c B m d e) : w.cell? ⟨g, 0, none⟩ = some (.slice A n c) ∧ w.cell? ⟨g, 1, none⟩ = some (.slice B m d) ∧ w.cell? ⟨g, 2, none⟩ = some (.int .i64 e) := ⟨h.at 0, h.at 1, h.at 2⟩
theorem Nrb.frozen (h : Nrb w g A n c B m d e) (i : Nat) : w.frozen? ⟨g, i, none⟩ = false := by
 have := h.blk
 simp [World.frozen?, this]
theorem Nrb.open (h : Nrb w g A n c B m d e) : w.frozen? ⟨g, 0, none⟩ = false ∧ w.frozen? ⟨g, 1, none⟩ = false ∧ w.frozen? ⟨g, 2, none⟩ = false := ⟨h.frozen 0, h.frozen 1, h.frozen 2⟩
theorem Nrb.below {b0 : Nat} (h : Nrb w g A n c B m d e) (hb : Below b0 w w') (hg : g < b0) : Nrb w' g A n c B m d e := ⟨(hb.block g hg).trans h.blk⟩
theorem Nrb.new (w : World) (A : Option Addr) (n c : Nat) (B : Option Addr) (m d : Nat) (e : Int) : Nrb (w.alloc (.cells #[.slice A n c, .slice B m d, .int .i64 e] 156)) w.heap.size A n c B m d e := ⟨heap_alloc_new w _⟩
theorem Nrb.alloc (h : Nrb w g A n c B m d e) (o : Obj) : Nrb (w.alloc o) g A n c B m d e := h.below (below_alloc w o) h.gl
theorem Nrb.no (h : Nrb w g A n c B m d e) (i x : Nat) : w.cell? ⟨g, i, none⟩ ≠ some (.int .u64 (x : Int)) := by
 rw [h.at i]
 match i with
 | 0 => simp
 | 1 => simp
 | 2 => simp
 | i + 3 => simp
theorem Nrb.put (h : Nrb w g A n c B m d e) (A' : Option Addr) (n' c' : Nat) (B' : Option Addr) (m' d' : Nat) (e' : Int) : Nrb (((w.setCell ⟨g, 0, none⟩ (.slice A' n' c')).setCell ⟨g, 1, none⟩ (.slice B' m' d')).setCell ⟨g, 2, none⟩ (.int .i64 e')) g A' n' c' B' m' d' e' := by
 have := h.blk
 refine ⟨?_⟩
 simp [World.setCell, Array.getElem?_modify, this]
theorem Nrb.next {w2 X : World} (h : Nrb w g A n c B m d e) (b : Below X.heap.size X w2) (he : X.heap = w.heap) : Nrb w2 g A n c B m d e :=
 ⟨(b.block g (by rw [he]; exact h.gl)).trans (by rw [he]; exact h.blk)⟩
instance {w w2 : World} {g : Nat} {A : Option Addr} {n c : Nat} {B : Option Addr} {m d : Nat} {e : Int} : Moves w w2 (Nrb w g A n c B m d e) (Nrb w2 g A n c B m d e) := ⟨fun _ b e h => h.next b e⟩
theorem Nrb.other {g' : Nat} (h : Nrb w g A n c B m d e) (hne : g ≠ g') (u0 u1 u2 : Value) : Nrb (((w.setCell ⟨g', 0, none⟩ u0).setCell ⟨g', 1, none⟩ u1).setCell ⟨g', 2, none⟩ u2) g A n c B m d e :=
 ⟨(Below.heap_setCell _ _ u2 g hne).trans ((Below.heap_setCell _ _ u1 g hne).trans ((Below.heap_setCell w _ u0 g hne).trans h.blk))⟩
theorem Nrb.at_ {w : World} {g : Nat} (hg : w.heap.size = g) (A : Option Addr) (n c : Nat) (B : Option Addr) (m d : Nat) (e : Int) : Nrb (w.alloc (.cells #[.slice A n c, .slice B m d, .int .i64 e] 156)) g A n c B m d e := by
 subst hg
 exact Nrb.new w A n c B m d e
end
end Go.Proofs.YteagjlcmgiknmaaGreatDoor
