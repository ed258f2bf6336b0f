/-
 Plain facts on rounding of naturals to so many bits, down and up. No condition; nothing of the program is named here.
-/
import Derived.Test.YtdhdebapjlcjdaaGreatDoorUDn
import Derived.Test.YtdhdebapjlcjdaaGreatDoorUMv
import Derived.Test.YtdhdebapjlcjdaaGreatDoorUDy3
namespace Go.Proofs.YtdhdebapjlcjdaaGreatDoor

/-- has x at most p bits, its noughts at the end left out? -/
def Fits (p x : Nat) : Prop := ∃ a k, x = a * 2 ^ k ∧ a < 2 ^ p
/-- x cut to p bits, down; up: the next one, if anything was cut off -/
def cutN (p x : Nat) (up : Bool) : Nat := x / 2 ^ (blen x - p) + if up = true ∧ x % 2 ^ (blen x - p) ≠ 0 then 1 else 0
def rdN (p x : Nat) (up : Bool) : Nat := cutN p x up * 2 ^ (blen x - p)

theorem pow_pos2 (k : Nat) : 0 < 2 ^ k := Nat.pow_pos (by omega)
theorem fits_mono {p q x : Nat} (h : Fits p x) (hpq : p ≤ q) : Fits q x := by
 obtain ⟨a, k, e, ha⟩ := h
 exact ⟨a, k, e, Nat.lt_of_lt_of_le ha (Nat.pow_le_pow_right (by omega) hpq)⟩
theorem fits_shift {p x j : Nat} (h : Fits p x) : Fits p (x * 2 ^ j) := by
 obtain ⟨a, k, e, ha⟩ := h
 exact ⟨a, k + j, by rw [e, Nat.pow_add, Nat.mul_assoc], ha⟩
theorem fits_zero (p : Nat) : Fits p 0 := ⟨0, 0, by simp, pow_pos2 p⟩
theorem fits_of {p x : Nat} (h : x < 2 ^ p) : Fits p x := ⟨x, 0, by simp, h⟩
/-- an odd number's bits are all there -/
theorem fits_odd {p q k : Nat} (h : Fits p (2 ^ k * (2 * q + 1))) : 2 * q + 1 < 2 ^ p := by
 obtain ⟨a, j, e, ha⟩ := h
 have ha0 : a ≠ 0 := by
  intro h0
  rw [h0, Nat.zero_mul] at e
  have : 0 < 2 ^ k * (2 * q + 1) := Nat.mul_pos (pow_pos2 k) (by omega)
  omega
 obtain ⟨i, b, hb⟩ := low_has ha0
 have e2 : 2 ^ k * (2 * q + 1) = 2 ^ (i + j) * (2 * b + 1) := by
  rw [e, hb, Nat.pow_add]; ac_rfl
 obtain ⟨_, h2⟩ := odd_uniq e2
 have h3 : 1 * (2 * b + 1) ≤ 2 ^ i * (2 * b + 1) := Nat.mul_le_mul_right _ (pow_pos2 i)
 omega
theorem fits_blen {p q k : Nat} : Fits p (2 ^ k * (2 * q + 1)) ↔ blen (2 * q + 1) ≤ p := by
 rw [blen_le]
 constructor
 ·exact fits_odd
 ·intro h
  exact ⟨2 * q + 1, k, Nat.mul_comm _ _, h⟩
theorem unfits {p x j : Nat} (h : Fits p (x * 2 ^ j)) : Fits p x := by
 rcases Nat.eq_zero_or_pos x with h0 | h0
 ·rw [h0]; exact fits_zero p
 ·obtain ⟨k, q, hq⟩ := low_has (x := x) (by omega)
  have e1 : x * 2 ^ j = 2 ^ (k + j) * (2 * q + 1) := by rw [hq, Nat.pow_add]; ac_rfl
  rw [e1, fits_blen] at h
  rw [hq, fits_blen]
  exact h

theorem cut_parts (p x : Nat) : x = x / 2 ^ (blen x - p) * 2 ^ (blen x - p) + x % 2 ^ (blen x - p) := by
 have := Nat.div_add_mod x (2 ^ (blen x - p))
 rw [Nat.mul_comm] at this
 omega
theorem cut_lt (p x : Nat) : x / 2 ^ (blen x - p) < 2 ^ p := by
 rw [Nat.div_lt_iff_lt_mul (pow_pos2 _), ← Nat.pow_add]
 refine Nat.lt_of_lt_of_le ((blen_le x (blen x)).1 (Nat.le_refl _)) (Nat.pow_le_pow_right (by omega) (by omega))
theorem rd_fits {p : Nat} (hp : 1 ≤ p) (x : Nat) (up : Bool) : Fits p (rdN p x up) := by
 unfold rdN
 apply fits_shift
 have h := cut_lt p x
 have h2 : cutN p x up ≤ x / 2 ^ (blen x - p) + 1 := by unfold cutN; split <;> omega
 by_cases h3 : cutN p x up < 2 ^ p
 ·exact fits_of h3
 ·have h4 : cutN p x up = 2 ^ p := by omega
  rw [h4]
  exact ⟨1, p, by omega, Nat.one_lt_two_pow (by omega)⟩
/-- what is cut off leaves the highest bit -/
theorem rd_top {p x : Nat} (hp : 1 ≤ p) (hx : x ≠ 0) : 2 ^ (blen x - 1) ≤ x / 2 ^ (blen x - p) * 2 ^ (blen x - p) := by
 obtain ⟨h1, h2, h3⟩ := blen_pos hx
 have e1 : 2 ^ (blen x - 1) = 2 ^ (blen x - 1 - (blen x - p)) * 2 ^ (blen x - p) := by rw [← Nat.pow_add]; congr 1; omega
 rw [e1] at h1 ⊢
 exact Nat.mul_le_mul_right _ ((Nat.le_div_iff_mul_le (pow_pos2 _)).2 h1)
theorem fits_cases {p c n : Nat} (h : Fits p c) : (∃ b, c = b * 2 ^ n) ∨ c < 2 ^ (p + n - 1) ∨ n = 0 := by
 obtain ⟨a, k, e, ha⟩ := h
 rcases Nat.lt_or_ge k n with h1 | h1
 ·refine .inr (.inl ?_)
  rw [e]
  have h2 : a * 2 ^ k < 2 ^ p * 2 ^ k := Nat.mul_lt_mul_of_pos_right ha (pow_pos2 k)
  rw [← Nat.pow_add] at h2
  exact Nat.lt_of_lt_of_le h2 (Nat.pow_le_pow_right (by omega) (by omega))
 ·refine .inl ⟨a * 2 ^ (k - n), ?_⟩
  rw [e, Nat.mul_assoc, ← Nat.pow_add]
  congr 2; omega
theorem rd_greatest {p x c : Nat} (hp : 1 ≤ p) (hc : Fits p c) (h : c ≤ x) : c ≤ rdN p x false := by
 unfold rdN cutN
 simp only [Bool.false_eq_true, false_and, if_false, Nat.add_zero]
 by_cases hx : x = 0
 ·subst hx; simp; omega
 have ht := rd_top hp hx
 rcases fits_cases (n := blen x - p) hc with ⟨b, hb⟩ | h2 | h2
 ·rw [hb] at h ⊢
  exact Nat.mul_le_mul_right _ ((Nat.le_div_iff_mul_le (pow_pos2 _)).2 h)
 ·by_cases h3 : blen x - p = 0
  ·rw [h3, Nat.pow_zero, Nat.div_one, Nat.mul_one]; exact h
  ·have e1 : p + (blen x - p) - 1 = blen x - 1 := by omega
   rw [e1] at h2
   omega
 ·rw [h2, Nat.pow_zero, Nat.div_one, Nat.mul_one]; exact h
theorem rd_least {p x c : Nat} (hp : 1 ≤ p) (hc : Fits p c) (h : x ≤ c) : rdN p x true ≤ c := by
 unfold rdN cutN
 have hq := cut_parts p x
 by_cases hr : x % 2 ^ (blen x - p) = 0
 ·rw [if_neg (by simp [hr]), Nat.add_zero]; omega
 ·rw [if_pos ⟨rfl, hr⟩]
  have hx : x ≠ 0 := by intro h0; rw [h0] at hr; simp at hr
  obtain ⟨h1, _, h3⟩ := blen_pos hx
  rcases fits_cases (n := blen x - p) hc with ⟨b, hb⟩ | h2 | h2
  ·rw [hb] at h ⊢
   have h4 : x / 2 ^ (blen x - p) * 2 ^ (blen x - p) < b * 2 ^ (blen x - p) := by omega
   exact Nat.mul_le_mul_right _ (Nat.lt_of_mul_lt_mul_right h4)
  ·exfalso
   by_cases h5 : blen x - p = 0
   ·rw [h5, Nat.pow_zero, Nat.mod_one] at hr; exact hr rfl
   ·have e1 : p + (blen x - p) - 1 = blen x - 1 := by omega
    rw [e1] at h2
    omega
  ·exfalso
   rw [h2, Nat.pow_zero, Nat.mod_one] at hr; exact hr rfl
end Go.Proofs.YtdhdebapjlcjdaaGreatDoor
namespace Go.Proofs.YtdhdebapjlcjdaaGreatDoor
open Go.RowKit

theorem dcmp_is {w : World} {A B : Option Addr} {n c m d x y K : Nat} {s t : Bool} {e f z : Int} (hK : 4194304 ≤ K) (hT : Tab w) (h : Nt w A n c x) (h' : Nt w B m d y) (hd : OkD s x e) (hd' : OkD t y f) (hz : cmpV (vz K s x e) (vz K t y f) = z) :
  Calls Tryz.prog 17 #[.agg #[.bool s, .slice A n c, .int .i64 e], .agg #[.bool t, .slice B m d, .int .i64 f]] w (Ints z w) := by
 have := dcmp_ok hK hT h h' hd hd'
 rwa [hz] at this
theorem sign_is {w : World} {A : Option Addr} {n c m : Nat} {s : Bool} {e z : Int} (hT : Tab w) (h : Nt w A n c m) (hd : OkD s m e) (hz : signD s m = z) :
  Calls Tryz.prog 44 #[.agg #[.bool s, .slice A n c, .int .i64 e]] w (Ints z w) := by
 have := sign_ok hT h hd
 rwa [hz] at this
end Go.Proofs.YtdhdebapjlcjdaaGreatDoor
namespace Go.Proofs.YtdhdebapjlcjdaaGreatDoor

theorem pos_of_pow {k : Nat} : (0 : Int) < ((2 ^ k : Nat) : Int) := by
 have := pow_pos2 k
 generalize 2 ^ k = P at *
 omega
/-- what is small and near is told no error -/
theorem nm_good {s : Bool} {m : Nat} {e k : Int} {s' : Bool} {m' : Nat} {e' : Int} (h : Nm s m e k s' m' e') (hm : blen m ≤ 4096) (he : -100000 ≤ e) (he' : e ≤ 100000) : k = 0 := by
 rcases h with ⟨_, h, _⟩ | ⟨j, q, hm0, h⟩
 ·exact h
 ·have h1 := (blen_le m _).1 hm
  obtain ⟨L, hL⟩ : ∃ L, L = 64 * 64 := ⟨_, rfl⟩
  have e1 : 4096 = L := by omega
  rw [e1] at h1
  have h2 : 1 * (2 * q + 1) ≤ 2 ^ j * (2 * q + 1) := Nat.mul_le_mul_right _ (pow_pos2 j)
  have h3 : 2 ^ j * 1 ≤ 2 ^ j * (2 * q + 1) := Nat.mul_le_mul_left _ (by omega)
  have h4 : j < L := by
   rcases Nat.lt_or_ge j L with h5 | h5
   ·exact h5
   ·have := Nat.pow_le_pow_right (n := 2) (by omega) h5
    omega
  have h5 : 2 * q + 1 < W ^ 64 := by rw [W64_pow, ← hL]; omega
  rcases h with ⟨h6, _⟩ | ⟨_, h6, _⟩ | ⟨_, _, h6, _⟩
  ·exact absurd h5 (by omega)
  ·exact absurd (And.intro (show -1048576 ≤ e + (j : Int) by omega) (show e + (j : Int) ≤ 1048576 by omega)) h6
  ·exact h6
theorem vz_mono {K : Nat} {s : Bool} {x y : Nat} {e : Int} (h : x ≤ y) : (s = false → vz K s x e ≤ vz K s y e) ∧ (s = true → vz K s y e ≤ vz K s x e) := by
 unfold vz
 have := Nat.mul_le_mul_right (2 ^ (e + K).toNat) h
 generalize x * 2 ^ (e + K).toNat = X at *
 generalize y * 2 ^ (e + K).toNat = Y at *
 constructor
 ·rintro rfl; simp only [sg, Bool.false_eq_true, if_false]; omega
 ·rintro rfl; simp only [sg, if_true]; omega
theorem vz_sgn {K : Nat} {x : Nat} {e : Int} : 0 ≤ vz K false x e ∧ vz K true x e ≤ 0 := by
 unfold vz
 simp only [sg, Bool.false_eq_true, if_false, if_true]
 omega
theorem nm_fits {p : Nat} {s : Bool} {y : Nat} {e k : Int} {s' : Bool} {m' : Nat} {e' : Int} (h : Nm s y e k s' m' e') (hy : Fits p y) : Fits p m' := by
 rcases h with ⟨_, _, _, h3, _⟩ | ⟨j, q, hm0, ⟨_, _, _, h3, _⟩ | ⟨_, _, _, _, h3, _⟩ | ⟨_, _, _, hs, h3, h4⟩⟩
 ·rw [h3]; exact fits_zero p
 ·rw [h3]; exact fits_zero p
 ·rw [h3]; exact fits_zero p
 ·rw [h3]
  rw [hm0, Nat.mul_comm] at hy
  exact unfits hy
end Go.Proofs.YtdhdebapjlcjdaaGreatDoor
namespace Go.Proofs.YtdhdebapjlcjdaaGreatDoor
open Go.RowKit

def NatIs (x : Nat) (w : World) (e : Ending) (w' : World) : Prop := ∃ A n c, e = .returned (.slice A n c) ∧ Nt w' A n c x ∧ Below w.heap.size w w'
/-- a natural, and whether anything is left behind it -/
def PartIs (x : Nat) (r : Bool) (w : World) (e : Ending) (w' : World) : Prop := ∃ A n c, e = .returned (.tuple #[.slice A n c, .bool r]) ∧ Nt w' A n c x ∧ Below w.heap.size w w'
theorem new_cell (w : World) (cs : Array Value) (t : TypeId) (i : Nat) : (w.alloc (.cells cs t)).cell? ⟨w.heap.size, i, none⟩ = cs[i]? := cell_of_row _ _ i _ t (0, 0) (heap_alloc_new w _)

/-- a block that holds a size's three parts -/
structure Siz (w : World) (g : Nat) (s : Bool) (A : Option Addr) (n c : Nat) (e : Int) : Prop where
 blk : w.heap[g]? = some (.cells #[.slice A n c, .int .i64 e, .bool s] 101 (0, 0))
section
variable {w w' : World} {g : Nat} {s : Bool} {A : Option Addr} {n c : Nat} {e : Int}
theorem Siz.gl (h : Siz w g s A n c e) : g < w.heap.size := by
 rcases Nat.lt_or_ge g w.heap.size with hlt | hge
 ·exact hlt
 ·have := h.blk; rw [Array.getElem?_eq_none hge] at this; cases this
theorem Siz.at (h : Siz w g s A n c e) (i : Nat) : w.cell? ⟨g, i, none⟩ = #[Value.slice A n c, .int .i64 e, .bool s][i]? := cell_of_row w g i _ 101 (0, 0) h.blk
theorem Siz.c0 (h : Siz w g s A n c e) : w.cell? ⟨g, 0, none⟩ = some (.slice A n c) := h.at 0
theorem Siz.c1 (h : Siz w g s A n c e) : w.cell? ⟨g, 1, none⟩ = some (.int .i64 e) := h.at 1
theorem Siz.c2 (h : Siz w g s A n c e) : w.cell? ⟨g, 2, none⟩ = some (.bool s) := h.at 2
theorem Siz.frozen (h : Siz w g s A n c e) (i : Nat) : w.frozen? ⟨g, i, none⟩ = false := by
 have := h.blk
 simp [World.frozen?, this]
theorem Siz.below {b0 : Nat} (h : Siz w g s A n c e) (hb : Below b0 w w') (hg : g < b0) : Siz w' g s A n c e := ⟨(hb.block g hg).trans h.blk⟩
theorem Siz.drew (h : Siz w g s A n c e) : Siz w.drew g s A n c e := ⟨h.blk⟩
theorem Siz.new (w : World) (s : Bool) (A : Option Addr) (n c : Nat) (e : Int) : Siz (w.alloc (.cells #[.slice A n c, .int .i64 e, .bool s] 101)) w.heap.size s A n c e := ⟨heap_alloc_new w _⟩
theorem Siz.alloc (h : Siz w g s A n c e) (o : Obj) : Siz (w.alloc o) g s A n c e := h.below (below_alloc w o) h.gl
/-- no limb lies in such a block -/
theorem Siz.no (h : Siz w g s A n c e) (i x : Nat) : w.cell? ⟨g, i, none⟩ ≠ some (.int .u64 (x : Int)) := by
 rw [h.at i]
 match i with
 | 0 => simp
 | 1 => simp
 | 2 => simp
 | i + 3 => simp
/-- the three parts stored anew -/
theorem Siz.put (h : Siz w g s A n c e) (s' : Bool) (A' : Option Addr) (n' c' : Nat) (e' : Int) : Siz (((w.setCell ⟨g, 0, none⟩ (.slice A' n' c')).setCell ⟨g, 1, none⟩ (.int .i64 e')).setCell ⟨g, 2, none⟩ (.bool s')) g s' A' n' c' e' := by
 have := h.blk
 refine ⟨?_⟩
 simp [World.setCell, Array.getElem?_modify, this]
end
theorem Siz.held {w : World} {g : Nat} {s : Bool} {A : Option Addr} {n c : Nat} {e : Int} (h : Siz w g s A n c e) : w.cell? ⟨g, 0, none⟩ = some (.slice A n c) ∧ w.cell? ⟨g, 1, none⟩ = some (.int .i64 e) ∧ w.cell? ⟨g, 2, none⟩ = some (.bool s) := ⟨h.c0, h.c1, h.c2⟩
theorem Siz.open {w : World} {g : Nat} {s : Bool} {A : Option Addr} {n c : Nat} {e : Int} (h : Siz w g s A n c e) : w.frozen? ⟨g, 0, none⟩ = false ∧ w.frozen? ⟨g, 1, none⟩ = false ∧ w.frozen? ⟨g, 2, none⟩ = false := ⟨h.frozen 0, h.frozen 1, h.frozen 2⟩
theorem Siz.next {w X w2 : World} {g : Nat} {s : Bool} {A : Option Addr} {n c : Nat} {e : Int} (h : Siz w g s A n c e) (b : Below X.heap.size X w2) (he : X.heap = w.heap) : Siz w2 g s A n c e :=
 ⟨(b.block g (by rw [he]; exact h.gl)).trans (by rw [he]; exact h.blk)⟩
theorem Nt.putS {w : World} {g : Nat} {A : Option Addr} {n c y : Nat} {s0 : Bool} {A0 : Option Addr} {n0 c0 : Nat} {e0 : Int} (h : Nt w A n c y) (hb : Siz w g s0 A0 n0 c0 e0) (u0 u1 u2 : Value) : Nt (((w.setCell ⟨g, 0, none⟩ u0).setCell ⟨g, 1, none⟩ u1).setCell ⟨g, 2, none⟩ u2) A n c y := by
 have hne := h.rd.off hb.no
 exact ⟨((h.rd.set1 hne 0 u0).set1 hne 1 u1).set1 hne 2 u2, h.lt⟩

theorem raised_ok {w : World} {A : Option Addr} {n c x s : Nat} (h : Nt w A n c x) (hs : s ≤ 1000000) (hlt : x * 2 ^ s < W ^ 64) :
  Calls Tryz.prog 143 #[.slice A n c, .int .i64 (s : Int)] w (NatIs (x * 2 ^ s) w) := by
 have HLT := Lib.hid hlt
 clear hlt
 go_enter Tryz.func143, Tryz.ntmps143
 go_wp2_with fail
 refine (shl_ok (s := s) h hs HLT.out).mono ?_
 rintro e' w2 ⟨A2, n2, c2, rfl, h2, b⟩
 go_wp2_with fail
 refine natural_ok.mono ?_
 rintro e' w' ⟨rfl, rfl⟩
 go_wp2
 go_ret
 exact ⟨_, _, _, rfl, h2, b⟩
theorem isLow_mod {x k s : Nat} (h : IsLow x k) : x % 2 ^ s ≠ 0 ↔ k < s := by
 obtain ⟨q, hq⟩ := h
 constructor
 ·intro h1
  rcases Nat.lt_or_ge k s with h2 | h2
  ·exact h2
  ·exfalso
   apply h1
   have e1 : x = 2 ^ s * (2 ^ (k - s) * (2 * q + 1)) := by
    rw [hq, ← Nat.mul_assoc, ← Nat.pow_add]
    congr 2; omega
   rw [e1, Nat.mul_mod_right]
 ·intro h1 h2
  have e1 : 2 ^ s = 2 ^ k * (2 * 2 ^ (s - k - 1)) := by
   rw [← Nat.pow_succ', ← Nat.pow_add]; congr 1; omega
  obtain ⟨r, hr⟩ := Nat.dvd_of_mod_eq_zero h2
  rw [hq, e1, Nat.mul_assoc] at hr
  have := Nat.eq_of_mul_eq_mul_left (pow_pos2 k) hr
  rw [Nat.mul_assoc] at this
  omega
theorem scaled_up {w : World} {A : Option Addr} {n c x s : Nat} (h : Nt w A n c x) (hs : s ≤ 1000000) (hlt : x * 2 ^ s < W ^ 64) :
  Calls Tryz.prog 101 #[.slice A n c, .int .i64 (s : Int)] w (PartIs (x * 2 ^ s) false w) := by
 have HLT := Lib.hid hlt
 have d1 : decide ((0 : Int) ≤ (s : Int)) = true := decide_eq_true (by omega)
 clear hlt
 go_enter Tryz.func101, Tryz.ntmps101
 go_wp2_with fail
 refine (raised_ok (s := s) h hs HLT.out).mono ?_
 rintro e' w2 ⟨A2, n2, c2, rfl, h2, b⟩
 go_wp2
 go_ret2
 exact ⟨_, _, _, rfl, h2, b⟩
theorem scaled_down {w : World} {A : Option Addr} {n c x s : Nat} (hT : Tab w) (h : Nt w A n c x) (hs : s ≤ 1000000) (h0 : s ≠ 0 → x ≠ 0) :
  Calls Tryz.prog 101 #[.slice A n c, .int .i64 (-(s : Int))] w (PartIs (x / 2 ^ s) (decide (x % 2 ^ s ≠ 0)) w) := by
 by_cases hs0 : s = 0
 ·subst hs0
  have h1 := scaled_up (s := 0) h (by omega) (by rw [Nat.pow_zero, Nat.mul_one]; exact h.lt)
  rw [Nat.pow_zero, Nat.mul_one] at h1
  rw [Nat.pow_zero, Nat.div_one, Nat.mod_one]
  exact h1
 ·have HX := Lib.hid (h0 hs0)
  have d1 : decide ((0 : Int) ≤ -(s : Int)) = false := decide_eq_false (by omega)
  have hs1 : (s : Int) ≤ 1000000 := by omega
  have hs2 : 0 < (s : Int) := by omega
  clear h0
  go_enter Tryz.func101, Tryz.ntmps101
  go_wp2_with fail
  refine (shr_ok (s := s) h (by omega)).mono ?_
  rintro e' w2 ⟨A2, n2, c2, rfl, h2, b⟩
  have hT2 := hT.next b rfl
  have h3 := h.next b rfl
  clear hT h
  go_wp2_with fail
  refine natural_ok.mono ?_
  rintro e' w' ⟨rfl, rfl⟩
  go_wp2_with fail
  refine (low_nt hT2 h3 HX.out).mono ?_
  rintro e' w' ⟨k, rfl, hk, rfl⟩
  have hm : decide (x % 2 ^ s ≠ 0) = decide (k < s) := decide_eq_decide.2 (isLow_mod hk)
  have hk4 : k ≤ 4096 := by
   have := low_lt hk (m := 64 * 64) (by rw [← W64_pow]; exact h3.lt)
   omega
  have HM := Lib.hid hm
  clear hm hk h3 hT2
  go_wp2
  go_ret2
  exact ⟨_, _, _, by rw [HM.out]; simp, h2, b⟩

theorem must_ok {w : World} {A : Option Addr} {n c m : Nat} {s : Bool} {e : Int} (h : Nt w A n c m) :
  Calls Tryz.prog 22 #[.agg #[.bool s, .slice A n c, .int .i64 e], .int .i64 0] w (Goods s m e w) := by
 have BB := two_below w (.cells #[.bool s, .slice A n c, .int .i64 e] 25) (.cells #[.bool s, .slice A n c, .int .i64 e] 25)
 have h1 := h.below BB
 go_enter Tryz.func22, Tryz.ntmps22
 go_wp2_with fail
 refine check_ok.mono ?_
 rintro e' w' ⟨rfl, rfl⟩
 go_wp2
 exact bodyPost_ret (v := .agg #[.bool s, .slice A n c, .int .i64 e]) (by simp [results, Tryz.results22, go_sem]) rfl ⟨_, _, _, rfl, h1, BB⟩
theorem must_bad {w : World} {A : Option Addr} {n c : Nat} {s : Bool} {e k : Int} (hk : k ≠ 0) :
  Calls Tryz.prog 22 #[.agg #[.bool s, .slice A n c, .int .i64 e], .int .i64 k] w (Faults k w) := by
 have BB := two_below w (.cells #[.bool s, .slice A n c, .int .i64 e] 25) (.cells #[.bool false, .slice none 0 0, .int .i64 0] 25)
 have HK := Lib.hid hk
 clear hk
 go_enter Tryz.func22, Tryz.ntmps22
 go_wp2_with fail
 refine (check_bad HK.out).mono ?_
 rintro e' w' ⟨rfl, rfl⟩
 go_wp2
 exact ⟨rfl, rfl, BB⟩

/-- what cut leaves of x and a rest behind it, as an M -/
def cutR (p x : Nat) (rest u : Bool) : Nat := x / 2 ^ (blen x - p) + if u = true ∧ (rest = true ∨ x % 2 ^ (blen x - p) ≠ 0) then 1 else 0
theorem cutR_lt {p x : Nat} {rest u : Bool} (hp : p ≤ 2000) : x / 2 ^ (blen x - p) + 1 < W ^ 64 ∧ cutR p x rest u < W ^ 64 := by
 have h1 := cut_lt p x
 obtain ⟨j, hj⟩ : ∃ j, j = 64 * 64 := ⟨_, rfl⟩
 have h2 : 2 ^ p * 2 ≤ 2 ^ j := by rw [← Nat.pow_succ]; exact Nat.pow_le_pow_right (by omega) (by omega)
 have h3 := pow_pos2 p
 rw [W64_pow, ← hj]
 have h4 : cutR p x rest u ≤ x / 2 ^ (blen x - p) + 1 := by unfold cutR; split <;> omega
 omega
theorem cutR_false (p x : Nat) (u : Bool) : cutR p x false u = cutN p x u := by
 unfold cutR cutN
 simp
end Go.Proofs.YtdhdebapjlcjdaaGreatDoor
