/-
  Contracts of round's divided, quotient and root, at this translation. Condition: the slices read as naturals, the table of math/bits reads as its text lays it.
-/
import Derived.Test.YtijflbnfikiaaaaGreatDoorRa
import Derived.Test.YtijflbnfikiaaaaGreatDoorMv
import Derived.Test.YtijflbnfikiaaaaGreatDoorRoot
namespace Go.Proofs.YtijflbnfikiaaaaGreatDoor
open Go.RowKit

instance {w w2 : World} {g : Nat} {s : Bool} {A : Option Addr} {n c : Nat} {e : Int} : Moves w w2 (Siz w g s A n c e) (Siz w2 g s A n c e) := ⟨fun _ b e h => h.next b e⟩
theorem cmpN_cases (x y : Nat) : (cmpN x y = -1 ∧ x < y) ∨ (cmpN x y = 0 ∧ x = y) ∨ (cmpN x y = 1 ∧ y < x) := by
  rcases Nat.lt_trichotomy x y with h | h | h
  · exact .inl ⟨cmpN_lt h, h⟩
  · exact .inr (.inl ⟨cmpN_eq h, h⟩)
  · exact .inr (.inr ⟨cmpN_gt h, h⟩)
/-- long division by the high part of a number, put right by its low part -/
theorem div_right {n b s : Nat} (hb : b / 2 ^ s ≠ 0) (hlt : n / (b / 2 ^ s) * (b % 2 ^ s) < b) :
    (n / (b / 2 ^ s) * (b % 2 ^ s) ≤ n % (b / 2 ^ s) * 2 ^ s → n * 2 ^ s / b = n / (b / 2 ^ s) ∧ (n * 2 ^ s % b = n % (b / 2 ^ s) * 2 ^ s - n / (b / 2 ^ s) * (b % 2 ^ s))) ∧
    (n % (b / 2 ^ s) * 2 ^ s < n / (b / 2 ^ s) * (b % 2 ^ s) → 1 ≤ n / (b / 2 ^ s) ∧ n * 2 ^ s / b = n / (b / 2 ^ s) - 1 ∧ n * 2 ^ s % b ≠ 0) := by
  have h1 := Nat.div_add_mod b (2 ^ s)
  have h2 := Nat.div_add_mod n (b / 2 ^ s)
  have h3 := Nat.mod_lt n (Nat.pos_of_ne_zero hb)
  generalize hhi : b / 2 ^ s = hi at *
  generalize hlo : b % 2 ^ s = lo at *
  generalize n / hi = q at *
  generalize n % hi = o at *
  have hp := pow_pos2 s
  generalize 2 ^ s = P at *
  have h4 : o * P + P ≤ hi * P := by
    have := Nat.mul_le_mul_right P (show o + 1 ≤ hi by omega)
    rwa [Nat.add_mul, Nat.one_mul] at this
  have h5 : n * P + q * lo = q * b + o * P := by
    rw [← h1, ← h2]
    rw [Nat.add_mul, Nat.mul_add]
    have e1 : hi * q * P = q * (P * hi) := by ac_rfl
    rw [e1]; omega
  have h6 : P * hi = hi * P := Nat.mul_comm _ _
  have hb0 : 0 < b := by omega
  constructor
  · intro hle
    have e1 : n * P = b * q + (o * P - q * lo) := by rw [Nat.mul_comm b q]; omega
    have e2 : o * P - q * lo < b := by omega
    rw [e1]
    exact ⟨by rw [Nat.mul_add_div hb0, Nat.div_eq_of_lt e2, Nat.add_zero], by rw [Nat.mul_add_mod, Nat.mod_eq_of_lt e2]⟩
  · intro hgt
    have hq : 1 ≤ q := by
      rcases Nat.eq_zero_or_pos q with h7 | h7
      · rw [h7, Nat.zero_mul] at hgt; omega
      · exact h7
    obtain ⟨r, rfl⟩ : ∃ r, q = r + 1 := ⟨q - 1, by omega⟩
    have e1 : n * P = b * r + (b + o * P - (r + 1) * lo) := by
      have e3 : (r + 1) * b = b * r + b := by rw [Nat.add_mul, Nat.one_mul, Nat.mul_comm r b]
      rw [e3] at h5
      omega
    have e2 : b + o * P - (r + 1) * lo < b := by omega
    rw [e1]
    refine ⟨by omega, by rw [Nat.mul_add_div hb0, Nat.div_eq_of_lt e2, Nat.add_zero]; rfl, ?_⟩
    rw [Nat.mul_add_mod, Nat.mod_eq_of_lt e2]
    omega
theorem high_bits {b s L : Nat} (hb : b ≠ 0) (hL : blen b = L) (hs : s < L) : b / 2 ^ s ≠ 0 ∧ 2 ^ (L - 1 - s) ≤ b / 2 ^ s := by
  obtain ⟨h1, _, h3⟩ := blen_pos hb
  rw [hL] at h1 h3
  have h2 : 2 ^ (L - 1 - s) ≤ b / 2 ^ s := by
    rw [Nat.le_div_iff_mul_le (pow_pos2 s), ← Nat.pow_add]
    refine Nat.le_trans (Nat.pow_le_pow_right (by omega) (by omega)) h1
  have := pow_pos2 (L - 1 - s)
  exact ⟨by omega, h2⟩
/-- what is over is little -/
theorem over_small {n b s L j : Nat} (hj : j = 4096) (hb : b ≠ 0) (hL : blen b = L) (hn : n < 2 ^ j) (hs : s = 0 ∨ s + 2096 ≤ L) : b / 2 ^ s ≠ 0 ∧ n / (b / 2 ^ s) * (b % 2 ^ s) < b := by
  obtain ⟨h1, _, h3⟩ := blen_pos hb
  rw [hL] at h1 h3
  rcases hs with rfl | hs
  · rw [Nat.pow_zero, Nat.div_one, Nat.mod_one, Nat.mul_zero]
    exact ⟨hb, by omega⟩
  · obtain ⟨h4, h5⟩ := high_bits hb hL (s := s) (by omega)
    refine ⟨h4, ?_⟩
    have h6 : n / (b / 2 ^ s) < 2 ^ (L - 1 - s) := by
      rw [Nat.div_lt_iff_lt_mul (Nat.pos_of_ne_zero h4)]
      have h7 : 2 ^ (L - 1 - s) * 2 ^ (L - 1 - s) ≤ 2 ^ (L - 1 - s) * (b / 2 ^ s) := Nat.mul_le_mul_left _ h5
      rw [← Nat.pow_add] at h7
      have h8 : 2 ^ j ≤ 2 ^ (L - 1 - s + (L - 1 - s)) := Nat.pow_le_pow_right (by omega) (by omega)
      omega
    have h9 := Nat.mod_lt b (pow_pos2 s)
    have h10 : n / (b / 2 ^ s) * (b % 2 ^ s) ≤ 2 ^ (L - 1 - s) * (b % 2 ^ s) := Nat.mul_le_mul_right _ (by omega)
    have h11 : 2 ^ (L - 1 - s) * (b % 2 ^ s) < 2 ^ (L - 1 - s) * 2 ^ s := Nat.mul_lt_mul_of_pos_left h9 (pow_pos2 _)
    rw [← Nat.pow_add] at h11
    have h12 : 2 ^ (L - 1 - s + s) ≤ 2 ^ (L - 1) := Nat.pow_le_pow_right (by omega) (by omega)
    omega

/-- how far the dividend goes up, or the divisor, so that the quotient has p bits -/
def kUp (p x y : Nat) : Nat := p + blen y - blen x
def kDn (p x y : Nat) : Nat := blen x - (p + blen y)
theorem div_split {x y P : Nat} : x / (y * P) = x / P / y ∧ (x % (y * P) ≠ 0 ↔ x % P ≠ 0 ∨ x / P % y ≠ 0) := by
  rw [Nat.mul_comm y P]
  refine ⟨(Nat.div_div_eq_div_mul x P y).symm, ?_⟩
  rw [Nat.mod_mul]
  constructor
  · intro h
    by_cases h1 : x % P = 0
    · right
      intro h2
      rw [h1, h2, Nat.mul_zero] at h
      exact h rfl
    · exact .inl h1
  · intro h h1
    have h2 : x % P = 0 := by omega
    rw [h2, Nat.zero_add] at h1
    rcases h with h | h
    · exact h h2
    · rcases Nat.mul_eq_zero.1 h1 with h3 | h3
      · rw [h3, Nat.mod_zero] at h2
        rw [h3, h2] at h
        simp at h
      · exact h h3
theorem up_fits {x i L : Nat} (hL : blen x + i ≤ L) : x * 2 ^ i < 2 ^ L := by
  have h1 : x < 2 ^ blen x := (blen_le x (blen x)).1 (Nat.le_refl _)
  have h2 : x * 2 ^ i < 2 ^ blen x * 2 ^ i := Nat.mul_lt_mul_of_pos_right h1 (pow_pos2 i)
  rw [← Nat.pow_add] at h2
  exact Nat.lt_of_lt_of_le h2 (Nat.pow_le_pow_right (by omega) hL)
/-- a size, told -/
def SizeIs (x : Nat) (e : Int) (r : Bool) (w : World) (en : Ending) (w' : World) : Prop := ∃ A n c, en = .returned (.agg #[.slice A n c, .int .i64 e, .bool r]) ∧ Nt w' A n c x ∧ Below w.heap.size w w'
theorem siz_two (w : World) (o o' : Obj) : Siz (((w.alloc o).alloc o').alloc (.cells #[.slice none 0 0, .int .i64 0, .bool false] 88)) (w.heap.size + 2) false none 0 0 0 := by
  have := Siz.new ((w.alloc o).alloc o') false none 0 0 0
  simpa using this
theorem siz_one (w : World) (o : Obj) : Siz ((w.alloc o).alloc (.cells #[.slice none 0 0, .int .i64 0, .bool false] 88)) (w.heap.size + 1) false none 0 0 0 := by
  have := Siz.new (w.alloc o) false none 0 0 0
  simpa using this
/-- what root gives: r is the root, cut off, of x times 2^k, k even with e; rest: something is left -/
def RootIs (p x : Nat) (e : Int) (w : World) (en : Ending) (w' : World) : Prop :=
  ∃ (i j r : Nat) (f : Int), (i = 0 ∨ j = 0) ∧ e - ((i : Int) - (j : Int)) = 2 * f ∧ blen x + i ≤ 2 * p + j ∧ 2 * p + j ≤ blen x + i + 1 ∧
    r * r ≤ x * 2 ^ i / 2 ^ j ∧ x * 2 ^ i / 2 ^ j < (r + 1) * (r + 1) ∧ SizeIs r f (decide (r * r * 2 ^ j ≠ x * 2 ^ i)) w en w'
theorem scaled_any {w : World} {A : Option Addr} {n c x : Nat} {k : Int} (hT : Tab w) (h : Nt w A n c x) (hk : -1000000 ≤ k ∧ k ≤ 1000000) (h0 : k < 0 → x ≠ 0) (hlt : 0 ≤ k → x * 2 ^ k.toNat < W ^ 64) :
    Calls Tryz.prog 109 #[.slice A n c, .int .i64 k] w (PartIs (x * 2 ^ k.toNat / 2 ^ (-k).toNat) (decide (x * 2 ^ k.toNat % 2 ^ (-k).toNat ≠ 0)) w) := by
  by_cases hk0 : 0 ≤ k
  · obtain ⟨i, rfl⟩ := Int.eq_ofNat_of_zero_le hk0
    have e1 : (-(i : Int)).toNat = 0 := by omega
    have e2 : (i : Int).toNat = i := by omega
    have h1 := hlt hk0
    rw [e2] at h1
    have := scaled_up (s := i) h (by omega) h1
    rw [e1, e2, Nat.pow_zero, Nat.div_one, Nat.mod_one]
    exact this
  · obtain ⟨i, hi⟩ := Int.eq_ofNat_of_zero_le (show 0 ≤ -k by omega)
    have e0 : k = -(i : Int) := by omega
    have e1 : (-k).toNat = i := by omega
    have e2 : k.toNat = 0 := by omega
    rw [e1, e2, Nat.pow_zero, Nat.mul_one, e0]
    exact scaled_down (s := i) hT h (by omega) (fun _ => h0 (by omega))

theorem tmod_two {a : Int} (h : a.tmod 2 = 0) : ∃ f, a = 2 * f := (Int.dvd_of_tmod_eq_zero h)
theorem tmod_odd {a : Int} (h : ¬ a.tmod 2 = 0) : ∃ f, a + 1 = 2 * f := by
  have h1 : ¬ (2 : Int) ∣ a := fun h2 => h (Int.tmod_eq_zero_of_dvd h2)
  exact ⟨(a + 1) / 2, by omega⟩
theorem rest_lost {x i j r : Nat} (h : x * 2 ^ i % 2 ^ j ≠ 0) : decide (r * r * 2 ^ j ≠ x * 2 ^ i) = true := by
  apply decide_eq_true
  intro h1
  rw [← h1, Nat.mul_mod_left] at h
  exact h rfl
theorem rest_kept {x i j r : Nat} (h : x * 2 ^ i % 2 ^ j = 0) : decide (r * r * 2 ^ j ≠ x * 2 ^ i) = decide (r * r ≠ x * 2 ^ i / 2 ^ j) := by
  apply decide_eq_decide.2
  have h1 := Nat.div_add_mod (x * 2 ^ i) (2 ^ j)
  rw [h, Nat.add_zero] at h1
  have h2 : x * 2 ^ i = x * 2 ^ i / 2 ^ j * 2 ^ j := by rw [Nat.mul_comm (x * 2 ^ i / 2 ^ j)]; exact h1.symm
  constructor
  · intro h3 h4; apply h3; rw [h4, ← h2]
  · intro h3 h4; apply h3; rw [h2] at h4; exact Nat.eq_of_mul_eq_mul_right (pow_pos2 j) h4

end Go.Proofs.YtijflbnfikiaaaaGreatDoor
