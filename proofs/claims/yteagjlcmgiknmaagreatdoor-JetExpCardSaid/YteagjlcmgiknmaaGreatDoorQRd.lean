/-
 Contracts of round's divided, quotient and root, at this translation. Condition: the slices read as naturals, the table of math/bits reads as its text lays it.
-/
import Derived.Test.YteagjlcmgiknmaaGreatDoorQRb
import Derived.Test.YteagjlcmgiknmaaGreatDoorQCaps
set_option maxHeartbeats 8000000
set_option maxRecDepth 100000
namespace Go.Proofs.YteagjlcmgiknmaaGreatDoor
open Go.RowKit

instance {w w2 : World} {g : Nat} {s : Bool} {A : Option Addr} {n c : Nat} {e : Int} : Moves w w2 (Siz w g s A n c e) (Siz w2 g s A n c e) := ⟨fun _ b e h => h.next b e⟩
theorem cmpN_cases (x y : Nat) : (cmpN x y = -1 ∧ x < y) ∨ (cmpN x y = 0 ∧ x = y) ∨ (cmpN x y = 1 ∧ y < x) := by
 rcases Nat.lt_trichotomy x y with h | h | h
 ·exact .inl ⟨cmpN_lt h, h⟩
 ·exact .inr (.inl ⟨cmpN_eq h, h⟩)
 ·exact .inr (.inr ⟨cmpN_gt h, h⟩)
/-- long division by the high part of a number, put right by its low part -/
theorem div_right {n b s : Nat} (hb : b / 2 ^ s ≠ 0) (hlt : n / (b / 2 ^ s) * (b % 2 ^ s) < b) :
  (n / (b / 2 ^ s) * (b % 2 ^ s) ≤ n % (b / 2 ^ s) * 2 ^ s → n * 2 ^ s / b = n / (b / 2 ^ s) ∧ (n * 2 ^ s % b = n % (b / 2 ^ s) * 2 ^ s - n / (b / 2 ^ s) * (b % 2 ^ s))) ∧
  (n % (b / 2 ^ s) * 2 ^ s < n / (b / 2 ^ s) * (b % 2 ^ s) → 1 ≤ n / (b / 2 ^ s) ∧ n * 2 ^ s / b = n / (b / 2 ^ s) - 1 ∧ n * 2 ^ s % b ≠ 0) := by
 have h1 := Nat.div_add_mod b (2 ^ s)
 have h2 := Nat.div_add_mod n (b / 2 ^ s)
 have h3 := Nat.mod_lt n (Nat.pos_of_ne_zero hb)
 generalize hhi : b / 2 ^ s = hi at *
 generalize hlo : b % 2 ^ s = lo at *
 generalize n / hi = q at *
 generalize n % hi = o at *
 have hp := pow_pos2 s
 generalize 2 ^ s = P at *
 have h4 : o * P + P ≤ hi * P := by
  have := Nat.mul_le_mul_right P (show o + 1 ≤ hi by omega)
  rwa [Nat.add_mul, Nat.one_mul] at this
 have h5 : n * P + q * lo = q * b + o * P := by
  rw [← h1, ← h2]
  rw [Nat.add_mul, Nat.mul_add]
  have e1 : hi * q * P = q * (P * hi) := by ac_rfl
  rw [e1]; omega
 have h6 : P * hi = hi * P := Nat.mul_comm _ _
 have hb0 : 0 < b := by omega
 constructor
 ·intro hle
  have e1 : n * P = b * q + (o * P - q * lo) := by rw [Nat.mul_comm b q]; omega
  have e2 : o * P - q * lo < b := by omega
  rw [e1]
  exact ⟨by rw [Nat.mul_add_div hb0, Nat.div_eq_of_lt e2, Nat.add_zero], by rw [Nat.mul_add_mod, Nat.mod_eq_of_lt e2]⟩
 ·intro hgt
  have hq : 1 ≤ q := by
   rcases Nat.eq_zero_or_pos q with h7 | h7
   ·rw [h7, Nat.zero_mul] at hgt; omega
   ·exact h7
  obtain ⟨r, rfl⟩ : ∃ r, q = r + 1 := ⟨q - 1, by omega⟩
  have e1 : n * P = b * r + (b + o * P - (r + 1) * lo) := by
   have e3 : (r + 1) * b = b * r + b := by rw [Nat.add_mul, Nat.one_mul, Nat.mul_comm r b]
   rw [e3] at h5
   omega
  have e2 : b + o * P - (r + 1) * lo < b := by omega
  rw [e1]
  refine ⟨by omega, by rw [Nat.mul_add_div hb0, Nat.div_eq_of_lt e2, Nat.add_zero]; rfl, ?_⟩
  rw [Nat.mul_add_mod, Nat.mod_eq_of_lt e2]
  omega
theorem high_bits {b s L : Nat} (hb : b ≠ 0) (hL : blen b = L) (hs : s < L) : b / 2 ^ s ≠ 0 ∧ 2 ^ (L - 1 - s) ≤ b / 2 ^ s := by
 obtain ⟨h1, _, h3⟩ := blen_pos hb
 rw [hL] at h1 h3
 have h2 : 2 ^ (L - 1 - s) ≤ b / 2 ^ s := by
  rw [Nat.le_div_iff_mul_le (pow_pos2 s), ← Nat.pow_add]
  refine Nat.le_trans (Nat.pow_le_pow_right (by omega) (by omega)) h1
 have := pow_pos2 (L - 1 - s)
 exact ⟨by omega, h2⟩
/-- what is over is little -/
theorem over_small {n b s L j : Nat} (hj : j = 4096) (hb : b ≠ 0) (hL : blen b = L) (hn : n < 2 ^ j) (hs : s = 0 ∨ s + 2096 ≤ L) : b / 2 ^ s ≠ 0 ∧ n / (b / 2 ^ s) * (b % 2 ^ s) < b := by
 obtain ⟨h1, _, h3⟩ := blen_pos hb
 rw [hL] at h1 h3
 rcases hs with rfl | hs
 ·rw [Nat.pow_zero, Nat.div_one, Nat.mod_one, Nat.mul_zero]
  exact ⟨hb, by omega⟩
 ·obtain ⟨h4, h5⟩ := high_bits hb hL (s := s) (by omega)
  refine ⟨h4, ?_⟩
  have h6 : n / (b / 2 ^ s) < 2 ^ (L - 1 - s) := by
   rw [Nat.div_lt_iff_lt_mul (Nat.pos_of_ne_zero h4)]
   have h7 : 2 ^ (L - 1 - s) * 2 ^ (L - 1 - s) ≤ 2 ^ (L - 1 - s) * (b / 2 ^ s) := Nat.mul_le_mul_left _ h5
   rw [← Nat.pow_add] at h7
   have h8 : 2 ^ j ≤ 2 ^ (L - 1 - s + (L - 1 - s)) := Nat.pow_le_pow_right (by omega) (by omega)
   omega
  have h9 := Nat.mod_lt b (pow_pos2 s)
  have h10 : n / (b / 2 ^ s) * (b % 2 ^ s) ≤ 2 ^ (L - 1 - s) * (b % 2 ^ s) := Nat.mul_le_mul_right _ (by omega)
  have h11 : 2 ^ (L - 1 - s) * (b % 2 ^ s) < 2 ^ (L - 1 - s) * 2 ^ s := Nat.mul_lt_mul_of_pos_left h9 (pow_pos2 _)
  rw [← Nat.pow_add] at h11
  have h12 : 2 ^ (L - 1 - s + s) ≤ 2 ^ (L - 1) := Nat.pow_le_pow_right (by omega) (by omega)
  omega

theorem divided_any {w : World} {A B : Option Addr} {n c m d a b1 y s : Nat} {k : Int} {lost : Bool} (hT : Tab w) (h : Nt w A n c a) (h' : Nt w B m d b1) (hb0 : b1 ≠ 0) (hk : -100000 ≤ k ∧ k ≤ 100000)
  (hs : max (0 : Int) ((blen a : Int) + k - 4096) = (s : Int)) (hs2 : s = 0 ∨ s + 2096 ≤ blen b1) (hy : y < W ^ 64)
  (hsc : ∀ W2 : World, Below w.heap.size w W2 → Calls Tryz.prog 160 #[.slice A n c, .int .i64 (k - (s : Int))] W2 (PartIs y lost W2)) :
  Calls Tryz.prog 170 #[.slice A n c, .slice B m d, .int .i64 k] w (PartIs (y * 2 ^ s / b1) (lost || decide (y * 2 ^ s % b1 ≠ 0)) w) := by
 have ba := blen_nt h
 have bb := blen_nt h'
 have hs4 : s ≤ 4096 := by omega
 have hk1 := hk.1
 have hk2 := hk.2
 obtain ⟨j, hj⟩ : ∃ j, j = 64 * 64 := ⟨_, rfl⟩
 have hy' : y < 2 ^ j := by rw [hj, ← W64_pow]; exact hy
 obtain ⟨hi0, hsm⟩ := over_small (by omega) hb0 rfl hy' hs2
 clear hy' hj
 obtain ⟨r1, r2⟩ := div_right hi0 hsm
 have f1 : b1 / 2 ^ s * 2 ^ s ≤ b1 := Nat.div_mul_le_self _ _
 have f2 : y % (b1 / 2 ^ s) * 2 ^ s ≤ b1 := Nat.le_trans (Nat.mul_le_mul_right _ (Nat.le_of_lt (Nat.mod_lt _ (Nat.pos_of_ne_zero hi0)))) f1
 have f3 : b1 - b1 / 2 ^ s * 2 ^ s = b1 % 2 ^ s := by have := Nat.div_add_mod b1 (2 ^ s); rw [Nat.mul_comm] at this; omega
 have F := Lib.hid (And.intro f1 <| And.intro f2 <| And.intro f3 <| And.intro hi0 <| And.intro hsm <| And.intro r1 r2)
 have HB0 := Lib.hid hb0
 have HSC := Lib.hid hsc
 have hlt := Lib.hid h'.lt
 clear f1 f2 f3 hi0 hsm r1 r2 hb0 hy hsc hs2 hk
 have BB := Below.refl w.heap.size w
 go_enter Tryz.func170, Tryz.ntmps170
 go_wp2_with fail
 refine (len_nt h).mono ?_
 rintro en w' ⟨rfl, rfl⟩
 go_wp2_with fail
 refine (HSC.out _ BB).mono ?_
 rintro en w1 ⟨A1, n1, c1, rfl, h1, b⟩
 replace BB := bnx BB b
 have G := mv b rfl (J3 hT h h')
 clear b hT h h'
 obtain ⟨hT, h, h'⟩ := G
 go_wp2_with fail
 refine (scaled_down (s := s) hT h' (by omega) (fun _ => HB0.out)).mono ?_
 rintro en w2 ⟨A2, n2, c2, rfl, h2, b⟩
 replace BB := bnx BB b
 have G := mv b rfl (J4 hT h h' h1)
 clear b hT h h' h1
 obtain ⟨hT, h, h', h1⟩ := G
 go_wp2_with fail
 refine (raised_ok (s := s) h2 (by omega) (Nat.lt_of_le_of_lt F.out.1 hlt.out)).mono ?_
 rintro en w3 ⟨A3, n3, c3, rfl, h3, b⟩
 replace BB := bnx BB b
 have G := mv b rfl (J5 hT h h' h1 h2)
 clear b hT h h' h1 h2
 obtain ⟨hT, h, h', h1, h2⟩ := G
 go_wp2_with fail
 refine (sub_ok h' h3 F.out.1).mono ?_
 rintro en w4 ⟨A4, n4, c4, rfl, h4, b⟩
 clear h3
 replace BB := bnx BB b
 have G := mv b rfl (J5 hT h h' h1 h2)
 clear b hT h h' h1 h2
 obtain ⟨hT, h, h', h1, h2⟩ := G
 rw [F.out.2.2.1] at h4
 go_wp2_with fail
 refine natural_ok.mono ?_
 rintro en w' ⟨rfl, rfl⟩
 go_wp2_with fail
 refine (div_ok h1 h2 F.out.2.2.2.1).mono ?_
 rintro en w5 ⟨A5, n5, c5, A6, n6, c6, rfl, h5, h6, b⟩
 clear h2 h1
 replace BB := bnx BB b
 have G := mv b rfl (J4 hT h h' h4)
 clear b hT h h' h4
 obtain ⟨hT, h, h', h4⟩ := G
 go_wp2_with fail
 refine check_ok.mono ?_
 rintro en w' ⟨rfl, rfl⟩
 go_wp2_with fail
 refine (raised_ok (s := s) h6 (by omega) (Nat.lt_of_le_of_lt F.out.2.1 hlt.out)).mono ?_
 rintro en w6 ⟨A7, n7, c7, rfl, h7, b⟩
 clear h6
 replace BB := bnx BB b
 have G := mv b rfl (J5 hT h h' h4 h5)
 clear b hT h h' h4 h5
 obtain ⟨hT, h, h', h4, h5⟩ := G
 go_wp2_with fail
 refine (mul_ok h5 h4 (Nat.lt_trans F.out.2.2.2.2.1 hlt.out)).mono ?_
 rintro en w7 ⟨A8, n8, c8, rfl, h8, b⟩
 clear h4
 replace BB := bnx BB b
 have G := mv b rfl (J5 hT h h' h5 h7)
 clear b hT h h' h5 h7
 obtain ⟨hT, h, h', h5, h7⟩ := G
 go_wp2_with fail
 refine natural_ok.mono ?_
 rintro en w' ⟨rfl, rfl⟩
 go_wp2_with fail
 refine (cmp_nt h7 h8).mono ?_
 rintro en w8 ⟨rfl, b⟩
 obtain ⟨z, hz⟩ : ∃ z, cmpN (y % (b1 / 2 ^ s) * 2 ^ s) (y / (b1 / 2 ^ s) * (b1 % 2 ^ s)) = z := ⟨_, rfl⟩
 rw [hz]
 clear h7 h8
 replace BB := bnx BB b
 have G := mv b rfl (J4 hT h h' h5)
 clear b hT h h' h5
 obtain ⟨hT, h, h', h5⟩ := G
 rcases cmpN_cases (y % (b1 / 2 ^ s) * 2 ^ s) (y / (b1 / 2 ^ s) * (b1 % 2 ^ s)) with ⟨hc, hv⟩ | ⟨hc, hv⟩ | ⟨hc, hv⟩
 ·obtain rfl := hz.symm.trans hc
  obtain ⟨hq1, hq2, hq3⟩ := F.out.2.2.2.2.2.2 hv
  have HQ := Lib.hid (And.intro hq1 <| And.intro hq2 hq3)
  clear hc hv hq1 hq2 hq3 hz F
  go_wp2_with fail
  have b := below_alloc w8 (.cells #[.int .u64 1] 46)
  have hone := nt_one w8 (v := 1) (by omega) (small_W (by omega))
  replace BB := bnx BB b
  have G := mv b rfl (J4 hT h h' h5)
  clear b hT h h' h5
  obtain ⟨hT, h, h', h5⟩ := G
  refine (sub_ok h5 hone HQ.out.1).mono ?_
  rintro en w9 ⟨A9, n9, c9, rfl, h9, b⟩
  clear h5 hone
  replace BB := bnx BB b
  have G := mv b rfl (J3 hT h h')
  clear b hT h h'
  obtain ⟨hT, h, h'⟩ := G
  rw [← HQ.out.2.1] at h9
  go_wp2_with fail
  refine natural_ok.mono ?_
  rintro en w' ⟨rfl, rfl⟩
  have e1 : (lost || decide (y * 2 ^ s % b1 ≠ 0)) = true := by rw [decide_eq_true HQ.out.2.2]; cases lost <;> rfl
  have E1 := Lib.hid e1
  clear e1 HQ
  cases lost
  all_goals
   go_wp2
   go_ret2
   exact ⟨_, _, _, by rw [E1.out]; try rfl, h9, BB⟩
 ·obtain rfl := hz.symm.trans hc
  obtain ⟨hq2, hq3⟩ := F.out.2.2.2.2.2.1 (by omega)
  rw [← hq2] at h5
  have e1 : (lost || decide (y * 2 ^ s % b1 ≠ 0)) = lost := by rw [decide_eq_false (by rw [hq3]; omega)]; cases lost <;> rfl
  have E1 := Lib.hid e1
  clear e1 hc hv hq2 hq3 hz F
  cases lost
  all_goals
   go_wp2
   go_ret2
   exact ⟨_, _, _, by rw [E1.out]; try rfl, h5, BB⟩
 ·obtain rfl := hz.symm.trans hc
  obtain ⟨hq2, hq3⟩ := F.out.2.2.2.2.2.1 (by omega)
  rw [← hq2] at h5
  have e1 : (lost || decide (y * 2 ^ s % b1 ≠ 0)) = true := by rw [decide_eq_true (by rw [hq3]; omega)]; cases lost <;> rfl
  have E1 := Lib.hid e1
  clear e1 hc hv hq2 hq3 hz F
  cases lost
  all_goals
   go_wp2
   go_ret2
   exact ⟨_, _, _, by rw [E1.out]; try rfl, h5, BB⟩

/-- how far the dividend goes up, or the divisor, so that the quotient has p bits -/
def kUp (p x y : Nat) : Nat := p + blen y - blen x
def kDn (p x y : Nat) : Nat := blen x - (p + blen y)
theorem div_split {x y P : Nat} : x / (y * P) = x / P / y ∧ (x % (y * P) ≠ 0 ↔ x % P ≠ 0 ∨ x / P % y ≠ 0) := by
 rw [Nat.mul_comm y P]
 refine ⟨(Nat.div_div_eq_div_mul x P y).symm, ?_⟩
 rw [Nat.mod_mul]
 constructor
 ·intro h
  by_cases h1 : x % P = 0
  ·right
   intro h2
   rw [h1, h2, Nat.mul_zero] at h
   exact h rfl
  ·exact .inl h1
 ·intro h h1
  have h2 : x % P = 0 := by omega
  rw [h2, Nat.zero_add] at h1
  rcases h with h | h
  ·exact h h2
  ·rcases Nat.mul_eq_zero.1 h1 with h3 | h3
   ·rw [h3, Nat.mod_zero] at h2
    rw [h3, h2] at h
    simp at h
   ·exact h h3
theorem divided_k {w : World} {A B : Option Addr} {n c m d x y p : Nat} {k : Int} (hT : Tab w) (h : Nt w A n c x) (h' : Nt w B m d y) (hy : y ≠ 0) (hp : p ≤ 2000) (hk : (p : Int) + (blen y : Int) - (blen x : Int) = k) :
  Calls Tryz.prog 170 #[.slice A n c, .slice B m d, .int .i64 k] w (PartIs (x * 2 ^ kUp p x y / (y * 2 ^ kDn p x y)) (decide (x * 2 ^ kUp p x y % (y * 2 ^ kDn p x y) ≠ 0)) w) := by
 have bx := blen_nt h
 have bby := blen_nt h'
 have by0 := (blen_pos hy).2.2
 by_cases hle : blen x ≤ p + blen y
 ·obtain ⟨i, hi⟩ : ∃ i, kUp p x y = i := ⟨_, rfl⟩
  have hi' : p + blen y - blen x = i := hi
  have hd : kDn p x y = 0 := by unfold kDn; omega
  obtain ⟨s, hs⟩ : ∃ s, p + blen y - 4096 = s := ⟨_, rfl⟩
  have h1 := tops_fit (x := x) (i := i - s) rfl (by omega)
  have e0 : i - s + s = i := by omega
  have e1 : x * 2 ^ (i - s) * 2 ^ s = x * 2 ^ i := by rw [Nat.mul_assoc, ← Nat.pow_add, e0]
  have := divided_any (k := k) (s := s) (y := x * 2 ^ (i - s)) (lost := false) hT h h' hy (by omega) (by omega) (by omega) h1 (fun W2 b => by
   have e2 : k - (s : Int) = ((i - s : Nat) : Int) := by omega
   rw [e2]
   exact scaled_up (s := i - s) (h.below b) (by omega) h1)
  rw [hi, hd, Nat.pow_zero, Nat.mul_one]
  rw [e1, Bool.false_or] at this
  exact this
 ·obtain ⟨j, hj⟩ : ∃ j, kDn p x y = j := ⟨_, rfl⟩
  have hj' : blen x - (p + blen y) = j := hj
  have hu : kUp p x y = 0 := by unfold kUp; omega
  have hx : x ≠ 0 := by intro h0; rw [h0, blen_zero] at hle; omega
  have h1 : x / 2 ^ j < W ^ 64 := Nat.lt_of_le_of_lt (Nat.div_le_self _ _) h.lt
  have := divided_any (k := k) (s := 0) (y := x / 2 ^ j) (lost := decide (x % 2 ^ j ≠ 0)) hT h h' hy (by omega) (by omega) (.inl rfl) h1 (fun W2 b => by
   have e2 : k - ((0 : Nat) : Int) = -(j : Int) := by omega
   rw [e2]
   exact scaled_down (s := j) (hT.below b) (h.below b) (by omega) (fun _ => hx))
  rw [Nat.pow_zero, Nat.mul_one] at this
  rw [hu, hj, Nat.pow_zero, Nat.mul_one]
  obtain ⟨s1, s2⟩ := div_split (x := x) (y := y) (P := 2 ^ j)
  rw [s1]
  have e3 : decide (x % (y * 2 ^ j) ≠ 0) = (decide (x % 2 ^ j ≠ 0) || decide (x / 2 ^ j % y ≠ 0)) := by
   rw [← Bool.decide_or]; exact decide_eq_decide.2 s2
  rw [e3]
  exact this

/-- a size, told -/
def SizeIs (x : Nat) (e : Int) (r : Bool) (w : World) (en : Ending) (w' : World) : Prop := ∃ A n c, en = .returned (.agg #[.slice A n c, .int .i64 e, .bool r]) ∧ Nt w' A n c x ∧ Below w.heap.size w w'
theorem siz_two (w : World) (o o' : Obj) : Siz (((w.alloc o).alloc o').alloc (.cells #[.slice none 0 0, .int .i64 0, .bool false] 144)) (w.heap.size + 2) false none 0 0 0 := by
 have := Siz.new ((w.alloc o).alloc o') false none 0 0 0
 simpa using this
theorem quotient_round {w : World} {A1 A2 : Option Addr} {n1 c1 n2 c2 x y p : Nat} {s1 s2 : Bool} {e1 e2 : Int} (hT : Tab w) (h1 : Nt w A1 n1 c1 x) (h2 : Nt w A2 n2 c2 y) (hy : y ≠ 0) (hp : p ≤ 2000) (r1 : -1048576 ≤ e1) (r2 : e1 ≤ 1048576) (r3 : -1048576 ≤ e2) (r4 : e2 ≤ 1048576) :
  Calls Tryz.prog 156 #[.agg #[.bool s1, .slice A1 n1 c1, .int .i64 e1], .agg #[.bool s2, .slice A2 n2 c2, .int .i64 e2], .int .i64 (p : Int)] w (SizeIs (x * 2 ^ kUp p x y / (y * 2 ^ kDn p x y)) (e1 - e2 - ((p : Int) + (blen y : Int) - (blen x : Int))) (decide (x * 2 ^ kUp p x y % (y * 2 ^ kDn p x y) ≠ 0)) w) := by
 have bx := blen_nt h1
 have hby := blen_nt h2
 have HY := Lib.hid hy
 clear hy
 have BB := three_below w (.cells #[.bool s1, .slice A1 n1 c1, .int .i64 e1] 25) (.cells #[.bool s2, .slice A2 n2 c2, .int .i64 e2] 25) (.cells #[.slice none 0 0, .int .i64 0, .bool false] 144)
 obtain ⟨a10, a11, a12, a20, a21, a22⟩ := ((two_new w s1 s2 A1 A2 n1 c1 n2 c2 e1 e2).alloc (.cells #[.slice none 0 0, .int .i64 0, .bool false] 144)).held
 have r := siz_two w (.cells #[.bool s1, .slice A1 n1 c1, .int .i64 e1] 25) (.cells #[.bool s2, .slice A2 n2 c2, .int .i64 e2] 25)
 have G := mv BB rfl (J3 h1 h2 hT)
 clear h1 h2 hT
 obtain ⟨h1, h2, hT⟩ := G
 go_enter Tryz.func156, Tryz.ntmps156
 go_wp2_with fail
 refine rgn (fun w' => w'.cell? ⟨w.heap.size, 0, none⟩ = some (.bool s1) ∧ w'.cell? ⟨w.heap.size, 1, none⟩ = some (.slice A1 n1 c1) ∧ w'.cell? ⟨w.heap.size, 2, none⟩ = some (.int .i64 e1) ∧ w'.cell? ⟨(w.heap.size + 1), 0, none⟩ = some (.bool s2) ∧ w'.cell? ⟨(w.heap.size + 1), 1, none⟩ = some (.slice A2 n2 c2) ∧ w'.cell? ⟨(w.heap.size + 1), 2, none⟩ = some (.int .i64 e2)) fun hHeld0 => ?_
 refine tl 0 ?_
 refine tl 1 ?_
 refine tl 2 ?_
 refine tl 5 ?_
 refine tl 6 ?_
 refine rdy 3 fun K hK => ?_
 go_simp
 refine (len_nt (h2.heap (by rfl))).mono ?_
 rintro e' w' ⟨rfl, rfl⟩
 refine bk hK fun hHeld1 => ?_
 clear hK K hHeld0
 try simp only [Act.put]
 refine tl 4 ?_
 refine rdy 7 fun K hK => ?_
 go_simp
 refine (len_nt (h1.heap (by rfl))).mono ?_
 rintro e' w' ⟨rfl, rfl⟩
 refine bk hK fun hHeld2 => ?_
 clear hK K hHeld1
 try simp only [Act.put]
 refine tl 8 ?_
 refine tl 9 ?_
 refine wpAnyH_done (by kernel_rfl) ?_ _
 go_wp2_with fail
 refine (divided_k (hT.heap (by rfl)) (h1.heap (by rfl)) (h2.heap (by rfl)) HY.out hp rfl).mono ?_
 rintro en w1 ⟨A4, n4, c4, rfl, h4, b⟩
 clear hHeld2
 clear h1 h2 hT
 replace BB := below_next BB BB.size b (by rfl) (by rfl) (by rfl) (by rfl)
 have G := mv b (by rfl) <| And.intro a10 <| And.intro a11 <| And.intro a12 <| And.intro a20 <| And.intro a21 <| And.intro a22 <| r
 clear b a10 a11 a12 a20 a21 a22 r
 obtain ⟨a10, a11, a12, a20, a21, a22, r⟩ := G
 generalize x * 2 ^ kUp p x y / (y * 2 ^ kDn p x y) = q at *
 generalize decide (x * 2 ^ kUp p x y % (y * 2 ^ kDn p x y) ≠ 0) = rest at *
 obtain ⟨f0, f1, f2⟩ := r.open
 obtain ⟨z0, z1, z2⟩ := r.held
 go_wp2
 have g := r.put rest A4 n4 c4 (e1 - e2 - ((p : Int) + (blen y : Int) - (blen x : Int)))
 have hN := h4.putS r (.slice A4 n4 c4) (.int .i64 (e1 - e2 - ((p : Int) + (blen y : Int) - (blen x : Int)))) (.bool rest)
 have HB3 := below_put3 (g := w.heap.size + 2) BB (by omega) (.slice A4 n4 c4) (.int .i64 (e1 - e2 - ((p : Int) + (blen y : Int) - (blen x : Int)))) (.bool rest)
 obtain ⟨z0, z1, z2⟩ := g.held
 exact bodyPost_ret (v := .agg #[.slice A4 n4 c4, .int .i64 (e1 - e2 - ((p : Int) + (blen y : Int) - (blen x : Int))), .bool rest]) (by simp [results, Tryz.results156, go_sem, z0, z1, z2]) rfl ⟨_, _, _, rfl, hN, HB3⟩

end Go.Proofs.YteagjlcmgiknmaaGreatDoor
