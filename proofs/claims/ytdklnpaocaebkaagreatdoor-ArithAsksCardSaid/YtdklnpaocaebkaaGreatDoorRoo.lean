/-
 Plain facts on quotients and roots that are reckoned to some bits more, their last bit set if anything is left: cut to p bits they are what the shorter ones with their rests are. No condition; nothing of the program is named here.
-/
import Derived.Test.YtdklnpaocaebkaaGreatDoorRt
import Derived.Test.YtdklnpaocaebkaaGreatDoorRb
import Derived.Test.YtdklnpaocaebkaaGreatDoorRu
import Derived.Test.YtdklnpaocaebkaaGreatDoorRc
import Derived.Test.YtdklnpaocaebkaaGreatDoorRj
namespace Go.Proofs.YtdklnpaocaebkaaGreatDoor

end Go.Proofs.YtdklnpaocaebkaaGreatDoor

namespace Go.Proofs.YtdklnpaocaebkaaGreatDoor

/-- Q is q with D bits more behind it; rest: q times 2^D is not Q itself -/
theorem cut_sticky {p q Q D : Nat} {rest u : Bool} (hq : q ≠ 0) (hb : p ≤ blen q) (h0 : rest = false → Q = q * 2 ^ D) (h1 : rest = true → q * 2 ^ D < Q ∧ Q < (q + 1) * 2 ^ D) :
  cutN p Q u * 2 ^ (blen Q - p) = cutR p q rest u * 2 ^ (blen q - p) * 2 ^ D := by
 cases rest
 ·have h2 := h0 rfl
  rw [cutR_false, h2]
  have hbl := blen_shift (k := D) hq
  have e1 : blen (q * 2 ^ D) - p = (blen q - p) + D := by omega
  unfold cutN
  rw [e1, Nat.pow_add, Nat.mul_div_mul_right _ _ (pow_pos2 D), Nat.mul_mod_mul_right]
  have e2 : (q % 2 ^ (blen q - p) * 2 ^ D ≠ 0) = (q % 2 ^ (blen q - p) ≠ 0) := by
   apply propext
   have := pow_pos2 D
   constructor
   ·intro h h3; apply h; rw [h3, Nat.zero_mul]
   ·intro h h3
    rcases Nat.mul_eq_zero.1 h3 with h4 | h4
    ·exact h h4
    ·omega
  simp only [e2]
  rw [Nat.mul_assoc]
 ·obtain ⟨h2, h3⟩ := h1 rfl
  have hQ : Q / 2 ^ D = q := by
   apply Nat.le_antisymm
   ·exact Nat.lt_succ_iff.1 ((Nat.div_lt_iff_lt_mul (pow_pos2 D)).2 h3)
   ·exact (Nat.le_div_iff_mul_le (pow_pos2 D)).2 (Nat.le_of_lt h2)
  have hbl : blen Q = blen q + D := by
   obtain ⟨b1, b2, b3⟩ := blen_pos hq
   apply Nat.le_antisymm
   ·rw [blen_le, Nat.pow_add]
    have h4 := Nat.mul_le_mul_right (2 ^ D) (show q + 1 ≤ 2 ^ blen q by omega)
    omega
   ·have h4 := (blen_le Q (blen q + D - 1))
    rcases Nat.lt_or_ge (blen Q) (blen q + D) with h5 | h5
    ·exfalso
     have h6 := h4.1 (by omega)
     have h7 := Nat.mul_le_mul_right (2 ^ D) b1
     rw [← Nat.pow_add] at h7
     have e3 : blen q - 1 + D = blen q + D - 1 := by omega
     rw [e3] at h7
     omega
    ·exact h5
  have e1 : blen Q - p = D + (blen q - p) := by omega
  have hdiv : Q / 2 ^ (blen Q - p) = q / 2 ^ (blen q - p) := by rw [e1, Nat.pow_add, ← Nat.div_div_eq_div_mul, hQ]
  have hmod : Q % 2 ^ (blen Q - p) ≠ 0 := by
   intro h4
   obtain ⟨t, ht⟩ := Nat.dvd_of_mod_eq_zero h4
   rw [e1, Nat.pow_add, Nat.mul_assoc] at ht
   have h5 : Q / 2 ^ D = 2 ^ (blen q - p) * t := by rw [ht, Nat.mul_div_cancel_left _ (pow_pos2 D)]
   rw [hQ] at h5
   rw [← h5, Nat.mul_comm] at ht
   omega
  unfold cutN cutR
  rw [hdiv, e1, Nat.pow_add, Nat.mul_comm (2 ^ D), ← Nat.mul_assoc]
  rw [e1, Nat.pow_add, Nat.mul_comm (2 ^ D)] at hmod
  congr 2
  cases u <;> simp [hmod]
end Go.Proofs.YtdklnpaocaebkaaGreatDoor

namespace Go.Proofs.YtdklnpaocaebkaaGreatDoor

/-- the same of a root -/
def stickyR (s x r : Nat) : Nat := 2 * r + if r * r = x * 2 ^ s then 0 else 1

theorem scale_eqs {a y Dn x U P T : Nat} (h : P * U = T * Dn) : a * P * y * U = a * (y * Dn) * T ∧ x * T * U = x * U * T := by
 constructor
 ·have e1 : a * P * y * U = a * y * (P * U) := by ac_rfl
  have e2 : a * (y * Dn) * T = a * y * (T * Dn) := by ac_rfl
  rw [e1, e2, h]
 ·ac_rfl
theorem scale_le {a y Dn x U P T : Nat} (hU : 0 < U) (h : P * U = T * Dn) (hle : a * (y * Dn) ≤ x * U) : a * P * y ≤ x * T := by
 obtain ⟨e1, e2⟩ := scale_eqs (a := a) (y := y) (x := x) h
 refine Nat.le_of_mul_le_mul_right (c := U) ?_ hU
 rw [e1, e2]
 exact Nat.mul_le_mul_right _ hle
theorem scale_lt {a y Dn x U P T : Nat} (hT : 0 < T) (h : P * U = T * Dn) (hle : x * U < a * (y * Dn)) : x * T < a * P * y := by
 obtain ⟨e1, e2⟩ := scale_eqs (a := a) (y := y) (x := x) h
 refine Nat.lt_of_mul_lt_mul_right (a := U) ?_
 rw [e1, e2]
 exact Nat.mul_lt_mul_of_pos_right hle hT
theorem scale_eq {a y Dn x U P T : Nat} (hU : 0 < U) (hT : 0 < T) (h : P * U = T * Dn) : a * P * y = x * T ↔ a * (y * Dn) = x * U := by
 obtain ⟨e1, e2⟩ := scale_eqs (a := a) (y := y) (x := x) h
 constructor
 ·intro h3
  refine Nat.eq_of_mul_eq_mul_right hT ?_
  rw [← e1, ← e2, h3]
 ·intro h3
  refine Nat.eq_of_mul_eq_mul_right hU ?_
  rw [e1, e2, h3]

theorem sq_le {a b : Nat} (h : a ≤ b) : a * a ≤ b * b := Nat.mul_le_mul h h
theorem sq_lt_of {a b : Nat} (h : a * a < b * b) : a < b := by
 rcases Nat.lt_or_ge a b with h1 | h1
 ·exact h1
 ·have := sq_le h1; omega
theorem sq_le_of {a b : Nat} (h : a * a ≤ b * b) : a ≤ b := by
 rcases Nat.lt_or_ge b a with h1 | h1
 ·have h2 := sq_le (show b + 1 ≤ a by omega)
  have e : (b + 1) * (b + 1) = b * b + b + b + 1 := by rw [Nat.add_mul, Nat.mul_add, Nat.mul_one, Nat.one_mul]; omega
  omega
 ·exact h1
theorem root_bits {p x i j r : Nat} (hx : x ≠ 0) (hp : 1 ≤ p) (hb : 2 * p + j ≤ blen x + i + 1) (hr : x * 2 ^ i / 2 ^ j < (r + 1) * (r + 1)) : p ≤ blen r := by
 obtain ⟨h1, _, h3⟩ := blen_pos hx
 have h4 : 2 ^ (p - 1) * 2 ^ (p - 1) * 2 ^ j ≤ x * 2 ^ i := by
  have h5 := Nat.mul_le_mul_right (2 ^ i) h1
  rw [← Nat.pow_add] at h5 ⊢
  rw [← Nat.pow_add]
  exact Nat.le_trans (Nat.pow_le_pow_right (by omega) (by omega)) h5
 have h5 := (Nat.le_div_iff_mul_le (pow_pos2 j)).2 h4
 have h6 := sq_lt_of (Nat.lt_of_le_of_lt h5 hr)
 rcases Nat.lt_or_ge (blen r) p with h7 | h7
 ·have h8 : r < 2 ^ (p - 1) := (blen_le r (p - 1)).1 (by omega)
  omega
 ·exact h7
theorem root_cut {p x i j r R S d : Nat} {u : Bool} (hx : x ≠ 0) (hp : 1 ≤ p) (hb : 2 * p + j ≤ blen x + i + 1) (h1 : r * r ≤ x * 2 ^ i / 2 ^ j) (h2 : x * 2 ^ i / 2 ^ j < (r + 1) * (r + 1)) (hd : d + d + i = S + j) (hR1 : R * R ≤ x * 2 ^ S) (hR2 : x * 2 ^ S < (R + 1) * (R + 1)) :
  cutN p (stickyR S x R) u * 2 ^ (blen (stickyR S x R) - p) = cutR p r (!decide (r * r * 2 ^ j = x * 2 ^ i)) u * 2 ^ (blen r - p) * 2 ^ (d + 1) := by
 have hbr := root_bits hx hp hb h2
 have hr0 : r ≠ 0 := by
  intro h0
  rw [h0] at hbr
  have : blen 0 ≤ 0 := (blen_le 0 0).2 (by decide)
  omega
 have g1 := (Nat.le_div_iff_mul_le (pow_pos2 j)).1 h1
 have g2 := (Nat.div_lt_iff_lt_mul (pow_pos2 j)).1 h2
 have hP : 2 ^ d * 2 ^ d * 2 ^ i = 2 ^ S * 2 ^ j := by rw [← Nat.pow_add, ← Nat.pow_add, ← Nat.pow_add, hd]
 have hI := pow_pos2 i
 have hM := pow_pos2 S
 have hD : 2 ^ (d + 1) = 2 * 2 ^ d := by rw [Nat.pow_succ, Nat.mul_comm]
 generalize 2 ^ i = I at *
 generalize 2 ^ j = J at *
 unfold stickyR
 generalize 2 ^ S = M at *
 have hd0 := pow_pos2 d
 generalize hdd : 2 ^ d = c at *
 have sqe : ∀ a : Nat, a * c * (a * c) = a * a * (c * c) * 1 := fun a => by rw [Nat.mul_one]; ac_rfl
 have k1 : r * c * (r * c) ≤ x * M := by
  rw [sqe]
  exact scale_le (y := 1) (Dn := J) hI hP (by rw [Nat.one_mul]; exact g1)
 have k2 : x * M < (r + 1) * c * ((r + 1) * c) := by
  rw [sqe]
  exact scale_lt (y := 1) (Dn := J) hM hP (by rw [Nat.one_mul]; exact g2)
 have k3 : r * c * (r * c) = x * M ↔ r * r * J = x * I := by
  rw [sqe, scale_eq (y := 1) (Dn := J) hI hM hP, Nat.one_mul]
 have l1 : r * c ≤ R := by
  have := sq_lt_of (Nat.lt_of_le_of_lt k1 hR2)
  omega
 have l2 : R < (r + 1) * c := sq_lt_of (Nat.lt_of_le_of_lt hR1 k2)
 refine cut_sticky hr0 hbr (fun h => ?_) (fun h => ?_)
 ·have h3 : r * c * (r * c) = x * M := k3.2 (by simpa using h)
  have h4 : R = r * c := by
   have := sq_le_of (show R * R ≤ r * c * (r * c) by omega)
   omega
  rw [if_pos (by rw [h4]; exact h3), hD, h4]
  have e : r * (2 * c) = 2 * (r * c) := by ac_rfl
  omega
 ·have h3 : ¬ r * c * (r * c) = x * M := fun h4 => by
   have := k3.1 h4
   rw [decide_eq_true this] at h
   cases h
  have e1 : r * (2 * c) = 2 * (r * c) := by ac_rfl
  have e2 : (r + 1) * (2 * c) = 2 * ((r + 1) * c) := by ac_rfl
  rw [hD, e1, e2]
  by_cases hR : R = r * c
  ·rw [if_neg (by rw [hR]; exact h3)]
   omega
  ·split <;> omega
/-- the root of the longer reckoning and that of the shorter one have one form -/
theorem root_same {p x R S : Nat} {up : Bool} {e g k : Int} {s' : Bool} {m' : Nat} {e' k2 : Int} {s2 : Bool} {m2 : Nat} {e2 : Int} (hx : x ≠ 0) (hp : 1 ≤ p) (r1 : -1048576 ≤ e) (r2 : e ≤ 1048576)
  (hS1 : 2 * p + 6 ≤ blen x + S) (hS2 : S ≤ 8000) (hg : e - (S : Int) = 2 * g) (hR1 : R * R ≤ x * 2 ^ S) (hR2 : x * 2 ^ S < (R + 1) * (R + 1))
  (h' : RoTold x e p up k2 s2 m2 e2) (h : Nm false (cutN p (stickyR S x R) (up != false)) (g - 1 + ((blen (stickyR S x R) - p : Nat) : Int)) k s' m' e') : k2 = k ∧ s2 = s' ∧ m2 = m' ∧ e2 = e' := by
 obtain ⟨i, j, r, f, ⟨hij, hf, hb1, hb2, hr1, hr2⟩, hN⟩ := h'
 obtain ⟨d, hd⟩ := Int.eq_ofNat_of_zero_le (show 0 ≤ f - g by omega)
 have hcut := root_cut (u := up != false) (d := d) hx hp hb2 hr1 hr2 (by omega) hR1 hR2
 obtain ⟨K, hK⟩ : ∃ K : Nat, 20000000 ≤ K := ⟨_, Nat.le_refl _⟩
 have hE : f = g - 1 + ((d + 1 : Nat) : Int) := by omega
 refine nm_fun hN (nm_congr (K := K) (by omega) (by omega) ?_ h)
 rw [vz_up (by omega), vz_up (by omega)]
 rw [hE, vz_up (by omega), hcut]
end Go.Proofs.YtdklnpaocaebkaaGreatDoor
set_option maxHeartbeats 8000000
set_option maxRecDepth 100000
namespace Go.Proofs.YtdklnpaocaebkaaGreatDoor
open Go.RowKit

end Go.Proofs.YtdklnpaocaebkaaGreatDoor

namespace Go.Proofs.YtdklnpaocaebkaaGreatDoor
open Go.RowKit

theorem digits_up {x a b : Nat} (hx : x < Go.Proofs.YtdklnpaocaebkaaGreatDoor.H ^ a) (h : a ≤ b) : x < Go.Proofs.YtdklnpaocaebkaaGreatDoor.H ^ b := Nat.lt_of_lt_of_le hx (Nat.pow_le_pow_right (by rw [H_eq]; omega) h)
theorem digits_of {x : Nat} (hx : x < Go.Proofs.YtdklnpaocaebkaaGreatDoor.W ^ 64) : x < Go.Proofs.YtdklnpaocaebkaaGreatDoor.H ^ 600 := by
 obtain ⟨b, hb⟩ : ∃ b, b = 600 := ⟨_, rfl⟩
 rw [← H256] at hx
 have h1 := digits_up hx (show 256 ≤ b by omega)
 rw [hb] at h1
 exact h1
theorem cutN_lt {p x : Nat} {u : Bool} (hp : p ≤ 2000) : cutN p x u < Go.Proofs.YtdklnpaocaebkaaGreatDoor.W ^ 64 := by
 have := (cutR_lt (x := x) (rest := false) (u := u) hp).2
 rwa [cutR_false] at this
theorem cutN_blen {p x : Nat} {u : Bool} (hp : p ≤ 2000) : blen (cutN p x u) ≤ 4096 := by
 have h := cutN_lt (x := x) (u := u) hp
 rw [W64_pow] at h
 have := (blen_le _ (64 * 64)).2 h
 omega
theorem rround_ok {w : World} {A1 : Option Addr} {n1 c1 x p : Nat} {s1 up : Bool} {e1 : Int} (h1 : Nt w A1 n1 c1 x) (hd : OkD s1 x e1) (hp1 : 1 ≤ p) (hp : p ≤ 2000) :
  Calls Tryz.prog 31 #[.agg #[.bool s1, .slice A1 n1 c1, .int .i64 e1], .int .i64 (p : Int), .bool up] w (Tells (RdTold s1 x e1 p up) w) := by
 have re := okd_ge (K := 4194304) (Nat.le_refl _) hd
 have r1 := re.1
 have r2 := re.2.1
 have O1 := Lib.hid hd
 have bx := blen_nt h1
 have HX := Lib.hid (digits_of h1.lt)
 clear re hd
 have BB := two_below w (.cells #[.bool s1, .slice A1 n1 c1, .int .i64 e1] 24) (.cells #[.bool false, .slice none 0 0, .int .i64 0] 24)
 obtain ⟨a10, a11, a12⟩ := ((Box.new w s1 A1 n1 c1 e1).alloc (.cells #[.bool false, .slice none 0 0, .int .i64 0] 24)).held
 have r := box_one' w (.cells #[.bool s1, .slice A1 n1 c1, .int .i64 e1] 24) false none 0 0 0
 replace h1 := mv BB rfl h1
 have d1 : decide ((p : Int) < 1) = false := decide_eq_false (by omega)
 have d2 : decide ((2000 : Int) < (p : Int)) = false := decide_eq_false (by omega)
 go_enter Tryz.func31, Tryz.ntmps31
 go_wp2_with fail
 refine (rmayd_any (s := s1) (e := e1) h1.rd).mono ?_
 rintro en w1 ⟨rfl, b⟩
 rw [mayD_ok O1.out]
 replace BB := bnx BB b
 have G := mv b rfl (J5 a10 a11 a12 h1 r)
 clear b a10 a11 a12 h1 r
 obtain ⟨a10, a11, a12, h1, r⟩ := G
 go_wp2_with fail
 refine (rof_any (s := s1) (e := e1) h1).mono ?_
 rintro en w2 ⟨A2, n2, c2, rfl, h2, b⟩
 clear h1
 replace BB := bnx BB b
 have G := mv b rfl (J4 a10 a11 a12 r)
 clear b a10 a11 a12 r
 obtain ⟨a10, a11, a12, r⟩ := G
 go_wp2_with fail
 refine (rcut_any (p := p) (s := s1) (up := up) h2 HX.out (by omega) hp (by omega)).mono ?_
 rintro en w3 ⟨A3, n3, c3, rfl, h3, b⟩
 have hcb := cutN_blen (x := x) (u := up != s1) hp
 have HCL := Lib.hid (cutN_lt (x := x) (u := up != s1) hp)
 clear h2
 replace BB := bnx BB b
 have G := mv b rfl (J4 a10 a11 a12 r)
 clear b a10 a11 a12 r
 obtain ⟨a10, a11, a12, r⟩ := G
 have n3l := digits_le h3 (digits_of HCL.out)
 go_wp2_with fail
 refine (rnorm_any (s := s1) (e := e1 + ((blen x - p : Nat) : Int)) h3 (by omega) (by omega)).mono ?_
 rintro en w4 ⟨k, s5, A5, n5, c5, m5, e5, rfl, hP, h5, b⟩
 have HP : Hid (RdTold s1 x e1 p up k s5 m5 e5) := Lib.hid (rd_told r1 (by rw [cutR_false]; exact hP))
 clear hP
 clear h3
 replace BB := bnx BB b
 have G := mv b rfl (J4 a10 a11 a12 r)
 clear b a10 a11 a12 r
 obtain ⟨a10, a11, a12, r⟩ := G
 obtain ⟨f0, f1, f2⟩ := r.open
 obtain ⟨z0, z1, z2⟩ := r.held
 go_wp2
 have q := r.put s5 A5 n5 c5 e5
 have hN := h5.put3 r (.bool s5) (.slice A5 n5 c5) (.int .i64 e5)
 have HB3 := below_put3 (g := w.heap.size + 1) BB (by omega) (.bool s5) (.slice A5 n5 c5) (.int .i64 e5)
 obtain ⟨z0, z1, z2⟩ := q.held
 exact bodyPost_ret (v := .tuple #[.agg #[.bool s5, .slice A5 n5 c5, .int .i64 e5], .int .i64 k]) (by simp [results, Tryz.results31, go_sem, z0, z1, z2]) rfl ⟨_, _, _, _, _, _, _, rfl, HP.out, hN, HB3⟩

theorem rround_no {w : World} {A1 : Option Addr} {n1 c1 : Nat} {l1 : List Nat} {s1 up : Bool} {e1 p : Int} (h1 : Rd w .u64 Go.Proofs.YtdklnpaocaebkaaGreatDoor.W A1 n1 c1 l1) (hd : p < 1 ∨ 2000 < p ∨ mayD s1 l1 e1 = false) :
  Calls Tryz.prog 31 #[.agg #[.bool s1, .slice A1 n1 c1, .int .i64 e1], .int .i64 p, .bool up] w (Tells Wrong w) := by
 have BB := two_below w (.cells #[.bool s1, .slice A1 n1 c1, .int .i64 e1] 24) (.cells #[.bool false, .slice none 0 0, .int .i64 0] 24)
 obtain ⟨a10, a11, a12⟩ := ((Box.new w s1 A1 n1 c1 e1).alloc (.cells #[.bool false, .slice none 0 0, .int .i64 0] 24)).held
 have r := box_one' w (.cells #[.bool s1, .slice A1 n1 c1, .int .i64 e1] 24) false none 0 0 0
 replace h1 := mv BB rfl h1
 go_enter Tryz.func31, Tryz.ntmps31
 go_wp2_with fail
 refine (rmayd_any (s := s1) (e := e1) h1).mono ?_
 rintro en w1 ⟨rfl, b⟩
 clear h1
 replace BB := bnx BB b
 have G := mv b rfl (J4 a10 a11 a12 r)
 clear b a10 a11 a12 r
 obtain ⟨a10, a11, a12, r⟩ := G
 cases hm : mayD s1 l1 e1
 ·clear hd hm
  obtain ⟨f0, f1, f2⟩ := r.open
  obtain ⟨z0, z1, z2⟩ := r.held
  go_wp2
  have q := r.put false none 0 0 0
  have HB3 := below_put3 (g := w.heap.size + 1) BB (by omega) (.bool false) (.slice none 0 0) (.int .i64 0)
  obtain ⟨z0, z1, z2⟩ := q.held
  exact bodyPost_ret (v := .tuple #[.agg #[.bool false, .slice none 0 0, .int .i64 0], .int .i64 1]) (by simp [results, Tryz.results31, go_sem, z0, z1, z2]) rfl ⟨_, _, _, _, _, 0, _, rfl, ⟨rfl, rfl, rfl, rfl⟩, nt_nil _, HB3⟩
 rcases Int.lt_or_le p 1 with g | g
 ·have d1 : decide (p < 1) = true := decide_eq_true g
  clear hd hm
  obtain ⟨f0, f1, f2⟩ := r.open
  obtain ⟨z0, z1, z2⟩ := r.held
  go_wp2
  have q := r.put false none 0 0 0
  have HB3 := below_put3 (g := w.heap.size + 1) BB (by omega) (.bool false) (.slice none 0 0) (.int .i64 0)
  obtain ⟨z0, z1, z2⟩ := q.held
  exact bodyPost_ret (v := .tuple #[.agg #[.bool false, .slice none 0 0, .int .i64 0], .int .i64 1]) (by simp [results, Tryz.results31, go_sem, z0, z1, z2]) rfl ⟨_, _, _, _, _, 0, _, rfl, ⟨rfl, rfl, rfl, rfl⟩, nt_nil _, HB3⟩
 have d1 : decide (p < 1) = false := decide_eq_false (by omega)
 have g2 : 2000 < p := by rcases hd with h | h | h <;> first | omega | (rw [hm] at h; cases h)
 have d2 : decide ((2000 : Int) < p) = true := decide_eq_true g2
 clear hd hm
 obtain ⟨f0, f1, f2⟩ := r.open
 obtain ⟨z0, z1, z2⟩ := r.held
 go_wp2
 have q := r.put false none 0 0 0
 have HB3 := below_put3 (g := w.heap.size + 1) BB (by omega) (.bool false) (.slice none 0 0) (.int .i64 0)
 obtain ⟨z0, z1, z2⟩ := q.held
 exact bodyPost_ret (v := .tuple #[.agg #[.bool false, .slice none 0 0, .int .i64 0], .int .i64 1]) (by simp [results, Tryz.results31, go_sem, z0, z1, z2]) rfl ⟨_, _, _, _, _, 0, _, rfl, ⟨rfl, rfl, rfl, rfl⟩, nt_nil _, HB3⟩

end Go.Proofs.YtdklnpaocaebkaaGreatDoor
namespace Go.Proofs.YtdklnpaocaebkaaGreatDoor
open Go.RowKit

theorem Dg.drew {w : World} {A : Option Addr} {n c x : Nat} (h : Dg w A n c x) : Dg w.drew A n c x := Dg.heap32 h rfl
end Go.Proofs.YtdklnpaocaebkaaGreatDoor

namespace Go.Proofs.YtdklnpaocaebkaaGreatDoor
open Go.RowKit

def quotR (s : Bool) (l : List Nat) (e : Int) (t : Bool) (r : List Nat) (f : Int) (p : Int) (up : Bool) : Int → Bool → Nat → Int → Prop :=
 if (1 ≤ p ∧ p ≤ 2000) ∧ mayD s l e = true ∧ mayD t r f = true then (if val Go.Proofs.YtdklnpaocaebkaaGreatDoor.W r = 0 then Outside else QuTold s (val Go.Proofs.YtdklnpaocaebkaaGreatDoor.W l) e t (val Go.Proofs.YtdklnpaocaebkaaGreatDoor.W r) f p.toNat up) else Wrong
theorem outside_fun {k k2 : Int} {s1 s2 : Bool} {m1 m2 : Nat} {e1 e2 : Int} (h : Outside k s1 m1 e1) (h' : Outside k2 s2 m2 e2) : k = k2 ∧ s1 = s2 ∧ m1 = m2 ∧ e1 = e2 := by
 obtain ⟨rfl, rfl, rfl, rfl⟩ := h
 obtain ⟨rfl, rfl, rfl, rfl⟩ := h'
 exact ⟨rfl, rfl, rfl, rfl⟩
theorem quotR_fun {s : Bool} {l : List Nat} {e : Int} {t : Bool} {r : List Nat} {f p : Int} {up : Bool} {k k2 : Int} {s1 s2 : Bool} {m1 m2 : Nat} {e1 e2 : Int} (h : quotR s l e t r f p up k s1 m1 e1) (h' : quotR s l e t r f p up k2 s2 m2 e2) : k = k2 ∧ s1 = s2 ∧ m1 = m2 ∧ e1 = e2 := by
 unfold quotR at h h'
 split at h
 ·rw [if_pos (by assumption)] at h'
  split at h
  ·rw [if_pos (by assumption)] at h'; exact outside_fun h h'
  ·rw [if_neg (by assumption)] at h'; exact nm_fun h h'
 ·rw [if_neg (by assumption)] at h'; exact wrong_fun h h'
theorem dquot_raw {w : World} {A1 : Option Addr} {n1 c1 : Nat} {l1 : List Nat} {s1 : Bool} {e1 : Int} {A2 : Option Addr} {n2 c2 : Nat} {l2 : List Nat} {s2 : Bool} {e2 : Int} {p : Int} {up : Bool} (hT : Tab w) (h1 : Rd w .u64 Go.Proofs.YtdklnpaocaebkaaGreatDoor.W A1 n1 c1 l1) (h2 : Rd w .u64 Go.Proofs.YtdklnpaocaebkaaGreatDoor.W A2 n2 c2 l2) :
  Calls Tryz.prog 98 #[.agg #[.bool s1, .slice A1 n1 c1, .int .i64 e1], .agg #[.bool s2, .slice A2 n2 c2, .int .i64 e2], .int .i64 p, .bool up] w (Tells (quotR s1 l1 e1 s2 l2 e2 p up) w) := by
 unfold quotR
 by_cases hd : (1 ≤ p ∧ p ≤ 2000) ∧ mayD s1 l1 e1 = true ∧ mayD s2 l2 e2 = true
 ·rw [if_pos hd]
  obtain ⟨q, rfl⟩ := Int.eq_ofNat_of_zero_le (show 0 ≤ p by omega)
  obtain ⟨hN, hok, _⟩ := rd_okd h1 hd.2.1
  obtain ⟨hN', hok', _⟩ := rd_okd h2 hd.2.2
  by_cases hy : val Go.Proofs.YtdklnpaocaebkaaGreatDoor.W l2 = 0
  ·rw [if_pos hy]
   exact rquot_zero hT hN hN' hok hok' (by omega) (by omega) hy
  ·rw [if_neg hy]
   exact rquot_ok hT hN hN' hok hok' (by omega) (by omega) hy
 ·rw [if_neg hd]
  refine rquot_no hT h1 h2 ?_
  by_cases hp : 1 ≤ p ∧ p ≤ 2000
  ·refine .inr (.inr ?_)
   cases q : mayD s1 l1 e1 <;> cases q' : mayD s2 l2 e2 <;> first | rfl | exact absurd ⟨hp, q, q'⟩ hd
  ·omega

end Go.Proofs.YtdklnpaocaebkaaGreatDoor
namespace Go.Proofs.YtdklnpaocaebkaaGreatDoor
open Go.RowKit

theorem root_nought {p : Nat} {up : Bool} {e k : Int} {s' : Bool} {m' : Nat} {e' : Int} (h : RoTold 0 e p up k s' m' e') : k = 0 ∧ s' = false ∧ m' = 0 ∧ e' = 0 := by
 obtain ⟨i, j, r, f, ⟨_, _, _, _, h1, _⟩, hN⟩ := h
 have hr : r = 0 := by
  rw [Nat.zero_mul, Nat.zero_div] at h1
  rcases Nat.mul_eq_zero.1 (Nat.le_zero.1 h1) with h2 | h2 <;> exact h2
 have e : cutR p r (!decide (r * r * 2 ^ j = 0 * 2 ^ i)) (up != false) = 0 := by
  rw [hr]
  unfold cutR
  simp
 rw [e] at hN
 exact nm_fun hN (.inl ⟨rfl, rfl, rfl, rfl, rfl⟩)
/-- what the longer reckoning tells -/
def SqTold (x : Nat) (e : Int) (p : Nat) (up : Bool) (k : Int) (s' : Bool) (m' : Nat) (e' : Int) : Prop :=
 ∃ (R S : Nat) (g : Int), (2 * p + 6 ≤ blen x + S ∧ S ≤ 8000 ∧ e - (S : Int) = 2 * g ∧ R * R ≤ x * 2 ^ S ∧ x * 2 ^ S < (R + 1) * (R + 1)) ∧ Nm false (cutN p (stickyR S x R) (up != false)) (g - 1 + ((blen (stickyR S x R) - p : Nat) : Int)) k s' m' e'
def Nought (k : Int) (s' : Bool) (m' : Nat) (e' : Int) : Prop := k = 0 ∧ s' = false ∧ m' = 0 ∧ e' = 0
def rootR (s : Bool) (l : List Nat) (e : Int) (p : Int) (up : Bool) : Int → Bool → Nat → Int → Prop :=
 if (1 ≤ p ∧ p ≤ 2000) ∧ mayD s l e = true then (if s = true then Outside else RoTold (val Go.Proofs.YtdklnpaocaebkaaGreatDoor.W l) e p.toNat up) else Wrong
def rootQ (s : Bool) (l : List Nat) (e : Int) (p : Int) (up : Bool) : Int → Bool → Nat → Int → Prop :=
 if (1 ≤ p ∧ p ≤ 2000) ∧ mayD s l e = true then (if s = true then Outside else if val Go.Proofs.YtdklnpaocaebkaaGreatDoor.W l = 0 then Nought else SqTold (val Go.Proofs.YtdklnpaocaebkaaGreatDoor.W l) e p.toNat up) else Wrong
theorem root_agree {s : Bool} {l : List Nat} {e p : Int} {up : Bool} {k k2 : Int} {s1 s2 : Bool} {m1 m2 : Nat} {e1 e2 : Int} (hlt : Lt Go.Proofs.YtdklnpaocaebkaaGreatDoor.W l) (h : rootR s l e p up k s1 m1 e1) (h' : rootQ s l e p up k2 s2 m2 e2) : k = k2 ∧ s1 = s2 ∧ m1 = m2 ∧ e1 = e2 := by
 unfold rootR at h
 unfold rootQ at h'
 by_cases hd : (1 ≤ p ∧ p ≤ 2000) ∧ mayD s l e = true
 ·rw [if_pos hd] at h h'
  by_cases hs : s = true
  ·rw [if_pos hs] at h h'; exact outside_fun h h'
  ·rw [if_neg hs] at h h'
   by_cases hx : val Go.Proofs.YtdklnpaocaebkaaGreatDoor.W l = 0
   ·rw [if_pos hx] at h'
    rw [hx] at h
    obtain ⟨rfl, rfl, rfl, rfl⟩ := root_nought h
    obtain ⟨rfl, rfl, rfl, rfl⟩ := h'
    exact ⟨rfl, rfl, rfl, rfl⟩
   ·rw [if_neg hx] at h'
    obtain ⟨R, S, g, ⟨g1, g2, g3, g4, g5⟩, hN⟩ := h'
    obtain ⟨_, hok⟩ := mayD_of hlt hd.2
    have r := okd_ge (K := 4194304) (Nat.le_refl _) hok
    exact root_same hx (by omega) r.1 r.2.1 g1 g2 g3 g4 g5 h hN
 ·rw [if_neg hd] at h h'; exact wrong_fun h h'
theorem root_has (m : Nat) : ∃ R : Nat, R * R ≤ m ∧ m < (R + 1) * (R + 1) := by
 induction m with
 | zero => exact ⟨0, by decide, by decide⟩
 | succ m ih =>
  obtain ⟨R, h1, h2⟩ := ih
  by_cases h : m + 1 < (R + 1) * (R + 1)
  ·exact ⟨R, by omega, h⟩
  ·have e : (R + 1 + 1) * (R + 1 + 1) = (R + 1) * (R + 1) + (R + 1) + (R + 1) + 1 := by rw [Nat.add_mul (R + 1) 1, Nat.mul_add (R + 1), Nat.mul_one, Nat.one_mul]; omega
   exact ⟨R + 1, by omega, by omega⟩
theorem droot_raw {w : World} {A1 : Option Addr} {n1 c1 : Nat} {l1 : List Nat} {s1 : Bool} {e1 : Int} {p : Int} {up : Bool} (hT : Tab w) (h1 : Rd w .u64 Go.Proofs.YtdklnpaocaebkaaGreatDoor.W A1 n1 c1 l1) :
  Calls Tryz.prog 99 #[.agg #[.bool s1, .slice A1 n1 c1, .int .i64 e1], .int .i64 p, .bool up] w (Tells (rootR s1 l1 e1 p up) w) := by
 unfold rootR
 by_cases hd : (1 ≤ p ∧ p ≤ 2000) ∧ mayD s1 l1 e1 = true
 ·rw [if_pos hd]
  obtain ⟨q, rfl⟩ := Int.eq_ofNat_of_zero_le (show 0 ≤ p by omega)
  obtain ⟨hN, hok, _⟩ := rd_okd h1 hd.2
  by_cases hs : s1 = true
  ·rw [if_pos hs]
   exact rroot_neg hT hN hok (by omega) (by omega) hs
  ·rw [if_neg hs]
   exact rroot_ok hT hN hok (by omega) (by omega) (Bool.eq_false_iff.2 hs)
 ·rw [if_neg hd]
  refine rroot_no hT h1 ?_
  by_cases hp : 1 ≤ p ∧ p ≤ 2000
  ·exact .inr (.inr (Bool.eq_false_iff.2 fun h => hd ⟨hp, h⟩))
  ·omega

end Go.Proofs.YtdklnpaocaebkaaGreatDoor
