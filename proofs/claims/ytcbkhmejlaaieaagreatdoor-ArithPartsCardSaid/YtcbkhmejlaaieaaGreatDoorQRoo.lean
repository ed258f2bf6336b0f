/-
 Contract of the reference's Sqrt, and what round.Root tells of any Dyad, raw ones too, at this translation. Condition: the slices read as limbs; at most 1000 bits, or more than may be.
-/
import Derived.Test.YtcbkhmejlaaieaaGreatDoorQRr
namespace Go.Proofs.YtcbkhmejlaaieaaGreatDoor
open Go.RowKit

theorem and_odd (n : Int) : bits .and .i64 n 1 = n % 2 := by
 have h1 : (BitVec.ofInt 64 1).toNat = 2 ^ 1 - 1 := by decide
 have key : (BitVec.ofInt 64 n &&& BitVec.ofInt 64 1).toNat = (n % ((2 ^ 64 : Nat) : Int)).toNat % 2 ^ 1 := by
  rw [BitVec.toNat_and, BitVec.toNat_ofInt, h1, Nat.and_two_pow_sub_one_eq_mod]
 show IntKind.i64.wrap ((BitVec.ofInt 64 n &&& BitVec.ofInt 64 1).toNat : Nat) = n % 2
 rw [key, IntKind.wrap_i64]
 omega
theorem half_even (g : Int) : Int.tdiv (2 * g) 2 = g := Int.mul_tdiv_cancel_left g (by decide)
theorem root_nought {p : Nat} {up : Bool} {e k : Int} {s' : Bool} {m' : Nat} {e' : Int} (h : RoTold 0 e p up k s' m' e') : k = 0 ∧ s' = false ∧ m' = 0 ∧ e' = 0 := by
 obtain ⟨i, j, r, f, ⟨_, _, _, _, h1, _⟩, hN⟩ := h
 have hr : r = 0 := by
  rw [Nat.zero_mul, Nat.zero_div] at h1
  rcases Nat.mul_eq_zero.1 (Nat.le_zero.1 h1) with h2 | h2 <;> exact h2
 have e : cutR p r (!decide (r * r * 2 ^ j = 0 * 2 ^ i)) (up != false) = 0 := by
  rw [hr]
  unfold cutR
  simp
 rw [e] at hN
 exact nm_fun hN (.inl ⟨rfl, rfl, rfl, rfl, rfl⟩)
/-- what the longer reckoning tells -/
def SqTold (x : Nat) (e : Int) (p : Nat) (up : Bool) (k : Int) (s' : Bool) (m' : Nat) (e' : Int) : Prop :=
 ∃ (R S : Nat) (g : Int), (2 * p + 6 ≤ blen x + S ∧ S ≤ 8000 ∧ e - (S : Int) = 2 * g ∧ R * R ≤ x * 2 ^ S ∧ x * 2 ^ S < (R + 1) * (R + 1)) ∧ Nm false (cutN p (stickyR S x R) (up != false)) (g - 1 + ((blen (stickyR S x R) - p : Nat) : Int)) k s' m' e'
def Nought (k : Int) (s' : Bool) (m' : Nat) (e' : Int) : Prop := k = 0 ∧ s' = false ∧ m' = 0 ∧ e' = 0
def rootR (s : Bool) (l : List Nat) (e : Int) (p : Int) (up : Bool) : Int → Bool → Nat → Int → Prop :=
 if (1 ≤ p ∧ p ≤ 2000) ∧ mayD s l e = true then (if s = true then Outside else RoTold (val Go.Proofs.YtcbkhmejlaaieaaGreatDoor.W l) e p.toNat up) else Wrong
def rootQ (s : Bool) (l : List Nat) (e : Int) (p : Int) (up : Bool) : Int → Bool → Nat → Int → Prop :=
 if (1 ≤ p ∧ p ≤ 2000) ∧ mayD s l e = true then (if s = true then Outside else if val Go.Proofs.YtcbkhmejlaaieaaGreatDoor.W l = 0 then Nought else SqTold (val Go.Proofs.YtcbkhmejlaaieaaGreatDoor.W l) e p.toNat up) else Wrong
theorem root_agree {s : Bool} {l : List Nat} {e p : Int} {up : Bool} {k k2 : Int} {s1 s2 : Bool} {m1 m2 : Nat} {e1 e2 : Int} (hlt : Lt Go.Proofs.YtcbkhmejlaaieaaGreatDoor.W l) (h : rootR s l e p up k s1 m1 e1) (h' : rootQ s l e p up k2 s2 m2 e2) : k = k2 ∧ s1 = s2 ∧ m1 = m2 ∧ e1 = e2 := by
 unfold rootR at h
 unfold rootQ at h'
 by_cases hd : (1 ≤ p ∧ p ≤ 2000) ∧ mayD s l e = true
 ·rw [if_pos hd] at h h'
  by_cases hs : s = true
  ·rw [if_pos hs] at h h'; exact outside_fun h h'
  ·rw [if_neg hs] at h h'
   by_cases hx : val Go.Proofs.YtcbkhmejlaaieaaGreatDoor.W l = 0
   ·rw [if_pos hx] at h'
    rw [hx] at h
    obtain ⟨rfl, rfl, rfl, rfl⟩ := root_nought h
    obtain ⟨rfl, rfl, rfl, rfl⟩ := h'
    exact ⟨rfl, rfl, rfl, rfl⟩
   ·rw [if_neg hx] at h'
    obtain ⟨R, S, g, ⟨g1, g2, g3, g4, g5⟩, hN⟩ := h'
    obtain ⟨_, hok⟩ := mayD_of hlt hd.2
    have r := okd_ge (K := 4194304) (Nat.le_refl _) hok
    exact root_same hx (by omega) r.1 r.2.1 g1 g2 g3 g4 g5 h hN
 ·rw [if_neg hd] at h h'; exact wrong_fun h h'
theorem root_has (m : Nat) : ∃ R : Nat, R * R ≤ m ∧ m < (R + 1) * (R + 1) := by
 induction m with
 | zero => exact ⟨0, by decide, by decide⟩
 | succ m ih =>
  obtain ⟨R, h1, h2⟩ := ih
  by_cases h : m + 1 < (R + 1) * (R + 1)
  ·exact ⟨R, by omega, h⟩
  ·have e : (R + 1 + 1) * (R + 1 + 1) = (R + 1) * (R + 1) + (R + 1) + (R + 1) + 1 := by rw [Nat.add_mul (R + 1) 1, Nat.mul_add (R + 1), Nat.mul_one, Nat.one_mul]; omega
   exact ⟨R + 1, by omega, by omega⟩
theorem root_fit {x S R : Nat} {p : Nat} (bx : blen x ≤ 4096) (hp : p ≤ 1000) (hS : S ≤ 2 * p + 7) (h1 : R * R ≤ x * 2 ^ S) : x * 2 ^ S < Go.Proofs.YtcbkhmejlaaieaaGreatDoor.H ^ 400 ∧ R < Go.Proofs.YtcbkhmejlaaieaaGreatDoor.H ^ 400 ∧ stickyR S x R < Go.Proofs.YtcbkhmejlaaieaaGreatDoor.H ^ 600 ∧ blen (stickyR S x R) ≤ 9600 ∧ R * 2 ^ 1 < Go.Proofs.YtcbkhmejlaaieaaGreatDoor.H ^ 500 := by
 have hx2 := (blen_le x (blen x)).1 (Nat.le_refl _)
 have h2 : x * 2 ^ S < 2 ^ (blen x + S) := by rw [Nat.pow_add]; exact Nat.mul_lt_mul_of_pos_right hx2 (pow_pos2 _)
 have hm : blen x + S ≤ 6200 := by omega
 have hRm : R ≤ x * 2 ^ S := by
  rcases Nat.eq_zero_or_pos R with h | h
  ·omega
  ·have := Nat.mul_le_mul_right R h; omega
 have hQ : stickyR S x R ≤ 2 * (x * 2 ^ S) + 1 := by unfold stickyR; split <;> omega
 generalize x * 2 ^ S = X at *
 obtain ⟨k, hk⟩ : ∃ k, k = blen x + S := ⟨_, rfl⟩
 rw [← hk] at h2 hm
 have hQ2 : stickyR S x R < 2 ^ (k + 1) := by rw [Nat.pow_succ]; omega
 have e1 : R * 2 ^ 1 = R * 2 := by rw [Nat.pow_one]
 have hR2 : R * 2 ^ 1 < 2 ^ (k + 1) := by rw [e1, Nat.pow_succ]; omega
 have up : ∀ {z j m : Nat}, z < 2 ^ j → j ≤ 16 * m → z < Go.Proofs.YtcbkhmejlaaieaaGreatDoor.H ^ m := fun {z j m} h hj => by
  rw [H_pow, ← Nat.pow_mul]
  exact Nat.lt_of_lt_of_le h (Nat.pow_le_pow_right (by omega) hj)
 obtain ⟨m4, e4⟩ : ∃ m : Nat, m = 400 := ⟨_, rfl⟩
 obtain ⟨m5, e5⟩ : ∃ m : Nat, m = 500 := ⟨_, rfl⟩
 obtain ⟨m6, e6⟩ : ∃ m : Nat, m = 600 := ⟨_, rfl⟩
 rw [← e4, ← e5, ← e6]
 exact ⟨up h2 (by omega), up (Nat.lt_of_le_of_lt hRm h2) (by omega), up hQ2 (by omega), Nat.le_trans ((blen_le _ (k + 1)).2 hQ2) (by omega), up hR2 (by omega)⟩
theorem droot_raw {w : World} {A1 : Option Addr} {n1 c1 : Nat} {l1 : List Nat} {s1 : Bool} {e1 : Int} {p : Int} {up : Bool} (hT : Tab w) (h1 : Rd w .u64 Go.Proofs.YtcbkhmejlaaieaaGreatDoor.W A1 n1 c1 l1) :
  Calls Tryz.prog 125 #[.agg #[.bool s1, .slice A1 n1 c1, .int .i64 e1], .int .i64 p, .bool up] w (Tells (rootR s1 l1 e1 p up) w) := by
 unfold rootR
 by_cases hd : (1 ≤ p ∧ p ≤ 2000) ∧ mayD s1 l1 e1 = true
 ·rw [if_pos hd]
  obtain ⟨q, rfl⟩ := Int.eq_ofNat_of_zero_le (show 0 ≤ p by omega)
  obtain ⟨hN, hok, _⟩ := rd_okd h1 hd.2
  by_cases hs : s1 = true
  ·rw [if_pos hs]
   exact rroot_neg hT hN hok (by omega) (by omega) hs
  ·rw [if_neg hs]
   exact rroot_ok hT hN hok (by omega) (by omega) (Bool.eq_false_iff.2 hs)
 ·rw [if_neg hd]
  refine rroot_no hT h1 ?_
  by_cases hp : 1 ≤ p ∧ p ≤ 2000
  ·exact .inr (.inr (Bool.eq_false_iff.2 fun h => hd ⟨hp, h⟩))
  ·omega

set_option maxRecDepth 100000 in
set_option maxHeartbeats 8000000 in
theorem rsqrtd_no {w : World} {A1 : Option Addr} {n1 c1 : Nat} {l1 : List Nat} {s1 : Bool} {e1 : Int} {p : Int} {up : Bool} (h1 : Rd w .u64 Go.Proofs.YtcbkhmejlaaieaaGreatDoor.W A1 n1 c1 l1) (hd : ¬ ((1 ≤ p ∧ p ≤ 2000) ∧ mayD s1 l1 e1 = true)) :
  Calls Tryz.prog 72 #[.agg #[.bool s1, .slice A1 n1 c1, .int .i64 e1], .int .i64 p, .bool up] w (Tells Wrong w) := by
 have BB := two_below w (.cells #[.bool s1, .slice A1 n1 c1, .int .i64 e1] 24) (.cells #[.bool false, .slice none 0 0, .int .i64 0] 24)
 obtain ⟨a10, a11, a12⟩ := ((Box.new w s1 A1 n1 c1 e1).alloc (.cells #[.bool false, .slice none 0 0, .int .i64 0] 24)).held
 have r := box_one' w (.cells #[.bool s1, .slice A1 n1 c1, .int .i64 e1] 24) false none 0 0 0
 have ne1 : ¬ w.heap.size + 1 = w.heap.size := by omega
 have ne2 : ¬ w.heap.size = w.heap.size + 1 := by omega
 replace h1 := mv BB rfl h1
 have HD := Lib.hid hd
 clear hd
 go_enter Tryz.func72, Tryz.ntmps72
 go_wp2_with fail
 refine (rmayd_any (s := s1) (e := e1) h1).mono ?_
 rintro en w1 ⟨rfl, b⟩
 replace BB := bnx BB b rfl rfl rfl rfl
 have G := mv b rfl (J5 a10 a11 a12 h1 r)
 clear b a10 a11 a12 h1 r
 obtain ⟨a10, a11, a12, h1, r⟩ := G
 cases q1 : mayD s1 l1 e1
 ·clear q1
  obtain ⟨f0, f1, f2⟩ := r.open
  obtain ⟨z0, z1, z2⟩ := r.held
  go_wp2
  have qq := r.put false none 0 0 0
  have HB3 := below_put3 (g := w.heap.size + 1) BB (by omega) (.bool false) (.slice none 0 0) (.int .i64 0)
  obtain ⟨z0, z1, z2⟩ := qq.held
  exact bodyPost_ret (v := .tuple #[.agg #[.bool false, .slice none 0 0, .int .i64 0], .int .i64 1]) (by simp [results, Tryz.results72, go_sem, z0, z1, z2]) rfl ⟨_, _, _, _, _, 0, _, rfl, ⟨rfl, rfl, rfl, rfl⟩, nt_nil _, HB3⟩
 have hp : ¬ (1 ≤ p ∧ p ≤ 2000) := fun h => HD.out ⟨h, q1⟩
 clear q1
 rcases Int.lt_or_le p 1 with g | g
 ·have d1 : decide (p < 1) = true := decide_eq_true g
  clear hp g
  obtain ⟨f0, f1, f2⟩ := r.open
  obtain ⟨z0, z1, z2⟩ := r.held
  go_wp2
  have qq := r.put false none 0 0 0
  have HB3 := below_put3 (g := w.heap.size + 1) BB (by omega) (.bool false) (.slice none 0 0) (.int .i64 0)
  obtain ⟨z0, z1, z2⟩ := qq.held
  exact bodyPost_ret (v := .tuple #[.agg #[.bool false, .slice none 0 0, .int .i64 0], .int .i64 1]) (by simp [results, Tryz.results72, go_sem, z0, z1, z2]) rfl ⟨_, _, _, _, _, 0, _, rfl, ⟨rfl, rfl, rfl, rfl⟩, nt_nil _, HB3⟩
 have g2 : 2000 < p := by omega
 have d1 : decide (p < 1) = false := decide_eq_false (by omega)
 have d2 : decide ((2000 : Int) < p) = true := decide_eq_true g2
 clear hp g g2
 obtain ⟨f0, f1, f2⟩ := r.open
 obtain ⟨z0, z1, z2⟩ := r.held
 go_wp2
 have qq := r.put false none 0 0 0
 have HB3 := below_put3 (g := w.heap.size + 1) BB (by omega) (.bool false) (.slice none 0 0) (.int .i64 0)
 obtain ⟨z0, z1, z2⟩ := qq.held
 exact bodyPost_ret (v := .tuple #[.agg #[.bool false, .slice none 0 0, .int .i64 0], .int .i64 1]) (by simp [results, Tryz.results72, go_sem, z0, z1, z2]) rfl ⟨_, _, _, _, _, 0, _, rfl, ⟨rfl, rfl, rfl, rfl⟩, nt_nil _, HB3⟩

set_option maxRecDepth 100000 in
set_option maxHeartbeats 8000000 in
theorem rsqrtd_neg {w : World} {p : Nat} {up : Bool} {A1 : Option Addr} {n1 c1 x1 : Nat} {s1 : Bool} {e1 : Int} (h1 : Nt w A1 n1 c1 x1) (d1 : OkD s1 x1 e1) (hp1 : 1 ≤ p) (hp : p ≤ 2000) (hs : s1 = true) :
  Calls Tryz.prog 72 #[.agg #[.bool s1, .slice A1 n1 c1, .int .i64 e1], .int .i64 (p : Int), .bool up] w (Tells Outside w) := by
 have M1 := Lib.hid (mayD_ok d1)
 have n1l := h1.le
 have bx := blen_nt h1
 have g1 := okd_ge (K := 4194304) (Nat.le_refl _) d1
 have r1 := g1.1
 have r2 := g1.2.1
 have hz1 : n1 = 0 ↔ x1 = 0 := h1.zero
 clear g1 d1
 have e1' : decide ((p : Int) < 1) = false := decide_eq_false (by omega)
 have e2' : decide ((2000 : Int) < (p : Int)) = false := decide_eq_false (by omega)
 subst hs
 have BB := two_below w (.cells #[.bool true, .slice A1 n1 c1, .int .i64 e1] 24) (.cells #[.bool false, .slice none 0 0, .int .i64 0] 24)
 obtain ⟨a10, a11, a12⟩ := ((Box.new w true A1 n1 c1 e1).alloc (.cells #[.bool false, .slice none 0 0, .int .i64 0] 24)).held
 have r := box_one' w (.cells #[.bool true, .slice A1 n1 c1, .int .i64 e1] 24) false none 0 0 0
 have ne1 : ¬ w.heap.size + 1 = w.heap.size := by omega
 have ne2 : ¬ w.heap.size = w.heap.size + 1 := by omega
 replace h1 := mv BB rfl h1
 clear hz1
 go_enter Tryz.func72, Tryz.ntmps72
 go_wp2_with fail
 refine (rmayd_any (s := true) (e := e1) h1.rd).mono ?_
 rintro en w1 ⟨rfl, b⟩
 rw [M1.out]
 replace BB := bnx BB b rfl rfl rfl rfl
 have G := mv b rfl (J5 a10 a11 a12 h1 r)
 clear b a10 a11 a12 h1 r
 obtain ⟨a10, a11, a12, h1, r⟩ := G
 obtain ⟨f0, f1, f2⟩ := r.open
 obtain ⟨z0, z1, z2⟩ := r.held
 go_wp2
 have qq := r.put false none 0 0 0
 have HB3 := below_put3 (g := w.heap.size + 1) BB (by omega) (.bool false) (.slice none 0 0) (.int .i64 0)
 obtain ⟨z0, z1, z2⟩ := qq.held
 exact bodyPost_ret (v := .tuple #[.agg #[.bool false, .slice none 0 0, .int .i64 0], .int .i64 4]) (by simp [results, Tryz.results72, go_sem, z0, z1, z2]) rfl ⟨_, _, _, _, _, 0, _, rfl, ⟨rfl, rfl, rfl, rfl⟩, nt_nil _, HB3⟩

set_option maxRecDepth 100000 in
set_option maxHeartbeats 8000000 in
theorem rsqrtd_zero {w : World} {p : Nat} {up : Bool} {A1 : Option Addr} {n1 c1 x1 : Nat} {s1 : Bool} {e1 : Int} (h1 : Nt w A1 n1 c1 x1) (d1 : OkD s1 x1 e1) (hp1 : 1 ≤ p) (hp : p ≤ 2000) (hs : s1 = false) (hx : x1 = 0) (he : e1 = 0) :
  Calls Tryz.prog 72 #[.agg #[.bool s1, .slice A1 n1 c1, .int .i64 e1], .int .i64 (p : Int), .bool up] w (Tells Nought w) := by
 have M1 := Lib.hid (mayD_ok d1)
 have n1l := h1.le
 have bx := blen_nt h1
 have g1 := okd_ge (K := 4194304) (Nat.le_refl _) d1
 have r1 := g1.1
 have r2 := g1.2.1
 have hz1 : n1 = 0 ↔ x1 = 0 := h1.zero
 clear g1 d1
 have e1' : decide ((p : Int) < 1) = false := decide_eq_false (by omega)
 have e2' : decide ((2000 : Int) < (p : Int)) = false := decide_eq_false (by omega)
 subst hs
 have BB := two_below w (.cells #[.bool false, .slice A1 n1 c1, .int .i64 e1] 24) (.cells #[.bool false, .slice none 0 0, .int .i64 0] 24)
 obtain ⟨a10, a11, a12⟩ := ((Box.new w false A1 n1 c1 e1).alloc (.cells #[.bool false, .slice none 0 0, .int .i64 0] 24)).held
 have r := box_one' w (.cells #[.bool false, .slice A1 n1 c1, .int .i64 e1] 24) false none 0 0 0
 have ne1 : ¬ w.heap.size + 1 = w.heap.size := by omega
 have ne2 : ¬ w.heap.size = w.heap.size + 1 := by omega
 replace h1 := mv BB rfl h1
 have q1 : ((n1 : Int) == 0) = true := by simp [hz1.2 hx]
 clear hz1
 subst he hx
 go_enter Tryz.func72, Tryz.ntmps72
 go_wp2_with fail
 refine (rmayd_any (s := false) (e := 0) h1.rd).mono ?_
 rintro en w1 ⟨rfl, b⟩
 rw [M1.out]
 replace BB := bnx BB b rfl rfl rfl rfl
 have G := mv b rfl (J5 a10 a11 a12 h1 r)
 clear b a10 a11 a12 h1 r
 obtain ⟨a10, a11, a12, h1, r⟩ := G
 obtain ⟨f0, f1, f2⟩ := r.open
 obtain ⟨z0, z1, z2⟩ := r.held
 go_wp2
 have qq := r.put false A1 n1 c1 0
 have hN := h1.put3 r (.bool false) (.slice A1 n1 c1) (.int .i64 0)
 have HB3 := below_put3 (g := w.heap.size + 1) BB (by omega) (.bool false) (.slice A1 n1 c1) (.int .i64 0)
 obtain ⟨z0, z1, z2⟩ := qq.held
 exact bodyPost_ret (v := .tuple #[.agg #[.bool false, .slice A1 n1 c1, .int .i64 0], .int .i64 0]) (by simp [results, Tryz.results72, go_sem, z0, z1, z2]) rfl ⟨_, _, _, _, _, _, _, rfl, ⟨rfl, rfl, rfl, rfl⟩, hN, HB3⟩

set_option maxRecDepth 100000 in
set_option maxHeartbeats 8000000 in
theorem rsqrtd_whole {w : World} {p : Nat} {up : Bool} {A1 : Option Addr} {n1 c1 x1 : Nat} {s1 : Bool} {e1 : Int} (h1 : Nt w A1 n1 c1 x1) (d1 : OkD s1 x1 e1) (hp1 : 1 ≤ p) (hp : p ≤ 1000) (hs : s1 = false) (hx : x1 ≠ 0) {S R : Nat} {g : Int} (hS : (S : Int) = max 0 (2 * (p : Int) + 6 - (blen x1 : Int)) + (e1 - max 0 (2 * (p : Int) + 6 - (blen x1 : Int))) % 2) (hg : e1 - (S : Int) = 2 * g) (hR1 : R * R ≤ x1 * 2 ^ S) (hR2 : x1 * 2 ^ S < (R + 1) * (R + 1)) (hex : R * R = x1 * 2 ^ S) :
  Calls Tryz.prog 72 #[.agg #[.bool s1, .slice A1 n1 c1, .int .i64 e1], .int .i64 (p : Int), .bool up] w (Tells (SqTold x1 e1 p up) w) := by
 have M1 := Lib.hid (mayD_ok d1)
 have n1l := h1.le
 have bx := blen_nt h1
 have g1 := okd_ge (K := 4194304) (Nat.le_refl _) d1
 have r1 := g1.1
 have r2 := g1.2.1
 have hz1 : n1 = 0 ↔ x1 = 0 := h1.zero
 clear g1 d1
 have e1' : decide ((p : Int) < 1) = false := decide_eq_false (by omega)
 have e2' : decide ((2000 : Int) < (p : Int)) = false := decide_eq_false (by omega)
 subst hs
 have BB := two_below w (.cells #[.bool false, .slice A1 n1 c1, .int .i64 e1] 24) (.cells #[.bool false, .slice none 0 0, .int .i64 0] 24)
 obtain ⟨a10, a11, a12⟩ := ((Box.new w false A1 n1 c1 e1).alloc (.cells #[.bool false, .slice none 0 0, .int .i64 0] 24)).held
 have r := box_one' w (.cells #[.bool false, .slice A1 n1 c1, .int .i64 e1] 24) false none 0 0 0
 have ne1 : ¬ w.heap.size + 1 = w.heap.size := by omega
 have ne2 : ¬ w.heap.size = w.heap.size + 1 := by omega
 replace h1 := mv BB rfl h1
 have q1 : ((n1 : Int) == 0) = false := by have := mt hz1.1 hx; simp [this]
 obtain ⟨s0, hs0⟩ := Int.eq_ofNat_of_zero_le (show 0 ≤ max 0 (2 * (p : Int) + 6 - (blen x1 : Int)) by omega)
 rw [hs0] at hS
 have hS2 : S ≤ 2 * p + 7 := by omega
 obtain ⟨f1, f2, f3, f4, f5⟩ := root_fit bx hp hS2 hR1
 have HF := Lib.hid (And.intro f1 (And.intro f2 (And.intro f3 f5)))
 have HSQ : Hid (∀ k s m e, Nm false (cutN p (stickyR S x1 R) (up != false)) (g - 1 + ((blen (stickyR S x1 R) - p : Nat) : Int)) k s m e → SqTold x1 e1 p up k s m e) := Lib.hid fun _ _ _ _ h => ⟨R, S, g, ⟨by omega, by omega, hg, hR1, hR2⟩, h⟩
 have HR1 := Lib.hid hR1
 have HR2 := Lib.hid hR2
 have HX := Lib.hid hx
 have HSE := Lib.hid hS
 obtain ⟨Q, hQd⟩ : ∃ Q, stickyR S x1 R = Q := ⟨_, rfl⟩
 rw [hQd] at f3 f4 HSQ HF
 unfold stickyR at hQd
 have HQD : Hid (R * 2 ^ 1 = Q) := Lib.hid (by rw [← hQd, if_pos hex, Nat.pow_one]; omega)
 have HC : Hid (cmpN (R * R) (x1 * 2 ^ S) = 0) := Lib.hid (cmpN_eq hex)
 have w1 : IntKind.i64.wrap (2 * (p : Int)) = 2 * (p : Int) := IntWalk.i64_in _ (by omega)
 have w2 : IntKind.i64.wrap (2 * (p : Int) + 6) = 2 * (p : Int) + 6 := IntWalk.i64_in _ (by omega)
 have w3 : IntKind.i64.wrap (2 * (p : Int) + 6 - (blen x1 : Int)) = 2 * (p : Int) + 6 - (blen x1 : Int) := IntWalk.i64_in _ (by omega)
 have w4 : IntKind.i64.wrap (e1 - (s0 : Int)) = e1 - (s0 : Int) := IntWalk.i64_in _ (by omega)
 have w5 := and_odd (e1 - (s0 : Int))
 have hs6 : s0 ≤ 8000 := by omega
 have HG := Lib.hid hg
 clear hz1 hx f1 f2 f5 hR1 hR2 hQd hex hS hg
 go_enter Tryz.func72, Tryz.ntmps72
 go_wp2_with fail
 refine (rmayd_any (s := false) (e := e1) h1.rd).mono ?_
 rintro en w1 ⟨rfl, b⟩
 rw [M1.out]
 replace BB := bnx BB b rfl rfl rfl rfl
 have G := mv b rfl (J5 a10 a11 a12 h1 r)
 clear b a10 a11 a12 h1 r
 obtain ⟨a10, a11, a12, h1, r⟩ := G
 go_wp2_with fail
 refine (rof_any (s := false) (e := e1) h1).mono ?_
 rintro en w2_ ⟨A2, n2, c2, rfl, h2, b⟩
 have n2l : n2 ≤ 256 := dg_small h2 (by rw [H256]; exact h1.lt)
 replace BB := bnx BB b rfl rfl rfl rfl
 have G := mv b rfl (J5 a10 a11 a12 h1 r)
 clear b a10 a11 a12 h1 r
 obtain ⟨a10, a11, a12, h1, r⟩ := G
 clear h1
 obtain ⟨a20, a21, a22⟩ := (Dbx.new w2_ false A2 n2 c2 e1).held
 have b := below_alloc w2_ (.cells #[.bool false, .slice A2 n2 c2, .int .i64 e1] 90)
 have gl2 : w.heap.size + 1 < w2_.heap.size := r.gl
 replace BB := bnx BB b rfl rfl rfl rfl
 have G := mv b rfl (J5 a10 a11 a12 r h2)
 clear b a10 a11 a12 r h2
 obtain ⟨a10, a11, a12, r, h2⟩ := G
 go_wp2_with fail
 refine (rbits_any (Dg.heap32 h2 (by rfl)) (by omega)).mono ?_
 rintro en w' ⟨rfl, rfl⟩
 go_upto_if 48 with fail
 clear w1 w2 w3 hs0
 go_cut [9] (fun v9 wc => v9 = .int .i64 (S : Int) ∧ wc = w2_.alloc (.cells #[.bool false, .slice A2 n2 c2, .int .i64 e1] 90))
 case first =>
  have hse := HSE.out
  have hm := Int.emod_two_eq (e1 - (s0 : Int))
  rcases hm with h | h
  ·have f0 : ((e1 - (s0 : Int)) % 2 != 0) = false := by simp [h]
   have hS0 : S = s0 := by omega
   clear hse h
   subst hS0
   go_wp2_with fail
   go_meet
   case rel => exact ⟨rfl, rfl⟩
  ·have f0 : ((e1 - (s0 : Int)) % 2 != 0) = true := by simp [h]
   have hS0 : S = s0 + 1 := by omega
   have w6 : IntKind.i64.wrap ((s0 : Int) + 1) = (s0 : Int) + 1 := IntWalk.i64_in _ (by omega)
   clear hse h
   subst hS0
   go_wp2_with fail
   go_meet
   case rel => exact ⟨by simp, rfl⟩
 case rest =>
   obtain ⟨rfl, rfl⟩ := hcut
   clear w4 w5 HSE hs6
   have hg := HG.out
   have w7 : IntKind.i64.wrap (2 * g) = 2 * g := IntWalk.i64_in _ (by omega)
   have w8 := half_even g
   have w9 : IntKind.i64.wrap g = g := IntWalk.i64_in _ (by omega)
   have w10 : IntKind.i64.wrap (g - 1) = g - 1 := IntWalk.i64_in _ (by omega)
   go_wp2_with fail
   refine (rshl_any (s := S) h2 (by omega) (by omega)).mono ?_
   rintro en w3_ ⟨A3, n3, c3, rfl, h3, b⟩
   clear h2
   replace BB := bnx BB b rfl rfl rfl rfl
   have G := mv b rfl (J7 a10 a11 a12 r a20 a21 a22)
   clear b a10 a11 a12 r a20 a21 a22
   obtain ⟨a10, a11, a12, r, a20, a21, a22⟩ := G
   have n3l : n3 ≤ 400 := dg_small h3 HF.out.1
   go_wp2_with fail
   refine (rroot_any h3 (by omega) HR1.out HR2.out).mono ?_
   rintro en w4_ ⟨A4, n4, c4, rfl, h4, b⟩
   replace BB := bnx BB b rfl rfl rfl rfl
   have G := mv b rfl (J8 a10 a11 a12 r a20 a21 a22 h3)
   clear b a10 a11 a12 r a20 a21 a22 h3
   obtain ⟨a10, a11, a12, r, a20, a21, a22, h3⟩ := G
   have n4l : n4 ≤ 400 := dg_small h4 HF.out.2.1
   go_wp2_with fail
   refine (rmul_any h4 h4 (by omega) (by omega)).mono ?_
   rintro en w5_ ⟨A5, n5, c5, rfl, h5, b⟩
   replace BB := bnx BB b rfl rfl rfl rfl
   have G := mv b rfl (J9 a10 a11 a12 r a20 a21 a22 h3 h4)
   clear b a10 a11 a12 r a20 a21 a22 h3 h4
   obtain ⟨a10, a11, a12, r, a20, a21, a22, h3, h4⟩ := G
   go_wp2_with fail
   refine (rcmp_any h5 h3).mono ?_
   rintro en w6_ ⟨rfl, b⟩
   rw [HC.out]
   clear h5 h3
   replace BB := bnx BB b rfl rfl rfl rfl
   have G := mv b rfl (J8 a10 a11 a12 r a20 a21 a22 h4)
   clear b a10 a11 a12 r a20 a21 a22 h4
   obtain ⟨a10, a11, a12, r, a20, a21, a22, h4⟩ := G
   go_wp2_with fail
   refine (rshl_any (s := 1) h4 (by omega) (by omega)).mono ?_
   rintro en w7_ ⟨A6, n6, c6, rfl, h6, b⟩
   clear h4
   replace BB := bnx BB b rfl rfl rfl rfl
   have G := mv b rfl (J7 a10 a11 a12 r a20 a21 a22)
   clear b a10 a11 a12 r a20 a21 a22
   obtain ⟨a10, a11, a12, r, a20, a21, a22⟩ := G
   rw [HQD.out] at h6
   go_wp2_with fail
   refine (rcut_any (p := p) (s := false) (up := up) (e := g - 1) h6 HF.out.2.2.1 f4 (by omega) (by omega)).mono ?_
   rintro en w9_ ⟨A8, n8, c8, rfl, h8, b⟩
   have HCL := Lib.hid (cutN_lt (x := Q) (u := up != false) (show p ≤ 2000 by omega))
   clear h6
   replace BB := bnx BB b rfl rfl rfl rfl
   have G := mv b rfl (J7 a10 a11 a12 r a20 a21 a22)
   clear b a10 a11 a12 r a20 a21 a22
   obtain ⟨a10, a11, a12, r, a20, a21, a22⟩ := G
   have n8l : n8 ≤ 256 := dg_small h8 (by rw [H256]; exact HCL.out)
   go_wp2_with fail
   refine (rwide_any (s := false) (e := g - 1 + ((blen Q - p : Nat) : Int)) h8 (by omega) (fits_mono (cutN_fits hp1) (by omega)) (by omega)).mono ?_
   rintro en w10_ ⟨k6, s6, A6_, n6_, c6_, m6, e6, rfl, hP, h9, b⟩
   have HP := Lib.hid (HSQ.out _ _ _ _ hP)
   clear hP
   clear h8
   replace BB := bnx BB b rfl rfl rfl rfl
   have G := mv b rfl (J7 a10 a11 a12 r a20 a21 a22)
   clear b a10 a11 a12 r a20 a21 a22
   obtain ⟨a10, a11, a12, r, a20, a21, a22⟩ := G
   obtain ⟨f0, f1, f2⟩ := r.open
   obtain ⟨z0, z1, z2⟩ := r.held
   go_wp2
   have qq := r.put s6 A6_ n6_ c6_ e6
   have hN := h9.put3 r (.bool s6) (.slice A6_ n6_ c6_) (.int .i64 e6)
   have HB3 := below_put3 (g := w.heap.size + 1) BB (by omega) (.bool s6) (.slice A6_ n6_ c6_) (.int .i64 e6)
   obtain ⟨z0, z1, z2⟩ := qq.held
   exact bodyPost_ret (v := .tuple #[.agg #[.bool s6, .slice A6_ n6_ c6_, .int .i64 e6], .int .i64 k6]) (by simp [results, Tryz.results72, go_sem, z0, z1, z2]) rfl ⟨_, _, _, _, _, _, _, rfl, HP.out, hN, HB3⟩

set_option maxRecDepth 100000 in
set_option maxHeartbeats 8000000 in
theorem rsqrtd_rest {w : World} {p : Nat} {up : Bool} {A1 : Option Addr} {n1 c1 x1 : Nat} {s1 : Bool} {e1 : Int} (h1 : Nt w A1 n1 c1 x1) (d1 : OkD s1 x1 e1) (hp1 : 1 ≤ p) (hp : p ≤ 1000) (hs : s1 = false) (hx : x1 ≠ 0) {S R : Nat} {g : Int} (hS : (S : Int) = max 0 (2 * (p : Int) + 6 - (blen x1 : Int)) + (e1 - max 0 (2 * (p : Int) + 6 - (blen x1 : Int))) % 2) (hg : e1 - (S : Int) = 2 * g) (hR1 : R * R ≤ x1 * 2 ^ S) (hR2 : x1 * 2 ^ S < (R + 1) * (R + 1)) (hex : ¬ R * R = x1 * 2 ^ S) :
  Calls Tryz.prog 72 #[.agg #[.bool s1, .slice A1 n1 c1, .int .i64 e1], .int .i64 (p : Int), .bool up] w (Tells (SqTold x1 e1 p up) w) := by
 have M1 := Lib.hid (mayD_ok d1)
 have n1l := h1.le
 have bx := blen_nt h1
 have g1 := okd_ge (K := 4194304) (Nat.le_refl _) d1
 have r1 := g1.1
 have r2 := g1.2.1
 have hz1 : n1 = 0 ↔ x1 = 0 := h1.zero
 clear g1 d1
 have e1' : decide ((p : Int) < 1) = false := decide_eq_false (by omega)
 have e2' : decide ((2000 : Int) < (p : Int)) = false := decide_eq_false (by omega)
 subst hs
 have BB := two_below w (.cells #[.bool false, .slice A1 n1 c1, .int .i64 e1] 24) (.cells #[.bool false, .slice none 0 0, .int .i64 0] 24)
 obtain ⟨a10, a11, a12⟩ := ((Box.new w false A1 n1 c1 e1).alloc (.cells #[.bool false, .slice none 0 0, .int .i64 0] 24)).held
 have r := box_one' w (.cells #[.bool false, .slice A1 n1 c1, .int .i64 e1] 24) false none 0 0 0
 have ne1 : ¬ w.heap.size + 1 = w.heap.size := by omega
 have ne2 : ¬ w.heap.size = w.heap.size + 1 := by omega
 replace h1 := mv BB rfl h1
 have q1 : ((n1 : Int) == 0) = false := by have := mt hz1.1 hx; simp [this]
 obtain ⟨s0, hs0⟩ := Int.eq_ofNat_of_zero_le (show 0 ≤ max 0 (2 * (p : Int) + 6 - (blen x1 : Int)) by omega)
 rw [hs0] at hS
 have hS2 : S ≤ 2 * p + 7 := by omega
 obtain ⟨f1, f2, f3, f4, f5⟩ := root_fit bx hp hS2 hR1
 have HF := Lib.hid (And.intro f1 (And.intro f2 (And.intro f3 f5)))
 have HSQ : Hid (∀ k s m e, Nm false (cutN p (stickyR S x1 R) (up != false)) (g - 1 + ((blen (stickyR S x1 R) - p : Nat) : Int)) k s m e → SqTold x1 e1 p up k s m e) := Lib.hid fun _ _ _ _ h => ⟨R, S, g, ⟨by omega, by omega, hg, hR1, hR2⟩, h⟩
 have HR1 := Lib.hid hR1
 have HR2 := Lib.hid hR2
 have HX := Lib.hid hx
 have HSE := Lib.hid hS
 obtain ⟨Q, hQd⟩ : ∃ Q, stickyR S x1 R = Q := ⟨_, rfl⟩
 rw [hQd] at f3 f4 HSQ HF
 unfold stickyR at hQd
 have HQD : Hid (R * 2 ^ 1 + 1 = Q) := Lib.hid (by rw [← hQd, if_neg hex, Nat.pow_one]; omega)
 have HC : Hid (cmpN (R * R) (x1 * 2 ^ S) = -1) := Lib.hid (cmpN_lt (by omega))
 have w1 : IntKind.i64.wrap (2 * (p : Int)) = 2 * (p : Int) := IntWalk.i64_in _ (by omega)
 have w2 : IntKind.i64.wrap (2 * (p : Int) + 6) = 2 * (p : Int) + 6 := IntWalk.i64_in _ (by omega)
 have w3 : IntKind.i64.wrap (2 * (p : Int) + 6 - (blen x1 : Int)) = 2 * (p : Int) + 6 - (blen x1 : Int) := IntWalk.i64_in _ (by omega)
 have w4 : IntKind.i64.wrap (e1 - (s0 : Int)) = e1 - (s0 : Int) := IntWalk.i64_in _ (by omega)
 have w5 := and_odd (e1 - (s0 : Int))
 have hs6 : s0 ≤ 8000 := by omega
 have HG := Lib.hid hg
 clear hz1 hx f1 f2 f5 hR1 hR2 hQd hex hS hg
 go_enter Tryz.func72, Tryz.ntmps72
 go_wp2_with fail
 refine (rmayd_any (s := false) (e := e1) h1.rd).mono ?_
 rintro en w1 ⟨rfl, b⟩
 rw [M1.out]
 replace BB := bnx BB b rfl rfl rfl rfl
 have G := mv b rfl (J5 a10 a11 a12 h1 r)
 clear b a10 a11 a12 h1 r
 obtain ⟨a10, a11, a12, h1, r⟩ := G
 go_wp2_with fail
 refine (rof_any (s := false) (e := e1) h1).mono ?_
 rintro en w2_ ⟨A2, n2, c2, rfl, h2, b⟩
 have n2l : n2 ≤ 256 := dg_small h2 (by rw [H256]; exact h1.lt)
 replace BB := bnx BB b rfl rfl rfl rfl
 have G := mv b rfl (J5 a10 a11 a12 h1 r)
 clear b a10 a11 a12 h1 r
 obtain ⟨a10, a11, a12, h1, r⟩ := G
 clear h1
 obtain ⟨a20, a21, a22⟩ := (Dbx.new w2_ false A2 n2 c2 e1).held
 have b := below_alloc w2_ (.cells #[.bool false, .slice A2 n2 c2, .int .i64 e1] 90)
 have gl2 : w.heap.size + 1 < w2_.heap.size := r.gl
 replace BB := bnx BB b rfl rfl rfl rfl
 have G := mv b rfl (J5 a10 a11 a12 r h2)
 clear b a10 a11 a12 r h2
 obtain ⟨a10, a11, a12, r, h2⟩ := G
 go_wp2_with fail
 refine (rbits_any (Dg.heap32 h2 (by rfl)) (by omega)).mono ?_
 rintro en w' ⟨rfl, rfl⟩
 go_upto_if 48 with fail
 clear w1 w2 w3 hs0
 go_cut [9] (fun v9 wc => v9 = .int .i64 (S : Int) ∧ wc = w2_.alloc (.cells #[.bool false, .slice A2 n2 c2, .int .i64 e1] 90))
 case first =>
  have hse := HSE.out
  have hm := Int.emod_two_eq (e1 - (s0 : Int))
  rcases hm with h | h
  ·have f0 : ((e1 - (s0 : Int)) % 2 != 0) = false := by simp [h]
   have hS0 : S = s0 := by omega
   clear hse h
   subst hS0
   go_wp2_with fail
   go_meet
   case rel => exact ⟨rfl, rfl⟩
  ·have f0 : ((e1 - (s0 : Int)) % 2 != 0) = true := by simp [h]
   have hS0 : S = s0 + 1 := by omega
   have w6 : IntKind.i64.wrap ((s0 : Int) + 1) = (s0 : Int) + 1 := IntWalk.i64_in _ (by omega)
   clear hse h
   subst hS0
   go_wp2_with fail
   go_meet
   case rel => exact ⟨by simp, rfl⟩
 case rest =>
   obtain ⟨rfl, rfl⟩ := hcut
   clear w4 w5 HSE hs6
   have hg := HG.out
   have w7 : IntKind.i64.wrap (2 * g) = 2 * g := IntWalk.i64_in _ (by omega)
   have w8 := half_even g
   have w9 : IntKind.i64.wrap g = g := IntWalk.i64_in _ (by omega)
   have w10 : IntKind.i64.wrap (g - 1) = g - 1 := IntWalk.i64_in _ (by omega)
   go_wp2_with fail
   refine (rshl_any (s := S) h2 (by omega) (by omega)).mono ?_
   rintro en w3_ ⟨A3, n3, c3, rfl, h3, b⟩
   clear h2
   replace BB := bnx BB b rfl rfl rfl rfl
   have G := mv b rfl (J7 a10 a11 a12 r a20 a21 a22)
   clear b a10 a11 a12 r a20 a21 a22
   obtain ⟨a10, a11, a12, r, a20, a21, a22⟩ := G
   have n3l : n3 ≤ 400 := dg_small h3 HF.out.1
   go_wp2_with fail
   refine (rroot_any h3 (by omega) HR1.out HR2.out).mono ?_
   rintro en w4_ ⟨A4, n4, c4, rfl, h4, b⟩
   replace BB := bnx BB b rfl rfl rfl rfl
   have G := mv b rfl (J8 a10 a11 a12 r a20 a21 a22 h3)
   clear b a10 a11 a12 r a20 a21 a22 h3
   obtain ⟨a10, a11, a12, r, a20, a21, a22, h3⟩ := G
   have n4l : n4 ≤ 400 := dg_small h4 HF.out.2.1
   go_wp2_with fail
   refine (rmul_any h4 h4 (by omega) (by omega)).mono ?_
   rintro en w5_ ⟨A5, n5, c5, rfl, h5, b⟩
   replace BB := bnx BB b rfl rfl rfl rfl
   have G := mv b rfl (J9 a10 a11 a12 r a20 a21 a22 h3 h4)
   clear b a10 a11 a12 r a20 a21 a22 h3 h4
   obtain ⟨a10, a11, a12, r, a20, a21, a22, h3, h4⟩ := G
   go_wp2_with fail
   refine (rcmp_any h5 h3).mono ?_
   rintro en w6_ ⟨rfl, b⟩
   rw [HC.out]
   clear h5 h3
   replace BB := bnx BB b rfl rfl rfl rfl
   have G := mv b rfl (J8 a10 a11 a12 r a20 a21 a22 h4)
   clear b a10 a11 a12 r a20 a21 a22 h4
   obtain ⟨a10, a11, a12, r, a20, a21, a22, h4⟩ := G
   go_wp2_with fail
   refine (rshl_any (s := 1) h4 (by omega) (by omega)).mono ?_
   rintro en w7_ ⟨A6, n6, c6, rfl, h6, b⟩
   clear h4
   replace BB := bnx BB b rfl rfl rfl rfl
   have G := mv b rfl (J7 a10 a11 a12 r a20 a21 a22)
   clear b a10 a11 a12 r a20 a21 a22
   obtain ⟨a10, a11, a12, r, a20, a21, a22⟩ := G
   have n6l : n6 ≤ 500 := dg_small h6 HF.out.2.2.2
   go_wp2_with fail
   have hone := dg_one w7_
   have b := below_alloc w7_ (.cells #[.int .u32 1] 102)
   replace BB := bnx BB b rfl rfl rfl rfl
   have G := mv b rfl (J8 a10 a11 a12 r a20 a21 a22 h6)
   clear b a10 a11 a12 r a20 a21 a22 h6
   obtain ⟨a10, a11, a12, r, a20, a21, a22, h6⟩ := G
   refine (radd_any h6 hone (by omega) (by omega)).mono ?_
   rintro en w8_ ⟨A7, n7, c7, rfl, h7, b⟩
   clear hone h6
   replace BB := bnx BB b rfl rfl rfl rfl
   have G := mv b rfl (J7 a10 a11 a12 r a20 a21 a22)
   clear b a10 a11 a12 r a20 a21 a22
   obtain ⟨a10, a11, a12, r, a20, a21, a22⟩ := G
   rw [HQD.out] at h7
   go_wp2_with fail
   refine (rcut_any (p := p) (s := false) (up := up) (e := g - 1) h7 HF.out.2.2.1 f4 (by omega) (by omega)).mono ?_
   rintro en w9_ ⟨A8, n8, c8, rfl, h8, b⟩
   have HCL := Lib.hid (cutN_lt (x := Q) (u := up != false) (show p ≤ 2000 by omega))
   clear h7
   replace BB := bnx BB b rfl rfl rfl rfl
   have G := mv b rfl (J7 a10 a11 a12 r a20 a21 a22)
   clear b a10 a11 a12 r a20 a21 a22
   obtain ⟨a10, a11, a12, r, a20, a21, a22⟩ := G
   have n8l : n8 ≤ 256 := dg_small h8 (by rw [H256]; exact HCL.out)
   go_wp2_with fail
   refine (rwide_any (s := false) (e := g - 1 + ((blen Q - p : Nat) : Int)) h8 (by omega) (fits_mono (cutN_fits hp1) (by omega)) (by omega)).mono ?_
   rintro en w10_ ⟨k6, s6, A6_, n6_, c6_, m6, e6, rfl, hP, h9, b⟩
   have HP := Lib.hid (HSQ.out _ _ _ _ hP)
   clear hP
   clear h8
   replace BB := bnx BB b rfl rfl rfl rfl
   have G := mv b rfl (J7 a10 a11 a12 r a20 a21 a22)
   clear b a10 a11 a12 r a20 a21 a22
   obtain ⟨a10, a11, a12, r, a20, a21, a22⟩ := G
   obtain ⟨f0, f1, f2⟩ := r.open
   obtain ⟨z0, z1, z2⟩ := r.held
   go_wp2
   have qq := r.put s6 A6_ n6_ c6_ e6
   have hN := h9.put3 r (.bool s6) (.slice A6_ n6_ c6_) (.int .i64 e6)
   have HB3 := below_put3 (g := w.heap.size + 1) BB (by omega) (.bool s6) (.slice A6_ n6_ c6_) (.int .i64 e6)
   obtain ⟨z0, z1, z2⟩ := qq.held
   exact bodyPost_ret (v := .tuple #[.agg #[.bool s6, .slice A6_ n6_ c6_, .int .i64 e6], .int .i64 k6]) (by simp [results, Tryz.results72, go_sem, z0, z1, z2]) rfl ⟨_, _, _, _, _, _, _, rfl, HP.out, hN, HB3⟩

theorem rsqrtd_raw {w : World} {A1 : Option Addr} {n1 c1 : Nat} {l1 : List Nat} {s1 : Bool} {e1 : Int} {p : Int} {up : Bool} (h1 : Rd w .u64 Go.Proofs.YtcbkhmejlaaieaaGreatDoor.W A1 n1 c1 l1) (hpp : p ≤ 1000 ∨ 2000 < p) :
  Calls Tryz.prog 72 #[.agg #[.bool s1, .slice A1 n1 c1, .int .i64 e1], .int .i64 p, .bool up] w (Tells (rootQ s1 l1 e1 p up) w) := by
 unfold rootQ
 by_cases hd : (1 ≤ p ∧ p ≤ 2000) ∧ mayD s1 l1 e1 = true
 ·rw [if_pos hd]
  obtain ⟨q, rfl⟩ := Int.eq_ofNat_of_zero_le (show 0 ≤ p by omega)
  obtain ⟨hN, hok, _⟩ := rd_okd h1 hd.2
  by_cases hs : s1 = true
  ·rw [if_pos hs]
   exact rsqrtd_neg hN hok (by omega) (by omega) hs
  ·rw [if_neg hs]
   have hs' := Bool.eq_false_iff.2 hs
   by_cases hx : val Go.Proofs.YtcbkhmejlaaieaaGreatDoor.W l1 = 0
   ·rw [if_pos hx]
    have he : e1 = 0 := by rcases hok with ⟨_, _, h⟩ | ⟨h, _⟩ <;> first | exact h | omega
    exact rsqrtd_zero hN hok (by omega) (by omega) hs' hx he
   ·rw [if_neg hx]
    have hmod := Int.emod_two_eq (e1 - max 0 (2 * ((q : Nat) : Int) + 6 - (blen (val Go.Proofs.YtcbkhmejlaaieaaGreatDoor.W l1) : Int)))
    obtain ⟨S, hS⟩ := Int.eq_ofNat_of_zero_le (show 0 ≤ max 0 (2 * ((q : Nat) : Int) + 6 - (blen (val Go.Proofs.YtcbkhmejlaaieaaGreatDoor.W l1) : Int)) + (e1 - max 0 (2 * ((q : Nat) : Int) + 6 - (blen (val Go.Proofs.YtcbkhmejlaaieaaGreatDoor.W l1) : Int))) % 2 by omega)
    obtain ⟨R, hR1, hR2⟩ := root_has (val Go.Proofs.YtcbkhmejlaaieaaGreatDoor.W l1 * 2 ^ S)
    by_cases hex : R * R = val Go.Proofs.YtcbkhmejlaaieaaGreatDoor.W l1 * 2 ^ S
    ·exact rsqrtd_whole hN hok (by omega) (by omega) hs' hx hS.symm (show e1 - (S : Int) = 2 * ((e1 - (S : Int)) / 2) by omega) hR1 hR2 hex
    ·exact rsqrtd_rest hN hok (by omega) (by omega) hs' hx hS.symm (show e1 - (S : Int) = 2 * ((e1 - (S : Int)) / 2) by omega) hR1 hR2 hex
 ·rw [if_neg hd]
  exact rsqrtd_no h1 hd
end Go.Proofs.YtcbkhmejlaaieaaGreatDoor
