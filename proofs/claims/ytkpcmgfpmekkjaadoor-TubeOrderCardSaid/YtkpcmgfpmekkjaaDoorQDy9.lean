/-
  Contracts of dyad's Add, Sub, Mul and of the closures within them, at this translation. Condition: the slices read as limbs, the table of math/bits reads as its text lays it.
-/
import Derived.Test.YtkpcmgfpmekkjaaDoorQDy7
import Derived.Test.YtkpcmgfpmekkjaaDoorQDy4
import Derived.Test.YtkpcmgfpmekkjaaDoorQDy5
namespace Go.Proofs.YtkpcmgfpmekkjaaDoor
open Go.RowKit

theorem W64_even : ∃ p, W ^ 64 = 2 * p ∧ 0 < p := by
  obtain ⟨j, hj⟩ : ∃ j, j = 63 := ⟨_, rfl⟩
  have h1 : W ^ 64 = W ^ j * W := by rw [hj]; exact Nat.pow_succ ..
  exact ⟨W ^ j * 9223372036854775808, by rw [h1, W_eq]; omega, Nat.mul_pos (Nat.pow_pos (by rw [W_eq]; omega)) (by omega)⟩
theorem odd_pow {x y j : Nat} (hx : x % 2 = 1) (hj : j ≠ 0) : (x * 2 ^ 0 + y * 2 ^ j) % 2 = 1 ∧ (y * 2 ^ j + x * 2 ^ 0) % 2 = 1 := by
  obtain ⟨i, rfl⟩ : ∃ i, j = i + 1 := ⟨j - 1, by omega⟩
  have : y * 2 ^ (i + 1) = 2 * (y * 2 ^ i) := by rw [Nat.pow_succ]; ac_rfl
  rw [this, Nat.pow_zero, Nat.mul_one]
  omega
/-- a value that is odd over a scale -/
theorem nmv_odd {K : Nat} {V : Int} {s : Bool} {m : Nat} {e : Int} (hK : 4194304 ≤ K) (hv : vz K s m e = V) (h1 : m % 2 = 1) (he : -1048576 ≤ e) (he' : e ≤ 1048576) : (m < W ^ 64 → NmV K V 0 s m e) ∧ (W ^ 64 ≤ m → NmV K V 2 false 0 0) :=
  ⟨fun h => ⟨s, m, e, by omega, hv, nm_self (.inr ⟨h1, h, he, he'⟩)⟩, fun h => ⟨s, m, e, by omega, hv, nm_big h1 h⟩⟩

theorem tog_ran {w : World} {A B : Option Addr} {n c m d x y K : Nat} {s : Bool} {e f : Int} (hK : 4194304 ≤ K) (hT : Tab w) (h : Nt w A n c x) (h' : Nt w B m d y) (hx : x % 2 = 1) (hy : y % 2 = 1)
    (he : -1048576 ≤ e) (he' : e ≤ 1048576) (hf : -1048576 ≤ f) (hf' : f ≤ 1048576) :
    Calls Tryd.prog 83 #[.agg #[.bool s, .slice A n c, .int .i64 e], .agg #[.bool s, .slice B m d, .int .i64 f]] w (Ran (NmV K (vz K s x e + vz K s y f)) w) := by
  have hx0 : x ≠ 0 := by omega
  have hy0 : y ≠ 0 := by omega
  rcases Int.lt_trichotomy e f with hef | hef | hef
  · obtain ⟨j, hj⟩ := Int.eq_ofNat_of_zero_le (show 0 ≤ f - e by omega)
    have hj0 : j ≠ 0 := by omega
    have hv : vz K s (x * 2 ^ 0 + y * 2 ^ j) e = vz K s x e + vz K s y f := by
      rw [vz_add, Nat.pow_zero, Nat.mul_one, ← vz_up (by omega)]
      have : e + j = f := by omega
      rw [this]
    obtain ⟨o1, _⟩ := odd_pow (y := y) hx hj0
    obtain ⟨v1, v2⟩ := nmv_odd hK hv o1 he he'
    rcases Nat.lt_or_ge (x * 2 ^ 0 + y * 2 ^ j) (W ^ 64) with ht | ht
    · exact (together_a_good hT h h' he he' hf hf' hx0 hy0 hj hj0 ht o1).mono fun _ _ hg => ran_good hg (v1 ht)
    · rcases Nat.lt_or_ge (y * 2 ^ j) (W ^ 64) with hb | hb
      · exact (together_a_over hT h h' he he' hf hf' hx0 hy0 hj hj0 hb ht).mono fun _ _ hg => ran_fault hg (by decide) (v2 ht)
      · exact (together_a_big hT h h' he he' hf hf' hx0 hy0 hj hj0 hb).mono fun _ _ hg => ran_fault hg (by decide) (v2 ht)
  · subst hef
    have hlt : x / 2 + (y / 2 + 1) < W ^ 64 := by
      obtain ⟨p, hp, hp0⟩ := W64_even
      have h1 := h.lt
      have h2 := h'.lt
      generalize W ^ 64 = P at *
      omega
    obtain ⟨k, s', m', e', hN⟩ := nm_total s (x / 2 + (y / 2 + 1)) (e + 1)
    have hV : NmV K (vz K s x e + vz K s y e) k s' m' e' := ⟨_, _, _, by omega, vz_half (by omega) hx hy, hN⟩
    by_cases hk : k = 0
    · exact (together_even hT h h' he he' hlt hN hk).mono fun _ _ hg => ran_good hg (by rw [← hk]; exact hV)
    · refine (together_fault hT h h' he he' hlt hN hk).mono fun _ _ hg => ran_fault hg hk ?_
      obtain ⟨_, rfl, rfl, rfl⟩ := (nm_code hN).resolve_left hk
      exact hV
  · obtain ⟨j, hj⟩ := Int.eq_ofNat_of_zero_le (show 0 ≤ e - f by omega)
    have hj0 : j ≠ 0 := by omega
    have hv : vz K s (x * 2 ^ j + y * 2 ^ 0) f = vz K s x e + vz K s y f := by
      rw [vz_add, Nat.pow_zero, Nat.mul_one, ← vz_up (by omega)]
      have : f + j = e := by omega
      rw [this]
    obtain ⟨_, o1⟩ := odd_pow (y := x) hy hj0
    obtain ⟨v1, v2⟩ := nmv_odd hK hv o1 hf hf'
    rcases Nat.lt_or_ge (x * 2 ^ j + y * 2 ^ 0) (W ^ 64) with ht | ht
    · exact (together_b_good hT h h' he he' hf hf' hx0 hy0 hj hj0 ht o1).mono fun _ _ hg => ran_good hg (v1 ht)
    · rcases Nat.lt_or_ge (x * 2 ^ j) (W ^ 64) with hb | hb
      · exact (together_b_over hT h h' he he' hf hf' hx0 hy0 hj hj0 hb ht).mono fun _ _ hg => ran_fault hg (by decide) (v2 ht)
      · exact (together_b_big hT h h' he he' hf hf' hx0 hy0 hj hj0 hb).mono fun _ _ hg => ran_fault hg (by decide) (v2 ht)

/-- the greater one's size less the other one's; lo: the lesser exponent -/
theorem wo_ran {w : World} {A B : Option Addr} {n c m d x y K i j : Nat} {s t : Bool} {e f lo : Int} (hK : 4194304 ≤ K) (hT : Tab w) (h : Nt w A n c x) (h' : Nt w B m d y) (hx : x % 2 = 1) (hy : y % 2 = 1)
    (he : -1048576 ≤ e) (he' : e ≤ 1048576) (hf : -1048576 ≤ f) (hf' : f ≤ 1048576) (hlo : min e f = lo) (hi : e - lo = (i : Int)) (hj : f - lo = (j : Int)) (hgt : y * 2 ^ j < x * 2 ^ i) :
    Calls Tryd.prog 84 #[.agg #[.bool s, .slice A n c, .int .i64 e], .agg #[.bool t, .slice B m d, .int .i64 f]] w (Ran (NmV K (vz K s x e + vz K (!s) y f)) w) := by
  have hx0 : x ≠ 0 := by omega
  have hy0 : y ≠ 0 := by omega
  have hv : vz K s (x * 2 ^ i - y * 2 ^ j) lo = vz K s x e + vz K (!s) y f := by
    rw [vz_sub (Nat.le_of_lt hgt), ← vz_up (by omega), ← vz_up (by omega)]
    have e1 : lo + i = e := by omega
    have e2 : lo + j = f := by omega
    rw [e1, e2]
  by_cases hef : e ≤ f
  · obtain rfl : lo = e := by omega
    obtain rfl : i = 0 := by omega
    rw [Nat.pow_zero, Nat.mul_one] at hgt hv
    obtain ⟨k, s', m', e', hN⟩ := nm_total s (x - y * 2 ^ j) lo
    have hV : NmV K (vz K s x lo + vz K (!s) y f) k s' m' e' := ⟨_, _, _, by omega, hv, hN⟩
    by_cases hk : k = 0
    · exact (without_le hT h h' he he' hf hf' hy0 hj (Nat.le_of_lt hgt) hN hk).mono fun _ _ hg => ran_good hg (by rw [← hk]; exact hV)
    · refine (without_fault hT h h' he he' hf hf' hy0 hj (Nat.le_of_lt hgt) hN hk).mono fun _ _ hg => ran_fault hg hk ?_
      obtain ⟨_, rfl, rfl, rfl⟩ := (nm_code hN).resolve_left hk
      exact hV
  · obtain rfl : lo = f := by omega
    obtain rfl : j = 0 := by omega
    rw [Nat.pow_zero, Nat.mul_one] at hgt hv
    obtain ⟨k, rfl⟩ : ∃ k, i = k + 1 := ⟨i - 1, by omega⟩
    have hik : e - (lo + 1) = (k : Int) := by omega
    have e3 : x * 2 ^ (k + 1) = 2 * (x * 2 ^ k) := by rw [Nat.pow_succ]; ac_rfl
    rw [e3] at hgt hv
    have hle : y / 2 + 1 ≤ x * 2 ^ k := by omega
    have e4 : (x * 2 ^ k - (y / 2 + 1)) * 2 ^ 1 + 1 = 2 * (x * 2 ^ k) - y := by omega
    rw [← e4] at hv
    obtain ⟨v1, v2⟩ := nmv_odd hK hv (by omega) hf hf'
    have hyl := h'.lt
    obtain ⟨p, hp, hp0⟩ := W64_even
    rcases Nat.lt_or_ge (x * 2 ^ k) (W ^ 64) with hb | hb
    · rcases Nat.lt_or_ge ((x * 2 ^ k - (y / 2 + 1)) * 2 ^ 1) (W ^ 64) with ht | ht
      · have ht2 : (x * 2 ^ k - (y / 2 + 1)) * 2 ^ 1 + 1 < W ^ 64 := by generalize W ^ 64 = P at *; omega
        exact (without_gt_good hT h h' he he' hf hf' hx0 hik hb hle ht2).mono fun _ _ hg => ran_good hg (v1 ht2)
      · exact (without_gt_shl hT h h' he he' hf hf' hx0 hik hb hle ht).mono fun _ _ hg => ran_fault hg (by decide) (v2 (by omega))
    · exact (without_gt_big hT h h' he he' hf hf' hx0 hik hb).mono fun _ _ hg => ran_fault hg (by decide) (v2 (by generalize W ^ 64 = P at *; omega))

theorem tops_lt {x y i j : Nat} (hy : y ≠ 0) (h : blen x + i < blen y + j) : x * 2 ^ i < y * 2 ^ j := by
  have h1 := (blen_le x (blen x)).1 (Nat.le_refl _)
  obtain ⟨h2, _, h3⟩ := blen_pos hy
  have h4 : x * 2 ^ i < 2 ^ blen x * 2 ^ i := Nat.mul_lt_mul_of_pos_right h1 (Nat.pow_pos (by omega))
  have h5 : 2 ^ (blen y - 1) * 2 ^ j ≤ y * 2 ^ j := Nat.mul_le_mul_right _ h2
  rw [← Nat.pow_add] at h4 h5
  have h6 : 2 ^ (blen x + i) ≤ 2 ^ (blen y - 1 + j) := Nat.pow_le_pow_right (by omega) (by omega)
  omega
theorem tops_fit {x i T : Nat} (h : blen x + i = T) (hT : T ≤ 4096) : x * 2 ^ i < W ^ 64 := by
  have h1 := (blen_le x (blen x)).1 (Nat.le_refl _)
  have h4 : x * 2 ^ i < 2 ^ blen x * 2 ^ i := Nat.mul_lt_mul_of_pos_right h1 (Nat.pow_pos (by omega))
  rw [← Nat.pow_add] at h4
  obtain ⟨k, hk⟩ : ∃ k, k = 64 * 64 := ⟨_, rfl⟩
  rw [W64_pow, ← hk]
  exact Nat.lt_of_lt_of_le h4 (Nat.pow_le_pow_right (by omega) (by omega))
theorem blen_nt {w : World} {A : Option Addr} {n c m : Nat} (h : Nt w A n c m) : blen m ≤ 4096 := by
  have := (blen_le m (64 * 64)).2 (Nat.lt_of_lt_of_eq h.lt W64_pow)
  omega
theorem sizes_any {w : World} {A B : Option Addr} {n c m d x y i j : Nat} {s t : Bool} {e f lo : Int} (hT : Tab w) (h : Nt w A n c x) (h' : Nt w B m d y) (hx : x ≠ 0) (hy : y ≠ 0)
    (he : -1048576 ≤ e) (he' : e ≤ 1048576) (hf : -1048576 ≤ f) (hf' : f ≤ 1048576) (hlo : min e f = lo) (hi : e - lo = (i : Int)) (hj : f - lo = (j : Int)) :
    Calls Tryd.prog 27 #[.agg #[.bool s, .slice A n c, .int .i64 e], .agg #[.bool t, .slice B m d, .int .i64 f]] w (Ints (cmpN (x * 2 ^ i) (y * 2 ^ j)) w) := by
  have hbx := blen_nt h
  have hby := blen_nt h'
  rcases Int.lt_trichotomy ((blen x : Int) + e) ((blen y : Int) + f) with hr | hr | hr
  · rw [cmpN_lt (tops_lt hy (by omega))]
    exact sizes_lt hT h h' he he' hf hf' hr
  · exact sizes_eq hT h h' he he' hf hf' hx hy hr hlo hi hj (tops_fit rfl (by omega)) (tops_fit rfl (by omega))
  · rw [cmpN_gt (tops_lt hx (by omega))]
    exact sizes_gt hT h h' he he' hf hf' hr

theorem dsum_any {w : World} {A B : Option Addr} {n c m d x y K : Nat} {s t : Bool} {e f : Int} (hK : 4194304 ≤ K) (hT : Tab w) (h : Nt w A n c x) (h' : Nt w B m d y) (hd : OkD s x e) (hd' : OkD t y f) :
    Calls Tryd.prog 74 #[.agg #[.bool s, .slice A n c, .int .i64 e], .agg #[.bool t, .slice B m d, .int .i64 f]] w (Ran (NmV K (vz K s x e + vz K t y f)) w) := by
  have r1 := okd_ge hK hd
  have r2 := okd_ge hK hd'
  by_cases hx : x = 0
  · refine sum_a0 h h' hx ?_
    rw [hx, vz_zero, Int.zero_add]
    exact nmv_self hK hd'
  by_cases hy : y = 0
  · refine sum_b0 h h' hx hy ?_
    rw [hy, vz_zero, Int.add_zero]
    exact nmv_self hK hd
  have ox : x % 2 = 1 := by rcases hd with ⟨h0, _⟩ | ⟨h0, _⟩ <;> omega
  have oy : y % 2 = 1 := by rcases hd' with ⟨h0, _⟩ | ⟨h0, _⟩ <;> omega
  by_cases hst : s = t
  · subst hst
    exact sum_tog h h' hx hy fun W2 b => tog_ran hK (hT.below b) (h.below b) (h'.below b) ox oy r1.1 r1.2.1 r2.1 r2.2.1
  · have hst' : (s == t) = false := by simp [hst]
    have hts : t = !s := by cases s <;> cases t <;> simp_all
    obtain ⟨lo, hlo⟩ : ∃ lo, min e f = lo := ⟨_, rfl⟩
    obtain ⟨i, hi⟩ := Int.eq_ofNat_of_zero_le (show 0 ≤ e - lo by omega)
    obtain ⟨j, hj⟩ := Int.eq_ofNat_of_zero_le (show 0 ≤ f - lo by omega)
    have hz : ∀ W2 : World, Below w.heap.size w W2 → Calls Tryd.prog 27 #[.agg #[.bool s, .slice A n c, .int .i64 e], .agg #[.bool t, .slice B m d, .int .i64 f]] W2 (Ints (cmpN (x * 2 ^ i) (y * 2 ^ j)) W2) :=
      fun W2 b => sizes_any (hT.below b) (h.below b) (h'.below b) hx hy r1.1 r1.2.1 r2.1 r2.2.1 hlo hi hj
    rcases Nat.lt_trichotomy (x * 2 ^ i) (y * 2 ^ j) with hlt | heq | hgt
    · rw [cmpN_lt hlt] at hz
      refine sum_wo2 h h' hx hy hst' hz fun W2 b => ?_
      have := wo_ran (s := t) (t := s) (K := K) hK (hT.below b) (h'.below b) (h.below b) oy ox r2.1 r2.2.1 r1.1 r1.2.1 (by omega) hj hi hlt
      have e1 : (!t) = s := by rw [hts]; cases s <;> rfl
      rw [e1, Int.add_comm] at this
      exact this
    · rw [cmpN_eq heq] at hz
      refine sum_nought h h' hx hy hst' hz ⟨false, 0, 0, by omega, ?_, nm_self (.inl ⟨rfl, rfl, rfl⟩)⟩
      have e1 : lo + i = e := by omega
      have e2 : lo + j = f := by omega
      rw [vz_zero, hts, ← e1, ← e2, vz_up (by omega), vz_up (by omega), vz_not, heq]
      omega
    · rw [cmpN_gt hgt] at hz
      refine sum_wo1 h h' hx hy hst' hz fun W2 b => ?_
      have := wo_ran (s := s) (t := t) (K := K) hK (hT.below b) (h.below b) (h'.below b) ox oy r1.1 r1.2.1 r2.1 r2.2.1 hlo hi hj hgt
      rw [← hts] at this
      exact this
end Go.Proofs.YtkpcmgfpmekkjaaDoor

namespace Go.Proofs.YtkpcmgfpmekkjaaDoor
open Go.RowKit

theorem nmv_total (K : Nat) {s : Bool} {m : Nat} {e : Int} {V : Int} (he : -(K : Int) ≤ e) (hv : vz K s m e = V) : ∃ k s' m' e', NmV K V k s' m' e' := by
  obtain ⟨k, s', m', e', h⟩ := nm_total s m e
  exact ⟨k, s', m', e', s, m, e, he, hv, h⟩
theorem sum_has {K : Nat} {s t : Bool} {x y : Nat} {e f : Int} (hK : 4194304 ≤ K) (he : -1048576 ≤ e ∧ e ≤ 1048576) (hf : -1048576 ≤ f ∧ f ≤ 1048576) : ∃ k s' m' e', NmV K (vz K s x e + vz K t y f) k s' m' e' := by
  obtain ⟨lo, hlo⟩ : ∃ lo, min e f = lo := ⟨_, rfl⟩
  obtain ⟨i, hi⟩ := Int.eq_ofNat_of_zero_le (show 0 ≤ e - lo by omega)
  obtain ⟨j, hj⟩ := Int.eq_ofNat_of_zero_le (show 0 ≤ f - lo by omega)
  have e1 : lo + i = e := by omega
  have e2 : lo + j = f := by omega
  have h1 : vz K s x e = vz K s (x * 2 ^ i) lo := by rw [← e1, vz_up (by omega)]
  have h2 : vz K t y f = vz K t (y * 2 ^ j) lo := by rw [← e2, vz_up (by omega)]
  rw [h1, h2]
  by_cases hst : s = t
  · subst hst
    exact nmv_total K (by omega) vz_add
  · have hts : t = !s := by cases s <;> cases t <;> first | rfl | exact absurd rfl hst
    have hts2 : s = !t := by cases s <;> cases t <;> first | rfl | exact absurd rfl hst
    rcases Nat.le_total (y * 2 ^ j) (x * 2 ^ i) with h | h
    · rw [hts]
      exact nmv_total K (by omega) (vz_sub h)
    · rw [hts2, Int.add_comm]
      exact nmv_total K (by omega) (vz_sub h)
theorem dsum_good {w : World} {A B : Option Addr} {n c m d x y K : Nat} {s t : Bool} {e f : Int} {s' : Bool} {m' : Nat} {e' k : Int} (hK : 4194304 ≤ K) (hT : Tab w) (h : Nt w A n c x) (h' : Nt w B m d y) (hd : OkD s x e) (hd' : OkD t y f) (hN : NmV K (vz K s x e + vz K t y f) k s' m' e') (hk : k = 0) :
    Calls Tryd.prog 74 #[.agg #[.bool s, .slice A n c, .int .i64 e], .agg #[.bool t, .slice B m d, .int .i64 f]] w (Goods s' m' e' w) :=
  (dsum_any hK hT h h' hd hd').mono fun en w' hr => by
    subst hk
    rcases hr with ⟨s1, A1, n1, c1, m1, e1, h1, h2, h3, h4⟩ | ⟨k, h1, hk, h2, h3⟩
    · obtain ⟨_, rfl, rfl, rfl⟩ := nmv_fun h2 hN
      exact ⟨A1, n1, c1, h1, h3, h4⟩
    · obtain ⟨rfl, _⟩ := nmv_fun h2 hN
      exact absurd rfl hk
theorem dsum_fault {w : World} {A B : Option Addr} {n c m d x y K : Nat} {s t : Bool} {e f : Int} {s' : Bool} {m' : Nat} {e' k : Int} (hK : 4194304 ≤ K) (hT : Tab w) (h : Nt w A n c x) (h' : Nt w B m d y) (hd : OkD s x e) (hd' : OkD t y f) (hN : NmV K (vz K s x e + vz K t y f) k s' m' e') (hk : k ≠ 0) :
    Calls Tryd.prog 74 #[.agg #[.bool s, .slice A n c, .int .i64 e], .agg #[.bool t, .slice B m d, .int .i64 f]] w (Faults k w) :=
  (dsum_any hK hT h h' hd hd').mono fun en w' hr => by
    rcases hr with ⟨s1, A1, n1, c1, m1, e1, h1, h2, h3, h4⟩ | ⟨k', h1, _, h2, h3⟩
    · obtain ⟨h5, _⟩ := nmv_fun h2 hN
      exact absurd h5.symm hk
    · obtain ⟨rfl, _⟩ := nmv_fun h2 hN
      exact ⟨h1, h3⟩
theorem nmv_fault {K : Nat} {V k : Int} {s : Bool} {m : Nat} {e : Int} (h : NmV K V k s m e) (hk : k ≠ 0) : NmV K V k false 0 0 := by
  have h0 := h
  obtain ⟨_, _, _, _, _, hN⟩ := h
  obtain ⟨_, rfl, rfl, rfl⟩ := (nm_code hN).resolve_left hk
  exact h0
theorem Rd.next' {w w2 : World} {k : IntKind} {B : Nat} {A : Option Addr} {n c : Nat} {l : List Nat} (h : Rd w k B A n c l) (e : w2.heap = w.heap) : Rd w2 k B A n c l :=
  h.keep (w' := w2) (by rw [e]; omega) (fun p _ => by unfold World.cell?; rw [e])
theorem Nt.next' {w w2 : World} {A : Option Addr} {n c x : Nat} (h : Nt w A n c x) (e : w2.heap = w.heap) : Nt w2 A n c x := h.heap e
set_option maxRecDepth 100000 in
set_option maxHeartbeats 1000000 in
theorem add1_good {w : World} {v : Nat} {A B : Option Addr} {n c m d : Nat} {s t : Bool} {e f : Int} (g : Two w v s t A B n c m d e f) {x y K : Nat} (hK : 4194304 ≤ K) (hT : Tab w) (h : Nt w A n c x) (h' : Nt w B m d y) (hd : OkD s x e) (hd' : OkD t y f) {s' : Bool} {m' : Nat} {e' k : Int} (hN : NmV K (vz K s x e + vz K t y f) k s' m' e') (hk : k = 0) :
    Calls Tryd.prog 73 #[.pointer (some ⟨v, 0, none⟩), .pointer (some ⟨v + 1, 0, none⟩)] w (Goods s' m' e' w) := by
  have HN := Lib.hid hN
  have HK := Lib.hid hK
  have HD := Lib.hid hd
  have HD2 := Lib.hid hd'
  have HKK := Lib.hid hk
  clear hN hK hd hd' hk
  have BB := below_alloc w (.cells #[.bool false, .slice none 0 0, .int .i64 0] 28)
  have vl := g.b.gl
  have ne1 : ¬ w.heap.size = v := by omega
  have ne2 : ¬ v = w.heap.size := by omega
  have ne3 : ¬ w.heap.size = v + 1 := by omega
  have ne4 : ¬ v + 1 = w.heap.size := by omega
  replace g := g.alloc (.cells #[.bool false, .slice none 0 0, .int .i64 0] 28)
  have r := Box.new w false none 0 0 0
  obtain ⟨p0, p1, p2, p3, p4, p5⟩ := g.held
  have h1 := h.below BB
  have h2 := h'.below BB
  have hT1 := hT.below BB
  clear h h' hT
  go_enter Tryd.func73, Tryd.ntmps73
  go_wp2_with fail
  refine wp_region_held_drew (S := fun w' => w'.cell? ⟨v, 0, none⟩ = some (.bool s) ∧ w'.cell? ⟨v, 1, none⟩ = some (.slice A n c) ∧ w'.cell? ⟨v, 2, none⟩ = some (.int .i64 e) ∧ w'.cell? ⟨v + 1, 0, none⟩ = some (.bool t) ∧ w'.cell? ⟨v + 1, 1, none⟩ = some (.slice B m d) ∧ w'.cell? ⟨v + 1, 2, none⟩ = some (.int .i64 f)) (by kernel_rfl) (by first | (dsimp only; go_keep) | go_keep) (fun hHeld => ?_)
  refine tk 0 3 ?_
  simp only [Act.put]
  refine tk 2 5 ?_
  simp only [Act.put]
  refine wpAnyH_ready (rs := [1]) (by kernel_rfl) (by simp) ?_
  refine AllReadyH.cons (o := _) rfl (fun K hK => ?_) AllReadyH.nil
  go_simp
  refine (checked_ok (hT1.heap (by rfl)) (h1.heap (by rfl)) HD.out).mono ?_
  rintro en w1 ⟨rfl, b⟩
  replace h1 := h1.next b (by rfl)
  replace h2 := h2.next b (by rfl)
  replace hT1 := hT1.next b (by rfl)
  replace g := g.next b (by rfl)
  replace r := r.next b (by rfl)
  replace BB := below_next BB BB.size b (by rfl) (by rfl) (by rfl) (by rfl)
  clear b
  obtain ⟨q0, q1, q2, q3, q4, q5⟩ := g.held
  refine hK.out _ _ (by first | (dsimp only; go_keep) | go_keep) (fun hHeld => ?_)
  clear hK K
  try simp only [Act.put]
  refine wpAnyH_ready (rs := [3]) (by kernel_rfl) (by simp) ?_
  refine AllReadyH.cons (o := _) rfl (fun K hK => ?_) AllReadyH.nil
  go_simp
  refine (checked_ok (hT1.heap (by rfl)) (h2.heap (by rfl)) HD2.out).mono ?_
  rintro en w2 ⟨rfl, b⟩
  replace h1 := h1.next b (by rfl)
  replace h2 := h2.next b (by rfl)
  replace hT1 := hT1.next b (by rfl)
  replace g := g.next b (by rfl)
  replace r := r.next b (by rfl)
  replace BB := below_next BB BB.size b (by rfl) (by rfl) (by rfl) (by rfl)
  clear b
  obtain ⟨q0, q1, q2, q3, q4, q5⟩ := g.held
  refine hK.out _ _ (by first | (dsimp only; go_keep) | go_keep) (fun hHeld => ?_)
  clear hK K
  try simp only [Act.put]
  refine wpAnyH_ready (rs := [4]) (by kernel_rfl) (by simp) ?_
  refine AllReadyH.cons (o := _) rfl (fun K hK => ?_) AllReadyH.nil
  go_simp
  refine (dsum_good HK.out (hT1.heap (by rfl)) (h1.heap (by rfl)) (h2.heap (by rfl)) HD.out HD2.out HN.out HKK.out).mono ?_
  rintro en w3 ⟨A5, n5, c5, rfl, h5, b⟩
  replace h1 := h1.next b (by rfl)
  replace h2 := h2.next b (by rfl)
  replace hT1 := hT1.next b (by rfl)
  replace g := g.next b (by rfl)
  replace r := r.next b (by rfl)
  replace BB := below_next BB BB.size b (by rfl) (by rfl) (by rfl) (by rfl)
  clear b
  obtain ⟨q0, q1, q2, q3, q4, q5⟩ := g.held
  obtain ⟨f0, f1, f2⟩ := r.open
  obtain ⟨z0, z1, z2⟩ := r.held
  refine hK.out _ _ (by first | (dsimp only; go_keep) | go_keep) (fun hHeld => ?_)
  clear hK K
  try simp only [Act.put]
  refine wpAnyH_ready (rs := [5]) (by kernel_rfl) (by simp) ?_
  refine AllReadyH.cons (o := _) rfl (fun K hK => ?_) AllReadyH.nil
  go_simp
  refine hK.out _ _ (by first | (dsimp only; go_keep) | go_keep) (fun hHeld => ?_)
  clear hK K
  try simp only [Act.put]
  refine wpAnyH_done (by kernel_rfl) ?_ _
  go_wp2
  have p := r.put s' A5 n5 c5 e'
  have hN5 := h5.put3 r (.bool s') (.slice A5 n5 c5) (.int .i64 e')
  have HB3 := below_put3 (g := w.heap.size) BB (Nat.le_refl _) (.bool s') (.slice A5 n5 c5) (.int .i64 e')
  obtain ⟨z0, z1, z2⟩ := p.held
  exact bodyPost_ret (v := .agg #[.bool s', .slice A5 n5 c5, .int .i64 e']) (by simp [results, Tryd.results73, go_sem, z0, z1, z2]) rfl ⟨_, _, _, rfl, hN5, HB3⟩

set_option maxRecDepth 100000 in
set_option maxHeartbeats 1000000 in
theorem add1_fault {w : World} {v : Nat} {A B : Option Addr} {n c m d : Nat} {s t : Bool} {e f : Int} (g : Two w v s t A B n c m d e f) {x y K : Nat} (hK : 4194304 ≤ K) (hT : Tab w) (h : Nt w A n c x) (h' : Nt w B m d y) (hd : OkD s x e) (hd' : OkD t y f) {s' : Bool} {m' : Nat} {e' k : Int} (hN : NmV K (vz K s x e + vz K t y f) k s' m' e') (hk : k ≠ 0) :
    Calls Tryd.prog 73 #[.pointer (some ⟨v, 0, none⟩), .pointer (some ⟨v + 1, 0, none⟩)] w (Faults k w) := by
  have HN := Lib.hid hN
  have HK := Lib.hid hK
  have HD := Lib.hid hd
  have HD2 := Lib.hid hd'
  have HKK := Lib.hid hk
  clear hN hK hd hd' hk
  have BB := below_alloc w (.cells #[.bool false, .slice none 0 0, .int .i64 0] 28)
  have vl := g.b.gl
  have ne1 : ¬ w.heap.size = v := by omega
  have ne2 : ¬ v = w.heap.size := by omega
  have ne3 : ¬ w.heap.size = v + 1 := by omega
  have ne4 : ¬ v + 1 = w.heap.size := by omega
  replace g := g.alloc (.cells #[.bool false, .slice none 0 0, .int .i64 0] 28)
  have r := Box.new w false none 0 0 0
  obtain ⟨p0, p1, p2, p3, p4, p5⟩ := g.held
  have h1 := h.below BB
  have h2 := h'.below BB
  have hT1 := hT.below BB
  clear h h' hT
  go_enter Tryd.func73, Tryd.ntmps73
  go_wp2_with fail
  refine wp_region_held_drew (S := fun w' => w'.cell? ⟨v, 0, none⟩ = some (.bool s) ∧ w'.cell? ⟨v, 1, none⟩ = some (.slice A n c) ∧ w'.cell? ⟨v, 2, none⟩ = some (.int .i64 e) ∧ w'.cell? ⟨v + 1, 0, none⟩ = some (.bool t) ∧ w'.cell? ⟨v + 1, 1, none⟩ = some (.slice B m d) ∧ w'.cell? ⟨v + 1, 2, none⟩ = some (.int .i64 f)) (by kernel_rfl) (by first | (dsimp only; go_keep) | go_keep) (fun hHeld => ?_)
  refine tk 0 3 ?_
  simp only [Act.put]
  refine tk 2 5 ?_
  simp only [Act.put]
  refine wpAnyH_ready (rs := [1]) (by kernel_rfl) (by simp) ?_
  refine AllReadyH.cons (o := _) rfl (fun K hK => ?_) AllReadyH.nil
  go_simp
  refine (checked_ok (hT1.heap (by rfl)) (h1.heap (by rfl)) HD.out).mono ?_
  rintro en w1 ⟨rfl, b⟩
  replace h1 := h1.next b (by rfl)
  replace h2 := h2.next b (by rfl)
  replace hT1 := hT1.next b (by rfl)
  replace g := g.next b (by rfl)
  replace r := r.next b (by rfl)
  replace BB := below_next BB BB.size b (by rfl) (by rfl) (by rfl) (by rfl)
  clear b
  obtain ⟨q0, q1, q2, q3, q4, q5⟩ := g.held
  refine hK.out _ _ (by first | (dsimp only; go_keep) | go_keep) (fun hHeld => ?_)
  clear hK K
  try simp only [Act.put]
  refine wpAnyH_ready (rs := [3]) (by kernel_rfl) (by simp) ?_
  refine AllReadyH.cons (o := _) rfl (fun K hK => ?_) AllReadyH.nil
  go_simp
  refine (checked_ok (hT1.heap (by rfl)) (h2.heap (by rfl)) HD2.out).mono ?_
  rintro en w2 ⟨rfl, b⟩
  replace h1 := h1.next b (by rfl)
  replace h2 := h2.next b (by rfl)
  replace hT1 := hT1.next b (by rfl)
  replace g := g.next b (by rfl)
  replace r := r.next b (by rfl)
  replace BB := below_next BB BB.size b (by rfl) (by rfl) (by rfl) (by rfl)
  clear b
  obtain ⟨q0, q1, q2, q3, q4, q5⟩ := g.held
  refine hK.out _ _ (by first | (dsimp only; go_keep) | go_keep) (fun hHeld => ?_)
  clear hK K
  try simp only [Act.put]
  refine wpAnyH_ready (rs := [4]) (by kernel_rfl) (by simp) ?_
  refine AllReadyH.cons (o := _) rfl (fun K hK => ?_) AllReadyH.nil
  go_simp
  refine (dsum_fault HK.out (hT1.heap (by rfl)) (h1.heap (by rfl)) (h2.heap (by rfl)) HD.out HD2.out HN.out HKK.out).mono ?_
  rintro en w9 ⟨rfl, b⟩
  exact ⟨rfl, rfl, below_next BB BB.size b (by rfl) (by rfl) (by rfl) (by rfl)⟩

theorem add1_any {w : World} {v : Nat} {A B : Option Addr} {n c m d : Nat} {s t : Bool} {e f : Int} (g : Two w v s t A B n c m d e f) {x y K : Nat} (hK : 4194304 ≤ K) (hT : Tab w) (h : Nt w A n c x) (h' : Nt w B m d y) (hd : OkD s x e) (hd' : OkD t y f) :
    Calls Tryd.prog 73 #[.pointer (some ⟨v, 0, none⟩), .pointer (some ⟨v + 1, 0, none⟩)] w (Ran (NmV K (vz K s x e + vz K t y f)) w) := by
  have r1 := okd_ge hK hd
  have r2 := okd_ge hK hd'
  obtain ⟨k, s', m', e', hN⟩ := sum_has (s := s) (t := t) (x := x) (y := y) hK ⟨r1.1, r1.2.1⟩ ⟨r2.1, r2.2.1⟩
  by_cases hk : k = 0
  · exact (add1_good g hK hT h h' hd hd' hN hk).mono fun _ _ hg => ran_good hg (by rw [← hk]; exact hN)
  · exact (add1_fault g hK hT h h' hd hd' hN hk).mono fun _ _ hg => ran_fault hg hk (nmv_fault hN hk)

set_option maxRecDepth 100000 in
set_option maxHeartbeats 1000000 in
theorem add1_no1 {w : World} {v : Nat} {A B : Option Addr} {n c m d : Nat} {s t : Bool} {e f : Int} (g : Two w v s t A B n c m d e f) {l : List Nat} (hT : Tab w) (h : Rd w .u64 W A n c l) (hd : mayD s l e = false) :
    Calls Tryd.prog 73 #[.pointer (some ⟨v, 0, none⟩), .pointer (some ⟨v + 1, 0, none⟩)] w (Faults 1 w) := by
  have HD := Lib.hid hd
  clear hd
  have BB := below_alloc w (.cells #[.bool false, .slice none 0 0, .int .i64 0] 28)
  have vl := g.b.gl
  have ne1 : ¬ w.heap.size = v := by omega
  have ne2 : ¬ v = w.heap.size := by omega
  have ne3 : ¬ w.heap.size = v + 1 := by omega
  have ne4 : ¬ v + 1 = w.heap.size := by omega
  replace g := g.alloc (.cells #[.bool false, .slice none 0 0, .int .i64 0] 28)
  have r := Box.new w false none 0 0 0
  obtain ⟨p0, p1, p2, p3, p4, p5⟩ := g.held
  have h1 := h.below BB
  have hT1 := hT.below BB
  clear h hT
  go_enter Tryd.func73, Tryd.ntmps73
  go_wp2_with fail
  refine wp_region_held_drew (S := fun w' => w'.cell? ⟨v, 0, none⟩ = some (.bool s) ∧ w'.cell? ⟨v, 1, none⟩ = some (.slice A n c) ∧ w'.cell? ⟨v, 2, none⟩ = some (.int .i64 e) ∧ w'.cell? ⟨v + 1, 0, none⟩ = some (.bool t) ∧ w'.cell? ⟨v + 1, 1, none⟩ = some (.slice B m d) ∧ w'.cell? ⟨v + 1, 2, none⟩ = some (.int .i64 f)) (by kernel_rfl) (by first | (dsimp only; go_keep) | go_keep) (fun hHeld => ?_)
  refine tk 0 3 ?_
  simp only [Act.put]
  refine tk 2 5 ?_
  simp only [Act.put]
  refine wpAnyH_ready (rs := [1]) (by kernel_rfl) (by simp) ?_
  refine AllReadyH.cons (o := _) rfl (fun K hK => ?_) AllReadyH.nil
  go_simp
  refine (checked_no (hT1.heap (by rfl)) (h1.next' (by rfl)) HD.out).mono ?_
  rintro en w9 ⟨rfl, b⟩
  exact ⟨rfl, rfl, below_next BB BB.size b (by rfl) (by rfl) (by rfl) (by rfl)⟩

set_option maxRecDepth 100000 in
set_option maxHeartbeats 1000000 in
theorem add1_no2 {w : World} {v : Nat} {A B : Option Addr} {n c m d : Nat} {s t : Bool} {e f : Int} (g : Two w v s t A B n c m d e f) {x : Nat} {rr : List Nat} (hT : Tab w) (h : Nt w A n c x) (hd : OkD s x e) (h' : Rd w .u64 W B m d rr) (hd' : mayD t rr f = false) :
    Calls Tryd.prog 73 #[.pointer (some ⟨v, 0, none⟩), .pointer (some ⟨v + 1, 0, none⟩)] w (Faults 1 w) := by
  have HD := Lib.hid hd
  have HD2 := Lib.hid hd'
  clear hd hd'
  have BB := below_alloc w (.cells #[.bool false, .slice none 0 0, .int .i64 0] 28)
  have vl := g.b.gl
  have ne1 : ¬ w.heap.size = v := by omega
  have ne2 : ¬ v = w.heap.size := by omega
  have ne3 : ¬ w.heap.size = v + 1 := by omega
  have ne4 : ¬ v + 1 = w.heap.size := by omega
  replace g := g.alloc (.cells #[.bool false, .slice none 0 0, .int .i64 0] 28)
  have r := Box.new w false none 0 0 0
  obtain ⟨p0, p1, p2, p3, p4, p5⟩ := g.held
  have h1 := h.below BB
  have h2 := h'.below BB
  have hT1 := hT.below BB
  clear h h' hT
  go_enter Tryd.func73, Tryd.ntmps73
  go_wp2_with fail
  refine wp_region_held_drew (S := fun w' => w'.cell? ⟨v, 0, none⟩ = some (.bool s) ∧ w'.cell? ⟨v, 1, none⟩ = some (.slice A n c) ∧ w'.cell? ⟨v, 2, none⟩ = some (.int .i64 e) ∧ w'.cell? ⟨v + 1, 0, none⟩ = some (.bool t) ∧ w'.cell? ⟨v + 1, 1, none⟩ = some (.slice B m d) ∧ w'.cell? ⟨v + 1, 2, none⟩ = some (.int .i64 f)) (by kernel_rfl) (by first | (dsimp only; go_keep) | go_keep) (fun hHeld => ?_)
  refine tk 0 3 ?_
  simp only [Act.put]
  refine tk 2 5 ?_
  simp only [Act.put]
  refine wpAnyH_ready (rs := [1]) (by kernel_rfl) (by simp) ?_
  refine AllReadyH.cons (o := _) rfl (fun K hK => ?_) AllReadyH.nil
  go_simp
  refine (checked_ok (hT1.heap (by rfl)) (h1.heap (by rfl)) HD.out).mono ?_
  rintro en w1 ⟨rfl, b⟩
  replace h1 := h1.next b (by rfl)
  replace h2 := h2.next b (by rfl)
  replace hT1 := hT1.next b (by rfl)
  replace g := g.next b (by rfl)
  replace r := r.next b (by rfl)
  replace BB := below_next BB BB.size b (by rfl) (by rfl) (by rfl) (by rfl)
  clear b
  obtain ⟨q0, q1, q2, q3, q4, q5⟩ := g.held
  refine hK.out _ _ (by first | (dsimp only; go_keep) | go_keep) (fun hHeld => ?_)
  clear hK K
  try simp only [Act.put]
  refine wpAnyH_ready (rs := [3]) (by kernel_rfl) (by simp) ?_
  refine AllReadyH.cons (o := _) rfl (fun K hK => ?_) AllReadyH.nil
  go_simp
  refine (checked_no (hT1.heap (by rfl)) (h2.next' (by rfl)) HD2.out).mono ?_
  rintro en w9 ⟨rfl, b⟩
  exact ⟨rfl, rfl, below_next BB BB.size b (by rfl) (by rfl) (by rfl) (by rfl)⟩

end Go.Proofs.YtkpcmgfpmekkjaaDoor
