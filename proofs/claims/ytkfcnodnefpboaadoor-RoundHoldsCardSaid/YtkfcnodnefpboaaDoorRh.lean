/-
  Plain facts on quotients and roots that are rounded: on which side they lie. No condition; nothing of the program is named here.
-/
import Derived.Test.YtkfcnodnefpboaaDoorRt
import Derived.Test.YtkfcnodnefpboaaDoorRm
namespace Go.Proofs.YtkfcnodnefpboaaDoor

theorem cutR_le {p x : Nat} {rest : Bool} : cutR p x rest false * 2 ^ (blen x - p) ≤ x := by
  unfold cutR
  simp only [Bool.false_eq_true, false_and, if_false, Nat.add_zero]
  exact Nat.div_mul_le_self _ _
theorem cutR_ge {p x : Nat} {rest : Bool} : x ≤ cutR p x rest true * 2 ^ (blen x - p) ∧ (rest = true → x + 1 ≤ cutR p x rest true * 2 ^ (blen x - p)) := by
  have h := cut_parts p x
  have h2 := Nat.mod_lt x (pow_pos2 (blen x - p))
  unfold cutR
  by_cases hr : x % 2 ^ (blen x - p) = 0
  · cases rest
    · rw [if_neg (by simp [hr]), Nat.add_zero]
      exact ⟨by omega, fun h => by cases h⟩
    · rw [if_pos ⟨rfl, .inl rfl⟩, Nat.add_mul, Nat.one_mul]
      exact ⟨by omega, fun _ => by omega⟩
  · rw [if_pos ⟨rfl, .inr hr⟩, Nat.add_mul, Nat.one_mul]
    exact ⟨by omega, fun _ => by omega⟩
theorem cutR_fits {p x : Nat} {rest u : Bool} (hp : 1 ≤ p) : Fits p (cutR p x rest u) := by
  have h := cut_lt p x
  have h2 : cutR p x rest u ≤ x / 2 ^ (blen x - p) + 1 := by unfold cutR; split <;> omega
  by_cases h3 : cutR p x rest u < 2 ^ p
  · exact fits_of h3
  · have h4 : cutR p x rest u = 2 ^ p := by omega
    rw [h4]
    exact ⟨1, p, by omega, Nat.one_lt_two_pow (by omega)⟩
theorem side_bits {p : Nat} {s : Bool} {x : Nat} {e k : Int} {rest u : Bool} {s' : Bool} {m' : Nat} {e' : Int} (hp : 1 ≤ p) (h : Nm s (cutR p x rest u) e k s' m' e') : blen m' ≤ p := (okd_fits (nm_okd h)).1 (nm_fits h (cutR_fits hp))
/-- a quotient times the divisor -/
theorem quot_prod {K : Nat} {s : Bool} {x : Nat} {e : Int} {y : Nat} {f : Int} {p : Nat} {up : Bool} {s' : Bool} {m' : Nat} {e' : Int} {su : Bool} {mu : Nat} {eu : Int} (hK : 4194304 ≤ K) (hy : y ≠ 0) (hp : p ≤ 2000) (bx : blen x ≤ 4096) (bY : blen y ≤ 4096) (hd : OkD s x e) (hd2 : OkD false y f)
    (h : QuTold s x e false y f p up 0 s' m' e') (hm : Nm (s' != false) (m' * y) (e' + f) 0 su mu eu) : (up = false → vz K su mu eu ≤ vz K s x e) ∧ (up = true → vz K s x e ≤ vz K su mu eu) := by
  have r1 := okd_ge hK hd
  have r2 := okd_ge hK hd2
  have r3 := okd_ge hK (nm_okd h)
  have hk : (p : Int) + (blen y : Int) - (blen x : Int) = ((kUp p x y : Nat) : Int) - ((kDn p x y : Nat) : Int) := by unfold kUp kDn; omega
  have hi : kUp p x y ≤ 10000 := by unfold kUp; omega
  have hj : kDn p x y ≤ 10000 := by unfold kDn; omega
  unfold QuTold at h
  rw [hk] at h
  generalize kUp p x y = i at *
  generalize kDn p x y = j at *
  have hsf : (s != false) = s := by cases s <;> rfl
  rw [hsf] at h
  have hD : 0 < y * 2 ^ j := Nat.mul_pos (Nat.pos_of_ne_zero hy) (pow_pos2 j)
  obtain ⟨rest, hrest⟩ : ∃ r : Bool, r = !decide (x * 2 ^ i % (y * 2 ^ j) = 0) := ⟨_, rfl⟩
  rw [← hrest] at h
  have hdm := Nat.div_add_mod (x * 2 ^ i) (y * 2 ^ j)
  have hml := Nat.mod_lt (x * 2 ^ i) hD
  generalize hq : x * 2 ^ i / (y * 2 ^ j) = q at *
  obtain ⟨L, hL⟩ : ∃ L, L = cutR p q rest (up != s) * 2 ^ (blen q - p) := ⟨_, rfl⟩
  -- the magnitudes
  have hside : ((up != s) = false → L * (y * 2 ^ j) ≤ x * 2 ^ i) ∧ ((up != s) = true → x * 2 ^ i ≤ L * (y * 2 ^ j)) := by
    constructor
    · intro hu
      rw [hu] at hL
      have h1 : L ≤ q := by rw [hL]; exact cutR_le
      have h2 := Nat.mul_le_mul_right (y * 2 ^ j) h1
      rw [Nat.mul_comm q] at h2
      omega
    · intro hu
      rw [hu] at hL
      obtain ⟨h1, h2⟩ := cutR_ge (p := p) (x := q) (rest := rest)
      rw [← hL] at h1 h2
      cases hr : rest
      · rw [hr] at hrest
        have h3 : x * 2 ^ i % (y * 2 ^ j) = 0 := by
          have := hrest.symm
          simpa using this
        have h4 := Nat.mul_le_mul_right (y * 2 ^ j) h1
        rw [Nat.mul_comm q] at h4
        omega
      · have h4 := Nat.mul_le_mul_right (y * 2 ^ j) (h2 hr)
        rw [Nat.add_mul, Nat.one_mul, Nat.mul_comm q] at h4
        omega
  -- the values
  have hE : -(K : Int) ≤ e - f - ((i : Int) - (j : Int)) := by omega
  have v1 := nm_value (K := K) (by omega) h
  rw [vz_up hE, ← hL] at v1
  have v2 := nm_value (K := K) (by omega) hm
  have m1 := vz_mul (K := K) (s := s') (t := false) (m := m') (n := y) (e := e') (f := f) (by omega) (by omega) (by omega)
  have m2 := vz_mul (K := K) (s := s) (t := false) (m := L) (n := y) (e := e - f - ((i : Int) - (j : Int))) (f := f) hE (by omega) (by omega)
  rw [v1, m2, hsf, ← v2] at m1
  have m3 := Int.eq_of_mul_eq_mul_right (Int.ne_of_gt pos_of_pow) m1
  have e1 : e - f - ((i : Int) - (j : Int)) + f = (e - (i : Int)) + ((j : Nat) : Int) := by omega
  have e2 : e = (e - (i : Int)) + ((i : Nat) : Int) := by omega
  have v3 := vz_up (K := K) (s := s) (m := L * y) (e := e - (i : Int)) (by omega) j
  have v4 := vz_up (K := K) (s := s) (m := x) (e := e - (i : Int)) (by omega) i
  rw [e1, v3, Nat.mul_assoc] at m3
  rw [← e2] at v4
  rw [← m3, v4]
  constructor
  · intro hu
    cases hs : s
    · rw [hu, hs] at hside; exact (vz_mono (hside.1 rfl)).1 rfl
    · rw [hu, hs] at hside; exact (vz_mono (hside.2 rfl)).2 rfl
  · intro hu
    cases hs : s
    · rw [hu, hs] at hside; exact (vz_mono (hside.2 rfl)).1 rfl
    · rw [hu, hs] at hside; exact (vz_mono (hside.1 rfl)).2 rfl
/-- a root times itself; the root is there -/
theorem root_prod {K : Nat} {x : Nat} {e : Int} {p : Nat} {up : Bool} {s' : Bool} {m' : Nat} {e' : Int} {su : Bool} {mu : Nat} {eu : Int} (hK : 4194304 ≤ K) (hp1 : 1 ≤ p) (hp : p ≤ 2000) (bx : blen x ≤ 4096) (hd : OkD false x e)
    (h : RoTold x e p up 0 s' m' e') (hm : Nm (s' != s') (m' * m') (e' + e') 0 su mu eu) : (up = false → vz K su mu eu ≤ vz K false x e) ∧ (up = true → vz K false x e ≤ vz K su mu eu) := by
  have r1 := okd_ge hK hd
  obtain ⟨i, j, r, f, ⟨h1, h2, h3, h4, h5, h6⟩, h⟩ := h
  have r3 := okd_ge hK (nm_okd h)
  have huf : (up != false) = up := by cases up <;> rfl
  rw [huf] at h
  obtain ⟨rest, hrest⟩ : ∃ b : Bool, b = !decide (r * r * 2 ^ j = x * 2 ^ i) := ⟨_, rfl⟩
  rw [← hrest] at h
  obtain ⟨L, hL⟩ : ∃ L, L = cutR p r rest up * 2 ^ (blen r - p) := ⟨_, rfl⟩
  have hdm := Nat.div_add_mod (x * 2 ^ i) (2 ^ j)
  have hml := Nat.mod_lt (x * 2 ^ i) (pow_pos2 j)
  generalize hq : x * 2 ^ i / 2 ^ j = q at *
  have hside : (up = false → L * L * 2 ^ j ≤ x * 2 ^ i) ∧ (up = true → x * 2 ^ i ≤ L * L * 2 ^ j) := by
    constructor
    · intro hu
      rw [hu] at hL
      have a1 : L ≤ r := by rw [hL]; exact cutR_le
      have a2 := Nat.mul_le_mul a1 a1
      have a3 := Nat.mul_le_mul_right (2 ^ j) (Nat.le_trans a2 h5)
      rw [Nat.mul_comm q] at a3
      omega
    · intro hu
      rw [hu] at hL
      obtain ⟨a1, a2⟩ := cutR_ge (p := p) (x := r) (rest := rest)
      rw [← hL] at a1 a2
      cases hr : rest
      · rw [hr] at hrest
        have a3 : r * r * 2 ^ j = x * 2 ^ i := by
          have := hrest.symm
          simpa using this
        rw [← a3]
        exact Nat.mul_le_mul_right _ (Nat.mul_le_mul a1 a1)
      · have a4 := a2 hr
        have a5 := Nat.mul_le_mul a4 a4
        have a6 := Nat.mul_le_mul_right (2 ^ j) (show q + 1 ≤ L * L by omega)
        rw [Nat.add_mul, Nat.one_mul, Nat.mul_comm q] at a6
        omega
  have hf1 : -(K : Int) ≤ f ∧ -(K : Int) ≤ f + f := by omega
  have v1 := nm_value (K := K) (by omega) h
  rw [vz_up hf1.1, ← hL] at v1
  have v2 := nm_value (K := K) (by omega) hm
  have m1 := vz_mul (K := K) (s := s') (t := s') (m := m') (n := m') (e := e') (f := e') (by omega) (by omega) (by omega)
  have m2 := vz_mul (K := K) (s := false) (t := false) (m := L) (n := L) (e := f) (f := f) hf1.1 hf1.1 hf1.2
  rw [v1, m2, ← v2] at m1
  have m3 := Int.eq_of_mul_eq_mul_right (Int.ne_of_gt pos_of_pow) m1
  have hff : (false != false) = false := rfl
  rw [hff] at m3
  have e1 : f + f = (e - (i : Int)) + ((j : Nat) : Int) := by omega
  have e2 : e = (e - (i : Int)) + ((i : Nat) : Int) := by omega
  have v3 := vz_up (K := K) (s := false) (m := L * L) (e := e - (i : Int)) (by omega) j
  have v4 := vz_up (K := K) (s := false) (m := x) (e := e - (i : Int)) (by omega) i
  rw [e1, v3] at m3
  rw [← e2] at v4
  rw [← m3, v4]
  exact ⟨fun hu => (vz_mono (hside.1 hu)).1 rfl, fun hu => (vz_mono (hside.2 hu)).1 rfl⟩
theorem root_pos {x : Nat} {e : Int} {p : Nat} {up : Bool} {s' : Bool} {m' : Nat} {e' : Int} (hp1 : 1 ≤ p) (hx : x ≠ 0) (h : RoTold x e p up 0 s' m' e') : signD s' m' = 1 := by
  obtain ⟨i, j, r, f, ⟨h1, h2, h3, h4, h5, h6⟩, h⟩ := h
  obtain ⟨b1, _, b3⟩ := blen_pos hx
  have a1 : 2 ^ j ≤ x * 2 ^ i := by
    have a2 := Nat.mul_le_mul_right (2 ^ i) b1
    rw [← Nat.pow_add] at a2
    exact Nat.le_trans (Nat.pow_le_pow_right (by omega) (by omega)) a2
  have a3 : 1 ≤ x * 2 ^ i / 2 ^ j := (Nat.le_div_iff_mul_le (pow_pos2 j)).2 (by omega)
  have hr : r ≠ 0 := by
    intro h0
    rw [h0] at h6
    omega
  have a4 := rd_top hp1 hr
  have a5 := pow_pos2 (blen r - 1)
  have a6 : cutR p r (!decide (r * r * 2 ^ j = x * 2 ^ i)) (up != false) ≠ 0 := by
    intro h0
    have a7 : r / 2 ^ (blen r - p) ≤ cutR p r (!decide (r * r * 2 ^ j = x * 2 ^ i)) (up != false) := by unfold cutR; omega
    rw [h0] at a7
    have a8 : r / 2 ^ (blen r - p) = 0 := Nat.eq_zero_of_le_zero a7
    rw [a8, Nat.zero_mul] at a4
    omega
  rcases h with ⟨h0, _⟩ | ⟨k, q, hm, ⟨_, hc, _⟩ | ⟨_, _, hc, _⟩ | ⟨_, _, _, hs, hm', _⟩⟩
  · exact absurd h0 a6
  · cases hc
  · cases hc
  · unfold signD
    rw [if_neg (by omega), hs]
    rfl
end Go.Proofs.YtkfcnodnefpboaaDoor
