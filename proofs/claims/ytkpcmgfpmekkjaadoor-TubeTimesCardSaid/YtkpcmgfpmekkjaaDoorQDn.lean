/-
  Plain facts on dyadic numbers: a sign, a natural and an exponent; the one form that each has. No condition; nothing of the program is named here.
-/
import Derived.Test.YtkpcmgfpmekkjaaDoorQRRoot
namespace Go.Proofs.YtkpcmgfpmekkjaaDoor

def sg (s : Bool) : Int := if s then -1 else 1
/-- (-1)^s times m times 2^e, times 2^K -/
def vz (K : Nat) (s : Bool) (m : Nat) (e : Int) : Int := sg s * ((m * 2 ^ (e + K).toNat : Nat) : Int)
/-- a number that may be -/
def OkD (s : Bool) (m : Nat) (e : Int) : Prop := (m = 0 ∧ s = false ∧ e = 0) ∨ (m % 2 = 1 ∧ m < W ^ 64 ∧ -1048576 ≤ e ∧ e ≤ 1048576)
/-- the one form of (-1)^s m 2^e, with what is told of it: c -/
def Nm (s : Bool) (m : Nat) (e : Int) (c : Int) (s' : Bool) (m' : Nat) (e' : Int) : Prop :=
  (m = 0 ∧ c = 0 ∧ s' = false ∧ m' = 0 ∧ e' = 0) ∨
  ∃ k q : Nat, m = 2 ^ k * (2 * q + 1) ∧
    ((W ^ 64 ≤ 2 * q + 1 ∧ c = 2 ∧ s' = false ∧ m' = 0 ∧ e' = 0) ∨
     (2 * q + 1 < W ^ 64 ∧ ¬ (-1048576 ≤ e + k ∧ e + k ≤ 1048576) ∧ c = 3 ∧ s' = false ∧ m' = 0 ∧ e' = 0) ∨
     (2 * q + 1 < W ^ 64 ∧ (-1048576 ≤ e + k ∧ e + k ≤ 1048576) ∧ c = 0 ∧ s' = s ∧ m' = 2 * q + 1 ∧ e' = e + k))
/-- the same, of a value -/
def NmV (K : Nat) (V : Int) (c : Int) (s' : Bool) (m' : Nat) (e' : Int) : Prop := ∃ s m e, -(K : Int) ≤ e ∧ vz K s m e = V ∧ Nm s m e c s' m' e'

theorem sg_not (s : Bool) : sg (!s) = - sg s := by cases s <;> rfl
theorem sg_cases (s : Bool) : (s = false ∧ sg s = 1) ∨ (s = true ∧ sg s = -1) := by cases s <;> simp [sg]
theorem vz_zero (K : Nat) (s : Bool) (e : Int) : vz K s 0 e = 0 := by simp [vz]
theorem vz_not (K : Nat) (s : Bool) (m : Nat) (e : Int) : vz K (!s) m e = - vz K s m e := by unfold vz; rw [sg_not, Int.neg_mul]
theorem vz_up {K : Nat} {s : Bool} {m : Nat} {e : Int} (he : -(K : Int) ≤ e) (k : Nat) : vz K s m (e + k) = vz K s (m * 2 ^ k) e := by
  unfold vz
  have e1 : (e + k + K).toNat = k + (e + K).toNat := by omega
  rw [e1, Nat.pow_add, Nat.mul_assoc]
theorem vz_eq_zero {K : Nat} {s : Bool} {m : Nat} {e : Int} : vz K s m e = 0 ↔ m = 0 := by
  unfold vz
  have hp : 0 < 2 ^ (e + K).toNat := Nat.pow_pos (by omega)
  constructor
  · intro h
    rcases Nat.eq_zero_or_pos m with h0 | h0
    · exact h0
    · have h1 : 0 < m * 2 ^ (e + K).toNat := Nat.mul_pos h0 hp
      generalize m * 2 ^ (e + K).toNat = x at *
      rcases sg_cases s with ⟨_, h2⟩ | ⟨_, h2⟩ <;> rw [h2] at h <;> omega
  · intro h; rw [h]; simp
theorem odd_uniq {a b i j : Nat} (h : 2 ^ i * (2 * a + 1) = 2 ^ j * (2 * b + 1)) : i = j ∧ a = b := by
  have h1 : i = j := IsLow.unique (x := 2 ^ i * (2 * a + 1)) ⟨a, rfl⟩ ⟨b, h⟩
  subst h1
  have := Nat.eq_of_mul_eq_mul_left (Nat.pow_pos (by omega)) h
  exact ⟨rfl, by omega⟩
theorem vz_abs {K : Nat} {s : Bool} {m : Nat} {e : Int} : (vz K s m e).natAbs = m * 2 ^ (e + K).toNat := by
  unfold vz
  rw [Int.natAbs_mul, Int.natAbs_natCast]
  rcases sg_cases s with ⟨_, h2⟩ | ⟨_, h2⟩ <;> rw [h2] <;> simp
theorem vz_sign {K : Nat} {s t : Bool} {m n : Nat} {e f : Int} (h : vz K s m e = vz K t n f) (hm : m ≠ 0) : s = t := by
  have h0 : vz K s m e ≠ 0 := fun h1 => hm (vz_eq_zero.1 h1)
  have ha := vz_abs (K := K) (s := s) (m := m) (e := e)
  have hb := vz_abs (K := K) (s := t) (m := n) (e := f)
  rw [← h] at hb
  unfold vz at h h0
  rw [← hb, ← ha] at h
  rw [← ha] at h0
  generalize (vz K s m e).natAbs = x at *
  cases s <;> cases t <;> simp only [sg, Bool.false_eq_true, if_false, if_true] at h h0 <;> first | rfl | (exfalso; omega)
theorem nm_fun {s : Bool} {m : Nat} {e : Int} {c c2 : Int} {s1 s2 : Bool} {m1 m2 : Nat} {e1 e2 : Int} (h : Nm s m e c s1 m1 e1) (h' : Nm s m e c2 s2 m2 e2) : c = c2 ∧ s1 = s2 ∧ m1 = m2 ∧ e1 = e2 := by
  rcases h with ⟨a0, a1, a2, a3, a4⟩ | ⟨k, q, hm, h⟩
  · rcases h' with ⟨_, b1, b2, b3, b4⟩ | ⟨k, q, hm, _⟩
    · subst a1 a2 a3 a4 b1 b2 b3 b4; exact ⟨rfl, rfl, rfl, rfl⟩
    · exfalso
      have : 0 < 2 ^ k * (2 * q + 1) := Nat.mul_pos (Nat.pow_pos (by omega)) (by omega)
      omega
  · rcases h' with ⟨b0, _⟩ | ⟨k', q', hm', h'⟩
    · exfalso
      have : 0 < 2 ^ k * (2 * q + 1) := Nat.mul_pos (Nat.pow_pos (by omega)) (by omega)
      omega
    · obtain ⟨rfl, rfl⟩ := odd_uniq (hm.symm.trans hm')
      generalize W ^ 64 = P at *
      rcases h with ⟨a0, a1, a2, a3, a4⟩ | ⟨a0, a5, a1, a2, a3, a4⟩ | ⟨a0, a5, a1, a2, a3, a4⟩ <;> rcases h' with ⟨b0, b1, b2, b3, b4⟩ | ⟨b0, b5, b1, b2, b3, b4⟩ | ⟨b0, b5, b1, b2, b3, b4⟩ <;>
        first
        | (subst a1 a2 a3 a4 b1 b2 b3 b4; exact ⟨rfl, rfl, rfl, rfl⟩)
        | (exfalso; omega)
theorem nm_congr {K : Nat} {s t : Bool} {m n : Nat} {e f : Int} {c : Int} {s' : Bool} {m' : Nat} {e' : Int} (he : -(K : Int) ≤ e) (hf : -(K : Int) ≤ f) (h : vz K s m e = vz K t n f) (hN : Nm s m e c s' m' e') : Nm t n f c s' m' e' := by
  rcases hN with ⟨a0, a1⟩ | ⟨k, q, hm, hN⟩
  · refine .inl ⟨?_, a1⟩
    rw [a0, vz_zero] at h
    exact vz_eq_zero.1 h.symm
  · have h0 : m ≠ 0 := by
      have : 0 < 2 ^ k * (2 * q + 1) := Nat.mul_pos (Nat.pow_pos (by omega)) (by omega)
      omega
    have hst := vz_sign h h0
    subst hst
    have ha := vz_abs (K := K) (s := s) (m := m) (e := e)
    have hb := vz_abs (K := K) (s := s) (m := n) (e := f)
    rw [h, hb] at ha
    have hn0 : n ≠ 0 := by
      intro hn
      rw [hn, vz_zero, vz_eq_zero] at h
      exact h0 h
    obtain ⟨k', q', hn⟩ := low_has hn0
    rw [hm, hn] at ha
    have ha' : 2 ^ (k' + (f + K).toNat) * (2 * q' + 1) = 2 ^ (k + (e + K).toNat) * (2 * q + 1) := by
      rw [Nat.pow_add, Nat.pow_add]
      have r1 : 2 ^ k' * 2 ^ (f + K).toNat * (2 * q' + 1) = 2 ^ k' * (2 * q' + 1) * 2 ^ (f + K).toNat := by ac_rfl
      have r2 : 2 ^ k * 2 ^ (e + K).toNat * (2 * q + 1) = 2 ^ k * (2 * q + 1) * 2 ^ (e + K).toNat := by ac_rfl
      rw [r1, r2, ha]
    obtain ⟨hk, rfl⟩ := odd_uniq ha'
    refine .inr ⟨k', q', hn, ?_⟩
    have hek : f + k' = e + k := by omega
    rw [hek]
    exact hN
theorem nmv_fun {K : Nat} {V : Int} {c c2 : Int} {s1 s2 : Bool} {m1 m2 : Nat} {e1 e2 : Int} (h : NmV K V c s1 m1 e1) (h' : NmV K V c2 s2 m2 e2) : c = c2 ∧ s1 = s2 ∧ m1 = m2 ∧ e1 = e2 := by
  obtain ⟨s, m, e, he, hv, hN⟩ := h
  obtain ⟨t, n, f, hf, hv', hN'⟩ := h'
  exact nm_fun (nm_congr he hf (hv.trans hv'.symm) hN) hN'
theorem nm_self {s : Bool} {m : Nat} {e : Int} (h : OkD s m e) : Nm s m e 0 s m e := by
  rcases h with ⟨rfl, rfl, rfl⟩ | ⟨h1, h2, h3, h4⟩
  · exact .inl ⟨rfl, rfl, rfl, rfl, rfl⟩
  · refine .inr ⟨0, m / 2, by rw [Nat.pow_zero, Nat.one_mul]; omega, .inr (.inr ?_)⟩
    have e1 : 2 * (m / 2) + 1 = m := by omega
    rw [e1]
    exact ⟨h2, by omega, rfl, rfl, rfl, by omega⟩
theorem okd_ge {K : Nat} {s : Bool} {m : Nat} {e : Int} (hK : 4194304 ≤ K) (h : OkD s m e) : -1048576 ≤ e ∧ e ≤ 1048576 ∧ -(K : Int) ≤ e := by
  rcases h with ⟨_, _, rfl⟩ | ⟨_, _, h3, h4⟩ <;> omega
theorem nmv_self {K : Nat} {s : Bool} {m : Nat} {e : Int} (hK : 4194304 ≤ K) (h : OkD s m e) : NmV K (vz K s m e) 0 s m e :=
  ⟨s, m, e, (okd_ge hK h).2.2, rfl, nm_self h⟩
theorem nm_code {s : Bool} {m : Nat} {e c : Int} {s' : Bool} {m' : Nat} {e' : Int} (hN : Nm s m e c s' m' e') : c = 0 ∨ ((c = 2 ∨ c = 3) ∧ s' = false ∧ m' = 0 ∧ e' = 0) := by
  rcases hN with ⟨_, h, _⟩ | ⟨_, _, _, ⟨_, h, h2⟩ | ⟨_, _, h, h2⟩ | ⟨_, _, h, _⟩⟩
  · exact .inl h
  · exact .inr ⟨.inl h, h2⟩
  · exact .inr ⟨.inr h, h2⟩
  · exact .inl h
theorem okd_one {K : Nat} {s t : Bool} {m n : Nat} {e f : Int} (hK : 4194304 ≤ K) (h : OkD s m e) (h' : OkD t n f) (hv : vz K s m e = vz K t n f) : s = t ∧ m = n ∧ e = f := by
  have h1 := nmv_self hK h
  rw [hv] at h1
  obtain ⟨_, h2⟩ := nmv_fun h1 (nmv_self hK h')
  exact h2
/-- what has a form that may be is told it -/
theorem nmv_hit {K : Nat} {V : Int} {c : Int} {s t : Bool} {m n : Nat} {e f : Int} (hK : 4194304 ≤ K) (h : NmV K V c s m e) (h' : OkD t n f) (hv : vz K t n f = V) : c = 0 ∧ s = t ∧ m = n ∧ e = f := by
  have h1 := nmv_self hK h'
  rw [hv] at h1
  exact nmv_fun h h1
theorem nm_big {s : Bool} {m : Nat} {e : Int} (h1 : m % 2 = 1) (h2 : W ^ 64 ≤ m) : Nm s m e 2 false 0 0 := by
  refine .inr ⟨0, m / 2, by rw [Nat.pow_zero, Nat.one_mul]; omega, .inl ⟨?_, rfl, rfl, rfl, rfl⟩⟩
  have e1 : 2 * (m / 2) + 1 = m := by omega
  rw [e1]; exact h2

/- sums and products -/
theorem vz_add {K : Nat} {s : Bool} {m n : Nat} {e : Int} : vz K s (m + n) e = vz K s m e + vz K s n e := by
  unfold vz
  rw [Nat.add_mul, Int.natCast_add, Int.mul_add]
theorem vz_sub {K : Nat} {s : Bool} {m n : Nat} {e : Int} (h : n ≤ m) : vz K s (m - n) e = vz K s m e + vz K (!s) n e := by
  have := vz_add (K := K) (s := s) (m := m - n) (n := n) (e := e)
  rw [Nat.sub_add_cancel h] at this
  rw [vz_not]
  omega
theorem vz_half {K : Nat} {s : Bool} {m n : Nat} {e : Int} (he : -(K : Int) ≤ e) (hm : m % 2 = 1) (hn : n % 2 = 1) : vz K s (m / 2 + (n / 2 + 1)) (e + 1) = vz K s m e + vz K s n e := by
  have h1 := vz_up (K := K) (s := s) (m := m / 2 + (n / 2 + 1)) he 1
  have h2 : (m / 2 + (n / 2 + 1)) * 2 ^ 1 = m + n := by omega
  rw [h2, vz_add (m := m)] at h1
  exact h1
end Go.Proofs.YtkpcmgfpmekkjaaDoor
