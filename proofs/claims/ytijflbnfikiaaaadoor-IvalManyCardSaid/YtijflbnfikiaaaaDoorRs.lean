/-
  What dyad's functions tell of any two Dyads, raw ones too; contracts of the reference's SameDyad, Sign, NegDyad, size, CmpDyad, at this translation. Condition: the slices read as limbs.
-/
import Derived.Test.YtijflbnfikiaaaaDoorRu
namespace Go.Proofs.YtijflbnfikiaaaaDoor
open Go.RowKit

theorem blen_WW (k : Nat) : blen (Go.Proofs.YtijflbnfikiaaaaDoor.W ^ k) ≤ 64 * k + 1 := by
  rw [blen_le, W_pow, ← Nat.pow_mul]
  exact Nat.pow_lt_pow_right (by omega) (by omega)
theorem far_top {x i : Nat} (hx : x ≠ 0) (h : 4166 < blen x + i) : 2 * Go.Proofs.YtijflbnfikiaaaaDoor.W ^ 64 < x * 2 ^ i := by
  obtain ⟨k, hk⟩ : ∃ k, k = 64 := ⟨_, rfl⟩
  rw [← hk]
  have h1 := blen_WW k
  have h2 := tops_lt (x := Go.Proofs.YtijflbnfikiaaaaDoor.W ^ k) (i := 1) hx (show blen (Go.Proofs.YtijflbnfikiaaaaDoor.W ^ k) + 1 < blen x + i by omega)
  rw [Nat.pow_one] at h2
  omega
/-- a sum of two far from each other is too long -/
theorem far_one {K x y i : Nat} {s t : Bool} {e f : Int} (hK : 4194304 ≤ K) (hy : y % 2 = 1) (hyB : y < Go.Proofs.YtijflbnfikiaaaaDoor.W ^ 64) (hi : f + (i : Int) = e) (hf : -1048576 ≤ f) (hf' : f ≤ 1048576) (hi0 : i ≠ 0) (hbig : 2 * Go.Proofs.YtijflbnfikiaaaaDoor.W ^ 64 < x * 2 ^ i) :
    NmV K (vz K s x e + vz K t y f) 2 false 0 0 := by
  have hp := (odd_pow (x := y) (y := x) hy hi0).2
  rw [Nat.pow_zero, Nat.mul_one] at hp
  have hv : vz K s x e = vz K s (x * 2 ^ i) f := by rw [← hi, vz_up (by omega)]
  rw [hv]
  generalize x * 2 ^ i = p at *
  by_cases hst : s = t
  · subst hst
    refine (nmv_odd hK (s := s) (m := p + y) (e := f) vz_add hp hf hf').2 ?_
    generalize Go.Proofs.YtijflbnfikiaaaaDoor.W ^ 64 = B at *
    omega
  · obtain rfl : t = !s := by cases s <;> cases t <;> first | rfl | exact absurd rfl hst
    have hle : y ≤ p := by generalize Go.Proofs.YtijflbnfikiaaaaDoor.W ^ 64 = B at *; omega
    refine (nmv_odd hK (s := s) (m := p - y) (e := f) (vz_sub hle) (by omega) hf hf').2 ?_
    generalize Go.Proofs.YtijflbnfikiaaaaDoor.W ^ 64 = B at *
    omega
theorem okd_parts {s : Bool} {x : Nat} {e : Int} (hd : OkD s x e) (hx : x ≠ 0) : x % 2 = 1 ∧ x < Go.Proofs.YtijflbnfikiaaaaDoor.W ^ 64 := by
  rcases hd with ⟨h, _⟩ | ⟨h1, h2, _⟩
  · exact absurd h hx
  · exact ⟨h1, h2⟩
theorem far_any {K x y i j : Nat} {s t : Bool} {e f lo : Int} (hK : 4194304 ≤ K) (hd : OkD s x e) (hd' : OkD t y f) (hx : x ≠ 0) (hy : y ≠ 0) (hlo : min e f = lo) (hi : lo + (i : Int) = e) (hj : lo + (j : Int) = f)
    (bx : blen x ≤ 4096) (hb : blen y ≤ 4096) (h : 4166 < blen x + i ∨ 4166 < blen y + j) : NmV K (vz K s x e + vz K t y f) 2 false 0 0 := by
  have r1 := okd_ge hK hd
  have r2 := okd_ge hK hd'
  obtain ⟨hx1, hx2⟩ := okd_parts hd hx
  obtain ⟨hy1, hy2⟩ := okd_parts hd' hy
  rcases h with h | h
  · obtain rfl : f = lo := by omega
    exact far_one hK hy1 hy2 hi (by omega) (by omega) (by omega) (far_top hx h)
  · obtain rfl : e = lo := by omega
    rw [Int.add_comm]
    exact far_one hK hx1 hx2 hj (by omega) (by omega) (by omega) (far_top hy h)
theorem near_add {K x y i j : Nat} {s : Bool} {e f lo k : Int} {s' : Bool} {m' : Nat} {e' : Int} (hlo : -(K : Int) ≤ lo) (hi : lo + (i : Int) = e) (hj : lo + (j : Int) = f) (h : Nm s (x * 2 ^ i + y * 2 ^ j) lo k s' m' e') : NmV K (vz K s x e + vz K s y f) k s' m' e' :=
  ⟨s, _, lo, hlo, by rw [vz_add, ← hi, ← hj, vz_up hlo, vz_up hlo], h⟩
theorem near_sub {K x y i j : Nat} {s t : Bool} {e f lo k : Int} {s' : Bool} {m' : Nat} {e' : Int} (hlo : -(K : Int) ≤ lo) (hi : lo + (i : Int) = e) (hj : lo + (j : Int) = f) (hst : s ≠ t) (hle : y * 2 ^ j ≤ x * 2 ^ i) (h : Nm s (x * 2 ^ i - y * 2 ^ j) lo k s' m' e') : NmV K (vz K s x e + vz K t y f) k s' m' e' := by
  obtain rfl : t = !s := by cases s <;> cases t <;> first | rfl | exact absurd rfl hst
  exact ⟨s, _, lo, hlo, by rw [vz_sub hle, ← hi, ← hj, vz_up hlo, vz_up hlo], h⟩

/-- what is told of any two, raw ones too -/
def sameB (s t : Bool) (l r : List Nat) (e f : Int) : Bool := decide (s = t ∧ e = f ∧ l = r)
def signR (s : Bool) (l : List Nat) (e : Int) : Int := if mayD s l e = true then signD s (val Go.Proofs.YtijflbnfikiaaaaDoor.W l) else 0
def negR (s : Bool) (l : List Nat) (e : Int) : Bool := if mayD s l e = true ∧ val Go.Proofs.YtijflbnfikiaaaaDoor.W l ≠ 0 then !s else s
def cmpR (K : Nat) (s : Bool) (l : List Nat) (e : Int) (t : Bool) (r : List Nat) (f : Int) : Int := if mayD s l e = true ∧ mayD t r f = true then cmpV (vz K s (val Go.Proofs.YtijflbnfikiaaaaDoor.W l) e) (vz K t (val Go.Proofs.YtijflbnfikiaaaaDoor.W r) f) else 0
def addR (K : Nat) (s : Bool) (l : List Nat) (e : Int) (t : Bool) (r : List Nat) (f : Int) : Int → Bool → Nat → Int → Prop := if mayD s l e = true ∧ mayD t r f = true then NmV K (vz K s (val Go.Proofs.YtijflbnfikiaaaaDoor.W l) e + vz K t (val Go.Proofs.YtijflbnfikiaaaaDoor.W r) f) else Wrong
def subR (K : Nat) (s : Bool) (l : List Nat) (e : Int) (t : Bool) (r : List Nat) (f : Int) : Int → Bool → Nat → Int → Prop := if mayD s l e = true ∧ mayD t r f = true then NmV K (vz K s (val Go.Proofs.YtijflbnfikiaaaaDoor.W l) e - vz K t (val Go.Proofs.YtijflbnfikiaaaaDoor.W r) f) else Wrong
def mulR (s : Bool) (l : List Nat) (e : Int) (t : Bool) (r : List Nat) (f : Int) : Int → Bool → Nat → Int → Prop := if mayD s l e = true ∧ mayD t r f = true then Nm (s != t) (val Go.Proofs.YtijflbnfikiaaaaDoor.W l * val Go.Proofs.YtijflbnfikiaaaaDoor.W r) (e + f) else Wrong
theorem wrong_fun {k k2 : Int} {s1 s2 : Bool} {m1 m2 : Nat} {e1 e2 : Int} (h : Wrong k s1 m1 e1) (h' : Wrong k2 s2 m2 e2) : k = k2 ∧ s1 = s2 ∧ m1 = m2 ∧ e1 = e2 := by
  obtain ⟨rfl, rfl, rfl, rfl⟩ := h
  obtain ⟨rfl, rfl, rfl, rfl⟩ := h'
  exact ⟨rfl, rfl, rfl, rfl⟩
theorem addR_fun {K : Nat} {s : Bool} {l : List Nat} {e : Int} {t : Bool} {r : List Nat} {f k k2 : Int} {s1 s2 : Bool} {m1 m2 : Nat} {e1 e2 : Int} (h : addR K s l e t r f k s1 m1 e1) (h' : addR K s l e t r f k2 s2 m2 e2) : k = k2 ∧ s1 = s2 ∧ m1 = m2 ∧ e1 = e2 := by
  unfold addR at h h'
  split at h
  · rw [if_pos (by assumption)] at h'; exact nmv_fun h h'
  · rw [if_neg (by assumption)] at h'; exact wrong_fun h h'
theorem subR_fun {K : Nat} {s : Bool} {l : List Nat} {e : Int} {t : Bool} {r : List Nat} {f k k2 : Int} {s1 s2 : Bool} {m1 m2 : Nat} {e1 e2 : Int} (h : subR K s l e t r f k s1 m1 e1) (h' : subR K s l e t r f k2 s2 m2 e2) : k = k2 ∧ s1 = s2 ∧ m1 = m2 ∧ e1 = e2 := by
  unfold subR at h h'
  split at h
  · rw [if_pos (by assumption)] at h'; exact nmv_fun h h'
  · rw [if_neg (by assumption)] at h'; exact wrong_fun h h'
theorem mulR_fun {s : Bool} {l : List Nat} {e : Int} {t : Bool} {r : List Nat} {f k k2 : Int} {s1 s2 : Bool} {m1 m2 : Nat} {e1 e2 : Int} (h : mulR s l e t r f k s1 m1 e1) (h' : mulR s l e t r f k2 s2 m2 e2) : k = k2 ∧ s1 = s2 ∧ m1 = m2 ∧ e1 = e2 := by
  unfold mulR at h h'
  split at h
  · rw [if_pos (by assumption)] at h'; exact nm_fun h h'
  · rw [if_neg (by assumption)] at h'; exact wrong_fun h h'
/-- the reading of a slice whose Dyad may be -/
theorem rd_okd {w : World} {A1 : Option Addr} {n1 c1 : Nat} {l1 : List Nat} {s1 : Bool} {e1 : Int} (h1 : Rd w .u64 Go.Proofs.YtijflbnfikiaaaaDoor.W A1 n1 c1 l1) (hd : mayD s1 l1 e1 = true) : Nt w A1 n1 c1 (val Go.Proofs.YtijflbnfikiaaaaDoor.W l1) ∧ OkD s1 (val Go.Proofs.YtijflbnfikiaaaaDoor.W l1) e1 ∧ dig Go.Proofs.YtijflbnfikiaaaaDoor.W (val Go.Proofs.YtijflbnfikiaaaaDoor.W l1) = l1 := by
  obtain ⟨hm, hok⟩ := mayD_of h1.lt hd
  obtain ⟨hN, hC, _⟩ := nt_of h1 hm
  refine ⟨hN, hok, ?_⟩
  have h2 := hN.rd
  have h3 : (dig Go.Proofs.YtijflbnfikiaaaaDoor.W (val Go.Proofs.YtijflbnfikiaaaaDoor.W l1)) = l1 := dig_val W_two hC
  exact h3
theorem dsame_raw {w : World} {A B : Option Addr} {n c m d : Nat} {l r : List Nat} {s t : Bool} {e f : Int} (h : Rd w .u64 Go.Proofs.YtijflbnfikiaaaaDoor.W A n c l) (h' : Rd w .u64 Go.Proofs.YtijflbnfikiaaaaDoor.W B m d r) :
    Calls Tryd.prog 16 #[.agg #[.bool s, .slice A n c, .int .i64 e], .agg #[.bool t, .slice B m d, .int .i64 f]] w fun en w' => en = .returned (.bool (sameB s t l r e f)) ∧ Below w.heap.size w w' := by
  by_cases h1 : s = t ∧ e = f
  · obtain ⟨rfl, rfl⟩ := h1
    rw [show sameB s s l r e e = decide (l = r) from decide_eq_decide.2 ⟨fun h => h.2.2, fun h => ⟨rfl, rfl, h⟩⟩]
    exact dsame_eq h h'
  · rw [show sameB s t l r e f = false from decide_eq_false fun h => h1 ⟨h.1, h.2.1⟩]
    refine dsame_no ?_
    by_cases h2 : s = t
    · exact .inr fun h3 => h1 ⟨h2, h3⟩
    · exact .inl h2
end Go.Proofs.YtijflbnfikiaaaaDoor
