/-
  Plain facts on rounded dyadic numbers: what is told of them, and what follows of their values. No condition; nothing of the program is named here.
-/
import Derived.Test.YtcbkhmejlaaieaaGreatDoorRj
import Derived.Test.YtcbkhmejlaaieaaGreatDoorRo
import Derived.Test.YtcbkhmejlaaieaaGreatDoorIi
import Derived.Test.YtcbkhmejlaaieaaGreatDoorRt
namespace Go.Proofs.YtcbkhmejlaaieaaGreatDoor

theorem pos_of_pow {k : Nat} : (0 : Int) < ((2 ^ k : Nat) : Int) := by
  have := pow_pos2 k
  generalize 2 ^ k = P at *
  omega
theorem rd_le_top {p x : Nat} (hp : 1 ≤ p) (u : Bool) : rdN p x u ≤ 2 ^ blen x := by
  have h1 : x < 2 ^ blen x := (blen_le x (blen x)).1 (Nat.le_refl _)
  cases u
  · exact Nat.le_trans (rd_down_le p x) (Nat.le_of_lt h1)
  · exact rd_least hp ⟨1, blen x, (Nat.one_mul _).symm, Nat.one_lt_two_pow (by omega)⟩ (Nat.le_of_lt h1)
theorem rd_blen {p x : Nat} (hp : 1 ≤ p) (u : Bool) : blen (rdN p x u) ≤ blen x + 1 := by
  rw [blen_le]
  have := rd_le_top (x := x) hp u
  have h2 : 2 ^ blen x < 2 ^ (blen x + 1) := Nat.pow_lt_pow_right (by omega) (by omega)
  omega
/-- what is small and near is told no error -/
theorem nm_good {s : Bool} {m : Nat} {e k : Int} {s' : Bool} {m' : Nat} {e' : Int} (h : Nm s m e k s' m' e') (hm : blen m ≤ 4096) (he : -100000 ≤ e) (he' : e ≤ 100000) : k = 0 := by
  rcases h with ⟨_, h, _⟩ | ⟨j, q, hm0, h⟩
  · exact h
  · have h1 := (blen_le m _).1 hm
    obtain ⟨L, hL⟩ : ∃ L, L = 64 * 64 := ⟨_, rfl⟩
    have e1 : 4096 = L := by omega
    rw [e1] at h1
    have h2 : 1 * (2 * q + 1) ≤ 2 ^ j * (2 * q + 1) := Nat.mul_le_mul_right _ (pow_pos2 j)
    have h3 : 2 ^ j * 1 ≤ 2 ^ j * (2 * q + 1) := Nat.mul_le_mul_left _ (by omega)
    have h4 : j < L := by
      rcases Nat.lt_or_ge j L with h5 | h5
      · exact h5
      · have := Nat.pow_le_pow_right (n := 2) (by omega) h5
        omega
    have h5 : 2 * q + 1 < W ^ 64 := by rw [W64_pow, ← hL]; omega
    rcases h with ⟨h6, _⟩ | ⟨_, h6, _⟩ | ⟨_, _, h6, _⟩
    · exact absurd h5 (by omega)
    · exact absurd (And.intro (show -1048576 ≤ e + (j : Int) by omega) (show e + (j : Int) ≤ 1048576 by omega)) h6
    · exact h6
theorem nm_small_e {s : Bool} {m : Nat} {e : Int} {s' : Bool} {m' : Nat} {e' : Int} (h : Nm s m e 0 s' m' e') (he : -100000 ≤ e) : blen m' ≤ blen m ∧ -100000 ≤ e' ∧ e' ≤ e + blen m ∨ (m' = 0 ∧ e' = 0) := by
  rcases h with ⟨_, _, _, h2, h3⟩ | ⟨j, q, hm0, ⟨_, h, _⟩ | ⟨_, _, h, _⟩ | ⟨_, _, _, _, h2, h3⟩⟩
  · exact .inr ⟨h2, h3⟩
  · cases h
  · cases h
  · left
    have e1 : m = (2 * q + 1) * 2 ^ j := by rw [hm0, Nat.mul_comm]
    have h4 := blen_shift (x := 2 * q + 1) (k := j) (by omega)
    rw [← e1] at h4
    rw [h2, h3]
    omega
theorem rd_shift {p x j : Nat} (hp : 1 ≤ p) (u : Bool) : rdN p (x * 2 ^ j) u = rdN p x u * 2 ^ j := by
  by_cases hx : x = 0
  · subst hx; rw [Nat.zero_mul, rd_zero, Nat.zero_mul]
  · have hb := blen_shift (k := j) hx
    rcases Nat.lt_or_ge (blen x) p with h1 | h1
    · have hf : Fits p x := fits_of (by have := (blen_le x p).1 (by omega); exact this)
      rw [rd_self hp hf, rd_self hp (fits_shift hf)]
    · have e1 : blen x + j - p = (blen x - p) + j := by omega
      unfold rdN cutN
      rw [hb, e1, Nat.pow_add, Nat.mul_div_mul_right _ _ (pow_pos2 j), Nat.mul_mod_mul_right]
      have e2 : (x % 2 ^ (blen x - p) * 2 ^ j ≠ 0) = (x % 2 ^ (blen x - p) ≠ 0) := by
        apply propext
        have := pow_pos2 j
        constructor
        · intro h h2; apply h; rw [h2, Nat.zero_mul]
        · intro h h2
          rcases Nat.mul_eq_zero.1 h2 with h3 | h3
          · exact h h3
          · omega
      simp only [e2]
      rw [Nat.mul_assoc]
/-- the form of a number, rounded again -/
theorem rd_norm {s : Bool} {y : Nat} {e : Int} {s4 : Bool} {m4 : Nat} {e4 : Int} {p : Nat} {u : Bool} {k : Int} {s' : Bool} {m' : Nat} {e' : Int} (hp : 1 ≤ p) (h : Nm s y e 0 s4 m4 e4) (h2 : Nm s4 (rdN p m4 (u != s4)) e4 k s' m' e') (he : -1000000 ≤ e) : Nm s (rdN p y (u != s)) e k s' m' e' := by
  obtain ⟨K, hK⟩ := scale_has
  rcases h with ⟨h0, _, _, h3, _⟩ | ⟨j, q, hm0, ⟨_, h, _⟩ | ⟨_, _, h, _⟩ | ⟨_, _, _, hs, h3, h4⟩⟩
  · rw [h3, rd_zero] at h2
    rw [h0, rd_zero]
    rcases h2 with ⟨_, h5⟩ | ⟨j, q, h5, _⟩
    · exact .inl ⟨rfl, h5⟩
    · exfalso
      have := Nat.mul_pos (pow_pos2 j) (show 0 < 2 * q + 1 by omega)
      omega
  · cases h
  · cases h
  · subst hs
    have e1 : y = m4 * 2 ^ j := by rw [hm0, h3, Nat.mul_comm]
    rw [e1, rd_shift hp]
    refine nm_congr (K := K) (by omega) (by omega) ?_ h2
    rw [h4, vz_up (by omega)]
theorem nm_not {s : Bool} {y : Nat} {e : Int} {s' : Bool} {m' : Nat} {e' : Int} (h : Nm s y e 0 s' m' e') : Nm (!s) y e 0 (if m' = 0 then s' else !s') m' e' := by
  rcases h with ⟨h0, h1, h2, h3, h4⟩ | ⟨j, q, hm0, ⟨_, h, _⟩ | ⟨_, _, h, _⟩ | ⟨h5, h6, _, hs, h3, h4⟩⟩
  · rw [if_pos h3]; exact .inl ⟨h0, h1, h2, h3, h4⟩
  · cases h
  · cases h
  · rw [if_neg (by omega)]
    exact .inr ⟨j, q, hm0, .inr (.inr ⟨h5, h6, rfl, by rw [hs], h3, h4⟩)⟩
theorem vz_mono {K : Nat} {s : Bool} {x y : Nat} {e : Int} (h : x ≤ y) : (s = false → vz K s x e ≤ vz K s y e) ∧ (s = true → vz K s y e ≤ vz K s x e) := by
  unfold vz
  have := Nat.mul_le_mul_right (2 ^ (e + K).toNat) h
  generalize x * 2 ^ (e + K).toNat = X at *
  generalize y * 2 ^ (e + K).toNat = Y at *
  constructor
  · rintro rfl; simp only [sg, Bool.false_eq_true, if_false]; omega
  · rintro rfl; simp only [sg, if_true]; omega
theorem rd_between {K p x : Nat} {s : Bool} {e : Int} : vz K s (rdN p x (false != s)) e ≤ vz K s x e ∧ vz K s x e ≤ vz K s (rdN p x (true != s)) e := by
  cases s
  · exact ⟨(vz_mono (rd_down_le p x)).1 rfl, (vz_mono (rd_up_ge p x)).1 rfl⟩
  · exact ⟨(vz_mono (rd_up_ge p x)).2 rfl, (vz_mono (rd_down_le p x)).2 rfl⟩
theorem vz_at {K : Nat} {s : Bool} {x : Nat} {e lo : Int} (hlo : -(K : Int) ≤ lo) (h : lo ≤ e) : vz K s x e = vz K s (x * 2 ^ (e - lo).toNat) lo := by
  have e1 : e = lo + ((e - lo).toNat : Nat) := by omega
  have := vz_up (K := K) (s := s) (m := x) hlo (e - lo).toNat
  rw [← e1] at this
  exact this
theorem vz_le_same {K : Nat} {x y : Nat} {e : Int} : (vz K false x e ≤ vz K false y e ↔ x ≤ y) ∧ (vz K true x e ≤ vz K true y e ↔ y ≤ x) := by
  have key : ∀ a b : Nat, (a * 2 ^ (e + K).toNat ≤ b * 2 ^ (e + K).toNat ↔ a ≤ b) := fun a b => ⟨fun h => Nat.le_of_mul_le_mul_right h (pow_pos2 _), fun h => Nat.mul_le_mul_right _ h⟩
  have k1 := key x y
  have k2 := key y x
  unfold vz
  simp only [sg, Bool.false_eq_true, if_false, if_true]
  generalize x * 2 ^ (e + K).toNat = X at *
  generalize y * 2 ^ (e + K).toNat = Y at *
  constructor
  · rw [← k1]; omega
  · rw [← k2]; omega
theorem vz_sgn {K : Nat} {x : Nat} {e : Int} : 0 ≤ vz K false x e ∧ vz K true x e ≤ 0 := by
  unfold vz
  simp only [sg, Bool.false_eq_true, if_false, if_true]
  omega
/-- the greatest of few bits: nothing of so few bits lies between -/
theorem near_down {K p : Nat} {s t : Bool} {x y : Nat} {e f : Int} (hp : 1 ≤ p) (he : -(K : Int) ≤ e) (hf : -(K : Int) ≤ f) (hy : Fits p y) (h : vz K t y f ≤ vz K s x e) : vz K t y f ≤ vz K s (rdN p x (false != s)) e := by
  obtain ⟨lo, hlo⟩ : ∃ lo, min e f = lo := ⟨_, rfl⟩
  have e1 := vz_at (K := K) (s := s) (x := x) (e := e) (lo := lo) (by omega) (by omega)
  have e2 := vz_at (K := K) (s := s) (x := rdN p x (false != s)) (e := e) (lo := lo) (by omega) (by omega)
  have e3 := vz_at (K := K) (s := t) (x := y) (e := f) (lo := lo) (by omega) (by omega)
  rw [e2, e3]
  rw [e1, e3] at h
  rw [← rd_shift hp]
  have hy2 := fits_shift (j := (f - lo).toNat) hy
  generalize y * 2 ^ (f - lo).toNat = Y at *
  generalize x * 2 ^ (e - lo).toNat = X at *
  cases s <;> cases t
  · exact vz_le_same.1.2 (rd_greatest hp hy2 (vz_le_same.1.1 h))
  · exact Int.le_trans vz_sgn.2 vz_sgn.1
  · by_cases hX : X = 0
    · rw [hX, rd_zero]; rw [hX] at h; exact h
    · exfalso
      have h1 := (vz_pos (K := K) (s := true) (x := X) (e := lo) hX).2 rfl
      have h2 := (vz_sgn (K := K) (x := Y) (e := lo)).1
      omega
  · exact vz_le_same.2.2 (rd_least hp hy2 (vz_le_same.2.1 h))
theorem near_up {K p : Nat} {s t : Bool} {x y : Nat} {e f : Int} (hp : 1 ≤ p) (he : -(K : Int) ≤ e) (hf : -(K : Int) ≤ f) (hy : Fits p y) (h : vz K s x e ≤ vz K t y f) : vz K s (rdN p x (true != s)) e ≤ vz K t y f := by
  have h1 := near_down (K := K) (s := !s) (t := !t) (x := x) hp he hf hy (by rw [vz_not, vz_not]; omega)
  have e1 : (false != !s) = (true != s) := by cases s <;> rfl
  rw [e1, vz_not, vz_not] at h1
  omega
/-- an M that is odd, or nought -/
theorem okd_fits {p : Nat} {s : Bool} {x : Nat} {e : Int} (hd : OkD s x e) : Fits p x ↔ blen x ≤ p := by
  rcases hd with ⟨rfl, _⟩ | ⟨h, _⟩
  · rw [blen_zero]; exact ⟨fun _ => Nat.zero_le _, fun _ => fits_zero p⟩
  · have := fits_blen (p := p) (q := x / 2) (k := 0)
    have e1 : 2 * (x / 2) + 1 = x := by omega
    rw [e1, Nat.pow_zero, Nat.one_mul] at this
    exact this
theorem nm_fits {p : Nat} {s : Bool} {y : Nat} {e k : Int} {s' : Bool} {m' : Nat} {e' : Int} (h : Nm s y e k s' m' e') (hy : Fits p y) : Fits p m' := by
  rcases h with ⟨_, _, _, h3, _⟩ | ⟨j, q, hm0, ⟨_, _, _, h3, _⟩ | ⟨_, _, _, _, h3, _⟩ | ⟨_, _, _, hs, h3, h4⟩⟩
  · rw [h3]; exact fits_zero p
  · rw [h3]; exact fits_zero p
  · rw [h3]; exact fits_zero p
  · rw [h3]
    rw [hm0, Nat.mul_comm] at hy
    exact unfits hy
end Go.Proofs.YtcbkhmejlaaieaaGreatDoor
namespace Go.Proofs.YtcbkhmejlaaieaaGreatDoor
open Go.RowKit

def Rw.of (s : Bool) (m : Nat) (e : Int) : Rw := ⟨s, dig Go.Proofs.YtcbkhmejlaaieaaGreatDoor.W m, e, (can_dig W_two m).1⟩
theorem Rw.of_may {s : Bool} {m : Nat} {e : Int} (h : OkD s m e) : (Rw.of s m e).may = true := mayD_ok h
theorem Rw.of_v {K : Nat} {s : Bool} {m : Nat} {e : Int} : (Rw.of s m e).v K = vz K s m e := by
  unfold Rw.of Rw.v
  rw [val_dig W_two]
theorem okd_1 : OkD false 1 0 := okd_small rfl (by omega) (by decide) (by decide)
theorem vz_1 (K m : Nat) : vz K false m 0 = (m : Int) * ((2 ^ K : Nat) : Int) := by
  unfold vz sg
  have e1 : ((0 : Int) + (K : Int)).toNat = K := by omega
  rw [e1, if_neg Bool.false_ne_true, Int.one_mul, Int.natCast_mul]
theorem vz_2 (K m j : Nat) : vz K false m (j : Int) = ((m * 2 ^ j : Nat) : Int) * ((2 ^ K : Nat) : Int) := by
  have h := vz_up (K := K) (s := false) (m := m) (e := 0) (by omega) j
  rw [Int.zero_add] at h
  rw [h, vz_1]
/-- 1, 3, and the interval from 1 to 3 -/
def q1 : Rw := Rw.of false 1 0
def q3 : Rw := Rw.of false 3 0
theorem q1_may : q1.may = true := Rw.of_may okd_1
theorem told_is' {f : FuncId} {args : Array Value} {P : Int → Bool → Nat → Int → Prop} {w : World} {s : Bool} {m : Nat} {e k : Int} (h : Calls Tryz.prog f args w (Tells P w)) (hP : ∀ k1 s1 m1 e1, P k1 s1 m1 e1 → k1 = k ∧ s1 = s ∧ m1 = m ∧ e1 = e) : Calls Tryz.prog f args w (ToldIs s m e k w) := h.mono fun _ _ h => told_is h hP

set_option maxRecDepth 100000 in
set_option maxHeartbeats 8000000 in
theorem few5_any {w : World} {x : Iv} {A1 : Option Addr} {n1 c1 : Nat} {A2 : Option Addr} {n2 c2 : Nat} (hn : n1 ≤ 9223372036854775807) (hm : n2 ≤ 9223372036854775807) :
    Calls Tryz.prog 9 #[.agg #[.bool x.lo.s, .slice A1 n1 c1, .int .i64 x.lo.e, .bool x.hi.s, .slice A2 n2 c2, .int .i64 x.hi.e]] w (Bools (decide (n1 ≤ 70) && decide (n2 ≤ 70)) w) := by
  obtain ⟨p1, hp1⟩ : ∃ p, p = decide (n1 ≤ 70) := ⟨_, rfl⟩
  obtain ⟨p2, hp2⟩ : ∃ p, p = decide (n2 ≤ 70) := ⟨_, rfl⟩
  have HP1 := Lib.hid hp1
  have HP2 := Lib.hid hp2
  rw [← hp1, ← hp2]
  clear hp1 hp2
  have BB := below_alloc w (.cells #[.bool x.lo.s, .slice A1 n1 c1, .int .i64 x.lo.e, .bool x.hi.s, .slice A2 n2 c2, .int .i64 x.hi.e] 26)
  obtain ⟨a0, a1, a2, a3, a4, a5⟩ := (Ibx.new w x.lo.s A1 n1 c1 x.lo.e x.hi.s A2 n2 c2 x.hi.e).held
  go_enter Tryz.func9, Tryz.ntmps9
  go_wp2_with fail
  refine (dfew_any (s := x.lo.s) (e := x.lo.e) hn).mono ?_
  rintro en w1 ⟨rfl, b⟩
  rw [← HP1.out]
  clear HP1
  replace BB := bnx BB b rfl rfl rfl rfl
  have G := mv b rfl (J6 a0 a1 a2 a3 a4 a5)
  clear b a0 a1 a2 a3 a4 a5
  obtain ⟨a0, a1, a2, a3, a4, a5⟩ := G
  cases p1
  · go_wp2
    go_ret
    exact ⟨by first | rfl | simp, BB⟩
  go_wp2_with fail
  refine (dfew_any (s := x.hi.s) (e := x.hi.e) hm).mono ?_
  rintro en w2 ⟨rfl, b⟩
  rw [← HP2.out]
  clear HP2
  replace BB := bnx BB b rfl rfl rfl rfl
  have G := mv b rfl (J6 a0 a1 a2 a3 a4 a5)
  clear b a0 a1 a2 a3 a4 a5
  obtain ⟨a0, a1, a2, a3, a4, a5⟩ := G
  go_wp2
  go_ret
  exact ⟨by first | rfl | simp, BB⟩

end Go.Proofs.YtcbkhmejlaaieaaGreatDoor
namespace Go.Proofs.YtcbkhmejlaaieaaGreatDoor
open Go.RowKit

theorem rd_fit {s : Bool} {x : Nat} {e : Int} {p : Nat} {u : Bool} {k : Int} {s' : Bool} {m' : Nat} {e' : Int} (hp : 1 ≤ p) (hd : OkD s x e) (hb : blen x ≤ p) (h : RdTold s x e p u k s' m' e') : k = 0 ∧ s' = s ∧ m' = x ∧ e' = e := by
  unfold RdTold at h
  rw [rd_self hp ((okd_fits hd).2 hb)] at h
  exact nm_fun h (nm_self hd)
end Go.Proofs.YtcbkhmejlaaieaaGreatDoor
namespace Go.Proofs.YtcbkhmejlaaieaaGreatDoor
open Go.RowKit

theorem GivQ.of {s : Bool} {m : Nat} {e : Int} {w w' : World} {en : Ending} (h : Goods s m e w en w') : GivQ (Rw.of s m e) w en w' := by
  obtain ⟨A, n, c, h1, h2, h3⟩ := h
  exact ⟨A, n, c, h1, h2.rd, h3⟩

end Go.Proofs.YtcbkhmejlaaieaaGreatDoor
namespace Go.Proofs.YtcbkhmejlaaieaaGreatDoor
open Go.RowKit

def x11 : Iv := ⟨q1, q1⟩
end Go.Proofs.YtcbkhmejlaaieaaGreatDoor
namespace Go.Proofs.YtcbkhmejlaaieaaGreatDoor
open Go.RowKit

theorem down_le {K p : Nat} {a : Rw} {s : Bool} {m : Nat} {e : Int} (hK : 4194304 ≤ K) (ha : a.may = true) (h : RdTold a.s (val W a.l) a.e p false 0 s m e) : (Rw.of s m e).v K ≤ a.v K := by
  have r := okd_ge hK (mayD_of a.lt ha).2
  rw [Rw.of_v, nm_value r.2.2 h]
  exact rd_between.1
theorem up_ge {K p : Nat} {a : Rw} {s : Bool} {m : Nat} {e : Int} (hK : 4194304 ≤ K) (ha : a.may = true) (h : RdTold a.s (val W a.l) a.e p true 0 s m e) : a.v K ≤ (Rw.of s m e).v K := by
  have r := okd_ge hK (mayD_of a.lt ha).2
  rw [Rw.of_v, nm_value r.2.2 h]
  exact rd_between.2
end Go.Proofs.YtcbkhmejlaaieaaGreatDoor
