/-
  Contract of the statement RoundBetween's function at this translation: it returns true, whatever its arguments. Condition: the slices read as limbs, the table of math/bits reads as its text lays it.
-/
import Derived.Test.YtijflbnfikiaaaaGreatDoorRt
import Derived.Test.YtijflbnfikiaaaaGreatDoorRm
namespace Go.Proofs.YtijflbnfikiaaaaGreatDoor
open Go.RowKit

theorem rd_told_okd {s : Bool} {x : Nat} {e : Int} {p : Nat} {u : Bool} {k : Int} {s' : Bool} {m' : Nat} {e' : Int} (h : RdTold s x e p u k s' m' e') : OkD s' m' e' := nm_okd h
/-- what is told once is kept when it is rounded again -/
theorem rd_again {s : Bool} {x : Nat} {e : Int} {p : Nat} {u v : Bool} {s' : Bool} {m' : Nat} {e' : Int} {k : Int} {s2 : Bool} {m2 : Nat} {e2 : Int} (hp : 1 ≤ p) (h : RdTold s x e p u 0 s' m' e') (h2 : RdTold s' m' e' p v k s2 m2 e2) : k = 0 ∧ s2 = s' ∧ m2 = m' ∧ e2 = e' := by
  have h3 := nm_fits h (rd_fits hp x (u != s))
  unfold RdTold at h2
  rw [rd_self hp h3] at h2
  exact nm_fun h2 (nm_self (nm_okd h))
theorem rd_turn {s t : Bool} {x : Nat} {e : Int} {p : Nat} {s' : Bool} {m' : Nat} {e' : Int} {k : Int} {s2 : Bool} {m2 : Nat} {e2 : Int} (ht : t = if x = 0 then s else !s) (h : RdTold s x e p true 0 s' m' e') (h2 : RdTold t x e p false k s2 m2 e2) : k = 0 ∧ s2 = (if m' = 0 then s' else !s') ∧ m2 = m' ∧ e2 = e' := by
  by_cases hx : x = 0
  · unfold RdTold at h h2
    rw [hx, rd_zero] at h h2
    rcases h with ⟨_, _, a1, a2, a3⟩ | ⟨j, q, h3, _⟩
    · rcases h2 with ⟨_, b0, b1, b2, b3⟩ | ⟨j, q, h3, _⟩
      · rw [a1, a2, a3, b0, b1, b2, b3]; exact ⟨rfl, rfl, rfl, rfl⟩
      · exfalso; have := Nat.mul_pos (pow_pos2 j) (show 0 < 2 * q + 1 by omega); omega
    · exfalso; have := Nat.mul_pos (pow_pos2 j) (show 0 < 2 * q + 1 by omega); omega
  · rw [if_neg hx] at ht
    subst ht
    have e1 : (false != !s) = (true != s) := by cases s <;> rfl
    unfold RdTold at h h2
    rw [e1] at h2
    exact nm_fun h2 (nm_not h)
theorem rd_equal {s : Bool} {x : Nat} {e : Int} {p : Nat} {s1 : Bool} {m1 : Nat} {e1 : Int} {s2 : Bool} {m2 : Nat} {e2 : Int} (hp : 1 ≤ p) (hd : OkD s x e) (h : RdTold s x e p false 0 s1 m1 e1) (h2 : RdTold s x e p true 0 s2 m2 e2) : (s1 = s2 ∧ m1 = m2 ∧ e1 = e2) ↔ blen x ≤ p := by
  rw [← okd_fits hd]
  constructor
  · rintro ⟨rfl, rfl, rfl⟩
    obtain ⟨K, hK⟩ := scale_has
    have r := okd_ge hK hd
    have v1 := nm_value r.2.2 h
    have v2 := nm_value r.2.2 h2
    have v3 := v1.symm.trans v2
    have a1 := vz_abs (K := K) (s := s) (m := rdN p x (false != s)) (e := e)
    have a2 := vz_abs (K := K) (s := s) (m := rdN p x (true != s)) (e := e)
    rw [v3, a2] at a1
    have := Nat.eq_of_mul_eq_mul_right (pow_pos2 _) a1
    refine (rd_same hp).1 ?_
    cases s
    · exact this.symm
    · exact this
  · intro h3
    unfold RdTold at h h2
    rw [rd_self hp h3] at h h2
    obtain ⟨_, h4, h5, h6⟩ := nm_fun h h2
    exact ⟨h4, h5, h6⟩
theorem told_between {K : Nat} {s : Bool} {x : Nat} {e : Int} {p : Nat} {s1 : Bool} {m1 : Nat} {e1 : Int} {s2 : Bool} {m2 : Nat} {e2 : Int} (hK : 4194304 ≤ K) (hd : OkD s x e) (h : RdTold s x e p false 0 s1 m1 e1) (h2 : RdTold s x e p true 0 s2 m2 e2) : vz K s1 m1 e1 ≤ vz K s x e ∧ vz K s x e ≤ vz K s2 m2 e2 := by
  have r := okd_ge hK hd
  rw [nm_value r.2.2 h, nm_value r.2.2 h2]
  exact rd_between
theorem told_bits {s : Bool} {x : Nat} {e : Int} {p : Nat} {u : Bool} {k : Int} {s' : Bool} {m' : Nat} {e' : Int} (hp : 1 ≤ p) (h : RdTold s x e p u k s' m' e') : blen m' ≤ p := (okd_fits (nm_okd h)).1 (nm_fits h (rd_fits hp x (u != s)))

theorem rd_fit {s : Bool} {x : Nat} {e : Int} {p : Nat} {u : Bool} {k : Int} {s' : Bool} {m' : Nat} {e' : Int} (hp : 1 ≤ p) (hd : OkD s x e) (hb : blen x ≤ p) (h : RdTold s x e p u k s' m' e') : k = 0 ∧ s' = s ∧ m' = x ∧ e' = e := by
  unfold RdTold at h
  rw [rd_self hp ((okd_fits hd).2 hb)] at h
  exact nm_fun h (nm_self hd)
theorem told_strict {K : Nat} {s : Bool} {x : Nat} {e : Int} {p : Nat} {s1 : Bool} {m1 : Nat} {e1 : Int} {s2 : Bool} {m2 : Nat} {e2 : Int} (hK : 4194304 ≤ K) (hp : 1 ≤ p) (hd : OkD s x e) (hb : ¬ blen x ≤ p) (h : RdTold s x e p false 0 s1 m1 e1) (h2 : RdTold s x e p true 0 s2 m2 e2) : vz K s1 m1 e1 < vz K s x e ∧ vz K s x e < vz K s2 m2 e2 := by
  obtain ⟨a1, a2⟩ := told_between hK hd h h2
  have b1 := told_bits hp h
  have b2 := told_bits hp h2
  constructor
  · rcases Int.lt_or_eq_of_le a1 with h3 | h3
    · exact h3
    · obtain ⟨_, rfl, _⟩ := okd_one hK (nm_okd h) hd h3
      exact absurd b1 hb
  · rcases Int.lt_or_eq_of_le a2 with h3 | h3
    · exact h3
    · obtain ⟨_, rfl, _⟩ := okd_one hK hd (nm_okd h2) h3
      exact absurd b2 hb
theorem dneg_to {w : World} {A : Option Addr} {n c m : Nat} {s t : Bool} {e : Int} (hT : Tab w) (h : Nt w A n c m) (hd : OkD s m e) (ht : t = if m = 0 then s else !s) :
    Calls Tryz.prog 91 #[.agg #[.bool s, .slice A n c, .int .i64 e]] w (Goods t m e w) := by
  rw [ht]; exact dneg_any hT h hd

end Go.Proofs.YtijflbnfikiaaaaGreatDoor
