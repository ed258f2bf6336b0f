/-
  Plain facts on values of dyadic numbers, and dyad's contracts of one Dyad or two with an answer that is known. Condition: the slices read as naturals, the table of math/bits reads as its text lays it.
-/
import Derived.Test.YtijflbnfikiaaaaGreatDoorMv
namespace Go.Proofs.YtijflbnfikiaaaaGreatDoor
open Go.RowKit

theorem vz_times {K : Nat} {s : Bool} {m k : Nat} {e : Int} : vz K s (m * 2 ^ k) e = vz K s m e * ((2 ^ k : Nat) : Int) := by
  unfold vz
  have e1 : m * 2 ^ k * 2 ^ (e + K).toNat = m * 2 ^ (e + K).toNat * 2 ^ k := by ac_rfl
  rw [e1, Int.natCast_mul (m * 2 ^ (e + K).toNat), Int.mul_assoc]
theorem cmpV_mul {V U P : Int} (hP : 0 < P) : cmpV (V * P) (U * P) = cmpV V U := by
  rcases cmpV_cases V U with ⟨h1, h2⟩ | ⟨h1, h2⟩ | ⟨h1, h2⟩
  · rw [h1, cmpV_lt (Int.mul_lt_mul_of_pos_right h2 hP)]
  · rw [h1, h2, cmpV_eq rfl]
  · rw [h1, cmpV_gt (Int.mul_lt_mul_of_pos_right h2 hP)]
theorem dcmp_is {w : World} {A B : Option Addr} {n c m d x y K : Nat} {s t : Bool} {e f z : Int} (hK : 4194304 ≤ K) (hT : Tab w) (h : Nt w A n c x) (h' : Nt w B m d y) (hd : OkD s x e) (hd' : OkD t y f) (hz : cmpV (vz K s x e) (vz K t y f) = z) :
    Calls Tryz.prog 27 #[.agg #[.bool s, .slice A n c, .int .i64 e], .agg #[.bool t, .slice B m d, .int .i64 f]] w (Ints z w) := by
  have := dcmp_ok hK hT h h' hd hd'
  rwa [hz] at this
theorem dsame_diff {w : World} {A B : Option Addr} {n c m d x y : Nat} {s t : Bool} {e f : Int} (h : Nt w A n c x) (h' : Nt w B m d y) (hne : ¬ (s = t ∧ x = y ∧ e = f)) :
    Calls Tryz.prog 49 #[.agg #[.bool s, .slice A n c, .int .i64 e], .agg #[.bool t, .slice B m d, .int .i64 f]] w fun en w' => en = .returned (.bool false) ∧ Below w.heap.size w w' := by
  have := dsame_any (s := s) (t := t) (e := e) (f := f) h h'
  rwa [decide_eq_false hne] at this
theorem dneg_is {w : World} {A : Option Addr} {n c m : Nat} {s : Bool} {e : Int} (K : Nat) (hT : Tab w) (h : Nt w A n c m) (hd : OkD s m e) :
    Calls Tryz.prog 91 #[.agg #[.bool s, .slice A n c, .int .i64 e]] w fun en w' => ∃ t A1 n1 c1, en = .returned (.agg #[.bool t, .slice A1 n1 c1, .int .i64 e]) ∧ (OkD t m e ∧ vz K t m e = - vz K s m e) ∧ Nt w' A1 n1 c1 m ∧ Below w.heap.size w w' :=
  (dneg_any hT h hd).mono fun _ _ ⟨A1, n1, c1, h1, h2, h3⟩ => ⟨_, A1, n1, c1, h1, ⟨neg_okd hd, vz_neg⟩, h2, h3⟩
theorem sign_is {w : World} {A : Option Addr} {n c m : Nat} {s : Bool} {e z : Int} (hT : Tab w) (h : Nt w A n c m) (hd : OkD s m e) (hz : signD s m = z) :
    Calls Tryz.prog 57 #[.agg #[.bool s, .slice A n c, .int .i64 e]] w (Ints z w) := by
  have := sign_ok hT h hd
  rwa [hz] at this
end Go.Proofs.YtijflbnfikiaaaaGreatDoor
