/-
  Contracts of the reference's CmpDyad, MulDyad, SubDyad, at this translation. Condition: the slices read as limbs.
-/
import Derived.Test.YtcbkhmejlaaieaaGreatDoorRj
import Derived.Test.YtcbkhmejlaaieaaGreatDoorIi
import Derived.Test.YtcbkhmejlaaieaaGreatDoorRf
import Derived.Test.YtcbkhmejlaaieaaGreatDoorRRoot
import Derived.Test.YtcbkhmejlaaieaaGreatDoorRi
import Derived.Test.YtcbkhmejlaaieaaGreatDoorIt
import Derived.Test.YtcbkhmejlaaieaaGreatDoorRt
namespace Go.Proofs.YtcbkhmejlaaieaaGreatDoor
open Go.RowKit

end Go.Proofs.YtcbkhmejlaaieaaGreatDoor

namespace Go.Proofs.YtcbkhmejlaaieaaGreatDoor
open Go.RowKit

end Go.Proofs.YtcbkhmejlaaieaaGreatDoor

namespace Go.Proofs.YtcbkhmejlaaieaaGreatDoor
open Go.RowKit

theorem two_dbl (w : World) {A1 A2 : Option Addr} {n1 c1 n2 c2 : Nat} {s1 s2 : Bool} {e1 e2 : Int} : Box ((w.alloc (.cells #[.bool s1, .slice A1 n1 c1, .int .i64 e1] 24)).alloc (.cells #[.bool s2, .slice A2 n2 c2, .int .i64 e2] 24)) w.heap.size s1 A1 n1 c1 e1 ∧ Box ((w.alloc (.cells #[.bool s1, .slice A1 n1 c1, .int .i64 e1] 24)).alloc (.cells #[.bool s2, .slice A2 n2 c2, .int .i64 e2] 24)) (w.heap.size + 1) s2 A2 n2 c2 e2 :=
  ⟨(two_new w s1 s2 A1 A2 n1 c1 n2 c2 e1 e2).a, (two_new w s1 s2 A1 A2 n1 c1 n2 c2 e1 e2).b⟩
theorem three_dbl (w : World) {A1 A2 : Option Addr} {n1 c1 n2 c2 : Nat} {s1 s2 : Bool} {e1 e2 : Int} : Below w.heap.size w (((w.alloc (.cells #[.bool s1, .slice A1 n1 c1, .int .i64 e1] 24)).alloc (.cells #[.bool s2, .slice A2 n2 c2, .int .i64 e2] 24)).alloc (.cells #[.bool false, .slice none 0 0, .int .i64 0] 24)) ∧ Box (((w.alloc (.cells #[.bool s1, .slice A1 n1 c1, .int .i64 e1] 24)).alloc (.cells #[.bool s2, .slice A2 n2 c2, .int .i64 e2] 24)).alloc (.cells #[.bool false, .slice none 0 0, .int .i64 0] 24)) w.heap.size s1 A1 n1 c1 e1 ∧ Box (((w.alloc (.cells #[.bool s1, .slice A1 n1 c1, .int .i64 e1] 24)).alloc (.cells #[.bool s2, .slice A2 n2 c2, .int .i64 e2] 24)).alloc (.cells #[.bool false, .slice none 0 0, .int .i64 0] 24)) (w.heap.size + 1) s2 A2 n2 c2 e2 ∧ Box (((w.alloc (.cells #[.bool s1, .slice A1 n1 c1, .int .i64 e1] 24)).alloc (.cells #[.bool s2, .slice A2 n2 c2, .int .i64 e2] 24)).alloc (.cells #[.bool false, .slice none 0 0, .int .i64 0] 24)) (w.heap.size + 2) false none 0 0 0 := by
  obtain ⟨xa, xb⟩ := two_dbl w (s1 := s1) (A1 := A1) (n1 := n1) (c1 := c1) (e1 := e1) (s2 := s2) (A2 := A2) (n2 := n2) (c2 := c2) (e2 := e2)
  refine ⟨three_below w _ _ _, xa.alloc _, xb.alloc _, ?_⟩
  simpa using Box.new ((w.alloc (.cells #[.bool s1, .slice A1 n1 c1, .int .i64 e1] 24)).alloc (.cells #[.bool s2, .slice A2 n2 c2, .int .i64 e2] 24)) false none 0 0 0
end Go.Proofs.YtcbkhmejlaaieaaGreatDoor
namespace Go.Proofs.YtcbkhmejlaaieaaGreatDoor
open Go.RowKit

theorem Ibx.oth6 {w : World} {g g' : Nat} {s : Bool} {A : Option Addr} {n c : Nat} {e : Int} {t : Bool} {B : Option Addr} {m d : Nat} {f : Int} (h : Ibx w g' s A n c e t B m d f) (hne : g' ≠ g) (u0 u1 u2 u3 u4 u5 : Value) : Ibx ((((((w.setCell ⟨g, 0, none⟩ u0).setCell ⟨g, 1, none⟩ u1).setCell ⟨g, 2, none⟩ u2).setCell ⟨g, 3, none⟩ u3).setCell ⟨g, 4, none⟩ u4).setCell ⟨g, 5, none⟩ u5) g' s A n c e t B m d f := (((((h.other hne 0 u0).other hne 1 u1).other hne 2 u2).other hne 3 u3).other hne 4 u4).other hne 5 u5

end Go.Proofs.YtcbkhmejlaaieaaGreatDoor

namespace Go.Proofs.YtcbkhmejlaaieaaGreatDoor
open Go.RowKit

end Go.Proofs.YtcbkhmejlaaieaaGreatDoor

namespace Go.Proofs.YtcbkhmejlaaieaaGreatDoor
open Go.RowKit

end Go.Proofs.YtcbkhmejlaaieaaGreatDoor
namespace Go.Proofs.YtcbkhmejlaaieaaGreatDoor
open Go.RowKit

section
variable {w : World} {g g' k i n c x n0 c0 : Nat} {A A0 : Option Addr} {s s0 : Bool} {e e0 : Int} {v u0 u1 u2 : Value}
theorem Dbx.other (h : Dbx w g' s A n c e) (hne : g' ≠ g) (j : Nat) (u : Value) : Dbx (w.setCell ⟨g, j, none⟩ u) g' s A n c e := ⟨(Below.heap_setCell w _ u g' hne).trans h.blk⟩
theorem Dbx.put3 (h : Dbx w g' s A n c e) (hne : g' ≠ g) (u0 u1 u2 : Value) : Dbx (((w.setCell ⟨g, 0, none⟩ u0).setCell ⟨g, 1, none⟩ u1).setCell ⟨g, 2, none⟩ u2) g' s A n c e := ((h.other hne 0 u0).other hne 1 u1).other hne 2 u2
theorem Box.put3 (h : Box w g' s A n c e) (hne : g' ≠ g) (u0 u1 u2 : Value) : Box (((w.setCell ⟨g, 0, none⟩ u0).setCell ⟨g, 1, none⟩ u1).setCell ⟨g, 2, none⟩ u2) g' s A n c e := ((h.other hne 0 u0).other hne 1 u1).other hne 2 u2
end

end Go.Proofs.YtcbkhmejlaaieaaGreatDoor
namespace Go.Proofs.YtcbkhmejlaaieaaGreatDoor
open Go.RowKit

theorem negR_may {s : Bool} {l : List Nat} {e : Int} : mayD (negR s l e) l e = mayD s l e ∧ ∀ K, mayD s l e = true → vz K (negR s l e) (val Go.Proofs.YtcbkhmejlaaieaaGreatDoor.W l) e = - vz K s (val Go.Proofs.YtcbkhmejlaaieaaGreatDoor.W l) e := by
  unfold negR
  by_cases h : mayD s l e = true ∧ val Go.Proofs.YtcbkhmejlaaieaaGreatDoor.W l ≠ 0
  · rw [if_pos h]
    have hne : l ≠ [] := fun h0 => h.2 (by rw [h0]; rfl)
    exact ⟨by unfold mayD; rw [if_neg hne, if_neg hne], fun K _ => vz_not K s _ e⟩
  · rw [if_neg h]
    refine ⟨rfl, fun K hm => ?_⟩
    have hz : val Go.Proofs.YtcbkhmejlaaieaaGreatDoor.W l = 0 := Classical.byContradiction fun h0 => h ⟨hm, h0⟩
    rw [hz, vz_zero]
    rfl
end Go.Proofs.YtcbkhmejlaaieaaGreatDoor
namespace Go.Proofs.YtcbkhmejlaaieaaGreatDoor
open Go.RowKit

theorem Dg.drew {w : World} {A : Option Addr} {n c x : Nat} (h : Dg w A n c x) : Dg w.drew A n c x := Dg.heap32 h rfl
end Go.Proofs.YtcbkhmejlaaieaaGreatDoor

namespace Go.Proofs.YtcbkhmejlaaieaaGreatDoor
open Go.RowKit

def quotR (s : Bool) (l : List Nat) (e : Int) (t : Bool) (r : List Nat) (f : Int) (p : Int) (up : Bool) : Int → Bool → Nat → Int → Prop :=
  if (1 ≤ p ∧ p ≤ 2000) ∧ mayD s l e = true ∧ mayD t r f = true then (if val Go.Proofs.YtcbkhmejlaaieaaGreatDoor.W r = 0 then Outside else QuTold s (val Go.Proofs.YtcbkhmejlaaieaaGreatDoor.W l) e t (val Go.Proofs.YtcbkhmejlaaieaaGreatDoor.W r) f p.toNat up) else Wrong
theorem outside_fun {k k2 : Int} {s1 s2 : Bool} {m1 m2 : Nat} {e1 e2 : Int} (h : Outside k s1 m1 e1) (h' : Outside k2 s2 m2 e2) : k = k2 ∧ s1 = s2 ∧ m1 = m2 ∧ e1 = e2 := by
  obtain ⟨rfl, rfl, rfl, rfl⟩ := h
  obtain ⟨rfl, rfl, rfl, rfl⟩ := h'
  exact ⟨rfl, rfl, rfl, rfl⟩
theorem quotR_fun {s : Bool} {l : List Nat} {e : Int} {t : Bool} {r : List Nat} {f p : Int} {up : Bool} {k k2 : Int} {s1 s2 : Bool} {m1 m2 : Nat} {e1 e2 : Int} (h : quotR s l e t r f p up k s1 m1 e1) (h' : quotR s l e t r f p up k2 s2 m2 e2) : k = k2 ∧ s1 = s2 ∧ m1 = m2 ∧ e1 = e2 := by
  unfold quotR at h h'
  split at h
  · rw [if_pos (by assumption)] at h'
    split at h
    · rw [if_pos (by assumption)] at h'; exact outside_fun h h'
    · rw [if_neg (by assumption)] at h'; exact nm_fun h h'
  · rw [if_neg (by assumption)] at h'; exact wrong_fun h h'
theorem dquot_raw {w : World} {A1 : Option Addr} {n1 c1 : Nat} {l1 : List Nat} {s1 : Bool} {e1 : Int} {A2 : Option Addr} {n2 c2 : Nat} {l2 : List Nat} {s2 : Bool} {e2 : Int} {p : Int} {up : Bool} (hT : Tab w) (h1 : Rd w .u64 Go.Proofs.YtcbkhmejlaaieaaGreatDoor.W A1 n1 c1 l1) (h2 : Rd w .u64 Go.Proofs.YtcbkhmejlaaieaaGreatDoor.W A2 n2 c2 l2) :
    Calls Tryz.prog 122 #[.agg #[.bool s1, .slice A1 n1 c1, .int .i64 e1], .agg #[.bool s2, .slice A2 n2 c2, .int .i64 e2], .int .i64 p, .bool up] w (Tells (quotR s1 l1 e1 s2 l2 e2 p up) w) := by
  unfold quotR
  by_cases hd : (1 ≤ p ∧ p ≤ 2000) ∧ mayD s1 l1 e1 = true ∧ mayD s2 l2 e2 = true
  · rw [if_pos hd]
    obtain ⟨q, rfl⟩ := Int.eq_ofNat_of_zero_le (show 0 ≤ p by omega)
    obtain ⟨hN, hok, _⟩ := rd_okd h1 hd.2.1
    obtain ⟨hN', hok', _⟩ := rd_okd h2 hd.2.2
    by_cases hy : val Go.Proofs.YtcbkhmejlaaieaaGreatDoor.W l2 = 0
    · rw [if_pos hy]
      exact rquot_zero hT hN hN' hok hok' (by omega) (by omega) hy
    · rw [if_neg hy]
      exact rquot_ok hT hN hN' hok hok' (by omega) (by omega) hy
  · rw [if_neg hd]
    refine rquot_no hT h1 h2 ?_
    by_cases hp : 1 ≤ p ∧ p ≤ 2000
    · refine .inr (.inr ?_)
      cases q : mayD s1 l1 e1 <;> cases q' : mayD s2 l2 e2 <;> first | rfl | exact absurd ⟨hp, q, q'⟩ hd
    · omega

end Go.Proofs.YtcbkhmejlaaieaaGreatDoor
namespace Go.Proofs.YtcbkhmejlaaieaaGreatDoor
open Go.RowKit

theorem root_nought {p : Nat} {up : Bool} {e k : Int} {s' : Bool} {m' : Nat} {e' : Int} (h : RoTold 0 e p up k s' m' e') : k = 0 ∧ s' = false ∧ m' = 0 ∧ e' = 0 := by
  obtain ⟨i, j, r, f, ⟨_, _, _, _, h1, _⟩, hN⟩ := h
  have hr : r = 0 := by
    rw [Nat.zero_mul, Nat.zero_div] at h1
    rcases Nat.mul_eq_zero.1 (Nat.le_zero.1 h1) with h2 | h2 <;> exact h2
  have e : cutR p r (!decide (r * r * 2 ^ j = 0 * 2 ^ i)) (up != false) = 0 := by
    rw [hr]
    unfold cutR
    simp
  rw [e] at hN
  exact nm_fun hN (.inl ⟨rfl, rfl, rfl, rfl, rfl⟩)
/-- what the longer reckoning tells -/
def SqTold (x : Nat) (e : Int) (p : Nat) (up : Bool) (k : Int) (s' : Bool) (m' : Nat) (e' : Int) : Prop :=
  ∃ (R S : Nat) (g : Int), (2 * p + 6 ≤ blen x + S ∧ S ≤ 8000 ∧ e - (S : Int) = 2 * g ∧ R * R ≤ x * 2 ^ S ∧ x * 2 ^ S < (R + 1) * (R + 1)) ∧ Nm false (cutN p (stickyR S x R) (up != false)) (g - 1 + ((blen (stickyR S x R) - p : Nat) : Int)) k s' m' e'
def Nought (k : Int) (s' : Bool) (m' : Nat) (e' : Int) : Prop := k = 0 ∧ s' = false ∧ m' = 0 ∧ e' = 0
def rootR (s : Bool) (l : List Nat) (e : Int) (p : Int) (up : Bool) : Int → Bool → Nat → Int → Prop :=
  if (1 ≤ p ∧ p ≤ 2000) ∧ mayD s l e = true then (if s = true then Outside else RoTold (val Go.Proofs.YtcbkhmejlaaieaaGreatDoor.W l) e p.toNat up) else Wrong
def rootQ (s : Bool) (l : List Nat) (e : Int) (p : Int) (up : Bool) : Int → Bool → Nat → Int → Prop :=
  if (1 ≤ p ∧ p ≤ 2000) ∧ mayD s l e = true then (if s = true then Outside else if val Go.Proofs.YtcbkhmejlaaieaaGreatDoor.W l = 0 then Nought else SqTold (val Go.Proofs.YtcbkhmejlaaieaaGreatDoor.W l) e p.toNat up) else Wrong
theorem root_agree {s : Bool} {l : List Nat} {e p : Int} {up : Bool} {k k2 : Int} {s1 s2 : Bool} {m1 m2 : Nat} {e1 e2 : Int} (hlt : Lt Go.Proofs.YtcbkhmejlaaieaaGreatDoor.W l) (h : rootR s l e p up k s1 m1 e1) (h' : rootQ s l e p up k2 s2 m2 e2) : k = k2 ∧ s1 = s2 ∧ m1 = m2 ∧ e1 = e2 := by
  unfold rootR at h
  unfold rootQ at h'
  by_cases hd : (1 ≤ p ∧ p ≤ 2000) ∧ mayD s l e = true
  · rw [if_pos hd] at h h'
    by_cases hs : s = true
    · rw [if_pos hs] at h h'; exact outside_fun h h'
    · rw [if_neg hs] at h h'
      by_cases hx : val Go.Proofs.YtcbkhmejlaaieaaGreatDoor.W l = 0
      · rw [if_pos hx] at h'
        rw [hx] at h
        obtain ⟨rfl, rfl, rfl, rfl⟩ := root_nought h
        obtain ⟨rfl, rfl, rfl, rfl⟩ := h'
        exact ⟨rfl, rfl, rfl, rfl⟩
      · rw [if_neg hx] at h'
        obtain ⟨R, S, g, ⟨g1, g2, g3, g4, g5⟩, hN⟩ := h'
        obtain ⟨_, hok⟩ := mayD_of hlt hd.2
        have r := okd_ge (K := 4194304) (Nat.le_refl _) hok
        exact root_same hx (by omega) r.1 r.2.1 g1 g2 g3 g4 g5 h hN
  · rw [if_neg hd] at h h'; exact wrong_fun h h'
theorem root_has (m : Nat) : ∃ R : Nat, R * R ≤ m ∧ m < (R + 1) * (R + 1) := by
  induction m with
  | zero => exact ⟨0, by decide, by decide⟩
  | succ m ih =>
    obtain ⟨R, h1, h2⟩ := ih
    by_cases h : m + 1 < (R + 1) * (R + 1)
    · exact ⟨R, by omega, h⟩
    · have e : (R + 1 + 1) * (R + 1 + 1) = (R + 1) * (R + 1) + (R + 1) + (R + 1) + 1 := by rw [Nat.add_mul (R + 1) 1, Nat.mul_add (R + 1), Nat.mul_one, Nat.one_mul]; omega
      exact ⟨R + 1, by omega, by omega⟩
theorem droot_raw {w : World} {A1 : Option Addr} {n1 c1 : Nat} {l1 : List Nat} {s1 : Bool} {e1 : Int} {p : Int} {up : Bool} (hT : Tab w) (h1 : Rd w .u64 Go.Proofs.YtcbkhmejlaaieaaGreatDoor.W A1 n1 c1 l1) :
    Calls Tryz.prog 125 #[.agg #[.bool s1, .slice A1 n1 c1, .int .i64 e1], .int .i64 p, .bool up] w (Tells (rootR s1 l1 e1 p up) w) := by
  unfold rootR
  by_cases hd : (1 ≤ p ∧ p ≤ 2000) ∧ mayD s1 l1 e1 = true
  · rw [if_pos hd]
    obtain ⟨q, rfl⟩ := Int.eq_ofNat_of_zero_le (show 0 ≤ p by omega)
    obtain ⟨hN, hok, _⟩ := rd_okd h1 hd.2
    by_cases hs : s1 = true
    · rw [if_pos hs]
      exact rroot_neg hT hN hok (by omega) (by omega) hs
    · rw [if_neg hs]
      exact rroot_ok hT hN hok (by omega) (by omega) (Bool.eq_false_iff.2 hs)
  · rw [if_neg hd]
    refine rroot_no hT h1 ?_
    by_cases hp : 1 ≤ p ∧ p ≤ 2000
    · exact .inr (.inr (Bool.eq_false_iff.2 fun h => hd ⟨hp, h⟩))
    · omega

end Go.Proofs.YtcbkhmejlaaieaaGreatDoor
