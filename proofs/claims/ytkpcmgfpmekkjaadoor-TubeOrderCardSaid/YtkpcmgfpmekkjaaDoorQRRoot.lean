/-
  Contracts of the reference's May and of the statements' helper is, at this translation. Condition: the slices read as limbs, or as digits of sixteen bits.
-/
import Derived.Test.YtkpcmgfpmekkjaaDoorQCaps
import Derived.OwnWalk
namespace Go.Proofs.YtkpcmgfpmekkjaaDoor
open Go.RowKit

theorem nt_of {w : World} {A : Option Addr} {n c : Nat} {l : List Nat} (h : Rd w .u64 W A n c l) (hb : mayB l = true) : Nt w A n c (val W l) ∧ Can W l ∧ n ≤ 64 := by
  unfold mayB at hb
  simp only [Bool.and_eq_true, Bool.or_eq_true, decide_eq_true_eq] at hb
  have hn : n ≤ 64 := by rw [← h.len]; exact hb.1
  have hc : Can W l := ⟨h.lt, fun h0 => hb.2.resolve_left h0⟩
  refine ⟨⟨by rw [dig_val W_two hc]; exact h, ?_⟩, hc, hn⟩
  have h1 := val_lt h.lt
  rw [h.len] at h1
  exact Nat.lt_of_lt_of_le h1 (Nat.pow_le_pow_right (by rw [W_eq]; omega) hn)
end Go.Proofs.YtkpcmgfpmekkjaaDoor

namespace Go.Proofs.YtkpcmgfpmekkjaaDoor
open Go.RowKit

/-- what a call has made by append reads as numbers -/
def Own (base : Nat) (w : World) (e : TypeId) (k : IntKind) (v : Value) (l : List Nat) : Prop := w.ownsRow base e 1 v l.length (iv k l)
theorem Own.nil (base : Nat) (w : World) (e : TypeId) (k : IntKind) : Own base w e k (.slice none 0 0) [] := World.ownsRow_nil ..
theorem Own.rd {base B : Nat} {w : World} {e : TypeId} {k : IntKind} {v : Value} {l : List Nat} (h : Own base w e k v l) (hl : Lt B l) : ∃ A c, v = .slice A l.length c ∧ Rd w k B A l.length c l := by
  by_cases h0 : l.length = 0
  · obtain rfl : l = [] := List.eq_nil_of_length_eq_zero h0
    rcases h.2 with ⟨rfl, _⟩ | ⟨g, cap, cur, rfl, _, _, _, hm, _⟩
    · exact ⟨none, 0, rfl, Rd.nil _ _ _ _ (by omega)⟩
    · exact ⟨some ⟨g, 0, none⟩, cap, rfl, Rd.nil _ _ _ _ (by unfold maxLen at hm; omega)⟩
  · obtain ⟨g, cap, post, rfl, _, hc, hm, hrow⟩ := Row.of_own h h0
    exact ⟨_, _, rfl, hrow.rd hl hc (by unfold maxLen at hm; omega)⟩
theorem Own.below {base : Nat} {w w' : World} {e : TypeId} {k : IntKind} {v : Value} {l : List Nat} (h : Own base w e k v l) (hb : Below w.heap.size w w') : Own base w' e k v l :=
  h.kept (grownBy_below hb none) (by cases hv : v.ownBlock <;> simp)

theorem Own.drew {base : Nat} {w : World} {e : TypeId} {k : IntKind} {v : Value} {l : List Nat} (h : Own base w e k v l) : Own base w.drew e k v l := h
/-- a place of such a row: it reads, is not frozen, and may be stored into -/
theorem Own.store {base : Nat} {w : World} {e : TypeId} {k : IntKind} {v : Value} {l : List Nat} (h : Own base w e k v l) {j : Nat} (hj : j < l.length) : ∃ g cap, v = .slice (some ⟨g, 0, none⟩) l.length cap ∧ base ≤ g ∧ g < w.heap.size ∧ l.length ≤ cap ∧ cap ≤ 9223372036854775807 ∧
    w.cell? ⟨g, j, none⟩ = some (.int k ((l.getD j 0 : Nat) : Int)) ∧ w.frozen? ⟨g, j, none⟩ = false ∧ ∀ y : Nat, Own base (w.setCell ⟨g, j, none⟩ (.int k (y : Int))) e k v (l.set j y) := by
  obtain ⟨g0, cap0, post0, hv0, _, _, _, hrow⟩ := Row.of_own h (by omega)
  rcases h.2 with ⟨_, h0⟩ | ⟨g, cap, cur, hv, hb, hg, hc, hm, hs, ht⟩
  · omega
  · rw [hv] at hv0
    injection hv0 with hv1 _ hv2
    injection hv1 with hv1
    injection hv1 with hv1
    subst hv1 hv2
    have hgl := hrow.gl
    refine ⟨g, cap, hv, hb, hgl, hc, by unfold maxLen at hm; omega, hrow.cell0 hj, hrow.frozen j, fun y => ?_⟩
    unfold Own
    rw [List.length_set]
    refine ⟨by rw [iv_length, List.length_set, Nat.mul_one], .inr ⟨g, cap, cur.setIfInBounds j (.int k (y : Int)), hv, hb, ?_, hc, hm, by simp [hs], ?_⟩⟩
    · simp [World.setCell, Array.getElem?_modify, hg]
    · rw [iv_set, ← ht]
      simp [List.take_set]

/-- a slice that reads as the digits of a number -/
def Dg (w : World) (A : Option Addr) (n c x : Nat) : Prop := Rd w .u32 H A n c (dig H x)
theorem Dg.below {w w' : World} {A : Option Addr} {n c x : Nat} (h : Dg w A n c x) (hb : Below w.heap.size w w') : Dg w' A n c x := Rd.below h hb
end Go.Proofs.YtkpcmgfpmekkjaaDoor

namespace Go.Proofs.YtkpcmgfpmekkjaaDoor
open Go.RowKit

end Go.Proofs.YtkpcmgfpmekkjaaDoor

namespace Go.Proofs.YtkpcmgfpmekkjaaDoor
open Go.RowKit

end Go.Proofs.YtkpcmgfpmekkjaaDoor

namespace Go.Proofs.YtkpcmgfpmekkjaaDoor
open Go.RowKit

end Go.Proofs.YtkpcmgfpmekkjaaDoor
namespace Go.Proofs.YtkpcmgfpmekkjaaDoor
open Go.RowKit

theorem low_lt {x l m : Nat} (h : IsLow x l) (hx : x < 2 ^ m) : l < m := by
  obtain ⟨a, rfl⟩ := h
  rcases Nat.lt_or_ge l m with h1 | h1
  · exact h1
  · exfalso
    have h2 : 2 ^ m ≤ 2 ^ l := Nat.pow_le_pow_right Nat.zero_lt_two h1
    have h3 : 2 ^ l * 1 ≤ 2 ^ l * (2 * a + 1) := Nat.mul_le_mul_left _ (by omega)
    generalize 2 ^ l * (2 * a + 1) = p at *
    generalize 2 ^ l = q at *
    generalize 2 ^ m = r at *
    omega
end Go.Proofs.YtkpcmgfpmekkjaaDoor

namespace Go.Proofs.YtkpcmgfpmekkjaaDoor
open Go.RowKit

theorem Dg.len {w : World} {A : Option Addr} {n c x : Nat} (h : Dg w A n c x) : (dig H x).length = n := Rd.len h
theorem Dg.cap {w : World} {A : Option Addr} {n c x : Nat} (h : Dg w A n c x) : n ≤ c := Rd.cap h
theorem Dg.max {w : World} {A : Option Addr} {n c x : Nat} (h : Dg w A n c x) : c ≤ 9223372036854775807 := Rd.max h
theorem Dg.zero {w : World} {A : Option Addr} {n c x : Nat} (h : Dg w A n c x) : n = 0 ↔ x = 0 := by
  rw [← h.len]; exact dig_len_zero H_two
theorem Dg.lt {w : World} {A : Option Addr} {n c x : Nat} (h : Dg w A n c x) : x < H ^ n := (len_dig H_two x n).1 (by rw [h.len]; exact Nat.le_refl _)

theorem low_has {x : Nat} (h : x ≠ 0) : ∃ k, IsLow x k := by
  induction x using Nat.strongRecOn with
  | ind x ih =>
    by_cases h2 : x % 2 = 1
    · exact ⟨0, x / 2, by rw [Nat.pow_zero]; omega⟩
    · obtain ⟨k, m, hm⟩ := ih (x / 2) (by omega) (by omega)
      exact ⟨k + 1, m, by rw [Nat.pow_succ, Nat.mul_comm (2 ^ k) 2, Nat.mul_assoc, ← hm]; omega⟩

end Go.Proofs.YtkpcmgfpmekkjaaDoor
namespace Go.Proofs.YtkpcmgfpmekkjaaDoor
open Go.RowKit

theorem Dg.nil (w : World) (A : Option Addr) {c : Nat} (hc : c ≤ 9223372036854775807) : Dg w A 0 c 0 := by unfold Dg; rw [dig_zero]; exact Rd.nil _ _ _ _ hc

end Go.Proofs.YtkpcmgfpmekkjaaDoor

namespace Go.Proofs.YtkpcmgfpmekkjaaDoor
open Go.RowKit

end Go.Proofs.YtkpcmgfpmekkjaaDoor

namespace Go.Proofs.YtkpcmgfpmekkjaaDoor
open Go.RowKit

theorem low_bad {w : World} {A : Option Addr} {n c : Nat} {l : List Nat} (h : Rd w .u64 W A n c l) (hb : mayB l = false) : Calls Tryd.prog 23 #[.slice A n c] w fun e w' => e = .returned (.int .i64 (-1)) ∧ w = w' := by
  go_enter Tryd.func23, Tryd.ntmps23
  go_wp2
  go_step3
  go_wp2_with fail
  refine (may_no h hb).mono ?_
  rintro e w' ⟨rfl, rfl⟩
  go_wp2
  rw [Exit.noGoto_ret]
  go_ret
  exact ⟨rfl, rfl⟩
theorem shl_nought {w : World} {A : Option Addr} {c s : Nat} (h : Nt w A 0 c 0) :
    Calls Tryd.prog 67 #[.slice A 0 c, .int .i64 s] w fun e w' => e = .returned (.tuple #[.slice none 0 0, .int .i64 0]) ∧ w = w' := by
  go_enter Tryd.func67, Tryd.ntmps67
  go_wp2_with fail
  refine (may_nt h).mono ?_
  rintro e w' ⟨rfl, rfl⟩
  go_wp2
  go_ret2
  exact ⟨rfl, rfl⟩
end Go.Proofs.YtkpcmgfpmekkjaaDoor
namespace Go.Proofs.YtkpcmgfpmekkjaaDoor
open Go.RowKit

/-- what nat tells of a number that may have too many limbs -/
def Is (w : World) (A : Option Addr) (n c : Nat) (k : Int) (x : Nat) : Prop := (Nt w A n c x ∧ k = 0) ∨ (n = 0 ∧ k = 2 ∧ W ^ 64 ≤ x)
theorem Is.below {w w' : World} {A : Option Addr} {n c x : Nat} {k : Int} (h : Is w A n c k x) (hb : Below w.heap.size w w') : Is w' A n c k x := by
  rcases h with ⟨h1, h2⟩ | h2
  · exact .inl ⟨h1.below hb, h2⟩
  · exact .inr h2
theorem cmp_swap (x y : Nat) : cmpN y x = - cmpN x y ∧ -1 ≤ cmpN x y ∧ cmpN x y ≤ 1 ∧ (cmpN x y < 0 ↔ x < y) := by
  rcases Nat.lt_trichotomy x y with h | h | h
  · rw [cmpN_lt h, cmpN_gt h]; omega
  · rw [cmpN_eq h, cmpN_eq h.symm]; omega
  · rw [cmpN_gt h, cmpN_lt h]; omega

end Go.Proofs.YtkpcmgfpmekkjaaDoor
namespace Go.Proofs.YtkpcmgfpmekkjaaDoor
open Go.RowKit

theorem Own.blk {base g N cap i : Nat} {w : World} {e : TypeId} {k : IntKind} {l : List Nat} (h : Own base w e k (.slice (some ⟨g, 0, none⟩) N cap) l) (hi : i < N) (hl : l.length = N) : g < w.heap.size := by
  obtain ⟨g', cap', post, hv, _, _, _, hrow⟩ := Row.of_own h (by omega)
  injection hv with hv1 _ _
  injection hv1 with hv1
  injection hv1 with hv1
  subst hv1
  exact hrow.gl

end Go.Proofs.YtkpcmgfpmekkjaaDoor

namespace Go.Proofs.YtkpcmgfpmekkjaaDoor
open Go.RowKit

end Go.Proofs.YtkpcmgfpmekkjaaDoor
