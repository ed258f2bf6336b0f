/-
 Contracts of the reference's May and of the statements' helper is, at this translation. Condition: the slices read as limbs, or as digits of sixteen bits.
-/
import Derived.Test.YtlpjlmophlikeaaGreatDoorQCaps
import Derived.OwnWalk
namespace Go.Proofs.YtlpjlmophlikeaaGreatDoor
open Go.RowKit

theorem nt_of {w : World} {A : Option Addr} {n c : Nat} {l : List Nat} (h : Rd w .u64 W A n c l) (hb : mayB l = true) : Nt w A n c (val W l) ∧ Can W l ∧ n ≤ 64 := by
 unfold mayB at hb
 simp only [Bool.and_eq_true, Bool.or_eq_true, decide_eq_true_eq] at hb
 have hn : n ≤ 64 := by rw [← h.len]; exact hb.1
 have hc : Can W l := ⟨h.lt, fun h0 => hb.2.resolve_left h0⟩
 refine ⟨⟨by rw [dig_val W_two hc]; exact h, ?_⟩, hc, hn⟩
 have h1 := val_lt h.lt
 rw [h.len] at h1
 exact Nat.lt_of_lt_of_le h1 (Nat.pow_le_pow_right (by rw [W_eq]; omega) hn)
end Go.Proofs.YtlpjlmophlikeaaGreatDoor

namespace Go.Proofs.YtlpjlmophlikeaaGreatDoor
open Go.RowKit

/-- what a call has made by append reads as numbers -/
def Own (base : Nat) (w : World) (e : TypeId) (k : IntKind) (v : Value) (l : List Nat) : Prop := w.ownsRow base e 1 v l.length (iv k l)
theorem Own.nil (base : Nat) (w : World) (e : TypeId) (k : IntKind) : Own base w e k (.slice none 0 0) [] := World.ownsRow_nil ..
theorem Own.rd {base B : Nat} {w : World} {e : TypeId} {k : IntKind} {v : Value} {l : List Nat} (h : Own base w e k v l) (hl : Lt B l) : ∃ A c, v = .slice A l.length c ∧ Rd w k B A l.length c l := by
 by_cases h0 : l.length = 0
 ·obtain rfl : l = [] := List.eq_nil_of_length_eq_zero h0
  rcases h.2 with ⟨rfl, _⟩ | ⟨g, cap, cur, rfl, _, _, _, hm, _⟩
  ·exact ⟨none, 0, rfl, Rd.nil _ _ _ _ (by omega)⟩
  ·exact ⟨some ⟨g, 0, none⟩, cap, rfl, Rd.nil _ _ _ _ (by unfold maxLen at hm; omega)⟩
 ·obtain ⟨g, cap, post, rfl, _, hc, hm, hrow⟩ := Row.of_own h h0
  exact ⟨_, _, rfl, hrow.rd hl hc (by unfold maxLen at hm; omega)⟩
theorem Own.below {base : Nat} {w w' : World} {e : TypeId} {k : IntKind} {v : Value} {l : List Nat} (h : Own base w e k v l) (hb : Below w.heap.size w w') : Own base w' e k v l :=
 h.kept (grownBy_below hb none) (by cases hv : v.ownBlock <;> simp)

theorem Own.drew {base : Nat} {w : World} {e : TypeId} {k : IntKind} {v : Value} {l : List Nat} (h : Own base w e k v l) : Own base w.drew e k v l := h
/-- a slice that reads as the digits of a number -/
def Dg (w : World) (A : Option Addr) (n c x : Nat) : Prop := Rd w .u32 H A n c (dig H x)
theorem Dg.below {w w' : World} {A : Option Addr} {n c x : Nat} (h : Dg w A n c x) (hb : Below w.heap.size w w') : Dg w' A n c x := Rd.below h hb
end Go.Proofs.YtlpjlmophlikeaaGreatDoor

namespace Go.Proofs.YtlpjlmophlikeaaGreatDoor
open Go.RowKit

end Go.Proofs.YtlpjlmophlikeaaGreatDoor

namespace Go.Proofs.YtlpjlmophlikeaaGreatDoor
open Go.RowKit

end Go.Proofs.YtlpjlmophlikeaaGreatDoor

namespace Go.Proofs.YtlpjlmophlikeaaGreatDoor
open Go.RowKit

end Go.Proofs.YtlpjlmophlikeaaGreatDoor
