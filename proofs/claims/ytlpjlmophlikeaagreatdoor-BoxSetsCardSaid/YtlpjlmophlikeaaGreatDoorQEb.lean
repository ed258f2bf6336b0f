/-
 Contracts of expo's near numbers: more, lowered, raised, divided, times, over, plus, between, at this translation. Condition: the slices read as limbs, the table of math/bits reads as its text lays it.
-/
import Derived.Test.YtlpjlmophlikeaaGreatDoorQIi
import Derived.Test.YtlpjlmophlikeaaGreatDoorQRs
import Derived.Test.YtlpjlmophlikeaaGreatDoorQRj
import Derived.Test.YtlpjlmophlikeaaGreatDoorQIl
namespace Go.Proofs.YtlpjlmophlikeaaGreatDoor
open Go.RowKit

/-- a block that holds a near's three parts -/
structure Nrb (w : World) (g : Nat) (A : Option Addr) (n c : Nat) (B : Option Addr) (m d : Nat) (e : Int) : Prop where
 blk : w.heap[g]? = some (.cells #[.slice A n c, .slice B m d, .int .i64 e] 160 (0, 0))
section
variable {w w' : World} {g : Nat} {A : Option Addr} {n c : Nat} {B : Option Addr} {m d : Nat} {e : Int}
theorem Nrb.gl (h : Nrb w g A n c B m d e) : g < w.heap.size := by
 rcases Nat.lt_or_ge g w.heap.size with hlt | hge
 ·exact hlt
 ·have := h.blk; rw [Array.getElem?_eq_none hge] at this; cases this
theorem Nrb.at (h : Nrb w g A n c B m d e) (i : Nat) : w.cell? ⟨g, i, none⟩ = #[Value.slice A n c, .slice B m d, .int .i64 e][i]? := cell_of_row w g i _ 160 (0, 0) h.blk
theorem Nrb.held (h : Nrb w g A n c B m d e) : w.cell? ⟨g, 0, none⟩ = some (.slice A n c) ∧ w.cell? ⟨g, 1, none⟩ = some (.slice B m d) ∧ w.cell? ⟨g, 2, none⟩ = some (.int .i64 e) := ⟨h.at 0, h.at 1, h.at 2⟩
theorem Nrb.frozen (h : Nrb w g A n c B m d e) (i : Nat) : w.frozen? ⟨g, i, none⟩ = false := by
 have := h.blk
 simp [World.frozen?, this]
theorem Nrb.open (h : Nrb w g A n c B m d e) : w.frozen? ⟨g, 0, none⟩ = false ∧ w.frozen? ⟨g, 1, none⟩ = false ∧ w.frozen? ⟨g, 2, none⟩ = false := ⟨h.frozen 0, h.frozen 1, h.frozen 2⟩
theorem Nrb.below {b0 : Nat} (h : Nrb w g A n c B m d e) (hb : Below b0 w w') (hg : g < b0) : Nrb w' g A n c B m d e := ⟨(hb.block g hg).trans h.blk⟩
theorem Nrb.new (w : World) (A : Option Addr) (n c : Nat) (B : Option Addr) (m d : Nat) (e : Int) : Nrb (w.alloc (.cells #[.slice A n c, .slice B m d, .int .i64 e] 160)) w.heap.size A n c B m d e := ⟨heap_alloc_new w _⟩
theorem Nrb.alloc (h : Nrb w g A n c B m d e) (o : Obj) : Nrb (w.alloc o) g A n c B m d e := h.below (below_alloc w o) h.gl
theorem Nrb.no (h : Nrb w g A n c B m d e) (i x : Nat) : w.cell? ⟨g, i, none⟩ ≠ some (.int .u64 (x : Int)) := by
 rw [h.at i]
 match i with
 | 0 => simp
 | 1 => simp
 | 2 => simp
 | i + 3 => simp
theorem Nrb.put (h : Nrb w g A n c B m d e) (A' : Option Addr) (n' c' : Nat) (B' : Option Addr) (m' d' : Nat) (e' : Int) : Nrb (((w.setCell ⟨g, 0, none⟩ (.slice A' n' c')).setCell ⟨g, 1, none⟩ (.slice B' m' d')).setCell ⟨g, 2, none⟩ (.int .i64 e')) g A' n' c' B' m' d' e' := by
 have := h.blk
 refine ⟨?_⟩
 simp [World.setCell, Array.getElem?_modify, this]
theorem Nrb.next {w2 X : World} (h : Nrb w g A n c B m d e) (b : Below X.heap.size X w2) (he : X.heap = w.heap) : Nrb w2 g A n c B m d e :=
 ⟨(b.block g (by rw [he]; exact h.gl)).trans (by rw [he]; exact h.blk)⟩
instance {w w2 : World} {g : Nat} {A : Option Addr} {n c : Nat} {B : Option Addr} {m d : Nat} {e : Int} : Moves w w2 (Nrb w g A n c B m d e) (Nrb w2 g A n c B m d e) := ⟨fun _ b e h => h.next b e⟩
theorem Nrb.other {g' : Nat} (h : Nrb w g A n c B m d e) (hne : g ≠ g') (u0 u1 u2 : Value) : Nrb (((w.setCell ⟨g', 0, none⟩ u0).setCell ⟨g', 1, none⟩ u1).setCell ⟨g', 2, none⟩ u2) g A n c B m d e :=
 ⟨(Below.heap_setCell _ _ u2 g hne).trans ((Below.heap_setCell _ _ u1 g hne).trans ((Below.heap_setCell w _ u0 g hne).trans h.blk))⟩
theorem Nrb.at_ {w : World} {g : Nat} (hg : w.heap.size = g) (A : Option Addr) (n c : Nat) (B : Option Addr) (m d : Nat) (e : Int) : Nrb (w.alloc (.cells #[.slice A n c, .slice B m d, .int .i64 e] 160)) g A n c B m d e := by
 subst hg
 exact Nrb.new w A n c B m d e
end
end Go.Proofs.YtlpjlmophlikeaaGreatDoor
