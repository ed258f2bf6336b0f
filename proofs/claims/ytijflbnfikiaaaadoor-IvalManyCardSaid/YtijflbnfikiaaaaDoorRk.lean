/-
  Contract of round's check, at this translation: it panics as ErrArg just if a number of bits or one of the Dyads may not be. Condition: the slices read as limbs, the table of math/bits reads as its text lays it.
-/
import Derived.Test.YtijflbnfikiaaaaDoorDy3
namespace Go.Proofs.YtijflbnfikiaaaaDoor
open Go.RowKit

/-- the Dyads that a slice holds -/
structure Dys (w : World) (g k : Nat) (S : Nat → Bool) (A : Nat → Option Addr) (N C : Nat → Nat) (E : Nat → Int) (L : Nat → List Nat) : Prop where
  c0 : ∀ i, i < k → w.cell? ⟨g, i * 3, none⟩ = some (.bool (S i))
  c1 : ∀ i, i < k → w.cell? ⟨g, i * 3 + 1, none⟩ = some (.slice (A i) (N i) (C i))
  c2 : ∀ i, i < k → w.cell? ⟨g, i * 3 + 2, none⟩ = some (.int .i64 (E i))
  rd : ∀ i, i < k → Rd w .u64 W (A i) (N i) (C i) (L i)
theorem Dys.next {w X w2 : World} {g k : Nat} {S : Nat → Bool} {A : Nat → Option Addr} {N C : Nat → Nat} {E : Nat → Int} {L : Nat → List Nat} (h : Dys w g k S A N C E L) (b : Below X.heap.size X w2) (e : X.heap = w.heap) : Dys w2 g k S A N C E L := by
  have key : ∀ (x : Addr) (v : Value), w.cell? x = some v → w2.cell? x = some v := fun x v h => by
    have h1 : X.cell? x = some v := by rw [← h]; unfold World.cell?; rw [e]
    exact (b.cell (World.block_lt_of_cell? X _ h1)).trans h1
  exact ⟨fun i hi => key _ _ (h.c0 i hi), fun i hi => key _ _ (h.c1 i hi), fun i hi => key _ _ (h.c2 i hi), fun i hi => (h.rd i hi).next b e⟩

end Go.Proofs.YtijflbnfikiaaaaDoor
