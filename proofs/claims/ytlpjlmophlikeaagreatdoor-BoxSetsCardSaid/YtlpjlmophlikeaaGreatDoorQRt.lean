/-
 Contract of round's check, at this translation: it panics as ErrArg just if a number of bits or one of the Dyads may not be. Condition: the slices read as limbs, the table of math/bits reads as its text lays it.
-/
import Derived.Test.YtlpjlmophlikeaaGreatDoorQDy3
import Derived.Test.YtlpjlmophlikeaaGreatDoorQRa
import Derived.Test.YtlpjlmophlikeaaGreatDoorQMv
import Derived.Test.YtlpjlmophlikeaaGreatDoorQCaps
namespace Go.Proofs.YtlpjlmophlikeaaGreatDoor
open Go.RowKit

/-- the Dyads that a slice holds -/
structure Dys (w : World) (g k : Nat) (S : Nat → Bool) (A : Nat → Option Addr) (N C : Nat → Nat) (E : Nat → Int) (L : Nat → List Nat) : Prop where
 c0 : ∀ i, i < k → w.cell? ⟨g, i * 3, none⟩ = some (.bool (S i))
 c1 : ∀ i, i < k → w.cell? ⟨g, i * 3 + 1, none⟩ = some (.slice (A i) (N i) (C i))
 c2 : ∀ i, i < k → w.cell? ⟨g, i * 3 + 2, none⟩ = some (.int .i64 (E i))
 rd : ∀ i, i < k → Rd w .u64 W (A i) (N i) (C i) (L i)
theorem Dys.next {w X w2 : World} {g k : Nat} {S : Nat → Bool} {A : Nat → Option Addr} {N C : Nat → Nat} {E : Nat → Int} {L : Nat → List Nat} (h : Dys w g k S A N C E L) (b : Below X.heap.size X w2) (e : X.heap = w.heap) : Dys w2 g k S A N C E L := by
 have key : ∀ (x : Addr) (v : Value), w.cell? x = some v → w2.cell? x = some v := fun x v h => by
  have h1 : X.cell? x = some v := by rw [← h]; unfold World.cell?; rw [e]
  exact (b.cell (World.block_lt_of_cell? X _ h1)).trans h1
 exact ⟨fun i hi => key _ _ (h.c0 i hi), fun i hi => key _ _ (h.c1 i hi), fun i hi => key _ _ (h.c2 i hi), fun i hi => (h.rd i hi).next b e⟩

end Go.Proofs.YtlpjlmophlikeaaGreatDoor
namespace Go.Proofs.YtlpjlmophlikeaaGreatDoor
open Go.RowKit

theorem box_one (w : World) (o : Obj) (s : Bool) (A : Option Addr) (n c : Nat) (e : Int) : Box ((w.alloc o).alloc (.cells #[.bool s, .slice A n c, .int .i64 e] 27)) (w.heap.size + 1) s A n c e := by
 have := Box.new (w.alloc o) s A n c e
 simpa using this
end Go.Proofs.YtlpjlmophlikeaaGreatDoor
namespace Go.Proofs.YtlpjlmophlikeaaGreatDoor
open Go.RowKit

instance {w w2 : World} {g : Nat} {s : Bool} {A : Option Addr} {n c : Nat} {e : Int} : Moves w w2 (Siz w g s A n c e) (Siz w2 g s A n c e) := ⟨fun _ b e h => h.next b e⟩
end Go.Proofs.YtlpjlmophlikeaaGreatDoor
namespace Go.Proofs.YtlpjlmophlikeaaGreatDoor
open Go.RowKit

end Go.Proofs.YtlpjlmophlikeaaGreatDoor

namespace Go.Proofs.YtlpjlmophlikeaaGreatDoor
open Go.RowKit

theorem box_at {w : World} {g : Nat} (hg : w.heap.size = g) (s : Bool) (A : Option Addr) (n c : Nat) (e : Int) : Box (w.alloc (.cells #[.bool s, .slice A n c, .int .i64 e] 27)) g s A n c e := by
 subst hg
 exact Box.new w s A n c e
end Go.Proofs.YtlpjlmophlikeaaGreatDoor

namespace Go.Proofs.YtlpjlmophlikeaaGreatDoor
open Go.RowKit

theorem nt_one_at {w : World} {g v : Nat} (hg : w.heap.size = g) (h0 : v ≠ 0) (hv : v < 100) : Nt (w.alloc (.cells #[.int .u64 (v : Int)] 60)) (some ⟨g, 0, none⟩) 1 1 v := by
 subst hg
 exact nt_one w h0 (small_W hv)
theorem okd_small {m : Nat} {e : Int} (h1 : m % 2 = 1) (h2 : m < 100) (h3 : -1048576 ≤ e) (h4 : e ≤ 1048576) : OkD false m e := .inr ⟨h1, small64 h2, h3, h4⟩
end Go.Proofs.YtlpjlmophlikeaaGreatDoor
