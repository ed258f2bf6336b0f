/-
 Contract of tape's Lines, at this translation. Condition: the slices read as limbs, the table of math/bits reads as its text lays it.
-/
import Derived.Test.YtlpjlmophlikeaaGreatDoorQTb
import Derived.Test.YtlpjlmophlikeaaGreatDoorQEb
import Derived.Test.YtlpjlmophlikeaaGreatDoorQLb
import Derived.Test.YtlpjlmophlikeaaGreatDoorQIi
import Derived.Test.YtlpjlmophlikeaaGreatDoorQRs
import Derived.Test.YtlpjlmophlikeaaGreatDoorQRj
import Derived.Test.YtlpjlmophlikeaaGreatDoorQIl
import Derived.Test.YtlpjlmophlikeaaGreatDoorQRt
import Derived.Test.YtlpjlmophlikeaaGreatDoorQTm
import Derived.Test.YtlpjlmophlikeaaGreatDoorQLf
import Derived.Test.YtlpjlmophlikeaaGreatDoorQIc
namespace Go.Proofs.YtlpjlmophlikeaaGreatDoor
open Go.RowKit

theorem RowN.same {w w2 : World} {base : Nat} {e : TypeId} {size : Nat} {v : Value} {n : Nat} {xs : List Value} (h : RowN w base e size v n xs) (key : ∀ g, v.ownBlock = some g → w2.heap[g]? = w.heap[g]?) : RowN w2 base e size v n xs := by
 refine ⟨⟨h.1.1, ?_⟩, fun g hg i x => ?_⟩
 ·rcases h.1.2 with h2 | ⟨g, cap, cur, hv, hb, hg, h3⟩
  ·exact .inl h2
  ·exact .inr ⟨g, cap, cur, hv, hb, (key g (by rw [hv]; rfl)).trans hg, h3⟩
 ·have h2 := h.2 g hg i x
  have h3 := key g hg
  unfold World.cell? at h2 ⊢
  simpa [h3] using h2
theorem IRow.put6 {w : World} {base : Nat} {v : Value} {L : List Iv} (h : IRow w base v L) {g : Nat} {s : Bool} {A : Option Addr} {n c : Nat} {e : Int} {t : Bool} {B : Option Addr} {m d : Nat} {f : Int} (r : Ibx w g s A n c e t B m d f) (hne : ∀ k, v.ownBlock = some k → k ≠ g) (u0 u1 u2 u3 u4 u5 : Value) :
  IRow ((((((w.setCell ⟨g, 0, none⟩ u0).setCell ⟨g, 1, none⟩ u1).setCell ⟨g, 2, none⟩ u2).setCell ⟨g, 3, none⟩ u3).setCell ⟨g, 4, none⟩ u4).setCell ⟨g, 5, none⟩ u5) base v L := by
 obtain ⟨xs, h1, h2⟩ := h
 refine ⟨xs, h1.same fun k hk => ?_, h2.mv fun _ _ _ _ hr => hr.put6 r u0 u1 u2 u3 u4 u5⟩
 have ne := hne k hk
 rw [Below.heap_setCell _ ⟨g, 5, none⟩ u5 k ne, Below.heap_setCell _ ⟨g, 4, none⟩ u4 k ne, Below.heap_setCell _ ⟨g, 3, none⟩ u3 k ne, Below.heap_setCell _ ⟨g, 2, none⟩ u2 k ne, Below.heap_setCell _ ⟨g, 1, none⟩ u1 k ne, Below.heap_setCell _ ⟨g, 0, none⟩ u0 k ne]
theorem IRow.lower {w : World} {base b0 : Nat} {v : Value} {L : List Iv} (h : IRow w base v L) (hb : b0 ≤ base) : IRow w b0 v L := by
 obtain ⟨xs, ⟨⟨h1, h2⟩, h3⟩, h4⟩ := h
 refine ⟨xs, ⟨⟨h1, ?_⟩, h3⟩, h4⟩
 rcases h2 with h2 | ⟨g, cap, cur, hv, hb2, h5⟩
 ·exact .inl h2
 ·exact .inr ⟨g, cap, cur, hv, Nat.le_trans hb hb2, h5⟩
end Go.Proofs.YtlpjlmophlikeaaGreatDoor
