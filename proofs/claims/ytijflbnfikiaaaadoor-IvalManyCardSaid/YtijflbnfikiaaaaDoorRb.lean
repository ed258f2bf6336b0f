/-
  Contract of round's cut, at this translation. Condition: the slices read as naturals, the table of math/bits reads as its text lays it.
-/
import Derived.Test.YtijflbnfikiaaaaDoorRa
import Derived.Test.YtijflbnfikiaaaaDoorMv
namespace Go.Proofs.YtijflbnfikiaaaaDoor
open Go.RowKit

theorem box_one (w : World) (o : Obj) (s : Bool) (A : Option Addr) (n c : Nat) (e : Int) : Box ((w.alloc o).alloc (.cells #[.bool s, .slice A n c, .int .i64 e] 24)) (w.heap.size + 1) s A n c e := by
  have := Box.new (w.alloc o) s A n c e
  simpa using this
/-- a box's answer, told -/
theorem ran_mono {P Q : Int → Bool → Nat → Int → Prop} {W : World} {e : Ending} {w' : World} (h : Ran P W e w') (hPQ : ∀ k s m x, P k s m x → Q k s m x) : Ran Q W e w' := by
  rcases h with ⟨s, A, n, c, m, x, h1, h2, h3, h4⟩ | ⟨k, h1, hk, h2, h3⟩
  · exact .inl ⟨s, A, n, c, m, x, h1, hPQ _ _ _ _ h2, h3, h4⟩
  · exact .inr ⟨k, h1, hk, hPQ _ _ _ _ h2, h3⟩

theorem nm_fault {s : Bool} {m : Nat} {e k : Int} {s' : Bool} {m' : Nat} {e' : Int} (h : Nm s m e k s' m' e') (hk : k ≠ 0) : (s' = false ∧ m' = 0 ∧ e' = 0) ∧ Nm s m e k false 0 0 := by
  rcases nm_code h with h1 | ⟨_, rfl, rfl, rfl⟩
  · exact absurd h1 hk
  · exact ⟨⟨rfl, rfl, rfl⟩, h⟩

end Go.Proofs.YtijflbnfikiaaaaDoor
