/-
  Contracts of round's faces (Down, Up, Quot, Root, Bits) and of the closures within them, at this translation. Condition: the slices read as limbs, the table of math/bits reads as its text lays it.
-/
import Derived.Test.YtijflbnfikiaaaaDoorRb
import Derived.Test.YtijflbnfikiaaaaDoorRd
import Derived.Test.YtijflbnfikiaaaaDoorRk
namespace Go.Proofs.YtijflbnfikiaaaaDoor
open Go.RowKit

theorem dys_one {w : World} {g : Nat} {s : Bool} {A : Option Addr} {n c : Nat} {e : Int} {l : List Nat} (h : Box w g s A n c e) (hr : Rd w .u64 W A n c l) : Dys w g 1 (fun _ => s) (fun _ => A) (fun _ => n) (fun _ => c) (fun _ => e) (fun _ => l) :=
  ⟨fun i hi => by obtain rfl : i = 0 := by omega
                  exact h.c0,
   fun i hi => by obtain rfl : i = 0 := by omega
                  exact h.c1,
   fun i hi => by obtain rfl : i = 0 := by omega
                  exact h.c2, fun _ _ => hr⟩
theorem dys_two {w : World} {s1 s2 : Bool} {A1 A2 : Option Addr} {n1 c1 n2 c2 : Nat} {e1 e2 : Int} {l1 l2 : List Nat} (h1 : Rd w .u64 W A1 n1 c1 l1) (h2 : Rd w .u64 W A2 n2 c2 l2) :
    Dys (w.alloc (.cells #[.bool s1, .slice A1 n1 c1, .int .i64 e1, .bool s2, .slice A2 n2 c2, .int .i64 e2] 24)) w.heap.size 2 (fun i => if i = 0 then s1 else s2) (fun i => if i = 0 then A1 else A2) (fun i => if i = 0 then n1 else n2) (fun i => if i = 0 then c1 else c2) (fun i => if i = 0 then e1 else e2) (fun i => if i = 0 then l1 else l2) := by
  have b := below_alloc w (.cells #[.bool s1, .slice A1 n1 c1, .int .i64 e1, .bool s2, .slice A2 n2 c2, .int .i64 e2] 24)
  refine ⟨fun i hi => ?_, fun i hi => ?_, fun i hi => ?_, fun i hi => ?_⟩
  all_goals
    rcases (show i = 0 ∨ i = 1 by omega) with rfl | rfl
  · exact new_cell w _ _ 0
  · exact new_cell w _ _ 3
  · exact new_cell w _ _ 1
  · exact new_cell w _ _ 4
  · exact new_cell w _ _ 2
  · exact new_cell w _ _ 5
  · exact h1.next b rfl
  · exact h2.next b rfl
/-- what is told of a number rounded to p bits -/
def RdTold (s : Bool) (x : Nat) (e : Int) (p : Nat) (up : Bool) : Int → Bool → Nat → Int → Prop := Nm s (rdN p x (up != s)) e
theorem rd_told {s : Bool} {x : Nat} {e : Int} {p : Nat} {u : Bool} {k : Int} {s' : Bool} {m' : Nat} {e' : Int} (he : -1048576 ≤ e) (h : Nm s (cutR p x false u) (e + ((blen x - p : Nat) : Int)) k s' m' e') : Nm s (rdN p x u) e k s' m' e' := by
  obtain ⟨K, hK⟩ := scale_has
  rw [cutR_false] at h
  refine nm_congr (K := K) (by omega) (by omega) ?_ h
  rw [vz_up (by omega)]
  rfl

end Go.Proofs.YtijflbnfikiaaaaDoor
