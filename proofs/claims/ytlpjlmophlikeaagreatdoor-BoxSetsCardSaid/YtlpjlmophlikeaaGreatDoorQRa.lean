/-
 Contracts of round's small inner functions (raised, scaled, check, cut) and of fault.Must for Dyads, at this translation. Condition: the slices read as naturals, the table of math/bits reads as its text lays it.
-/
import Derived.Test.YtlpjlmophlikeaaGreatDoorQDy3
import Derived.Test.YtlpjlmophlikeaaGreatDoorQRe
namespace Go.Proofs.YtlpjlmophlikeaaGreatDoor
open Go.RowKit

theorem new_cell (w : World) (cs : Array Value) (t : TypeId) (i : Nat) : (w.alloc (.cells cs t)).cell? ⟨w.heap.size, i, none⟩ = cs[i]? := cell_of_row _ _ i _ t (0, 0) (heap_alloc_new w _)

/-- a block that holds a size's three parts -/
structure Siz (w : World) (g : Nat) (s : Bool) (A : Option Addr) (n c : Nat) (e : Int) : Prop where
 blk : w.heap[g]? = some (.cells #[.slice A n c, .int .i64 e, .bool s] 156 (0, 0))
section
variable {w w' : World} {g : Nat} {s : Bool} {A : Option Addr} {n c : Nat} {e : Int}
theorem Siz.gl (h : Siz w g s A n c e) : g < w.heap.size := by
 rcases Nat.lt_or_ge g w.heap.size with hlt | hge
 ·exact hlt
 ·have := h.blk; rw [Array.getElem?_eq_none hge] at this; cases this
theorem Siz.at (h : Siz w g s A n c e) (i : Nat) : w.cell? ⟨g, i, none⟩ = #[Value.slice A n c, .int .i64 e, .bool s][i]? := cell_of_row w g i _ 156 (0, 0) h.blk
theorem Siz.c0 (h : Siz w g s A n c e) : w.cell? ⟨g, 0, none⟩ = some (.slice A n c) := h.at 0
theorem Siz.c1 (h : Siz w g s A n c e) : w.cell? ⟨g, 1, none⟩ = some (.int .i64 e) := h.at 1
theorem Siz.c2 (h : Siz w g s A n c e) : w.cell? ⟨g, 2, none⟩ = some (.bool s) := h.at 2
theorem Siz.frozen (h : Siz w g s A n c e) (i : Nat) : w.frozen? ⟨g, i, none⟩ = false := by
 have := h.blk
 simp [World.frozen?, this]
theorem Siz.below {b0 : Nat} (h : Siz w g s A n c e) (hb : Below b0 w w') (hg : g < b0) : Siz w' g s A n c e := ⟨(hb.block g hg).trans h.blk⟩
theorem Siz.drew (h : Siz w g s A n c e) : Siz w.drew g s A n c e := ⟨h.blk⟩
theorem Siz.new (w : World) (s : Bool) (A : Option Addr) (n c : Nat) (e : Int) : Siz (w.alloc (.cells #[.slice A n c, .int .i64 e, .bool s] 156)) w.heap.size s A n c e := ⟨heap_alloc_new w _⟩
theorem Siz.alloc (h : Siz w g s A n c e) (o : Obj) : Siz (w.alloc o) g s A n c e := h.below (below_alloc w o) h.gl
/-- no limb lies in such a block -/
theorem Siz.no (h : Siz w g s A n c e) (i x : Nat) : w.cell? ⟨g, i, none⟩ ≠ some (.int .u64 (x : Int)) := by
 rw [h.at i]
 match i with
 | 0 => simp
 | 1 => simp
 | 2 => simp
 | i + 3 => simp
/-- the three parts stored anew -/
theorem Siz.put (h : Siz w g s A n c e) (s' : Bool) (A' : Option Addr) (n' c' : Nat) (e' : Int) : Siz (((w.setCell ⟨g, 0, none⟩ (.slice A' n' c')).setCell ⟨g, 1, none⟩ (.int .i64 e')).setCell ⟨g, 2, none⟩ (.bool s')) g s' A' n' c' e' := by
 have := h.blk
 refine ⟨?_⟩
 simp [World.setCell, Array.getElem?_modify, this]
end
theorem Siz.held {w : World} {g : Nat} {s : Bool} {A : Option Addr} {n c : Nat} {e : Int} (h : Siz w g s A n c e) : w.cell? ⟨g, 0, none⟩ = some (.slice A n c) ∧ w.cell? ⟨g, 1, none⟩ = some (.int .i64 e) ∧ w.cell? ⟨g, 2, none⟩ = some (.bool s) := ⟨h.c0, h.c1, h.c2⟩
theorem Siz.open {w : World} {g : Nat} {s : Bool} {A : Option Addr} {n c : Nat} {e : Int} (h : Siz w g s A n c e) : w.frozen? ⟨g, 0, none⟩ = false ∧ w.frozen? ⟨g, 1, none⟩ = false ∧ w.frozen? ⟨g, 2, none⟩ = false := ⟨h.frozen 0, h.frozen 1, h.frozen 2⟩
theorem Siz.next {w X w2 : World} {g : Nat} {s : Bool} {A : Option Addr} {n c : Nat} {e : Int} (h : Siz w g s A n c e) (b : Below X.heap.size X w2) (he : X.heap = w.heap) : Siz w2 g s A n c e :=
 ⟨(b.block g (by rw [he]; exact h.gl)).trans (by rw [he]; exact h.blk)⟩
theorem must_ok {w : World} {A : Option Addr} {n c m : Nat} {s : Bool} {e : Int} (h : Nt w A n c m) :
  Calls Tryz.prog 136 #[.agg #[.bool s, .slice A n c, .int .i64 e], .int .i64 0] w (Goods s m e w) := by
 have BB := two_below w (.cells #[.bool s, .slice A n c, .int .i64 e] 27) (.cells #[.bool s, .slice A n c, .int .i64 e] 27)
 have h1 := h.below BB
 go_enter Tryz.func136, Tryz.ntmps136
 go_wp2_with fail
 refine check_ok.mono ?_
 rintro e' w' ⟨rfl, rfl⟩
 go_wp2
 exact bodyPost_ret (v := .agg #[.bool s, .slice A n c, .int .i64 e]) (by simp [results, Tryz.results136, go_sem]) rfl ⟨_, _, _, rfl, h1, BB⟩
end Go.Proofs.YtlpjlmophlikeaaGreatDoor
