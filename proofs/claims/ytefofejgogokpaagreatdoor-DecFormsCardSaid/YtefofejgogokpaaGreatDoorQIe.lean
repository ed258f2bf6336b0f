/-
 Contracts of ival's May, Within, Inside, Has, Same, at this translation, of any intervals, raw ones too. Condition: the slices read as limbs, the table of math/bits reads as its text lays it.
-/
import Derived.Test.YtefofejgogokpaaGreatDoorQMv
import Derived.Test.YtefofejgogokpaaGreatDoorQRe
import Derived.Test.YtefofejgogokpaaGreatDoorQRf
import Derived.Test.YtefofejgogokpaaGreatDoorQDn
import Derived.OwnWalk
namespace Go.Proofs.YtefofejgogokpaaGreatDoor
open Go.RowKit

/-- a block that holds an interval's parts -/
structure Ibx (w : World) (g : Nat) (s : Bool) (A : Option Addr) (n c : Nat) (e : Int) (t : Bool) (B : Option Addr) (m d : Nat) (f : Int) : Prop where
 blk : w.heap[g]? = some (.cells #[.bool s, .slice A n c, .int .i64 e, .bool t, .slice B m d, .int .i64 f] 27 (0, 0))
section
variable {w w' : World} {g g' b0 : Nat} {s : Bool} {A : Option Addr} {n c : Nat} {e : Int} {t : Bool} {B : Option Addr} {m d : Nat} {f : Int}
theorem Ibx.gl (h : Ibx w g s A n c e t B m d f) : g < w.heap.size := by
 rcases Nat.lt_or_ge g w.heap.size with hlt | hge
 ·exact hlt
 ·have := h.blk; rw [Array.getElem?_eq_none hge] at this; cases this
theorem Ibx.at (h : Ibx w g s A n c e t B m d f) (i : Nat) : w.cell? ⟨g, i, none⟩ = (#[.bool s, .slice A n c, .int .i64 e, .bool t, .slice B m d, .int .i64 f] : Array Value)[i]? := cell_of_row w g i _ 27 (0, 0) h.blk
theorem Ibx.held (h : Ibx w g s A n c e t B m d f) : w.cell? ⟨g, 0, none⟩ = some (.bool s) ∧ w.cell? ⟨g, 1, none⟩ = some (.slice A n c) ∧ w.cell? ⟨g, 2, none⟩ = some (.int .i64 e) ∧ w.cell? ⟨g, 3, none⟩ = some (.bool t) ∧ w.cell? ⟨g, 4, none⟩ = some (.slice B m d) ∧ w.cell? ⟨g, 5, none⟩ = some (.int .i64 f) := ⟨h.at 0, h.at 1, h.at 2, h.at 3, h.at 4, h.at 5⟩
theorem Ibx.frozen (h : Ibx w g s A n c e t B m d f) (i : Nat) : w.frozen? ⟨g, i, none⟩ = false := by
 have := h.blk
 simp [World.frozen?, this]
theorem Ibx.open (h : Ibx w g s A n c e t B m d f) : w.frozen? ⟨g, 0, none⟩ = false ∧ w.frozen? ⟨g, 1, none⟩ = false ∧ w.frozen? ⟨g, 2, none⟩ = false ∧ w.frozen? ⟨g, 3, none⟩ = false ∧ w.frozen? ⟨g, 4, none⟩ = false ∧ w.frozen? ⟨g, 5, none⟩ = false := ⟨h.frozen 0, h.frozen 1, h.frozen 2, h.frozen 3, h.frozen 4, h.frozen 5⟩
theorem Ibx.below (h : Ibx w g s A n c e t B m d f) (hb : Below b0 w w') (hg : g < b0) : Ibx w' g s A n c e t B m d f := ⟨(hb.block g hg).trans h.blk⟩
theorem Ibx.heap (h : Ibx w g s A n c e t B m d f) (he : w'.heap = w.heap) : Ibx w' g s A n c e t B m d f := ⟨by rw [he]; exact h.blk⟩
theorem Ibx.next {X w2 : World} (h : Ibx w g s A n c e t B m d f) (b : Below X.heap.size X w2) (he : X.heap = w.heap) : Ibx w2 g s A n c e t B m d f := (h.heap he).below b (by rw [he]; exact h.gl)
instance {w w2 : World} {g : Nat} {s : Bool} {A : Option Addr} {n c : Nat} {e : Int} {t : Bool} {B : Option Addr} {m d : Nat} {f : Int} : Moves w w2 (Ibx w g s A n c e t B m d f) (Ibx w2 g s A n c e t B m d f) := ⟨fun _ b e h => h.next b e⟩
theorem Ibx.new (w : World) (s : Bool) (A : Option Addr) (n c : Nat) (e : Int) (t : Bool) (B : Option Addr) (m d : Nat) (f : Int) : Ibx (w.alloc (.cells #[.bool s, .slice A n c, .int .i64 e, .bool t, .slice B m d, .int .i64 f] 27)) w.heap.size s A n c e t B m d f := ⟨heap_alloc_new w _⟩
theorem Ibx.alloc (h : Ibx w g s A n c e t B m d f) (o : Obj) : Ibx (w.alloc o) g s A n c e t B m d f := h.below (below_alloc w o) h.gl
theorem Ibx.no (h : Ibx w g s A n c e t B m d f) (i x : Nat) : w.cell? ⟨g, i, none⟩ ≠ some (.int .u64 (x : Int)) := by
 rw [h.at i]
 match i with
 | 0 => simp
 | 1 => simp
 | 2 => simp
 | 3 => simp
 | 4 => simp
 | 5 => simp
 | i + 6 => simp
theorem Ibx.no32 (h : Ibx w g s A n c e t B m d f) (i x : Nat) : w.cell? ⟨g, i, none⟩ ≠ some (.int .u32 (x : Int)) := by
 rw [h.at i]
 match i with
 | 0 => simp
 | 1 => simp
 | 2 => simp
 | 3 => simp
 | 4 => simp
 | 5 => simp
 | i + 6 => simp
/-- the six parts stored anew -/
theorem Ibx.put (h : Ibx w g s A n c e t B m d f) (s' : Bool) (A' : Option Addr) (n' c' : Nat) (e' : Int) (t' : Bool) (B' : Option Addr) (m' d' : Nat) (f' : Int) : Ibx ((((((w.setCell ⟨g, 0, none⟩ (.bool s')).setCell ⟨g, 1, none⟩ (.slice A' n' c')).setCell ⟨g, 2, none⟩ (.int .i64 e')).setCell ⟨g, 3, none⟩ (.bool t')).setCell ⟨g, 4, none⟩ (.slice B' m' d')).setCell ⟨g, 5, none⟩ (.int .i64 f')) g s' A' n' c' e' t' B' m' d' f' := by
 have := h.blk
 refine ⟨?_⟩
 simp [World.setCell, Array.getElem?_modify, this]
theorem Ibx.other (h : Ibx w g s A n c e t B m d f) (hne : g ≠ g') (i : Nat) (u : Value) : Ibx (w.setCell ⟨g', i, none⟩ u) g s A n c e t B m d f := ⟨(Below.heap_setCell w _ u g hne).trans h.blk⟩
theorem Rd.put6 {Q : Nat} {C : Option Addr} {k z : Nat} {l : List Nat} (h : Rd w .u64 Q C k z l) (hb : Ibx w g s A n c e t B m d f) (u0 u1 u2 u3 u4 u5 : Value) : Rd ((((((w.setCell ⟨g, 0, none⟩ u0).setCell ⟨g, 1, none⟩ u1).setCell ⟨g, 2, none⟩ u2).setCell ⟨g, 3, none⟩ u3).setCell ⟨g, 4, none⟩ u4).setCell ⟨g, 5, none⟩ u5) .u64 Q C k z l := by
 have hne := h.off hb.no
 exact (((((h.set1 hne 0 u0).set1 hne 1 u1).set1 hne 2 u2).set1 hne 3 u3).set1 hne 4 u4).set1 hne 5 u5
theorem Nt.put6 {C : Option Addr} {k z y : Nat} (h : Nt w C k z y) (hb : Ibx w g s A n c e t B m d f) (u0 u1 u2 u3 u4 u5 : Value) : Nt ((((((w.setCell ⟨g, 0, none⟩ u0).setCell ⟨g, 1, none⟩ u1).setCell ⟨g, 2, none⟩ u2).setCell ⟨g, 3, none⟩ u3).setCell ⟨g, 4, none⟩ u4).setCell ⟨g, 5, none⟩ u5) C k z y := ⟨h.rd.put6 hb u0 u1 u2 u3 u4 u5, h.lt⟩
theorem below_put6 {w0 : World} (h : Below b0 w0 w) (hg : b0 ≤ g) (u0 u1 u2 u3 u4 u5 : Value) : Below b0 w0 ((((((w.setCell ⟨g, 0, none⟩ u0).setCell ⟨g, 1, none⟩ u1).setCell ⟨g, 2, none⟩ u2).setCell ⟨g, 3, none⟩ u3).setCell ⟨g, 4, none⟩ u4).setCell ⟨g, 5, none⟩ u5) :=
 (((((h.setCell hg u0).setCell hg u1).setCell hg u2).setCell hg u3).setCell hg u4).setCell hg u5
end
end Go.Proofs.YtefofejgogokpaaGreatDoor

namespace Go.Proofs.YtefofejgogokpaaGreatDoor

/-- a dyadic number as it lies in a program's parts -/
structure Rw where
 s : Bool
 l : List Nat
 e : Int
 lt : Lt W l
/-- an interval's two ends -/
structure Iv where
 lo : Rw
 hi : Rw
def Rw.zero : Rw := ⟨false, [], 0, fun x hx => by cases hx⟩
def Iv.zero : Iv := ⟨Rw.zero, Rw.zero⟩
section
variable {K : Nat} {a b d : Rw}
theorem Rw.ext {a b : Rw} (h1 : a.s = b.s) (h2 : a.l = b.l) (h3 : a.e = b.e) : a = b := by
 cases a; cases b; cases h1; cases h2; cases h3; rfl
theorem dig_may {l : List Nat} (h : Lt W l) (hm : mayB l = true) : dig W (val W l) = l := by
 unfold mayB at hm
 simp only [Bool.and_eq_true, Bool.or_eq_true, decide_eq_true_eq] at hm
 exact dig_val W_two ⟨h, fun h0 => hm.2.resolve_left h0⟩
end
section
variable {K : Nat} {a b d : Rw} {x y z : Iv}
/- the same words as the document's answer has them -/
end
end Go.Proofs.YtefofejgogokpaaGreatDoor

namespace Go.Proofs.YtefofejgogokpaaGreatDoor
open Go.RowKit

/-- how one that tells an interval ends -/
def GivI (x : Iv) (w : World) (en : Ending) (w' : World) : Prop := ∃ A n c B m d, en = .returned (.agg #[.bool x.lo.s, .slice A n c, .int .i64 x.lo.e, .bool x.hi.s, .slice B m d, .int .i64 x.hi.e]) ∧ Rd w' .u64 Go.Proofs.YtefofejgogokpaaGreatDoor.W A n c x.lo.l ∧ Rd w' .u64 Go.Proofs.YtefofejgogokpaaGreatDoor.W B m d x.hi.l ∧ Below w.heap.size w w'
/-- how a face ends that tells an interval and a code -/
def TellI (k : Int) (x : Iv) (w : World) (en : Ending) (w' : World) : Prop := ∃ A n c B m d, en = .returned (.tuple #[.agg #[.bool x.lo.s, .slice A n c, .int .i64 x.lo.e, .bool x.hi.s, .slice B m d, .int .i64 x.hi.e], .int .i64 k]) ∧ Rd w' .u64 Go.Proofs.YtefofejgogokpaaGreatDoor.W A n c x.lo.l ∧ Rd w' .u64 Go.Proofs.YtefofejgogokpaaGreatDoor.W B m d x.hi.l ∧ Below w.heap.size w w'
def Bools (b : Bool) (w : World) (en : Ending) (w' : World) : Prop := en = .returned (.bool b) ∧ Below w.heap.size w w'

end Go.Proofs.YtefofejgogokpaaGreatDoor
namespace Go.Proofs.YtefofejgogokpaaGreatDoor
open Go.RowKit

def Iv.at (x : Iv) (hi : Bool) : Rw := if hi then x.hi else x.lo

end Go.Proofs.YtefofejgogokpaaGreatDoor

namespace Go.Proofs.YtefofejgogokpaaGreatDoor
open Go.RowKit

end Go.Proofs.YtefofejgogokpaaGreatDoor
