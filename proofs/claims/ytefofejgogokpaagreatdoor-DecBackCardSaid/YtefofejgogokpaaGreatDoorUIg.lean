/-
 Contracts of ival's May, Within, Inside, Has, Same, at this translation, of any intervals, raw ones too. Condition: the slices read as limbs, the table of math/bits reads as its text lays it.
-/
import Derived.Test.YtefofejgogokpaaGreatDoorUMv
import Derived.Test.YtefofejgogokpaaGreatDoorURe
import Derived.Test.YtefofejgogokpaaGreatDoorURf
import Derived.Test.YtefofejgogokpaaGreatDoorURRoot
import Derived.OwnWalk
namespace Go.Proofs.YtefofejgogokpaaGreatDoor
open Go.RowKit

/-- a block that holds an interval's parts -/
structure Ibx (w : World) (g : Nat) (s : Bool) (A : Option Addr) (n c : Nat) (e : Int) (t : Bool) (B : Option Addr) (m d : Nat) (f : Int) : Prop where
 blk : w.heap[g]? = some (.cells #[.bool s, .slice A n c, .int .i64 e, .bool t, .slice B m d, .int .i64 f] 27 (0, 0))
section
variable {w w' : World} {g g' b0 : Nat} {s : Bool} {A : Option Addr} {n c : Nat} {e : Int} {t : Bool} {B : Option Addr} {m d : Nat} {f : Int}
theorem Ibx.gl (h : Ibx w g s A n c e t B m d f) : g < w.heap.size := by
 rcases Nat.lt_or_ge g w.heap.size with hlt | hge
 ·exact hlt
 ·have := h.blk; rw [Array.getElem?_eq_none hge] at this; cases this
theorem Ibx.at (h : Ibx w g s A n c e t B m d f) (i : Nat) : w.cell? ⟨g, i, none⟩ = (#[.bool s, .slice A n c, .int .i64 e, .bool t, .slice B m d, .int .i64 f] : Array Value)[i]? := cell_of_row w g i _ 27 (0, 0) h.blk
theorem Ibx.held (h : Ibx w g s A n c e t B m d f) : w.cell? ⟨g, 0, none⟩ = some (.bool s) ∧ w.cell? ⟨g, 1, none⟩ = some (.slice A n c) ∧ w.cell? ⟨g, 2, none⟩ = some (.int .i64 e) ∧ w.cell? ⟨g, 3, none⟩ = some (.bool t) ∧ w.cell? ⟨g, 4, none⟩ = some (.slice B m d) ∧ w.cell? ⟨g, 5, none⟩ = some (.int .i64 f) := ⟨h.at 0, h.at 1, h.at 2, h.at 3, h.at 4, h.at 5⟩
theorem Ibx.frozen (h : Ibx w g s A n c e t B m d f) (i : Nat) : w.frozen? ⟨g, i, none⟩ = false := by
 have := h.blk
 simp [World.frozen?, this]
theorem Ibx.open (h : Ibx w g s A n c e t B m d f) : w.frozen? ⟨g, 0, none⟩ = false ∧ w.frozen? ⟨g, 1, none⟩ = false ∧ w.frozen? ⟨g, 2, none⟩ = false ∧ w.frozen? ⟨g, 3, none⟩ = false ∧ w.frozen? ⟨g, 4, none⟩ = false ∧ w.frozen? ⟨g, 5, none⟩ = false := ⟨h.frozen 0, h.frozen 1, h.frozen 2, h.frozen 3, h.frozen 4, h.frozen 5⟩
theorem Ibx.below (h : Ibx w g s A n c e t B m d f) (hb : Below b0 w w') (hg : g < b0) : Ibx w' g s A n c e t B m d f := ⟨(hb.block g hg).trans h.blk⟩
theorem Ibx.heap (h : Ibx w g s A n c e t B m d f) (he : w'.heap = w.heap) : Ibx w' g s A n c e t B m d f := ⟨by rw [he]; exact h.blk⟩
theorem Ibx.next {X w2 : World} (h : Ibx w g s A n c e t B m d f) (b : Below X.heap.size X w2) (he : X.heap = w.heap) : Ibx w2 g s A n c e t B m d f := (h.heap he).below b (by rw [he]; exact h.gl)
instance {w w2 : World} {g : Nat} {s : Bool} {A : Option Addr} {n c : Nat} {e : Int} {t : Bool} {B : Option Addr} {m d : Nat} {f : Int} : Moves w w2 (Ibx w g s A n c e t B m d f) (Ibx w2 g s A n c e t B m d f) := ⟨fun _ b e h => h.next b e⟩
theorem Ibx.new (w : World) (s : Bool) (A : Option Addr) (n c : Nat) (e : Int) (t : Bool) (B : Option Addr) (m d : Nat) (f : Int) : Ibx (w.alloc (.cells #[.bool s, .slice A n c, .int .i64 e, .bool t, .slice B m d, .int .i64 f] 27)) w.heap.size s A n c e t B m d f := ⟨heap_alloc_new w _⟩
theorem Ibx.alloc (h : Ibx w g s A n c e t B m d f) (o : Obj) : Ibx (w.alloc o) g s A n c e t B m d f := h.below (below_alloc w o) h.gl
theorem Ibx.no (h : Ibx w g s A n c e t B m d f) (i x : Nat) : w.cell? ⟨g, i, none⟩ ≠ some (.int .u64 (x : Int)) := by
 rw [h.at i]
 match i with
 | 0 => simp
 | 1 => simp
 | 2 => simp
 | 3 => simp
 | 4 => simp
 | 5 => simp
 | i + 6 => simp
theorem Ibx.no32 (h : Ibx w g s A n c e t B m d f) (i x : Nat) : w.cell? ⟨g, i, none⟩ ≠ some (.int .u32 (x : Int)) := by
 rw [h.at i]
 match i with
 | 0 => simp
 | 1 => simp
 | 2 => simp
 | 3 => simp
 | 4 => simp
 | 5 => simp
 | i + 6 => simp
/-- the six parts stored anew -/
theorem Ibx.put (h : Ibx w g s A n c e t B m d f) (s' : Bool) (A' : Option Addr) (n' c' : Nat) (e' : Int) (t' : Bool) (B' : Option Addr) (m' d' : Nat) (f' : Int) : Ibx ((((((w.setCell ⟨g, 0, none⟩ (.bool s')).setCell ⟨g, 1, none⟩ (.slice A' n' c')).setCell ⟨g, 2, none⟩ (.int .i64 e')).setCell ⟨g, 3, none⟩ (.bool t')).setCell ⟨g, 4, none⟩ (.slice B' m' d')).setCell ⟨g, 5, none⟩ (.int .i64 f')) g s' A' n' c' e' t' B' m' d' f' := by
 have := h.blk
 refine ⟨?_⟩
 simp [World.setCell, Array.getElem?_modify, this]
theorem Ibx.other (h : Ibx w g s A n c e t B m d f) (hne : g ≠ g') (i : Nat) (u : Value) : Ibx (w.setCell ⟨g', i, none⟩ u) g s A n c e t B m d f := ⟨(Below.heap_setCell w _ u g hne).trans h.blk⟩
theorem Rd.put6 {Q : Nat} {C : Option Addr} {k z : Nat} {l : List Nat} (h : Rd w .u64 Q C k z l) (hb : Ibx w g s A n c e t B m d f) (u0 u1 u2 u3 u4 u5 : Value) : Rd ((((((w.setCell ⟨g, 0, none⟩ u0).setCell ⟨g, 1, none⟩ u1).setCell ⟨g, 2, none⟩ u2).setCell ⟨g, 3, none⟩ u3).setCell ⟨g, 4, none⟩ u4).setCell ⟨g, 5, none⟩ u5) .u64 Q C k z l := by
 have hne := h.off hb.no
 exact (((((h.set1 hne 0 u0).set1 hne 1 u1).set1 hne 2 u2).set1 hne 3 u3).set1 hne 4 u4).set1 hne 5 u5
theorem Nt.put6 {C : Option Addr} {k z y : Nat} (h : Nt w C k z y) (hb : Ibx w g s A n c e t B m d f) (u0 u1 u2 u3 u4 u5 : Value) : Nt ((((((w.setCell ⟨g, 0, none⟩ u0).setCell ⟨g, 1, none⟩ u1).setCell ⟨g, 2, none⟩ u2).setCell ⟨g, 3, none⟩ u3).setCell ⟨g, 4, none⟩ u4).setCell ⟨g, 5, none⟩ u5) C k z y := ⟨h.rd.put6 hb u0 u1 u2 u3 u4 u5, h.lt⟩
theorem below_put6 {w0 : World} (h : Below b0 w0 w) (hg : b0 ≤ g) (u0 u1 u2 u3 u4 u5 : Value) : Below b0 w0 ((((((w.setCell ⟨g, 0, none⟩ u0).setCell ⟨g, 1, none⟩ u1).setCell ⟨g, 2, none⟩ u2).setCell ⟨g, 3, none⟩ u3).setCell ⟨g, 4, none⟩ u4).setCell ⟨g, 5, none⟩ u5) :=
 (((((h.setCell hg u0).setCell hg u1).setCell hg u2).setCell hg u3).setCell hg u4).setCell hg u5
end
end Go.Proofs.YtefofejgogokpaaGreatDoor

namespace Go.Proofs.YtefofejgogokpaaGreatDoor

/-- a dyadic number as it lies in a program's parts -/
structure Rw where
 s : Bool
 l : List Nat
 e : Int
 lt : Lt W l
/-- an interval's two ends -/
structure Iv where
 lo : Rw
 hi : Rw
def Rw.zero : Rw := ⟨false, [], 0, fun x hx => by cases hx⟩
def Iv.zero : Iv := ⟨Rw.zero, Rw.zero⟩
section
variable {K : Nat} {a b d : Rw}
theorem Rw.ext {a b : Rw} (h1 : a.s = b.s) (h2 : a.l = b.l) (h3 : a.e = b.e) : a = b := by
 cases a; cases b; cases h1; cases h2; cases h3; rfl
end
section
variable {K : Nat} {a b d : Rw} {x y z : Iv}
/- the same words as the document's answer has them -/
end
end Go.Proofs.YtefofejgogokpaaGreatDoor

namespace Go.Proofs.YtefofejgogokpaaGreatDoor
open Go.RowKit

/-- how one that tells an interval ends -/
def GivI (x : Iv) (w : World) (en : Ending) (w' : World) : Prop := ∃ A n c B m d, en = .returned (.agg #[.bool x.lo.s, .slice A n c, .int .i64 x.lo.e, .bool x.hi.s, .slice B m d, .int .i64 x.hi.e]) ∧ Rd w' .u64 Go.Proofs.YtefofejgogokpaaGreatDoor.W A n c x.lo.l ∧ Rd w' .u64 Go.Proofs.YtefofejgogokpaaGreatDoor.W B m d x.hi.l ∧ Below w.heap.size w w'
/-- how a face ends that tells an interval and a code -/
def TellI (k : Int) (x : Iv) (w : World) (en : Ending) (w' : World) : Prop := ∃ A n c B m d, en = .returned (.tuple #[.agg #[.bool x.lo.s, .slice A n c, .int .i64 x.lo.e, .bool x.hi.s, .slice B m d, .int .i64 x.hi.e], .int .i64 k]) ∧ Rd w' .u64 Go.Proofs.YtefofejgogokpaaGreatDoor.W A n c x.lo.l ∧ Rd w' .u64 Go.Proofs.YtefofejgogokpaaGreatDoor.W B m d x.hi.l ∧ Below w.heap.size w w'
def Bools (b : Bool) (w : World) (en : Ending) (w' : World) : Prop := en = .returned (.bool b) ∧ Below w.heap.size w w'

end Go.Proofs.YtefofejgogokpaaGreatDoor
namespace Go.Proofs.YtefofejgogokpaaGreatDoor
open Go.RowKit

def Iv.at (x : Iv) (hi : Bool) : Rw := if hi then x.hi else x.lo

end Go.Proofs.YtefofejgogokpaaGreatDoor

namespace Go.Proofs.YtefofejgogokpaaGreatDoor
open Go.RowKit

end Go.Proofs.YtefofejgogokpaaGreatDoor
set_option maxHeartbeats 8000000
set_option maxRecDepth 100000
namespace Go.Proofs.YtefofejgogokpaaGreatDoor
open Go.RowKit


/-- an interval that lies in six cells -/
def IvAt (w : World) (g o : Nat) (x : Iv) : Prop := ∃ A1 n1 c1 A2 n2 c2, (w.cell? ⟨g, o, none⟩ = some (.bool x.lo.s) ∧ w.cell? ⟨g, o + 1, none⟩ = some (.slice A1 n1 c1) ∧ w.cell? ⟨g, o + 2, none⟩ = some (.int .i64 x.lo.e) ∧ w.cell? ⟨g, o + 3, none⟩ = some (.bool x.hi.s) ∧ w.cell? ⟨g, o + 4, none⟩ = some (.slice A2 n2 c2) ∧ w.cell? ⟨g, o + 5, none⟩ = some (.int .i64 x.hi.e)) ∧ Rd w .u64 Go.Proofs.YtefofejgogokpaaGreatDoor.W A1 n1 c1 x.lo.l ∧ Rd w .u64 Go.Proofs.YtefofejgogokpaaGreatDoor.W A2 n2 c2 x.hi.l
theorem IvAt.next {w X w2 : World} {g o : Nat} {x : Iv} (h : IvAt w g o x) (b : Below X.heap.size X w2) (e : X.heap = w.heap) : IvAt w2 g o x := by
 obtain ⟨A1, n1, c1, A2, n2, c2, ⟨h0, h1, h2, h3, h4, h5⟩, r1, r2⟩ := h
 have key : ∀ (p : Addr) (v : Value), w.cell? p = some v → w2.cell? p = some v := fun p v h => by
  have h1 : X.cell? p = some v := by rw [← h]; unfold World.cell?; rw [e]
  exact (b.cell (World.block_lt_of_cell? X _ h1)).trans h1
 exact ⟨A1, n1, c1, A2, n2, c2, ⟨key _ _ h0, key _ _ h1, key _ _ h2, key _ _ h3, key _ _ h4, key _ _ h5⟩, r1.next b e, r2.next b e⟩
instance {w w2 : World} {g o : Nat} {x : Iv} : Moves w w2 (IvAt w g o x) (IvAt w2 g o x) := ⟨fun _ b e h => h.next b e⟩
/-- the intervals that a slice holds -/
def Ivs (w : World) (g o k : Nat) (X : Nat → Iv) : Prop := ∀ i, i < k → IvAt w g (o + i * 6) (X i)
theorem Ivs.next {w Y w2 : World} {g o k : Nat} {X : Nat → Iv} (h : Ivs w g o k X) (b : Below Y.heap.size Y w2) (e : Y.heap = w.heap) : Ivs w2 g o k X := fun i hi => (h i hi).next b e
instance {w w2 : World} {g o k : Nat} {X : Nat → Iv} : Moves w w2 (Ivs w g o k X) (Ivs w2 g o k X) := ⟨fun _ b e h => h.next b e⟩
end Go.Proofs.YtefofejgogokpaaGreatDoor

namespace Go.Proofs.YtefofejgogokpaaGreatDoor
open Go.RowKit


theorem icatch_idle (q : Addr) (w : World) :
  CallsD Tryz.prog 72 #[.pointer (some q)] .returning w fun e u' w' => e = .returned (.tuple #[]) ∧ u' = .returning ∧ w' = w := by
 refine callsD_of_wpS Tryz.func72 rfl fun c₀ cs hu => ?_
 apply wpS_seq
 apply wpS_region
 simp [wpOpsS, go_sem, recoverD, hu, Tryz.ntmps72, Exit.thenS]
 refine wpS_of_wp ?_
 go_wp2
 cases c₀
 simp_all [bodyPostS, results, Tryz.results72]

theorem itold_ok {f : FuncId} {cap : Array Value} {w : World} {x : Iv} (hf : ∀ W2 : World, (callFunc f cap).run Tryz.prog W2 = .ok (.enter f cap) W2) (hc : ∀ W2 : World, Below w.heap.size w W2 → Calls Tryz.prog f cap W2 (GivI x W2)) :
  Calls Tryz.prog 28 #[.func (Fn.func f) #[] cap] w (TellI 0 x w) := by
 have hmf : ∀ (fn : Fn) (first cap : Array Value) (w : World), (Instr.makeFunc fn first cap).run Tryz.prog w = .ok (.func fn first cap) w := fun _ _ _ _ => rfl
 have HC := Lib.hid hc
 clear hc
 have hB : Below w.heap.size w ((w.alloc (.cells #[.bool false, .slice none 0 0, .int .i64 0, .bool false, .slice none 0 0, .int .i64 0] 27)).alloc (.cells #[.int .i64 0] 3)) := (below_alloc w _).trans ((below_alloc _ _).mono (by simp))
 have hbox := (Ibx.new w false none 0 0 0 false none 0 0 0).alloc (.cells #[.int .i64 0] 3)
 have hcel := Cel.new1 w (.cells #[.bool false, .slice none 0 0, .int .i64 0, .bool false, .slice none 0 0, .int .i64 0] 27) 0
 go_enter_defers Tryz.func28, Tryz.ntmps28
 go_wp2_with fail
 refine (HC.out _ hB).mono ?_
 rintro e w' ⟨A, n, c, B, m, d, rfl, hN, hM, hb⟩
 have h1 := hbox.below hb hbox.gl
 have h2 := hcel.below hb hcel.gl
 have HB := hB.trans (hb.mono hB.size)
 obtain ⟨k0, k1, k2, k3, k4, k5⟩ := h1.held
 obtain ⟨f0, f1, f2, f3, f4, f5⟩ := h1.open
 have d0 := h2.c0
 have d1 := h2.frozen 0
 go_wp2
 have p1 := h1.put x.lo.s A n c x.lo.e x.hi.s B m d x.hi.e
 have q1 := p1.other (g' := w.heap.size + 1) (by omega) 0 (.int .i64 0)
 have HB3 := (below_put6 HB (Nat.le_refl _) (.bool x.lo.s) (.slice A n c) (.int .i64 x.lo.e) (.bool x.hi.s) (.slice B m d) (.int .i64 x.hi.e)).setCell (p := ⟨w.heap.size + 1, 0, none⟩) (by simp) (.int .i64 0)
 have q2 := (((((h2.other (g' := w.heap.size) (by omega) 0 (.bool x.lo.s)).other (g' := w.heap.size) (by omega) 1 (.slice A n c)).other (g' := w.heap.size) (by omega) 2 (.int .i64 x.lo.e)).other (g' := w.heap.size) (by omega) 3 (.bool x.hi.s)).other (g' := w.heap.size) (by omega) 4 (.slice B m d)).other (g' := w.heap.size) (by omega) 5 (.int .i64 x.hi.e)
 have hN3 := (hN.put6 h1 (.bool x.lo.s) (.slice A n c) (.int .i64 x.lo.e) (.bool x.hi.s) (.slice B m d) (.int .i64 x.hi.e)).put1 q2 (.int .i64 0)
 have hM3 := (hM.put6 h1 (.bool x.lo.s) (.slice A n c) (.int .i64 x.lo.e) (.bool x.hi.s) (.slice B m d) (.int .i64 x.hi.e)).put1 q2 (.int .i64 0)
 have q3 := q2.put 0
 clear k0 k1 k2 k3 k4 k5 d0 HB hbox hcel hB hb hmf hf HC f0 f1 f2 f3 f4 f5 d1 h1 h2 p1 q2 hN hM
 generalize ((((((w'.setCell ⟨w.heap.size, 0, none⟩ (.bool x.lo.s)).setCell ⟨w.heap.size, 1, none⟩ (.slice A n c)).setCell ⟨w.heap.size, 2, none⟩ (.int .i64 x.lo.e)).setCell ⟨w.heap.size, 3, none⟩ (.bool x.hi.s)).setCell ⟨w.heap.size, 4, none⟩ (.slice B m d)).setCell ⟨w.heap.size, 5, none⟩ (.int .i64 x.hi.e)).setCell ⟨w.heap.size + 1, 0, none⟩ (.int .i64 0) = w3 at *
 obtain ⟨k0, k1, k2, k3, k4, k5⟩ := q1.held
 have d0 := q3.c0
 refine leaves_cons (f := 72) (args := #[.pointer (some ⟨w.heap.size + 1, 0, none⟩)]) (by simp) (by simp [go_sem]) ?_
 refine (icatch_idle ⟨w.heap.size + 1, 0, none⟩ _).mono ?_
 rintro e u' w'' ⟨rfl, rfl, rfl⟩
 simp [Leaves, settle, results, Tryz.results28, go_sem, k0, k1, k2, k3, k4, k5, d0]
 exact ⟨A, n, c, B, m, d, rfl, hN3, hM3, HB3⟩

end Go.Proofs.YtefofejgogokpaaGreatDoor
