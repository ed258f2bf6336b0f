/-
 Contracts of ival's ends and check, of fault's Told of an interval, and of asked, at this translation. Condition: the slices read as limbs, the table of math/bits reads as its text lays it.
-/
import Derived.Test.YtdhdebapjlcjdaaGreatDoorUIc
import Derived.Test.YtdhdebapjlcjdaaGreatDoorURf
import Derived.OwnWalk
import Derived.Test.YtdhdebapjlcjdaaGreatDoorURa
namespace Go.Proofs.YtdhdebapjlcjdaaGreatDoor
open Go.RowKit

def Iv.at (x : Iv) (hi : Bool) : Rw := if hi then x.hi else x.lo

end Go.Proofs.YtdhdebapjlcjdaaGreatDoor

namespace Go.Proofs.YtdhdebapjlcjdaaGreatDoor
open Go.RowKit

end Go.Proofs.YtdhdebapjlcjdaaGreatDoor
set_option maxHeartbeats 8000000
set_option maxRecDepth 100000
namespace Go.Proofs.YtdhdebapjlcjdaaGreatDoor
open Go.RowKit


/-- an interval that lies in six cells -/
def IvAt (w : World) (g o : Nat) (x : Iv) : Prop := ∃ A1 n1 c1 A2 n2 c2, (w.cell? ⟨g, o, none⟩ = some (.bool x.lo.s) ∧ w.cell? ⟨g, o + 1, none⟩ = some (.slice A1 n1 c1) ∧ w.cell? ⟨g, o + 2, none⟩ = some (.int .i64 x.lo.e) ∧ w.cell? ⟨g, o + 3, none⟩ = some (.bool x.hi.s) ∧ w.cell? ⟨g, o + 4, none⟩ = some (.slice A2 n2 c2) ∧ w.cell? ⟨g, o + 5, none⟩ = some (.int .i64 x.hi.e)) ∧ Rd w .u64 Go.Proofs.YtdhdebapjlcjdaaGreatDoor.W A1 n1 c1 x.lo.l ∧ Rd w .u64 Go.Proofs.YtdhdebapjlcjdaaGreatDoor.W A2 n2 c2 x.hi.l
theorem IvAt.next {w X w2 : World} {g o : Nat} {x : Iv} (h : IvAt w g o x) (b : Below X.heap.size X w2) (e : X.heap = w.heap) : IvAt w2 g o x := by
 obtain ⟨A1, n1, c1, A2, n2, c2, ⟨h0, h1, h2, h3, h4, h5⟩, r1, r2⟩ := h
 have key : ∀ (p : Addr) (v : Value), w.cell? p = some v → w2.cell? p = some v := fun p v h => by
  have h1 : X.cell? p = some v := by rw [← h]; unfold World.cell?; rw [e]
  exact (b.cell (World.block_lt_of_cell? X _ h1)).trans h1
 exact ⟨A1, n1, c1, A2, n2, c2, ⟨key _ _ h0, key _ _ h1, key _ _ h2, key _ _ h3, key _ _ h4, key _ _ h5⟩, r1.next b e, r2.next b e⟩
instance {w w2 : World} {g o : Nat} {x : Iv} : Moves w w2 (IvAt w g o x) (IvAt w2 g o x) := ⟨fun _ b e h => h.next b e⟩
/-- the intervals that a slice holds -/
def Ivs (w : World) (g o k : Nat) (X : Nat → Iv) : Prop := ∀ i, i < k → IvAt w g (o + i * 6) (X i)
theorem Ivs.next {w Y w2 : World} {g o k : Nat} {X : Nat → Iv} (h : Ivs w g o k X) (b : Below Y.heap.size Y w2) (e : Y.heap = w.heap) : Ivs w2 g o k X := fun i hi => (h i hi).next b e
instance {w w2 : World} {g o k : Nat} {X : Nat → Iv} : Moves w w2 (Ivs w g o k X) (Ivs w2 g o k X) := ⟨fun _ b e h => h.next b e⟩
end Go.Proofs.YtdhdebapjlcjdaaGreatDoor

namespace Go.Proofs.YtdhdebapjlcjdaaGreatDoor
open Go.RowKit


theorem icatch_idle (q : Addr) (w : World) :
  CallsD Tryz.prog 48 #[.pointer (some q)] .returning w fun e u' w' => e = .returned (.tuple #[]) ∧ u' = .returning ∧ w' = w := by
 refine callsD_of_wpS Tryz.func48 rfl fun c₀ cs hu => ?_
 apply wpS_seq
 apply wpS_region
 simp [wpOpsS, go_sem, recoverD, hu, Tryz.ntmps48, Exit.thenS]
 refine wpS_of_wp ?_
 go_wp2
 cases c₀
 simp_all [bodyPostS, results, Tryz.results48]

theorem icatch_fault {q : Nat} {x k : Int} {older : List PanicEntry} {w : World} (hc : Cel w q x) :
  CallsD Tryz.prog 48 #[.pointer (some ⟨q, 0, none⟩)] (.panicking ({ v := .iface 68 (.int .i64 k), recovered := false } :: older)) w fun e u' w' =>
   e = .returned (.tuple #[]) ∧ u' = .panicking ({ v := .iface 68 (.int .i64 k), recovered := true } :: older) ∧
   w' = w.setCell ⟨q, 0, none⟩ (.int .i64 k) := by
 have d0 := hc.c0
 have d1 := hc.frozen 0
 have hta : ∀ w : World, (Instr.typeAssert (Value.iface 68 (.int .i64 k)) 20 68 true).run Tryz.prog w = .ok (.tuple #[.int .i64 k, .bool true]) w := fault_is k
 refine callsD_of_wpS Tryz.func48 rfl fun c₀ cs hu => ?_
 apply wpS_seq
 apply wpS_region
 simp [wpOpsS, go_sem, recoverD, hu, Tryz.ntmps48, Exit.thenS]
 refine wpS_of_wp ?_
 go_wp2
 clear d0 d1 hta
 simp [bodyPostS, results, Tryz.results48]


theorem itold_ok {f : FuncId} {cap : Array Value} {w : World} {x : Iv} (hf : ∀ W2 : World, (callFunc f cap).run Tryz.prog W2 = .ok (.enter f cap) W2) (hc : ∀ W2 : World, Below w.heap.size w W2 → Calls Tryz.prog f cap W2 (GivI x W2)) :
  Calls Tryz.prog 18 #[.func (Fn.func f) #[] cap] w (TellI 0 x w) := by
 have hmf : ∀ (fn : Fn) (first cap : Array Value) (w : World), (Instr.makeFunc fn first cap).run Tryz.prog w = .ok (.func fn first cap) w := fun _ _ _ _ => rfl
 have HC := Lib.hid hc
 clear hc
 have hB : Below w.heap.size w ((w.alloc (.cells #[.bool false, .slice none 0 0, .int .i64 0, .bool false, .slice none 0 0, .int .i64 0] 27)).alloc (.cells #[.int .i64 0] 3)) := (below_alloc w _).trans ((below_alloc _ _).mono (by simp))
 have hbox := (Ibx.new w false none 0 0 0 false none 0 0 0).alloc (.cells #[.int .i64 0] 3)
 have hcel := Cel.new1 w (.cells #[.bool false, .slice none 0 0, .int .i64 0, .bool false, .slice none 0 0, .int .i64 0] 27) 0
 go_enter_defers Tryz.func18, Tryz.ntmps18
 go_wp2_with fail
 refine (HC.out _ hB).mono ?_
 rintro e w' ⟨A, n, c, B, m, d, rfl, hN, hM, hb⟩
 have h1 := hbox.below hb hbox.gl
 have h2 := hcel.below hb hcel.gl
 have HB := hB.trans (hb.mono hB.size)
 obtain ⟨k0, k1, k2, k3, k4, k5⟩ := h1.held
 obtain ⟨f0, f1, f2, f3, f4, f5⟩ := h1.open
 have d0 := h2.c0
 have d1 := h2.frozen 0
 go_wp2
 have p1 := h1.put x.lo.s A n c x.lo.e x.hi.s B m d x.hi.e
 have q1 := p1.other (g' := w.heap.size + 1) (by omega) 0 (.int .i64 0)
 have HB3 := (below_put6 HB (Nat.le_refl _) (.bool x.lo.s) (.slice A n c) (.int .i64 x.lo.e) (.bool x.hi.s) (.slice B m d) (.int .i64 x.hi.e)).setCell (p := ⟨w.heap.size + 1, 0, none⟩) (by simp) (.int .i64 0)
 have q2 := (((((h2.other (g' := w.heap.size) (by omega) 0 (.bool x.lo.s)).other (g' := w.heap.size) (by omega) 1 (.slice A n c)).other (g' := w.heap.size) (by omega) 2 (.int .i64 x.lo.e)).other (g' := w.heap.size) (by omega) 3 (.bool x.hi.s)).other (g' := w.heap.size) (by omega) 4 (.slice B m d)).other (g' := w.heap.size) (by omega) 5 (.int .i64 x.hi.e)
 have hN3 := (hN.put6 h1 (.bool x.lo.s) (.slice A n c) (.int .i64 x.lo.e) (.bool x.hi.s) (.slice B m d) (.int .i64 x.hi.e)).put1 q2 (.int .i64 0)
 have hM3 := (hM.put6 h1 (.bool x.lo.s) (.slice A n c) (.int .i64 x.lo.e) (.bool x.hi.s) (.slice B m d) (.int .i64 x.hi.e)).put1 q2 (.int .i64 0)
 have q3 := q2.put 0
 clear k0 k1 k2 k3 k4 k5 d0 HB hbox hcel hB hb hmf hf HC f0 f1 f2 f3 f4 f5 d1 h1 h2 p1 q2 hN hM
 generalize ((((((w'.setCell ⟨w.heap.size, 0, none⟩ (.bool x.lo.s)).setCell ⟨w.heap.size, 1, none⟩ (.slice A n c)).setCell ⟨w.heap.size, 2, none⟩ (.int .i64 x.lo.e)).setCell ⟨w.heap.size, 3, none⟩ (.bool x.hi.s)).setCell ⟨w.heap.size, 4, none⟩ (.slice B m d)).setCell ⟨w.heap.size, 5, none⟩ (.int .i64 x.hi.e)).setCell ⟨w.heap.size + 1, 0, none⟩ (.int .i64 0) = w3 at *
 obtain ⟨k0, k1, k2, k3, k4, k5⟩ := q1.held
 have d0 := q3.c0
 refine leaves_cons (f := 48) (args := #[.pointer (some ⟨w.heap.size + 1, 0, none⟩)]) (by simp) (by simp [go_sem]) ?_
 refine (icatch_idle ⟨w.heap.size + 1, 0, none⟩ _).mono ?_
 rintro e u' w'' ⟨rfl, rfl, rfl⟩
 simp [Leaves, settle, results, Tryz.results18, go_sem, k0, k1, k2, k3, k4, k5, d0]
 exact ⟨A, n, c, B, m, d, rfl, hN3, hM3, HB3⟩

theorem itold_no {k : Int} {f : FuncId} {cap : Array Value} {w : World} (hf : ∀ W2 : World, (callFunc f cap).run Tryz.prog W2 = .ok (.enter f cap) W2) (hc : ∀ W2 : World, Below w.heap.size w W2 → Calls Tryz.prog f cap W2 (Faults k W2)) :
  Calls Tryz.prog 18 #[.func (Fn.func f) #[] cap] w (TellI k Iv.zero w) := by
 have hmf : ∀ (fn : Fn) (first cap : Array Value) (w : World), (Instr.makeFunc fn first cap).run Tryz.prog w = .ok (.func fn first cap) w := fun _ _ _ _ => rfl
 have HC := Lib.hid hc
 clear hc
 have hB : Below w.heap.size w ((w.alloc (.cells #[.bool false, .slice none 0 0, .int .i64 0, .bool false, .slice none 0 0, .int .i64 0] 27)).alloc (.cells #[.int .i64 0] 3)) := (below_alloc w _).trans ((below_alloc _ _).mono (by simp))
 have hbox := (Ibx.new w false none 0 0 0 false none 0 0 0).alloc (.cells #[.int .i64 0] 3)
 have hcel := Cel.new1 w (.cells #[.bool false, .slice none 0 0, .int .i64 0, .bool false, .slice none 0 0, .int .i64 0] 27) 0
 go_enter_defers Tryz.func18, Tryz.ntmps18
 go_wp2_with fail
 refine (HC.out _ hB).mono ?_
 rintro e w' ⟨rfl, hb⟩
 have h1 := hbox.below hb hbox.gl
 have h2 := hcel.below hb hcel.gl
 have HB := hB.trans (hb.mono hB.size)
 go_wp2
 have q1 := h1.other (g' := w.heap.size + 1) (by omega) 0 (.int .i64 k)
 have HB3 := HB.setCell (p := ⟨w.heap.size + 1, 0, none⟩) (by simp) (.int .i64 k)
 have q3 := h2.put k
 obtain ⟨k0, k1, k2, k3, k4, k5⟩ := q1.held
 have d0 := q3.c0
 clear HB hbox hcel hB hb hmf hf HC q1 q3 h1
 refine leaves_cons (f := 48) (args := #[.pointer (some ⟨w.heap.size + 1, 0, none⟩)]) (by simp) (by simp [go_sem]) ?_
 refine (icatch_fault (k := k) (older := []) h2).mono ?_
 rintro e u' w'' ⟨rfl, rfl, rfl⟩
 clear h2
 generalize w'.setCell ⟨w.heap.size + 1, 0, none⟩ (.int .i64 k) = w3 at *
 simp [Leaves, settle, results, Tryz.results18, go_sem, k0, k1, k2, k3, k4, k5, d0]
 exact ⟨none, 0, 0, none, 0, 0, rfl, Rd.nil _ _ _ _ (by omega), Rd.nil _ _ _ _ (by omega), HB3⟩

end Go.Proofs.YtdhdebapjlcjdaaGreatDoor
set_option maxHeartbeats 8000000
set_option maxRecDepth 100000
namespace Go.Proofs.YtdhdebapjlcjdaaGreatDoor
open Go.RowKit

theorem rsamei_any {w : World} {x y : Iv} {A1 : Option Addr} {n1 c1 : Nat} {A2 : Option Addr} {n2 c2 : Nat} {A3 : Option Addr} {n3 c3 : Nat} {A4 : Option Addr} {n4 c4 : Nat} (h1 : Rd w .u64 Go.Proofs.YtdhdebapjlcjdaaGreatDoor.W A1 n1 c1 x.lo.l) (h2 : Rd w .u64 Go.Proofs.YtdhdebapjlcjdaaGreatDoor.W A2 n2 c2 x.hi.l) (h3 : Rd w .u64 Go.Proofs.YtdhdebapjlcjdaaGreatDoor.W A3 n3 c3 y.lo.l) (h4 : Rd w .u64 Go.Proofs.YtdhdebapjlcjdaaGreatDoor.W A4 n4 c4 y.hi.l) :
  Calls Tryz.prog 12 #[.agg #[.bool x.lo.s, .slice A1 n1 c1, .int .i64 x.lo.e, .bool x.hi.s, .slice A2 n2 c2, .int .i64 x.hi.e], .agg #[.bool y.lo.s, .slice A3 n3 c3, .int .i64 y.lo.e, .bool y.hi.s, .slice A4 n4 c4, .int .i64 y.hi.e]] w (Bools (sameI x y) w) := by
 obtain ⟨BB, xa, xb⟩ := two_ivl w (x := x) (y := y) (A1 := A1) (n1 := n1) (c1 := c1) (A2 := A2) (n2 := n2) (c2 := c2) (A3 := A3) (n3 := n3) (c3 := c3) (A4 := A4) (n4 := n4) (c4 := c4) 
 obtain ⟨a0, a1, a2, a3, a4, a5⟩ := xa.held
 obtain ⟨b0, b1, b2, b3, b4, b5⟩ := xb.held
 clear xa xb
 have G := mv BB rfl (J4 h1 h2 h3 h4)
 clear h1 h2 h3 h4
 obtain ⟨h1, h2, h3, h4⟩ := G
 obtain ⟨p1, hp1⟩ : ∃ p, p = sameQ x.lo y.lo := ⟨_, rfl⟩
 obtain ⟨p2, hp2⟩ : ∃ p, p = sameQ x.hi y.hi := ⟨_, rfl⟩
 have HP1 := Lib.hid hp1
 have HP2 := Lib.hid hp2
 unfold sameI
 rw [← hp1, ← hp2]
 clear hp1 hp2
 go_enter Tryz.func12, Tryz.ntmps12
 go_wp2_with fail
 refine (rsame_raw (s := x.lo.s) (t := y.lo.s) (e := x.lo.e) (f := y.lo.e) h1 h3).mono ?_
 rintro en w1 ⟨rfl, b⟩
 have e1 : sameB x.lo.s y.lo.s x.lo.l y.lo.l x.lo.e y.lo.e = p1 := HP1.out.symm
 rw [e1]
 clear e1 HP1
 replace BB := bnx BB b
 have G := mv b rfl (J16 a0 a1 a2 a3 a4 a5 b0 b1 b2 b3 b4 b5 h1 h2 h3 h4)
 clear b a0 a1 a2 a3 a4 a5 b0 b1 b2 b3 b4 b5 h1 h2 h3 h4
 obtain ⟨a0, a1, a2, a3, a4, a5, b0, b1, b2, b3, b4, b5, h1, h2, h3, h4⟩ := G
 cases p1
 ·go_wp2
  go_ret
  exact ⟨by first | rfl | simp, BB⟩
 go_wp2_with fail
 refine (rsame_raw (s := x.hi.s) (t := y.hi.s) (e := x.hi.e) (f := y.hi.e) h2 h4).mono ?_
 rintro en w2 ⟨rfl, b⟩
 have e1 : sameB x.hi.s y.hi.s x.hi.l y.hi.l x.hi.e y.hi.e = p2 := HP2.out.symm
 rw [e1]
 clear e1 HP2
 replace BB := bnx BB b
 have G := mv b rfl (J16 a0 a1 a2 a3 a4 a5 b0 b1 b2 b3 b4 b5 h1 h2 h3 h4)
 clear b a0 a1 a2 a3 a4 a5 b0 b1 b2 b3 b4 b5 h1 h2 h3 h4
 obtain ⟨a0, a1, a2, a3, a4, a5, b0, b1, b2, b3, b4, b5, h1, h2, h3, h4⟩ := G
 go_wp2
 go_ret
 exact ⟨by first | rfl | simp, BB⟩

end Go.Proofs.YtdhdebapjlcjdaaGreatDoor

namespace Go.Proofs.YtdhdebapjlcjdaaGreatDoor
open Go.RowKit

end Go.Proofs.YtdhdebapjlcjdaaGreatDoor

namespace Go.Proofs.YtdhdebapjlcjdaaGreatDoor
open Go.RowKit

end Go.Proofs.YtdhdebapjlcjdaaGreatDoor
