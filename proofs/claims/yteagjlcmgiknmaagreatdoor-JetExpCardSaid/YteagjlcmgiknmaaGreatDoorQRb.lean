/-
 Plain facts behind calls: all that is known of a world, carried to the world behind a call that made memory, in one step; dyad's contracts for any Dyads that may be, with what follows of their values. No condition.
-/
import Derived.Test.YteagjlcmgiknmaaGreatDoorQDye
import Derived.Test.YteagjlcmgiknmaaGreatDoorQDy3
import Derived.Test.YteagjlcmgiknmaaGreatDoorQRo
namespace Go.Proofs.YteagjlcmgiknmaaGreatDoor
open Go.RowKit

theorem Cel.heap {w w2 : World} {g : Nat} {x : Int} (h : Cel w g x) (he : w2.heap = w.heap) : Cel w2 g x := ⟨by rw [he]; exact h.blk⟩
theorem Cel.next {w W w2 : World} {g : Nat} {x : Int} (h : Cel w g x) (b : Below W.heap.size W w2) (he : W.heap = w.heap) : Cel w2 g x :=
 (h.heap he).below b (by rw [he]; exact h.gl)
theorem Cel.alloc {w : World} {g : Nat} {x : Int} (h : Cel w g x) (o : Obj) : Cel (w.alloc o) g x := h.below (below_alloc w o) h.gl

end Go.Proofs.YteagjlcmgiknmaaGreatDoor

namespace Go.Proofs.YteagjlcmgiknmaaGreatDoor
open Go.RowKit

/-- what p says of the world w, q says of w2, if w2 only holds more memory than w -/
class Moves (w : outParam World) (w2 : World) (p : Prop) (q : outParam Prop) : Prop where
 go : ∀ X : World, Below X.heap.size X w2 → X.heap = w.heap → p → q
section
variable {w w2 : World} {A : Option Addr} {n c m g : Nat} {s : Bool} {e z : Int} {l : List Nat} {p q p' q' : Prop}
instance : Moves w w2 (Tab w) (Tab w2) := ⟨fun _ b e h => h.next b e⟩
instance : Moves w w2 (Nt w A n c m) (Nt w2 A n c m) := ⟨fun _ b e h => h.next b e⟩
instance {k : IntKind} {B : Nat} : Moves w w2 (Rd w k B A n c l) (Rd w2 k B A n c l) := ⟨fun _ b e h => h.next b e⟩
instance : Moves w w2 (Dg w A n c m) (Dg w2 A n c m) := ⟨fun _ b e h => Rd.next h b e⟩
instance : Moves w w2 (Box w g s A n c e) (Box w2 g s A n c e) := ⟨fun _ b e h => h.next b e⟩
instance : Moves w w2 (Cel w g z) (Cel w2 g z) := ⟨fun _ b e h => h.next b e⟩
instance {x : Addr} {v : Value} : Moves w w2 (w.cell? x = some v) (w2.cell? x = some v) := ⟨fun X b e h => by
 have h1 : X.cell? x = some v := by rw [← h]; unfold World.cell?; rw [e]
 exact (b.cell (World.block_lt_of_cell? X _ h1)).trans h1⟩
instance [M : Moves w w2 p q] [M' : Moves w w2 p' q'] : Moves w w2 (p ∧ p') (q ∧ q') := ⟨fun X b e h => ⟨M.go X b e h.1, M'.go X b e h.2⟩⟩
theorem mv {X : World} (b : Below X.heap.size X w2) (e : X.heap = w.heap) (h : p) [M : Moves w w2 p q] : q := M.go X b e h
end

theorem okd_zero : OkD false 0 0 := .inl ⟨rfl, rfl, rfl⟩
theorem nm_okd {s : Bool} {m : Nat} {e k : Int} {s' : Bool} {m' : Nat} {e' : Int} (h : Nm s m e k s' m' e') : OkD s' m' e' := by
 rcases nm_code h with rfl | ⟨_, rfl, rfl, rfl⟩
 ·exact nm_ok h
 ·exact okd_zero
theorem cmpV_cases (V U : Int) : (cmpV V U = -1 ∧ V < U) ∨ (cmpV V U = 0 ∧ V = U) ∨ (cmpV V U = 1 ∧ U < V) := by
 rcases Int.lt_trichotomy V U with h | h | h
 ·exact .inl ⟨cmpV_lt h, h⟩
 ·exact .inr (.inl ⟨cmpV_eq h, h⟩)
 ·exact .inr (.inr ⟨cmpV_gt h, h⟩)
theorem J3 {PA PB PC : Prop} (xA : PA) (xB : PB) (xC : PC) : PA ∧ PB ∧ PC := ⟨xA, xB, xC⟩
theorem J4 {PA PB PC PD : Prop} (xA : PA) (xB : PB) (xC : PC) (xD : PD) : PA ∧ PB ∧ PC ∧ PD := ⟨xA, xB, xC, xD⟩
theorem J5 {PA PB PC PD PE : Prop} (xA : PA) (xB : PB) (xC : PC) (xD : PD) (xE : PE) : PA ∧ PB ∧ PC ∧ PD ∧ PE := ⟨xA, xB, xC, xD, xE⟩
theorem J6 {PA PB PC PD PE PF : Prop} (xA : PA) (xB : PB) (xC : PC) (xD : PD) (xE : PE) (xF : PF) : PA ∧ PB ∧ PC ∧ PD ∧ PE ∧ PF := ⟨xA, xB, xC, xD, xE, xF⟩
theorem J7 {PA PB PC PD PE PF PG : Prop} (xA : PA) (xB : PB) (xC : PC) (xD : PD) (xE : PE) (xF : PF) (xG : PG) : PA ∧ PB ∧ PC ∧ PD ∧ PE ∧ PF ∧ PG := ⟨xA, xB, xC, xD, xE, xF, xG⟩
theorem J8 {PA PB PC PD PE PF PG PH : Prop} (xA : PA) (xB : PB) (xC : PC) (xD : PD) (xE : PE) (xF : PF) (xG : PG) (xH : PH) : PA ∧ PB ∧ PC ∧ PD ∧ PE ∧ PF ∧ PG ∧ PH := ⟨xA, xB, xC, xD, xE, xF, xG, xH⟩
theorem J9 {PA PB PC PD PE PF PG PH PI : Prop} (xA : PA) (xB : PB) (xC : PC) (xD : PD) (xE : PE) (xF : PF) (xG : PG) (xH : PH) (xI : PI) : PA ∧ PB ∧ PC ∧ PD ∧ PE ∧ PF ∧ PG ∧ PH ∧ PI := ⟨xA, xB, xC, xD, xE, xF, xG, xH, xI⟩
theorem J10 {PA PB PC PD PE PF PG PH PI PK : Prop} (xA : PA) (xB : PB) (xC : PC) (xD : PD) (xE : PE) (xF : PF) (xG : PG) (xH : PH) (xI : PI) (xK : PK) : PA ∧ PB ∧ PC ∧ PD ∧ PE ∧ PF ∧ PG ∧ PH ∧ PI ∧ PK := ⟨xA, xB, xC, xD, xE, xF, xG, xH, xI, xK⟩
theorem J11 {PA PB PC PD PE PF PG PH PI PK PL : Prop} (xA : PA) (xB : PB) (xC : PC) (xD : PD) (xE : PE) (xF : PF) (xG : PG) (xH : PH) (xI : PI) (xK : PK) (xL : PL) : PA ∧ PB ∧ PC ∧ PD ∧ PE ∧ PF ∧ PG ∧ PH ∧ PI ∧ PK ∧ PL := ⟨xA, xB, xC, xD, xE, xF, xG, xH, xI, xK, xL⟩
theorem J12 {PA PB PC PD PE PF PG PH PI PK PL PM : Prop} (xA : PA) (xB : PB) (xC : PC) (xD : PD) (xE : PE) (xF : PF) (xG : PG) (xH : PH) (xI : PI) (xK : PK) (xL : PL) (xM : PM) : PA ∧ PB ∧ PC ∧ PD ∧ PE ∧ PF ∧ PG ∧ PH ∧ PI ∧ PK ∧ PL ∧ PM := ⟨xA, xB, xC, xD, xE, xF, xG, xH, xI, xK, xL, xM⟩
theorem J13 {PA PB PC PD PE PF PG PH PI PK PL PM PN : Prop} (xA : PA) (xB : PB) (xC : PC) (xD : PD) (xE : PE) (xF : PF) (xG : PG) (xH : PH) (xI : PI) (xK : PK) (xL : PL) (xM : PM) (xN : PN) : PA ∧ PB ∧ PC ∧ PD ∧ PE ∧ PF ∧ PG ∧ PH ∧ PI ∧ PK ∧ PL ∧ PM ∧ PN := ⟨xA, xB, xC, xD, xE, xF, xG, xH, xI, xK, xL, xM, xN⟩
theorem J14 {PA PB PC PD PE PF PG PH PI PK PL PM PN PO : Prop} (xA : PA) (xB : PB) (xC : PC) (xD : PD) (xE : PE) (xF : PF) (xG : PG) (xH : PH) (xI : PI) (xK : PK) (xL : PL) (xM : PM) (xN : PN) (xO : PO) : PA ∧ PB ∧ PC ∧ PD ∧ PE ∧ PF ∧ PG ∧ PH ∧ PI ∧ PK ∧ PL ∧ PM ∧ PN ∧ PO := ⟨xA, xB, xC, xD, xE, xF, xG, xH, xI, xK, xL, xM, xN, xO⟩
theorem J15 {PA PB PC PD PE PF PG PH PI PK PL PM PN PO PP : Prop} (xA : PA) (xB : PB) (xC : PC) (xD : PD) (xE : PE) (xF : PF) (xG : PG) (xH : PH) (xI : PI) (xK : PK) (xL : PL) (xM : PM) (xN : PN) (xO : PO) (xP : PP) : PA ∧ PB ∧ PC ∧ PD ∧ PE ∧ PF ∧ PG ∧ PH ∧ PI ∧ PK ∧ PL ∧ PM ∧ PN ∧ PO ∧ PP := ⟨xA, xB, xC, xD, xE, xF, xG, xH, xI, xK, xL, xM, xN, xO, xP⟩
theorem J16 {PA PB PC PD PE PF PG PH PI PK PL PM PN PO PP PQ : Prop} (xA : PA) (xB : PB) (xC : PC) (xD : PD) (xE : PE) (xF : PF) (xG : PG) (xH : PH) (xI : PI) (xK : PK) (xL : PL) (xM : PM) (xN : PN) (xO : PO) (xP : PP) (xQ : PQ) : PA ∧ PB ∧ PC ∧ PD ∧ PE ∧ PF ∧ PG ∧ PH ∧ PI ∧ PK ∧ PL ∧ PM ∧ PN ∧ PO ∧ PP ∧ PQ := ⟨xA, xB, xC, xD, xE, xF, xG, xH, xI, xK, xL, xM, xN, xO, xP, xQ⟩
theorem J17 {PA PB PC PD PE PF PG PH PI PK PL PM PN PO PP PQ PR : Prop} (xA : PA) (xB : PB) (xC : PC) (xD : PD) (xE : PE) (xF : PF) (xG : PG) (xH : PH) (xI : PI) (xK : PK) (xL : PL) (xM : PM) (xN : PN) (xO : PO) (xP : PP) (xQ : PQ) (xR : PR) : PA ∧ PB ∧ PC ∧ PD ∧ PE ∧ PF ∧ PG ∧ PH ∧ PI ∧ PK ∧ PL ∧ PM ∧ PN ∧ PO ∧ PP ∧ PQ ∧ PR := ⟨xA, xB, xC, xD, xE, xF, xG, xH, xI, xK, xL, xM, xN, xO, xP, xQ, xR⟩
theorem J18 {PA PB PC PD PE PF PG PH PI PK PL PM PN PO PP PQ PR PS : Prop} (xA : PA) (xB : PB) (xC : PC) (xD : PD) (xE : PE) (xF : PF) (xG : PG) (xH : PH) (xI : PI) (xK : PK) (xL : PL) (xM : PM) (xN : PN) (xO : PO) (xP : PP) (xQ : PQ) (xR : PR) (xS : PS) : PA ∧ PB ∧ PC ∧ PD ∧ PE ∧ PF ∧ PG ∧ PH ∧ PI ∧ PK ∧ PL ∧ PM ∧ PN ∧ PO ∧ PP ∧ PQ ∧ PR ∧ PS := ⟨xA, xB, xC, xD, xE, xF, xG, xH, xI, xK, xL, xM, xN, xO, xP, xQ, xR, xS⟩
theorem J19 {PA PB PC PD PE PF PG PH PI PK PL PM PN PO PP PQ PR PS PT : Prop} (xA : PA) (xB : PB) (xC : PC) (xD : PD) (xE : PE) (xF : PF) (xG : PG) (xH : PH) (xI : PI) (xK : PK) (xL : PL) (xM : PM) (xN : PN) (xO : PO) (xP : PP) (xQ : PQ) (xR : PR) (xS : PS) (xT : PT) : PA ∧ PB ∧ PC ∧ PD ∧ PE ∧ PF ∧ PG ∧ PH ∧ PI ∧ PK ∧ PL ∧ PM ∧ PN ∧ PO ∧ PP ∧ PQ ∧ PR ∧ PS ∧ PT := ⟨xA, xB, xC, xD, xE, xF, xG, xH, xI, xK, xL, xM, xN, xO, xP, xQ, xR, xS, xT⟩
theorem J20 {PA PB PC PD PE PF PG PH PI PK PL PM PN PO PP PQ PR PS PT PU : Prop} (xA : PA) (xB : PB) (xC : PC) (xD : PD) (xE : PE) (xF : PF) (xG : PG) (xH : PH) (xI : PI) (xK : PK) (xL : PL) (xM : PM) (xN : PN) (xO : PO) (xP : PP) (xQ : PQ) (xR : PR) (xS : PS) (xT : PT) (xU : PU) : PA ∧ PB ∧ PC ∧ PD ∧ PE ∧ PF ∧ PG ∧ PH ∧ PI ∧ PK ∧ PL ∧ PM ∧ PN ∧ PO ∧ PP ∧ PQ ∧ PR ∧ PS ∧ PT ∧ PU := ⟨xA, xB, xC, xD, xE, xF, xG, xH, xI, xK, xL, xM, xN, xO, xP, xQ, xR, xS, xT, xU⟩
theorem J21 {PA PB PC PD PE PF PG PH PI PK PL PM PN PO PP PQ PR PS PT PU PV : Prop} (xA : PA) (xB : PB) (xC : PC) (xD : PD) (xE : PE) (xF : PF) (xG : PG) (xH : PH) (xI : PI) (xK : PK) (xL : PL) (xM : PM) (xN : PN) (xO : PO) (xP : PP) (xQ : PQ) (xR : PR) (xS : PS) (xT : PT) (xU : PU) (xV : PV) : PA ∧ PB ∧ PC ∧ PD ∧ PE ∧ PF ∧ PG ∧ PH ∧ PI ∧ PK ∧ PL ∧ PM ∧ PN ∧ PO ∧ PP ∧ PQ ∧ PR ∧ PS ∧ PT ∧ PU ∧ PV := ⟨xA, xB, xC, xD, xE, xF, xG, xH, xI, xK, xL, xM, xN, xO, xP, xQ, xR, xS, xT, xU, xV⟩
theorem J22 {PA PB PC PD PE PF PG PH PI PK PL PM PN PO PP PQ PR PS PT PU PV PW : Prop} (xA : PA) (xB : PB) (xC : PC) (xD : PD) (xE : PE) (xF : PF) (xG : PG) (xH : PH) (xI : PI) (xK : PK) (xL : PL) (xM : PM) (xN : PN) (xO : PO) (xP : PP) (xQ : PQ) (xR : PR) (xS : PS) (xT : PT) (xU : PU) (xV : PV) (xW : PW) : PA ∧ PB ∧ PC ∧ PD ∧ PE ∧ PF ∧ PG ∧ PH ∧ PI ∧ PK ∧ PL ∧ PM ∧ PN ∧ PO ∧ PP ∧ PQ ∧ PR ∧ PS ∧ PT ∧ PU ∧ PV ∧ PW := ⟨xA, xB, xC, xD, xE, xF, xG, xH, xI, xK, xL, xM, xN, xO, xP, xQ, xR, xS, xT, xU, xV, xW⟩
theorem J23 {PA PB PC PD PE PF PG PH PI PK PL PM PN PO PP PQ PR PS PT PU PV PW PX : Prop} (xA : PA) (xB : PB) (xC : PC) (xD : PD) (xE : PE) (xF : PF) (xG : PG) (xH : PH) (xI : PI) (xK : PK) (xL : PL) (xM : PM) (xN : PN) (xO : PO) (xP : PP) (xQ : PQ) (xR : PR) (xS : PS) (xT : PT) (xU : PU) (xV : PV) (xW : PW) (xX : PX) : PA ∧ PB ∧ PC ∧ PD ∧ PE ∧ PF ∧ PG ∧ PH ∧ PI ∧ PK ∧ PL ∧ PM ∧ PN ∧ PO ∧ PP ∧ PQ ∧ PR ∧ PS ∧ PT ∧ PU ∧ PV ∧ PW ∧ PX := ⟨xA, xB, xC, xD, xE, xF, xG, xH, xI, xK, xL, xM, xN, xO, xP, xQ, xR, xS, xT, xU, xV, xW, xX⟩
theorem J24 {PA PB PC PD PE PF PG PH PI PK PL PM PN PO PP PQ PR PS PT PU PV PW PX PY : Prop} (xA : PA) (xB : PB) (xC : PC) (xD : PD) (xE : PE) (xF : PF) (xG : PG) (xH : PH) (xI : PI) (xK : PK) (xL : PL) (xM : PM) (xN : PN) (xO : PO) (xP : PP) (xQ : PQ) (xR : PR) (xS : PS) (xT : PT) (xU : PU) (xV : PV) (xW : PW) (xX : PX) (xY : PY) : PA ∧ PB ∧ PC ∧ PD ∧ PE ∧ PF ∧ PG ∧ PH ∧ PI ∧ PK ∧ PL ∧ PM ∧ PN ∧ PO ∧ PP ∧ PQ ∧ PR ∧ PS ∧ PT ∧ PU ∧ PV ∧ PW ∧ PX ∧ PY := ⟨xA, xB, xC, xD, xE, xF, xG, xH, xI, xK, xL, xM, xN, xO, xP, xQ, xR, xS, xT, xU, xV, xW, xX, xY⟩
end Go.Proofs.YteagjlcmgiknmaaGreatDoor
namespace Go.Proofs.YteagjlcmgiknmaaGreatDoor
open Go.RowKit

def NatIs (x : Nat) (w : World) (e : Ending) (w' : World) : Prop := ∃ A n c, e = .returned (.slice A n c) ∧ Nt w' A n c x ∧ Below w.heap.size w w'
/-- a natural, and whether anything is left behind it -/
def PartIs (x : Nat) (r : Bool) (w : World) (e : Ending) (w' : World) : Prop := ∃ A n c, e = .returned (.tuple #[.slice A n c, .bool r]) ∧ Nt w' A n c x ∧ Below w.heap.size w w'
theorem new_cell (w : World) (cs : Array Value) (t : TypeId) (i : Nat) : (w.alloc (.cells cs t)).cell? ⟨w.heap.size, i, none⟩ = cs[i]? := cell_of_row _ _ i _ t (0, 0) (heap_alloc_new w _)

/-- a block that holds a size's three parts -/
structure Siz (w : World) (g : Nat) (s : Bool) (A : Option Addr) (n c : Nat) (e : Int) : Prop where
 blk : w.heap[g]? = some (.cells #[.slice A n c, .int .i64 e, .bool s] 144 (0, 0))
section
variable {w w' : World} {g : Nat} {s : Bool} {A : Option Addr} {n c : Nat} {e : Int}
theorem Siz.gl (h : Siz w g s A n c e) : g < w.heap.size := by
 rcases Nat.lt_or_ge g w.heap.size with hlt | hge
 ·exact hlt
 ·have := h.blk; rw [Array.getElem?_eq_none hge] at this; cases this
theorem Siz.at (h : Siz w g s A n c e) (i : Nat) : w.cell? ⟨g, i, none⟩ = #[Value.slice A n c, .int .i64 e, .bool s][i]? := cell_of_row w g i _ 144 (0, 0) h.blk
theorem Siz.c0 (h : Siz w g s A n c e) : w.cell? ⟨g, 0, none⟩ = some (.slice A n c) := h.at 0
theorem Siz.c1 (h : Siz w g s A n c e) : w.cell? ⟨g, 1, none⟩ = some (.int .i64 e) := h.at 1
theorem Siz.c2 (h : Siz w g s A n c e) : w.cell? ⟨g, 2, none⟩ = some (.bool s) := h.at 2
theorem Siz.frozen (h : Siz w g s A n c e) (i : Nat) : w.frozen? ⟨g, i, none⟩ = false := by
 have := h.blk
 simp [World.frozen?, this]
theorem Siz.below {b0 : Nat} (h : Siz w g s A n c e) (hb : Below b0 w w') (hg : g < b0) : Siz w' g s A n c e := ⟨(hb.block g hg).trans h.blk⟩
theorem Siz.drew (h : Siz w g s A n c e) : Siz w.drew g s A n c e := ⟨h.blk⟩
theorem Siz.new (w : World) (s : Bool) (A : Option Addr) (n c : Nat) (e : Int) : Siz (w.alloc (.cells #[.slice A n c, .int .i64 e, .bool s] 144)) w.heap.size s A n c e := ⟨heap_alloc_new w _⟩
theorem Siz.alloc (h : Siz w g s A n c e) (o : Obj) : Siz (w.alloc o) g s A n c e := h.below (below_alloc w o) h.gl
/-- no limb lies in such a block -/
theorem Siz.no (h : Siz w g s A n c e) (i x : Nat) : w.cell? ⟨g, i, none⟩ ≠ some (.int .u64 (x : Int)) := by
 rw [h.at i]
 match i with
 | 0 => simp
 | 1 => simp
 | 2 => simp
 | i + 3 => simp
/-- the three parts stored anew -/
theorem Siz.put (h : Siz w g s A n c e) (s' : Bool) (A' : Option Addr) (n' c' : Nat) (e' : Int) : Siz (((w.setCell ⟨g, 0, none⟩ (.slice A' n' c')).setCell ⟨g, 1, none⟩ (.int .i64 e')).setCell ⟨g, 2, none⟩ (.bool s')) g s' A' n' c' e' := by
 have := h.blk
 refine ⟨?_⟩
 simp [World.setCell, Array.getElem?_modify, this]
end
theorem Siz.held {w : World} {g : Nat} {s : Bool} {A : Option Addr} {n c : Nat} {e : Int} (h : Siz w g s A n c e) : w.cell? ⟨g, 0, none⟩ = some (.slice A n c) ∧ w.cell? ⟨g, 1, none⟩ = some (.int .i64 e) ∧ w.cell? ⟨g, 2, none⟩ = some (.bool s) := ⟨h.c0, h.c1, h.c2⟩
theorem Siz.open {w : World} {g : Nat} {s : Bool} {A : Option Addr} {n c : Nat} {e : Int} (h : Siz w g s A n c e) : w.frozen? ⟨g, 0, none⟩ = false ∧ w.frozen? ⟨g, 1, none⟩ = false ∧ w.frozen? ⟨g, 2, none⟩ = false := ⟨h.frozen 0, h.frozen 1, h.frozen 2⟩
theorem Siz.next {w X w2 : World} {g : Nat} {s : Bool} {A : Option Addr} {n c : Nat} {e : Int} (h : Siz w g s A n c e) (b : Below X.heap.size X w2) (he : X.heap = w.heap) : Siz w2 g s A n c e :=
 ⟨(b.block g (by rw [he]; exact h.gl)).trans (by rw [he]; exact h.blk)⟩
theorem Nt.putS {w : World} {g : Nat} {A : Option Addr} {n c y : Nat} {s0 : Bool} {A0 : Option Addr} {n0 c0 : Nat} {e0 : Int} (h : Nt w A n c y) (hb : Siz w g s0 A0 n0 c0 e0) (u0 u1 u2 : Value) : Nt (((w.setCell ⟨g, 0, none⟩ u0).setCell ⟨g, 1, none⟩ u1).setCell ⟨g, 2, none⟩ u2) A n c y := by
 have hne := h.rd.off hb.no
 exact ⟨((h.rd.set1 hne 0 u0).set1 hne 1 u1).set1 hne 2 u2, h.lt⟩

theorem raised_ok {w : World} {A : Option Addr} {n c x s : Nat} (h : Nt w A n c x) (hs : s ≤ 1000000) (hlt : x * 2 ^ s < W ^ 64) :
  Calls Tryz.prog 171 #[.slice A n c, .int .i64 (s : Int)] w (NatIs (x * 2 ^ s) w) := by
 have HLT := Lib.hid hlt
 clear hlt
 go_enter Tryz.func171, Tryz.ntmps171
 go_wp2_with fail
 refine (shl_ok (s := s) h hs HLT.out).mono ?_
 rintro e' w2 ⟨A2, n2, c2, rfl, h2, b⟩
 go_wp2_with fail
 refine natural_ok.mono ?_
 rintro e' w' ⟨rfl, rfl⟩
 go_wp2
 go_ret
 exact ⟨_, _, _, rfl, h2, b⟩
theorem isLow_mod {x k s : Nat} (h : IsLow x k) : x % 2 ^ s ≠ 0 ↔ k < s := by
 obtain ⟨q, hq⟩ := h
 constructor
 ·intro h1
  rcases Nat.lt_or_ge k s with h2 | h2
  ·exact h2
  ·exfalso
   apply h1
   have e1 : x = 2 ^ s * (2 ^ (k - s) * (2 * q + 1)) := by
    rw [hq, ← Nat.mul_assoc, ← Nat.pow_add]
    congr 2; omega
   rw [e1, Nat.mul_mod_right]
 ·intro h1 h2
  have e1 : 2 ^ s = 2 ^ k * (2 * 2 ^ (s - k - 1)) := by
   rw [← Nat.pow_succ', ← Nat.pow_add]; congr 1; omega
  obtain ⟨r, hr⟩ := Nat.dvd_of_mod_eq_zero h2
  rw [hq, e1, Nat.mul_assoc] at hr
  have := Nat.eq_of_mul_eq_mul_left (pow_pos2 k) hr
  rw [Nat.mul_assoc] at this
  omega
theorem scaled_up {w : World} {A : Option Addr} {n c x s : Nat} (h : Nt w A n c x) (hs : s ≤ 1000000) (hlt : x * 2 ^ s < W ^ 64) :
  Calls Tryz.prog 160 #[.slice A n c, .int .i64 (s : Int)] w (PartIs (x * 2 ^ s) false w) := by
 have HLT := Lib.hid hlt
 have d1 : decide ((0 : Int) ≤ (s : Int)) = true := decide_eq_true (by omega)
 clear hlt
 go_enter Tryz.func160, Tryz.ntmps160
 go_wp2_with fail
 refine (raised_ok (s := s) h hs HLT.out).mono ?_
 rintro e' w2 ⟨A2, n2, c2, rfl, h2, b⟩
 go_wp2
 go_ret2
 exact ⟨_, _, _, rfl, h2, b⟩
theorem scaled_down {w : World} {A : Option Addr} {n c x s : Nat} (hT : Tab w) (h : Nt w A n c x) (hs : s ≤ 1000000) (h0 : s ≠ 0 → x ≠ 0) :
  Calls Tryz.prog 160 #[.slice A n c, .int .i64 (-(s : Int))] w (PartIs (x / 2 ^ s) (decide (x % 2 ^ s ≠ 0)) w) := by
 by_cases hs0 : s = 0
 ·subst hs0
  have h1 := scaled_up (s := 0) h (by omega) (by rw [Nat.pow_zero, Nat.mul_one]; exact h.lt)
  rw [Nat.pow_zero, Nat.mul_one] at h1
  rw [Nat.pow_zero, Nat.div_one, Nat.mod_one]
  exact h1
 ·have HX := Lib.hid (h0 hs0)
  have d1 : decide ((0 : Int) ≤ -(s : Int)) = false := decide_eq_false (by omega)
  have hs1 : (s : Int) ≤ 1000000 := by omega
  have hs2 : 0 < (s : Int) := by omega
  clear h0
  go_enter Tryz.func160, Tryz.ntmps160
  go_wp2_with fail
  refine (shr_ok (s := s) h (by omega)).mono ?_
  rintro e' w2 ⟨A2, n2, c2, rfl, h2, b⟩
  have hT2 := hT.next b rfl
  have h3 := h.next b rfl
  clear hT h
  go_wp2_with fail
  refine natural_ok.mono ?_
  rintro e' w' ⟨rfl, rfl⟩
  go_wp2_with fail
  refine (low_nt hT2 h3 HX.out).mono ?_
  rintro e' w' ⟨k, rfl, hk, rfl⟩
  have hm : decide (x % 2 ^ s ≠ 0) = decide (k < s) := decide_eq_decide.2 (isLow_mod hk)
  have hk4 : k ≤ 4096 := by
   have := low_lt hk (m := 64 * 64) (by rw [← W64_pow]; exact h3.lt)
   omega
  have HM := Lib.hid hm
  clear hm hk h3 hT2
  go_wp2
  go_ret2
  exact ⟨_, _, _, by rw [HM.out]; simp, h2, b⟩

theorem must_ok {w : World} {A : Option Addr} {n c m : Nat} {s : Bool} {e : Int} (h : Nt w A n c m) :
  Calls Tryz.prog 76 #[.agg #[.bool s, .slice A n c, .int .i64 e], .int .i64 0] w (Goods s m e w) := by
 have BB := two_below w (.cells #[.bool s, .slice A n c, .int .i64 e] 25) (.cells #[.bool s, .slice A n c, .int .i64 e] 25)
 have h1 := h.below BB
 go_enter Tryz.func76, Tryz.ntmps76
 go_wp2_with fail
 refine check_ok.mono ?_
 rintro e' w' ⟨rfl, rfl⟩
 go_wp2
 exact bodyPost_ret (v := .agg #[.bool s, .slice A n c, .int .i64 e]) (by simp [results, Tryz.results76, go_sem]) rfl ⟨_, _, _, rfl, h1, BB⟩
theorem must_bad {w : World} {A : Option Addr} {n c : Nat} {s : Bool} {e k : Int} (hk : k ≠ 0) :
  Calls Tryz.prog 76 #[.agg #[.bool s, .slice A n c, .int .i64 e], .int .i64 k] w (Faults k w) := by
 have BB := two_below w (.cells #[.bool s, .slice A n c, .int .i64 e] 25) (.cells #[.bool false, .slice none 0 0, .int .i64 0] 25)
 have HK := Lib.hid hk
 clear hk
 go_enter Tryz.func76, Tryz.ntmps76
 go_wp2_with fail
 refine (check_bad HK.out).mono ?_
 rintro e' w' ⟨rfl, rfl⟩
 go_wp2
 exact ⟨rfl, rfl, BB⟩

/-- what cut leaves of x and a rest behind it, as an M -/
def cutR (p x : Nat) (rest u : Bool) : Nat := x / 2 ^ (blen x - p) + if u = true ∧ (rest = true ∨ x % 2 ^ (blen x - p) ≠ 0) then 1 else 0
theorem cutR_lt {p x : Nat} {rest u : Bool} (hp : p ≤ 2000) : x / 2 ^ (blen x - p) + 1 < W ^ 64 ∧ cutR p x rest u < W ^ 64 := by
 have h1 := cut_lt p x
 obtain ⟨j, hj⟩ : ∃ j, j = 64 * 64 := ⟨_, rfl⟩
 have h2 : 2 ^ p * 2 ≤ 2 ^ j := by rw [← Nat.pow_succ]; exact Nat.pow_le_pow_right (by omega) (by omega)
 have h3 := pow_pos2 p
 rw [W64_pow, ← hj]
 have h4 : cutR p x rest u ≤ x / 2 ^ (blen x - p) + 1 := by unfold cutR; split <;> omega
 omega
theorem cutR_false (p x : Nat) (u : Bool) : cutR p x false u = cutN p x u := by
 unfold cutR cutN
 simp
end Go.Proofs.YteagjlcmgiknmaaGreatDoor
set_option maxHeartbeats 8000000
set_option maxRecDepth 100000
namespace Go.Proofs.YteagjlcmgiknmaaGreatDoor
open Go.RowKit

theorem box_one (w : World) (o : Obj) (s : Bool) (A : Option Addr) (n c : Nat) (e : Int) : Box ((w.alloc o).alloc (.cells #[.bool s, .slice A n c, .int .i64 e] 25)) (w.heap.size + 1) s A n c e := by
 have := Box.new (w.alloc o) s A n c e
 simpa using this
theorem nm_fault {s : Bool} {m : Nat} {e k : Int} {s' : Bool} {m' : Nat} {e' : Int} (h : Nm s m e k s' m' e') (hk : k ≠ 0) : (s' = false ∧ m' = 0 ∧ e' = 0) ∧ Nm s m e k false 0 0 := by
 rcases nm_code h with h1 | ⟨_, rfl, rfl, rfl⟩
 ·exact absurd h1 hk
 ·exact ⟨⟨rfl, rfl, rfl⟩, h⟩

theorem cut_any {w : World} {A : Option Addr} {n c x p : Nat} {neg rest up : Bool} {e : Int} (hT : Tab w) (h : Nt w A n c x) (hp' : p ≤ 2000) (he : -10000000 ≤ e) (he' : e ≤ 10000000) :
  Calls Tryz.prog 140 #[.bool neg, .agg #[.slice A n c, .int .i64 e, .bool rest], .int .i64 (p : Int), .bool up] w (Ran (Nm neg (cutR p x rest (up != neg)) (e + ((blen x - p : Nat) : Int))) w) := by
 have hbl := blen_nt h
 obtain ⟨hc1, hc2⟩ := cutR_lt (x := x) (rest := rest) (u := up != neg) hp'
 have HC1 := Lib.hid hc1
 have HC2 := Lib.hid hc2
 have hcut : cutR p x rest (up != neg) = x / 2 ^ (blen x - p) + if (up != neg) = true ∧ (rest = true ∨ x % 2 ^ (blen x - p) ≠ 0) then 1 else 0 := rfl
 have h0 : blen x - p ≠ 0 → x ≠ 0 := fun h1 h2 => h1 (by rw [h2, blen_zero]; omega)
 have hj : max (0 : Int) ((blen x : Int) - (p : Int)) = ((blen x - p : Nat) : Int) := by omega
 have hj4 : blen x - p ≤ 4096 := by omega
 generalize blen x - p = j at *
 generalize cutR p x rest (up != neg) = y at *
 have HX := Lib.hid h0
 have HCUT := Lib.hid hcut
 clear hc1 hc2 h0 hcut
 have BB := two_below w (.cells #[.slice A n c, .int .i64 e, .bool rest] 144) (.cells #[.bool false, .slice none 0 0, .int .i64 0] 25)
 have a0 : (w.alloc (.cells #[.slice A n c, .int .i64 e, .bool rest] 144)).cell? ⟨w.heap.size, 0, none⟩ = some (.slice A n c) := new_cell w _ _ 0
 have a1 : (w.alloc (.cells #[.slice A n c, .int .i64 e, .bool rest] 144)).cell? ⟨w.heap.size, 1, none⟩ = some (.int .i64 e) := new_cell w _ _ 1
 have a2 : (w.alloc (.cells #[.slice A n c, .int .i64 e, .bool rest] 144)).cell? ⟨w.heap.size, 2, none⟩ = some (.bool rest) := new_cell w _ _ 2
 have G := mv (below_alloc (w.alloc (.cells #[.slice A n c, .int .i64 e, .bool rest] 144)) (.cells #[.bool false, .slice none 0 0, .int .i64 0] 25)) rfl <| And.intro a0 <| And.intro a1 a2
 clear a0 a1 a2
 obtain ⟨a0, a1, a2⟩ := G
 have r := box_one w (.cells #[.slice A n c, .int .i64 e, .bool rest] 144) false none 0 0 0
 replace hT := hT.next BB rfl
 replace h := h.next BB rfl
 go_enter Tryz.func140, Tryz.ntmps140
 go_wp2_with fail
 refine (len_nt h).mono ?_
 rintro e' w' ⟨rfl, rfl⟩
 go_wp2_with fail
 refine (scaled_down (s := j) hT h (by omega) HX.out).mono ?_
 rintro e' w1 ⟨A1, n1, c1, rfl, h1, b⟩
 replace BB := bnx BB b
 have G := mv b rfl <| And.intro hT <| And.intro a0 <| And.intro a1 <| And.intro a2 r
 clear b hT h a0 a1 a2 r
 obtain ⟨hT, a0, a1, a2, r⟩ := G
 obtain ⟨lost, hl⟩ : ∃ b : Bool, b = decide (x % 2 ^ j ≠ 0) := ⟨_, rfl⟩
 rw [← hl]
 have hyy : y = x / 2 ^ j + if ((lost || rest) && (up != neg)) = true then 1 else 0 := by
  have h2 := HCUT.out
  rw [h2, hl]
  by_cases h3 : x % 2 ^ j = 0 <;> cases rest <;> cases up <;> cases neg <;> simp [h3]
 have HY := Lib.hid hyy
 clear hl hyy hj HX HCUT
 cases lost <;> cases rest <;> cases up <;> cases neg
 all_goals
  first
  |have hy : y = x / 2 ^ j + 0 := HY.out
   rw [Nat.add_zero] at hy
   rw [← hy] at h1
  |have hy : y = x / 2 ^ j + 1 := HY.out
   go_wp2_with fail
   have b := below_alloc w1 (.cells #[.int .u64 1] 46)
   have hone := nt_one w1 (v := 1) (by omega) (small_W (by omega))
   replace BB := bnx BB b
   have G := mv b rfl <| And.intro hT <| And.intro h1 <| And.intro a0 <| And.intro a1 <| And.intro a2 r
   clear b hT h1 a0 a1 a2 r
   obtain ⟨hT, h1, a0, a1, a2, r⟩ := G
   refine (add_ok h1 hone HC1.out).mono ?_
   rintro e' w2 ⟨A2, n2, c2, rfl, h2, b⟩
   rw [← hy] at h2
   replace BB := bnx BB b
   have G := mv b rfl <| And.intro hT <| And.intro a0 <| And.intro a1 <| And.intro a2 r
   clear b hT h1 a0 a1 a2 r hone
   obtain ⟨hT, a0, a1, a2, r⟩ := G
   have h1 := h2
   clear h2
   go_wp2_with fail
   refine natural_ok.mono ?_
   rintro e' w' ⟨rfl, rfl⟩
 all_goals
  clear hy HY
  go_wp2_with fail
  refine (dnorm_ok hT h1).mono ?_
  rintro e' w3 ⟨k, s3, A3, n3, c3, m3, e3, rfl, hP, h3, b⟩
  have HP := Lib.hid hP
  replace BB := bnx BB b
  replace r := mv b rfl r
  clear b hT h1 a0 a1 a2 hP
  go_wp2_with fail
  by_cases hk : k = 0
  ·subst hk
   refine (must_ok h3).mono ?_
   rintro e' w4 ⟨A4, n4, c4, rfl, h4, b⟩
   replace BB := bnx BB b
   have r := mv b rfl r
   obtain ⟨f0, f1, f2⟩ := r.open
   obtain ⟨z0, z1, z2⟩ := r.held
   clear b h3
   go_wp2
   have q := r.put s3 A4 n4 c4 e3
   have hN := h4.put3 r (.bool s3) (.slice A4 n4 c4) (.int .i64 e3)
   have HB3 := below_put3 (g := w.heap.size + 1) BB (by omega) (.bool s3) (.slice A4 n4 c4) (.int .i64 e3)
   obtain ⟨z0, z1, z2⟩ := q.held
   exact bodyPost_ret (v := .agg #[.bool s3, .slice A4 n4 c4, .int .i64 e3]) (by simp [results, Tryz.results140, go_sem, z0, z1, z2]) rfl (.inl ⟨_, _, _, _, _, _, rfl, HP.out, hN, HB3⟩)
  ·have HK := Lib.hid hk
   refine (must_bad HK.out).mono ?_
   rintro e' w4 ⟨rfl, b⟩
   replace BB := bnx BB b
   obtain ⟨hP2, hP3⟩ := nm_fault HP.out HK.out
   have HP3 := Lib.hid hP3
   clear b hk hP2 hP3
   go_wp2
   exact ⟨rfl, .inr ⟨k, rfl, HK.out, HP3.out, BB⟩⟩
end Go.Proofs.YteagjlcmgiknmaaGreatDoor
