/-
 Plain facts behind calls: all that is known of a world, carried to the world behind a call that made memory, in one step; dyad's contracts for any Dyads that may be, with what follows of their values. No condition.
-/
import Derived.Test.YtdhdebapjlcjdaaGreatDoorUDye
namespace Go.Proofs.YtdhdebapjlcjdaaGreatDoor
open Go.RowKit

theorem Cel.heap {w w2 : World} {g : Nat} {x : Int} (h : Cel w g x) (he : w2.heap = w.heap) : Cel w2 g x := ⟨by rw [he]; exact h.blk⟩
theorem Cel.next {w W w2 : World} {g : Nat} {x : Int} (h : Cel w g x) (b : Below W.heap.size W w2) (he : W.heap = w.heap) : Cel w2 g x :=
 (h.heap he).below b (by rw [he]; exact h.gl)
theorem Cel.alloc {w : World} {g : Nat} {x : Int} (h : Cel w g x) (o : Obj) : Cel (w.alloc o) g x := h.below (below_alloc w o) h.gl

end Go.Proofs.YtdhdebapjlcjdaaGreatDoor

namespace Go.Proofs.YtdhdebapjlcjdaaGreatDoor
open Go.RowKit

/-- what p says of the world w, q says of w2, if w2 only holds more memory than w -/
class Moves (w : outParam World) (w2 : World) (p : Prop) (q : outParam Prop) : Prop where
 go : ∀ X : World, Below X.heap.size X w2 → X.heap = w.heap → p → q
section
variable {w w2 : World} {A : Option Addr} {n c m g : Nat} {s : Bool} {e z : Int} {l : List Nat} {p q p' q' : Prop}
instance : Moves w w2 (Tab w) (Tab w2) := ⟨fun _ b e h => h.next b e⟩
instance : Moves w w2 (Nt w A n c m) (Nt w2 A n c m) := ⟨fun _ b e h => h.next b e⟩
instance {k : IntKind} {B : Nat} : Moves w w2 (Rd w k B A n c l) (Rd w2 k B A n c l) := ⟨fun _ b e h => h.next b e⟩
instance : Moves w w2 (Dg w A n c m) (Dg w2 A n c m) := ⟨fun _ b e h => Rd.next h b e⟩
instance : Moves w w2 (Box w g s A n c e) (Box w2 g s A n c e) := ⟨fun _ b e h => h.next b e⟩
instance : Moves w w2 (Cel w g z) (Cel w2 g z) := ⟨fun _ b e h => h.next b e⟩
instance {x : Addr} {v : Value} : Moves w w2 (w.cell? x = some v) (w2.cell? x = some v) := ⟨fun X b e h => by
 have h1 : X.cell? x = some v := by rw [← h]; unfold World.cell?; rw [e]
 exact (b.cell (World.block_lt_of_cell? X _ h1)).trans h1⟩
instance [M : Moves w w2 p q] [M' : Moves w w2 p' q'] : Moves w w2 (p ∧ p') (q ∧ q') := ⟨fun X b e h => ⟨M.go X b e h.1, M'.go X b e h.2⟩⟩
theorem mv {X : World} (b : Below X.heap.size X w2) (e : X.heap = w.heap) (h : p) [M : Moves w w2 p q] : q := M.go X b e h
end

theorem okd_zero : OkD false 0 0 := .inl ⟨rfl, rfl, rfl⟩
theorem nm_okd {s : Bool} {m : Nat} {e k : Int} {s' : Bool} {m' : Nat} {e' : Int} (h : Nm s m e k s' m' e') : OkD s' m' e' := by
 rcases nm_code h with rfl | ⟨_, rfl, rfl, rfl⟩
 ·exact nm_ok h
 ·exact okd_zero
/-- are two Dyads the same in all parts? -/
theorem dsame_any {w : World} {A B : Option Addr} {n c m d x y : Nat} {s t : Bool} {e f : Int} (h : Nt w A n c x) (h' : Nt w B m d y) :
  Calls Tryz.prog 16 #[.agg #[.bool s, .slice A n c, .int .i64 e], .agg #[.bool t, .slice B m d, .int .i64 f]] w fun en w' => en = .returned (.bool (decide (s = t ∧ x = y ∧ e = f))) ∧ Below w.heap.size w w' := by
 by_cases h1 : s = t ∧ e = f
 ·obtain ⟨rfl, rfl⟩ := h1
  have h2 : decide (dig W x = dig W y) = decide (s = s ∧ x = y ∧ e = e) := by
   apply decide_eq_decide.2
   constructor
   ·intro h3
    have := congrArg (val W) h3
    rw [val_dig W_two, val_dig W_two] at this
    exact ⟨rfl, this, rfl⟩
   ·rintro ⟨_, rfl, _⟩; rfl
  rw [← h2]
  exact dsame_eq h.rd h'.rd
 ·rw [decide_eq_false (fun h2 => h1 ⟨h2.1, h2.2.2⟩)]
  refine dsame_no ?_
  by_cases h2 : s = t
  ·exact .inr fun h3 => h1 ⟨h2, h3⟩
  ·exact .inl h2
theorem dsame_self {w : World} {A B : Option Addr} {n c m d x : Nat} {s : Bool} {e : Int} (h : Nt w A n c x) (h' : Nt w B m d x) :
  Calls Tryz.prog 16 #[.agg #[.bool s, .slice A n c, .int .i64 e], .agg #[.bool s, .slice B m d, .int .i64 e]] w fun en w' => en = .returned (.bool true) ∧ Below w.heap.size w w' := by
 have := dsame_any (s := s) (t := s) (e := e) (f := e) h h'
 rwa [decide_eq_true ⟨rfl, rfl, rfl⟩] at this
/-- Neg of what may be -/
theorem dneg_any {w : World} {A : Option Addr} {n c m : Nat} {s : Bool} {e : Int} (hT : Tab w) (h : Nt w A n c m) (hd : OkD s m e) :
  Calls Tryz.prog 15 #[.agg #[.bool s, .slice A n c, .int .i64 e]] w (Goods (if m = 0 then s else !s) m e w) := by
 by_cases hm : m = 0
 ·rw [if_pos hm]; exact neg_zero hT h hd hm
 ·rw [if_neg hm]; exact neg_turn hT h hd hm rfl
theorem cmpV_cases (V U : Int) : (cmpV V U = -1 ∧ V < U) ∨ (cmpV V U = 0 ∧ V = U) ∨ (cmpV V U = 1 ∧ U < V) := by
 rcases Int.lt_trichotomy V U with h | h | h
 ·exact .inl ⟨cmpV_lt h, h⟩
 ·exact .inr (.inl ⟨cmpV_eq h, h⟩)
 ·exact .inr (.inr ⟨cmpV_gt h, h⟩)
theorem J3 {PA PB PC : Prop} (xA : PA) (xB : PB) (xC : PC) : PA ∧ PB ∧ PC := ⟨xA, xB, xC⟩
theorem J4 {PA PB PC PD : Prop} (xA : PA) (xB : PB) (xC : PC) (xD : PD) : PA ∧ PB ∧ PC ∧ PD := ⟨xA, xB, xC, xD⟩
theorem J5 {PA PB PC PD PE : Prop} (xA : PA) (xB : PB) (xC : PC) (xD : PD) (xE : PE) : PA ∧ PB ∧ PC ∧ PD ∧ PE := ⟨xA, xB, xC, xD, xE⟩
theorem J6 {PA PB PC PD PE PF : Prop} (xA : PA) (xB : PB) (xC : PC) (xD : PD) (xE : PE) (xF : PF) : PA ∧ PB ∧ PC ∧ PD ∧ PE ∧ PF := ⟨xA, xB, xC, xD, xE, xF⟩
theorem J7 {PA PB PC PD PE PF PG : Prop} (xA : PA) (xB : PB) (xC : PC) (xD : PD) (xE : PE) (xF : PF) (xG : PG) : PA ∧ PB ∧ PC ∧ PD ∧ PE ∧ PF ∧ PG := ⟨xA, xB, xC, xD, xE, xF, xG⟩
theorem J8 {PA PB PC PD PE PF PG PH : Prop} (xA : PA) (xB : PB) (xC : PC) (xD : PD) (xE : PE) (xF : PF) (xG : PG) (xH : PH) : PA ∧ PB ∧ PC ∧ PD ∧ PE ∧ PF ∧ PG ∧ PH := ⟨xA, xB, xC, xD, xE, xF, xG, xH⟩
theorem J9 {PA PB PC PD PE PF PG PH PI : Prop} (xA : PA) (xB : PB) (xC : PC) (xD : PD) (xE : PE) (xF : PF) (xG : PG) (xH : PH) (xI : PI) : PA ∧ PB ∧ PC ∧ PD ∧ PE ∧ PF ∧ PG ∧ PH ∧ PI := ⟨xA, xB, xC, xD, xE, xF, xG, xH, xI⟩
theorem J10 {PA PB PC PD PE PF PG PH PI PK : Prop} (xA : PA) (xB : PB) (xC : PC) (xD : PD) (xE : PE) (xF : PF) (xG : PG) (xH : PH) (xI : PI) (xK : PK) : PA ∧ PB ∧ PC ∧ PD ∧ PE ∧ PF ∧ PG ∧ PH ∧ PI ∧ PK := ⟨xA, xB, xC, xD, xE, xF, xG, xH, xI, xK⟩
theorem J11 {PA PB PC PD PE PF PG PH PI PK PL : Prop} (xA : PA) (xB : PB) (xC : PC) (xD : PD) (xE : PE) (xF : PF) (xG : PG) (xH : PH) (xI : PI) (xK : PK) (xL : PL) : PA ∧ PB ∧ PC ∧ PD ∧ PE ∧ PF ∧ PG ∧ PH ∧ PI ∧ PK ∧ PL := ⟨xA, xB, xC, xD, xE, xF, xG, xH, xI, xK, xL⟩
theorem J12 {PA PB PC PD PE PF PG PH PI PK PL PM : Prop} (xA : PA) (xB : PB) (xC : PC) (xD : PD) (xE : PE) (xF : PF) (xG : PG) (xH : PH) (xI : PI) (xK : PK) (xL : PL) (xM : PM) : PA ∧ PB ∧ PC ∧ PD ∧ PE ∧ PF ∧ PG ∧ PH ∧ PI ∧ PK ∧ PL ∧ PM := ⟨xA, xB, xC, xD, xE, xF, xG, xH, xI, xK, xL, xM⟩
theorem J13 {PA PB PC PD PE PF PG PH PI PK PL PM PN : Prop} (xA : PA) (xB : PB) (xC : PC) (xD : PD) (xE : PE) (xF : PF) (xG : PG) (xH : PH) (xI : PI) (xK : PK) (xL : PL) (xM : PM) (xN : PN) : PA ∧ PB ∧ PC ∧ PD ∧ PE ∧ PF ∧ PG ∧ PH ∧ PI ∧ PK ∧ PL ∧ PM ∧ PN := ⟨xA, xB, xC, xD, xE, xF, xG, xH, xI, xK, xL, xM, xN⟩
theorem J14 {PA PB PC PD PE PF PG PH PI PK PL PM PN PO : Prop} (xA : PA) (xB : PB) (xC : PC) (xD : PD) (xE : PE) (xF : PF) (xG : PG) (xH : PH) (xI : PI) (xK : PK) (xL : PL) (xM : PM) (xN : PN) (xO : PO) : PA ∧ PB ∧ PC ∧ PD ∧ PE ∧ PF ∧ PG ∧ PH ∧ PI ∧ PK ∧ PL ∧ PM ∧ PN ∧ PO := ⟨xA, xB, xC, xD, xE, xF, xG, xH, xI, xK, xL, xM, xN, xO⟩
theorem J16 {PA PB PC PD PE PF PG PH PI PK PL PM PN PO PP PQ : Prop} (xA : PA) (xB : PB) (xC : PC) (xD : PD) (xE : PE) (xF : PF) (xG : PG) (xH : PH) (xI : PI) (xK : PK) (xL : PL) (xM : PM) (xN : PN) (xO : PO) (xP : PP) (xQ : PQ) : PA ∧ PB ∧ PC ∧ PD ∧ PE ∧ PF ∧ PG ∧ PH ∧ PI ∧ PK ∧ PL ∧ PM ∧ PN ∧ PO ∧ PP ∧ PQ := ⟨xA, xB, xC, xD, xE, xF, xG, xH, xI, xK, xL, xM, xN, xO, xP, xQ⟩
theorem J18 {PA PB PC PD PE PF PG PH PI PK PL PM PN PO PP PQ PR PS : Prop} (xA : PA) (xB : PB) (xC : PC) (xD : PD) (xE : PE) (xF : PF) (xG : PG) (xH : PH) (xI : PI) (xK : PK) (xL : PL) (xM : PM) (xN : PN) (xO : PO) (xP : PP) (xQ : PQ) (xR : PR) (xS : PS) : PA ∧ PB ∧ PC ∧ PD ∧ PE ∧ PF ∧ PG ∧ PH ∧ PI ∧ PK ∧ PL ∧ PM ∧ PN ∧ PO ∧ PP ∧ PQ ∧ PR ∧ PS := ⟨xA, xB, xC, xD, xE, xF, xG, xH, xI, xK, xL, xM, xN, xO, xP, xQ, xR, xS⟩
theorem J19 {PA PB PC PD PE PF PG PH PI PK PL PM PN PO PP PQ PR PS PT : Prop} (xA : PA) (xB : PB) (xC : PC) (xD : PD) (xE : PE) (xF : PF) (xG : PG) (xH : PH) (xI : PI) (xK : PK) (xL : PL) (xM : PM) (xN : PN) (xO : PO) (xP : PP) (xQ : PQ) (xR : PR) (xS : PS) (xT : PT) : PA ∧ PB ∧ PC ∧ PD ∧ PE ∧ PF ∧ PG ∧ PH ∧ PI ∧ PK ∧ PL ∧ PM ∧ PN ∧ PO ∧ PP ∧ PQ ∧ PR ∧ PS ∧ PT := ⟨xA, xB, xC, xD, xE, xF, xG, xH, xI, xK, xL, xM, xN, xO, xP, xQ, xR, xS, xT⟩
theorem J20 {PA PB PC PD PE PF PG PH PI PK PL PM PN PO PP PQ PR PS PT PU : Prop} (xA : PA) (xB : PB) (xC : PC) (xD : PD) (xE : PE) (xF : PF) (xG : PG) (xH : PH) (xI : PI) (xK : PK) (xL : PL) (xM : PM) (xN : PN) (xO : PO) (xP : PP) (xQ : PQ) (xR : PR) (xS : PS) (xT : PT) (xU : PU) : PA ∧ PB ∧ PC ∧ PD ∧ PE ∧ PF ∧ PG ∧ PH ∧ PI ∧ PK ∧ PL ∧ PM ∧ PN ∧ PO ∧ PP ∧ PQ ∧ PR ∧ PS ∧ PT ∧ PU := ⟨xA, xB, xC, xD, xE, xF, xG, xH, xI, xK, xL, xM, xN, xO, xP, xQ, xR, xS, xT, xU⟩
theorem J23 {PA PB PC PD PE PF PG PH PI PK PL PM PN PO PP PQ PR PS PT PU PV PW PX : Prop} (xA : PA) (xB : PB) (xC : PC) (xD : PD) (xE : PE) (xF : PF) (xG : PG) (xH : PH) (xI : PI) (xK : PK) (xL : PL) (xM : PM) (xN : PN) (xO : PO) (xP : PP) (xQ : PQ) (xR : PR) (xS : PS) (xT : PT) (xU : PU) (xV : PV) (xW : PW) (xX : PX) : PA ∧ PB ∧ PC ∧ PD ∧ PE ∧ PF ∧ PG ∧ PH ∧ PI ∧ PK ∧ PL ∧ PM ∧ PN ∧ PO ∧ PP ∧ PQ ∧ PR ∧ PS ∧ PT ∧ PU ∧ PV ∧ PW ∧ PX := ⟨xA, xB, xC, xD, xE, xF, xG, xH, xI, xK, xL, xM, xN, xO, xP, xQ, xR, xS, xT, xU, xV, xW, xX⟩
theorem J24 {PA PB PC PD PE PF PG PH PI PK PL PM PN PO PP PQ PR PS PT PU PV PW PX PY : Prop} (xA : PA) (xB : PB) (xC : PC) (xD : PD) (xE : PE) (xF : PF) (xG : PG) (xH : PH) (xI : PI) (xK : PK) (xL : PL) (xM : PM) (xN : PN) (xO : PO) (xP : PP) (xQ : PQ) (xR : PR) (xS : PS) (xT : PT) (xU : PU) (xV : PV) (xW : PW) (xX : PX) (xY : PY) : PA ∧ PB ∧ PC ∧ PD ∧ PE ∧ PF ∧ PG ∧ PH ∧ PI ∧ PK ∧ PL ∧ PM ∧ PN ∧ PO ∧ PP ∧ PQ ∧ PR ∧ PS ∧ PT ∧ PU ∧ PV ∧ PW ∧ PX ∧ PY := ⟨xA, xB, xC, xD, xE, xF, xG, xH, xI, xK, xL, xM, xN, xO, xP, xQ, xR, xS, xT, xU, xV, xW, xX, xY⟩
theorem J25 {PA PB PC PD PE PF PG PH PI PK PL PM PN PO PP PQ PR PS PT PU PV PW PX PY PZ : Prop} (xA : PA) (xB : PB) (xC : PC) (xD : PD) (xE : PE) (xF : PF) (xG : PG) (xH : PH) (xI : PI) (xK : PK) (xL : PL) (xM : PM) (xN : PN) (xO : PO) (xP : PP) (xQ : PQ) (xR : PR) (xS : PS) (xT : PT) (xU : PU) (xV : PV) (xW : PW) (xX : PX) (xY : PY) (xZ : PZ) : PA ∧ PB ∧ PC ∧ PD ∧ PE ∧ PF ∧ PG ∧ PH ∧ PI ∧ PK ∧ PL ∧ PM ∧ PN ∧ PO ∧ PP ∧ PQ ∧ PR ∧ PS ∧ PT ∧ PU ∧ PV ∧ PW ∧ PX ∧ PY ∧ PZ := ⟨xA, xB, xC, xD, xE, xF, xG, xH, xI, xK, xL, xM, xN, xO, xP, xQ, xR, xS, xT, xU, xV, xW, xX, xY, xZ⟩
end Go.Proofs.YtdhdebapjlcjdaaGreatDoor
