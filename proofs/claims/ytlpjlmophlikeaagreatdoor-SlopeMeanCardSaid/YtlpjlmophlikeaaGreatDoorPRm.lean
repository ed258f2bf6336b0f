/-
 Plain facts behind calls: all that is known of a world, carried to the world behind a call that made memory, in one step; dyad's contracts for any Dyads that may be, with what follows of their values. No condition.
-/
import Derived.Test.YtlpjlmophlikeaaGreatDoorPDye
import Derived.Test.YtlpjlmophlikeaaGreatDoorPDn
namespace Go.Proofs.YtlpjlmophlikeaaGreatDoor
open Go.RowKit

theorem Cel.heap {w w2 : World} {g : Nat} {x : Int} (h : Cel w g x) (he : w2.heap = w.heap) : Cel w2 g x := ⟨by rw [he]; exact h.blk⟩
theorem Cel.next {w W w2 : World} {g : Nat} {x : Int} (h : Cel w g x) (b : Below W.heap.size W w2) (he : W.heap = w.heap) : Cel w2 g x :=
 (h.heap he).below b (by rw [he]; exact h.gl)
theorem Cel.alloc {w : World} {g : Nat} {x : Int} (h : Cel w g x) (o : Obj) : Cel (w.alloc o) g x := h.below (below_alloc w o) h.gl

end Go.Proofs.YtlpjlmophlikeaaGreatDoor

namespace Go.Proofs.YtlpjlmophlikeaaGreatDoor
open Go.RowKit

/-- what p says of the world w, q says of w2, if w2 only holds more memory than w -/
class Moves (w : outParam World) (w2 : World) (p : Prop) (q : outParam Prop) : Prop where
 go : ∀ X : World, Below X.heap.size X w2 → X.heap = w.heap → p → q
section
variable {w w2 : World} {A : Option Addr} {n c m g : Nat} {s : Bool} {e z : Int} {l : List Nat} {p q p' q' : Prop}
instance : Moves w w2 (Tab w) (Tab w2) := ⟨fun _ b e h => h.next b e⟩
instance : Moves w w2 (Nt w A n c m) (Nt w2 A n c m) := ⟨fun _ b e h => h.next b e⟩
instance {k : IntKind} {B : Nat} : Moves w w2 (Rd w k B A n c l) (Rd w2 k B A n c l) := ⟨fun _ b e h => h.next b e⟩
instance : Moves w w2 (Dg w A n c m) (Dg w2 A n c m) := ⟨fun _ b e h => Rd.next h b e⟩
instance : Moves w w2 (Box w g s A n c e) (Box w2 g s A n c e) := ⟨fun _ b e h => h.next b e⟩
instance : Moves w w2 (Cel w g z) (Cel w2 g z) := ⟨fun _ b e h => h.next b e⟩
instance {x : Addr} {v : Value} : Moves w w2 (w.cell? x = some v) (w2.cell? x = some v) := ⟨fun X b e h => by
 have h1 : X.cell? x = some v := by rw [← h]; unfold World.cell?; rw [e]
 exact (b.cell (World.block_lt_of_cell? X _ h1)).trans h1⟩
instance [M : Moves w w2 p q] [M' : Moves w w2 p' q'] : Moves w w2 (p ∧ p') (q ∧ q') := ⟨fun X b e h => ⟨M.go X b e h.1, M'.go X b e h.2⟩⟩
theorem mv {X : World} (b : Below X.heap.size X w2) (e : X.heap = w.heap) (h : p) [M : Moves w w2 p q] : q := M.go X b e h
end

theorem okd_zero : OkD false 0 0 := .inl ⟨rfl, rfl, rfl⟩
theorem nm_okd {s : Bool} {m : Nat} {e k : Int} {s' : Bool} {m' : Nat} {e' : Int} (h : Nm s m e k s' m' e') : OkD s' m' e' := by
 rcases nm_code h with rfl | ⟨_, rfl, rfl, rfl⟩
 ·exact nm_ok h
 ·exact okd_zero
/-- Neg of what may be -/
theorem dneg_any {w : World} {A : Option Addr} {n c m : Nat} {s : Bool} {e : Int} (hT : Tab w) (h : Nt w A n c m) (hd : OkD s m e) :
  Calls Tryz.prog 44 #[.agg #[.bool s, .slice A n c, .int .i64 e]] w (Goods (if m = 0 then s else !s) m e w) := by
 by_cases hm : m = 0
 ·rw [if_pos hm]; exact neg_zero hT h hd hm
 ·rw [if_neg hm]; exact neg_turn hT h hd hm rfl
theorem cmpV_cases (V U : Int) : (cmpV V U = -1 ∧ V < U) ∨ (cmpV V U = 0 ∧ V = U) ∨ (cmpV V U = 1 ∧ U < V) := by
 rcases Int.lt_trichotomy V U with h | h | h
 ·exact .inl ⟨cmpV_lt h, h⟩
 ·exact .inr (.inl ⟨cmpV_eq h, h⟩)
 ·exact .inr (.inr ⟨cmpV_gt h, h⟩)
theorem J3 {PA PB PC : Prop} (xA : PA) (xB : PB) (xC : PC) : PA ∧ PB ∧ PC := ⟨xA, xB, xC⟩
theorem J4 {PA PB PC PD : Prop} (xA : PA) (xB : PB) (xC : PC) (xD : PD) : PA ∧ PB ∧ PC ∧ PD := ⟨xA, xB, xC, xD⟩
theorem J5 {PA PB PC PD PE : Prop} (xA : PA) (xB : PB) (xC : PC) (xD : PD) (xE : PE) : PA ∧ PB ∧ PC ∧ PD ∧ PE := ⟨xA, xB, xC, xD, xE⟩
theorem J6 {PA PB PC PD PE PF : Prop} (xA : PA) (xB : PB) (xC : PC) (xD : PD) (xE : PE) (xF : PF) : PA ∧ PB ∧ PC ∧ PD ∧ PE ∧ PF := ⟨xA, xB, xC, xD, xE, xF⟩
theorem J7 {PA PB PC PD PE PF PG : Prop} (xA : PA) (xB : PB) (xC : PC) (xD : PD) (xE : PE) (xF : PF) (xG : PG) : PA ∧ PB ∧ PC ∧ PD ∧ PE ∧ PF ∧ PG := ⟨xA, xB, xC, xD, xE, xF, xG⟩
theorem J8 {PA PB PC PD PE PF PG PH : Prop} (xA : PA) (xB : PB) (xC : PC) (xD : PD) (xE : PE) (xF : PF) (xG : PG) (xH : PH) : PA ∧ PB ∧ PC ∧ PD ∧ PE ∧ PF ∧ PG ∧ PH := ⟨xA, xB, xC, xD, xE, xF, xG, xH⟩
theorem J9 {PA PB PC PD PE PF PG PH PI : Prop} (xA : PA) (xB : PB) (xC : PC) (xD : PD) (xE : PE) (xF : PF) (xG : PG) (xH : PH) (xI : PI) : PA ∧ PB ∧ PC ∧ PD ∧ PE ∧ PF ∧ PG ∧ PH ∧ PI := ⟨xA, xB, xC, xD, xE, xF, xG, xH, xI⟩
theorem J10 {PA PB PC PD PE PF PG PH PI PK : Prop} (xA : PA) (xB : PB) (xC : PC) (xD : PD) (xE : PE) (xF : PF) (xG : PG) (xH : PH) (xI : PI) (xK : PK) : PA ∧ PB ∧ PC ∧ PD ∧ PE ∧ PF ∧ PG ∧ PH ∧ PI ∧ PK := ⟨xA, xB, xC, xD, xE, xF, xG, xH, xI, xK⟩
theorem J11 {PA PB PC PD PE PF PG PH PI PK PL : Prop} (xA : PA) (xB : PB) (xC : PC) (xD : PD) (xE : PE) (xF : PF) (xG : PG) (xH : PH) (xI : PI) (xK : PK) (xL : PL) : PA ∧ PB ∧ PC ∧ PD ∧ PE ∧ PF ∧ PG ∧ PH ∧ PI ∧ PK ∧ PL := ⟨xA, xB, xC, xD, xE, xF, xG, xH, xI, xK, xL⟩
theorem J12 {PA PB PC PD PE PF PG PH PI PK PL PM : Prop} (xA : PA) (xB : PB) (xC : PC) (xD : PD) (xE : PE) (xF : PF) (xG : PG) (xH : PH) (xI : PI) (xK : PK) (xL : PL) (xM : PM) : PA ∧ PB ∧ PC ∧ PD ∧ PE ∧ PF ∧ PG ∧ PH ∧ PI ∧ PK ∧ PL ∧ PM := ⟨xA, xB, xC, xD, xE, xF, xG, xH, xI, xK, xL, xM⟩
theorem J13 {PA PB PC PD PE PF PG PH PI PK PL PM PN : Prop} (xA : PA) (xB : PB) (xC : PC) (xD : PD) (xE : PE) (xF : PF) (xG : PG) (xH : PH) (xI : PI) (xK : PK) (xL : PL) (xM : PM) (xN : PN) : PA ∧ PB ∧ PC ∧ PD ∧ PE ∧ PF ∧ PG ∧ PH ∧ PI ∧ PK ∧ PL ∧ PM ∧ PN := ⟨xA, xB, xC, xD, xE, xF, xG, xH, xI, xK, xL, xM, xN⟩
theorem J14 {PA PB PC PD PE PF PG PH PI PK PL PM PN PO : Prop} (xA : PA) (xB : PB) (xC : PC) (xD : PD) (xE : PE) (xF : PF) (xG : PG) (xH : PH) (xI : PI) (xK : PK) (xL : PL) (xM : PM) (xN : PN) (xO : PO) : PA ∧ PB ∧ PC ∧ PD ∧ PE ∧ PF ∧ PG ∧ PH ∧ PI ∧ PK ∧ PL ∧ PM ∧ PN ∧ PO := ⟨xA, xB, xC, xD, xE, xF, xG, xH, xI, xK, xL, xM, xN, xO⟩
theorem J15 {PA PB PC PD PE PF PG PH PI PK PL PM PN PO PP : Prop} (xA : PA) (xB : PB) (xC : PC) (xD : PD) (xE : PE) (xF : PF) (xG : PG) (xH : PH) (xI : PI) (xK : PK) (xL : PL) (xM : PM) (xN : PN) (xO : PO) (xP : PP) : PA ∧ PB ∧ PC ∧ PD ∧ PE ∧ PF ∧ PG ∧ PH ∧ PI ∧ PK ∧ PL ∧ PM ∧ PN ∧ PO ∧ PP := ⟨xA, xB, xC, xD, xE, xF, xG, xH, xI, xK, xL, xM, xN, xO, xP⟩
theorem J16 {PA PB PC PD PE PF PG PH PI PK PL PM PN PO PP PQ : Prop} (xA : PA) (xB : PB) (xC : PC) (xD : PD) (xE : PE) (xF : PF) (xG : PG) (xH : PH) (xI : PI) (xK : PK) (xL : PL) (xM : PM) (xN : PN) (xO : PO) (xP : PP) (xQ : PQ) : PA ∧ PB ∧ PC ∧ PD ∧ PE ∧ PF ∧ PG ∧ PH ∧ PI ∧ PK ∧ PL ∧ PM ∧ PN ∧ PO ∧ PP ∧ PQ := ⟨xA, xB, xC, xD, xE, xF, xG, xH, xI, xK, xL, xM, xN, xO, xP, xQ⟩
theorem J17 {PA PB PC PD PE PF PG PH PI PK PL PM PN PO PP PQ PR : Prop} (xA : PA) (xB : PB) (xC : PC) (xD : PD) (xE : PE) (xF : PF) (xG : PG) (xH : PH) (xI : PI) (xK : PK) (xL : PL) (xM : PM) (xN : PN) (xO : PO) (xP : PP) (xQ : PQ) (xR : PR) : PA ∧ PB ∧ PC ∧ PD ∧ PE ∧ PF ∧ PG ∧ PH ∧ PI ∧ PK ∧ PL ∧ PM ∧ PN ∧ PO ∧ PP ∧ PQ ∧ PR := ⟨xA, xB, xC, xD, xE, xF, xG, xH, xI, xK, xL, xM, xN, xO, xP, xQ, xR⟩
theorem J18 {PA PB PC PD PE PF PG PH PI PK PL PM PN PO PP PQ PR PS : Prop} (xA : PA) (xB : PB) (xC : PC) (xD : PD) (xE : PE) (xF : PF) (xG : PG) (xH : PH) (xI : PI) (xK : PK) (xL : PL) (xM : PM) (xN : PN) (xO : PO) (xP : PP) (xQ : PQ) (xR : PR) (xS : PS) : PA ∧ PB ∧ PC ∧ PD ∧ PE ∧ PF ∧ PG ∧ PH ∧ PI ∧ PK ∧ PL ∧ PM ∧ PN ∧ PO ∧ PP ∧ PQ ∧ PR ∧ PS := ⟨xA, xB, xC, xD, xE, xF, xG, xH, xI, xK, xL, xM, xN, xO, xP, xQ, xR, xS⟩
theorem J19 {PA PB PC PD PE PF PG PH PI PK PL PM PN PO PP PQ PR PS PT : Prop} (xA : PA) (xB : PB) (xC : PC) (xD : PD) (xE : PE) (xF : PF) (xG : PG) (xH : PH) (xI : PI) (xK : PK) (xL : PL) (xM : PM) (xN : PN) (xO : PO) (xP : PP) (xQ : PQ) (xR : PR) (xS : PS) (xT : PT) : PA ∧ PB ∧ PC ∧ PD ∧ PE ∧ PF ∧ PG ∧ PH ∧ PI ∧ PK ∧ PL ∧ PM ∧ PN ∧ PO ∧ PP ∧ PQ ∧ PR ∧ PS ∧ PT := ⟨xA, xB, xC, xD, xE, xF, xG, xH, xI, xK, xL, xM, xN, xO, xP, xQ, xR, xS, xT⟩
theorem J20 {PA PB PC PD PE PF PG PH PI PK PL PM PN PO PP PQ PR PS PT PU : Prop} (xA : PA) (xB : PB) (xC : PC) (xD : PD) (xE : PE) (xF : PF) (xG : PG) (xH : PH) (xI : PI) (xK : PK) (xL : PL) (xM : PM) (xN : PN) (xO : PO) (xP : PP) (xQ : PQ) (xR : PR) (xS : PS) (xT : PT) (xU : PU) : PA ∧ PB ∧ PC ∧ PD ∧ PE ∧ PF ∧ PG ∧ PH ∧ PI ∧ PK ∧ PL ∧ PM ∧ PN ∧ PO ∧ PP ∧ PQ ∧ PR ∧ PS ∧ PT ∧ PU := ⟨xA, xB, xC, xD, xE, xF, xG, xH, xI, xK, xL, xM, xN, xO, xP, xQ, xR, xS, xT, xU⟩
theorem J22 {PA PB PC PD PE PF PG PH PI PK PL PM PN PO PP PQ PR PS PT PU PV PW : Prop} (xA : PA) (xB : PB) (xC : PC) (xD : PD) (xE : PE) (xF : PF) (xG : PG) (xH : PH) (xI : PI) (xK : PK) (xL : PL) (xM : PM) (xN : PN) (xO : PO) (xP : PP) (xQ : PQ) (xR : PR) (xS : PS) (xT : PT) (xU : PU) (xV : PV) (xW : PW) : PA ∧ PB ∧ PC ∧ PD ∧ PE ∧ PF ∧ PG ∧ PH ∧ PI ∧ PK ∧ PL ∧ PM ∧ PN ∧ PO ∧ PP ∧ PQ ∧ PR ∧ PS ∧ PT ∧ PU ∧ PV ∧ PW := ⟨xA, xB, xC, xD, xE, xF, xG, xH, xI, xK, xL, xM, xN, xO, xP, xQ, xR, xS, xT, xU, xV, xW⟩
theorem J23 {PA PB PC PD PE PF PG PH PI PK PL PM PN PO PP PQ PR PS PT PU PV PW PX : Prop} (xA : PA) (xB : PB) (xC : PC) (xD : PD) (xE : PE) (xF : PF) (xG : PG) (xH : PH) (xI : PI) (xK : PK) (xL : PL) (xM : PM) (xN : PN) (xO : PO) (xP : PP) (xQ : PQ) (xR : PR) (xS : PS) (xT : PT) (xU : PU) (xV : PV) (xW : PW) (xX : PX) : PA ∧ PB ∧ PC ∧ PD ∧ PE ∧ PF ∧ PG ∧ PH ∧ PI ∧ PK ∧ PL ∧ PM ∧ PN ∧ PO ∧ PP ∧ PQ ∧ PR ∧ PS ∧ PT ∧ PU ∧ PV ∧ PW ∧ PX := ⟨xA, xB, xC, xD, xE, xF, xG, xH, xI, xK, xL, xM, xN, xO, xP, xQ, xR, xS, xT, xU, xV, xW, xX⟩
theorem J24 {PA PB PC PD PE PF PG PH PI PK PL PM PN PO PP PQ PR PS PT PU PV PW PX PY : Prop} (xA : PA) (xB : PB) (xC : PC) (xD : PD) (xE : PE) (xF : PF) (xG : PG) (xH : PH) (xI : PI) (xK : PK) (xL : PL) (xM : PM) (xN : PN) (xO : PO) (xP : PP) (xQ : PQ) (xR : PR) (xS : PS) (xT : PT) (xU : PU) (xV : PV) (xW : PW) (xX : PX) (xY : PY) : PA ∧ PB ∧ PC ∧ PD ∧ PE ∧ PF ∧ PG ∧ PH ∧ PI ∧ PK ∧ PL ∧ PM ∧ PN ∧ PO ∧ PP ∧ PQ ∧ PR ∧ PS ∧ PT ∧ PU ∧ PV ∧ PW ∧ PX ∧ PY := ⟨xA, xB, xC, xD, xE, xF, xG, xH, xI, xK, xL, xM, xN, xO, xP, xQ, xR, xS, xT, xU, xV, xW, xX, xY⟩
theorem J27 {PA PB PC PD PE PF PG PH PI PK PL PM PN PO PP PQ PR PS PT PU PV PW PX PY PZ Pa Pb : Prop} (xA : PA) (xB : PB) (xC : PC) (xD : PD) (xE : PE) (xF : PF) (xG : PG) (xH : PH) (xI : PI) (xK : PK) (xL : PL) (xM : PM) (xN : PN) (xO : PO) (xP : PP) (xQ : PQ) (xR : PR) (xS : PS) (xT : PT) (xU : PU) (xV : PV) (xW : PW) (xX : PX) (xY : PY) (xZ : PZ) (xa : Pa) (xb : Pb) : PA ∧ PB ∧ PC ∧ PD ∧ PE ∧ PF ∧ PG ∧ PH ∧ PI ∧ PK ∧ PL ∧ PM ∧ PN ∧ PO ∧ PP ∧ PQ ∧ PR ∧ PS ∧ PT ∧ PU ∧ PV ∧ PW ∧ PX ∧ PY ∧ PZ ∧ Pa ∧ Pb := ⟨xA, xB, xC, xD, xE, xF, xG, xH, xI, xK, xL, xM, xN, xO, xP, xQ, xR, xS, xT, xU, xV, xW, xX, xY, xZ, xa, xb⟩
theorem J35 {PA PB PC PD PE PF PG PH PI PK PL PM PN PO PP PQ PR PS PT PU PV PW PX PY PZ Pa Pb Pc Pd Pe Pf Pg Ph Pi Pk : Prop} (xA : PA) (xB : PB) (xC : PC) (xD : PD) (xE : PE) (xF : PF) (xG : PG) (xH : PH) (xI : PI) (xK : PK) (xL : PL) (xM : PM) (xN : PN) (xO : PO) (xP : PP) (xQ : PQ) (xR : PR) (xS : PS) (xT : PT) (xU : PU) (xV : PV) (xW : PW) (xX : PX) (xY : PY) (xZ : PZ) (xa : Pa) (xb : Pb) (xc : Pc) (xd : Pd) (xe : Pe) (xf : Pf) (xg : Pg) (xh : Ph) (xi : Pi) (xk : Pk) : PA ∧ PB ∧ PC ∧ PD ∧ PE ∧ PF ∧ PG ∧ PH ∧ PI ∧ PK ∧ PL ∧ PM ∧ PN ∧ PO ∧ PP ∧ PQ ∧ PR ∧ PS ∧ PT ∧ PU ∧ PV ∧ PW ∧ PX ∧ PY ∧ PZ ∧ Pa ∧ Pb ∧ Pc ∧ Pd ∧ Pe ∧ Pf ∧ Pg ∧ Ph ∧ Pi ∧ Pk := ⟨xA, xB, xC, xD, xE, xF, xG, xH, xI, xK, xL, xM, xN, xO, xP, xQ, xR, xS, xT, xU, xV, xW, xX, xY, xZ, xa, xb, xc, xd, xe, xf, xg, xh, xi, xk⟩
end Go.Proofs.YtlpjlmophlikeaaGreatDoor
namespace Go.Proofs.YtlpjlmophlikeaaGreatDoor

/-- has x at most p bits, its noughts at the end left out? -/
def Fits (p x : Nat) : Prop := ∃ a k, x = a * 2 ^ k ∧ a < 2 ^ p
/-- x cut to p bits, down; up: the next one, if anything was cut off -/
def cutN (p x : Nat) (up : Bool) : Nat := x / 2 ^ (blen x - p) + if up = true ∧ x % 2 ^ (blen x - p) ≠ 0 then 1 else 0
def rdN (p x : Nat) (up : Bool) : Nat := cutN p x up * 2 ^ (blen x - p)

theorem pow_pos2 (k : Nat) : 0 < 2 ^ k := Nat.pow_pos (by omega)
theorem fits_mono {p q x : Nat} (h : Fits p x) (hpq : p ≤ q) : Fits q x := by
 obtain ⟨a, k, e, ha⟩ := h
 exact ⟨a, k, e, Nat.lt_of_lt_of_le ha (Nat.pow_le_pow_right (by omega) hpq)⟩
theorem fits_shift {p x j : Nat} (h : Fits p x) : Fits p (x * 2 ^ j) := by
 obtain ⟨a, k, e, ha⟩ := h
 exact ⟨a, k + j, by rw [e, Nat.pow_add, Nat.mul_assoc], ha⟩
theorem fits_zero (p : Nat) : Fits p 0 := ⟨0, 0, by simp, pow_pos2 p⟩
theorem fits_of {p x : Nat} (h : x < 2 ^ p) : Fits p x := ⟨x, 0, by simp, h⟩
/-- an odd number's bits are all there -/
theorem fits_odd {p q k : Nat} (h : Fits p (2 ^ k * (2 * q + 1))) : 2 * q + 1 < 2 ^ p := by
 obtain ⟨a, j, e, ha⟩ := h
 have ha0 : a ≠ 0 := by
  intro h0
  rw [h0, Nat.zero_mul] at e
  have : 0 < 2 ^ k * (2 * q + 1) := Nat.mul_pos (pow_pos2 k) (by omega)
  omega
 obtain ⟨i, b, hb⟩ := low_has ha0
 have e2 : 2 ^ k * (2 * q + 1) = 2 ^ (i + j) * (2 * b + 1) := by
  rw [e, hb, Nat.pow_add]; ac_rfl
 obtain ⟨_, h2⟩ := odd_uniq e2
 have h3 : 1 * (2 * b + 1) ≤ 2 ^ i * (2 * b + 1) := Nat.mul_le_mul_right _ (pow_pos2 i)
 omega
theorem fits_blen {p q k : Nat} : Fits p (2 ^ k * (2 * q + 1)) ↔ blen (2 * q + 1) ≤ p := by
 rw [blen_le]
 constructor
 ·exact fits_odd
 ·intro h
  exact ⟨2 * q + 1, k, Nat.mul_comm _ _, h⟩
theorem unfits {p x j : Nat} (h : Fits p (x * 2 ^ j)) : Fits p x := by
 rcases Nat.eq_zero_or_pos x with h0 | h0
 ·rw [h0]; exact fits_zero p
 ·obtain ⟨k, q, hq⟩ := low_has (x := x) (by omega)
  have e1 : x * 2 ^ j = 2 ^ (k + j) * (2 * q + 1) := by rw [hq, Nat.pow_add]; ac_rfl
  rw [e1, fits_blen] at h
  rw [hq, fits_blen]
  exact h

theorem cut_parts (p x : Nat) : x = x / 2 ^ (blen x - p) * 2 ^ (blen x - p) + x % 2 ^ (blen x - p) := by
 have := Nat.div_add_mod x (2 ^ (blen x - p))
 rw [Nat.mul_comm] at this
 omega
theorem cut_lt (p x : Nat) : x / 2 ^ (blen x - p) < 2 ^ p := by
 rw [Nat.div_lt_iff_lt_mul (pow_pos2 _), ← Nat.pow_add]
 refine Nat.lt_of_lt_of_le ((blen_le x (blen x)).1 (Nat.le_refl _)) (Nat.pow_le_pow_right (by omega) (by omega))
theorem rd_down_le (p x : Nat) : rdN p x false ≤ x := by
 unfold rdN cutN
 simp only [Bool.false_eq_true, false_and, if_false, Nat.add_zero]
 exact Nat.div_mul_le_self _ _
theorem rd_up_ge (p x : Nat) : x ≤ rdN p x true := by
 have h := cut_parts p x
 unfold rdN cutN
 by_cases hr : x % 2 ^ (blen x - p) = 0
 ·rw [if_neg (by simp [hr])]
  rw [Nat.add_zero]; omega
 ·rw [if_pos ⟨rfl, hr⟩, Nat.add_mul, Nat.one_mul]
  have := Nat.mod_lt x (pow_pos2 (blen x - p))
  omega
theorem rd_fits {p : Nat} (hp : 1 ≤ p) (x : Nat) (up : Bool) : Fits p (rdN p x up) := by
 unfold rdN
 apply fits_shift
 have h := cut_lt p x
 have h2 : cutN p x up ≤ x / 2 ^ (blen x - p) + 1 := by unfold cutN; split <;> omega
 by_cases h3 : cutN p x up < 2 ^ p
 ·exact fits_of h3
 ·have h4 : cutN p x up = 2 ^ p := by omega
  rw [h4]
  exact ⟨1, p, by omega, Nat.one_lt_two_pow (by omega)⟩
/-- what is cut off leaves the highest bit -/
theorem rd_top {p x : Nat} (hp : 1 ≤ p) (hx : x ≠ 0) : 2 ^ (blen x - 1) ≤ x / 2 ^ (blen x - p) * 2 ^ (blen x - p) := by
 obtain ⟨h1, h2, h3⟩ := blen_pos hx
 have e1 : 2 ^ (blen x - 1) = 2 ^ (blen x - 1 - (blen x - p)) * 2 ^ (blen x - p) := by rw [← Nat.pow_add]; congr 1; omega
 rw [e1] at h1 ⊢
 exact Nat.mul_le_mul_right _ ((Nat.le_div_iff_mul_le (pow_pos2 _)).2 h1)
theorem fits_cases {p c n : Nat} (h : Fits p c) : (∃ b, c = b * 2 ^ n) ∨ c < 2 ^ (p + n - 1) ∨ n = 0 := by
 obtain ⟨a, k, e, ha⟩ := h
 rcases Nat.lt_or_ge k n with h1 | h1
 ·refine .inr (.inl ?_)
  rw [e]
  have h2 : a * 2 ^ k < 2 ^ p * 2 ^ k := Nat.mul_lt_mul_of_pos_right ha (pow_pos2 k)
  rw [← Nat.pow_add] at h2
  exact Nat.lt_of_lt_of_le h2 (Nat.pow_le_pow_right (by omega) (by omega))
 ·refine .inl ⟨a * 2 ^ (k - n), ?_⟩
  rw [e, Nat.mul_assoc, ← Nat.pow_add]
  congr 2; omega
theorem rd_greatest {p x c : Nat} (hp : 1 ≤ p) (hc : Fits p c) (h : c ≤ x) : c ≤ rdN p x false := by
 unfold rdN cutN
 simp only [Bool.false_eq_true, false_and, if_false, Nat.add_zero]
 by_cases hx : x = 0
 ·subst hx; simp; omega
 have ht := rd_top hp hx
 rcases fits_cases (n := blen x - p) hc with ⟨b, hb⟩ | h2 | h2
 ·rw [hb] at h ⊢
  exact Nat.mul_le_mul_right _ ((Nat.le_div_iff_mul_le (pow_pos2 _)).2 h)
 ·by_cases h3 : blen x - p = 0
  ·rw [h3, Nat.pow_zero, Nat.div_one, Nat.mul_one]; exact h
  ·have e1 : p + (blen x - p) - 1 = blen x - 1 := by omega
   rw [e1] at h2
   omega
 ·rw [h2, Nat.pow_zero, Nat.div_one, Nat.mul_one]; exact h
theorem rd_least {p x c : Nat} (hp : 1 ≤ p) (hc : Fits p c) (h : x ≤ c) : rdN p x true ≤ c := by
 unfold rdN cutN
 have hq := cut_parts p x
 by_cases hr : x % 2 ^ (blen x - p) = 0
 ·rw [if_neg (by simp [hr]), Nat.add_zero]; omega
 ·rw [if_pos ⟨rfl, hr⟩]
  have hx : x ≠ 0 := by intro h0; rw [h0] at hr; simp at hr
  obtain ⟨h1, _, h3⟩ := blen_pos hx
  rcases fits_cases (n := blen x - p) hc with ⟨b, hb⟩ | h2 | h2
  ·rw [hb] at h ⊢
   have h4 : x / 2 ^ (blen x - p) * 2 ^ (blen x - p) < b * 2 ^ (blen x - p) := by omega
   exact Nat.mul_le_mul_right _ (Nat.lt_of_mul_lt_mul_right h4)
  ·exfalso
   by_cases h5 : blen x - p = 0
   ·rw [h5, Nat.pow_zero, Nat.mod_one] at hr; exact hr rfl
   ·have e1 : p + (blen x - p) - 1 = blen x - 1 := by omega
    rw [e1] at h2
    omega
  ·exfalso
   rw [h2, Nat.pow_zero, Nat.mod_one] at hr; exact hr rfl
theorem rd_self {p x : Nat} (hp : 1 ≤ p) (h : Fits p x) (up : Bool) : rdN p x up = x := by
 cases up
 ·exact Nat.le_antisymm (rd_down_le p x) (rd_greatest hp h (Nat.le_refl _))
 ·exact Nat.le_antisymm (rd_least hp h (Nat.le_refl _)) (rd_up_ge p x)
theorem rd_zero (p : Nat) (up : Bool) : rdN p 0 up = 0 := by unfold rdN cutN; simp
end Go.Proofs.YtlpjlmophlikeaaGreatDoor
namespace Go.Proofs.YtlpjlmophlikeaaGreatDoor

theorem pos_of_pow {k : Nat} : (0 : Int) < ((2 ^ k : Nat) : Int) := by
 have := pow_pos2 k
 generalize 2 ^ k = P at *
 omega
/-- what is small and near is told no error -/
theorem nm_good {s : Bool} {m : Nat} {e k : Int} {s' : Bool} {m' : Nat} {e' : Int} (h : Nm s m e k s' m' e') (hm : blen m ≤ 4096) (he : -100000 ≤ e) (he' : e ≤ 100000) : k = 0 := by
 rcases h with ⟨_, h, _⟩ | ⟨j, q, hm0, h⟩
 ·exact h
 ·have h1 := (blen_le m _).1 hm
  obtain ⟨L, hL⟩ : ∃ L, L = 64 * 64 := ⟨_, rfl⟩
  have e1 : 4096 = L := by omega
  rw [e1] at h1
  have h2 : 1 * (2 * q + 1) ≤ 2 ^ j * (2 * q + 1) := Nat.mul_le_mul_right _ (pow_pos2 j)
  have h3 : 2 ^ j * 1 ≤ 2 ^ j * (2 * q + 1) := Nat.mul_le_mul_left _ (by omega)
  have h4 : j < L := by
   rcases Nat.lt_or_ge j L with h5 | h5
   ·exact h5
   ·have := Nat.pow_le_pow_right (n := 2) (by omega) h5
    omega
  have h5 : 2 * q + 1 < W ^ 64 := by rw [W64_pow, ← hL]; omega
  rcases h with ⟨h6, _⟩ | ⟨_, h6, _⟩ | ⟨_, _, h6, _⟩
  ·exact absurd h5 (by omega)
  ·exact absurd (And.intro (show -1048576 ≤ e + (j : Int) by omega) (show e + (j : Int) ≤ 1048576 by omega)) h6
  ·exact h6
theorem nm_small_e {s : Bool} {m : Nat} {e : Int} {s' : Bool} {m' : Nat} {e' : Int} (h : Nm s m e 0 s' m' e') (he : -100000 ≤ e) : blen m' ≤ blen m ∧ -100000 ≤ e' ∧ e' ≤ e + blen m ∨ (m' = 0 ∧ e' = 0) := by
 rcases h with ⟨_, _, _, h2, h3⟩ | ⟨j, q, hm0, ⟨_, h, _⟩ | ⟨_, _, h, _⟩ | ⟨_, _, _, _, h2, h3⟩⟩
 ·exact .inr ⟨h2, h3⟩
 ·cases h
 ·cases h
 ·left
  have e1 : m = (2 * q + 1) * 2 ^ j := by rw [hm0, Nat.mul_comm]
  have h4 := blen_shift (x := 2 * q + 1) (k := j) (by omega)
  rw [← e1] at h4
  rw [h2, h3]
  omega
theorem rd_shift {p x j : Nat} (hp : 1 ≤ p) (u : Bool) : rdN p (x * 2 ^ j) u = rdN p x u * 2 ^ j := by
 by_cases hx : x = 0
 ·subst hx; rw [Nat.zero_mul, rd_zero, Nat.zero_mul]
 ·have hb := blen_shift (k := j) hx
  rcases Nat.lt_or_ge (blen x) p with h1 | h1
  ·have hf : Fits p x := fits_of (by have := (blen_le x p).1 (by omega); exact this)
   rw [rd_self hp hf, rd_self hp (fits_shift hf)]
  ·have e1 : blen x + j - p = (blen x - p) + j := by omega
   unfold rdN cutN
   rw [hb, e1, Nat.pow_add, Nat.mul_div_mul_right _ _ (pow_pos2 j), Nat.mul_mod_mul_right]
   have e2 : (x % 2 ^ (blen x - p) * 2 ^ j ≠ 0) = (x % 2 ^ (blen x - p) ≠ 0) := by
    apply propext
    have := pow_pos2 j
    constructor
    ·intro h h2; apply h; rw [h2, Nat.zero_mul]
    ·intro h h2
     rcases Nat.mul_eq_zero.1 h2 with h3 | h3
     ·exact h h3
     ·omega
   simp only [e2]
   rw [Nat.mul_assoc]
theorem vz_mono {K : Nat} {s : Bool} {x y : Nat} {e : Int} (h : x ≤ y) : (s = false → vz K s x e ≤ vz K s y e) ∧ (s = true → vz K s y e ≤ vz K s x e) := by
 unfold vz
 have := Nat.mul_le_mul_right (2 ^ (e + K).toNat) h
 generalize x * 2 ^ (e + K).toNat = X at *
 generalize y * 2 ^ (e + K).toNat = Y at *
 constructor
 ·rintro rfl; simp only [sg, Bool.false_eq_true, if_false]; omega
 ·rintro rfl; simp only [sg, if_true]; omega
theorem rd_between {K p x : Nat} {s : Bool} {e : Int} : vz K s (rdN p x (false != s)) e ≤ vz K s x e ∧ vz K s x e ≤ vz K s (rdN p x (true != s)) e := by
 cases s
 ·exact ⟨(vz_mono (rd_down_le p x)).1 rfl, (vz_mono (rd_up_ge p x)).1 rfl⟩
 ·exact ⟨(vz_mono (rd_up_ge p x)).2 rfl, (vz_mono (rd_down_le p x)).2 rfl⟩
theorem vz_at {K : Nat} {s : Bool} {x : Nat} {e lo : Int} (hlo : -(K : Int) ≤ lo) (h : lo ≤ e) : vz K s x e = vz K s (x * 2 ^ (e - lo).toNat) lo := by
 have e1 : e = lo + ((e - lo).toNat : Nat) := by omega
 have := vz_up (K := K) (s := s) (m := x) hlo (e - lo).toNat
 rw [← e1] at this
 exact this
theorem vz_le_same {K : Nat} {x y : Nat} {e : Int} : (vz K false x e ≤ vz K false y e ↔ x ≤ y) ∧ (vz K true x e ≤ vz K true y e ↔ y ≤ x) := by
 have key : ∀ a b : Nat, (a * 2 ^ (e + K).toNat ≤ b * 2 ^ (e + K).toNat ↔ a ≤ b) := fun a b => ⟨fun h => Nat.le_of_mul_le_mul_right h (pow_pos2 _), fun h => Nat.mul_le_mul_right _ h⟩
 have k1 := key x y
 have k2 := key y x
 unfold vz
 simp only [sg, Bool.false_eq_true, if_false, if_true]
 generalize x * 2 ^ (e + K).toNat = X at *
 generalize y * 2 ^ (e + K).toNat = Y at *
 constructor
 ·rw [← k1]; omega
 ·rw [← k2]; omega
theorem vz_sgn {K : Nat} {x : Nat} {e : Int} : 0 ≤ vz K false x e ∧ vz K true x e ≤ 0 := by
 unfold vz
 simp only [sg, Bool.false_eq_true, if_false, if_true]
 omega
/-- the greatest of few bits: nothing of so few bits lies between -/
theorem near_down {K p : Nat} {s t : Bool} {x y : Nat} {e f : Int} (hp : 1 ≤ p) (he : -(K : Int) ≤ e) (hf : -(K : Int) ≤ f) (hy : Fits p y) (h : vz K t y f ≤ vz K s x e) : vz K t y f ≤ vz K s (rdN p x (false != s)) e := by
 obtain ⟨lo, hlo⟩ : ∃ lo, min e f = lo := ⟨_, rfl⟩
 have e1 := vz_at (K := K) (s := s) (x := x) (e := e) (lo := lo) (by omega) (by omega)
 have e2 := vz_at (K := K) (s := s) (x := rdN p x (false != s)) (e := e) (lo := lo) (by omega) (by omega)
 have e3 := vz_at (K := K) (s := t) (x := y) (e := f) (lo := lo) (by omega) (by omega)
 rw [e2, e3]
 rw [e1, e3] at h
 rw [← rd_shift hp]
 have hy2 := fits_shift (j := (f - lo).toNat) hy
 generalize y * 2 ^ (f - lo).toNat = Y at *
 generalize x * 2 ^ (e - lo).toNat = X at *
 cases s <;> cases t
 ·exact vz_le_same.1.2 (rd_greatest hp hy2 (vz_le_same.1.1 h))
 ·exact Int.le_trans vz_sgn.2 vz_sgn.1
 ·by_cases hX : X = 0
  ·rw [hX, rd_zero]; rw [hX] at h; exact h
  ·exfalso
   have h1 := (vz_pos (K := K) (s := true) (x := X) (e := lo) hX).2 rfl
   have h2 := (vz_sgn (K := K) (x := Y) (e := lo)).1
   omega
 ·exact vz_le_same.2.2 (rd_least hp hy2 (vz_le_same.2.1 h))
theorem near_up {K p : Nat} {s t : Bool} {x y : Nat} {e f : Int} (hp : 1 ≤ p) (he : -(K : Int) ≤ e) (hf : -(K : Int) ≤ f) (hy : Fits p y) (h : vz K s x e ≤ vz K t y f) : vz K s (rdN p x (true != s)) e ≤ vz K t y f := by
 have h1 := near_down (K := K) (s := !s) (t := !t) (x := x) hp he hf hy (by rw [vz_not, vz_not]; omega)
 have e1 : (false != !s) = (true != s) := by cases s <;> rfl
 rw [e1, vz_not, vz_not] at h1
 omega
/-- an M that is odd, or nought -/
theorem okd_fits {p : Nat} {s : Bool} {x : Nat} {e : Int} (hd : OkD s x e) : Fits p x ↔ blen x ≤ p := by
 rcases hd with ⟨rfl, _⟩ | ⟨h, _⟩
 ·rw [blen_zero]; exact ⟨fun _ => Nat.zero_le _, fun _ => fits_zero p⟩
 ·have := fits_blen (p := p) (q := x / 2) (k := 0)
  have e1 : 2 * (x / 2) + 1 = x := by omega
  rw [e1, Nat.pow_zero, Nat.one_mul] at this
  exact this
theorem nm_fits {p : Nat} {s : Bool} {y : Nat} {e k : Int} {s' : Bool} {m' : Nat} {e' : Int} (h : Nm s y e k s' m' e') (hy : Fits p y) : Fits p m' := by
 rcases h with ⟨_, _, _, h3, _⟩ | ⟨j, q, hm0, ⟨_, _, _, h3, _⟩ | ⟨_, _, _, _, h3, _⟩ | ⟨_, _, _, hs, h3, h4⟩⟩
 ·rw [h3]; exact fits_zero p
 ·rw [h3]; exact fits_zero p
 ·rw [h3]; exact fits_zero p
 ·rw [h3]
  rw [hm0, Nat.mul_comm] at hy
  exact unfits hy
end Go.Proofs.YtlpjlmophlikeaaGreatDoor
