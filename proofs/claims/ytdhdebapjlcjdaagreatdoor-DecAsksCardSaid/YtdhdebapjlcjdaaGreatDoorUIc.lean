/-
 What dyad's functions tell of any two Dyads, raw ones too; contracts of the reference's SameDyad, Sign, NegDyad, size, CmpDyad, at this translation. Condition: the slices read as limbs.
-/
import Derived.Test.YtdhdebapjlcjdaaGreatDoorURu
import Derived.Test.YtdhdebapjlcjdaaGreatDoorUMv
import Derived.Test.YtdhdebapjlcjdaaGreatDoorURa
set_option maxHeartbeats 8000000
set_option maxRecDepth 100000
namespace Go.Proofs.YtdhdebapjlcjdaaGreatDoor
open Go.RowKit

/-- what is told of any two, raw ones too -/
def sameB (s t : Bool) (l r : List Nat) (e f : Int) : Bool := decide (s = t ∧ e = f ∧ l = r)
theorem rsame_eq {w : World} {A B : Option Addr} {n c m d : Nat} {l r : List Nat} {s : Bool} {e : Int} (h : Rd w .u64 Go.Proofs.YtdhdebapjlcjdaaGreatDoor.W A n c l) (h' : Rd w .u64 Go.Proofs.YtdhdebapjlcjdaaGreatDoor.W B m d r) :
  Calls Tryz.prog 13 #[.agg #[.bool s, .slice A n c, .int .i64 e], .agg #[.bool s, .slice B m d, .int .i64 e]] w fun en w' => en = .returned (.bool (decide (l = r))) ∧ Below w.heap.size w w' := by
 have BB := two_below w (.cells #[.bool s, .slice A n c, .int .i64 e] 25) (.cells #[.bool s, .slice B m d, .int .i64 e] 25)
 obtain ⟨a10, a11, a12, a20, a21, a22⟩ := (two_new w s s A B n c m d e e).held
 have h1 := h.next BB rfl
 have h2 := h'.next BB rfl
 have hc := h1.cap
 have hm := h1.max
 have hc' := h2.cap
 have hm' := h2.max
 have hl := h1.len
 have hl' := h2.len
 have fs : (s != s) = false := by simp
 have fe : (e != e) = false := by simp
 clear h h'
 by_cases hnm : n = m
 rotate_left
 ·have fz : ((n : Int) != (m : Int)) = true := by simp; omega
  have hlr : l ≠ r := fun h => hnm (by rw [← hl, ← hl', h])
  rw [decide_eq_false hlr]
  clear hlr hl hl' hnm
  go_enter Tryz.func13, Tryz.ntmps13
  go_wp2
  go_ret
  exact ⟨rfl, BB⟩
 subst hnm
 obtain ⟨D, hD⟩ : ∃ D, D = decide (l = r) := ⟨_, rfl⟩
 rw [← hD]
 have HD := Lib.hid hD
 have HL := Lib.hid hl
 have HL' := Lib.hid hl'
 clear hD hl hl'
 go_enter Tryz.func13, Tryz.ntmps13
 go_wp2
 go_loopg [5] n (fun g v wr => ∃ i : Nat, i + g = n ∧ v = .int .i64 i ∧ (∀ j, j < i → l.getD j 0 = r.getD j 0) ∧ Below w.heap.size w wr ∧ wr.cell? ⟨w.heap.size, 1, none⟩ = some (.slice A n c) ∧ wr.cell? ⟨w.heap.size + 1, 1, none⟩ = some (.slice B n d) ∧ Rd wr .u64 Go.Proofs.YtdhdebapjlcjdaaGreatDoor.W A n c l ∧ Rd wr .u64 Go.Proofs.YtdhdebapjlcjdaaGreatDoor.W B n d r)
 case atStart => exact ⟨0, by omega, rfl, fun j hj => absurd hj (by omega), BB, a11, a21, h1, h2⟩
 case round =>
  obtain ⟨i, hg, rfl, hall, hb, b1, b2, k1, k2⟩ := hrel
  clear BB a10 a11 a12 a20 a21 a22 h1 h2
  have HG := Lib.hid hg
  have HA := Lib.hid hall
  clear hg hall
  by_cases hi : i < n
  ·obtain ⟨a, o, rfl, ha, hca⟩ := k1.at_ (by omega)
   obtain ⟨a', o', rfl, ha', hca'⟩ := k2.at_ (by omega)
   obtain ⟨y, hy⟩ : ∃ y, y = l.getD i 0 := ⟨_, rfl⟩
   obtain ⟨z, hz⟩ : ∃ z, z = r.getD i 0 := ⟨_, rfl⟩
   have c1 : wr.cell? ⟨a, o + i, none⟩ = some (.int .u64 (y : Int)) := by rw [hy]; exact hca i hi
   have c2 : wr.cell? ⟨a', o' + i, none⟩ = some (.int .u64 (z : Int)) := by rw [hz]; exact hca' i hi
   have hp2 : (i : Int) < n := by omega
   have hp3 : (0 : Int) ≤ i := by omega
   have HY := Lib.hid hy
   have HZ := Lib.hid hz
   clear hy hz hca hca'
   by_cases hyz : y = z
   ·subst hyz
    have fy : ((y : Int) != (y : Int)) = false := by simp
    go_wp2
    go_quiet (fail)
    go_wp2
    go_roundg (gk - 1)
    case measure => have := HG.out; omega
    case rel =>
     refine ⟨i + 1, by have := HG.out; omega, by go_num, fun j hj => ?_, below_drewN hb _, b1, b2, k1.drewN _, k2.drewN _⟩
     by_cases hji : j = i
     ·rw [hji, ← HY.out, ← HZ.out]
     ·exact HA.out j (by omega)
   ·have fy : ((y : Int) != (z : Int)) = true := by simp; omega
    have HR : Hid (D = false) := Lib.hid (by
     rw [HD.out]
     refine decide_eq_false fun h => hyz ?_
     rw [HY.out, HZ.out, h])
    clear hyz
    go_wp2
    go_quiet (fail)
    go_wp2
    go_ret
    exact ⟨congrArg (fun b => Ending.returned (Value.bool b)) HR.out.symm, below_drewN hb _⟩
  ·have : i = n := by have := HG.out; omega
   subst this
   have HR : Hid (D = true) := Lib.hid (by
    rw [HD.out]
    refine decide_eq_true (List.ext_getElem (by rw [HL.out, HL'.out]) fun j hj hj' => ?_)
    have := HA.out j (by rw [← HL.out]; exact hj)
    simpa [List.getD_eq_getElem?_getD, List.getElem?_eq_getElem hj, List.getElem?_eq_getElem hj'] using this)
   go_wp2
   go_ret
   exact ⟨congrArg (fun b => Ending.returned (Value.bool b)) HR.out.symm, hb⟩

theorem rsame_no {w : World} {A B : Option Addr} {n c m d : Nat} {s t : Bool} {e f : Int} (hne : s ≠ t ∨ e ≠ f) :
  Calls Tryz.prog 13 #[.agg #[.bool s, .slice A n c, .int .i64 e], .agg #[.bool t, .slice B m d, .int .i64 f]] w fun en w' => en = .returned (.bool false) ∧ Below w.heap.size w w' := by
 have BB := two_below w (.cells #[.bool s, .slice A n c, .int .i64 e] 25) (.cells #[.bool t, .slice B m d, .int .i64 f] 25)
 obtain ⟨a10, a11, a12, a20, a21, a22⟩ := (two_new w s t A B n c m d e f).held
 by_cases hst : s = t
 ·subst hst
  have fs : (s != s) = false := by simp
  have fe : (e != f) = true := by simp; exact hne.resolve_left (fun h => h rfl)
  clear hne
  go_enter Tryz.func13, Tryz.ntmps13
  go_wp2
  all_goals (go_ret; exact ⟨rfl, BB⟩)
 ·clear hne
  cases s <;> cases t <;> first | exact absurd rfl hst | skip
  all_goals
   clear hst
   go_enter Tryz.func13, Tryz.ntmps13
   go_wp2
   all_goals (go_ret; exact ⟨rfl, BB⟩)

theorem rsame_raw {w : World} {A B : Option Addr} {n c m d : Nat} {l r : List Nat} {s t : Bool} {e f : Int} (h : Rd w .u64 Go.Proofs.YtdhdebapjlcjdaaGreatDoor.W A n c l) (h' : Rd w .u64 Go.Proofs.YtdhdebapjlcjdaaGreatDoor.W B m d r) :
  Calls Tryz.prog 13 #[.agg #[.bool s, .slice A n c, .int .i64 e], .agg #[.bool t, .slice B m d, .int .i64 f]] w fun en w' => en = .returned (.bool (sameB s t l r e f)) ∧ Below w.heap.size w w' := by
 by_cases h1 : s = t ∧ e = f
 ·obtain ⟨rfl, rfl⟩ := h1
  rw [show sameB s s l r e e = decide (l = r) from decide_eq_decide.2 ⟨fun h => h.2.2, fun h => ⟨rfl, rfl, h⟩⟩]
  exact rsame_eq h h'
 ·rw [show sameB s t l r e f = false from decide_eq_false fun h => h1 ⟨h.1, h.2.1⟩]
  refine rsame_no ?_
  by_cases h2 : s = t
  ·exact .inr fun h3 => h1 ⟨h2, h3⟩
  ·exact .inl h2
theorem dsame_raw {w : World} {A B : Option Addr} {n c m d : Nat} {l r : List Nat} {s t : Bool} {e f : Int} (h : Rd w .u64 Go.Proofs.YtdhdebapjlcjdaaGreatDoor.W A n c l) (h' : Rd w .u64 Go.Proofs.YtdhdebapjlcjdaaGreatDoor.W B m d r) :
  Calls Tryz.prog 16 #[.agg #[.bool s, .slice A n c, .int .i64 e], .agg #[.bool t, .slice B m d, .int .i64 f]] w fun en w' => en = .returned (.bool (sameB s t l r e f)) ∧ Below w.heap.size w w' := by
 by_cases h1 : s = t ∧ e = f
 ·obtain ⟨rfl, rfl⟩ := h1
  rw [show sameB s s l r e e = decide (l = r) from decide_eq_decide.2 ⟨fun h => h.2.2, fun h => ⟨rfl, rfl, h⟩⟩]
  exact dsame_eq h h'
 ·rw [show sameB s t l r e f = false from decide_eq_false fun h => h1 ⟨h.1, h.2.1⟩]
  refine dsame_no ?_
  by_cases h2 : s = t
  ·exact .inr fun h3 => h1 ⟨h2, h3⟩
  ·exact .inl h2
end Go.Proofs.YtdhdebapjlcjdaaGreatDoor
namespace Go.Proofs.YtdhdebapjlcjdaaGreatDoor
open Go.RowKit

/-- a block that holds an interval's parts -/
structure Ibx (w : World) (g : Nat) (s : Bool) (A : Option Addr) (n c : Nat) (e : Int) (t : Bool) (B : Option Addr) (m d : Nat) (f : Int) : Prop where
 blk : w.heap[g]? = some (.cells #[.bool s, .slice A n c, .int .i64 e, .bool t, .slice B m d, .int .i64 f] 27 (0, 0))
section
variable {w w' : World} {g g' b0 : Nat} {s : Bool} {A : Option Addr} {n c : Nat} {e : Int} {t : Bool} {B : Option Addr} {m d : Nat} {f : Int}
theorem Ibx.gl (h : Ibx w g s A n c e t B m d f) : g < w.heap.size := by
 rcases Nat.lt_or_ge g w.heap.size with hlt | hge
 ·exact hlt
 ·have := h.blk; rw [Array.getElem?_eq_none hge] at this; cases this
theorem Ibx.at (h : Ibx w g s A n c e t B m d f) (i : Nat) : w.cell? ⟨g, i, none⟩ = (#[.bool s, .slice A n c, .int .i64 e, .bool t, .slice B m d, .int .i64 f] : Array Value)[i]? := cell_of_row w g i _ 27 (0, 0) h.blk
theorem Ibx.held (h : Ibx w g s A n c e t B m d f) : w.cell? ⟨g, 0, none⟩ = some (.bool s) ∧ w.cell? ⟨g, 1, none⟩ = some (.slice A n c) ∧ w.cell? ⟨g, 2, none⟩ = some (.int .i64 e) ∧ w.cell? ⟨g, 3, none⟩ = some (.bool t) ∧ w.cell? ⟨g, 4, none⟩ = some (.slice B m d) ∧ w.cell? ⟨g, 5, none⟩ = some (.int .i64 f) := ⟨h.at 0, h.at 1, h.at 2, h.at 3, h.at 4, h.at 5⟩
theorem Ibx.frozen (h : Ibx w g s A n c e t B m d f) (i : Nat) : w.frozen? ⟨g, i, none⟩ = false := by
 have := h.blk
 simp [World.frozen?, this]
theorem Ibx.open (h : Ibx w g s A n c e t B m d f) : w.frozen? ⟨g, 0, none⟩ = false ∧ w.frozen? ⟨g, 1, none⟩ = false ∧ w.frozen? ⟨g, 2, none⟩ = false ∧ w.frozen? ⟨g, 3, none⟩ = false ∧ w.frozen? ⟨g, 4, none⟩ = false ∧ w.frozen? ⟨g, 5, none⟩ = false := ⟨h.frozen 0, h.frozen 1, h.frozen 2, h.frozen 3, h.frozen 4, h.frozen 5⟩
theorem Ibx.below (h : Ibx w g s A n c e t B m d f) (hb : Below b0 w w') (hg : g < b0) : Ibx w' g s A n c e t B m d f := ⟨(hb.block g hg).trans h.blk⟩
theorem Ibx.heap (h : Ibx w g s A n c e t B m d f) (he : w'.heap = w.heap) : Ibx w' g s A n c e t B m d f := ⟨by rw [he]; exact h.blk⟩
theorem Ibx.next {X w2 : World} (h : Ibx w g s A n c e t B m d f) (b : Below X.heap.size X w2) (he : X.heap = w.heap) : Ibx w2 g s A n c e t B m d f := (h.heap he).below b (by rw [he]; exact h.gl)
instance {w w2 : World} {g : Nat} {s : Bool} {A : Option Addr} {n c : Nat} {e : Int} {t : Bool} {B : Option Addr} {m d : Nat} {f : Int} : Moves w w2 (Ibx w g s A n c e t B m d f) (Ibx w2 g s A n c e t B m d f) := ⟨fun _ b e h => h.next b e⟩
theorem Ibx.new (w : World) (s : Bool) (A : Option Addr) (n c : Nat) (e : Int) (t : Bool) (B : Option Addr) (m d : Nat) (f : Int) : Ibx (w.alloc (.cells #[.bool s, .slice A n c, .int .i64 e, .bool t, .slice B m d, .int .i64 f] 27)) w.heap.size s A n c e t B m d f := ⟨heap_alloc_new w _⟩
theorem Ibx.alloc (h : Ibx w g s A n c e t B m d f) (o : Obj) : Ibx (w.alloc o) g s A n c e t B m d f := h.below (below_alloc w o) h.gl
theorem Ibx.no (h : Ibx w g s A n c e t B m d f) (i x : Nat) : w.cell? ⟨g, i, none⟩ ≠ some (.int .u64 (x : Int)) := by
 rw [h.at i]
 match i with
 | 0 => simp
 | 1 => simp
 | 2 => simp
 | 3 => simp
 | 4 => simp
 | 5 => simp
 | i + 6 => simp
theorem Ibx.no32 (h : Ibx w g s A n c e t B m d f) (i x : Nat) : w.cell? ⟨g, i, none⟩ ≠ some (.int .u32 (x : Int)) := by
 rw [h.at i]
 match i with
 | 0 => simp
 | 1 => simp
 | 2 => simp
 | 3 => simp
 | 4 => simp
 | 5 => simp
 | i + 6 => simp
/-- the six parts stored anew -/
theorem Ibx.put (h : Ibx w g s A n c e t B m d f) (s' : Bool) (A' : Option Addr) (n' c' : Nat) (e' : Int) (t' : Bool) (B' : Option Addr) (m' d' : Nat) (f' : Int) : Ibx ((((((w.setCell ⟨g, 0, none⟩ (.bool s')).setCell ⟨g, 1, none⟩ (.slice A' n' c')).setCell ⟨g, 2, none⟩ (.int .i64 e')).setCell ⟨g, 3, none⟩ (.bool t')).setCell ⟨g, 4, none⟩ (.slice B' m' d')).setCell ⟨g, 5, none⟩ (.int .i64 f')) g s' A' n' c' e' t' B' m' d' f' := by
 have := h.blk
 refine ⟨?_⟩
 simp [World.setCell, Array.getElem?_modify, this]
theorem Ibx.other (h : Ibx w g s A n c e t B m d f) (hne : g ≠ g') (i : Nat) (u : Value) : Ibx (w.setCell ⟨g', i, none⟩ u) g s A n c e t B m d f := ⟨(Below.heap_setCell w _ u g hne).trans h.blk⟩
theorem Rd.put6 {Q : Nat} {C : Option Addr} {k z : Nat} {l : List Nat} (h : Rd w .u64 Q C k z l) (hb : Ibx w g s A n c e t B m d f) (u0 u1 u2 u3 u4 u5 : Value) : Rd ((((((w.setCell ⟨g, 0, none⟩ u0).setCell ⟨g, 1, none⟩ u1).setCell ⟨g, 2, none⟩ u2).setCell ⟨g, 3, none⟩ u3).setCell ⟨g, 4, none⟩ u4).setCell ⟨g, 5, none⟩ u5) .u64 Q C k z l := by
 have hne := h.off hb.no
 exact (((((h.set1 hne 0 u0).set1 hne 1 u1).set1 hne 2 u2).set1 hne 3 u3).set1 hne 4 u4).set1 hne 5 u5
theorem Nt.put6 {C : Option Addr} {k z y : Nat} (h : Nt w C k z y) (hb : Ibx w g s A n c e t B m d f) (u0 u1 u2 u3 u4 u5 : Value) : Nt ((((((w.setCell ⟨g, 0, none⟩ u0).setCell ⟨g, 1, none⟩ u1).setCell ⟨g, 2, none⟩ u2).setCell ⟨g, 3, none⟩ u3).setCell ⟨g, 4, none⟩ u4).setCell ⟨g, 5, none⟩ u5) C k z y := ⟨h.rd.put6 hb u0 u1 u2 u3 u4 u5, h.lt⟩
theorem below_put6 {w0 : World} (h : Below b0 w0 w) (hg : b0 ≤ g) (u0 u1 u2 u3 u4 u5 : Value) : Below b0 w0 ((((((w.setCell ⟨g, 0, none⟩ u0).setCell ⟨g, 1, none⟩ u1).setCell ⟨g, 2, none⟩ u2).setCell ⟨g, 3, none⟩ u3).setCell ⟨g, 4, none⟩ u4).setCell ⟨g, 5, none⟩ u5) :=
 (((((h.setCell hg u0).setCell hg u1).setCell hg u2).setCell hg u3).setCell hg u4).setCell hg u5
end
end Go.Proofs.YtdhdebapjlcjdaaGreatDoor

namespace Go.Proofs.YtdhdebapjlcjdaaGreatDoor

/-- a dyadic number as it lies in a program's parts -/
structure Rw where
 s : Bool
 l : List Nat
 e : Int
 lt : Lt W l
/-- an interval's two ends -/
structure Iv where
 lo : Rw
 hi : Rw
def Rw.zero : Rw := ⟨false, [], 0, fun x hx => by cases hx⟩
def Iv.zero : Iv := ⟨Rw.zero, Rw.zero⟩
def sameQ (a b : Rw) : Bool := sameB a.s b.s a.l b.l a.e b.e
section
variable {K : Nat} {a b d : Rw}
theorem Rw.ext {a b : Rw} (h1 : a.s = b.s) (h2 : a.l = b.l) (h3 : a.e = b.e) : a = b := by
 cases a; cases b; cases h1; cases h2; cases h3; rfl
theorem sameQ_iff : sameQ a b = true ↔ a = b := by
 unfold sameQ sameB
 rw [decide_eq_true_iff]
 exact ⟨fun h => Rw.ext h.1 h.2.2 h.2.1, fun h => by subst h; exact ⟨rfl, rfl, rfl⟩⟩
end
def sameI (x y : Iv) : Bool := sameQ x.lo y.lo && sameQ x.hi y.hi
section
variable {K : Nat} {a b d : Rw} {x y z : Iv}
theorem sameI_iff : sameI x y = true ↔ x = y := by
 unfold sameI
 rw [Bool.and_eq_true, sameQ_iff, sameQ_iff]
 constructor
 ·rintro ⟨h1, h2⟩; cases x; cases y; cases h1; cases h2; rfl
 ·rintro rfl; exact ⟨rfl, rfl⟩
/- the same words as the document's answer has them -/
end
end Go.Proofs.YtdhdebapjlcjdaaGreatDoor

namespace Go.Proofs.YtdhdebapjlcjdaaGreatDoor
open Go.RowKit

/-- how one that tells an interval ends -/
def GivI (x : Iv) (w : World) (en : Ending) (w' : World) : Prop := ∃ A n c B m d, en = .returned (.agg #[.bool x.lo.s, .slice A n c, .int .i64 x.lo.e, .bool x.hi.s, .slice B m d, .int .i64 x.hi.e]) ∧ Rd w' .u64 Go.Proofs.YtdhdebapjlcjdaaGreatDoor.W A n c x.lo.l ∧ Rd w' .u64 Go.Proofs.YtdhdebapjlcjdaaGreatDoor.W B m d x.hi.l ∧ Below w.heap.size w w'
/-- how a face ends that tells an interval and a code -/
def TellI (k : Int) (x : Iv) (w : World) (en : Ending) (w' : World) : Prop := ∃ A n c B m d, en = .returned (.tuple #[.agg #[.bool x.lo.s, .slice A n c, .int .i64 x.lo.e, .bool x.hi.s, .slice B m d, .int .i64 x.hi.e], .int .i64 k]) ∧ Rd w' .u64 Go.Proofs.YtdhdebapjlcjdaaGreatDoor.W A n c x.lo.l ∧ Rd w' .u64 Go.Proofs.YtdhdebapjlcjdaaGreatDoor.W B m d x.hi.l ∧ Below w.heap.size w w'
def Bools (b : Bool) (w : World) (en : Ending) (w' : World) : Prop := en = .returned (.bool b) ∧ Below w.heap.size w w'

theorem two_ivl (w : World) {x y : Iv} {A1 : Option Addr} {n1 c1 : Nat} {A2 : Option Addr} {n2 c2 : Nat} {A3 : Option Addr} {n3 c3 : Nat} {A4 : Option Addr} {n4 c4 : Nat} : Below w.heap.size w ((w.alloc (.cells #[.bool x.lo.s, .slice A1 n1 c1, .int .i64 x.lo.e, .bool x.hi.s, .slice A2 n2 c2, .int .i64 x.hi.e] 27)).alloc (.cells #[.bool y.lo.s, .slice A3 n3 c3, .int .i64 y.lo.e, .bool y.hi.s, .slice A4 n4 c4, .int .i64 y.hi.e] 27)) ∧ Ibx ((w.alloc (.cells #[.bool x.lo.s, .slice A1 n1 c1, .int .i64 x.lo.e, .bool x.hi.s, .slice A2 n2 c2, .int .i64 x.hi.e] 27)).alloc (.cells #[.bool y.lo.s, .slice A3 n3 c3, .int .i64 y.lo.e, .bool y.hi.s, .slice A4 n4 c4, .int .i64 y.hi.e] 27)) w.heap.size x.lo.s A1 n1 c1 x.lo.e x.hi.s A2 n2 c2 x.hi.e ∧ Ibx ((w.alloc (.cells #[.bool x.lo.s, .slice A1 n1 c1, .int .i64 x.lo.e, .bool x.hi.s, .slice A2 n2 c2, .int .i64 x.hi.e] 27)).alloc (.cells #[.bool y.lo.s, .slice A3 n3 c3, .int .i64 y.lo.e, .bool y.hi.s, .slice A4 n4 c4, .int .i64 y.hi.e] 27)) (w.heap.size + 1) y.lo.s A3 n3 c3 y.lo.e y.hi.s A4 n4 c4 y.hi.e := by
 refine ⟨two_below w _ _, (Ibx.new w x.lo.s A1 n1 c1 x.lo.e x.hi.s A2 n2 c2 x.hi.e).alloc _, ?_⟩
 have := Ibx.new (w.alloc (.cells #[.bool x.lo.s, .slice A1 n1 c1, .int .i64 x.lo.e, .bool x.hi.s, .slice A2 n2 c2, .int .i64 x.hi.e] 27)) y.lo.s A3 n3 c3 y.lo.e y.hi.s A4 n4 c4 y.hi.e
 simpa using this

end Go.Proofs.YtdhdebapjlcjdaaGreatDoor
