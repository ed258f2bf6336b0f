/-
 Contracts of expo's near numbers: more, lowered, raised, divided, times, over, plus, between, at this translation. Condition: the slices read as limbs, the table of math/bits reads as its text lays it.
-/
import Derived.Test.YtlpjlmophlikeaaGreatDoorPEa
import Derived.Test.YtlpjlmophlikeaaGreatDoorPLd
import Derived.Test.YtlpjlmophlikeaaGreatDoorPLa
import Derived.Test.YtlpjlmophlikeaaGreatDoorPIs
namespace Go.Proofs.YtlpjlmophlikeaaGreatDoor
open Go.RowKit

/-- a block that holds a near's three parts -/
structure Nrb (w : World) (g : Nat) (A : Option Addr) (n c : Nat) (B : Option Addr) (m d : Nat) (e : Int) : Prop where
 blk : w.heap[g]? = some (.cells #[.slice A n c, .slice B m d, .int .i64 e] 160 (0, 0))
section
variable {w w' : World} {g : Nat} {A : Option Addr} {n c : Nat} {B : Option Addr} {m d : Nat} {e : Int}
theorem Nrb.gl (h : Nrb w g A n c B m d e) : g < w.heap.size := by
 rcases Nat.lt_or_ge g w.heap.size with hlt | hge
 ·exact hlt
 ·have := h.blk; rw [Array.getElem?_eq_none hge] at this; cases this
theorem Nrb.at (h : Nrb w g A n c B m d e) (i : Nat) : w.cell? ⟨g, i, none⟩ = #[Value.slice A n c, .slice B m d, .int .i64 e][i]? := cell_of_row w g i _ 160 (0, 0) h.blk
theorem Nrb.held (h : Nrb w g A n c B m d e) : w.cell? ⟨g, 0, none⟩ = some (.slice A n c) ∧ w.cell? ⟨g, 1, none⟩ = some (.slice B m d) ∧ w.cell? ⟨g, 2, none⟩ = some (.int .i64 e) := ⟨h.at 0, h.at 1, h.at 2⟩
theorem Nrb.frozen (h : Nrb w g A n c B m d e) (i : Nat) : w.frozen? ⟨g, i, none⟩ = false := by
 have := h.blk
 simp [World.frozen?, this]
theorem Nrb.open (h : Nrb w g A n c B m d e) : w.frozen? ⟨g, 0, none⟩ = false ∧ w.frozen? ⟨g, 1, none⟩ = false ∧ w.frozen? ⟨g, 2, none⟩ = false := ⟨h.frozen 0, h.frozen 1, h.frozen 2⟩
theorem Nrb.below {b0 : Nat} (h : Nrb w g A n c B m d e) (hb : Below b0 w w') (hg : g < b0) : Nrb w' g A n c B m d e := ⟨(hb.block g hg).trans h.blk⟩
theorem Nrb.new (w : World) (A : Option Addr) (n c : Nat) (B : Option Addr) (m d : Nat) (e : Int) : Nrb (w.alloc (.cells #[.slice A n c, .slice B m d, .int .i64 e] 160)) w.heap.size A n c B m d e := ⟨heap_alloc_new w _⟩
theorem Nrb.alloc (h : Nrb w g A n c B m d e) (o : Obj) : Nrb (w.alloc o) g A n c B m d e := h.below (below_alloc w o) h.gl
theorem Nrb.no (h : Nrb w g A n c B m d e) (i x : Nat) : w.cell? ⟨g, i, none⟩ ≠ some (.int .u64 (x : Int)) := by
 rw [h.at i]
 match i with
 | 0 => simp
 | 1 => simp
 | 2 => simp
 | i + 3 => simp
theorem Nrb.put (h : Nrb w g A n c B m d e) (A' : Option Addr) (n' c' : Nat) (B' : Option Addr) (m' d' : Nat) (e' : Int) : Nrb (((w.setCell ⟨g, 0, none⟩ (.slice A' n' c')).setCell ⟨g, 1, none⟩ (.slice B' m' d')).setCell ⟨g, 2, none⟩ (.int .i64 e')) g A' n' c' B' m' d' e' := by
 have := h.blk
 refine ⟨?_⟩
 simp [World.setCell, Array.getElem?_modify, this]
theorem Nrb.next {w2 X : World} (h : Nrb w g A n c B m d e) (b : Below X.heap.size X w2) (he : X.heap = w.heap) : Nrb w2 g A n c B m d e :=
 ⟨(b.block g (by rw [he]; exact h.gl)).trans (by rw [he]; exact h.blk)⟩
instance {w w2 : World} {g : Nat} {A : Option Addr} {n c : Nat} {B : Option Addr} {m d : Nat} {e : Int} : Moves w w2 (Nrb w g A n c B m d e) (Nrb w2 g A n c B m d e) := ⟨fun _ b e h => h.next b e⟩
theorem Nrb.other {g' : Nat} (h : Nrb w g A n c B m d e) (hne : g ≠ g') (u0 u1 u2 : Value) : Nrb (((w.setCell ⟨g', 0, none⟩ u0).setCell ⟨g', 1, none⟩ u1).setCell ⟨g', 2, none⟩ u2) g A n c B m d e :=
 ⟨(Below.heap_setCell _ _ u2 g hne).trans ((Below.heap_setCell _ _ u1 g hne).trans ((Below.heap_setCell w _ u0 g hne).trans h.blk))⟩
theorem Nrb.at_ {w : World} {g : Nat} (hg : w.heap.size = g) (A : Option Addr) (n c : Nat) (B : Option Addr) (m d : Nat) (e : Int) : Nrb (w.alloc (.cells #[.slice A n c, .slice B m d, .int .i64 e] 160)) g A n c B m d e := by
 subst hg
 exact Nrb.new w A n c B m d e
end
/-- y divided by i, rounded up -/
def ceilN (y i : Nat) : Nat := y / i + if y % i = 0 then 0 else 1

end Go.Proofs.YtlpjlmophlikeaaGreatDoor
namespace Go.Proofs.YtlpjlmophlikeaaGreatDoor
open Go.RowKit

/-- a term and the sum up to it, behind i terms -/
def sStep (x y q i : Nat) (s : Nat × Nat × Nat × Nat) : Nat × Nat × Nat × Nat :=
 (s.1 * x / 2 ^ q / i, ceilN (upN (s.2.1 * y) q) i, s.2.2.1 + s.1 * x / 2 ^ q / i, s.2.2.2 + ceilN (upN (s.2.1 * y) q) i)
end Go.Proofs.YtlpjlmophlikeaaGreatDoor
namespace Go.Proofs.YtlpjlmophlikeaaGreatDoor
open Go.RowKit

/-- what check finds of an interval and p bits -/
def chk (K : Nat) (x : Iv) (p : Int) : Int := if mayI K x = false ∨ p < 1 ∨ 300 < p then 1 else if withinI K x d64 = false then 4 else if x.lo.e < -400 ∨ x.hi.e < -400 then 2 else 0
end Go.Proofs.YtlpjlmophlikeaaGreatDoor
namespace Go.Proofs.YtlpjlmophlikeaaGreatDoor
open Go.RowKit

def timO (q : Nat) (a b : Nat × Nat) : Option (Nat × Nat) := if a.1 * b.1 < W ^ 64 ∧ a.2 * b.2 < W ^ 64 then some (a.1 * b.1 / 2 ^ q, upN (a.2 * b.2) q) else none
end Go.Proofs.YtlpjlmophlikeaaGreatDoor
namespace Go.Proofs.YtlpjlmophlikeaaGreatDoor
open Go.RowKit

/-- what sum tells, from j terms on, of which g are looked at at most -/
def sumF (x y q : Nat) : Nat → Nat → Nat × Nat × Nat × Nat → Option (Nat × Nat)
 | 0, _, _ => none
 | g + 1, j, s => if s.1 * x < W ^ 64 ∧ s.2.1 * y < W ^ 64 then
   (if (sStep x y q (j + 1) s).2.2.1 < W ^ 64 ∧ (sStep x y q (j + 1) s).2.2.2 < W ^ 64 then
    (if (sStep x y q (j + 1) s).2.1 = 1 then (if (sStep x y q (j + 1) s).2.2.2 + (sStep x y q (j + 1) s).2.1 < W ^ 64 then some ((sStep x y q (j + 1) s).2.2.1, (sStep x y q (j + 1) s).2.2.2 + (sStep x y q (j + 1) s).2.1) else none)
    else sumF x y q g (j + 1) (sStep x y q (j + 1) s))
   else none)
  else none
def serO (x y q : Nat) : Option (Nat × Nat) := if 2 ^ q < W ^ 64 then sumF x y q q 0 (2 ^ q, 2 ^ q, 2 ^ q, 2 ^ q) else none
end Go.Proofs.YtlpjlmophlikeaaGreatDoor
namespace Go.Proofs.YtlpjlmophlikeaaGreatDoor
open Go.RowKit

/-- what part tells of x times 2^e, divided by 2^k, in units of 2^-q -/
def partO (x : Nat) (e : Int) (k q : Nat) : Option (Nat × Nat) :=
 if 0 ≤ e - (k : Int) + (q : Int) then (if x * 2 ^ (e - (k : Int) + (q : Int)).toNat < W ^ 64 then some (x * 2 ^ (e - (k : Int) + (q : Int)).toNat, x * 2 ^ (e - (k : Int) + (q : Int)).toNat) else none)
 else some (x / 2 ^ (-(e - (k : Int) + (q : Int))).toNat, upN x (-(e - (k : Int) + (q : Int))).toNat)

end Go.Proofs.YtlpjlmophlikeaaGreatDoor
namespace Go.Proofs.YtlpjlmophlikeaaGreatDoor

/-- squares, so many times -/
def sqF (q : Nat) : Nat → Nat × Nat → Option (Nat × Nat)
 | 0, s => some s
 | k + 1, s => match timO q s s with
  | none => none
  | some u => sqF q k u
/-- bounds of e to a number above 0: m times 2^e, by its part of 2^-k -/
def bndO (m : Nat) (e : Int) (k q : Nat) : Option (Nat × Nat) := match partO m e k q with
 | none => none
 | some x => match serO x.1 x.2 q with
  | none => none
  | some s => sqF q k s
end Go.Proofs.YtlpjlmophlikeaaGreatDoor
namespace Go.Proofs.YtlpjlmophlikeaaGreatDoor
open Go.RowKit

def oneQ : Rw := Rw.of false 1 0
/-- what is told of 1 divided by an interval's numbers -/
def invO (S : Sc) (x : Iv) (p : Int) : Except Int Iv := thn (quoO S p false oneQ x.hi) fun l => thn (quoO S p true oneQ x.lo) fun h => .ok ⟨l, h⟩
/-- 2^n as it is told -/
def twoO (S : Sc) (n : Int) : Except Int Rw := S.oc (Nm false 1 n)
/-- what is told of the next number of p bits -/
def nxtO (S : Sc) (d : Rw) (p : Int) : Except Int Rw := thn (twoO S (d.e + (blen (val Go.Proofs.YtlpjlmophlikeaaGreatDoor.W d.l) : Int) - p)) fun st => addO S d st
theorem twoO_cod {S : Sc} {n : Int} : Cod (twoO S n) := oc_cod (nm_only _ _ _) (nm_some _ _ _)
end Go.Proofs.YtlpjlmophlikeaaGreatDoor
namespace Go.Proofs.YtlpjlmophlikeaaGreatDoor
open Go.RowKit

/-- a natural in units of 2^-q, as it is told -/
def natQ (S : Sc) (a q : Nat) : Rw := orw (S.oc (Nm false a (-(q : Int))))
/-- what bounds tells of e to m times 2^e, or to its opposite -/
def fromO (S : Sc) (q : Nat) (neg : Bool) : Option (Nat × Nat) → Except Int Iv
 | none => .error 2
 | some u => if neg = true then invO S ⟨natQ S u.1 q, natQ S u.2 q⟩ (q : Int) else .ok ⟨natQ S u.1 q, natQ S u.2 q⟩
def bouO (S : Sc) (m : Nat) (e : Int) (k q : Nat) (neg : Bool) : Except Int Iv := fromO S q neg (bndO m e k q)
end Go.Proofs.YtlpjlmophlikeaaGreatDoor
namespace Go.Proofs.YtlpjlmophlikeaaGreatDoor
open Go.RowKit

/-- what power tells, of at most so many tries, from w bits on -/
def powF (S : Sc) (m : Nat) (e : Int) (k : Nat) (p : Int) (up neg : Bool) : Nat → Nat → Except Int Rw
 | 0, _ => .error 2
 | g + 1, w => thn (bouO S m e k w neg) fun b => thn (rndO S b.lo p false) fun lo => thn (nxtO S lo p) fun hi => if 0 < cmpR S.K b.hi.s b.hi.l b.hi.e hi.s hi.l hi.e then powF S m e k p up neg g (w * 2) else .ok (if up = true then hi else lo)
theorem powF_succ {S : Sc} {m : Nat} {e : Int} {k : Nat} {p : Int} {up neg : Bool} {g w : Nat} : powF S m e k p up neg (g + 1) w = thn (bouO S m e k w neg) fun b => thn (rndO S b.lo p false) fun lo => thn (nxtO S lo p) fun hi => if 0 < cmpR S.K b.hi.s b.hi.l b.hi.e hi.s hi.l hi.e then powF S m e k p up neg g (w * 2) else .ok (if up = true then hi else lo) := rfl
theorem rnd_may {S : Sc} {a c : Rw} {p : Int} {up : Bool} (h : rndO S a p up = .ok c) : a.may = true ∧ c.may = true := by
 obtain ⟨s, m, e, hp, rfl⟩ := S.of_ok rndR_only rndR_some h
 unfold rndR at hp
 split at hp
 ·rename_i hc
  exact ⟨hc.2, Rw.of_may (nm_okd hp)⟩
 ·exact absurd hp.1 (by decide)
end Go.Proofs.YtlpjlmophlikeaaGreatDoor
namespace Go.Proofs.YtlpjlmophlikeaaGreatDoor
open Go.RowKit

def kN (x : Nat) (e : Int) : Nat := (max 0 ((blen x : Int) + e + 8)).toNat
/-- what power tells of a number that has one -/
def powO (S : Sc) (a : Rw) (p : Int) (up : Bool) : Except Int Rw := if val Go.Proofs.YtlpjlmophlikeaaGreatDoor.W a.l = 0 then .ok oneQ else powF S (val Go.Proofs.YtlpjlmophlikeaaGreatDoor.W a.l) a.e (kN (val Go.Proofs.YtlpjlmophlikeaaGreatDoor.W a.l) a.e) p up a.s 8 (p.toNat + 32)
def paiO (S : Sc) (x : Iv) (p : Int) : Except Int Iv := thn (powO S x.lo p false) fun l => thn (powO S x.hi p true) fun h => .ok ⟨l, h⟩
/-- what Over tells -/
def ovrO (S : Sc) (x : Iv) (p : Int) : Except Int Iv := if chk S.K x p = 0 then paiO S x p else .error (chk S.K x p)
end Go.Proofs.YtlpjlmophlikeaaGreatDoor
namespace Go.Proofs.YtlpjlmophlikeaaGreatDoor

structure Ln where
 op : Int
 a : Int
 b : Int
 k : Iv
/-- what lines stand for: the time, states, inputs, parameters -/
structure En where
 t : Iv
 nx : Nat
 X : Nat → Iv
 nu : Nat
 U : Nat → Iv
 np : Nat
 P : Nat → Iv
structure Tp where
 n : Nat
 L : Nat → Ln
 m : Nat
 O : Nat → Int
def belowB (k n : Int) : Bool := decide (0 ≤ k) && decide (k < n)
theorem belowB_iff {k n : Int} : belowB k n = true ↔ 0 ≤ k ∧ k < n := by
 unfold belowB
 simp
def bareB (l : Ln) : Bool := sameI l.k Iv.zero
def mayLn (K : Nat) (l : Ln) (i x u p : Int) : Bool :=
 if l.op = 1 then mayI K l.k && (decide (l.a = 0) && decide (l.b = 0))
 else if l.op = 2 then decide (l.a = 0) && (decide (l.b = 0) && bareB l)
 else if l.op = 3 then belowB l.a x && (decide (l.b = 0) && bareB l)
 else if l.op = 4 then belowB l.a u && (decide (l.b = 0) && bareB l)
 else if l.op = 5 then belowB l.a p && (decide (l.b = 0) && bareB l)
 else if l.op = 6 ∨ l.op = 7 ∨ l.op = 8 ∨ l.op = 9 then belowB l.a i && (belowB l.b i && bareB l)
 else if l.op = 10 ∨ l.op = 11 ∨ l.op = 12 ∨ l.op = 13 then belowB l.a i && (decide (l.b = 0) && bareB l)
 else false
def allB (n : Nat) (f : Nat → Bool) : Bool := (List.range n).all f
theorem allB_iff {n : Nat} {f : Nat → Bool} : allB n f = true ↔ ∀ i, i < n → f i = true := by
 unfold allB
 simp [List.all_eq_true, List.mem_range]
def mayT (K : Nat) (T : Tp) (x u p : Int) : Bool := decide (T.n ≤ 200) && (decide (T.m ≤ 200) && (allB T.n (fun i => mayLn K (T.L i) i x u p) && allB T.m (fun j => belowB (T.O j) T.n)))
theorem mayT_iff {K : Nat} {T : Tp} {x u p : Int} : mayT K T x u p = true ↔ T.n ≤ 200 ∧ T.m ≤ 200 ∧ (∀ i, i < T.n → mayLn K (T.L i) i x u p = true) ∧ ∀ j, j < T.m → belowB (T.O j) T.n = true := by
 unfold mayT
 simp only [Bool.and_eq_true, decide_eq_true_eq, allB_iff]
def mayE (K : Nat) (E : En) : Bool := mayI K E.t && (allB E.nx (fun i => mayI K (E.X i)) && (allB E.nu (fun i => mayI K (E.U i)) && allB E.np (fun i => mayI K (E.P i))))
theorem mayE_iff {K : Nat} {E : En} : mayE K E = true ↔ mayI K E.t = true ∧ (∀ i, i < E.nx → mayI K (E.X i) = true) ∧ (∀ i, i < E.nu → mayI K (E.U i) = true) ∧ ∀ i, i < E.np → mayI K (E.P i) = true := by
 unfold mayE
 simp only [Bool.and_eq_true, allB_iff]
end Go.Proofs.YtlpjlmophlikeaaGreatDoor
namespace Go.Proofs.YtlpjlmophlikeaaGreatDoor

section
variable (S : Sc)
/-- an interval with ends of p bits -/
def rouI (x : Iv) (p : Int) : Except Int Iv := outO S x.lo x.hi p
def valO (l : Ln) (V : Nat → Iv) (E : En) (p : Int) : Except Int Iv :=
 if l.op = 1 then rouI S l.k p
 else if l.op = 2 then rouI S E.t p
 else if l.op = 3 then rouI S (E.X l.a.toNat) p
 else if l.op = 4 then rouI S (E.U l.a.toNat) p
 else if l.op = 5 then rouI S (E.P l.a.toNat) p
 else if l.op = 6 then face2 S (V l.a.toNat) (V l.b.toNat) p (sumO S (V l.a.toNat) (V l.b.toNat) p)
 else if l.op = 7 then face2 S (V l.a.toNat) (V l.b.toNat) p (sumO S (V l.a.toNat) (turnI (V l.b.toNat)) p)
 else if l.op = 8 then face2 S (V l.a.toNat) (V l.b.toNat) p (mulI S (V l.a.toNat) (V l.b.toNat) p)
 else if l.op = 9 then face2 S (V l.a.toNat) (V l.b.toNat) p (divI S (V l.a.toNat) (V l.b.toNat) p)
 else if l.op = 10 then face1 S (V l.a.toNat) p (negI S (V l.a.toNat) p)
 else if l.op = 11 then face1 S (V l.a.toNat) p (sqrI S (V l.a.toNat) p)
 else if l.op = 12 then face1 S (V l.a.toNat) p (sqtI S (V l.a.toNat) p)
 else if l.op = 13 then ovrO S (V l.a.toNat) p
 else .error 1
/-- the values of the first so many lines -/
def linO (L : Nat → Ln) (E : En) (p : Int) : Nat → Except Int (List Iv)
 | 0 => .ok []
 | i + 1 => thn (linO L E p i) fun R => thn (valO S (L i) (fun j => R.getD j Iv.zero) E p) fun v => .ok (R ++ [v])
def asksT (T : Tp) (E : En) (p : Int) : Bool := decide (1 ≤ p) && (decide (p ≤ 300) && (mayT S.K T E.nx E.nu E.np && mayE S.K E))
/-- what Lines tells -/
def linesO (T : Tp) (E : En) (p : Int) : Except Int (List Iv) := if asksT S T E p = true then linO S T.L E p T.n else .error 1
def outsL (R : List Iv) (T : Tp) : List Iv := (List.range T.m).map fun j => R.getD (T.O j).toNat Iv.zero
/-- what Eval tells -/
def evalO (T : Tp) (E : En) (p : Int) : Except Int (List Iv) := thn (linesO S T E p) fun R => .ok (outsL R T)
end
def oli (o : Except Int (List Iv)) : List Iv := match o with
 | .ok l => l
 | .error _ => []
section
variable {S : Sc} {L : Nat → Ln} {E : En} {p : Int}
theorem ite_cod {α : Type} {c : Prop} [Decidable c] {a b : Except Int α} (h1 : c → Cod a) (h2 : ¬ c → Cod b) : Cod (if c then a else b) := by
 by_cases h : c
 ·rw [if_pos h]; exact h1 h
 ·rw [if_neg h]; exact h2 h
theorem tface1_cod {x : Iv} {o : Except Int Iv} (h : Cod o) : Cod (face1 S x p o) := by
 unfold face1
 split
 ·exact h
 ·exact err_cod (by decide)
theorem tface2_cod {x y : Iv} {o : Except Int Iv} (h : Cod o) : Cod (face2 S x y p o) := by
 unfold face2
 split
 ·exact h
 ·exact err_cod (by decide)
theorem tmulI_cod {x y : Iv} : Cod (mulI S x y p) := thn_cod (corO_cod fun _ _ => mulO_cod) fun _ _ => outO_cod
theorem tsqrI_cod {x : Iv} : Cod (sqrI S x p) := thn_cod mulO_cod fun _ _ => thn_cod mulO_cod fun _ _ => outO_cod
theorem tdivI_cod {x y : Iv} : Cod (divI S x y p) := by
 unfold divI
 split
 ·exact err_cod (by decide)
 ·exact thn_cod (corO_cod fun _ _ => quoO_cod) fun _ _ => thn_cod (corO_cod fun _ _ => quoO_cod) fun _ _ => ok_cod
theorem tsqtI_cod {x : Iv} : Cod (sqtI S x p) := by
 unfold sqtI
 split
 ·exact err_cod (by decide)
 ·exact rooI_cod
theorem fromO_cod {q : Nat} {neg : Bool} {u : Option (Nat × Nat)} : Cod (fromO S q neg u) := by
 cases u with
 | none => exact err_cod (by decide)
 | some u =>
  show Cod (if neg = true then invO S ⟨natQ S u.1 q, natQ S u.2 q⟩ (q : Int) else .ok ⟨natQ S u.1 q, natQ S u.2 q⟩)
  exact ite_cod (fun _ => thn_cod quoO_cod fun _ _ => thn_cod quoO_cod fun _ _ => ok_cod) fun _ => ok_cod
theorem powF_cod {m : Nat} {e : Int} {k : Nat} {up neg : Bool} (g : Nat) : ∀ w, Cod (powF S m e k p up neg g w) := by
 induction g with
 | zero => exact fun w => err_cod (by decide)
 | succ g ih =>
  intro w
  rw [powF_succ]
  refine thn_cod fromO_cod fun b _ => thn_cod rndO_cod fun lo _ => thn_cod (thn_cod twoO_cod fun _ _ => addO_cod) fun hi _ => ?_
  split
  ·exact ih _
  ·exact ok_cod
theorem powO_cod {a : Rw} {up : Bool} : Cod (powO S a p up) := by
 unfold powO
 split
 ·exact ok_cod
 ·exact powF_cod _ _
theorem ovrO_cod {x : Iv} : Cod (ovrO S x p) := by
 unfold ovrO
 split
 ·exact thn_cod powO_cod fun _ _ => thn_cod powO_cod fun _ _ => ok_cod
 ·rename_i h
  exact err_cod h
theorem valO_cod {l : Ln} {V : Nat → Iv} : Cod (valO S l V E p) := ite_cod (fun _ => outO_cod) fun _ => ite_cod (fun _ => outO_cod) fun _ => ite_cod (fun _ => outO_cod) fun _ => ite_cod (fun _ => outO_cod) fun _ => ite_cod (fun _ => outO_cod) fun _ => ite_cod (fun _ => tface2_cod sumO_cod) fun _ => ite_cod (fun _ => tface2_cod sumO_cod) fun _ => ite_cod (fun _ => tface2_cod tmulI_cod) fun _ => ite_cod (fun _ => tface2_cod tdivI_cod) fun _ => ite_cod (fun _ => tface1_cod outO_cod) fun _ => ite_cod (fun _ => tface1_cod tsqrI_cod) fun _ => ite_cod (fun _ => tface1_cod tsqtI_cod) fun _ => ite_cod (fun _ => ovrO_cod) fun _ => err_cod (by decide)
theorem linO_cod : ∀ n, Cod (linO S L E p n)
 | 0 => ok_cod
 | n + 1 => thn_cod (linO_cod n) fun _ _ => thn_cod valO_cod fun _ _ => ok_cod
theorem linesO_cod {T : Tp} : Cod (linesO S T E p) := by
 unfold linesO
 split
 ·exact linO_cod _
 ·exact err_cod (by decide)
theorem lin_step {i : Nat} {R : List Iv} (h : linO S L E p (i + 1) = .ok R) : ∃ Q v, linO S L E p i = .ok Q ∧ valO S (L i) (fun j => Q.getD j Iv.zero) E p = .ok v ∧ R = Q ++ [v] := by
 unfold linO at h
 cases h1 : linO S L E p i with
 | error k => rw [h1] at h; cases h
 | ok Q =>
  rw [h1] at h
  simp only [thn] at h
  cases h2 : valO S (L i) (fun j => Q.getD j Iv.zero) E p with
  | error k => rw [h2] at h; cases h
  | ok v =>
   rw [h2] at h
   injection h with h
   exact ⟨Q, v, rfl, h2, h.symm⟩
theorem lin_ok {i : Nat} {Q : List Iv} {v : Iv} (h1 : linO S L E p i = .ok Q) (h2 : valO S (L i) (fun j => Q.getD j Iv.zero) E p = .ok v) : linO S L E p (i + 1) = .ok (Q ++ [v]) := by
 rw [linO, h1]
 simp only [thn, h2]
theorem lin_bad {i : Nat} {Q : List Iv} {k : Int} (h1 : linO S L E p i = .ok Q) (h2 : valO S (L i) (fun j => Q.getD j Iv.zero) E p = .error k) : linO S L E p (i + 1) = .error k := by
 rw [linO, h1]
 simp only [thn, h2]
theorem lin_err {i d : Nat} {k : Int} (h : linO S L E p i = .error k) : linO S L E p (i + d) = .error k := by
 induction d with
 | zero => exact h
 | succ d ih =>
  show linO S L E p (i + d + 1) = _
  rw [linO, ih]
  rfl
theorem lin_len : ∀ {n : Nat} {R : List Iv}, linO S L E p n = .ok R → R.length = n
 | 0, R, h => by injection h with h; subst h; rfl
 | n + 1, R, h => by
  obtain ⟨Q, v, h1, _, rfl⟩ := lin_step h
  rw [List.length_append, lin_len h1]
  rfl
theorem lin_pre {i : Nat} : ∀ {n : Nat} {R : List Iv}, i ≤ n → linO S L E p n = .ok R → linO S L E p i = .ok (R.take i)
 | 0, R, hi, h => by
  obtain rfl : i = 0 := by omega
  rw [h, List.take_of_length_le (by rw [lin_len h]; exact Nat.le_refl 0)]
 | n + 1, R, hi, h => by
  by_cases hn : i = n + 1
  ·subst hn
   rw [h, List.take_of_length_le (by rw [lin_len h]; exact Nat.le_refl _)]
  ·obtain ⟨Q, v, h1, _, rfl⟩ := lin_step h
   rw [lin_pre (by omega) h1, List.take_append_of_le_length (by rw [lin_len h1]; omega)]
theorem lin_at {n i : Nat} {R : List Iv} (h : linO S L E p n = .ok R) (hi : i < n) : valO S (L i) (fun j => (R.take i).getD j Iv.zero) E p = .ok (R.getD i Iv.zero) := by
 have h1 := lin_pre (i := i + 1) (by omega) h
 obtain ⟨Q, v, h2, h3, h4⟩ := lin_step h1
 have h5 := lin_pre (i := i) (by omega) h
 rw [h5] at h2
 injection h2 with h2
 subst h2
 rw [h3]
 have hl := lin_len h
 have e : (R.take (i + 1)).getD i Iv.zero = v := by
  rw [h4, List.getD_eq_getElem?_getD, List.getElem?_append_right (by rw [List.length_take]; omega), List.length_take, Nat.min_eq_left (by omega), Nat.sub_self]
  rfl
 rw [← e]
 simp [List.getD_eq_getElem?_getD]
end
end Go.Proofs.YtlpjlmophlikeaaGreatDoor
