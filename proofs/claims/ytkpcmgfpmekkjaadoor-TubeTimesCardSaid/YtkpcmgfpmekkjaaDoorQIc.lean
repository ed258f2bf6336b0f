/-
  Contracts of ival's May, Within, Inside, Has, Same, at this translation, of any intervals, raw ones too. Condition: the slices read as limbs, the table of math/bits reads as its text lays it.
-/
import Derived.Test.YtkpcmgfpmekkjaaDoorQMv
import Derived.Test.YtkpcmgfpmekkjaaDoorQRj
namespace Go.Proofs.YtkpcmgfpmekkjaaDoor
open Go.RowKit

/-- a block that holds an interval's parts -/
structure Ibx (w : World) (g : Nat) (s : Bool) (A : Option Addr) (n c : Nat) (e : Int) (t : Bool) (B : Option Addr) (m d : Nat) (f : Int) : Prop where
  blk : w.heap[g]? = some (.cells #[.bool s, .slice A n c, .int .i64 e, .bool t, .slice B m d, .int .i64 f] 35 (0, 0))
section
variable {w w' : World} {g g' b0 : Nat} {s : Bool} {A : Option Addr} {n c : Nat} {e : Int} {t : Bool} {B : Option Addr} {m d : Nat} {f : Int}
theorem Ibx.gl (h : Ibx w g s A n c e t B m d f) : g < w.heap.size := by
  rcases Nat.lt_or_ge g w.heap.size with hlt | hge
  · exact hlt
  · have := h.blk; rw [Array.getElem?_eq_none hge] at this; cases this
theorem Ibx.at (h : Ibx w g s A n c e t B m d f) (i : Nat) : w.cell? ⟨g, i, none⟩ = (#[.bool s, .slice A n c, .int .i64 e, .bool t, .slice B m d, .int .i64 f] : Array Value)[i]? := cell_of_row w g i _ 35 (0, 0) h.blk
theorem Ibx.held (h : Ibx w g s A n c e t B m d f) : w.cell? ⟨g, 0, none⟩ = some (.bool s) ∧ w.cell? ⟨g, 1, none⟩ = some (.slice A n c) ∧ w.cell? ⟨g, 2, none⟩ = some (.int .i64 e) ∧ w.cell? ⟨g, 3, none⟩ = some (.bool t) ∧ w.cell? ⟨g, 4, none⟩ = some (.slice B m d) ∧ w.cell? ⟨g, 5, none⟩ = some (.int .i64 f) := ⟨h.at 0, h.at 1, h.at 2, h.at 3, h.at 4, h.at 5⟩
theorem Ibx.frozen (h : Ibx w g s A n c e t B m d f) (i : Nat) : w.frozen? ⟨g, i, none⟩ = false := by
  have := h.blk
  simp [World.frozen?, this]
theorem Ibx.open (h : Ibx w g s A n c e t B m d f) : w.frozen? ⟨g, 0, none⟩ = false ∧ w.frozen? ⟨g, 1, none⟩ = false ∧ w.frozen? ⟨g, 2, none⟩ = false ∧ w.frozen? ⟨g, 3, none⟩ = false ∧ w.frozen? ⟨g, 4, none⟩ = false ∧ w.frozen? ⟨g, 5, none⟩ = false := ⟨h.frozen 0, h.frozen 1, h.frozen 2, h.frozen 3, h.frozen 4, h.frozen 5⟩
theorem Ibx.below (h : Ibx w g s A n c e t B m d f) (hb : Below b0 w w') (hg : g < b0) : Ibx w' g s A n c e t B m d f := ⟨(hb.block g hg).trans h.blk⟩
theorem Ibx.heap (h : Ibx w g s A n c e t B m d f) (he : w'.heap = w.heap) : Ibx w' g s A n c e t B m d f := ⟨by rw [he]; exact h.blk⟩
theorem Ibx.next {X w2 : World} (h : Ibx w g s A n c e t B m d f) (b : Below X.heap.size X w2) (he : X.heap = w.heap) : Ibx w2 g s A n c e t B m d f := (h.heap he).below b (by rw [he]; exact h.gl)
instance {w w2 : World} {g : Nat} {s : Bool} {A : Option Addr} {n c : Nat} {e : Int} {t : Bool} {B : Option Addr} {m d : Nat} {f : Int} : Moves w w2 (Ibx w g s A n c e t B m d f) (Ibx w2 g s A n c e t B m d f) := ⟨fun _ b e h => h.next b e⟩
theorem Ibx.new (w : World) (s : Bool) (A : Option Addr) (n c : Nat) (e : Int) (t : Bool) (B : Option Addr) (m d : Nat) (f : Int) : Ibx (w.alloc (.cells #[.bool s, .slice A n c, .int .i64 e, .bool t, .slice B m d, .int .i64 f] 35)) w.heap.size s A n c e t B m d f := ⟨heap_alloc_new w _⟩
theorem Ibx.alloc (h : Ibx w g s A n c e t B m d f) (o : Obj) : Ibx (w.alloc o) g s A n c e t B m d f := h.below (below_alloc w o) h.gl
theorem Ibx.no (h : Ibx w g s A n c e t B m d f) (i x : Nat) : w.cell? ⟨g, i, none⟩ ≠ some (.int .u64 (x : Int)) := by
  rw [h.at i]
  match i with
  | 0 => simp
  | 1 => simp
  | 2 => simp
  | 3 => simp
  | 4 => simp
  | 5 => simp
  | i + 6 => simp
/-- the six parts stored anew -/
theorem Ibx.put (h : Ibx w g s A n c e t B m d f) (s' : Bool) (A' : Option Addr) (n' c' : Nat) (e' : Int) (t' : Bool) (B' : Option Addr) (m' d' : Nat) (f' : Int) : Ibx ((((((w.setCell ⟨g, 0, none⟩ (.bool s')).setCell ⟨g, 1, none⟩ (.slice A' n' c')).setCell ⟨g, 2, none⟩ (.int .i64 e')).setCell ⟨g, 3, none⟩ (.bool t')).setCell ⟨g, 4, none⟩ (.slice B' m' d')).setCell ⟨g, 5, none⟩ (.int .i64 f')) g s' A' n' c' e' t' B' m' d' f' := by
  have := h.blk
  refine ⟨?_⟩
  simp [World.setCell, Array.getElem?_modify, this]
theorem Ibx.other (h : Ibx w g s A n c e t B m d f) (hne : g ≠ g') (i : Nat) (u : Value) : Ibx (w.setCell ⟨g', i, none⟩ u) g s A n c e t B m d f := ⟨(Below.heap_setCell w _ u g hne).trans h.blk⟩
theorem Rd.put6 {Q : Nat} {C : Option Addr} {k z : Nat} {l : List Nat} (h : Rd w .u64 Q C k z l) (hb : Ibx w g s A n c e t B m d f) (u0 u1 u2 u3 u4 u5 : Value) : Rd ((((((w.setCell ⟨g, 0, none⟩ u0).setCell ⟨g, 1, none⟩ u1).setCell ⟨g, 2, none⟩ u2).setCell ⟨g, 3, none⟩ u3).setCell ⟨g, 4, none⟩ u4).setCell ⟨g, 5, none⟩ u5) .u64 Q C k z l := by
  have hne := h.off hb.no
  exact (((((h.set1 hne 0 u0).set1 hne 1 u1).set1 hne 2 u2).set1 hne 3 u3).set1 hne 4 u4).set1 hne 5 u5
theorem Nt.put6 {C : Option Addr} {k z y : Nat} (h : Nt w C k z y) (hb : Ibx w g s A n c e t B m d f) (u0 u1 u2 u3 u4 u5 : Value) : Nt ((((((w.setCell ⟨g, 0, none⟩ u0).setCell ⟨g, 1, none⟩ u1).setCell ⟨g, 2, none⟩ u2).setCell ⟨g, 3, none⟩ u3).setCell ⟨g, 4, none⟩ u4).setCell ⟨g, 5, none⟩ u5) C k z y := ⟨h.rd.put6 hb u0 u1 u2 u3 u4 u5, h.lt⟩
theorem below_put6 {w0 : World} (h : Below b0 w0 w) (hg : b0 ≤ g) (u0 u1 u2 u3 u4 u5 : Value) : Below b0 w0 ((((((w.setCell ⟨g, 0, none⟩ u0).setCell ⟨g, 1, none⟩ u1).setCell ⟨g, 2, none⟩ u2).setCell ⟨g, 3, none⟩ u3).setCell ⟨g, 4, none⟩ u4).setCell ⟨g, 5, none⟩ u5) :=
  (((((h.setCell hg u0).setCell hg u1).setCell hg u2).setCell hg u3).setCell hg u4).setCell hg u5
end
end Go.Proofs.YtkpcmgfpmekkjaaDoor

namespace Go.Proofs.YtkpcmgfpmekkjaaDoor

/-- a dyadic number as it lies in a program's parts -/
structure Rw where
  s : Bool
  l : List Nat
  e : Int
  lt : Lt W l
/-- an interval's two ends -/
structure Iv where
  lo : Rw
  hi : Rw
def Rw.zero : Rw := ⟨false, [], 0, fun x hx => by cases hx⟩
def Iv.zero : Iv := ⟨Rw.zero, Rw.zero⟩
def Rw.may (a : Rw) : Bool := mayD a.s a.l a.e
def Rw.v (K : Nat) (a : Rw) : Int := vz K a.s (val W a.l) a.e
def cmpQ (K : Nat) (a b : Rw) : Int := cmpR K a.s a.l a.e b.s b.l b.e
def sameQ (a b : Rw) : Bool := sameB a.s b.s a.l b.l a.e b.e
section
variable {K : Nat} {a b d : Rw}
theorem Rw.ext {a b : Rw} (h1 : a.s = b.s) (h2 : a.l = b.l) (h3 : a.e = b.e) : a = b := by
  cases a; cases b; cases h1; cases h2; cases h3; rfl
theorem sameQ_iff : sameQ a b = true ↔ a = b := by
  unfold sameQ sameB
  rw [decide_eq_true_iff]
  exact ⟨fun h => Rw.ext h.1 h.2.2 h.2.1, fun h => by subst h; exact ⟨rfl, rfl, rfl⟩⟩
theorem cmpQ_may (ha : a.may = true) (hb : b.may = true) : cmpQ K a b = cmpV (a.v K) (b.v K) := by
  unfold cmpQ cmpR
  rw [if_pos ⟨ha, hb⟩]; rfl
theorem cmpQ_le (ha : a.may = true) (hb : b.may = true) : cmpQ K a b ≤ 0 ↔ a.v K ≤ b.v K := by
  rw [cmpQ_may ha hb]
  rcases cmpV_cases (a.v K) (b.v K) with ⟨h1, h2⟩ | ⟨h1, h2⟩ | ⟨h1, h2⟩ <;> rw [h1] <;> constructor <;> omega
theorem cmpQ_lt (ha : a.may = true) (hb : b.may = true) : cmpQ K a b < 0 ↔ a.v K < b.v K := by
  rw [cmpQ_may ha hb]
  rcases cmpV_cases (a.v K) (b.v K) with ⟨h1, h2⟩ | ⟨h1, h2⟩ | ⟨h1, h2⟩ <;> rw [h1] <;> constructor <;> omega
theorem dig_may {l : List Nat} (h : Lt W l) (hm : mayB l = true) : dig W (val W l) = l := by
  unfold mayB at hm
  simp only [Bool.and_eq_true, Bool.or_eq_true, decide_eq_true_eq] at hm
  exact dig_val W_two ⟨h, fun h0 => hm.2.resolve_left h0⟩
/-- a number has one form -/
theorem one_of_v (hK : 4194304 ≤ K) (ha : a.may = true) (hb : b.may = true) (h : a.v K = b.v K) : a = b := by
  obtain ⟨m1, o1⟩ := mayD_of a.lt ha
  obtain ⟨m2, o2⟩ := mayD_of b.lt hb
  obtain ⟨h1, h2, h3⟩ := okd_one hK o1 o2 h
  refine Rw.ext h1 ?_ h3
  rw [← dig_may a.lt m1, ← dig_may b.lt m2, h2]
theorem Rw.zero_may : Rw.zero.may = true := rfl
end
def mayI (K : Nat) (x : Iv) : Bool := x.lo.may && (x.hi.may && decide (cmpQ K x.lo x.hi ≤ 0))
def withinI (K : Nat) (x y : Iv) : Bool := mayI K x && (mayI K y && (decide (cmpQ K y.lo x.lo ≤ 0) && decide (cmpQ K x.hi y.hi ≤ 0)))
def insideI (K : Nat) (x y : Iv) : Bool := mayI K x && (mayI K y && (decide (cmpQ K y.lo x.lo < 0) && decide (cmpQ K x.hi y.hi < 0)))
/-- the greater one of two, or the lesser one -/
def furQ (K : Nat) (a b : Rw) (up : Bool) : Rw := if decide (cmpQ K a b < 0) = up then b else a
def hullQ (K : Nat) (x y : Iv) : Iv := ⟨furQ K x.lo y.lo false, furQ K x.hi y.hi true⟩
def hullK (K : Nat) (x y : Iv) : Int := if mayI K x = true ∧ mayI K y = true then 0 else 1
def hullI (K : Nat) (x y : Iv) : Iv := if mayI K x = true ∧ mayI K y = true then hullQ K x y else Iv.zero
section
variable {K : Nat} {a b d : Rw} {x y z : Iv}
theorem mayI_iff : mayI K x = true ↔ x.lo.may = true ∧ x.hi.may = true ∧ x.lo.v K ≤ x.hi.v K := by
  unfold mayI
  constructor
  · intro h
    simp only [Bool.and_eq_true, decide_eq_true_eq] at h
    exact ⟨h.1, h.2.1, (cmpQ_le h.1 h.2.1).1 h.2.2⟩
  · rintro ⟨h1, h2, h3⟩
    simp only [Bool.and_eq_true, decide_eq_true_eq]
    exact ⟨h1, h2, (cmpQ_le h1 h2).2 h3⟩
theorem withinI_iff : withinI K x y = true ↔ mayI K x = true ∧ mayI K y = true ∧ y.lo.v K ≤ x.lo.v K ∧ x.hi.v K ≤ y.hi.v K := by
  unfold withinI
  constructor
  · intro h
    simp only [Bool.and_eq_true, decide_eq_true_eq] at h
    obtain ⟨h1, h2, h3, h4⟩ := h
    have k1 := mayI_iff.1 h1
    have k2 := mayI_iff.1 h2
    exact ⟨h1, h2, (cmpQ_le k2.1 k1.1).1 h3, (cmpQ_le k1.2.1 k2.2.1).1 h4⟩
  · rintro ⟨h1, h2, h3, h4⟩
    have k1 := mayI_iff.1 h1
    have k2 := mayI_iff.1 h2
    simp only [Bool.and_eq_true, decide_eq_true_eq]
    exact ⟨h1, h2, (cmpQ_le k2.1 k1.1).2 h3, (cmpQ_le k1.2.1 k2.2.1).2 h4⟩
theorem insideI_iff : insideI K x y = true ↔ mayI K x = true ∧ mayI K y = true ∧ y.lo.v K < x.lo.v K ∧ x.hi.v K < y.hi.v K := by
  unfold insideI
  constructor
  · intro h
    simp only [Bool.and_eq_true, decide_eq_true_eq] at h
    obtain ⟨h1, h2, h3, h4⟩ := h
    have k1 := mayI_iff.1 h1
    have k2 := mayI_iff.1 h2
    exact ⟨h1, h2, (cmpQ_lt k2.1 k1.1).1 h3, (cmpQ_lt k1.2.1 k2.2.1).1 h4⟩
  · rintro ⟨h1, h2, h3, h4⟩
    have k1 := mayI_iff.1 h1
    have k2 := mayI_iff.1 h2
    simp only [Bool.and_eq_true, decide_eq_true_eq]
    exact ⟨h1, h2, (cmpQ_lt k2.1 k1.1).2 h3, (cmpQ_lt k1.2.1 k2.2.1).2 h4⟩
theorem mayI_point (hd : d.may = true) : mayI K ⟨d, d⟩ = true := mayI_iff.2 ⟨hd, hd, Int.le_refl _⟩
theorem fur_up (ha : a.may = true) (hb : b.may = true) : (furQ K a b true = a ∨ furQ K a b true = b) ∧ (furQ K a b true).may = true ∧ a.v K ≤ (furQ K a b true).v K ∧ b.v K ≤ (furQ K a b true).v K ∧ ((furQ K a b true).v K = a.v K ∨ (furQ K a b true).v K = b.v K) := by
  have h := cmpQ_lt (K := K) ha hb
  unfold furQ
  by_cases h1 : cmpQ K a b < 0
  · rw [if_pos (decide_eq_true h1)]
    have := h.1 h1
    exact ⟨.inr rfl, hb, by omega, by omega, .inr rfl⟩
  · rw [if_neg (by rw [decide_eq_false h1]; exact Bool.false_ne_true)]
    have : ¬ a.v K < b.v K := fun h2 => h1 (h.2 h2)
    exact ⟨.inl rfl, ha, by omega, by omega, .inl rfl⟩
theorem fur_dn (ha : a.may = true) (hb : b.may = true) : (furQ K a b false = a ∨ furQ K a b false = b) ∧ (furQ K a b false).may = true ∧ (furQ K a b false).v K ≤ a.v K ∧ (furQ K a b false).v K ≤ b.v K ∧ ((furQ K a b false).v K = a.v K ∨ (furQ K a b false).v K = b.v K) := by
  have h := cmpQ_lt (K := K) ha hb
  unfold furQ
  by_cases h1 : cmpQ K a b < 0
  · rw [if_neg (by rw [decide_eq_true h1]; exact fun h => by cases h)]
    have := h.1 h1
    exact ⟨.inl rfl, ha, by omega, by omega, .inl rfl⟩
  · rw [if_pos (decide_eq_false h1)]
    have : ¬ a.v K < b.v K := fun h2 => h1 (h.2 h2)
    exact ⟨.inr rfl, hb, by omega, by omega, .inr rfl⟩
theorem hull_ok (hx : mayI K x = true) (hy : mayI K y = true) : mayI K (hullQ K x y) = true ∧ withinI K x (hullQ K x y) = true ∧ withinI K y (hullQ K x y) = true := by
  have h1 := mayI_iff.1 hx
  have h2 := mayI_iff.1 hy
  have f1 := fur_dn (K := K) h1.1 h2.1
  have f2 := fur_up (K := K) h1.2.1 h2.2.1
  have hm : mayI K (hullQ K x y) = true := mayI_iff.2 ⟨f1.2.1, f2.2.1, by show (furQ K x.lo y.lo false).v K ≤ (furQ K x.hi y.hi true).v K; omega⟩
  exact ⟨hm, withinI_iff.2 ⟨hx, hm, f1.2.2.1, f2.2.2.1⟩, withinI_iff.2 ⟨hy, hm, f1.2.2.2.1, f2.2.2.2.1⟩⟩
theorem hullK_ok (hx : mayI K x = true) (hy : mayI K y = true) : hullK K x y = 0 := by unfold hullK; rw [if_pos ⟨hx, hy⟩]
theorem hullI_ok (hx : mayI K x = true) (hy : mayI K y = true) : hullI K x y = hullQ K x y := by unfold hullI; rw [if_pos ⟨hx, hy⟩]
theorem within_self (hx : mayI K x = true) : withinI K x x = true := withinI_iff.2 ⟨hx, hx, Int.le_refl _, Int.le_refl _⟩
theorem inside_self : insideI K x x = false := Bool.eq_false_iff.2 fun h => by have := insideI_iff.1 h; omega
/- the same words as the document's answer has them -/
end
end Go.Proofs.YtkpcmgfpmekkjaaDoor

namespace Go.Proofs.YtkpcmgfpmekkjaaDoor
open Go.RowKit

/-- how a function that tells a Dyad ends -/
def GivQ (a : Rw) (w : World) (en : Ending) (w' : World) : Prop := ∃ A n c, en = .returned (.agg #[.bool a.s, .slice A n c, .int .i64 a.e]) ∧ Rd w' .u64 Go.Proofs.YtkpcmgfpmekkjaaDoor.W A n c a.l ∧ Below w.heap.size w w'
/-- how one that tells an interval ends -/
def GivI (x : Iv) (w : World) (en : Ending) (w' : World) : Prop := ∃ A n c B m d, en = .returned (.agg #[.bool x.lo.s, .slice A n c, .int .i64 x.lo.e, .bool x.hi.s, .slice B m d, .int .i64 x.hi.e]) ∧ Rd w' .u64 Go.Proofs.YtkpcmgfpmekkjaaDoor.W A n c x.lo.l ∧ Rd w' .u64 Go.Proofs.YtkpcmgfpmekkjaaDoor.W B m d x.hi.l ∧ Below w.heap.size w w'
/-- how a face ends that tells an interval and a code -/
def TellI (k : Int) (x : Iv) (w : World) (en : Ending) (w' : World) : Prop := ∃ A n c B m d, en = .returned (.tuple #[.agg #[.bool x.lo.s, .slice A n c, .int .i64 x.lo.e, .bool x.hi.s, .slice B m d, .int .i64 x.hi.e], .int .i64 k]) ∧ Rd w' .u64 Go.Proofs.YtkpcmgfpmekkjaaDoor.W A n c x.lo.l ∧ Rd w' .u64 Go.Proofs.YtkpcmgfpmekkjaaDoor.W B m d x.hi.l ∧ Below w.heap.size w w'
def Bools (b : Bool) (w : World) (en : Ending) (w' : World) : Prop := en = .returned (.bool b) ∧ Below w.heap.size w w'

set_option maxRecDepth 100000 in
set_option maxHeartbeats 8000000 in
theorem imay_any {w : World} {K : Nat} {x : Iv} {A1 : Option Addr} {n1 c1 : Nat} {A2 : Option Addr} {n2 c2 : Nat} (hK : 4194304 ≤ K) (hT : Tab w) (h1 : Rd w .u64 Go.Proofs.YtkpcmgfpmekkjaaDoor.W A1 n1 c1 x.lo.l) (h2 : Rd w .u64 Go.Proofs.YtkpcmgfpmekkjaaDoor.W A2 n2 c2 x.hi.l) :
    Calls Tryd.prog 35 #[.agg #[.bool x.lo.s, .slice A1 n1 c1, .int .i64 x.lo.e, .bool x.hi.s, .slice A2 n2 c2, .int .i64 x.hi.e]] w (Bools (mayI K x) w) := by
  have BB := below_alloc w (.cells #[.bool x.lo.s, .slice A1 n1 c1, .int .i64 x.lo.e, .bool x.hi.s, .slice A2 n2 c2, .int .i64 x.hi.e] 35)
  obtain ⟨a0, a1, a2, a3, a4, a5⟩ := (Ibx.new w x.lo.s A1 n1 c1 x.lo.e x.hi.s A2 n2 c2 x.hi.e).held
  have G := mv BB rfl (J3 hT h1 h2)
  clear hT h1 h2
  obtain ⟨hT, h1, h2⟩ := G
  obtain ⟨p1, hp1⟩ : ∃ p, p = x.lo.may := ⟨_, rfl⟩
  obtain ⟨p2, hp2⟩ : ∃ p, p = x.hi.may := ⟨_, rfl⟩
  obtain ⟨p3, hp3⟩ : ∃ p, p = decide (cmpQ K x.lo x.hi ≤ 0) := ⟨_, rfl⟩
  have HP1 := Lib.hid hp1
  have HP2 := Lib.hid hp2
  have HP := Lib.hid hp3
  unfold mayI
  rw [← hp1, ← hp2, ← hp3]
  clear hp1 hp2 hp3
  go_enter Tryd.func35, Tryd.ntmps35
  go_wp2_with fail
  refine (dmay_any (s := x.lo.s) (e := x.lo.e) hT h1).mono ?_
  rintro en w1 ⟨rfl, b⟩
  replace BB := bnx BB b rfl rfl rfl rfl
  have G := mv b rfl (J9 a0 a1 a2 a3 a4 a5 hT h1 h2)
  clear b a0 a1 a2 a3 a4 a5 hT h1 h2
  obtain ⟨a0, a1, a2, a3, a4, a5, hT, h1, h2⟩ := G
  have e1 : mayD x.lo.s x.lo.l x.lo.e = p1 := HP1.out.symm
  rw [e1]
  clear e1 HP1
  cases p1
  · go_wp2
    go_ret
    exact ⟨rfl, BB⟩
  go_wp2_with fail
  refine (dmay_any (s := x.hi.s) (e := x.hi.e) hT h2).mono ?_
  rintro en w2 ⟨rfl, b⟩
  replace BB := bnx BB b rfl rfl rfl rfl
  have G := mv b rfl (J9 a0 a1 a2 a3 a4 a5 hT h1 h2)
  clear b a0 a1 a2 a3 a4 a5 hT h1 h2
  obtain ⟨a0, a1, a2, a3, a4, a5, hT, h1, h2⟩ := G
  have e1 : mayD x.hi.s x.hi.l x.hi.e = p2 := HP2.out.symm
  rw [e1]
  clear e1 HP2
  cases p2
  · go_wp2
    go_ret
    exact ⟨rfl, BB⟩
  go_wp2_with fail
  refine (dcmp_raw (K := K) (s1 := x.lo.s) (e1 := x.lo.e) (s2 := x.hi.s) (e2 := x.hi.e) hK hT h1 h2).mono ?_
  rintro en w3 ⟨rfl, b⟩
  replace BB := bnx BB b rfl rfl rfl rfl
  have G := mv b rfl (J9 a0 a1 a2 a3 a4 a5 hT h1 h2)
  clear b a0 a1 a2 a3 a4 a5 hT h1 h2
  obtain ⟨a0, a1, a2, a3, a4, a5, hT, h1, h2⟩ := G
  have e1 : cmpR K x.lo.s x.lo.l x.lo.e x.hi.s x.hi.l x.hi.e = cmpQ K x.lo x.hi := rfl
  rw [e1]
  clear e1
  generalize cmpQ K x.lo x.hi = z at HP
  have f1 : decide (z ≤ 0) = p3 := HP.out.symm
  clear HP
  go_wp2
  go_ret
  exact ⟨by first | rfl | simp, BB⟩

set_option maxRecDepth 100000 in
set_option maxHeartbeats 8000000 in
theorem less_le {w : World} {K : Nat} {a b : Rw} {A1 : Option Addr} {n1 c1 : Nat} {A2 : Option Addr} {n2 c2 : Nat} (hK : 4194304 ≤ K) (hT : Tab w) (h1 : Rd w .u64 Go.Proofs.YtkpcmgfpmekkjaaDoor.W A1 n1 c1 a.l) (h2 : Rd w .u64 Go.Proofs.YtkpcmgfpmekkjaaDoor.W A2 n2 c2 b.l) :
    Calls Tryd.prog 33 #[.agg #[.bool a.s, .slice A1 n1 c1, .int .i64 a.e], .agg #[.bool b.s, .slice A2 n2 c2, .int .i64 b.e]] w (Bools (decide (cmpQ K a b ≤ 0)) w) := by
  have BB := two_below w (.cells #[.bool a.s, .slice A1 n1 c1, .int .i64 a.e] 28) (.cells #[.bool b.s, .slice A2 n2 c2, .int .i64 b.e] 28)
  obtain ⟨a10, a11, a12, a20, a21, a22⟩ := (two_new w a.s b.s A1 A2 n1 c1 n2 c2 a.e b.e).held
  have G := mv BB rfl (J3 hT h1 h2)
  clear hT h1 h2
  obtain ⟨hT, h1, h2⟩ := G
  go_enter Tryd.func33, Tryd.ntmps33
  go_wp2_with fail
  refine (dcmp_raw (K := K) (s1 := a.s) (e1 := a.e) (s2 := b.s) (e2 := b.e) hK hT h1 h2).mono ?_
  rintro en w1 ⟨rfl, b⟩
  replace BB := bnx BB b rfl rfl rfl rfl
  have G := mv b rfl (J9 a10 a11 a12 a20 a21 a22 hT h1 h2)
  clear b a10 a11 a12 a20 a21 a22 hT h1 h2
  obtain ⟨a10, a11, a12, a20, a21, a22, hT, h1, h2⟩ := G
  have e1 : cmpR K a.s a.l a.e b.s b.l b.e = cmpQ K a b := rfl
  rw [e1]
  clear e1
  go_wp2
  go_ret
  exact ⟨by first | rfl | simp, BB⟩

set_option maxRecDepth 100000 in
set_option maxHeartbeats 8000000 in
theorem less_lt {w : World} {K : Nat} {a b : Rw} {A1 : Option Addr} {n1 c1 : Nat} {A2 : Option Addr} {n2 c2 : Nat} (hK : 4194304 ≤ K) (hT : Tab w) (h1 : Rd w .u64 Go.Proofs.YtkpcmgfpmekkjaaDoor.W A1 n1 c1 a.l) (h2 : Rd w .u64 Go.Proofs.YtkpcmgfpmekkjaaDoor.W A2 n2 c2 b.l) :
    Calls Tryd.prog 53 #[.agg #[.bool a.s, .slice A1 n1 c1, .int .i64 a.e], .agg #[.bool b.s, .slice A2 n2 c2, .int .i64 b.e]] w (Bools (decide (cmpQ K a b < 0)) w) := by
  have BB := two_below w (.cells #[.bool a.s, .slice A1 n1 c1, .int .i64 a.e] 28) (.cells #[.bool b.s, .slice A2 n2 c2, .int .i64 b.e] 28)
  obtain ⟨a10, a11, a12, a20, a21, a22⟩ := (two_new w a.s b.s A1 A2 n1 c1 n2 c2 a.e b.e).held
  have G := mv BB rfl (J3 hT h1 h2)
  clear hT h1 h2
  obtain ⟨hT, h1, h2⟩ := G
  go_enter Tryd.func53, Tryd.ntmps53
  go_wp2_with fail
  refine (dcmp_raw (K := K) (s1 := a.s) (e1 := a.e) (s2 := b.s) (e2 := b.e) hK hT h1 h2).mono ?_
  rintro en w1 ⟨rfl, b⟩
  replace BB := bnx BB b rfl rfl rfl rfl
  have G := mv b rfl (J9 a10 a11 a12 a20 a21 a22 hT h1 h2)
  clear b a10 a11 a12 a20 a21 a22 hT h1 h2
  obtain ⟨a10, a11, a12, a20, a21, a22, hT, h1, h2⟩ := G
  have e1 : cmpR K a.s a.l a.e b.s b.l b.e = cmpQ K a b := rfl
  rw [e1]
  clear e1
  go_wp2
  go_ret
  exact ⟨by first | rfl | simp, BB⟩

theorem two_ivl (w : World) {x y : Iv} {A1 : Option Addr} {n1 c1 : Nat} {A2 : Option Addr} {n2 c2 : Nat} {A3 : Option Addr} {n3 c3 : Nat} {A4 : Option Addr} {n4 c4 : Nat} : Below w.heap.size w ((w.alloc (.cells #[.bool x.lo.s, .slice A1 n1 c1, .int .i64 x.lo.e, .bool x.hi.s, .slice A2 n2 c2, .int .i64 x.hi.e] 35)).alloc (.cells #[.bool y.lo.s, .slice A3 n3 c3, .int .i64 y.lo.e, .bool y.hi.s, .slice A4 n4 c4, .int .i64 y.hi.e] 35)) ∧ Ibx ((w.alloc (.cells #[.bool x.lo.s, .slice A1 n1 c1, .int .i64 x.lo.e, .bool x.hi.s, .slice A2 n2 c2, .int .i64 x.hi.e] 35)).alloc (.cells #[.bool y.lo.s, .slice A3 n3 c3, .int .i64 y.lo.e, .bool y.hi.s, .slice A4 n4 c4, .int .i64 y.hi.e] 35)) w.heap.size x.lo.s A1 n1 c1 x.lo.e x.hi.s A2 n2 c2 x.hi.e ∧ Ibx ((w.alloc (.cells #[.bool x.lo.s, .slice A1 n1 c1, .int .i64 x.lo.e, .bool x.hi.s, .slice A2 n2 c2, .int .i64 x.hi.e] 35)).alloc (.cells #[.bool y.lo.s, .slice A3 n3 c3, .int .i64 y.lo.e, .bool y.hi.s, .slice A4 n4 c4, .int .i64 y.hi.e] 35)) (w.heap.size + 1) y.lo.s A3 n3 c3 y.lo.e y.hi.s A4 n4 c4 y.hi.e := by
  refine ⟨two_below w _ _, (Ibx.new w x.lo.s A1 n1 c1 x.lo.e x.hi.s A2 n2 c2 x.hi.e).alloc _, ?_⟩
  have := Ibx.new (w.alloc (.cells #[.bool x.lo.s, .slice A1 n1 c1, .int .i64 x.lo.e, .bool x.hi.s, .slice A2 n2 c2, .int .i64 x.hi.e] 35)) y.lo.s A3 n3 c3 y.lo.e y.hi.s A4 n4 c4 y.hi.e
  simpa using this

set_option maxRecDepth 100000 in
set_option maxHeartbeats 8000000 in
theorem both_any {w : World} {K : Nat} {x y : Iv} {A1 : Option Addr} {n1 c1 : Nat} {A2 : Option Addr} {n2 c2 : Nat} {A3 : Option Addr} {n3 c3 : Nat} {A4 : Option Addr} {n4 c4 : Nat} {f : FuncId} {q : Rw → Rw → Bool} (hK : 4194304 ≤ K) (hT : Tab w) (h1 : Rd w .u64 Go.Proofs.YtkpcmgfpmekkjaaDoor.W A1 n1 c1 x.lo.l) (h2 : Rd w .u64 Go.Proofs.YtkpcmgfpmekkjaaDoor.W A2 n2 c2 x.hi.l) (h3 : Rd w .u64 Go.Proofs.YtkpcmgfpmekkjaaDoor.W A3 n3 c3 y.lo.l) (h4 : Rd w .u64 Go.Proofs.YtkpcmgfpmekkjaaDoor.W A4 n4 c4 y.hi.l)
    (hf : ∀ (u v : Value) (W2 : World), (callFunc f #[u, v]).run Tryd.prog W2 = .ok (.enter f #[u, v]) W2)
    (ho : ∀ (W2 : World) (a b : Rw) (A1 : Option Addr) (n1 c1 : Nat) (A2 : Option Addr) (n2 c2 : Nat), Tab W2 → Rd W2 .u64 Go.Proofs.YtkpcmgfpmekkjaaDoor.W A1 n1 c1 a.l → Rd W2 .u64 Go.Proofs.YtkpcmgfpmekkjaaDoor.W A2 n2 c2 b.l → Calls Tryd.prog f #[.agg #[.bool a.s, .slice A1 n1 c1, .int .i64 a.e], .agg #[.bool b.s, .slice A2 n2 c2, .int .i64 b.e]] W2 (Bools (q a b) W2)) :
    Calls Tryd.prog 32 #[.agg #[.bool x.lo.s, .slice A1 n1 c1, .int .i64 x.lo.e, .bool x.hi.s, .slice A2 n2 c2, .int .i64 x.hi.e], .agg #[.bool y.lo.s, .slice A3 n3 c3, .int .i64 y.lo.e, .bool y.hi.s, .slice A4 n4 c4, .int .i64 y.hi.e], .func (Fn.func f) #[] #[]] w (Bools (mayI K x && (mayI K y && (q y.lo x.lo && q x.hi y.hi))) w) := by
  obtain ⟨BB, xa, xb⟩ := two_ivl w (x := x) (y := y) (A1 := A1) (n1 := n1) (c1 := c1) (A2 := A2) (n2 := n2) (c2 := c2) (A3 := A3) (n3 := n3) (c3 := c3) (A4 := A4) (n4 := n4) (c4 := c4)
  obtain ⟨a0, a1, a2, a3, a4, a5⟩ := xa.held
  obtain ⟨b0, b1, b2, b3, b4, b5⟩ := xb.held
  clear xa xb
  have G := mv BB rfl (J5 hT h1 h2 h3 h4)
  clear hT h1 h2 h3 h4
  obtain ⟨hT, h1, h2, h3, h4⟩ := G
  have HO := Lib.hid ho
  clear ho
  obtain ⟨p1, hp1⟩ : ∃ p, p = mayI K x := ⟨_, rfl⟩
  obtain ⟨p2, hp2⟩ : ∃ p, p = mayI K y := ⟨_, rfl⟩
  obtain ⟨p3, hp3⟩ : ∃ p, p = q y.lo x.lo := ⟨_, rfl⟩
  obtain ⟨p4, hp4⟩ : ∃ p, p = q x.hi y.hi := ⟨_, rfl⟩
  rw [← hp1, ← hp2, ← hp3, ← hp4]
  have HP1 := Lib.hid hp1
  have HP2 := Lib.hid hp2
  have HP := Lib.hid (And.intro hp3 hp4)
  clear hp1 hp2 hp3 hp4
  go_enter Tryd.func32, Tryd.ntmps32
  go_wp2_with fail
  refine (imay_any (x := x) hK hT h1 h2).mono ?_
  rintro en w1 ⟨rfl, b⟩
  replace BB := bnx BB b rfl rfl rfl rfl
  have G := mv b rfl (J17 a0 a1 a2 a3 a4 a5 b0 b1 b2 b3 b4 b5 hT h1 h2 h3 h4)
  clear b a0 a1 a2 a3 a4 a5 b0 b1 b2 b3 b4 b5 hT h1 h2 h3 h4
  obtain ⟨a0, a1, a2, a3, a4, a5, b0, b1, b2, b3, b4, b5, hT, h1, h2, h3, h4⟩ := G
  rw [← HP1.out]
  clear HP1
  cases p1
  · go_wp2
    go_ret
    exact ⟨rfl, BB⟩
  go_wp2_with fail
  refine (imay_any (x := y) hK hT h3 h4).mono ?_
  rintro en w2 ⟨rfl, b⟩
  replace BB := bnx BB b rfl rfl rfl rfl
  have G := mv b rfl (J17 a0 a1 a2 a3 a4 a5 b0 b1 b2 b3 b4 b5 hT h1 h2 h3 h4)
  clear b a0 a1 a2 a3 a4 a5 b0 b1 b2 b3 b4 b5 hT h1 h2 h3 h4
  obtain ⟨a0, a1, a2, a3, a4, a5, b0, b1, b2, b3, b4, b5, hT, h1, h2, h3, h4⟩ := G
  rw [← HP2.out]
  clear HP2
  cases p2
  · go_wp2
    go_ret
    exact ⟨rfl, BB⟩
  go_wp2_with fail
  refine (HO.out _ _ _ _ _ _ _ _ _ hT h3 h1).mono ?_
  rintro en w3 ⟨rfl, b⟩
  replace BB := bnx BB b rfl rfl rfl rfl
  have G := mv b rfl (J17 a0 a1 a2 a3 a4 a5 b0 b1 b2 b3 b4 b5 hT h1 h2 h3 h4)
  clear b a0 a1 a2 a3 a4 a5 b0 b1 b2 b3 b4 b5 hT h1 h2 h3 h4
  obtain ⟨a0, a1, a2, a3, a4, a5, b0, b1, b2, b3, b4, b5, hT, h1, h2, h3, h4⟩ := G
  rw [← HP.out.1]
  cases p3
  · go_wp2
    go_ret
    exact ⟨rfl, BB⟩
  go_wp2_with fail
  refine (HO.out _ _ _ _ _ _ _ _ _ hT h2 h4).mono ?_
  rintro en w4 ⟨rfl, b⟩
  replace BB := bnx BB b rfl rfl rfl rfl
  have G := mv b rfl (J17 a0 a1 a2 a3 a4 a5 b0 b1 b2 b3 b4 b5 hT h1 h2 h3 h4)
  clear b a0 a1 a2 a3 a4 a5 b0 b1 b2 b3 b4 b5 hT h1 h2 h3 h4
  obtain ⟨a0, a1, a2, a3, a4, a5, b0, b1, b2, b3, b4, b5, hT, h1, h2, h3, h4⟩ := G
  rw [← HP.out.2]
  clear HP HO
  go_wp2
  go_ret
  exact ⟨by first | rfl | simp, BB⟩

set_option maxRecDepth 100000 in
set_option maxHeartbeats 8000000 in
theorem iwithin_any {w : World} {K : Nat} {x y : Iv} {A1 : Option Addr} {n1 c1 : Nat} {A2 : Option Addr} {n2 c2 : Nat} {A3 : Option Addr} {n3 c3 : Nat} {A4 : Option Addr} {n4 c4 : Nat} (hK : 4194304 ≤ K) (hT : Tab w) (h1 : Rd w .u64 Go.Proofs.YtkpcmgfpmekkjaaDoor.W A1 n1 c1 x.lo.l) (h2 : Rd w .u64 Go.Proofs.YtkpcmgfpmekkjaaDoor.W A2 n2 c2 x.hi.l) (h3 : Rd w .u64 Go.Proofs.YtkpcmgfpmekkjaaDoor.W A3 n3 c3 y.lo.l) (h4 : Rd w .u64 Go.Proofs.YtkpcmgfpmekkjaaDoor.W A4 n4 c4 y.hi.l) :
    Calls Tryd.prog 13 #[.agg #[.bool x.lo.s, .slice A1 n1 c1, .int .i64 x.lo.e, .bool x.hi.s, .slice A2 n2 c2, .int .i64 x.hi.e], .agg #[.bool y.lo.s, .slice A3 n3 c3, .int .i64 y.lo.e, .bool y.hi.s, .slice A4 n4 c4, .int .i64 y.hi.e]] w (Bools (withinI K x y) w) := by
  obtain ⟨BB, xa, xb⟩ := two_ivl w (x := x) (y := y) (A1 := A1) (n1 := n1) (c1 := c1) (A2 := A2) (n2 := n2) (c2 := c2) (A3 := A3) (n3 := n3) (c3 := c3) (A4 := A4) (n4 := n4) (c4 := c4)
  obtain ⟨a0, a1, a2, a3, a4, a5⟩ := xa.held
  obtain ⟨b0, b1, b2, b3, b4, b5⟩ := xb.held
  clear xa xb
  have G := mv BB rfl (J5 hT h1 h2 h3 h4)
  clear hT h1 h2 h3 h4
  obtain ⟨hT, h1, h2, h3, h4⟩ := G
  go_enter Tryd.func13, Tryd.ntmps13
  go_wp2_with fail
  refine (both_any (K := K) (x := x) (y := y) (f := 33) (q := fun a b => decide (cmpQ K a b ≤ 0)) hK hT h1 h2 h3 h4 (fun _ _ _ => by kernel_rfl) (fun _ _ _ _ _ _ _ _ _ t r1 r2 => less_le hK t r1 r2)).mono ?_
  rintro en w1 ⟨rfl, b⟩
  replace BB := bnx BB b rfl rfl rfl rfl
  have G := mv b rfl (J17 a0 a1 a2 a3 a4 a5 b0 b1 b2 b3 b4 b5 hT h1 h2 h3 h4)
  clear b a0 a1 a2 a3 a4 a5 b0 b1 b2 b3 b4 b5 hT h1 h2 h3 h4
  obtain ⟨a0, a1, a2, a3, a4, a5, b0, b1, b2, b3, b4, b5, hT, h1, h2, h3, h4⟩ := G
  have e1 : (mayI K x && (mayI K y && (decide (cmpQ K y.lo x.lo ≤ 0) && decide (cmpQ K x.hi y.hi ≤ 0)))) = withinI K x y := rfl
  go_wp2
  go_ret
  exact ⟨rfl, BB⟩

set_option maxRecDepth 100000 in
set_option maxHeartbeats 8000000 in
theorem iinside_any {w : World} {K : Nat} {x y : Iv} {A1 : Option Addr} {n1 c1 : Nat} {A2 : Option Addr} {n2 c2 : Nat} {A3 : Option Addr} {n3 c3 : Nat} {A4 : Option Addr} {n4 c4 : Nat} (hK : 4194304 ≤ K) (hT : Tab w) (h1 : Rd w .u64 Go.Proofs.YtkpcmgfpmekkjaaDoor.W A1 n1 c1 x.lo.l) (h2 : Rd w .u64 Go.Proofs.YtkpcmgfpmekkjaaDoor.W A2 n2 c2 x.hi.l) (h3 : Rd w .u64 Go.Proofs.YtkpcmgfpmekkjaaDoor.W A3 n3 c3 y.lo.l) (h4 : Rd w .u64 Go.Proofs.YtkpcmgfpmekkjaaDoor.W A4 n4 c4 y.hi.l) :
    Calls Tryd.prog 34 #[.agg #[.bool x.lo.s, .slice A1 n1 c1, .int .i64 x.lo.e, .bool x.hi.s, .slice A2 n2 c2, .int .i64 x.hi.e], .agg #[.bool y.lo.s, .slice A3 n3 c3, .int .i64 y.lo.e, .bool y.hi.s, .slice A4 n4 c4, .int .i64 y.hi.e]] w (Bools (insideI K x y) w) := by
  obtain ⟨BB, xa, xb⟩ := two_ivl w (x := x) (y := y) (A1 := A1) (n1 := n1) (c1 := c1) (A2 := A2) (n2 := n2) (c2 := c2) (A3 := A3) (n3 := n3) (c3 := c3) (A4 := A4) (n4 := n4) (c4 := c4)
  obtain ⟨a0, a1, a2, a3, a4, a5⟩ := xa.held
  obtain ⟨b0, b1, b2, b3, b4, b5⟩ := xb.held
  clear xa xb
  have G := mv BB rfl (J5 hT h1 h2 h3 h4)
  clear hT h1 h2 h3 h4
  obtain ⟨hT, h1, h2, h3, h4⟩ := G
  go_enter Tryd.func34, Tryd.ntmps34
  go_wp2_with fail
  refine (both_any (K := K) (x := x) (y := y) (f := 53) (q := fun a b => decide (cmpQ K a b < 0)) hK hT h1 h2 h3 h4 (fun _ _ _ => by kernel_rfl) (fun _ _ _ _ _ _ _ _ _ t r1 r2 => less_lt hK t r1 r2)).mono ?_
  rintro en w1 ⟨rfl, b⟩
  replace BB := bnx BB b rfl rfl rfl rfl
  have G := mv b rfl (J17 a0 a1 a2 a3 a4 a5 b0 b1 b2 b3 b4 b5 hT h1 h2 h3 h4)
  clear b a0 a1 a2 a3 a4 a5 b0 b1 b2 b3 b4 b5 hT h1 h2 h3 h4
  obtain ⟨a0, a1, a2, a3, a4, a5, b0, b1, b2, b3, b4, b5, hT, h1, h2, h3, h4⟩ := G
  have e1 : (mayI K x && (mayI K y && (decide (cmpQ K y.lo x.lo < 0) && decide (cmpQ K x.hi y.hi < 0)))) = insideI K x y := rfl
  go_wp2
  go_ret
  exact ⟨rfl, BB⟩

end Go.Proofs.YtkpcmgfpmekkjaaDoor
