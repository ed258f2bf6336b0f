/-
  Contracts of dyad's top, over, sizes, own, at this translation. Condition: the slices read as naturals.
-/
import Derived.Test.YtkpcmgfpmekkjaaDoorQDn
import Derived.Test.YtkpcmgfpmekkjaaDoorQRRoot
import Derived.Defers
import Derived.Recover
import Derived.WalkLawsBesides
import Derived.Deep.RegionHeld3
import Derived.IntWalk
namespace Go.Proofs.YtkpcmgfpmekkjaaDoor
open Go.RowKit

/-- a block that holds a Dyad's three parts -/
structure Box (w : World) (g : Nat) (s : Bool) (A : Option Addr) (n c : Nat) (e : Int) : Prop where
  blk : w.heap[g]? = some (.cells #[.bool s, .slice A n c, .int .i64 e] 28 (0, 0))
section
variable {w w' : World} {g : Nat} {s : Bool} {A : Option Addr} {n c : Nat} {e : Int}
theorem Box.gl (h : Box w g s A n c e) : g < w.heap.size := by
  rcases Nat.lt_or_ge g w.heap.size with hlt | hge
  · exact hlt
  · have := h.blk; rw [Array.getElem?_eq_none hge] at this; cases this
theorem Box.at (h : Box w g s A n c e) (i : Nat) : w.cell? ⟨g, i, none⟩ = #[Value.bool s, .slice A n c, .int .i64 e][i]? := cell_of_row w g i _ 28 (0, 0) h.blk
theorem Box.c0 (h : Box w g s A n c e) : w.cell? ⟨g, 0, none⟩ = some (.bool s) := h.at 0
theorem Box.c1 (h : Box w g s A n c e) : w.cell? ⟨g, 1, none⟩ = some (.slice A n c) := h.at 1
theorem Box.c2 (h : Box w g s A n c e) : w.cell? ⟨g, 2, none⟩ = some (.int .i64 e) := h.at 2
theorem Box.frozen (h : Box w g s A n c e) (i : Nat) : w.frozen? ⟨g, i, none⟩ = false := by
  have := h.blk
  simp [World.frozen?, this]
theorem Box.below {b0 : Nat} (h : Box w g s A n c e) (hb : Below b0 w w') (hg : g < b0) : Box w' g s A n c e := ⟨(hb.block g hg).trans h.blk⟩
theorem Box.drew (h : Box w g s A n c e) : Box w.drew g s A n c e := ⟨h.blk⟩
theorem Box.new (w : World) (s : Bool) (A : Option Addr) (n c : Nat) (e : Int) : Box (w.alloc (.cells #[.bool s, .slice A n c, .int .i64 e] 28)) w.heap.size s A n c e := ⟨heap_alloc_new w _⟩
theorem Box.alloc (h : Box w g s A n c e) (o : Obj) : Box (w.alloc o) g s A n c e := h.below (below_alloc w o) h.gl
/-- no limb lies in such a block -/
theorem Box.no (h : Box w g s A n c e) (i x : Nat) : w.cell? ⟨g, i, none⟩ ≠ some (.int .u64 (x : Int)) := by
  rw [h.at i]
  match i with
  | 0 => simp
  | 1 => simp
  | 2 => simp
  | i + 3 => simp
/-- the three parts stored anew -/
theorem Box.put (h : Box w g s A n c e) (s' : Bool) (A' : Option Addr) (n' c' : Nat) (e' : Int) : Box (((w.setCell ⟨g, 0, none⟩ (.bool s')).setCell ⟨g, 1, none⟩ (.slice A' n' c')).setCell ⟨g, 2, none⟩ (.int .i64 e')) g s' A' n' c' e' := by
  have := h.blk
  refine ⟨?_⟩
  simp [World.setCell, Array.getElem?_modify, this]
end
/-- a block of one number that is no limb -/
structure Cel (w : World) (g : Nat) (x : Int) : Prop where
  blk : w.heap[g]? = some (.cells #[.int .i64 x] 3 (0, 0))
section
variable {w w' : World} {g : Nat} {x : Int} {B : Nat} {A : Option Addr} {n c : Nat} {l : List Nat}
theorem Cel.gl (h : Cel w g x) : g < w.heap.size := by
  rcases Nat.lt_or_ge g w.heap.size with hlt | hge
  · exact hlt
  · have := h.blk; rw [Array.getElem?_eq_none hge] at this; cases this
theorem Cel.at (h : Cel w g x) (i : Nat) : w.cell? ⟨g, i, none⟩ = #[Value.int .i64 x][i]? := cell_of_row w g i _ 3 (0, 0) h.blk
theorem Cel.c0 (h : Cel w g x) : w.cell? ⟨g, 0, none⟩ = some (.int .i64 x) := h.at 0
theorem Cel.frozen (h : Cel w g x) (i : Nat) : w.frozen? ⟨g, i, none⟩ = false := by
  have := h.blk
  simp [World.frozen?, this]
theorem Cel.below {b0 : Nat} (h : Cel w g x) (hb : Below b0 w w') (hg : g < b0) : Cel w' g x := ⟨(hb.block g hg).trans h.blk⟩
theorem Cel.new (w : World) (x : Int) : Cel (w.alloc (.cells #[.int .i64 x] 3)) w.heap.size x := ⟨heap_alloc_new w _⟩
theorem Cel.new1 (w : World) (o : Obj) (x : Int) : Cel ((w.alloc o).alloc (.cells #[.int .i64 x] 3)) (w.heap.size + 1) x := by
  have := Cel.new (w.alloc o) x
  simpa using this
theorem Cel.put (h : Cel w g x) (y : Int) : Cel (w.setCell ⟨g, 0, none⟩ (.int .i64 y)) g y := by
  have := h.blk
  refine ⟨?_⟩
  simp [World.setCell, Array.getElem?_modify, this]
theorem Cel.no (h : Cel w g x) (i y : Nat) : w.cell? ⟨g, i, none⟩ ≠ some (.int .u64 (y : Int)) := by
  rw [h.at i]
  match i with
  | 0 => simp
  | i + 1 => simp

theorem Rd.off (h : Rd w .u64 B A n c l) (hg : ∀ i x : Nat, w.cell? ⟨g, i, none⟩ ≠ some (.int .u64 (x : Int))) : n ≠ 0 → ∀ a, A = some a → a.block ≠ g := by
  intro hn a ha
  obtain ⟨b, o, e, hb, hc⟩ := h.at_ hn
  rw [e] at ha
  injection ha with ha
  subst ha
  show b ≠ g
  intro hbg
  subst hbg
  exact hg _ _ (hc 0 (by omega))
theorem Rd.set1 (h : Rd w .u64 B A n c l) (hne : n ≠ 0 → ∀ a, A = some a → a.block ≠ g) (i : Nat) (u : Value) : Rd (w.setCell ⟨g, i, none⟩ u) .u64 B A n c l := h.grown (grownBy_set w g i u) hne
/-- limbs are not touched by what is stored into such a block -/
theorem Rd.put3 {s0 : Bool} {A0 : Option Addr} {n0 c0 : Nat} {e0 : Int} (h : Rd w .u64 B A n c l) (hb : Box w g s0 A0 n0 c0 e0) (u0 u1 u2 : Value) : Rd (((w.setCell ⟨g, 0, none⟩ u0).setCell ⟨g, 1, none⟩ u1).setCell ⟨g, 2, none⟩ u2) .u64 B A n c l := by
  have hne := h.off hb.no
  exact ((h.set1 hne 0 u0).set1 hne 1 u1).set1 hne 2 u2
theorem Nt.put3 {s0 : Bool} {A0 : Option Addr} {n0 c0 y : Nat} {e0 : Int} (h : Nt w A n c y) (hb : Box w g s0 A0 n0 c0 e0) (u0 u1 u2 : Value) : Nt (((w.setCell ⟨g, 0, none⟩ u0).setCell ⟨g, 1, none⟩ u1).setCell ⟨g, 2, none⟩ u2) A n c y := ⟨h.rd.put3 hb u0 u1 u2, h.lt⟩
theorem Rd.put1 (h : Rd w .u64 B A n c l) (hb : Cel w g x) (u : Value) : Rd (w.setCell ⟨g, 0, none⟩ u) .u64 B A n c l := h.set1 (h.off hb.no) 0 u
theorem Nt.put1 {y : Nat} (h : Nt w A n c y) (hb : Cel w g x) (u : Value) : Nt (w.setCell ⟨g, 0, none⟩ u) A n c y := ⟨h.rd.put1 hb u, h.lt⟩
theorem below_put3 {b0 : Nat} {w0 : World} (h : Below b0 w0 w) (hg : b0 ≤ g) (u0 u1 u2 : Value) : Below b0 w0 (((w.setCell ⟨g, 0, none⟩ u0).setCell ⟨g, 1, none⟩ u1).setCell ⟨g, 2, none⟩ u2) :=
  ((h.setCell hg u0).setCell hg u1).setCell hg u2
theorem Cel.other {g' : Nat} (h : Cel w g x) (hne : g ≠ g') (i : Nat) (u : Value) : Cel (w.setCell ⟨g', i, none⟩ u) g x := ⟨(Below.heap_setCell w _ u g hne).trans h.blk⟩
theorem Box.other {g' : Nat} {s0 : Bool} {A0 : Option Addr} {n0 c0 : Nat} {e0 : Int} (h : Box w g s0 A0 n0 c0 e0) (hne : g ≠ g') (i : Nat) (u : Value) : Box (w.setCell ⟨g', i, none⟩ u) g s0 A0 n0 c0 e0 := ⟨(Below.heap_setCell w _ u g hne).trans h.blk⟩
end

set_option maxRecDepth 100000 in
theorem catch_idle (q : Addr) (w : World) :
    CallsD Tryd.prog 72 #[.pointer (some q)] .returning w fun e u' w' => e = .returned (.tuple #[]) ∧ u' = .returning ∧ w' = w := by
  refine callsD_of_wpS Tryd.func72 rfl fun c₀ cs hu => ?_
  apply wpS_seq
  apply wpS_region
  simp [wpOpsS, go_sem, recoverD, hu, Tryd.ntmps72, Exit.thenS]
  refine wpS_of_wp ?_
  go_wp2
  cases c₀
  simp_all [bodyPostS, results, Tryd.results72]

theorem fault_is (k : Int) (w : World) : (Instr.typeAssert (Value.iface 94 (.int .i64 k)) 20 94 true).run Tryd.prog w = .ok (.tuple #[.int .i64 k, .bool true]) w := by kernel_rfl
set_option maxRecDepth 100000 in
set_option maxHeartbeats 1000000 in
theorem catch_fault {q : Nat} {x k : Int} {older : List PanicEntry} {w : World} (hc : Cel w q x) :
    CallsD Tryd.prog 72 #[.pointer (some ⟨q, 0, none⟩)] (.panicking ({ v := .iface 94 (.int .i64 k), recovered := false } :: older)) w fun e u' w' =>
      e = .returned (.tuple #[]) ∧ u' = .panicking ({ v := .iface 94 (.int .i64 k), recovered := true } :: older) ∧
      w' = w.setCell ⟨q, 0, none⟩ (.int .i64 k) := by
  have d0 := hc.c0
  have d1 := hc.frozen 0
  have hta : ∀ w : World, (Instr.typeAssert (Value.iface 94 (.int .i64 k)) 20 94 true).run Tryd.prog w = .ok (.tuple #[.int .i64 k, .bool true]) w := fault_is k
  refine callsD_of_wpS Tryd.func72 rfl fun c₀ cs hu => ?_
  apply wpS_seq
  apply wpS_region
  simp [wpOpsS, go_sem, recoverD, hu, Tryd.ntmps72, Exit.thenS]
  refine wpS_of_wp ?_
  go_wp2
  clear d0 d1 hta
  simp [bodyPostS, results, Tryd.results72]

/-- how a function within ends: with a Dyad, or with a fault's panic; P tells of the code and the parts -/
def Ran (P : Int → Bool → Nat → Int → Prop) (W : World) (e : Ending) (w' : World) : Prop :=
  (∃ s A n c m x, e = .returned (.agg #[.bool s, .slice A n c, .int .i64 x]) ∧ P 0 s m x ∧ Nt w' A n c m ∧ Below W.heap.size W w') ∨
  (∃ k, e = .panicked [{ v := .iface 94 (.int .i64 k), recovered := false }] ∧ k ≠ 0 ∧ P k false 0 0 ∧ Below W.heap.size W w')
/-- how a function of the face ends -/
def Tells (P : Int → Bool → Nat → Int → Prop) (W : World) (e : Ending) (w' : World) : Prop :=
  ∃ k s A n c m x, e = .returned (.tuple #[.agg #[.bool s, .slice A n c, .int .i64 x], .int .i64 k]) ∧ P k s m x ∧ Nt w' A n c m ∧ Below W.heap.size W w'

set_option maxRecDepth 100000 in
set_option maxHeartbeats 1000000 in
theorem told_face {f : FuncId} {cap : Array Value} {w : World} {P : Int → Bool → Nat → Int → Prop}
    (hf : ∀ W2 : World, (callFunc f cap).run Tryd.prog W2 = .ok (.enter f cap) W2) (hc : ∀ W2 : World, W2 = (w.alloc (.cells #[.bool false, .slice none 0 0, .int .i64 0] 28)).alloc (.cells #[.int .i64 0] 3) → Calls Tryd.prog f cap W2 (Ran P W2)) :
    Calls Tryd.prog 57 #[.func (Fn.func f) #[] cap] w (Tells P w) := by
  have hmf : ∀ (fn : Fn) (first cap : Array Value) (w : World), (Instr.makeFunc fn first cap).run Tryd.prog w = .ok (.func fn first cap) w := fun _ _ _ _ => rfl
  have HC := Lib.hid hc
  clear hc
  go_enter_defers Tryd.func57, Tryd.ntmps57
  go_wp2_with fail
  refine (HC.out _ rfl).mono ?_
  have hbox := (Box.new w false none 0 0 0).alloc (.cells #[.int .i64 0] 3)
  have hcel := Cel.new1 w (.cells #[.bool false, .slice none 0 0, .int .i64 0] 28) 0
  have hB : Below w.heap.size w ((w.alloc (.cells #[.bool false, .slice none 0 0, .int .i64 0] 28)).alloc (.cells #[.int .i64 0] 3)) := (below_alloc w _).trans ((below_alloc _ _).mono (by simp))
  rintro e w' (⟨s, A, n, c, m, x, rfl, hP, hN, hb⟩ | ⟨k, rfl, hk, hP, hb⟩)
  · have h1 := hbox.below hb hbox.gl
    have h2 := hcel.below hb hcel.gl
    have HB := hB.trans (hb.mono hB.size)
    have c0 := h1.c0
    have c1 := h1.c1
    have c2 := h1.c2
    have f0 := h1.frozen 0
    have f1 := h1.frozen 1
    have f2 := h1.frozen 2
    have d0 := h2.c0
    have d1 := h2.frozen 0
    go_wp2
    have p1 := h1.put s A n c x
    have q1 := p1.other (g' := w.heap.size + 1) (by omega) 0 (.int .i64 0)
    have HB3 := (below_put3 HB (Nat.le_refl _) (.bool s) (.slice A n c) (.int .i64 x)).setCell (p := ⟨w.heap.size + 1, 0, none⟩) (by simp) (.int .i64 0)
    have q2 := ((h2.other (g' := w.heap.size) (by omega) 0 (.bool s)).other (g' := w.heap.size) (by omega) 1 (.slice A n c)).other (g' := w.heap.size) (by omega) 2 (.int .i64 x)
    have hN3 := (hN.put3 h1 (.bool s) (.slice A n c) (.int .i64 x)).put1 q2 (.int .i64 0)
    have q3 := q2.put 0
    clear c0 c1 c2 d0 HB hbox hcel hB hb hmf hf HC f0 f1 f2 d1 h1 h2 p1 q2 hN
    generalize (((w'.setCell ⟨w.heap.size, 0, none⟩ (.bool s)).setCell ⟨w.heap.size, 1, none⟩ (.slice A n c)).setCell ⟨w.heap.size, 2, none⟩ (.int .i64 x)).setCell ⟨w.heap.size + 1, 0, none⟩ (.int .i64 0) = w3 at *
    have c0 := q1.c0
    have c1 := q1.c1
    have c2 := q1.c2
    have d0 := q3.c0
    refine leaves_cons (f := 72) (args := #[.pointer (some ⟨w.heap.size + 1, 0, none⟩)]) (by simp) (by simp [go_sem]) ?_
    refine (catch_idle ⟨w.heap.size + 1, 0, none⟩ _).mono ?_
    rintro e u' w'' ⟨rfl, rfl, rfl⟩
    simp [Leaves, settle, results, Tryd.results57, go_sem, c0, c1, c2, d0]
    exact ⟨0, s, A, n, c, m, x, rfl, hP, hN3, HB3⟩
  · have h1 := hbox.below hb hbox.gl
    have h2 := hcel.below hb hcel.gl
    have HB := hB.trans (hb.mono hB.size)
    have HP := Lib.hid hP
    clear hP
    go_wp2
    have q1 := h1.other (g' := w.heap.size + 1) (by omega) 0 (.int .i64 k)
    have HB3 := HB.setCell (p := ⟨w.heap.size + 1, 0, none⟩) (by simp) (.int .i64 k)
    have q3 := h2.put k
    have c0 := q1.c0
    have c1 := q1.c1
    have c2 := q1.c2
    have d0 := q3.c0
    clear HB hbox hcel hB hb hmf hf HC q1 q3 h1
    refine leaves_cons (f := 72) (args := #[.pointer (some ⟨w.heap.size + 1, 0, none⟩)]) (by simp) (by simp [go_sem]) ?_
    refine (catch_fault (k := k) (older := []) h2).mono ?_
    rintro e u' w'' ⟨rfl, rfl, rfl⟩
    clear h2
    generalize w'.setCell ⟨w.heap.size + 1, 0, none⟩ (.int .i64 k) = w3 at *
    simp [Leaves, settle, results, Tryd.results57, go_sem, c0, c1, c2, d0]
    exact ⟨k, false, none, 0, 0, 0, 0, rfl, HP.out, nt_nil _, HB3⟩
theorem told_any2 {f : FuncId} {v1 v2 : Value} {w : World} {P : Int → Bool → Nat → Int → Prop}
    (hf : ∀ W2 : World, (callFunc f #[v1, v2]).run Tryd.prog W2 = .ok (.enter f #[v1, v2]) W2) (hc : ∀ W2 : World, W2 = (w.alloc (.cells #[.bool false, .slice none 0 0, .int .i64 0] 28)).alloc (.cells #[.int .i64 0] 3) → Calls Tryd.prog f #[v1, v2] W2 (Ran P W2)) :
    Calls Tryd.prog 57 #[.func (Fn.func f) #[] #[v1, v2]] w (Tells P w) := told_face hf hc
end Go.Proofs.YtkpcmgfpmekkjaaDoor

namespace Go.Proofs.YtkpcmgfpmekkjaaDoor
open Go.RowKit

/-- may a Dyad of these parts be? -/
def mayD (s : Bool) (l : List Nat) (e : Int) : Bool :=
  if l = [] then !s && decide (e = 0) else mayB l && decide (l.getD 0 0 % 2 = 1) && decide (-1048576 ≤ e) && decide (e ≤ 1048576)

theorem val_mod2 {l : List Nat} : val W l % 2 = l.getD 0 0 % 2 := by
  cases l with
  | nil => rfl
  | cons x l =>
    rw [val_cons, W_eq]
    show (x + _) % 2 = x % 2
    omega
theorem low_zero {x k : Nat} (h : IsLow x k) : k = 0 ↔ x % 2 = 1 := by
  obtain ⟨q, hq⟩ := h
  constructor
  · rintro rfl
    rw [Nat.pow_zero, Nat.one_mul] at hq
    omega
  · intro h1
    rcases Nat.eq_zero_or_pos k with h2 | h2
    · exact h2
    · obtain ⟨j, rfl⟩ : ∃ j, k = j + 1 := ⟨k - 1, by omega⟩
      have : x = 2 * (2 ^ j * (2 * q + 1)) := by rw [hq, Nat.pow_succ]; ac_rfl
      omega

theorem dmay_nil {w : World} {A : Option Addr} {c : Nat} {s : Bool} {e : Int} :
    Calls Tryd.prog 8 #[.agg #[.bool s, .slice A 0 c, .int .i64 e]] w fun e' w' => e' = .returned (.bool (!s && decide (e = 0))) ∧ Below w.heap.size w w' := by
  have hB := below_alloc w (.cells #[.bool s, .slice A 0 c, .int .i64 e] 28)
  by_cases he : e = 0
  · subst he
    cases s
    all_goals
      go_enter Tryd.func8, Tryd.ntmps8
      go_wp2
      go_ret
      exact ⟨rfl, hB⟩
  · have f0 : (e == 0) = false := by simp [he]
    have f1 : decide (e = 0) = false := decide_eq_false he
    have HF := Lib.hid f1
    clear he f1
    cases s
    all_goals
      go_enter Tryd.func8, Tryd.ntmps8
      go_wp2
      go_ret
      first
      | exact ⟨by rw [HF.out]; rfl, hB⟩
      | exact ⟨rfl, hB⟩

set_option maxRecDepth 100000 in
theorem dmay_bad {w : World} {A : Option Addr} {n c : Nat} {l : List Nat} {s : Bool} {e : Int} (h : Rd w .u64 W A n c l) (h0 : n ≠ 0) (hm : mayB l = false) :
    Calls Tryd.prog 8 #[.agg #[.bool s, .slice A n c, .int .i64 e]] w fun e' w' => e' = .returned (.bool false) ∧ Below w.heap.size w w' := by
  have hB := below_alloc w (.cells #[.bool s, .slice A n c, .int .i64 e] 28)
  have h1 := h.alloc (.cells #[.bool s, .slice A n c, .int .i64 e] 28)
  have f0 : ((n : Int) == 0) = false := by simp [h0]
  go_enter Tryd.func8, Tryd.ntmps8
  go_wp2_with fail
  refine (low_bad h1 hm).mono ?_
  rintro e w' ⟨rfl, rfl⟩
  go_wp2
  go_ret
  exact ⟨rfl, hB⟩

set_option maxRecDepth 100000 in
set_option maxHeartbeats 1000000 in
theorem dmay_some {w : World} {A : Option Addr} {n c m : Nat} {s : Bool} {e : Int} (hT : Tab w) (h : Nt w A n c m) (h0 : n ≠ 0) :
    Calls Tryd.prog 8 #[.agg #[.bool s, .slice A n c, .int .i64 e]] w fun e' w' => e' = .returned (.bool (decide (m % 2 = 1) && decide (-1048576 ≤ e) && decide (e ≤ 1048576))) ∧ Below w.heap.size w w' := by
  have hB := below_alloc w (.cells #[.bool s, .slice A n c, .int .i64 e] 28)
  have h1 := h.alloc (.cells #[.bool s, .slice A n c, .int .i64 e] 28)
  have hT1 := hT.below hB
  have f0 : ((n : Int) == 0) = false := by simp [h0]
  have hm0 : m ≠ 0 := fun e => h0 (h.zero.2 e)
  have HM := Lib.hid hm0
  clear h0 hm0
  go_enter Tryd.func8, Tryd.ntmps8
  go_wp2_with fail
  refine (low_nt hT1 h1 HM.out).mono ?_
  rintro e' w' ⟨k, rfl, hk, rfl⟩
  have hkz := low_zero hk
  have hb := Box.new w s A n c e
  have c2 := hb.c2
  clear hk
  by_cases hk0 : k = 0
  · have f1 : ((k : Int) == 0) = true := by simp [hk0]
    have HO : Hid (decide (m % 2 = 1) = true) := Lib.hid (decide_eq_true (hkz.1 hk0))
    clear hk0 hkz
    by_cases hlo : -1048576 ≤ e
    · have d1 : decide (-1048576 ≤ e) = true := decide_eq_true hlo
      have HD := Lib.hid d1
      by_cases hhi : e ≤ 1048576
      · have d2 : decide (e ≤ 1048576) = true := decide_eq_true hhi
        have HD2 := Lib.hid d2
        clear hb
        go_wp2
        go_ret
        exact ⟨by rw [HO.out, HD.out, HD2.out]; rfl, hB⟩
      · have d2 : decide (e ≤ 1048576) = false := decide_eq_false hhi
        have HD2 := Lib.hid d2
        clear hb
        go_wp2
        go_ret
        exact ⟨by rw [HO.out, HD.out, HD2.out]; rfl, hB⟩
    · have d1 : decide (-1048576 ≤ e) = false := decide_eq_false hlo
      have HD := Lib.hid d1
      clear hb
      go_wp2
      go_ret
      exact ⟨by rw [HO.out, HD.out]; rfl, hB⟩
  · have f1 : ((k : Int) == 0) = false := by simp [hk0]
    have HO : Hid (decide (m % 2 = 1) = false) := Lib.hid (decide_eq_false (fun h => hk0 (hkz.2 h)))
    clear hk0 hkz hb
    go_wp2
    go_ret
    exact ⟨by rw [HO.out]; rfl, hB⟩

theorem dmay_any {w : World} {A : Option Addr} {n c : Nat} {l : List Nat} {s : Bool} {e : Int} (hT : Tab w) (h : Rd w .u64 W A n c l) :
    Calls Tryd.prog 8 #[.agg #[.bool s, .slice A n c, .int .i64 e]] w fun e' w' => e' = .returned (.bool (mayD s l e)) ∧ Below w.heap.size w w' := by
  by_cases h0 : n = 0
  · have hl := h.empty h0
    subst h0
    have := dmay_nil (w := w) (A := A) (c := c) (s := s) (e := e)
    unfold mayD
    rwa [if_pos hl]
  · have hl : l ≠ [] := fun hl => h0 (by rw [← h.len, hl]; rfl)
    unfold mayD
    rw [if_neg hl]
    cases hm : mayB l
    · exact dmay_bad h h0 hm
    · have := dmay_some (s := s) (e := e) hT (nt_of h hm).1 h0
      rwa [val_mod2] at this
theorem mayD_ok {s : Bool} {m : Nat} {e : Int} (h : OkD s m e) : mayD s (dig W m) e = true := by
  unfold mayD
  rcases h with ⟨rfl, rfl, rfl⟩ | ⟨h1, h2, h3, h4⟩
  · rw [dig_zero]; rfl
  · have hm : m ≠ 0 := by omega
    rw [if_neg (fun hl => hm ((dig_len_zero W_two).1 (by rw [hl]; rfl))), mayB_dig h2, ← val_mod2, val_dig W_two]
    simp [h1, h3, h4]
theorem mayD_of {s : Bool} {l : List Nat} {e : Int} (hlt : Lt W l) (h : mayD s l e = true) : mayB l = true ∧ OkD s (val W l) e := by
  unfold mayD at h
  by_cases hl : l = []
  · subst hl
    rw [if_pos rfl] at h
    simp at h
    exact ⟨rfl, .inl ⟨rfl, h.1, h.2⟩⟩
  · rw [if_neg hl] at h
    simp only [Bool.and_eq_true, decide_eq_true_eq] at h
    obtain ⟨⟨⟨h1, h2⟩, h3⟩, h4⟩ := h
    refine ⟨h1, .inr ⟨by rw [val_mod2]; exact h2, ?_, h3, h4⟩⟩
    unfold mayB at h1
    simp only [Bool.and_eq_true, Bool.or_eq_true, decide_eq_true_eq] at h1
    exact Nat.lt_of_lt_of_le (val_lt hlt) (Nat.pow_le_pow_right (by rw [W_eq]; omega) h1.1)

/- the inner functions -/
theorem checked_ok {w : World} {A : Option Addr} {n c m : Nat} {s : Bool} {e : Int} (hT : Tab w) (h : Nt w A n c m) (hd : OkD s m e) :
    Calls Tryd.prog 75 #[.agg #[.bool s, .slice A n c, .int .i64 e]] w fun e' w' => e' = .returned (.agg #[.bool s, .slice A n c, .int .i64 e]) ∧ Below w.heap.size w w' := by
  have hb := (Box.new w s A n c e).alloc (.cells #[.bool false, .slice none 0 0, .int .i64 0] 28)
  have hb2 := Box.new (w.alloc (.cells #[.bool s, .slice A n c, .int .i64 e] 28)) false none 0 0 0
  have e1 : (w.alloc (.cells #[.bool s, .slice A n c, .int .i64 e] 28)).heap.size = w.heap.size + 1 := by simp
  rw [e1] at hb2
  have hB : Below w.heap.size w ((w.alloc (.cells #[.bool s, .slice A n c, .int .i64 e] 28)).alloc (.cells #[.bool false, .slice none 0 0, .int .i64 0] 28)) := (below_alloc w _).trans ((below_alloc _ _).mono (by simp))
  have hT1 := hT.below hB
  have h1 := h.below hB
  have HD := Lib.hid (mayD_ok hd)
  clear e1
  go_enter Tryd.func75, Tryd.ntmps75
  go_wp2_with fail
  refine (dmay_any (s := s) (e := e) hT1 h1.rd).mono ?_
  rintro e' w' ⟨rfl, b⟩
  rw [HD.out]
  have g1 := hb.below b hb.gl
  have g2 := hb2.below b hb2.gl
  have HB := hB.trans (b.mono hB.size)
  have c0 := g1.c0
  have c1 := g1.c1
  have c2 := g1.c2
  have d0 := g2.c0
  have d1 := g2.c1
  have d2 := g2.c2
  have f0 := g2.frozen 0
  have f1 := g2.frozen 1
  have f2 := g2.frozen 2
  clear hb hb2 hT1 h1 hT h b hB
  go_wp2
  have p := g2.put s A n c e
  have HB3 := below_put3 (g := w.heap.size + 1) HB (by omega) (.bool s) (.slice A n c) (.int .i64 e)
  have q0 := p.c0
  have q1 := p.c1
  have q2 := p.c2
  exact bodyPost_ret (v := .agg #[.bool s, .slice A n c, .int .i64 e]) (by simp [results, Tryd.results75, go_sem, q0, q1, q2]) rfl ⟨rfl, HB3⟩
theorem checked_no {w : World} {A : Option Addr} {n c : Nat} {l : List Nat} {s : Bool} {e : Int} (hT : Tab w) (h : Rd w .u64 W A n c l) (hd : mayD s l e = false) :
    Calls Tryd.prog 75 #[.agg #[.bool s, .slice A n c, .int .i64 e]] w fun e' w' => e' = .panicked [{ v := .iface 94 (.int .i64 1), recovered := false }] ∧ Below w.heap.size w w' := by
  have hB : Below w.heap.size w ((w.alloc (.cells #[.bool s, .slice A n c, .int .i64 e] 28)).alloc (.cells #[.bool false, .slice none 0 0, .int .i64 0] 28)) := (below_alloc w _).trans ((below_alloc _ _).mono (by simp))
  have hb := (Box.new w s A n c e).alloc (.cells #[.bool false, .slice none 0 0, .int .i64 0] 28)
  have hT1 := hT.below hB
  have h1 := h.below hB
  have HD := Lib.hid hd
  clear hd
  go_enter Tryd.func75, Tryd.ntmps75
  go_wp2_with fail
  refine (dmay_any (s := s) (e := e) hT1 h1).mono ?_
  rintro e' w' ⟨rfl, b⟩
  rw [HD.out]
  have HB := hB.trans (b.mono hB.size)
  clear hb hT1 h1 hT h b hB
  go_wp2
  exact ⟨rfl, rfl, HB⟩
theorem check_ok {w : World} :
    Calls Tryd.prog 76 #[.int .i64 0] w fun e' w' => e' = .returned (.tuple #[]) ∧ w = w' := by
  go_enter Tryd.func76, Tryd.ntmps76
  go_wp2
  simp [bodyPost, results, Tryd.results76]
theorem check_bad {w : World} {k : Int} (hk : k ≠ 0) :
    Calls Tryd.prog 76 #[.int .i64 k] w fun e' w' => e' = .panicked [{ v := .iface 94 (.int .i64 k), recovered := false }] ∧ w = w' := by
  have f0 : (k != 0) = true := by simp [hk]
  clear hk
  go_enter Tryd.func76, Tryd.ntmps76
  go_wp2
  exact ⟨rfl, rfl, rfl⟩
theorem natural_ok {w : World} {A : Option Addr} {n c : Nat} :
    Calls Tryd.prog 66 #[.slice A n c, .int .i64 0] w fun e' w' => e' = .returned (.slice A n c) ∧ w = w' := by
  go_enter Tryd.func66, Tryd.ntmps66
  go_wp2_with fail
  refine check_ok.mono ?_
  rintro e' w' ⟨rfl, rfl⟩
  go_wp2
  go_ret
  exact ⟨rfl, rfl⟩
theorem natural_bad {w : World} {A : Option Addr} {n c : Nat} {k : Int} (hk : k ≠ 0) :
    Calls Tryd.prog 66 #[.slice A n c, .int .i64 k] w fun e' w' => e' = .panicked [{ v := .iface 94 (.int .i64 k), recovered := false }] ∧ w = w' := by
  have HK := Lib.hid hk
  clear hk
  go_enter Tryd.func66, Tryd.ntmps66
  go_wp2_with fail
  refine (check_bad HK.out).mono ?_
  rintro e' w' ⟨rfl, rfl⟩
  go_wp2
  exact ⟨rfl, rfl, rfl⟩
theorem expo_ok {w : World} {e k : Int} (hk : -2000000 ≤ k) (hk' : k ≤ 2000000) (h1 : -1048576 ≤ e + k) (h2 : e + k ≤ 1048576) :
    Calls Tryd.prog 86 #[.int .i64 e, .int .i64 k] w fun e' w' => e' = .returned (.int .i64 (e + k)) ∧ w = w' := by
  have d1 : decide (e < -1048576 - k) = false := decide_eq_false (by omega)
  have d2 : decide (1048576 - k < e) = false := decide_eq_false (by omega)
  go_enter Tryd.func86, Tryd.ntmps86
  go_wp2
  go_ret
  exact ⟨rfl, rfl⟩
theorem expo_bad {w : World} {e k : Int} (hk : -2000000 ≤ k) (hk' : k ≤ 2000000) (h : ¬ (-1048576 ≤ e + k ∧ e + k ≤ 1048576)) :
    Calls Tryd.prog 86 #[.int .i64 e, .int .i64 k] w fun e' w' => e' = .panicked [{ v := .iface 94 (.int .i64 3), recovered := false }] ∧ w = w' := by
  by_cases h1 : e < -1048576 - k
  · have d1 : decide (e < -1048576 - k) = true := decide_eq_true h1
    clear h
    go_enter Tryd.func86, Tryd.ntmps86
    go_wp2
    exact ⟨rfl, rfl, rfl⟩
  · have d1 : decide (e < -1048576 - k) = false := decide_eq_false h1
    have d2 : decide (1048576 - k < e) = true := decide_eq_true (by omega)
    have h3 : 1048576 - k < e := by omega
    clear h
    go_enter Tryd.func86, Tryd.ntmps86
    go_wp2
    exact ⟨rfl, rfl, rfl⟩
end Go.Proofs.YtkpcmgfpmekkjaaDoor

namespace Go.Proofs.YtkpcmgfpmekkjaaDoor
open Go.RowKit

set_option maxRecDepth 100000 in
theorem normal_nil {w : World} {A : Option Addr} {c : Nat} {s : Bool} {e : Int} (h : Nt w A 0 c 0) :
    Calls Tryd.prog 91 #[.bool s, .slice A 0 c, .int .i64 e] w (Ran (Nm s 0 e) w) := by
  have hB := below_alloc w (.cells #[.bool false, .slice none 0 0, .int .i64 0] 28)
  have h1 := h.below hB
  go_enter Tryd.func91, Tryd.ntmps91
  go_wp2_with fail
  refine (may_nt h1).mono ?_
  rintro e' w' ⟨rfl, rfl⟩
  go_wp2
  exact bodyPost_ret (v := .agg #[.bool false, .slice none 0 0, .int .i64 0]) (by simp [results, Tryd.results91, go_sem]) rfl (.inl ⟨_, _, _, _, 0, _, rfl, .inl ⟨rfl, rfl, rfl, rfl, rfl⟩, nt_nil _, hB⟩)

set_option maxRecDepth 100000 in
set_option maxHeartbeats 1000000 in
theorem normal_some {w : World} {A : Option Addr} {n c m : Nat} {s : Bool} {e : Int} (hT : Tab w) (h : Nt w A n c m) (h0 : n ≠ 0) :
    Calls Tryd.prog 91 #[.bool s, .slice A n c, .int .i64 e] w (Ran (Nm s m e) w) := by
  have hB := below_alloc w (.cells #[.bool false, .slice none 0 0, .int .i64 0] 28)
  have hT1 := hT.below hB
  have h1 := h.below hB
  have g := Box.new w false none 0 0 0
  have f0 : ((n : Int) == 0) = false := by simp [h0]
  have hm0 : m ≠ 0 := fun e => h0 (h.zero.2 e)
  have HM := Lib.hid hm0
  have HLT := Lib.hid h.lt
  clear h0 hm0
  go_enter Tryd.func91, Tryd.ntmps91
  go_wp2_with fail
  refine (may_nt h1).mono ?_
  rintro e' w' ⟨rfl, rfl⟩
  go_wp2_with fail
  refine (low_nt hT1 h1 HM.out).mono ?_
  rintro e' w' ⟨k, rfl, hk, rfl⟩
  have hk4 : k ≤ 4096 := by
    have := low_lt hk (m := 64 * 64) (by rw [← W64_pow]; exact HLT.out)
    omega
  obtain ⟨q, hq⟩ := hk
  have hdiv : m / 2 ^ k = 2 * q + 1 := by rw [hq, Nat.mul_div_cancel_left _ (Nat.pow_pos (by omega))]
  have hle : 2 * q + 1 < W ^ 64 := by rw [← hdiv]; exact Nat.lt_of_le_of_lt (Nat.div_le_self _ _) HLT.out
  have HQ := Lib.hid hq
  have HD := Lib.hid hdiv
  have HLE := Lib.hid hle
  clear hq hdiv hle
  go_wp2_with fail
  refine (shr_ok (s := k) h1 (by omega)).mono ?_
  rintro e' w2 ⟨A2, n2, c2, rfl, h2, b⟩
  rw [HD.out] at h2
  have g2 := g.below b g.gl
  have HB := hB.trans (b.mono hB.size)
  clear g h1 hT1 b hB hT h
  go_wp2_with fail
  refine natural_ok.mono ?_
  rintro e' w' ⟨rfl, rfl⟩
  by_cases hr : -1048576 ≤ e + k ∧ e + k ≤ 1048576
  · go_wp2_with fail
    refine (expo_ok (e := e) (k := k) (by omega) (by omega) hr.1 hr.2).mono ?_
    rintro e' w' ⟨rfl, rfl⟩
    have c0 := g2.c0
    have c1 := g2.c1
    have c2' := g2.c2
    have f0 := g2.frozen 0
    have f1 := g2.frozen 1
    have f2 := g2.frozen 2
    have HR := Lib.hid hr
    clear hr
    go_wp2
    have p := g2.put s A2 n2 c2 (e + k)
    have HB3 := below_put3 (g := w.heap.size) HB (by omega) (.bool s) (.slice A2 n2 c2) (.int .i64 (e + k))
    have h3 := h2.put3 g2 (.bool s) (.slice A2 n2 c2) (.int .i64 (e + k))
    have q0 := p.c0
    have q1 := p.c1
    have q2 := p.c2
    exact bodyPost_ret (v := .agg #[.bool s, .slice A2 n2 c2, .int .i64 (e + k)]) (by simp [results, Tryd.results91, go_sem, q0, q1, q2]) rfl (.inl ⟨_, _, _, _, _, _, rfl, .inr ⟨k, q, HQ.out, .inr (.inr ⟨HLE.out, HR.out, rfl, rfl, rfl, rfl⟩)⟩, h3, HB3⟩)
  · go_wp2_with fail
    refine (expo_bad (e := e) (k := k) (by omega) (by omega) hr).mono ?_
    rintro e' w' ⟨rfl, rfl⟩
    have HR := Lib.hid hr
    clear hr g2 h2
    go_wp2
    exact ⟨rfl, .inr ⟨3, rfl, by decide, .inr ⟨k, q, HQ.out, .inr (.inl ⟨HLE.out, HR.out, rfl, rfl, rfl, rfl⟩)⟩, HB⟩⟩
theorem normal_any {w : World} {A : Option Addr} {n c m : Nat} {s : Bool} {e : Int} (hT : Tab w) (h : Nt w A n c m) :
    Calls Tryd.prog 91 #[.bool s, .slice A n c, .int .i64 e] w (Ran (Nm s m e) w) := by
  by_cases h0 : n = 0
  · have hm := h.zero.1 h0
    subst h0 hm
    exact normal_nil h
  · exact normal_some hT h h0

theorem lesser_any {w : World} {A : Option Addr} {n c m : Nat} (h : Nt w A n c m) :
    Calls Tryd.prog 93 #[.slice A n c] w fun e' w' => ∃ A1 n1 c1, e' = .returned (.slice A1 n1 c1) ∧ Nt w' A1 n1 c1 (m / 2) ∧ Below w.heap.size w w' := by
  go_enter Tryd.func93, Tryd.ntmps93
  go_wp2_with fail
  refine (shr_ok (s := 1) h (by omega)).mono ?_
  rintro e' w2 ⟨A2, n2, c2, rfl, h2, b⟩
  rw [Nat.pow_one] at h2
  go_wp2_with fail
  refine natural_ok.mono ?_
  rintro e' w' ⟨rfl, rfl⟩
  go_wp2
  go_ret
  exact ⟨_, _, _, rfl, h2, b⟩
theorem small_half {m : Nat} (h : m < W ^ 64) : m / 2 + 1 < W ^ 64 := by
  obtain ⟨j, hj⟩ : ∃ j, j = 63 := ⟨_, rfl⟩
  have h1 : W ^ 64 = W ^ j * W := by rw [hj]; exact Nat.pow_succ ..
  have h2 : 1 ≤ W ^ j := Nat.pow_pos (by rw [W_eq]; omega)
  have h3 : 1 * W ≤ W ^ j * W := Nat.mul_le_mul_right _ h2
  rw [← h1, W_eq] at h3
  rw [W_eq] at h ⊢
  generalize 18446744073709551616 ^ 64 = P at *
  omega
theorem greater_any {w : World} {A : Option Addr} {n c m : Nat} (h : Nt w A n c m) :
    Calls Tryd.prog 94 #[.slice A n c] w fun e' w' => ∃ A1 n1 c1, e' = .returned (.slice A1 n1 c1) ∧ Nt w' A1 n1 c1 (m / 2 + 1) ∧ Below w.heap.size w w' := by
  have HS := Lib.hid (small_half h.lt)
  go_enter Tryd.func94, Tryd.ntmps94
  go_wp2_with fail
  refine (lesser_any h).mono ?_
  rintro e' w2 ⟨A2, n2, c2, rfl, h2, b⟩
  go_wp2_with fail
  have b2 := below_alloc w2 (.cells #[.int .u64 1] 52)
  have h3 := h2.below b2
  have h1 := nt_one w2 (v := 1) (by omega) (small_W (by omega))
  have B := b.trans (b2.mono b.size)
  clear h2
  refine (add_ok h3 h1 HS.out).mono ?_
  rintro e' w3 ⟨A3, n3, c3, rfl, h4, b3⟩
  have B3 := B.trans (b3.mono B.size)
  go_wp2_with fail
  refine natural_ok.mono ?_
  rintro e' w' ⟨rfl, rfl⟩
  go_wp2
  go_ret
  exact ⟨_, _, _, rfl, h4, B3⟩
end Go.Proofs.YtkpcmgfpmekkjaaDoor

namespace Go.Proofs.YtkpcmgfpmekkjaaDoor
open Go.RowKit

theorem Nt.heap {w w2 : World} {A : Option Addr} {n c x : Nat} (h : Nt w A n c x) (e : w2.heap = w.heap) : Nt w2 A n c x :=
  ⟨h.rd.keep (by rw [e]; omega) (fun p _ => by unfold World.cell?; rw [e]), h.lt⟩

/-- the three boxes of a function of two Dyads: both, and its own answer's -/
structure Two (w : World) (g : Nat) (s t : Bool) (A B : Option Addr) (n c m d : Nat) (e f : Int) : Prop where
  a : Box w g s A n c e
  b : Box w (g + 1) t B m d f
theorem Two.below {w w' : World} {b0 g : Nat} {s t : Bool} {A B : Option Addr} {n c m d : Nat} {e f : Int} (h : Two w g s t A B n c m d e f) (hb : Below b0 w w') (hg : g + 1 < b0) : Two w' g s t A B n c m d e f :=
  ⟨h.a.below hb (by omega), h.b.below hb hg⟩
theorem two_new (w : World) (s t : Bool) (A B : Option Addr) (n c m d : Nat) (e f : Int) : Two ((w.alloc (.cells #[.bool s, .slice A n c, .int .i64 e] 28)).alloc (.cells #[.bool t, .slice B m d, .int .i64 f] 28)) w.heap.size s t A B n c m d e f := by
  refine ⟨(Box.new w s A n c e).alloc _, ?_⟩
  have := Box.new (w.alloc (.cells #[.bool s, .slice A n c, .int .i64 e] 28)) t B m d f
  simpa using this
theorem Two.alloc {w : World} {g : Nat} {s t : Bool} {A B : Option Addr} {n c m d : Nat} {e f : Int} (h : Two w g s t A B n c m d e f) (o : Obj) : Two (w.alloc o) g s t A B n c m d e f := ⟨h.a.alloc o, h.b.alloc o⟩
theorem Two.heap {w w2 : World} {g : Nat} {s t : Bool} {A B : Option Addr} {n c m d : Nat} {e f : Int} (h : Two w g s t A B n c m d e f) (he : w2.heap = w.heap) : Two w2 g s t A B n c m d e f := ⟨⟨by rw [he]; exact h.a.blk⟩, ⟨by rw [he]; exact h.b.blk⟩⟩
theorem Two.held {w : World} {g : Nat} {s t : Bool} {A B : Option Addr} {n c m d : Nat} {e f : Int} (h : Two w g s t A B n c m d e f) : w.cell? ⟨g, 0, none⟩ = some (.bool s) ∧ w.cell? ⟨g, 1, none⟩ = some (.slice A n c) ∧ w.cell? ⟨g, 2, none⟩ = some (.int .i64 e) ∧
    w.cell? ⟨g + 1, 0, none⟩ = some (.bool t) ∧ w.cell? ⟨g + 1, 1, none⟩ = some (.slice B m d) ∧ w.cell? ⟨g + 1, 2, none⟩ = some (.int .i64 f) := ⟨h.a.c0, h.a.c1, h.a.c2, h.b.c0, h.b.c1, h.b.c2⟩
theorem nm_total (s : Bool) (m : Nat) (e : Int) : ∃ k s' m' e', Nm s m e k s' m' e' := by
  rcases Nat.eq_zero_or_pos m with h | h
  · exact ⟨_, _, _, _, .inl ⟨h, rfl, rfl, rfl, rfl⟩⟩
  · obtain ⟨k, q, hq⟩ := low_has (x := m) (by omega)
    rcases Nat.lt_or_ge (2 * q + 1) (W ^ 64) with h1 | h1
    · by_cases h2 : -1048576 ≤ e + k ∧ e + k ≤ 1048576
      · exact ⟨_, _, _, _, .inr ⟨k, q, hq, .inr (.inr ⟨h1, h2, rfl, rfl, rfl, rfl⟩)⟩⟩
      · exact ⟨_, _, _, _, .inr ⟨k, q, hq, .inr (.inl ⟨h1, h2, rfl, rfl, rfl, rfl⟩)⟩⟩
    · exact ⟨_, _, _, _, .inr ⟨k, q, hq, .inl ⟨h1, rfl, rfl, rfl, rfl⟩⟩⟩
theorem normal_good {w : World} {A : Option Addr} {n c m : Nat} {s : Bool} {e : Int} {s' : Bool} {m' : Nat} {e' : Int} (hT : Tab w) (h : Nt w A n c m) (hN : Nm s m e 0 s' m' e') :
    Calls Tryd.prog 91 #[.bool s, .slice A n c, .int .i64 e] w fun en w' => ∃ A1 n1 c1, en = .returned (.agg #[.bool s', .slice A1 n1 c1, .int .i64 e']) ∧ Nt w' A1 n1 c1 m' ∧ Below w.heap.size w w' :=
  (normal_any hT h).mono fun en w' hr => by
    rcases hr with ⟨s1, A1, n1, c1, m1, e1, h1, h2, h3, h4⟩ | ⟨k, h1, hk, h2, h3⟩
    · obtain ⟨_, rfl, rfl, rfl⟩ := nm_fun h2 hN
      exact ⟨A1, n1, c1, h1, h3, h4⟩
    · obtain ⟨rfl, _⟩ := nm_fun h2 hN
      exact absurd rfl hk
theorem normal_fault {w : World} {A : Option Addr} {n c m : Nat} {s : Bool} {e k : Int} {s' : Bool} {m' : Nat} {e' : Int} (hT : Tab w) (h : Nt w A n c m) (hN : Nm s m e k s' m' e') (hk : k ≠ 0) :
    Calls Tryd.prog 91 #[.bool s, .slice A n c, .int .i64 e] w fun en w' => en = .panicked [{ v := .iface 94 (.int .i64 k), recovered := false }] ∧ Below w.heap.size w w' :=
  (normal_any hT h).mono fun en w' hr => by
    rcases hr with ⟨s1, A1, n1, c1, m1, e1, h1, h2, h3, h4⟩ | ⟨k', h1, _, h2, h3⟩
    · obtain ⟨h5, _⟩ := nm_fun h2 hN
      exact absurd h5.symm hk
    · obtain ⟨rfl, _⟩ := nm_fun h2 hN
      exact ⟨h1, h3⟩
theorem Tab.heap {w w2 : World} (h : Tab w) (e : w2.heap = w.heap) : Tab w2 := fun j hj => by
  unfold World.cell?
  rw [e]
  exact h j hj
theorem Box.heap {w w2 : World} {g : Nat} {s : Bool} {A : Option Addr} {n c : Nat} {e : Int} (h : Box w g s A n c e) (he : w2.heap = w.heap) : Box w2 g s A n c e := ⟨by rw [he]; exact h.blk⟩
theorem two_below (w : World) (o o' : Obj) : Below w.heap.size w ((w.alloc o).alloc o') := (below_alloc w _).trans ((below_alloc _ _).mono (by simp))
theorem three_below (w : World) (o o' o'' : Obj) : Below w.heap.size w (((w.alloc o).alloc o').alloc o'') := (two_below w o o').trans ((below_alloc _ _).mono (by simp; omega))


/- the same facts behind a call that made memory: W is the world at the call, which has w's memory -/
theorem Nt.next {w W w2 : World} {A : Option Addr} {n c x : Nat} (h : Nt w A n c x) (b : Below W.heap.size W w2) (e : W.heap = w.heap) : Nt w2 A n c x := (h.heap e).below b
theorem Tab.next {w W w2 : World} (h : Tab w) (b : Below W.heap.size W w2) (e : W.heap = w.heap) : Tab w2 := (h.heap e).below b
theorem Two.next {w W w2 : World} {g : Nat} {s t : Bool} {A B : Option Addr} {n c m d : Nat} {e f : Int} (h : Two w g s t A B n c m d e f) (b : Below W.heap.size W w2) (he : W.heap = w.heap) : Two w2 g s t A B n c m d e f :=
  (h.heap he).below b (by rw [he]; exact h.b.gl)
theorem Box.next {w W w2 : World} {g : Nat} {s : Bool} {A : Option Addr} {n c : Nat} {e : Int} (h : Box w g s A n c e) (b : Below W.heap.size W w2) (he : W.heap = w.heap) : Box w2 g s A n c e :=
  (h.heap he).below b (by rw [he]; exact h.gl)
theorem Rd.next {w W w2 : World} {k : IntKind} {B : Nat} {A : Option Addr} {n c : Nat} {l : List Nat} (h : Rd w k B A n c l) (b : Below W.heap.size W w2) (e : W.heap = w.heap) : Rd w2 k B A n c l :=
  (h.keep (w' := W) (by rw [e]; omega) (fun p _ => by unfold World.cell?; rw [e])).below b
theorem below_next {b0 : Nat} {w0 w W w2 : World} (h : Below b0 w0 w) (hs : b0 ≤ w.heap.size) (b : Below W.heap.size W w2) (e1 : W.heap = w.heap) (e2 : W.os = w.os) (e3 : W.tape = w.tape) (e4 : W.output = w.output) : Below b0 w0 w2 := by
  have h2 : Below b0 w0 W := ⟨e2.trans h.os, e3.trans h.tape, e4.trans h.output, by rw [e1]; exact h.size, fun k hk => by rw [e1]; exact h.block k hk⟩
  exact h2.trans (b.mono (by rw [e1]; exact hs))
theorem bnx {w0 w W w2 : World} (h : Below w0.heap.size w0 w) (b : Below W.heap.size W w2) (e1 : W.heap = w.heap) (e2 : W.os = w.os) (e3 : W.tape = w.tape) (e4 : W.output = w.output) : Below w0.heap.size w0 w2 := below_next h h.size b e1 e2 e3 e4
theorem Box.held {w : World} {g : Nat} {s : Bool} {A : Option Addr} {n c : Nat} {e : Int} (h : Box w g s A n c e) : w.cell? ⟨g, 0, none⟩ = some (.bool s) ∧ w.cell? ⟨g, 1, none⟩ = some (.slice A n c) ∧ w.cell? ⟨g, 2, none⟩ = some (.int .i64 e) := ⟨h.c0, h.c1, h.c2⟩
theorem Box.open {w : World} {g : Nat} {s : Bool} {A : Option Addr} {n c : Nat} {e : Int} (h : Box w g s A n c e) : w.frozen? ⟨g, 0, none⟩ = false ∧ w.frozen? ⟨g, 1, none⟩ = false ∧ w.frozen? ⟨g, 2, none⟩ = false := ⟨h.frozen 0, h.frozen 1, h.frozen 2⟩
theorem box_two (w : World) (o o' : Obj) (s : Bool) (A : Option Addr) (n c : Nat) (e : Int) : Box (((w.alloc o).alloc o').alloc (.cells #[.bool s, .slice A n c, .int .i64 e] 28)) (w.heap.size + 2) s A n c e := by
  have := Box.new ((w.alloc o).alloc o') s A n c e
  simpa using this

/- how such functions end -/
theorem panic_put {P : Program} {fn : Func} {R : Ending → World → Prop} {c : List PanicEntry} {a : Act} {d : Option Tmp} {v : Value} {w : World} (h : bodyPost P fn R (.panic c) (a.put d v) w) : bodyPost P fn R (.panic c) a w := by
  cases d <;> exact h
def Faults (k : Int) (w : World) (en : Ending) (w' : World) : Prop := en = .panicked [{ v := .iface 94 (.int .i64 k), recovered := false }] ∧ Below w.heap.size w w'
def Goods (s : Bool) (m : Nat) (e : Int) (w : World) (en : Ending) (w' : World) : Prop := ∃ A1 n1 c1, en = .returned (.agg #[.bool s, .slice A1 n1 c1, .int .i64 e]) ∧ Nt w' A1 n1 c1 m ∧ Below w.heap.size w w'
def Ints (t : Int) (w : World) (en : Ending) (w' : World) : Prop := en = .returned (.int .i64 t) ∧ Below w.heap.size w w'
end Go.Proofs.YtkpcmgfpmekkjaaDoor

namespace Go.Proofs.YtkpcmgfpmekkjaaDoor
open Go.RowKit

def PanQ (Q : Exit → Act → World → Prop) : Prop := ∀ c a d v w, Q (.panic c) (a.put d v) w → Q (.panic c) a w
theorem pan_body {P : Program} {fn : Func} {R : Ending → World → Prop} : PanQ (bodyPost P fn R) := fun _ _ _ _ _ h => panic_put (P := P) (fn := fn) (R := R) h
theorem pan_then {Q : Exit → Act → World → Prop} {K : Act → World → Prop} (h : PanQ Q) : PanQ (Exit.then K Q) := fun c a d v w x => h c a d v w x
theorem pan_goto {Q : Exit → Act → World → Prop} (h : PanQ Q) : PanQ (Exit.noGoto Q) := fun c a d v w x => h c a d v w x
theorem pan_block {Q : Exit → Act → World → Prop} {k : Nat} (h : PanQ Q) : PanQ (Exit.inBlock k Q) := fun c a d v w x => h c a d v w x
theorem tk {P : Program} {Q : Exit → Act → World → Prop} {ops : Array Oper} {S : World → Prop} {md : Region.Mode} {oi : Oper} {v : Value} {fuel : Nat} {listed : Array Bool} {a : Act} {w : World} (i d : Nat)
    (h : wpAnyH P md ops Q S fuel (listed.setIfInBounds i true) (a.put (some d) v) w) (hi : ops[i]? = some oi := by rfl)
    (hs : Region.noSelect ops = true := by kernel_rfl) (hf : Region.free md ops listed i = true := by kernel_rfl) (hr : (Region.ready md ops listed).contains i = true := by kernel_rfl) (hQ : PanQ Q := by repeat first | with_reducible exact pan_body | with_reducible apply pan_then | with_reducible apply pan_block | with_reducible apply pan_goto)
    (hd : oi.dst = some d := by rfl) (hy : YieldsIf P ops S oi v a := by exact Or.inl ⟨by rfl, by (intro w hSw; (try dsimp only at hSw); go_simp); try with_reducible rfl⟩) (hS : S w := by assumption) : wpAnyH P md ops Q S (fuel + 1) listed a w :=
  wpAnyH_take hi hs hf hr (fun c a w h => hQ c a oi.dst v w h) hy hS (by rw [hd]; exact h)
theorem td {P : Program} {Q : Exit → Act → World → Prop} {ops : Array Oper} {S : World → Prop} {md : Region.Mode} {oi : Oper} {v : Value} {fuel : Nat} {listed : Array Bool} {a : Act} {w : World} (i : Nat)
    (h : wpAnyH P md ops Q S fuel (listed.setIfInBounds i true) (a.put oi.dst v) w) (hi : ops[i]? = some oi := by rfl)
    (hs : Region.noSelect ops = true := by kernel_rfl) (hf : Region.free md ops listed i = true := by kernel_rfl) (hr : (Region.ready md ops listed).contains i = true := by kernel_rfl) (hQ : PanQ Q := by repeat first | with_reducible exact pan_body | with_reducible apply pan_then | with_reducible apply pan_block | with_reducible apply pan_goto)
    (hy : YieldsIf P ops S oi v a := by exact Or.inl ⟨by rfl, by (intro w hSw; (try dsimp only at hSw); go_simp); try with_reducible rfl⟩) (hS : S w := by assumption) : wpAnyH P md ops Q S (fuel + 1) listed a w :=
  wpAnyH_take hi hs hf hr (fun c a w h => hQ c a oi.dst v w h) hy hS h
theorem far_big {m j : Nat} (hm : m ≠ 0) (h : m * 2 ^ j < W ^ 64) : j ≤ 4096 := by
  obtain ⟨k, hk⟩ : ∃ k, k = 64 * 64 := ⟨_, rfl⟩
  rw [W64_pow, ← hk] at h
  rcases Nat.lt_or_ge 4096 j with h5 | h5
  · exfalso
    have h2 : 2 ^ k ≤ 2 ^ j := Nat.pow_le_pow_right (by omega) (by omega)
    have h3 : 1 * 2 ^ j ≤ m * 2 ^ j := Nat.mul_le_mul_right _ (by omega)
    omega
  · exact h5
set_option maxRecDepth 100000 in
theorem top_any {w : World} {A : Option Addr} {n c m : Nat} {s : Bool} {e : Int} (h : Nt w A n c m) (he : -1048576 ≤ e) (he' : e ≤ 1048576) :
    Calls Tryd.prog 49 #[.agg #[.bool s, .slice A n c, .int .i64 e]] w fun e' w' => e' = .returned (.int .i64 ((blen m : Int) + e)) ∧ Below w.heap.size w w' := by
  have hB := below_alloc w (.cells #[.bool s, .slice A n c, .int .i64 e] 28)
  have h1 := h.below hB
  have hbl : blen m ≤ 4096 := by
    have := (blen_le m (64 * 64)).2 (Nat.lt_of_lt_of_eq h.lt W64_pow)
    omega
  have hs : IntKind.i64.wrap ((blen m : Int) + e) = (blen m : Int) + e := IntWalk.i64_in _ (by omega)
  have g := Box.new w s A n c e
  have c0 := g.c0
  have c1 := g.c1
  have c2 := g.c2
  go_enter Tryd.func49, Tryd.ntmps49
  go_wp2_with fail
  go_region_held3 (fun w' => w'.cell? ⟨w.heap.size, 0, none⟩ = some (.bool s) ∧ w'.cell? ⟨w.heap.size, 1, none⟩ = some (.slice A n c) ∧ w'.cell? ⟨w.heap.size, 2, none⟩ = some (.int .i64 e)) (go_keep)
    ((go_at_call 64; refine (len_nt (h1.heap (by rfl))).mono ?_; rintro e' w' ⟨rfl, rfl⟩))
  go_wp2
  go_ret
  exact ⟨rfl, below_drewN hB 1⟩

theorem over_ok {w : World} {A : Option Addr} {n c m j : Nat} {s : Bool} {e f : Int} (h : Nt w A n c m) (he : -1048576 ≤ e) (he' : e ≤ 1048576) (hf : -1048577 ≤ f) (hf' : f ≤ 1048577) (hj : e - f = (j : Int)) (hm : m ≠ 0) (hlt : m * 2 ^ j < W ^ 64) :
    Calls Tryd.prog 51 #[.agg #[.bool s, .slice A n c, .int .i64 e], .int .i64 f] w fun e' w' => ∃ A1 n1 c1, e' = .returned (.slice A1 n1 c1) ∧ Nt w' A1 n1 c1 (m * 2 ^ j) ∧ Below w.heap.size w w' := by
  have hB := below_alloc w (.cells #[.bool s, .slice A n c, .int .i64 e] 28)
  have h1 := h.below hB
  have hj4 : j ≤ 4096 := far_big hm hlt
  have HLT := Lib.hid hlt
  have HJ := Lib.hid hj
  clear hlt hj
  go_enter Tryd.func51, Tryd.ntmps51
  go_wp2_with fail
  rw [HJ.out]
  refine (shl_ok (s := j) h1 (by omega) HLT.out).mono ?_
  rintro e' w2 ⟨A2, n2, c2, rfl, h2, b⟩
  have HB := hB.trans (b.mono hB.size)
  go_wp2_with fail
  refine natural_ok.mono ?_
  rintro e' w' ⟨rfl, rfl⟩
  go_wp2
  go_ret
  exact ⟨_, _, _, rfl, h2, HB⟩
theorem over_big {w : World} {A : Option Addr} {n c m j : Nat} {s : Bool} {e f : Int} (h : Nt w A n c m) (he : -1048576 ≤ e) (he' : e ≤ 1048576) (hf : -1048577 ≤ f) (hf' : f ≤ 1048577) (hj : e - f = (j : Int)) (hm : m ≠ 0) (hlt : W ^ 64 ≤ m * 2 ^ j) :
    Calls Tryd.prog 51 #[.agg #[.bool s, .slice A n c, .int .i64 e], .int .i64 f] w fun e' w' => e' = .panicked [{ v := .iface 94 (.int .i64 2), recovered := false }] ∧ Below w.heap.size w w' := by
  have hB := below_alloc w (.cells #[.bool s, .slice A n c, .int .i64 e] 28)
  have h1 := h.below hB
  have HLT := Lib.hid hlt
  have HJ := Lib.hid hj
  have HM := Lib.hid hm
  clear hlt hj hm
  go_enter Tryd.func51, Tryd.ntmps51
  go_wp2_with fail
  rw [HJ.out]
  refine (shl_over (s := j) h1 HM.out HLT.out).mono ?_
  rintro e' w' ⟨rfl, rfl⟩
  go_wp2_with fail
  refine (natural_bad (k := 2) (by decide)).mono ?_
  rintro e' w' ⟨rfl, rfl⟩
  go_wp2
  exact ⟨rfl, rfl, hB⟩

end Go.Proofs.YtkpcmgfpmekkjaaDoor
