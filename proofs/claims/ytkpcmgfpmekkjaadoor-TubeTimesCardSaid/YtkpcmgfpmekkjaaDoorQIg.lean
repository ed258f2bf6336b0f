/-
  Contracts of fault's Told of an interval, and of ival's asked, at this translation. Condition: the slices read as limbs, the table of math/bits reads as its text lays it.
-/
import Derived.Test.YtkpcmgfpmekkjaaDoorQIe
namespace Go.Proofs.YtkpcmgfpmekkjaaDoor
open Go.RowKit


/-- an interval that lies in six cells -/
def IvAt (w : World) (g o : Nat) (x : Iv) : Prop := ∃ A1 n1 c1 A2 n2 c2, (w.cell? ⟨g, o, none⟩ = some (.bool x.lo.s) ∧ w.cell? ⟨g, o + 1, none⟩ = some (.slice A1 n1 c1) ∧ w.cell? ⟨g, o + 2, none⟩ = some (.int .i64 x.lo.e) ∧ w.cell? ⟨g, o + 3, none⟩ = some (.bool x.hi.s) ∧ w.cell? ⟨g, o + 4, none⟩ = some (.slice A2 n2 c2) ∧ w.cell? ⟨g, o + 5, none⟩ = some (.int .i64 x.hi.e)) ∧ Rd w .u64 Go.Proofs.YtkpcmgfpmekkjaaDoor.W A1 n1 c1 x.lo.l ∧ Rd w .u64 Go.Proofs.YtkpcmgfpmekkjaaDoor.W A2 n2 c2 x.hi.l
theorem IvAt.next {w X w2 : World} {g o : Nat} {x : Iv} (h : IvAt w g o x) (b : Below X.heap.size X w2) (e : X.heap = w.heap) : IvAt w2 g o x := by
  obtain ⟨A1, n1, c1, A2, n2, c2, ⟨h0, h1, h2, h3, h4, h5⟩, r1, r2⟩ := h
  have key : ∀ (p : Addr) (v : Value), w.cell? p = some v → w2.cell? p = some v := fun p v h => by
    have h1 : X.cell? p = some v := by rw [← h]; unfold World.cell?; rw [e]
    exact (b.cell (World.block_lt_of_cell? X _ h1)).trans h1
  exact ⟨A1, n1, c1, A2, n2, c2, ⟨key _ _ h0, key _ _ h1, key _ _ h2, key _ _ h3, key _ _ h4, key _ _ h5⟩, r1.next b e, r2.next b e⟩
instance {w w2 : World} {g o : Nat} {x : Iv} : Moves w w2 (IvAt w g o x) (IvAt w2 g o x) := ⟨fun _ b e h => h.next b e⟩
/-- the intervals that a slice holds -/
def Ivs (w : World) (g o k : Nat) (X : Nat → Iv) : Prop := ∀ i, i < k → IvAt w g (o + i * 6) (X i)
theorem Ivs.next {w Y w2 : World} {g o k : Nat} {X : Nat → Iv} (h : Ivs w g o k X) (b : Below Y.heap.size Y w2) (e : Y.heap = w.heap) : Ivs w2 g o k X := fun i hi => (h i hi).next b e
instance {w w2 : World} {g o k : Nat} {X : Nat → Iv} : Moves w w2 (Ivs w g o k X) (Ivs w2 g o k X) := ⟨fun _ b e h => h.next b e⟩
theorem ivs_one (w : World) {x : Iv} {A1 : Option Addr} {n1 c1 : Nat} {A2 : Option Addr} {n2 c2 : Nat} (h1 : Rd w .u64 Go.Proofs.YtkpcmgfpmekkjaaDoor.W A1 n1 c1 x.lo.l) (h2 : Rd w .u64 Go.Proofs.YtkpcmgfpmekkjaaDoor.W A2 n2 c2 x.hi.l) : Ivs (w.alloc (.cells #[.bool x.lo.s, .slice A1 n1 c1, .int .i64 x.lo.e, .bool x.hi.s, .slice A2 n2 c2, .int .i64 x.hi.e] 35)) w.heap.size 0 1 (fun _ => x) := by
  have b := below_alloc w (.cells #[.bool x.lo.s, .slice A1 n1 c1, .int .i64 x.lo.e, .bool x.hi.s, .slice A2 n2 c2, .int .i64 x.hi.e] 35)
  intro i hi
  obtain rfl : i = 0 := by omega
  exact ⟨A1, n1, c1, A2, n2, c2, (Ibx.new w x.lo.s A1 n1 c1 x.lo.e x.hi.s A2 n2 c2 x.hi.e).held, h1.next b rfl, h2.next b rfl⟩
theorem ivs_two (w : World) {x y : Iv} {A1 : Option Addr} {n1 c1 : Nat} {A2 : Option Addr} {n2 c2 : Nat} {A3 : Option Addr} {n3 c3 : Nat} {A4 : Option Addr} {n4 c4 : Nat} (h1 : Rd w .u64 Go.Proofs.YtkpcmgfpmekkjaaDoor.W A1 n1 c1 x.lo.l) (h2 : Rd w .u64 Go.Proofs.YtkpcmgfpmekkjaaDoor.W A2 n2 c2 x.hi.l) (h3 : Rd w .u64 Go.Proofs.YtkpcmgfpmekkjaaDoor.W A3 n3 c3 y.lo.l) (h4 : Rd w .u64 Go.Proofs.YtkpcmgfpmekkjaaDoor.W A4 n4 c4 y.hi.l) : Ivs (w.alloc (.cells #[.bool x.lo.s, .slice A1 n1 c1, .int .i64 x.lo.e, .bool x.hi.s, .slice A2 n2 c2, .int .i64 x.hi.e, .bool y.lo.s, .slice A3 n3 c3, .int .i64 y.lo.e, .bool y.hi.s, .slice A4 n4 c4, .int .i64 y.hi.e] 35)) w.heap.size 0 2 (fun i => if i = 0 then x else y) := by
  have b := below_alloc w (.cells #[.bool x.lo.s, .slice A1 n1 c1, .int .i64 x.lo.e, .bool x.hi.s, .slice A2 n2 c2, .int .i64 x.hi.e, .bool y.lo.s, .slice A3 n3 c3, .int .i64 y.lo.e, .bool y.hi.s, .slice A4 n4 c4, .int .i64 y.hi.e] 35)
  intro i hi
  rcases (show i = 0 ∨ i = 1 by omega) with rfl | rfl
  · exact ⟨A1, n1, c1, A2, n2, c2, ⟨new_cell w _ _ 0, new_cell w _ _ 1, new_cell w _ _ 2, new_cell w _ _ 3, new_cell w _ _ 4, new_cell w _ _ 5⟩, h1.next b rfl, h2.next b rfl⟩
  · exact ⟨A3, n3, c3, A4, n4, c4, ⟨new_cell w _ _ 6, new_cell w _ _ 7, new_cell w _ _ 8, new_cell w _ _ 9, new_cell w _ _ 10, new_cell w _ _ 11⟩, h3.next b rfl, h4.next b rfl⟩

set_option maxRecDepth 100000 in
set_option maxHeartbeats 8000000 in
theorem icheck_all {w : World} {K g k : Nat} {X : Nat → Iv} (hK : 4194304 ≤ K) (hT : Tab w) (h : Ivs w g 0 k X) (hk : k ≤ 1000) (hd : ∀ i, i < k → mayI K (X i) = true) :
    Calls Tryd.prog 59 #[.slice (some ⟨g, 0, none⟩) k k] w fun en w' => en = .returned (.tuple #[]) ∧ Below w.heap.size w w' := by
  have HD := Lib.hid hd
  clear hd
  go_enter Tryd.func59, Tryd.ntmps59
  go_wp2
  go_loopg [6] k (fun q v wr => ∃ i : Nat, i + q = k ∧ v = .int .i64 i ∧ Below w.heap.size w wr)
  case atStart => exact ⟨0, by omega, rfl, Below.refl _ _⟩
  case round =>
    obtain ⟨i, hg, rfl, hb⟩ := hrel
    have HG := Lib.hid hg
    clear hg
    by_cases hi : i < k
    · obtain ⟨A1, n1, c1, A2, n2, c2, ⟨r0, r1, r2, r3, r4, r5⟩, q1, q2⟩ := (h.next hb rfl) i hi
      have hT1 := hT.next hb rfl
      have HM := Lib.hid (HD.out i hi)
      generalize X i = x at *
      have z6 : 0 + i * 6 = i * 6 := by omega
      rw [z6] at r0 r1 r2 r3 r4 r5
      clear z6
      have hp2 : (i : Int) < k := by omega
      have hp3 : (0 : Int) ≤ i := by omega
      have b1 := below_alloc wr (.cells #[.bool x.lo.s, .slice A1 n1 c1, .int .i64 x.lo.e, .bool x.hi.s, .slice A2 n2 c2, .int .i64 x.hi.e] 35)
      obtain ⟨z0, z1, z2, z3, z4, z5⟩ := (Ibx.new wr x.lo.s A1 n1 c1 x.lo.e x.hi.s A2 n2 c2 x.hi.e).held
      replace q1 := q1.next b1 rfl
      replace q2 := q2.next b1 rfl
      replace hT1 := hT1.next b1 rfl
      clear HD
      go_wp2_with fail
      refine (imay_any (K := K) (x := x) hK hT1 q1 q2).mono ?_
      rintro en w2 ⟨rfl, b⟩
      rw [HM.out]
      have hb2 := below_next (below_next hb hb.size b1 rfl rfl rfl rfl) (by have := hb.size; have := b1.size; omega) b rfl rfl rfl rfl
      clear b r0 r1 r2 r3 r4 r5 z0 z1 z2 z3 z4 z5 q1 q2 hT1 b1 HM
      go_wp2
      go_roundg (gk - 1)
      case measure => have := HG.out; omega
      case rel => exact ⟨i + 1, by have := HG.out; omega, by go_num, hb2⟩
    · have : i = k := by have := HG.out; omega
      subst this
      go_wp2
      simp [bodyPost, results, Tryd.results59, hb]

set_option maxRecDepth 100000 in
set_option maxHeartbeats 8000000 in
theorem icheck_some {w : World} {K g k : Nat} {X : Nat → Iv} (hK : 4194304 ≤ K) (hT : Tab w) (h : Ivs w g 0 k X) (hk : k ≤ 1000) {j : Nat} (hj : j < k) (hd : ∀ i, i < j → mayI K (X i) = true) (hd' : mayI K (X j) = false) :
    Calls Tryd.prog 59 #[.slice (some ⟨g, 0, none⟩) k k] w (Faults 1 w) := by
  have HD := Lib.hid hd
  clear hd
  have HD' := Lib.hid hd'
  clear hd'
  go_enter Tryd.func59, Tryd.ntmps59
  go_wp2
  go_loopg [6] k (fun q v wr => ∃ i : Nat, i + q = k ∧ i ≤ j ∧ v = .int .i64 i ∧ Below w.heap.size w wr)
  case atStart => exact ⟨0, by omega, by omega, rfl, Below.refl _ _⟩
  case round =>
    obtain ⟨i, hg, hij, rfl, hb⟩ := hrel
    have HG := Lib.hid (And.intro hg hij)
    clear hg hij
    have hi : i < k := by have := HG.out; omega
    by_cases hij : i < j
    · obtain ⟨A1, n1, c1, A2, n2, c2, ⟨r0, r1, r2, r3, r4, r5⟩, q1, q2⟩ := (h.next hb rfl) i hi
      have hT1 := hT.next hb rfl
      have HM := Lib.hid (HD.out i hij)
      generalize X i = x at *
      have z6 : 0 + i * 6 = i * 6 := by omega
      rw [z6] at r0 r1 r2 r3 r4 r5
      clear z6
      have hp2 : (i : Int) < k := by omega
      have hp3 : (0 : Int) ≤ i := by omega
      have b1 := below_alloc wr (.cells #[.bool x.lo.s, .slice A1 n1 c1, .int .i64 x.lo.e, .bool x.hi.s, .slice A2 n2 c2, .int .i64 x.hi.e] 35)
      obtain ⟨z0, z1, z2, z3, z4, z5⟩ := (Ibx.new wr x.lo.s A1 n1 c1 x.lo.e x.hi.s A2 n2 c2 x.hi.e).held
      replace q1 := q1.next b1 rfl
      replace q2 := q2.next b1 rfl
      replace hT1 := hT1.next b1 rfl
      clear HD HD'
      go_wp2_with fail
      refine (imay_any (K := K) (x := x) hK hT1 q1 q2).mono ?_
      rintro en w2 ⟨rfl, b⟩
      rw [HM.out]
      have hb2 := below_next (below_next hb hb.size b1 rfl rfl rfl rfl) (by have := hb.size; have := b1.size; omega) b rfl rfl rfl rfl
      clear b r0 r1 r2 r3 r4 r5 z0 z1 z2 z3 z4 z5 q1 q2 hT1 b1 HM
      go_wp2
      go_roundg (gk - 1)
      case measure => have := HG.out; omega
      case rel => exact ⟨i + 1, by have := HG.out; omega, by have := HG.out; omega, by go_num, hb2⟩
    · obtain rfl : i = j := by have := HG.out; omega
      obtain ⟨A1, n1, c1, A2, n2, c2, ⟨r0, r1, r2, r3, r4, r5⟩, q1, q2⟩ := (h.next hb rfl) i hi
      have hT1 := hT.next hb rfl
      have HM := Lib.hid (HD'.out)
      generalize X i = x at *
      have z6 : 0 + i * 6 = i * 6 := by omega
      rw [z6] at r0 r1 r2 r3 r4 r5
      clear z6
      have hp2 : (i : Int) < k := by omega
      have hp3 : (0 : Int) ≤ i := by omega
      have b1 := below_alloc wr (.cells #[.bool x.lo.s, .slice A1 n1 c1, .int .i64 x.lo.e, .bool x.hi.s, .slice A2 n2 c2, .int .i64 x.hi.e] 35)
      obtain ⟨z0, z1, z2, z3, z4, z5⟩ := (Ibx.new wr x.lo.s A1 n1 c1 x.lo.e x.hi.s A2 n2 c2 x.hi.e).held
      replace q1 := q1.next b1 rfl
      replace q2 := q2.next b1 rfl
      replace hT1 := hT1.next b1 rfl
      clear HD HD'
      go_wp2_with fail
      refine (imay_any (K := K) (x := x) hK hT1 q1 q2).mono ?_
      rintro en w2 ⟨rfl, b⟩
      rw [HM.out]
      have hb2 := below_next (below_next hb hb.size b1 rfl rfl rfl rfl) (by have := hb.size; have := b1.size; omega) b rfl rfl rfl rfl
      clear b r0 r1 r2 r3 r4 r5 z0 z1 z2 z3 z4 z5 q1 q2 hT1 b1 HM
      go_wp2
      exact ⟨rfl, rfl, hb2⟩

theorem icheck_no {w : World} {K g k : Nat} {X : Nat → Iv} (hK : 4194304 ≤ K) (hT : Tab w) (h : Ivs w g 0 k X) (hk : k ≤ 1000) (hd : ¬ ∀ i, i < k → mayI K (X i) = true) :
    Calls Tryd.prog 59 #[.slice (some ⟨g, 0, none⟩) k k] w (Faults 1 w) := by
  have key : ∀ m, m ≤ k → (∀ i, i < m → mayI K (X i) = true) ∨ ∃ j, j < k ∧ (∀ i, i < j → mayI K (X i) = true) ∧ mayI K (X j) = false := by
    intro m
    induction m with
    | zero => exact fun _ => .inl fun i hi => absurd hi (by omega)
    | succ m ih =>
      intro hm
      rcases ih (by omega) with h1 | h1
      · cases q : mayI K (X m)
        · exact .inr ⟨m, by omega, h1, q⟩
        · refine .inl fun i hi => ?_
          rcases (show i < m ∨ i = m by omega) with h2 | rfl
          · exact h1 i h2
          · exact q
      · exact .inr h1
  rcases key k (Nat.le_refl k) with h1 | ⟨j, h1, h2, h3⟩
  · exact absurd h1 hd
  · exact icheck_some hK hT h hk h1 h2 h3

end Go.Proofs.YtkpcmgfpmekkjaaDoor

namespace Go.Proofs.YtkpcmgfpmekkjaaDoor
open Go.RowKit


set_option maxRecDepth 100000 in
theorem icatch_idle (q : Addr) (w : World) :
    CallsD Tryd.prog 90 #[.pointer (some q)] .returning w fun e u' w' => e = .returned (.tuple #[]) ∧ u' = .returning ∧ w' = w := by
  refine callsD_of_wpS Tryd.func90 rfl fun c₀ cs hu => ?_
  apply wpS_seq
  apply wpS_region
  simp [wpOpsS, go_sem, recoverD, hu, Tryd.ntmps90, Exit.thenS]
  refine wpS_of_wp ?_
  go_wp2
  cases c₀
  simp_all [bodyPostS, results, Tryd.results90]

set_option maxRecDepth 100000 in
set_option maxHeartbeats 1000000 in
theorem icatch_fault {q : Nat} {x k : Int} {older : List PanicEntry} {w : World} (hc : Cel w q x) :
    CallsD Tryd.prog 90 #[.pointer (some ⟨q, 0, none⟩)] (.panicking ({ v := .iface 94 (.int .i64 k), recovered := false } :: older)) w fun e u' w' =>
      e = .returned (.tuple #[]) ∧ u' = .panicking ({ v := .iface 94 (.int .i64 k), recovered := true } :: older) ∧
      w' = w.setCell ⟨q, 0, none⟩ (.int .i64 k) := by
  have d0 := hc.c0
  have d1 := hc.frozen 0
  have hta : ∀ w : World, (Instr.typeAssert (Value.iface 94 (.int .i64 k)) 20 94 true).run Tryd.prog w = .ok (.tuple #[.int .i64 k, .bool true]) w := fault_is k
  refine callsD_of_wpS Tryd.func90 rfl fun c₀ cs hu => ?_
  apply wpS_seq
  apply wpS_region
  simp [wpOpsS, go_sem, recoverD, hu, Tryd.ntmps90, Exit.thenS]
  refine wpS_of_wp ?_
  go_wp2
  clear d0 d1 hta
  simp [bodyPostS, results, Tryd.results90]


set_option maxRecDepth 100000 in
set_option maxHeartbeats 8000000 in
theorem itold_ok {f : FuncId} {cap : Array Value} {w : World} {x : Iv} (hf : ∀ W2 : World, (callFunc f cap).run Tryd.prog W2 = .ok (.enter f cap) W2) (hc : ∀ W2 : World, Below w.heap.size w W2 → Calls Tryd.prog f cap W2 (GivI x W2)) :
    Calls Tryd.prog 80 #[.func (Fn.func f) #[] cap] w (TellI 0 x w) := by
  have hmf : ∀ (fn : Fn) (first cap : Array Value) (w : World), (Instr.makeFunc fn first cap).run Tryd.prog w = .ok (.func fn first cap) w := fun _ _ _ _ => rfl
  have HC := Lib.hid hc
  clear hc
  have hB : Below w.heap.size w ((w.alloc (.cells #[.bool false, .slice none 0 0, .int .i64 0, .bool false, .slice none 0 0, .int .i64 0] 35)).alloc (.cells #[.int .i64 0] 3)) := (below_alloc w _).trans ((below_alloc _ _).mono (by simp))
  have hbox := (Ibx.new w false none 0 0 0 false none 0 0 0).alloc (.cells #[.int .i64 0] 3)
  have hcel := Cel.new1 w (.cells #[.bool false, .slice none 0 0, .int .i64 0, .bool false, .slice none 0 0, .int .i64 0] 35) 0
  go_enter_defers Tryd.func80, Tryd.ntmps80
  go_wp2_with fail
  refine (HC.out _ hB).mono ?_
  rintro e w' ⟨A, n, c, B, m, d, rfl, hN, hM, hb⟩
  have h1 := hbox.below hb hbox.gl
  have h2 := hcel.below hb hcel.gl
  have HB := hB.trans (hb.mono hB.size)
  obtain ⟨k0, k1, k2, k3, k4, k5⟩ := h1.held
  obtain ⟨f0, f1, f2, f3, f4, f5⟩ := h1.open
  have d0 := h2.c0
  have d1 := h2.frozen 0
  go_wp2
  have p1 := h1.put x.lo.s A n c x.lo.e x.hi.s B m d x.hi.e
  have q1 := p1.other (g' := w.heap.size + 1) (by omega) 0 (.int .i64 0)
  have HB3 := (below_put6 HB (Nat.le_refl _) (.bool x.lo.s) (.slice A n c) (.int .i64 x.lo.e) (.bool x.hi.s) (.slice B m d) (.int .i64 x.hi.e)).setCell (p := ⟨w.heap.size + 1, 0, none⟩) (by simp) (.int .i64 0)
  have q2 := (((((h2.other (g' := w.heap.size) (by omega) 0 (.bool x.lo.s)).other (g' := w.heap.size) (by omega) 1 (.slice A n c)).other (g' := w.heap.size) (by omega) 2 (.int .i64 x.lo.e)).other (g' := w.heap.size) (by omega) 3 (.bool x.hi.s)).other (g' := w.heap.size) (by omega) 4 (.slice B m d)).other (g' := w.heap.size) (by omega) 5 (.int .i64 x.hi.e)
  have hN3 := (hN.put6 h1 (.bool x.lo.s) (.slice A n c) (.int .i64 x.lo.e) (.bool x.hi.s) (.slice B m d) (.int .i64 x.hi.e)).put1 q2 (.int .i64 0)
  have hM3 := (hM.put6 h1 (.bool x.lo.s) (.slice A n c) (.int .i64 x.lo.e) (.bool x.hi.s) (.slice B m d) (.int .i64 x.hi.e)).put1 q2 (.int .i64 0)
  have q3 := q2.put 0
  clear k0 k1 k2 k3 k4 k5 d0 HB hbox hcel hB hb hmf hf HC f0 f1 f2 f3 f4 f5 d1 h1 h2 p1 q2 hN hM
  generalize ((((((w'.setCell ⟨w.heap.size, 0, none⟩ (.bool x.lo.s)).setCell ⟨w.heap.size, 1, none⟩ (.slice A n c)).setCell ⟨w.heap.size, 2, none⟩ (.int .i64 x.lo.e)).setCell ⟨w.heap.size, 3, none⟩ (.bool x.hi.s)).setCell ⟨w.heap.size, 4, none⟩ (.slice B m d)).setCell ⟨w.heap.size, 5, none⟩ (.int .i64 x.hi.e)).setCell ⟨w.heap.size + 1, 0, none⟩ (.int .i64 0) = w3 at *
  obtain ⟨k0, k1, k2, k3, k4, k5⟩ := q1.held
  have d0 := q3.c0
  refine leaves_cons (f := 90) (args := #[.pointer (some ⟨w.heap.size + 1, 0, none⟩)]) (by simp) (by simp [go_sem]) ?_
  refine (icatch_idle ⟨w.heap.size + 1, 0, none⟩ _).mono ?_
  rintro e u' w'' ⟨rfl, rfl, rfl⟩
  simp [Leaves, settle, results, Tryd.results80, go_sem, k0, k1, k2, k3, k4, k5, d0]
  exact ⟨A, n, c, B, m, d, rfl, hN3, hM3, HB3⟩

set_option maxRecDepth 100000 in
set_option maxHeartbeats 8000000 in
theorem itold_no {k : Int} {f : FuncId} {cap : Array Value} {w : World} (hf : ∀ W2 : World, (callFunc f cap).run Tryd.prog W2 = .ok (.enter f cap) W2) (hc : ∀ W2 : World, Below w.heap.size w W2 → Calls Tryd.prog f cap W2 (Faults k W2)) :
    Calls Tryd.prog 80 #[.func (Fn.func f) #[] cap] w (TellI k Iv.zero w) := by
  have hmf : ∀ (fn : Fn) (first cap : Array Value) (w : World), (Instr.makeFunc fn first cap).run Tryd.prog w = .ok (.func fn first cap) w := fun _ _ _ _ => rfl
  have HC := Lib.hid hc
  clear hc
  have hB : Below w.heap.size w ((w.alloc (.cells #[.bool false, .slice none 0 0, .int .i64 0, .bool false, .slice none 0 0, .int .i64 0] 35)).alloc (.cells #[.int .i64 0] 3)) := (below_alloc w _).trans ((below_alloc _ _).mono (by simp))
  have hbox := (Ibx.new w false none 0 0 0 false none 0 0 0).alloc (.cells #[.int .i64 0] 3)
  have hcel := Cel.new1 w (.cells #[.bool false, .slice none 0 0, .int .i64 0, .bool false, .slice none 0 0, .int .i64 0] 35) 0
  go_enter_defers Tryd.func80, Tryd.ntmps80
  go_wp2_with fail
  refine (HC.out _ hB).mono ?_
  rintro e w' ⟨rfl, hb⟩
  have h1 := hbox.below hb hbox.gl
  have h2 := hcel.below hb hcel.gl
  have HB := hB.trans (hb.mono hB.size)
  go_wp2
  have q1 := h1.other (g' := w.heap.size + 1) (by omega) 0 (.int .i64 k)
  have HB3 := HB.setCell (p := ⟨w.heap.size + 1, 0, none⟩) (by simp) (.int .i64 k)
  have q3 := h2.put k
  obtain ⟨k0, k1, k2, k3, k4, k5⟩ := q1.held
  have d0 := q3.c0
  clear HB hbox hcel hB hb hmf hf HC q1 q3 h1
  refine leaves_cons (f := 90) (args := #[.pointer (some ⟨w.heap.size + 1, 0, none⟩)]) (by simp) (by simp [go_sem]) ?_
  refine (icatch_fault (k := k) (older := []) h2).mono ?_
  rintro e u' w'' ⟨rfl, rfl, rfl⟩
  clear h2
  generalize w'.setCell ⟨w.heap.size + 1, 0, none⟩ (.int .i64 k) = w3 at *
  simp [Leaves, settle, results, Tryd.results80, go_sem, k0, k1, k2, k3, k4, k5, d0]
  exact ⟨none, 0, 0, none, 0, 0, rfl, Rd.nil _ _ _ _ (by omega), Rd.nil _ _ _ _ (by omega), HB3⟩

set_option maxRecDepth 100000 in
set_option maxHeartbeats 8000000 in
theorem asked1_ok {x : Iv} {w : World} {K g k g1 g2 : Nat} {X : Nat → Iv} {f : FuncId} {cap : Array Value} (hK : 4194304 ≤ K) (hT : Tab w) (h : Ivs w g 0 k X) (hk : k ≤ 1000) (q1 : w.cell? ⟨g1, 0, none⟩ = some (.slice (some ⟨g, 0, none⟩) k k)) (q2 : w.cell? ⟨g2, 0, none⟩ = some (.func (Fn.func f) #[] cap)) (hd : ∀ i, i < k → mayI K (X i) = true) (hc : ∀ W2 : World, Below w.heap.size w W2 → Calls Tryd.prog 46 #[.func (Fn.func f) #[] cap] W2 (GivI x W2)) :
    Calls Tryd.prog 81 #[.pointer (some ⟨g1, 0, none⟩), .pointer (some ⟨g2, 0, none⟩)] w (GivI x w) := by
  have BB := below_alloc w (.cells #[.bool false, .slice none 0 0, .int .i64 0, .bool false, .slice none 0 0, .int .i64 0] 35)
  have G := mv BB rfl (J4 hT h q1 q2)
  clear hT h q1 q2
  obtain ⟨hT, h, q1, q2⟩ := G
  have r := Ibx.new w false none 0 0 0 false none 0 0 0
  have HC := Lib.hid hc
  clear hc
  go_enter Tryd.func81, Tryd.ntmps81
  go_wp2_with fail
  refine (icheck_all hK hT h hk hd).mono ?_
  rintro en w1 ⟨rfl, b⟩
  clear h hT
  replace BB := bnx BB b rfl rfl rfl rfl
  have G := mv b rfl (J3 q1 q2 r)
  clear b q1 q2 r
  obtain ⟨q1, q2, r⟩ := G
  go_wp2_with fail
  refine (HC.out _ BB).mono ?_
  rintro en w2 ⟨A1, n1, c1, A2, n2, c2, rfl, h1, h2, b⟩
  replace BB := bnx BB b rfl rfl rfl rfl
  have G := mv b rfl (J3 q1 q2 r)
  clear b q1 q2 r
  obtain ⟨q1, q2, r⟩ := G
  obtain ⟨f0, f1, f2, f3, f4, f5⟩ := r.open
  obtain ⟨z0, z1, z2, z3, z4, z5⟩ := r.held
  go_wp2
  have qq := r.put x.lo.s A1 n1 c1 x.lo.e x.hi.s A2 n2 c2 x.hi.e
  have hN := h1.put6 r (.bool x.lo.s) (.slice A1 n1 c1) (.int .i64 x.lo.e) (.bool x.hi.s) (.slice A2 n2 c2) (.int .i64 x.hi.e)
  have hM := h2.put6 r (.bool x.lo.s) (.slice A1 n1 c1) (.int .i64 x.lo.e) (.bool x.hi.s) (.slice A2 n2 c2) (.int .i64 x.hi.e)
  have HB3 := below_put6 (g := w.heap.size) BB (by omega) (.bool x.lo.s) (.slice A1 n1 c1) (.int .i64 x.lo.e) (.bool x.hi.s) (.slice A2 n2 c2) (.int .i64 x.hi.e)
  obtain ⟨z0, z1, z2, z3, z4, z5⟩ := qq.held
  exact bodyPost_ret (v := .agg #[.bool x.lo.s, .slice A1 n1 c1, .int .i64 x.lo.e, .bool x.hi.s, .slice A2 n2 c2, .int .i64 x.hi.e]) (by simp [results, Tryd.results81, go_sem, z0, z1, z2, z3, z4, z5]) rfl ⟨_, _, _, _, _, _, rfl, hN, hM, HB3⟩

set_option maxRecDepth 100000 in
set_option maxHeartbeats 8000000 in
theorem asked1_no {w : World} {K g k g1 g2 : Nat} {X : Nat → Iv} {f : FuncId} {cap : Array Value} (hK : 4194304 ≤ K) (hT : Tab w) (h : Ivs w g 0 k X) (hk : k ≤ 1000) (q1 : w.cell? ⟨g1, 0, none⟩ = some (.slice (some ⟨g, 0, none⟩) k k)) (q2 : w.cell? ⟨g2, 0, none⟩ = some (.func (Fn.func f) #[] cap)) (hd : ¬ ∀ i, i < k → mayI K (X i) = true) :
    Calls Tryd.prog 81 #[.pointer (some ⟨g1, 0, none⟩), .pointer (some ⟨g2, 0, none⟩)] w (Faults 1 w) := by
  have BB := below_alloc w (.cells #[.bool false, .slice none 0 0, .int .i64 0, .bool false, .slice none 0 0, .int .i64 0] 35)
  have G := mv BB rfl (J4 hT h q1 q2)
  clear hT h q1 q2
  obtain ⟨hT, h, q1, q2⟩ := G
  go_enter Tryd.func81, Tryd.ntmps81
  go_wp2_with fail
  refine (icheck_no hK hT h hk hd).mono ?_
  rintro en w1 ⟨rfl, b⟩
  replace BB := bnx BB b rfl rfl rfl rfl
  clear b
  go_wp2
  exact ⟨rfl, rfl, BB⟩

theorem new_cell1 (w : World) (o : Obj) (cs : Array Value) (t : TypeId) (i : Nat) : ((w.alloc o).alloc (.cells cs t)).cell? ⟨w.heap.size + 1, i, none⟩ = cs[i]? := by
  have e : (w.alloc o).heap.size = w.heap.size + 1 := by simp
  have h := new_cell (w.alloc o) cs t i
  rw [e] at h
  exact h
theorem ibx_two (w : World) (o o' : Obj) (s : Bool) (A : Option Addr) (n c : Nat) (e : Int) (t : Bool) (B : Option Addr) (m d : Nat) (f : Int) : Ibx (((w.alloc o).alloc o').alloc (.cells #[.bool s, .slice A n c, .int .i64 e, .bool t, .slice B m d, .int .i64 f] 35)) (w.heap.size + 2) s A n c e t B m d f := by
  have := Ibx.new ((w.alloc o).alloc o') s A n c e t B m d f
  simpa using this

set_option maxRecDepth 100000 in
set_option maxHeartbeats 8000000 in
theorem asked_ok {x : Iv} {w : World} {K g k : Nat} {X : Nat → Iv} {f : FuncId} {cap : Array Value} (hK : 4194304 ≤ K) (hT : Tab w) (h : Ivs w g 0 k X) (hk : k ≤ 1000) (hd : ∀ i, i < k → mayI K (X i) = true) (hc : ∀ W2 : World, Below w.heap.size w W2 → Calls Tryd.prog 46 #[.func (Fn.func f) #[] cap] W2 (GivI x W2)) :
    Calls Tryd.prog 68 #[.func (Fn.func f) #[] cap, .slice (some ⟨g, 0, none⟩) k k] w (TellI 0 x w) := by
  have BB := three_below w (.cells #[.func (Fn.func f) #[] cap] 71) (.cells #[.slice (some ⟨g, 0, none⟩) k k] 23) (.cells #[.bool false, .slice none 0 0, .int .i64 0, .bool false, .slice none 0 0, .int .i64 0] 35)
  have hmf := make_func
  have q2 : (((w.alloc (.cells #[.func (Fn.func f) #[] cap] 71)).alloc (.cells #[.slice (some ⟨g, 0, none⟩) k k] 23)).alloc (.cells #[.bool false, .slice none 0 0, .int .i64 0, .bool false, .slice none 0 0, .int .i64 0] 35)).cell? ⟨w.heap.size, 0, none⟩ = some (.func (Fn.func f) #[] cap) := Lib.cell?_alloc_some _ (Lib.cell?_alloc_some _ (new_cell w _ _ 0))
  have q1 : (((w.alloc (.cells #[.func (Fn.func f) #[] cap] 71)).alloc (.cells #[.slice (some ⟨g, 0, none⟩) k k] 23)).alloc (.cells #[.bool false, .slice none 0 0, .int .i64 0, .bool false, .slice none 0 0, .int .i64 0] 35)).cell? ⟨w.heap.size + 1, 0, none⟩ = some (.slice (some ⟨g, 0, none⟩) k k) := Lib.cell?_alloc_some _ (new_cell1 w _ _ _ 0)
  have r := ibx_two w (.cells #[.func (Fn.func f) #[] cap] 71) (.cells #[.slice (some ⟨g, 0, none⟩) k k] 23) false none 0 0 0 false none 0 0 0
  have G := mv BB rfl <| And.intro hT <| h
  clear hT h
  obtain ⟨hT, h⟩ := G
  have HC := Lib.hid hc
  clear hc
  go_enter Tryd.func68, Tryd.ntmps68
  go_wp2_with fail
  refine (itold_ok (x := x) (fun _ => by kernel_rfl) (fun W2 b2 => asked1_ok hK (mv b2 rfl hT) (mv b2 rfl h) hk (mv b2 rfl q1) (mv b2 rfl q2) hd (fun W3 b3 => HC.out _ ((BB.trans (b2.mono BB.size)).trans (b3.mono (Nat.le_trans BB.size b2.size)))))).mono ?_
  rintro en w1 ⟨A1, n1, c1, A2, n2, c2, rfl, h1, h2, b⟩
  clear hT h q1 q2
  replace BB := bnx BB b rfl rfl rfl rfl
  replace r := mv b rfl r
  clear b
  obtain ⟨f0, f1, f2, f3, f4, f5⟩ := r.open
  obtain ⟨z0, z1, z2, z3, z4, z5⟩ := r.held
  go_wp2
  have qq := r.put x.lo.s A1 n1 c1 x.lo.e x.hi.s A2 n2 c2 x.hi.e
  have hN := h1.put6 r (.bool x.lo.s) (.slice A1 n1 c1) (.int .i64 x.lo.e) (.bool x.hi.s) (.slice A2 n2 c2) (.int .i64 x.hi.e)
  have hM := h2.put6 r (.bool x.lo.s) (.slice A1 n1 c1) (.int .i64 x.lo.e) (.bool x.hi.s) (.slice A2 n2 c2) (.int .i64 x.hi.e)
  have HB3 := below_put6 (g := w.heap.size + 2) BB (by omega) (.bool x.lo.s) (.slice A1 n1 c1) (.int .i64 x.lo.e) (.bool x.hi.s) (.slice A2 n2 c2) (.int .i64 x.hi.e)
  obtain ⟨z0, z1, z2, z3, z4, z5⟩ := qq.held
  exact bodyPost_ret (v := .tuple #[.agg #[.bool x.lo.s, .slice A1 n1 c1, .int .i64 x.lo.e, .bool x.hi.s, .slice A2 n2 c2, .int .i64 x.hi.e], .int .i64 0]) (by simp [results, Tryd.results68, go_sem, z0, z1, z2, z3, z4, z5]) rfl ⟨_, _, _, _, _, _, rfl, hN, hM, HB3⟩

set_option maxRecDepth 100000 in
set_option maxHeartbeats 8000000 in
theorem asked_no {w : World} {K g k : Nat} {X : Nat → Iv} {f : FuncId} {cap : Array Value} (hK : 4194304 ≤ K) (hT : Tab w) (h : Ivs w g 0 k X) (hk : k ≤ 1000) (hd : ¬ ∀ i, i < k → mayI K (X i) = true) :
    Calls Tryd.prog 68 #[.func (Fn.func f) #[] cap, .slice (some ⟨g, 0, none⟩) k k] w (TellI 1 Iv.zero w) := by
  have BB := three_below w (.cells #[.func (Fn.func f) #[] cap] 71) (.cells #[.slice (some ⟨g, 0, none⟩) k k] 23) (.cells #[.bool false, .slice none 0 0, .int .i64 0, .bool false, .slice none 0 0, .int .i64 0] 35)
  have hmf := make_func
  have q2 : (((w.alloc (.cells #[.func (Fn.func f) #[] cap] 71)).alloc (.cells #[.slice (some ⟨g, 0, none⟩) k k] 23)).alloc (.cells #[.bool false, .slice none 0 0, .int .i64 0, .bool false, .slice none 0 0, .int .i64 0] 35)).cell? ⟨w.heap.size, 0, none⟩ = some (.func (Fn.func f) #[] cap) := Lib.cell?_alloc_some _ (Lib.cell?_alloc_some _ (new_cell w _ _ 0))
  have q1 : (((w.alloc (.cells #[.func (Fn.func f) #[] cap] 71)).alloc (.cells #[.slice (some ⟨g, 0, none⟩) k k] 23)).alloc (.cells #[.bool false, .slice none 0 0, .int .i64 0, .bool false, .slice none 0 0, .int .i64 0] 35)).cell? ⟨w.heap.size + 1, 0, none⟩ = some (.slice (some ⟨g, 0, none⟩) k k) := Lib.cell?_alloc_some _ (new_cell1 w _ _ _ 0)
  have r := ibx_two w (.cells #[.func (Fn.func f) #[] cap] 71) (.cells #[.slice (some ⟨g, 0, none⟩) k k] 23) false none 0 0 0 false none 0 0 0
  have G := mv BB rfl <| And.intro hT <| h
  clear hT h
  obtain ⟨hT, h⟩ := G
  go_enter Tryd.func68, Tryd.ntmps68
  obtain ⟨x, hx⟩ : ∃ x, x = Iv.zero := ⟨_, rfl⟩
  rw [← hx]
  have HX := Lib.hid hx
  clear hx
  go_wp2_with fail
  refine (itold_no (k := 1) (fun _ => by kernel_rfl) (fun W2 b2 => asked1_no hK (mv b2 rfl hT) (mv b2 rfl h) hk (mv b2 rfl q1) (mv b2 rfl q2) hd)).mono ?_
  rw [← HX.out]
  rintro en w1 ⟨A1, n1, c1, A2, n2, c2, rfl, h1, h2, b⟩
  clear hT h q1 q2
  replace BB := bnx BB b rfl rfl rfl rfl
  replace r := mv b rfl r
  clear b
  obtain ⟨f0, f1, f2, f3, f4, f5⟩ := r.open
  obtain ⟨z0, z1, z2, z3, z4, z5⟩ := r.held
  go_wp2
  have qq := r.put x.lo.s A1 n1 c1 x.lo.e x.hi.s A2 n2 c2 x.hi.e
  have hN := h1.put6 r (.bool x.lo.s) (.slice A1 n1 c1) (.int .i64 x.lo.e) (.bool x.hi.s) (.slice A2 n2 c2) (.int .i64 x.hi.e)
  have hM := h2.put6 r (.bool x.lo.s) (.slice A1 n1 c1) (.int .i64 x.lo.e) (.bool x.hi.s) (.slice A2 n2 c2) (.int .i64 x.hi.e)
  have HB3 := below_put6 (g := w.heap.size + 2) BB (by omega) (.bool x.lo.s) (.slice A1 n1 c1) (.int .i64 x.lo.e) (.bool x.hi.s) (.slice A2 n2 c2) (.int .i64 x.hi.e)
  obtain ⟨z0, z1, z2, z3, z4, z5⟩ := qq.held
  exact bodyPost_ret (v := .tuple #[.agg #[.bool x.lo.s, .slice A1 n1 c1, .int .i64 x.lo.e, .bool x.hi.s, .slice A2 n2 c2, .int .i64 x.hi.e], .int .i64 1]) (by simp [results, Tryd.results68, go_sem, z0, z1, z2, z3, z4, z5]) rfl ⟨_, _, _, _, _, _, rfl, hN, hM, HB3⟩

end Go.Proofs.YtkpcmgfpmekkjaaDoor
