/-
 A range over a function that hands out f 0, f 1, .., f (N - 1), whose rounds keep what it reads: one law for the caller. No condition; nothing of the program is named here.
-/
import Derived.RangeFuncWrites
import Derived.Test.YtdhdebapjlcjdaaGreatDoorUMem
import Derived.RangeFuncBox
import Derived.RangeFuncLeaves
import Derived.Shelf.Abstract
import Derived.WalkKit
import Derived.OwnWalkIn
import Derived.TacticsInMore
import Derived.LoopNIn
import Derived.LoopIn
import Derived.Test.YtdhdebapjlcjdaaGreatDoorProg
namespace Go.Proofs.YtdhdebapjlcjdaaGreatDoor
open Go Go.RowKit

/-- what a function owes that is ranged over: N rounds, at f 0, f 1, ..; ahead of round k it finds what Cp k tells -/
def SeqAt {α : Type} (F : Fence) (n : Nat) (P : Program) (g : Nat) (lb : Array Value) (encs : α → Array Value) (f : Nat → α) (N : Nat) (Cp : Nat → World → Prop) : Prop :=
 ∀ (l : Nat) (J Jx : Nat → World → Prop) (W : World), (∀ k W1, J k W1 → Cp k W1) →
  (∀ k W1, J k W1 → k < N → YieldAt F (n - 1) P l (encs (f k)) W1 fun e W' => (e = .returned (.bool true) ∧ J (k + 1) W') ∨ (e = .returned (.bool false) ∧ Jx k W')) →
  J 0 W → CallsIn F n P g (#[.func (.yield l) #[] #[]] ++ lb) W fun e W' => (∃ v, e = .returned v) ∧ (J N W' ∨ ∃ k, k < N ∧ Jx k W')
/-- the loop's own two blocks lie as they lay -/
def Keeps2 (B : Nat) (W W' : World) : Prop := ∀ k, B ≤ k → k < B + 2 → W'.heap[k]? = W.heap[k]?
theorem Keeps2.refl (B : Nat) (W : World) : Keeps2 B W W := fun _ _ _ => rfl
theorem Keeps2.trans {B : Nat} {X Y Z : World} (h : Keeps2 B X Y) (h' : Keeps2 B Y Z) : Keeps2 B X Z := fun k h1 h2 => (h' k h1 h2).trans (h k h1 h2)
theorem Keeps2.below {B : Nat} {W W' : World} (h : Below (B + 2) W W') : Keeps2 B W W' := fun k _ h2 => h.block k h2
theorem Keeps2.setCell {B : Nat} (W : World) (a : Addr) (v : Value) (ha : a.block < B) : Keeps2 B W (W.setCell a v) := fun k h1 _ => Below.heap_setCell W a v k (by omega)
/-- how a round's body is left -/
def RoundEnds (B : Nat) (I : Nat → World → Prop) (Ix : Code → Nat → World → Prop) (k : Nat) (W : World) (e : Exit) (W' : World) : Prop := Keeps2 B W W' ∧ match e with
 | .normal => I (k + 1) W'
 | .ret => Ix .ret k W'
 | .exit id => Ix (.exit id) k W'
 | .goto t => Ix (.goto t) k W'
 | .panic _ => False
 | .outgrown => False

theorem wpIn_rangeAt {F : Fence} {n : Nat} {P : Program} {α : Type} {g : Operand} {ps : Array Tmp} {assign body : Code} {Q : Exit → Act → World → Prop} {a : Act} {w : World}
  (hro : F.round = none) (h1 : 1 ≤ n) {gf : Nat} {lb : Array Value} (hg : a.eval g = .func (.func gf) #[] lb) (hFg : F.fn gf) (eg : ∀ args w, (callFunc gf args).run P w = .ok (.enter gf args) w)
  {encs : α → Array Value} {f : Nat → α} {N : Nat} {Cp : Nat → World → Prop} (hseq : SeqAt F (n - 1) P gf lb encs f N Cp) (hps : ∀ k, (encs (f k)).size = ps.size)
  (I : Nat → World → Prop) (Ix : Code → Nat → World → Prop) (hI : OwnFrom w.heap.size I) (hIx : ∀ c, OwnFrom w.heap.size (Ix c)) (hC : ∀ k W, I k W → Cp k W) (h0 : I 0 w) (a₁ : Nat → Act)
  (hassign : ∀ (l k : Nat) (W : World) (K : Act → World → Prop), K (a₁ k) W → assign.wpIn (F.inRound l) (n - 1 - 1) P (Exit.then K (fun _ _ _ => False)) { tmps := (ps.zip (encs (f k))).foldl (fun t (p, v) => t.setIfInBounds p v) a.tmps, defers := [] } W)
  (hbody : ∀ (l k : Nat) (W : World), I k W → k < N → w.heap.size + 2 ≤ W.heap.size → body.wpIn (F.inRound l) (n - 1 - 1) P (fun e _ W' => RoundEnds w.heap.size I Ix k W e W') (a₁ k) W)
  (hdone : ∀ W : World, I N W → w.heap.size + 2 ≤ W.heap.size → W.heap[w.heap.size]? = some (.deferred (some [])) → Q .normal { a with defers := { target := .collected w.heap.size, args := #[] } :: a.defers } W)
  (hstop : ∀ (c : Code) (k : Nat) (W : World), k < N → Ix c k W → w.heap.size + 2 ≤ W.heap.size → W.heap[w.heap.size]? = some (.deferred (some [])) → c.wpIn F n P Q { a with defers := { target := .collected w.heap.size, args := #[] } :: a.defers } W) :
  (Code.rangeFunc g ps assign body).wpIn F n P Q a w := by
 refine wpIn_rangeFunc fun fn hfn => ?_
 rw [hro]
 -- the loop's record
 obtain ⟨L, hL⟩ : ∃ L : LoopState → Option Code → Loop, L = fun st pe => { state := st, pending := pe, fn, tmps := a.tmps, params := ps, assign, body, defers := w.heap.size } := ⟨_, rfl⟩
 have B2 := (Below.refl (w.alloc (.deferred (some []))).heap.size (w.alloc (.deferred (some [])))).alloc (Nat.le_refl _) (.loop (L .ready none))
 obtain ⟨V, hV⟩ : ∃ V, V = (w.alloc (.deferred (some []))).alloc (.loop (L .ready none)) := ⟨_, rfl⟩
 have sz : (w.alloc (.deferred (some []))).heap.size = w.heap.size + 1 := by simp
 have hrec : V.heap[w.heap.size + 1]? = some (.loop (L .ready none)) := by
  rw [hV, ← sz]
  exact World.alloc_heap_new _ _
 have hdef : V.heap[w.heap.size]? = some (.deferred (some [])) := by
  rw [hV]
  exact (B2.block _ (by omega)).trans (World.alloc_heap_new _ _)
 have hIV : I 0 V := by
  rw [hV]
  exact hI.alloc _ (hI.alloc _ h0)
 -- what is known between two rounds, and behind the last one
 let Z : Loop → World → Prop := fun r W => W.heap[w.heap.size + 1]? = some (.loop r) ∧ W.heap[w.heap.size]? = some (.deferred (some []))
 have upd : ∀ (r r' : Loop) (W : World), Z r W → Z r' (W.putObj (w.heap.size + 1) (.loop r')) := fun r r' W h =>
  ⟨World.putObj_heap_same (Array.getElem?_eq_some_iff.1 h.1).1, (World.putObj_heap_other (by omega)).trans h.2⟩
 have keep : ∀ (r : Loop) (A B : World), Z r A → Keeps2 w.heap.size A B → Z r B := fun r A B h hk => ⟨(hk _ (by omega) (by omega)).trans h.1, (hk _ (Nat.le_refl _) (by omega)).trans h.2⟩
 refine ⟨w.heap.size + 1, [{ target := .collected w.heap.size, args := #[] }], V, { target := .fn (.func gf) lb, args := #[.func (.yield (w.heap.size + 1)) #[] #[]] }, V, gf,
  #[.func (.yield (w.heap.size + 1)) #[] #[]] ++ lb, V, ?_, ?_, ?_, ?_, fun _ => h1, ?_⟩
 ·rw [hV, hL]
  exact run_enterLoop_outer _ _ _ _ _
 ·simp only [resolve, hg]
  simp [go_sem]
 ·intro f' hf'
  simp [Target.leads] at hf'
  subst hf'
  exact hFg
 ·simp [invoke, go_sem, eg]
 refine (hseq (w.heap.size + 1) (fun k W => I k W ∧ Z (L .ready none) W) (fun k W => ∃ c, Ix c k W ∧ Z (L .done (some c)) W) V (fun k W h => hC k W h.1) ?_ ⟨hIV, hrec, hdef⟩).mono ?_
 ·rintro k W ⟨hi, hz⟩ hk
  have hy := run_yield (P := P) (args := encs (f k)) hz.1 (by rw [hL]; exact hps k)
  rw [hL] at hy
  refine ⟨fn, _, assign, body, hy, roundIn_of_wpIn hfn (hassign _ k W _ ⟨_, run_beginRound hz.1 (by rw [hL]), ?_⟩)⟩
  have hz2 : Z { L .ready none with state := .busy } (W.putObj (w.heap.size + 1) (.loop { L .ready none with state := .busy })) := upd _ _ _ hz
  refine wpIn_mono (hbody _ k _ (hI.putObj _ hi (by omega) hz.1 rfl) hk (Array.getElem?_eq_some_iff.1 hz2.1).1) fun e a3 W3 hp => ?_
  have hz3 := keep _ _ _ hz2 hp.1
  have ends : ∀ jump : Option Code, ∃ W4, (Instr.endRound (w.heap.size + 1) jump).run P W3 = .ok (.bool jump.isNone) W4 ∧ W4 = W3.putObj (w.heap.size + 1) (.loop (L (if jump.isNone then .ready else .done) jump)) ∧ Z (L (if jump.isNone then .ready else .done) jump) W4 := fun jump => by
   have := run_endRound (P := P) jump hz3.1
   refine ⟨_, this, by rw [hL], ?_⟩
   have h4 := upd _ (L (if jump.isNone then .ready else .done) jump) _ hz3
   rw [hL] at h4 ⊢
   exact h4
  have out : ∀ c : Code, Ix c k W3 → ∃ v W4, (Instr.endRound (w.heap.size + 1) (some c)).run P W3 = .ok v W4 ∧ ((Ending.returned v = .returned (.bool true) ∧ I (k + 1) W4 ∧ Z (L .ready none) W4) ∨ (Ending.returned v = .returned (.bool false) ∧ ∃ c, Ix c k W4 ∧ Z (L .done (some c)) W4)) := fun c hx => by
   obtain ⟨W4, hr, hw4, hz4⟩ := ends (some c)
   exact ⟨_, W4, hr, .inr ⟨rfl, c, by rw [hw4]; exact (hIx c).putObj _ hx (by omega) hz3.1 rfl, hz4⟩⟩
  cases e with
  | normal =>
   obtain ⟨W4, hr, hw4, hz4⟩ := ends none
   exact ⟨_, W4, hr, .inl ⟨rfl, by rw [hw4]; exact hI.putObj _ hp.2 (by omega) hz3.1 rfl, hz4⟩⟩
  | ret => exact out _ hp.2
  | exit id => exact out _ hp.2
  | goto t => exact out _ hp.2
  | panic ch => exact hp.2.elim
  | outgrown => exact hp.2.elim
 ·rintro e W2 ⟨⟨v, rfl⟩, (⟨hi, hz⟩ | ⟨k, hk, c, hi, hz⟩)⟩
  ·have := run_endLoop (P := P) hz.1 (by rw [hL]; simp)
   rw [hL] at this
   exact ⟨none, _, this, hdone _ (hI.putObj _ hi (by omega) hz.1 rfl) (by have := (Array.getElem?_eq_some_iff.1 hz.1).1; simp; exact this) ((World.putObj_heap_other (by omega)).trans hz.2)⟩
  ·have := run_endLoop (P := P) hz.1 (by rw [hL]; simp)
   rw [hL] at this
   exact ⟨some c, _, this, hstop c k _ hk ((hIx c).putObj _ hi (by omega) hz.1 rfl) (by have := (Array.getElem?_eq_some_iff.1 hz.1).1; simp; exact this) ((World.putObj_heap_other (by omega)).trans hz.2)⟩
/-- the same, where the temporaries of a round are told from those that stand there at the statement -/
theorem wpIn_rangeAs {F : Fence} {n : Nat} {P : Program} {α : Type} {g : Operand} {ps : Array Tmp} {assign body : Code} {Q : Exit → Act → World → Prop} {a : Act} {w : World} (tm : Array Value → Nat → Array Value)
  (hro : F.round = none) (h1 : 1 ≤ n) {gf : Nat} {lb : Array Value} (hg : a.eval g = .func (.func gf) #[] lb) (hFg : F.fn gf) (eg : ∀ args w, (callFunc gf args).run P w = .ok (.enter gf args) w)
  {encs : α → Array Value} {f : Nat → α} {N : Nat} {Cp : Nat → World → Prop} (hseq : SeqAt F (n - 1) P gf lb encs f N Cp) (hps : ∀ k, (encs (f k)).size = ps.size)
  (I : Nat → World → Prop) (Ix : Code → Nat → World → Prop) (hI : OwnFrom w.heap.size I) (hIx : ∀ c, OwnFrom w.heap.size (Ix c)) (hC : ∀ k W, I k W → Cp k W) (h0 : I 0 w)
  (hassign : ∀ (l k : Nat) (W : World) (K : Act → World → Prop), K { tmps := tm a.tmps k, defers := [] } W → assign.wpIn (F.inRound l) (n - 1 - 1) P (Exit.then K (fun _ _ _ => False)) { tmps := (ps.zip (encs (f k))).foldl (fun t (p, v) => t.setIfInBounds p v) a.tmps, defers := [] } W)
  (hbody : ∀ (l k : Nat) (W : World), I k W → k < N → w.heap.size + 2 ≤ W.heap.size → body.wpIn (F.inRound l) (n - 1 - 1) P (fun e _ W' => RoundEnds w.heap.size I Ix k W e W') { tmps := tm a.tmps k, defers := [] } W)
  (hdone : ∀ W : World, I N W → w.heap.size + 2 ≤ W.heap.size → W.heap[w.heap.size]? = some (.deferred (some [])) → Q .normal { a with defers := { target := .collected w.heap.size, args := #[] } :: a.defers } W)
  (hstop : ∀ (c : Code) (k : Nat) (W : World), k < N → Ix c k W → w.heap.size + 2 ≤ W.heap.size → W.heap[w.heap.size]? = some (.deferred (some [])) → c.wpIn F n P Q { a with defers := { target := .collected w.heap.size, args := #[] } :: a.defers } W) :
  (Code.rangeFunc g ps assign body).wpIn F n P Q a w := wpIn_rangeAt hro h1 hg hFg eg hseq hps I Ix hI hIx hC h0 (fun k => { tmps := tm a.tmps k, defers := [] }) hassign hbody hdone hstop
end Go.Proofs.YtdhdebapjlcjdaaGreatDoor
set_option maxHeartbeats 2000000
set_option maxRecDepth 100000
namespace Go.Proofs.YtdhdebapjlcjdaaGreatDoor
open Go Go.RowKit Go.Shelf
attribute [local go_sem] Oper.semAt_some

theorem back_u64 (F : Fence) (n : Nat) (h : F.fn 80) (hro : F.round = none) (a : Option Addr) (len cap : Nat) (w : World) :
  CallsIn F n Tryz.prog 80 #[.slice a len cap] w fun e w' => e = .returned (.func (.func 117) #[] #[.pointer (some ⟨w.heap.size, 0, none⟩)]) ∧ w' = w.alloc (.cells #[.slice a len cap] 23) := by
 refine callsIn_of_wp Tryz.func80 rfl h ?_ hro
 simp only [Tryz.ntmps80, List.size_toArray, List.length_cons, List.length_nil, Nat.reduceAdd, Nat.reduceSub, Array.replicate_succ, Array.replicate_zero, List.push_toArray, List.append_toArray, List.nil_append, List.cons_append]
 gi_wp2
 go_ret
 exact ⟨rfl, rfl⟩
/-- what lies in the slice's box, and the element that is read ahead of round k -/
def BackCu64 (Bs : Nat) (A : Option Addr) (len cap : Nat) (z : Nat → Nat) (k : Nat) (W : World) : Prop :=
 W.cell? ⟨Bs, 0, none⟩ = some (.slice A len cap) ∧ (k < len → ∃ b off, A = some ⟨b, off, none⟩ ∧ W.cell? ⟨b, off + (len - 1 - k), none⟩ = some (.int .u64 (z (len - 1 - k) : Int)))
theorem backs_u64 (F : Fence) (n : Nat) (h : F.fn 117) (hro : F.round = none) (hn : 1 ≤ n) (Bs : Nat) (A : Option Addr) (len cap : Nat) (z : Nat → Nat) (hlen : len ≤ 1000000) :
  SeqAt F n Tryz.prog 117 #[.pointer (some ⟨Bs, 0, none⟩)] (fun x : Nat × Nat => #[Value.int .i64 (x.1 : Int), Value.int .u64 (x.2 : Int)]) (fun k => (len - 1 - k, z (len - 1 - k))) len (BackCu64 Bs A len cap z) := by
 intro l J Jx W hC hY h0
 refine callsIn_of_wp Tryz.func117 rfl h ?_ hro
 simp only [Tryz.ntmps117, List.size_toArray, List.length_cons, List.length_nil, Nat.reduceAdd, Nat.reduceSub, Array.replicate_succ, Array.replicate_zero, List.push_toArray, List.append_toArray, List.nil_append, List.cons_append]
 have c0 := (hC 0 W h0).1
 have w0 : IntKind.i64.wrap ((len : Int) - 1) = (len : Int) - 1 := IntWalk.i64_in _ (by omega)
 gi_wp2
 gi_loopw [3] (fun i wr => ∃ m : Nat, m ≤ len ∧ i = .int .i64 ((m : Int) - 1) ∧ J (len - m) wr) (fun i _ => (intOf i + 1).toNat)
 case atStart => exact ⟨len, Nat.le_refl _, by first | rfl | simp, by rw [Nat.sub_self]; exact h0⟩
 case round =>
  obtain ⟨m, hm, rfl, hJ⟩ := hrel
  obtain ⟨c1, c2⟩ := hC _ wr hJ
  rcases Nat.eq_zero_or_pos m with rfl | hm0
  ·clear c0 w0 c1 c2 hC hY
   gi_wp2
   go_end0
   exact ⟨⟨_, rfl⟩, .inl (by rw [Nat.sub_zero] at hJ; exact hJ)⟩
  ·obtain ⟨j, rfl⟩ : ∃ j, m = j + 1 := ⟨m - 1, by omega⟩
   have ek : len - 1 - (len - (j + 1)) = j := by omega
   obtain ⟨b, off, rfl, c3⟩ := c2 (by omega)
   rw [ek] at c3
   obtain ⟨fn, tmps, assign, body, hy, hR⟩ := hY _ wr hJ (by omega)
   try dsimp only at hy
   rw [ek] at hy
   have e1 : ((j + 1 : Nat) : Int) - 1 = (j : Int) := by omega
   have w1 : IntKind.i64.wrap ((j : Int) - 1) = (j : Int) - 1 := IntWalk.i64_in _ (by omega)
   have hj : j < len := by omega
   rw [e1]
   clear c0 w0 c2 e1
   gi_wp2
   refine hR.mono ?_
   rintro e W3 (⟨rfl, hJ3⟩ | ⟨rfl, hJx3⟩)
   ·clear hy
    gi_wp2
    go_roundw
    case rel => exact ⟨j, by omega, by first | rfl | simp, by rw [show len - j = len - (j + 1) + 1 by omega]; exact hJ3⟩
    case measure => simp [intOf]
   ·gi_wp2
    refine bodyPost_ret (results_none rfl _ _ _) rfl ?_
    exact ⟨⟨_, rfl⟩, .inr ⟨_, by omega, hJx3⟩⟩

theorem back_u8 (F : Fence) (n : Nat) (h : F.fn 128) (hro : F.round = none) (a : Option Addr) (len cap : Nat) (w : World) :
  CallsIn F n Tryz.prog 128 #[.slice a len cap] w fun e w' => e = .returned (.func (.func 151) #[] #[.pointer (some ⟨w.heap.size, 0, none⟩)]) ∧ w' = w.alloc (.cells #[.slice a len cap] 77) := by
 refine callsIn_of_wp Tryz.func128 rfl h ?_ hro
 simp only [Tryz.ntmps128, List.size_toArray, List.length_cons, List.length_nil, Nat.reduceAdd, Nat.reduceSub, Array.replicate_succ, Array.replicate_zero, List.push_toArray, List.append_toArray, List.nil_append, List.cons_append]
 gi_wp2
 go_ret
 exact ⟨rfl, rfl⟩
/-- what lies in the slice's box, and the element that is read ahead of round k -/
def BackCu8 (Bs : Nat) (A : Option Addr) (len cap : Nat) (z : Nat → Nat) (k : Nat) (W : World) : Prop :=
 W.cell? ⟨Bs, 0, none⟩ = some (.slice A len cap) ∧ (k < len → ∃ b off, A = some ⟨b, off, none⟩ ∧ W.cell? ⟨b, off + (len - 1 - k), none⟩ = some (.int .u8 (z (len - 1 - k) : Int)))
theorem backs_u8 (F : Fence) (n : Nat) (h : F.fn 151) (hro : F.round = none) (hn : 1 ≤ n) (Bs : Nat) (A : Option Addr) (len cap : Nat) (z : Nat → Nat) (hlen : len ≤ 1000000) :
  SeqAt F n Tryz.prog 151 #[.pointer (some ⟨Bs, 0, none⟩)] (fun x : Nat × Nat => #[Value.int .i64 (x.1 : Int), Value.int .u8 (x.2 : Int)]) (fun k => (len - 1 - k, z (len - 1 - k))) len (BackCu8 Bs A len cap z) := by
 intro l J Jx W hC hY h0
 refine callsIn_of_wp Tryz.func151 rfl h ?_ hro
 simp only [Tryz.ntmps151, List.size_toArray, List.length_cons, List.length_nil, Nat.reduceAdd, Nat.reduceSub, Array.replicate_succ, Array.replicate_zero, List.push_toArray, List.append_toArray, List.nil_append, List.cons_append]
 have c0 := (hC 0 W h0).1
 have w0 : IntKind.i64.wrap ((len : Int) - 1) = (len : Int) - 1 := IntWalk.i64_in _ (by omega)
 gi_wp2
 gi_loopw [3] (fun i wr => ∃ m : Nat, m ≤ len ∧ i = .int .i64 ((m : Int) - 1) ∧ J (len - m) wr) (fun i _ => (intOf i + 1).toNat)
 case atStart => exact ⟨len, Nat.le_refl _, by first | rfl | simp, by rw [Nat.sub_self]; exact h0⟩
 case round =>
  obtain ⟨m, hm, rfl, hJ⟩ := hrel
  obtain ⟨c1, c2⟩ := hC _ wr hJ
  rcases Nat.eq_zero_or_pos m with rfl | hm0
  ·clear c0 w0 c1 c2 hC hY
   gi_wp2
   go_end0
   exact ⟨⟨_, rfl⟩, .inl (by rw [Nat.sub_zero] at hJ; exact hJ)⟩
  ·obtain ⟨j, rfl⟩ : ∃ j, m = j + 1 := ⟨m - 1, by omega⟩
   have ek : len - 1 - (len - (j + 1)) = j := by omega
   obtain ⟨b, off, rfl, c3⟩ := c2 (by omega)
   rw [ek] at c3
   obtain ⟨fn, tmps, assign, body, hy, hR⟩ := hY _ wr hJ (by omega)
   try dsimp only at hy
   rw [ek] at hy
   have e1 : ((j + 1 : Nat) : Int) - 1 = (j : Int) := by omega
   have w1 : IntKind.i64.wrap ((j : Int) - 1) = (j : Int) - 1 := IntWalk.i64_in _ (by omega)
   have hj : j < len := by omega
   rw [e1]
   clear c0 w0 c2 e1
   gi_wp2
   refine hR.mono ?_
   rintro e W3 (⟨rfl, hJ3⟩ | ⟨rfl, hJx3⟩)
   ·clear hy
    gi_wp2
    go_roundw
    case rel => exact ⟨j, by omega, by first | rfl | simp, by rw [show len - j = len - (j + 1) + 1 by omega]; exact hJ3⟩
    case measure => simp [intOf]
   ·gi_wp2
    refine bodyPost_ret (results_none rfl _ _ _) rfl ?_
    exact ⟨⟨_, rfl⟩, .inr ⟨_, by omega, hJx3⟩⟩

end Go.Proofs.YtdhdebapjlcjdaaGreatDoor
