/-
  Contracts of slices.Backward over []api.Line, of tape's operands, at this translation: Backward's value goes through the slice from its end.
-/
import Derived.RangeFuncBox
import Derived.RangeFuncLeaves
import Derived.Shelf.Abstract
import Derived.WalkKit
import Derived.OwnWalkIn
import Derived.TacticsInMore
import Derived.LoopNIn
import Derived.LoopIn
import Derived.Test.YtlpeheonbbaffaaGreatDoorProg
import Derived.Test.YtlpeheonbbaffaaGreatDoorQTn
import Derived.Test.YtlpeheonbbaffaaGreatDoorQTu
set_option maxHeartbeats 8000000
set_option maxRecDepth 100000
namespace Go.Proofs.YtlpeheonbbaffaaGreatDoor
open Go Go.RowKit Go.Shelf
structure LnV where
 l : Ln
 A1 : Option Addr
 n1 : Nat
 c1 : Nat
 A2 : Option Addr
 n2 : Nat
 c2 : Nat
section
attribute [local go_sem] Oper.semAt_some
theorem back_ln (F : Fence) (n : Nat) (h : F.fn 72) (hro : F.round = none) (a : Option Addr) (len cap : Nat) (w : World) :
  CallsIn F n Tryz.prog 72 #[.slice a len cap] w fun e w' => e = .returned (.func (.func 119) #[] #[.pointer (some ⟨w.heap.size, 0, none⟩)]) ∧ w' = w.alloc (.cells #[.slice a len cap] 32) := by
 refine callsIn_of_wp Tryz.func72 rfl h ?_ hro
 simp only [Tryz.ntmps72, List.size_toArray, List.length_cons, List.length_nil, Nat.reduceAdd, Nat.reduceSub, Array.replicate_succ, Array.replicate_zero, List.push_toArray, List.append_toArray, List.nil_append, List.cons_append]
 gi_wp2
 go_ret
 exact ⟨rfl, rfl⟩
def BackCln (Bs : Nat) (A : Option Addr) (len cap : Nat) (z : Nat → LnV) (k : Nat) (W : World) : Prop :=
 W.cell? ⟨Bs, 0, none⟩ = some (.slice A len cap) ∧ (k < len → ∃ b off, A = some ⟨b, off, none⟩ ∧ W.cell? ⟨b, off + (len - 1 - k) * 9, none⟩ = some (.int .i64 (z (len - 1 - k)).l.op) ∧ W.cell? ⟨b, off + (len - 1 - k) * 9 + 1, none⟩ = some (.int .i64 (z (len - 1 - k)).l.a) ∧ W.cell? ⟨b, off + (len - 1 - k) * 9 + 2, none⟩ = some (.int .i64 (z (len - 1 - k)).l.b) ∧ W.cell? ⟨b, off + (len - 1 - k) * 9 + 3, none⟩ = some (.bool (z (len - 1 - k)).l.k.lo.s) ∧ W.cell? ⟨b, off + (len - 1 - k) * 9 + 4, none⟩ = some (.slice (z (len - 1 - k)).A1 (z (len - 1 - k)).n1 (z (len - 1 - k)).c1) ∧ W.cell? ⟨b, off + (len - 1 - k) * 9 + 5, none⟩ = some (.int .i64 (z (len - 1 - k)).l.k.lo.e) ∧ W.cell? ⟨b, off + (len - 1 - k) * 9 + 6, none⟩ = some (.bool (z (len - 1 - k)).l.k.hi.s) ∧ W.cell? ⟨b, off + (len - 1 - k) * 9 + 7, none⟩ = some (.slice (z (len - 1 - k)).A2 (z (len - 1 - k)).n2 (z (len - 1 - k)).c2) ∧ W.cell? ⟨b, off + (len - 1 - k) * 9 + 8, none⟩ = some (.int .i64 (z (len - 1 - k)).l.k.hi.e))
theorem backs_ln (F : Fence) (n : Nat) (h : F.fn 119) (hro : F.round = none) (hn : 1 ≤ n) (Bs : Nat) (A : Option Addr) (len cap : Nat) (z : Nat → LnV) (hlen : len ≤ 1000000) :
  SeqAt F n Tryz.prog 119 #[.pointer (some ⟨Bs, 0, none⟩)] (fun x : Nat × LnV => #[Value.int .i64 (x.1 : Int), .agg #[.int .i64 x.2.l.op, .int .i64 x.2.l.a, .int .i64 x.2.l.b, .bool x.2.l.k.lo.s, .slice x.2.A1 x.2.n1 x.2.c1, .int .i64 x.2.l.k.lo.e, .bool x.2.l.k.hi.s, .slice x.2.A2 x.2.n2 x.2.c2, .int .i64 x.2.l.k.hi.e]]) (fun k => (len - 1 - k, z (len - 1 - k))) len (BackCln Bs A len cap z) := by
 intro l J Jx W hC hY h0
 refine callsIn_of_wp Tryz.func119 rfl h ?_ hro
 simp only [Tryz.ntmps119, List.size_toArray, List.length_cons, List.length_nil, Nat.reduceAdd, Nat.reduceSub, Array.replicate_succ, Array.replicate_zero, List.push_toArray, List.append_toArray, List.nil_append, List.cons_append]
 have c0 := (hC 0 W h0).1
 have w0 : IntKind.i64.wrap ((len : Int) - 1) = (len : Int) - 1 := IntWalk.i64_in _ (by omega)
 gi_wp2
 gi_loopw [3] (fun i wr => ∃ m : Nat, m ≤ len ∧ i = .int .i64 ((m : Int) - 1) ∧ J (len - m) wr) (fun i _ => (intOf i + 1).toNat)
 case atStart => exact ⟨len, Nat.le_refl _, by first | rfl | simp, by rw [Nat.sub_self]; exact h0⟩
 case round =>
  obtain ⟨m, hm, rfl, hJ⟩ := hrel
  obtain ⟨c1, c2⟩ := hC _ wr hJ
  rcases Nat.eq_zero_or_pos m with rfl | hm0
  ·clear c0 w0 c1 c2 hC hY
   gi_wp2
   go_end0
   exact ⟨⟨_, rfl⟩, .inl (by rw [Nat.sub_zero] at hJ; exact hJ)⟩
  obtain ⟨j, rfl⟩ : ∃ j, m = j + 1 := ⟨m - 1, by omega⟩
  have ek : len - 1 - (len - (j + 1)) = j := by omega
  obtain ⟨b, off, rfl, c3⟩ := c2 (by omega)
  rw [ek] at c3
  obtain ⟨d0, d1, d2, d3, d4, d5, d6, d7, d8⟩ := c3
  obtain ⟨fn, tmps, assign, body, hy, hR⟩ := hY _ wr hJ (by omega)
  try dsimp only at hy
  rw [ek] at hy
  have e1 : ((j + 1 : Nat) : Int) - 1 = (j : Int) := by omega
  have w1 : IntKind.i64.wrap ((j : Int) - 1) = (j : Int) - 1 := IntWalk.i64_in _ (by omega)
  have hj : j < len := by omega
  rw [e1]
  clear c0 w0 c2 e1
  gi_wp2
  refine hR.mono ?_
  rintro e W3 (⟨rfl, hJ3⟩ | ⟨rfl, hJx3⟩)
  ·clear hy
   gi_wp2
   go_roundw
   case rel => exact ⟨j, by omega, by first | rfl | simp, by rw [show len - j = len - (j + 1) + 1 by omega]; exact hJ3⟩
   case measure => simp [intOf]
  gi_wp2
  refine bodyPost_ret (results_none rfl _ _ _) rfl ?_
  exact ⟨⟨_, rfl⟩, .inr ⟨_, by omega, hJx3⟩⟩
end
def opsL (l : Ln) : List Int := if l.op = 6 ∨ l.op = 7 ∨ l.op = 8 ∨ l.op = 9 then [l.a, l.b] else if l.op = 10 ∨ l.op = 11 ∨ l.op = 12 ∨ l.op = 13 then [l.a] else []
def ZsEnd (zs : List Int) (w : World) (en : Ending) (w' : World) : Prop := ∃ A n c, en = .returned (.slice A n c) ∧ n = zs.length ∧ RdZ w' A n c (fun i => zs.getD i 0) ∧ Below w.heap.size w w' ∧ ∀ bb oo, A = some ⟨bb, oo, none⟩ → w.heap.size ≤ bb
theorem top_6 {w : World} {a b : Int} {k : Iv} {A1 : Option Addr} {n1 c1 : Nat} {A2 : Option Addr} {n2 c2 : Nat} :
  Calls Tryz.prog 73 #[.agg #[.int .i64 6, .int .i64 a, .int .i64 b, .bool k.lo.s, .slice A1 n1 c1, .int .i64 k.lo.e, .bool k.hi.s, .slice A2 n2 c2, .int .i64 k.hi.e]] w (ZsEnd [a, b] w) := by
 have BB := below_alloc w (.cells #[.int .i64 6, .int .i64 a, .int .i64 b, .bool k.lo.s, .slice A1 n1 c1, .int .i64 k.lo.e, .bool k.hi.s, .slice A2 n2 c2, .int .i64 k.hi.e] 31)
 have xl := Blk.new w #[.int .i64 6, .int .i64 a, .int .i64 b, .bool k.lo.s, .slice A1 n1 c1, .int .i64 k.lo.e, .bool k.hi.s, .slice A2 n2 c2, .int .i64 k.hi.e] 31
 have m0 : World.cell? _ ⟨_, 0, none⟩ = some (.int .i64 6) := xl.at 0
 have m1 : World.cell? _ ⟨_, 1, none⟩ = some (.int .i64 a) := xl.at 1
 have m2 : World.cell? _ ⟨_, 2, none⟩ = some (.int .i64 b) := xl.at 2
 have m3 : World.cell? _ ⟨_, 3, none⟩ = some (.bool k.lo.s) := xl.at 3
 have m4 : World.cell? _ ⟨_, 4, none⟩ = some (.slice A1 n1 c1) := xl.at 4
 have m5 : World.cell? _ ⟨_, 5, none⟩ = some (.int .i64 k.lo.e) := xl.at 5
 have m6 : World.cell? _ ⟨_, 6, none⟩ = some (.bool k.hi.s) := xl.at 6
 have m7 : World.cell? _ ⟨_, 7, none⟩ = some (.slice A2 n2 c2) := xl.at 7
 have m8 : World.cell? _ ⟨_, 8, none⟩ = some (.int .i64 k.hi.e) := xl.at 8
 clear xl
 have b1 := below_alloc (w.alloc (.cells #[.int .i64 6, .int .i64 a, .int .i64 b, .bool k.lo.s, .slice A1 n1 c1, .int .i64 k.lo.e, .bool k.hi.s, .slice A2 n2 c2, .int .i64 k.hi.e] 31)) (.cells #[.int .i64 a, .int .i64 b] 3)
 have xz := Blk.new (w.alloc (.cells #[.int .i64 6, .int .i64 a, .int .i64 b, .bool k.lo.s, .slice A1 n1 c1, .int .i64 k.lo.e, .bool k.hi.s, .slice A2 n2 c2, .int .i64 k.hi.e] 31)) #[.int .i64 a, .int .i64 b] 3
 have BB2 := below_next BB BB.size b1 rfl rfl rfl rfl
 have HR : ZsEnd [a, b] w (.returned (.slice (some ⟨(w.alloc (.cells #[.int .i64 6, .int .i64 a, .int .i64 b, .bool k.lo.s, .slice A1 n1 c1, .int .i64 k.lo.e, .bool k.hi.s, .slice A2 n2 c2, .int .i64 k.hi.e] 31)).heap.size, 0, none⟩) 2 2)) ((w.alloc (.cells #[.int .i64 6, .int .i64 a, .int .i64 b, .bool k.lo.s, .slice A1 n1 c1, .int .i64 k.lo.e, .bool k.hi.s, .slice A2 n2 c2, .int .i64 k.hi.e] 31)).alloc (.cells #[.int .i64 a, .int .i64 b] 3)) := ⟨_, _, _, rfl, rfl, ⟨by decide, by decide, fun _ => ⟨_, _, rfl, fun i hi => by
  rcases (show i = 0 ∨ i = 1 by omega) with rfl | rfl
  ·exact xz.at 0
  exact xz.at 1⟩⟩, BB2, fun bb oo e => by cases e; simp⟩
 have HRR := Lib.hid HR
 clear HR
 go_enter Tryz.func73, Tryz.ntmps73
 go_wp2
 go_ret
 simpa using HRR.out
theorem top_7 {w : World} {a b : Int} {k : Iv} {A1 : Option Addr} {n1 c1 : Nat} {A2 : Option Addr} {n2 c2 : Nat} :
  Calls Tryz.prog 73 #[.agg #[.int .i64 7, .int .i64 a, .int .i64 b, .bool k.lo.s, .slice A1 n1 c1, .int .i64 k.lo.e, .bool k.hi.s, .slice A2 n2 c2, .int .i64 k.hi.e]] w (ZsEnd [a, b] w) := by
 have BB := below_alloc w (.cells #[.int .i64 7, .int .i64 a, .int .i64 b, .bool k.lo.s, .slice A1 n1 c1, .int .i64 k.lo.e, .bool k.hi.s, .slice A2 n2 c2, .int .i64 k.hi.e] 31)
 have xl := Blk.new w #[.int .i64 7, .int .i64 a, .int .i64 b, .bool k.lo.s, .slice A1 n1 c1, .int .i64 k.lo.e, .bool k.hi.s, .slice A2 n2 c2, .int .i64 k.hi.e] 31
 have m0 : World.cell? _ ⟨_, 0, none⟩ = some (.int .i64 7) := xl.at 0
 have m1 : World.cell? _ ⟨_, 1, none⟩ = some (.int .i64 a) := xl.at 1
 have m2 : World.cell? _ ⟨_, 2, none⟩ = some (.int .i64 b) := xl.at 2
 have m3 : World.cell? _ ⟨_, 3, none⟩ = some (.bool k.lo.s) := xl.at 3
 have m4 : World.cell? _ ⟨_, 4, none⟩ = some (.slice A1 n1 c1) := xl.at 4
 have m5 : World.cell? _ ⟨_, 5, none⟩ = some (.int .i64 k.lo.e) := xl.at 5
 have m6 : World.cell? _ ⟨_, 6, none⟩ = some (.bool k.hi.s) := xl.at 6
 have m7 : World.cell? _ ⟨_, 7, none⟩ = some (.slice A2 n2 c2) := xl.at 7
 have m8 : World.cell? _ ⟨_, 8, none⟩ = some (.int .i64 k.hi.e) := xl.at 8
 clear xl
 have b1 := below_alloc (w.alloc (.cells #[.int .i64 7, .int .i64 a, .int .i64 b, .bool k.lo.s, .slice A1 n1 c1, .int .i64 k.lo.e, .bool k.hi.s, .slice A2 n2 c2, .int .i64 k.hi.e] 31)) (.cells #[.int .i64 a, .int .i64 b] 3)
 have xz := Blk.new (w.alloc (.cells #[.int .i64 7, .int .i64 a, .int .i64 b, .bool k.lo.s, .slice A1 n1 c1, .int .i64 k.lo.e, .bool k.hi.s, .slice A2 n2 c2, .int .i64 k.hi.e] 31)) #[.int .i64 a, .int .i64 b] 3
 have BB2 := below_next BB BB.size b1 rfl rfl rfl rfl
 have HR : ZsEnd [a, b] w (.returned (.slice (some ⟨(w.alloc (.cells #[.int .i64 7, .int .i64 a, .int .i64 b, .bool k.lo.s, .slice A1 n1 c1, .int .i64 k.lo.e, .bool k.hi.s, .slice A2 n2 c2, .int .i64 k.hi.e] 31)).heap.size, 0, none⟩) 2 2)) ((w.alloc (.cells #[.int .i64 7, .int .i64 a, .int .i64 b, .bool k.lo.s, .slice A1 n1 c1, .int .i64 k.lo.e, .bool k.hi.s, .slice A2 n2 c2, .int .i64 k.hi.e] 31)).alloc (.cells #[.int .i64 a, .int .i64 b] 3)) := ⟨_, _, _, rfl, rfl, ⟨by decide, by decide, fun _ => ⟨_, _, rfl, fun i hi => by
  rcases (show i = 0 ∨ i = 1 by omega) with rfl | rfl
  ·exact xz.at 0
  exact xz.at 1⟩⟩, BB2, fun bb oo e => by cases e; simp⟩
 have HRR := Lib.hid HR
 clear HR
 go_enter Tryz.func73, Tryz.ntmps73
 go_wp2
 go_ret
 simpa using HRR.out
theorem top_8 {w : World} {a b : Int} {k : Iv} {A1 : Option Addr} {n1 c1 : Nat} {A2 : Option Addr} {n2 c2 : Nat} :
  Calls Tryz.prog 73 #[.agg #[.int .i64 8, .int .i64 a, .int .i64 b, .bool k.lo.s, .slice A1 n1 c1, .int .i64 k.lo.e, .bool k.hi.s, .slice A2 n2 c2, .int .i64 k.hi.e]] w (ZsEnd [a, b] w) := by
 have BB := below_alloc w (.cells #[.int .i64 8, .int .i64 a, .int .i64 b, .bool k.lo.s, .slice A1 n1 c1, .int .i64 k.lo.e, .bool k.hi.s, .slice A2 n2 c2, .int .i64 k.hi.e] 31)
 have xl := Blk.new w #[.int .i64 8, .int .i64 a, .int .i64 b, .bool k.lo.s, .slice A1 n1 c1, .int .i64 k.lo.e, .bool k.hi.s, .slice A2 n2 c2, .int .i64 k.hi.e] 31
 have m0 : World.cell? _ ⟨_, 0, none⟩ = some (.int .i64 8) := xl.at 0
 have m1 : World.cell? _ ⟨_, 1, none⟩ = some (.int .i64 a) := xl.at 1
 have m2 : World.cell? _ ⟨_, 2, none⟩ = some (.int .i64 b) := xl.at 2
 have m3 : World.cell? _ ⟨_, 3, none⟩ = some (.bool k.lo.s) := xl.at 3
 have m4 : World.cell? _ ⟨_, 4, none⟩ = some (.slice A1 n1 c1) := xl.at 4
 have m5 : World.cell? _ ⟨_, 5, none⟩ = some (.int .i64 k.lo.e) := xl.at 5
 have m6 : World.cell? _ ⟨_, 6, none⟩ = some (.bool k.hi.s) := xl.at 6
 have m7 : World.cell? _ ⟨_, 7, none⟩ = some (.slice A2 n2 c2) := xl.at 7
 have m8 : World.cell? _ ⟨_, 8, none⟩ = some (.int .i64 k.hi.e) := xl.at 8
 clear xl
 have b1 := below_alloc (w.alloc (.cells #[.int .i64 8, .int .i64 a, .int .i64 b, .bool k.lo.s, .slice A1 n1 c1, .int .i64 k.lo.e, .bool k.hi.s, .slice A2 n2 c2, .int .i64 k.hi.e] 31)) (.cells #[.int .i64 a, .int .i64 b] 3)
 have xz := Blk.new (w.alloc (.cells #[.int .i64 8, .int .i64 a, .int .i64 b, .bool k.lo.s, .slice A1 n1 c1, .int .i64 k.lo.e, .bool k.hi.s, .slice A2 n2 c2, .int .i64 k.hi.e] 31)) #[.int .i64 a, .int .i64 b] 3
 have BB2 := below_next BB BB.size b1 rfl rfl rfl rfl
 have HR : ZsEnd [a, b] w (.returned (.slice (some ⟨(w.alloc (.cells #[.int .i64 8, .int .i64 a, .int .i64 b, .bool k.lo.s, .slice A1 n1 c1, .int .i64 k.lo.e, .bool k.hi.s, .slice A2 n2 c2, .int .i64 k.hi.e] 31)).heap.size, 0, none⟩) 2 2)) ((w.alloc (.cells #[.int .i64 8, .int .i64 a, .int .i64 b, .bool k.lo.s, .slice A1 n1 c1, .int .i64 k.lo.e, .bool k.hi.s, .slice A2 n2 c2, .int .i64 k.hi.e] 31)).alloc (.cells #[.int .i64 a, .int .i64 b] 3)) := ⟨_, _, _, rfl, rfl, ⟨by decide, by decide, fun _ => ⟨_, _, rfl, fun i hi => by
  rcases (show i = 0 ∨ i = 1 by omega) with rfl | rfl
  ·exact xz.at 0
  exact xz.at 1⟩⟩, BB2, fun bb oo e => by cases e; simp⟩
 have HRR := Lib.hid HR
 clear HR
 go_enter Tryz.func73, Tryz.ntmps73
 go_wp2
 go_ret
 simpa using HRR.out
theorem top_9 {w : World} {a b : Int} {k : Iv} {A1 : Option Addr} {n1 c1 : Nat} {A2 : Option Addr} {n2 c2 : Nat} :
  Calls Tryz.prog 73 #[.agg #[.int .i64 9, .int .i64 a, .int .i64 b, .bool k.lo.s, .slice A1 n1 c1, .int .i64 k.lo.e, .bool k.hi.s, .slice A2 n2 c2, .int .i64 k.hi.e]] w (ZsEnd [a, b] w) := by
 have BB := below_alloc w (.cells #[.int .i64 9, .int .i64 a, .int .i64 b, .bool k.lo.s, .slice A1 n1 c1, .int .i64 k.lo.e, .bool k.hi.s, .slice A2 n2 c2, .int .i64 k.hi.e] 31)
 have xl := Blk.new w #[.int .i64 9, .int .i64 a, .int .i64 b, .bool k.lo.s, .slice A1 n1 c1, .int .i64 k.lo.e, .bool k.hi.s, .slice A2 n2 c2, .int .i64 k.hi.e] 31
 have m0 : World.cell? _ ⟨_, 0, none⟩ = some (.int .i64 9) := xl.at 0
 have m1 : World.cell? _ ⟨_, 1, none⟩ = some (.int .i64 a) := xl.at 1
 have m2 : World.cell? _ ⟨_, 2, none⟩ = some (.int .i64 b) := xl.at 2
 have m3 : World.cell? _ ⟨_, 3, none⟩ = some (.bool k.lo.s) := xl.at 3
 have m4 : World.cell? _ ⟨_, 4, none⟩ = some (.slice A1 n1 c1) := xl.at 4
 have m5 : World.cell? _ ⟨_, 5, none⟩ = some (.int .i64 k.lo.e) := xl.at 5
 have m6 : World.cell? _ ⟨_, 6, none⟩ = some (.bool k.hi.s) := xl.at 6
 have m7 : World.cell? _ ⟨_, 7, none⟩ = some (.slice A2 n2 c2) := xl.at 7
 have m8 : World.cell? _ ⟨_, 8, none⟩ = some (.int .i64 k.hi.e) := xl.at 8
 clear xl
 have b1 := below_alloc (w.alloc (.cells #[.int .i64 9, .int .i64 a, .int .i64 b, .bool k.lo.s, .slice A1 n1 c1, .int .i64 k.lo.e, .bool k.hi.s, .slice A2 n2 c2, .int .i64 k.hi.e] 31)) (.cells #[.int .i64 a, .int .i64 b] 3)
 have xz := Blk.new (w.alloc (.cells #[.int .i64 9, .int .i64 a, .int .i64 b, .bool k.lo.s, .slice A1 n1 c1, .int .i64 k.lo.e, .bool k.hi.s, .slice A2 n2 c2, .int .i64 k.hi.e] 31)) #[.int .i64 a, .int .i64 b] 3
 have BB2 := below_next BB BB.size b1 rfl rfl rfl rfl
 have HR : ZsEnd [a, b] w (.returned (.slice (some ⟨(w.alloc (.cells #[.int .i64 9, .int .i64 a, .int .i64 b, .bool k.lo.s, .slice A1 n1 c1, .int .i64 k.lo.e, .bool k.hi.s, .slice A2 n2 c2, .int .i64 k.hi.e] 31)).heap.size, 0, none⟩) 2 2)) ((w.alloc (.cells #[.int .i64 9, .int .i64 a, .int .i64 b, .bool k.lo.s, .slice A1 n1 c1, .int .i64 k.lo.e, .bool k.hi.s, .slice A2 n2 c2, .int .i64 k.hi.e] 31)).alloc (.cells #[.int .i64 a, .int .i64 b] 3)) := ⟨_, _, _, rfl, rfl, ⟨by decide, by decide, fun _ => ⟨_, _, rfl, fun i hi => by
  rcases (show i = 0 ∨ i = 1 by omega) with rfl | rfl
  ·exact xz.at 0
  exact xz.at 1⟩⟩, BB2, fun bb oo e => by cases e; simp⟩
 have HRR := Lib.hid HR
 clear HR
 go_enter Tryz.func73, Tryz.ntmps73
 go_wp2
 go_ret
 simpa using HRR.out
theorem top_10 {w : World} {a b : Int} {k : Iv} {A1 : Option Addr} {n1 c1 : Nat} {A2 : Option Addr} {n2 c2 : Nat} :
  Calls Tryz.prog 73 #[.agg #[.int .i64 10, .int .i64 a, .int .i64 b, .bool k.lo.s, .slice A1 n1 c1, .int .i64 k.lo.e, .bool k.hi.s, .slice A2 n2 c2, .int .i64 k.hi.e]] w (ZsEnd [a] w) := by
 have BB := below_alloc w (.cells #[.int .i64 10, .int .i64 a, .int .i64 b, .bool k.lo.s, .slice A1 n1 c1, .int .i64 k.lo.e, .bool k.hi.s, .slice A2 n2 c2, .int .i64 k.hi.e] 31)
 have xl := Blk.new w #[.int .i64 10, .int .i64 a, .int .i64 b, .bool k.lo.s, .slice A1 n1 c1, .int .i64 k.lo.e, .bool k.hi.s, .slice A2 n2 c2, .int .i64 k.hi.e] 31
 have m0 : World.cell? _ ⟨_, 0, none⟩ = some (.int .i64 10) := xl.at 0
 have m1 : World.cell? _ ⟨_, 1, none⟩ = some (.int .i64 a) := xl.at 1
 have m2 : World.cell? _ ⟨_, 2, none⟩ = some (.int .i64 b) := xl.at 2
 have m3 : World.cell? _ ⟨_, 3, none⟩ = some (.bool k.lo.s) := xl.at 3
 have m4 : World.cell? _ ⟨_, 4, none⟩ = some (.slice A1 n1 c1) := xl.at 4
 have m5 : World.cell? _ ⟨_, 5, none⟩ = some (.int .i64 k.lo.e) := xl.at 5
 have m6 : World.cell? _ ⟨_, 6, none⟩ = some (.bool k.hi.s) := xl.at 6
 have m7 : World.cell? _ ⟨_, 7, none⟩ = some (.slice A2 n2 c2) := xl.at 7
 have m8 : World.cell? _ ⟨_, 8, none⟩ = some (.int .i64 k.hi.e) := xl.at 8
 clear xl
 have b1 := below_alloc (w.alloc (.cells #[.int .i64 10, .int .i64 a, .int .i64 b, .bool k.lo.s, .slice A1 n1 c1, .int .i64 k.lo.e, .bool k.hi.s, .slice A2 n2 c2, .int .i64 k.hi.e] 31)) (.cells #[.int .i64 a] 3)
 have xz := Blk.new (w.alloc (.cells #[.int .i64 10, .int .i64 a, .int .i64 b, .bool k.lo.s, .slice A1 n1 c1, .int .i64 k.lo.e, .bool k.hi.s, .slice A2 n2 c2, .int .i64 k.hi.e] 31)) #[.int .i64 a] 3
 have BB2 := below_next BB BB.size b1 rfl rfl rfl rfl
 have HR : ZsEnd [a] w (.returned (.slice (some ⟨(w.alloc (.cells #[.int .i64 10, .int .i64 a, .int .i64 b, .bool k.lo.s, .slice A1 n1 c1, .int .i64 k.lo.e, .bool k.hi.s, .slice A2 n2 c2, .int .i64 k.hi.e] 31)).heap.size, 0, none⟩) 1 1)) ((w.alloc (.cells #[.int .i64 10, .int .i64 a, .int .i64 b, .bool k.lo.s, .slice A1 n1 c1, .int .i64 k.lo.e, .bool k.hi.s, .slice A2 n2 c2, .int .i64 k.hi.e] 31)).alloc (.cells #[.int .i64 a] 3)) := ⟨_, _, _, rfl, rfl, ⟨by decide, by decide, fun _ => ⟨_, _, rfl, fun i hi => by
  obtain rfl : i = 0 := by omega
  exact xz.at 0⟩⟩, BB2, fun bb oo e => by cases e; simp⟩
 have HRR := Lib.hid HR
 clear HR
 go_enter Tryz.func73, Tryz.ntmps73
 go_wp2
 go_ret
 simpa using HRR.out
theorem top_11 {w : World} {a b : Int} {k : Iv} {A1 : Option Addr} {n1 c1 : Nat} {A2 : Option Addr} {n2 c2 : Nat} :
  Calls Tryz.prog 73 #[.agg #[.int .i64 11, .int .i64 a, .int .i64 b, .bool k.lo.s, .slice A1 n1 c1, .int .i64 k.lo.e, .bool k.hi.s, .slice A2 n2 c2, .int .i64 k.hi.e]] w (ZsEnd [a] w) := by
 have BB := below_alloc w (.cells #[.int .i64 11, .int .i64 a, .int .i64 b, .bool k.lo.s, .slice A1 n1 c1, .int .i64 k.lo.e, .bool k.hi.s, .slice A2 n2 c2, .int .i64 k.hi.e] 31)
 have xl := Blk.new w #[.int .i64 11, .int .i64 a, .int .i64 b, .bool k.lo.s, .slice A1 n1 c1, .int .i64 k.lo.e, .bool k.hi.s, .slice A2 n2 c2, .int .i64 k.hi.e] 31
 have m0 : World.cell? _ ⟨_, 0, none⟩ = some (.int .i64 11) := xl.at 0
 have m1 : World.cell? _ ⟨_, 1, none⟩ = some (.int .i64 a) := xl.at 1
 have m2 : World.cell? _ ⟨_, 2, none⟩ = some (.int .i64 b) := xl.at 2
 have m3 : World.cell? _ ⟨_, 3, none⟩ = some (.bool k.lo.s) := xl.at 3
 have m4 : World.cell? _ ⟨_, 4, none⟩ = some (.slice A1 n1 c1) := xl.at 4
 have m5 : World.cell? _ ⟨_, 5, none⟩ = some (.int .i64 k.lo.e) := xl.at 5
 have m6 : World.cell? _ ⟨_, 6, none⟩ = some (.bool k.hi.s) := xl.at 6
 have m7 : World.cell? _ ⟨_, 7, none⟩ = some (.slice A2 n2 c2) := xl.at 7
 have m8 : World.cell? _ ⟨_, 8, none⟩ = some (.int .i64 k.hi.e) := xl.at 8
 clear xl
 have b1 := below_alloc (w.alloc (.cells #[.int .i64 11, .int .i64 a, .int .i64 b, .bool k.lo.s, .slice A1 n1 c1, .int .i64 k.lo.e, .bool k.hi.s, .slice A2 n2 c2, .int .i64 k.hi.e] 31)) (.cells #[.int .i64 a] 3)
 have xz := Blk.new (w.alloc (.cells #[.int .i64 11, .int .i64 a, .int .i64 b, .bool k.lo.s, .slice A1 n1 c1, .int .i64 k.lo.e, .bool k.hi.s, .slice A2 n2 c2, .int .i64 k.hi.e] 31)) #[.int .i64 a] 3
 have BB2 := below_next BB BB.size b1 rfl rfl rfl rfl
 have HR : ZsEnd [a] w (.returned (.slice (some ⟨(w.alloc (.cells #[.int .i64 11, .int .i64 a, .int .i64 b, .bool k.lo.s, .slice A1 n1 c1, .int .i64 k.lo.e, .bool k.hi.s, .slice A2 n2 c2, .int .i64 k.hi.e] 31)).heap.size, 0, none⟩) 1 1)) ((w.alloc (.cells #[.int .i64 11, .int .i64 a, .int .i64 b, .bool k.lo.s, .slice A1 n1 c1, .int .i64 k.lo.e, .bool k.hi.s, .slice A2 n2 c2, .int .i64 k.hi.e] 31)).alloc (.cells #[.int .i64 a] 3)) := ⟨_, _, _, rfl, rfl, ⟨by decide, by decide, fun _ => ⟨_, _, rfl, fun i hi => by
  obtain rfl : i = 0 := by omega
  exact xz.at 0⟩⟩, BB2, fun bb oo e => by cases e; simp⟩
 have HRR := Lib.hid HR
 clear HR
 go_enter Tryz.func73, Tryz.ntmps73
 go_wp2
 go_ret
 simpa using HRR.out
theorem top_12 {w : World} {a b : Int} {k : Iv} {A1 : Option Addr} {n1 c1 : Nat} {A2 : Option Addr} {n2 c2 : Nat} :
  Calls Tryz.prog 73 #[.agg #[.int .i64 12, .int .i64 a, .int .i64 b, .bool k.lo.s, .slice A1 n1 c1, .int .i64 k.lo.e, .bool k.hi.s, .slice A2 n2 c2, .int .i64 k.hi.e]] w (ZsEnd [a] w) := by
 have BB := below_alloc w (.cells #[.int .i64 12, .int .i64 a, .int .i64 b, .bool k.lo.s, .slice A1 n1 c1, .int .i64 k.lo.e, .bool k.hi.s, .slice A2 n2 c2, .int .i64 k.hi.e] 31)
 have xl := Blk.new w #[.int .i64 12, .int .i64 a, .int .i64 b, .bool k.lo.s, .slice A1 n1 c1, .int .i64 k.lo.e, .bool k.hi.s, .slice A2 n2 c2, .int .i64 k.hi.e] 31
 have m0 : World.cell? _ ⟨_, 0, none⟩ = some (.int .i64 12) := xl.at 0
 have m1 : World.cell? _ ⟨_, 1, none⟩ = some (.int .i64 a) := xl.at 1
 have m2 : World.cell? _ ⟨_, 2, none⟩ = some (.int .i64 b) := xl.at 2
 have m3 : World.cell? _ ⟨_, 3, none⟩ = some (.bool k.lo.s) := xl.at 3
 have m4 : World.cell? _ ⟨_, 4, none⟩ = some (.slice A1 n1 c1) := xl.at 4
 have m5 : World.cell? _ ⟨_, 5, none⟩ = some (.int .i64 k.lo.e) := xl.at 5
 have m6 : World.cell? _ ⟨_, 6, none⟩ = some (.bool k.hi.s) := xl.at 6
 have m7 : World.cell? _ ⟨_, 7, none⟩ = some (.slice A2 n2 c2) := xl.at 7
 have m8 : World.cell? _ ⟨_, 8, none⟩ = some (.int .i64 k.hi.e) := xl.at 8
 clear xl
 have b1 := below_alloc (w.alloc (.cells #[.int .i64 12, .int .i64 a, .int .i64 b, .bool k.lo.s, .slice A1 n1 c1, .int .i64 k.lo.e, .bool k.hi.s, .slice A2 n2 c2, .int .i64 k.hi.e] 31)) (.cells #[.int .i64 a] 3)
 have xz := Blk.new (w.alloc (.cells #[.int .i64 12, .int .i64 a, .int .i64 b, .bool k.lo.s, .slice A1 n1 c1, .int .i64 k.lo.e, .bool k.hi.s, .slice A2 n2 c2, .int .i64 k.hi.e] 31)) #[.int .i64 a] 3
 have BB2 := below_next BB BB.size b1 rfl rfl rfl rfl
 have HR : ZsEnd [a] w (.returned (.slice (some ⟨(w.alloc (.cells #[.int .i64 12, .int .i64 a, .int .i64 b, .bool k.lo.s, .slice A1 n1 c1, .int .i64 k.lo.e, .bool k.hi.s, .slice A2 n2 c2, .int .i64 k.hi.e] 31)).heap.size, 0, none⟩) 1 1)) ((w.alloc (.cells #[.int .i64 12, .int .i64 a, .int .i64 b, .bool k.lo.s, .slice A1 n1 c1, .int .i64 k.lo.e, .bool k.hi.s, .slice A2 n2 c2, .int .i64 k.hi.e] 31)).alloc (.cells #[.int .i64 a] 3)) := ⟨_, _, _, rfl, rfl, ⟨by decide, by decide, fun _ => ⟨_, _, rfl, fun i hi => by
  obtain rfl : i = 0 := by omega
  exact xz.at 0⟩⟩, BB2, fun bb oo e => by cases e; simp⟩
 have HRR := Lib.hid HR
 clear HR
 go_enter Tryz.func73, Tryz.ntmps73
 go_wp2
 go_ret
 simpa using HRR.out
theorem top_13 {w : World} {a b : Int} {k : Iv} {A1 : Option Addr} {n1 c1 : Nat} {A2 : Option Addr} {n2 c2 : Nat} :
  Calls Tryz.prog 73 #[.agg #[.int .i64 13, .int .i64 a, .int .i64 b, .bool k.lo.s, .slice A1 n1 c1, .int .i64 k.lo.e, .bool k.hi.s, .slice A2 n2 c2, .int .i64 k.hi.e]] w (ZsEnd [a] w) := by
 have BB := below_alloc w (.cells #[.int .i64 13, .int .i64 a, .int .i64 b, .bool k.lo.s, .slice A1 n1 c1, .int .i64 k.lo.e, .bool k.hi.s, .slice A2 n2 c2, .int .i64 k.hi.e] 31)
 have xl := Blk.new w #[.int .i64 13, .int .i64 a, .int .i64 b, .bool k.lo.s, .slice A1 n1 c1, .int .i64 k.lo.e, .bool k.hi.s, .slice A2 n2 c2, .int .i64 k.hi.e] 31
 have m0 : World.cell? _ ⟨_, 0, none⟩ = some (.int .i64 13) := xl.at 0
 have m1 : World.cell? _ ⟨_, 1, none⟩ = some (.int .i64 a) := xl.at 1
 have m2 : World.cell? _ ⟨_, 2, none⟩ = some (.int .i64 b) := xl.at 2
 have m3 : World.cell? _ ⟨_, 3, none⟩ = some (.bool k.lo.s) := xl.at 3
 have m4 : World.cell? _ ⟨_, 4, none⟩ = some (.slice A1 n1 c1) := xl.at 4
 have m5 : World.cell? _ ⟨_, 5, none⟩ = some (.int .i64 k.lo.e) := xl.at 5
 have m6 : World.cell? _ ⟨_, 6, none⟩ = some (.bool k.hi.s) := xl.at 6
 have m7 : World.cell? _ ⟨_, 7, none⟩ = some (.slice A2 n2 c2) := xl.at 7
 have m8 : World.cell? _ ⟨_, 8, none⟩ = some (.int .i64 k.hi.e) := xl.at 8
 clear xl
 have b1 := below_alloc (w.alloc (.cells #[.int .i64 13, .int .i64 a, .int .i64 b, .bool k.lo.s, .slice A1 n1 c1, .int .i64 k.lo.e, .bool k.hi.s, .slice A2 n2 c2, .int .i64 k.hi.e] 31)) (.cells #[.int .i64 a] 3)
 have xz := Blk.new (w.alloc (.cells #[.int .i64 13, .int .i64 a, .int .i64 b, .bool k.lo.s, .slice A1 n1 c1, .int .i64 k.lo.e, .bool k.hi.s, .slice A2 n2 c2, .int .i64 k.hi.e] 31)) #[.int .i64 a] 3
 have BB2 := below_next BB BB.size b1 rfl rfl rfl rfl
 have HR : ZsEnd [a] w (.returned (.slice (some ⟨(w.alloc (.cells #[.int .i64 13, .int .i64 a, .int .i64 b, .bool k.lo.s, .slice A1 n1 c1, .int .i64 k.lo.e, .bool k.hi.s, .slice A2 n2 c2, .int .i64 k.hi.e] 31)).heap.size, 0, none⟩) 1 1)) ((w.alloc (.cells #[.int .i64 13, .int .i64 a, .int .i64 b, .bool k.lo.s, .slice A1 n1 c1, .int .i64 k.lo.e, .bool k.hi.s, .slice A2 n2 c2, .int .i64 k.hi.e] 31)).alloc (.cells #[.int .i64 a] 3)) := ⟨_, _, _, rfl, rfl, ⟨by decide, by decide, fun _ => ⟨_, _, rfl, fun i hi => by
  obtain rfl : i = 0 := by omega
  exact xz.at 0⟩⟩, BB2, fun bb oo e => by cases e; simp⟩
 have HRR := Lib.hid HR
 clear HR
 go_enter Tryz.func73, Tryz.ntmps73
 go_wp2
 go_ret
 simpa using HRR.out
theorem top_0 {w : World} {op a b : Int} {k : Iv} {A1 : Option Addr} {n1 c1 : Nat} {A2 : Option Addr} {n2 c2 : Nat} (d6 : ¬ op = 6) (d7 : ¬ op = 7) (d8 : ¬ op = 8) (d9 : ¬ op = 9) (d10 : ¬ op = 10) (d11 : ¬ op = 11) (d12 : ¬ op = 12) (d13 : ¬ op = 13) :
  Calls Tryz.prog 73 #[.agg #[.int .i64 op, .int .i64 a, .int .i64 b, .bool k.lo.s, .slice A1 n1 c1, .int .i64 k.lo.e, .bool k.hi.s, .slice A2 n2 c2, .int .i64 k.hi.e]] w (ZsEnd [] w) := by
 have BB := below_alloc w (.cells #[.int .i64 op, .int .i64 a, .int .i64 b, .bool k.lo.s, .slice A1 n1 c1, .int .i64 k.lo.e, .bool k.hi.s, .slice A2 n2 c2, .int .i64 k.hi.e] 31)
 have xl := Blk.new w #[.int .i64 op, .int .i64 a, .int .i64 b, .bool k.lo.s, .slice A1 n1 c1, .int .i64 k.lo.e, .bool k.hi.s, .slice A2 n2 c2, .int .i64 k.hi.e] 31
 have m0 : World.cell? _ ⟨_, 0, none⟩ = some (.int .i64 op) := xl.at 0
 have m1 : World.cell? _ ⟨_, 1, none⟩ = some (.int .i64 a) := xl.at 1
 have m2 : World.cell? _ ⟨_, 2, none⟩ = some (.int .i64 b) := xl.at 2
 have m3 : World.cell? _ ⟨_, 3, none⟩ = some (.bool k.lo.s) := xl.at 3
 have m4 : World.cell? _ ⟨_, 4, none⟩ = some (.slice A1 n1 c1) := xl.at 4
 have m5 : World.cell? _ ⟨_, 5, none⟩ = some (.int .i64 k.lo.e) := xl.at 5
 have m6 : World.cell? _ ⟨_, 6, none⟩ = some (.bool k.hi.s) := xl.at 6
 have m7 : World.cell? _ ⟨_, 7, none⟩ = some (.slice A2 n2 c2) := xl.at 7
 have m8 : World.cell? _ ⟨_, 8, none⟩ = some (.int .i64 k.hi.e) := xl.at 8
 clear xl
 have HR : ZsEnd [] w (.returned (.slice none 0 0)) (w.alloc (.cells #[.int .i64 op, .int .i64 a, .int .i64 b, .bool k.lo.s, .slice A1 n1 c1, .int .i64 k.lo.e, .bool k.hi.s, .slice A2 n2 c2, .int .i64 k.hi.e] 31)) := ⟨_, _, _, rfl, rfl, ⟨by decide, by decide, fun h => absurd rfl h⟩, BB, fun bb oo e => by cases e⟩
 have HRR := Lib.hid HR
 clear HR
 go_enter Tryz.func73, Tryz.ntmps73
 go_wp2
 go_ret
 exact HRR.out
theorem toperands_any {w : World} {l : Ln} {A1 : Option Addr} {n1 c1 : Nat} {A2 : Option Addr} {n2 c2 : Nat} :
  Calls Tryz.prog 73 #[.agg #[.int .i64 l.op, .int .i64 l.a, .int .i64 l.b, .bool l.k.lo.s, .slice A1 n1 c1, .int .i64 l.k.lo.e, .bool l.k.hi.s, .slice A2 n2 c2, .int .i64 l.k.hi.e]] w (ZsEnd (opsL l) w) := by
 obtain ⟨op, a, b, k⟩ := l
 by_cases d6 : op = 6
 ·subst d6
  have e : opsL ⟨6, a, b, k⟩ = [a, b] := by simp [opsL]
  rw [e]
  exact top_6
 by_cases d7 : op = 7
 ·subst d7
  have e : opsL ⟨7, a, b, k⟩ = [a, b] := by simp [opsL]
  rw [e]
  exact top_7
 by_cases d8 : op = 8
 ·subst d8
  have e : opsL ⟨8, a, b, k⟩ = [a, b] := by simp [opsL]
  rw [e]
  exact top_8
 by_cases d9 : op = 9
 ·subst d9
  have e : opsL ⟨9, a, b, k⟩ = [a, b] := by simp [opsL]
  rw [e]
  exact top_9
 by_cases d10 : op = 10
 ·subst d10
  have e : opsL ⟨10, a, b, k⟩ = [a] := by simp [opsL]
  rw [e]
  exact top_10
 by_cases d11 : op = 11
 ·subst d11
  have e : opsL ⟨11, a, b, k⟩ = [a] := by simp [opsL]
  rw [e]
  exact top_11
 by_cases d12 : op = 12
 ·subst d12
  have e : opsL ⟨12, a, b, k⟩ = [a] := by simp [opsL]
  rw [e]
  exact top_12
 by_cases d13 : op = 13
 ·subst d13
  have e : opsL ⟨13, a, b, k⟩ = [a] := by simp [opsL]
  rw [e]
  exact top_13
 have e : opsL ⟨op, a, b, k⟩ = [] := by simp [opsL, d6, d7, d8, d9, d10, d11, d12, d13]
 rw [e]
 exact top_0 d6 d7 d8 d9 d10 d11 d12 d13
end Go.Proofs.YtlpeheonbbaffaaGreatDoor
