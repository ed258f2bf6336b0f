/-
 Contracts of slices.Backward, over []uint64 and over []byte, at this translation: the value that it hands back goes through the slice from its end. Condition: the slice has at most 1000000 elements; the loop's rounds keep the elements that are still to come.
-/
import Derived.RangeFuncBox
import Derived.RangeFuncLeaves
import Derived.Shelf.Abstract
import Derived.WalkKit
import Derived.OwnWalkIn
import Derived.TacticsInMore
import Derived.LoopNIn
import Derived.LoopIn
import Derived.Test.YtdhdebapjlcjdaaGreatDoorProg
import Derived.Test.YtdhdebapjlcjdaaGreatDoorQKo
set_option maxHeartbeats 2000000
set_option maxRecDepth 100000
namespace Go.Proofs.YtdhdebapjlcjdaaGreatDoor
open Go Go.RowKit Go.Shelf
attribute [local go_sem] Oper.semAt_some

theorem back_u64 (F : Fence) (n : Nat) (h : F.fn 80) (hro : F.round = none) (a : Option Addr) (len cap : Nat) (w : World) :
  CallsIn F n Tryz.prog 80 #[.slice a len cap] w fun e w' => e = .returned (.func (.func 117) #[] #[.pointer (some ⟨w.heap.size, 0, none⟩)]) ∧ w' = w.alloc (.cells #[.slice a len cap] 23) := by
 refine callsIn_of_wp Tryz.func80 rfl h ?_ hro
 simp only [Tryz.ntmps80, List.size_toArray, List.length_cons, List.length_nil, Nat.reduceAdd, Nat.reduceSub, Array.replicate_succ, Array.replicate_zero, List.push_toArray, List.append_toArray, List.nil_append, List.cons_append]
 gi_wp2
 go_ret
 exact ⟨rfl, rfl⟩
/-- what lies in the slice's box, and the element that is read ahead of round k -/
def BackCu64 (Bs : Nat) (A : Option Addr) (len cap : Nat) (z : Nat → Nat) (k : Nat) (W : World) : Prop :=
 W.cell? ⟨Bs, 0, none⟩ = some (.slice A len cap) ∧ (k < len → ∃ b off, A = some ⟨b, off, none⟩ ∧ W.cell? ⟨b, off + (len - 1 - k), none⟩ = some (.int .u64 (z (len - 1 - k) : Int)))
theorem backs_u64 (F : Fence) (n : Nat) (h : F.fn 117) (hro : F.round = none) (hn : 1 ≤ n) (Bs : Nat) (A : Option Addr) (len cap : Nat) (z : Nat → Nat) (hlen : len ≤ 1000000) :
  SeqAt F n Tryz.prog 117 #[.pointer (some ⟨Bs, 0, none⟩)] (fun x : Nat × Nat => #[Value.int .i64 (x.1 : Int), Value.int .u64 (x.2 : Int)]) (fun k => (len - 1 - k, z (len - 1 - k))) len (BackCu64 Bs A len cap z) := by
 intro l J Jx W hC hY h0
 refine callsIn_of_wp Tryz.func117 rfl h ?_ hro
 simp only [Tryz.ntmps117, List.size_toArray, List.length_cons, List.length_nil, Nat.reduceAdd, Nat.reduceSub, Array.replicate_succ, Array.replicate_zero, List.push_toArray, List.append_toArray, List.nil_append, List.cons_append]
 have c0 := (hC 0 W h0).1
 have w0 : IntKind.i64.wrap ((len : Int) - 1) = (len : Int) - 1 := IntWalk.i64_in _ (by omega)
 gi_wp2
 gi_loopw [3] (fun i wr => ∃ m : Nat, m ≤ len ∧ i = .int .i64 ((m : Int) - 1) ∧ J (len - m) wr) (fun i _ => (intOf i + 1).toNat)
 case atStart => exact ⟨len, Nat.le_refl _, by first | rfl | simp, by rw [Nat.sub_self]; exact h0⟩
 case round =>
  obtain ⟨m, hm, rfl, hJ⟩ := hrel
  obtain ⟨c1, c2⟩ := hC _ wr hJ
  rcases Nat.eq_zero_or_pos m with rfl | hm0
  ·clear c0 w0 c1 c2 hC hY
   gi_wp2
   go_end0
   exact ⟨⟨_, rfl⟩, .inl (by rw [Nat.sub_zero] at hJ; exact hJ)⟩
  ·obtain ⟨j, rfl⟩ : ∃ j, m = j + 1 := ⟨m - 1, by omega⟩
   have ek : len - 1 - (len - (j + 1)) = j := by omega
   obtain ⟨b, off, rfl, c3⟩ := c2 (by omega)
   rw [ek] at c3
   obtain ⟨fn, tmps, assign, body, hy, hR⟩ := hY _ wr hJ (by omega)
   try dsimp only at hy
   rw [ek] at hy
   have e1 : ((j + 1 : Nat) : Int) - 1 = (j : Int) := by omega
   have w1 : IntKind.i64.wrap ((j : Int) - 1) = (j : Int) - 1 := IntWalk.i64_in _ (by omega)
   have hj : j < len := by omega
   rw [e1]
   clear c0 w0 c2 e1
   gi_wp2
   refine hR.mono ?_
   rintro e W3 (⟨rfl, hJ3⟩ | ⟨rfl, hJx3⟩)
   ·clear hy
    gi_wp2
    go_roundw
    case rel => exact ⟨j, by omega, by first | rfl | simp, by rw [show len - j = len - (j + 1) + 1 by omega]; exact hJ3⟩
    case measure => simp [intOf]
   ·gi_wp2
    refine bodyPost_ret (results_none rfl _ _ _) rfl ?_
    exact ⟨⟨_, rfl⟩, .inr ⟨_, by omega, hJx3⟩⟩

theorem back_u8 (F : Fence) (n : Nat) (h : F.fn 128) (hro : F.round = none) (a : Option Addr) (len cap : Nat) (w : World) :
  CallsIn F n Tryz.prog 128 #[.slice a len cap] w fun e w' => e = .returned (.func (.func 151) #[] #[.pointer (some ⟨w.heap.size, 0, none⟩)]) ∧ w' = w.alloc (.cells #[.slice a len cap] 77) := by
 refine callsIn_of_wp Tryz.func128 rfl h ?_ hro
 simp only [Tryz.ntmps128, List.size_toArray, List.length_cons, List.length_nil, Nat.reduceAdd, Nat.reduceSub, Array.replicate_succ, Array.replicate_zero, List.push_toArray, List.append_toArray, List.nil_append, List.cons_append]
 gi_wp2
 go_ret
 exact ⟨rfl, rfl⟩
/-- what lies in the slice's box, and the element that is read ahead of round k -/
def BackCu8 (Bs : Nat) (A : Option Addr) (len cap : Nat) (z : Nat → Nat) (k : Nat) (W : World) : Prop :=
 W.cell? ⟨Bs, 0, none⟩ = some (.slice A len cap) ∧ (k < len → ∃ b off, A = some ⟨b, off, none⟩ ∧ W.cell? ⟨b, off + (len - 1 - k), none⟩ = some (.int .u8 (z (len - 1 - k) : Int)))
theorem backs_u8 (F : Fence) (n : Nat) (h : F.fn 151) (hro : F.round = none) (hn : 1 ≤ n) (Bs : Nat) (A : Option Addr) (len cap : Nat) (z : Nat → Nat) (hlen : len ≤ 1000000) :
  SeqAt F n Tryz.prog 151 #[.pointer (some ⟨Bs, 0, none⟩)] (fun x : Nat × Nat => #[Value.int .i64 (x.1 : Int), Value.int .u8 (x.2 : Int)]) (fun k => (len - 1 - k, z (len - 1 - k))) len (BackCu8 Bs A len cap z) := by
 intro l J Jx W hC hY h0
 refine callsIn_of_wp Tryz.func151 rfl h ?_ hro
 simp only [Tryz.ntmps151, List.size_toArray, List.length_cons, List.length_nil, Nat.reduceAdd, Nat.reduceSub, Array.replicate_succ, Array.replicate_zero, List.push_toArray, List.append_toArray, List.nil_append, List.cons_append]
 have c0 := (hC 0 W h0).1
 have w0 : IntKind.i64.wrap ((len : Int) - 1) = (len : Int) - 1 := IntWalk.i64_in _ (by omega)
 gi_wp2
 gi_loopw [3] (fun i wr => ∃ m : Nat, m ≤ len ∧ i = .int .i64 ((m : Int) - 1) ∧ J (len - m) wr) (fun i _ => (intOf i + 1).toNat)
 case atStart => exact ⟨len, Nat.le_refl _, by first | rfl | simp, by rw [Nat.sub_self]; exact h0⟩
 case round =>
  obtain ⟨m, hm, rfl, hJ⟩ := hrel
  obtain ⟨c1, c2⟩ := hC _ wr hJ
  rcases Nat.eq_zero_or_pos m with rfl | hm0
  ·clear c0 w0 c1 c2 hC hY
   gi_wp2
   go_end0
   exact ⟨⟨_, rfl⟩, .inl (by rw [Nat.sub_zero] at hJ; exact hJ)⟩
  ·obtain ⟨j, rfl⟩ : ∃ j, m = j + 1 := ⟨m - 1, by omega⟩
   have ek : len - 1 - (len - (j + 1)) = j := by omega
   obtain ⟨b, off, rfl, c3⟩ := c2 (by omega)
   rw [ek] at c3
   obtain ⟨fn, tmps, assign, body, hy, hR⟩ := hY _ wr hJ (by omega)
   try dsimp only at hy
   rw [ek] at hy
   have e1 : ((j + 1 : Nat) : Int) - 1 = (j : Int) := by omega
   have w1 : IntKind.i64.wrap ((j : Int) - 1) = (j : Int) - 1 := IntWalk.i64_in _ (by omega)
   have hj : j < len := by omega
   rw [e1]
   clear c0 w0 c2 e1
   gi_wp2
   refine hR.mono ?_
   rintro e W3 (⟨rfl, hJ3⟩ | ⟨rfl, hJx3⟩)
   ·clear hy
    gi_wp2
    go_roundw
    case rel => exact ⟨j, by omega, by first | rfl | simp, by rw [show len - j = len - (j + 1) + 1 by omega]; exact hJ3⟩
    case measure => simp [intOf]
   ·gi_wp2
    refine bodyPost_ret (results_none rfl _ _ _) rfl ?_
    exact ⟨⟨_, rfl⟩, .inr ⟨_, by omega, hJx3⟩⟩

end Go.Proofs.YtdhdebapjlcjdaaGreatDoor
