/-
 A row of intervals that is an argument, opened and shut: each reads as two Dyads. No condition.
-/
import Derived.Test.YtlpjlmophlikeaaGreatDoorQIl
import Derived.Test.YtlpjlmophlikeaaGreatDoorQOpenI
set_option maxHeartbeats 200000
set_option maxRecDepth 100000
namespace Go.Proofs.YtlpjlmophlikeaaGreatDoor
open Go.ChangeShapes Go.WideShapes Go.ChangeAt Go.RowKit

/-- a slice whose elements read as intervals -/
structure RdS (w : World) (A : Option Addr) (n c : Nat) (X : Nat → Iv) : Prop where
 cap : n ≤ c
 max : c ≤ 9223372036854775807
 at_ : n ≠ 0 → ∃ b o, A = some ⟨b, o, none⟩ ∧ Ivs w b o n X
theorem ival_cells {H : Type} {enc : TypeId × Value → H} {W0 : World} {cs : List Value} {y : DataW H × List MemPlace} {fuel : Nat}
  (hf : DataW.trod enc Tryz.prog W0 0 (fun _ => true) true fuel 29 cs = some y) :
  ∃ s A n c l e t B m d r f, cs = [.bool s, .slice A n c, .int .i64 e, .bool t, .slice B m d, .int .i64 f] ∧ Rd W0 .u64 W A n c l ∧ Rd W0 .u64 W B m d r := by
 obtain ⟨y0, y1, n, hx, hl, t0, t1⟩ := trod_struct2 Tryz.underlying29 hf
 obtain ⟨c0, c1, c2, c3, c4, c5, rfl⟩ := list6 (hl.trans cells_ival)
 replace t0 : DataW.trod enc Tryz.prog W0 0 (fun _ => true) true n 27 [c0, c1, c2] = some y0 := by
  have e : List.take (Tryz.prog.cellsOf 27) (List.drop 0 [c0, c1, c2, c3, c4, c5]) = [c0, c1, c2] := by rw [cells_dyad]; rfl
  rw [← e]; exact t0
 replace t1 : DataW.trod enc Tryz.prog W0 0 (fun _ => true) true n 27 [c3, c4, c5] = some y1 := by
  have e : List.take (Tryz.prog.cellsOf 27) (List.drop 3 [c0, c1, c2, c3, c4, c5]) = [c3, c4, c5] := by rw [cells_dyad]; rfl
  rw [← e]; exact t1
 obtain ⟨s, A, n1, c1', l, e, h0, r0⟩ := open_dyad_cells t0
 obtain ⟨t, B, m, d', r, f, h1, r1⟩ := open_dyad_cells t1
 simp only [List.cons.injEq, and_true] at h0 h1
 obtain ⟨rfl, rfl, rfl⟩ := h0
 obtain ⟨rfl, rfl, rfl⟩ := h1
 exact ⟨s, A, n1, c1', l, e, t, B, m, d', r, f, rfl, r0.1, r1.1⟩
theorem open_ivals {H : Type} {enc : TypeId × Value → H} {W0 : World} {b0 : Nat} {v : Value} {d : DataW H} {ps : List MemPlace}
  (hval : Value.okWide Tryz.prog W0 .any b0 39 v) (h : DataW.Trod enc Tryz.prog W0 0 (fun _ => true) true 39 v d ps) : ∃ A n c X, v = .slice A n c ∧ RdS W0 A n c X := by
 obtain ⟨A, n, c, rfl⟩ := okWide_slice Tryz.underlying39 hval
 obtain ⟨fuel, hf⟩ := h
 rcases DataW.trod_slice Tryz.underlying39 hf with ⟨hcs, _⟩ | ⟨a, len, cap, elems, rest, k, _, hcs, _, _, hl, hm, hlen, hel, _, _⟩
 ·simp [Value.cells] at hcs
  obtain ⟨rfl, rfl, rfl⟩ := hcs
  exact ⟨none, 0, 0, fun _ => Iv.zero, rfl, by omega, by omega, fun h => absurd rfl h⟩
 ·simp [Value.cells] at hcs
  obtain ⟨rfl, rfl, rfl⟩ := hcs
  have each : ∀ i, i < n → ∃ x : Iv, ∃ A1 n1 c1 A2 n2 c2, (∀ j, j < 6 → W0.cell? ((a.add (i * 6)).add j) = [Value.bool x.lo.s, .slice A1 n1 c1, .int .i64 x.lo.e, .bool x.hi.s, .slice A2 n2 c2, .int .i64 x.hi.e][j]?) ∧ Rd W0 .u64 W A1 n1 c1 x.lo.l ∧ Rd W0 .u64 W A2 n2 c2 x.hi.l := by
   intro i hi
   have h1 := hel i hi
   rw [List.getElem?_eq_getElem (by omega), cells_ival, Option.bind_eq_some_iff] at h1
   obtain ⟨cs, h2, h3⟩ := h1
   obtain ⟨_, _, h4⟩ := World.cells?_some h2
   obtain ⟨s, A, n', c', l, e, t, B, m, d', r, f, rfl, r0, r1⟩ := ival_cells h3
   exact ⟨⟨⟨s, l, e, r0.lt⟩, ⟨t, r, f, r1.lt⟩⟩, A, n', c', B, m, d', h4, r0, r1⟩
  have hm' : c ≤ 9223372036854775807 := by unfold maxLen at hm; exact hm
  by_cases hn : n = 0
  ·exact ⟨some a, n, c, fun _ => Iv.zero, rfl, hl, hm', fun h => absurd hn h⟩
  obtain ⟨b, off, spot⟩ := a
  have hspot : spot = none := by
   obtain ⟨x, A1, n1, c1, A2, n2, c2, h1, _⟩ := each 0 (by omega)
   have h2 := h1 0 (by omega)
   simpa [Addr.add] using World.cell?_spot h2
  subst hspot
  have hX : ∀ i, ∃ x : Iv, i < n → IvAt W0 b (off + i * 6) x := fun i => by
   by_cases hi : i < n
   ·obtain ⟨x, A1, n1, c1, A2, n2, c2, h1, h2, h3⟩ := each i hi
    have key : ∀ j, j < 6 → W0.cell? ⟨b, off + i * 6 + j, none⟩ = [Value.bool x.lo.s, .slice A1 n1 c1, .int .i64 x.lo.e, .bool x.hi.s, .slice A2 n2 c2, .int .i64 x.hi.e][j]? := fun j hj => by
     have h4 := h1 j hj
     rw [Go.WideShapes.add_plain, Go.WideShapes.add_plain] at h4
     exact h4
    exact ⟨x, fun _ => ⟨A1, n1, c1, A2, n2, c2, ⟨key 0 (by omega), key 1 (by omega), key 2 (by omega), key 3 (by omega), key 4 (by omega), key 5 (by omega)⟩, h2, h3⟩⟩
   ·exact ⟨Iv.zero, fun h => absurd h hi⟩
  obtain ⟨X, hX⟩ := Classical.axiomOfChoice hX
  exact ⟨some ⟨b, off, none⟩, n, c, X, rfl, hl, hm', fun _ => ⟨b, off, rfl, fun i hi => hX i hi⟩⟩
theorem shut_ivals {H : Type} {enc : TypeId × Value → H} {W0 W' : World} {v : Value} {d : DataW H} {ps before : List MemPlace}
  (h : DataW.Trod enc Tryz.prog W0 0 (fun _ => true) true 39 v d ps) (hb : Below W0.heap.size W0 W') (hlt : ∀ x ∈ before, x.block < W0.heap.size) (hs : ∀ x ∈ ps, x ∈ before) :
  DataW.Trod enc Tryz.prog W' 0 (fun b => decide (b < W0.heap.size)) true 39 v d ps :=
 Below.trod laidOut (by kernel_rfl) (of_decide_eq_true (by kernel_rfl)) h hb (fun x hx => hlt x (hs x hx))

end Go.Proofs.YtlpjlmophlikeaaGreatDoor
