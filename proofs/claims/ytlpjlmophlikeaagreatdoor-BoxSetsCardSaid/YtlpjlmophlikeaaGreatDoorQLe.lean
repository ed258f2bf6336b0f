/-
 Rows of numbers that a call owns: how one more is appended; contracts of slices' MinFunc and MaxFunc over rows of numbers, of arith's least and greatest, at this translation. Condition: the slices read as limbs, the table of math/bits reads as its text lays it.
-/
import Derived.Test.YtlpjlmophlikeaaGreatDoorQLb
import Derived.Test.YtlpjlmophlikeaaGreatDoorQIi
import Derived.Test.YtlpjlmophlikeaaGreatDoorQRs
import Derived.Test.YtlpjlmophlikeaaGreatDoorQRj
import Derived.Maps.AppendAt
namespace Go.Proofs.YtlpjlmophlikeaaGreatDoor
open Go.RowKit

/-- a row of the call's own, none of whose cells is a limb -/
def RowN (w : World) (base : Nat) (e : TypeId) (size : Nat) (v : Value) (n : Nat) (xs : List Value) : Prop :=
 w.ownsRow base e size v n xs ∧ ∀ g, v.ownBlock = some g → ∀ i x : Nat, w.cell? ⟨g, i, none⟩ ≠ some (.int .u64 (x : Int))
def NoL (u : Value) : Prop := ∀ x : Nat, u ≠ .int .u64 (x : Int)
theorem nol_at {cs : Array Value} (h : ∀ u ∈ cs, NoL u) (i x : Nat) : cs[i]? ≠ some (.int .u64 (x : Int)) := by
 intro h2
 obtain ⟨hi, h3⟩ := Array.getElem?_eq_some_iff.1 h2
 exact h _ (Array.getElem_mem hi) x h3
theorem RowN.lt {w : World} {base : Nat} {e : TypeId} {size : Nat} {v : Value} {n : Nat} {xs : List Value} (h : RowN w base e size v n xs) : ∀ k, v.ownBlock = some k → base ≤ k ∧ k < w.heap.size := h.1.lt
theorem RowN.next {w X w2 : World} {base : Nat} {e : TypeId} {size : Nat} {v : Value} {n : Nat} {xs : List Value} (h : RowN w base e size v n xs) (b : Below X.heap.size X w2) (he : X.heap = w.heap) : RowN w2 base e size v n xs := by
 have key : ∀ g, g < w.heap.size → w2.heap[g]? = w.heap[g]? := fun g hg => by
  rw [← he] at hg ⊢
  exact b.block g hg
 refine ⟨⟨h.1.1, ?_⟩, fun g hg i x => ?_⟩
 ·rcases h.1.2 with h2 | ⟨g, cap, cur, hv, hb, hg, h3⟩
  ·exact .inl h2
  ·exact .inr ⟨g, cap, cur, hv, hb, (key g (Array.getElem?_eq_some_iff.1 hg).1).trans hg, h3⟩
 ·have h2 := h.2 g hg i x
  have h3 := key g (h.lt g hg).2
  unfold World.cell? at h2 ⊢
  simpa [h3] using h2
/-- the cells of some numbers, one behind the other -/
def Cels (w : World) : List Rw → List Value → Prop
 | [], xs => xs = []
 | a :: L, xs => ∃ A n c ys, xs = .bool a.s :: .slice A n c :: .int .i64 a.e :: ys ∧ Rd w .u64 Go.Proofs.YtlpjlmophlikeaaGreatDoor.W A n c a.l ∧ Cels w L ys
theorem Cels.mv {w w' : World} (f : ∀ A n c l, Rd w .u64 Go.Proofs.YtlpjlmophlikeaaGreatDoor.W A n c l → Rd w' .u64 Go.Proofs.YtlpjlmophlikeaaGreatDoor.W A n c l) : ∀ {L : List Rw} {xs : List Value}, Cels w L xs → Cels w' L xs
 | [], _, h => h
 | _ :: _, _, ⟨A, n, c, ys, h1, h2, h3⟩ => ⟨A, n, c, ys, h1, f _ _ _ _ h2, h3.mv f⟩
theorem Cels.get {w : World} : ∀ {L : List Rw} {xs : List Value}, Cels w L xs → ∀ i, i < L.length → ∃ A n c, xs[i * 3]? = some (.bool (L.getD i Rw.zero).s) ∧ xs[i * 3 + 1]? = some (.slice A n c) ∧ xs[i * 3 + 2]? = some (.int .i64 (L.getD i Rw.zero).e) ∧ Rd w .u64 Go.Proofs.YtlpjlmophlikeaaGreatDoor.W A n c (L.getD i Rw.zero).l
 | [], _, _, i, hi => absurd hi (Nat.not_lt_zero _)
 | a :: L, _, ⟨A, n, c, ys, h1, h2, h3⟩, 0, _ => by subst h1; exact ⟨A, n, c, rfl, rfl, rfl, h2⟩
 | a :: L, _, ⟨A, n, c, ys, h1, h2, h3⟩, i + 1, hi => by
  subst h1
  obtain ⟨A', n', c', g1, g2, g3, g4⟩ := h3.get i (by simpa using hi)
  have e0 : (i + 1) * 3 = i * 3 + 3 := by omega
  refine ⟨A', n', c', ?_, ?_, ?_, ?_⟩
  ·rw [e0]; simpa using g1
  ·rw [show (i + 1) * 3 + 1 = (i * 3 + 1) + 3 by omega]; simpa using g2
  ·rw [show (i + 1) * 3 + 2 = (i * 3 + 2) + 3 by omega]; simpa using g3
  ·simpa using g4
def QRow (w : World) (base : Nat) (v : Value) (L : List Rw) : Prop := ∃ xs, RowN w base 27 3 v L.length xs ∧ Cels w L xs
instance {w w2 : World} {base : Nat} {v : Value} {L : List Rw} : Moves w w2 (QRow w base v L) (QRow w2 base v L) := ⟨fun _ b e h => by
 obtain ⟨xs, h1, h2⟩ := h
 exact ⟨xs, h1.next b e, h2.mv fun _ _ _ _ hr => hr.next b e⟩⟩
/-- a number in a row -/
def QAt (w : World) (g o : Nat) (a : Rw) : Prop := ∃ A n c, (w.cell? ⟨g, o, none⟩ = some (.bool a.s) ∧ w.cell? ⟨g, o + 1, none⟩ = some (.slice A n c) ∧ w.cell? ⟨g, o + 2, none⟩ = some (.int .i64 a.e)) ∧ Rd w .u64 Go.Proofs.YtlpjlmophlikeaaGreatDoor.W A n c a.l
def Qs (w : World) (g : Nat) (L : List Rw) : Prop := ∀ i, i < L.length → QAt w g (i * 3) (L.getD i Rw.zero)
theorem QAt.next {w X w2 : World} {g o : Nat} {a : Rw} (h : QAt w g o a) (b : Below X.heap.size X w2) (e : X.heap = w.heap) : QAt w2 g o a := by
 obtain ⟨A, n, c, ⟨h0, h1, h2⟩, r⟩ := h
 have key : ∀ (p : Addr) (v : Value), w.cell? p = some v → w2.cell? p = some v := fun p v h => by
  have h1 : X.cell? p = some v := by rw [← h]; unfold World.cell?; rw [e]
  exact (b.cell (World.block_lt_of_cell? X _ h1)).trans h1
 exact ⟨A, n, c, ⟨key _ _ h0, key _ _ h1, key _ _ h2⟩, r.next b e⟩
instance {w w2 : World} {g o : Nat} {a : Rw} : Moves w w2 (QAt w g o a) (QAt w2 g o a) := ⟨fun _ b e h => h.next b e⟩
theorem Qs.next {w X w2 : World} {g : Nat} {L : List Rw} (h : Qs w g L) (b : Below X.heap.size X w2) (e : X.heap = w.heap) : Qs w2 g L := fun i hi => (h i hi).next b e
instance {w w2 : World} {g : Nat} {L : List Rw} : Moves w w2 (Qs w g L) (Qs w2 g L) := ⟨fun _ b e h => h.next b e⟩
theorem QRow.form {w : World} {base : Nat} {v : Value} {L : List Rw} (h : QRow w base v L) (h0 : L ≠ []) : ∃ g cap, v = .slice (some ⟨g, 0, none⟩) L.length cap ∧ L.length ≤ cap ∧ cap ≤ 9223372036854775807 ∧ g < w.heap.size ∧ Qs w g L := by
 obtain ⟨xs, h1, h2⟩ := h
 have hlt := h1.lt
 rcases h1.1.2 with ⟨_, h3⟩ | ⟨g, cap, cur, hv, hb, hg, hc, hm, _, ht⟩
 ·exact absurd (List.eq_nil_of_length_eq_zero h3) h0
 ·have hcell := h1.1.cells (g := g) (by rw [hv]; rfl)
  have key : ∀ j u, xs[j]? = some u → w.cell? ⟨g, j, none⟩ = some u := fun j u hu => by
   have := hcell j u hu
   rwa [show (⟨g, 0, none⟩ : Addr).add j = ⟨g, j, none⟩ by unfold Addr.add; split <;> simp_all] at this
  refine ⟨g, cap, hv, hc, by unfold maxLen at hm; omega, (hlt g (by rw [hv]; rfl)).2, fun i hi => ?_⟩
  obtain ⟨A, n, c, g1, g2, g3, g4⟩ := h2.get i hi
  exact ⟨A, n, c, ⟨key _ _ g1, key _ _ g2, key _ _ g3⟩, g4⟩
theorem info_partsD {i : TypeId} {v : Value} {s b : Nat} (h : (Tryz.prog.info? i).map (fun i => (i.zero, i.size, i.bytes)) = some (some v, s, b)) : ∃ i0, Tryz.prog.info? i = some i0 ∧ i0.zero = some v ∧ i0.size = s ∧ i0.bytes = b := by
 cases hi : Tryz.prog.info? i with
 | none => rw [hi] at h; cases h
 | some i0 =>
  rw [hi] at h
  simp only [Option.map_some, Option.some.injEq, Prod.mk.injEq] at h
  exact ⟨i0, rfl, h.1, h.2.1, h.2.2⟩
end Go.Proofs.YtlpjlmophlikeaaGreatDoor
