/-
  A slice of limbs that is an argument, opened: it reads as a list of naturals. No condition.
-/
import Derived.Test.YtdjklanmkjbifaaDoorCard
namespace Go.Proofs.YtdjklanmkjbifaaDoor
open Go.ChangeShapes Go.WideShapes Go.ChangeAt Go.RowKit

set_option maxRecDepth 100000 in
theorem open_rd {H : Type} {enc : TypeId × Value → H} {W0 : World} {b0 : Nat} {v : Value} {d : DataW H} {ps : List MemPlace}
    (hval : Value.okWide Tryd.prog W0 .any b0 22 v) (h : DataW.Trod enc Tryd.prog W0 0 (fun _ => true) true 22 v d ps) : ∃ A n c l, v = .slice A n c ∧ Rd W0 .u64 W A n c l := by
  obtain ⟨A, n, c, rfl⟩ := okWide_slice Tryd.underlying22 hval
  obtain ⟨fuel, hf⟩ := h
  rcases open_ints Tryd.underlying22 Tryd.underlying39 cellsU64 hf with ⟨hcs, _⟩ | ⟨a, n', c', zs, hcs, _, hl, hm, hz, _, hcell, hwz⟩
  · simp [Value.cells] at hcs
    obtain ⟨rfl, rfl, rfl⟩ := hcs
    exact ⟨none, 0, 0, [], rfl, Rd.nil _ _ _ _ (by omega)⟩
  · simp [Value.cells] at hcs
    obtain ⟨rfl, rfl, rfl⟩ := hcs
    have hz' : zs.length = c := by simpa using hz
    have hb : ∀ x ∈ zs, 0 ≤ x ∧ x ≤ 18446744073709551615 := fun x hx => bounds_u64 (hwz x hx)
    refine ⟨some a, n, c, (zs.take n).map Int.toNat, rfl, ?_⟩
    refine ⟨by rw [List.length_map, List.length_take]; omega, hl, by unfold maxLen at hm; exact hm, ?_, fun hn => ?_⟩
    · intro x hx
      obtain ⟨y, hy, rfl⟩ := List.mem_map.1 hx
      have := hb y (List.mem_of_mem_take hy)
      rw [W_eq]
      omega
    · obtain ⟨b, o, rfl, hc⟩ := ints_at hcell (by omega)
      refine ⟨b, o, rfl, World.block_lt_of_cell? W0 _ (hc 0 (by omega)), fun j hj => ?_⟩
      rw [hc j (by omega)]
      have hj' : j < zs.length := by omega
      have h1 := hb zs[j] (List.getElem_mem hj')
      congr 2
      simp only [List.getD_eq_getElem?_getD, List.getElem?_map, List.getElem?_take, if_pos hj, List.getElem?_eq_getElem hj', Option.map_some, Option.getD_some]
      omega

/-- A slice that is an argument reads behind the call as before it. -/
theorem shut_rd {H : Type} {enc : TypeId × Value → H} {W0 W' : World} {v : Value} {d : DataW H} {ps before : List MemPlace}
    (h : DataW.Trod enc Tryd.prog W0 0 (fun _ => true) true 22 v d ps) (hb : Below W0.heap.size W0 W') (hlt : ∀ x ∈ before, x.block < W0.heap.size) (hs : ∀ x ∈ ps, x ∈ before) :
    DataW.Trod enc Tryd.prog W' 0 (fun b => decide (b < W0.heap.size)) true 22 v d ps :=
  Below.trod laidOut (by kernel_rfl) (of_decide_eq_true (by kernel_rfl)) h hb (fun x hx => hlt x (hs x hx))
end Go.Proofs.YtdjklanmkjbifaaDoor
