/-
  A Dyad that is an argument, opened and shut: its limbs read as a list of naturals. No condition.
-/
import Derived.Test.YtdjklanmkjbifaaDoorOpen
import Derived.Lib.SmallJoins
namespace Go.Proofs.YtdjklanmkjbifaaDoor
open Go.ChangeShapes Go.WideShapes Go.ChangeAt Go.RowKit

set_option maxRecDepth 100000 in
theorem open_limbs {H : Type} {enc : TypeId × Value → H} {W0 : World} {v : Value} {y : DataW H × List MemPlace} {fuel : Nat}
    (hf : DataW.trod enc Tryd.prog W0 0 (fun _ => true) true fuel 22 [v] = some y) : ∃ A n c l, v = .slice A n c ∧ Rd W0 .u64 W A n c l := by
  rcases open_ints Tryd.underlying22 Tryd.underlying39 cellsU64 hf with ⟨hcs, _⟩ | ⟨a, n, c, zs, hcs, _, hl, hm, hz, _, hcell, hwz⟩
  · simp at hcs
    exact ⟨none, 0, 0, [], hcs, Rd.nil _ _ _ _ (by omega)⟩
  · simp at hcs
    have hz' : zs.length = c := by simpa using hz
    have hb : ∀ x ∈ zs, 0 ≤ x ∧ x ≤ 18446744073709551615 := fun x hx => bounds_u64 (hwz x hx)
    refine ⟨some a, n, c, (zs.take n).map Int.toNat, hcs, ?_⟩
    refine ⟨by rw [List.length_map, List.length_take]; omega, hl, by unfold maxLen at hm; exact hm, ?_, fun hn => ?_⟩
    · intro x hx
      obtain ⟨y, hy, rfl⟩ := List.mem_map.1 hx
      have := hb y (List.mem_of_mem_take hy)
      rw [W_eq]
      omega
    · obtain ⟨b, o, rfl, hc⟩ := ints_at hcell (by omega)
      refine ⟨b, o, rfl, World.block_lt_of_cell? W0 _ (hc 0 (by omega)), fun j hj => ?_⟩
      rw [hc j (by omega)]
      have hj' : j < zs.length := by omega
      have h1 := hb zs[j] (List.getElem_mem hj')
      congr 2
      simp only [List.getD_eq_getElem?_getD, List.getElem?_map, List.getElem?_take, if_pos hj, List.getElem?_eq_getElem hj', Option.map_some, Option.getD_some]
      omega
set_option maxRecDepth 100000 in
theorem open_dyad {H : Type} {enc : TypeId × Value → H} {W0 : World} {b0 : Nat} {v : Value} {d : DataW H} {ps : List MemPlace}
    (hval : Value.okWide Tryd.prog W0 .any b0 24 v) (h : DataW.Trod enc Tryd.prog W0 0 (fun _ => true) true 24 v d ps) :
    ∃ s A n c l e, v = .agg #[.bool s, .slice A n c, .int .i64 e] ∧ Rd W0 .u64 W A n c l ∧ -9223372036854775808 ≤ e ∧ e ≤ 9223372036854775807 := by
  obtain ⟨v0, v1, v2, y0, y1, y2, n, rfl, _, _, t0, t1, t2⟩ := Joins.open_agg3 Tryd.underlying24 (by kernel_rfl) (by kernel_rfl) hval h
  obtain ⟨s, h0, _⟩ := DataW.trod_bool Tryd.underlying4 t0
  obtain ⟨A, m, c, l, rfl, hl⟩ := open_limbs t1
  obtain ⟨e, h2, _, hw⟩ := DataW.trod_int Tryd.underlying3 t2
  simp at h0 h2
  subst h0 h2
  refine ⟨s, A, m, c, l, e, rfl, hl, ?_⟩
  simp [Lit.wf, IntKind.min, IntKind.max, IntKind.bits, IntKind.signed] at hw
  omega
set_option maxRecDepth 100000 in
theorem shut_dyad {H : Type} {enc : TypeId × Value → H} {W0 W' : World} {v : Value} {d : DataW H} {ps before : List MemPlace}
    (h : DataW.Trod enc Tryd.prog W0 0 (fun _ => true) true 24 v d ps) (hb : Below W0.heap.size W0 W') (hlt : ∀ x ∈ before, x.block < W0.heap.size) (hs : ∀ x ∈ ps, x ∈ before) :
    DataW.Trod enc Tryd.prog W' 0 (fun b => decide (b < W0.heap.size)) true 24 v d ps :=
  Below.trod laidOut (by kernel_rfl) (of_decide_eq_true (by kernel_rfl)) h hb (fun x hx => hlt x (hs x hx))
end Go.Proofs.YtdjklanmkjbifaaDoor
