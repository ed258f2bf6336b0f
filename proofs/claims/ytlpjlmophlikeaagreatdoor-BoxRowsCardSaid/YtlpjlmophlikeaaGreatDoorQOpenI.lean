/-
 An interval that is an argument, opened and shut: its ends' limbs read as lists of naturals. No condition.
-/
import Derived.Test.YtlpjlmophlikeaaGreatDoorCards
import Derived.Test.YtlpjlmophlikeaaGreatDoorTie
import Derived.Test.YtlpjlmophlikeaaGreatDoorQCaps
import Derived.WalkKit
import Derived.ProofKit
import Derived.OpenShut
import Derived.Carry
import Derived.Deep.DeepHandedRow
import Derived.Lib.LaidTab
import Derived.Lib.SmallJoins
set_option maxHeartbeats 200000
set_option maxRecDepth 100000
namespace Go.Proofs.YtlpjlmophlikeaaGreatDoor
open Go.ChangeShapes Go.WideShapes Go.ChangeAt Go.RowKit

theorem own : ownKnob Tryz.prog.godebug = none := by kernel_rfl
theorem gTab : Tryz.prog.globalNamed "math/bits.deBruijn64tab" = some 0 := by kernel_rfl
theorem gTabType : (Tryz.prog.globals[0]?).map (·.type) = some 134 := by kernel_rfl
theorem cellsTab : Tryz.prog.cellsOf 134 = 64 := by kernel_rfl
theorem cellsU8 : Tryz.prog.cellsOf 5 = 1 := by kernel_rfl
theorem cellsU64 : Tryz.prog.cellsOf 60 = 1 := by kernel_rfl
theorem laidOut : laidOutB Tryz.prog = true := by kernel_rfl

def tabInts : List Int := Lib.deBruijn64tab.map (fun x : Nat => (x : Int))
theorem tab_of {W : World} (h : Lib.TabIs Tryz.prog W "math/bits.deBruijn64tab" .u8 tabInts) : Tab W := fun j hj => by
 have hl : tabInts.length = Lib.deBruijn64tab.length := by simp [tabInts]
 have := h.cell gTab j (by rw [hl]; exact hj)
 rw [this]
 congr 2
 simp only [tabInts, List.getD_eq_getElem?_getD, List.getElem?_map]
 rw [List.getElem?_eq_getElem hj]
 simp
theorem table {W : World} (h : laidMetH Tryz.prog [("math/bits.deBruijn64tab", Rows.laid_math_bits_deBruijn64tab)] W) : Tab W :=
 tab_of (Lib.tabIs_of_head (rest := []) gTab gTabType Tryz.underlying134 Tryz.underlying5 cellsU8 cellsTab h)

/-- A WORLD FOR THE WITNESS: the settled one, the table holding what its initialiser lays. -/
noncomputable def laidWorld (os : Os) : World :=
 { World.holding Tryz.prog os ⟨#[], #[], []⟩ with heap := (World.holding Tryz.prog os ⟨#[], #[], []⟩).heap.modify 0 fun
   | .cells _ t frozen => .cells (tabInts.map (Value.int .u8)).toArray t frozen
   | o => o }

theorem bounds_u64 {n : Int} (h : (Lit.int .u64 n).wf = true) : 0 ≤ n ∧ n ≤ 18446744073709551615 := by
 simp [Lit.wf, IntKind.min, IntKind.max, IntKind.bits, IntKind.signed] at h
 omega

/-- 'true', and each argument reads as it did: the post of every law here. -/
theorem post_true {H : Type} {enc : TypeId × Value → H} {f : Func} {s : ChangeSpec} {W W' : World} {args : Array Value} {ds gs : List (DataW H)} {before pa : List MemPlace}
  (hW : DataW.Whole enc Tryz.prog f.params.toList s.vars false W args.toList ds gs before) (hr : f.resultTypes = #[4]) (hs : (s.fn H (ds ++ gs)).results = [.lit (.bool true)]) (hv : DataW.TrodVars enc Tryz.prog W' (fun b => decide (b < W.heap.size)) s.vars (s.fn H (ds ++ gs)).vars [])
  (hargs : DataW.TrodAll enc Tryz.prog W' 0 (fun b => decide (b < W.heap.size)) true f.params.toList args.toList (s.fn H (ds ++ gs)).args pa) (hb : Below W.heap.size W W') :
  s.post enc Tryz.prog f false true false false W args (.bool true) W' := by
 refine ⟨ds, gs, before, [], pa, [], hW, ?_, hargs, hv, hb.frame _, fun h => by cases h⟩
 rw [hs, hr]
 exact trodAll_cons_mk (shut_bool Tryz.underlying4 _) trodAll_mk0
end Go.Proofs.YtlpjlmophlikeaaGreatDoor

namespace Go.Proofs.YtlpjlmophlikeaaGreatDoor
open Go.ChangeShapes Go.WideShapes Go.ChangeAt Go.RowKit

end Go.Proofs.YtlpjlmophlikeaaGreatDoor

namespace Go.Proofs.YtlpjlmophlikeaaGreatDoor
open Go.ChangeShapes Go.WideShapes Go.ChangeAt Go.RowKit

theorem open_limbs {H : Type} {enc : TypeId × Value → H} {W0 : World} {v : Value} {y : DataW H × List MemPlace} {fuel : Nat}
  (hf : DataW.trod enc Tryz.prog W0 0 (fun _ => true) true fuel 25 [v] = some y) : ∃ A n c l, v = .slice A n c ∧ Rd W0 .u64 W A n c l := by
 rcases open_ints Tryz.underlying25 Tryz.underlying60 cellsU64 hf with ⟨hcs, _⟩ | ⟨a, n, c, zs, hcs, _, hl, hm, hz, _, hcell, hwz⟩
 ·simp at hcs
  exact ⟨none, 0, 0, [], hcs, Rd.nil _ _ _ _ (by omega)⟩
 ·simp at hcs
  have hz' : zs.length = c := by simpa using hz
  have hb : ∀ x ∈ zs, 0 ≤ x ∧ x ≤ 18446744073709551615 := fun x hx => bounds_u64 (hwz x hx)
  refine ⟨some a, n, c, (zs.take n).map Int.toNat, hcs, ?_⟩
  refine ⟨by rw [List.length_map, List.length_take]; omega, hl, by unfold maxLen at hm; exact hm, ?_, fun hn => ?_⟩
  ·intro x hx
   obtain ⟨y, hy, rfl⟩ := List.mem_map.1 hx
   have := hb y (List.mem_of_mem_take hy)
   rw [W_eq]
   omega
  ·obtain ⟨b, o, rfl, hc⟩ := ints_at hcell (by omega)
   refine ⟨b, o, rfl, World.block_lt_of_cell? W0 _ (hc 0 (by omega)), fun j hj => ?_⟩
   rw [hc j (by omega)]
   have hj' : j < zs.length := by omega
   have h1 := hb zs[j] (List.getElem_mem hj')
   congr 2
   simp only [List.getD_eq_getElem?_getD, List.getElem?_map, List.getElem?_take, if_pos hj, List.getElem?_eq_getElem hj', Option.map_some, Option.getD_some]
   omega
end Go.Proofs.YtlpjlmophlikeaaGreatDoor

namespace Go.Proofs.YtlpjlmophlikeaaGreatDoor
open Go.ChangeShapes Go.WideShapes Go.ChangeAt Go.RowKit

theorem list3 {α : Type} {l : List α} (h : l.length = 3) : ∃ a b c, l = [a, b, c] := by
 match l, h with
 | [a, b, c], _ => exact ⟨a, b, c, rfl⟩
theorem list6 {α : Type} {l : List α} (h : l.length = 6) : ∃ a b c d e f, l = [a, b, c, d, e, f] := by
 match l, h with
 | [a, b, c, d, e, f], _ => exact ⟨a, b, c, d, e, f, rfl⟩
theorem cells_bool : Tryz.prog.cellsOf 4 = 1 := by kernel_rfl
theorem cells_limbs : Tryz.prog.cellsOf 25 = 1 := by kernel_rfl
theorem cells_int : Tryz.prog.cellsOf 3 = 1 := by kernel_rfl
theorem cells_dyad : Tryz.prog.cellsOf 27 = 3 := by kernel_rfl
theorem cells_ival : Tryz.prog.cellsOf 29 = 6 := by kernel_rfl
theorem open_dyad_cells {H : Type} {enc : TypeId × Value → H} {W0 : World} {cs : List Value} {y : DataW H × List MemPlace} {fuel : Nat}
  (hf : DataW.trod enc Tryz.prog W0 0 (fun _ => true) true fuel 27 cs = some y) :
  ∃ s A n c l e, cs = [.bool s, .slice A n c, .int .i64 e] ∧ Rd W0 .u64 W A n c l ∧ -9223372036854775808 ≤ e ∧ e ≤ 9223372036854775807 := by
 obtain ⟨y0, y1, y2, n, rfl, hl, t0, t1, t2⟩ := Deep.trod_struct3 Tryz.underlying27 hf
 obtain ⟨c0, c1, c2, rfl⟩ := list3 (hl.trans cells_dyad)
 replace t0 : DataW.trod enc Tryz.prog W0 0 (fun _ => true) true n 4 [c0] = some y0 := by
  have e : List.take (Tryz.prog.cellsOf 4) (List.drop 0 [c0, c1, c2]) = [c0] := by rw [cells_bool]; rfl
  rw [← e]; exact t0
 replace t1 : DataW.trod enc Tryz.prog W0 0 (fun _ => true) true n 25 [c1] = some y1 := by
  have e : List.take (Tryz.prog.cellsOf 25) (List.drop 1 [c0, c1, c2]) = [c1] := by rw [cells_limbs]; rfl
  rw [← e]; exact t1
 replace t2 : DataW.trod enc Tryz.prog W0 0 (fun _ => true) true n 3 [c2] = some y2 := by
  have e : List.take (Tryz.prog.cellsOf 3) (List.drop 2 [c0, c1, c2]) = [c2] := by rw [cells_int]; rfl
  rw [← e]; exact t2
 obtain ⟨s, h0, _⟩ := DataW.trod_bool Tryz.underlying4 t0
 obtain ⟨A, m, c, l, rfl, hr⟩ := open_limbs t1
 obtain ⟨e, h2, _, hw⟩ := DataW.trod_int Tryz.underlying3 t2
 simp at h0 h2
 subst h0 h2
 refine ⟨s, A, m, c, l, e, rfl, hr, ?_⟩
 simp [Lit.wf, IntKind.min, IntKind.max, IntKind.bits, IntKind.signed] at hw
 omega
end Go.Proofs.YtlpjlmophlikeaaGreatDoor
