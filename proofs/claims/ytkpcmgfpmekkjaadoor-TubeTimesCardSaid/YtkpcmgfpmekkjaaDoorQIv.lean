/-
  An interval that is an argument, opened and shut: its ends' limbs read as lists of naturals. No condition.
-/
import Derived.Test.YtkpcmgfpmekkjaaDoorCards
import Derived.Test.YtkpcmgfpmekkjaaDoorTie
import Derived.Test.YtkpcmgfpmekkjaaDoorQCaps
import Derived.WalkKit
import Derived.ProofKit
import Derived.OpenShut
import Derived.Carry
import Derived.Deep.DeepHandedRow
import Derived.Lib.LaidTab
import Derived.Lib.SmallJoins
import Derived.Test.YtkpcmgfpmekkjaaDoorQIl
namespace Go.Proofs.YtkpcmgfpmekkjaaDoor
open Go.ChangeShapes Go.WideShapes Go.ChangeAt Go.RowKit

theorem own : ownKnob Tryd.prog.godebug = none := by kernel_rfl
theorem gTab : Tryd.prog.globalNamed "math/bits.deBruijn64tab" = some 0 := by kernel_rfl
theorem gTabType : (Tryd.prog.globals[0]?).map (·.type) = some 86 := by kernel_rfl
theorem cellsTab : Tryd.prog.cellsOf 86 = 64 := by kernel_rfl
theorem cellsU8 : Tryd.prog.cellsOf 5 = 1 := by kernel_rfl
theorem cellsU64 : Tryd.prog.cellsOf 52 = 1 := by kernel_rfl
theorem laidOut : laidOutB Tryd.prog = true := by kernel_rfl

def tabInts : List Int := Lib.deBruijn64tab.map (fun x : Nat => (x : Int))
theorem tab_of {W : World} (h : Lib.TabIs Tryd.prog W "math/bits.deBruijn64tab" .u8 tabInts) : Tab W := fun j hj => by
  have hl : tabInts.length = Lib.deBruijn64tab.length := by simp [tabInts]
  have := h.cell gTab j (by rw [hl]; exact hj)
  rw [this]
  congr 2
  simp only [tabInts, List.getD_eq_getElem?_getD, List.getElem?_map]
  rw [List.getElem?_eq_getElem hj]
  simp
set_option maxRecDepth 100000 in
theorem table {W : World} (h : laidMetH Tryd.prog [("math/bits.deBruijn64tab", Rows.laid_math_bits_deBruijn64tab)] W) : Tab W :=
  tab_of (Lib.tabIs_of_head (rest := []) gTab gTabType Tryd.underlying86 Tryd.underlying5 cellsU8 cellsTab h)

/-- A WORLD FOR THE WITNESS: the settled one, the table holding what its initialiser lays. -/
noncomputable def laidWorld (os : Os) : World :=
  { World.holding Tryd.prog os ⟨#[], #[], []⟩ with heap := (World.holding Tryd.prog os ⟨#[], #[], []⟩).heap.modify 0 fun
      | .cells _ t frozen => .cells (tabInts.map (Value.int .u8)).toArray t frozen
      | o => o }

theorem bounds_u64 {n : Int} (h : (Lit.int .u64 n).wf = true) : 0 ≤ n ∧ n ≤ 18446744073709551615 := by
  simp [Lit.wf, IntKind.min, IntKind.max, IntKind.bits, IntKind.signed] at h
  omega

/-- 'true', and each argument reads as it did: the post of every law here. -/
theorem post_true {H : Type} {enc : TypeId × Value → H} {f : Func} {s : ChangeSpec} {W W' : World} {args : Array Value} {ds gs : List (DataW H)} {before pa : List MemPlace}
    (hW : DataW.Whole enc Tryd.prog f.params.toList s.vars false W args.toList ds gs before) (hr : f.resultTypes = #[4]) (hs : (s.fn H (ds ++ gs)).results = [.lit (.bool true)]) (hv : DataW.TrodVars enc Tryd.prog W' (fun b => decide (b < W.heap.size)) s.vars (s.fn H (ds ++ gs)).vars [])
    (hargs : DataW.TrodAll enc Tryd.prog W' 0 (fun b => decide (b < W.heap.size)) true f.params.toList args.toList (s.fn H (ds ++ gs)).args pa) (hb : Below W.heap.size W W') :
    s.post enc Tryd.prog f false true false false W args (.bool true) W' := by
  refine ⟨ds, gs, before, [], pa, [], hW, ?_, hargs, hv, hb.frame _, fun h => by cases h⟩
  rw [hs, hr]
  exact trodAll_cons_mk (shut_bool Tryd.underlying4 _) trodAll_mk0
end Go.Proofs.YtkpcmgfpmekkjaaDoor

namespace Go.Proofs.YtkpcmgfpmekkjaaDoor
open Go.ChangeShapes Go.WideShapes Go.ChangeAt Go.RowKit

end Go.Proofs.YtkpcmgfpmekkjaaDoor

namespace Go.Proofs.YtkpcmgfpmekkjaaDoor
open Go.ChangeShapes Go.WideShapes Go.ChangeAt Go.RowKit

set_option maxRecDepth 100000 in
theorem open_limbs {H : Type} {enc : TypeId × Value → H} {W0 : World} {v : Value} {y : DataW H × List MemPlace} {fuel : Nat}
    (hf : DataW.trod enc Tryd.prog W0 0 (fun _ => true) true fuel 26 [v] = some y) : ∃ A n c l, v = .slice A n c ∧ Rd W0 .u64 W A n c l := by
  rcases open_ints Tryd.underlying26 Tryd.underlying52 cellsU64 hf with ⟨hcs, _⟩ | ⟨a, n, c, zs, hcs, _, hl, hm, hz, _, hcell, hwz⟩
  · simp at hcs
    exact ⟨none, 0, 0, [], hcs, Rd.nil _ _ _ _ (by omega)⟩
  · simp at hcs
    have hz' : zs.length = c := by simpa using hz
    have hb : ∀ x ∈ zs, 0 ≤ x ∧ x ≤ 18446744073709551615 := fun x hx => bounds_u64 (hwz x hx)
    refine ⟨some a, n, c, (zs.take n).map Int.toNat, hcs, ?_⟩
    refine ⟨by rw [List.length_map, List.length_take]; omega, hl, by unfold maxLen at hm; exact hm, ?_, fun hn => ?_⟩
    · intro x hx
      obtain ⟨y, hy, rfl⟩ := List.mem_map.1 hx
      have := hb y (List.mem_of_mem_take hy)
      rw [W_eq]
      omega
    · obtain ⟨b, o, rfl, hc⟩ := ints_at hcell (by omega)
      refine ⟨b, o, rfl, World.block_lt_of_cell? W0 _ (hc 0 (by omega)), fun j hj => ?_⟩
      rw [hc j (by omega)]
      have hj' : j < zs.length := by omega
      have h1 := hb zs[j] (List.getElem_mem hj')
      congr 2
      simp only [List.getD_eq_getElem?_getD, List.getElem?_map, List.getElem?_take, if_pos hj, List.getElem?_eq_getElem hj', Option.map_some, Option.getD_some]
      omega
end Go.Proofs.YtkpcmgfpmekkjaaDoor

namespace Go.Proofs.YtkpcmgfpmekkjaaDoor
open Go.ChangeShapes Go.WideShapes Go.ChangeAt Go.RowKit

theorem list3 {α : Type} {l : List α} (h : l.length = 3) : ∃ a b c, l = [a, b, c] := by
  match l, h with
  | [a, b, c], _ => exact ⟨a, b, c, rfl⟩
theorem list6 {α : Type} {l : List α} (h : l.length = 6) : ∃ a b c d e f, l = [a, b, c, d, e, f] := by
  match l, h with
  | [a, b, c, d, e, f], _ => exact ⟨a, b, c, d, e, f, rfl⟩
theorem cells_bool : Tryd.prog.cellsOf 4 = 1 := by kernel_rfl
theorem cells_limbs : Tryd.prog.cellsOf 26 = 1 := by kernel_rfl
theorem cells_int : Tryd.prog.cellsOf 3 = 1 := by kernel_rfl
theorem cells_dyad : Tryd.prog.cellsOf 28 = 3 := by kernel_rfl
theorem cells_ival : Tryd.prog.cellsOf 35 = 6 := by kernel_rfl
set_option maxRecDepth 100000 in
theorem open_dyad_cells {H : Type} {enc : TypeId × Value → H} {W0 : World} {cs : List Value} {y : DataW H × List MemPlace} {fuel : Nat}
    (hf : DataW.trod enc Tryd.prog W0 0 (fun _ => true) true fuel 28 cs = some y) :
    ∃ s A n c l e, cs = [.bool s, .slice A n c, .int .i64 e] ∧ Rd W0 .u64 W A n c l ∧ -9223372036854775808 ≤ e ∧ e ≤ 9223372036854775807 := by
  obtain ⟨y0, y1, y2, n, rfl, hl, t0, t1, t2⟩ := Deep.trod_struct3 Tryd.underlying28 hf
  obtain ⟨c0, c1, c2, rfl⟩ := list3 (hl.trans cells_dyad)
  replace t0 : DataW.trod enc Tryd.prog W0 0 (fun _ => true) true n 4 [c0] = some y0 := by
    have e : List.take (Tryd.prog.cellsOf 4) (List.drop 0 [c0, c1, c2]) = [c0] := by rw [cells_bool]; rfl
    rw [← e]; exact t0
  replace t1 : DataW.trod enc Tryd.prog W0 0 (fun _ => true) true n 26 [c1] = some y1 := by
    have e : List.take (Tryd.prog.cellsOf 26) (List.drop 1 [c0, c1, c2]) = [c1] := by rw [cells_limbs]; rfl
    rw [← e]; exact t1
  replace t2 : DataW.trod enc Tryd.prog W0 0 (fun _ => true) true n 3 [c2] = some y2 := by
    have e : List.take (Tryd.prog.cellsOf 3) (List.drop 2 [c0, c1, c2]) = [c2] := by rw [cells_int]; rfl
    rw [← e]; exact t2
  obtain ⟨s, h0, _⟩ := DataW.trod_bool Tryd.underlying4 t0
  obtain ⟨A, m, c, l, rfl, hr⟩ := open_limbs t1
  obtain ⟨e, h2, _, hw⟩ := DataW.trod_int Tryd.underlying3 t2
  simp at h0 h2
  subst h0 h2
  refine ⟨s, A, m, c, l, e, rfl, hr, ?_⟩
  simp [Lit.wf, IntKind.min, IntKind.max, IntKind.bits, IntKind.signed] at hw
  omega
end Go.Proofs.YtkpcmgfpmekkjaaDoor
namespace Go.Proofs.YtkpcmgfpmekkjaaDoor
open Go.ChangeShapes Go.WideShapes Go.ChangeAt Go.RowKit

/-- a slice whose elements read as intervals -/
structure RdS (w : World) (A : Option Addr) (n c : Nat) (X : Nat → Iv) : Prop where
  cap : n ≤ c
  max : c ≤ 9223372036854775807
  at_ : n ≠ 0 → ∃ b o, A = some ⟨b, o, none⟩ ∧ Ivs w b o n X
set_option maxRecDepth 100000 in
theorem ival_cells {H : Type} {enc : TypeId × Value → H} {W0 : World} {cs : List Value} {y : DataW H × List MemPlace} {fuel : Nat}
    (hf : DataW.trod enc Tryd.prog W0 0 (fun _ => true) true fuel 35 cs = some y) :
    ∃ s A n c l e t B m d r f, cs = [.bool s, .slice A n c, .int .i64 e, .bool t, .slice B m d, .int .i64 f] ∧ Rd W0 .u64 W A n c l ∧ Rd W0 .u64 W B m d r := by
  obtain ⟨y0, y1, n, hx, hl, t0, t1⟩ := trod_struct2 Tryd.underlying35 hf
  obtain ⟨c0, c1, c2, c3, c4, c5, rfl⟩ := list6 (hl.trans cells_ival)
  replace t0 : DataW.trod enc Tryd.prog W0 0 (fun _ => true) true n 28 [c0, c1, c2] = some y0 := by
    have e : List.take (Tryd.prog.cellsOf 28) (List.drop 0 [c0, c1, c2, c3, c4, c5]) = [c0, c1, c2] := by rw [cells_dyad]; rfl
    rw [← e]; exact t0
  replace t1 : DataW.trod enc Tryd.prog W0 0 (fun _ => true) true n 28 [c3, c4, c5] = some y1 := by
    have e : List.take (Tryd.prog.cellsOf 28) (List.drop 3 [c0, c1, c2, c3, c4, c5]) = [c3, c4, c5] := by rw [cells_dyad]; rfl
    rw [← e]; exact t1
  obtain ⟨s, A, n1, c1', l, e, h0, r0⟩ := open_dyad_cells t0
  obtain ⟨t, B, m, d', r, f, h1, r1⟩ := open_dyad_cells t1
  simp only [List.cons.injEq, and_true] at h0 h1
  obtain ⟨rfl, rfl, rfl⟩ := h0
  obtain ⟨rfl, rfl, rfl⟩ := h1
  exact ⟨s, A, n1, c1', l, e, t, B, m, d', r, f, rfl, r0.1, r1.1⟩
end Go.Proofs.YtkpcmgfpmekkjaaDoor
