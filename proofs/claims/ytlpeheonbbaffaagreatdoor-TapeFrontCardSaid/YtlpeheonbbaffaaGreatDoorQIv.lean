/-
  An interval that is an argument, opened and shut: its ends' limbs read as lists of naturals.
-/
import Derived.Test.YtlpeheonbbaffaaGreatDoorCards
import Derived.Test.YtlpeheonbbaffaaGreatDoorTie
import Derived.Test.YtlpeheonbbaffaaGreatDoorQRoot
import Derived.WalkKit
import Derived.ProofKit
import Derived.OpenShut
import Derived.Carry
import Derived.Deep.DeepHandedRow
import Derived.Lib.LaidTab
import Derived.Lib.SmallJoins
import Derived.Test.YtlpeheonbbaffaaGreatDoorQIg
import Derived.Test.YtlpeheonbbaffaaGreatDoorQRj
import Derived.Test.YtlpeheonbbaffaaGreatDoorQRt
set_option maxHeartbeats 200000
set_option maxRecDepth 100000
namespace Go.Proofs.YtlpeheonbbaffaaGreatDoor
open Go.ChangeShapes Go.WideShapes Go.ChangeAt Go.RowKit
variable {A1 A2 : Option Addr} {K c1 c2 fuel m n1 n2 : Nat} {W0 w : World} {e : Int} {s : Bool} {x y : Iv}
theorem own : ownKnob Tryz.prog.godebug = none := by kernel_rfl
theorem gTab : Tryz.prog.globalNamed "math/bits.deBruijn64tab" = some 1 := by kernel_rfl
theorem gTabType : (Tryz.prog.globals[1]?).map (·.type) = some 175 := by kernel_rfl
theorem cellsTab : Tryz.prog.cellsOf 175 = 64 := by kernel_rfl
theorem cellsU8 : Tryz.prog.cellsOf 5 = 1 := by kernel_rfl
theorem cellsU64 : Tryz.prog.cellsOf 46 = 1 := by kernel_rfl
theorem laidOut : laidOutB Tryz.prog = true := by kernel_rfl
def tabInts : List Int := Lib.deBruijn64tab.map (fun x : Nat => (x : Int))
theorem tab_of {W : World} (h : Lib.TabIs Tryz.prog W "math/bits.deBruijn64tab" .u8 tabInts) : Tab W := fun j hj => by
 have hl : tabInts.length = Lib.deBruijn64tab.length := by simp [tabInts]
 have := h.cell gTab j (by rw [hl]; exact hj)
 rw [this]
 congr 2
 simp only [tabInts, List.getD_eq_getElem?_getD, List.getElem?_map]
 rw [List.getElem?_eq_getElem hj]
 simp
theorem table {W : World} (h : laidMetH Tryz.prog [("math/bits.deBruijn64tab", Rows.laid_math_bits_deBruijn64tab)] W) : Tab W :=
 tab_of (Lib.tabIs_of_head (rest := []) gTab gTabType Tryz.underlying175 Tryz.underlying5 cellsU8 cellsTab h)
noncomputable def laidWorld (os : Os) : World :=
 { World.holding Tryz.prog os ⟨#[], #[], []⟩ with heap := (World.holding Tryz.prog os ⟨#[], #[], []⟩).heap.modify 1 fun
   | .cells _ t frozen => .cells (tabInts.map (Value.int .u8)).toArray t frozen
   | o => o }
theorem bounds_u64 {n : Int} (h : (Lit.int .u64 n).wf = true) : 0 ≤ n ∧ n ≤ 18446744073709551615 := by
 simp [Lit.wf, IntKind.min, IntKind.max, IntKind.bits, IntKind.signed] at h
 omega
theorem post_true {H : Type} {enc : TypeId × Value → H} {f : Func} {s : ChangeSpec} {W W' : World} {args : Array Value} {ds gs : List (DataW H)} {before pa : List MemPlace}
  (hW : DataW.Whole enc Tryz.prog f.params.toList s.vars false W args.toList ds gs before) (hr : f.resultTypes = #[4]) (hs : (s.fn H (ds ++ gs)).results = [.lit (.bool true)]) (hv : DataW.TrodVars enc Tryz.prog W' (fun b => decide (b < W.heap.size)) s.vars (s.fn H (ds ++ gs)).vars [])
  (hargs : DataW.TrodAll enc Tryz.prog W' 0 (fun b => decide (b < W.heap.size)) true f.params.toList args.toList (s.fn H (ds ++ gs)).args pa) (hb : Below W.heap.size W W') :
  s.post enc Tryz.prog f false true false false W args (.bool true) W' := by
 refine ⟨ds, gs, before, [], pa, [], hW, ?_, hargs, hv, hb.frame _, fun h => by cases h⟩
 rw [hs, hr]
 exact trodAll_cons_mk (shut_bool Tryz.underlying4 _) trodAll_mk0
theorem open_limbs {H : Type} {enc : TypeId × Value → H} {v : Value} {y : DataW H × List MemPlace}
  (hf : DataW.trod enc Tryz.prog W0 0 (fun _ => true) true fuel 23 [v] = some y) : ∃ A n c l, v = .slice A n c ∧ Rd W0 .u64 W A n c l := by
 rcases open_ints Tryz.underlying23 Tryz.underlying46 cellsU64 hf with ⟨hcs, _⟩ | ⟨a, n, c, zs, hcs, _, hl, hm, hz, _, hcell, hwz⟩
 ·simp at hcs
  exact ⟨none, 0, 0, [], hcs, Rd.nil _ _ _ _ (by omega)⟩
 simp at hcs
 have hz' : zs.length = c := by simpa using hz
 have hb : ∀ x ∈ zs, 0 ≤ x ∧ x ≤ 18446744073709551615 := fun x hx => bounds_u64 (hwz x hx)
 refine ⟨some a, n, c, (zs.take n).map Int.toNat, hcs, ?_⟩
 refine ⟨by rw [List.length_map, List.length_take]; omega, hl, by unfold maxLen at hm; exact hm, ?_, fun hn => ?_⟩
 ·intro x hx
  obtain ⟨y, hy, rfl⟩ := List.mem_map.1 hx
  have := hb y (List.mem_of_mem_take hy)
  rw [W_eq]
  omega
 obtain ⟨b, o, rfl, hc⟩ := ints_at hcell (by omega)
 refine ⟨b, o, rfl, World.block_lt_of_cell? W0 _ (hc 0 (by omega)), fun j hj => ?_⟩
 rw [hc j (by omega)]
 have hj' : j < zs.length := by omega
 have h1 := hb zs[j] (List.getElem_mem hj')
 congr 2
 simp only [List.getD_eq_getElem?_getD, List.getElem?_map, List.getElem?_take, if_pos hj, List.getElem?_eq_getElem hj', Option.map_some, Option.getD_some]
 omega
theorem list3 {α : Type} {l : List α} (h : l.length = 3) : ∃ a b c, l = [a, b, c] := by
 match l, h with
 | [a, b, c], _ => exact ⟨a, b, c, rfl⟩
theorem list6 {α : Type} {l : List α} (h : l.length = 6) : ∃ a b c d e f, l = [a, b, c, d, e, f] := by
 match l, h with
 | [a, b, c, d, e, f], _ => exact ⟨a, b, c, d, e, f, rfl⟩
theorem cells_bool : Tryz.prog.cellsOf 4 = 1 := by kernel_rfl
theorem cells_limbs : Tryz.prog.cellsOf 23 = 1 := by kernel_rfl
theorem cells_int : Tryz.prog.cellsOf 3 = 1 := by kernel_rfl
theorem cells_dyad : Tryz.prog.cellsOf 25 = 3 := by kernel_rfl
theorem cells_ival : Tryz.prog.cellsOf 29 = 6 := by kernel_rfl
theorem open_dyad_cells {H : Type} {enc : TypeId × Value → H} {cs : List Value} {y : DataW H × List MemPlace}
  (hf : DataW.trod enc Tryz.prog W0 0 (fun _ => true) true fuel 25 cs = some y) :
  ∃ s A n c l e, cs = [.bool s, .slice A n c, .int .i64 e] ∧ Rd W0 .u64 W A n c l ∧ -9223372036854775808 ≤ e ∧ e ≤ 9223372036854775807 := by
 obtain ⟨y0, y1, y2, n, rfl, hl, t0, t1, t2⟩ := Deep.trod_struct3 Tryz.underlying25 hf
 obtain ⟨c0, c1, c2, rfl⟩ := list3 (hl.trans cells_dyad)
 replace t0 : DataW.trod enc Tryz.prog W0 0 (fun _ => true) true n 4 [c0] = some y0 := by
  have e : List.take (Tryz.prog.cellsOf 4) (List.drop 0 [c0, c1, c2]) = [c0] := by rw [cells_bool]; rfl
  rw [← e]; exact t0
 replace t1 : DataW.trod enc Tryz.prog W0 0 (fun _ => true) true n 23 [c1] = some y1 := by
  have e : List.take (Tryz.prog.cellsOf 23) (List.drop 1 [c0, c1, c2]) = [c1] := by rw [cells_limbs]; rfl
  rw [← e]; exact t1
 replace t2 : DataW.trod enc Tryz.prog W0 0 (fun _ => true) true n 3 [c2] = some y2 := by
  have e : List.take (Tryz.prog.cellsOf 3) (List.drop 2 [c0, c1, c2]) = [c2] := by rw [cells_int]; rfl
  rw [← e]; exact t2
 obtain ⟨s, h0, _⟩ := DataW.trod_bool Tryz.underlying4 t0
 obtain ⟨A, m, c, l, rfl, hr⟩ := open_limbs t1
 obtain ⟨e, h2, _, hw⟩ := DataW.trod_int Tryz.underlying3 t2
 simp at h0 h2
 subst h0 h2
 refine ⟨s, A, m, c, l, e, rfl, hr, ?_⟩
 simp [Lit.wf, IntKind.min, IntKind.max, IntKind.bits, IntKind.signed] at hw
 omega
set_option maxHeartbeats 8000000
set_option maxRecDepth 100000
theorem may_len (h : mayI K x = true) : x.lo.l.length ≤ 10000000000000 ∧ x.hi.l.length ≤ 10000000000000 := by
 obtain ⟨h1, h2, _⟩ := mayI_iff.1 h
 have key : ∀ a : Rw, a.may = true → a.l.length ≤ 10000000000000 := fun a ha => by
  have := (mayD_of a.lt ha).1
  unfold mayB at this
  simp only [Bool.and_eq_true, decide_eq_true_eq] at this
  omega
 exact ⟨key _ h1, key _ h2⟩
theorem two_may : (∀ i, i < 2 → mayI K (if i = 0 then x else y) = true) ↔ (mayI K x = true ∧ mayI K y = true) := by
 constructor
 ·exact fun h => ⟨h 0 (by omega), h 1 (by omega)⟩
 rintro ⟨h1, h2⟩ i hi
 rcases (show i = 0 ∨ i = 1 by omega) with rfl | rfl
 ·exact h1
 exact h2
theorem one_may : (∀ i, i < 1 → mayI K x = true) ↔ mayI K x = true := ⟨fun h => h 0 (by omega), fun h _ _ => h⟩
theorem up3 (w : World) (o o' o'' : Obj) : (((w.alloc o).alloc o').alloc o'').heap.size = w.heap.size + 3 := by simp
theorem ibx_one (w : World) (o : Obj) (s : Bool) (A : Option Addr) (n c : Nat) (e : Int) (t : Bool) (B : Option Addr) (m d : Nat) (f : Int) : Ibx ((w.alloc o).alloc (.cells #[.bool s, .slice A n c, .int .i64 e, .bool t, .slice B m d, .int .i64 f] 29)) (w.heap.size + 1) s A n c e t B m d f := by
 have := Ibx.new (w.alloc o) s A n c e t B m d f
 simpa using this
theorem rows_one {g : Nat} (hg : w.heap.size = g) (h1 : Rd w .u64 YtlpeheonbbaffaaGreatDoor.W A1 n1 c1 x.lo.l) (h2 : Rd w .u64 YtlpeheonbbaffaaGreatDoor.W A2 n2 c2 x.hi.l) : Ivs (w.alloc (.cells #[.bool x.lo.s, .slice A1 n1 c1, .int .i64 x.lo.e, .bool x.hi.s, .slice A2 n2 c2, .int .i64 x.hi.e] 29)) g 0 1 (fun _ => x) := by
 subst hg
 exact ivs_one w h1 h2
theorem rows_two {g : Nat} (hg : w.heap.size = g) {A3 : Option Addr} {n3 c3 : Nat} {A4 : Option Addr} {n4 c4 : Nat} (h1 : Rd w .u64 YtlpeheonbbaffaaGreatDoor.W A1 n1 c1 x.lo.l) (h2 : Rd w .u64 YtlpeheonbbaffaaGreatDoor.W A2 n2 c2 x.hi.l) (h3 : Rd w .u64 YtlpeheonbbaffaaGreatDoor.W A3 n3 c3 y.lo.l) (h4 : Rd w .u64 YtlpeheonbbaffaaGreatDoor.W A4 n4 c4 y.hi.l) : Ivs (w.alloc (.cells #[.bool x.lo.s, .slice A1 n1 c1, .int .i64 x.lo.e, .bool x.hi.s, .slice A2 n2 c2, .int .i64 x.hi.e, .bool y.lo.s, .slice A3 n3 c3, .int .i64 y.lo.e, .bool y.hi.s, .slice A4 n4 c4, .int .i64 y.hi.e] 29)) g 0 2 (fun i => if i = 0 then x else y) := by
 subst hg
 exact ivs_two w h1 h2 h3 h4
theorem iof_any {a : Rw} (h1 : Rd w .u64 YtlpeheonbbaffaaGreatDoor.W A1 n1 c1 a.l) (hn : n1 ≤ 10000000000000) :
  Calls Tryz.prog 13 #[.agg #[.bool a.s, .slice A1 n1 c1, .int .i64 a.e]] w (GivI ⟨a, a⟩ w) := by
 have BB := two_below w (.cells #[.bool a.s, .slice A1 n1 c1, .int .i64 a.e] 25) (.cells #[.bool false, .slice none 0 0, .int .i64 0, .bool false, .slice none 0 0, .int .i64 0] 29)
 have xa := (Box.new w a.s A1 n1 c1 a.e).alloc (.cells #[.bool false, .slice none 0 0, .int .i64 0, .bool false, .slice none 0 0, .int .i64 0] 29)
 have r := ibx_one w (.cells #[.bool a.s, .slice A1 n1 c1, .int .i64 a.e] 25) false none 0 0 0 false none 0 0 0
 have hmf := make_func
 have HN := Lib.hid hn
 clear hn
 replace h1 := mv BB rfl h1
 go_enter Tryz.func13, Tryz.ntmps13
 go_wp2_with fail
 refine (ends1_ok (x := ⟨a, a⟩) (fun _ _ => by kernel_rfl) (by rw [h1.len]; exact HN.out) (fun W2 b2 => of1_any (hi := false) (mv b2 rfl h1) (mv b2 rfl xa)) (by rw [h1.len]; exact HN.out) (fun W2 b2 => of1_any (hi := true) (mv b2 rfl h1) (mv b2 rfl xa))).mono ?_
 rintro en w1 ⟨A3, n3, c3, A4, n4, c4, rfl, h3, h4, b⟩
 clear h1 xa
 replace BB := bnx BB b
 replace r := mv b rfl r
 clear b
 replace h3 : Rd w1 .u64 YtlpeheonbbaffaaGreatDoor.W A3 n3 c3 a.l := h3
 replace h4 : Rd w1 .u64 YtlpeheonbbaffaaGreatDoor.W A4 n4 c4 a.l := h4
 obtain ⟨f0, f1, f2, f3, f4, f5⟩ := r.open
 obtain ⟨z0, z1, z2, z3, z4, z5⟩ := r.held
 go_wp2
 have qq := r.put a.s A3 n3 c3 a.e a.s A4 n4 c4 a.e
 have hN := h3.put6 r (.bool a.s) (.slice A3 n3 c3) (.int .i64 a.e) (.bool a.s) (.slice A4 n4 c4) (.int .i64 a.e)
 have hM := h4.put6 r (.bool a.s) (.slice A3 n3 c3) (.int .i64 a.e) (.bool a.s) (.slice A4 n4 c4) (.int .i64 a.e)
 have HB3 := below_put6 (g := w.heap.size + 1) BB (by omega) (.bool a.s) (.slice A3 n3 c3) (.int .i64 a.e) (.bool a.s) (.slice A4 n4 c4) (.int .i64 a.e)
 obtain ⟨z0, z1, z2, z3, z4, z5⟩ := qq.held
 exact bodyPost_ret (v := .agg #[.bool a.s, .slice A3 n3 c3, .int .i64 a.e, .bool a.s, .slice A4 n4 c4, .int .i64 a.e]) (by simp [results, Tryz.results13, go_sem, z0, z1, z2, z3, z4, z5]) rfl ⟨_, _, _, _, _, _, rfl, hN, hM, HB3⟩
theorem two_dbl (w : World) {s1 s2 : Bool} {e1 e2 : Int} : Box ((w.alloc (.cells #[.bool s1, .slice A1 n1 c1, .int .i64 e1] 25)).alloc (.cells #[.bool s2, .slice A2 n2 c2, .int .i64 e2] 25)) w.heap.size s1 A1 n1 c1 e1 ∧ Box ((w.alloc (.cells #[.bool s1, .slice A1 n1 c1, .int .i64 e1] 25)).alloc (.cells #[.bool s2, .slice A2 n2 c2, .int .i64 e2] 25)) (w.heap.size + 1) s2 A2 n2 c2 e2 :=
 ⟨(two_new w s1 s2 A1 A2 n1 c1 n2 c2 e1 e2).a, (two_new w s1 s2 A1 A2 n1 c1 n2 c2 e1 e2).b⟩
theorem three_dbl (w : World) {s1 s2 : Bool} {e1 e2 : Int} : Below w.heap.size w (((w.alloc (.cells #[.bool s1, .slice A1 n1 c1, .int .i64 e1] 25)).alloc (.cells #[.bool s2, .slice A2 n2 c2, .int .i64 e2] 25)).alloc (.cells #[.bool false, .slice none 0 0, .int .i64 0] 25)) ∧ Box (((w.alloc (.cells #[.bool s1, .slice A1 n1 c1, .int .i64 e1] 25)).alloc (.cells #[.bool s2, .slice A2 n2 c2, .int .i64 e2] 25)).alloc (.cells #[.bool false, .slice none 0 0, .int .i64 0] 25)) w.heap.size s1 A1 n1 c1 e1 ∧ Box (((w.alloc (.cells #[.bool s1, .slice A1 n1 c1, .int .i64 e1] 25)).alloc (.cells #[.bool s2, .slice A2 n2 c2, .int .i64 e2] 25)).alloc (.cells #[.bool false, .slice none 0 0, .int .i64 0] 25)) (w.heap.size + 1) s2 A2 n2 c2 e2 ∧ Box (((w.alloc (.cells #[.bool s1, .slice A1 n1 c1, .int .i64 e1] 25)).alloc (.cells #[.bool s2, .slice A2 n2 c2, .int .i64 e2] 25)).alloc (.cells #[.bool false, .slice none 0 0, .int .i64 0] 25)) (w.heap.size + 2) false none 0 0 0 := by
 obtain ⟨xa, xb⟩ := two_dbl w (s1 := s1) (A1 := A1) (n1 := n1) (c1 := c1) (e1 := e1) (s2 := s2) (A2 := A2) (n2 := n2) (c2 := c2) (e2 := e2)
 refine ⟨three_below w _ _ _, xa.alloc _, xb.alloc _, ?_⟩
 simpa using Box.new ((w.alloc (.cells #[.bool s1, .slice A1 n1 c1, .int .i64 e1] 25)).alloc (.cells #[.bool s2, .slice A2 n2 c2, .int .i64 e2] 25)) false none 0 0 0
section
variable {w : World} {g g' k i n c x n0 c0 : Nat} {A A0 : Option Addr} {s s0 : Bool} {e e0 : Int} {v u0 u1 u2 : Value}
theorem Dbx.other (h : Dbx w g' s A n c e) (hne : g' ≠ g) (j : Nat) (u : Value) : Dbx (w.setCell ⟨g, j, none⟩ u) g' s A n c e := ⟨(Below.heap_setCell w _ u g' hne).trans h.blk⟩
theorem Dbx.put3 (h : Dbx w g' s A n c e) (hne : g' ≠ g) (u0 u1 u2 : Value) : Dbx (((w.setCell ⟨g, 0, none⟩ u0).setCell ⟨g, 1, none⟩ u1).setCell ⟨g, 2, none⟩ u2) g' s A n c e := ((h.other hne 0 u0).other hne 1 u1).other hne 2 u2
theorem Box.put3 (h : Box w g' s A n c e) (hne : g' ≠ g) (u0 u1 u2 : Value) : Box (((w.setCell ⟨g, 0, none⟩ u0).setCell ⟨g, 1, none⟩ u1).setCell ⟨g, 2, none⟩ u2) g' s A n c e := ((h.other hne 0 u0).other hne 1 u1).other hne 2 u2
end
set_option maxHeartbeats 8000000
set_option maxRecDepth 100000
open Go.RowKit
theorem rsamei_any {A3 : Option Addr} {n3 c3 : Nat} {A4 : Option Addr} {n4 c4 : Nat} (h1 : Rd w .u64 YtlpeheonbbaffaaGreatDoor.W A1 n1 c1 x.lo.l) (h2 : Rd w .u64 YtlpeheonbbaffaaGreatDoor.W A2 n2 c2 x.hi.l) (h3 : Rd w .u64 YtlpeheonbbaffaaGreatDoor.W A3 n3 c3 y.lo.l) (h4 : Rd w .u64 YtlpeheonbbaffaaGreatDoor.W A4 n4 c4 y.hi.l) :
  Calls Tryz.prog 20 #[.agg #[.bool x.lo.s, .slice A1 n1 c1, .int .i64 x.lo.e, .bool x.hi.s, .slice A2 n2 c2, .int .i64 x.hi.e], .agg #[.bool y.lo.s, .slice A3 n3 c3, .int .i64 y.lo.e, .bool y.hi.s, .slice A4 n4 c4, .int .i64 y.hi.e]] w (Bools (sameI x y) w) := by
 obtain ⟨BB, xa, xb⟩ := two_ivl w (x := x) (y := y) (A1 := A1) (n1 := n1) (c1 := c1) (A2 := A2) (n2 := n2) (c2 := c2) (A3 := A3) (n3 := n3) (c3 := c3) (A4 := A4) (n4 := n4) (c4 := c4) 
 obtain ⟨a0, a1, a2, a3, a4, a5⟩ := xa.held
 obtain ⟨b0, b1, b2, b3, b4, b5⟩ := xb.held
 clear xa xb
 have G := mv BB rfl (J4 h1 h2 h3 h4)
 clear h1 h2 h3 h4
 obtain ⟨h1, h2, h3, h4⟩ := G
 obtain ⟨p1, hp1⟩ : ∃ p, p = sameQ x.lo y.lo := ⟨_, rfl⟩
 obtain ⟨p2, hp2⟩ : ∃ p, p = sameQ x.hi y.hi := ⟨_, rfl⟩
 have HP1 := Lib.hid hp1
 have HP2 := Lib.hid hp2
 unfold sameI
 rw [← hp1, ← hp2]
 clear hp1 hp2
 go_enter Tryz.func20, Tryz.ntmps20
 go_wp2_with fail
 refine (rsame_raw (s := x.lo.s) (t := y.lo.s) (e := x.lo.e) (f := y.lo.e) h1 h3).mono ?_
 rintro en w1 ⟨rfl, b⟩
 have e1 : sameB x.lo.s y.lo.s x.lo.l y.lo.l x.lo.e y.lo.e = p1 := HP1.out.symm
 rw [e1]
 clear e1 HP1
 replace BB := bnx BB b
 have G := mv b rfl (J16 a0 a1 a2 a3 a4 a5 b0 b1 b2 b3 b4 b5 h1 h2 h3 h4)
 clear b a0 a1 a2 a3 a4 a5 b0 b1 b2 b3 b4 b5 h1 h2 h3 h4
 obtain ⟨a0, a1, a2, a3, a4, a5, b0, b1, b2, b3, b4, b5, h1, h2, h3, h4⟩ := G
 cases p1
 ·go_wp2
  go_ret
  exact ⟨by first | rfl | simp, BB⟩
 go_wp2_with fail
 refine (rsame_raw (s := x.hi.s) (t := y.hi.s) (e := x.hi.e) (f := y.hi.e) h2 h4).mono ?_
 rintro en w2 ⟨rfl, b⟩
 have e1 : sameB x.hi.s y.hi.s x.hi.l y.hi.l x.hi.e y.hi.e = p2 := HP2.out.symm
 rw [e1]
 clear e1 HP2
 replace BB := bnx BB b
 have G := mv b rfl (J16 a0 a1 a2 a3 a4 a5 b0 b1 b2 b3 b4 b5 h1 h2 h3 h4)
 clear b a0 a1 a2 a3 a4 a5 b0 b1 b2 b3 b4 b5 h1 h2 h3 h4
 obtain ⟨a0, a1, a2, a3, a4, a5, b0, b1, b2, b3, b4, b5, h1, h2, h3, h4⟩ := G
 go_wp2
 go_ret
 exact ⟨by first | rfl | simp, BB⟩
open Go.RowKit
open Go.RowKit
open Go.RowKit
def Rw.of (s : Bool) (m : Nat) (e : Int) : Rw := ⟨s, dig YtlpeheonbbaffaaGreatDoor.W m, e, (can_dig W_two m).1⟩
theorem Rw.of_may (h : OkD s m e) : (Rw.of s m e).may = true := mayD_ok h
theorem Rw.of_v : (Rw.of s m e).v K = vz K s m e := by
 unfold Rw.of Rw.v
 rw [val_dig W_two]
theorem okd_1 : OkD false 1 0 := okd_small rfl (by omega) (by decide) (by decide)
theorem vz_1 (K m : Nat) : vz K false m 0 = (m : Int) * ((2 ^ K : Nat) : Int) := by
 unfold vz sg
 have e1 : ((0 : Int) + (K : Int)).toNat = K := by omega
 rw [e1, if_neg Bool.false_ne_true, Int.one_mul, Int.natCast_mul]
theorem vz_2 (K m j : Nat) : vz K false m (j : Int) = ((m * 2 ^ j : Nat) : Int) * ((2 ^ K : Nat) : Int) := by
 have h := vz_up (K := K) (s := false) (m := m) (e := 0) (by omega) j
 rw [Int.zero_add] at h
 rw [h, vz_1]
def q1 : Rw := Rw.of false 1 0
def q3 : Rw := Rw.of false 3 0
theorem q1_may : q1.may = true := Rw.of_may okd_1
theorem told_is' {f : FuncId} {args : Array Value} {P : Int → Bool → Nat → Int → Prop} {e k : Int} (h : Calls Tryz.prog f args w (Tells P w)) (hP : ∀ k1 s1 m1 e1, P k1 s1 m1 e1 → k1 = k ∧ s1 = s ∧ m1 = m ∧ e1 = e) : Calls Tryz.prog f args w (ToldIs s m e k w) := h.mono fun _ _ h => told_is h hP
open Go.RowKit
def upN (x n : Nat) : Nat := x / 2 ^ n + if x % 2 ^ n = 0 then 0 else 1
theorem low_up {x k n : Nat} (h : IsLow x k) : k < n ↔ x % 2 ^ n ≠ 0 := (isLow_mod h).symm
theorem up_low {x k n : Nat} (h : IsLow x k) (hk : k < n) : upN x n = x / 2 ^ n + 1 := by
 unfold upN
 rw [if_neg ((low_up h).1 hk)]
theorem up_high {x k n : Nat} (h : IsLow x k) (hk : ¬ k < n) : upN x n = x / 2 ^ n := by
 unfold upN
 rw [if_pos (Classical.byContradiction fun h0 => hk ((low_up h).2 h0))]
 rfl
def d64 : Iv := ⟨Rw.of true 1 6, Rw.of false 1 6⟩
theorem okd_64 (s : Bool) : OkD s 1 6 := .inr ⟨rfl, small64 (by omega), by decide, by decide⟩
theorem v_64 (K : Nat) : vz K false 1 6 = 64 * ((2 ^ K : Nat) : Int) ∧ vz K true 1 6 = -(64 * ((2 ^ K : Nat) : Int)) := by
 have h := vz_2 K 1 6
 have e1 : ((1 * 2 ^ 6 : Nat) : Int) = 64 := rfl
 have e2 : ((6 : Nat) : Int) = 6 := rfl
 rw [e1, e2] at h
 have h2 := vz_not K false 1 6
 rw [h] at h2
 exact ⟨h, h2⟩
set_option maxHeartbeats 200000
set_option maxRecDepth 100000
open Go.ChangeShapes Go.WideShapes Go.ChangeAt Go.RowKit
structure RdS (w : World) (A : Option Addr) (n c : Nat) (X : Nat → Iv) : Prop where
 cap : n ≤ c
 max : c ≤ 9223372036854775807
 at_ : n ≠ 0 → ∃ b o, A = some ⟨b, o, none⟩ ∧ Ivs w b o n X
theorem ival_cells {H : Type} {enc : TypeId × Value → H} {cs : List Value} {y : DataW H × List MemPlace}
  (hf : DataW.trod enc Tryz.prog W0 0 (fun _ => true) true fuel 29 cs = some y) :
  ∃ s A n c l e t B m d r f, cs = [.bool s, .slice A n c, .int .i64 e, .bool t, .slice B m d, .int .i64 f] ∧ Rd W0 .u64 W A n c l ∧ Rd W0 .u64 W B m d r := by
 obtain ⟨y0, y1, n, hx, hl, t0, t1⟩ := trod_struct2 Tryz.underlying29 hf
 obtain ⟨c0, c1, c2, c3, c4, c5, rfl⟩ := list6 (hl.trans cells_ival)
 replace t0 : DataW.trod enc Tryz.prog W0 0 (fun _ => true) true n 25 [c0, c1, c2] = some y0 := by
  have e : List.take (Tryz.prog.cellsOf 25) (List.drop 0 [c0, c1, c2, c3, c4, c5]) = [c0, c1, c2] := by rw [cells_dyad]; rfl
  rw [← e]; exact t0
 replace t1 : DataW.trod enc Tryz.prog W0 0 (fun _ => true) true n 25 [c3, c4, c5] = some y1 := by
  have e : List.take (Tryz.prog.cellsOf 25) (List.drop 3 [c0, c1, c2, c3, c4, c5]) = [c3, c4, c5] := by rw [cells_dyad]; rfl
  rw [← e]; exact t1
 obtain ⟨s, A, n1, c1', l, e, h0, r0⟩ := open_dyad_cells t0
 obtain ⟨t, B, m, d', r, f, h1, r1⟩ := open_dyad_cells t1
 simp only [List.cons.injEq, and_true] at h0 h1
 obtain ⟨rfl, rfl, rfl⟩ := h0
 obtain ⟨rfl, rfl, rfl⟩ := h1
 exact ⟨s, A, n1, c1', l, e, t, B, m, d', r, f, rfl, r0.1, r1.1⟩
end Go.Proofs.YtlpeheonbbaffaaGreatDoor
