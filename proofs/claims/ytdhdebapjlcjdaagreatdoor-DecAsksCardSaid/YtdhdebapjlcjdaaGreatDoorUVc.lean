/-
 A region that draws its order in the round of a range over a function; append of a text; the contract of strconv's FormatUint at base 10, at this translation. Conditions: the table of powers of ten lies as its text lays it.
-/
import Derived.RangeFuncNested
import Derived.RangeFuncBound
import Derived.RangeFuncCalls
import Derived.Test.YtdhdebapjlcjdaaGreatDoorUKp
import Derived.Test.YtdhdebapjlcjdaaGreatDoorUKn
import Derived.Test.YtdhdebapjlcjdaaGreatDoorUKs
import Derived.Test.YtdhdebapjlcjdaaGreatDoorShelfc
import Derived.Test.YtdhdebapjlcjdaaGreatDoorUKi
import Derived.OrdersIn
import Derived.Lib.ItoaMem
import Derived.Lib.AppendStr
import Derived.Deep.RegionHeld3
import Derived.Test.YtdhdebapjlcjdaaGreatDoorCards
import Derived.Test.YtdhdebapjlcjdaaGreatDoorTie
import Derived.Test.YtdhdebapjlcjdaaGreatDoorUCaps
import Derived.WalkKit
import Derived.ProofKit
import Derived.OpenShut
import Derived.Carry
import Derived.Deep.DeepHandedRow
import Derived.Lib.LaidTab
import Derived.Lib.SmallJoins
import Derived.LaidSub
import Derived.Lay
import Derived.Stop.LaidErr
import Derived.MakeChecks
import Derived.Deep.DeepWitnessRowRef
set_option maxHeartbeats 2000000
set_option maxRecDepth 100000
namespace Go.Proofs.YtdhdebapjlcjdaaGreatDoor
open Go Go.RowKit Go.Shelf Go.Sort

attribute [local go_sem] Oper.semAt_some

theorem boxed_keeps (B : Nat) (t : TypeId) (v : Value) : Go.Own (fun (_ : Nat) W => Boxed W B t v) := fun _ X Y row h hg hr => h.kept hg fun e' => by
 obtain ⟨o, ho, hc⟩ := hr B e'.symm
 rw [show X.heap[B]? = _ from h] at ho
 cases ho
 cases hc
theorem _root_.Go.Boxed.belowB {W W' : World} {b0 B : Nat} {t : TypeId} {v : Value} (h : Boxed W B t v) (hb : Below b0 W W') (hB : B < b0) : Boxed W' B t v := (hb.block B hB).trans h
theorem box_keeps (g : Nat) (s : Bool) (A : Option Addr) (n c : Nat) (e : Int) : Go.Own (fun (_ : Nat) W => Box W g s A n c e) := fun _ X Y row h hg hr => ⟨(hg.block g h.gl fun e' => by
 obtain ⟨o, ho, hc⟩ := hr g e'.symm
 rw [h.blk] at ho
 cases ho
 cases hc).trans h.blk⟩
/-- a row of the caller's own lies in blocks from its base on: what is stored ahead of them does not touch it -/
theorem Own.setOther {b0 g : Nat} {w : World} {e : TypeId} {k : IntKind} {v : Value} {l : List Nat} (h : Own b0 w e k v l) (hg : g < b0) (i : Nat) (u : Value) : Own b0 (w.setCell ⟨g, i, none⟩ u) e k v l := by
 refine World.ownsRow.kept h (grownBy_set w g i u) ?_
 rcases h.2 with ⟨rfl, _⟩ | ⟨g', cap, cur, rfl, hb, _⟩
 ·exact .inl rfl
 ·refine .inr fun e' => ?_
  have : g' = g := by simpa [Value.ownBlock] using e'
  omega
theorem wpIn_calm {n : Nat} {P : Program} {c : Code} {K : Act → World → Prop} {Q : Exit → Act → World → Prop} {a : Act} {w : World} (h : c.wp P (Exit.then K fun _ _ _ => False) a w) : c.wpIn Fence.wide n P (Exit.then K Q) a w :=
 wpIn_wide.2 (wp_mono h fun e a w h => by cases e <;> first | exact h | exact h.elim)

theorem wpIn_scope_wide {n : Nat} {P : Program} {c : Code} {Q : Exit → Act → World → Prop} {a : Act} {w : World} (h : c.wpIn Fence.wide n P (Exit.noGoto Q) a w) : (Code.scope c).wpIn Fence.wide n P Q a w := wpIn_wide.2 (wp_scope_straight (wpIn_wide.1 h))
/-! a region in a round is walked as everywhere -/
theorem op_round {l n : Nat} {P : Program} {o : Oper} {a : Act} {w : World} {K : Act → World → Prop} {Q : Exit → Act → World → Prop} (hd : ∀ c, o.op ≠ .defer c) (h : o.wp P a w K Q) : o.wpIn (Fence.wide.inRound l) n P a w K Q := by
 unfold Oper.wp at h
 unfold Oper.wpIn
 refine ⟨fun _ _ => trivial, ?_⟩
 rw [Oper.semAt_plain _ _ _ hd]
 generalize (execOp a.eval o).run P w = r at *
 cases r with
 | ok x w' =>
  cases x with
  | value v => exact h
  | skip => exact h
  | defer d => exact h
  | enter f args => exact ⟨(fun hh => by cases hh), CallsIn.inRound l (callsIn_wide.2 h)⟩
  | row row args => exact ⟨(fun hh => by cases hh), fun c cs _ => let ⟨v, w', r, s⟩ := h c cs; ⟨v, w', r, stepsIn_wide.2 s⟩⟩
  | round _ _ _ _ _ => exact h.elim
  | _ => exact h
 | halt x w' => cases x <;> exact h
theorem any_round {l n : Nat} {P : Program} {md : Region.Mode} {ops : Array Oper} {Q : Exit → Act → World → Prop} (hO : ∀ a w, Q .outgrown a w → False) (hd : ∀ (i : Nat) (o : Oper) c, ops[i]? = some o → o.op ≠ .defer c) :
  ∀ (fuel : Nat) (listed : Array Bool) (a : Act) (w : World), wpAny P md ops Q fuel listed a w → wpAnyIn (Fence.wide.inRound l) n P md ops Q fuel listed a w
 | 0, _, _, _, h => h
 | fuel + 1, listed, a, w, h => ⟨h.1, fun i hi => by
  have h2 := h.2 i hi
  unfold wpOp at h2
  unfold wpOpIn
  cases ho : ops[i]? with
  | none =>
   rw [ho] at h2
   exact any_round hO hd fuel _ _ _ h2
  | some o =>
   rw [ho] at h2
   dsimp only at h2 ⊢
   by_cases hw : Region.wanted o (yielded ops a.tmps) = true
   ·rw [if_pos hw] at h2 ⊢
    rcases h2 with h2 | ⟨_, a₀, w₀, hq⟩
    ·exact Oper.wpIn_mono (fun a w h => any_round hO hd fuel _ a w h) (op_round (hd i o · ho) h2)
    ·exact (hO a₀ w₀ hq).elim
   ·rw [if_neg hw] at h2 ⊢
    exact ⟨fun _ _ => trivial, any_round hO hd fuel _ _ _ h2⟩⟩
/-- no operation of a region is a defer statement -/
def noDefer (ops : Array Oper) : Bool := ops.all fun o => match o.op with
 | .defer _ => false
 | _ => true
theorem noDefer_spec {ops : Array Oper} (h : noDefer ops = true) (i : Nat) (o : Oper) (ho : ops[i]? = some o) : ∀ c, o.op ≠ .defer c := fun c e => by
 unfold noDefer at h
 rw [Array.all_eq_true] at h
 obtain ⟨hi, hx⟩ := Array.getElem?_eq_some_iff.1 ho
 have := h i hi
 rw [hx, e] at this
 cases this
theorem round_region_held {l n id : Nat} {P : Program} {ops : Array Oper} {Q : Exit → Act → World → Prop} {S : World → Prop} {a : Act} {w : World} (hd : noDefer ops = true) (hO : ∀ a w, Q .outgrown a w → False) (hm : P.follows .mixedOrders = true) (hS : S w.drew)
  (h : S w.drew → wpAnyH P .any ops Q S ops.size (Array.replicate ops.size false) a w.drew) : (Code.region id ops true).wpIn (Fence.wide.inRound l) n P Q a w :=
 wpIn_region_any hm (any_round hO (fun i o c ho => noDefer_spec hd i o ho c) _ _ _ _ (wpAny_of_held _ _ _ _ (h hS)))

/-! append of a text -/
theorem cells_txt {r : List Nat} (h : Lt 256 r) : Lib.strCells (txt r) = iv .u8 r := by
 unfold Lib.strCells iv
 rw [txt_list, List.map_map]
 refine List.map_congr_left fun x hx => ?_
 have := h x hx
 show Value.int .u8 ((UInt8.ofNat x).toNat : Int) = _
 rw [show (UInt8.ofNat x).toNat = x from UInt8.toNat_ofNat_of_lt' this]
theorem own_block {base : Nat} {w : World} {e : TypeId} {v : Value} {n : Nat} {xs : List Value} (h : w.ownsRow base e 1 v n xs) : ∀ b, v.ownBlock = some b → base ≤ b := fun b hb => by
 rcases h.2 with ⟨rfl, _⟩ | ⟨g, cap, cur, rfl, h1, _⟩
 ·cases hb
 ·have : g = b := by simpa [Value.ownBlock] using hb
  omega
theorem run_app_txt {t u ty e : TypeId} (ht : Tryz.prog.underlying t = some (.slice e)) (hu : Tryz.prog.underlying u = some .string) (hinfo : (Tryz.prog.info? e).map (fun i => (i.zero, i.size, i.bytes)) = some (some (.int .u8 0), 1, 1))
  {base : Nat} {w : World} {v : Value} {l r : List Nat} (hown : Own base w e .u8 v l) (hr : Lt 256 r) (hn : l.length + r.length ≤ 1000000) (hbase : base ≤ w.heap.size) :
  ∃ v' w', (Builtin.append_ #[t, u] ty #[v, .string (txt r)]).run Tryz.prog w = .ok v' w' ∧ Own base w' e .u8 v' (l ++ r) ∧ Below base w w' := by
 obtain ⟨i0, hi, hz0, hz1, hz2⟩ := info_parts hinfo
 obtain ⟨v', w', h1, h2, h3, _⟩ := Lib.run_append_own_string (P := Tryz.prog) w base t u ty e i0 ht hu hi hz0 hz1 hz2 v l.length (iv .u8 l) hown (txt r) (by rw [txt_size]; unfold maxLen; omega) (by rw [txt_size]; omega) hbase
 refine ⟨v', w', h1, ?_, (Below.refl _ _).grown h3 hbase (own_block hown)⟩
 unfold Own
 rw [List.length_append, iv_append, ← cells_txt hr, ← txt_size r]
 exact h2
theorem law_txtIn {F : Fence} {n' : Nat} {t u e : TypeId} (ht : Tryz.prog.underlying t = some (.slice e)) (hu : Tryz.prog.underlying u = some .string) (hinfo : (Tryz.prog.info? e).map (fun i => (i.zero, i.size, i.bytes)) = some (some (.int .u8 0), 1, 1))
  {ops : Array Oper} {rest : List Oper} {o : Oper} {a : Act} {Q : Exit → Act → World → Prop} {w : World} (hg : o.guard = none) (s x : Operand)
  (hop : o.op = .call { callee := .builtin .append, args := #[s, x], argTypes := #[t, u] }) {base : Nat} {v : Value} {l r : List Nat} (hown : Own base w e .u8 v l) (hr : Lt 256 r) (hn : l.length + r.length ≤ 1000000) (hbase : base ≤ w.heap.size)
  (hs : a.eval s = v) (hx : a.eval x = .string (txt r))
  (hK : ∀ v' w', Own base w' e .u8 v' (l ++ r) → Below base w w' → wpListIn F n' Tryz.prog ops Q rest (a.put o.dst v') w') : wpListIn F n' Tryz.prog ops Q (o :: rest) a w := by
 refine wpListIn_plain hg fun K hK' => ?_
 obtain ⟨v', w', hrun, r1, r2⟩ := run_app_txt (ty := o.type) ht hu hinfo hown hr hn hbase
 unfold Oper.wpIn
 refine ⟨?_, ?_⟩
 ·simp [Oper.about, hop, resolve, Target.leads, Sem.run_pure]
 ·rw [Oper.semAt_plain F _ _ (by rw [hop]; intro c hc'; cases hc')]
  simp [execOp, hop, resolve, invoke, builtin, hs, hx, hrun, Result.andThen]
  exact hK' _ _ (hK v' w' r1 r2)
theorem law_txt {t u e : TypeId} (ht : Tryz.prog.underlying t = some (.slice e)) (hu : Tryz.prog.underlying u = some .string) (hinfo : (Tryz.prog.info? e).map (fun i => (i.zero, i.size, i.bytes)) = some (some (.int .u8 0), 1, 1))
  {ops : Array Oper} {rest : List Oper} {o : Oper} {a : Act} {Q : Exit → Act → World → Prop} {w : World} (hg : o.guard = none) (s x : Operand)
  (hop : o.op = .call { callee := .builtin .append, args := #[s, x], argTypes := #[t, u] }) {base : Nat} {v : Value} {l r : List Nat} (hown : Own base w e .u8 v l) (hr : Lt 256 r) (hn : l.length + r.length ≤ 1000000) (hbase : base ≤ w.heap.size)
  (hs : a.eval s = v) (hx : a.eval x = .string (txt r))
  (hK : ∀ v' w', Own base w' e .u8 v' (l ++ r) → Below base w w' → wpList Tryz.prog ops Q rest (a.put o.dst v') w') : wpList Tryz.prog ops Q (o :: rest) a w := by
 refine wpList_plain hg fun K hK' => ?_
 obtain ⟨v', w', hrun, r1, r2⟩ := run_app_txt (ty := o.type) ht hu hinfo hown hr hn hbase
 unfold Oper.wp
 simp [execOp, hop, resolve, invoke, builtin, hs, hx, hrun, Result.andThen]
 exact hK' _ _ (hK v' w' r1 r2)
theorem wanted_free {o : Oper} {y : Nat → Option Bool} (hg : o.guard = none) : Region.wanted o y = true := by unfold Region.wanted; rw [hg]
/-- the same at a region that draws its order -/
theorem held_txt {t u e : TypeId} (ht : Tryz.prog.underlying t = some (.slice e)) (hu : Tryz.prog.underlying u = some .string) (hinfo : (Tryz.prog.info? e).map (fun i => (i.zero, i.size, i.bytes)) = some (some (.int .u8 0), 1, 1))
  {o : Oper} {a : Act} {Q : Exit → Act → World → Prop} {K : Act → World → Prop} {w : World} {y : Nat → Option Bool} (hg : o.guard = none) (s x : Operand)
  (hop : o.op = .call { callee := .builtin .append, args := #[s, x], argTypes := #[t, u] }) {base : Nat} {v : Value} {l r : List Nat} (hown : Own base w e .u8 v l) (hr : Lt 256 r) (hn : l.length + r.length ≤ 1000000) (hbase : base ≤ w.heap.size)
  (hs : a.eval s = v) (hx : a.eval x = .string (txt r))
  (hK : ∀ v' w', Own base w' e .u8 v' (l ++ r) → Below base w w' → K (a.put o.dst v') w') : if Region.wanted o y = true then Oper.wp Tryz.prog o a w K Q else K (a.put o.dst undef) w := by
 rw [if_pos (wanted_free hg)]
 obtain ⟨v', w', hrun, r1, r2⟩ := run_app_txt (ty := o.type) ht hu hinfo hown hr hn hbase
 unfold Oper.wp
 simp [execOp, hop, resolve, invoke, builtin, hs, hx, hrun, Result.andThen]
 exact hK v' w' r1 r2
theorem info8 : (Tryz.prog.info? 5).map (fun i => (i.zero, i.size, i.bytes)) = some (some (.int .u8 0), 1, 1) := by kernel_rfl

/-! FormatUint -/
/-- the table of powers of ten lies as its text lays it -/
def PowT (w : World) : Prop := Lib.TabIs Tryz.prog w "internal/strconv.uint64pow10" .u64 Lib.pow10Tab
theorem PowT.heap {w w2 : World} (h : PowT w) (e : w2.heap = w.heap) : PowT w2 := by
 unfold PowT Lib.TabIs World.var? at *
 rw [e]
 exact h
theorem PowT.below {w w2 : World} (h : PowT w) (hb : Below w.heap.size w w2) : PowT w2 := by
 unfold PowT Lib.TabIs World.var? at *
 cases hg : Tryz.prog.globalNamed "internal/strconv.uint64pow10" with
 | none => simp [hg] at h
 | some g =>
  simp only [hg, Option.bind_some] at h ⊢
  have hlt : g < w.heap.size := by
   rcases Nat.lt_or_ge g w.heap.size with h' | h'
   ·exact h'
   ·rw [Array.getElem?_eq_none h'] at h; simp at h
  rw [hb.block g hlt]
  exact h
theorem PowT.next {w X w2 : World} (h : PowT w) (b : Below X.heap.size X w2) (e : X.heap = w.heap) : PowT w2 := (h.heap e).below b
instance {w w2 : World} : Moves w w2 (PowT w) (PowT w2) := ⟨fun _ b e h => h.next b e⟩
/-- the digits of u, one at least -/
def fmtD (u : Nat) : List Nat := if u = 0 then [0] else decD u
theorem fmt_dec (u : Nat) : Lib.decDigits u = (asc (fmtD u)).map UInt8.ofNat := by
 unfold fmtD
 by_cases h : u = 0
 ·subst h
  rw [if_pos rfl, Lib.decDigits]
  rfl
 ·rw [if_neg h]
  induction u using Nat.strongRecOn with
  | ind u ih =>
   rw [Lib.decDigits, decD_pos h, asc_append, List.map_append]
   by_cases h1 : u < 10
   ·rw [dif_pos h1, show u / 10 = 0 by omega, decD_zero, Nat.mod_eq_of_lt h1]
    rfl
   ·rw [dif_neg h1, ih (u / 10) (by omega) (by omega)]
    rfl
theorem fmt_txt (u : Nat) : (⟨(Lib.decDigits u).toArray⟩ : ByteArray) = txt (asc (fmtD u)) := by rw [fmt_dec]; rfl
theorem holds0 (w : World) (T : TypeId) (nd : Nat) (hs : nd ≤ 24) : Holds (fun (b : UInt8) => Value.int .u8 (b.toNat : Int)) (w.alloc (.cells Lib.zeros24 T)) w.heap.size 0 (Array.replicate nd (0 : UInt8)) := fun j hj => by
 have hj' : j < nd := by simpa using hj
 refine ⟨?_, World.frozen?_alloc_new _ _ _ _⟩
 rw [World.cell?_alloc_new, Lib.zeros24_at _ (by omega), getElem!_pos _ j hj]
 simp
theorem below_put (w : World) (o : Obj) (dk : Array UInt8) (k : Nat) : Below w.heap.size w ((putRow (fun (b : UInt8) => Value.int .u8 (b.toNat : Int)) (w.alloc o) w.heap.size 0 dk).drewN k) := by
 rw [alloc_eq_grow]
 obtain ⟨os', _, e⟩ := putRow_grow_new (fun (b : UInt8) => Value.int .u8 (b.toNat : Int)) w #[o] w.heap.size 0 dk (Nat.le_refl _)
 rw [e]
 exact ⟨rfl, rfl, rfl, by simp [grow, World.drewN], fun b hb => by simp [grow, World.drewN, Array.getElem?_append_left hb]⟩
theorem fmtu1_any {w : World} {u : Nat} (hu : u < 18446744073709551616) (hP : PowT w) :
  Calls Tryz.prog 147 #[.int .u64 (u : Int), .int .i64 10] w fun e w' => e = .returned (.string (txt (asc (fmtD u)))) ∧ Below w.heap.size w w' := by
 rw [← fmt_txt]
 by_cases hs : u < 100
 ·go_enter Tryz.func147, Tryz.ntmps147
  go_wp2_with fail
  refine (Tryz.strconv_small u hs _).mono ?_
  rintro e w' ⟨rfl, rfl⟩
  go_wp2
  go_ret
  exact ⟨rfl, Below.refl _ _⟩
 ·have hu1 : 1 ≤ u := by omega
  have hnd20 : Lib.nDigits u ≤ 20 := by have := Lib.numDigits_eq u hu1 hu; split at this <;> omega
  have hal : Tryz.prog.arrayLen 185 = 24 := by simp [Program.arrayLen, Tryz.underlying185]
  have hsl : ∀ W, (Instr.sliceAt 185 (.pointer (some ⟨w.heap.size, 0, none⟩)) none (some (.int .i64 (Lib.nDigits u : Int))) none).run Tryz.prog W = .ok (.slice (some ⟨w.heap.size, 0, none⟩) (Lib.nDigits u) 24) W := fun W => by
   rw [run_sliceAt_array_h W 185 ⟨w.heap.size, 0, none⟩ (by simp [Program.arrayLen, Program.elem, Tryz.underlying185]) .i64 (Lib.nDigits u : Int) (by omega) (by rw [hal]; omega)]
   go_simp
  have hH0 := holds0 w 185 (Lib.nDigits u) (by omega)
  have hfmt := Tryz.internal_strconv_formatBase10 w.heap.size 0 24 u (Array.replicate (Lib.nDigits u) 0) (w.alloc (.cells Lib.zeros24 185)) hH0 (by rw [Array.size_replicate]; exact Lib.lt_pow_nDigits u) hu (by rw [Array.size_replicate]; omega)
  rw [Array.size_replicate] at hfmt
  have HF := Lib.hid hfmt
  have HH0 := Lib.hid hH0
  have hP2 : PowT (w.alloc (.cells Lib.zeros24 185)) := hP.below (below_alloc w _)
  clear hH0 hal hfmt hP
  go_enter Tryz.func147, Tryz.ntmps147
  go_wp2_with fail
  refine (Tryz.strconv_numDigits u hu1 hu _ hP2).mono ?_
  rintro e w' ⟨rfl, rfl⟩
  go_wp2_with fail
  refine HF.out.mono ?_
  rintro e w' ⟨rfl, k, v', dk, rfl, hF⟩
  have hcv : (convert 77 9 (.slice (some ⟨w.heap.size, 0, none⟩) (Lib.nDigits u) 24)).run Tryz.prog ((putRow (fun (b : UInt8) => Value.int .u8 (b.toNat : Int)) (w.alloc (.cells Lib.zeros24 185)) w.heap.size 0 dk).drewN k) = .ok (.string ⟨(Lib.decDigits u).toArray⟩) ((putRow (fun (b : UInt8) => Value.int .u8 (b.toNat : Int)) (w.alloc (.cells Lib.zeros24 185)) w.heap.size 0 dk).drewN k) := by
   have h := run_convert_bytes_back (P := Tryz.prog) ((putRow (fun (b : UInt8) => Value.int .u8 (b.toNat : Int)) (w.alloc (.cells Lib.zeros24 185)) w.heap.size 0 dk).drewN k) 77 9 5 ⟨w.heap.size, 0, none⟩ 24 (Lib.decDigits u) Tryz.underlying77 Tryz.underlying5 Tryz.underlying9 (fun j hj => by
    rw [Lib.row_is_numeral hF j hj, Lib.add_plain, World.cell?_drewN]
    exact cell?_putRow (fun (b : UInt8) => Value.int .u8 (b.toNat : Int)) _ w.heap.size 0 _ dk HH0.out (by rw [hF.size, Array.size_replicate]) j (by rw [hF.size]; rw [Lib.decDigits_length] at hj; exact hj))
   rw [Lib.decDigits_length] at h
   exact h
  go_wp2
  go_ret
  exact ⟨rfl, below_put w _ dk k⟩
theorem fmtu_any {w : World} {u : Nat} (hu : u < 18446744073709551616) (hP : PowT w) :
  Calls Tryz.prog 121 #[.int .u64 (u : Int), .int .i64 10] w fun e w' => e = .returned (.string (txt (asc (fmtD u)))) ∧ Below w.heap.size w w' := by
 have HC := fmtu1_any hu hP
 generalize txt (asc (fmtD u)) = s at *
 go_enter Tryz.func121, Tryz.ntmps121
 go_wp2_with fail
 refine HC.mono ?_
 rintro e w' ⟨rfl, b⟩
 clear HC
 go_wp2
 go_ret
 exact ⟨rfl, b⟩
end Go.Proofs.YtdhdebapjlcjdaaGreatDoor
set_option maxHeartbeats 200000
set_option maxRecDepth 100000
namespace Go.Proofs.YtdhdebapjlcjdaaGreatDoor
open Go.ChangeShapes Go.WideShapes Go.ChangeAt Go.RowKit

theorem own : ownKnob Tryz.prog.godebug = none := by kernel_rfl
theorem gTab : Tryz.prog.globalNamed "math/bits.deBruijn64tab" = some 0 := by kernel_rfl
theorem gTabType : (Tryz.prog.globals[0]?).map (·.type) = some 170 := by kernel_rfl
theorem cellsTab : Tryz.prog.cellsOf 170 = 64 := by kernel_rfl
theorem cellsU8 : Tryz.prog.cellsOf 5 = 1 := by kernel_rfl
theorem cellsU64 : Tryz.prog.cellsOf 38 = 1 := by kernel_rfl
def tabInts : List Int := Lib.deBruijn64tab.map (fun x : Nat => (x : Int))
theorem tab_of {W : World} (h : Lib.TabIs Tryz.prog W "math/bits.deBruijn64tab" .u8 tabInts) : Tab W := fun j hj => by
 have hl : tabInts.length = Lib.deBruijn64tab.length := by simp [tabInts]
 have := h.cell gTab j (by rw [hl]; exact hj)
 rw [this]
 congr 2
 simp only [tabInts, List.getD_eq_getElem?_getD, List.getElem?_map]
 rw [List.getElem?_eq_getElem hj]
 simp
theorem table {W : World} (h : laidMetH Tryz.prog [("math/bits.deBruijn64tab", Rows.laid_math_bits_deBruijn64tab)] W) : Tab W :=
 tab_of (Lib.tabIs_of_head (rest := []) gTab gTabType Tryz.underlying170 Tryz.underlying5 cellsU8 cellsTab h)

/-- 'true', and each argument reads as it did: the post of every law here. -/
theorem post_true {H : Type} {enc : TypeId × Value → H} {f : Func} {s : ChangeSpec} {W W' : World} {args : Array Value} {ds gs : List (DataW H)} {before pa : List MemPlace}
  (hW : DataW.Whole enc Tryz.prog f.params.toList s.vars false W args.toList ds gs before) (hr : f.resultTypes = #[4]) (hs : (s.fn H (ds ++ gs)).results = [.lit (.bool true)]) (hv : DataW.TrodVars enc Tryz.prog W' (fun b => decide (b < W.heap.size)) s.vars (s.fn H (ds ++ gs)).vars [])
  (hargs : DataW.TrodAll enc Tryz.prog W' 0 (fun b => decide (b < W.heap.size)) true f.params.toList args.toList (s.fn H (ds ++ gs)).args pa) (hb : Below W.heap.size W W') :
  s.post enc Tryz.prog f false true false false W args (.bool true) W' := by
 refine ⟨ds, gs, before, [], pa, [], hW, ?_, hargs, hv, hb.frame _, fun h => by cases h⟩
 rw [hs, hr]
 exact trodAll_cons_mk (shut_bool Tryz.underlying4 _) trodAll_mk0
end Go.Proofs.YtdhdebapjlcjdaaGreatDoor

namespace Go.Proofs.YtdhdebapjlcjdaaGreatDoor
open Go.ChangeShapes Go.WideShapes Go.ChangeAt Go.RowKit

end Go.Proofs.YtdhdebapjlcjdaaGreatDoor

namespace Go.Proofs.YtdhdebapjlcjdaaGreatDoor
open Go.ChangeShapes Go.WideShapes Go.ChangeAt Go.RowKit

end Go.Proofs.YtdhdebapjlcjdaaGreatDoor

namespace Go.Proofs.YtdhdebapjlcjdaaGreatDoor
open Go.ChangeShapes Go.WideShapes Go.ChangeAt Go.RowKit

end Go.Proofs.YtdhdebapjlcjdaaGreatDoor
set_option maxHeartbeats 200000
set_option maxRecDepth 100000
namespace Go.Proofs.YtdhdebapjlcjdaaGreatDoor
open Go.ChangeShapes Go.WideShapes Go.ChangeAt Go.RowKit

def laid4 : List (String × DataW Unit) := [("math/bits.deBruijn32tab", Rows.laid_math_bits_deBruijn32tab), ("math/bits.deBruijn64tab", Rows.laid_math_bits_deBruijn64tab), ("internal/strconv.uint64pow10", Rows.laid_internal_strconv_uint64pow10), ("unicode/utf8.acceptRanges", Rows.laid_unicode_utf8_acceptRanges), ("strconv.ErrRange", Rows.laid_strconv_ErrRange), ("strconv.ErrSyntax", Rows.laid_strconv_ErrSyntax), ("unicode/utf8.first", Rows.laid_unicode_utf8_first)]
theorem gPow : Tryz.prog.globalNamed "internal/strconv.uint64pow10" = some 5 := by kernel_rfl
theorem gPowType : (Tryz.prog.globals[5]?).map (·.type) = some 200 := by kernel_rfl
theorem cellsPow : Tryz.prog.cellsOf 200 = 20 := by kernel_rfl
theorem gSyn : Tryz.prog.globalNamed "strconv.ErrSyntax" = some 3 := by kernel_rfl
theorem gSynType : (Tryz.prog.globals[3]?).map (·.type) = some 128 := by kernel_rfl
theorem gRng : Tryz.prog.globalNamed "strconv.ErrRange" = some 4 := by kernel_rfl
theorem gRngType : (Tryz.prog.globals[4]?).map (·.type) = some 128 := by kernel_rfl
theorem cellsErr : Tryz.prog.cellsOf 210 = 1 := by kernel_rfl
theorem cellsStr : Tryz.prog.cellsOf 9 = 1 := by kernel_rfl
theorem starErr : "*" ++ "errors.errorString" = "*errors.errorString" := by decide
theorem rowErr (u : TypeId) (h : Tryz.prog.typeName? 3 u = some "*errors.errorString") : u = 208 :=
 typeName_ptr_named (nm := "errors.errorString") (by rw [starErr]; kernel_rfl) (by kernel_rfl) (by decide) u (by rw [starErr]; exact h)
theorem plain4 : (laid4.all fun x => x.2.handleName?.isNone) = true := by kernel_rfl
theorem table4 {W : World} (h : laidMetH Tryz.prog laid4 W) : Errs W ∧ Tab W ∧ PowT W := by
 have h0 : laidMet Tryz.prog laid4 W := by rw [← MakeChecks.laidMetH_plain _ _ _ plain4]; exact h
 have e1 : laid4.filter (fun x => x.1 == "math/bits.deBruijn64tab") = [("math/bits.deBruijn64tab", Rows.laid_math_bits_deBruijn64tab)] := by kernel_rfl
 have e2 : laid4.filter (fun x => x.1 == "internal/strconv.uint64pow10") = [("internal/strconv.uint64pow10", Rows.laid_internal_strconv_uint64pow10)] := by kernel_rfl
 have e3 : laid4.filter (fun x => x.1 == "strconv.ErrRange") = [("strconv.ErrRange", Rows.laid_strconv_ErrRange)] := by kernel_rfl
 have e4 : laid4.filter (fun x => x.1 == "strconv.ErrSyntax") = [("strconv.ErrSyntax", Rows.laid_strconv_ErrSyntax)] := by kernel_rfl
 have h1 := h.filter (fun x => x.1 == "math/bits.deBruijn64tab")
 have h2 := h.filter (fun x => x.1 == "internal/strconv.uint64pow10")
 have h3 := h0.filter (fun x => x.1 == "strconv.ErrRange")
 have h4 := h0.filter (fun x => x.1 == "strconv.ErrSyntax")
 rw [e1] at h1
 rw [e2] at h2
 rw [e3] at h3
 rw [e4] at h4
 refine ⟨⟨?_, ?_⟩, table h1, ?_⟩
 ·obtain ⟨a, s, hv, _⟩ := laid_sentinel h4 gSyn gSynType Tryz.underlying128 rowErr Tryz.underlying208 Tryz.underlying210 rfl rfl Tryz.underlying9 cellsErr cellsStr
  exact ⟨_, World.var?_cell gSyn hv 0, .inr ⟨_, _, rfl⟩⟩
 ·obtain ⟨a, s, hv, _⟩ := laid_sentinel h3 gRng gRngType Tryz.underlying128 rowErr Tryz.underlying208 Tryz.underlying210 rfl rfl Tryz.underlying9 cellsErr cellsStr
  exact ⟨_, World.var?_cell gRng hv 0, .inr ⟨_, _, rfl⟩⟩
 ·exact Lib.tabIs_of_head (rest := []) gPow gPowType Tryz.underlying200 Tryz.underlying38 cellsU64 cellsPow h2

/-- a world for the witness -/
noncomputable def laidWorld4 (os : Os) : World := World.laidAll Tryz.prog os laid4
end Go.Proofs.YtdhdebapjlcjdaaGreatDoor
