/-
  Rows of numbers of the call's own that grow; a tube that is made term by term, at this translation. Condition: the slices read as limbs, the table of math/bits reads as its text lays it.
-/
import Derived.Test.YtkpcmgfpmekkjaaDoorQUf
import Derived.Test.YtkpcmgfpmekkjaaDoorQUr
namespace Go.Proofs.YtkpcmgfpmekkjaaDoor
open Go.RowKit


section
variable {w w' : World} {base : Nat} {v v' : Value} {L : List Rw}
theorem hrow_app {xs : List Value} {x : Rw} {A : Option Addr} {n c : Nat} (hl : xs.length = L.length * 3) (old : ∀ i, i < L.length → ∃ A n c, xs[i * 3]? = some (.bool (L.getD i Rw.zero).s) ∧ xs[i * 3 + 1]? = some (.slice A n c) ∧ xs[i * 3 + 2]? = some (.int .i64 (L.getD i Rw.zero).e) ∧ Rd w .u64 Go.Proofs.YtkpcmgfpmekkjaaDoor.W A n c (L.getD i Rw.zero).l)
    (hfar : ∀ A n c l, Rd w .u64 Go.Proofs.YtkpcmgfpmekkjaaDoor.W A n c l → Rd w' .u64 Go.Proofs.YtkpcmgfpmekkjaaDoor.W A n c l) (hr : Rd w' .u64 Go.Proofs.YtkpcmgfpmekkjaaDoor.W A n c x.l) (g1 : RowN w' base 28 3 v' (L.length + 1) (xs ++ [.bool x.s, .slice A n c, .int .i64 x.e])) : HRow w' base v' (L ++ [x]) := by
  refine ⟨_, by rw [List.length_append]; exact g1, fun i hi => ?_⟩
  rw [List.length_append, List.length_singleton] at hi
  rcases Nat.lt_or_ge i L.length with h | h
  · obtain ⟨A', n', c', k0, k1, k2, r⟩ := old i h
    have e : (L ++ [x]).getD i Rw.zero = L.getD i Rw.zero := by
      rw [List.getD_eq_getElem?_getD, List.getD_eq_getElem?_getD, List.getElem?_append_left h]
    rw [e]
    exact ⟨A', n', c', by rw [List.getElem?_append_left (by omega)]; exact k0, by rw [List.getElem?_append_left (by omega)]; exact k1, by rw [List.getElem?_append_left (by omega)]; exact k2, hfar _ _ _ _ r⟩
  · obtain rfl : i = L.length := by omega
    have e : (L ++ [x]).getD L.length Rw.zero = x := by
      rw [List.getD_eq_getElem?_getD, List.getElem?_append_right (Nat.le_refl _), Nat.sub_self]; rfl
    rw [e]
    refine ⟨A, n, c, ?_, ?_, ?_, hr⟩
    · rw [List.getElem?_append_right (by omega), hl, Nat.sub_self]; rfl
    · rw [List.getElem?_append_right (by omega), hl, Nat.add_sub_cancel_left]; rfl
    · rw [List.getElem?_append_right (by omega), hl, Nat.add_sub_cancel_left]; rfl
theorem rd_grw {A : Option Addr} {n c : Nat} {l : List Nat} {row : Option Nat} (h : Rd w .u64 Go.Proofs.YtkpcmgfpmekkjaaDoor.W A n c l) (hg : w.grownBy w' row) (hno : ∀ q, row = some q → ∀ i x : Nat, w.cell? ⟨q, i, none⟩ ≠ some (.int .u64 (x : Int))) : Rd w' .u64 Go.Proofs.YtkpcmgfpmekkjaaDoor.W A n c l := by
  cases row with
  | none => exact h.grownNone hg
  | some g => exact h.grown hg (h.off (hno g rfl))
theorem Blk.grw {g : Nat} {cs : Array Value} {T : TypeId} {row : Option Nat} (h : Blk w g cs T) (hg : w.grownBy w' row) (hr : row ≠ some g) : Blk w' g cs T := ⟨(hg.block g h.gl (fun e => hr e.symm)).trans h.blk⟩
theorem HRow.slice (h : HRow w base v L) : ∃ A c, v = .slice A L.length c := by
  obtain ⟨A, c, h, _⟩ := h.form
  exact ⟨A, c, h⟩
theorem HRow.grown {row : Option Nat} (h : HRow w base v L) (hg : w.grownBy w' row) (hne : ∀ k, v.ownBlock = some k → row ≠ some k) (hno : ∀ k, row = some k → ∀ i x : Nat, w.cell? ⟨k, i, none⟩ ≠ some (.int .u64 (x : Int))) : HRow w' base v L :=
  have hl := h.lt
  h.via (fun q hq => hg.block q (hl q hq).2 (fun e => hne q hq e.symm)) (fun _ _ _ _ hr => rd_grw hr hg hno)
set_option maxRecDepth 100000 in
/-- append of one number, which lies in a block of its own, as a run -/
theorem apph_run (ty : TypeId) {b : Nat} {x : Rw} {A : Option Addr} {n c : Nat} (h : HRow w base v L) (hb : Blk w b #[.bool x.s, .slice A n c, .int .i64 x.e] 28) (hr : Rd w .u64 Go.Proofs.YtkpcmgfpmekkjaaDoor.W A n c x.l) (hL : L.length ≤ 1000) (hbase : base ≤ w.heap.size) :
    ∃ v' w', (Builtin.append_ #[22, 22] ty #[v, .slice (some ⟨b, 0, none⟩) 1 1]).run Tryd.prog w = .ok v' w' ∧ HRow w' base v' (L ++ [x]) ∧ w.grownBy w' v.ownBlock ∧ (v'.ownBlock = v.ownBlock ∨ v'.ownBlock = some w.heap.size) := by
  have hno := h.no
  obtain ⟨xs, h1, h2⟩ := h
  obtain ⟨i0, hi, hz0, hz1, hz2⟩ := info_partsD infoHr
  obtain ⟨v', w', hr', g1, g2, g3⟩ := run_append_n (ty := ty) (c := 1) Tryd.underlying22 hi hz0 hz1 hz2 rfl (by decide) (by intro u hu x hx; simp [Value.cells] at hu; rcases hu with rfl | rfl | rfl <;> cases hx) h1 (a := ⟨b, 0, none⟩) (m := 1) (news := [.bool x.s, .slice A n c, .int .i64 x.e]) rfl
    (fun j u hu => by
      rw [show (⟨b, 0, none⟩ : Addr).add j = ⟨b, j, none⟩ by unfold Addr.add; split <;> simp_all]
      exact hb.at j (by rw [← hu]; simp))
    (fun u hu => by simp at hu; rcases hu with rfl | rfl | rfl <;> rfl) (fun u hu x hx => by simp at hu; rcases hu with rfl | rfl | rfl <;> cases hx) (by decide) (by unfold maxLen; omega) (by omega) hbase
  have hfar := fun A n c l (hB : Rd w .u64 Go.Proofs.YtkpcmgfpmekkjaaDoor.W A n c l) => rd_grw hB g2 hno
  exact ⟨v', w', hr', hrow_app h1.1.1 h2 hfar (hfar _ _ _ _ hr) (by simpa using g1), g2, g3⟩
set_option maxRecDepth 100000 in
/-- append of two numbers -/
theorem apph2_run (ty : TypeId) {b : Nat} {x y : Rw} {A : Option Addr} {n c : Nat} {B : Option Addr} {m d : Nat} (h : HRow w base v L) (hb : Blk w b #[.bool x.s, .slice A n c, .int .i64 x.e, .bool y.s, .slice B m d, .int .i64 y.e] 28) (hr : Rd w .u64 Go.Proofs.YtkpcmgfpmekkjaaDoor.W A n c x.l) (hs : Rd w .u64 Go.Proofs.YtkpcmgfpmekkjaaDoor.W B m d y.l) (hL : L.length ≤ 1000) (hbase : base ≤ w.heap.size) :
    ∃ v' w', (Builtin.append_ #[22, 22] ty #[v, .slice (some ⟨b, 0, none⟩) 2 2]).run Tryd.prog w = .ok v' w' ∧ HRow w' base v' (L ++ [x, y]) ∧ w.grownBy w' v.ownBlock ∧ (v'.ownBlock = v.ownBlock ∨ v'.ownBlock = some w.heap.size) := by
  have hno := h.no
  obtain ⟨xs, h1, h2⟩ := h
  obtain ⟨i0, hi, hz0, hz1, hz2⟩ := info_partsD infoHr
  obtain ⟨v', w', hr', g1, g2, g3⟩ := run_append_n (ty := ty) (c := 2) Tryd.underlying22 hi hz0 hz1 hz2 rfl (by decide) (by intro u hu x hx; simp [Value.cells] at hu; rcases hu with rfl | rfl | rfl <;> cases hx) h1 (a := ⟨b, 0, none⟩) (m := 2) (news := [.bool x.s, .slice A n c, .int .i64 x.e, .bool y.s, .slice B m d, .int .i64 y.e]) rfl
    (fun j u hu => by
      rw [show (⟨b, 0, none⟩ : Addr).add j = ⟨b, j, none⟩ by unfold Addr.add; split <;> simp_all]
      exact hb.at j (by rw [← hu]; simp))
    (fun u hu => by simp at hu; rcases hu with rfl | rfl | rfl | rfl | rfl | rfl <;> rfl) (fun u hu x hx => by simp at hu; rcases hu with rfl | rfl | rfl | rfl | rfl | rfl <;> cases hx) (by decide) (by unfold maxLen; omega) (by omega) hbase
  have hfar := fun A n c l (hB : Rd w .u64 Go.Proofs.YtkpcmgfpmekkjaaDoor.W A n c l) => rd_grw hB g2 hno
  have hl : xs.length = L.length * 3 := h1.1.1
  -- the row of the first only, as a list of cells
  have key : ∀ i, i < (L ++ [x]).length → ∃ A' n' c', (xs ++ [Value.bool x.s, .slice A n c, .int .i64 x.e])[i * 3]? = some (.bool ((L ++ [x]).getD i Rw.zero).s) ∧ (xs ++ [Value.bool x.s, .slice A n c, .int .i64 x.e])[i * 3 + 1]? = some (.slice A' n' c') ∧ (xs ++ [Value.bool x.s, .slice A n c, .int .i64 x.e])[i * 3 + 2]? = some (.int .i64 ((L ++ [x]).getD i Rw.zero).e) ∧ Rd w .u64 Go.Proofs.YtkpcmgfpmekkjaaDoor.W A' n' c' ((L ++ [x]).getD i Rw.zero).l := fun i hi => by
    rw [List.length_append, List.length_singleton] at hi
    rcases Nat.lt_or_ge i L.length with h | h
    · obtain ⟨A', n', c', k0, k1, k2, r⟩ := h2 i h
      have e : (L ++ [x]).getD i Rw.zero = L.getD i Rw.zero := by
        rw [List.getD_eq_getElem?_getD, List.getD_eq_getElem?_getD, List.getElem?_append_left h]
      rw [e]
      exact ⟨A', n', c', by rw [List.getElem?_append_left (by omega)]; exact k0, by rw [List.getElem?_append_left (by omega)]; exact k1, by rw [List.getElem?_append_left (by omega)]; exact k2, r⟩
    · obtain rfl : i = L.length := by omega
      have e : (L ++ [x]).getD L.length Rw.zero = x := by
        rw [List.getD_eq_getElem?_getD, List.getElem?_append_right (Nat.le_refl _), Nat.sub_self]; rfl
      rw [e]
      refine ⟨A, n, c, ?_, ?_, ?_, hr⟩
      · rw [List.getElem?_append_right (by omega), hl, Nat.sub_self]; rfl
      · rw [List.getElem?_append_right (by omega), hl, Nat.add_sub_cancel_left]; rfl
      · rw [List.getElem?_append_right (by omega), hl, Nat.add_sub_cancel_left]; rfl
  have hz := hrow_app (L := L ++ [x]) (x := y) (xs := xs ++ [.bool x.s, .slice A n c, .int .i64 x.e]) (by rw [List.length_append, List.length_append, hl]; simp; omega) key hfar (hfar _ _ _ _ hs) (by rw [List.length_append]; simpa [List.append_assoc] using g1)
  exact ⟨v', w', hr', by simpa [List.append_assoc] using hz, g2, g3⟩
end
/-- a tube that is made term by term, in a box; the interval of the cell that is looked at, in another -/
structure CelS (W1 w : World) (g9 gz : Nat) (bT bV vT vV : Value) (LT : List Rw) (LV : List Iv) (zc : Array Value) : Prop where
  below : Below W1.heap.size W1 w
  lo : W1.heap.size ≤ g9
  box : Blk w g9 #[bT, bV] 25
  t : HRow w W1.heap.size vT LT
  v : IRow w W1.heap.size vV LV
  z : Blk w gz zc 35
  zne : vV.ownBlock ≠ some gz
section
variable {W1 w w' : World} {g9 gz : Nat} {bT bV vT vV v' : Value} {LT LT' : List Rw} {LV LV' : List Iv} {zc : Array Value}
theorem CelS.go (h : CelS W1 w g9 gz bT bV vT vV LT LV zc) {w2 : World} (b : Below w.heap.size w w2) : CelS W1 w2 g9 gz bT bV vT vV LT LV zc :=
  ⟨below_next h.below h.below.size b rfl rfl rfl rfl, h.lo, mv b rfl h.box, mv b rfl h.t, mv b rfl h.v, mv b rfl h.z, h.zne⟩
theorem CelS.offT (h : CelS W1 w g9 gz bT bV vT vV LT LV zc) {g : Nat} {cs : Array Value} {T : TypeId} (hb : Blk w g cs T) (hne : T ≠ 28) : vT.ownBlock ≠ some g := fun e => by
  obtain ⟨cs', hk⟩ := h.t.kind g e
  exact kinds_ne hb.blk hk hne rfl
theorem CelS.offV (h : CelS W1 w g9 gz bT bV vT vV LT LV zc) {g : Nat} {cs : Array Value} {T : TypeId} (hb : Blk w g cs T) (hne : T ≠ 35) : vV.ownBlock ≠ some g := fun e => by
  obtain ⟨cs', hk⟩ := h.v.kind g e
  exact kinds_ne hb.blk hk hne rfl
theorem CelS.apart (h : CelS W1 w g9 gz bT bV vT vV LT LV zc) : ∀ k k', vT.ownBlock = some k → vV.ownBlock = some k' → k ≠ k' := fun k k' e e' => by
  obtain ⟨cs, hk⟩ := h.t.kind k e
  obtain ⟨cs', hk'⟩ := h.v.kind k' e'
  exact kinds_ne hk hk' (by decide)
/-- the times have grown -/
theorem CelS.appT (h : CelS W1 w g9 gz bT bV vT vV LT LV zc) (G1 : HRow w' W1.heap.size v' LT') (G2 : w.grownBy w' vT.ownBlock) : CelS W1 w' g9 gz bT bV v' vV LT' LV zc :=
  ⟨grown_below G2 h.below (fun q hq => (h.t.lt q hq).1) h.below.size, h.lo, h.box.grw G2 (h.offT h.box (by decide)), G1, h.v.grown G2 (fun k hk e => h.apart k k e hk rfl) h.t.no, h.z.grw G2 (h.offT h.z (by decide)), h.zne⟩
/-- the intervals have grown -/
theorem CelS.appV (h : CelS W1 w g9 gz bT bV vT vV LT LV zc) (G1 : IRow w' W1.heap.size v' LV') (G2 : w.grownBy w' vV.ownBlock) (G3 : v'.ownBlock = vV.ownBlock ∨ v'.ownBlock = some w.heap.size) : CelS W1 w' g9 gz bT bV vT v' LT LV' zc :=
  ⟨grown_below G2 h.below (fun q hq => (h.v.lt q hq).1) h.below.size, h.lo, h.box.grw G2 (h.offV h.box (by decide)), h.t.grown G2 (fun k hk e => h.apart k k hk e rfl) h.v.no, G1, h.z.grw G2 h.zne, by
    rcases G3 with e | e
    · rw [e]; exact h.zne
    · rw [e]; intro e2; injection e2 with e2; have := h.z.gl; omega⟩
theorem blk_set0 {u u' x : Value} {T : TypeId} (h : Blk w g9 #[u, u'] T) : Blk (w.setCell ⟨g9, 0, none⟩ x) g9 #[x, u'] T := by
  have := h.blk
  refine ⟨?_⟩
  simp [World.setCell, Array.getElem?_modify, this]
theorem blk_set1 {u u' x : Value} {T : TypeId} (h : Blk w g9 #[u, u'] T) : Blk (w.setCell ⟨g9, 1, none⟩ x) g9 #[u, x] T := by
  have := h.blk
  refine ⟨?_⟩
  simp [World.setCell, Array.getElem?_modify, this]
/-- the rows behind a store into the box -/
theorem CelS.rows (h : CelS W1 w g9 gz bT bV vT vV LT LV zc) (hT : NoL bT) (hV : NoL bV) (i : Nat) (u : Value) : HRow (w.setCell ⟨g9, i, none⟩ u) W1.heap.size vT LT ∧ IRow (w.setCell ⟨g9, i, none⟩ u) W1.heap.size vV LV ∧ ∀ A n c l, Rd w .u64 Go.Proofs.YtkpcmgfpmekkjaaDoor.W A n c l → Rd (w.setCell ⟨g9, i, none⟩ u) .u64 Go.Proofs.YtkpcmgfpmekkjaaDoor.W A n c l := by
  have no := h.box.nou hT hV
  have hr : ∀ A n c l, Rd w .u64 Go.Proofs.YtkpcmgfpmekkjaaDoor.W A n c l → Rd (w.setCell ⟨g9, i, none⟩ u) .u64 Go.Proofs.YtkpcmgfpmekkjaaDoor.W A n c l := fun A n c l hr => hr.set1 (hr.off no) _ _
  refine ⟨h.t.via (fun q hq => ?_) hr, h.v.via (fun q hq => ?_) hr, hr⟩
  · obtain ⟨cs, hk⟩ := h.t.kind q hq
    exact Below.heap_setCell _ _ _ q (kinds_ne hk h.box.blk (by decide))
  · obtain ⟨cs, hk⟩ := h.v.kind q hq
    exact Below.heap_setCell _ _ _ q (kinds_ne hk h.box.blk (by decide))
theorem CelS.put0 (h : CelS W1 w g9 gz bT bV vT vV LT LV zc) (hT : NoL bT) (hV : NoL bV) (u : Value) : CelS W1 (w.setCell ⟨g9, 0, none⟩ u) g9 gz u bV vT vV LT LV zc :=
  have hz : gz ≠ g9 := kinds_ne h.z.blk h.box.blk (by decide)
  ⟨h.below.setCell h.lo u, h.lo, blk_set0 h.box, (h.rows hT hV 0 u).1, (h.rows hT hV 0 u).2.1, h.z.oth hz 0 u, h.zne⟩
theorem CelS.put1 (h : CelS W1 w g9 gz bT bV vT vV LT LV zc) (hT : NoL bT) (hV : NoL bV) (u : Value) : CelS W1 (w.setCell ⟨g9, 1, none⟩ u) g9 gz bT u vT vV LT LV zc :=
  have hz : gz ≠ g9 := kinds_ne h.z.blk h.box.blk (by decide)
  ⟨h.below.setCell h.lo u, h.lo, blk_set1 h.box, (h.rows hT hV 1 u).1, (h.rows hT hV 1 u).2.1, h.z.oth hz 1 u, h.zne⟩
theorem TubS.cel {w0 : World} {g3 : Nat} (h : TubS w0 w g3 vT vV LT LV) (zc : Array Value) : CelS w0 (w.alloc (.cells zc 35)) g3 w.heap.size vT vV vT vV LT LV zc :=
  have b := below_alloc w (.cells zc 35)
  ⟨below_next h.below h.below.size b rfl rfl rfl rfl, h.lo, mv b rfl h.box, mv b rfl h.t, mv b rfl h.v, Blk.new w zc _, fun e => by have := (h.v.lt _ e).2; omega⟩
theorem CelS.tub (h : CelS W1 w g9 gz vT vV vT vV LT LV zc) : TubS W1 w g9 vT vV LT LV := ⟨h.below, h.lo, h.box, h.t, h.v⟩
end
/-- how a function ends that tells a tube -/
def GivT (a : Tb) (w : World) (en : Ending) (w' : World) : Prop := ∃ A c B d, en = .returned (.agg #[.slice A a.m c, .slice B a.n d]) ∧ RdTb w' A c B d a ∧ Below w.heap.size w w'
/-- a function that tells yes or no of two numbers -/
structure Comes (f : FuncId) (q : Rw → Rw → Bool) : Prop where
  go : ∀ (u v : Value) (W2 : World), (callFunc f #[u, v]).run Tryd.prog W2 = .ok (.enter f #[u, v]) W2
  is : ∀ {W : World} {x y : Rw} {A1 : Option Addr} {n1 c1 : Nat} {A2 : Option Addr} {n2 c2 : Nat}, Tab W → Rd W .u64 Go.Proofs.YtkpcmgfpmekkjaaDoor.W A1 n1 c1 x.l → Rd W .u64 Go.Proofs.YtkpcmgfpmekkjaaDoor.W A2 n2 c2 y.l → Calls Tryd.prog f #[.agg #[.bool x.s, .slice A1 n1 c1, .int .i64 x.e], .agg #[.bool y.s, .slice A2 n2 c2, .int .i64 y.e]] W (Bools (q x y) W)
/-- is the cell i one of those that are told? -/
def selB (q : Rw → Rw → Bool) (a : Tb) (x y : Rw) (i : Nat) : Bool := q x (a.T (i + 1)) && q (a.T i) y
def selV (q : Rw → Rw → Bool) (a : Tb) (x y : Rw) : Nat → List Iv
  | 0 => []
  | i + 1 => if selB q a x y i = true then selV q a x y i ++ [a.V i] else selV q a x y i
def selT (q : Rw → Rw → Bool) (a : Tb) (x y : Rw) : Nat → List Rw
  | 0 => []
  | i + 1 => if selB q a x y i = true then (if (selV q a x y i).length = 0 then selT q a x y i ++ [a.T i] else selT q a x y i) ++ [a.T (i + 1)] else selT q a x y i
section
variable {q : Rw → Rw → Bool} {a : Tb} {x y : Rw}
theorem selV_len : ∀ {i : Nat}, (selV q a x y i).length ≤ i
  | 0 => Nat.le_refl _
  | i + 1 => by
    have := selV_len (i := i)
    show (if selB q a x y i = true then selV q a x y i ++ [a.V i] else selV q a x y i).length ≤ i + 1
    split
    · rw [List.length_append, List.length_singleton]; omega
    · omega
theorem selT_len : ∀ {i : Nat}, (selT q a x y i).length = if (selV q a x y i).length = 0 then 0 else (selV q a x y i).length + 1
  | 0 => rfl
  | i + 1 => by
    have ih := selT_len (i := i)
    show (if selB q a x y i = true then (if (selV q a x y i).length = 0 then selT q a x y i ++ [a.T i] else selT q a x y i) ++ [a.T (i + 1)] else selT q a x y i).length = if (if selB q a x y i = true then selV q a x y i ++ [a.V i] else selV q a x y i).length = 0 then 0 else (if selB q a x y i = true then selV q a x y i ++ [a.V i] else selV q a x y i).length + 1
    by_cases h : selB q a x y i = true
    · rw [if_pos h, if_pos h]
      by_cases h0 : (selV q a x y i).length = 0
      · rw [if_pos h0] at ih ⊢
        simp only [List.length_append, List.length_singleton, ih, h0]
        rfl
      · rw [if_neg h0] at ih ⊢
        simp only [List.length_append, List.length_singleton, ih]
        rw [if_neg (by omega)]
    · rw [if_neg h, if_neg h]; exact ih
end

end Go.Proofs.YtkpcmgfpmekkjaaDoor
