/-
 Rws of intervals in a row, each of the call's own: how they lie, and how one grows by an interval, at this translation. Condition: the slices read as limbs.
-/
import Derived.Test.YtlpjlmophlikeaaGreatDoorPTh
set_option maxHeartbeats 200000
set_option maxRecDepth 100000
namespace Go.Proofs.YtlpjlmophlikeaaGreatDoor
open Go.RowKit

/-- how a walk ends that stores six parts into the box of its result -/
theorem ret6 {fn : Func} {R : Ending → World → Prop} {a : Act} {w w0 : World} {g b0 T Q : Nat} {s : Bool} {A : Option Addr} {n c : Nat} {e : Int} {t : Bool} {B : Option Addr} {m d : Nat} {f : Int} {s' : Bool} {A' : Option Addr} {n' c' : Nat} {e' : Int} {t' : Bool} {B' : Option Addr} {m' d' : Nat} {f' : Int} {l l' : List Nat}
  (hr : fn.results = #[.cell T 29]) (ht : a.tmps.getD T undef = .pointer (some ⟨g, 0, none⟩)) (hd : a.defers = []) (r : Ibx w g s' A' n' c' e' t' B' m' d' f') (h5 : Rd w .u64 Q A n c l) (h6 : Rd w .u64 Q B m d l') (BB : Below b0 w0 w) (hg : b0 ≤ g)
  (hR : ∀ W', Rd W' .u64 Q A n c l → Rd W' .u64 Q B m d l' → Below b0 w0 W' → R (.returned (.agg #[.bool s, .slice A n c, .int .i64 e, .bool t, .slice B m d, .int .i64 f])) W') :
  bodyPost Tryz.prog fn R .ret a ((((((w.setCell ⟨g, 0, none⟩ (.bool s)).setCell ⟨g, 1, none⟩ (.slice A n c)).setCell ⟨g, 2, none⟩ (.int .i64 e)).setCell ⟨g, 3, none⟩ (.bool t)).setCell ⟨g, 4, none⟩ (.slice B m d)).setCell ⟨g, 5, none⟩ (.int .i64 f)) := by
 obtain ⟨z0, z1, z2, z3, z4, z5⟩ := (r.put s A n c e t B m d f).held
 have ht2 : a.tmps[T]?.getD undef = .pointer (some ⟨g, 0, none⟩) := by simpa using ht
 exact bodyPost_ret (v := .agg #[.bool s, .slice A n c, .int .i64 e, .bool t, .slice B m d, .int .i64 f]) (by simp [results, hr, ht2, go_sem, z0, z1, z2, z3, z4, z5]) hd (hR _ (h5.put6 r _ _ _ _ _ _) (h6.put6 r _ _ _ _ _ _) (below_put6 BB hg _ _ _ _ _ _))
theorem IRow.grown {w w' : World} {base : Nat} {v : Value} {L : List Iv} {row : Option Nat} (h : IRow w base v L) (hg : w.grownBy w' row) (hne : ∀ k, v.ownBlock = some k → row ≠ some k) (hno : ∀ k, row = some k → ∀ i x : Nat, w.cell? ⟨k, i, none⟩ ≠ some (.int .u64 (x : Int))) : IRow w' base v L := by
 obtain ⟨xs, h1, h2⟩ := h
 refine ⟨xs, h1.same fun k hk => hg.block k (h1.lt k hk).2 (fun e => hne k hk e.symm), h2.mv fun A n c l hr => ?_⟩
 cases row with
 | none => exact hr.grownNone hg
 | some g => exact hr.grown hg (hr.off (hno g rfl))
/-- append of one interval, which lies in a block of its own, as a run -/
theorem appi_run {w : World} (ty : TypeId) {base : Nat} {v : Value} {L : List Iv} {b : Nat} {q : Iv} {A : Option Addr} {n c : Nat} {B : Option Addr} {m d : Nat} (h : IRow w base v L) (hb : Ibx w b q.lo.s A n c q.lo.e q.hi.s B m d q.hi.e) (hr : Rd w .u64 Go.Proofs.YtlpjlmophlikeaaGreatDoor.W A n c q.lo.l) (hr2 : Rd w .u64 Go.Proofs.YtlpjlmophlikeaaGreatDoor.W B m d q.hi.l) (hL : L.length ≤ 1000) (hbase : base ≤ w.heap.size) :
  ∃ v' w', (Builtin.append_ #[39, 39] ty #[v, .slice (some ⟨b, 0, none⟩) 1 1]).run Tryz.prog w = .ok v' w' ∧ IRow w' base v' (L ++ [q]) ∧ w.grownBy w' v.ownBlock ∧ (v'.ownBlock = v.ownBlock ∨ v'.ownBlock = some w.heap.size) := by
 obtain ⟨xs, h1, h2⟩ := h
 obtain ⟨i0, hi, hz0, hz1, hz2⟩ := info_partsD infoIv
 obtain ⟨b0, b1, b2, b3, b4, b5⟩ := hb.held
 obtain ⟨v', w', hr', g1, g2, g3⟩ := run_append_n (ty := ty) (c := 1) Tryz.underlying39 hi hz0 hz1 hz2 rfl (by decide) (by intro u hu x hx; simp [Value.cells] at hu; rcases hu with rfl | rfl | rfl | rfl | rfl | rfl <;> cases hx) h1 (a := ⟨b, 0, none⟩) (m := 1) (news := [.bool q.lo.s, .slice A n c, .int .i64 q.lo.e, .bool q.hi.s, .slice B m d, .int .i64 q.hi.e]) rfl
  (fun j u hu => by
   match j, hu with
   | 0, hu => simp at hu; subst hu; simpa [Addr.add] using b0
   | 1, hu => simp at hu; subst hu; simpa [Addr.add] using b1
   | 2, hu => simp at hu; subst hu; simpa [Addr.add] using b2
   | 3, hu => simp at hu; subst hu; simpa [Addr.add] using b3
   | 4, hu => simp at hu; subst hu; simpa [Addr.add] using b4
   | 5, hu => simp at hu; subst hu; simpa [Addr.add] using b5)
  (fun u hu => by simp at hu; rcases hu with rfl | rfl | rfl | rfl | rfl | rfl <;> rfl) (fun u hu x hx => by simp at hu; rcases hu with rfl | rfl | rfl | rfl | rfl | rfl <;> cases hx) (by decide) (by unfold maxLen; omega) (by omega) hbase
 have hfar : ∀ (B : Option Addr) (k d : Nat) (l : List Nat), Rd w .u64 Go.Proofs.YtlpjlmophlikeaaGreatDoor.W B k d l → Rd w' .u64 Go.Proofs.YtlpjlmophlikeaaGreatDoor.W B k d l := fun B k d l hB => by
  cases hv : v.ownBlock with
  | none => rw [hv] at g2; exact hB.grownNone g2
  | some g => rw [hv] at g2; exact hB.grown g2 (hB.off (h1.2 g hv))
 have hrow : IRow w' base v' (L ++ [q]) := ⟨xs ++ [.bool q.lo.s, .slice A n c, .int .i64 q.lo.e, .bool q.hi.s, .slice B m d, .int .i64 q.hi.e], by simpa using g1, (h2.mv hfar).snoc (hfar _ _ _ _ hr) (hfar _ _ _ _ hr2)⟩
 exact ⟨v', w', hr', hrow, g2, g3⟩
def upd {α : Type} (f : Nat → α) (i : Nat) (v : α) : Nat → α := fun j => if j = i then v else f j
theorem upd_at {α : Type} {f : Nat → α} {i : Nat} {v : α} : upd f i v i = v := if_pos rfl
theorem upd_far {α : Type} {f : Nat → α} {i j : Nat} {v : α} (h : j ≠ i) : upd f i v j = f j := if_neg h
def rls (n : Nat) (vs : Nat → Value) : Array Value := ((List.range n).map vs).toArray
theorem rls_get {n i : Nat} {vs : Nat → Value} (hi : i < n) : (rls n vs)[i]? = some (vs i) := by
 unfold rls
 simp [hi]
theorem rls_far {n i : Nat} {vs : Nat → Value} (hi : ¬ i < n) : (rls n vs)[i]? = none := by
 unfold rls
 simp; omega
theorem rls_size {n : Nat} {vs : Nat → Value} : (rls n vs).size = n := by simp [rls]
theorem rls_set {n i : Nat} {vs : Nat → Value} {v : Value} : (rls n vs).setIfInBounds i v = rls n (upd vs i v) := by
 apply Array.ext_getElem?
 intro j
 rw [Array.getElem?_setIfInBounds, rls_size]
 by_cases hj : j < n
 ·rw [rls_get hj, rls_get hj]
  by_cases e : i = j
  ·subst e; rw [if_pos rfl, if_pos hj, upd_at]
  ·rw [if_neg e, upd_far (Ne.symm e)]
 ·rw [rls_far hj, rls_far hj]
  split
  ·rw [if_neg (by omega)]
  ·rfl
/-- n rows in the block gr, each in a block of its own from b0 on -/
structure Rws (w : World) (b0 gr n : Nat) (vs : Nat → Value) (Q : Nat → List Iv) : Prop where
 blk : Blk w gr (rls n vs) 39
 row : ∀ i, i < n → IRow w b0 (vs i) (Q i)
 far : ∀ i j k, i < n → j < n → i ≠ j → (vs i).ownBlock = some k → (vs j).ownBlock ≠ some k
theorem Rws.next {w X w2 : World} {b0 gr n : Nat} {vs : Nat → Value} {Q : Nat → List Iv} (h : Rws w b0 gr n vs Q) (b : Below X.heap.size X w2) (e : X.heap = w.heap) : Rws w2 b0 gr n vs Q := ⟨h.blk.next b e, fun i hi => (h.row i hi).next b e, h.far⟩
instance {w w2 : World} {b0 gr n : Nat} {vs : Nat → Value} {Q : Nat → List Iv} : Moves w w2 (Rws w b0 gr n vs Q) (Rws w2 b0 gr n vs Q) := ⟨fun _ b e h => h.next b e⟩
theorem IRow.kind {w : World} {base : Nat} {v : Value} {L : List Iv} (h : IRow w base v L) : ∀ k, v.ownBlock = some k → ∃ cs, w.heap[k]? = some (.cells cs 29 (0, 0)) := by
 intro k hk
 obtain ⟨xs, ⟨⟨_, h1⟩, _⟩, _⟩ := h
 rcases h1 with ⟨rfl, _⟩ | ⟨g, cap, cur, rfl, _, hg, _⟩
 ·cases hk
 ·injection hk with hk
  subst hk
  exact ⟨cur, hg⟩
theorem IRow.off {w : World} {base gr : Nat} {v : Value} {L : List Iv} {cs : Array Value} (h : IRow w base v L) (hb : Blk w gr cs 39) : v.ownBlock ≠ some gr := by
 intro hk
 obtain ⟨cs', hc⟩ := h.kind gr hk
 rw [hb.blk] at hc
 injection hc with hc
 injection hc with _ hc
 exact absurd hc (by decide)
theorem IRow.slice {w : World} {base : Nat} {v : Value} {L : List Iv} (h : IRow w base v L) : ∃ A c, v = .slice A L.length c := by
 obtain ⟨A, c, h, _⟩ := h.form
 exact ⟨A, c, h⟩
section
variable {w w' : World} {b0 gr n i : Nat} {vs : Nat → Value} {Q : Nat → List Iv}
theorem Rws.at (h : Rws w b0 gr n vs Q) (hi : i < n) : ∃ A c, vs i = .slice A (Q i).length c ∧ w.cell? ⟨gr, i, none⟩ = some (.slice A (Q i).length c) ∧ RdS w A (Q i).length c (fun k => (Q i).getD k Iv.zero) := by
 obtain ⟨A, c, hv, hr, _⟩ := (h.row i hi).form
 exact ⟨A, c, hv, by rw [← hv]; exact h.blk.at i (rls_get hi), hr⟩
theorem Rws.no (h : Rws w b0 gr n vs Q) (j x : Nat) : w.cell? ⟨gr, j, none⟩ ≠ some (.int .u64 (x : Int)) := by
 intro hc
 have h1 := cell_of_row w gr j _ _ (0, 0) h.blk.blk
 rw [h1] at hc
 by_cases hj : j < n
 ·rw [rls_get hj] at hc
  obtain ⟨A, c, hv⟩ := (h.row j hj).slice
  rw [hv] at hc
  cases hc
 ·rw [rls_far hj] at hc
  cases hc
/-- a row that has grown is stored in its place -/
theorem Rws.put (h : Rws w b0 gr n vs Q) (hi : i < n) {v' : Value} {L : List Iv} (h1 : IRow w' b0 v' L) (hg : w.grownBy w' (vs i).ownBlock) (ho : v'.ownBlock = (vs i).ownBlock ∨ v'.ownBlock = some w.heap.size) :
  Rws (w'.setCell ⟨gr, i, none⟩ v') b0 gr n (upd vs i v') (upd Q i L) := by
 have hb : Blk w' gr (rls n vs) 39 := ⟨(hg.block gr h.blk.gl (fun e => (h.row i hi).off h.blk e.symm)).trans h.blk.blk⟩
 have hno : ∀ (k : Nat), some gr = some k → ∀ j x : Nat, w'.cell? ⟨k, j, none⟩ ≠ some (.int .u64 (x : Int)) := fun k e j x => by
  injection e with e
  subst e
  rw [World.cell?_of_block (w := w) (w' := w') (a := ⟨gr, j, none⟩) (by rw [hb.blk, h.blk.blk])]
  exact h.no j x
 refine ⟨⟨?_⟩, fun j hj => ?_, fun j k x hj hk hne hx => ?_⟩
 ·have := hb.blk
  rw [← rls_set]
  simp [World.setCell, Array.getElem?_modify, this]
 ·by_cases e : j = i
  ·subst e
   rw [upd_at, upd_at]
   exact h1.grown (grownBy_set w' gr j v') (fun k hk e => h1.off hb (hk.trans e.symm)) hno
  ·rw [upd_far e, upd_far e]
   have h2 := (h.row j hj).grown hg (fun k hk e2 => h.far i j k hi hj (Ne.symm e) e2 hk) (h.row i hi).no
   exact h2.grown (grownBy_set w' gr i v') (fun k hk e => h2.off hb (hk.trans e.symm)) hno
 ·have key : ∀ a, a < n → a ≠ i → ∀ y, v'.ownBlock = some y → (vs a).ownBlock ≠ some y := fun a ha hai y hy e => by
   rcases ho with ho | ho
   ·exact h.far a i y ha hi hai e (ho.symm.trans hy)
   ·have h3 := ((h.row a ha).lt y e).2
    rw [ho] at hy
    injection hy with hy
    omega
  by_cases e1 : j = i
  ·subst e1
   rw [upd_at] at hx
   rw [upd_far (Ne.symm hne)]
   exact key k hk (Ne.symm hne) x hx
  ·rw [upd_far e1] at hx
   by_cases e2 : k = i
   ·subst e2
    rw [upd_at]
    exact fun h9 => key j hj e1 x h9 hx
   ·rw [upd_far e2]
    exact h.far j k x hj hk hne hx
end
end Go.Proofs.YtlpjlmophlikeaaGreatDoor
set_option maxHeartbeats 200000
set_option maxRecDepth 100000
namespace Go.Proofs.YtlpjlmophlikeaaGreatDoor
open Go.RowKit

/-- append of one element of one cell, which lies in a block of its own -/
theorem wp_app1 {T E : TypeId} {z0 : Value} {bytes : Nat} (hT : Tryz.prog.underlying T = some (.slice E)) (hE : (Tryz.prog.info? E).map (fun i => (i.zero, i.size, i.bytes)) = some (some z0, 1, bytes)) (hz : z0.cells.size = 1) (hzn : ∀ u ∈ z0.cells, NoL u) (hbt : bytes ≤ 24)
  {ops : Array Oper} {rest : List Oper} {o : Oper} {a : Act} {Q : Exit → Act → World → Prop} {w : World} (hgd : o.guard = none) (s x : Operand)
  (ho : o.op = .call { callee := .builtin .append, args := #[s, x], argTypes := #[T, T] }) {base : Nat} {v : Value} {xs : List Value} {b : Nat} {u : Value}
  (hs : a.eval s = v) (hx : a.eval x = .slice (some ⟨b, 0, none⟩) 1 1) (h : RowN w base E 1 v xs.length xs) (hb : w.cell? ⟨b, 0, none⟩ = some u) (hu : u.oneCell' = true) (hn : NoL u) (hL : xs.length ≤ 1000) (hbase : base ≤ w.heap.size)
  (hK : ∀ v' w', RowN w' base E 1 v' (xs ++ [u]).length (xs ++ [u]) → w.grownBy w' v.ownBlock → (v'.ownBlock = v.ownBlock ∨ v'.ownBlock = some w.heap.size) → wpList Tryz.prog ops Q rest (a.put o.dst v') w') : wpList Tryz.prog ops Q (o :: rest) a w := by
 obtain ⟨i0, hi, hz0, hz1, hz2⟩ := info_partsD hE
 obtain ⟨v', w', hr', g1, g2, g3⟩ := run_append_n (ty := o.type) (c := 1) hT hi hz0 hz1 hz2 hz (by decide) hzn h (a := ⟨b, 0, none⟩) (m := 1) (news := [u]) rfl
  (fun j y hy => by
   match j, hy with
   | 0, hy => simp at hy; subst hy; simpa [Addr.add] using hb)
  (fun y hy => by simp at hy; subst hy; exact hu) (fun y hy => by simp at hy; subst hy; exact hn) (by decide) (by unfold maxLen; omega) (Nat.le_trans (Nat.mul_le_mul (show xs.length + 1 ≤ 1001 by omega) hbt) (by decide)) hbase
 refine wpList_plain hgd fun K hK2 => ?_
 unfold Oper.wp execOp
 simp only [ho, resolve, invoke, builtin, Sem.run_bind, Sem.run_pure, Result.andThen_ok, List.map_toArray, List.map_cons, List.map_nil, hs, hx, hr']
 exact hK2 _ _ (hK v' w' (by rw [List.length_append]; exact g1) g2 g3)
theorem infoZ : (Tryz.prog.info? 3).map (fun i => (i.zero, i.size, i.bytes)) = some (some (.int .i64 0), 1, 8) := by kernel_rfl
theorem infoR : (Tryz.prog.info? 39).map (fun i => (i.zero, i.size, i.bytes)) = some (some (.slice none 0 0), 1, 24) := by kernel_rfl
theorem nol_int (x : Int) : NoL (.int .i64 x) := fun _ h => by cases h
theorem nol_slice {A : Option Addr} {n c : Nat} : NoL (.slice A n c) := fun _ h => by cases h
section
variable {w w' : World} {base : Nat} {v : Value} {zs : List Int}
/-- a row of numbers of the call's own -/
def ZRow (w : World) (base : Nat) (v : Value) (zs : List Int) : Prop := RowN w base 3 1 v (zs.map (Value.int .i64)).length (zs.map (Value.int .i64))
theorem ZRow.next {X w2 : World} (h : ZRow w base v zs) (b : Below X.heap.size X w2) (e : X.heap = w.heap) : ZRow w2 base v zs := RowN.next h b e
instance {w w2 : World} {base : Nat} {v : Value} {zs : List Int} : Moves w w2 (ZRow w base v zs) (ZRow w2 base v zs) := ⟨fun _ b e h => h.next b e⟩
theorem zrow_nil (w : World) (base : Nat) : ZRow w base (.slice none 0 0) [] := rown_nil ..
theorem ZRow.lt (h : ZRow w base v zs) : ∀ k, v.ownBlock = some k → base ≤ k ∧ k < w.heap.size := RowN.lt h
theorem ZRow.grown {row : Option Nat} (h : ZRow w base v zs) (hg : w.grownBy w' row) (hne : ∀ k, v.ownBlock = some k → row ≠ some k) : ZRow w' base v zs := RowN.same h fun k hk => hg.block k (h.lt k hk).2 (fun e => hne k hk e.symm)
theorem ZRow.form (h : ZRow w base v zs) : ∃ A c, v = .slice A zs.length c ∧ RdZ w A zs.length c (fun i => zs.getD i 0) := by
 have hlen : (zs.map (Value.int .i64)).length = zs.length := List.length_map ..
 have h0 : w.ownsRow base 3 1 v zs.length (zs.map (Value.int .i64)) := by have := h.1; rwa [hlen] at this
 have hcell := fun g hg => h0.cells (g := g) hg
 rcases h0.2 with ⟨hv, h3⟩ | ⟨g, cap, cur, hv, _, _, hc, hm, _, _⟩
 ·refine ⟨none, 0, by rw [hv, h3], ⟨by omega, by omega, fun hn => absurd h3 hn⟩⟩
 ·refine ⟨some ⟨g, 0, none⟩, cap, hv, ⟨hc, by unfold maxLen at hm; omega, fun _ => ⟨g, 0, rfl, fun i hi => ?_⟩⟩⟩
  have h2 := hcell g (by rw [hv]; rfl) i (.int .i64 (zs.getD i 0)) (by simp [List.getD_eq_getElem?_getD, hi])
  rw [show (0 : Nat) + i = i by omega]
  rwa [show (⟨g, 0, none⟩ : Addr).add i = ⟨g, i, none⟩ by unfold Addr.add; split <;> simp_all] at h2
end
theorem wp_appz {ops : Array Oper} {rest : List Oper} {o : Oper} {a : Act} {Q : Exit → Act → World → Prop} {w : World} (hgd : o.guard = none) (s x : Operand)
  (ho : o.op = .call { callee := .builtin .append, args := #[s, x], argTypes := #[22, 22] }) {base : Nat} {v : Value} {zs : List Int} {b : Nat} {z : Int}
  (hs : a.eval s = v) (hx : a.eval x = .slice (some ⟨b, 0, none⟩) 1 1) (h : ZRow w base v zs) (hb : w.cell? ⟨b, 0, none⟩ = some (.int .i64 z)) (hL : zs.length ≤ 1000) (hbase : base ≤ w.heap.size)
  (hK : ∀ v' w', ZRow w' base v' (zs ++ [z]) → w.grownBy w' v.ownBlock → (v'.ownBlock = v.ownBlock ∨ v'.ownBlock = some w.heap.size) → wpList Tryz.prog ops Q rest (a.put o.dst v') w') : wpList Tryz.prog ops Q (o :: rest) a w :=
 wp_app1 Tryz.underlying22 infoZ rfl (fun u hu => by simp [Value.cells] at hu; rw [hu]; exact nol_int 0) (by decide) hgd s x ho hs hx h hb rfl (nol_int z) (by rw [List.length_map]; exact hL) hbase
  (fun v' w' h1 h2 h3 => hK v' w' (by unfold ZRow; rw [List.map_append]; exact h1) h2 h3)
/-- the cells of intervals, given one by one -/
theorem celi_of {w : World} : ∀ {L : List Iv} {xs : List Value}, xs.length = L.length * 6 → (∀ i, i < L.length → ∃ A n c B m d, xs[i * 6]? = some (.bool (L.getD i Iv.zero).lo.s) ∧ xs[i * 6 + 1]? = some (.slice A n c) ∧ xs[i * 6 + 2]? = some (.int .i64 (L.getD i Iv.zero).lo.e) ∧ xs[i * 6 + 3]? = some (.bool (L.getD i Iv.zero).hi.s) ∧ xs[i * 6 + 4]? = some (.slice B m d) ∧ xs[i * 6 + 5]? = some (.int .i64 (L.getD i Iv.zero).hi.e) ∧ Rd w .u64 Go.Proofs.YtlpjlmophlikeaaGreatDoor.W A n c (L.getD i Iv.zero).lo.l ∧ Rd w .u64 Go.Proofs.YtlpjlmophlikeaaGreatDoor.W B m d (L.getD i Iv.zero).hi.l) → Celi w L xs
 | [], xs, hl, _ => List.eq_nil_of_length_eq_zero (by rw [hl]; rfl)
 | x :: L, [], hl, _ => by simp at hl
 | x :: L, [_], hl, _ => by simp at hl; omega
 | x :: L, [_, _], hl, _ => by simp at hl; omega
 | x :: L, [_, _, _], hl, _ => by simp at hl; omega
 | x :: L, [_, _, _, _], hl, _ => by simp at hl; omega
 | x :: L, [_, _, _, _, _], hl, _ => by simp at hl; omega
 | x :: L, x0 :: x1 :: x2 :: x3 :: x4 :: x5 :: ys, hl, h => by
  obtain ⟨A, n, c, B, m, d, g0, g1, g2, g3, g4, g5, r1, r2⟩ := h 0 (by simp)
  simp at g0 g1 g2 g3 g4 g5
  subst g0 g1 g2 g3 g4 g5
  refine ⟨A, n, c, B, m, d, ys, rfl, r1, r2, celi_of (by simp at hl; omega) fun i hi => ?_⟩
  obtain ⟨A', n', c', B', m', d', g0, g1, g2, g3, g4, g5, r1, r2⟩ := h (i + 1) (by simpa using hi)
  have key : ∀ k, (Value.bool x.lo.s :: Value.slice A n c :: Value.int .i64 x.lo.e :: Value.bool x.hi.s :: Value.slice B m d :: Value.int .i64 x.hi.e :: ys)[(i + 1) * 6 + k]? = ys[i * 6 + k]? := fun k => by
   rw [show (i + 1) * 6 + k = (i * 6 + k) + 6 by omega]
   rfl
  exact ⟨A', n', c', B', m', d', (key 0).symm.trans g0, (key 1).symm.trans g1, (key 2).symm.trans g2, (key 3).symm.trans g3, (key 4).symm.trans g4, (key 5).symm.trans g5, r1, r2⟩
theorem take_set6 {cs : Array Value} {m j : Nat} {u : Value} : (cs.setIfInBounds j u).toList.take m = (cs.toList.take m).set j u := by
 rw [Array.toList_setIfInBounds, List.take_set]
theorem RowN.set {w : World} {base g m j : Nat} {E : TypeId} {size : Nat} {v : Value} {xs : List Value} (h : RowN w base E size v m xs) (hv : v.ownBlock = some g) {u : Value} (hu : NoL u) : RowN (w.setCell ⟨g, j, none⟩ u) base E size v m (xs.set j u) := by
 have hno := h.2 g hv
 refine ⟨⟨by rw [List.length_set]; exact h.1.1, ?_⟩, fun k hk i x => ?_⟩
 ·rcases h.1.2 with ⟨h2, _⟩ | ⟨g', cap, cur, rfl, hb, hg, h3, h4, h5, h6⟩
  ·rw [h2] at hv; cases hv
  ·injection hv with hv
   subst hv
   refine .inr ⟨g', cap, cur.setIfInBounds j u, rfl, hb, ?_, h3, h4, by rw [Array.size_setIfInBounds]; exact h5, by rw [take_set6, h6]⟩
   simp [World.setCell, Array.getElem?_modify, hg]
 ·rw [hv] at hk
  injection hk with hk
  subst hk
  intro hc
  rcases h.1.2 with ⟨h2, _⟩ | ⟨g', cap, cur, rfl, hb, hg, h3, h4, h5, h6⟩
  ·rw [h2] at hv; cases hv
  ·injection hv with hv
   subst hv
   have e1 := cell_of_row (w.setCell ⟨g', j, none⟩ u) g' i (cur.setIfInBounds j u) E (0, 0) (by simp [World.setCell, Array.getElem?_modify, hg])
   rw [e1, Array.getElem?_setIfInBounds] at hc
   split at hc
   ·split at hc
    ·injection hc with hc
     exact hu x hc
    ·cases hc
   ·exact hno i x ((cell_of_row w g' i cur E (0, 0) hg).trans hc)
section
variable {w w' : World} {base g i : Nat} {v : Value} {L : List Iv}
/-- an interval stored into such a row, in its place -/
theorem IRow.setAt (h : IRow w base v L) (hv : v.ownBlock = some g) (hi : i < L.length) {x : Iv} {A : Option Addr} {n c : Nat} {B : Option Addr} {m d : Nat} (r1 : Rd w .u64 Go.Proofs.YtlpjlmophlikeaaGreatDoor.W A n c x.lo.l) (r2 : Rd w .u64 Go.Proofs.YtlpjlmophlikeaaGreatDoor.W B m d x.hi.l) :
  IRow ((((((w.setCell ⟨g, i * 6, none⟩ (.bool x.lo.s)).setCell ⟨g, i * 6 + 1, none⟩ (.slice A n c)).setCell ⟨g, i * 6 + 2, none⟩ (.int .i64 x.lo.e)).setCell ⟨g, i * 6 + 3, none⟩ (.bool x.hi.s)).setCell ⟨g, i * 6 + 4, none⟩ (.slice B m d)).setCell ⟨g, i * 6 + 5, none⟩ (.int .i64 x.hi.e)) base v (L.set i x) := by
 obtain ⟨xs, h1, h2⟩ := h
 have k0 := h1.set (j := i * 6) hv (u := .bool x.lo.s) (fun _ h => by cases h)
 have k1 := k0.set (j := i * 6 + 1) hv (u := .slice A n c) (fun _ h => by cases h)
 have k2 := k1.set (j := i * 6 + 2) hv (u := .int .i64 x.lo.e) (fun _ h => by cases h)
 have k3 := k2.set (j := i * 6 + 3) hv (u := .bool x.hi.s) (fun _ h => by cases h)
 have k4 := k3.set (j := i * 6 + 4) hv (u := .slice B m d) (fun _ h => by cases h)
 have k5 := k4.set (j := i * 6 + 5) hv (u := .int .i64 x.hi.e) (fun _ h => by cases h)
 have mvR : ∀ (A' : Option Addr) (n' c' : Nat) (l : List Nat), Rd w .u64 Go.Proofs.YtlpjlmophlikeaaGreatDoor.W A' n' c' l → Rd ((((((w.setCell ⟨g, i * 6, none⟩ (.bool x.lo.s)).setCell ⟨g, i * 6 + 1, none⟩ (.slice A n c)).setCell ⟨g, i * 6 + 2, none⟩ (.int .i64 x.lo.e)).setCell ⟨g, i * 6 + 3, none⟩ (.bool x.hi.s)).setCell ⟨g, i * 6 + 4, none⟩ (.slice B m d)).setCell ⟨g, i * 6 + 5, none⟩ (.int .i64 x.hi.e)) .u64 Go.Proofs.YtlpjlmophlikeaaGreatDoor.W A' n' c' l := fun A' n' c' l hr => by
  have hne := hr.off (h1.2 g hv)
  exact (((((hr.set1 hne _ _).set1 hne _ _).set1 hne _ _).set1 hne _ _).set1 hne _ _).set1 hne _ _
 have hlen : xs.length = L.length * 6 := h1.1.1
 refine ⟨_, by rw [List.length_set]; exact k5, celi_of (by simp only [List.length_set]; exact hlen) fun j hj => ?_⟩
 rw [List.length_set] at hj
 by_cases e : j = i
 ·subst e
  have e1 : (L.set j x).getD j Iv.zero = x := by simp [List.getD_eq_getElem?_getD, hj]
  rw [e1]
  refine ⟨A, n, c, B, m, d, ?_, ?_, ?_, ?_, ?_, ?_, mvR _ _ _ _ r1, mvR _ _ _ _ r2⟩ <;> simp [List.getElem?_set] <;> omega
 ·have e1 : (L.set i x).getD j Iv.zero = L.getD j Iv.zero := by simp [List.getD_eq_getElem?_getD, Ne.symm e]
  rw [e1]
  obtain ⟨A', n', c', B', m', d', g0, g1, g2, g3, g4, g5, q1, q2⟩ := h2.get j hj
  refine ⟨A', n', c', B', m', d', ?_, ?_, ?_, ?_, ?_, ?_, mvR _ _ _ _ q1, mvR _ _ _ _ q2⟩
  ·rw [← g0]; simp only [List.getElem?_set]; repeat rw [if_neg (by omega)]
  ·rw [← g1]; simp only [List.getElem?_set]; repeat rw [if_neg (by omega)]
  ·rw [← g2]; simp only [List.getElem?_set]; repeat rw [if_neg (by omega)]
  ·rw [← g3]; simp only [List.getElem?_set]; repeat rw [if_neg (by omega)]
  ·rw [← g4]; simp only [List.getElem?_set]; repeat rw [if_neg (by omega)]
  ·rw [← g5]; simp only [List.getElem?_set]; repeat rw [if_neg (by omega)]
end
theorem made_blk {b0 g n : Nat} {E : TypeId} {size : Nat} {w : World} {xs : List Value} (h : w.ownsRow b0 E size (.slice (some ⟨g, 0, none⟩) n n) n xs) : Blk w g xs.toArray E := by
 rcases h.2 with ⟨h, _⟩ | ⟨g', cap, cur, hv, _, hg, _, _, hcs, ht⟩
 ·cases h
 ·injection hv with e1 e2 e3
  injection e1 with e1
  injection e1 with e1
  subst e1 e3
  rw [List.take_of_length_le (by rw [Array.length_toList, hcs]; exact Nat.le_refl _)] at ht
  subst ht
  exact ⟨hg⟩
theorem made_at {z : Array Value} {m j : Nat} (hj : j < m) : (madeCells z m).toList[j]? = some z[j % z.size]! := by simp [madeCells, hj]
theorem made_rown {b0 g n : Nat} {E : TypeId} {size : Nat} {w : World} {z : Array Value} (hz : ∀ u ∈ z, NoL u) (h0 : 0 < z.size) (h : w.ownsRow b0 E size (.slice (some ⟨g, 0, none⟩) n n) n (madeCells z (n * size)).toList) : RowN w b0 E size (.slice (some ⟨g, 0, none⟩) n n) n (madeCells z (n * size)).toList := by
 refine ⟨h, fun k hk i x => ?_⟩
 injection hk with hk
 have hk : g = k := hk
 subst hk
 rw [cell_of_row w g i _ _ (0, 0) (made_blk h).blk]
 refine nol_at (fun u hu => ?_) i x
 have hu : u ∈ madeCells z (n * size) := by simpa using hu
 unfold madeCells at hu
 obtain ⟨j, _, rfl⟩ := Array.mem_map.1 hu
 have hj : j % z.size < z.size := Nat.mod_lt _ h0
 rw [getElem!_pos z _ hj]
 exact hz _ (Array.getElem_mem hj)
theorem rd_nil0 (w : World) : Rd w .u64 Go.Proofs.YtlpjlmophlikeaaGreatDoor.W none 0 0 Rw.zero.l := Rd.nil _ _ _ _ (by decide)
def zeroC : Array Value := #[.bool false, .slice none 0 0, .int .i64 0, .bool false, .slice none 0 0, .int .i64 0]
theorem law_makeI {ops : Array Oper} {rest : List Oper} {o : Oper} {a : Act} {Q : Exit → Act → World → Prop} {w : World} (hg : o.guard = none) (x : Operand) (hop : o.op = Op.makeSlice 39 x x)
  (C : Int) (n : Nat) (hx : a.eval x = .int .i64 C) (hC : C = (n : Int)) (hn : n ≤ 1000000)
  (hK : ∀ w', IRow w' w.heap.size (.slice (some ⟨w.heap.size, 0, none⟩) n n) (List.replicate n Iv.zero) → w.grownBy w' none → wpList Tryz.prog ops Q rest (a.put o.dst (.slice (some ⟨w.heap.size, 0, none⟩) n n)) w') : wpList Tryz.prog ops Q (o :: rest) a w := by
 obtain ⟨i0, hi, hz0, hz1, hz2⟩ := info_partsD infoIv
 refine wpList_make_full w hg x x 39 hop w.heap.size 29 i0 (.agg zeroC) 6 Tryz.underlying39 hi hz0 hz1 .i64 .i64 C C n hx hx hC hC (by rw [hz2]; omega) (by unfold maxLen; omega) (Nat.le_refl _)
  (fun w' h1 h2 => hK w' ?_ h2)
 have h3 : w'.ownsRow w.heap.size 29 6 (.slice (some ⟨w.heap.size, 0, none⟩) n n) n (madeCells zeroC (n * 6)).toList := h1
 have h4 := made_rown (by intro u hu; simp [zeroC] at hu; rcases hu with rfl | rfl | rfl | rfl | rfl | rfl <;> exact fun _ h => by cases h) (by decide) h3
 have hat : ∀ i k, i < n → k < 6 → (madeCells zeroC (n * 6)).toList[i * 6 + k]? = some zeroC[k]! := fun i k hi hk => by
  rw [made_at (by omega), show (i * 6 + k) % zeroC.size = k by show (i * 6 + k) % 6 = k; omega]
 refine ⟨_, by rw [List.length_replicate]; exact h4, celi_of (by rw [List.length_replicate]; exact h4.1.1) fun i hi => ?_⟩
 rw [List.length_replicate] at hi
 have e1 : (List.replicate n Iv.zero).getD i Iv.zero = Iv.zero := by simp [List.getD_eq_getElem?_getD, hi]
 rw [e1]
 exact ⟨none, 0, 0, none, 0, 0, hat i 0 hi (by decide), hat i 1 hi (by decide), hat i 2 hi (by decide), hat i 3 hi (by decide), hat i 4 hi (by decide), hat i 5 hi (by decide), rd_nil0 w', rd_nil0 w'⟩
theorem law_makeR {ops : Array Oper} {rest : List Oper} {o : Oper} {a : Act} {Q : Exit → Act → World → Prop} {w : World} (hg : o.guard = none) (x : Operand) (hop : o.op = Op.makeSlice 40 x x)
  (C : Int) (n : Nat) (hx : a.eval x = .int .i64 C) (hC : C = (n : Int)) (hn : n ≤ 1000000)
  (hK : ∀ w', Rws w' w.heap.size w.heap.size n (fun _ => .slice none 0 0) (fun _ => []) → w.grownBy w' none → wpList Tryz.prog ops Q rest (a.put o.dst (.slice (some ⟨w.heap.size, 0, none⟩) n n)) w') : wpList Tryz.prog ops Q (o :: rest) a w := by
 obtain ⟨i0, hi, hz0, hz1, hz2⟩ := info_partsD infoR
 refine wpList_make_full w hg x x 40 hop w.heap.size 39 i0 (.slice none 0 0) 1 Tryz.underlying40 hi hz0 hz1 .i64 .i64 C C n hx hx hC hC (by rw [hz2]; omega) (by unfold maxLen; omega) (Nat.le_refl _)
  (fun w' h1 h2 => hK w' ⟨?_, fun i _ => irow_nil _ _, fun i j k _ _ _ h => by cases h⟩ h2)
 have h3 := made_blk h1
 have e : (madeCells (Value.cells (.slice none 0 0)) (n * 1)).toList.toArray = rls n fun _ => .slice none 0 0 := by
  rw [show (Value.cells (.slice none 0 0)) = #[Value.slice none 0 0] from rfl, toList_madeCells_one, Nat.mul_one]
  unfold rls
  congr 1
  apply List.ext_getElem?
  intro i
  simp [List.getElem?_replicate, List.getElem?_map]
  split <;> simp_all
 rw [← e]
 exact h3
def tls (n : Nat) (B : Nat → Bool) : Array Value := rls n fun j => .bool (B j)
theorem law_makeT {ops : Array Oper} {rest : List Oper} {o : Oper} {a : Act} {Q : Exit → Act → World → Prop} {w : World} (hg : o.guard = none) (x : Operand) (hop : o.op = Op.makeSlice 110 x x)
  (C : Int) (n : Nat) (hx : a.eval x = .int .i64 C) (hC : C = (n : Int)) (hn : n ≤ 1000000)
  (hK : ∀ w', Blk w' w.heap.size (tls n fun _ => false) 4 → w.grownBy w' none → wpList Tryz.prog ops Q rest (a.put o.dst (.slice (some ⟨w.heap.size, 0, none⟩) n n)) w') : wpList Tryz.prog ops Q (o :: rest) a w := by
 obtain ⟨i0, hi, hz0, hz1, hz2⟩ := info_partsD (show (Tryz.prog.info? 4).map (fun i => (i.zero, i.size, i.bytes)) = some (some (.bool false), 1, 1) by kernel_rfl)
 refine wpList_make_full w hg x x 110 hop w.heap.size 4 i0 (.bool false) 1 Tryz.underlying110 hi hz0 hz1 .i64 .i64 C C n hx hx hC hC (by rw [hz2]; omega) (by unfold maxLen; omega) (Nat.le_refl _)
  (fun w' h1 h2 => hK w' ?_ h2)
 have h3 := made_blk h1
 have e : (madeCells (Value.cells (.bool false)) (n * 1)).toList.toArray = tls n fun _ => false := by
  rw [show (Value.cells (.bool false)) = #[Value.bool false] from rfl, toList_madeCells_one, Nat.mul_one]
  unfold tls rls
  congr 1
  apply List.ext_getElem?
  intro i
  simp [List.getElem?_replicate, List.getElem?_map]
  split <;> simp_all
 rw [← e]
 exact h3
theorem Blk.sett {W : World} {g n : Nat} {B : Nat → Bool} (h : Blk W g (tls n B) 4) (x : Nat) (b : Bool) : Blk (W.setCell ⟨g, x, none⟩ (.bool b)) g (tls n (upd B x b)) 4 := ⟨by
 have := h.blk
 have e : tls n (upd B x b) = (tls n B).setIfInBounds x (.bool b) := by
  unfold tls
  rw [rls_set]
  congr 1
  funext j
  unfold upd
  split <;> rfl
 rw [e]
 simp [World.setCell, Array.getElem?_modify, this]⟩
theorem IRow.frozen {w : World} {base g : Nat} {v : Value} {L : List Iv} (h : IRow w base v L) (hv : v.ownBlock = some g) (i : Nat) : w.frozen? ⟨g, i, none⟩ = false := by
 obtain ⟨cs, hc⟩ := h.kind g hv
 simp [World.frozen?, hc]
theorem IRow.open6 {w : World} {base g i : Nat} {v : Value} {L : List Iv} (h : IRow w base v L) (hv : v.ownBlock = some g) (hi : i < L.length) : (∃ u0 u1 u2 u3 u4 u5, w.cell? ⟨g, i * 6, none⟩ = some u0 ∧ w.cell? ⟨g, i * 6 + 1, none⟩ = some u1 ∧ w.cell? ⟨g, i * 6 + 2, none⟩ = some u2 ∧ w.cell? ⟨g, i * 6 + 3, none⟩ = some u3 ∧ w.cell? ⟨g, i * 6 + 4, none⟩ = some u4 ∧ w.cell? ⟨g, i * 6 + 5, none⟩ = some u5) ∧ w.frozen? ⟨g, i * 6, none⟩ = false ∧ w.frozen? ⟨g, i * 6 + 1, none⟩ = false ∧ w.frozen? ⟨g, i * 6 + 2, none⟩ = false ∧ w.frozen? ⟨g, i * 6 + 3, none⟩ = false ∧ w.frozen? ⟨g, i * 6 + 4, none⟩ = false ∧ w.frozen? ⟨g, i * 6 + 5, none⟩ = false := by
 refine ⟨?_, h.frozen hv _, h.frozen hv _, h.frozen hv _, h.frozen hv _, h.frozen hv _, h.frozen hv _⟩
 obtain ⟨A, c, _, _, hf⟩ := h.form
 obtain ⟨g', _, hg', _, hI⟩ := hf (fun e => by rw [e] at hi; exact absurd hi (Nat.not_lt_zero _))
 rw [hv] at hg'
 injection hg' with hg'
 subst hg'
 obtain ⟨_, _, _, _, _, _, ⟨c0, c1, c2, c3, c4, c5⟩, _, _⟩ := hI i hi
 rw [Nat.zero_add] at c0 c1 c2 c3 c4 c5
 exact ⟨_, _, _, _, _, _, c0, c1, c2, c3, c4, c5⟩
theorem below_at6 {b0 g i : Nat} {w0 w : World} (h : Below b0 w0 w) (hg : b0 ≤ g) (u0 u1 u2 u3 u4 u5 : Value) : Below b0 w0 ((((((w.setCell ⟨g, i * 6, none⟩ u0).setCell ⟨g, i * 6 + 1, none⟩ u1).setCell ⟨g, i * 6 + 2, none⟩ u2).setCell ⟨g, i * 6 + 3, none⟩ u3).setCell ⟨g, i * 6 + 4, none⟩ u4).setCell ⟨g, i * 6 + 5, none⟩ u5) :=
 (((((h.setCell hg u0).setCell hg u1).setCell hg u2).setCell hg u3).setCell hg u4).setCell hg u5
end Go.Proofs.YtlpjlmophlikeaaGreatDoor
