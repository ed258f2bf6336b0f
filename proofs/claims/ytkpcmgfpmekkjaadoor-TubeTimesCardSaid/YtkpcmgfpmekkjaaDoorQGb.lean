/-
  Rws of intervals in a row, each of the call's own: how they lie, and how one grows by an interval, at this translation. Condition: the slices read as limbs.
-/
import Derived.Test.YtkpcmgfpmekkjaaDoorQTq
namespace Go.Proofs.YtkpcmgfpmekkjaaDoor
open Go.RowKit

theorem IRow.grown {w w' : World} {base : Nat} {v : Value} {L : List Iv} {row : Option Nat} (h : IRow w base v L) (hg : w.grownBy w' row) (hne : ∀ k, v.ownBlock = some k → row ≠ some k) (hno : ∀ k, row = some k → ∀ i x : Nat, w.cell? ⟨k, i, none⟩ ≠ some (.int .u64 (x : Int))) : IRow w' base v L := by
  obtain ⟨xs, h1, h2⟩ := h
  refine ⟨xs, h1.same fun k hk => hg.block k (h1.lt k hk).2 (fun e => hne k hk e.symm), h2.mv fun A n c l hr => ?_⟩
  cases row with
  | none => exact hr.grownNone hg
  | some g => exact hr.grown hg (hr.off (hno g rfl))
set_option maxRecDepth 100000 in
/-- append of one interval, which lies in a block of its own, as a run -/
theorem appi_run {w : World} (ty : TypeId) {base : Nat} {v : Value} {L : List Iv} {b : Nat} {q : Iv} {A : Option Addr} {n c : Nat} {B : Option Addr} {m d : Nat} (h : IRow w base v L) (hb : Ibx w b q.lo.s A n c q.lo.e q.hi.s B m d q.hi.e) (hr : Rd w .u64 Go.Proofs.YtkpcmgfpmekkjaaDoor.W A n c q.lo.l) (hr2 : Rd w .u64 Go.Proofs.YtkpcmgfpmekkjaaDoor.W B m d q.hi.l) (hL : L.length ≤ 1000) (hbase : base ≤ w.heap.size) :
    ∃ v' w', (Builtin.append_ #[23, 23] ty #[v, .slice (some ⟨b, 0, none⟩) 1 1]).run Tryd.prog w = .ok v' w' ∧ IRow w' base v' (L ++ [q]) ∧ w.grownBy w' v.ownBlock ∧ (v'.ownBlock = v.ownBlock ∨ v'.ownBlock = some w.heap.size) := by
  obtain ⟨xs, h1, h2⟩ := h
  obtain ⟨i0, hi, hz0, hz1, hz2⟩ := info_partsD infoIv
  obtain ⟨b0, b1, b2, b3, b4, b5⟩ := hb.held
  obtain ⟨v', w', hr', g1, g2, g3⟩ := run_append_n (ty := ty) (c := 1) Tryd.underlying23 hi hz0 hz1 hz2 rfl (by decide) (by intro u hu x hx; simp [Value.cells] at hu; rcases hu with rfl | rfl | rfl | rfl | rfl | rfl <;> cases hx) h1 (a := ⟨b, 0, none⟩) (m := 1) (news := [.bool q.lo.s, .slice A n c, .int .i64 q.lo.e, .bool q.hi.s, .slice B m d, .int .i64 q.hi.e]) rfl
    (fun j u hu => by
      match j, hu with
      | 0, hu => simp at hu; subst hu; simpa [Addr.add] using b0
      | 1, hu => simp at hu; subst hu; simpa [Addr.add] using b1
      | 2, hu => simp at hu; subst hu; simpa [Addr.add] using b2
      | 3, hu => simp at hu; subst hu; simpa [Addr.add] using b3
      | 4, hu => simp at hu; subst hu; simpa [Addr.add] using b4
      | 5, hu => simp at hu; subst hu; simpa [Addr.add] using b5)
    (fun u hu => by simp at hu; rcases hu with rfl | rfl | rfl | rfl | rfl | rfl <;> rfl) (fun u hu x hx => by simp at hu; rcases hu with rfl | rfl | rfl | rfl | rfl | rfl <;> cases hx) (by decide) (by unfold maxLen; omega) (by omega) hbase
  have hfar : ∀ (B : Option Addr) (k d : Nat) (l : List Nat), Rd w .u64 Go.Proofs.YtkpcmgfpmekkjaaDoor.W B k d l → Rd w' .u64 Go.Proofs.YtkpcmgfpmekkjaaDoor.W B k d l := fun B k d l hB => by
    cases hv : v.ownBlock with
    | none => rw [hv] at g2; exact hB.grownNone g2
    | some g => rw [hv] at g2; exact hB.grown g2 (hB.off (h1.2 g hv))
  have hrow : IRow w' base v' (L ++ [q]) := ⟨xs ++ [.bool q.lo.s, .slice A n c, .int .i64 q.lo.e, .bool q.hi.s, .slice B m d, .int .i64 q.hi.e], by simpa using g1, (h2.mv hfar).snoc (hfar _ _ _ _ hr) (hfar _ _ _ _ hr2)⟩
  exact ⟨v', w', hr', hrow, g2, g3⟩
def upd {α : Type} (f : Nat → α) (i : Nat) (v : α) : Nat → α := fun j => if j = i then v else f j
theorem upd_at {α : Type} {f : Nat → α} {i : Nat} {v : α} : upd f i v i = v := if_pos rfl
theorem upd_far {α : Type} {f : Nat → α} {i j : Nat} {v : α} (h : j ≠ i) : upd f i v j = f j := if_neg h
def rls (n : Nat) (vs : Nat → Value) : Array Value := ((List.range n).map vs).toArray
theorem rls_get {n i : Nat} {vs : Nat → Value} (hi : i < n) : (rls n vs)[i]? = some (vs i) := by
  unfold rls
  simp [hi]
theorem rls_far {n i : Nat} {vs : Nat → Value} (hi : ¬ i < n) : (rls n vs)[i]? = none := by
  unfold rls
  simp; omega
theorem rls_size {n : Nat} {vs : Nat → Value} : (rls n vs).size = n := by simp [rls]
theorem rls_set {n i : Nat} {vs : Nat → Value} {v : Value} : (rls n vs).setIfInBounds i v = rls n (upd vs i v) := by
  apply Array.ext_getElem?
  intro j
  rw [Array.getElem?_setIfInBounds, rls_size]
  by_cases hj : j < n
  · rw [rls_get hj, rls_get hj]
    by_cases e : i = j
    · subst e; rw [if_pos rfl, if_pos hj, upd_at]
    · rw [if_neg e, upd_far (Ne.symm e)]
  · rw [rls_far hj, rls_far hj]
    split
    · rw [if_neg (by omega)]
    · rfl
/-- n rows in the block gr, each in a block of its own from b0 on -/
structure Rws (w : World) (b0 gr n : Nat) (vs : Nat → Value) (Q : Nat → List Iv) : Prop where
  blk : Blk w gr (rls n vs) 23
  row : ∀ i, i < n → IRow w b0 (vs i) (Q i)
  far : ∀ i j k, i < n → j < n → i ≠ j → (vs i).ownBlock = some k → (vs j).ownBlock ≠ some k
theorem Rws.next {w X w2 : World} {b0 gr n : Nat} {vs : Nat → Value} {Q : Nat → List Iv} (h : Rws w b0 gr n vs Q) (b : Below X.heap.size X w2) (e : X.heap = w.heap) : Rws w2 b0 gr n vs Q := ⟨h.blk.next b e, fun i hi => (h.row i hi).next b e, h.far⟩
instance {w w2 : World} {b0 gr n : Nat} {vs : Nat → Value} {Q : Nat → List Iv} : Moves w w2 (Rws w b0 gr n vs Q) (Rws w2 b0 gr n vs Q) := ⟨fun _ b e h => h.next b e⟩
theorem IRow.kind {w : World} {base : Nat} {v : Value} {L : List Iv} (h : IRow w base v L) : ∀ k, v.ownBlock = some k → ∃ cs, w.heap[k]? = some (.cells cs 35 (0, 0)) := by
  intro k hk
  obtain ⟨xs, ⟨⟨_, h1⟩, _⟩, _⟩ := h
  rcases h1 with ⟨rfl, _⟩ | ⟨g, cap, cur, rfl, _, hg, _⟩
  · cases hk
  · injection hk with hk
    subst hk
    exact ⟨cur, hg⟩
theorem IRow.off {w : World} {base gr : Nat} {v : Value} {L : List Iv} {cs : Array Value} (h : IRow w base v L) (hb : Blk w gr cs 23) : v.ownBlock ≠ some gr := by
  intro hk
  obtain ⟨cs', hc⟩ := h.kind gr hk
  rw [hb.blk] at hc
  injection hc with hc
  injection hc with _ hc
  exact absurd hc (by decide)
theorem IRow.slice {w : World} {base : Nat} {v : Value} {L : List Iv} (h : IRow w base v L) : ∃ A c, v = .slice A L.length c := by
  obtain ⟨A, c, h, _⟩ := h.form
  exact ⟨A, c, h⟩
section
variable {w w' : World} {b0 gr n i : Nat} {vs : Nat → Value} {Q : Nat → List Iv}
theorem Rws.at (h : Rws w b0 gr n vs Q) (hi : i < n) : ∃ A c, vs i = .slice A (Q i).length c ∧ w.cell? ⟨gr, i, none⟩ = some (.slice A (Q i).length c) ∧ RdS w A (Q i).length c (fun k => (Q i).getD k Iv.zero) := by
  obtain ⟨A, c, hv, hr, _⟩ := (h.row i hi).form
  exact ⟨A, c, hv, by rw [← hv]; exact h.blk.at i (rls_get hi), hr⟩
theorem Rws.no (h : Rws w b0 gr n vs Q) (j x : Nat) : w.cell? ⟨gr, j, none⟩ ≠ some (.int .u64 (x : Int)) := by
  intro hc
  have h1 := cell_of_row w gr j _ _ (0, 0) h.blk.blk
  rw [h1] at hc
  by_cases hj : j < n
  · rw [rls_get hj] at hc
    obtain ⟨A, c, hv⟩ := (h.row j hj).slice
    rw [hv] at hc
    cases hc
  · rw [rls_far hj] at hc
    cases hc
/-- a row that has grown is stored in its place -/
theorem Rws.put (h : Rws w b0 gr n vs Q) (hi : i < n) {v' : Value} {L : List Iv} (h1 : IRow w' b0 v' L) (hg : w.grownBy w' (vs i).ownBlock) (ho : v'.ownBlock = (vs i).ownBlock ∨ v'.ownBlock = some w.heap.size) :
    Rws (w'.setCell ⟨gr, i, none⟩ v') b0 gr n (upd vs i v') (upd Q i L) := by
  have hb : Blk w' gr (rls n vs) 23 := ⟨(hg.block gr h.blk.gl (fun e => (h.row i hi).off h.blk e.symm)).trans h.blk.blk⟩
  have hno : ∀ (k : Nat), some gr = some k → ∀ j x : Nat, w'.cell? ⟨k, j, none⟩ ≠ some (.int .u64 (x : Int)) := fun k e j x => by
    injection e with e
    subst e
    rw [World.cell?_of_block (w := w) (w' := w') (a := ⟨gr, j, none⟩) (by rw [hb.blk, h.blk.blk])]
    exact h.no j x
  refine ⟨⟨?_⟩, fun j hj => ?_, fun j k x hj hk hne hx => ?_⟩
  · have := hb.blk
    rw [← rls_set]
    simp [World.setCell, Array.getElem?_modify, this]
  · by_cases e : j = i
    · subst e
      rw [upd_at, upd_at]
      exact h1.grown (grownBy_set w' gr j v') (fun k hk e => h1.off hb (hk.trans e.symm)) hno
    · rw [upd_far e, upd_far e]
      have h2 := (h.row j hj).grown hg (fun k hk e2 => h.far i j k hi hj (Ne.symm e) e2 hk) (h.row i hi).no
      exact h2.grown (grownBy_set w' gr i v') (fun k hk e => h2.off hb (hk.trans e.symm)) hno
  · have key : ∀ a, a < n → a ≠ i → ∀ y, v'.ownBlock = some y → (vs a).ownBlock ≠ some y := fun a ha hai y hy e => by
      rcases ho with ho | ho
      · exact h.far a i y ha hi hai e (ho.symm.trans hy)
      · have h3 := ((h.row a ha).lt y e).2
        rw [ho] at hy
        injection hy with hy
        omega
    by_cases e1 : j = i
    · subst e1
      rw [upd_at] at hx
      rw [upd_far (Ne.symm hne)]
      exact key k hk (Ne.symm hne) x hx
    · rw [upd_far e1] at hx
      by_cases e2 : k = i
      · subst e2
        rw [upd_at]
        exact fun h9 => key j hj e1 x h9 hx
      · rw [upd_far e2]
        exact h.far j k x hj hk hne hx
end
end Go.Proofs.YtkpcmgfpmekkjaaDoor
