/-
  Rows of the call's own whose elements are numbers, slices or intervals: appended to, made, stored into, at this translation. Condition: the slices read as limbs.
-/
import Derived.Test.YtkpcmgfpmekkjaaDoorQGb
namespace Go.Proofs.YtkpcmgfpmekkjaaDoor
open Go.RowKit

theorem nol_slice {A : Option Addr} {n c : Nat} : NoL (.slice A n c) := fun _ h => by cases h
section
variable {w w' : World} {base : Nat} {v : Value} {zs : List Int}
/-- a row of numbers of the call's own -/
def ZRow (w : World) (base : Nat) (v : Value) (zs : List Int) : Prop := RowN w base 3 1 v (zs.map (Value.int .i64)).length (zs.map (Value.int .i64))
theorem ZRow.next {X w2 : World} (h : ZRow w base v zs) (b : Below X.heap.size X w2) (e : X.heap = w.heap) : ZRow w2 base v zs := RowN.next h b e
instance {w w2 : World} {base : Nat} {v : Value} {zs : List Int} : Moves w w2 (ZRow w base v zs) (ZRow w2 base v zs) := ⟨fun _ b e h => h.next b e⟩
theorem ZRow.lt (h : ZRow w base v zs) : ∀ k, v.ownBlock = some k → base ≤ k ∧ k < w.heap.size := RowN.lt h
theorem ZRow.grown {row : Option Nat} (h : ZRow w base v zs) (hg : w.grownBy w' row) (hne : ∀ k, v.ownBlock = some k → row ≠ some k) : ZRow w' base v zs := RowN.same h fun k hk => hg.block k (h.lt k hk).2 (fun e => hne k hk e.symm)
theorem ZRow.form (h : ZRow w base v zs) : ∃ A c, v = .slice A zs.length c ∧ RdZ w A zs.length c (fun i => zs.getD i 0) := by
  have hlen : (zs.map (Value.int .i64)).length = zs.length := List.length_map ..
  have h0 : w.ownsRow base 3 1 v zs.length (zs.map (Value.int .i64)) := by have := h.1; rwa [hlen] at this
  have hcell := fun g hg => h0.cells (g := g) hg
  rcases h0.2 with ⟨hv, h3⟩ | ⟨g, cap, cur, hv, _, _, hc, hm, _, _⟩
  · refine ⟨none, 0, by rw [hv, h3], ⟨by omega, by omega, fun hn => absurd h3 hn⟩⟩
  · refine ⟨some ⟨g, 0, none⟩, cap, hv, ⟨hc, by unfold maxLen at hm; omega, fun _ => ⟨g, 0, rfl, fun i hi => ?_⟩⟩⟩
    have h2 := hcell g (by rw [hv]; rfl) i (.int .i64 (zs.getD i 0)) (by simp [List.getD_eq_getElem?_getD, hi])
    rw [show (0 : Nat) + i = i by omega]
    rwa [show (⟨g, 0, none⟩ : Addr).add i = ⟨g, i, none⟩ by unfold Addr.add; split <;> simp_all] at h2
end
/-- the cells of intervals, given one by one -/
theorem celi_of {w : World} : ∀ {L : List Iv} {xs : List Value}, xs.length = L.length * 6 → (∀ i, i < L.length → ∃ A n c B m d, xs[i * 6]? = some (.bool (L.getD i Iv.zero).lo.s) ∧ xs[i * 6 + 1]? = some (.slice A n c) ∧ xs[i * 6 + 2]? = some (.int .i64 (L.getD i Iv.zero).lo.e) ∧ xs[i * 6 + 3]? = some (.bool (L.getD i Iv.zero).hi.s) ∧ xs[i * 6 + 4]? = some (.slice B m d) ∧ xs[i * 6 + 5]? = some (.int .i64 (L.getD i Iv.zero).hi.e) ∧ Rd w .u64 Go.Proofs.YtkpcmgfpmekkjaaDoor.W A n c (L.getD i Iv.zero).lo.l ∧ Rd w .u64 Go.Proofs.YtkpcmgfpmekkjaaDoor.W B m d (L.getD i Iv.zero).hi.l) → Celi w L xs
  | [], xs, hl, _ => List.eq_nil_of_length_eq_zero (by rw [hl]; rfl)
  | x :: L, [], hl, _ => by simp at hl
  | x :: L, [_], hl, _ => by simp at hl; omega
  | x :: L, [_, _], hl, _ => by simp at hl; omega
  | x :: L, [_, _, _], hl, _ => by simp at hl; omega
  | x :: L, [_, _, _, _], hl, _ => by simp at hl; omega
  | x :: L, [_, _, _, _, _], hl, _ => by simp at hl; omega
  | x :: L, x0 :: x1 :: x2 :: x3 :: x4 :: x5 :: ys, hl, h => by
    obtain ⟨A, n, c, B, m, d, g0, g1, g2, g3, g4, g5, r1, r2⟩ := h 0 (by simp)
    simp at g0 g1 g2 g3 g4 g5
    subst g0 g1 g2 g3 g4 g5
    refine ⟨A, n, c, B, m, d, ys, rfl, r1, r2, celi_of (by simp at hl; omega) fun i hi => ?_⟩
    obtain ⟨A', n', c', B', m', d', g0, g1, g2, g3, g4, g5, r1, r2⟩ := h (i + 1) (by simpa using hi)
    have key : ∀ k, (Value.bool x.lo.s :: Value.slice A n c :: Value.int .i64 x.lo.e :: Value.bool x.hi.s :: Value.slice B m d :: Value.int .i64 x.hi.e :: ys)[(i + 1) * 6 + k]? = ys[i * 6 + k]? := fun k => by
      rw [show (i + 1) * 6 + k = (i * 6 + k) + 6 by omega]
      rfl
    exact ⟨A', n', c', B', m', d', (key 0).symm.trans g0, (key 1).symm.trans g1, (key 2).symm.trans g2, (key 3).symm.trans g3, (key 4).symm.trans g4, (key 5).symm.trans g5, r1, r2⟩
theorem take_set6 {cs : Array Value} {m j : Nat} {u : Value} : (cs.setIfInBounds j u).toList.take m = (cs.toList.take m).set j u := by
  rw [Array.toList_setIfInBounds, List.take_set]
theorem RowN.set {w : World} {base g m j : Nat} {E : TypeId} {size : Nat} {v : Value} {xs : List Value} (h : RowN w base E size v m xs) (hv : v.ownBlock = some g) {u : Value} (hu : NoL u) : RowN (w.setCell ⟨g, j, none⟩ u) base E size v m (xs.set j u) := by
  have hno := h.2 g hv
  refine ⟨⟨by rw [List.length_set]; exact h.1.1, ?_⟩, fun k hk i x => ?_⟩
  · rcases h.1.2 with ⟨h2, _⟩ | ⟨g', cap, cur, rfl, hb, hg, h3, h4, h5, h6⟩
    · rw [h2] at hv; cases hv
    · injection hv with hv
      subst hv
      refine .inr ⟨g', cap, cur.setIfInBounds j u, rfl, hb, ?_, h3, h4, by rw [Array.size_setIfInBounds]; exact h5, by rw [take_set6, h6]⟩
      simp [World.setCell, Array.getElem?_modify, hg]
  · rw [hv] at hk
    injection hk with hk
    subst hk
    intro hc
    rcases h.1.2 with ⟨h2, _⟩ | ⟨g', cap, cur, rfl, hb, hg, h3, h4, h5, h6⟩
    · rw [h2] at hv; cases hv
    · injection hv with hv
      subst hv
      have e1 := cell_of_row (w.setCell ⟨g', j, none⟩ u) g' i (cur.setIfInBounds j u) E (0, 0) (by simp [World.setCell, Array.getElem?_modify, hg])
      rw [e1, Array.getElem?_setIfInBounds] at hc
      split at hc
      · split at hc
        · injection hc with hc
          exact hu x hc
        · cases hc
      · exact hno i x ((cell_of_row w g' i cur E (0, 0) hg).trans hc)
section
variable {w w' : World} {base g i : Nat} {v : Value} {L : List Iv}
/-- an interval stored into such a row, in its place -/
theorem IRow.setAt (h : IRow w base v L) (hv : v.ownBlock = some g) (hi : i < L.length) {x : Iv} {A : Option Addr} {n c : Nat} {B : Option Addr} {m d : Nat} (r1 : Rd w .u64 Go.Proofs.YtkpcmgfpmekkjaaDoor.W A n c x.lo.l) (r2 : Rd w .u64 Go.Proofs.YtkpcmgfpmekkjaaDoor.W B m d x.hi.l) :
    IRow ((((((w.setCell ⟨g, i * 6, none⟩ (.bool x.lo.s)).setCell ⟨g, i * 6 + 1, none⟩ (.slice A n c)).setCell ⟨g, i * 6 + 2, none⟩ (.int .i64 x.lo.e)).setCell ⟨g, i * 6 + 3, none⟩ (.bool x.hi.s)).setCell ⟨g, i * 6 + 4, none⟩ (.slice B m d)).setCell ⟨g, i * 6 + 5, none⟩ (.int .i64 x.hi.e)) base v (L.set i x) := by
  obtain ⟨xs, h1, h2⟩ := h
  have k0 := h1.set (j := i * 6) hv (u := .bool x.lo.s) (fun _ h => by cases h)
  have k1 := k0.set (j := i * 6 + 1) hv (u := .slice A n c) (fun _ h => by cases h)
  have k2 := k1.set (j := i * 6 + 2) hv (u := .int .i64 x.lo.e) (fun _ h => by cases h)
  have k3 := k2.set (j := i * 6 + 3) hv (u := .bool x.hi.s) (fun _ h => by cases h)
  have k4 := k3.set (j := i * 6 + 4) hv (u := .slice B m d) (fun _ h => by cases h)
  have k5 := k4.set (j := i * 6 + 5) hv (u := .int .i64 x.hi.e) (fun _ h => by cases h)
  have mvR : ∀ (A' : Option Addr) (n' c' : Nat) (l : List Nat), Rd w .u64 Go.Proofs.YtkpcmgfpmekkjaaDoor.W A' n' c' l → Rd ((((((w.setCell ⟨g, i * 6, none⟩ (.bool x.lo.s)).setCell ⟨g, i * 6 + 1, none⟩ (.slice A n c)).setCell ⟨g, i * 6 + 2, none⟩ (.int .i64 x.lo.e)).setCell ⟨g, i * 6 + 3, none⟩ (.bool x.hi.s)).setCell ⟨g, i * 6 + 4, none⟩ (.slice B m d)).setCell ⟨g, i * 6 + 5, none⟩ (.int .i64 x.hi.e)) .u64 Go.Proofs.YtkpcmgfpmekkjaaDoor.W A' n' c' l := fun A' n' c' l hr => by
    have hne := hr.off (h1.2 g hv)
    exact (((((hr.set1 hne _ _).set1 hne _ _).set1 hne _ _).set1 hne _ _).set1 hne _ _).set1 hne _ _
  have hlen : xs.length = L.length * 6 := h1.1.1
  refine ⟨_, by rw [List.length_set]; exact k5, celi_of (by simp only [List.length_set]; exact hlen) fun j hj => ?_⟩
  rw [List.length_set] at hj
  by_cases e : j = i
  · subst e
    have e1 : (L.set j x).getD j Iv.zero = x := by simp [List.getD_eq_getElem?_getD, hj]
    rw [e1]
    refine ⟨A, n, c, B, m, d, ?_, ?_, ?_, ?_, ?_, ?_, mvR _ _ _ _ r1, mvR _ _ _ _ r2⟩ <;> simp [List.getElem?_set] <;> omega
  · have e1 : (L.set i x).getD j Iv.zero = L.getD j Iv.zero := by simp [List.getD_eq_getElem?_getD, Ne.symm e]
    rw [e1]
    obtain ⟨A', n', c', B', m', d', g0, g1, g2, g3, g4, g5, q1, q2⟩ := h2.get j hj
    refine ⟨A', n', c', B', m', d', ?_, ?_, ?_, ?_, ?_, ?_, mvR _ _ _ _ q1, mvR _ _ _ _ q2⟩
    · rw [← g0]; simp only [List.getElem?_set]; repeat rw [if_neg (by omega)]
    · rw [← g1]; simp only [List.getElem?_set]; repeat rw [if_neg (by omega)]
    · rw [← g2]; simp only [List.getElem?_set]; repeat rw [if_neg (by omega)]
    · rw [← g3]; simp only [List.getElem?_set]; repeat rw [if_neg (by omega)]
    · rw [← g4]; simp only [List.getElem?_set]; repeat rw [if_neg (by omega)]
    · rw [← g5]; simp only [List.getElem?_set]; repeat rw [if_neg (by omega)]
end
theorem made_blk {b0 g n : Nat} {E : TypeId} {size : Nat} {w : World} {xs : List Value} (h : w.ownsRow b0 E size (.slice (some ⟨g, 0, none⟩) n n) n xs) : Blk w g xs.toArray E := by
  rcases h.2 with ⟨h, _⟩ | ⟨g', cap, cur, hv, _, hg, _, _, hcs, ht⟩
  · cases h
  · injection hv with e1 e2 e3
    injection e1 with e1
    injection e1 with e1
    subst e1 e3
    rw [List.take_of_length_le (by rw [Array.length_toList, hcs]; exact Nat.le_refl _)] at ht
    subst ht
    exact ⟨hg⟩
theorem made_at {z : Array Value} {m j : Nat} (hj : j < m) : (madeCells z m).toList[j]? = some z[j % z.size]! := by simp [madeCells, hj]
theorem made_rown {b0 g n : Nat} {E : TypeId} {size : Nat} {w : World} {z : Array Value} (hz : ∀ u ∈ z, NoL u) (h0 : 0 < z.size) (h : w.ownsRow b0 E size (.slice (some ⟨g, 0, none⟩) n n) n (madeCells z (n * size)).toList) : RowN w b0 E size (.slice (some ⟨g, 0, none⟩) n n) n (madeCells z (n * size)).toList := by
  refine ⟨h, fun k hk i x => ?_⟩
  injection hk with hk
  have hk : g = k := hk
  subst hk
  rw [cell_of_row w g i _ _ (0, 0) (made_blk h).blk]
  refine nol_at (fun u hu => ?_) i x
  have hu : u ∈ madeCells z (n * size) := by simpa using hu
  unfold madeCells at hu
  obtain ⟨j, _, rfl⟩ := Array.mem_map.1 hu
  have hj : j % z.size < z.size := Nat.mod_lt _ h0
  rw [getElem!_pos z _ hj]
  exact hz _ (Array.getElem_mem hj)
theorem rd_nil0 (w : World) : Rd w .u64 Go.Proofs.YtkpcmgfpmekkjaaDoor.W none 0 0 Rw.zero.l := Rd.nil _ _ _ _ (by decide)
def zeroC : Array Value := #[.bool false, .slice none 0 0, .int .i64 0, .bool false, .slice none 0 0, .int .i64 0]
theorem IRow.frozen {w : World} {base g : Nat} {v : Value} {L : List Iv} (h : IRow w base v L) (hv : v.ownBlock = some g) (i : Nat) : w.frozen? ⟨g, i, none⟩ = false := by
  obtain ⟨cs, hc⟩ := h.kind g hv
  simp [World.frozen?, hc]
theorem IRow.open6 {w : World} {base g i : Nat} {v : Value} {L : List Iv} (h : IRow w base v L) (hv : v.ownBlock = some g) (hi : i < L.length) : (∃ u0 u1 u2 u3 u4 u5, w.cell? ⟨g, i * 6, none⟩ = some u0 ∧ w.cell? ⟨g, i * 6 + 1, none⟩ = some u1 ∧ w.cell? ⟨g, i * 6 + 2, none⟩ = some u2 ∧ w.cell? ⟨g, i * 6 + 3, none⟩ = some u3 ∧ w.cell? ⟨g, i * 6 + 4, none⟩ = some u4 ∧ w.cell? ⟨g, i * 6 + 5, none⟩ = some u5) ∧ w.frozen? ⟨g, i * 6, none⟩ = false ∧ w.frozen? ⟨g, i * 6 + 1, none⟩ = false ∧ w.frozen? ⟨g, i * 6 + 2, none⟩ = false ∧ w.frozen? ⟨g, i * 6 + 3, none⟩ = false ∧ w.frozen? ⟨g, i * 6 + 4, none⟩ = false ∧ w.frozen? ⟨g, i * 6 + 5, none⟩ = false := by
  refine ⟨?_, h.frozen hv _, h.frozen hv _, h.frozen hv _, h.frozen hv _, h.frozen hv _, h.frozen hv _⟩
  obtain ⟨A, c, _, _, hf⟩ := h.form
  obtain ⟨g', _, hg', _, hI⟩ := hf (fun e => by rw [e] at hi; exact absurd hi (Nat.not_lt_zero _))
  rw [hv] at hg'
  injection hg' with hg'
  subst hg'
  obtain ⟨_, _, _, _, _, _, ⟨c0, c1, c2, c3, c4, c5⟩, _, _⟩ := hI i hi
  rw [Nat.zero_add] at c0 c1 c2 c3 c4 c5
  exact ⟨_, _, _, _, _, _, c0, c1, c2, c3, c4, c5⟩
theorem below_at6 {b0 g i : Nat} {w0 w : World} (h : Below b0 w0 w) (hg : b0 ≤ g) (u0 u1 u2 u3 u4 u5 : Value) : Below b0 w0 ((((((w.setCell ⟨g, i * 6, none⟩ u0).setCell ⟨g, i * 6 + 1, none⟩ u1).setCell ⟨g, i * 6 + 2, none⟩ u2).setCell ⟨g, i * 6 + 3, none⟩ u3).setCell ⟨g, i * 6 + 4, none⟩ u4).setCell ⟨g, i * 6 + 5, none⟩ u5) :=
  (((((h.setCell hg u0).setCell hg u1).setCell hg u2).setCell hg u3).setCell hg u4).setCell hg u5
end Go.Proofs.YtkpcmgfpmekkjaaDoor
