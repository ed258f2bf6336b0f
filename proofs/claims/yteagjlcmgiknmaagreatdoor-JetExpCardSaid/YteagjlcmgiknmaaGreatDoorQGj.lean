/-
 Rows of the call's own whose elements are numbers, slices or intervals: appended to, made, stored into, at this translation. Condition: the slices read as limbs.
-/
import Derived.Test.YteagjlcmgiknmaaGreatDoorQGb
import Derived.Test.YteagjlcmgiknmaaGreatDoorQLj
import Derived.Test.YteagjlcmgiknmaaGreatDoorQEb
import Derived.Test.YteagjlcmgiknmaaGreatDoorQLb
import Derived.StillTailTactics
set_option maxHeartbeats 200000
set_option maxRecDepth 100000
namespace Go.Proofs.YteagjlcmgiknmaaGreatDoor
open Go.RowKit

theorem infoR : (Tryz.prog.info? 40).map (fun i => (i.zero, i.size, i.bytes)) = some (some (.slice none 0 0), 1, 24) := by kernel_rfl
theorem nol_int (x : Int) : NoL (.int .i64 x) := fun _ h => by cases h
theorem nol_slice {A : Option Addr} {n c : Nat} : NoL (.slice A n c) := fun _ h => by cases h
section
variable {w w' : World} {base : Nat} {v : Value} {zs : List Int}
/-- a row of numbers of the call's own -/
def ZRow (w : World) (base : Nat) (v : Value) (zs : List Int) : Prop := RowN w base 3 1 v (zs.map (Value.int .i64)).length (zs.map (Value.int .i64))
theorem ZRow.next {X w2 : World} (h : ZRow w base v zs) (b : Below X.heap.size X w2) (e : X.heap = w.heap) : ZRow w2 base v zs := RowN.next h b e
instance {w w2 : World} {base : Nat} {v : Value} {zs : List Int} : Moves w w2 (ZRow w base v zs) (ZRow w2 base v zs) := ⟨fun _ b e h => h.next b e⟩
theorem ZRow.lt (h : ZRow w base v zs) : ∀ k, v.ownBlock = some k → base ≤ k ∧ k < w.heap.size := RowN.lt h
theorem ZRow.grown {row : Option Nat} (h : ZRow w base v zs) (hg : w.grownBy w' row) (hne : ∀ k, v.ownBlock = some k → row ≠ some k) : ZRow w' base v zs := RowN.same h fun k hk => hg.block k (h.lt k hk).2 (fun e => hne k hk e.symm)
theorem ZRow.form (h : ZRow w base v zs) : ∃ A c, v = .slice A zs.length c ∧ RdZ w A zs.length c (fun i => zs.getD i 0) := by
 have hlen : (zs.map (Value.int .i64)).length = zs.length := List.length_map ..
 have h0 : w.ownsRow base 3 1 v zs.length (zs.map (Value.int .i64)) := by have := h.1; rwa [hlen] at this
 have hcell := fun g hg => h0.cells (g := g) hg
 rcases h0.2 with ⟨hv, h3⟩ | ⟨g, cap, cur, hv, _, _, hc, hm, _, _⟩
 ·refine ⟨none, 0, by rw [hv, h3], ⟨by omega, by omega, fun hn => absurd h3 hn⟩⟩
 ·refine ⟨some ⟨g, 0, none⟩, cap, hv, ⟨hc, by unfold maxLen at hm; omega, fun _ => ⟨g, 0, rfl, fun i hi => ?_⟩⟩⟩
  have h2 := hcell g (by rw [hv]; rfl) i (.int .i64 (zs.getD i 0)) (by simp [List.getD_eq_getElem?_getD, hi])
  rw [show (0 : Nat) + i = i by omega]
  rwa [show (⟨g, 0, none⟩ : Addr).add i = ⟨g, i, none⟩ by unfold Addr.add; split <;> simp_all] at h2
end
/-- the cells of intervals, given one by one -/
theorem celi_of {w : World} : ∀ {L : List Iv} {xs : List Value}, xs.length = L.length * 6 → (∀ i, i < L.length → ∃ A n c B m d, xs[i * 6]? = some (.bool (L.getD i Iv.zero).lo.s) ∧ xs[i * 6 + 1]? = some (.slice A n c) ∧ xs[i * 6 + 2]? = some (.int .i64 (L.getD i Iv.zero).lo.e) ∧ xs[i * 6 + 3]? = some (.bool (L.getD i Iv.zero).hi.s) ∧ xs[i * 6 + 4]? = some (.slice B m d) ∧ xs[i * 6 + 5]? = some (.int .i64 (L.getD i Iv.zero).hi.e) ∧ Rd w .u64 Go.Proofs.YteagjlcmgiknmaaGreatDoor.W A n c (L.getD i Iv.zero).lo.l ∧ Rd w .u64 Go.Proofs.YteagjlcmgiknmaaGreatDoor.W B m d (L.getD i Iv.zero).hi.l) → Celi w L xs
 | [], xs, hl, _ => List.eq_nil_of_length_eq_zero (by rw [hl]; rfl)
 | x :: L, [], hl, _ => by simp at hl
 | x :: L, [_], hl, _ => by simp at hl; omega
 | x :: L, [_, _], hl, _ => by simp at hl; omega
 | x :: L, [_, _, _], hl, _ => by simp at hl; omega
 | x :: L, [_, _, _, _], hl, _ => by simp at hl; omega
 | x :: L, [_, _, _, _, _], hl, _ => by simp at hl; omega
 | x :: L, x0 :: x1 :: x2 :: x3 :: x4 :: x5 :: ys, hl, h => by
  obtain ⟨A, n, c, B, m, d, g0, g1, g2, g3, g4, g5, r1, r2⟩ := h 0 (by simp)
  simp at g0 g1 g2 g3 g4 g5
  subst g0 g1 g2 g3 g4 g5
  refine ⟨A, n, c, B, m, d, ys, rfl, r1, r2, celi_of (by simp at hl; omega) fun i hi => ?_⟩
  obtain ⟨A', n', c', B', m', d', g0, g1, g2, g3, g4, g5, r1, r2⟩ := h (i + 1) (by simpa using hi)
  have key : ∀ k, (Value.bool x.lo.s :: Value.slice A n c :: Value.int .i64 x.lo.e :: Value.bool x.hi.s :: Value.slice B m d :: Value.int .i64 x.hi.e :: ys)[(i + 1) * 6 + k]? = ys[i * 6 + k]? := fun k => by
   rw [show (i + 1) * 6 + k = (i * 6 + k) + 6 by omega]
   rfl
  exact ⟨A', n', c', B', m', d', (key 0).symm.trans g0, (key 1).symm.trans g1, (key 2).symm.trans g2, (key 3).symm.trans g3, (key 4).symm.trans g4, (key 5).symm.trans g5, r1, r2⟩
theorem take_set6 {cs : Array Value} {m j : Nat} {u : Value} : (cs.setIfInBounds j u).toList.take m = (cs.toList.take m).set j u := by
 rw [Array.toList_setIfInBounds, List.take_set]
theorem RowN.set {w : World} {base g m j : Nat} {E : TypeId} {size : Nat} {v : Value} {xs : List Value} (h : RowN w base E size v m xs) (hv : v.ownBlock = some g) {u : Value} (hu : NoL u) : RowN (w.setCell ⟨g, j, none⟩ u) base E size v m (xs.set j u) := by
 have hno := h.2 g hv
 refine ⟨⟨by rw [List.length_set]; exact h.1.1, ?_⟩, fun k hk i x => ?_⟩
 ·rcases h.1.2 with ⟨h2, _⟩ | ⟨g', cap, cur, rfl, hb, hg, h3, h4, h5, h6⟩
  ·rw [h2] at hv; cases hv
  ·injection hv with hv
   subst hv
   refine .inr ⟨g', cap, cur.setIfInBounds j u, rfl, hb, ?_, h3, h4, by rw [Array.size_setIfInBounds]; exact h5, by rw [take_set6, h6]⟩
   simp [World.setCell, Array.getElem?_modify, hg]
 ·rw [hv] at hk
  injection hk with hk
  subst hk
  intro hc
  rcases h.1.2 with ⟨h2, _⟩ | ⟨g', cap, cur, rfl, hb, hg, h3, h4, h5, h6⟩
  ·rw [h2] at hv; cases hv
  ·injection hv with hv
   subst hv
   have e1 := cell_of_row (w.setCell ⟨g', j, none⟩ u) g' i (cur.setIfInBounds j u) E (0, 0) (by simp [World.setCell, Array.getElem?_modify, hg])
   rw [e1, Array.getElem?_setIfInBounds] at hc
   split at hc
   ·split at hc
    ·injection hc with hc
     exact hu x hc
    ·cases hc
   ·exact hno i x ((cell_of_row w g' i cur E (0, 0) hg).trans hc)
theorem made_blk {b0 g n : Nat} {E : TypeId} {size : Nat} {w : World} {xs : List Value} (h : w.ownsRow b0 E size (.slice (some ⟨g, 0, none⟩) n n) n xs) : Blk w g xs.toArray E := by
 rcases h.2 with ⟨h, _⟩ | ⟨g', cap, cur, hv, _, hg, _, _, hcs, ht⟩
 ·cases h
 ·injection hv with e1 e2 e3
  injection e1 with e1
  injection e1 with e1
  subst e1 e3
  rw [List.take_of_length_le (by rw [Array.length_toList, hcs]; exact Nat.le_refl _)] at ht
  subst ht
  exact ⟨hg⟩
theorem made_at {z : Array Value} {m j : Nat} (hj : j < m) : (madeCells z m).toList[j]? = some z[j % z.size]! := by simp [madeCells, hj]
theorem made_rown {b0 g n : Nat} {E : TypeId} {size : Nat} {w : World} {z : Array Value} (hz : ∀ u ∈ z, NoL u) (h0 : 0 < z.size) (h : w.ownsRow b0 E size (.slice (some ⟨g, 0, none⟩) n n) n (madeCells z (n * size)).toList) : RowN w b0 E size (.slice (some ⟨g, 0, none⟩) n n) n (madeCells z (n * size)).toList := by
 refine ⟨h, fun k hk i x => ?_⟩
 injection hk with hk
 have hk : g = k := hk
 subst hk
 rw [cell_of_row w g i _ _ (0, 0) (made_blk h).blk]
 refine nol_at (fun u hu => ?_) i x
 have hu : u ∈ madeCells z (n * size) := by simpa using hu
 unfold madeCells at hu
 obtain ⟨j, _, rfl⟩ := Array.mem_map.1 hu
 have hj : j % z.size < z.size := Nat.mod_lt _ h0
 rw [getElem!_pos z _ hj]
 exact hz _ (Array.getElem_mem hj)
theorem rd_nil0 (w : World) : Rd w .u64 Go.Proofs.YteagjlcmgiknmaaGreatDoor.W none 0 0 Rw.zero.l := Rd.nil _ _ _ _ (by decide)
def zeroC : Array Value := #[.bool false, .slice none 0 0, .int .i64 0, .bool false, .slice none 0 0, .int .i64 0]
theorem law_makeI {ops : Array Oper} {rest : List Oper} {o : Oper} {a : Act} {Q : Exit → Act → World → Prop} {w : World} (hg : o.guard = none) (x : Operand) (hop : o.op = Op.makeSlice 40 x x)
  (C : Int) (n : Nat) (hx : a.eval x = .int .i64 C) (hC : C = (n : Int)) (hn : n ≤ 1000000)
  (hK : ∀ w', IRow w' w.heap.size (.slice (some ⟨w.heap.size, 0, none⟩) n n) (List.replicate n Iv.zero) → w.grownBy w' none → wpList Tryz.prog ops Q rest (a.put o.dst (.slice (some ⟨w.heap.size, 0, none⟩) n n)) w') : wpList Tryz.prog ops Q (o :: rest) a w := by
 obtain ⟨i0, hi, hz0, hz1, hz2⟩ := info_partsD infoIv
 refine wpList_make_full w hg x x 40 hop w.heap.size 29 i0 (.agg zeroC) 6 Tryz.underlying40 hi hz0 hz1 .i64 .i64 C C n hx hx hC hC (by rw [hz2]; omega) (by unfold maxLen; omega) (Nat.le_refl _)
  (fun w' h1 h2 => hK w' ?_ h2)
 have h3 : w'.ownsRow w.heap.size 29 6 (.slice (some ⟨w.heap.size, 0, none⟩) n n) n (madeCells zeroC (n * 6)).toList := h1
 have h4 := made_rown (by intro u hu; simp [zeroC] at hu; rcases hu with rfl | rfl | rfl | rfl | rfl | rfl <;> exact fun _ h => by cases h) (by decide) h3
 have hat : ∀ i k, i < n → k < 6 → (madeCells zeroC (n * 6)).toList[i * 6 + k]? = some zeroC[k]! := fun i k hi hk => by
  rw [made_at (by omega), show (i * 6 + k) % zeroC.size = k by show (i * 6 + k) % 6 = k; omega]
 refine ⟨_, by rw [List.length_replicate]; exact h4, celi_of (by rw [List.length_replicate]; exact h4.1.1) fun i hi => ?_⟩
 rw [List.length_replicate] at hi
 have e1 : (List.replicate n Iv.zero).getD i Iv.zero = Iv.zero := by simp [List.getD_eq_getElem?_getD, hi]
 rw [e1]
 exact ⟨none, 0, 0, none, 0, 0, hat i 0 hi (by decide), hat i 1 hi (by decide), hat i 2 hi (by decide), hat i 3 hi (by decide), hat i 4 hi (by decide), hat i 5 hi (by decide), rd_nil0 w', rd_nil0 w'⟩
def tls (n : Nat) (B : Nat → Bool) : Array Value := rls n fun j => .bool (B j)
theorem IRow.frozen {w : World} {base g : Nat} {v : Value} {L : List Iv} (h : IRow w base v L) (hv : v.ownBlock = some g) (i : Nat) : w.frozen? ⟨g, i, none⟩ = false := by
 obtain ⟨cs, hc⟩ := h.kind g hv
 simp [World.frozen?, hc]
end Go.Proofs.YteagjlcmgiknmaaGreatDoor
namespace Go.Proofs.YteagjlcmgiknmaaGreatDoor
open Go.RowKit

/-- what a call ends with: an interval or a code that panics -/
theorem mustI_ok {A1 : Option Addr} {n1 c1 : Nat} {A2 : Option Addr} {n2 c2 : Nat} {x : Iv} {w : World} (h1 : Rd w .u64 Go.Proofs.YteagjlcmgiknmaaGreatDoor.W A1 n1 c1 x.lo.l) (h2 : Rd w .u64 Go.Proofs.YteagjlcmgiknmaaGreatDoor.W A2 n2 c2 x.hi.l) :
  Calls Tryz.prog 85 #[.agg #[.bool x.lo.s, .slice A1 n1 c1, .int .i64 x.lo.e, .bool x.hi.s, .slice A2 n2 c2, .int .i64 x.hi.e], .int .i64 0] w (GivI x w) := by
 have BB := two_below w (.cells #[.bool x.lo.s, .slice A1 n1 c1, .int .i64 x.lo.e, .bool x.hi.s, .slice A2 n2 c2, .int .i64 x.hi.e] 29) (.cells #[.bool x.lo.s, .slice A1 n1 c1, .int .i64 x.lo.e, .bool x.hi.s, .slice A2 n2 c2, .int .i64 x.hi.e] 29)
 have r := ibx_one w (.cells #[.bool x.lo.s, .slice A1 n1 c1, .int .i64 x.lo.e, .bool x.hi.s, .slice A2 n2 c2, .int .i64 x.hi.e] 29) false none 0 0 0 false none 0 0 0
 have xa := (Ibx.new w x.lo.s A1 n1 c1 x.lo.e x.hi.s A2 n2 c2 x.hi.e).alloc (.cells #[.bool false, .slice none 0 0, .int .i64 0, .bool false, .slice none 0 0, .int .i64 0] 29)
 have G := mv BB rfl <| And.intro h1 <| h2
 clear h1 h2
 obtain ⟨h1, h2⟩ := G
 obtain ⟨a0, a1, a2, a3, a4, a5⟩ := xa.held
 go_enter Tryz.func85, Tryz.ntmps85
 go_wp2_with fail
 refine check_ok.mono ?_
 rintro e' w' ⟨rfl, rfl⟩
 go_wp2
 exact bodyPost_ret (v := .agg #[.bool x.lo.s, .slice A1 n1 c1, .int .i64 x.lo.e, .bool x.hi.s, .slice A2 n2 c2, .int .i64 x.hi.e]) (by simp [results, Tryz.results85, go_sem]) rfl ⟨_, _, _, _, _, _, rfl, h1, h2, BB⟩
theorem mustI_bad {A1 : Option Addr} {n1 c1 : Nat} {A2 : Option Addr} {n2 c2 : Nat} {x : Iv} {w : World} {k : Int} (hk : k ≠ 0) :
  Calls Tryz.prog 85 #[.agg #[.bool x.lo.s, .slice A1 n1 c1, .int .i64 x.lo.e, .bool x.hi.s, .slice A2 n2 c2, .int .i64 x.hi.e], .int .i64 k] w (Faults k w) := by
 have BB := two_below w (.cells #[.bool x.lo.s, .slice A1 n1 c1, .int .i64 x.lo.e, .bool x.hi.s, .slice A2 n2 c2, .int .i64 x.hi.e] 29) (.cells #[.bool false, .slice none 0 0, .int .i64 0, .bool false, .slice none 0 0, .int .i64 0] 29)
 have HK := Lib.hid hk
 clear hk
 go_enter Tryz.func85, Tryz.ntmps85
 go_wp2_with fail
 refine (check_bad HK.out).mono ?_
 rintro e' w' ⟨rfl, rfl⟩
 go_wp2
 exact ⟨rfl, rfl, BB⟩
theorem mustI_run {o : Except Int Iv} {w : World} {A1 : Option Addr} {n1 c1 : Nat} {A2 : Option Addr} {n2 c2 : Nat} (hc : Cod o) (h1 : Rd w .u64 Go.Proofs.YteagjlcmgiknmaaGreatDoor.W A1 n1 c1 (oiv o).lo.l) (h2 : Rd w .u64 Go.Proofs.YteagjlcmgiknmaaGreatDoor.W A2 n2 c2 (oiv o).hi.l) :
  Calls Tryz.prog 85 #[.agg #[.bool (oiv o).lo.s, .slice A1 n1 c1, .int .i64 (oiv o).lo.e, .bool (oiv o).hi.s, .slice A2 n2 c2, .int .i64 (oiv o).hi.e], .int .i64 (okc o)] w (RunI o w) := by
 cases o with
 | ok v => exact (mustI_ok (x := v) h1 h2).mono fun en w' h => .inl ⟨v, rfl, h⟩
 | error k => exact (mustI_bad (x := Iv.zero) (k := k) (hc k rfl)).mono fun en w' h => .inr ⟨k, rfl, hc k rfl, h⟩

end Go.Proofs.YteagjlcmgiknmaaGreatDoor
namespace Go.Proofs.YteagjlcmgiknmaaGreatDoor
open Go.RowKit

/-- a row of rows as it is told: each reads as intervals -/
structure RdT (w : World) (A : Option Addr) (n c : Nat) (D : Nat → List Iv) : Prop where
 cap : n ≤ c
 max : c ≤ 9223372036854775807
 at_ : n ≠ 0 → ∃ b o, A = some ⟨b, o, none⟩ ∧ ∀ i, i < n → ∃ B d, w.cell? ⟨b, o + i, none⟩ = some (.slice B (D i).length d) ∧ RdS w B (D i).length d (fun k => (D i).getD k Iv.zero)
theorem RdT.next {w X w2 : World} {A : Option Addr} {n c : Nat} {D : Nat → List Iv} (h : RdT w A n c D) (b : Below X.heap.size X w2) (e : X.heap = w.heap) : RdT w2 A n c D :=
 ⟨h.cap, h.max, fun hn => by
  obtain ⟨g, o, ha, hc⟩ := h.at_ hn
  refine ⟨g, o, ha, fun i hi => ?_⟩
  obtain ⟨B, d, h1, h2⟩ := hc i hi
  exact ⟨B, d, cell_next b e h1, h2.next b e⟩⟩
instance {w w2 : World} {A : Option Addr} {n c : Nat} {D : Nat → List Iv} : Moves w w2 (RdT w A n c D) (RdT w2 A n c D) := ⟨fun _ b e h => h.next b e⟩
def nilV : Value := .slice none 0 0
/-- what is told so far: values, and rows of derivatives, each in a block of its own -/
structure Outs (w : World) (b0 : Nat) (va vr : Value) (R : List Iv) (us : List Value) (D : List (List Iv)) : Prop where
 r : IRow w b0 va R
 o : RowN w b0 40 1 vr us.length us
 len : us.length = D.length
 u : ∀ j, j < D.length → IRow w b0 (us.getD j nilV) (D.getD j [])
 far : ∀ j k, j < D.length → (us.getD j nilV).ownBlock = some k → va.ownBlock ≠ some k
theorem Outs.next {w X w2 : World} {b0 : Nat} {va vr : Value} {R : List Iv} {us : List Value} {D : List (List Iv)} (h : Outs w b0 va vr R us D) (b : Below X.heap.size X w2) (e : X.heap = w.heap) : Outs w2 b0 va vr R us D := ⟨h.r.next b e, h.o.next b e, h.len, fun j hj => (h.u j hj).next b e, h.far⟩
instance {w w2 : World} {b0 : Nat} {va vr : Value} {R : List Iv} {us : List Value} {D : List (List Iv)} : Moves w w2 (Outs w b0 va vr R us D) (Outs w2 b0 va vr R us D) := ⟨fun _ b e h => h.next b e⟩
theorem RowN.kind {w : World} {b0 : Nat} {E : TypeId} {size : Nat} {v : Value} {m : Nat} {xs : List Value} (h : RowN w b0 E size v m xs) : ∀ k, v.ownBlock = some k → ∃ cs, w.heap[k]? = some (.cells cs E (0, 0)) := by
 intro k hk
 rcases h.1.2 with ⟨rfl, _⟩ | ⟨g, cap, cur, rfl, _, hg, _⟩
 ·cases hk
 ·injection hk with hk
  subst hk
  exact ⟨cur, hg⟩
theorem kinds_far {w : World} {b0 : Nat} {v u : Value} {L : List Iv} {m : Nat} {xs : List Value} (h : IRow w b0 v L) (h2 : RowN w b0 40 1 u m xs) : ∀ k, v.ownBlock = some k → u.ownBlock ≠ some k := by
 intro k hk hk2
 obtain ⟨c1, e1⟩ := h.kind k hk
 obtain ⟨c2, e2⟩ := h2.kind k hk2
 rw [e1] at e2
 injection e2 with e2
 injection e2 with _ e2
 exact absurd e2 (by decide)
section
variable {w w' : World} {b0 : Nat} {va vr : Value} {R : List Iv} {us : List Value} {D : List (List Iv)}
theorem Outs.value (h : Outs w b0 va vr R us D) {v' : Value} {R' : List Iv} (h1 : IRow w' b0 v' R') (hg : w.grownBy w' va.ownBlock) (ho : v'.ownBlock = va.ownBlock ∨ v'.ownBlock = some w.heap.size) : Outs w' b0 v' vr R' us D := by
 refine ⟨h1, h.o.same fun k hk => hg.block k (h.o.lt k hk).2 (fun e => kinds_far h.r h.o k e.symm hk), h.len, fun j hj => (h.u j hj).grown hg (fun k hk e => h.far j k hj hk e) h.r.no, fun j k hj hk e => ?_⟩
 rcases ho with ho | ho
 ·exact h.far j k hj hk (ho.symm.trans e)
 ·have := ((h.u j hj).lt k hk).2
  rw [ho] at e
  injection e with e
  omega
theorem Outs.row (h : Outs w b0 va vr R us D) {v' u : Value} {L : List Iv} (h1 : RowN w' b0 40 1 v' (us ++ [u]).length (us ++ [u])) (hg : w.grownBy w' vr.ownBlock) (hu : IRow w b0 u L) (hf : ∀ k, u.ownBlock = some k → va.ownBlock ≠ some k) : Outs w' b0 va v' R (us ++ [u]) (D ++ [L]) := by
 have mvI : ∀ {v : Value} {X : List Iv}, IRow w b0 v X → IRow w' b0 v X := fun hv => hv.grown hg (fun k hk e => kinds_far hv h.o k hk e) h.o.2
 have e1 : ∀ j, j < D.length → (us ++ [u]).getD j nilV = us.getD j nilV ∧ (D ++ [L]).getD j [] = D.getD j [] := fun j hj => by
  have hj2 : j < us.length := by rw [h.len]; exact hj
  simp [List.getD_eq_getElem?_getD, List.getElem?_append, hj, hj2]
 have e2 : (us ++ [u]).getD D.length nilV = u ∧ (D ++ [L]).getD D.length [] = L := by
  have hl := h.len
  simp [List.getD_eq_getElem?_getD, hl]
 refine ⟨mvI h.r, h1, by simp [h.len], fun j hj => ?_, fun j k hj hk => ?_⟩
 ·rw [List.length_append] at hj
  by_cases e : j < D.length
  ·rw [(e1 j e).1, (e1 j e).2]; exact mvI (h.u j e)
  ·obtain rfl : j = D.length := by simp at hj; omega
   rw [e2.1, e2.2]; exact mvI hu
 ·rw [List.length_append] at hj
  by_cases e : j < D.length
  ·rw [(e1 j e).1] at hk; exact h.far j k e hk
  ·obtain rfl : j = D.length := by simp at hj; omega
   rw [e2.1] at hk; exact hf k hk
theorem Outs.told (h : Outs w b0 va vr R us D) : ∃ A c, vr = .slice A D.length c ∧ RdT w A D.length c (fun i => D.getD i []) := by
 have hc := fun g hg => h.o.1.cells (g := g) hg
 have hlen := h.len
 rcases h.o.1.2 with ⟨hv, h3⟩ | ⟨g, cap, cur, hv, _, _, hcap, hm, _, _⟩
 ·rw [hlen] at h3
  exact ⟨none, 0, by rw [hv, h3], ⟨by omega, by omega, fun hn => absurd h3 hn⟩⟩
 ·rw [hlen] at hcap hv
  refine ⟨some ⟨g, 0, none⟩, cap, hv, ⟨hcap, by unfold maxLen at hm; omega, fun _ => ⟨g, 0, rfl, fun i hi => ?_⟩⟩⟩
  obtain ⟨B, d, hb, hr, _⟩ := (h.u i hi).form
  have hi2 : i < us.length := by omega
  have h2 := hc g (by rw [hv]; rfl) i (us.getD i nilV) (by simp [List.getD_eq_getElem?_getD, hi2])
  rw [show (⟨g, 0, none⟩ : Addr).add i = ⟨g, i, none⟩ by unfold Addr.add; split <;> simp_all, hb] at h2
  exact ⟨B, d, by rw [show (0 : Nat) + i = i by omega]; exact h2, hr⟩
end

end Go.Proofs.YteagjlcmgiknmaaGreatDoor
namespace Go.Proofs.YteagjlcmgiknmaaGreatDoor
open Go.RowKit

section
variable {S : Sc} {a b c : Rw} {p : Int} {up : Bool}
theorem Rw.of_self (h : a.may = true) : Rw.of a.s (val W a.l) a.e = a := Rw.ext rfl (dig_may a.lt (mayD_of a.lt h).1) rfl
theorem rnd_fit (hp : 1 ≤ p ∧ p ≤ 2000) (ha : a.may = true) (hb : blen (val W a.l) ≤ p.toNat) : rndO S a p up = .ok a := by
 obtain ⟨k, s, m, e, h⟩ := rndR_some (a := a) (p := p) (up := up)
 have h2 := h
 unfold rndR at h2
 rw [if_pos ⟨hp, ha⟩] at h2
 obtain ⟨rfl, rfl, rfl, rfl⟩ := rd_fit (by omega) (mayD_of a.lt ha).2 hb h2
 exact ((S.is _ _ _ _ _ rndR_only h).1 rfl).trans (congrArg Except.ok (Rw.of_self ha))
theorem addO_is (ha : a.may = true) (hb : b.may = true) (hc : c.may = true) (hv : c.v S.K = a.v S.K + b.v S.K) : addO S a b = .ok c := by
 obtain ⟨k, s, m, e, h⟩ := addR_some (s := a.s) (t := b.s) (e := a.e) (f := b.e) S.big a.lt b.lt
 have h2 := h
 unfold addR at h2
 rw [if_pos ⟨ha, hb⟩] at h2
 obtain ⟨rfl, rfl, rfl, rfl⟩ := nmv_hit S.big h2 (mayD_of c.lt hc).2 hv
 exact ((S.is _ _ _ _ _ addR_only h).1 rfl).trans (congrArg Except.ok (Rw.of_self hc))
theorem mulO_is (ha : a.may = true) (hb : b.may = true) (hc : c.may = true) (hv : c.v S.K * ((2 ^ S.K : Nat) : Int) = a.v S.K * b.v S.K) : mulO S a b = .ok c := by
 obtain ⟨k, s, m, e, h⟩ := mulR_some (s := a.s) (l := a.l) (e := a.e) (t := b.s) (r := b.l) (f := b.e)
 have h2 := h
 unfold mulR at h2
 rw [if_pos ⟨ha, hb⟩] at h2
 have r1 := okd_ge S.big (mayD_of a.lt ha).2
 have r2 := okd_ge S.big (mayD_of b.lt hb).2
 have hk := S.big
 have hm := vz_mul (K := S.K) (s := a.s) (t := b.s) (m := val W a.l) (n := val W b.l) r1.2.2 r2.2.2 (by omega)
 have hv2 : c.v S.K = vz S.K (a.s != b.s) (val W a.l * val W b.l) (a.e + b.e) := Int.eq_of_mul_eq_mul_right (Int.ne_of_gt pos_of_pow) (hv.trans hm)
 obtain ⟨rfl, rfl, rfl, rfl⟩ := nmv_hit S.big ⟨_, _, _, by omega, rfl, h2⟩ (mayD_of c.lt hc).2 hv2
 exact ((S.is _ _ _ _ _ mulR_only h).1 rfl).trans (congrArg Except.ok (Rw.of_self hc))
end
def qm : Rw := Rw.of true 1 0
def q2 : Rw := Rw.of false 1 1
def q4 : Rw := Rw.of false 1 2
end Go.Proofs.YteagjlcmgiknmaaGreatDoor
namespace Go.Proofs.YteagjlcmgiknmaaGreatDoor

theorem okd_blen {s : Bool} {m : Nat} {e : Int} (h : OkD s m e) : blen m ≤ 4096 := by
 rcases h with ⟨rfl, _⟩ | ⟨_, h, _⟩
 ·rw [blen_zero]; omega
 ·refine (blen_le _ _).2 ?_
  rw [W_pow, ← Nat.pow_mul] at h
  rw [show (64 * 64 : Nat) = 4096 from rfl] at h
  exact h
theorem vz_flip {K : Nat} {s : Bool} {m : Nat} {e : Int} : vz K (!s) m e = - vz K s m e := by
 unfold vz
 rw [sg_not, Int.neg_mul]
/-- a quotient times the divisor, as values -/
theorem quot_val {K : Nat} {s : Bool} {x : Nat} {e : Int} {y : Nat} {f : Int} {p : Nat} {up : Bool} {s' : Bool} {m' : Nat} {e' : Int} (hK : 4194304 ≤ K) (hy : y ≠ 0) (hp : p ≤ 2000) (bx : blen x ≤ 4096) (bY : blen y ≤ 4096) (r1 : -1048576 ≤ e ∧ e ≤ 1048576) (r2 : -1048576 ≤ f ∧ f ≤ 1048576)
  (h : QuTold s x e false y f p up 0 s' m' e') : (up = false → vz K s' m' e' * vz K false y f ≤ vz K s x e * ((2 ^ K : Nat) : Int)) ∧ (up = true → vz K s x e * ((2 ^ K : Nat) : Int) ≤ vz K s' m' e' * vz K false y f) := by
 have r3 := okd_ge hK (nm_okd h)
 have hk : (p : Int) + (blen y : Int) - (blen x : Int) = ((kUp p x y : Nat) : Int) - ((kDn p x y : Nat) : Int) := by unfold kUp kDn; omega
 have hi : kUp p x y ≤ 10000 := by unfold kUp; omega
 have hj : kDn p x y ≤ 10000 := by unfold kDn; omega
 unfold QuTold at h
 rw [hk] at h
 generalize kUp p x y = i at *
 generalize kDn p x y = j at *
 have hsf : (s != false) = s := by cases s <;> rfl
 rw [hsf] at h
 have hD : 0 < y * 2 ^ j := Nat.mul_pos (Nat.pos_of_ne_zero hy) (pow_pos2 j)
 obtain ⟨rest, hrest⟩ : ∃ r : Bool, r = !decide (x * 2 ^ i % (y * 2 ^ j) = 0) := ⟨_, rfl⟩
 rw [← hrest] at h
 have hdm := Nat.div_add_mod (x * 2 ^ i) (y * 2 ^ j)
 have hml := Nat.mod_lt (x * 2 ^ i) hD
 generalize hq : x * 2 ^ i / (y * 2 ^ j) = q at *
 obtain ⟨L, hL⟩ : ∃ L, L = cutR p q rest (up != s) * 2 ^ (blen q - p) := ⟨_, rfl⟩
 have hside : ((up != s) = false → L * (y * 2 ^ j) ≤ x * 2 ^ i) ∧ ((up != s) = true → x * 2 ^ i ≤ L * (y * 2 ^ j)) := by
  constructor
  ·intro hu
   rw [hu] at hL
   have h1 : L ≤ q := by rw [hL]; exact cutR_le
   have h2 := Nat.mul_le_mul_right (y * 2 ^ j) h1
   rw [Nat.mul_comm q] at h2
   omega
  ·intro hu
   rw [hu] at hL
   obtain ⟨h1, h2⟩ := cutR_ge (p := p) (x := q) (rest := rest)
   rw [← hL] at h1 h2
   cases hr : rest
   ·rw [hr] at hrest
    have h3 : x * 2 ^ i % (y * 2 ^ j) = 0 := by
     have := hrest.symm
     simpa using this
    have h4 := Nat.mul_le_mul_right (y * 2 ^ j) h1
    rw [Nat.mul_comm q] at h4
    omega
   ·have h4 := Nat.mul_le_mul_right (y * 2 ^ j) (h2 hr)
    rw [Nat.add_mul, Nat.one_mul, Nat.mul_comm q] at h4
    omega
 have hE : -(K : Int) ≤ e - f - ((i : Int) - (j : Int)) := by omega
 have v1 := nm_value (K := K) (by omega) h
 rw [vz_up hE, ← hL] at v1
 have m2 := vz_mul (K := K) (s := s) (t := false) (m := L) (n := y) (e := e - f - ((i : Int) - (j : Int))) (f := f) hE (by omega) (by omega)
 have e1 : e - f - ((i : Int) - (j : Int)) + f = (e - (i : Int)) + ((j : Nat) : Int) := by omega
 have e2 : e = (e - (i : Int)) + ((i : Nat) : Int) := by omega
 have v3 := vz_up (K := K) (s := s) (m := L * y) (e := e - (i : Int)) (by omega) j
 have v4 := vz_up (K := K) (s := s) (m := x) (e := e - (i : Int)) (by omega) i
 rw [hsf, e1, v3, Nat.mul_assoc] at m2
 rw [← e2] at v4
 rw [v1, m2, v4]
 constructor
 ·intro hu
  refine Int.mul_le_mul_of_nonneg_right ?_ (Int.le_of_lt pos_of_pow)
  cases hs : s
  ·rw [hu, hs] at hside; exact (vz_mono (hside.1 rfl)).1 rfl
  ·rw [hu, hs] at hside; exact (vz_mono (hside.2 rfl)).2 rfl
 ·intro hu
  refine Int.mul_le_mul_of_nonneg_right ?_ (Int.le_of_lt pos_of_pow)
  cases hs : s
  ·rw [hu, hs] at hside; exact (vz_mono (hside.2 rfl)).1 rfl
  ·rw [hu, hs] at hside; exact (vz_mono (hside.1 rfl)).2 rfl
section
variable {S : Sc} {a b c : Rw} {x y q r m : Iv} {p k : Int}
theorem quoO_ok {up : Bool} (hp : 1 ≤ p ∧ p ≤ 2000) (ha : a.may = true) (hb : b.may = true) (h : quoO S p up a b = .ok c) : c.may = true ∧
  (0 < b.v S.K → (up = false → c.v S.K * b.v S.K ≤ a.v S.K * ((2 ^ S.K : Nat) : Int)) ∧ (up = true → a.v S.K * ((2 ^ S.K : Nat) : Int) ≤ c.v S.K * b.v S.K)) ∧
  (b.v S.K < 0 → (up = false → a.v S.K * ((2 ^ S.K : Nat) : Int) ≤ c.v S.K * b.v S.K) ∧ (up = true → c.v S.K * b.v S.K ≤ a.v S.K * ((2 ^ S.K : Nat) : Int))) := by
 obtain ⟨s, m, e, hq, rfl⟩ := S.of_ok quotR_only quotR_some h
 unfold quotR at hq
 rw [if_pos ⟨hp, ha, hb⟩] at hq
 by_cases h0 : val W b.l = 0
 ·rw [if_pos h0] at hq
  exact absurd hq.1 (by decide)
 ·rw [if_neg h0] at hq
  have o1 := (mayD_of a.lt ha).2
  have o2 := (mayD_of b.lt hb).2
  have g1 := okd_ge S.big o1
  have g2 := okd_ge S.big o2
  refine ⟨Rw.of_may (nm_okd hq), ?_⟩
  obtain ⟨t, ht⟩ : ∃ t, t = b.s := ⟨_, rfl⟩
  have bv : b.v S.K = vz S.K t (val W b.l) b.e := by rw [ht]; rfl
  have av : a.v S.K = vz S.K a.s (val W a.l) a.e := rfl
  rw [← ht] at hq
  rw [Rw.of_v, bv, av]
  cases t
  ·have k := quot_val (K := S.K) S.big h0 (by omega) (okd_blen o1) (okd_blen o2) ⟨g1.1, g1.2.1⟩ ⟨g2.1, g2.2.1⟩ hq
   exact ⟨fun _ => k, fun hn => absurd hn (Int.not_lt.2 (Int.le_of_lt ((vz_pos h0).1 rfl)))⟩
  ·have hq2 : QuTold (!a.s) (val W a.l) a.e false (val W b.l) b.e p.toNat up 0 s m e := by
    have e1 : ((!a.s) != false) = (a.s != true) := by cases a.s <;> rfl
    unfold QuTold at hq ⊢
    rw [e1]
    exact hq
   have k := quot_val (K := S.K) S.big h0 (by omega) (okd_blen o1) (okd_blen o2) ⟨g1.1, g1.2.1⟩ ⟨g2.1, g2.2.1⟩ hq2
   have n1 : vz S.K true (val W b.l) b.e = - vz S.K false (val W b.l) b.e := vz_flip (s := false)
   refine ⟨fun hn => absurd hn (Int.not_lt.2 (Int.le_of_lt ((vz_pos h0).2 rfl))), fun _ => ?_⟩
   rw [n1, Int.mul_neg]
   rw [vz_flip, Int.neg_mul] at k
   refine ⟨fun hu => ?_, fun hu => ?_⟩
   ·have := Int.neg_le_neg (k.1 hu)
    rwa [Int.neg_neg] at this
   ·have := Int.neg_le_neg (k.2 hu)
    rwa [Int.neg_neg] at this
end
end Go.Proofs.YteagjlcmgiknmaaGreatDoor
namespace Go.Proofs.YteagjlcmgiknmaaGreatDoor

/-- a is z / 2^f -/
def At (S : Sc) (f : Nat) (z : Int) (a : Rw) : Prop := a.may = true ∧ a.v S.K * ((2 ^ f : Nat) : Int) = z * ((2 ^ S.K : Nat) : Int)
section
variable {S : Sc} {f g L : Nat} {x y z : Int} {a b c : Rw} {p : Int}
theorem two_pos (f : Nat) : (0 : Int) < ((2 ^ f : Nat) : Int) := Int.natCast_pos.2 (Nat.pow_pos (by decide))
theorem vz_at_neg {K : Nat} {s : Bool} {M : Nat} (hf : f ≤ K) : vz K s M (-(f : Int)) * ((2 ^ f : Nat) : Int) = sg s * (M : Int) * ((2 ^ K : Nat) : Int) := by
 unfold vz
 have e1 : (-(f : Int) + (K : Int)).toNat = K - f := by omega
 rw [e1, Int.mul_assoc, Int.mul_assoc, ← Int.natCast_mul, ← Int.natCast_mul, Nat.mul_assoc, ← Nat.pow_add, show K - f + f = K by omega]
theorem at_has (S : Sc) {f L : Nat} {z : Int} (hf : f ≤ 2000) (hL : L ≤ 1900) (hz : z.natAbs < 2 ^ L) : ∃ a, At S f z a ∧ blen (val Go.Proofs.YteagjlcmgiknmaaGreatDoor.W a.l) ≤ L := by
 have hK := S.big
 have hb : blen z.natAbs ≤ L := (blen_le _ _).2 hz
 obtain ⟨k, s', m', e', h⟩ := nm_total (decide (z < 0)) z.natAbs (-(f : Int))
 have hk := nm_good h (by omega) (by omega) (by omega)
 subst hk
 refine ⟨Rw.of s' m' e', ⟨Rw.of_may (nm_ok h), ?_⟩, ?_⟩
 ·rw [Rw.of_v, nm_value (by omega) h, vz_at_neg (by omega)]
  congr 1
  unfold sg
  by_cases h0 : z < 0
  ·rw [decide_eq_true h0]; simp; omega
  ·rw [decide_eq_false h0]; simp; omega
 ·have e1 : val Go.Proofs.YteagjlcmgiknmaaGreatDoor.W (Rw.of s' m' e').l = m' := val_dig W_two m'
  rw [e1]
  rcases nm_small_e h (by omega) with h2 | ⟨h2, _⟩
  ·exact Nat.le_trans h2.1 hb
  ·rw [h2, blen_zero]; exact Nat.zero_le _
theorem at_fun (h : At S f z a) (h' : At S f z b) : a = b := one_of_v S.big h.1 h'.1 (Int.eq_of_mul_eq_mul_right (Int.ne_of_gt (two_pos f)) (h.2.trans h'.2.symm))
theorem at_blen (h : At S f z a) (hf : f ≤ 2000) (hL : L ≤ 1900) (hz : z.natAbs < 2 ^ L) : blen (val Go.Proofs.YteagjlcmgiknmaaGreatDoor.W a.l) ≤ L := by
 obtain ⟨b, hb, h2⟩ := at_has S hf hL hz
 rw [at_fun h hb]
 exact h2
theorem at_up (h : At S f z a) (k : Nat) : At S (f + k) (z * ((2 ^ k : Nat) : Int)) a := ⟨h.1, by
 rw [Nat.pow_add, Int.natCast_mul, ← Int.mul_assoc, h.2, Int.mul_assoc, Int.mul_assoc, Int.mul_comm ((2 ^ k : Nat) : Int)]⟩
theorem at_of {m j : Nat} (h1 : m % 2 = 1) (h2 : m < 100) (hj : j ≤ 2000) : At S 0 ((m * 2 ^ j : Nat) : Int) (Rw.of false m (j : Int)) := ⟨Rw.of_may (okd_small h1 h2 (by omega) (by omega)), by rw [Rw.of_v, vz_2]; simp⟩
theorem at_add (ha : At S f x a) (hb : At S f y b) (hc : At S f (x + y) c) : addO S a b = .ok c := addO_is ha.1 hb.1 hc.1 (Int.eq_of_mul_eq_mul_right (Int.ne_of_gt (two_pos f)) (by rw [hc.2, Int.add_mul, Int.add_mul, ha.2, hb.2]))
theorem at_mul (ha : At S f x a) (hb : At S g y b) (hc : At S (f + g) (x * y) c) : mulO S a b = .ok c := by
 refine mulO_is ha.1 hb.1 hc.1 (Int.eq_of_mul_eq_mul_right (Int.ne_of_gt (two_pos (f + g))) ?_)
 have h3 := hc.2
 rw [Int.mul_right_comm, h3, Nat.pow_add, Int.natCast_mul]
 have e1 : a.v S.K * b.v S.K * (((2 ^ f : Nat) : Int) * ((2 ^ g : Nat) : Int)) = a.v S.K * ((2 ^ f : Nat) : Int) * (b.v S.K * ((2 ^ g : Nat) : Int)) := by
  rw [Int.mul_assoc, Int.mul_assoc, Int.mul_left_comm (b.v S.K)]
 rw [e1, ha.2, hb.2, Int.mul_assoc, Int.mul_assoc, Int.mul_assoc, Int.mul_left_comm y]
theorem out_pt (hp : 1 ≤ p ∧ p ≤ 2000) (hc : c.may = true) (hl : blen (val Go.Proofs.YteagjlcmgiknmaaGreatDoor.W c.l) ≤ p.toNat) : outO S c c p = .ok ⟨c, c⟩ := by
 unfold outO
 rw [rnd_fit hp hc hl]
 show thn (rndO S c p true) _ = _
 rw [rnd_fit hp hc hl]
 rfl
theorem face2_pt {o : Except Int Iv} (hp : 1 ≤ p ∧ p ≤ 2000) (ha : a.may = true) (hb : b.may = true) : face2 S ⟨a, a⟩ ⟨b, b⟩ p o = o := by
 unfold face2 prec
 rw [mayI_point ha, mayI_point hb, decide_eq_true hp.1, decide_eq_true hp.2]
 rfl
theorem sum_pt (hp : 1 ≤ p ∧ p ≤ 2000) (h : addO S a b = .ok c) (hc : c.may = true) (hl : blen (val Go.Proofs.YteagjlcmgiknmaaGreatDoor.W c.l) ≤ p.toNat) : sumO S ⟨a, a⟩ ⟨b, b⟩ p = .ok ⟨c, c⟩ := by
 unfold sumO
 show thn (addO S a b) _ = _
 rw [h]
 show thn (rndO S c p false) _ = _
 rw [rnd_fit hp hc hl]
 show thn (rndO S c p true) _ = _
 rw [rnd_fit hp hc hl]
 rfl
theorem mulF_pt (hp : 1 ≤ p ∧ p ≤ 2000) (ha : At S f x a) (hb : At S g y b) (hc : At S (f + g) (x * y) c) (hl : blen (val Go.Proofs.YteagjlcmgiknmaaGreatDoor.W c.l) ≤ p.toNat) : mulF S ⟨a, a⟩ ⟨b, b⟩ p = .ok ⟨c, c⟩ := by
 unfold mulF
 rw [face2_pt hp ha.1 hb.1]
 have h := at_mul ha hb hc
 have hcor : corO (mulO S) ⟨a, a⟩ ⟨b, b⟩ = .ok [c, c, c, c] := by
  unfold corO
  show thn (mulO S a b) (fun x => thn (mulO S a b) fun y => thn (mulO S a b) fun z => thn (mulO S a b) fun u => .ok [x, y, z, u]) = _
  rw [h]
  rfl
 have hl2 : ∀ z ∈ [c, c, c, c], z.may = true := fun z hz => by
  have : z = c := by simpa using hz
  rw [this]; exact hc.1
 have e1 : leaL S [c, c, c, c] = c := by simpa using (lea_of (S := S) (L := [c, c, c, c]) (List.cons_ne_nil _ _) hl2).1
 have e2 : greL S [c, c, c, c] = c := by simpa using (gre_of (S := S) (L := [c, c, c, c]) (List.cons_ne_nil _ _) hl2).1
 unfold mulI
 rw [hcor]
 show outO S (leaL S [c, c, c, c]) (greL S [c, c, c, c]) p = _
 rw [e1, e2]
 exact out_pt hp hc.1 hl
end
end Go.Proofs.YteagjlcmgiknmaaGreatDoor
namespace Go.Proofs.YteagjlcmgiknmaaGreatDoor
open Go.RowKit

theorem ZRow.lower {w : World} {b0 base : Nat} {v : Value} {zs : List Int} (h : ZRow w base v zs) (hb : b0 ≤ base) : ZRow w b0 v zs := by
 obtain ⟨⟨h1, h2⟩, h3⟩ := h
 refine ⟨⟨h1, ?_⟩, h3⟩
 rcases h2 with h2 | ⟨g, cap, cur, hv, hb2, h5⟩
 ·exact .inl h2
 ·exact .inr ⟨g, cap, cur, hv, Nat.le_trans hb hb2, h5⟩
/-- what is known between two rounds: which states are named, two rows of the call's own -/
structure AskW (w w1 : World) (x : Nat) (N : Nat → Bool) (v4 v5 : Value) (s k : List Int) : Prop where
 below : Below w.heap.size w w1
 named : Blk w1 w.heap.size (tls x N) 4
 st : ZRow w1 (w.heap.size + 1) v4 s
 lk : ZRow w1 (w.heap.size + 1) v5 k
 far : ∀ q, v4.ownBlock = some q → v5.ownBlock ≠ some q
section
variable {w w1 w2 : World} {x : Nat} {N : Nat → Bool} {v4 v5 v' : Value} {s k : List Int} {z : Int}
theorem AskW.big (h : AskW w w1 x N v4 v5 s k) : w.heap.size + 1 ≤ w1.heap.size := h.named.gl
theorem AskW.alloc (h : AskW w w1 x N v4 v5 s k) (o : Obj) : AskW w (w1.alloc o) x N v4 v5 s k :=
 have b := below_alloc w1 o
 ⟨below_next h.below h.below.size b rfl rfl rfl rfl, h.named.next b rfl, h.st.next b rfl, h.lk.next b rfl, h.far⟩
end

end Go.Proofs.YteagjlcmgiknmaaGreatDoor
namespace Go.Proofs.YteagjlcmgiknmaaGreatDoor
open Go.RowKit

def q6 : Rw := Rw.of false 3 1
end Go.Proofs.YteagjlcmgiknmaaGreatDoor
