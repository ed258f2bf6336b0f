/-
  Contract of tube's own: a tube's numbers and intervals copied into memory of its own, at this translation. Condition: the slices read as limbs, the table of math/bits reads as its text lays it.
-/
import Derived.StillTailTactics
import Derived.Deep.CutBlock
import Derived.Test.YtkpcmgfpmekkjaaDoorQUe
import Derived.Test.YtkpcmgfpmekkjaaDoorQHc
namespace Go.Proofs.YtkpcmgfpmekkjaaDoor
open Go.RowKit


section
variable {w w2 : World} {base : Nat} {v : Value}
theorem HRow.via {L : List Rw} (h : HRow w base v L) (hk : ∀ q, v.ownBlock = some q → w2.heap[q]? = w.heap[q]?) (hr : ∀ A n c l, Rd w .u64 Go.Proofs.YtkpcmgfpmekkjaaDoor.W A n c l → Rd w2 .u64 Go.Proofs.YtkpcmgfpmekkjaaDoor.W A n c l) : HRow w2 base v L := by
  obtain ⟨xs, h1, h2⟩ := h
  refine ⟨xs, h1.same hk, fun i hi => ?_⟩
  obtain ⟨A, n, c, g0, g1, g2, r⟩ := h2 i hi
  exact ⟨A, n, c, g0, g1, g2, hr _ _ _ _ r⟩
theorem IRow.via {L : List Iv} (h : IRow w base v L) (hk : ∀ q, v.ownBlock = some q → w2.heap[q]? = w.heap[q]?) (hr : ∀ A n c l, Rd w .u64 Go.Proofs.YtkpcmgfpmekkjaaDoor.W A n c l → Rd w2 .u64 Go.Proofs.YtkpcmgfpmekkjaaDoor.W A n c l) : IRow w2 base v L := by
  obtain ⟨xs, h1, h2⟩ := h
  exact ⟨xs, h1.same hk, h2.mv hr⟩
theorem HRow.kind {L : List Rw} (h : HRow w base v L) : ∀ k, v.ownBlock = some k → ∃ cs, w.heap[k]? = some (.cells cs 28 (0, 0)) := by
  intro k hk
  obtain ⟨xs, ⟨⟨_, h1⟩, _⟩, _⟩ := h
  rcases h1 with ⟨rfl, _⟩ | ⟨g, cap, cur, rfl, _, hg, _⟩
  · cases hk
  · injection hk with hk
    subst hk
    exact ⟨cur, hg⟩
theorem Blk.oth {g g' : Nat} {cs : Array Value} {T : TypeId} (h : Blk w g cs T) (hne : g ≠ g') (i : Nat) (u : Value) : Blk (w.setCell ⟨g', i, none⟩ u) g cs T := ⟨(Below.heap_setCell _ _ u g hne).trans h.blk⟩
theorem HRow.no {L : List Rw} (h : HRow w base v L) : ∀ k, v.ownBlock = some k → ∀ i x : Nat, w.cell? ⟨k, i, none⟩ ≠ some (.int .u64 (x : Int)) := by
  obtain ⟨xs, h1, _⟩ := h
  exact h1.2
end
/-- a tube of the call's own, in a box -/
structure TubS (w0 w : World) (g3 : Nat) (vT vV : Value) (LT : List Rw) (LV : List Iv) : Prop where
  below : Below w0.heap.size w0 w
  lo : w0.heap.size ≤ g3
  box : Blk w g3 #[vT, vV] 25
  t : HRow w w0.heap.size vT LT
  v : IRow w w0.heap.size vV LV
section
variable {w0 w : World} {g3 g i : Nat} {vT vV : Value} {LT : List Rw} {LV : List Iv}
theorem TubS.go (h : TubS w0 w g3 vT vV LT LV) {w2 : World} (b : Below w.heap.size w w2) : TubS w0 w2 g3 vT vV LT LV := ⟨below_next h.below h.below.size b rfl rfl rfl rfl, h.lo, mv b rfl h.box, mv b rfl h.t, mv b rfl h.v⟩
theorem kinds_ne {T T' : TypeId} {cs cs' : Array Value} {k k' : Nat} (h : w.heap[k]? = some (.cells cs T (0, 0))) (h' : w.heap[k']? = some (.cells cs' T' (0, 0))) (hne : T ≠ T') : k ≠ k' := fun e => by
  subst e
  rw [h] at h'
  injection h' with h'
  injection h' with _ h'
  exact hne h'
theorem TubS.setT (h : TubS w0 w g3 vT vV LT LV) (hv : vT.ownBlock = some g) (hi : i < LT.length) {x : Rw} {A : Option Addr} {n c : Nat} (r1 : Rd w .u64 Go.Proofs.YtkpcmgfpmekkjaaDoor.W A n c x.l) :
    TubS w0 (((w.setCell ⟨g, i * 3, none⟩ (.bool x.s)).setCell ⟨g, i * 3 + 1, none⟩ (.slice A n c)).setCell ⟨g, i * 3 + 2, none⟩ (.int .i64 x.e)) g3 vT vV (LT.set i x) LV := by
  obtain ⟨cs, hk⟩ := h.t.kind g hv
  have h3 : g3 ≠ g := kinds_ne h.box.blk hk (by decide)
  have no := h.t.no g hv
  refine ⟨below_at3 h.below (h.t.lt g hv).1 _ _ _, h.lo, ((h.box.oth h3 _ _).oth h3 _ _).oth h3 _ _, h.t.setAt hv hi r1, h.v.via (fun q hq => ?_) fun A n c l hr => ((hr.set1 (hr.off no) _ _).set1 (hr.off no) _ _).set1 (hr.off no) _ _⟩
  obtain ⟨cs', hk'⟩ := h.v.kind q hq
  have hne : q ≠ g := kinds_ne hk' hk (by decide)
  exact (Below.heap_setCell _ _ _ q hne).trans ((Below.heap_setCell _ _ _ q hne).trans (Below.heap_setCell _ _ _ q hne))
theorem TubS.setV (h : TubS w0 w g3 vT vV LT LV) (hv : vV.ownBlock = some g) (hi : i < LV.length) {x : Iv} {A : Option Addr} {n c : Nat} {B : Option Addr} {m d : Nat} (r1 : Rd w .u64 Go.Proofs.YtkpcmgfpmekkjaaDoor.W A n c x.lo.l) (r2 : Rd w .u64 Go.Proofs.YtkpcmgfpmekkjaaDoor.W B m d x.hi.l) :
    TubS w0 ((((((w.setCell ⟨g, i * 6, none⟩ (.bool x.lo.s)).setCell ⟨g, i * 6 + 1, none⟩ (.slice A n c)).setCell ⟨g, i * 6 + 2, none⟩ (.int .i64 x.lo.e)).setCell ⟨g, i * 6 + 3, none⟩ (.bool x.hi.s)).setCell ⟨g, i * 6 + 4, none⟩ (.slice B m d)).setCell ⟨g, i * 6 + 5, none⟩ (.int .i64 x.hi.e)) g3 vT vV LT (LV.set i x) := by
  obtain ⟨cs, hk⟩ := h.v.kind g hv
  have h3 : g3 ≠ g := kinds_ne h.box.blk hk (by decide)
  have no := h.v.no g hv
  refine ⟨below_at6 h.below (h.v.lt g hv).1 _ _ _ _ _ _, h.lo, (((((h.box.oth h3 _ _).oth h3 _ _).oth h3 _ _).oth h3 _ _).oth h3 _ _).oth h3 _ _, h.t.via (fun q hq => ?_) (fun A n c l hr => (((((hr.set1 (hr.off no) _ _).set1 (hr.off no) _ _).set1 (hr.off no) _ _).set1 (hr.off no) _ _).set1 (hr.off no) _ _).set1 (hr.off no) _ _), h.v.setAt hv hi r1 r2⟩
  obtain ⟨cs', hk'⟩ := h.t.kind q hq
  have hne : q ≠ g := kinds_ne hk' hk (by decide)
  exact (Below.heap_setCell _ _ _ q hne).trans ((Below.heap_setCell _ _ _ q hne).trans ((Below.heap_setCell _ _ _ q hne).trans ((Below.heap_setCell _ _ _ q hne).trans ((Below.heap_setCell _ _ _ q hne).trans (Below.heap_setCell _ _ _ q hne)))))
end
section
variable {w : World} {g : Nat} {u v : Value} {T : TypeId}
theorem Blk.put2 (h : Blk w g #[u, v] T) (u' v' : Value) : Blk ((w.setCell ⟨g, 0, none⟩ u').setCell ⟨g, 1, none⟩ v') g #[u', v'] T := by
  have := h.blk
  refine ⟨?_⟩
  simp [World.setCell, Array.getElem?_modify, this]
theorem below_put2 {b0 : Nat} {w0 : World} (h : Below b0 w0 w) (hg : b0 ≤ g) (u' v' : Value) : Below b0 w0 ((w.setCell ⟨g, 0, none⟩ u').setCell ⟨g, 1, none⟩ v') := (h.setCell hg u').setCell hg v'
theorem Blk.nou (h : Blk w g #[u, v] T) (hu : NoL u) (hv : NoL v) (i x : Nat) : w.cell? ⟨g, i, none⟩ ≠ some (.int .u64 (x : Int)) := fun hc => by
  rw [cell_of_row w g i _ T (0, 0) h.blk] at hc
  match i, hc with
  | 0, hc => have hc : some u = _ := hc; injection hc with hc; exact hu x hc
  | 1, hc => have hc : some v = _ := hc; injection hc with hc; exact hv x hc
  | i + 2, hc => simp at hc
end
set_option maxRecDepth 100000 in
theorem makeHr_run (w : World) {n : Nat} (hn : n ≤ 1000000) : ∃ w', (Instr.makeSlice 22 (.int .i64 (n : Int)) (.int .i64 (n : Int))).run Tryd.prog w = .ok (.slice (some ⟨w.heap.size, 0, none⟩) n n) w' ∧ HRow w' w.heap.size (.slice (some ⟨w.heap.size, 0, none⟩) n n) (List.replicate n Rw.zero) ∧ w.grownBy w' none := by
  obtain ⟨i0, hi, hz0, hz1, hz2⟩ := info_partsD infoHr
  obtain ⟨w', hrun, h1, h2⟩ := run_make_full (P := Tryd.prog) w w.heap.size 22 28 i0 (.agg zeroHr) 3 Tryd.underlying22 hi hz0 hz1 .i64 .i64 n (by rw [hz2]; omega) (by unfold maxLen; omega) (Nat.le_refl _)
  refine ⟨w', hrun, ?_, h2⟩
  have h3 : w'.ownsRow w.heap.size 28 3 (.slice (some ⟨w.heap.size, 0, none⟩) n n) n (madeCells zeroHr (n * 3)).toList := h1
  have h4 := made_rown (by intro u hu; simp [zeroHr] at hu; rcases hu with rfl | rfl | rfl <;> exact fun _ h => by cases h) (by decide) h3
  have hat : ∀ i k, i < n → k < 3 → (madeCells zeroHr (n * 3)).toList[i * 3 + k]? = some zeroHr[k]! := fun i k hi hk => by
    rw [made_at (by omega), show (i * 3 + k) % zeroHr.size = k by show (i * 3 + k) % 3 = k; omega]
  refine ⟨_, by rw [List.length_replicate]; exact h4, fun i hi => ?_⟩
  rw [List.length_replicate] at hi
  have e1 : (List.replicate n Rw.zero).getD i Rw.zero = Rw.zero := by simp [List.getD_eq_getElem?_getD, hi]
  rw [e1]
  exact ⟨none, 0, 0, hat i 0 hi (by decide), hat i 1 hi (by decide), hat i 2 hi (by decide), rd_nil0 w'⟩

set_option maxRecDepth 100000 in
theorem makeI_run (w : World) {n : Nat} (hn : n ≤ 1000000) : ∃ w', (Instr.makeSlice 23 (.int .i64 (n : Int)) (.int .i64 (n : Int))).run Tryd.prog w = .ok (.slice (some ⟨w.heap.size, 0, none⟩) n n) w' ∧ IRow w' w.heap.size (.slice (some ⟨w.heap.size, 0, none⟩) n n) (List.replicate n Iv.zero) ∧ w.grownBy w' none := by
  obtain ⟨i0, hi, hz0, hz1, hz2⟩ := info_partsD infoIv
  obtain ⟨w', hrun, h1, h2⟩ := run_make_full (P := Tryd.prog) w w.heap.size 23 35 i0 (.agg zeroC) 6 Tryd.underlying23 hi hz0 hz1 .i64 .i64 n (by rw [hz2]; omega) (by unfold maxLen; omega) (Nat.le_refl _)
  refine ⟨w', hrun, ?_, h2⟩
  have h3 : w'.ownsRow w.heap.size 35 6 (.slice (some ⟨w.heap.size, 0, none⟩) n n) n (madeCells zeroC (n * 6)).toList := h1
  have h4 := made_rown (by intro u hu; simp [zeroC] at hu; rcases hu with rfl | rfl | rfl | rfl | rfl | rfl <;> exact fun _ h => by cases h) (by decide) h3
  have hat : ∀ i k, i < n → k < 6 → (madeCells zeroC (n * 6)).toList[i * 6 + k]? = some zeroC[k]! := fun i k hi hk => by
    rw [made_at (by omega), show (i * 6 + k) % zeroC.size = k by show (i * 6 + k) % 6 = k; omega]
  refine ⟨_, by rw [List.length_replicate]; exact h4, celi_of (by rw [List.length_replicate]; exact h4.1.1) fun i hi => ?_⟩
  rw [List.length_replicate] at hi
  have e1 : (List.replicate n Iv.zero).getD i Iv.zero = Iv.zero := by simp [List.getD_eq_getElem?_getD, hi]
  rw [e1]
  exact ⟨none, 0, 0, none, 0, 0, hat i 0 hi (by decide), hat i 1 hi (by decide), hat i 2 hi (by decide), hat i 3 hi (by decide), hat i 4 hi (by decide), hat i 5 hi (by decide), rd_nil0 w', rd_nil0 w'⟩

/-- how own ends: the same tube, in memory of its own -/
def OwnEnd (a : Tb) (w : World) (en : Ending) (w' : World) : Prop := ∃ gT gV, en = .returned (.agg #[.slice (some ⟨gT, 0, none⟩) a.m a.m, .slice (some ⟨gV, 0, none⟩) a.n a.n]) ∧ HRow w' w.heap.size (.slice (some ⟨gT, 0, none⟩) a.m a.m) (filX Rw.zero a.T a.m a.m) ∧ IRow w' w.heap.size (.slice (some ⟨gV, 0, none⟩) a.n a.n) (filX Iv.zero a.V a.n a.n) ∧ Below w.heap.size w w'
theorem len_may {w : World} {x : Rw} {A : Option Addr} {n c : Nat} (h : Rd w .u64 Go.Proofs.YtkpcmgfpmekkjaaDoor.W A n c x.l) (hm : x.may = true) : n ≤ 10000000000000 := len_at h (may_small hm)

set_option maxRecDepth 100000 in
set_option maxHeartbeats 8000000 in
theorem town2_any {w : World} {a : Tb} {Ta Va : Option Addr} {ca da : Nat} (ha : RdTb w Ta ca Va da a) (hm : a.m ≤ 1000) (hn : a.n ≤ 1000) (hmT : ∀ i, i < a.m → (a.T i).may = true) (hmV : ∀ i, i < a.n → Ends (a.V i)) :
    Calls Tryd.prog 37 #[.agg #[.slice Ta a.m ca, .slice Va a.n da]] w (OwnEnd a w) := by
  have hm9 := ha.at_.cap
  have hn9 := ha.v.cap
  have hm8 := ha.at_.max
  have hn8 := ha.v.max
  have HMT := Lib.hid hmT
  have HMV := Lib.hid hmV
  clear hmT hmV
  have BB := Below.refl w.heap.size w
  have b := below_alloc w (.cells #[.slice Ta a.m ca, .slice Va a.n da] 25)
  have xt := Blk.new w #[.slice Ta a.m ca, .slice Va a.n da] 25
  replace BB := bnx BB b rfl rfl rfl rfl
  replace ha := mv b rfl ha
  clear b
  have b := below_alloc (w.alloc (.cells #[.slice Ta a.m ca, .slice Va a.n da] 25)) (.cells #[.slice none 0 0, .slice none 0 0] 25)
  have xr := Blk.new (w.alloc (.cells #[.slice Ta a.m ca, .slice Va a.n da] 25)) #[.slice none 0 0, .slice none 0 0] 25
  rw [show (w.alloc (.cells #[.slice Ta a.m ca, .slice Va a.n da] 25)).heap.size = w.heap.size + 1 by simp] at xr
  replace BB := bnx BB b rfl rfl rfl rfl
  have G := mv b rfl <| And.intro ha <| xt
  clear ha xt
  obtain ⟨ha, xt⟩ := G
  clear b
  have t0 : World.cell? _ ⟨_, 0, none⟩ = some (.slice Ta a.m ca) := xt.at 0
  have t1 : World.cell? _ ⟨_, 1, none⟩ = some (.slice Va a.n da) := xt.at 1
  clear xt
  go_enter Tryd.func37, Tryd.ntmps37
  go_upto_region 1 with fail
  generalize ((w.alloc (.cells #[.slice Ta a.m ca, .slice Va a.n da] 25)).alloc (.cells #[.slice none 0 0, .slice none 0 0] 25)) = W1 at *
  go_cut [3] (fun v3 wc => ∃ (g3 gT gV : Nat), v3 = .pointer (some ⟨g3, 0, none⟩) ∧ TubS W1 wc g3 (.slice (some ⟨gT, 0, none⟩) a.m a.m) (.slice (some ⟨gV, 0, none⟩) a.n a.n) (filX Rw.zero a.T a.m 0) (filX Iv.zero a.V a.n 0))
  case first =>
    rename_i j9 k9 ja kb
    rename_i zz0
    try clear zz0
    rename_i zz1
    try clear zz1
    have bd : Below W1.heap.size W1 (World.drew W1) := below_drewN (Below.refl _ _) 1
    have G := mv bd (by rfl) <| And.intro t0 <| t1
    clear t0 t1
    obtain ⟨t0, t1⟩ := G
    refine wp_region_held_drew (S := fun w' => w'.cell? ⟨w.heap.size, 0, none⟩ = some (.slice Ta a.m ca) ∧ w'.cell? ⟨w.heap.size, 1, none⟩ = some (.slice Va a.n da)) (by kernel_rfl) (by exact ⟨t0, t1⟩) (fun hHeldv0 => ?_)
    generalize World.drew W1 = wd at *
    have BD := Below.refl wd.heap.size wd
    refine tk 0 8 ?_
    simp only [Act.put, List.setIfInBounds_toArray, List.set_cons_zero, List.set_cons_succ]
    refine tk 1 9 ?_
    simp only [Act.put, List.setIfInBounds_toArray, List.set_cons_zero, List.set_cons_succ]
    refine tk 2 10 ?_
    simp only [Act.put, List.setIfInBounds_toArray, List.set_cons_zero, List.set_cons_succ]
    refine tk 4 12 ?_
    simp only [Act.put, List.setIfInBounds_toArray, List.set_cons_zero, List.set_cons_succ]
    refine tk 5 13 ?_
    simp only [Act.put, List.setIfInBounds_toArray, List.set_cons_zero, List.set_cons_succ]
    refine tk 6 14 ?_
    simp only [Act.put, List.setIfInBounds_toArray, List.set_cons_zero, List.set_cons_succ]
    refine wpAnyH_ready (rs := [3, 7, 9]) (by kernel_rfl) (by simp) ?_
    refine AllReadyH.cons (o := _) rfl (fun K hK => ?_) (AllReadyH.cons (o := _) rfl (fun K hK => ?_) (AllReadyH.cons (o := _) rfl (fun K hK => ?_) (AllReadyH.nil)))
    go_simp
    obtain ⟨ub, hr', hH, hg9⟩ := makeHr_run wd (n := a.m) (by omega)
    rw [hr']
    go_simp
    have b := (Below.refl wd.heap.size wd).grown hg9 (Nat.le_refl _) (fun _ e => by cases e)
    replace hH := hH.lower (b0 := W1.heap.size) (by have := BD.size; have := bd.size; omega)
    replace BD := below_next BD BD.size b rfl rfl rfl rfl
    clear b hg9 hr'
    generalize hgq : wd.heap.size = gT at hH ⊢
    clear hgq
    refine hK.out _ _ (by exact ⟨mv BD rfl t0, mv BD rfl t1⟩) (fun hHeldv1 => ?_)
    clear hK K hHeldv0
    try simp only [Act.put]
    refine wpAnyH_ready (rs := [7, 9]) (by kernel_rfl) (by simp) ?_
    refine AllReadyH.cons (o := _) rfl (fun K hK => ?_) (AllReadyH.cons (o := _) rfl (fun K hK => ?_) (AllReadyH.nil))
    go_simp
    obtain ⟨uc, hr', hI, hg9⟩ := makeI_run ub (n := a.n) (by omega)
    rw [hr']
    go_simp
    have b := (Below.refl ub.heap.size ub).grown hg9 (Nat.le_refl _) (fun _ e => by cases e)
    replace hI := hI.lower (b0 := W1.heap.size) (by have := BD.size; have := bd.size; omega)
    replace BD := below_next BD BD.size b rfl rfl rfl rfl
    replace hH := mv b (by rfl) hH
    clear b hg9 hr'
    generalize hgq : ub.heap.size = gV at hI ⊢
    clear hgq
    refine hK.out _ _ (by exact ⟨mv BD rfl t0, mv BD rfl t1⟩) (fun hHeldv2 => ?_)
    clear hK K hHeldv1
    try simp only [Act.put]
    refine tk 8 16 ?_
    simp only [Act.put, List.setIfInBounds_toArray, List.set_cons_zero, List.set_cons_succ]
    refine wpAnyH_ready (rs := [9]) (by kernel_rfl) (by simp) ?_
    refine AllReadyH.cons (o := _) rfl (fun K hK => ?_) (AllReadyH.nil)
    go_simp
    have hgs : wd.heap.size ≤ uc.heap.size := BD.size
    have b := below_alloc uc (.cells #[.slice none 0 0, .slice none 0 0] 25)
    have xz := Blk.new uc #[.slice none 0 0, .slice none 0 0] 25
    replace BD := below_next BD BD.size b rfl rfl rfl rfl
    have G := mv b (by rfl) <| And.intro hH <| hI
    clear hH hI
    obtain ⟨hH, hI⟩ := G
    clear b
    generalize uc.alloc (.cells #[.slice none 0 0, .slice none 0 0] 25) = ud at *
    generalize hgq : uc.heap.size = gz at xz ⊢
    have hgz2 : wd.heap.size ≤ gz := by omega
    have hgz : W1.heap.size ≤ gz := by have := bd.size; omega
    clear hgq hgs
    refine hK.out _ _ (by exact ⟨mv BD rfl t0, mv BD rfl t1⟩) (fun hHeldv3 => ?_)
    clear hK K hHeldv2
    try simp only [Act.put]
    rotate_left
    go_simp
    have hgs : wd.heap.size ≤ ub.heap.size := BD.size
    have b := below_alloc ub (.cells #[.slice none 0 0, .slice none 0 0] 25)
    have xz := Blk.new ub #[.slice none 0 0, .slice none 0 0] 25
    replace BD := below_next BD BD.size b rfl rfl rfl rfl
    replace hH := mv b (by rfl) hH
    clear b
    generalize ub.alloc (.cells #[.slice none 0 0, .slice none 0 0] 25) = uc at *
    generalize hgq : ub.heap.size = gz at xz ⊢
    have hgz2 : wd.heap.size ≤ gz := by omega
    have hgz : W1.heap.size ≤ gz := by have := bd.size; omega
    clear hgq hgs
    refine hK.out _ _ (by exact ⟨mv BD rfl t0, mv BD rfl t1⟩) (fun hHeldv2 => ?_)
    clear hK K hHeldv1
    try simp only [Act.put]
    refine wpAnyH_ready (rs := [7]) (by kernel_rfl) (by simp) ?_
    refine AllReadyH.cons (o := _) rfl (fun K hK => ?_) (AllReadyH.nil)
    go_simp
    obtain ⟨ud, hr', hI, hg9⟩ := makeI_run uc (n := a.n) (by omega)
    rw [hr']
    go_simp
    have b := (Below.refl uc.heap.size uc).grown hg9 (Nat.le_refl _) (fun _ e => by cases e)
    replace hI := hI.lower (b0 := W1.heap.size) (by have := BD.size; have := bd.size; omega)
    replace BD := below_next BD BD.size b rfl rfl rfl rfl
    have G := mv b (by rfl) <| And.intro hH <| xz
    clear hH xz
    obtain ⟨hH, xz⟩ := G
    clear b hg9 hr'
    generalize hgq : uc.heap.size = gV at hI ⊢
    clear hgq
    refine hK.out _ _ (by exact ⟨mv BD rfl t0, mv BD rfl t1⟩) (fun hHeldv3 => ?_)
    clear hK K hHeldv2
    try simp only [Act.put]
    refine tk 8 16 ?_
    simp only [Act.put, List.setIfInBounds_toArray, List.set_cons_zero, List.set_cons_succ]
    rotate_left
    go_simp
    obtain ⟨ub, hr', hI, hg9⟩ := makeI_run wd (n := a.n) (by omega)
    rw [hr']
    go_simp
    have b := (Below.refl wd.heap.size wd).grown hg9 (Nat.le_refl _) (fun _ e => by cases e)
    replace hI := hI.lower (b0 := W1.heap.size) (by have := BD.size; have := bd.size; omega)
    replace BD := below_next BD BD.size b rfl rfl rfl rfl
    clear b hg9 hr'
    generalize hgq : wd.heap.size = gV at hI ⊢
    clear hgq
    refine hK.out _ _ (by exact ⟨mv BD rfl t0, mv BD rfl t1⟩) (fun hHeldv1 => ?_)
    clear hK K hHeldv0
    try simp only [Act.put]
    refine wpAnyH_ready (rs := [3, 9]) (by kernel_rfl) (by simp) ?_
    refine AllReadyH.cons (o := _) rfl (fun K hK => ?_) (AllReadyH.cons (o := _) rfl (fun K hK => ?_) (AllReadyH.nil))
    go_simp
    obtain ⟨uc, hr', hH, hg9⟩ := makeHr_run ub (n := a.m) (by omega)
    rw [hr']
    go_simp
    have b := (Below.refl ub.heap.size ub).grown hg9 (Nat.le_refl _) (fun _ e => by cases e)
    replace hH := hH.lower (b0 := W1.heap.size) (by have := BD.size; have := bd.size; omega)
    replace BD := below_next BD BD.size b rfl rfl rfl rfl
    replace hI := mv b (by rfl) hI
    clear b hg9 hr'
    generalize hgq : ub.heap.size = gT at hH ⊢
    clear hgq
    refine hK.out _ _ (by exact ⟨mv BD rfl t0, mv BD rfl t1⟩) (fun hHeldv2 => ?_)
    clear hK K hHeldv1
    try simp only [Act.put]
    refine tk 8 16 ?_
    simp only [Act.put, List.setIfInBounds_toArray, List.set_cons_zero, List.set_cons_succ]
    refine wpAnyH_ready (rs := [9]) (by kernel_rfl) (by simp) ?_
    refine AllReadyH.cons (o := _) rfl (fun K hK => ?_) (AllReadyH.nil)
    go_simp
    have hgs : wd.heap.size ≤ uc.heap.size := BD.size
    have b := below_alloc uc (.cells #[.slice none 0 0, .slice none 0 0] 25)
    have xz := Blk.new uc #[.slice none 0 0, .slice none 0 0] 25
    replace BD := below_next BD BD.size b rfl rfl rfl rfl
    have G := mv b (by rfl) <| And.intro hH <| hI
    clear hH hI
    obtain ⟨hH, hI⟩ := G
    clear b
    generalize uc.alloc (.cells #[.slice none 0 0, .slice none 0 0] 25) = ud at *
    generalize hgq : uc.heap.size = gz at xz ⊢
    have hgz2 : wd.heap.size ≤ gz := by omega
    have hgz : W1.heap.size ≤ gz := by have := bd.size; omega
    clear hgq hgs
    refine hK.out _ _ (by exact ⟨mv BD rfl t0, mv BD rfl t1⟩) (fun hHeldv3 => ?_)
    clear hK K hHeldv2
    try simp only [Act.put]
    rotate_left
    go_simp
    have hgs : wd.heap.size ≤ ub.heap.size := BD.size
    have b := below_alloc ub (.cells #[.slice none 0 0, .slice none 0 0] 25)
    have xz := Blk.new ub #[.slice none 0 0, .slice none 0 0] 25
    replace BD := below_next BD BD.size b rfl rfl rfl rfl
    replace hI := mv b (by rfl) hI
    clear b
    generalize ub.alloc (.cells #[.slice none 0 0, .slice none 0 0] 25) = uc at *
    generalize hgq : ub.heap.size = gz at xz ⊢
    have hgz2 : wd.heap.size ≤ gz := by omega
    have hgz : W1.heap.size ≤ gz := by have := bd.size; omega
    clear hgq hgs
    refine hK.out _ _ (by exact ⟨mv BD rfl t0, mv BD rfl t1⟩) (fun hHeldv2 => ?_)
    clear hK K hHeldv1
    try simp only [Act.put]
    refine wpAnyH_ready (rs := [3]) (by kernel_rfl) (by simp) ?_
    refine AllReadyH.cons (o := _) rfl (fun K hK => ?_) (AllReadyH.nil)
    go_simp
    obtain ⟨ud, hr', hH, hg9⟩ := makeHr_run uc (n := a.m) (by omega)
    rw [hr']
    go_simp
    have b := (Below.refl uc.heap.size uc).grown hg9 (Nat.le_refl _) (fun _ e => by cases e)
    replace hH := hH.lower (b0 := W1.heap.size) (by have := BD.size; have := bd.size; omega)
    replace BD := below_next BD BD.size b rfl rfl rfl rfl
    have G := mv b (by rfl) <| And.intro hI <| xz
    clear hI xz
    obtain ⟨hI, xz⟩ := G
    clear b hg9 hr'
    generalize hgq : uc.heap.size = gT at hH ⊢
    clear hgq
    refine hK.out _ _ (by exact ⟨mv BD rfl t0, mv BD rfl t1⟩) (fun hHeldv3 => ?_)
    clear hK K hHeldv2
    try simp only [Act.put]
    refine tk 8 16 ?_
    simp only [Act.put, List.setIfInBounds_toArray, List.set_cons_zero, List.set_cons_succ]
    rotate_left
    go_simp
    have hgs : wd.heap.size ≤ wd.heap.size := BD.size
    have b := below_alloc wd (.cells #[.slice none 0 0, .slice none 0 0] 25)
    have xz := Blk.new wd #[.slice none 0 0, .slice none 0 0] 25
    replace BD := below_next BD BD.size b rfl rfl rfl rfl
    clear b
    generalize wd.alloc (.cells #[.slice none 0 0, .slice none 0 0] 25) = ub at *
    generalize hgq : wd.heap.size = gz at xz ⊢
    have hgz2 : wd.heap.size ≤ gz := by omega
    have hgz : W1.heap.size ≤ gz := by have := bd.size; omega
    clear hgq hgs
    refine hK.out _ _ (by exact ⟨mv BD rfl t0, mv BD rfl t1⟩) (fun hHeldv1 => ?_)
    clear hK K hHeldv0
    try simp only [Act.put]
    refine wpAnyH_ready (rs := [3, 7]) (by kernel_rfl) (by simp) ?_
    refine AllReadyH.cons (o := _) rfl (fun K hK => ?_) (AllReadyH.cons (o := _) rfl (fun K hK => ?_) (AllReadyH.nil))
    go_simp
    obtain ⟨uc, hr', hH, hg9⟩ := makeHr_run ub (n := a.m) (by omega)
    rw [hr']
    go_simp
    have b := (Below.refl ub.heap.size ub).grown hg9 (Nat.le_refl _) (fun _ e => by cases e)
    replace hH := hH.lower (b0 := W1.heap.size) (by have := BD.size; have := bd.size; omega)
    replace BD := below_next BD BD.size b rfl rfl rfl rfl
    replace xz := mv b (by rfl) xz
    clear b hg9 hr'
    generalize hgq : ub.heap.size = gT at hH ⊢
    clear hgq
    refine hK.out _ _ (by exact ⟨mv BD rfl t0, mv BD rfl t1⟩) (fun hHeldv2 => ?_)
    clear hK K hHeldv1
    try simp only [Act.put]
    refine wpAnyH_ready (rs := [7]) (by kernel_rfl) (by simp) ?_
    refine AllReadyH.cons (o := _) rfl (fun K hK => ?_) (AllReadyH.nil)
    go_simp
    obtain ⟨ud, hr', hI, hg9⟩ := makeI_run uc (n := a.n) (by omega)
    rw [hr']
    go_simp
    have b := (Below.refl uc.heap.size uc).grown hg9 (Nat.le_refl _) (fun _ e => by cases e)
    replace hI := hI.lower (b0 := W1.heap.size) (by have := BD.size; have := bd.size; omega)
    replace BD := below_next BD BD.size b rfl rfl rfl rfl
    have G := mv b (by rfl) <| And.intro hH <| xz
    clear hH xz
    obtain ⟨hH, xz⟩ := G
    clear b hg9 hr'
    generalize hgq : uc.heap.size = gV at hI ⊢
    clear hgq
    refine hK.out _ _ (by exact ⟨mv BD rfl t0, mv BD rfl t1⟩) (fun hHeldv3 => ?_)
    clear hK K hHeldv2
    try simp only [Act.put]
    refine tk 8 16 ?_
    simp only [Act.put, List.setIfInBounds_toArray, List.set_cons_zero, List.set_cons_succ]
    rotate_left
    go_simp
    obtain ⟨uc, hr', hI, hg9⟩ := makeI_run ub (n := a.n) (by omega)
    rw [hr']
    go_simp
    have b := (Below.refl ub.heap.size ub).grown hg9 (Nat.le_refl _) (fun _ e => by cases e)
    replace hI := hI.lower (b0 := W1.heap.size) (by have := BD.size; have := bd.size; omega)
    replace BD := below_next BD BD.size b rfl rfl rfl rfl
    replace xz := mv b (by rfl) xz
    clear b hg9 hr'
    generalize hgq : ub.heap.size = gV at hI ⊢
    clear hgq
    refine hK.out _ _ (by exact ⟨mv BD rfl t0, mv BD rfl t1⟩) (fun hHeldv2 => ?_)
    clear hK K hHeldv1
    try simp only [Act.put]
    refine wpAnyH_ready (rs := [3]) (by kernel_rfl) (by simp) ?_
    refine AllReadyH.cons (o := _) rfl (fun K hK => ?_) (AllReadyH.nil)
    go_simp
    obtain ⟨ud, hr', hH, hg9⟩ := makeHr_run uc (n := a.m) (by omega)
    rw [hr']
    go_simp
    have b := (Below.refl uc.heap.size uc).grown hg9 (Nat.le_refl _) (fun _ e => by cases e)
    replace hH := hH.lower (b0 := W1.heap.size) (by have := BD.size; have := bd.size; omega)
    replace BD := below_next BD BD.size b rfl rfl rfl rfl
    have G := mv b (by rfl) <| And.intro hI <| xz
    clear hI xz
    obtain ⟨hI, xz⟩ := G
    clear b hg9 hr'
    generalize hgq : uc.heap.size = gT at hH ⊢
    clear hgq
    refine hK.out _ _ (by exact ⟨mv BD rfl t0, mv BD rfl t1⟩) (fun hHeldv3 => ?_)
    clear hK K hHeldv2
    try simp only [Act.put]
    refine tk 8 16 ?_
    simp only [Act.put, List.setIfInBounds_toArray, List.set_cons_zero, List.set_cons_succ]
    rotate_left
    all_goals (
      refine wpAnyH_ready (rs := [10]) (by kernel_rfl) (by simp) ?_
      refine AllReadyH.cons (o := _) rfl (fun K hK => ?_) (AllReadyH.nil)
      obtain ⟨f0, f1⟩ := (show _ ∧ _ from ⟨xz.frozen 0, xz.frozen 1⟩)
      have z0 : World.cell? _ ⟨gz, 0, none⟩ = some (.slice none 0 0) := xz.at 0
      have z1 : World.cell? _ ⟨gz, 1, none⟩ = some (.slice none 0 0) := xz.at 1
      go_simp
      have BW := below_next bd bd.size BD rfl rfl rfl rfl
      have hno := xz.nou nol_slice nol_slice
      have hH2 : HRow ((ud.setCell ⟨gz, 0, none⟩ (.slice (some ⟨gT, 0, none⟩) a.m a.m)).setCell ⟨gz, 1, none⟩ (.slice (some ⟨gV, 0, none⟩) a.n a.n)) W1.heap.size (.slice (some ⟨gT, 0, none⟩) a.m a.m) (filX Rw.zero a.T a.m 0) := by
        rw [filX_zero]
        refine hH.via (fun q hq => ?_) fun A n c l hr => (hr.set1 (hr.off hno) _ _).set1 (hr.off hno) _ _
        obtain ⟨cs, hk⟩ := hH.kind q hq
        have hne : q ≠ gz := kinds_ne hk xz.blk (by decide)
        exact (Below.heap_setCell _ _ _ q hne).trans (Below.heap_setCell _ _ _ q hne)
      have hI2 : IRow ((ud.setCell ⟨gz, 0, none⟩ (.slice (some ⟨gT, 0, none⟩) a.m a.m)).setCell ⟨gz, 1, none⟩ (.slice (some ⟨gV, 0, none⟩) a.n a.n)) W1.heap.size (.slice (some ⟨gV, 0, none⟩) a.n a.n) (filX Iv.zero a.V a.n 0) := by
        rw [filX_zero]
        refine hI.via (fun q hq => ?_) fun A n c l hr => (hr.set1 (hr.off hno) _ _).set1 (hr.off hno) _ _
        obtain ⟨cs, hk⟩ := hI.kind q hq
        have hne : q ≠ gz := kinds_ne hk xz.blk (by decide)
        exact (Below.heap_setCell _ _ _ q hne).trans (Below.heap_setCell _ _ _ q hne)
      have TS : TubS W1 ((ud.setCell ⟨gz, 0, none⟩ (.slice (some ⟨gT, 0, none⟩) a.m a.m)).setCell ⟨gz, 1, none⟩ (.slice (some ⟨gV, 0, none⟩) a.n a.n)) gz (.slice (some ⟨gT, 0, none⟩) a.m a.m) (.slice (some ⟨gV, 0, none⟩) a.n a.n) (filX Rw.zero a.T a.m 0) (filX Iv.zero a.V a.n 0) := ⟨below_put2 BW hgz _ _, hgz, xz.put2 _ _, hH2, hI2⟩
      clear BW
      replace BD := below_put2 (g := gz) BD hgz2 (.slice (some ⟨gT, 0, none⟩) a.m a.m) (.slice (some ⟨gV, 0, none⟩) a.n a.n)
      refine hK.out _ _ (by exact ⟨mv BD rfl t0, mv BD rfl t1⟩) (fun hHeldv4 => ?_)
      clear hK K hHeldv3
      try simp only [Act.put]
      refine wpAnyH_done (by kernel_rfl) ?_ _
      go_wp2
      go_meet
      case rel => exact ⟨gz, gT, gV, rfl, TS⟩)
  case rest =>
    obtain ⟨g3, gT, gV, rfl, TS⟩ := hcut
    have t0c := mv TS.below rfl t0
    go_wp2
    go_loopg [20] a.m (fun q v wr => ∃ i : Nat, i + q = a.m ∧ v = .int .i64 i ∧ TubS W1 wr g3 (.slice (some ⟨gT, 0, none⟩) a.m a.m) (.slice (some ⟨gV, 0, none⟩) a.n a.n) (filX Rw.zero a.T a.m i) (filX Iv.zero a.V a.n 0))
    case atStart => exact ⟨0, by omega, rfl, TS⟩
    case round =>
      clear TS
      obtain ⟨i, hg, rfl, TS⟩ := hrel
      have HG := Lib.hid hg
      clear hg
      by_cases hi : i < a.m
      · have hp2 : (i : Int) < a.m := by omega
        have hp3 : (0 : Int) ≤ i := by omega
        obtain ⟨g, off, hTa, hc⟩ := (mv TS.below rfl ha).at_.at_ (by omega)
        obtain ⟨A1, n1, c1, ⟨r0, r1, r2⟩, q1⟩ := hc i hi
        have hx1 := len_may q1 (HMT.out i hi)
        clear hc
        obtain ⟨x, hx⟩ : ∃ q, q = a.T i := ⟨_, rfl⟩
        rw [← hx] at r0 r2 q1
        have HX := Lib.hid hx
        clear hx
        subst hTa
        have hne9 : wr.heap.size ≠ gT := by have := (TS.t.lt gT rfl).2; omega
        go_upto_region 5 with fail
        have b := below_alloc wr (.cells #[.bool x.s, .slice A1 n1 c1, .int .i64 x.e] 28)
        have xb := Blk.new wr #[.bool x.s, .slice A1 n1 c1, .int .i64 x.e] 28
        replace TS := TS.go b
        replace q1 := mv b rfl q1
        clear b r0 r1 r2
        have z0 : World.cell? _ ⟨_, 0, none⟩ = some (.bool x.s) := xb.at 0
        have z1 : World.cell? _ ⟨_, 1, none⟩ = some (.slice A1 n1 c1) := xb.at 1
        have z2 : World.cell? _ ⟨_, 2, none⟩ = some (.int .i64 x.e) := xb.at 2
        clear xb
        generalize wr.alloc (.cells #[.bool x.s, .slice A1 n1 c1, .int .i64 x.e] 28) = W2 at *
        have b : Below W2.heap.size W2 (World.drew W2) := below_drewN (Below.refl _ _) 1
        replace TS := TS.go b
        have G := mv b rfl (J4 q1 z0 z1 z2)
        clear q1 z0 z1 z2
        obtain ⟨q1, z0, z1, z2⟩ := G
        clear b
        have b0 : World.cell? _ ⟨g3, 0, none⟩ = some (.slice (some ⟨gT, 0, none⟩) a.m a.m) := TS.box.at 0
        have b1 : World.cell? _ ⟨g3, 1, none⟩ = some (.slice (some ⟨gV, 0, none⟩) a.n a.n) := TS.box.at 1
        go_wp2_with fail
        refine wp_region_held_drew (S := fun w' => w'.cell? ⟨g3, 0, none⟩ = some (.slice (some ⟨gT, 0, none⟩) a.m a.m) ∧ w'.cell? ⟨g3, 1, none⟩ = some (.slice (some ⟨gV, 0, none⟩) a.n a.n) ∧ w'.cell? ⟨wr.heap.size, 0, none⟩ = some (.bool x.s) ∧ w'.cell? ⟨wr.heap.size, 1, none⟩ = some (.slice A1 n1 c1) ∧ w'.cell? ⟨wr.heap.size, 2, none⟩ = some (.int .i64 x.e)) (by kernel_rfl) (by exact ⟨b0, b1, z0, z1, z2⟩) (fun hHeldoT0 => ?_)
        generalize World.drew W2 = wd at *
        refine tk 0 25 ?_
        simp only [Act.put, List.setIfInBounds_toArray, List.set_cons_zero, List.set_cons_succ]
        refine tk 1 26 ?_
        simp only [Act.put, List.setIfInBounds_toArray, List.set_cons_zero, List.set_cons_succ]
        refine tk 2 27 ?_
        simp only [Act.put, List.setIfInBounds_toArray, List.set_cons_zero, List.set_cons_succ]
        refine tk 3 28 ?_
        simp only [Act.put, List.setIfInBounds_toArray, List.set_cons_zero, List.set_cons_succ]
        refine wpAnyH_ready (rs := [4]) (by kernel_rfl) (by simp) ?_
        refine AllReadyH.cons (o := _) rfl (fun K hK => ?_) AllReadyH.nil
        go_simp
        refine (townn_any q1 hx1).mono ?_
        rintro en w2 ⟨A5, n5, c5, rfl, h5, b⟩
        replace TS := TS.go b
        have G := mv b (by rfl) <| And.intro b0 <| And.intro b1 <| And.intro z0 <| And.intro z1 <| z2
        clear b0 b1 z0 z1 z2
        obtain ⟨b0, b1, z0, z1, z2⟩ := G
        clear b q1
        obtain ⟨⟨k0, k1, k2, e0, e1, e2⟩, f0, f1, f2⟩ := TS.t.open3 (g := gT) rfl (by rw [filX_len]; exact hi)
        refine hK.out _ _ (by exact ⟨b0, b1, z0, z1, z2⟩) (fun hHeldoT1 => ?_)
        clear hK K hHeldoT0
        try simp only [Act.put]
        refine tk 5 30 ?_
        simp only [Act.put, List.setIfInBounds_toArray, List.set_cons_zero, List.set_cons_succ]
        refine wpAnyH_ready (rs := [6]) (by kernel_rfl) (by simp) ?_
        refine AllReadyH.cons (o := _) rfl (fun K hK => ?_) AllReadyH.nil
        go_simp
        replace TS := TS.setT (g := gT) rfl (by rw [filX_len]; exact hi) h5
        replace b0 : World.cell? _ ⟨g3, 0, none⟩ = some (.slice (some ⟨gT, 0, none⟩) a.m a.m) := TS.box.at 0
        replace b1 : World.cell? _ ⟨g3, 1, none⟩ = some (.slice (some ⟨gV, 0, none⟩) a.n a.n) := TS.box.at 1
        replace z0 := cell_oth (cell_oth (cell_oth (z0) hne9 (i * 3) (.bool x.s)) hne9 (i * 3 + 1) (.slice A5 n5 c5)) hne9 (i * 3 + 2) (.int .i64 x.e)
        replace z1 := cell_oth (cell_oth (cell_oth (z1) hne9 (i * 3) (.bool x.s)) hne9 (i * 3 + 1) (.slice A5 n5 c5)) hne9 (i * 3 + 2) (.int .i64 x.e)
        replace z2 := cell_oth (cell_oth (cell_oth (z2) hne9 (i * 3) (.bool x.s)) hne9 (i * 3 + 1) (.slice A5 n5 c5)) hne9 (i * 3 + 2) (.int .i64 x.e)
        clear f0 f1 f2 e0 e1 e2
        refine hK.out _ _ (by exact ⟨b0, b1, z0, z1, z2⟩) (fun hHeldoT2 => ?_)
        clear hK K hHeldoT1
        try simp only [Act.put]
        refine wpAnyH_done (by kernel_rfl) ?_ _
        go_wp2
        go_roundg (gk - 1)
        case measure => have := HG.out; omega
        case rel => exact ⟨i + 1, by have := HG.out; omega, by go_num, by rw [← filX_next, ← HX.out]; exact TS⟩
      · have hin : i = a.m := by have := HG.out; omega
        rw [hin] at TS
        clear HG hin
        generalize wr = W5 at *
        generalize gk = gk1 at *
        have b0 : World.cell? _ ⟨g3, 0, none⟩ = some (.slice (some ⟨gT, 0, none⟩) a.m a.m) := TS.box.at 0
        have b1 : World.cell? _ ⟨g3, 1, none⟩ = some (.slice (some ⟨gV, 0, none⟩) a.n a.n) := TS.box.at 1
        have t1s := mv TS.below rfl t1
        go_wp2
        go_loopg [35] a.n (fun q v wr => ∃ i : Nat, i + q = a.n ∧ v = .int .i64 i ∧ TubS W1 wr g3 (.slice (some ⟨gT, 0, none⟩) a.m a.m) (.slice (some ⟨gV, 0, none⟩) a.n a.n) (filX Rw.zero a.T a.m a.m) (filX Iv.zero a.V a.n i))
        case atStart => exact ⟨0, by omega, rfl, TS⟩
        case round =>
          clear TS
          obtain ⟨i, hg, rfl, TS⟩ := hrel
          have HG := Lib.hid hg
          clear hg
          by_cases hi : i < a.n
          · have hp2 : (i : Int) < a.n := by omega
            have hp3 : (0 : Int) ≤ i := by omega
            obtain ⟨g, off, hVa, hc⟩ := (mv TS.below rfl ha).v.at_ (by omega)
            obtain ⟨A1, n1, c1, A2, n2, c2, ⟨r0, r1, r2, r3, r4, r5⟩, q1, q2⟩ := hc i hi
            have hx1 := len_may q1 (HMV.out i hi).1
            have hx2 := len_may q2 (HMV.out i hi).2
            clear hc
            obtain ⟨x, hx⟩ : ∃ q, q = a.V i := ⟨_, rfl⟩
            rw [← hx] at r0 r2 r3 r5 q1 q2
            have HX := Lib.hid hx
            clear hx
            subst hVa
            have hne9 : wr.heap.size ≠ gV := by have := (TS.v.lt gV rfl).2; omega
            go_upto_region 10 with fail
            have b := below_alloc wr (.cells #[.bool x.lo.s, .slice A1 n1 c1, .int .i64 x.lo.e, .bool x.hi.s, .slice A2 n2 c2, .int .i64 x.hi.e] 35)
            have xb := Blk.new wr #[.bool x.lo.s, .slice A1 n1 c1, .int .i64 x.lo.e, .bool x.hi.s, .slice A2 n2 c2, .int .i64 x.hi.e] 35
            replace TS := TS.go b
            have G := mv b rfl <| And.intro q1 <| q2
            clear q1 q2
            obtain ⟨q1, q2⟩ := G
            clear b r0 r1 r2 r3 r4 r5
            have z0 : World.cell? _ ⟨_, 0, none⟩ = some (.bool x.lo.s) := xb.at 0
            have z1 : World.cell? _ ⟨_, 1, none⟩ = some (.slice A1 n1 c1) := xb.at 1
            have z2 : World.cell? _ ⟨_, 2, none⟩ = some (.int .i64 x.lo.e) := xb.at 2
            have z3 : World.cell? _ ⟨_, 3, none⟩ = some (.bool x.hi.s) := xb.at 3
            have z4 : World.cell? _ ⟨_, 4, none⟩ = some (.slice A2 n2 c2) := xb.at 4
            have z5 : World.cell? _ ⟨_, 5, none⟩ = some (.int .i64 x.hi.e) := xb.at 5
            clear xb
            generalize wr.alloc (.cells #[.bool x.lo.s, .slice A1 n1 c1, .int .i64 x.lo.e, .bool x.hi.s, .slice A2 n2 c2, .int .i64 x.hi.e] 35) = W2 at *
            have b : Below W2.heap.size W2 (World.drew W2) := below_drewN (Below.refl _ _) 1
            replace TS := TS.go b
            have G := mv b rfl (J8 q1 q2 z0 z1 z2 z3 z4 z5)
            clear q1 q2 z0 z1 z2 z3 z4 z5
            obtain ⟨q1, q2, z0, z1, z2, z3, z4, z5⟩ := G
            clear b
            have b0 : World.cell? _ ⟨g3, 0, none⟩ = some (.slice (some ⟨gT, 0, none⟩) a.m a.m) := TS.box.at 0
            have b1 : World.cell? _ ⟨g3, 1, none⟩ = some (.slice (some ⟨gV, 0, none⟩) a.n a.n) := TS.box.at 1
            go_wp2_with fail
            refine wp_region_held_drew (S := fun w' => w'.cell? ⟨g3, 0, none⟩ = some (.slice (some ⟨gT, 0, none⟩) a.m a.m) ∧ w'.cell? ⟨g3, 1, none⟩ = some (.slice (some ⟨gV, 0, none⟩) a.n a.n) ∧ w'.cell? ⟨wr.heap.size, 0, none⟩ = some (.bool x.lo.s) ∧ w'.cell? ⟨wr.heap.size, 1, none⟩ = some (.slice A1 n1 c1) ∧ w'.cell? ⟨wr.heap.size, 2, none⟩ = some (.int .i64 x.lo.e) ∧ w'.cell? ⟨wr.heap.size, 3, none⟩ = some (.bool x.hi.s) ∧ w'.cell? ⟨wr.heap.size, 4, none⟩ = some (.slice A2 n2 c2) ∧ w'.cell? ⟨wr.heap.size, 5, none⟩ = some (.int .i64 x.hi.e)) (by kernel_rfl) (by exact ⟨b0, b1, z0, z1, z2, z3, z4, z5⟩) (fun hHeldoV0 => ?_)
            generalize World.drew W2 = wd at *
            refine tk 0 40 ?_
            simp only [Act.put, List.setIfInBounds_toArray, List.set_cons_zero, List.set_cons_succ]
            refine tk 1 41 ?_
            simp only [Act.put, List.setIfInBounds_toArray, List.set_cons_zero, List.set_cons_succ]
            refine tk 2 42 ?_
            simp only [Act.put, List.setIfInBounds_toArray, List.set_cons_zero, List.set_cons_succ]
            refine tk 3 43 ?_
            simp only [Act.put, List.setIfInBounds_toArray, List.set_cons_zero, List.set_cons_succ]
            refine tk 4 44 ?_
            simp only [Act.put, List.setIfInBounds_toArray, List.set_cons_zero, List.set_cons_succ]
            refine tk 6 46 ?_
            simp only [Act.put, List.setIfInBounds_toArray, List.set_cons_zero, List.set_cons_succ]
            refine tk 7 47 ?_
            simp only [Act.put, List.setIfInBounds_toArray, List.set_cons_zero, List.set_cons_succ]
            refine wpAnyH_ready (rs := [5]) (by kernel_rfl) (by simp) ?_
            refine AllReadyH.cons (o := _) rfl (fun K hK => ?_) AllReadyH.nil
            go_simp
            refine (townn_any q1 hx1).mono ?_
            rintro en w2 ⟨A5, n5, c5, rfl, h5, b⟩
            replace TS := TS.go b
            have G := mv b (by rfl) <| And.intro b0 <| And.intro b1 <| And.intro z0 <| And.intro z1 <| And.intro z2 <| And.intro z3 <| And.intro z4 <| And.intro z5 <| q2
            clear b0 b1 z0 z1 z2 z3 z4 z5 q2
            obtain ⟨b0, b1, z0, z1, z2, z3, z4, z5, q2⟩ := G
            clear b q1
            refine hK.out _ _ (by exact ⟨b0, b1, z0, z1, z2, z3, z4, z5⟩) (fun hHeldoV1 => ?_)
            clear hK K hHeldoV0
            try simp only [Act.put]
            refine wpAnyH_ready (rs := [8]) (by kernel_rfl) (by simp) ?_
            refine AllReadyH.cons (o := _) rfl (fun K hK => ?_) AllReadyH.nil
            go_simp
            refine (townn_any q2 hx2).mono ?_
            rintro en w3 ⟨A6, n6, c6, rfl, h6, b⟩
            replace TS := TS.go b
            have G := mv b (by rfl) <| And.intro b0 <| And.intro b1 <| And.intro z0 <| And.intro z1 <| And.intro z2 <| And.intro z3 <| And.intro z4 <| And.intro z5 <| h5
            clear b0 b1 z0 z1 z2 z3 z4 z5 h5
            obtain ⟨b0, b1, z0, z1, z2, z3, z4, z5, h5⟩ := G
            clear b q2
            obtain ⟨⟨k0, k1, k2, k3, k4, k5, e0, e1, e2, e3, e4, e5⟩, f0, f1, f2, f3, f4, f5⟩ := TS.v.open6 (g := gV) rfl (by rw [filX_len]; exact hi)
            refine hK.out _ _ (by exact ⟨b0, b1, z0, z1, z2, z3, z4, z5⟩) (fun hHeldoV2 => ?_)
            clear hK K hHeldoV1
            try simp only [Act.put]
            refine tk 9 49 ?_
            simp only [Act.put, List.setIfInBounds_toArray, List.set_cons_zero, List.set_cons_succ]
            refine tk 10 50 ?_
            simp only [Act.put, List.setIfInBounds_toArray, List.set_cons_zero, List.set_cons_succ]
            refine wpAnyH_ready (rs := [11]) (by kernel_rfl) (by simp) ?_
            refine AllReadyH.cons (o := _) rfl (fun K hK => ?_) AllReadyH.nil
            go_simp
            replace TS := TS.setV (g := gV) rfl (by rw [filX_len]; exact hi) h5 h6
            replace b0 : World.cell? _ ⟨g3, 0, none⟩ = some (.slice (some ⟨gT, 0, none⟩) a.m a.m) := TS.box.at 0
            replace b1 : World.cell? _ ⟨g3, 1, none⟩ = some (.slice (some ⟨gV, 0, none⟩) a.n a.n) := TS.box.at 1
            replace z0 := cell_oth (cell_oth (cell_oth (cell_oth (cell_oth (cell_oth (z0) hne9 (i * 6) (.bool x.lo.s)) hne9 (i * 6 + 1) (.slice A5 n5 c5)) hne9 (i * 6 + 2) (.int .i64 x.lo.e)) hne9 (i * 6 + 3) (.bool x.hi.s)) hne9 (i * 6 + 4) (.slice A6 n6 c6)) hne9 (i * 6 + 5) (.int .i64 x.hi.e)
            replace z1 := cell_oth (cell_oth (cell_oth (cell_oth (cell_oth (cell_oth (z1) hne9 (i * 6) (.bool x.lo.s)) hne9 (i * 6 + 1) (.slice A5 n5 c5)) hne9 (i * 6 + 2) (.int .i64 x.lo.e)) hne9 (i * 6 + 3) (.bool x.hi.s)) hne9 (i * 6 + 4) (.slice A6 n6 c6)) hne9 (i * 6 + 5) (.int .i64 x.hi.e)
            replace z2 := cell_oth (cell_oth (cell_oth (cell_oth (cell_oth (cell_oth (z2) hne9 (i * 6) (.bool x.lo.s)) hne9 (i * 6 + 1) (.slice A5 n5 c5)) hne9 (i * 6 + 2) (.int .i64 x.lo.e)) hne9 (i * 6 + 3) (.bool x.hi.s)) hne9 (i * 6 + 4) (.slice A6 n6 c6)) hne9 (i * 6 + 5) (.int .i64 x.hi.e)
            replace z3 := cell_oth (cell_oth (cell_oth (cell_oth (cell_oth (cell_oth (z3) hne9 (i * 6) (.bool x.lo.s)) hne9 (i * 6 + 1) (.slice A5 n5 c5)) hne9 (i * 6 + 2) (.int .i64 x.lo.e)) hne9 (i * 6 + 3) (.bool x.hi.s)) hne9 (i * 6 + 4) (.slice A6 n6 c6)) hne9 (i * 6 + 5) (.int .i64 x.hi.e)
            replace z4 := cell_oth (cell_oth (cell_oth (cell_oth (cell_oth (cell_oth (z4) hne9 (i * 6) (.bool x.lo.s)) hne9 (i * 6 + 1) (.slice A5 n5 c5)) hne9 (i * 6 + 2) (.int .i64 x.lo.e)) hne9 (i * 6 + 3) (.bool x.hi.s)) hne9 (i * 6 + 4) (.slice A6 n6 c6)) hne9 (i * 6 + 5) (.int .i64 x.hi.e)
            replace z5 := cell_oth (cell_oth (cell_oth (cell_oth (cell_oth (cell_oth (z5) hne9 (i * 6) (.bool x.lo.s)) hne9 (i * 6 + 1) (.slice A5 n5 c5)) hne9 (i * 6 + 2) (.int .i64 x.lo.e)) hne9 (i * 6 + 3) (.bool x.hi.s)) hne9 (i * 6 + 4) (.slice A6 n6 c6)) hne9 (i * 6 + 5) (.int .i64 x.hi.e)
            clear f0 f1 f2 f3 f4 f5 e0 e1 e2 e3 e4 e5
            refine hK.out _ _ (by exact ⟨b0, b1, z0, z1, z2, z3, z4, z5⟩) (fun hHeldoV3 => ?_)
            clear hK K hHeldoV2
            try simp only [Act.put]
            refine wpAnyH_done (by kernel_rfl) ?_ _
            go_wp2
            go_roundg (gk - 1)
            case measure => have := HG.out; omega
            case rel => exact ⟨i + 1, by have := HG.out; omega, by go_num, by rw [← filX_next, ← HX.out]; exact TS⟩
          · have hin : i = a.n := by have := HG.out; omega
            rw [hin] at TS
            clear HG hin
            generalize wr = W6 at *
            generalize gk = gk2 at *
            have b0 : World.cell? _ ⟨g3, 0, none⟩ = some (.slice (some ⟨gT, 0, none⟩) a.m a.m) := TS.box.at 0
            have b1 : World.cell? _ ⟨g3, 1, none⟩ = some (.slice (some ⟨gV, 0, none⟩) a.n a.n) := TS.box.at 1
            have r := mv TS.below rfl xr
            obtain ⟨f0, f1⟩ := (show _ ∧ _ from ⟨r.frozen 0, r.frozen 1⟩)
            have z0 : World.cell? _ ⟨w.heap.size + 1, 0, none⟩ = some (.slice none 0 0) := r.at 0
            have z1 : World.cell? _ ⟨w.heap.size + 1, 1, none⟩ = some (.slice none 0 0) := r.at 1
            go_wp2
            have hno := r.nou nol_slice nol_slice
            have qq := r.put2 (.slice (some ⟨gT, 0, none⟩) a.m a.m) (.slice (some ⟨gV, 0, none⟩) a.n a.n)
            have HB3 := below_put2 (g := w.heap.size + 1) (below_next BB BB.size TS.below rfl rfl rfl rfl) (by omega) (.slice (some ⟨gT, 0, none⟩) a.m a.m) (.slice (some ⟨gV, 0, none⟩) a.n a.n)
            have hH : HRow (((_ : World).setCell ⟨w.heap.size + 1, 0, none⟩ (.slice (some ⟨gT, 0, none⟩) a.m a.m)).setCell ⟨w.heap.size + 1, 1, none⟩ (.slice (some ⟨gV, 0, none⟩) a.n a.n)) w.heap.size _ _ := (TS.t.lower (b0 := w.heap.size) BB.size).via (fun q hq => by
              obtain ⟨cs, hk⟩ := TS.t.kind q hq
              have hne := kinds_ne hk r.blk (by decide)
              exact (Below.heap_setCell _ _ _ q hne).trans (Below.heap_setCell _ _ _ q hne)) fun A n c l hr => (hr.set1 (hr.off hno) _ _).set1 (hr.off hno) _ _
            have hI : IRow (((_ : World).setCell ⟨w.heap.size + 1, 0, none⟩ (.slice (some ⟨gT, 0, none⟩) a.m a.m)).setCell ⟨w.heap.size + 1, 1, none⟩ (.slice (some ⟨gV, 0, none⟩) a.n a.n)) w.heap.size _ _ := (TS.v.lower (b0 := w.heap.size) BB.size).via (fun q hq => by
              obtain ⟨cs, hk⟩ := TS.v.kind q hq
              have hne := kinds_ne hk r.blk (by decide)
              exact (Below.heap_setCell _ _ _ q hne).trans (Below.heap_setCell _ _ _ q hne)) fun A n c l hr => (hr.set1 (hr.off hno) _ _).set1 (hr.off hno) _ _
            have y0 : World.cell? _ ⟨w.heap.size + 1, 0, none⟩ = some (.slice (some ⟨gT, 0, none⟩) a.m a.m) := qq.at 0
            have y1 : World.cell? _ ⟨w.heap.size + 1, 1, none⟩ = some (.slice (some ⟨gV, 0, none⟩) a.n a.n) := qq.at 1
            exact bodyPost_ret (v := .agg #[.slice (some ⟨gT, 0, none⟩) a.m a.m, .slice (some ⟨gV, 0, none⟩) a.n a.n]) (by simp [results, Tryd.results37, go_sem, y0, y1]) rfl ⟨gT, gV, rfl, hH, hI, HB3⟩

end Go.Proofs.YtkpcmgfpmekkjaaDoor
