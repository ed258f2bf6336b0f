/-
  Contract of tape's Uses, at this translation.
-/
import Derived.RangeFuncNested
import Derived.RangeFuncBound
import Derived.RangeFuncCalls
import Derived.OrdersIn
import Derived.Deep.RegionHeld3
import Derived.Test.YtlpeheonbbaffaaGreatDoorQTo
set_option maxHeartbeats 8000000
set_option maxRecDepth 100000
namespace Go.Proofs.YtlpeheonbbaffaaGreatDoor
open Go Go.RowKit Go.Shelf
theorem nat_under {a : Int} {n : Nat} (h : belowB a n = true) : ∃ j : Nat, a = (j : Int) ∧ j < n := by
 obtain ⟨h1, h2⟩ := belowB_iff.1 h
 exact ⟨a.toNat, by omega, by omega⟩
theorem line_cells {w : World} {g o n : Nat} {L : Nat → Ln} (h : ∀ i, i < n → LnAt w g (o + i * 9) (L i)) : ∃ z : Nat → LnV, ∀ i, i < n → (z i).l = L i ∧ w.cell? ⟨g, o + i * 9, none⟩ = some (.int .i64 (z i).l.op) ∧ w.cell? ⟨g, o + i * 9 + 1, none⟩ = some (.int .i64 (z i).l.a) ∧ w.cell? ⟨g, o + i * 9 + 2, none⟩ = some (.int .i64 (z i).l.b) ∧ w.cell? ⟨g, o + i * 9 + 3, none⟩ = some (.bool (z i).l.k.lo.s) ∧ w.cell? ⟨g, o + i * 9 + 4, none⟩ = some (.slice (z i).A1 (z i).n1 (z i).c1) ∧ w.cell? ⟨g, o + i * 9 + 5, none⟩ = some (.int .i64 (z i).l.k.lo.e) ∧ w.cell? ⟨g, o + i * 9 + 6, none⟩ = some (.bool (z i).l.k.hi.s) ∧ w.cell? ⟨g, o + i * 9 + 7, none⟩ = some (.slice (z i).A2 (z i).n2 (z i).c2) ∧ w.cell? ⟨g, o + i * 9 + 8, none⟩ = some (.int .i64 (z i).l.k.hi.e) := by
 have key : ∀ i, ∃ v : LnV, i < n → v.l = L i ∧ w.cell? ⟨g, o + i * 9, none⟩ = some (.int .i64 v.l.op) ∧ w.cell? ⟨g, o + i * 9 + 1, none⟩ = some (.int .i64 v.l.a) ∧ w.cell? ⟨g, o + i * 9 + 2, none⟩ = some (.int .i64 v.l.b) ∧ w.cell? ⟨g, o + i * 9 + 3, none⟩ = some (.bool v.l.k.lo.s) ∧ w.cell? ⟨g, o + i * 9 + 4, none⟩ = some (.slice v.A1 v.n1 v.c1) ∧ w.cell? ⟨g, o + i * 9 + 5, none⟩ = some (.int .i64 v.l.k.lo.e) ∧ w.cell? ⟨g, o + i * 9 + 6, none⟩ = some (.bool v.l.k.hi.s) ∧ w.cell? ⟨g, o + i * 9 + 7, none⟩ = some (.slice v.A2 v.n2 v.c2) ∧ w.cell? ⟨g, o + i * 9 + 8, none⟩ = some (.int .i64 v.l.k.hi.e) := fun i => by
  by_cases hi : i < n
  ·obtain ⟨A1, n1, c1, A2, n2, c2, hc, _, _⟩ := h i hi
   exact ⟨⟨L i, A1, n1, c1, A2, n2, c2⟩, fun _ => ⟨rfl, hc⟩⟩
  exact ⟨⟨⟨0, 0, 0, Iv.zero⟩, none, 0, 0, none, 0, 0⟩, fun h2 => absurd h2 hi⟩
 exact Classical.axiomOfChoice key
theorem cell_up {w W : World} {p : Addr} {v : Value} (b : Below w.heap.size w W) (h : w.cell? p = some v) : W.cell? p = some v := (b.cell (World.block_lt_of_cell? w p h)).trans h
theorem wp_calm {P : Program} {c : Code} {K : Act → World → Prop} {Q : Exit → Act → World → Prop} {a : Act} {w : World} (h : c.wp P (Exit.then K fun _ _ _ => False) a w) : c.wp P (Exit.then K Q) a w :=
 wp_mono h fun e a w h => by cases e <;> first | exact h | exact h.elim
theorem RdZ.calm {W W' : World} {A : Option Addr} {n c : Nat} {O : Nat → Int} {row : Option Nat} (h : RdZ W A n c O) (hg : W.grownBy W' row) (hr : ∀ r, row = some r → ∃ o : Obj, W.heap[r]? = some o ∧ o.isCells = false) : RdZ W' A n c O :=
 ⟨h.cap, h.max, fun hn => by
  obtain ⟨b, o, ha, hc⟩ := h.at_ hn
  exact ⟨b, o, ha, fun j hj => cell_kept (hc j hj) hg hr⟩⟩
theorem row_slice {w : World} {b0 : Nat} {e : TypeId} {size n : Nat} {v : Value} {xs : List Value} (h : w.ownsRow b0 e size v n xs) : ∃ A n c, v = .slice A n c := by
 rcases h.2 with ⟨rfl, _⟩ | ⟨g, cap, cur, rfl, _⟩
 ·exact ⟨_, _, _, rfl⟩
 exact ⟨_, _, _, rfl⟩
theorem infoInt : (Tryz.prog.info? 3).map (fun i => (i.zero, i.size, i.bytes)) = some (some (.int .i64 0), 1, 8) := by kernel_rfl
theorem infoBool : (Tryz.prog.info? 4).map (fun i => (i.zero, i.size, i.bytes)) = some (some (.bool false), 1, 1) := by kernel_rfl
theorem blk_made {b0 n : Nat} {w : World} {xs : List Value} (h : w.ownsRow b0 4 1 (.slice (some ⟨b0, 0, none⟩) n n) n xs) : Blk w b0 xs.toArray 4 := by
 rcases h.2 with ⟨h, _⟩ | ⟨g, cap, cur, hv, _, hg, _, _, hcs, ht⟩
 ·cases h
 injection hv with e1 e2 e3
 injection e1 with e1
 injection e1 with e1
 subst e1 e3
 rw [List.take_of_length_le (by rw [Array.length_toList, hcs]; exact Nat.le_refl _)] at ht
 subst ht
 exact ⟨hg⟩
theorem law_makeB {ops : Array Oper} {rest : List Oper} {o : Oper} {a : Act} {Q : Exit → Act → World → Prop} {w : World} (hg : o.guard = none) (x : Operand) (hop : o.op = Op.makeSlice 102 x x)
  (C : Int) (n : Nat) (hx : a.eval x = .int .i64 C) (hC : C = (n : Int)) (hn : n ≤ 17592186044416)
  (hK : ∀ w', Blk w' w.heap.size (bls n fun _ => false) 4 → w.grownBy w' none → wpList Tryz.prog ops Q rest (a.put o.dst (.slice (some ⟨w.heap.size, 0, none⟩) n n)) w') : wpList Tryz.prog ops Q (o :: rest) a w := by
 obtain ⟨i0, hi, hz0, hz1, hz2⟩ := info_parts infoBool
 refine wpList_make_full w hg x x 102 hop w.heap.size 4 i0 (.bool false) 1 Tryz.underlying102 hi hz0 hz1 .i64 .i64 C C n hx hx hC hC (by rw [hz2]; omega) (by unfold maxLen; omega) (Nat.le_refl _)
  (fun w' h1 h2 => hK w' ?_ h2)
 have h3 := blk_made h1
 have e : (madeCells (Value.cells (.bool false)) (n * 1)).toList.toArray = bls n fun _ => false := by
  have := toList_madeCells_one (Value.bool false) (n * 1)
  rw [Nat.mul_one] at this ⊢
  unfold bls
  rw [show (Value.cells (.bool false)) = #[Value.bool false] from rfl, this]
  congr 1
  apply List.ext_getElem?
  intro i
  simp [List.getElem?_replicate, List.getElem?_map]
  split <;> simp_all
 rw [← e]
 exact h3
def usesL (K : Nat) (T : Tp) (k : Int) : List Int := if mayT K T 9223372036854775807 9223372036854775807 9223372036854775807 = true ∧ belowB k T.m = true then Lib.compact ((leanS T.L T.n (T.O k.toNat).toNat T.n).2.mergeSort fun x y => decide (x ≤ y)) else []
def UsesEnd (zs : List Int) (w : World) (en : Ending) (w' : World) : Prop := ∃ A c, en = .returned (.slice A zs.length c) ∧ RdZ w' A zs.length c (fun i => zs.getD i 0) ∧ Below w.heap.size w w'
theorem uses_no {K : Nat} {T : Tp} {k : Int} (h : ¬ (mayT K T 9223372036854775807 9223372036854775807 9223372036854775807 = true ∧ belowB k T.m = true)) : usesL K T k = [] := by unfold usesL; rw [if_neg h]
theorem uses_end {zs : List Int} {w w' : World} (h : zs = []) (b : Below w.heap.size w w') : UsesEnd zs w (.returned (.slice none 0 0)) w' := by
 subst h
 exact ⟨none, 0, rfl, ⟨by decide, by decide, fun h => absurd rfl h⟩, b⟩
attribute [local go_sem] Oper.semAt_some
theorem tuses_any {w : World} {K : Nat} {AL : Option Addr} {nL cL : Nat} {AO : Option Addr} {nO cO : Nat} {L : Nat → Ln} {O : Nat → Int} {k : Int} (hK : 4194304 ≤ K) (hT : Tab w) (hL : RdL w AL nL cL L) (hO : RdZ w AO nO cO O) :
  Calls Tryz.prog 29 #[.agg #[.slice AL nL cL, .slice AO nO cO], .int .i64 k] w (UsesEnd (usesL K ⟨nL, L, nO, O⟩ k) w) := by
 obtain ⟨q, hq⟩ : ∃ q, q = usesL K ⟨nL, L, nO, O⟩ k := ⟨_, rfl⟩
 rw [← hq]
 have HQ := Lib.hid hq
 clear hq
 refine (callsIn_wide (n := 3)).1 ?_
 refine callsIn_of_wp_marks Tryz.func29 rfl trivial ?_ rfl
 simp only [Tryz.ntmps29, List.size_toArray, List.length_cons, List.length_nil, Nat.reduceAdd, Nat.reduceSub, Array.replicate_succ, Array.replicate_zero, List.push_toArray, List.append_toArray, List.nil_append, List.cons_append]
 refine wpIn_wide.2 ?_
 have hT0 := hT
 have hL0 := hL
 have BB := below_alloc w (.cells #[.slice AL nL cL, .slice AO nO cO] 35)
 have xt := Blk.new w #[.slice AL nL cL, .slice AO nO cO] 35
 have G := mv BB rfl (J3 hT hL hO)
 clear hT hL hO
 obtain ⟨hT, hL, hO⟩ := G
 have t0 : World.cell? _ ⟨_, 0, none⟩ = some (.slice AL nL cL) := xt.at 0
 have t1 : World.cell? _ ⟨_, 1, none⟩ = some (.slice AO nO cO) := xt.at 1
 go_wp2_with fail
 refine (tmay_any (x := 9223372036854775807) (u := 9223372036854775807) (p := 9223372036854775807) hK hT hL hO).mono ?_
 rintro en w2 ⟨rfl, b⟩
 replace BB := bnx BB b
 have G := mv b rfl (J6 hT hL hO xt t0 t1)
 clear b hT hL hO xt t0 t1
 obtain ⟨hT, hL, hO, xt, t0, t1⟩ := G
 cases hmt : mayT K ⟨nL, L, nO, O⟩ 9223372036854775807 9223372036854775807 9223372036854775807
 ·have HQQ := Lib.hid (show q = [] by rw [HQ.out]; exact uses_no fun h => by rw [hmt] at h; cases h.1)
  clear hmt
  go_wp2
  exact ⟨.slice none 0 0, by simp [results, Tryz.f29, go_sem], uses_end HQQ.out BB⟩
 have HMT := Lib.hid hmt
 clear hmt
 go_wp2_with fail
 refine (tbelow_at (k := k) (n := (nO : Int))).mono ?_
 rintro en w3 ⟨rfl, rfl⟩
 cases hbk : belowB k (nO : Int)
 ·have HQQ := Lib.hid (show q = [] by rw [HQ.out]; exact uses_no fun h => by have h9 : belowB k (nO : Int) = true := h.2; rw [hbk] at h9; cases h9)
  clear hbk
  go_wp2
  exact ⟨.slice none 0 0, by simp [results, Tryz.f29, go_sem], uses_end HQQ.out BB⟩
 obtain ⟨kk, rfl, hkk⟩ := nat_under hbk
 obtain ⟨out, hout, hol⟩ := nat_under ((mayT_iff.1 HMT.out).2.2.2 kk hkk)
 have h200 : nL ≤ 200 := (mayT_iff.1 HMT.out).1
 have HOUT := Lib.hid (show O kk = (out : Int) from hout)
 clear hout
 obtain ⟨gO, oO, hao, hc⟩ := hO.at_ (by omega)
 have r0 := hc kk hkk
 rw [HOUT.out] at r0
 clear hc
 have lgO := World.block_lt_of_cell? _ _ r0
 have lgT := World.block_lt_of_cell? _ _ t0
 have b3 := below_alloc w3 (.cells #[.slice none 0 0] 33)
 have xi := Blk.new w3 #[.slice none 0 0] 33
 have G := mv b3 rfl (J7 hT hL hO xt t0 t1 r0)
 clear hT hL hO xt t0 t1 r0
 obtain ⟨hT, hL, hO, xt, t0, t1, r0⟩ := G
 replace BB := below_next BB BB.size b3 rfl rfl rfl rfl
 clear b3
 go_wp2_with (at_make; refine law_makeB rfl (.tmp 24) rfl _ nL rfl (by omega) (by omega) ?_; intro w4 xl hg4)
 obtain ⟨gL, hgL⟩ : ∃ g, g = (w3.alloc (.cells #[.slice none 0 0] 33)).heap.size := ⟨_, rfl⟩
 have hgL2 : gL = w3.heap.size + 1 := by rw [hgL]; simp
 rw [← hgL] at xl
 have b4 := (Below.refl (w3.alloc (.cells #[.slice none 0 0] 33)).heap.size (w3.alloc (.cells #[.slice none 0 0] 33))).grown hg4 (Nat.le_refl _) (fun _ e => by cases e)
 replace BB := below_next BB BB.size b4 rfl rfl rfl rfl
 have G := mv b4 rfl (J8 hT hL hO xt xi t0 t1 r0)
 clear b4 hg4 hgL hT hL hO xt xi t0 t1 r0
 obtain ⟨hT, hL, hO, xt, xi, t0, t1, r0⟩ := G
 have b5 := below_alloc w4 (.cells #[.slice (some ⟨w3.heap.size + 1, 0, none⟩) nL nL] 102)
 have xb := Blk.new w4 #[.slice (some ⟨w3.heap.size + 1, 0, none⟩) nL nL] 102
 replace BB := below_next BB BB.size b5 rfl rfl rfl rfl
 have lgL := xl.gl
 have G := mv b5 rfl (J9 hT hL hO xt xi xl t0 t1 r0)
 clear b5 hT hL hO xt xi xl t0 t1 r0
 obtain ⟨hT, hL, hO, xt, xi, xl, t0, t1, r0⟩ := G
 have b0 : World.cell? _ ⟨_, 0, none⟩ = some (.slice (some ⟨w3.heap.size + 1, 0, none⟩) nL nL) := xb.at 0
 rw [hgL2] at xl
 skip
 subst hao
 refine wp_calm ?_
 have b : Below (w4.alloc (.cells #[.slice (some ⟨w3.heap.size + 1, 0, none⟩) nL nL] 102)).heap.size (w4.alloc (.cells #[.slice (some ⟨w3.heap.size + 1, 0, none⟩) nL nL] 102)) (World.drew (w4.alloc (.cells #[.slice (some ⟨w3.heap.size + 1, 0, none⟩) nL nL] 102))) := below_drewN (Below.refl _ _) 1
 replace BB := bnx BB b
 have G := mv b rfl (J11 hT hL hO xt xi xl xb t0 t1 b0 r0)
 clear b hT hL hO xt xi xl xb t0 t1 b0 r0
 obtain ⟨hT, hL, hO, xt, xi, xl, xb, t0, t1, b0, r0⟩ := G
 have z0 := xl.at out (bls_get hol)
 have f0 := xl.frozen out
 have ho0 : (0 : Int) ≤ (out : Int) := by omega
 have ho1 : (out : Int) < (nL : Int) := by omega
 have hk0 : (0 : Int) ≤ (kk : Int) := by omega
 have hk1 : (kk : Int) < (nO : Int) := by omega
 refine wp_region_held_drew (S := fun w' => w'.cell? ⟨w4.heap.size, 0, none⟩ = some (.slice (some ⟨w3.heap.size + 1, 0, none⟩) nL nL) ∧ w'.cell? ⟨w.heap.size, 1, none⟩ = some (.slice (some ⟨gO, oO, none⟩) nO cO) ∧ w'.cell? ⟨gO, oO + kk, none⟩ = some (.int .i64 (out : Int))) (by kernel_rfl) (by exact ⟨b0, t1, r0⟩) (fun hHeldv0 => ?_)
 generalize World.drew (w4.alloc (.cells #[.slice (some ⟨w3.heap.size + 1, 0, none⟩) nL nL] 102)) = wd at *
 refine wpAnyH_take (i := 0) (v := ?vv0) rfl (by kernel_rfl) (by kernel_rfl) (by kernel_rfl) (fun _ _ _ h => h.elim) (Or.inl ⟨by rfl, ?vy0⟩) (by assumption) ?_
 case vy0 => (intro w hSw; (try dsimp only at hSw); go_simp); try with_reducible rfl
 change wpAnyH _ _ _ _ _ _ _ (Act.put _ (some 26) _) _
 simp only [Act.put, List.setIfInBounds_toArray, List.set_cons_zero, List.set_cons_succ]
 refine wpAnyH_take (i := 1) (v := ?vv1) rfl (by kernel_rfl) (by kernel_rfl) (by kernel_rfl) (fun _ _ _ h => h.elim) (Or.inl ⟨by rfl, ?vy1⟩) (by assumption) ?_
 case vy1 => (intro w hSw; (try dsimp only at hSw); go_simp); try with_reducible rfl
 change wpAnyH _ _ _ _ _ _ _ (Act.put _ (some 27) _) _
 simp only [Act.put, List.setIfInBounds_toArray, List.set_cons_zero, List.set_cons_succ]
 refine wpAnyH_take (i := 2) (v := ?vv2) rfl (by kernel_rfl) (by kernel_rfl) (by kernel_rfl) (fun _ _ _ h => h.elim) (Or.inl ⟨by rfl, ?vy2⟩) (by assumption) ?_
 case vy2 => (intro w hSw; (try dsimp only at hSw); go_simp); try with_reducible rfl
 change wpAnyH _ _ _ _ _ _ _ (Act.put _ (some 28) _) _
 simp only [Act.put, List.setIfInBounds_toArray, List.set_cons_zero, List.set_cons_succ]
 refine wpAnyH_take (i := 3) (v := ?vv3) rfl (by kernel_rfl) (by kernel_rfl) (by kernel_rfl) (fun _ _ _ h => h.elim) (Or.inl ⟨by rfl, ?vy3⟩) (by assumption) ?_
 case vy3 => (intro w hSw; (try dsimp only at hSw); go_simp); try with_reducible rfl
 change wpAnyH _ _ _ _ _ _ _ (Act.put _ (some 29) _) _
 simp only [Act.put, List.setIfInBounds_toArray, List.set_cons_zero, List.set_cons_succ]
 refine wpAnyH_take (i := 4) (v := ?vv4) rfl (by kernel_rfl) (by kernel_rfl) (by kernel_rfl) (fun _ _ _ h => h.elim) (Or.inl ⟨by rfl, ?vy4⟩) (by assumption) ?_
 case vy4 => (intro w hSw; (try dsimp only at hSw); go_simp); try with_reducible rfl
 change wpAnyH _ _ _ _ _ _ _ (Act.put _ (some 30) _) _
 simp only [Act.put, List.setIfInBounds_toArray, List.set_cons_zero, List.set_cons_succ]
 refine wpAnyH_take (i := 5) (v := ?vv5) rfl (by kernel_rfl) (by kernel_rfl) (by kernel_rfl) (fun _ _ _ h => h.elim) (Or.inl ⟨by rfl, ?vy5⟩) (by assumption) ?_
 case vy5 => (intro w hSw; (try dsimp only at hSw); go_simp); try with_reducible rfl
 change wpAnyH _ _ _ _ _ _ _ (Act.put _ (some 31) _) _
 simp only [Act.put, List.setIfInBounds_toArray, List.set_cons_zero, List.set_cons_succ]
 refine wpAnyH_take (i := 6) (v := ?vv6) rfl (by kernel_rfl) (by kernel_rfl) (by kernel_rfl) (fun _ _ _ h => h.elim) (Or.inl ⟨by rfl, ?vy6⟩) (by assumption) ?_
 case vy6 => (intro w hSw; (try dsimp only at hSw); go_simp); try with_reducible rfl
 change wpAnyH _ _ _ _ _ _ _ (Act.put _ (some 32) _) _
 simp only [Act.put, List.setIfInBounds_toArray, List.set_cons_zero, List.set_cons_succ]
 refine rdy 7 fun K hK => ?_
 go_simp
 refine hK.out _ _ (by exact ⟨cell_oth b0 (by omega) _ _, cell_oth t1 (by omega) _ _, cell_oth r0 (by omega) _ _⟩) (fun hHeldv1 => ?_)
 clear hK K hHeldv0
 try simp only [Act.put]
 refine wpAnyH_done (by kernel_rfl) ?_ _
 go_upto_region 6 with fail
 have BB5 := BB.setCell (p := ⟨w3.heap.size + 1, out, none⟩) (by have := BB.size; show w.heap.size ≤ w3.heap.size + 1; omega) (.bool true)
 have G := And.intro (xt.other (g' := w3.heap.size + 1) (by omega) out (.bool true)) <| And.intro (xi.other (g' := w3.heap.size + 1) (by omega) out (.bool true)) <| And.intro (xl.setb out) (xb.other (g' := w3.heap.size + 1) (by omega) out (.bool true))
 have hle := lgL
 clear hT hL hO xt xi xl xb t0 t1 b0 r0 z0 f0 BB
 obtain ⟨xt, xi, xl, xb⟩ := G
 generalize wd.setCell ⟨w3.heap.size + 1, out, none⟩ (.bool true) = W5 at *
 replace xl : Blk W5 (w3.heap.size + 1) (bls nL fun j => decide (j = out)) 4 := by simpa using xl
 have t0 : World.cell? _ ⟨_, 0, none⟩ = some (.slice AL nL cL) := xt.at 0
 go_wp2_with fail
 refine (callsIn_wide.1 (back_ln Fence.wide 2 trivial rfl _ _ _ _)).mono ?_
 rintro en w' ⟨rfl, rfl⟩
 go_wp2_with fail
 refine (wpIn_wide (n := 3)).1 ?_
 have b6 := below_alloc W5 (.cells #[.slice AL nL cL] 32)
 have xs := Blk.new W5 #[.slice AL nL cL] 32
 have l3 := xl.gl
 have l4 := xb.gl
 have hs0 : (W5.alloc (.cells #[.slice AL nL cL] 32)).heap.size = W5.heap.size + 1 := by simp
 have BB0 := below_next BB5 BB5.size b6 rfl rfl rfl rfl
 have G := mv b6 rfl (J4 xt xi xl xb)
 clear b6 xt xi xl xb t0 BB5 hHeldv1
 obtain ⟨xt, xi, xl, xb⟩ := G
 obtain ⟨gA, oA, hal, hc⟩ := hL0.at_ (by omega)
 subst hal
 obtain ⟨z, hz⟩ := line_cells hc
 have lgA := World.block_lt_of_cell? _ _ (hz 0 (by omega)).2.1
 clear hc
 generalize W5.alloc (.cells #[.slice (some ⟨gA, oA, none⟩) nL cL] 32) = W0 at *
 generalize W5.heap.size = gS at *
 have l5 : gS < W0.heap.size := by omega
 have l6 : w.heap.size ≤ w3.heap.size := by omega
 clear hs0
 refine wpIn_rangeBs (fun t k b => (((t.setIfInBounds 36 (.int .i64 ((nL - 1 - k : Nat) : Int))).setIfInBounds 37 (.agg #[.int .i64 (z (nL - 1 - k)).l.op, .int .i64 (z (nL - 1 - k)).l.a, .int .i64 (z (nL - 1 - k)).l.b, .bool (z (nL - 1 - k)).l.k.lo.s, .slice (z (nL - 1 - k)).A1 (z (nL - 1 - k)).n1 (z (nL - 1 - k)).c1, .int .i64 (z (nL - 1 - k)).l.k.lo.e, .bool (z (nL - 1 - k)).l.k.hi.s, .slice (z (nL - 1 - k)).A2 (z (nL - 1 - k)).n2 (z (nL - 1 - k)).c2, .int .i64 (z (nL - 1 - k)).l.k.hi.e])).setIfInBounds 7 (.int .i64 ((nL - 1 - k : Nat) : Int))).setIfInBounds 8 (.pointer (some ⟨b, 0, none⟩))) (F := Fence.wide) (n := 3) rfl (by omega) (gf := 119) (lb := #[.pointer (some ⟨gS, 0, none⟩)]) rfl trivial (enters_of Tryz.func119 (by kernel_rfl) rfl) (backs_ln Fence.wide 2 trivial rfl (by omega) gS (some ⟨gA, oA, none⟩) nL cL z (by omega)) (fun _ => rfl)
  (fun k W => UsS (W0.heap.size + 2) w w.heap.size w3.heap.size w4.heap.size (w3.heap.size + 1) gS (some ⟨gA, oA, none⟩) nL cL (some ⟨gO, oO, none⟩) nO cO (leanS L nL out k).1 (leanS L nL out k).2 W) (fun _ _ _ => False)
  (UsS.keeps (B := fun k => (leanS L nL out k).1) (zs := fun k => (leanS L nL out k).2) BB0.size) (fun _ _ _ _ _ h _ _ => h)
  (fun k W h => ⟨h.sx.at 0, fun hk => ⟨gA, oA, rfl, by obtain ⟨_, k0, k1, k2, k3, k4, k5, k6, k7, k8⟩ := hz (nL - 1 - k) (by omega); exact ⟨cell_up h.below k0, cell_up h.below k1, cell_up h.below k2, cell_up h.below k3, cell_up h.below k4, cell_up h.below k5, cell_up h.below k6, cell_up h.below k7, cell_up h.below k8⟩⟩⟩)
  ⟨BB0, xt, ⟨_, xi, ownz_nil _ _⟩, xb, xl, xs⟩
  (fun k b W => W0.heap.size + 2 ≤ b ∧ Blk W b #[.int .i64 (z (nL - 1 - k)).l.op, .int .i64 (z (nL - 1 - k)).l.a, .int .i64 (z (nL - 1 - k)).l.b, .bool (z (nL - 1 - k)).l.k.lo.s, .slice (z (nL - 1 - k)).A1 (z (nL - 1 - k)).n1 (z (nL - 1 - k)).c1, .int .i64 (z (nL - 1 - k)).l.k.lo.e, .bool (z (nL - 1 - k)).l.k.hi.s, .slice (z (nL - 1 - k)).A2 (z (nL - 1 - k)).n2 (z (nL - 1 - k)).c2, .int .i64 (z (nL - 1 - k)).l.k.hi.e] 31) (fun b k X Y row h hg hr => ⟨h.1, h.2.calm hg fun r e => (hr r e).2⟩) ?assign ?body ?done ?stop
 case assign =>
  rintro l k W K hi hk hsz hK
  gi_wp2
  exact hK _ _ ⟨hsz, Blk.new _ _ _⟩ ((UsS.keeps (B := fun k => (leanS L nL out k).1) (zs := fun k => (leanS L nL out k).2) BB0.size).alloc _ hi) (Keeps2.below ((below_alloc W _).mono hsz))
 case body =>
  rintro l k g W hi ⟨hg, hx⟩ hk hsz
  obtain ⟨v, iv, iown⟩ := hi.ins
  have hml : mayLn K (L (nL - 1 - k)) ((nL - 1 - k : Nat) : Int) 9223372036854775807 9223372036854775807 9223372036854775807 = true := (mayT_iff.1 HMT.out).2.2.1 (nL - 1 - k) (show nL - 1 - k < nL by omega)
  obtain ⟨hzl, _⟩ := hz (nL - 1 - k) (by omega)
  have HNO := Lib.hid (fun h => leanS_no (L := L) (n := nL) (out := out) (k := k) h)
  have HYES := Lib.hid (fun h => leanS_yes (L := L) (n := nL) (out := out) (k := k) h)
  obtain ⟨j, hj⟩ : ∃ j, j = nL - 1 - k := ⟨_, rfl⟩
  have hjn : j < nL := by omega
  rw [← hj] at hx hzl hml HNO HYES
  dsimp only
  rw [← hj]
  clear hj
  obtain ⟨zv, hzv⟩ : ∃ zv, zv = z j := ⟨_, rfl⟩
  rw [← hzv] at hx hzl ⊢
  clear hzv
  have HZL := Lib.hid hzl
  have HML := Lib.hid (show mayLn K zv.l (j : Int) 9223372036854775807 9223372036854775807 9223372036854775807 = true by rw [hzl]; exact hml)
  clear hzl hml
  obtain ⟨B, hB⟩ : ∃ B, B = (leanS L nL out k).1 := ⟨_, rfl⟩
  obtain ⟨zs, hzs⟩ : ∃ zs, zs = (leanS L nL out k).2 := ⟨_, rfl⟩
  rw [← hB, ← hzs] at hi
  rw [← hzs] at iown
  rw [← hB] at HNO HYES
  rw [← hzs] at HYES
  have HB := Lib.hid (And.intro hB hzs)
  clear hB hzs
  have b0 := hi.bx.at 0 (v := .slice (some ⟨w3.heap.size + 1, 0, none⟩) nL nL)
  have l0 := hi.bl.at j (bls_get hjn)
  have KP := Keeps2.refl W0.heap.size W
  have hj0 : (0 : Int) ≤ (j : Int) := by omega
  have hj1 : (j : Int) < (nL : Int) := by omega
  cases hBj : B j
  ·rw [hBj] at l0
   have HN := Lib.hid (HNO.out hBj)
   gi_wp2
   refine ⟨KP, ?_⟩
   show UsS (W0.heap.size + 2) w w.heap.size w3.heap.size w4.heap.size (w3.heap.size + 1) gS (some ⟨gA, oA, none⟩) nL cL (some ⟨gO, oO, none⟩) nO cO (leanS L nL out (k + 1)).1 (leanS L nL out (k + 1)).2 W
   rw [HN.out, ← HB.out.1, ← HB.out.2]
   exact hi
  have HY := Lib.hid (HYES.out hBj)
  clear HNO HYES
  rw [hBj] at l0
  have m0 : World.cell? _ ⟨_, 0, none⟩ = some (.int .i64 zv.l.op) := hx.at 0
  have m1 : World.cell? _ ⟨_, 1, none⟩ = some (.int .i64 zv.l.a) := hx.at 1
  have m2 : World.cell? _ ⟨_, 2, none⟩ = some (.int .i64 zv.l.b) := hx.at 2
  have m3 : World.cell? _ ⟨_, 3, none⟩ = some (.bool zv.l.k.lo.s) := hx.at 3
  have m4 : World.cell? _ ⟨_, 4, none⟩ = some (.slice zv.A1 zv.n1 zv.c1) := hx.at 4
  have m5 : World.cell? _ ⟨_, 5, none⟩ = some (.int .i64 zv.l.k.lo.e) := hx.at 5
  have m6 : World.cell? _ ⟨_, 6, none⟩ = some (.bool zv.l.k.hi.s) := hx.at 6
  have m7 : World.cell? _ ⟨_, 7, none⟩ = some (.slice zv.A2 zv.n2 zv.c2) := hx.at 7
  have m8 : World.cell? _ ⟨_, 8, none⟩ = some (.int .i64 zv.l.k.hi.e) := hx.at 8
  by_cases hop : zv.l.op = 4
  ·have d1 : (zv.l.op == 4) = true := by rw [hop]; rfl
   have hzn : zs.length ≤ 1000 := by rw [HB.out.2]; exact Nat.le_trans (leanS_len k) (by omega)
   obtain ⟨i0, hi0, hz0, hz1, hz2⟩ := info_parts infoInt
   have x0 := iv.at 0 (v := v)
   have b1 := below_alloc W (.cells #[.int .i64 zv.l.a] 3)
   have xn := Blk.new W #[.int .i64 zv.l.a] 3
   have iownA := iown.next b1 rfl
   have ivA := iv.next b1 rfl
   have hxA := hx.next b1 rfl
   have hbz : W0.heap.size + 2 ≤ (W.alloc (.cells #[.int .i64 zv.l.a] 3)).heap.size := by simp; omega
   gi_wp2_with (gi_at_builtin; refine wpListIn_append_own _ rfl _ _ 33 rfl (W0.heap.size + 2) 3 i0 (.int .i64 0) 1 8 Tryz.underlying33 hi0 hz0 hz1 hz2 rfl (by decide) v zs.length (zs.map (Value.int .i64)) rfl iownA ⟨W.heap.size, 0, none⟩ 1 1 [.int .i64 zv.l.a] rfl rfl (fun q u hq => by match q, hq with | 0, hq => (simp at hq; subst hq; exact xn.at 0) | q + 1, hq => simp at hq) (fun u hu => by simp at hu; subst hu; rfl) (by unfold maxLen; omega) (by omega) hbz ?_; intro v' W1 hown1 hgrow1 _; have ivB := ivA.kept hgrow1 (fun e => by have := (iownA.lt _ e).1; omega); have c2 := ivB.at 0 (v := v); have f2 := ivB.frozen 0; obtain ⟨A9, n9, c9, rfl⟩ := row_slice hown1; have hu := hi.grow iv iown b1 hgrow1 (show OwnZ (W0.heap.size + 2) W1 (.slice A9 n9 c9) (zs ++ [zv.l.a]) by unfold OwnZ; simpa using hown1) (by omega) (by omega) (by omega) (by omega) (by omega) (by omega) (by omega) (by omega) (by omega) l6; have hx2 := (hxA.kept hgrow1 (iownA.ne_blk hxA (by decide))).other (g' := w3.heap.size) (by omega) 0 (.slice A9 n9 c9); have KP2 := ((KP.trans (Keeps2.below (b1.mono hsz))).trans (Keeps2.grown hgrow1 hbz (fun q e => (iownA.lt q e).1))).trans (Keeps2.setCell (B := W0.heap.size) W1 ⟨w3.heap.size, 0, none⟩ (.slice A9 n9 c9) (by show w3.heap.size < _; omega)); have hWs : W0.heap.size + 2 ≤ (W1.setCell ⟨w3.heap.size, 0, none⟩ (.slice A9 n9 c9)).heap.size := Nat.le_trans hbz (Nat.le_trans hgrow1.size (Nat.le_of_eq (by simp))); have p0 : World.cell? _ ⟨_, 0, none⟩ = some (.int .i64 zv.l.op) := hx2.at 0; have p1 : World.cell? _ ⟨_, 1, none⟩ = some (.int .i64 zv.l.a) := hx2.at 1; have p2 : World.cell? _ ⟨_, 2, none⟩ = some (.int .i64 zv.l.b) := hx2.at 2; have p3 : World.cell? _ ⟨_, 3, none⟩ = some (.bool zv.l.k.lo.s) := hx2.at 3; have p4 : World.cell? _ ⟨_, 4, none⟩ = some (.slice zv.A1 zv.n1 zv.c1) := hx2.at 4; have p5 : World.cell? _ ⟨_, 5, none⟩ = some (.int .i64 zv.l.k.lo.e) := hx2.at 5; have p6 : World.cell? _ ⟨_, 6, none⟩ = some (.bool zv.l.k.hi.s) := hx2.at 6; have p7 : World.cell? _ ⟨_, 7, none⟩ = some (.slice zv.A2 zv.n2 zv.c2) := hx2.at 7; have p8 : World.cell? _ ⟨_, 8, none⟩ = some (.int .i64 zv.l.k.hi.e) := hx2.at 8)
   clear KP
   have KP := KP2
   refine ⟨trivial, (CallsIn.inRound l (callsIn_wide.2 (toperands_any (l := (⟨4, zv.l.a, zv.l.b, zv.l.k⟩ : Ln))))).mono ?_⟩
   rintro en w5 ⟨A, n, c, rfl, hn, hr, b, hfar⟩
   rw [show (⟨4, zv.l.a, zv.l.b, zv.l.k⟩ : Ln) = zv.l by rw [← hop]] at hn hr
   have hu5 := hu.up b
   have KP5 := KP.trans (Keeps2.below (b.mono hWs))
   have HFAR := Lib.hid hfar
   have hb5 := b.size
   obtain ⟨xs, hxs⟩ : ∃ xs, xs = opsL zv.l := ⟨_, rfl⟩
   rw [← hxs] at hn hr
   have hn2 : n ≤ 2 := by rw [hn, hxs]; exact ops_len
   have HXS := Lib.hid hxs
   have HN := Lib.hid hn
   have HE := Lib.hid (show leanS L nL out (k + 1) = (fun t => B t || decide ((t : Int) ∈ xs), zs ++ [zv.l.a]) by rw [HY.out, ← HZL.out, ← hxs]; simp [hop])
   clear hxs hn hu KP hfar b p0 p1 m2 m3 m4 m5 m6 m7 m8 hx
   gi_wp2
   gi_loopw [54] (fun i wr => ∃ m : Nat, m ≤ n ∧ i = .int .i64 (m : Int) ∧ UsS (W0.heap.size + 2) w w.heap.size w3.heap.size w4.heap.size (w3.heap.size + 1) gS (some ⟨gA, oA, none⟩) nL cL (some ⟨gO, oO, none⟩) nO cO (fun t => B t || decide ((t : Int) ∈ xs.take m)) (zs ++ [zv.l.a]) wr ∧ RdZ wr A n c (fun i => xs.getD i 0) ∧ Keeps2 W0.heap.size W wr) (fun i _ => n - (intOf i).toNat)
   case atStart => exact ⟨0, Nat.zero_le _, rfl, hu5.congr (fun t _ => by simp), hr, KP5⟩
   case round =>
    obtain ⟨m, hm, rfl, hu6, hr6, KP6⟩ := hrel
    clear hu5 hr KP5
    by_cases hmn : m < n
    ·obtain ⟨bb, oo, hA, hcell⟩ := hr6.at_ (by omega)
     have r0 := hcell m hmn
     have hbb := HFAR.out bb oo hA
     subst hA
     obtain ⟨y, hy, hyj⟩ := nat_under (n := j) (ops_below HML.out (xs.getD m 0) (by rw [← HXS.out, List.getD_eq_getElem?_getD, List.getElem?_eq_getElem (by rw [← HN.out]; exact hmn)]; exact List.getElem_mem _))
     rw [hy] at r0
     have c9 := hu6.bx.at 0 (v := .slice (some ⟨w3.heap.size + 1, 0, none⟩) nL nL)
     have z9 := hu6.bl.at y (bls_get (by omega))
     have f9 := hu6.bl.frozen y
     have hs9 := hu6.setb (by omega) (by omega) (by omega) (by omega) (by omega) (by omega) y
     have hr9 := hr6.other (g := w3.heap.size + 1) (fun b9 o9 e9 => by injection e9 with e9; injection e9 with e9; omega) y (.bool true)
     have KP9 := KP6.trans (Keeps2.setCell (B := W0.heap.size) wr ⟨w3.heap.size + 1, y, none⟩ (.bool true) (by show w3.heap.size + 1 < _; omega))
     have HTK := Lib.hid (show ∀ t : Nat, (decide ((t : Int) ∈ xs.take m) || decide (t = y)) = decide ((t : Int) ∈ xs.take (m + 1)) from fun t => by
      rw [List.take_add_one, List.getElem?_eq_getElem (by rw [← HN.out]; exact hmn)]
      have e : xs[m]'(by rw [← HN.out]; exact hmn) = (y : Int) := by rw [← hy, List.getD_eq_getElem?_getD, List.getElem?_eq_getElem (by rw [← HN.out]; exact hmn)]; rfl
      rw [e]
      have e2 : ((t : Int) = (y : Int)) ↔ t = y := by omega
      simp [← Bool.decide_or, e2])
     have hp2 : (m : Int) < n := by omega
     have hp3 : (0 : Int) ≤ m := by omega
     have hp4 : (y : Int) < nL := by omega
     have hp5 : (0 : Int) ≤ y := by omega
     clear hy hcell hu6 hr6 KP6
     gi_wp2
     go_roundw
     case rel => exact ⟨m + 1, by omega, by first | rfl | simp | go_num, hs9.congr (fun t _ => by rw [Bool.or_assoc, HTK.out]), hr9, KP9⟩
     case measure => simp [intOf]; omega
    obtain rfl : m = n := by omega
    gi_wp2
    refine ⟨KP6, ?_⟩
    show UsS (W0.heap.size + 2) w w.heap.size w3.heap.size w4.heap.size (w3.heap.size + 1) gS (some ⟨gA, oA, none⟩) nL cL (some ⟨gO, oO, none⟩) nO cO (leanS L nL out (k + 1)).1 (leanS L nL out (k + 1)).2 wr
    rw [HE.out]
    exact hu6.congr (fun t _ => by rw [List.take_of_length_le (by rw [← HN.out]; exact Nat.le_refl _)])
  have d1 : (zv.l.op == 4) = false := beq_false_of_ne hop
  have hu := hi
  have hWs := hsz
  gi_wp2_with fail
  refine ⟨trivial, (CallsIn.inRound l (callsIn_wide.2 (toperands_any (l := zv.l)))).mono ?_⟩
  rintro en w5 ⟨A, n, c, rfl, hn, hr, b, hfar⟩
  have hu5 := hu.up b
  have KP5 := KP.trans (Keeps2.below (b.mono hWs))
  have HFAR := Lib.hid hfar
  have hb5 := b.size
  obtain ⟨xs, hxs⟩ : ∃ xs, xs = opsL zv.l := ⟨_, rfl⟩
  rw [← hxs] at hn hr
  have hn2 : n ≤ 2 := by rw [hn, hxs]; exact ops_len
  have HXS := Lib.hid hxs
  have HN := Lib.hid hn
  have HE := Lib.hid (show leanS L nL out (k + 1) = (fun t => B t || decide ((t : Int) ∈ xs), zs) by rw [HY.out, ← HZL.out, ← hxs]; simp [hop])
  clear hxs hn hu KP hfar b m0 m1 m2 m3 m4 m5 m6 m7 m8 hx
  gi_wp2
  gi_loopw [54] (fun i wr => ∃ m : Nat, m ≤ n ∧ i = .int .i64 (m : Int) ∧ UsS (W0.heap.size + 2) w w.heap.size w3.heap.size w4.heap.size (w3.heap.size + 1) gS (some ⟨gA, oA, none⟩) nL cL (some ⟨gO, oO, none⟩) nO cO (fun t => B t || decide ((t : Int) ∈ xs.take m)) (zs) wr ∧ RdZ wr A n c (fun i => xs.getD i 0) ∧ Keeps2 W0.heap.size W wr) (fun i _ => n - (intOf i).toNat)
  case atStart => exact ⟨0, Nat.zero_le _, rfl, hu5.congr (fun t _ => by simp), hr, KP5⟩
  case round =>
   obtain ⟨m, hm, rfl, hu6, hr6, KP6⟩ := hrel
   clear hu5 hr KP5
   by_cases hmn : m < n
   ·obtain ⟨bb, oo, hA, hcell⟩ := hr6.at_ (by omega)
    have r0 := hcell m hmn
    have hbb := HFAR.out bb oo hA
    subst hA
    obtain ⟨y, hy, hyj⟩ := nat_under (n := j) (ops_below HML.out (xs.getD m 0) (by rw [← HXS.out, List.getD_eq_getElem?_getD, List.getElem?_eq_getElem (by rw [← HN.out]; exact hmn)]; exact List.getElem_mem _))
    rw [hy] at r0
    have c9 := hu6.bx.at 0 (v := .slice (some ⟨w3.heap.size + 1, 0, none⟩) nL nL)
    have z9 := hu6.bl.at y (bls_get (by omega))
    have f9 := hu6.bl.frozen y
    have hs9 := hu6.setb (by omega) (by omega) (by omega) (by omega) (by omega) (by omega) y
    have hr9 := hr6.other (g := w3.heap.size + 1) (fun b9 o9 e9 => by injection e9 with e9; injection e9 with e9; omega) y (.bool true)
    have KP9 := KP6.trans (Keeps2.setCell (B := W0.heap.size) wr ⟨w3.heap.size + 1, y, none⟩ (.bool true) (by show w3.heap.size + 1 < _; omega))
    have HTK := Lib.hid (show ∀ t : Nat, (decide ((t : Int) ∈ xs.take m) || decide (t = y)) = decide ((t : Int) ∈ xs.take (m + 1)) from fun t => by
     rw [List.take_add_one, List.getElem?_eq_getElem (by rw [← HN.out]; exact hmn)]
     have e : xs[m]'(by rw [← HN.out]; exact hmn) = (y : Int) := by rw [← hy, List.getD_eq_getElem?_getD, List.getElem?_eq_getElem (by rw [← HN.out]; exact hmn)]; rfl
     rw [e]
     have e2 : ((t : Int) = (y : Int)) ↔ t = y := by omega
     simp [← Bool.decide_or, e2])
    have hp2 : (m : Int) < n := by omega
    have hp3 : (0 : Int) ≤ m := by omega
    have hp4 : (y : Int) < nL := by omega
    have hp5 : (0 : Int) ≤ y := by omega
    clear hy hcell hu6 hr6 KP6
    gi_wp2
    go_roundw
    case rel => exact ⟨m + 1, by omega, by first | rfl | simp | go_num, hs9.congr (fun t _ => by rw [Bool.or_assoc, HTK.out]), hr9, KP9⟩
    case measure => simp [intOf]; omega
   obtain rfl : m = n := by omega
   gi_wp2
   refine ⟨KP6, ?_⟩
   show UsS (W0.heap.size + 2) w w.heap.size w3.heap.size w4.heap.size (w3.heap.size + 1) gS (some ⟨gA, oA, none⟩) nL cL (some ⟨gO, oO, none⟩) nO cO (leanS L nL out (k + 1)).1 (leanS L nL out (k + 1)).2 wr
   rw [HE.out]
   exact hu6.congr (fun t _ => by rw [List.take_of_length_le (by rw [← HN.out]; exact Nat.le_refl _)])
 case done =>
  rintro W hi hsz hD
  obtain ⟨v, iv, iown⟩ := hi.ins
  have hlen : (leanS L nL out nL).2.length ≤ 1000 := Nat.le_trans (leanS_len nL) (by omega)
  have hbel := hi.below
  have x0 := iv.at 0 (v := v)
  dsimp only
  go_wp2_with fail
  refine (tsort_own iown hlen).mono ?_
  rintro en w6 ⟨rfl, own6, hg6⟩
  have far : ∀ q, q < W0.heap.size + 2 → v.ownBlock ≠ some q := fun q hq e => by have := (iown.lt q e).1; omega
  have iv6 := iv.kept hg6 (far _ (by omega))
  have x6 := iv6.at 0 (v := v)
  have hD6 : w6.heap[W0.heap.size]? = some (.deferred (some [])) := (hg6.block _ (by omega) (fun e => far _ (by omega) e.symm)).trans hD
  have bel6 := hbel.grown hg6 hbel.size (fun q e => by have := (iown.lt q e).1; have := BB0.size; omega)
  have hsz6 := hg6.size
  have HFA := Lib.hid far
  clear far x0 hD hg6 iv
  go_wp2_with fail
  refine (tcompact_own own6 (by rw [List.length_mergeSort]; exact hlen)).mono ?_
  rintro en w7 ⟨A, c, rfl, hr, hg7⟩
  have hD7 : w7.heap[W0.heap.size]? = some (.deferred (some [])) := (hg7.block _ (by omega) (fun e => HFA.out _ (by omega) e.symm)).trans hD6
  have bel7 := bel6.grown hg7 bel6.size (fun q e => by have := (own6.lt q e).1; have := BB0.size; omega)
  have HQ7 := Lib.hid (show q = Lib.compact ((leanS L nL out nL).2.mergeSort fun x y => decide (x ≤ y)) by rw [HQ.out]; unfold usesL; rw [if_pos ⟨HMT.out, hbk⟩]; show Lib.compact ((leanS L nL (O ((kk : Int)).toNat).toNat nL).2.mergeSort fun x y => decide (x ≤ y)) = _; rw [Int.toNat_natCast, HOUT.out, Int.toNat_natCast])
  have hr8 := hr.calm (grownBy_putObj' w7 W0.heap.size (.deferred none)) (fun r e => by cases e; exact ⟨_, hD7, rfl⟩)
  have bel8 := bel7.trans (belowK_b (w := w) (Nat.le_refl _) w7 W0.heap.size (.deferred (some [])) (.deferred none) BB0.size hD7 rfl rfl)
  clear hr bel6 bel7 hD6 own6 iown hg7 x6 iv6 hi hbel HQ
  generalize Lib.compact ((leanS L nL out nL).2.mergeSort fun x y => decide (x ≤ y)) = cc at *
  go_wp2
  refine ⟨by simp, .inl ⟨_, _, rfl, run_takeDeferred hD7, ?_⟩⟩
  exact ⟨.slice A cc.length c, by simp [results, Tryz.f29, go_sem], by rw [HQ7.out]; exact ⟨A, c, rfl, hr8, bel8⟩⟩
 case stop =>
  rintro cd k W hk hf
  exact hf.elim
end Go.Proofs.YtlpeheonbbaffaaGreatDoor
