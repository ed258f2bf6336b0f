/-
 Contracts of jet's sum and product, where all is told, at this translation. Condition: the slices read as limbs, the table of math/bits reads as its text lays it.
-/
import Derived.StillTailTactics
import Derived.Deep.CutBlock
import Derived.Test.YteagjlcmgiknmaaGreatDoorQJf
set_option maxHeartbeats 8000000
set_option maxRecDepth 100000
namespace Go.Proofs.YteagjlcmgiknmaaGreatDoor
open Go.RowKit


theorem three_at' (w : World) (u1 u2 u3 : Value) (T1 T2 T3 : TypeId) : (((w.alloc (.cells #[u1] T1)).alloc (.cells #[u2] T2)).alloc (.cells #[u3] T3)).cell? ⟨w.heap.size, 0, none⟩ = some u1 ∧ (((w.alloc (.cells #[u1] T1)).alloc (.cells #[u2] T2)).alloc (.cells #[u3] T3)).cell? ⟨w.heap.size + 1, 0, none⟩ = some u2 ∧ (((w.alloc (.cells #[u1] T1)).alloc (.cells #[u2] T2)).alloc (.cells #[u3] T3)).cell? ⟨w.heap.size + 2, 0, none⟩ = some u3 := by
 have b2 := below_alloc (w.alloc (.cells #[u1] T1)) (.cells #[u2] T2)
 have b3 := below_alloc ((w.alloc (.cells #[u1] T1)).alloc (.cells #[u2] T2)) (.cells #[u3] T3)
 have x1 := mv b3 rfl (mv b2 rfl (Blk.new w #[u1] T1))
 have x2 := mv b3 rfl (Blk.new (w.alloc (.cells #[u1] T1)) #[u2] T2)
 have x3 := Blk.new ((w.alloc (.cells #[u1] T1)).alloc (.cells #[u2] T2)) #[u3] T3
 have e1 : (w.alloc (.cells #[u1] T1)).heap.size = w.heap.size + 1 := by simp
 have e2 : ((w.alloc (.cells #[u1] T1)).alloc (.cells #[u2] T2)).heap.size = w.heap.size + 2 := by simp
 rw [e1] at x2
 rw [e2] at x3
 exact ⟨x1.at 0, x2.at 0, x3.at 0⟩
theorem Ibx.six {w : World} {g g' : Nat} {s : Bool} {A : Option Addr} {n c : Nat} {e : Int} {t : Bool} {B : Option Addr} {m d : Nat} {f : Int} (h : Ibx w g' s A n c e t B m d f) (hne : g' ≠ g) (u0 u1 u2 u3 u4 u5 : Value) : Ibx ((((((w.setCell ⟨g, 0, none⟩ u0).setCell ⟨g, 1, none⟩ u1).setCell ⟨g, 2, none⟩ u2).setCell ⟨g, 3, none⟩ u3).setCell ⟨g, 4, none⟩ u4).setCell ⟨g, 5, none⟩ u5) g' s A n c e t B m d f :=
 (((((h.other hne 0 u0).other hne 1 u1).other hne 2 u2).other hne 3 u3).other hne 4 u4).other hne 5 u5

theorem jsum_ok (S : Sc) {w : World} {gs n : Nat} {ft : FuncId} {p1 p2 p3 p4 : Value} {F T : Nat → Iv} {p : Int} (hT : Tab w) (hf : ∀ (v : Value) (W2 : World), (callFunc ft #[v, p1, p2, p3, p4]).run Tryz.prog W2 = .ok (.enter ft #[v, p1, p2, p3, p4]) W2) (t5 : w.cell? ⟨gs, 4, none⟩ = some (.int .i64 p)) (ht : ∀ j, j ≤ n → ∀ W2 : World, Below w.heap.size w W2 → Calls Tryz.prog ft #[.int .i64 (j : Nat), p1, p2, p3, p4] W2 (GivI (T j) W2)) (h0 : F 0 = T 0) (hs : ∀ j, j < n → addF S (F j) (T (j + 1)) p = .ok (F (j + 1))) (hn : n ≤ 1000) :
  Calls Tryz.prog 113 #[.pointer (some ⟨gs, 0, none⟩), .int .i64 0, .int .i64 n, .func (Fn.func ft) #[] #[p1, p2, p3, p4]] w (GivI (F n) w) := by
 have HT := Lib.hid ht
 have HS := Lib.hid hs
 have H0 := Lib.hid h0
 have HF := hf
 clear ht hs h0 hf
 have lg := World.block_lt_of_cell? w _ t5
 have hTw := hT
 have b := below_alloc w (.cells #[.bool false, .slice none 0 0, .int .i64 0, .bool false, .slice none 0 0, .int .i64 0] 29)
 have BB := b
 have rr := Ibx.new w false none 0 0 0 false none 0 0 0
 replace t5 := mv b rfl t5
 have hn0 : (0 : Int) ≤ n := by omega
 have hn9 : (n : Int) ≤ 1000 := by omega
 clear b hT
 go_enter Tryz.func113, Tryz.ntmps113
 go_upto_region 1 with fail
 have lr := rr.gl
 generalize w.alloc (.cells #[.bool false, .slice none 0 0, .int .i64 0, .bool false, .slice none 0 0, .int .i64 0] 29) = W1 at *
 go_wp2_with fail
 refine (HT.out 0 (by omega) _ BB).mono ?_
 rintro en w2 ⟨A1, n1, c1, A2, n2, c2, rfl, hA, hB, b⟩
 have l2 := b.size
 replace BB := bnx BB b
 have G := mv b rfl <| And.intro rr <| t5
 clear rr t5
 obtain ⟨rr, t5⟩ := G
 clear b
 have b := below_alloc w2 (.cells #[.bool (T 0).lo.s, .slice A1 n1 c1, .int .i64 (T 0).lo.e, .bool (T 0).hi.s, .slice A2 n2 c2, .int .i64 (T 0).hi.e] 29)
 have xa := Ibx.new w2 (T 0).lo.s A1 n1 c1 (T 0).lo.e (T 0).hi.s A2 n2 c2 (T 0).hi.e
 replace BB := bnx BB b
 have G := mv b rfl (J4 rr t5 hA hB)
 clear rr t5 hA hB
 obtain ⟨rr, t5, hA, hB⟩ := G
 clear b
 go_upto_region 2 with fail
 generalize w2.alloc (.cells #[.bool (T 0).lo.s, .slice A1 n1 c1, .int .i64 (T 0).lo.e, .bool (T 0).hi.s, .slice A2 n2 c2, .int .i64 (T 0).hi.e] 29) = W3 at *
 generalize w2.heap.size = g9 at *
 have HG9 := Lib.hid (show w.heap.size < g9 by omega)
 rw [← H0.out] at xa hA hB
 go_wp2
 go_loopg [10] n (fun q v10 wr => ∃ (k : Nat) (A7 : Option Addr) (n7 c7 : Nat) (A8 : Option Addr) (n8 c8 : Nat), k + q = n ∧ v10 = .int .i64 ((k : Int) + 1) ∧ Below w.heap.size w wr ∧ Ibx wr g9 (F k).lo.s A7 n7 c7 (F k).lo.e (F k).hi.s A8 n8 c8 (F k).hi.e ∧ Rd wr .u64 Go.Proofs.YteagjlcmgiknmaaGreatDoor.W A7 n7 c7 (F k).lo.l ∧ Rd wr .u64 Go.Proofs.YteagjlcmgiknmaaGreatDoor.W A8 n8 c8 (F k).hi.l ∧ Ibx wr w.heap.size false none 0 0 0 false none 0 0 0 ∧ wr.cell? ⟨gs, 4, none⟩ = some (.int .i64 p))
 case atStart => exact ⟨0, A1, n1, c1, A2, n2, c2, by omega, rfl, BB, xa, hA, hB, rr, t5⟩
 case round =>
  clear BB xa hA hB rr t5
  obtain ⟨k, A3, n3, c3, A4, n4, c4, hg, rfl, BB, xa, hA, hB, rr, t5⟩ := hrel
  have HG := Lib.hid hg
  clear hg
  have hgw := HG9.out
  by_cases hk : k < n
  ·have hc1 : (k : Int) + 1 ≤ n := by omega
   go_upto_region 5 with fail
   have bd : Below wr.heap.size wr (World.drew wr) := below_drewN (Below.refl _ _) 1
   replace BB := below_next BB BB.size bd rfl rfl rfl rfl
   obtain ⟨k0, k1, k2, k3, k4, k5⟩ := xa.held
   have G := mv bd (by rfl) <| And.intro xa <| And.intro rr <| And.intro hA <| And.intro hB <| And.intro t5 <| And.intro k0 <| And.intro k1 <| And.intro k2 <| And.intro k3 <| And.intro k4 <| k5
   clear xa rr hA hB t5 k0 k1 k2 k3 k4 k5
   obtain ⟨xa, rr, hA, hB, t5, k0, k1, k2, k3, k4, k5⟩ := G
   clear bd
   go_wp2_with fail
   refine wp_region_held_drew (S := fun w' => w'.cell? ⟨gs, 4, none⟩ = some (.int .i64 p)) (by kernel_rfl) (by exact t5) (fun hHelds0 => ?_)
   generalize World.drew wr = wd at *
   refine tl 0 ?_
   refine tl 2 ?_
   refine tl 3 ?_
   refine wpAnyH_ready (rs := [1, 4]) (by kernel_rfl) (by simp) ?_
   refine AllReadyH.cons (o := _) rfl (fun K hK => ?_) (AllReadyH.cons (o := _) rfl (fun K hK => ?_) (AllReadyH.nil))
   go_simp
   refine hK.out _ _ (by exact t5) (fun hHelds1 => ?_)
   clear hK K hHelds0
   try simp only [Act.put]
   refine rdy 4 fun K hK => ?_
   go_simp
   refine (HT.out (k + 1) (by omega) _ BB).mono ?_
   rintro en u2 ⟨A5, n5, c5, A6, n6, c6, rfl, h5, h6, b⟩
   replace BB := bnx BB b
   have G := mv b (by rfl) <| And.intro xa <| And.intro rr <| And.intro hA <| And.intro hB <| And.intro t5 <| And.intro k0 <| And.intro k1 <| And.intro k2 <| And.intro k3 <| And.intro k4 <| k5
   clear xa rr hA hB t5 k0 k1 k2 k3 k4 k5
   obtain ⟨xa, rr, hA, hB, t5, k0, k1, k2, k3, k4, k5⟩ := G
   clear b
   refine hK.out _ _ (by exact t5) (fun hHelds2 => ?_)
   clear hK K hHelds1
   try simp only [Act.put]
   refine rdy 5 fun K hK => ?_
   go_simp
   have hT9 := mv BB rfl hTw
   refine (jadd_run S hT9 hA hB h5 h6 t5).mono ?_
   intro en u3 hh
   obtain ⟨A7, n7, c7, A8, n8, c8, rfl, h7, h8, b⟩ := run_ok hh (HS.out k (by omega))
   replace BB := bnx BB b
   clear hh hT9 hA hB h5 h6
   have G := mv b (by rfl) <| And.intro xa <| And.intro rr <| And.intro t5 <| And.intro k0 <| And.intro k1 <| And.intro k2 <| And.intro k3 <| And.intro k4 <| k5
   clear xa rr t5 k0 k1 k2 k3 k4 k5
   obtain ⟨xa, rr, t5, k0, k1, k2, k3, k4, k5⟩ := G
   clear b
   refine hK.out _ _ (by exact t5) (fun hHelds3 => ?_)
   clear hK K hHelds2
   try simp only [Act.put]
   rotate_left
   go_simp
   refine (HT.out (k + 1) (by omega) _ BB).mono ?_
   rintro en u1 ⟨A5, n5, c5, A6, n6, c6, rfl, h5, h6, b⟩
   replace BB := bnx BB b
   have G := mv b (by rfl) <| And.intro xa <| And.intro rr <| And.intro hA <| And.intro hB <| And.intro t5 <| And.intro k0 <| And.intro k1 <| And.intro k2 <| And.intro k3 <| And.intro k4 <| k5
   clear xa rr hA hB t5 k0 k1 k2 k3 k4 k5
   obtain ⟨xa, rr, hA, hB, t5, k0, k1, k2, k3, k4, k5⟩ := G
   clear b
   refine hK.out _ _ (by exact t5) (fun hHelds1 => ?_)
   clear hK K hHelds0
   try simp only [Act.put]
   refine rdy 1 fun K hK => ?_
   go_simp
   refine hK.out _ _ (by exact t5) (fun hHelds2 => ?_)
   clear hK K hHelds1
   try simp only [Act.put]
   refine rdy 5 fun K hK => ?_
   go_simp
   have hT9 := mv BB rfl hTw
   refine (jadd_run S hT9 hA hB h5 h6 t5).mono ?_
   intro en u3 hh
   obtain ⟨A7, n7, c7, A8, n8, c8, rfl, h7, h8, b⟩ := run_ok hh (HS.out k (by omega))
   replace BB := bnx BB b
   clear hh hT9 hA hB h5 h6
   have G := mv b (by rfl) <| And.intro xa <| And.intro rr <| And.intro t5 <| And.intro k0 <| And.intro k1 <| And.intro k2 <| And.intro k3 <| And.intro k4 <| k5
   clear xa rr t5 k0 k1 k2 k3 k4 k5
   obtain ⟨xa, rr, t5, k0, k1, k2, k3, k4, k5⟩ := G
   clear b
   refine hK.out _ _ (by exact t5) (fun hHelds3 => ?_)
   clear hK K hHelds2
   try simp only [Act.put]
   rotate_left
   all_goals (
    refine rdy 6 fun K hK => ?_
    obtain ⟨f0, f1, f2, f3, f4, f5⟩ := xa.open
    go_simp
    have xb := xa.put (F (k + 1)).lo.s A7 n7 c7 (F (k + 1)).lo.e (F (k + 1)).hi.s A8 n8 c8 (F (k + 1)).hi.e
    have g7 := h7.put6 xa (.bool (F (k + 1)).lo.s) (.slice A7 n7 c7) (.int .i64 (F (k + 1)).lo.e) (.bool (F (k + 1)).hi.s) (.slice A8 n8 c8) (.int .i64 (F (k + 1)).hi.e)
    have g8 := h8.put6 xa (.bool (F (k + 1)).lo.s) (.slice A7 n7 c7) (.int .i64 (F (k + 1)).lo.e) (.bool (F (k + 1)).hi.s) (.slice A8 n8 c8) (.int .i64 (F (k + 1)).hi.e)
    have rs := rr.six (g := g9) (by omega) (.bool (F (k + 1)).lo.s) (.slice A7 n7 c7) (.int .i64 (F (k + 1)).lo.e) (.bool (F (k + 1)).hi.s) (.slice A8 n8 c8) (.int .i64 (F (k + 1)).hi.e)
    have t6 := cell_oth6 (u0 := .bool (F (k + 1)).lo.s) (u1 := .slice A7 n7 c7) (u2 := .int .i64 (F (k + 1)).lo.e) (u3 := .bool (F (k + 1)).hi.s) (u4 := .slice A8 n8 c8) (u5 := .int .i64 (F (k + 1)).hi.e) t5 (show gs ≠ g9 by omega)
    have BX := below_put6 (g := g9) BB (by omega) (.bool (F (k + 1)).lo.s) (.slice A7 n7 c7) (.int .i64 (F (k + 1)).lo.e) (.bool (F (k + 1)).hi.s) (.slice A8 n8 c8) (.int .i64 (F (k + 1)).hi.e)
    refine hK.out _ _ (by exact t6) (fun hHelds4 => ?_)
    clear hK K hHelds3
    try simp only [Act.put]
    refine wpAnyH_done (by kernel_rfl) ?_ _
    clear xa rr h7 h8 BB t5 k0 k1 k2 k3 k4 k5
    go_wp2
    go_roundg (gk - 1)
    case measure => have := HG.out; omega
    case rel => exact ⟨k + 1, A7, n7, c7, A8, n8, c8, by have := HG.out; omega, by go_num, BX, xb, g7, g8, rs, t6⟩)
  ·have hkn : k = n := by have := HG.out; omega
   subst hkn
   have hc1 : ¬ (k : Int) + 1 ≤ k := by omega
   obtain ⟨k0, k1, k2, k3, k4, k5⟩ := xa.held
   obtain ⟨f0, f1, f2, f3, f4, f5⟩ := rr.open
   obtain ⟨z0, z1, z2, z3, z4, z5⟩ := rr.held
   go_wp2
   have r := rr
   have qq := r.put (F k).lo.s A3 n3 c3 (F k).lo.e (F k).hi.s A4 n4 c4 (F k).hi.e
   have hN := hA.put6 r (.bool (F k).lo.s) (.slice A3 n3 c3) (.int .i64 (F k).lo.e) (.bool (F k).hi.s) (.slice A4 n4 c4) (.int .i64 (F k).hi.e)
   have hM := hB.put6 r (.bool (F k).lo.s) (.slice A3 n3 c3) (.int .i64 (F k).lo.e) (.bool (F k).hi.s) (.slice A4 n4 c4) (.int .i64 (F k).hi.e)
   have HB3 := below_put6 (g := w.heap.size) BB (by omega) (.bool (F k).lo.s) (.slice A3 n3 c3) (.int .i64 (F k).lo.e) (.bool (F k).hi.s) (.slice A4 n4 c4) (.int .i64 (F k).hi.e)
   obtain ⟨z0, z1, z2, z3, z4, z5⟩ := qq.held
   exact bodyPost_ret (v := .agg #[.bool (F k).lo.s, .slice A3 n3 c3, .int .i64 (F k).lo.e, .bool (F k).hi.s, .slice A4 n4 c4, .int .i64 (F k).hi.e]) (by simp [results, Tryz.results113, go_sem, z0, z1, z2, z3, z4, z5]) rfl ⟨_, _, _, _, _, _, rfl, hN, hM, HB3⟩

theorem jproduct_ok (S : Sc) {w : World} {gs n na ca nb cb : Nat} {A B : Option Addr} {X Y : List Iv} {R : Iv} {p : Int} (hT : Tab w) (t5 : w.cell? ⟨gs, 4, none⟩ = some (.int .i64 p)) (hX : RdS w A na ca (fun i => X.getD i Iv.zero)) (hY : RdS w B nb cb (fun i => Y.getD i Iv.zero)) (ha : n < na) (hb : n < nb) (hn : n ≤ 1000) (hR : prodO S X Y n p n = .ok R) :
  Calls Tryz.prog 83 #[.pointer (some ⟨gs, 0, none⟩), .slice A na ca, .slice B nb cb, .int .i64 (n : Int)] w (GivI R w) := by
 obtain ⟨F, T, hT1, hT2, hT3, hT4⟩ := prod_parts hR
 have BB := three_below w (.cells #[.pointer (some ⟨gs, 0, none⟩)] 79) (.cells #[.slice A na ca] 40) (.cells #[.slice B nb cb] 40)
 obtain ⟨t1, t2, t3⟩ := three_at' w (.pointer (some ⟨gs, 0, none⟩)) (.slice A na ca) (.slice B nb cb) 79 40 40
 have e3 : (((w.alloc (.cells #[.pointer (some ⟨gs, 0, none⟩)] 79)).alloc (.cells #[.slice A na ca] 40)).alloc (.cells #[.slice B nb cb] 40)).heap.size = w.heap.size + 3 := by simp
 have b := below_alloc (((w.alloc (.cells #[.pointer (some ⟨gs, 0, none⟩)] 79)).alloc (.cells #[.slice A na ca] 40)).alloc (.cells #[.slice B nb cb] 40)) (.cells #[.int .i64 (n : Int)] 3)
 have t4 : World.cell? _ ⟨_, 0, none⟩ = some (.int .i64 (n : Int)) := (Blk.new (((w.alloc (.cells #[.pointer (some ⟨gs, 0, none⟩)] 79)).alloc (.cells #[.slice A na ca] 40)).alloc (.cells #[.slice B nb cb] 40)) #[.int .i64 (n : Int)] 3).at 0
 rw [e3] at t4
 replace hX := mv BB rfl hX
 replace hY := mv BB rfl hY
 replace hT := mv BB rfl hT
 replace t5 := mv BB rfl t5
 replace BB := bnx BB b
 have G := mv b rfl (J7 t1 t2 t3 hX hY hT t5)
 clear t1 t2 t3 hX hY hT t5
 obtain ⟨t1, t2, t3, hX, hY, hT, t5⟩ := G
 clear b e3
 have e4 : ((((w.alloc (.cells #[.pointer (some ⟨gs, 0, none⟩)] 79)).alloc (.cells #[.slice A na ca] 40)).alloc (.cells #[.slice B nb cb] 40)).alloc (.cells #[.int .i64 (n : Int)] 3)).heap.size = w.heap.size + 4 := by simp
 have b := below_alloc ((((w.alloc (.cells #[.pointer (some ⟨gs, 0, none⟩)] 79)).alloc (.cells #[.slice A na ca] 40)).alloc (.cells #[.slice B nb cb] 40)).alloc (.cells #[.int .i64 (n : Int)] 3)) (.cells #[.bool false, .slice none 0 0, .int .i64 0, .bool false, .slice none 0 0, .int .i64 0] 29)
 have r := Ibx.new ((((w.alloc (.cells #[.pointer (some ⟨gs, 0, none⟩)] 79)).alloc (.cells #[.slice A na ca] 40)).alloc (.cells #[.slice B nb cb] 40)).alloc (.cells #[.int .i64 (n : Int)] 3)) false none 0 0 0 false none 0 0 0
 rw [e4] at r
 replace BB := bnx BB b
 have G := mv b rfl (J8 t1 t2 t3 t4 hX hY hT t5)
 clear t1 t2 t3 t4 hX hY hT t5
 obtain ⟨t1, t2, t3, t4, hX, hY, hT, t5⟩ := G
 clear b e4
 have hmf := make_func
 have HRR := Lib.hid hT4
 have HPP := Lib.hid (And.intro hT1 (And.intro hT2 hT3))
 clear hT1 hT2 hT3 hT4 hR
 go_enter Tryz.func83, Tryz.ntmps83
 go_upto_region 1 with fail
 generalize ((((w.alloc (.cells #[.pointer (some ⟨gs, 0, none⟩)] 79)).alloc (.cells #[.slice A na ca] 40)).alloc (.cells #[.slice B nb cb] 40)).alloc (.cells #[.int .i64 (n : Int)] 3)).alloc (.cells #[.bool false, .slice none 0 0, .int .i64 0, .bool false, .slice none 0 0, .int .i64 0] 29) = W1 at *
 have HC := Lib.hid (jsum_ok S (n := n) (ft := 114) (p1 := .pointer (some ⟨w.heap.size, 0, none⟩)) (p2 := .pointer (some ⟨w.heap.size + 1, 0, none⟩)) (p3 := .pointer (some ⟨w.heap.size + 2, 0, none⟩)) (p4 := .pointer (some ⟨w.heap.size + 3, 0, none⟩)) (F := F) (T := T) hT (fun _ _ => by kernel_rfl) t5 (fun j hj W2 b => jprod1_ok S (mv b rfl hT) (cell_next b rfl t1) (cell_next b rfl t2) (cell_next b rfl t3) (cell_next b rfl t4) (cell_next b rfl t5) (mv b rfl hX) (mv b rfl hY) (by omega) hj (by omega) hn (HPP.out.1 j hj)) HPP.out.2.1 HPP.out.2.2 hn)
 rw [HRR.out] at HC
 clear hX hY hT
 go_wp2_with fail
 refine HC.out.mono ?_
 rintro en w2 ⟨A7, n7, c7, A8, n8, c8, rfl, h7, h8, b⟩
 replace BB := bnx BB b
 replace r := mv b rfl r
 clear b HC t1 t2 t3 t4 t5
 obtain ⟨f0, f1, f2, f3, f4, f5⟩ := r.open
 obtain ⟨z0, z1, z2, z3, z4, z5⟩ := r.held
 go_wp2
 have qq := r.put R.lo.s A7 n7 c7 R.lo.e R.hi.s A8 n8 c8 R.hi.e
 have hN := h7.put6 r (.bool R.lo.s) (.slice A7 n7 c7) (.int .i64 R.lo.e) (.bool R.hi.s) (.slice A8 n8 c8) (.int .i64 R.hi.e)
 have hM := h8.put6 r (.bool R.lo.s) (.slice A7 n7 c7) (.int .i64 R.lo.e) (.bool R.hi.s) (.slice A8 n8 c8) (.int .i64 R.hi.e)
 have HB3 := below_put6 (g := w.heap.size + 4) BB (by omega) (.bool R.lo.s) (.slice A7 n7 c7) (.int .i64 R.lo.e) (.bool R.hi.s) (.slice A8 n8 c8) (.int .i64 R.hi.e)
 obtain ⟨z0, z1, z2, z3, z4, z5⟩ := qq.held
 exact bodyPost_ret (v := .agg #[.bool R.lo.s, .slice A7 n7 c7, .int .i64 R.lo.e, .bool R.hi.s, .slice A8 n8 c8, .int .i64 R.hi.e]) (by simp [results, Tryz.results83, go_sem, z0, z1, z2, z3, z4, z5]) rfl ⟨_, _, _, _, _, _, rfl, hN, hM, HB3⟩

end Go.Proofs.YteagjlcmgiknmaaGreatDoor
set_option maxHeartbeats 8000000
set_option maxRecDepth 100000
namespace Go.Proofs.YteagjlcmgiknmaaGreatDoor
open Go.RowKit


theorem jreck1_ok {w : World} {kk R : Iv} {lo la lb : Int} {g g1 g2 gs gr i n k cn cc : Nat} {Ac : Option Addr} {A1 : Option Addr} {n1 c1 : Nat} {A2 : Option Addr} {n2 c2 : Nat} (x0 : w.cell? ⟨g, 0, none⟩ = some (.pointer (some ⟨gs, 0, none⟩))) (m0 : w.cell? ⟨g1, 0, none⟩ = some (.int .i64 lo)) (m1 : w.cell? ⟨g1, 1, none⟩ = some (.int .i64 la)) (m2 : w.cell? ⟨g1, 2, none⟩ = some (.int .i64 lb)) (m3 : w.cell? ⟨g1, 3, none⟩ = some (.bool kk.lo.s)) (m4 : w.cell? ⟨g1, 4, none⟩ = some (.slice A1 n1 c1)) (m5 : w.cell? ⟨g1, 5, none⟩ = some (.int .i64 kk.lo.e)) (m6 : w.cell? ⟨g1, 6, none⟩ = some (.bool kk.hi.s)) (m7 : w.cell? ⟨g1, 7, none⟩ = some (.slice A2 n2 c2)) (m8 : w.cell? ⟨g1, 8, none⟩ = some (.int .i64 kk.hi.e)) (x2 : w.cell? ⟨g2, 0, none⟩ = some (.int .i64 (i : Int))) (s3 : w.cell? ⟨gs, 3, none⟩ = some (.slice (some ⟨gr, 0, none⟩) n cn)) (rr : w.cell? ⟨gr, i, none⟩ = some (.slice Ac k cc)) (hi : i < n) (hN : ∀ w2 : World, Below w.heap.size w w2 → Calls Tryz.prog 50 #[.pointer (some ⟨gs, 0, none⟩), .agg #[.int .i64 lo, .int .i64 la, .int .i64 lb, .bool kk.lo.s, .slice A1 n1 c1, .int .i64 kk.lo.e, .bool kk.hi.s, .slice A2 n2 c2, .int .i64 kk.hi.e], .slice Ac k cc] w2 (GivI R w2)) :
  Calls Tryz.prog 49 #[.pointer (some ⟨g, 0, none⟩), .pointer (some ⟨g1, 0, none⟩), .pointer (some ⟨g2, 0, none⟩)] w (GivI R w) := by
 have HN := Lib.hid hN
 clear hN
 have hi2 : (i : Int) < n := by omega
 have hi3 : (0 : Int) ≤ i := by omega
 have l0 : g < w.heap.size := World.block_lt_of_cell? w _ x0
 have l1 : g1 < w.heap.size := World.block_lt_of_cell? w _ m0
 have l2 : g2 < w.heap.size := World.block_lt_of_cell? w _ x2
 have l3 : gs < w.heap.size := World.block_lt_of_cell? w _ s3
 have l4 : gr < w.heap.size := World.block_lt_of_cell? w _ rr
 have e0 : g ≠ w.heap.size := by omega
 have e1 : g1 ≠ w.heap.size := by omega
 have e2 : g2 ≠ w.heap.size := by omega
 have e3 : gs ≠ w.heap.size := by omega
 have e4 : gr ≠ w.heap.size := by omega
 have b := below_alloc w (.cells #[.bool false, .slice none 0 0, .int .i64 0, .bool false, .slice none 0 0, .int .i64 0] 29)
 have BB := b
 have r := Ibx.new w false none 0 0 0 false none 0 0 0
 have G := mv b rfl (J13 x0 m0 m1 m2 m3 m4 m5 m6 m7 m8 x2 s3 rr)
 clear x0 m0 m1 m2 m3 m4 m5 m6 m7 m8 x2 s3 rr
 obtain ⟨x0, m0, m1, m2, m3, m4, m5, m6, m7, m8, x2, s3, rr⟩ := G
 clear b
 go_enter Tryz.func49, Tryz.ntmps49
 go_upto_region 1 with fail
 generalize w.alloc (.cells #[.bool false, .slice none 0 0, .int .i64 0, .bool false, .slice none 0 0, .int .i64 0] 29) = W1 at *
 have b : Below W1.heap.size W1 (World.drew W1) := below_drewN (Below.refl _ _) 1
 replace BB := bnx BB b
 have G := mv b rfl (J14 r x0 m0 m1 m2 m3 m4 m5 m6 m7 m8 x2 s3 rr)
 clear r x0 m0 m1 m2 m3 m4 m5 m6 m7 m8 x2 s3 rr
 obtain ⟨r, x0, m0, m1, m2, m3, m4, m5, m6, m7, m8, x2, s3, rr⟩ := G
 clear b
 go_wp2_with fail
 refine wp_region_held_drew (S := fun w' => w'.cell? ⟨g, 0, none⟩ = some (.pointer (some ⟨gs, 0, none⟩)) ∧ w'.cell? ⟨g1, 0, none⟩ = some (.int .i64 lo) ∧ w'.cell? ⟨g1, 1, none⟩ = some (.int .i64 la) ∧ w'.cell? ⟨g1, 2, none⟩ = some (.int .i64 lb) ∧ w'.cell? ⟨g1, 3, none⟩ = some (.bool kk.lo.s) ∧ w'.cell? ⟨g1, 4, none⟩ = some (.slice A1 n1 c1) ∧ w'.cell? ⟨g1, 5, none⟩ = some (.int .i64 kk.lo.e) ∧ w'.cell? ⟨g1, 6, none⟩ = some (.bool kk.hi.s) ∧ w'.cell? ⟨g1, 7, none⟩ = some (.slice A2 n2 c2) ∧ w'.cell? ⟨g1, 8, none⟩ = some (.int .i64 kk.hi.e) ∧ w'.cell? ⟨g2, 0, none⟩ = some (.int .i64 (i : Int)) ∧ w'.cell? ⟨gs, 3, none⟩ = some (.slice (some ⟨gr, 0, none⟩) n cn) ∧ w'.cell? ⟨gr, i, none⟩ = some (.slice Ac k cc)) (by kernel_rfl) (by exact ⟨x0, m0, m1, m2, m3, m4, m5, m6, m7, m8, x2, s3, rr⟩) (fun hHeldz0 => ?_)
 generalize World.drew W1 = wd at *
 refine tl 0 ?_
 refine tl 1 ?_
 refine tl 2 ?_
 refine tl 3 ?_
 refine tl 4 ?_
 refine tl 5 ?_
 refine tl 6 ?_
 refine tl 7 ?_
 refine tl 8 ?_
 refine rdy 9 fun K hK => ?_
 go_simp
 refine (HN.out _ BB).mono ?_
 rintro en w2 ⟨A7, n7, c7, A8, n8, c8, rfl, h7, h8, b⟩
 replace BB := below_next BB BB.size b (by rfl) (by rfl) (by rfl) (by rfl)
 have G := mv b (by rfl) <| And.intro x0 <| And.intro m0 <| And.intro m1 <| And.intro m2 <| And.intro m3 <| And.intro m4 <| And.intro m5 <| And.intro m6 <| And.intro m7 <| And.intro m8 <| And.intro x2 <| And.intro s3 <| And.intro rr <| r
 clear x0 m0 m1 m2 m3 m4 m5 m6 m7 m8 x2 s3 rr r
 obtain ⟨x0, m0, m1, m2, m3, m4, m5, m6, m7, m8, x2, s3, rr, r⟩ := G
 clear b
 obtain ⟨f0, f1, f2, f3, f4, f5⟩ := r.open
 obtain ⟨z0, z1, z2, z3, z4, z5⟩ := r.held
 refine hK.out _ _ (by exact ⟨x0, m0, m1, m2, m3, m4, m5, m6, m7, m8, x2, s3, rr⟩) (fun hHeldz1 => ?_)
 clear hK K hHeldz0
 try simp only [Act.put]
 refine rdy 10 fun K hK => ?_
 go_simp
 refine hK.out _ _ (by exact ⟨cell_oth6 x0 e0, cell_oth6 m0 e1, cell_oth6 m1 e1, cell_oth6 m2 e1, cell_oth6 m3 e1, cell_oth6 m4 e1, cell_oth6 m5 e1, cell_oth6 m6 e1, cell_oth6 m7 e1, cell_oth6 m8 e1, cell_oth6 x2 e2, cell_oth6 s3 e3, cell_oth6 rr e4⟩) (fun hHeldz2 => ?_)
 clear hK K hHeldz1
 try simp only [Act.put]
 refine wpAnyH_done (by kernel_rfl) ?_ _
 go_wp2
 have qq := r.put R.lo.s A7 n7 c7 R.lo.e R.hi.s A8 n8 c8 R.hi.e
 have hN := h7.put6 r (.bool R.lo.s) (.slice A7 n7 c7) (.int .i64 R.lo.e) (.bool R.hi.s) (.slice A8 n8 c8) (.int .i64 R.hi.e)
 have hM := h8.put6 r (.bool R.lo.s) (.slice A7 n7 c7) (.int .i64 R.lo.e) (.bool R.hi.s) (.slice A8 n8 c8) (.int .i64 R.hi.e)
 have HB3 := below_put6 (g := w.heap.size) BB (by omega) (.bool R.lo.s) (.slice A7 n7 c7) (.int .i64 R.lo.e) (.bool R.hi.s) (.slice A8 n8 c8) (.int .i64 R.hi.e)
 obtain ⟨z0, z1, z2, z3, z4, z5⟩ := qq.held
 exact bodyPost_ret (v := .agg #[.bool R.lo.s, .slice A7 n7 c7, .int .i64 R.lo.e, .bool R.hi.s, .slice A8 n8 c8, .int .i64 R.hi.e]) (by simp [results, Tryz.results49, go_sem, z0, z1, z2, z3, z4, z5]) rfl ⟨_, _, _, _, _, _, rfl, hN, hM, HB3⟩

end Go.Proofs.YteagjlcmgiknmaaGreatDoor
