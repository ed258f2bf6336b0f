/-
  Contracts of ival's ends and check, of fault's Told of an interval, and of asked, at this translation.
-/
import Derived.Test.YtehfdfjpmmpndaaGreatDoorQIc
import Derived.Test.YtehfdfjpmmpndaaGreatDoorQRj
import Derived.OwnWalk
set_option maxHeartbeats 8000000
set_option maxRecDepth 100000
namespace Go.Proofs.YtehfdfjpmmpndaaGreatDoor
open Go.RowKit
variable {A1 : Option Addr} {K c c1 g k n1 : Nat} {e : Int} {p1 p2 : Value} {s : Bool} {w : World}
def Iv.at (x : Iv) (hi : Bool) : Rw := if hi then x.hi else x.lo
theorem iown_nil :
  Calls Tryz.prog 55 #[.agg #[.bool s, .slice none 0 c, .int .i64 e]] w (Owned s [] e 0 w) := by
 go_enter Tryz.func55, Tryz.ntmps55
 have hB := two_below w (.cells #[.bool s, .slice none 0 0, .int .i64 e] 28) (.cells #[.bool s, .slice none 0 0, .int .i64 e] 28)
 go_wp2
 exact bodyPost_ret (v := .agg #[.bool s, .slice none 0 0, .int .i64 e]) (by simp [results, Tryz.results55, go_sem]) rfl ⟨none, 0, rfl, Rd.nil _ _ _ _ (by omega), hB⟩
theorem iown_some {ad : Addr} {n c : Nat} {l : List Nat} (h : Rd w .u64 W (some ad) n c l) (hn : n ≤ 10000000000000) :
  Calls Tryz.prog 55 #[.agg #[.bool s, .slice (some ad) n c, .int .i64 e]] w (Owned s l e n w) := by
 obtain ⟨i0, hi, hz0, hz1, hz2⟩ := info_parts info64
 have A : Aside (∀ j u, (iv .u64 l)[j]? = some u → w.cell? (ad.add j) = some u) := by
  intro j u hj
  have hj' : j < n := by
   have := (List.getElem?_eq_some_iff.1 hj).1
   rw [iv_length, h.len] at this; exact this
  obtain ⟨b, o, e, hb, hc⟩ := h.at_ (by omega)
  injection e with e
  subst e
  rw [iv_get _ _ _ (by rw [h.len]; exact hj')] at hj
  rw [Addr.add_lit, hc j hj', hj]
 have hl : (iv .u64 l).length = n * 1 := by rw [iv_length, h.len, Nat.mul_one]
 have hB := two_below w (.cells #[.bool s, .slice (some ad) n c, .int .i64 e] 28) (.cells #[.bool false, .slice none 0 0, .int .i64 0] 28)
 have g := two_new w s false (some ad) none n c 0 0 e 0
 go_enter Tryz.func55, Tryz.ntmps55
 go_wp2_with (at_builtin; refine wpList_append_own _ rfl _ _ 26 rfl (w.heap.size + 2) 58 i0 (.int .u64 0) 1 8 Tryz.underlying26 hi hz0 hz1 hz2 rfl (by decide) _ _ _ rfl (World.ownsRow_nil ..) ad n c (iv .u64 l) rfl ?qc1 ?qc2 ?qc3 ?qc4 ?qc5 ?qc6 ?_)
 case qc1 => exact hl
 case qc2 =>
  intro j u hj
  exact Lib.cell?_alloc_some _ (Lib.cell?_alloc_some _ (A.out j u hj))
 case qc3 =>
  intro v hv
  obtain ⟨x, _, rfl⟩ := List.mem_map.1 hv
  rfl
 case qc4 => unfold maxLen; omega
 case qc5 => omega
 case qc6 => simp
 intro v' w1 hown hgrow hnil
 have hgn : ((w.alloc (.cells #[.bool s, .slice (some ad) n c, .int .i64 e] 28)).alloc (.cells #[.bool false, .slice none 0 0, .int .i64 0] 28)).grownBy w1 none := hgrow
 have b1 := below_none hgn
 have g1 := g.below b1 g.b.gl
 have BB := hB.trans (b1.mono hB.size)
 have hown' : Own (w.heap.size + 2) w1 58 .u64 v' l := by unfold Own; rw [h.len]; exact hown
 obtain ⟨A', c', rfl, hrd⟩ := hown'.rd h.lt
 rw [h.len] at hrd ⊢
 obtain ⟨q0, q1, q2, q3, q4, q5⟩ := g1.held
 have f1 := g1.a.frozen 1
 obtain ⟨f2, f3, f4⟩ := g1.b.open
 have ne1 : ¬ w.heap.size = w.heap.size + 1 := by omega
 have ne2 : ¬ w.heap.size + 1 = w.heap.size := by omega
 clear hown hgrow hnil hgn hown' hl g b1 hB A hi hz0 hz1 hz2
 go_wp2
 have p := (g1.b.other (g' := w.heap.size) (by omega) 1 (.slice A' n c')).put s A' n c' e
 have na := hrd.off g1.a.no
 have nb := hrd.off g1.b.no
 have hN := (((hrd.set1 na 1 (.slice A' n c')).set1 nb 0 (.bool s)).set1 nb 1 (.slice A' n c')).set1 nb 2 (.int .i64 e)
 have HB3 := below_put3 (g := w.heap.size + 1) (BB.setCell (p := ⟨w.heap.size, 1, none⟩) (Nat.le_refl _) (.slice A' n c')) (by omega) (.bool s) (.slice A' n c') (.int .i64 e)
 obtain ⟨z0, z1, z2⟩ := p.held
 exact bodyPost_ret (v := .agg #[.bool s, .slice A' n c', .int .i64 e]) (by simp [results, Tryz.results55, go_sem, z0, z1, z2]) rfl ⟨_, _, rfl, hN, HB3⟩
theorem iown_any {A : Option Addr} {n c : Nat} {l : List Nat} (h : Rd w .u64 W A n c l) (hn : n ≤ 10000000000000) :
  Calls Tryz.prog 55 #[.agg #[.bool s, .slice A n c, .int .i64 e]] w (Owned s l e n w) := by
 rcases A with _ | ad
 ·have h0 : n = 0 := by
   rcases Nat.eq_zero_or_pos n with h0 | h0
   ·exact h0
   obtain ⟨_, _, e, _⟩ := h.at_ (by omega)
   cases e
  subst h0
  have e := h.empty rfl
  subst e
  exact iown_nil
 exact iown_some h hn
theorem of1_any {a : Rw} {hi : Bool} (h1 : Rd w .u64 W A1 n1 c1 a.l) (xa : Box w g a.s A1 n1 c1 a.e) :
  Calls Tryz.prog 29 #[.bool hi, .pointer (some ⟨g, 0, none⟩)] w (GivQ a w) := by
 have la := xa.gl
 obtain ⟨a0, a1, a2⟩ := (xa.next (below_alloc w (.cells #[.bool false, .slice none 0 0, .int .i64 0] 28)) rfl).held
 have r := Box.new w false none 0 0 0
 obtain ⟨f0, f1, f2⟩ := r.open
 obtain ⟨z0, z1, z2⟩ := r.held
 clear xa
 go_enter Tryz.func29, Tryz.ntmps29
 go_wp2
 exact bodyPost_ret (v := .agg #[.bool a.s, .slice A1 n1 c1, .int .i64 a.e]) (by simp [results, Tryz.results29, go_sem]) rfl ⟨_, _, _, rfl, h1.next (below_alloc w (.cells #[.bool a.s, .slice A1 n1 c1, .int .i64 a.e] 28)) rfl, below_alloc w _⟩
theorem cell_oth {k g i : Nat} {v : Value} (h : w.cell? ⟨k, i, none⟩ = some v) (hne : k ≠ g) (j : Nat) (u : Value) : (w.setCell ⟨g, j, none⟩ u).cell? ⟨k, i, none⟩ = some v := by
 have e := Below.heap_setCell w ⟨g, j, none⟩ u k hne
 unfold World.cell? at h ⊢
 simpa [e] using h
theorem cell_oth6 {k g i : Nat} {v u0 u1 u2 u3 u4 u5 : Value} (h : w.cell? ⟨k, i, none⟩ = some v) (hne : k ≠ g) : ((((((w.setCell ⟨g, 0, none⟩ u0).setCell ⟨g, 1, none⟩ u1).setCell ⟨g, 2, none⟩ u2).setCell ⟨g, 3, none⟩ u3).setCell ⟨g, 4, none⟩ u4).setCell ⟨g, 5, none⟩ u5).cell? ⟨k, i, none⟩ = some v :=
 cell_oth (cell_oth (cell_oth (cell_oth (cell_oth (cell_oth h hne 0 u0) hne 1 u1) hne 2 u2) hne 3 u3) hne 4 u4) hne 5 u5
theorem ends1_ok {x : Iv} {f : FuncId} (hf : ∀ (v : Value) (W2 : World), (callFunc f #[v, p1]).run Tryz.prog W2 = .ok (.enter f #[v, p1]) W2) (la : x.lo.l.length ≤ 10000000000000) (hlo : ∀ W2 : World, Below w.heap.size w W2 → Calls Tryz.prog f #[.bool false, p1] W2 (GivQ x.lo W2)) (lb : x.hi.l.length ≤ 10000000000000) (hhi : ∀ W2 : World, Below w.heap.size w W2 → Calls Tryz.prog f #[.bool true, p1] W2 (GivQ x.hi W2)) :
  Calls Tryz.prog 28 #[.func (Fn.func f) #[] #[p1]] w (GivI x w) := by
 have BB := below_alloc w (.cells #[.bool false, .slice none 0 0, .int .i64 0, .bool false, .slice none 0 0, .int .i64 0] 30)
 have r := Ibx.new w false none 0 0 0 false none 0 0 0
 have HLO := hyd hlo
 clear hlo
 have HHI := hyd hhi
 clear hhi
 have LA := hyd la
 clear la
 have LB := hyd lb
 clear lb
 go_enter Tryz.func28, Tryz.ntmps28
 go_wp2_with fail
 refine (HLO.out _ BB).mono ?_
 rintro en w1 ⟨A1, n3, c1, rfl, h1, b⟩
 replace BB := bnx BB b
 replace r := mv b rfl r
 clear b
 go_wp2_with fail
 refine (iown_any (s := x.lo.s) (e := x.lo.e) h1 (by rw [← h1.len]; exact LA.out)).mono ?_
 rintro en w2 ⟨A3, c3, rfl, h3, b⟩
 clear h1
 replace BB := bnx BB b
 replace r := mv b rfl r
 clear b
 have ny : w2.heap.size ≠ w.heap.size := by have := r.gl; omega
 obtain ⟨y0, y1, y2⟩ := (Box.new w2 x.lo.s A3 n3 c3 x.lo.e).held
 have b := below_alloc w2 (.cells #[.bool x.lo.s, .slice A3 n3 c3, .int .i64 x.lo.e] 28)
 replace BB := bnx BB b
 have G := mv b rfl <| And.intro r <| h3
 clear b r h3
 obtain ⟨r, h3⟩ := G
 clear HLO LA
 go_wp2_with fail
 have b := drew_b (w2.alloc (.cells #[.bool x.lo.s, .slice A3 n3 c3, .int .i64 x.lo.e] 28))
 replace BB := bnx BB b
 have G := mv b rfl (J5 r h3 y0 y1 y2)
 clear b r h3 y0 y1 y2
 obtain ⟨r, h3, y0, y1, y2⟩ := G
 generalize hwd : World.drew (w2.alloc (.cells #[.bool x.lo.s, .slice A3 n3 c3, .int .i64 x.lo.e] 28)) = wd at *
 have HS := J3 y0 y1 y2
 revert HS
 apply rg hwd
 intro hHeldv0
 clear hwd
 refine tl 0 ?_
 refine tl 1 ?_
 refine rdy 2 fun K hK => ?_
 go_simp
 refine (HHI.out _ BB).mono ?_
 rintro en w' ⟨A2, n4, c2, rfl, h2, b⟩
 replace BB := bnx BB b
 have G := mv b (by rfl) (J5 r h3 y0 y1 y2)
 clear b r h3 y0 y1 y2
 obtain ⟨r, h3, y0, y1, y2⟩ := G
 refine kp hK ⟨y0, y1, y2⟩ fun hHeldv1 => ?_
 clear hK K hHeldv0
 try simp only [Act.put]
 refine rdy 3 fun K hK => ?_
 go_simp
 refine (iown_any (s := x.hi.s) (e := x.hi.e) h2 (by rw [← h2.len]; exact LB.out)).mono ?_
 rintro en w' ⟨A4, c4, rfl, h4, b⟩
 clear h2
 replace BB := bnx BB b
 have G := mv b (by rfl) (J5 r h3 y0 y1 y2)
 clear b r h3 y0 y1 y2
 obtain ⟨r, h3, y0, y1, y2⟩ := G
 obtain ⟨f0, f1, f2, f3, f4, f5⟩ := r.open
 obtain ⟨z0, z1, z2, z3, z4, z5⟩ := r.held
 refine kp hK ⟨y0, y1, y2⟩ fun hHeldv2 => ?_
 clear hK K hHeldv1
 try simp only [Act.put]
 refine tl 4 ?_
 refine rdy 5 fun K hK => ?_
 go_simp
 refine kp hK ⟨cell_oth6 y0 ny, cell_oth6 y1 ny, cell_oth6 y2 ny⟩ fun hHeldv3 => ?_
 clear hK K hHeldv2
 try simp only [Act.put]
 refine wpAnyH_done (by kernel_rfl) ?_ _
 go_wp2
 exact ret6 rfl rfl rfl r h3 h4 BB (by omega) fun _ hN hM HB3 => ⟨_, _, _, _, _, _, rfl, hN, hM, HB3⟩
theorem ends2_ok {x : Iv} {f : FuncId} (hf : ∀ (v : Value) (W2 : World), (callFunc f #[v, p1, p2]).run Tryz.prog W2 = .ok (.enter f #[v, p1, p2]) W2) (la : x.lo.l.length ≤ 10000000000000) (hlo : ∀ W2 : World, Below w.heap.size w W2 → Calls Tryz.prog f #[.bool false, p1, p2] W2 (GivQ x.lo W2)) (lb : x.hi.l.length ≤ 10000000000000) (hhi : ∀ W2 : World, Below w.heap.size w W2 → Calls Tryz.prog f #[.bool true, p1, p2] W2 (GivQ x.hi W2)) :
  Calls Tryz.prog 28 #[.func (Fn.func f) #[] #[p1, p2]] w (GivI x w) := by
 have BB := below_alloc w (.cells #[.bool false, .slice none 0 0, .int .i64 0, .bool false, .slice none 0 0, .int .i64 0] 30)
 have r := Ibx.new w false none 0 0 0 false none 0 0 0
 have HLO := hyd hlo
 clear hlo
 have HHI := hyd hhi
 clear hhi
 have LA := hyd la
 clear la
 have LB := hyd lb
 clear lb
 go_enter Tryz.func28, Tryz.ntmps28
 go_wp2_with fail
 refine (HLO.out _ BB).mono ?_
 rintro en w1 ⟨A1, n3, c1, rfl, h1, b⟩
 replace BB := bnx BB b
 replace r := mv b rfl r
 clear b
 go_wp2_with fail
 refine (iown_any (s := x.lo.s) (e := x.lo.e) h1 (by rw [← h1.len]; exact LA.out)).mono ?_
 rintro en w2 ⟨A3, c3, rfl, h3, b⟩
 clear h1
 replace BB := bnx BB b
 replace r := mv b rfl r
 clear b
 have ny : w2.heap.size ≠ w.heap.size := by have := r.gl; omega
 obtain ⟨y0, y1, y2⟩ := (Box.new w2 x.lo.s A3 n3 c3 x.lo.e).held
 have b := below_alloc w2 (.cells #[.bool x.lo.s, .slice A3 n3 c3, .int .i64 x.lo.e] 28)
 replace BB := bnx BB b
 have G := mv b rfl <| And.intro r <| h3
 clear b r h3
 obtain ⟨r, h3⟩ := G
 clear HLO LA
 go_wp2_with fail
 have b := drew_b (w2.alloc (.cells #[.bool x.lo.s, .slice A3 n3 c3, .int .i64 x.lo.e] 28))
 replace BB := bnx BB b
 have G := mv b rfl (J5 r h3 y0 y1 y2)
 clear b r h3 y0 y1 y2
 obtain ⟨r, h3, y0, y1, y2⟩ := G
 generalize hwd : World.drew (w2.alloc (.cells #[.bool x.lo.s, .slice A3 n3 c3, .int .i64 x.lo.e] 28)) = wd at *
 have HS := J3 y0 y1 y2
 revert HS
 apply rg hwd
 intro hHeldv0
 clear hwd
 refine tl 0 ?_
 refine tl 1 ?_
 refine rdy 2 fun K hK => ?_
 go_simp
 refine (HHI.out _ BB).mono ?_
 rintro en w' ⟨A2, n4, c2, rfl, h2, b⟩
 replace BB := bnx BB b
 have G := mv b (by rfl) (J5 r h3 y0 y1 y2)
 clear b r h3 y0 y1 y2
 obtain ⟨r, h3, y0, y1, y2⟩ := G
 refine kp hK ⟨y0, y1, y2⟩ fun hHeldv1 => ?_
 clear hK K hHeldv0
 try simp only [Act.put]
 refine rdy 3 fun K hK => ?_
 go_simp
 refine (iown_any (s := x.hi.s) (e := x.hi.e) h2 (by rw [← h2.len]; exact LB.out)).mono ?_
 rintro en w' ⟨A4, c4, rfl, h4, b⟩
 clear h2
 replace BB := bnx BB b
 have G := mv b (by rfl) (J5 r h3 y0 y1 y2)
 clear b r h3 y0 y1 y2
 obtain ⟨r, h3, y0, y1, y2⟩ := G
 obtain ⟨f0, f1, f2, f3, f4, f5⟩ := r.open
 obtain ⟨z0, z1, z2, z3, z4, z5⟩ := r.held
 refine kp hK ⟨y0, y1, y2⟩ fun hHeldv2 => ?_
 clear hK K hHeldv1
 try simp only [Act.put]
 refine tl 4 ?_
 refine rdy 5 fun K hK => ?_
 go_simp
 refine kp hK ⟨cell_oth6 y0 ny, cell_oth6 y1 ny, cell_oth6 y2 ny⟩ fun hHeldv3 => ?_
 clear hK K hHeldv2
 try simp only [Act.put]
 refine wpAnyH_done (by kernel_rfl) ?_ _
 go_wp2
 exact ret6 rfl rfl rfl r h3 h4 BB (by omega) fun _ hN hM HB3 => ⟨_, _, _, _, _, _, rfl, hN, hM, HB3⟩
theorem ends2_lo {f : FuncId} {k : Int} (hf : ∀ (v : Value) (W2 : World), (callFunc f #[v, p1, p2]).run Tryz.prog W2 = .ok (.enter f #[v, p1, p2]) W2) (hlo : ∀ W2 : World, Below w.heap.size w W2 → Calls Tryz.prog f #[.bool false, p1, p2] W2 (Faults k W2)) :
  Calls Tryz.prog 28 #[.func (Fn.func f) #[] #[p1, p2]] w (Faults k w) := by
 have BB := below_alloc w (.cells #[.bool false, .slice none 0 0, .int .i64 0, .bool false, .slice none 0 0, .int .i64 0] 30)
 have HLO := hyd hlo
 clear hlo
 go_enter Tryz.func28, Tryz.ntmps28
 go_wp2_with fail
 refine (HLO.out _ BB).mono ?_
 rintro en w1 ⟨rfl, b⟩
 replace BB := bnx BB b
 clear b HLO
 go_wp2
 exact ⟨rfl, rfl, BB⟩
theorem ends2_hi {x : Iv} {f : FuncId} {k : Int} (hf : ∀ (v : Value) (W2 : World), (callFunc f #[v, p1, p2]).run Tryz.prog W2 = .ok (.enter f #[v, p1, p2]) W2) (la : x.lo.l.length ≤ 10000000000000) (hlo : ∀ W2 : World, Below w.heap.size w W2 → Calls Tryz.prog f #[.bool false, p1, p2] W2 (GivQ x.lo W2)) (hhi : ∀ W2 : World, Below w.heap.size w W2 → Calls Tryz.prog f #[.bool true, p1, p2] W2 (Faults k W2)) :
  Calls Tryz.prog 28 #[.func (Fn.func f) #[] #[p1, p2]] w (Faults k w) := by
 have BB := below_alloc w (.cells #[.bool false, .slice none 0 0, .int .i64 0, .bool false, .slice none 0 0, .int .i64 0] 30)
 have HLO := hyd hlo
 clear hlo
 have HHI := hyd hhi
 clear hhi
 have LA := hyd la
 clear la
 go_enter Tryz.func28, Tryz.ntmps28
 go_wp2_with fail
 refine (HLO.out _ BB).mono ?_
 rintro en w1 ⟨A1, n3, c1, rfl, h1, b⟩
 replace BB := bnx BB b
 clear b
 go_wp2_with fail
 refine (iown_any (s := x.lo.s) (e := x.lo.e) h1 (by rw [← h1.len]; exact LA.out)).mono ?_
 rintro en w2 ⟨A3, c3, rfl, h3, b⟩
 clear h1
 replace BB := bnx BB b
 clear b
 obtain ⟨y0, y1, y2⟩ := (Box.new w2 x.lo.s A3 n3 c3 x.lo.e).held
 have b := below_alloc w2 (.cells #[.bool x.lo.s, .slice A3 n3 c3, .int .i64 x.lo.e] 28)
 replace BB := bnx BB b
 replace h3 := mv b rfl h3
 clear b
 clear HLO LA
 go_wp2_with fail
 have b := drew_b (w2.alloc (.cells #[.bool x.lo.s, .slice A3 n3 c3, .int .i64 x.lo.e] 28))
 replace BB := bnx BB b
 have G := mv b rfl (J4 h3 y0 y1 y2)
 clear b h3 y0 y1 y2
 obtain ⟨h3, y0, y1, y2⟩ := G
 generalize hwd : World.drew (w2.alloc (.cells #[.bool x.lo.s, .slice A3 n3 c3, .int .i64 x.lo.e] 28)) = wd at *
 have HS := J3 y0 y1 y2
 revert HS
 apply rg hwd
 intro hHeldv0
 clear hwd
 refine tl 0 ?_
 refine tl 1 ?_
 refine rdy 2 fun K hK => ?_
 go_simp
 refine (HHI.out _ BB).mono ?_
 rintro en w' ⟨rfl, b⟩
 exact ⟨rfl, rfl, bnx BB b⟩
set_option maxHeartbeats 8000000
set_option maxRecDepth 100000
def IvAt (w : World) (g o : Nat) (x : Iv) : Prop := ∃ A1 n1 c1 A2 n2 c2, (w.cell? ⟨g, o, none⟩ = some (.bool x.lo.s) ∧ w.cell? ⟨g, o + 1, none⟩ = some (.slice A1 n1 c1) ∧ w.cell? ⟨g, o + 2, none⟩ = some (.int .i64 x.lo.e) ∧ w.cell? ⟨g, o + 3, none⟩ = some (.bool x.hi.s) ∧ w.cell? ⟨g, o + 4, none⟩ = some (.slice A2 n2 c2) ∧ w.cell? ⟨g, o + 5, none⟩ = some (.int .i64 x.hi.e)) ∧ Rd w .u64 W A1 n1 c1 x.lo.l ∧ Rd w .u64 W A2 n2 c2 x.hi.l
theorem IvAt.next {w X w2 : World} {g o : Nat} {x : Iv} (h : IvAt w g o x) (b : Below X.heap.size X w2) (e : X.heap = w.heap) : IvAt w2 g o x := by
 obtain ⟨A1, n1, c1, A2, n2, c2, ⟨h0, h1, h2, h3, h4, h5⟩, r1, r2⟩ := h
 have key : ∀ (p : Addr) (v : Value), w.cell? p = some v → w2.cell? p = some v := fun p v h => by
  have h1 : X.cell? p = some v := by rw [← h]; unfold World.cell?; rw [e]
  exact (b.cell (World.block_lt_of_cell? X _ h1)).trans h1
 exact ⟨A1, n1, c1, A2, n2, c2, ⟨key _ _ h0, key _ _ h1, key _ _ h2, key _ _ h3, key _ _ h4, key _ _ h5⟩, r1.next b e, r2.next b e⟩
instance {w w2 : World} {g o : Nat} {x : Iv} : Moves w w2 (IvAt w g o x) (IvAt w2 g o x) := ⟨fun _ b e h => h.next b e⟩
def Ivs (w : World) (g o k : Nat) (X : Nat → Iv) : Prop := ∀ i, i < k → IvAt w g (o + i * 6) (X i)
theorem Ivs.next {w Y w2 : World} {g o k : Nat} {X : Nat → Iv} (h : Ivs w g o k X) (b : Below Y.heap.size Y w2) (e : Y.heap = w.heap) : Ivs w2 g o k X := fun i hi => (h i hi).next b e
instance {w w2 : World} {g o k : Nat} {X : Nat → Iv} : Moves w w2 (Ivs w g o k X) (Ivs w2 g o k X) := ⟨fun _ b e h => h.next b e⟩
theorem ivs_one (w : World) {x : Iv} {A2 : Option Addr} {n2 c2 : Nat} (h1 : Rd w .u64 W A1 n1 c1 x.lo.l) (h2 : Rd w .u64 W A2 n2 c2 x.hi.l) : Ivs (w.alloc (.cells #[.bool x.lo.s, .slice A1 n1 c1, .int .i64 x.lo.e, .bool x.hi.s, .slice A2 n2 c2, .int .i64 x.hi.e] 30)) w.heap.size 0 1 (fun _ => x) := by
 have b := below_alloc w (.cells #[.bool x.lo.s, .slice A1 n1 c1, .int .i64 x.lo.e, .bool x.hi.s, .slice A2 n2 c2, .int .i64 x.hi.e] 30)
 intro i hi
 obtain rfl : i = 0 := by omega
 exact ⟨A1, n1, c1, A2, n2, c2, (Ibx.new w x.lo.s A1 n1 c1 x.lo.e x.hi.s A2 n2 c2 x.hi.e).held, h1.next b rfl, h2.next b rfl⟩
theorem ivs_two (w : World) {x y : Iv} {A2 : Option Addr} {n2 c2 : Nat} {A3 : Option Addr} {n3 c3 : Nat} {A4 : Option Addr} {n4 c4 : Nat} (h1 : Rd w .u64 W A1 n1 c1 x.lo.l) (h2 : Rd w .u64 W A2 n2 c2 x.hi.l) (h3 : Rd w .u64 W A3 n3 c3 y.lo.l) (h4 : Rd w .u64 W A4 n4 c4 y.hi.l) : Ivs (w.alloc (.cells #[.bool x.lo.s, .slice A1 n1 c1, .int .i64 x.lo.e, .bool x.hi.s, .slice A2 n2 c2, .int .i64 x.hi.e, .bool y.lo.s, .slice A3 n3 c3, .int .i64 y.lo.e, .bool y.hi.s, .slice A4 n4 c4, .int .i64 y.hi.e] 30)) w.heap.size 0 2 (fun i => if i = 0 then x else y) := by
 have b := below_alloc w (.cells #[.bool x.lo.s, .slice A1 n1 c1, .int .i64 x.lo.e, .bool x.hi.s, .slice A2 n2 c2, .int .i64 x.hi.e, .bool y.lo.s, .slice A3 n3 c3, .int .i64 y.lo.e, .bool y.hi.s, .slice A4 n4 c4, .int .i64 y.hi.e] 30)
 intro i hi
 rcases (show i = 0 ∨ i = 1 by omega) with rfl | rfl
 ·exact ⟨A1, n1, c1, A2, n2, c2, ⟨new_cell w _ _ 0, new_cell w _ _ 1, new_cell w _ _ 2, new_cell w _ _ 3, new_cell w _ _ 4, new_cell w _ _ 5⟩, h1.next b rfl, h2.next b rfl⟩
 exact ⟨A3, n3, c3, A4, n4, c4, ⟨new_cell w _ _ 6, new_cell w _ _ 7, new_cell w _ _ 8, new_cell w _ _ 9, new_cell w _ _ 10, new_cell w _ _ 11⟩, h3.next b rfl, h4.next b rfl⟩
theorem icheck_all {X : Nat → Iv} (hK : 4194304 ≤ K) (hT : Tab w) (h : Ivs w g 0 k X) (hk : k ≤ 1000) (hd : ∀ i, i < k → mayI K (X i) = true) :
  Calls Tryz.prog 134 #[.slice (some ⟨g, 0, none⟩) k k] w fun en w' => en = .returned (.tuple #[]) ∧ Below w.heap.size w w' := by
 have HD := hyd hd
 clear hd
 go_enter Tryz.func134, Tryz.ntmps134
 go_wp2
 go_loopg [6] k (fun q v wr => ∃ i : Nat, i + q = k ∧ v = .int .i64 i ∧ Below w.heap.size w wr)
 case atStart => exact ⟨0, by omega, rfl, Below.refl _ _⟩
 case round =>
  obtain ⟨i, hg, rfl, hb⟩ := hrel
  have HG := hyd hg
  clear hg
  by_cases hi : i < k
  ·obtain ⟨A1, n1, c1, A2, n2, c2, ⟨r0, r1, r2, r3, r4, r5⟩, q1, q2⟩ := (h.next hb rfl) i hi
   have hT1 := hT.next hb rfl
   have HM := hyd (HD.out i hi)
   generalize X i = x at *
   have z6 : 0 + i * 6 = i * 6 := by omega
   rw [z6] at r0 r1 r2 r3 r4 r5
   clear z6
   have hp2 : (i : Int) < k := by omega
   have hp3 : (0 : Int) ≤ i := by omega
   have b1 := below_alloc wr (.cells #[.bool x.lo.s, .slice A1 n1 c1, .int .i64 x.lo.e, .bool x.hi.s, .slice A2 n2 c2, .int .i64 x.hi.e] 30)
   obtain ⟨z0, z1, z2, z3, z4, z5⟩ := (Ibx.new wr x.lo.s A1 n1 c1 x.lo.e x.hi.s A2 n2 c2 x.hi.e).held
   replace q1 := q1.next b1 rfl
   replace q2 := q2.next b1 rfl
   replace hT1 := hT1.next b1 rfl
   clear HD
   go_wp2_with fail
   refine (imay_any (K := K) (x := x) hK hT1 q1 q2).mono ?_
   rintro en w2 ⟨rfl, b⟩
   rw [HM.out]
   have hb2 := below_next (below_next hb hb.size b1 rfl rfl rfl rfl) (by have := hb.size; have := b1.size; omega) b rfl rfl rfl rfl
   clear b r0 r1 r2 r3 r4 r5 z0 z1 z2 z3 z4 z5 q1 q2 hT1 b1 HM
   go_wp2
   go_roundg (gk - 1)
   case measure => have := HG.out; omega
   case rel => exact ⟨i + 1, by have := HG.out; omega, by go_num, hb2⟩
  have : i = k := by have := HG.out; omega
  subst this
  go_wp2
  simp [bodyPost, results, Tryz.results134, hb]
theorem icatch_idle (q : Addr) (w : World) :
  CallsD Tryz.prog 83 #[.pointer (some q)] .returning w fun e u' w' => e = .returned (.tuple #[]) ∧ u' = .returning ∧ w' = w := by
 refine callsD_of_wpS Tryz.func83 rfl fun c₀ cs hu => ?_
 apply wpS_seq
 apply wpS_region
 simp [wpOpsS, go_sem, recoverD, hu, Tryz.ntmps83, Exit.thenS]
 refine wpS_of_wp ?_
 go_wp2
 cases c₀
 simp_all [bodyPostS, results, Tryz.results83]
theorem icatch_fault {q : Nat} {x k : Int} {older : List PanicEntry} (hc : Cel w q x) :
  CallsD Tryz.prog 83 #[.pointer (some ⟨q, 0, none⟩)] (.panicking ({ v := .iface 95 (.int .i64 k), recovered := false } :: older)) w fun e u' w' =>
   e = .returned (.tuple #[]) ∧ u' = .panicking ({ v := .iface 95 (.int .i64 k), recovered := true } :: older) ∧
   w' = w.setCell ⟨q, 0, none⟩ (.int .i64 k) := by
 have d0 := hc.c0
 have d1 := hc.frozen 0
 have hta : ∀ w : World, (Instr.typeAssert (Value.iface 95 (.int .i64 k)) 20 95 true).run Tryz.prog w = .ok (.tuple #[.int .i64 k, .bool true]) w := fault_is k
 refine callsD_of_wpS Tryz.func83 rfl fun c₀ cs hu => ?_
 apply wpS_seq
 apply wpS_region
 simp [wpOpsS, go_sem, recoverD, hu, Tryz.ntmps83, Exit.thenS]
 refine wpS_of_wp ?_
 go_wp2
 clear d0 d1 hta
 simp [bodyPostS, results, Tryz.results83]
theorem itold_ok {f : FuncId} {cap : Array Value} {x : Iv} (hf : ∀ W2 : World, (callFunc f cap).run Tryz.prog W2 = .ok (.enter f cap) W2) (hc : ∀ W2 : World, Below w.heap.size w W2 → Calls Tryz.prog f cap W2 (GivI x W2)) :
  Calls Tryz.prog 47 #[.func (Fn.func f) #[] cap] w (TellI 0 x w) := by
 have hmf : ∀ (fn : Fn) (first cap : Array Value) (w : World), (Instr.makeFunc fn first cap).run Tryz.prog w = .ok (.func fn first cap) w := fun _ _ _ _ => rfl
 have HC := hyd hc
 clear hc
 have hB : Below w.heap.size w ((w.alloc (.cells #[.bool false, .slice none 0 0, .int .i64 0, .bool false, .slice none 0 0, .int .i64 0] 30)).alloc (.cells #[.int .i64 0] 3)) := (below_alloc w _).trans ((below_alloc _ _).mono (by simp))
 have hbox := (Ibx.new w false none 0 0 0 false none 0 0 0).alloc (.cells #[.int .i64 0] 3)
 have hcel := Cel.new1 w (.cells #[.bool false, .slice none 0 0, .int .i64 0, .bool false, .slice none 0 0, .int .i64 0] 30) 0
 go_enter_defers Tryz.func47, Tryz.ntmps47
 go_wp2_with fail
 refine (HC.out _ hB).mono ?_
 rintro e w' ⟨A, n, c, B, m, d, rfl, hN, hM, hb⟩
 have h1 := hbox.below hb hbox.gl
 have h2 := hcel.below hb hcel.gl
 have HB := hB.trans (hb.mono hB.size)
 obtain ⟨k0, k1, k2, k3, k4, k5⟩ := h1.held
 obtain ⟨f0, f1, f2, f3, f4, f5⟩ := h1.open
 have d0 := h2.c0
 have d1 := h2.frozen 0
 go_wp2
 have p1 := h1.put x.lo.s A n c x.lo.e x.hi.s B m d x.hi.e
 have q1 := p1.other (g' := w.heap.size + 1) (by omega) 0 (.int .i64 0)
 have HB3 := (below_put6 HB (Nat.le_refl _) (.bool x.lo.s) (.slice A n c) (.int .i64 x.lo.e) (.bool x.hi.s) (.slice B m d) (.int .i64 x.hi.e)).setCell (p := ⟨w.heap.size + 1, 0, none⟩) (by simp) (.int .i64 0)
 have q2 := (((((h2.other (g' := w.heap.size) (by omega) 0 (.bool x.lo.s)).other (g' := w.heap.size) (by omega) 1 (.slice A n c)).other (g' := w.heap.size) (by omega) 2 (.int .i64 x.lo.e)).other (g' := w.heap.size) (by omega) 3 (.bool x.hi.s)).other (g' := w.heap.size) (by omega) 4 (.slice B m d)).other (g' := w.heap.size) (by omega) 5 (.int .i64 x.hi.e)
 have hN3 := (hN.put6 h1 (.bool x.lo.s) (.slice A n c) (.int .i64 x.lo.e) (.bool x.hi.s) (.slice B m d) (.int .i64 x.hi.e)).put1 q2 (.int .i64 0)
 have hM3 := (hM.put6 h1 (.bool x.lo.s) (.slice A n c) (.int .i64 x.lo.e) (.bool x.hi.s) (.slice B m d) (.int .i64 x.hi.e)).put1 q2 (.int .i64 0)
 have q3 := q2.put 0
 clear k0 k1 k2 k3 k4 k5 d0 HB hbox hcel hB hb hmf hf HC f0 f1 f2 f3 f4 f5 d1 h1 h2 p1 q2 hN hM
 generalize ((((((w'.setCell ⟨w.heap.size, 0, none⟩ (.bool x.lo.s)).setCell ⟨w.heap.size, 1, none⟩ (.slice A n c)).setCell ⟨w.heap.size, 2, none⟩ (.int .i64 x.lo.e)).setCell ⟨w.heap.size, 3, none⟩ (.bool x.hi.s)).setCell ⟨w.heap.size, 4, none⟩ (.slice B m d)).setCell ⟨w.heap.size, 5, none⟩ (.int .i64 x.hi.e)).setCell ⟨w.heap.size + 1, 0, none⟩ (.int .i64 0) = w3 at *
 obtain ⟨k0, k1, k2, k3, k4, k5⟩ := q1.held
 have d0 := q3.c0
 refine leaves_cons (f := 83) (args := #[.pointer (some ⟨w.heap.size + 1, 0, none⟩)]) (by simp) (by simp [go_sem]) ?_
 refine (icatch_idle ⟨w.heap.size + 1, 0, none⟩ _).mono ?_
 rintro e u' w'' ⟨rfl, rfl, rfl⟩
 simp [Leaves, settle, results, Tryz.results47, go_sem, k0, k1, k2, k3, k4, k5, d0]
 exact ⟨A, n, c, B, m, d, rfl, hN3, hM3, HB3⟩
theorem itold_no {k : Int} {f : FuncId} {cap : Array Value} (hf : ∀ W2 : World, (callFunc f cap).run Tryz.prog W2 = .ok (.enter f cap) W2) (hc : ∀ W2 : World, Below w.heap.size w W2 → Calls Tryz.prog f cap W2 (Faults k W2)) :
  Calls Tryz.prog 47 #[.func (Fn.func f) #[] cap] w (TellI k Iv.zero w) := by
 have hmf : ∀ (fn : Fn) (first cap : Array Value) (w : World), (Instr.makeFunc fn first cap).run Tryz.prog w = .ok (.func fn first cap) w := fun _ _ _ _ => rfl
 have HC := hyd hc
 clear hc
 have hB : Below w.heap.size w ((w.alloc (.cells #[.bool false, .slice none 0 0, .int .i64 0, .bool false, .slice none 0 0, .int .i64 0] 30)).alloc (.cells #[.int .i64 0] 3)) := (below_alloc w _).trans ((below_alloc _ _).mono (by simp))
 have hbox := (Ibx.new w false none 0 0 0 false none 0 0 0).alloc (.cells #[.int .i64 0] 3)
 have hcel := Cel.new1 w (.cells #[.bool false, .slice none 0 0, .int .i64 0, .bool false, .slice none 0 0, .int .i64 0] 30) 0
 go_enter_defers Tryz.func47, Tryz.ntmps47
 go_wp2_with fail
 refine (HC.out _ hB).mono ?_
 rintro e w' ⟨rfl, hb⟩
 have h1 := hbox.below hb hbox.gl
 have h2 := hcel.below hb hcel.gl
 have HB := hB.trans (hb.mono hB.size)
 go_wp2
 have q1 := h1.other (g' := w.heap.size + 1) (by omega) 0 (.int .i64 k)
 have HB3 := HB.setCell (p := ⟨w.heap.size + 1, 0, none⟩) (by simp) (.int .i64 k)
 have q3 := h2.put k
 obtain ⟨k0, k1, k2, k3, k4, k5⟩ := q1.held
 have d0 := q3.c0
 clear HB hbox hcel hB hb hmf hf HC q1 q3 h1
 refine leaves_cons (f := 83) (args := #[.pointer (some ⟨w.heap.size + 1, 0, none⟩)]) (by simp) (by simp [go_sem]) ?_
 refine (icatch_fault (k := k) (older := []) h2).mono ?_
 rintro e u' w'' ⟨rfl, rfl, rfl⟩
 clear h2
 generalize w'.setCell ⟨w.heap.size + 1, 0, none⟩ (.int .i64 k) = w3 at *
 simp [Leaves, settle, results, Tryz.results47, go_sem, k0, k1, k2, k3, k4, k5, d0]
 exact ⟨none, 0, 0, none, 0, 0, rfl, Rd.nil _ _ _ _ (by omega), Rd.nil _ _ _ _ (by omega), HB3⟩
theorem asked1_ok {x : Iv} {K g k g1 g2 : Nat} {X : Nat → Iv} {f : FuncId} {cap : Array Value} (hK : 4194304 ≤ K) (hT : Tab w) (h : Ivs w g 0 k X) (hk : k ≤ 1000) (q1 : w.cell? ⟨g1, 0, none⟩ = some (.slice (some ⟨g, 0, none⟩) k k)) (q2 : w.cell? ⟨g2, 0, none⟩ = some (.func (Fn.func f) #[] cap)) (hd : ∀ i, i < k → mayI K (X i) = true) (hc : ∀ W2 : World, Below w.heap.size w W2 → Calls Tryz.prog 28 #[.func (Fn.func f) #[] cap] W2 (GivI x W2)) :
  Calls Tryz.prog 133 #[.pointer (some ⟨g1, 0, none⟩), .pointer (some ⟨g2, 0, none⟩)] w (GivI x w) := by
 have BB := below_alloc w (.cells #[.bool false, .slice none 0 0, .int .i64 0, .bool false, .slice none 0 0, .int .i64 0] 30)
 have G := mv BB rfl (J4 hT h q1 q2)
 clear hT h q1 q2
 obtain ⟨hT, h, q1, q2⟩ := G
 have r := Ibx.new w false none 0 0 0 false none 0 0 0
 have HC := hyd hc
 clear hc
 go_enter Tryz.func133, Tryz.ntmps133
 go_wp2_with fail
 refine (icheck_all hK hT h hk hd).mono ?_
 rintro en w1 ⟨rfl, b⟩
 clear h hT
 replace BB := bnx BB b
 have G := mv b rfl (J3 q1 q2 r)
 clear b q1 q2 r
 obtain ⟨q1, q2, r⟩ := G
 go_wp2_with fail
 refine (HC.out _ BB).mono ?_
 rintro en w2 ⟨A1, n1, c1, A2, n2, c2, rfl, h1, h2, b⟩
 replace BB := bnx BB b
 have G := mv b rfl (J3 q1 q2 r)
 clear b q1 q2 r
 obtain ⟨q1, q2, r⟩ := G
 obtain ⟨f0, f1, f2, f3, f4, f5⟩ := r.open
 obtain ⟨z0, z1, z2, z3, z4, z5⟩ := r.held
 go_wp2
 exact ret6 rfl rfl rfl r h1 h2 BB (by omega) fun _ hN hM HB3 => ⟨_, _, _, _, _, _, rfl, hN, hM, HB3⟩
theorem asked1_fault {K g k g1 g2 : Nat} {X : Nat → Iv} {f : FuncId} {cap : Array Value} (hK : 4194304 ≤ K) (hT : Tab w) (h : Ivs w g 0 k X) (hk : k ≤ 1000) (q1 : w.cell? ⟨g1, 0, none⟩ = some (.slice (some ⟨g, 0, none⟩) k k)) (q2 : w.cell? ⟨g2, 0, none⟩ = some (.func (Fn.func f) #[] cap)) (hd : ∀ i, i < k → mayI K (X i) = true) (hc : ∀ W2 : World, Below w.heap.size w W2 → Calls Tryz.prog 28 #[.func (Fn.func f) #[] cap] W2 (Faults e W2)) :
  Calls Tryz.prog 133 #[.pointer (some ⟨g1, 0, none⟩), .pointer (some ⟨g2, 0, none⟩)] w (Faults e w) := by
 have BB := below_alloc w (.cells #[.bool false, .slice none 0 0, .int .i64 0, .bool false, .slice none 0 0, .int .i64 0] 30)
 have G := mv BB rfl (J4 hT h q1 q2)
 clear hT h q1 q2
 obtain ⟨hT, h, q1, q2⟩ := G
 have HC := hyd hc
 clear hc
 go_enter Tryz.func133, Tryz.ntmps133
 go_wp2_with fail
 refine (icheck_all hK hT h hk hd).mono ?_
 rintro en w1 ⟨rfl, b⟩
 clear h hT
 replace BB := bnx BB b
 have G := mv b rfl <| And.intro q1 <| q2
 clear b q1 q2
 obtain ⟨q1, q2⟩ := G
 go_wp2_with fail
 refine (HC.out _ BB).mono ?_
 rintro en w2 ⟨rfl, b⟩
 replace BB := bnx BB b
 clear b HC
 go_wp2
 exact ⟨rfl, rfl, BB⟩
theorem new_cell1 (w : World) (o : Obj) (cs : Array Value) (t : TypeId) (i : Nat) : ((w.alloc o).alloc (.cells cs t)).cell? ⟨w.heap.size + 1, i, none⟩ = cs[i]? := by
 have e : (w.alloc o).heap.size = w.heap.size + 1 := by simp
 have h := new_cell (w.alloc o) cs t i
 rw [e] at h
 exact h
theorem ibx_two (w : World) (o o' : Obj) (s : Bool) (A : Option Addr) (n c : Nat) (e : Int) (t : Bool) (B : Option Addr) (m d : Nat) (f : Int) : Ibx (((w.alloc o).alloc o').alloc (.cells #[.bool s, .slice A n c, .int .i64 e, .bool t, .slice B m d, .int .i64 f] 30)) (w.heap.size + 2) s A n c e t B m d f := by
 have := Ibx.new ((w.alloc o).alloc o') s A n c e t B m d f
 simpa using this
theorem asked_ok {x : Iv} {X : Nat → Iv} {f : FuncId} {cap : Array Value} (hK : 4194304 ≤ K) (hT : Tab w) (h : Ivs w g 0 k X) (hk : k ≤ 1000) (hd : ∀ i, i < k → mayI K (X i) = true) (hc : ∀ W2 : World, Below w.heap.size w W2 → Calls Tryz.prog 28 #[.func (Fn.func f) #[] cap] W2 (GivI x W2)) :
  Calls Tryz.prog 101 #[.func (Fn.func f) #[] cap, .slice (some ⟨g, 0, none⟩) k k] w (TellI 0 x w) := by
 have BB := three_below w (.cells #[.func (Fn.func f) #[] cap] 70) (.cells #[.slice (some ⟨g, 0, none⟩) k k] 31) (.cells #[.bool false, .slice none 0 0, .int .i64 0, .bool false, .slice none 0 0, .int .i64 0] 30)
 have hmf := make_func
 have q2 : (((w.alloc (.cells #[.func (Fn.func f) #[] cap] 70)).alloc (.cells #[.slice (some ⟨g, 0, none⟩) k k] 31)).alloc (.cells #[.bool false, .slice none 0 0, .int .i64 0, .bool false, .slice none 0 0, .int .i64 0] 30)).cell? ⟨w.heap.size, 0, none⟩ = some (.func (Fn.func f) #[] cap) := Lib.cell?_alloc_some _ (Lib.cell?_alloc_some _ (new_cell w _ _ 0))
 have q1 : (((w.alloc (.cells #[.func (Fn.func f) #[] cap] 70)).alloc (.cells #[.slice (some ⟨g, 0, none⟩) k k] 31)).alloc (.cells #[.bool false, .slice none 0 0, .int .i64 0, .bool false, .slice none 0 0, .int .i64 0] 30)).cell? ⟨w.heap.size + 1, 0, none⟩ = some (.slice (some ⟨g, 0, none⟩) k k) := Lib.cell?_alloc_some _ (new_cell1 w _ _ _ 0)
 have r := ibx_two w (.cells #[.func (Fn.func f) #[] cap] 70) (.cells #[.slice (some ⟨g, 0, none⟩) k k] 31) false none 0 0 0 false none 0 0 0
 have G := mv BB rfl <| And.intro hT <| h
 clear hT h
 obtain ⟨hT, h⟩ := G
 have HC := hyd hc
 clear hc
 go_enter Tryz.func101, Tryz.ntmps101
 go_wp2_with fail
 refine (itold_ok (x := x) (fun _ => by kernel_rfl) (fun W2 b2 => asked1_ok hK (mv b2 rfl hT) (mv b2 rfl h) hk (mv b2 rfl q1) (mv b2 rfl q2) hd (fun W3 b3 => HC.out _ ((BB.trans (b2.mono BB.size)).trans (b3.mono (Nat.le_trans BB.size b2.size)))))).mono ?_
 rintro en w1 ⟨A1, n1, c1, A2, n2, c2, rfl, h1, h2, b⟩
 clear hT h q1 q2
 replace BB := bnx BB b
 replace r := mv b rfl r
 clear b
 obtain ⟨f0, f1, f2, f3, f4, f5⟩ := r.open
 obtain ⟨z0, z1, z2, z3, z4, z5⟩ := r.held
 go_wp2
 exact ret6t rfl rfl rfl rfl r h1 h2 BB (by omega) fun _ hN hM HB3 => ⟨_, _, _, _, _, _, rfl, hN, hM, HB3⟩
theorem asked_fault {X : Nat → Iv} {f : FuncId} {cap : Array Value} (hK : 4194304 ≤ K) (hT : Tab w) (h : Ivs w g 0 k X) (hk : k ≤ 1000) (hd : ∀ i, i < k → mayI K (X i) = true) (hc : ∀ W2 : World, Below w.heap.size w W2 → Calls Tryz.prog 28 #[.func (Fn.func f) #[] cap] W2 (Faults e W2)) :
  Calls Tryz.prog 101 #[.func (Fn.func f) #[] cap, .slice (some ⟨g, 0, none⟩) k k] w (TellI e Iv.zero w) := by
 have BB := three_below w (.cells #[.func (Fn.func f) #[] cap] 70) (.cells #[.slice (some ⟨g, 0, none⟩) k k] 31) (.cells #[.bool false, .slice none 0 0, .int .i64 0, .bool false, .slice none 0 0, .int .i64 0] 30)
 have hmf := make_func
 have q2 : (((w.alloc (.cells #[.func (Fn.func f) #[] cap] 70)).alloc (.cells #[.slice (some ⟨g, 0, none⟩) k k] 31)).alloc (.cells #[.bool false, .slice none 0 0, .int .i64 0, .bool false, .slice none 0 0, .int .i64 0] 30)).cell? ⟨w.heap.size, 0, none⟩ = some (.func (Fn.func f) #[] cap) := Lib.cell?_alloc_some _ (Lib.cell?_alloc_some _ (new_cell w _ _ 0))
 have q1 : (((w.alloc (.cells #[.func (Fn.func f) #[] cap] 70)).alloc (.cells #[.slice (some ⟨g, 0, none⟩) k k] 31)).alloc (.cells #[.bool false, .slice none 0 0, .int .i64 0, .bool false, .slice none 0 0, .int .i64 0] 30)).cell? ⟨w.heap.size + 1, 0, none⟩ = some (.slice (some ⟨g, 0, none⟩) k k) := Lib.cell?_alloc_some _ (new_cell1 w _ _ _ 0)
 have r := ibx_two w (.cells #[.func (Fn.func f) #[] cap] 70) (.cells #[.slice (some ⟨g, 0, none⟩) k k] 31) false none 0 0 0 false none 0 0 0
 have G := mv BB rfl <| And.intro hT <| h
 clear hT h
 obtain ⟨hT, h⟩ := G
 have HC := hyd hc
 clear hc
 go_enter Tryz.func101, Tryz.ntmps101
 obtain ⟨x, hx⟩ : ∃ x, x = Iv.zero := ⟨_, rfl⟩
 rw [← hx]
 have HX := hyd hx
 clear hx
 go_wp2_with fail
 refine (itold_no (k := e) (fun _ => by kernel_rfl) (fun W2 b2 => asked1_fault hK (mv b2 rfl hT) (mv b2 rfl h) hk (mv b2 rfl q1) (mv b2 rfl q2) hd (fun W3 b3 => HC.out _ ((BB.trans (b2.mono BB.size)).trans (b3.mono (Nat.le_trans BB.size b2.size)))))).mono ?_
 rw [← HX.out]
 rintro en w1 ⟨A1, n1, c1, A2, n2, c2, rfl, h1, h2, b⟩
 clear hT h q1 q2
 replace BB := bnx BB b
 replace r := mv b rfl r
 clear b
 obtain ⟨f0, f1, f2, f3, f4, f5⟩ := r.open
 obtain ⟨z0, z1, z2, z3, z4, z5⟩ := r.held
 go_wp2
 exact ret6t rfl rfl rfl rfl r h1 h2 BB (by omega) fun _ hN hM HB3 => ⟨_, _, _, _, _, _, rfl, hN, hM, HB3⟩
end Go.Proofs.YtehfdfjpmmpndaaGreatDoor
