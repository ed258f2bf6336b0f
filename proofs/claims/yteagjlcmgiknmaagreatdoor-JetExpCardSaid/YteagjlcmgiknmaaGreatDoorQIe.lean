/-
 Contracts of ival's ends and check, of fault's Told of an interval, and of asked, at this translation. Condition: the slices read as limbs, the table of math/bits reads as its text lays it.
-/
import Derived.Test.YteagjlcmgiknmaaGreatDoorQIc
import Derived.Test.YteagjlcmgiknmaaGreatDoorQRj
import Derived.OwnWalk
set_option maxHeartbeats 8000000
set_option maxRecDepth 100000
namespace Go.Proofs.YteagjlcmgiknmaaGreatDoor
open Go.RowKit

def Iv.at (x : Iv) (hi : Bool) : Rw := if hi then x.hi else x.lo

theorem iown_nil {w : World} {c : Nat} {s : Bool} {e : Int} :
  Calls Tryz.prog 52 #[.agg #[.bool s, .slice none 0 c, .int .i64 e]] w (Owned s [] e 0 w) := by
 go_enter Tryz.func52, Tryz.ntmps52
 have hB := two_below w (.cells #[.bool s, .slice none 0 0, .int .i64 e] 25) (.cells #[.bool s, .slice none 0 0, .int .i64 e] 25)
 go_wp2
 exact bodyPost_ret (v := .agg #[.bool s, .slice none 0 0, .int .i64 e]) (by simp [results, Tryz.results52, go_sem]) rfl ⟨none, 0, rfl, Rd.nil _ _ _ _ (by omega), hB⟩
theorem iown_some {w : World} {ad : Addr} {n c : Nat} {l : List Nat} {s : Bool} {e : Int} (h : Rd w .u64 Go.Proofs.YteagjlcmgiknmaaGreatDoor.W (some ad) n c l) (hn : n ≤ 10000000000000) :
  Calls Tryz.prog 52 #[.agg #[.bool s, .slice (some ad) n c, .int .i64 e]] w (Owned s l e n w) := by
 obtain ⟨i0, hi, hz0, hz1, hz2⟩ := info_parts info64
 have A : Aside (∀ j u, (iv .u64 l)[j]? = some u → w.cell? (ad.add j) = some u) := by
  intro j u hj
  have hj' : j < n := by
   have := (List.getElem?_eq_some_iff.1 hj).1
   rw [iv_length, h.len] at this; exact this
  obtain ⟨b, o, e, hb, hc⟩ := h.at_ (by omega)
  injection e with e
  subst e
  rw [iv_get _ _ _ (by rw [h.len]; exact hj')] at hj
  rw [Addr.add_lit, hc j hj', hj]
 have hl : (iv .u64 l).length = n * 1 := by rw [iv_length, h.len, Nat.mul_one]
 have hB := two_below w (.cells #[.bool s, .slice (some ad) n c, .int .i64 e] 25) (.cells #[.bool false, .slice none 0 0, .int .i64 0] 25)
 have g := two_new w s false (some ad) none n c 0 0 e 0
 go_enter Tryz.func52, Tryz.ntmps52
 go_wp2_with (at_builtin; refine wpList_append_own _ rfl _ _ 23 rfl (w.heap.size + 2) 46 i0 (.int .u64 0) 1 8 Tryz.underlying23 hi hz0 hz1 hz2 rfl (by decide) _ _ _ rfl (World.ownsRow_nil ..) ad n c (iv .u64 l) rfl ?qc1 ?qc2 ?qc3 ?qc4 ?qc5 ?qc6 ?_)
 case qc1 => exact hl
 case qc2 =>
  intro j u hj
  exact Lib.cell?_alloc_some _ (Lib.cell?_alloc_some _ (A.out j u hj))
 case qc3 =>
  intro v hv
  obtain ⟨x, _, rfl⟩ := List.mem_map.1 hv
  rfl
 case qc4 => unfold maxLen; omega
 case qc5 => omega
 case qc6 => simp
 intro v' w1 hown hgrow hnil
 have hgn : ((w.alloc (.cells #[.bool s, .slice (some ad) n c, .int .i64 e] 25)).alloc (.cells #[.bool false, .slice none 0 0, .int .i64 0] 25)).grownBy w1 none := hgrow
 have b1 := below_none hgn
 have g1 := g.below b1 g.b.gl
 have BB := hB.trans (b1.mono hB.size)
 have hown' : Own (w.heap.size + 2) w1 46 .u64 v' l := by unfold Own; rw [h.len]; exact hown
 obtain ⟨A', c', rfl, hrd⟩ := hown'.rd h.lt
 rw [h.len] at hrd ⊢
 obtain ⟨q0, q1, q2, q3, q4, q5⟩ := g1.held
 have f1 := g1.a.frozen 1
 obtain ⟨f2, f3, f4⟩ := g1.b.open
 have ne1 : ¬ w.heap.size = w.heap.size + 1 := by omega
 have ne2 : ¬ w.heap.size + 1 = w.heap.size := by omega
 clear hown hgrow hnil hgn hown' hl g b1 hB A hi hz0 hz1 hz2
 go_wp2
 have p := (g1.b.other (g' := w.heap.size) (by omega) 1 (.slice A' n c')).put s A' n c' e
 have na := hrd.off g1.a.no
 have nb := hrd.off g1.b.no
 have hN := (((hrd.set1 na 1 (.slice A' n c')).set1 nb 0 (.bool s)).set1 nb 1 (.slice A' n c')).set1 nb 2 (.int .i64 e)
 have HB3 := below_put3 (g := w.heap.size + 1) (BB.setCell (p := ⟨w.heap.size, 1, none⟩) (Nat.le_refl _) (.slice A' n c')) (by omega) (.bool s) (.slice A' n c') (.int .i64 e)
 obtain ⟨z0, z1, z2⟩ := p.held
 exact bodyPost_ret (v := .agg #[.bool s, .slice A' n c', .int .i64 e]) (by simp [results, Tryz.results52, go_sem, z0, z1, z2]) rfl ⟨_, _, rfl, hN, HB3⟩
theorem iown_any {w : World} {A : Option Addr} {n c : Nat} {l : List Nat} {s : Bool} {e : Int} (h : Rd w .u64 Go.Proofs.YteagjlcmgiknmaaGreatDoor.W A n c l) (hn : n ≤ 10000000000000) :
  Calls Tryz.prog 52 #[.agg #[.bool s, .slice A n c, .int .i64 e]] w (Owned s l e n w) := by
 rcases A with _ | ad
 ·have h0 : n = 0 := by
   rcases Nat.eq_zero_or_pos n with h0 | h0
   ·exact h0
   ·obtain ⟨_, _, e, _⟩ := h.at_ (by omega)
    cases e
  subst h0
  have e := h.empty rfl
  subst e
  exact iown_nil
 ·exact iown_some h hn


theorem of1_any {w : World} {a : Rw} {hi : Bool} {g : Nat} {A1 : Option Addr} {n1 c1 : Nat} (h1 : Rd w .u64 Go.Proofs.YteagjlcmgiknmaaGreatDoor.W A1 n1 c1 a.l) (xa : Box w g a.s A1 n1 c1 a.e) :
  Calls Tryz.prog 24 #[.bool hi, .pointer (some ⟨g, 0, none⟩)] w (GivQ a w) := by
 have la := xa.gl
 obtain ⟨a0, a1, a2⟩ := (xa.next (below_alloc w (.cells #[.bool false, .slice none 0 0, .int .i64 0] 25)) rfl).held
 have r := Box.new w false none 0 0 0
 obtain ⟨f0, f1, f2⟩ := r.open
 obtain ⟨z0, z1, z2⟩ := r.held
 clear xa
 go_enter Tryz.func24, Tryz.ntmps24
 go_wp2
 exact bodyPost_ret (v := .agg #[.bool a.s, .slice A1 n1 c1, .int .i64 a.e]) (by simp [results, Tryz.results24, go_sem]) rfl ⟨_, _, _, rfl, h1.next (below_alloc w (.cells #[.bool a.s, .slice A1 n1 c1, .int .i64 a.e] 25)) rfl, below_alloc w _⟩

end Go.Proofs.YteagjlcmgiknmaaGreatDoor

namespace Go.Proofs.YteagjlcmgiknmaaGreatDoor
open Go.RowKit

theorem cell_oth {w : World} {k g i : Nat} {v : Value} (h : w.cell? ⟨k, i, none⟩ = some v) (hne : k ≠ g) (j : Nat) (u : Value) : (w.setCell ⟨g, j, none⟩ u).cell? ⟨k, i, none⟩ = some v := by
 have e := Below.heap_setCell w ⟨g, j, none⟩ u k hne
 unfold World.cell? at h ⊢
 simpa [e] using h
theorem cell_oth6 {w : World} {k g i : Nat} {v u0 u1 u2 u3 u4 u5 : Value} (h : w.cell? ⟨k, i, none⟩ = some v) (hne : k ≠ g) : ((((((w.setCell ⟨g, 0, none⟩ u0).setCell ⟨g, 1, none⟩ u1).setCell ⟨g, 2, none⟩ u2).setCell ⟨g, 3, none⟩ u3).setCell ⟨g, 4, none⟩ u4).setCell ⟨g, 5, none⟩ u5).cell? ⟨k, i, none⟩ = some v :=
 cell_oth (cell_oth (cell_oth (cell_oth (cell_oth (cell_oth h hne 0 u0) hne 1 u1) hne 2 u2) hne 3 u3) hne 4 u4) hne 5 u5
theorem ends1_ok {w : World} {x : Iv} {f : FuncId} {p1 : Value} (hf : ∀ (v : Value) (W2 : World), (callFunc f #[v, p1]).run Tryz.prog W2 = .ok (.enter f #[v, p1]) W2) (la : x.lo.l.length ≤ 10000000000000) (hlo : ∀ W2 : World, Below w.heap.size w W2 → Calls Tryz.prog f #[.bool false, p1] W2 (GivQ x.lo W2)) (lb : x.hi.l.length ≤ 10000000000000) (hhi : ∀ W2 : World, Below w.heap.size w W2 → Calls Tryz.prog f #[.bool true, p1] W2 (GivQ x.hi W2)) :
  Calls Tryz.prog 23 #[.func (Fn.func f) #[] #[p1]] w (GivI x w) := by
 have BB := below_alloc w (.cells #[.bool false, .slice none 0 0, .int .i64 0, .bool false, .slice none 0 0, .int .i64 0] 29)
 have r := Ibx.new w false none 0 0 0 false none 0 0 0
 have HLO := Lib.hid hlo
 clear hlo
 have HHI := Lib.hid hhi
 clear hhi
 have LA := Lib.hid la
 clear la
 have LB := Lib.hid lb
 clear lb
 go_enter Tryz.func23, Tryz.ntmps23
 go_wp2_with fail
 refine (HLO.out _ BB).mono ?_
 rintro en w1 ⟨A1, n3, c1, rfl, h1, b⟩
 replace BB := bnx BB b
 replace r := mv b rfl r
 clear b
 go_wp2_with fail
 refine (iown_any (s := x.lo.s) (e := x.lo.e) h1 (by rw [← h1.len]; exact LA.out)).mono ?_
 rintro en w2 ⟨A3, c3, rfl, h3, b⟩
 clear h1
 replace BB := bnx BB b
 replace r := mv b rfl r
 clear b
 have ny : w2.heap.size ≠ w.heap.size := by have := r.gl; omega
 obtain ⟨y0, y1, y2⟩ := (Box.new w2 x.lo.s A3 n3 c3 x.lo.e).held
 have b := below_alloc w2 (.cells #[.bool x.lo.s, .slice A3 n3 c3, .int .i64 x.lo.e] 25)
 replace BB := bnx BB b
 have G := mv b rfl <| And.intro r <| h3
 clear b r h3
 obtain ⟨r, h3⟩ := G
 clear HLO LA
 go_wp2_with fail
 have b : Below (w2.alloc (.cells #[.bool x.lo.s, .slice A3 n3 c3, .int .i64 x.lo.e] 25)).heap.size (w2.alloc (.cells #[.bool x.lo.s, .slice A3 n3 c3, .int .i64 x.lo.e] 25)) (World.drew (w2.alloc (.cells #[.bool x.lo.s, .slice A3 n3 c3, .int .i64 x.lo.e] 25))) := below_drewN (Below.refl _ _) 1
 replace BB := bnx BB b
 have G := mv b rfl (J5 r h3 y0 y1 y2)
 clear b r h3 y0 y1 y2
 obtain ⟨r, h3, y0, y1, y2⟩ := G
 refine wp_region_held_drew (S := fun w' => w'.cell? ⟨w2.heap.size, 0, none⟩ = some (.bool x.lo.s) ∧ w'.cell? ⟨w2.heap.size, 1, none⟩ = some (.slice A3 n3 c3) ∧ w'.cell? ⟨w2.heap.size, 2, none⟩ = some (.int .i64 x.lo.e)) (by kernel_rfl) (by exact ⟨y0, y1, y2⟩) (fun hHeldv0 => ?_)
 generalize World.drew (w2.alloc (.cells #[.bool x.lo.s, .slice A3 n3 c3, .int .i64 x.lo.e] 25)) = wd at *
 refine tl 0 ?_
 refine tl 1 ?_
 refine rdy 2 fun K hK => ?_
 go_simp
 refine (HHI.out _ BB).mono ?_
 rintro en w' ⟨A2, n4, c2, rfl, h2, b⟩
 replace BB := below_next BB BB.size b (by rfl) (by rfl) (by rfl) (by rfl)
 have G := mv b (by rfl) <| And.intro r <| And.intro h3 <| And.intro y0 <| And.intro y1 <| y2
 clear b r h3 y0 y1 y2
 obtain ⟨r, h3, y0, y1, y2⟩ := G
 refine hK.out _ _ (by exact ⟨y0, y1, y2⟩) (fun hHeldv1 => ?_)
 clear hK K hHeldv0
 try simp only [Act.put]
 refine rdy 3 fun K hK => ?_
 go_simp
 refine (iown_any (s := x.hi.s) (e := x.hi.e) h2 (by rw [← h2.len]; exact LB.out)).mono ?_
 rintro en w' ⟨A4, c4, rfl, h4, b⟩
 clear h2
 replace BB := below_next BB BB.size b (by rfl) (by rfl) (by rfl) (by rfl)
 have G := mv b (by rfl) <| And.intro r <| And.intro h3 <| And.intro y0 <| And.intro y1 <| y2
 clear b r h3 y0 y1 y2
 obtain ⟨r, h3, y0, y1, y2⟩ := G
 obtain ⟨f0, f1, f2, f3, f4, f5⟩ := r.open
 obtain ⟨z0, z1, z2, z3, z4, z5⟩ := r.held
 refine hK.out _ _ (by exact ⟨y0, y1, y2⟩) (fun hHeldv2 => ?_)
 clear hK K hHeldv1
 try simp only [Act.put]
 refine tl 4 ?_
 refine rdy 5 fun K hK => ?_
 go_simp
 refine hK.out _ _ (by exact ⟨cell_oth6 y0 ny, cell_oth6 y1 ny, cell_oth6 y2 ny⟩) (fun hHeldv3 => ?_)
 clear hK K hHeldv2
 try simp only [Act.put]
 refine wpAnyH_done (by kernel_rfl) ?_ _
 go_wp2
 have qq := r.put x.lo.s A3 n3 c3 x.lo.e x.hi.s A4 n4 c4 x.hi.e
 have hN := h3.put6 r (.bool x.lo.s) (.slice A3 n3 c3) (.int .i64 x.lo.e) (.bool x.hi.s) (.slice A4 n4 c4) (.int .i64 x.hi.e)
 have hM := h4.put6 r (.bool x.lo.s) (.slice A3 n3 c3) (.int .i64 x.lo.e) (.bool x.hi.s) (.slice A4 n4 c4) (.int .i64 x.hi.e)
 have HB3 := below_put6 (g := w.heap.size) BB (by omega) (.bool x.lo.s) (.slice A3 n3 c3) (.int .i64 x.lo.e) (.bool x.hi.s) (.slice A4 n4 c4) (.int .i64 x.hi.e)
 obtain ⟨z0, z1, z2, z3, z4, z5⟩ := qq.held
 exact bodyPost_ret (v := .agg #[.bool x.lo.s, .slice A3 n3 c3, .int .i64 x.lo.e, .bool x.hi.s, .slice A4 n4 c4, .int .i64 x.hi.e]) (by simp [results, Tryz.results23, go_sem, z0, z1, z2, z3, z4, z5]) rfl ⟨_, _, _, _, _, _, rfl, hN, hM, HB3⟩

theorem ends2_ok {w : World} {x : Iv} {f : FuncId} {p1 p2 : Value} (hf : ∀ (v : Value) (W2 : World), (callFunc f #[v, p1, p2]).run Tryz.prog W2 = .ok (.enter f #[v, p1, p2]) W2) (la : x.lo.l.length ≤ 10000000000000) (hlo : ∀ W2 : World, Below w.heap.size w W2 → Calls Tryz.prog f #[.bool false, p1, p2] W2 (GivQ x.lo W2)) (lb : x.hi.l.length ≤ 10000000000000) (hhi : ∀ W2 : World, Below w.heap.size w W2 → Calls Tryz.prog f #[.bool true, p1, p2] W2 (GivQ x.hi W2)) :
  Calls Tryz.prog 23 #[.func (Fn.func f) #[] #[p1, p2]] w (GivI x w) := by
 have BB := below_alloc w (.cells #[.bool false, .slice none 0 0, .int .i64 0, .bool false, .slice none 0 0, .int .i64 0] 29)
 have r := Ibx.new w false none 0 0 0 false none 0 0 0
 have HLO := Lib.hid hlo
 clear hlo
 have HHI := Lib.hid hhi
 clear hhi
 have LA := Lib.hid la
 clear la
 have LB := Lib.hid lb
 clear lb
 go_enter Tryz.func23, Tryz.ntmps23
 go_wp2_with fail
 refine (HLO.out _ BB).mono ?_
 rintro en w1 ⟨A1, n3, c1, rfl, h1, b⟩
 replace BB := bnx BB b
 replace r := mv b rfl r
 clear b
 go_wp2_with fail
 refine (iown_any (s := x.lo.s) (e := x.lo.e) h1 (by rw [← h1.len]; exact LA.out)).mono ?_
 rintro en w2 ⟨A3, c3, rfl, h3, b⟩
 clear h1
 replace BB := bnx BB b
 replace r := mv b rfl r
 clear b
 have ny : w2.heap.size ≠ w.heap.size := by have := r.gl; omega
 obtain ⟨y0, y1, y2⟩ := (Box.new w2 x.lo.s A3 n3 c3 x.lo.e).held
 have b := below_alloc w2 (.cells #[.bool x.lo.s, .slice A3 n3 c3, .int .i64 x.lo.e] 25)
 replace BB := bnx BB b
 have G := mv b rfl <| And.intro r <| h3
 clear b r h3
 obtain ⟨r, h3⟩ := G
 clear HLO LA
 go_wp2_with fail
 have b : Below (w2.alloc (.cells #[.bool x.lo.s, .slice A3 n3 c3, .int .i64 x.lo.e] 25)).heap.size (w2.alloc (.cells #[.bool x.lo.s, .slice A3 n3 c3, .int .i64 x.lo.e] 25)) (World.drew (w2.alloc (.cells #[.bool x.lo.s, .slice A3 n3 c3, .int .i64 x.lo.e] 25))) := below_drewN (Below.refl _ _) 1
 replace BB := bnx BB b
 have G := mv b rfl (J5 r h3 y0 y1 y2)
 clear b r h3 y0 y1 y2
 obtain ⟨r, h3, y0, y1, y2⟩ := G
 refine wp_region_held_drew (S := fun w' => w'.cell? ⟨w2.heap.size, 0, none⟩ = some (.bool x.lo.s) ∧ w'.cell? ⟨w2.heap.size, 1, none⟩ = some (.slice A3 n3 c3) ∧ w'.cell? ⟨w2.heap.size, 2, none⟩ = some (.int .i64 x.lo.e)) (by kernel_rfl) (by exact ⟨y0, y1, y2⟩) (fun hHeldv0 => ?_)
 generalize World.drew (w2.alloc (.cells #[.bool x.lo.s, .slice A3 n3 c3, .int .i64 x.lo.e] 25)) = wd at *
 refine tl 0 ?_
 refine tl 1 ?_
 refine rdy 2 fun K hK => ?_
 go_simp
 refine (HHI.out _ BB).mono ?_
 rintro en w' ⟨A2, n4, c2, rfl, h2, b⟩
 replace BB := below_next BB BB.size b (by rfl) (by rfl) (by rfl) (by rfl)
 have G := mv b (by rfl) <| And.intro r <| And.intro h3 <| And.intro y0 <| And.intro y1 <| y2
 clear b r h3 y0 y1 y2
 obtain ⟨r, h3, y0, y1, y2⟩ := G
 refine hK.out _ _ (by exact ⟨y0, y1, y2⟩) (fun hHeldv1 => ?_)
 clear hK K hHeldv0
 try simp only [Act.put]
 refine rdy 3 fun K hK => ?_
 go_simp
 refine (iown_any (s := x.hi.s) (e := x.hi.e) h2 (by rw [← h2.len]; exact LB.out)).mono ?_
 rintro en w' ⟨A4, c4, rfl, h4, b⟩
 clear h2
 replace BB := below_next BB BB.size b (by rfl) (by rfl) (by rfl) (by rfl)
 have G := mv b (by rfl) <| And.intro r <| And.intro h3 <| And.intro y0 <| And.intro y1 <| y2
 clear b r h3 y0 y1 y2
 obtain ⟨r, h3, y0, y1, y2⟩ := G
 obtain ⟨f0, f1, f2, f3, f4, f5⟩ := r.open
 obtain ⟨z0, z1, z2, z3, z4, z5⟩ := r.held
 refine hK.out _ _ (by exact ⟨y0, y1, y2⟩) (fun hHeldv2 => ?_)
 clear hK K hHeldv1
 try simp only [Act.put]
 refine tl 4 ?_
 refine rdy 5 fun K hK => ?_
 go_simp
 refine hK.out _ _ (by exact ⟨cell_oth6 y0 ny, cell_oth6 y1 ny, cell_oth6 y2 ny⟩) (fun hHeldv3 => ?_)
 clear hK K hHeldv2
 try simp only [Act.put]
 refine wpAnyH_done (by kernel_rfl) ?_ _
 go_wp2
 have qq := r.put x.lo.s A3 n3 c3 x.lo.e x.hi.s A4 n4 c4 x.hi.e
 have hN := h3.put6 r (.bool x.lo.s) (.slice A3 n3 c3) (.int .i64 x.lo.e) (.bool x.hi.s) (.slice A4 n4 c4) (.int .i64 x.hi.e)
 have hM := h4.put6 r (.bool x.lo.s) (.slice A3 n3 c3) (.int .i64 x.lo.e) (.bool x.hi.s) (.slice A4 n4 c4) (.int .i64 x.hi.e)
 have HB3 := below_put6 (g := w.heap.size) BB (by omega) (.bool x.lo.s) (.slice A3 n3 c3) (.int .i64 x.lo.e) (.bool x.hi.s) (.slice A4 n4 c4) (.int .i64 x.hi.e)
 obtain ⟨z0, z1, z2, z3, z4, z5⟩ := qq.held
 exact bodyPost_ret (v := .agg #[.bool x.lo.s, .slice A3 n3 c3, .int .i64 x.lo.e, .bool x.hi.s, .slice A4 n4 c4, .int .i64 x.hi.e]) (by simp [results, Tryz.results23, go_sem, z0, z1, z2, z3, z4, z5]) rfl ⟨_, _, _, _, _, _, rfl, hN, hM, HB3⟩

theorem ends2_lo {w : World} {f : FuncId} {p1 p2 : Value} {k : Int} (hf : ∀ (v : Value) (W2 : World), (callFunc f #[v, p1, p2]).run Tryz.prog W2 = .ok (.enter f #[v, p1, p2]) W2) (hlo : ∀ W2 : World, Below w.heap.size w W2 → Calls Tryz.prog f #[.bool false, p1, p2] W2 (Faults k W2)) :
  Calls Tryz.prog 23 #[.func (Fn.func f) #[] #[p1, p2]] w (Faults k w) := by
 have BB := below_alloc w (.cells #[.bool false, .slice none 0 0, .int .i64 0, .bool false, .slice none 0 0, .int .i64 0] 29)
 have HLO := Lib.hid hlo
 clear hlo
 go_enter Tryz.func23, Tryz.ntmps23
 go_wp2_with fail
 refine (HLO.out _ BB).mono ?_
 rintro en w1 ⟨rfl, b⟩
 replace BB := bnx BB b
 clear b HLO
 go_wp2
 exact ⟨rfl, rfl, BB⟩

theorem ends2_hi {w : World} {x : Iv} {f : FuncId} {p1 p2 : Value} {k : Int} (hf : ∀ (v : Value) (W2 : World), (callFunc f #[v, p1, p2]).run Tryz.prog W2 = .ok (.enter f #[v, p1, p2]) W2) (la : x.lo.l.length ≤ 10000000000000) (hlo : ∀ W2 : World, Below w.heap.size w W2 → Calls Tryz.prog f #[.bool false, p1, p2] W2 (GivQ x.lo W2)) (hhi : ∀ W2 : World, Below w.heap.size w W2 → Calls Tryz.prog f #[.bool true, p1, p2] W2 (Faults k W2)) :
  Calls Tryz.prog 23 #[.func (Fn.func f) #[] #[p1, p2]] w (Faults k w) := by
 have BB := below_alloc w (.cells #[.bool false, .slice none 0 0, .int .i64 0, .bool false, .slice none 0 0, .int .i64 0] 29)
 have HLO := Lib.hid hlo
 clear hlo
 have HHI := Lib.hid hhi
 clear hhi
 have LA := Lib.hid la
 clear la
 go_enter Tryz.func23, Tryz.ntmps23
 go_wp2_with fail
 refine (HLO.out _ BB).mono ?_
 rintro en w1 ⟨A1, n3, c1, rfl, h1, b⟩
 replace BB := bnx BB b
 clear b
 go_wp2_with fail
 refine (iown_any (s := x.lo.s) (e := x.lo.e) h1 (by rw [← h1.len]; exact LA.out)).mono ?_
 rintro en w2 ⟨A3, c3, rfl, h3, b⟩
 clear h1
 replace BB := bnx BB b
 clear b
 obtain ⟨y0, y1, y2⟩ := (Box.new w2 x.lo.s A3 n3 c3 x.lo.e).held
 have b := below_alloc w2 (.cells #[.bool x.lo.s, .slice A3 n3 c3, .int .i64 x.lo.e] 25)
 replace BB := bnx BB b
 replace h3 := mv b rfl h3
 clear b
 clear HLO LA
 go_wp2_with fail
 have b : Below (w2.alloc (.cells #[.bool x.lo.s, .slice A3 n3 c3, .int .i64 x.lo.e] 25)).heap.size (w2.alloc (.cells #[.bool x.lo.s, .slice A3 n3 c3, .int .i64 x.lo.e] 25)) (World.drew (w2.alloc (.cells #[.bool x.lo.s, .slice A3 n3 c3, .int .i64 x.lo.e] 25))) := below_drewN (Below.refl _ _) 1
 replace BB := bnx BB b
 have G := mv b rfl (J4 h3 y0 y1 y2)
 clear b h3 y0 y1 y2
 obtain ⟨h3, y0, y1, y2⟩ := G
 refine wp_region_held_drew (S := fun w' => w'.cell? ⟨w2.heap.size, 0, none⟩ = some (.bool x.lo.s) ∧ w'.cell? ⟨w2.heap.size, 1, none⟩ = some (.slice A3 n3 c3) ∧ w'.cell? ⟨w2.heap.size, 2, none⟩ = some (.int .i64 x.lo.e)) (by kernel_rfl) (by exact ⟨y0, y1, y2⟩) (fun hHeldv0 => ?_)
 generalize World.drew (w2.alloc (.cells #[.bool x.lo.s, .slice A3 n3 c3, .int .i64 x.lo.e] 25)) = wd at *
 refine tl 0 ?_
 refine tl 1 ?_
 refine rdy 2 fun K hK => ?_
 go_simp
 refine (HHI.out _ BB).mono ?_
 rintro en w' ⟨rfl, b⟩
 exact ⟨rfl, rfl, below_next BB BB.size b (by rfl) (by rfl) (by rfl) (by rfl)⟩

end Go.Proofs.YteagjlcmgiknmaaGreatDoor
