/-
  Contract of arith's corners, whatever is asked of each two ends, at this translation.
-/
import Derived.Test.YtehfdfjpmmpndaaGreatDoorQLe
import Derived.Test.YtehfdfjpmmpndaaGreatDoorQTa
import Derived.Test.YtehfdfjpmmpndaaGreatDoorQIs
import Derived.Lib.SmallJoins
set_option maxHeartbeats 8000000
set_option maxRecDepth 100000
namespace Go.Proofs.YtehfdfjpmmpndaaGreatDoor
open Go.RowKit
variable {A A1 A2 : Option Addr} {a b : Rw} {base c c1 c2 d g i m n n1 n2 : Nat} {v : Value} {w : World} {x : Iv}
theorem qs_two (hg : w.heap.size = g) (h1 : Rd w .u64 W A1 n1 c1 a.l) (h2 : Rd w .u64 W A2 n2 c2 b.l) : Qs (w.alloc (.cells #[.bool a.s, .slice A1 n1 c1, .int .i64 a.e, .bool b.s, .slice A2 n2 c2, .int .i64 b.e] 28)) g [a, b] := by
 subst hg
 have bl := below_alloc w (.cells #[.bool a.s, .slice A1 n1 c1, .int .i64 a.e, .bool b.s, .slice A2 n2 c2, .int .i64 b.e] 28)
 have hc : ∀ j : Nat, (w.alloc (.cells #[.bool a.s, .slice A1 n1 c1, .int .i64 a.e, .bool b.s, .slice A2 n2 c2, .int .i64 b.e] 28)).cell? ⟨w.heap.size, j, none⟩ = (#[.bool a.s, .slice A1 n1 c1, .int .i64 a.e, .bool b.s, .slice A2 n2 c2, .int .i64 b.e] : Array Value)[j]? := fun j => cell_of_row _ _ j _ 28 (0, 0) (heap_alloc_new w _)
 intro i hi
 rcases (show i = 0 ∨ i = 1 by simp at hi; omega) with rfl | rfl
 ·exact ⟨A1, n1, c1, ⟨hc 0, hc 1, hc 2⟩, h1.next bl rfl⟩
 exact ⟨A2, n2, c2, ⟨hc 3, hc 4, hc 5⟩, h2.next bl rfl⟩
section
variable {w w' : World} {row : Option Nat}
theorem grown_cell (hg : w.grownBy w' row) (h : w.cell? ⟨g, i, none⟩ = some v) (hne : row ≠ some g) : w'.cell? ⟨g, i, none⟩ = some v := hg.cell h (fun e => hne e.symm)
theorem grown_rd (hg : w.grownBy w' row) (hl : ∀ k, row = some k → ∀ i x : Nat, w.cell? ⟨k, i, none⟩ ≠ some (.int .u64 (x : Int))) {l : List Nat} (h : Rd w .u64 W A n c l) : Rd w' .u64 W A n c l := by
 cases hr : row with
 | none => rw [hr] at hg; exact h.grownNone hg
 | some g => rw [hr] at hg; exact h.grown hg (h.off (hl g hr))
theorem grown_qs (hg : w.grownBy w' row) (hl : ∀ k, row = some k → ∀ i x : Nat, w.cell? ⟨k, i, none⟩ ≠ some (.int .u64 (x : Int))) {L : List Rw} (h : Qs w g L) (hne : row ≠ some g) : Qs w' g L := fun i hi => by
 obtain ⟨A, n, c, ⟨h0, h1, h2⟩, r⟩ := h i hi
 exact ⟨A, n, c, ⟨grown_cell hg h0 hne, grown_cell hg h1 hne, grown_cell hg h2 hne⟩, grown_rd hg hl r⟩
theorem grown_ibx (hg : w.grownBy w' row) {s : Bool} {e : Int} {t : Bool} {B : Option Addr} {f : Int} (h : Ibx w g s A n c e t B m d f) (hne : row ≠ some g) : Ibx w' g s A n c e t B m d f := ⟨(hg.block g h.gl (fun e => hne e.symm)).trans h.blk⟩
theorem grown_box (hg : w.grownBy w' row) {s : Bool} {e : Int} (h : Box w g s A n c e) (hne : row ≠ some g) : Box w' g s A n c e := ⟨(hg.block g h.gl (fun e => hne e.symm)).trans h.blk⟩
theorem grown_below {b0 : Nat} {w0 : World} (hg : w.grownBy w' row) (h : Below b0 w0 w) (hr : ∀ k, row = some k → b0 ≤ k) (hs : b0 ≤ w.heap.size) : Below b0 w0 w' := h.grown hg hs hr
end
def Pre (F : Rw → Rw → Except Int Rw) (x y : Iv) (n : Nat) (L : List Rw) : Prop := L.length = n ∧ ∀ k, k < n → F ([x.lo, x.hi].getD (k / 2) Rw.zero) ([y.lo, y.hi].getD (k % 2) Rw.zero) = .ok (L.getD k Rw.zero)
section
variable {F : Rw → Rw → Except Int Rw} {x y : Iv} {n : Nat} {L : List Rw}
theorem pre_nil : Pre F x y 0 [] := ⟨rfl, fun k hk => absurd hk (Nat.not_lt_zero k)⟩
theorem pre_snoc {v a b : Rw} {i j : Nat} (h : Pre F x y (2 * i + j) L) (hj : j < 2) (ha : a = [x.lo, x.hi].getD i Rw.zero) (hb : b = [y.lo, y.hi].getD j Rw.zero) (hv : F a b = .ok v) : Pre F x y (2 * i + (j + 1)) (L ++ [v]) := by
 refine ⟨by rw [List.length_append, h.1]; simp; omega, fun k hk => ?_⟩
 by_cases hkn : k < 2 * i + j
 ·rw [h.2 k hkn, List.getD_eq_getElem?_getD, List.getD_eq_getElem?_getD, List.getElem?_append_left (by rw [h.1]; exact hkn)]
 obtain rfl : k = 2 * i + j := by omega
 rw [show (2 * i + j) / 2 = i by omega, show (2 * i + j) % 2 = j by omega, ← ha, ← hb, hv, List.getD_eq_getElem?_getD, List.getElem?_append_right (by rw [h.1]; exact Nat.le_refl _), h.1, Nat.sub_self]
 rfl
theorem pre_done (h : Pre F x y (2 * 2) L) : corO F x y = .ok L := by
 obtain ⟨h1, h2⟩ := h
 match L, h1 with
 | [a, b, c, d], _ =>
  have k0 : F x.lo y.lo = .ok a := h2 0 (by decide)
  have k1 : F x.lo y.hi = .ok b := h2 1 (by decide)
  have k2 : F x.hi y.lo = .ok c := h2 2 (by decide)
  have k3 : F x.hi y.hi = .ok d := h2 3 (by decide)
  unfold corO
  simp only [k0, k1, k2, k3, thn]
theorem pre_err {i j : Nat} {k : Int} (h : Pre F x y (2 * i + j) L) (hi : i < 2) (hj : j < 2) (ha : a = [x.lo, x.hi].getD i Rw.zero) (hb : b = [y.lo, y.hi].getD j Rw.zero) (hv : F a b = .error k) : corO F x y = .error k := by
 subst ha hb
 obtain ⟨_, h2⟩ := h
 unfold corO
 rcases (show (i = 0 ∧ j = 0) ∨ (i = 0 ∧ j = 1) ∨ (i = 1 ∧ j = 0) ∨ (i = 1 ∧ j = 1) by omega) with ⟨rfl, rfl⟩ | ⟨rfl, rfl⟩ | ⟨rfl, rfl⟩ | ⟨rfl, rfl⟩
 ·have k0 : F x.lo y.lo = .error k := hv
  simp only [k0, thn]
 ·have k0 : F x.lo y.lo = .ok (L.getD 0 Rw.zero) := h2 0 (by decide)
  have k1 : F x.lo y.hi = .error k := hv
  simp only [k0, k1, thn]
 ·have k0 : F x.lo y.lo = .ok (L.getD 0 Rw.zero) := h2 0 (by decide)
  have k1 : F x.lo y.hi = .ok (L.getD 1 Rw.zero) := h2 1 (by decide)
  have k2 : F x.hi y.lo = .error k := hv
  simp only [k0, k1, k2, thn]
 have k0 : F x.lo y.lo = .ok (L.getD 0 Rw.zero) := h2 0 (by decide)
 have k1 : F x.lo y.hi = .ok (L.getD 1 Rw.zero) := h2 1 (by decide)
 have k2 : F x.hi y.lo = .ok (L.getD 2 Rw.zero) := h2 2 (by decide)
 have k3 : F x.hi y.hi = .error k := hv
 simp only [k0, k1, k2, k3, thn]
end
def RunL (o : Except Int (List Rw)) (w : World) (en : Ending) (w' : World) : Prop := (∃ L g c, o = .ok L ∧ en = .returned (.slice (some ⟨g, 0, none⟩) L.length c) ∧ Qs w' g L ∧ Below w.heap.size w w') ∨ (∃ k, o = .error k ∧ k ≠ 0 ∧ Faults k w en w')
theorem QRow.lt {w : World} {base : Nat} {v : Value} {L : List Rw} (h : QRow w base v L) : ∀ k, v.ownBlock = some k → base ≤ k ∧ k < w.heap.size := by
 obtain ⟨xs, h1, _⟩ := h
 exact h1.lt
theorem corners0_run {F : Rw → Rw → Except Int Rw} {f : FuncId} {x y : Iv} {A3 : Option Addr} {n3 c3 : Nat} {A4 : Option Addr} {n4 c4 : Nat} (h1 : Rd w .u64 W A1 n1 c1 x.lo.l) (h2 : Rd w .u64 W A2 n2 c2 x.hi.l) (h3 : Rd w .u64 W A3 n3 c3 y.lo.l) (h4 : Rd w .u64 W A4 n4 c4 y.hi.l) (hf : ∀ (u v : Value) (W2 : World), (callFunc f #[u, v]).run Tryz.prog W2 = .ok (.enter f #[u, v]) W2) (hc : ∀ (W2 : World) (a b : Rw) (A1 : Option Addr) (n1 c1 : Nat) (A2 : Option Addr) (n2 c2 : Nat), Below w.heap.size w W2 → Rd W2 .u64 W A1 n1 c1 a.l → Rd W2 .u64 W A2 n2 c2 b.l → Calls Tryz.prog f #[.agg #[.bool a.s, .slice A1 n1 c1, .int .i64 a.e], .agg #[.bool b.s, .slice A2 n2 c2, .int .i64 b.e]] W2 (RunQ (F a b) W2)) :
  Calls Tryz.prog 112 #[.agg #[.bool x.lo.s, .slice A1 n1 c1, .int .i64 x.lo.e, .bool x.hi.s, .slice A2 n2 c2, .int .i64 x.hi.e], .agg #[.bool y.lo.s, .slice A3 n3 c3, .int .i64 y.lo.e, .bool y.hi.s, .slice A4 n4 c4, .int .i64 y.hi.e], .func (Fn.func f) #[] #[]] w (RunL (corO F x y) w) := by
 have bb := two_below w (.cells #[.bool x.lo.s, .slice A1 n1 c1, .int .i64 x.lo.e, .bool x.hi.s, .slice A2 n2 c2, .int .i64 x.hi.e] 30) (.cells #[.bool y.lo.s, .slice A3 n3 c3, .int .i64 y.lo.e, .bool y.hi.s, .slice A4 n4 c4, .int .i64 y.hi.e] 30)
 obtain ⟨_, xa, xb⟩ := two_ivl w (x := x) (y := y) (A1 := A1) (n1 := n1) (c1 := c1) (A2 := A2) (n2 := n2) (c2 := c2) (A3 := A3) (n3 := n3) (c3 := c3) (A4 := A4) (n4 := n4) (c4 := c4)
 obtain ⟨a0, a1, a2, a3, a4, a5⟩ := xa.held
 have qx := qs_two (w := ((w.alloc (.cells #[.bool x.lo.s, .slice A1 n1 c1, .int .i64 x.lo.e, .bool x.hi.s, .slice A2 n2 c2, .int .i64 x.hi.e] 30)).alloc (.cells #[.bool y.lo.s, .slice A3 n3 c3, .int .i64 y.lo.e, .bool y.hi.s, .slice A4 n4 c4, .int .i64 y.hi.e] 30))) (g := w.heap.size + 2) (by simp) (mv bb rfl h1) (mv bb rfl h2)
 have b3 := below_alloc ((w.alloc (.cells #[.bool x.lo.s, .slice A1 n1 c1, .int .i64 x.lo.e, .bool x.hi.s, .slice A2 n2 c2, .int .i64 x.hi.e] 30)).alloc (.cells #[.bool y.lo.s, .slice A3 n3 c3, .int .i64 y.lo.e, .bool y.hi.s, .slice A4 n4 c4, .int .i64 y.hi.e] 30)) (.cells #[.bool x.lo.s, .slice A1 n1 c1, .int .i64 x.lo.e, .bool x.hi.s, .slice A2 n2 c2, .int .i64 x.hi.e] 28)
 have BB := below_next bb bb.size b3 rfl rfl rfl rfl
 have xy := xb.next b3 rfl
 have HC := hyd hc
 clear hc xa xb bb b3
 go_enter Tryz.func112, Tryz.ntmps112
 go_wp2
 go_loopg [18, 7] 2 (fun q vi va wr => ∃ (i : Nat) (L : List Rw), i + q = 2 ∧ vi = .int .i64 i ∧ Pre F x y (2 * i) L ∧ QRow wr (w.heap.size + 3) va L ∧ Below w.heap.size w wr ∧ Qs wr (w.heap.size + 2) [x.lo, x.hi] ∧ Ibx wr (w.heap.size + 1) y.lo.s A3 n3 c3 y.lo.e y.hi.s A4 n4 c4 y.hi.e)
 case atStart => exact ⟨0, [], by omega, rfl, pre_nil, qrow_nil _ _, BB, qx, xy⟩
 case round =>
  obtain ⟨i, L, hg, rfl, hpre, hrow, hb, qx2, xy2⟩ := hrel
  clear BB qx xy a0 a1 a2 a3 a4 a5
  have HG := hyd hg
  have HP := hyd hpre
  clear hg hpre
  have lx := xy2.gl
  by_cases hi : i < 2
  ·generalize gk = G1 at *
   generalize wr = W1 at *
   obtain ⟨A5, n5, c5, ⟨y0, y1, y2⟩, q5⟩ := qx2 i (by simpa using hi)
   obtain ⟨a, ha⟩ : ∃ a, a = [x.lo, x.hi].getD i Rw.zero := ⟨_, rfl⟩
   rw [← ha] at y0 y2 q5
   have HA := hyd ha
   clear ha
   have hp2 : (i : Int) < 2 := by omega
   have hp3 : (0 : Int) ≤ i := by omega
   have h3' := h3.next hb rfl
   have h4' := h4.next hb rfl
   have hs1 := hb.size
   have b4 := below_alloc W1 (.cells #[.bool a.s, .slice A5 n5 c5, .int .i64 a.e] 28)
   have xa := Box.new W1 a.s A5 n5 c5 a.e
   have G := mv b4 rfl (J6 h3' h4' q5 qx2 xy2 hrow)
   clear h3' h4' q5 qx2 xy2
   obtain ⟨h3', h4', q5, qx2, xy2, hrow2⟩ := G
   obtain ⟨e0, e1, e2, e3, e4, e5⟩ := xy2.held
   have qy := qs_two (w := W1.alloc (.cells #[.bool a.s, .slice A5 n5 c5, .int .i64 a.e] 28)) (g := W1.heap.size + 1) (by simp) h3' h4'
   have b5 := below_alloc (W1.alloc (.cells #[.bool a.s, .slice A5 n5 c5, .int .i64 a.e] 28)) (.cells #[.bool y.lo.s, .slice A3 n3 c3, .int .i64 y.lo.e, .bool y.hi.s, .slice A4 n4 c4, .int .i64 y.hi.e] 28)
   have hb4 := below_next hb hb.size b4 rfl rfl rfl rfl
   have hb5 := below_next hb4 hb4.size b5 rfl rfl rfl rfl
   clear hb4
   have G := mv b5 rfl (J5 q5 qx2 xy2 hrow2 xa)
   clear q5 qx2 xy2 hrow2 xa
   obtain ⟨q5, qx2, xy2, hrow2, xa⟩ := G
   have hlt2 : ∀ k, _ → _ := hrow.lt
   clear hrow h3' h4'
   go_wp2
   go_loopg [28, 7] 2 (fun q vi va wr => ∃ (j : Nat) (L : List Rw), j + q = 2 ∧ vi = .int .i64 j ∧ Pre F x y (2 * i + j) L ∧ QRow wr (w.heap.size + 3) va L ∧ (∀ k, va.ownBlock = some k → k ≠ W1.heap.size ∧ k ≠ W1.heap.size + 1) ∧ Below w.heap.size w wr ∧ Qs wr (w.heap.size + 2) [x.lo, x.hi] ∧ Ibx wr (w.heap.size + 1) y.lo.s A3 n3 c3 y.lo.e y.hi.s A4 n4 c4 y.hi.e ∧ Box wr W1.heap.size a.s A5 n5 c5 a.e ∧ Rd wr .u64 W A5 n5 c5 a.l ∧ Qs wr (W1.heap.size + 1) [y.lo, y.hi])
   case atStart => exact ⟨0, L, by omega, rfl, HP.out, hrow2, fun k hk => by have := hlt2 k hk; omega, hb5, qx2, xy2, xa, q5, qy⟩
   case round =>
    obtain ⟨j, M, hg2, rfl, hpre2, hrow3, hown, hb6, qx3, xy3, xa3, q6, qy3⟩ := hrel
    clear hb5 qx2 xy2 hrow2 xa q5 qy b4 b5 hb hlt2 y0 y1 y2 e0 e1 e2 e3 e4 e5
    have HG2 := hyd hg2
    have HP2 := hyd hpre2
    have HOW := hyd hown
    clear hg2 hpre2 hown
    have l3 := xa3.gl
    by_cases hj : j < 2
    ·obtain ⟨A6, n6, c6, ⟨y0, y1, y2⟩, q7⟩ := qy3 j (by simpa using hj)
     obtain ⟨b, hb0⟩ : ∃ b, b = [y.lo, y.hi].getD j Rw.zero := ⟨_, rfl⟩
     rw [← hb0] at y0 y2 q7
     have HB0 := hyd hb0
     clear hb0
     have hp4 : (j : Int) < 2 := by omega
     have hp5 : (0 : Int) ≤ j := by omega
     have b6 := below_alloc wr (.cells #[.bool b.s, .slice A6 n6 c6, .int .i64 b.e] 28)
     have xb := Box.new wr b.s A6 n6 c6 b.e
     have G := mv b6 rfl (J7 hrow3 qx3 xy3 xa3 q6 qy3 q7)
     clear hrow3 qx3 xy3 xa3 q6 qy3 q7
     obtain ⟨hrow3, qx3, xy3, xa3, q6, qy3, q7⟩ := G
     have hb7 := below_next hb6 hb6.size b6 rfl rfl rfl rfl
     clear b6
     obtain ⟨m0, m1, m2⟩ := xa3.held
     obtain ⟨k0, k1, k2⟩ := xb.held
     obtain ⟨o, ho⟩ : ∃ o, o = F a b := ⟨_, rfl⟩
     have HO := hyd ho
     clear ho
     go_wp2_with fail
     refine (runq_to HO.out (HC.out _ a b A5 n5 c5 A6 n6 c6 hb7 q6 q7)).mono ?_
     rintro en w2 (⟨v, hv, A7, n7, c7, rfl, h7, b⟩ | ⟨kk, hk, hk0, rfl, b⟩)
     rotate_left
     ·replace hb7 := below_next hb7 hb7.size b (by rfl) (by rfl) (by rfl) (by rfl)
      clear b
      have HKK := hyd (And.intro hk hk0)
      clear hk hk0
      go_wp2
      exact ⟨rfl, .inr ⟨kk, pre_err HP2.out hi hj HA.out HB0.out (HO.out.symm.trans HKK.out.1), HKK.out.2, rfl, hb7⟩⟩
     replace hb7 := below_next hb7 hb7.size b (by rfl) (by rfl) (by rfl) (by rfl)
     have hsz : wr.heap.size < w2.heap.size := by have := b.size; simp at this; omega
     have G := mv b (by rfl) (J6 hrow3 qx3 xy3 xa3 q6 qy3)
     clear b hrow3 qx3 xy3 xa3 q6 qy3 q7 xb y0 y1 y2 m0 m1 m2 k0 k1 k2
     obtain ⟨hrow3, qx3, xy3, xa3, q6, qy3⟩ := G
     have HV := hyd (pre_snoc HP2.out hj HA.out HB0.out (HO.out.symm.trans hv))
     clear hv HO
     have b7 := below_alloc w2 (.cells #[.bool v.s, .slice A7 n7 c7, .int .i64 v.e] 28)
     have xv := Box.new w2 v.s A7 n7 c7 v.e
     have G := mv b7 rfl (J7 hrow3 qx3 xy3 xa3 q6 qy3 h7)
     clear hrow3 qx3 xy3 xa3 q6 qy3 h7
     obtain ⟨hrow3, qx3, xy3, xa3, q6, qy3, h7⟩ := G
     replace hb7 := below_next hb7 hb7.size b7 rfl rfl rfl rfl
     clear b7
     have hlen : M.length ≤ 1000 := by have := HP2.out.1; omega
     have hbase : w.heap.size + 3 ≤ (w2.alloc (.cells #[.bool v.s, .slice A7 n7 c7, .int .i64 v.e] 28)).heap.size := by have := hb7.size; have := xy3.gl; simp at *; omega
     go_wp2_with (at_builtin; refine wp_app rfl _ _ rfl rfl rfl hrow3 xv h7 hlen hbase ?_)
     intro va' w3 hrow4 hgrow hlimb hat
     have hl : ∀ k, _ → _ := fun k hk => (hlimb k hk).2
     have nx : _ ≠ some (w.heap.size + 2) := fun e => by have := (hlimb _ e).1; omega
     have ny : _ ≠ some (w.heap.size + 1) := fun e => by have := (hlimb _ e).1; omega
     have na : _ ≠ some W1.heap.size := fun e => (HOW.out _ e).1 rfl
     have nb : _ ≠ some (W1.heap.size + 1) := fun e => (HOW.out _ e).2 rfl
     replace qx3 := grown_qs hgrow hl qx3 nx
     replace xy3 := grown_ibx hgrow xy3 ny
     replace xa3 := grown_box hgrow xa3 na
     replace q6 := grown_rd hgrow hl q6
     replace qy3 := grown_qs hgrow hl qy3 nb
     replace hb7 := grown_below hgrow hb7 (fun k hk => by have := (hlimb k hk).1; omega) (by have := hb7.size; omega)
     have HW2 := hyd (show ∀ k, va'.ownBlock = some k → k ≠ W1.heap.size ∧ k ≠ W1.heap.size + 1 from fun k hk => by
      rcases hat with h | h
      ·exact HOW.out k (h ▸ hk)
      rw [h] at hk; injection hk with hk; omega)
     clear hat hgrow hlimb hl nx ny na nb hb6 hlen hbase xv h7
     go_wp2
     go_roundg (gk - 1)
     case measure => have := HG2.out; omega
     case rel => exact ⟨j + 1, _, by have := HG2.out; omega, by go_num, HV.out, hrow4, HW2.out, hb7, qx3, xy3, xa3, q6, qy3⟩
    have hj2 : j = 2 := by have := HG2.out; omega
    subst hj2
    have HP3 : Pre F x y (2 * (i + 1)) M := HP2.out
    have HP3 := hyd HP3
    go_wp2
    go_roundg (G1 - 1)
    case measure => have := HG.out; omega
    case rel => exact ⟨i + 1, M, by have := HG.out; omega, by go_num, HP3.out, hrow3, hb6, qx3, xy3⟩
  have hi2 : i = 2 := by have := HG.out; omega
  subst hi2
  have hL0 : L ≠ [] := by intro h; have := HP.out.1; rw [h] at this; cases this
  obtain ⟨g, cap, rfl, _, _, _, hQ⟩ := hrow.form hL0
  have HP3 := hyd (pre_done HP.out)
  go_wp2
  exact bodyPost_ret (v := .slice (some ⟨g, 0, none⟩) L.length cap) (by simp [results, Tryz.results112, go_sem]) rfl (.inl ⟨L, g, cap, HP3.out, rfl, hQ, hb⟩)
theorem corners2_run {F : Rw → Rw → Except Int Rw} {f : FuncId} {p1 p2 : Value} {x y : Iv} {A3 : Option Addr} {n3 c3 : Nat} {A4 : Option Addr} {n4 c4 : Nat} (h1 : Rd w .u64 W A1 n1 c1 x.lo.l) (h2 : Rd w .u64 W A2 n2 c2 x.hi.l) (h3 : Rd w .u64 W A3 n3 c3 y.lo.l) (h4 : Rd w .u64 W A4 n4 c4 y.hi.l) (hf : ∀ (u v : Value) (W2 : World), (callFunc f #[u, v, p1, p2]).run Tryz.prog W2 = .ok (.enter f #[u, v, p1, p2]) W2) (hc : ∀ (W2 : World) (a b : Rw) (A1 : Option Addr) (n1 c1 : Nat) (A2 : Option Addr) (n2 c2 : Nat), Below w.heap.size w W2 → Rd W2 .u64 W A1 n1 c1 a.l → Rd W2 .u64 W A2 n2 c2 b.l → Calls Tryz.prog f #[.agg #[.bool a.s, .slice A1 n1 c1, .int .i64 a.e], .agg #[.bool b.s, .slice A2 n2 c2, .int .i64 b.e], p1, p2] W2 (RunQ (F a b) W2)) :
  Calls Tryz.prog 112 #[.agg #[.bool x.lo.s, .slice A1 n1 c1, .int .i64 x.lo.e, .bool x.hi.s, .slice A2 n2 c2, .int .i64 x.hi.e], .agg #[.bool y.lo.s, .slice A3 n3 c3, .int .i64 y.lo.e, .bool y.hi.s, .slice A4 n4 c4, .int .i64 y.hi.e], .func (Fn.func f) #[] #[p1, p2]] w (RunL (corO F x y) w) := by
 have bb := two_below w (.cells #[.bool x.lo.s, .slice A1 n1 c1, .int .i64 x.lo.e, .bool x.hi.s, .slice A2 n2 c2, .int .i64 x.hi.e] 30) (.cells #[.bool y.lo.s, .slice A3 n3 c3, .int .i64 y.lo.e, .bool y.hi.s, .slice A4 n4 c4, .int .i64 y.hi.e] 30)
 obtain ⟨_, xa, xb⟩ := two_ivl w (x := x) (y := y) (A1 := A1) (n1 := n1) (c1 := c1) (A2 := A2) (n2 := n2) (c2 := c2) (A3 := A3) (n3 := n3) (c3 := c3) (A4 := A4) (n4 := n4) (c4 := c4)
 obtain ⟨a0, a1, a2, a3, a4, a5⟩ := xa.held
 have qx := qs_two (w := ((w.alloc (.cells #[.bool x.lo.s, .slice A1 n1 c1, .int .i64 x.lo.e, .bool x.hi.s, .slice A2 n2 c2, .int .i64 x.hi.e] 30)).alloc (.cells #[.bool y.lo.s, .slice A3 n3 c3, .int .i64 y.lo.e, .bool y.hi.s, .slice A4 n4 c4, .int .i64 y.hi.e] 30))) (g := w.heap.size + 2) (by simp) (mv bb rfl h1) (mv bb rfl h2)
 have b3 := below_alloc ((w.alloc (.cells #[.bool x.lo.s, .slice A1 n1 c1, .int .i64 x.lo.e, .bool x.hi.s, .slice A2 n2 c2, .int .i64 x.hi.e] 30)).alloc (.cells #[.bool y.lo.s, .slice A3 n3 c3, .int .i64 y.lo.e, .bool y.hi.s, .slice A4 n4 c4, .int .i64 y.hi.e] 30)) (.cells #[.bool x.lo.s, .slice A1 n1 c1, .int .i64 x.lo.e, .bool x.hi.s, .slice A2 n2 c2, .int .i64 x.hi.e] 28)
 have BB := below_next bb bb.size b3 rfl rfl rfl rfl
 have xy := xb.next b3 rfl
 have HC := hyd hc
 clear hc xa xb bb b3
 go_enter Tryz.func112, Tryz.ntmps112
 go_wp2
 go_loopg [18, 7] 2 (fun q vi va wr => ∃ (i : Nat) (L : List Rw), i + q = 2 ∧ vi = .int .i64 i ∧ Pre F x y (2 * i) L ∧ QRow wr (w.heap.size + 3) va L ∧ Below w.heap.size w wr ∧ Qs wr (w.heap.size + 2) [x.lo, x.hi] ∧ Ibx wr (w.heap.size + 1) y.lo.s A3 n3 c3 y.lo.e y.hi.s A4 n4 c4 y.hi.e)
 case atStart => exact ⟨0, [], by omega, rfl, pre_nil, qrow_nil _ _, BB, qx, xy⟩
 case round =>
  obtain ⟨i, L, hg, rfl, hpre, hrow, hb, qx2, xy2⟩ := hrel
  clear BB qx xy a0 a1 a2 a3 a4 a5
  have HG := hyd hg
  have HP := hyd hpre
  clear hg hpre
  have lx := xy2.gl
  by_cases hi : i < 2
  ·generalize gk = G1 at *
   generalize wr = W1 at *
   obtain ⟨A5, n5, c5, ⟨y0, y1, y2⟩, q5⟩ := qx2 i (by simpa using hi)
   obtain ⟨a, ha⟩ : ∃ a, a = [x.lo, x.hi].getD i Rw.zero := ⟨_, rfl⟩
   rw [← ha] at y0 y2 q5
   have HA := hyd ha
   clear ha
   have hp2 : (i : Int) < 2 := by omega
   have hp3 : (0 : Int) ≤ i := by omega
   have h3' := h3.next hb rfl
   have h4' := h4.next hb rfl
   have hs1 := hb.size
   have b4 := below_alloc W1 (.cells #[.bool a.s, .slice A5 n5 c5, .int .i64 a.e] 28)
   have xa := Box.new W1 a.s A5 n5 c5 a.e
   have G := mv b4 rfl (J6 h3' h4' q5 qx2 xy2 hrow)
   clear h3' h4' q5 qx2 xy2
   obtain ⟨h3', h4', q5, qx2, xy2, hrow2⟩ := G
   obtain ⟨e0, e1, e2, e3, e4, e5⟩ := xy2.held
   have qy := qs_two (w := W1.alloc (.cells #[.bool a.s, .slice A5 n5 c5, .int .i64 a.e] 28)) (g := W1.heap.size + 1) (by simp) h3' h4'
   have b5 := below_alloc (W1.alloc (.cells #[.bool a.s, .slice A5 n5 c5, .int .i64 a.e] 28)) (.cells #[.bool y.lo.s, .slice A3 n3 c3, .int .i64 y.lo.e, .bool y.hi.s, .slice A4 n4 c4, .int .i64 y.hi.e] 28)
   have hb4 := below_next hb hb.size b4 rfl rfl rfl rfl
   have hb5 := below_next hb4 hb4.size b5 rfl rfl rfl rfl
   clear hb4
   have G := mv b5 rfl (J5 q5 qx2 xy2 hrow2 xa)
   clear q5 qx2 xy2 hrow2 xa
   obtain ⟨q5, qx2, xy2, hrow2, xa⟩ := G
   have hlt2 : ∀ k, _ → _ := hrow.lt
   clear hrow h3' h4'
   go_wp2
   go_loopg [28, 7] 2 (fun q vi va wr => ∃ (j : Nat) (L : List Rw), j + q = 2 ∧ vi = .int .i64 j ∧ Pre F x y (2 * i + j) L ∧ QRow wr (w.heap.size + 3) va L ∧ (∀ k, va.ownBlock = some k → k ≠ W1.heap.size ∧ k ≠ W1.heap.size + 1) ∧ Below w.heap.size w wr ∧ Qs wr (w.heap.size + 2) [x.lo, x.hi] ∧ Ibx wr (w.heap.size + 1) y.lo.s A3 n3 c3 y.lo.e y.hi.s A4 n4 c4 y.hi.e ∧ Box wr W1.heap.size a.s A5 n5 c5 a.e ∧ Rd wr .u64 W A5 n5 c5 a.l ∧ Qs wr (W1.heap.size + 1) [y.lo, y.hi])
   case atStart => exact ⟨0, L, by omega, rfl, HP.out, hrow2, fun k hk => by have := hlt2 k hk; omega, hb5, qx2, xy2, xa, q5, qy⟩
   case round =>
    obtain ⟨j, M, hg2, rfl, hpre2, hrow3, hown, hb6, qx3, xy3, xa3, q6, qy3⟩ := hrel
    clear hb5 qx2 xy2 hrow2 xa q5 qy b4 b5 hb hlt2 y0 y1 y2 e0 e1 e2 e3 e4 e5
    have HG2 := hyd hg2
    have HP2 := hyd hpre2
    have HOW := hyd hown
    clear hg2 hpre2 hown
    have l3 := xa3.gl
    by_cases hj : j < 2
    ·obtain ⟨A6, n6, c6, ⟨y0, y1, y2⟩, q7⟩ := qy3 j (by simpa using hj)
     obtain ⟨b, hb0⟩ : ∃ b, b = [y.lo, y.hi].getD j Rw.zero := ⟨_, rfl⟩
     rw [← hb0] at y0 y2 q7
     have HB0 := hyd hb0
     clear hb0
     have hp4 : (j : Int) < 2 := by omega
     have hp5 : (0 : Int) ≤ j := by omega
     have b6 := below_alloc wr (.cells #[.bool b.s, .slice A6 n6 c6, .int .i64 b.e] 28)
     have xb := Box.new wr b.s A6 n6 c6 b.e
     have G := mv b6 rfl (J7 hrow3 qx3 xy3 xa3 q6 qy3 q7)
     clear hrow3 qx3 xy3 xa3 q6 qy3 q7
     obtain ⟨hrow3, qx3, xy3, xa3, q6, qy3, q7⟩ := G
     have hb7 := below_next hb6 hb6.size b6 rfl rfl rfl rfl
     clear b6
     obtain ⟨m0, m1, m2⟩ := xa3.held
     obtain ⟨k0, k1, k2⟩ := xb.held
     obtain ⟨o, ho⟩ : ∃ o, o = F a b := ⟨_, rfl⟩
     have HO := hyd ho
     clear ho
     go_wp2_with fail
     refine (runq_to HO.out (HC.out _ a b A5 n5 c5 A6 n6 c6 hb7 q6 q7)).mono ?_
     rintro en w2 (⟨v, hv, A7, n7, c7, rfl, h7, b⟩ | ⟨kk, hk, hk0, rfl, b⟩)
     rotate_left
     ·replace hb7 := below_next hb7 hb7.size b (by rfl) (by rfl) (by rfl) (by rfl)
      clear b
      have HKK := hyd (And.intro hk hk0)
      clear hk hk0
      go_wp2
      exact ⟨rfl, .inr ⟨kk, pre_err HP2.out hi hj HA.out HB0.out (HO.out.symm.trans HKK.out.1), HKK.out.2, rfl, hb7⟩⟩
     replace hb7 := below_next hb7 hb7.size b (by rfl) (by rfl) (by rfl) (by rfl)
     have hsz : wr.heap.size < w2.heap.size := by have := b.size; simp at this; omega
     have G := mv b (by rfl) (J6 hrow3 qx3 xy3 xa3 q6 qy3)
     clear b hrow3 qx3 xy3 xa3 q6 qy3 q7 xb y0 y1 y2 m0 m1 m2 k0 k1 k2
     obtain ⟨hrow3, qx3, xy3, xa3, q6, qy3⟩ := G
     have HV := hyd (pre_snoc HP2.out hj HA.out HB0.out (HO.out.symm.trans hv))
     clear hv HO
     have b7 := below_alloc w2 (.cells #[.bool v.s, .slice A7 n7 c7, .int .i64 v.e] 28)
     have xv := Box.new w2 v.s A7 n7 c7 v.e
     have G := mv b7 rfl (J7 hrow3 qx3 xy3 xa3 q6 qy3 h7)
     clear hrow3 qx3 xy3 xa3 q6 qy3 h7
     obtain ⟨hrow3, qx3, xy3, xa3, q6, qy3, h7⟩ := G
     replace hb7 := below_next hb7 hb7.size b7 rfl rfl rfl rfl
     clear b7
     have hlen : M.length ≤ 1000 := by have := HP2.out.1; omega
     have hbase : w.heap.size + 3 ≤ (w2.alloc (.cells #[.bool v.s, .slice A7 n7 c7, .int .i64 v.e] 28)).heap.size := by have := hb7.size; have := xy3.gl; simp at *; omega
     go_wp2_with (at_builtin; refine wp_app rfl _ _ rfl rfl rfl hrow3 xv h7 hlen hbase ?_)
     intro va' w3 hrow4 hgrow hlimb hat
     have hl : ∀ k, _ → _ := fun k hk => (hlimb k hk).2
     have nx : _ ≠ some (w.heap.size + 2) := fun e => by have := (hlimb _ e).1; omega
     have ny : _ ≠ some (w.heap.size + 1) := fun e => by have := (hlimb _ e).1; omega
     have na : _ ≠ some W1.heap.size := fun e => (HOW.out _ e).1 rfl
     have nb : _ ≠ some (W1.heap.size + 1) := fun e => (HOW.out _ e).2 rfl
     replace qx3 := grown_qs hgrow hl qx3 nx
     replace xy3 := grown_ibx hgrow xy3 ny
     replace xa3 := grown_box hgrow xa3 na
     replace q6 := grown_rd hgrow hl q6
     replace qy3 := grown_qs hgrow hl qy3 nb
     replace hb7 := grown_below hgrow hb7 (fun k hk => by have := (hlimb k hk).1; omega) (by have := hb7.size; omega)
     have HW2 := hyd (show ∀ k, va'.ownBlock = some k → k ≠ W1.heap.size ∧ k ≠ W1.heap.size + 1 from fun k hk => by
      rcases hat with h | h
      ·exact HOW.out k (h ▸ hk)
      rw [h] at hk; injection hk with hk; omega)
     clear hat hgrow hlimb hl nx ny na nb hb6 hlen hbase xv h7
     go_wp2
     go_roundg (gk - 1)
     case measure => have := HG2.out; omega
     case rel => exact ⟨j + 1, _, by have := HG2.out; omega, by go_num, HV.out, hrow4, HW2.out, hb7, qx3, xy3, xa3, q6, qy3⟩
    have hj2 : j = 2 := by have := HG2.out; omega
    subst hj2
    have HP3 : Pre F x y (2 * (i + 1)) M := HP2.out
    have HP3 := hyd HP3
    go_wp2
    go_roundg (G1 - 1)
    case measure => have := HG.out; omega
    case rel => exact ⟨i + 1, M, by have := HG.out; omega, by go_num, HP3.out, hrow3, hb6, qx3, xy3⟩
  have hi2 : i = 2 := by have := HG.out; omega
  subst hi2
  have hL0 : L ≠ [] := by intro h; have := HP.out.1; rw [h] at this; cases this
  obtain ⟨g, cap, rfl, _, _, _, hQ⟩ := hrow.form hL0
  have HP3 := hyd (pre_done HP.out)
  go_wp2
  exact bodyPost_ret (v := .slice (some ⟨g, 0, none⟩) L.length cap) (by simp [results, Tryz.results112, go_sem]) rfl (.inl ⟨L, g, cap, HP3.out, rfl, hQ, hb⟩)
set_option maxHeartbeats 200000
set_option maxRecDepth 100000
open Go.RowKit
theorem cell_next {w X w2 : World} (b : Below X.heap.size X w2) (e : X.heap = w.heap) {p : Addr} (h : w.cell? p = some v) : w2.cell? p = some v := by
 have h1 : X.cell? p = some v := by rw [← h]; unfold World.cell?; rw [e]
 exact (b.cell (World.block_lt_of_cell? X _ h1)).trans h1
structure Blk (w : World) (g : Nat) (cs : Array Value) (T : TypeId) : Prop where
 blk : w.heap[g]? = some (.cells cs T (0, 0))
section
variable {w w' : World} {g : Nat} {cs : Array Value} {T : TypeId}
theorem Blk.gl (h : Blk w g cs T) : g < w.heap.size := by
 rcases Nat.lt_or_ge g w.heap.size with hlt | hge
 ·exact hlt
 have := h.blk; rw [Array.getElem?_eq_none hge] at this; cases this
theorem Blk.at (h : Blk w g cs T) (i : Nat) (hv : cs[i]? = some v := by rfl) : w.cell? ⟨g, i, none⟩ = some v := (cell_of_row w g i _ T (0, 0) h.blk).trans hv
theorem Blk.frozen (h : Blk w g cs T) (i : Nat) : w.frozen? ⟨g, i, none⟩ = false := by
 have := h.blk
 simp [World.frozen?, this]
theorem Blk.next {X w2 : World} (h : Blk w g cs T) (b : Below X.heap.size X w2) (he : X.heap = w.heap) : Blk w2 g cs T := ⟨by
 have h1 : X.heap[g]? = some (.cells cs T (0, 0)) := by rw [he]; exact h.blk
 exact (b.block g (Array.getElem?_eq_some_iff.1 h1).1).trans h1⟩
theorem Blk.new (w : World) (cs : Array Value) (T : TypeId) : Blk (w.alloc (.cells cs T)) w.heap.size cs T := ⟨heap_alloc_new w _⟩
end
instance {w w2 : World} {g : Nat} {cs : Array Value} {T : TypeId} : Moves w w2 (Blk w g cs T) (Blk w2 g cs T) := ⟨fun _ b e h => h.next b e⟩
def LnAt (w : World) (g o : Nat) (l : Ln) : Prop := ∃ A1 n1 c1 A2 n2 c2, (w.cell? ⟨g, o, none⟩ = some (.int .i64 l.op) ∧ w.cell? ⟨g, o + 1, none⟩ = some (.int .i64 l.a) ∧ w.cell? ⟨g, o + 2, none⟩ = some (.int .i64 l.b) ∧ w.cell? ⟨g, o + 3, none⟩ = some (.bool l.k.lo.s) ∧ w.cell? ⟨g, o + 4, none⟩ = some (.slice A1 n1 c1) ∧ w.cell? ⟨g, o + 5, none⟩ = some (.int .i64 l.k.lo.e) ∧ w.cell? ⟨g, o + 6, none⟩ = some (.bool l.k.hi.s) ∧ w.cell? ⟨g, o + 7, none⟩ = some (.slice A2 n2 c2) ∧ w.cell? ⟨g, o + 8, none⟩ = some (.int .i64 l.k.hi.e)) ∧ Rd w .u64 W A1 n1 c1 l.k.lo.l ∧ Rd w .u64 W A2 n2 c2 l.k.hi.l
theorem LnAt.next {w X w2 : World} {g o : Nat} {l : Ln} (h : LnAt w g o l) (b : Below X.heap.size X w2) (e : X.heap = w.heap) : LnAt w2 g o l := by
 obtain ⟨A1, n1, c1, A2, n2, c2, ⟨h0, h1, h2, h3, h4, h5, h6, h7, h8⟩, r1, r2⟩ := h
 exact ⟨A1, n1, c1, A2, n2, c2, ⟨cell_next b e h0, cell_next b e h1, cell_next b e h2, cell_next b e h3, cell_next b e h4, cell_next b e h5, cell_next b e h6, cell_next b e h7, cell_next b e h8⟩, r1.next b e, r2.next b e⟩
instance {w w2 : World} {g o : Nat} {l : Ln} : Moves w w2 (LnAt w g o l) (LnAt w2 g o l) := ⟨fun _ b e h => h.next b e⟩
structure RdL (w : World) (A : Option Addr) (n c : Nat) (L : Nat → Ln) : Prop where
 cap : n ≤ c
 max : c ≤ 9223372036854775807
 at_ : n ≠ 0 → ∃ b o, A = some ⟨b, o, none⟩ ∧ ∀ i, i < n → LnAt w b (o + i * 9) (L i)
theorem RdL.next {w X w2 : World} {A : Option Addr} {n c : Nat} {L : Nat → Ln} (h : RdL w A n c L) (b : Below X.heap.size X w2) (e : X.heap = w.heap) : RdL w2 A n c L :=
 ⟨h.cap, h.max, fun hn => by
  obtain ⟨g, o, ha, hc⟩ := h.at_ hn
  exact ⟨g, o, ha, fun i hi => (hc i hi).next b e⟩⟩
instance {w w2 : World} {A : Option Addr} {n c : Nat} {L : Nat → Ln} : Moves w w2 (RdL w A n c L) (RdL w2 A n c L) := ⟨fun _ b e h => h.next b e⟩
structure RdZ (w : World) (A : Option Addr) (n c : Nat) (O : Nat → Int) : Prop where
 cap : n ≤ c
 max : c ≤ 9223372036854775807
 at_ : n ≠ 0 → ∃ b o, A = some ⟨b, o, none⟩ ∧ ∀ i, i < n → w.cell? ⟨b, o + i, none⟩ = some (.int .i64 (O i))
theorem RdZ.next {w X w2 : World} {O : Nat → Int} (h : RdZ w A n c O) (b : Below X.heap.size X w2) (e : X.heap = w.heap) : RdZ w2 A n c O :=
 ⟨h.cap, h.max, fun hn => by
  obtain ⟨g, o, ha, hc⟩ := h.at_ hn
  exact ⟨g, o, ha, fun i hi => cell_next b e (hc i hi)⟩⟩
instance {w w2 : World} {A : Option Addr} {n c : Nat} {O : Nat → Int} : Moves w w2 (RdZ w A n c O) (RdZ w2 A n c O) := ⟨fun _ b e h => h.next b e⟩
theorem RdS.next {w Y w2 : World} {A : Option Addr} {n c : Nat} {X : Nat → Iv} (h : RdS w A n c X) (b : Below Y.heap.size Y w2) (e : Y.heap = w.heap) : RdS w2 A n c X :=
 ⟨h.cap, h.max, fun hn => by
  obtain ⟨g, o, ha, hc⟩ := h.at_ hn
  exact ⟨g, o, ha, hc.next b e⟩⟩
instance {w w2 : World} {A : Option Addr} {n c : Nat} {X : Nat → Iv} : Moves w w2 (RdS w A n c X) (RdS w2 A n c X) := ⟨fun _ b e h => h.next b e⟩
structure RdE (w : World) (E : En) (A1 : Option Addr) (n1 c1 : Nat) (A2 : Option Addr) (n2 c2 : Nat) (AX : Option Addr) (cX : Nat) (AU : Option Addr) (cU : Nat) (AP : Option Addr) (cP : Nat) : Prop where
 lo : Rd w .u64 W A1 n1 c1 E.t.lo.l
 hi : Rd w .u64 W A2 n2 c2 E.t.hi.l
 X : RdS w AX E.nx cX E.X
 U : RdS w AU E.nu cU E.U
 P : RdS w AP E.np cP E.P
instance {w w2 : World} {E : En} {A1 : Option Addr} {n1 c1 : Nat} {A2 : Option Addr} {n2 c2 : Nat} {AX : Option Addr} {cX : Nat} {AU : Option Addr} {cU : Nat} {AP : Option Addr} {cP : Nat} : Moves w w2 (RdE w E A1 n1 c1 A2 n2 c2 AX cX AU cU AP cP) (RdE w2 E A1 n1 c1 A2 n2 c2 AX cX AU cU AP cP) := ⟨fun _ b e h => ⟨h.lo.next b e, h.hi.next b e, h.X.next b e, h.U.next b e, h.P.next b e⟩⟩
def Celi (w : World) : List Iv → List Value → Prop
 | [], xs => xs = []
 | x :: L, xs => ∃ A n c B m d ys, xs = .bool x.lo.s :: .slice A n c :: .int .i64 x.lo.e :: .bool x.hi.s :: .slice B m d :: .int .i64 x.hi.e :: ys ∧ Rd w .u64 W A n c x.lo.l ∧ Rd w .u64 W B m d x.hi.l ∧ Celi w L ys
theorem Celi.mv {w w' : World} (f : ∀ A n c l, Rd w .u64 W A n c l → Rd w' .u64 W A n c l) : ∀ {L : List Iv} {xs : List Value}, Celi w L xs → Celi w' L xs
 | [], _, h => h
 | _ :: _, _, ⟨A, n, c, B, m, d, ys, h1, h2, h3, h4⟩ => ⟨A, n, c, B, m, d, ys, h1, f _ _ _ _ h2, f _ _ _ _ h3, h4.mv f⟩
theorem Celi.snoc {w : World} {x : Iv} {A : Option Addr} {n c : Nat} {B : Option Addr} {m d : Nat} (hr : Rd w .u64 W A n c x.lo.l) (hs : Rd w .u64 W B m d x.hi.l) : ∀ {L : List Iv} {xs : List Value}, Celi w L xs → Celi w (L ++ [x]) (xs ++ [.bool x.lo.s, .slice A n c, .int .i64 x.lo.e, .bool x.hi.s, .slice B m d, .int .i64 x.hi.e])
 | [], _, h => by
  have h : _ = [] := h
  subst h
  exact ⟨A, n, c, B, m, d, [], rfl, hr, hs, rfl⟩
 | _ :: _, _, ⟨A', n', c', B', m', d', ys, h1, h2, h3, h4⟩ => ⟨A', n', c', B', m', d', ys ++ [.bool x.lo.s, .slice A n c, .int .i64 x.lo.e, .bool x.hi.s, .slice B m d, .int .i64 x.hi.e], by rw [h1]; rfl, h2, h3, h4.snoc hr hs⟩
theorem Celi.get {w : World} : ∀ {L : List Iv} {xs : List Value}, Celi w L xs → ∀ i, i < L.length → ∃ A n c B m d, xs[i * 6]? = some (.bool (L.getD i Iv.zero).lo.s) ∧ xs[i * 6 + 1]? = some (.slice A n c) ∧ xs[i * 6 + 2]? = some (.int .i64 (L.getD i Iv.zero).lo.e) ∧ xs[i * 6 + 3]? = some (.bool (L.getD i Iv.zero).hi.s) ∧ xs[i * 6 + 4]? = some (.slice B m d) ∧ xs[i * 6 + 5]? = some (.int .i64 (L.getD i Iv.zero).hi.e) ∧ Rd w .u64 W A n c (L.getD i Iv.zero).lo.l ∧ Rd w .u64 W B m d (L.getD i Iv.zero).hi.l
 | [], _, _, i, hi => absurd hi (Nat.not_lt_zero _)
 | x :: L, _, ⟨A, n, c, B, m, d, ys, h1, h2, h3, h4⟩, 0, _ => by subst h1; exact ⟨A, n, c, B, m, d, rfl, rfl, rfl, rfl, rfl, rfl, h2, h3⟩
 | x :: L, _, ⟨A, n, c, B, m, d, ys, h1, h2, h3, h4⟩, i + 1, hi => by
  subst h1
  obtain ⟨A', n', c', B', m', d', g1, g2, g3, g4, g5, g6, g7, g8⟩ := h4.get i (by simpa using hi)
  have e0 : (i + 1) * 6 = i * 6 + 6 := by omega
  refine ⟨A', n', c', B', m', d', ?_, ?_, ?_, ?_, ?_, ?_, ?_, ?_⟩
  ·rw [e0]; simpa using g1
  ·rw [show (i + 1) * 6 + 1 = (i * 6 + 1) + 6 by omega]; simpa using g2
  ·rw [show (i + 1) * 6 + 2 = (i * 6 + 2) + 6 by omega]; simpa using g3
  ·rw [show (i + 1) * 6 + 3 = (i * 6 + 3) + 6 by omega]; simpa using g4
  ·rw [show (i + 1) * 6 + 4 = (i * 6 + 4) + 6 by omega]; simpa using g5
  ·rw [show (i + 1) * 6 + 5 = (i * 6 + 5) + 6 by omega]; simpa using g6
  ·simpa using g7
  simpa using g8
def IRow (w : World) (base : Nat) (v : Value) (L : List Iv) : Prop := ∃ xs, RowN w base 30 6 v L.length xs ∧ Celi w L xs
theorem IRow.next {w X w2 : World} {base : Nat} {v : Value} {L : List Iv} (h : IRow w base v L) (b : Below X.heap.size X w2) (e : X.heap = w.heap) : IRow w2 base v L := by
 obtain ⟨xs, h1, h2⟩ := h
 exact ⟨xs, h1.next b e, h2.mv fun _ _ _ _ hr => hr.next b e⟩
instance {w w2 : World} {base : Nat} {v : Value} {L : List Iv} : Moves w w2 (IRow w base v L) (IRow w2 base v L) := ⟨fun _ b e h => h.next b e⟩
theorem irow_nil (w : World) (base : Nat) : IRow w base (.slice none 0 0) [] := ⟨[], rown_nil .., rfl⟩
theorem IRow.lt {w : World} {base : Nat} {v : Value} {L : List Iv} (h : IRow w base v L) : ∀ k, v.ownBlock = some k → base ≤ k ∧ k < w.heap.size := by
 obtain ⟨xs, h1, _⟩ := h
 exact h1.lt
theorem IRow.no {L : List Iv} (h : IRow w base v L) : ∀ k, v.ownBlock = some k → ∀ i x : Nat, w.cell? ⟨k, i, none⟩ ≠ some (.int .u64 (x : Int)) := by
 obtain ⟨xs, h1, _⟩ := h
 exact h1.2
theorem IRow.form {L : List Iv} (h : IRow w base v L) : ∃ A c, v = .slice A L.length c ∧ RdS w A L.length c (fun i => L.getD i Iv.zero) ∧ (L ≠ [] → ∃ g, A = some ⟨g, 0, none⟩ ∧ v.ownBlock = some g ∧ g < w.heap.size ∧ Ivs w g 0 L.length (fun i => L.getD i Iv.zero)) := by
 obtain ⟨xs, h1, h2⟩ := h
 have hlt := h1.lt
 rcases h1.1.2 with ⟨hv, h3⟩ | ⟨g, cap, cur, hv, hb, hg, hc, hm, _, ht⟩
 ·refine ⟨none, 0, by rw [hv, h3], ⟨by omega, by omega, fun hn => absurd h3 hn⟩, fun h0 => absurd (List.eq_nil_of_length_eq_zero h3) h0⟩
 have hcell := h1.1.cells (g := g) (by rw [hv]; rfl)
 have key : ∀ j u, xs[j]? = some u → w.cell? ⟨g, j, none⟩ = some u := fun j u hu => by
  have := hcell j u hu
  rwa [show (⟨g, 0, none⟩ : Addr).add j = ⟨g, j, none⟩ by unfold Addr.add; split <;> simp_all] at this
 have hI : Ivs w g 0 L.length (fun i => L.getD i Iv.zero) := fun i hi => by
  obtain ⟨A, n, c, B, m, d, g1, g2, g3, g4, g5, g6, g7, g8⟩ := h2.get i hi
  rw [show 0 + i * 6 = i * 6 by omega]
  exact ⟨A, n, c, B, m, d, ⟨key _ _ g1, key _ _ g2, key _ _ g3, key _ _ g4, key _ _ g5, key _ _ g6⟩, g7, g8⟩
 exact ⟨some ⟨g, 0, none⟩, cap, hv, ⟨hc, by unfold maxLen at hm; omega, fun _ => ⟨g, 0, rfl, hI⟩⟩, fun _ => ⟨g, rfl, by rw [hv]; rfl, (hlt g (by rw [hv]; rfl)).2, hI⟩⟩
theorem infoIv : (Tryz.prog.info? 30).map (fun i => (i.zero, i.size, i.bytes)) = some (some (.agg #[.bool false, .slice none 0 0, .int .i64 0, .bool false, .slice none 0 0, .int .i64 0]), 6, 80) := by kernel_rfl
theorem wp_appi {ops : Array Oper} {rest : List Oper} {o : Oper} {a : Act} {Q : Exit → Act → World → Prop} (hgd : o.guard = none) (s x : Operand)
  (ho : o.op = .call { callee := .builtin .append, args := #[s, x], argTypes := #[31, 31] }) {L : List Iv} {b : Nat} {q : Iv} {B : Option Addr}
  (hs : a.eval s = v) (hx : a.eval x = .slice (some ⟨b, 0, none⟩) 1 1) (h : IRow w base v L) (hb : Ibx w b q.lo.s A n c q.lo.e q.hi.s B m d q.hi.e) (hr : Rd w .u64 W A n c q.lo.l) (hr2 : Rd w .u64 W B m d q.hi.l) (hL : L.length ≤ 1000) (hbase : base ≤ w.heap.size)
  (hK : ∀ v' w', IRow w' base v' (L ++ [q]) → w.grownBy w' v.ownBlock → (∀ k, v.ownBlock = some k → base ≤ k ∧ ∀ i x : Nat, w.cell? ⟨k, i, none⟩ ≠ some (.int .u64 (x : Int))) → (v'.ownBlock = v.ownBlock ∨ v'.ownBlock = some w.heap.size) → wpList Tryz.prog ops Q rest (a.put o.dst v') w') : wpList Tryz.prog ops Q (o :: rest) a w := by
 obtain ⟨xs, h1, h2⟩ := h
 obtain ⟨i0, hi, hz0, hz1, hz2⟩ := info_partsD infoIv
 obtain ⟨b0, b1, b2, b3, b4, b5⟩ := hb.held
 obtain ⟨v', w', hr', g1, g2, g3⟩ := run_append_n (ty := o.type) (c := 1) Tryz.underlying31 hi hz0 hz1 hz2 rfl (by decide) (by intro u hu x hx; simp [Value.cells] at hu; rcases hu with rfl | rfl | rfl | rfl | rfl | rfl <;> cases hx) h1 (a := ⟨b, 0, none⟩) (m := 1) (news := [.bool q.lo.s, .slice A n c, .int .i64 q.lo.e, .bool q.hi.s, .slice B m d, .int .i64 q.hi.e]) rfl
  (fun j u hu => by
   match j, hu with
   | 0, hu => simp at hu; subst hu; simpa [Addr.add] using b0
   | 1, hu => simp at hu; subst hu; simpa [Addr.add] using b1
   | 2, hu => simp at hu; subst hu; simpa [Addr.add] using b2
   | 3, hu => simp at hu; subst hu; simpa [Addr.add] using b3
   | 4, hu => simp at hu; subst hu; simpa [Addr.add] using b4
   | 5, hu => simp at hu; subst hu; simpa [Addr.add] using b5)
  (fun u hu => by simp at hu; rcases hu with rfl | rfl | rfl | rfl | rfl | rfl <;> rfl) (fun u hu x hx => by simp at hu; rcases hu with rfl | rfl | rfl | rfl | rfl | rfl <;> cases hx) (by decide) (by unfold maxLen; omega) (by omega) hbase
 have hfar : ∀ (B : Option Addr) (k d : Nat) (l : List Nat), Rd w .u64 W B k d l → Rd w' .u64 W B k d l := fun B k d l hB => by
  cases hv : v.ownBlock with
  | none => rw [hv] at g2; exact hB.grownNone g2
  | some g => rw [hv] at g2; exact hB.grown g2 (hB.off (h1.2 g hv))
 have hrow : IRow w' base v' (L ++ [q]) := ⟨xs ++ [.bool q.lo.s, .slice A n c, .int .i64 q.lo.e, .bool q.hi.s, .slice B m d, .int .i64 q.hi.e], by simpa using g1, (h2.mv hfar).snoc (hfar _ _ _ _ hr) (hfar _ _ _ _ hr2)⟩
 refine wpList_plain hgd fun K hK2 => ?_
 unfold Oper.wp execOp
 simp only [ho, resolve, invoke, builtin, Sem.run_bind, Sem.run_pure, Result.andThen_ok, List.map_toArray, List.map_cons, List.map_nil, hs, hx, hr']
 exact hK2 _ _ (hK v' w' hrow g2 (fun k hk => ⟨(h1.lt k hk).1, h1.2 k hk⟩) g3)
open Go.ChangeShapes Go.WideShapes Go.ChangeAt Go.RowKit
section
variable {H : Type} {enc : TypeId × Value → H} {W0 : World}
theorem open_zs {y : DataW H × List MemPlace} {fuel : Nat} (hf : DataW.trod enc Tryz.prog W0 0 (fun _ => true) true fuel 23 [v] = some y) : ∃ A n c O, v = .slice A n c ∧ RdZ W0 A n c O := by
 rcases open_ints Tryz.underlying23 Tryz.underlying3 cells_int hf with ⟨hcs, _⟩ | ⟨a, n, c, zs, hcs, _, hl, hm, hz, _, hcell, hwz⟩
 ·simp at hcs
  exact ⟨none, 0, 0, fun _ => 0, hcs, by omega, by omega, fun h => absurd rfl h⟩
 simp at hcs
 have hz' : zs.length = c := by simpa using hz
 refine ⟨some a, n, c, fun i => zs.getD i 0, hcs, hl, by unfold maxLen at hm; exact hm, fun hn => ?_⟩
 obtain ⟨b, o, rfl, hc⟩ := ints_at hcell (by omega)
 refine ⟨b, o, rfl, fun j hj => ?_⟩
 rw [hc j (by omega)]
end
open Go.RowKit
theorem cells_tell {q : Except Int Iv} {f : FuncId} {args : Array Value} {k : Int} (h1 : okc q = k) (h2 : oiv q = x) (h : Calls Tryz.prog f args w (TellI k x w)) : Calls Tryz.prog f args w (TellO q w) := by
 subst h1 h2
 exact h
theorem iround_tell (S : Sc) {p : Int} (hT : Tab w) (h1 : Rd w .u64 W A1 n1 c1 x.lo.l) (h2 : Rd w .u64 W A2 n2 c2 x.hi.l) (hm : mayI S.K x = true) (hp1 : 1 ≤ p) (hp2 : p ≤ 2000) :
  Calls Tryz.prog 74 #[.agg #[.bool x.lo.s, .slice A1 n1 c1, .int .i64 x.lo.e, .bool x.hi.s, .slice A2 n2 c2, .int .i64 x.hi.e], .int .i64 p] w (TellO (rouI S x p) w) := by
 obtain ⟨P, rfl⟩ := Int.eq_ofNat_of_zero_le (show 0 ≤ p by omega)
 have hP1 : 1 ≤ P := by omega
 have hP2 : P ≤ 2000 := by omega
 obtain ⟨k1, s, m, e, hl⟩ := nm_total x.lo.s (rdN P (val W x.lo.l) (false != x.lo.s)) x.lo.e
 obtain ⟨k2, s', m', e', hh⟩ := nm_total x.hi.s (rdN P (val W x.hi.l) (true != x.hi.s)) x.hi.e
 have ml := (mayI_iff.1 hm).1
 have mh := (mayI_iff.1 hm).2.1
 have r1 : rndR x.lo (P : Int) false k1 s m e := by
  unfold rndR
  rw [if_pos ⟨⟨hp1, hp2⟩, ml⟩, Int.toNat_natCast]
  exact hl
 have r2 : rndR x.hi (P : Int) true k2 s' m' e' := by
  unfold rndR
  rw [if_pos ⟨⟨hp1, hp2⟩, mh⟩, Int.toNat_natCast]
  exact hh
 have o1 := S.is _ _ _ _ _ rndR_only r1
 have o2 := S.is _ _ _ _ _ rndR_only r2
 by_cases z1 : k1 = 0
 ·subst z1
  have g1 : rndO S x.lo (P : Int) false = .ok (Rw.of s m e) := o1.1 rfl
  by_cases z2 : k2 = 0
  ·subst z2
   have g2 : rndO S x.hi (P : Int) true = .ok (Rw.of s' m' e') := o2.1 rfl
   have hq : rouI S x (P : Int) = .ok ⟨Rw.of s m e, Rw.of s' m' e'⟩ := by
    unfold rouI outO
    simp only [g1, g2, thn]
   exact cells_tell (by rw [hq]; rfl) (by rw [hq]; rfl) (iround_ok S.big hT h1 h2 hm hP1 hP2 hl hh)
  have g2 : rndO S x.hi (P : Int) true = .error k2 := o2.2 z2
  have hq : rouI S x (P : Int) = .error k2 := by
   unfold rouI outO
   simp only [g1, g2, thn]
  exact cells_tell (by rw [hq]; rfl) (by rw [hq]; rfl) (iround_hi S.big hT h1 h2 hm hP1 hP2 hl hh z2)
 have g1 : rndO S x.lo (P : Int) false = .error k1 := o1.2 z1
 have hq : rouI S x (P : Int) = .error k1 := by
  unfold rouI outO
  simp only [g1, thn]
 exact cells_tell (by rw [hq]; rfl) (by rw [hq]; rfl) (iround_lo S.big hT h1 h2 hm hP1 hP2 hl z1)
end Go.Proofs.YtehfdfjpmmpndaaGreatDoor
