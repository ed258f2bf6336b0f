/-
 Contract of arith's corners, whatever is asked of each two ends, at this translation. Condition: the slices read as limbs, the table of math/bits reads as its text lays it.
-/
import Derived.Test.YteagjlcmgiknmaaGreatDoorQLe
set_option maxHeartbeats 8000000
set_option maxRecDepth 100000
namespace Go.Proofs.YteagjlcmgiknmaaGreatDoor
open Go.RowKit

theorem qs_two {w : World} {g : Nat} (hg : w.heap.size = g) {a b : Rw} {A1 : Option Addr} {n1 c1 : Nat} {A2 : Option Addr} {n2 c2 : Nat} (h1 : Rd w .u64 Go.Proofs.YteagjlcmgiknmaaGreatDoor.W A1 n1 c1 a.l) (h2 : Rd w .u64 Go.Proofs.YteagjlcmgiknmaaGreatDoor.W A2 n2 c2 b.l) : Qs (w.alloc (.cells #[.bool a.s, .slice A1 n1 c1, .int .i64 a.e, .bool b.s, .slice A2 n2 c2, .int .i64 b.e] 25)) g [a, b] := by
 subst hg
 have bl := below_alloc w (.cells #[.bool a.s, .slice A1 n1 c1, .int .i64 a.e, .bool b.s, .slice A2 n2 c2, .int .i64 b.e] 25)
 have hc : ∀ j : Nat, (w.alloc (.cells #[.bool a.s, .slice A1 n1 c1, .int .i64 a.e, .bool b.s, .slice A2 n2 c2, .int .i64 b.e] 25)).cell? ⟨w.heap.size, j, none⟩ = (#[.bool a.s, .slice A1 n1 c1, .int .i64 a.e, .bool b.s, .slice A2 n2 c2, .int .i64 b.e] : Array Value)[j]? := fun j => cell_of_row _ _ j _ 25 (0, 0) (heap_alloc_new w _)
 intro i hi
 rcases (show i = 0 ∨ i = 1 by simp at hi; omega) with rfl | rfl
 ·exact ⟨A1, n1, c1, ⟨hc 0, hc 1, hc 2⟩, h1.next bl rfl⟩
 ·exact ⟨A2, n2, c2, ⟨hc 3, hc 4, hc 5⟩, h2.next bl rfl⟩

section
variable {w w' : World} {row : Option Nat}
theorem grown_cell (hg : w.grownBy w' row) {g i : Nat} {v : Value} (h : w.cell? ⟨g, i, none⟩ = some v) (hne : row ≠ some g) : w'.cell? ⟨g, i, none⟩ = some v := hg.cell h (fun e => hne e.symm)
theorem grown_rd (hg : w.grownBy w' row) (hl : ∀ k, row = some k → ∀ i x : Nat, w.cell? ⟨k, i, none⟩ ≠ some (.int .u64 (x : Int))) {A : Option Addr} {n c : Nat} {l : List Nat} (h : Rd w .u64 Go.Proofs.YteagjlcmgiknmaaGreatDoor.W A n c l) : Rd w' .u64 Go.Proofs.YteagjlcmgiknmaaGreatDoor.W A n c l := by
 cases hr : row with
 | none => rw [hr] at hg; exact h.grownNone hg
 | some g => rw [hr] at hg; exact h.grown hg (h.off (hl g hr))
theorem grown_qs (hg : w.grownBy w' row) (hl : ∀ k, row = some k → ∀ i x : Nat, w.cell? ⟨k, i, none⟩ ≠ some (.int .u64 (x : Int))) {g : Nat} {L : List Rw} (h : Qs w g L) (hne : row ≠ some g) : Qs w' g L := fun i hi => by
 obtain ⟨A, n, c, ⟨h0, h1, h2⟩, r⟩ := h i hi
 exact ⟨A, n, c, ⟨grown_cell hg h0 hne, grown_cell hg h1 hne, grown_cell hg h2 hne⟩, grown_rd hg hl r⟩
theorem grown_ibx (hg : w.grownBy w' row) {g : Nat} {s : Bool} {A : Option Addr} {n c : Nat} {e : Int} {t : Bool} {B : Option Addr} {m d : Nat} {f : Int} (h : Ibx w g s A n c e t B m d f) (hne : row ≠ some g) : Ibx w' g s A n c e t B m d f := ⟨(hg.block g h.gl (fun e => hne e.symm)).trans h.blk⟩
theorem grown_box (hg : w.grownBy w' row) {g : Nat} {s : Bool} {A : Option Addr} {n c : Nat} {e : Int} (h : Box w g s A n c e) (hne : row ≠ some g) : Box w' g s A n c e := ⟨(hg.block g h.gl (fun e => hne e.symm)).trans h.blk⟩
theorem grown_below {b0 : Nat} {w0 : World} (hg : w.grownBy w' row) (h : Below b0 w0 w) (hr : ∀ k, row = some k → b0 ≤ k) (hs : b0 ≤ w.heap.size) : Below b0 w0 w' := h.grown hg hs hr
end
/-- the first n of the corners, in their order -/
def Pre (F : Rw → Rw → Except Int Rw) (x y : Iv) (n : Nat) (L : List Rw) : Prop := L.length = n ∧ ∀ k, k < n → F ([x.lo, x.hi].getD (k / 2) Rw.zero) ([y.lo, y.hi].getD (k % 2) Rw.zero) = .ok (L.getD k Rw.zero)
section
variable {F : Rw → Rw → Except Int Rw} {x y : Iv} {n : Nat} {L : List Rw}
theorem pre_nil : Pre F x y 0 [] := ⟨rfl, fun k hk => absurd hk (Nat.not_lt_zero k)⟩
theorem pre_snoc {v a b : Rw} {i j : Nat} (h : Pre F x y (2 * i + j) L) (hj : j < 2) (ha : a = [x.lo, x.hi].getD i Rw.zero) (hb : b = [y.lo, y.hi].getD j Rw.zero) (hv : F a b = .ok v) : Pre F x y (2 * i + (j + 1)) (L ++ [v]) := by
 refine ⟨by rw [List.length_append, h.1]; simp; omega, fun k hk => ?_⟩
 by_cases hkn : k < 2 * i + j
 ·rw [h.2 k hkn, List.getD_eq_getElem?_getD, List.getD_eq_getElem?_getD, List.getElem?_append_left (by rw [h.1]; exact hkn)]
 ·obtain rfl : k = 2 * i + j := by omega
  rw [show (2 * i + j) / 2 = i by omega, show (2 * i + j) % 2 = j by omega, ← ha, ← hb, hv, List.getD_eq_getElem?_getD, List.getElem?_append_right (by rw [h.1]; exact Nat.le_refl _), h.1, Nat.sub_self]
  rfl
theorem pre_done (h : Pre F x y (2 * 2) L) : corO F x y = .ok L := by
 obtain ⟨h1, h2⟩ := h
 match L, h1 with
 | [a, b, c, d], _ =>
  have k0 : F x.lo y.lo = .ok a := h2 0 (by decide)
  have k1 : F x.lo y.hi = .ok b := h2 1 (by decide)
  have k2 : F x.hi y.lo = .ok c := h2 2 (by decide)
  have k3 : F x.hi y.hi = .ok d := h2 3 (by decide)
  unfold corO
  simp only [k0, k1, k2, k3, thn]
theorem pre_err {a b : Rw} {i j : Nat} {k : Int} (h : Pre F x y (2 * i + j) L) (hi : i < 2) (hj : j < 2) (ha : a = [x.lo, x.hi].getD i Rw.zero) (hb : b = [y.lo, y.hi].getD j Rw.zero) (hv : F a b = .error k) : corO F x y = .error k := by
 subst ha hb
 obtain ⟨_, h2⟩ := h
 unfold corO
 rcases (show (i = 0 ∧ j = 0) ∨ (i = 0 ∧ j = 1) ∨ (i = 1 ∧ j = 0) ∨ (i = 1 ∧ j = 1) by omega) with ⟨rfl, rfl⟩ | ⟨rfl, rfl⟩ | ⟨rfl, rfl⟩ | ⟨rfl, rfl⟩
 ·have k0 : F x.lo y.lo = .error k := hv
  simp only [k0, thn]
 ·have k0 : F x.lo y.lo = .ok (L.getD 0 Rw.zero) := h2 0 (by decide)
  have k1 : F x.lo y.hi = .error k := hv
  simp only [k0, k1, thn]
 ·have k0 : F x.lo y.lo = .ok (L.getD 0 Rw.zero) := h2 0 (by decide)
  have k1 : F x.lo y.hi = .ok (L.getD 1 Rw.zero) := h2 1 (by decide)
  have k2 : F x.hi y.lo = .error k := hv
  simp only [k0, k1, k2, thn]
 ·have k0 : F x.lo y.lo = .ok (L.getD 0 Rw.zero) := h2 0 (by decide)
  have k1 : F x.lo y.hi = .ok (L.getD 1 Rw.zero) := h2 1 (by decide)
  have k2 : F x.hi y.lo = .ok (L.getD 2 Rw.zero) := h2 2 (by decide)
  have k3 : F x.hi y.hi = .error k := hv
  simp only [k0, k1, k2, k3, thn]
end
/-- how corners ends -/
def RunL (o : Except Int (List Rw)) (w : World) (en : Ending) (w' : World) : Prop := (∃ L g c, o = .ok L ∧ en = .returned (.slice (some ⟨g, 0, none⟩) L.length c) ∧ Qs w' g L ∧ Below w.heap.size w w') ∨ (∃ k, o = .error k ∧ k ≠ 0 ∧ Faults k w en w')
theorem QRow.lt {w : World} {base : Nat} {v : Value} {L : List Rw} (h : QRow w base v L) : ∀ k, v.ownBlock = some k → base ≤ k ∧ k < w.heap.size := by
 obtain ⟨xs, h1, _⟩ := h
 exact h1.lt

theorem corners0_run {w : World} {F : Rw → Rw → Except Int Rw} {f : FuncId} {x y : Iv} {A1 : Option Addr} {n1 c1 : Nat} {A2 : Option Addr} {n2 c2 : Nat} {A3 : Option Addr} {n3 c3 : Nat} {A4 : Option Addr} {n4 c4 : Nat} (h1 : Rd w .u64 Go.Proofs.YteagjlcmgiknmaaGreatDoor.W A1 n1 c1 x.lo.l) (h2 : Rd w .u64 Go.Proofs.YteagjlcmgiknmaaGreatDoor.W A2 n2 c2 x.hi.l) (h3 : Rd w .u64 Go.Proofs.YteagjlcmgiknmaaGreatDoor.W A3 n3 c3 y.lo.l) (h4 : Rd w .u64 Go.Proofs.YteagjlcmgiknmaaGreatDoor.W A4 n4 c4 y.hi.l) (hf : ∀ (u v : Value) (W2 : World), (callFunc f #[u, v]).run Tryz.prog W2 = .ok (.enter f #[u, v]) W2) (hc : ∀ (W2 : World) (a b : Rw) (A1 : Option Addr) (n1 c1 : Nat) (A2 : Option Addr) (n2 c2 : Nat), Below w.heap.size w W2 → Rd W2 .u64 Go.Proofs.YteagjlcmgiknmaaGreatDoor.W A1 n1 c1 a.l → Rd W2 .u64 Go.Proofs.YteagjlcmgiknmaaGreatDoor.W A2 n2 c2 b.l → Calls Tryz.prog f #[.agg #[.bool a.s, .slice A1 n1 c1, .int .i64 a.e], .agg #[.bool b.s, .slice A2 n2 c2, .int .i64 b.e]] W2 (RunQ (F a b) W2)) :
  Calls Tryz.prog 92 #[.agg #[.bool x.lo.s, .slice A1 n1 c1, .int .i64 x.lo.e, .bool x.hi.s, .slice A2 n2 c2, .int .i64 x.hi.e], .agg #[.bool y.lo.s, .slice A3 n3 c3, .int .i64 y.lo.e, .bool y.hi.s, .slice A4 n4 c4, .int .i64 y.hi.e], .func (Fn.func f) #[] #[]] w (RunL (corO F x y) w) := by
 have bb := two_below w (.cells #[.bool x.lo.s, .slice A1 n1 c1, .int .i64 x.lo.e, .bool x.hi.s, .slice A2 n2 c2, .int .i64 x.hi.e] 29) (.cells #[.bool y.lo.s, .slice A3 n3 c3, .int .i64 y.lo.e, .bool y.hi.s, .slice A4 n4 c4, .int .i64 y.hi.e] 29)
 obtain ⟨_, xa, xb⟩ := two_ivl w (x := x) (y := y) (A1 := A1) (n1 := n1) (c1 := c1) (A2 := A2) (n2 := n2) (c2 := c2) (A3 := A3) (n3 := n3) (c3 := c3) (A4 := A4) (n4 := n4) (c4 := c4)
 obtain ⟨a0, a1, a2, a3, a4, a5⟩ := xa.held
 have qx := qs_two (w := ((w.alloc (.cells #[.bool x.lo.s, .slice A1 n1 c1, .int .i64 x.lo.e, .bool x.hi.s, .slice A2 n2 c2, .int .i64 x.hi.e] 29)).alloc (.cells #[.bool y.lo.s, .slice A3 n3 c3, .int .i64 y.lo.e, .bool y.hi.s, .slice A4 n4 c4, .int .i64 y.hi.e] 29))) (g := w.heap.size + 2) (by simp) (mv bb rfl h1) (mv bb rfl h2)
 have b3 := below_alloc ((w.alloc (.cells #[.bool x.lo.s, .slice A1 n1 c1, .int .i64 x.lo.e, .bool x.hi.s, .slice A2 n2 c2, .int .i64 x.hi.e] 29)).alloc (.cells #[.bool y.lo.s, .slice A3 n3 c3, .int .i64 y.lo.e, .bool y.hi.s, .slice A4 n4 c4, .int .i64 y.hi.e] 29)) (.cells #[.bool x.lo.s, .slice A1 n1 c1, .int .i64 x.lo.e, .bool x.hi.s, .slice A2 n2 c2, .int .i64 x.hi.e] 25)
 have BB := below_next bb bb.size b3 rfl rfl rfl rfl
 have xy := xb.next b3 rfl
 have HC := Lib.hid hc
 clear hc xa xb bb b3
 go_enter Tryz.func92, Tryz.ntmps92
 go_wp2
 go_loopg [18, 7] 2 (fun q vi va wr => ∃ (i : Nat) (L : List Rw), i + q = 2 ∧ vi = .int .i64 i ∧ Pre F x y (2 * i) L ∧ QRow wr (w.heap.size + 3) va L ∧ Below w.heap.size w wr ∧ Qs wr (w.heap.size + 2) [x.lo, x.hi] ∧ Ibx wr (w.heap.size + 1) y.lo.s A3 n3 c3 y.lo.e y.hi.s A4 n4 c4 y.hi.e)
 case atStart => exact ⟨0, [], by omega, rfl, pre_nil, qrow_nil _ _, BB, qx, xy⟩
 case round =>
  obtain ⟨i, L, hg, rfl, hpre, hrow, hb, qx2, xy2⟩ := hrel
  clear BB qx xy a0 a1 a2 a3 a4 a5
  have HG := Lib.hid hg
  have HP := Lib.hid hpre
  clear hg hpre
  have lx := xy2.gl
  by_cases hi : i < 2
  ·generalize gk = G1 at *
   generalize wr = W1 at *
   obtain ⟨A5, n5, c5, ⟨y0, y1, y2⟩, q5⟩ := qx2 i (by simpa using hi)
   obtain ⟨a, ha⟩ : ∃ a, a = [x.lo, x.hi].getD i Rw.zero := ⟨_, rfl⟩
   rw [← ha] at y0 y2 q5
   have HA := Lib.hid ha
   clear ha
   have hp2 : (i : Int) < 2 := by omega
   have hp3 : (0 : Int) ≤ i := by omega
   have h3' := h3.next hb rfl
   have h4' := h4.next hb rfl
   have hs1 := hb.size
   have b4 := below_alloc W1 (.cells #[.bool a.s, .slice A5 n5 c5, .int .i64 a.e] 25)
   have xa := Box.new W1 a.s A5 n5 c5 a.e
   have G := mv b4 rfl (J6 h3' h4' q5 qx2 xy2 hrow)
   clear h3' h4' q5 qx2 xy2
   obtain ⟨h3', h4', q5, qx2, xy2, hrow2⟩ := G
   obtain ⟨e0, e1, e2, e3, e4, e5⟩ := xy2.held
   have qy := qs_two (w := W1.alloc (.cells #[.bool a.s, .slice A5 n5 c5, .int .i64 a.e] 25)) (g := W1.heap.size + 1) (by simp) h3' h4'
   have b5 := below_alloc (W1.alloc (.cells #[.bool a.s, .slice A5 n5 c5, .int .i64 a.e] 25)) (.cells #[.bool y.lo.s, .slice A3 n3 c3, .int .i64 y.lo.e, .bool y.hi.s, .slice A4 n4 c4, .int .i64 y.hi.e] 25)
   have hb4 := below_next hb hb.size b4 rfl rfl rfl rfl
   have hb5 := below_next hb4 hb4.size b5 rfl rfl rfl rfl
   clear hb4
   have G := mv b5 rfl (J5 q5 qx2 xy2 hrow2 xa)
   clear q5 qx2 xy2 hrow2 xa
   obtain ⟨q5, qx2, xy2, hrow2, xa⟩ := G
   have hlt2 : ∀ k, _ → _ := hrow.lt
   clear hrow h3' h4'
   go_wp2
   go_loopg [28, 7] 2 (fun q vi va wr => ∃ (j : Nat) (L : List Rw), j + q = 2 ∧ vi = .int .i64 j ∧ Pre F x y (2 * i + j) L ∧ QRow wr (w.heap.size + 3) va L ∧ (∀ k, va.ownBlock = some k → k ≠ W1.heap.size ∧ k ≠ W1.heap.size + 1) ∧ Below w.heap.size w wr ∧ Qs wr (w.heap.size + 2) [x.lo, x.hi] ∧ Ibx wr (w.heap.size + 1) y.lo.s A3 n3 c3 y.lo.e y.hi.s A4 n4 c4 y.hi.e ∧ Box wr W1.heap.size a.s A5 n5 c5 a.e ∧ Rd wr .u64 Go.Proofs.YteagjlcmgiknmaaGreatDoor.W A5 n5 c5 a.l ∧ Qs wr (W1.heap.size + 1) [y.lo, y.hi])
   case atStart => exact ⟨0, L, by omega, rfl, HP.out, hrow2, fun k hk => by have := hlt2 k hk; omega, hb5, qx2, xy2, xa, q5, qy⟩
   case round =>
    obtain ⟨j, M, hg2, rfl, hpre2, hrow3, hown, hb6, qx3, xy3, xa3, q6, qy3⟩ := hrel
    clear hb5 qx2 xy2 hrow2 xa q5 qy b4 b5 hb hlt2 y0 y1 y2 e0 e1 e2 e3 e4 e5
    have HG2 := Lib.hid hg2
    have HP2 := Lib.hid hpre2
    have HOW := Lib.hid hown
    clear hg2 hpre2 hown
    have l3 := xa3.gl
    by_cases hj : j < 2
    ·obtain ⟨A6, n6, c6, ⟨y0, y1, y2⟩, q7⟩ := qy3 j (by simpa using hj)
     obtain ⟨b, hb0⟩ : ∃ b, b = [y.lo, y.hi].getD j Rw.zero := ⟨_, rfl⟩
     rw [← hb0] at y0 y2 q7
     have HB0 := Lib.hid hb0
     clear hb0
     have hp4 : (j : Int) < 2 := by omega
     have hp5 : (0 : Int) ≤ j := by omega
     have b6 := below_alloc wr (.cells #[.bool b.s, .slice A6 n6 c6, .int .i64 b.e] 25)
     have xb := Box.new wr b.s A6 n6 c6 b.e
     have G := mv b6 rfl (J7 hrow3 qx3 xy3 xa3 q6 qy3 q7)
     clear hrow3 qx3 xy3 xa3 q6 qy3 q7
     obtain ⟨hrow3, qx3, xy3, xa3, q6, qy3, q7⟩ := G
     have hb7 := below_next hb6 hb6.size b6 rfl rfl rfl rfl
     clear b6
     obtain ⟨m0, m1, m2⟩ := xa3.held
     obtain ⟨k0, k1, k2⟩ := xb.held
     obtain ⟨o, ho⟩ : ∃ o, o = F a b := ⟨_, rfl⟩
     have HO := Lib.hid ho
     clear ho
     go_wp2_with fail
     refine (runq_to HO.out (HC.out _ a b A5 n5 c5 A6 n6 c6 hb7 q6 q7)).mono ?_
     rintro en w2 (⟨v, hv, A7, n7, c7, rfl, h7, b⟩ | ⟨kk, hk, hk0, rfl, b⟩)
     rotate_left
     ·replace hb7 := below_next hb7 hb7.size b (by rfl) (by rfl) (by rfl) (by rfl)
      clear b
      have HKK := Lib.hid (And.intro hk hk0)
      clear hk hk0
      go_wp2
      exact ⟨rfl, .inr ⟨kk, pre_err HP2.out hi hj HA.out HB0.out (HO.out.symm.trans HKK.out.1), HKK.out.2, rfl, hb7⟩⟩
     replace hb7 := below_next hb7 hb7.size b (by rfl) (by rfl) (by rfl) (by rfl)
     have hsz : wr.heap.size < w2.heap.size := by have := b.size; simp at this; omega
     have G := mv b (by rfl) <| And.intro hrow3 <| And.intro qx3 <| And.intro xy3 <| And.intro xa3 <| And.intro q6 <| qy3
     clear b hrow3 qx3 xy3 xa3 q6 qy3 q7 xb y0 y1 y2 m0 m1 m2 k0 k1 k2
     obtain ⟨hrow3, qx3, xy3, xa3, q6, qy3⟩ := G
     have HV := Lib.hid (pre_snoc HP2.out hj HA.out HB0.out (HO.out.symm.trans hv))
     clear hv HO
     have b7 := below_alloc w2 (.cells #[.bool v.s, .slice A7 n7 c7, .int .i64 v.e] 25)
     have xv := Box.new w2 v.s A7 n7 c7 v.e
     have G := mv b7 rfl (J7 hrow3 qx3 xy3 xa3 q6 qy3 h7)
     clear hrow3 qx3 xy3 xa3 q6 qy3 h7
     obtain ⟨hrow3, qx3, xy3, xa3, q6, qy3, h7⟩ := G
     replace hb7 := below_next hb7 hb7.size b7 rfl rfl rfl rfl
     clear b7
     have hlen : M.length ≤ 1000 := by have := HP2.out.1; omega
     have hbase : w.heap.size + 3 ≤ (w2.alloc (.cells #[.bool v.s, .slice A7 n7 c7, .int .i64 v.e] 25)).heap.size := by have := hb7.size; have := xy3.gl; simp at *; omega
     go_wp2_with (at_builtin; refine wp_app rfl _ _ rfl rfl rfl hrow3 xv h7 hlen hbase ?_)
     intro va' w3 hrow4 hgrow hlimb hat
     have hl : ∀ k, _ → _ := fun k hk => (hlimb k hk).2
     have nx : _ ≠ some (w.heap.size + 2) := fun e => by have := (hlimb _ e).1; omega
     have ny : _ ≠ some (w.heap.size + 1) := fun e => by have := (hlimb _ e).1; omega
     have na : _ ≠ some W1.heap.size := fun e => (HOW.out _ e).1 rfl
     have nb : _ ≠ some (W1.heap.size + 1) := fun e => (HOW.out _ e).2 rfl
     replace qx3 := grown_qs hgrow hl qx3 nx
     replace xy3 := grown_ibx hgrow xy3 ny
     replace xa3 := grown_box hgrow xa3 na
     replace q6 := grown_rd hgrow hl q6
     replace qy3 := grown_qs hgrow hl qy3 nb
     replace hb7 := grown_below hgrow hb7 (fun k hk => by have := (hlimb k hk).1; omega) (by have := hb7.size; omega)
     have HW2 := Lib.hid (show ∀ k, va'.ownBlock = some k → k ≠ W1.heap.size ∧ k ≠ W1.heap.size + 1 from fun k hk => by
      rcases hat with h | h
      ·exact HOW.out k (h ▸ hk)
      ·rw [h] at hk; injection hk with hk; omega)
     clear hat hgrow hlimb hl nx ny na nb hb6 hlen hbase xv h7
     go_wp2
     go_roundg (gk - 1)
     case measure => have := HG2.out; omega
     case rel => exact ⟨j + 1, _, by have := HG2.out; omega, by go_num, HV.out, hrow4, HW2.out, hb7, qx3, xy3, xa3, q6, qy3⟩
    ·have hj2 : j = 2 := by have := HG2.out; omega
     subst hj2
     have HP3 : Pre F x y (2 * (i + 1)) M := HP2.out
     have HP3 := Lib.hid HP3
     go_wp2
     go_roundg (G1 - 1)
     case measure => have := HG.out; omega
     case rel => exact ⟨i + 1, M, by have := HG.out; omega, by go_num, HP3.out, hrow3, hb6, qx3, xy3⟩
  ·have hi2 : i = 2 := by have := HG.out; omega
   subst hi2
   have hL0 : L ≠ [] := by intro h; have := HP.out.1; rw [h] at this; cases this
   obtain ⟨g, cap, rfl, _, _, _, hQ⟩ := hrow.form hL0
   have HP3 := Lib.hid (pre_done HP.out)
   go_wp2
   exact bodyPost_ret (v := .slice (some ⟨g, 0, none⟩) L.length cap) (by simp [results, Tryz.results92, go_sem]) rfl (.inl ⟨L, g, cap, HP3.out, rfl, hQ, hb⟩)

theorem corners2_run {w : World} {F : Rw → Rw → Except Int Rw} {f : FuncId} {p1 p2 : Value} {x y : Iv} {A1 : Option Addr} {n1 c1 : Nat} {A2 : Option Addr} {n2 c2 : Nat} {A3 : Option Addr} {n3 c3 : Nat} {A4 : Option Addr} {n4 c4 : Nat} (h1 : Rd w .u64 Go.Proofs.YteagjlcmgiknmaaGreatDoor.W A1 n1 c1 x.lo.l) (h2 : Rd w .u64 Go.Proofs.YteagjlcmgiknmaaGreatDoor.W A2 n2 c2 x.hi.l) (h3 : Rd w .u64 Go.Proofs.YteagjlcmgiknmaaGreatDoor.W A3 n3 c3 y.lo.l) (h4 : Rd w .u64 Go.Proofs.YteagjlcmgiknmaaGreatDoor.W A4 n4 c4 y.hi.l) (hf : ∀ (u v : Value) (W2 : World), (callFunc f #[u, v, p1, p2]).run Tryz.prog W2 = .ok (.enter f #[u, v, p1, p2]) W2) (hc : ∀ (W2 : World) (a b : Rw) (A1 : Option Addr) (n1 c1 : Nat) (A2 : Option Addr) (n2 c2 : Nat), Below w.heap.size w W2 → Rd W2 .u64 Go.Proofs.YteagjlcmgiknmaaGreatDoor.W A1 n1 c1 a.l → Rd W2 .u64 Go.Proofs.YteagjlcmgiknmaaGreatDoor.W A2 n2 c2 b.l → Calls Tryz.prog f #[.agg #[.bool a.s, .slice A1 n1 c1, .int .i64 a.e], .agg #[.bool b.s, .slice A2 n2 c2, .int .i64 b.e], p1, p2] W2 (RunQ (F a b) W2)) :
  Calls Tryz.prog 92 #[.agg #[.bool x.lo.s, .slice A1 n1 c1, .int .i64 x.lo.e, .bool x.hi.s, .slice A2 n2 c2, .int .i64 x.hi.e], .agg #[.bool y.lo.s, .slice A3 n3 c3, .int .i64 y.lo.e, .bool y.hi.s, .slice A4 n4 c4, .int .i64 y.hi.e], .func (Fn.func f) #[] #[p1, p2]] w (RunL (corO F x y) w) := by
 have bb := two_below w (.cells #[.bool x.lo.s, .slice A1 n1 c1, .int .i64 x.lo.e, .bool x.hi.s, .slice A2 n2 c2, .int .i64 x.hi.e] 29) (.cells #[.bool y.lo.s, .slice A3 n3 c3, .int .i64 y.lo.e, .bool y.hi.s, .slice A4 n4 c4, .int .i64 y.hi.e] 29)
 obtain ⟨_, xa, xb⟩ := two_ivl w (x := x) (y := y) (A1 := A1) (n1 := n1) (c1 := c1) (A2 := A2) (n2 := n2) (c2 := c2) (A3 := A3) (n3 := n3) (c3 := c3) (A4 := A4) (n4 := n4) (c4 := c4)
 obtain ⟨a0, a1, a2, a3, a4, a5⟩ := xa.held
 have qx := qs_two (w := ((w.alloc (.cells #[.bool x.lo.s, .slice A1 n1 c1, .int .i64 x.lo.e, .bool x.hi.s, .slice A2 n2 c2, .int .i64 x.hi.e] 29)).alloc (.cells #[.bool y.lo.s, .slice A3 n3 c3, .int .i64 y.lo.e, .bool y.hi.s, .slice A4 n4 c4, .int .i64 y.hi.e] 29))) (g := w.heap.size + 2) (by simp) (mv bb rfl h1) (mv bb rfl h2)
 have b3 := below_alloc ((w.alloc (.cells #[.bool x.lo.s, .slice A1 n1 c1, .int .i64 x.lo.e, .bool x.hi.s, .slice A2 n2 c2, .int .i64 x.hi.e] 29)).alloc (.cells #[.bool y.lo.s, .slice A3 n3 c3, .int .i64 y.lo.e, .bool y.hi.s, .slice A4 n4 c4, .int .i64 y.hi.e] 29)) (.cells #[.bool x.lo.s, .slice A1 n1 c1, .int .i64 x.lo.e, .bool x.hi.s, .slice A2 n2 c2, .int .i64 x.hi.e] 25)
 have BB := below_next bb bb.size b3 rfl rfl rfl rfl
 have xy := xb.next b3 rfl
 have HC := Lib.hid hc
 clear hc xa xb bb b3
 go_enter Tryz.func92, Tryz.ntmps92
 go_wp2
 go_loopg [18, 7] 2 (fun q vi va wr => ∃ (i : Nat) (L : List Rw), i + q = 2 ∧ vi = .int .i64 i ∧ Pre F x y (2 * i) L ∧ QRow wr (w.heap.size + 3) va L ∧ Below w.heap.size w wr ∧ Qs wr (w.heap.size + 2) [x.lo, x.hi] ∧ Ibx wr (w.heap.size + 1) y.lo.s A3 n3 c3 y.lo.e y.hi.s A4 n4 c4 y.hi.e)
 case atStart => exact ⟨0, [], by omega, rfl, pre_nil, qrow_nil _ _, BB, qx, xy⟩
 case round =>
  obtain ⟨i, L, hg, rfl, hpre, hrow, hb, qx2, xy2⟩ := hrel
  clear BB qx xy a0 a1 a2 a3 a4 a5
  have HG := Lib.hid hg
  have HP := Lib.hid hpre
  clear hg hpre
  have lx := xy2.gl
  by_cases hi : i < 2
  ·generalize gk = G1 at *
   generalize wr = W1 at *
   obtain ⟨A5, n5, c5, ⟨y0, y1, y2⟩, q5⟩ := qx2 i (by simpa using hi)
   obtain ⟨a, ha⟩ : ∃ a, a = [x.lo, x.hi].getD i Rw.zero := ⟨_, rfl⟩
   rw [← ha] at y0 y2 q5
   have HA := Lib.hid ha
   clear ha
   have hp2 : (i : Int) < 2 := by omega
   have hp3 : (0 : Int) ≤ i := by omega
   have h3' := h3.next hb rfl
   have h4' := h4.next hb rfl
   have hs1 := hb.size
   have b4 := below_alloc W1 (.cells #[.bool a.s, .slice A5 n5 c5, .int .i64 a.e] 25)
   have xa := Box.new W1 a.s A5 n5 c5 a.e
   have G := mv b4 rfl (J6 h3' h4' q5 qx2 xy2 hrow)
   clear h3' h4' q5 qx2 xy2
   obtain ⟨h3', h4', q5, qx2, xy2, hrow2⟩ := G
   obtain ⟨e0, e1, e2, e3, e4, e5⟩ := xy2.held
   have qy := qs_two (w := W1.alloc (.cells #[.bool a.s, .slice A5 n5 c5, .int .i64 a.e] 25)) (g := W1.heap.size + 1) (by simp) h3' h4'
   have b5 := below_alloc (W1.alloc (.cells #[.bool a.s, .slice A5 n5 c5, .int .i64 a.e] 25)) (.cells #[.bool y.lo.s, .slice A3 n3 c3, .int .i64 y.lo.e, .bool y.hi.s, .slice A4 n4 c4, .int .i64 y.hi.e] 25)
   have hb4 := below_next hb hb.size b4 rfl rfl rfl rfl
   have hb5 := below_next hb4 hb4.size b5 rfl rfl rfl rfl
   clear hb4
   have G := mv b5 rfl (J5 q5 qx2 xy2 hrow2 xa)
   clear q5 qx2 xy2 hrow2 xa
   obtain ⟨q5, qx2, xy2, hrow2, xa⟩ := G
   have hlt2 : ∀ k, _ → _ := hrow.lt
   clear hrow h3' h4'
   go_wp2
   go_loopg [28, 7] 2 (fun q vi va wr => ∃ (j : Nat) (L : List Rw), j + q = 2 ∧ vi = .int .i64 j ∧ Pre F x y (2 * i + j) L ∧ QRow wr (w.heap.size + 3) va L ∧ (∀ k, va.ownBlock = some k → k ≠ W1.heap.size ∧ k ≠ W1.heap.size + 1) ∧ Below w.heap.size w wr ∧ Qs wr (w.heap.size + 2) [x.lo, x.hi] ∧ Ibx wr (w.heap.size + 1) y.lo.s A3 n3 c3 y.lo.e y.hi.s A4 n4 c4 y.hi.e ∧ Box wr W1.heap.size a.s A5 n5 c5 a.e ∧ Rd wr .u64 Go.Proofs.YteagjlcmgiknmaaGreatDoor.W A5 n5 c5 a.l ∧ Qs wr (W1.heap.size + 1) [y.lo, y.hi])
   case atStart => exact ⟨0, L, by omega, rfl, HP.out, hrow2, fun k hk => by have := hlt2 k hk; omega, hb5, qx2, xy2, xa, q5, qy⟩
   case round =>
    obtain ⟨j, M, hg2, rfl, hpre2, hrow3, hown, hb6, qx3, xy3, xa3, q6, qy3⟩ := hrel
    clear hb5 qx2 xy2 hrow2 xa q5 qy b4 b5 hb hlt2 y0 y1 y2 e0 e1 e2 e3 e4 e5
    have HG2 := Lib.hid hg2
    have HP2 := Lib.hid hpre2
    have HOW := Lib.hid hown
    clear hg2 hpre2 hown
    have l3 := xa3.gl
    by_cases hj : j < 2
    ·obtain ⟨A6, n6, c6, ⟨y0, y1, y2⟩, q7⟩ := qy3 j (by simpa using hj)
     obtain ⟨b, hb0⟩ : ∃ b, b = [y.lo, y.hi].getD j Rw.zero := ⟨_, rfl⟩
     rw [← hb0] at y0 y2 q7
     have HB0 := Lib.hid hb0
     clear hb0
     have hp4 : (j : Int) < 2 := by omega
     have hp5 : (0 : Int) ≤ j := by omega
     have b6 := below_alloc wr (.cells #[.bool b.s, .slice A6 n6 c6, .int .i64 b.e] 25)
     have xb := Box.new wr b.s A6 n6 c6 b.e
     have G := mv b6 rfl (J7 hrow3 qx3 xy3 xa3 q6 qy3 q7)
     clear hrow3 qx3 xy3 xa3 q6 qy3 q7
     obtain ⟨hrow3, qx3, xy3, xa3, q6, qy3, q7⟩ := G
     have hb7 := below_next hb6 hb6.size b6 rfl rfl rfl rfl
     clear b6
     obtain ⟨m0, m1, m2⟩ := xa3.held
     obtain ⟨k0, k1, k2⟩ := xb.held
     obtain ⟨o, ho⟩ : ∃ o, o = F a b := ⟨_, rfl⟩
     have HO := Lib.hid ho
     clear ho
     go_wp2_with fail
     refine (runq_to HO.out (HC.out _ a b A5 n5 c5 A6 n6 c6 hb7 q6 q7)).mono ?_
     rintro en w2 (⟨v, hv, A7, n7, c7, rfl, h7, b⟩ | ⟨kk, hk, hk0, rfl, b⟩)
     rotate_left
     ·replace hb7 := below_next hb7 hb7.size b (by rfl) (by rfl) (by rfl) (by rfl)
      clear b
      have HKK := Lib.hid (And.intro hk hk0)
      clear hk hk0
      go_wp2
      exact ⟨rfl, .inr ⟨kk, pre_err HP2.out hi hj HA.out HB0.out (HO.out.symm.trans HKK.out.1), HKK.out.2, rfl, hb7⟩⟩
     replace hb7 := below_next hb7 hb7.size b (by rfl) (by rfl) (by rfl) (by rfl)
     have hsz : wr.heap.size < w2.heap.size := by have := b.size; simp at this; omega
     have G := mv b (by rfl) <| And.intro hrow3 <| And.intro qx3 <| And.intro xy3 <| And.intro xa3 <| And.intro q6 <| qy3
     clear b hrow3 qx3 xy3 xa3 q6 qy3 q7 xb y0 y1 y2 m0 m1 m2 k0 k1 k2
     obtain ⟨hrow3, qx3, xy3, xa3, q6, qy3⟩ := G
     have HV := Lib.hid (pre_snoc HP2.out hj HA.out HB0.out (HO.out.symm.trans hv))
     clear hv HO
     have b7 := below_alloc w2 (.cells #[.bool v.s, .slice A7 n7 c7, .int .i64 v.e] 25)
     have xv := Box.new w2 v.s A7 n7 c7 v.e
     have G := mv b7 rfl (J7 hrow3 qx3 xy3 xa3 q6 qy3 h7)
     clear hrow3 qx3 xy3 xa3 q6 qy3 h7
     obtain ⟨hrow3, qx3, xy3, xa3, q6, qy3, h7⟩ := G
     replace hb7 := below_next hb7 hb7.size b7 rfl rfl rfl rfl
     clear b7
     have hlen : M.length ≤ 1000 := by have := HP2.out.1; omega
     have hbase : w.heap.size + 3 ≤ (w2.alloc (.cells #[.bool v.s, .slice A7 n7 c7, .int .i64 v.e] 25)).heap.size := by have := hb7.size; have := xy3.gl; simp at *; omega
     go_wp2_with (at_builtin; refine wp_app rfl _ _ rfl rfl rfl hrow3 xv h7 hlen hbase ?_)
     intro va' w3 hrow4 hgrow hlimb hat
     have hl : ∀ k, _ → _ := fun k hk => (hlimb k hk).2
     have nx : _ ≠ some (w.heap.size + 2) := fun e => by have := (hlimb _ e).1; omega
     have ny : _ ≠ some (w.heap.size + 1) := fun e => by have := (hlimb _ e).1; omega
     have na : _ ≠ some W1.heap.size := fun e => (HOW.out _ e).1 rfl
     have nb : _ ≠ some (W1.heap.size + 1) := fun e => (HOW.out _ e).2 rfl
     replace qx3 := grown_qs hgrow hl qx3 nx
     replace xy3 := grown_ibx hgrow xy3 ny
     replace xa3 := grown_box hgrow xa3 na
     replace q6 := grown_rd hgrow hl q6
     replace qy3 := grown_qs hgrow hl qy3 nb
     replace hb7 := grown_below hgrow hb7 (fun k hk => by have := (hlimb k hk).1; omega) (by have := hb7.size; omega)
     have HW2 := Lib.hid (show ∀ k, va'.ownBlock = some k → k ≠ W1.heap.size ∧ k ≠ W1.heap.size + 1 from fun k hk => by
      rcases hat with h | h
      ·exact HOW.out k (h ▸ hk)
      ·rw [h] at hk; injection hk with hk; omega)
     clear hat hgrow hlimb hl nx ny na nb hb6 hlen hbase xv h7
     go_wp2
     go_roundg (gk - 1)
     case measure => have := HG2.out; omega
     case rel => exact ⟨j + 1, _, by have := HG2.out; omega, by go_num, HV.out, hrow4, HW2.out, hb7, qx3, xy3, xa3, q6, qy3⟩
    ·have hj2 : j = 2 := by have := HG2.out; omega
     subst hj2
     have HP3 : Pre F x y (2 * (i + 1)) M := HP2.out
     have HP3 := Lib.hid HP3
     go_wp2
     go_roundg (G1 - 1)
     case measure => have := HG.out; omega
     case rel => exact ⟨i + 1, M, by have := HG.out; omega, by go_num, HP3.out, hrow3, hb6, qx3, xy3⟩
  ·have hi2 : i = 2 := by have := HG.out; omega
   subst hi2
   have hL0 : L ≠ [] := by intro h; have := HP.out.1; rw [h] at this; cases this
   obtain ⟨g, cap, rfl, _, _, _, hQ⟩ := hrow.form hL0
   have HP3 := Lib.hid (pre_done HP.out)
   go_wp2
   exact bodyPost_ret (v := .slice (some ⟨g, 0, none⟩) L.length cap) (by simp [results, Tryz.results92, go_sem]) rfl (.inl ⟨L, g, cap, HP3.out, rfl, hQ, hb⟩)

end Go.Proofs.YteagjlcmgiknmaaGreatDoor
