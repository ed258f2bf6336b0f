/-
 Contract of the statements' own same of layer 5, at this translation. Condition: the slices read as limbs, the table of math/bits reads as its text lays it.
-/
import Derived.Test.YtdklnpaocaebkaaGreatDoorLa
import Derived.Test.YtdklnpaocaebkaaGreatDoorRc
set_option maxHeartbeats 8000000
set_option maxRecDepth 100000
namespace Go.Proofs.YtdklnpaocaebkaaGreatDoor
open Go.RowKit

theorem rless_any {w : World} {K : Nat} {a b : Rw} {A1 : Option Addr} {n1 c1 : Nat} {A2 : Option Addr} {n2 c2 : Nat} (hK : 4194304 ≤ K) (h1 : Rd w .u64 Go.Proofs.YtdklnpaocaebkaaGreatDoor.W A1 n1 c1 a.l) (h2 : Rd w .u64 Go.Proofs.YtdklnpaocaebkaaGreatDoor.W A2 n2 c2 b.l) :
  Calls Tryz.prog 88 #[.agg #[.bool a.s, .slice A1 n1 c1, .int .i64 a.e], .agg #[.bool b.s, .slice A2 n2 c2, .int .i64 b.e]] w (Bools (decide (cmpQ K a b < 0)) w) := by
 have BB := two_below w (.cells #[.bool a.s, .slice A1 n1 c1, .int .i64 a.e] 24) (.cells #[.bool b.s, .slice A2 n2 c2, .int .i64 b.e] 24)
 obtain ⟨a10, a11, a12, a20, a21, a22⟩ := (two_new w a.s b.s A1 A2 n1 c1 n2 c2 a.e b.e).held
 have G := mv BB rfl <| And.intro h1 <| h2
 clear h1 h2
 obtain ⟨h1, h2⟩ := G
 go_enter Tryz.func88, Tryz.ntmps88
 go_wp2_with fail
 refine (rcmpd_raw (K := K) (s1 := a.s) (e1 := a.e) (s2 := b.s) (e2 := b.e) hK h1 h2).mono ?_
 rintro en w1 ⟨rfl, b⟩
 replace BB := bnx BB b
 have G := mv b rfl (J8 a10 a11 a12 a20 a21 a22 h1 h2)
 clear b a10 a11 a12 a20 a21 a22 h1 h2
 obtain ⟨a10, a11, a12, a20, a21, a22, h1, h2⟩ := G
 have e1 : cmpR K a.s a.l a.e b.s b.l b.e = cmpQ K a b := rfl
 rw [e1]
 clear e1
 go_wp2
 go_ret
 exact ⟨by first | rfl | simp, BB⟩

theorem rmayi_any {w : World} {K : Nat} {x : Iv} {A1 : Option Addr} {n1 c1 : Nat} {A2 : Option Addr} {n2 c2 : Nat} (hK : 4194304 ≤ K) (h1 : Rd w .u64 Go.Proofs.YtdklnpaocaebkaaGreatDoor.W A1 n1 c1 x.lo.l) (h2 : Rd w .u64 Go.Proofs.YtdklnpaocaebkaaGreatDoor.W A2 n2 c2 x.hi.l) :
  Calls Tryz.prog 28 #[.agg #[.bool x.lo.s, .slice A1 n1 c1, .int .i64 x.lo.e, .bool x.hi.s, .slice A2 n2 c2, .int .i64 x.hi.e]] w (Bools (mayI K x) w) := by
 have BB := below_alloc w (.cells #[.bool x.lo.s, .slice A1 n1 c1, .int .i64 x.lo.e, .bool x.hi.s, .slice A2 n2 c2, .int .i64 x.hi.e] 26)
 obtain ⟨a0, a1, a2, a3, a4, a5⟩ := (Ibx.new w x.lo.s A1 n1 c1 x.lo.e x.hi.s A2 n2 c2 x.hi.e).held
 have G := mv BB rfl <| And.intro h1 <| h2
 clear h1 h2
 obtain ⟨h1, h2⟩ := G
 obtain ⟨p1, hp1⟩ : ∃ p, p = x.lo.may := ⟨_, rfl⟩
 obtain ⟨p2, hp2⟩ : ∃ p, p = x.hi.may := ⟨_, rfl⟩
 obtain ⟨p3, hp3⟩ : ∃ p, p = decide (cmpQ K x.lo x.hi ≤ 0) := ⟨_, rfl⟩
 have HP1 := Lib.hid hp1
 have HP2 := Lib.hid hp2
 have HP3 := Lib.hid hp3
 unfold mayI
 rw [← hp1, ← hp2, ← hp3]
 clear hp1 hp2 hp3
 go_enter Tryz.func28, Tryz.ntmps28
 go_wp2_with fail
 refine (rmayd_any (s := x.lo.s) (e := x.lo.e) h1).mono ?_
 rintro en w1 ⟨rfl, b⟩
 have e1 : mayD x.lo.s x.lo.l x.lo.e = p1 := HP1.out.symm
 rw [e1]
 clear e1 HP1
 replace BB := bnx BB b
 have G := mv b rfl (J8 a0 a1 a2 a3 a4 a5 h1 h2)
 clear b a0 a1 a2 a3 a4 a5 h1 h2
 obtain ⟨a0, a1, a2, a3, a4, a5, h1, h2⟩ := G
 cases p1
 ·go_wp2
  go_ret
  exact ⟨by first | rfl | simp, BB⟩
 go_wp2_with fail
 refine (rmayd_any (s := x.hi.s) (e := x.hi.e) h2).mono ?_
 rintro en w2 ⟨rfl, b⟩
 have e1 : mayD x.hi.s x.hi.l x.hi.e = p2 := HP2.out.symm
 rw [e1]
 clear e1 HP2
 replace BB := bnx BB b
 have G := mv b rfl (J8 a0 a1 a2 a3 a4 a5 h1 h2)
 clear b a0 a1 a2 a3 a4 a5 h1 h2
 obtain ⟨a0, a1, a2, a3, a4, a5, h1, h2⟩ := G
 cases p2
 ·go_wp2
  go_ret
  exact ⟨by first | rfl | simp, BB⟩
 go_wp2_with fail
 refine (rcmpd_raw (K := K) (s1 := x.lo.s) (e1 := x.lo.e) (s2 := x.hi.s) (e2 := x.hi.e) hK h1 h2).mono ?_
 rintro en w3 ⟨rfl, b⟩
 replace BB := bnx BB b
 have G := mv b rfl (J8 a0 a1 a2 a3 a4 a5 h1 h2)
 clear b a0 a1 a2 a3 a4 a5 h1 h2
 obtain ⟨a0, a1, a2, a3, a4, a5, h1, h2⟩ := G
 have e1 : cmpR K x.lo.s x.lo.l x.lo.e x.hi.s x.hi.l x.hi.e = cmpQ K x.lo x.hi := rfl
 rw [e1]
 clear e1
 generalize cmpQ K x.lo x.hi = z at HP3
 have f1 : decide (z ≤ 0) = p3 := HP3.out.symm
 clear HP3
 go_wp2
 go_ret
 exact ⟨by first | rfl | simp, BB⟩

theorem rleast_any {w : World} {K : Nat} {a b : Rw} {A1 : Option Addr} {n1 c1 : Nat} {A2 : Option Addr} {n2 c2 : Nat} (hK : 4194304 ≤ K) (h1 : Rd w .u64 Go.Proofs.YtdklnpaocaebkaaGreatDoor.W A1 n1 c1 a.l) (h2 : Rd w .u64 Go.Proofs.YtdklnpaocaebkaaGreatDoor.W A2 n2 c2 b.l) :
  Calls Tryz.prog 42 #[.agg #[.bool a.s, .slice A1 n1 c1, .int .i64 a.e], .agg #[.bool b.s, .slice A2 n2 c2, .int .i64 b.e]] w (GivQ (leastQ K a b) w) := by
 have BB := three_below w (.cells #[.bool a.s, .slice A1 n1 c1, .int .i64 a.e] 24) (.cells #[.bool b.s, .slice A2 n2 c2, .int .i64 b.e] 24) (.cells #[.bool false, .slice none 0 0, .int .i64 0] 24)
 obtain ⟨a10, a11, a12, a20, a21, a22⟩ := ((two_new w a.s b.s A1 A2 n1 c1 n2 c2 a.e b.e).alloc (.cells #[.bool false, .slice none 0 0, .int .i64 0] 24)).held
 have r := box_two w (.cells #[.bool a.s, .slice A1 n1 c1, .int .i64 a.e] 24) (.cells #[.bool b.s, .slice A2 n2 c2, .int .i64 b.e] 24) false none 0 0 0
 have G := mv BB rfl <| And.intro h1 <| h2
 clear h1 h2
 obtain ⟨h1, h2⟩ := G
 obtain ⟨q, hq⟩ : ∃ q, q = leastQ K a b := ⟨_, rfl⟩
 rw [← hq]
 obtain ⟨t, ht⟩ : ∃ t, t = decide (cmpQ K b a < 0) := ⟨_, rfl⟩
 have HF : Hid (q = if t then b else a) := Lib.hid (by
  rw [hq, ht]; unfold leastQ
  by_cases h : cmpQ K b a < 0
  ·rw [if_pos h, if_pos (decide_eq_true h)]
  ·rw [if_neg h, if_neg (by rw [decide_eq_false h]; exact Bool.false_ne_true)])
 have HT := Lib.hid ht
 clear ht hq
 go_enter Tryz.func42, Tryz.ntmps42
 go_wp2_with fail
 refine (rless_any (K := K) hK h2 h1).mono ?_
 rintro en w1 ⟨rfl, b⟩
 rw [← HT.out]
 clear HT
 replace BB := bnx BB b
 have G := mv b rfl (J9 a10 a11 a12 a20 a21 a22 h1 h2 r)
 clear b a10 a11 a12 a20 a21 a22 h1 h2 r
 obtain ⟨a10, a11, a12, a20, a21, a22, h1, h2, r⟩ := G
 cases t
 ·have e9 : q = a := HF.out.trans (if_neg Bool.false_ne_true)
  subst e9
  clear HF
  obtain ⟨f0, f1, f2⟩ := r.open
  obtain ⟨z0, z1, z2⟩ := r.held
  go_wp2
  have qq := r.put q.s A1 n1 c1 q.e
  have hN := h1.put3 r (.bool q.s) (.slice A1 n1 c1) (.int .i64 q.e)
  have HB3 := below_put3 (g := w.heap.size + 2) BB (by omega) (.bool q.s) (.slice A1 n1 c1) (.int .i64 q.e)
  obtain ⟨z0, z1, z2⟩ := qq.held
  exact bodyPost_ret (v := .agg #[.bool q.s, .slice A1 n1 c1, .int .i64 q.e]) (by simp [results, Tryz.results42, go_sem, z0, z1, z2]) rfl ⟨_, _, _, rfl, hN, HB3⟩
 ·have e9 : q = b := HF.out.trans (if_pos rfl)
  subst e9
  clear HF
  obtain ⟨f0, f1, f2⟩ := r.open
  obtain ⟨z0, z1, z2⟩ := r.held
  go_wp2
  have qq := r.put q.s A2 n2 c2 q.e
  have hN := h2.put3 r (.bool q.s) (.slice A2 n2 c2) (.int .i64 q.e)
  have HB3 := below_put3 (g := w.heap.size + 2) BB (by omega) (.bool q.s) (.slice A2 n2 c2) (.int .i64 q.e)
  obtain ⟨z0, z1, z2⟩ := qq.held
  exact bodyPost_ret (v := .agg #[.bool q.s, .slice A2 n2 c2, .int .i64 q.e]) (by simp [results, Tryz.results42, go_sem, z0, z1, z2]) rfl ⟨_, _, _, rfl, hN, HB3⟩

theorem rgreatest_any {w : World} {K : Nat} {a b : Rw} {A1 : Option Addr} {n1 c1 : Nat} {A2 : Option Addr} {n2 c2 : Nat} (hK : 4194304 ≤ K) (h1 : Rd w .u64 Go.Proofs.YtdklnpaocaebkaaGreatDoor.W A1 n1 c1 a.l) (h2 : Rd w .u64 Go.Proofs.YtdklnpaocaebkaaGreatDoor.W A2 n2 c2 b.l) :
  Calls Tryz.prog 43 #[.agg #[.bool a.s, .slice A1 n1 c1, .int .i64 a.e], .agg #[.bool b.s, .slice A2 n2 c2, .int .i64 b.e]] w (GivQ (greatQ K a b) w) := by
 have BB := three_below w (.cells #[.bool a.s, .slice A1 n1 c1, .int .i64 a.e] 24) (.cells #[.bool b.s, .slice A2 n2 c2, .int .i64 b.e] 24) (.cells #[.bool false, .slice none 0 0, .int .i64 0] 24)
 obtain ⟨a10, a11, a12, a20, a21, a22⟩ := ((two_new w a.s b.s A1 A2 n1 c1 n2 c2 a.e b.e).alloc (.cells #[.bool false, .slice none 0 0, .int .i64 0] 24)).held
 have r := box_two w (.cells #[.bool a.s, .slice A1 n1 c1, .int .i64 a.e] 24) (.cells #[.bool b.s, .slice A2 n2 c2, .int .i64 b.e] 24) false none 0 0 0
 have G := mv BB rfl <| And.intro h1 <| h2
 clear h1 h2
 obtain ⟨h1, h2⟩ := G
 obtain ⟨q, hq⟩ : ∃ q, q = greatQ K a b := ⟨_, rfl⟩
 rw [← hq]
 obtain ⟨t, ht⟩ : ∃ t, t = decide (cmpQ K a b < 0) := ⟨_, rfl⟩
 have HF : Hid (q = if t then b else a) := Lib.hid (by
  rw [hq, ht]; unfold greatQ
  by_cases h : cmpQ K a b < 0
  ·rw [if_pos h, if_pos (decide_eq_true h)]
  ·rw [if_neg h, if_neg (by rw [decide_eq_false h]; exact Bool.false_ne_true)])
 have HT := Lib.hid ht
 clear ht hq
 go_enter Tryz.func43, Tryz.ntmps43
 go_wp2_with fail
 refine (rless_any (K := K) hK h1 h2).mono ?_
 rintro en w1 ⟨rfl, b⟩
 rw [← HT.out]
 clear HT
 replace BB := bnx BB b
 have G := mv b rfl (J9 a10 a11 a12 a20 a21 a22 h1 h2 r)
 clear b a10 a11 a12 a20 a21 a22 h1 h2 r
 obtain ⟨a10, a11, a12, a20, a21, a22, h1, h2, r⟩ := G
 cases t
 ·have e9 : q = a := HF.out.trans (if_neg Bool.false_ne_true)
  subst e9
  clear HF
  obtain ⟨f0, f1, f2⟩ := r.open
  obtain ⟨z0, z1, z2⟩ := r.held
  go_wp2
  have qq := r.put q.s A1 n1 c1 q.e
  have hN := h1.put3 r (.bool q.s) (.slice A1 n1 c1) (.int .i64 q.e)
  have HB3 := below_put3 (g := w.heap.size + 2) BB (by omega) (.bool q.s) (.slice A1 n1 c1) (.int .i64 q.e)
  obtain ⟨z0, z1, z2⟩ := qq.held
  exact bodyPost_ret (v := .agg #[.bool q.s, .slice A1 n1 c1, .int .i64 q.e]) (by simp [results, Tryz.results43, go_sem, z0, z1, z2]) rfl ⟨_, _, _, rfl, hN, HB3⟩
 ·have e9 : q = b := HF.out.trans (if_pos rfl)
  subst e9
  clear HF
  obtain ⟨f0, f1, f2⟩ := r.open
  obtain ⟨z0, z1, z2⟩ := r.held
  go_wp2
  have qq := r.put q.s A2 n2 c2 q.e
  have hN := h2.put3 r (.bool q.s) (.slice A2 n2 c2) (.int .i64 q.e)
  have HB3 := below_put3 (g := w.heap.size + 2) BB (by omega) (.bool q.s) (.slice A2 n2 c2) (.int .i64 q.e)
  obtain ⟨z0, z1, z2⟩ := qq.held
  exact bodyPost_ret (v := .agg #[.bool q.s, .slice A2 n2 c2, .int .i64 q.e]) (by simp [results, Tryz.results43, go_sem, z0, z1, z2]) rfl ⟨_, _, _, rfl, hN, HB3⟩

theorem rhas_any {w : World} {K : Nat} {x : Iv} {d : Rw} {A1 : Option Addr} {n1 c1 : Nat} {A2 : Option Addr} {n2 c2 : Nat} {A3 : Option Addr} {n3 c3 : Nat} (hK : 4194304 ≤ K) (h1 : Rd w .u64 Go.Proofs.YtdklnpaocaebkaaGreatDoor.W A1 n1 c1 x.lo.l) (h2 : Rd w .u64 Go.Proofs.YtdklnpaocaebkaaGreatDoor.W A2 n2 c2 x.hi.l) (h3 : Rd w .u64 Go.Proofs.YtdklnpaocaebkaaGreatDoor.W A3 n3 c3 d.l) :
  Calls Tryz.prog 47 #[.agg #[.bool x.lo.s, .slice A1 n1 c1, .int .i64 x.lo.e, .bool x.hi.s, .slice A2 n2 c2, .int .i64 x.hi.e], .agg #[.bool d.s, .slice A3 n3 c3, .int .i64 d.e]] w (Bools (hasI K x d) w) := by
 obtain ⟨BB, xa, xb⟩ := ivl_dyd w (x := x) (d := d) (A1 := A1) (n1 := n1) (c1 := c1) (A2 := A2) (n2 := n2) (c2 := c2) (A3 := A3) (n3 := n3) (c3 := c3)
 obtain ⟨a0, a1, a2, a3, a4, a5⟩ := xa.held
 obtain ⟨b0, b1, b2⟩ := xb.held
 clear xa xb
 have G := mv BB rfl (J3 h1 h2 h3)
 clear h1 h2 h3
 obtain ⟨h1, h2, h3⟩ := G
 obtain ⟨p1, hp1⟩ : ∃ p, p = mayI K x := ⟨_, rfl⟩
 obtain ⟨p2, hp2⟩ : ∃ p, p = d.may := ⟨_, rfl⟩
 obtain ⟨p3, hp3⟩ : ∃ p, p = decide (cmpQ K d x.lo < 0) := ⟨_, rfl⟩
 obtain ⟨p4, hp4⟩ : ∃ p, p = decide (cmpQ K x.hi d < 0) := ⟨_, rfl⟩
 have HP1 := Lib.hid hp1
 have HP2 := Lib.hid hp2
 have HP3 := Lib.hid hp3
 have HP4 := Lib.hid hp4
 rw [← has_ref]
 rw [← hp1, ← hp2, ← hp3, ← hp4]
 clear hp1 hp2 hp3 hp4
 go_enter Tryz.func47, Tryz.ntmps47
 go_wp2_with fail
 refine (rmayi_any (x := x) hK h1 h2).mono ?_
 rintro en w1 ⟨rfl, b⟩
 rw [← HP1.out]
 clear HP1
 replace BB := bnx BB b
 have G := mv b rfl (J12 a0 a1 a2 a3 a4 a5 b0 b1 b2 h1 h2 h3)
 clear b a0 a1 a2 a3 a4 a5 b0 b1 b2 h1 h2 h3
 obtain ⟨a0, a1, a2, a3, a4, a5, b0, b1, b2, h1, h2, h3⟩ := G
 cases p1
 ·go_wp2
  go_ret
  exact ⟨by first | rfl | simp, BB⟩
 go_wp2_with fail
 refine (rmayd_any (s := d.s) (e := d.e) h3).mono ?_
 rintro en w2 ⟨rfl, b⟩
 have e1 : mayD d.s d.l d.e = p2 := HP2.out.symm
 rw [e1]
 clear e1 HP2
 replace BB := bnx BB b
 have G := mv b rfl (J12 a0 a1 a2 a3 a4 a5 b0 b1 b2 h1 h2 h3)
 clear b a0 a1 a2 a3 a4 a5 b0 b1 b2 h1 h2 h3
 obtain ⟨a0, a1, a2, a3, a4, a5, b0, b1, b2, h1, h2, h3⟩ := G
 cases p2
 ·go_wp2
  go_ret
  exact ⟨by first | rfl | simp, BB⟩
 go_wp2_with fail
 refine (rless_any (a := d) (b := x.lo) hK h3 h1).mono ?_
 rintro en w3 ⟨rfl, b⟩
 rw [← HP3.out]
 clear HP3
 replace BB := bnx BB b
 have G := mv b rfl (J12 a0 a1 a2 a3 a4 a5 b0 b1 b2 h1 h2 h3)
 clear b a0 a1 a2 a3 a4 a5 b0 b1 b2 h1 h2 h3
 obtain ⟨a0, a1, a2, a3, a4, a5, b0, b1, b2, h1, h2, h3⟩ := G
 cases p3
 rotate_left
 ·go_wp2
  go_ret
  exact ⟨by first | rfl | simp, BB⟩
 go_wp2_with fail
 refine (rless_any (a := x.hi) (b := d) hK h2 h3).mono ?_
 rintro en w4 ⟨rfl, b⟩
 rw [← HP4.out]
 clear HP4
 replace BB := bnx BB b
 have G := mv b rfl (J12 a0 a1 a2 a3 a4 a5 b0 b1 b2 h1 h2 h3)
 clear b a0 a1 a2 a3 a4 a5 b0 b1 b2 h1 h2 h3
 obtain ⟨a0, a1, a2, a3, a4, a5, b0, b1, b2, h1, h2, h3⟩ := G
 cases p4
 all_goals (go_wp2; go_ret; exact ⟨by first | rfl | simp, BB⟩)

theorem rsamei_any {w : World} {x y : Iv} {A1 : Option Addr} {n1 c1 : Nat} {A2 : Option Addr} {n2 c2 : Nat} {A3 : Option Addr} {n3 c3 : Nat} {A4 : Option Addr} {n4 c4 : Nat} (h1 : Rd w .u64 Go.Proofs.YtdklnpaocaebkaaGreatDoor.W A1 n1 c1 x.lo.l) (h2 : Rd w .u64 Go.Proofs.YtdklnpaocaebkaaGreatDoor.W A2 n2 c2 x.hi.l) (h3 : Rd w .u64 Go.Proofs.YtdklnpaocaebkaaGreatDoor.W A3 n3 c3 y.lo.l) (h4 : Rd w .u64 Go.Proofs.YtdklnpaocaebkaaGreatDoor.W A4 n4 c4 y.hi.l) :
  Calls Tryz.prog 50 #[.agg #[.bool x.lo.s, .slice A1 n1 c1, .int .i64 x.lo.e, .bool x.hi.s, .slice A2 n2 c2, .int .i64 x.hi.e], .agg #[.bool y.lo.s, .slice A3 n3 c3, .int .i64 y.lo.e, .bool y.hi.s, .slice A4 n4 c4, .int .i64 y.hi.e]] w (Bools (sameI x y) w) := by
 obtain ⟨BB, xa, xb⟩ := two_ivl w (x := x) (y := y) (A1 := A1) (n1 := n1) (c1 := c1) (A2 := A2) (n2 := n2) (c2 := c2) (A3 := A3) (n3 := n3) (c3 := c3) (A4 := A4) (n4 := n4) (c4 := c4) 
 obtain ⟨a0, a1, a2, a3, a4, a5⟩ := xa.held
 obtain ⟨b0, b1, b2, b3, b4, b5⟩ := xb.held
 clear xa xb
 have G := mv BB rfl (J4 h1 h2 h3 h4)
 clear h1 h2 h3 h4
 obtain ⟨h1, h2, h3, h4⟩ := G
 obtain ⟨p1, hp1⟩ : ∃ p, p = sameQ x.lo y.lo := ⟨_, rfl⟩
 obtain ⟨p2, hp2⟩ : ∃ p, p = sameQ x.hi y.hi := ⟨_, rfl⟩
 have HP1 := Lib.hid hp1
 have HP2 := Lib.hid hp2
 unfold sameI
 rw [← hp1, ← hp2]
 clear hp1 hp2
 go_enter Tryz.func50, Tryz.ntmps50
 go_wp2_with fail
 refine (rsame_raw (s := x.lo.s) (t := y.lo.s) (e := x.lo.e) (f := y.lo.e) h1 h3).mono ?_
 rintro en w1 ⟨rfl, b⟩
 have e1 : sameB x.lo.s y.lo.s x.lo.l y.lo.l x.lo.e y.lo.e = p1 := HP1.out.symm
 rw [e1]
 clear e1 HP1
 replace BB := bnx BB b
 have G := mv b rfl (J16 a0 a1 a2 a3 a4 a5 b0 b1 b2 b3 b4 b5 h1 h2 h3 h4)
 clear b a0 a1 a2 a3 a4 a5 b0 b1 b2 b3 b4 b5 h1 h2 h3 h4
 obtain ⟨a0, a1, a2, a3, a4, a5, b0, b1, b2, b3, b4, b5, h1, h2, h3, h4⟩ := G
 cases p1
 ·go_wp2
  go_ret
  exact ⟨by first | rfl | simp, BB⟩
 go_wp2_with fail
 refine (rsame_raw (s := x.hi.s) (t := y.hi.s) (e := x.hi.e) (f := y.hi.e) h2 h4).mono ?_
 rintro en w2 ⟨rfl, b⟩
 have e1 : sameB x.hi.s y.hi.s x.hi.l y.hi.l x.hi.e y.hi.e = p2 := HP2.out.symm
 rw [e1]
 clear e1 HP2
 replace BB := bnx BB b
 have G := mv b rfl (J16 a0 a1 a2 a3 a4 a5 b0 b1 b2 b3 b4 b5 h1 h2 h3 h4)
 clear b a0 a1 a2 a3 a4 a5 b0 b1 b2 b3 b4 b5 h1 h2 h3 h4
 obtain ⟨a0, a1, a2, a3, a4, a5, b0, b1, b2, b3, b4, b5, h1, h2, h3, h4⟩ := G
 go_wp2
 go_ret
 exact ⟨by first | rfl | simp, BB⟩

end Go.Proofs.YtdklnpaocaebkaaGreatDoor

namespace Go.Proofs.YtdklnpaocaebkaaGreatDoor
open Go.RowKit

end Go.Proofs.YtdklnpaocaebkaaGreatDoor

namespace Go.Proofs.YtdklnpaocaebkaaGreatDoor
open Go.RowKit

end Go.Proofs.YtdklnpaocaebkaaGreatDoor
