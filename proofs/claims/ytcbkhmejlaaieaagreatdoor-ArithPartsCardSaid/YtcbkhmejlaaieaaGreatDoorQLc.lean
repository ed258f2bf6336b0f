/-
 Contract of the statements' own same of layer 5, at this translation. Condition: the slices read as limbs, the table of math/bits reads as its text lays it.
-/
import Derived.Test.YtcbkhmejlaaieaaGreatDoorQIs
import Derived.Test.YtcbkhmejlaaieaaGreatDoorQRc
import Derived.Test.YtcbkhmejlaaieaaGreatDoorQLb
namespace Go.Proofs.YtcbkhmejlaaieaaGreatDoor
open Go.RowKit

set_option maxRecDepth 100000 in
set_option maxHeartbeats 8000000 in
theorem rless_any {w : World} {K : Nat} {a b : Rw} {A1 : Option Addr} {n1 c1 : Nat} {A2 : Option Addr} {n2 c2 : Nat} (hK : 4194304 ≤ K) (h1 : Rd w .u64 Go.Proofs.YtcbkhmejlaaieaaGreatDoor.W A1 n1 c1 a.l) (h2 : Rd w .u64 Go.Proofs.YtcbkhmejlaaieaaGreatDoor.W A2 n2 c2 b.l) :
  Calls Tryz.prog 119 #[.agg #[.bool a.s, .slice A1 n1 c1, .int .i64 a.e], .agg #[.bool b.s, .slice A2 n2 c2, .int .i64 b.e]] w (Bools (decide (cmpQ K a b < 0)) w) := by
 have BB := two_below w (.cells #[.bool a.s, .slice A1 n1 c1, .int .i64 a.e] 24) (.cells #[.bool b.s, .slice A2 n2 c2, .int .i64 b.e] 24)
 obtain ⟨a10, a11, a12, a20, a21, a22⟩ := (two_new w a.s b.s A1 A2 n1 c1 n2 c2 a.e b.e).held
 have G := mv BB rfl <| And.intro h1 <| h2
 clear h1 h2
 obtain ⟨h1, h2⟩ := G
 go_enter Tryz.func119, Tryz.ntmps119
 go_wp2_with fail
 refine (rcmpd_raw (K := K) (s1 := a.s) (e1 := a.e) (s2 := b.s) (e2 := b.e) hK h1 h2).mono ?_
 rintro en w1 ⟨rfl, b⟩
 replace BB := bnx BB b rfl rfl rfl rfl
 have G := mv b rfl (J8 a10 a11 a12 a20 a21 a22 h1 h2)
 clear b a10 a11 a12 a20 a21 a22 h1 h2
 obtain ⟨a10, a11, a12, a20, a21, a22, h1, h2⟩ := G
 have e1 : cmpR K a.s a.l a.e b.s b.l b.e = cmpQ K a b := rfl
 rw [e1]
 clear e1
 go_wp2
 go_ret
 exact ⟨by first | rfl | simp, BB⟩

set_option maxRecDepth 100000 in
set_option maxHeartbeats 8000000 in
theorem rmayi_any {w : World} {K : Nat} {x : Iv} {A1 : Option Addr} {n1 c1 : Nat} {A2 : Option Addr} {n2 c2 : Nat} (hK : 4194304 ≤ K) (h1 : Rd w .u64 Go.Proofs.YtcbkhmejlaaieaaGreatDoor.W A1 n1 c1 x.lo.l) (h2 : Rd w .u64 Go.Proofs.YtcbkhmejlaaieaaGreatDoor.W A2 n2 c2 x.hi.l) :
  Calls Tryz.prog 45 #[.agg #[.bool x.lo.s, .slice A1 n1 c1, .int .i64 x.lo.e, .bool x.hi.s, .slice A2 n2 c2, .int .i64 x.hi.e]] w (Bools (mayI K x) w) := by
 have BB := below_alloc w (.cells #[.bool x.lo.s, .slice A1 n1 c1, .int .i64 x.lo.e, .bool x.hi.s, .slice A2 n2 c2, .int .i64 x.hi.e] 26)
 obtain ⟨a0, a1, a2, a3, a4, a5⟩ := (Ibx.new w x.lo.s A1 n1 c1 x.lo.e x.hi.s A2 n2 c2 x.hi.e).held
 have G := mv BB rfl <| And.intro h1 <| h2
 clear h1 h2
 obtain ⟨h1, h2⟩ := G
 obtain ⟨p1, hp1⟩ : ∃ p, p = x.lo.may := ⟨_, rfl⟩
 obtain ⟨p2, hp2⟩ : ∃ p, p = x.hi.may := ⟨_, rfl⟩
 obtain ⟨p3, hp3⟩ : ∃ p, p = decide (cmpQ K x.lo x.hi ≤ 0) := ⟨_, rfl⟩
 have HP1 := Lib.hid hp1
 have HP2 := Lib.hid hp2
 have HP3 := Lib.hid hp3
 unfold mayI
 rw [← hp1, ← hp2, ← hp3]
 clear hp1 hp2 hp3
 go_enter Tryz.func45, Tryz.ntmps45
 go_wp2_with fail
 refine (rmayd_any (s := x.lo.s) (e := x.lo.e) h1).mono ?_
 rintro en w1 ⟨rfl, b⟩
 have e1 : mayD x.lo.s x.lo.l x.lo.e = p1 := HP1.out.symm
 rw [e1]
 clear e1 HP1
 replace BB := bnx BB b rfl rfl rfl rfl
 have G := mv b rfl (J8 a0 a1 a2 a3 a4 a5 h1 h2)
 clear b a0 a1 a2 a3 a4 a5 h1 h2
 obtain ⟨a0, a1, a2, a3, a4, a5, h1, h2⟩ := G
 cases p1
 ·go_wp2
  go_ret
  exact ⟨by first | rfl | simp, BB⟩
 go_wp2_with fail
 refine (rmayd_any (s := x.hi.s) (e := x.hi.e) h2).mono ?_
 rintro en w2 ⟨rfl, b⟩
 have e1 : mayD x.hi.s x.hi.l x.hi.e = p2 := HP2.out.symm
 rw [e1]
 clear e1 HP2
 replace BB := bnx BB b rfl rfl rfl rfl
 have G := mv b rfl (J8 a0 a1 a2 a3 a4 a5 h1 h2)
 clear b a0 a1 a2 a3 a4 a5 h1 h2
 obtain ⟨a0, a1, a2, a3, a4, a5, h1, h2⟩ := G
 cases p2
 ·go_wp2
  go_ret
  exact ⟨by first | rfl | simp, BB⟩
 go_wp2_with fail
 refine (rcmpd_raw (K := K) (s1 := x.lo.s) (e1 := x.lo.e) (s2 := x.hi.s) (e2 := x.hi.e) hK h1 h2).mono ?_
 rintro en w3 ⟨rfl, b⟩
 replace BB := bnx BB b rfl rfl rfl rfl
 have G := mv b rfl (J8 a0 a1 a2 a3 a4 a5 h1 h2)
 clear b a0 a1 a2 a3 a4 a5 h1 h2
 obtain ⟨a0, a1, a2, a3, a4, a5, h1, h2⟩ := G
 have e1 : cmpR K x.lo.s x.lo.l x.lo.e x.hi.s x.hi.l x.hi.e = cmpQ K x.lo x.hi := rfl
 rw [e1]
 clear e1
 generalize cmpQ K x.lo x.hi = z at HP3
 have f1 : decide (z ≤ 0) = p3 := HP3.out.symm
 clear HP3
 go_wp2
 go_ret
 exact ⟨by first | rfl | simp, BB⟩

set_option maxRecDepth 100000 in
set_option maxHeartbeats 8000000 in
theorem rleast_any {w : World} {K : Nat} {a b : Rw} {A1 : Option Addr} {n1 c1 : Nat} {A2 : Option Addr} {n2 c2 : Nat} (hK : 4194304 ≤ K) (h1 : Rd w .u64 Go.Proofs.YtcbkhmejlaaieaaGreatDoor.W A1 n1 c1 a.l) (h2 : Rd w .u64 Go.Proofs.YtcbkhmejlaaieaaGreatDoor.W A2 n2 c2 b.l) :
  Calls Tryz.prog 59 #[.agg #[.bool a.s, .slice A1 n1 c1, .int .i64 a.e], .agg #[.bool b.s, .slice A2 n2 c2, .int .i64 b.e]] w (GivQ (leastQ K a b) w) := by
 have BB := three_below w (.cells #[.bool a.s, .slice A1 n1 c1, .int .i64 a.e] 24) (.cells #[.bool b.s, .slice A2 n2 c2, .int .i64 b.e] 24) (.cells #[.bool false, .slice none 0 0, .int .i64 0] 24)
 obtain ⟨a10, a11, a12, a20, a21, a22⟩ := ((two_new w a.s b.s A1 A2 n1 c1 n2 c2 a.e b.e).alloc (.cells #[.bool false, .slice none 0 0, .int .i64 0] 24)).held
 have r := box_two w (.cells #[.bool a.s, .slice A1 n1 c1, .int .i64 a.e] 24) (.cells #[.bool b.s, .slice A2 n2 c2, .int .i64 b.e] 24) false none 0 0 0
 have G := mv BB rfl <| And.intro h1 <| h2
 clear h1 h2
 obtain ⟨h1, h2⟩ := G
 obtain ⟨q, hq⟩ : ∃ q, q = leastQ K a b := ⟨_, rfl⟩
 rw [← hq]
 obtain ⟨t, ht⟩ : ∃ t, t = decide (cmpQ K b a < 0) := ⟨_, rfl⟩
 have HF : Hid (q = if t then b else a) := Lib.hid (by
  rw [hq, ht]; unfold leastQ
  by_cases h : cmpQ K b a < 0
  ·rw [if_pos h, if_pos (decide_eq_true h)]
  ·rw [if_neg h, if_neg (by rw [decide_eq_false h]; exact Bool.false_ne_true)])
 have HT := Lib.hid ht
 clear ht hq
 go_enter Tryz.func59, Tryz.ntmps59
 go_wp2_with fail
 refine (rless_any (K := K) hK h2 h1).mono ?_
 rintro en w1 ⟨rfl, b⟩
 rw [← HT.out]
 clear HT
 replace BB := bnx BB b rfl rfl rfl rfl
 have G := mv b rfl (J9 a10 a11 a12 a20 a21 a22 h1 h2 r)
 clear b a10 a11 a12 a20 a21 a22 h1 h2 r
 obtain ⟨a10, a11, a12, a20, a21, a22, h1, h2, r⟩ := G
 cases t
 ·have e9 : q = a := HF.out.trans (if_neg Bool.false_ne_true)
  subst e9
  clear HF
  obtain ⟨f0, f1, f2⟩ := r.open
  obtain ⟨z0, z1, z2⟩ := r.held
  go_wp2
  have qq := r.put q.s A1 n1 c1 q.e
  have hN := h1.put3 r (.bool q.s) (.slice A1 n1 c1) (.int .i64 q.e)
  have HB3 := below_put3 (g := w.heap.size + 2) BB (by omega) (.bool q.s) (.slice A1 n1 c1) (.int .i64 q.e)
  obtain ⟨z0, z1, z2⟩ := qq.held
  exact bodyPost_ret (v := .agg #[.bool q.s, .slice A1 n1 c1, .int .i64 q.e]) (by simp [results, Tryz.results59, go_sem, z0, z1, z2]) rfl ⟨_, _, _, rfl, hN, HB3⟩
 ·have e9 : q = b := HF.out.trans (if_pos rfl)
  subst e9
  clear HF
  obtain ⟨f0, f1, f2⟩ := r.open
  obtain ⟨z0, z1, z2⟩ := r.held
  go_wp2
  have qq := r.put q.s A2 n2 c2 q.e
  have hN := h2.put3 r (.bool q.s) (.slice A2 n2 c2) (.int .i64 q.e)
  have HB3 := below_put3 (g := w.heap.size + 2) BB (by omega) (.bool q.s) (.slice A2 n2 c2) (.int .i64 q.e)
  obtain ⟨z0, z1, z2⟩ := qq.held
  exact bodyPost_ret (v := .agg #[.bool q.s, .slice A2 n2 c2, .int .i64 q.e]) (by simp [results, Tryz.results59, go_sem, z0, z1, z2]) rfl ⟨_, _, _, rfl, hN, HB3⟩

set_option maxRecDepth 100000 in
set_option maxHeartbeats 8000000 in
theorem rgreatest_any {w : World} {K : Nat} {a b : Rw} {A1 : Option Addr} {n1 c1 : Nat} {A2 : Option Addr} {n2 c2 : Nat} (hK : 4194304 ≤ K) (h1 : Rd w .u64 Go.Proofs.YtcbkhmejlaaieaaGreatDoor.W A1 n1 c1 a.l) (h2 : Rd w .u64 Go.Proofs.YtcbkhmejlaaieaaGreatDoor.W A2 n2 c2 b.l) :
  Calls Tryz.prog 60 #[.agg #[.bool a.s, .slice A1 n1 c1, .int .i64 a.e], .agg #[.bool b.s, .slice A2 n2 c2, .int .i64 b.e]] w (GivQ (greatQ K a b) w) := by
 have BB := three_below w (.cells #[.bool a.s, .slice A1 n1 c1, .int .i64 a.e] 24) (.cells #[.bool b.s, .slice A2 n2 c2, .int .i64 b.e] 24) (.cells #[.bool false, .slice none 0 0, .int .i64 0] 24)
 obtain ⟨a10, a11, a12, a20, a21, a22⟩ := ((two_new w a.s b.s A1 A2 n1 c1 n2 c2 a.e b.e).alloc (.cells #[.bool false, .slice none 0 0, .int .i64 0] 24)).held
 have r := box_two w (.cells #[.bool a.s, .slice A1 n1 c1, .int .i64 a.e] 24) (.cells #[.bool b.s, .slice A2 n2 c2, .int .i64 b.e] 24) false none 0 0 0
 have G := mv BB rfl <| And.intro h1 <| h2
 clear h1 h2
 obtain ⟨h1, h2⟩ := G
 obtain ⟨q, hq⟩ : ∃ q, q = greatQ K a b := ⟨_, rfl⟩
 rw [← hq]
 obtain ⟨t, ht⟩ : ∃ t, t = decide (cmpQ K a b < 0) := ⟨_, rfl⟩
 have HF : Hid (q = if t then b else a) := Lib.hid (by
  rw [hq, ht]; unfold greatQ
  by_cases h : cmpQ K a b < 0
  ·rw [if_pos h, if_pos (decide_eq_true h)]
  ·rw [if_neg h, if_neg (by rw [decide_eq_false h]; exact Bool.false_ne_true)])
 have HT := Lib.hid ht
 clear ht hq
 go_enter Tryz.func60, Tryz.ntmps60
 go_wp2_with fail
 refine (rless_any (K := K) hK h1 h2).mono ?_
 rintro en w1 ⟨rfl, b⟩
 rw [← HT.out]
 clear HT
 replace BB := bnx BB b rfl rfl rfl rfl
 have G := mv b rfl (J9 a10 a11 a12 a20 a21 a22 h1 h2 r)
 clear b a10 a11 a12 a20 a21 a22 h1 h2 r
 obtain ⟨a10, a11, a12, a20, a21, a22, h1, h2, r⟩ := G
 cases t
 ·have e9 : q = a := HF.out.trans (if_neg Bool.false_ne_true)
  subst e9
  clear HF
  obtain ⟨f0, f1, f2⟩ := r.open
  obtain ⟨z0, z1, z2⟩ := r.held
  go_wp2
  have qq := r.put q.s A1 n1 c1 q.e
  have hN := h1.put3 r (.bool q.s) (.slice A1 n1 c1) (.int .i64 q.e)
  have HB3 := below_put3 (g := w.heap.size + 2) BB (by omega) (.bool q.s) (.slice A1 n1 c1) (.int .i64 q.e)
  obtain ⟨z0, z1, z2⟩ := qq.held
  exact bodyPost_ret (v := .agg #[.bool q.s, .slice A1 n1 c1, .int .i64 q.e]) (by simp [results, Tryz.results60, go_sem, z0, z1, z2]) rfl ⟨_, _, _, rfl, hN, HB3⟩
 ·have e9 : q = b := HF.out.trans (if_pos rfl)
  subst e9
  clear HF
  obtain ⟨f0, f1, f2⟩ := r.open
  obtain ⟨z0, z1, z2⟩ := r.held
  go_wp2
  have qq := r.put q.s A2 n2 c2 q.e
  have hN := h2.put3 r (.bool q.s) (.slice A2 n2 c2) (.int .i64 q.e)
  have HB3 := below_put3 (g := w.heap.size + 2) BB (by omega) (.bool q.s) (.slice A2 n2 c2) (.int .i64 q.e)
  obtain ⟨z0, z1, z2⟩ := qq.held
  exact bodyPost_ret (v := .agg #[.bool q.s, .slice A2 n2 c2, .int .i64 q.e]) (by simp [results, Tryz.results60, go_sem, z0, z1, z2]) rfl ⟨_, _, _, rfl, hN, HB3⟩

set_option maxRecDepth 100000 in
set_option maxHeartbeats 8000000 in
theorem rhas_any {w : World} {K : Nat} {x : Iv} {d : Rw} {A1 : Option Addr} {n1 c1 : Nat} {A2 : Option Addr} {n2 c2 : Nat} {A3 : Option Addr} {n3 c3 : Nat} (hK : 4194304 ≤ K) (h1 : Rd w .u64 Go.Proofs.YtcbkhmejlaaieaaGreatDoor.W A1 n1 c1 x.lo.l) (h2 : Rd w .u64 Go.Proofs.YtcbkhmejlaaieaaGreatDoor.W A2 n2 c2 x.hi.l) (h3 : Rd w .u64 Go.Proofs.YtcbkhmejlaaieaaGreatDoor.W A3 n3 c3 d.l) :
  Calls Tryz.prog 63 #[.agg #[.bool x.lo.s, .slice A1 n1 c1, .int .i64 x.lo.e, .bool x.hi.s, .slice A2 n2 c2, .int .i64 x.hi.e], .agg #[.bool d.s, .slice A3 n3 c3, .int .i64 d.e]] w (Bools (hasI K x d) w) := by
 obtain ⟨BB, xa, xb⟩ := ivl_dyd w (x := x) (d := d) (A1 := A1) (n1 := n1) (c1 := c1) (A2 := A2) (n2 := n2) (c2 := c2) (A3 := A3) (n3 := n3) (c3 := c3)
 obtain ⟨a0, a1, a2, a3, a4, a5⟩ := xa.held
 obtain ⟨b0, b1, b2⟩ := xb.held
 clear xa xb
 have G := mv BB rfl (J3 h1 h2 h3)
 clear h1 h2 h3
 obtain ⟨h1, h2, h3⟩ := G
 obtain ⟨p1, hp1⟩ : ∃ p, p = mayI K x := ⟨_, rfl⟩
 obtain ⟨p2, hp2⟩ : ∃ p, p = d.may := ⟨_, rfl⟩
 obtain ⟨p3, hp3⟩ : ∃ p, p = decide (cmpQ K d x.lo < 0) := ⟨_, rfl⟩
 obtain ⟨p4, hp4⟩ : ∃ p, p = decide (cmpQ K x.hi d < 0) := ⟨_, rfl⟩
 have HP1 := Lib.hid hp1
 have HP2 := Lib.hid hp2
 have HP3 := Lib.hid hp3
 have HP4 := Lib.hid hp4
 rw [← has_ref]
 rw [← hp1, ← hp2, ← hp3, ← hp4]
 clear hp1 hp2 hp3 hp4
 go_enter Tryz.func63, Tryz.ntmps63
 go_wp2_with fail
 refine (rmayi_any (x := x) hK h1 h2).mono ?_
 rintro en w1 ⟨rfl, b⟩
 rw [← HP1.out]
 clear HP1
 replace BB := bnx BB b rfl rfl rfl rfl
 have G := mv b rfl (J12 a0 a1 a2 a3 a4 a5 b0 b1 b2 h1 h2 h3)
 clear b a0 a1 a2 a3 a4 a5 b0 b1 b2 h1 h2 h3
 obtain ⟨a0, a1, a2, a3, a4, a5, b0, b1, b2, h1, h2, h3⟩ := G
 cases p1
 ·go_wp2
  go_ret
  exact ⟨by first | rfl | simp, BB⟩
 go_wp2_with fail
 refine (rmayd_any (s := d.s) (e := d.e) h3).mono ?_
 rintro en w2 ⟨rfl, b⟩
 have e1 : mayD d.s d.l d.e = p2 := HP2.out.symm
 rw [e1]
 clear e1 HP2
 replace BB := bnx BB b rfl rfl rfl rfl
 have G := mv b rfl (J12 a0 a1 a2 a3 a4 a5 b0 b1 b2 h1 h2 h3)
 clear b a0 a1 a2 a3 a4 a5 b0 b1 b2 h1 h2 h3
 obtain ⟨a0, a1, a2, a3, a4, a5, b0, b1, b2, h1, h2, h3⟩ := G
 cases p2
 ·go_wp2
  go_ret
  exact ⟨by first | rfl | simp, BB⟩
 go_wp2_with fail
 refine (rless_any (a := d) (b := x.lo) hK h3 h1).mono ?_
 rintro en w3 ⟨rfl, b⟩
 rw [← HP3.out]
 clear HP3
 replace BB := bnx BB b rfl rfl rfl rfl
 have G := mv b rfl (J12 a0 a1 a2 a3 a4 a5 b0 b1 b2 h1 h2 h3)
 clear b a0 a1 a2 a3 a4 a5 b0 b1 b2 h1 h2 h3
 obtain ⟨a0, a1, a2, a3, a4, a5, b0, b1, b2, h1, h2, h3⟩ := G
 cases p3
 rotate_left
 ·go_wp2
  go_ret
  exact ⟨by first | rfl | simp, BB⟩
 go_wp2_with fail
 refine (rless_any (a := x.hi) (b := d) hK h2 h3).mono ?_
 rintro en w4 ⟨rfl, b⟩
 rw [← HP4.out]
 clear HP4
 replace BB := bnx BB b rfl rfl rfl rfl
 have G := mv b rfl (J12 a0 a1 a2 a3 a4 a5 b0 b1 b2 h1 h2 h3)
 clear b a0 a1 a2 a3 a4 a5 b0 b1 b2 h1 h2 h3
 obtain ⟨a0, a1, a2, a3, a4, a5, b0, b1, b2, h1, h2, h3⟩ := G
 cases p4
 all_goals (go_wp2; go_ret; exact ⟨by first | rfl | simp, BB⟩)

set_option maxRecDepth 100000 in
set_option maxHeartbeats 8000000 in
theorem rsamei_any {w : World} {x y : Iv} {A1 : Option Addr} {n1 c1 : Nat} {A2 : Option Addr} {n2 c2 : Nat} {A3 : Option Addr} {n3 c3 : Nat} {A4 : Option Addr} {n4 c4 : Nat} (h1 : Rd w .u64 Go.Proofs.YtcbkhmejlaaieaaGreatDoor.W A1 n1 c1 x.lo.l) (h2 : Rd w .u64 Go.Proofs.YtcbkhmejlaaieaaGreatDoor.W A2 n2 c2 x.hi.l) (h3 : Rd w .u64 Go.Proofs.YtcbkhmejlaaieaaGreatDoor.W A3 n3 c3 y.lo.l) (h4 : Rd w .u64 Go.Proofs.YtcbkhmejlaaieaaGreatDoor.W A4 n4 c4 y.hi.l) :
  Calls Tryz.prog 66 #[.agg #[.bool x.lo.s, .slice A1 n1 c1, .int .i64 x.lo.e, .bool x.hi.s, .slice A2 n2 c2, .int .i64 x.hi.e], .agg #[.bool y.lo.s, .slice A3 n3 c3, .int .i64 y.lo.e, .bool y.hi.s, .slice A4 n4 c4, .int .i64 y.hi.e]] w (Bools (sameI x y) w) := by
 obtain ⟨BB, xa, xb⟩ := two_ivl w (x := x) (y := y) (A1 := A1) (n1 := n1) (c1 := c1) (A2 := A2) (n2 := n2) (c2 := c2) (A3 := A3) (n3 := n3) (c3 := c3) (A4 := A4) (n4 := n4) (c4 := c4) 
 obtain ⟨a0, a1, a2, a3, a4, a5⟩ := xa.held
 obtain ⟨b0, b1, b2, b3, b4, b5⟩ := xb.held
 clear xa xb
 have G := mv BB rfl (J4 h1 h2 h3 h4)
 clear h1 h2 h3 h4
 obtain ⟨h1, h2, h3, h4⟩ := G
 obtain ⟨p1, hp1⟩ : ∃ p, p = sameQ x.lo y.lo := ⟨_, rfl⟩
 obtain ⟨p2, hp2⟩ : ∃ p, p = sameQ x.hi y.hi := ⟨_, rfl⟩
 have HP1 := Lib.hid hp1
 have HP2 := Lib.hid hp2
 unfold sameI
 rw [← hp1, ← hp2]
 clear hp1 hp2
 go_enter Tryz.func66, Tryz.ntmps66
 go_wp2_with fail
 refine (rsame_raw (s := x.lo.s) (t := y.lo.s) (e := x.lo.e) (f := y.lo.e) h1 h3).mono ?_
 rintro en w1 ⟨rfl, b⟩
 have e1 : sameB x.lo.s y.lo.s x.lo.l y.lo.l x.lo.e y.lo.e = p1 := HP1.out.symm
 rw [e1]
 clear e1 HP1
 replace BB := bnx BB b rfl rfl rfl rfl
 have G := mv b rfl (J16 a0 a1 a2 a3 a4 a5 b0 b1 b2 b3 b4 b5 h1 h2 h3 h4)
 clear b a0 a1 a2 a3 a4 a5 b0 b1 b2 b3 b4 b5 h1 h2 h3 h4
 obtain ⟨a0, a1, a2, a3, a4, a5, b0, b1, b2, b3, b4, b5, h1, h2, h3, h4⟩ := G
 cases p1
 ·go_wp2
  go_ret
  exact ⟨by first | rfl | simp, BB⟩
 go_wp2_with fail
 refine (rsame_raw (s := x.hi.s) (t := y.hi.s) (e := x.hi.e) (f := y.hi.e) h2 h4).mono ?_
 rintro en w2 ⟨rfl, b⟩
 have e1 : sameB x.hi.s y.hi.s x.hi.l y.hi.l x.hi.e y.hi.e = p2 := HP2.out.symm
 rw [e1]
 clear e1 HP2
 replace BB := bnx BB b rfl rfl rfl rfl
 have G := mv b rfl (J16 a0 a1 a2 a3 a4 a5 b0 b1 b2 b3 b4 b5 h1 h2 h3 h4)
 clear b a0 a1 a2 a3 a4 a5 b0 b1 b2 b3 b4 b5 h1 h2 h3 h4
 obtain ⟨a0, a1, a2, a3, a4, a5, b0, b1, b2, b3, b4, b5, h1, h2, h3, h4⟩ := G
 go_wp2
 go_ret
 exact ⟨by first | rfl | simp, BB⟩

end Go.Proofs.YtcbkhmejlaaieaaGreatDoor

namespace Go.Proofs.YtcbkhmejlaaieaaGreatDoor
open Go.RowKit

end Go.Proofs.YtcbkhmejlaaieaaGreatDoor

namespace Go.Proofs.YtcbkhmejlaaieaaGreatDoor
open Go.RowKit

end Go.Proofs.YtcbkhmejlaaieaaGreatDoor
namespace Go.Proofs.YtcbkhmejlaaieaaGreatDoor
open Go.RowKit

def TellQ (o : Except Int Rw) (w : World) (en : Ending) (w' : World) : Prop := ∃ A n c, en = .returned (.tuple #[.agg #[.bool (orw o).s, .slice A n c, .int .i64 (orw o).e], .int .i64 (okc o)]) ∧ Rd w' .u64 Go.Proofs.YtcbkhmejlaaieaaGreatDoor.W A n c (orw o).l ∧ Below w.heap.size w w'
def RunQ (o : Except Int Rw) (w : World) (en : Ending) (w' : World) : Prop := (∃ v, o = .ok v ∧ GivQ v w en w') ∨ (∃ k, o = .error k ∧ k ≠ 0 ∧ Faults k w en w')
def RunI (o : Except Int Iv) (w : World) (en : Ending) (w' : World) : Prop := (∃ v, o = .ok v ∧ GivI v w en w') ∨ (∃ k, o = .error k ∧ k ≠ 0 ∧ Faults k w en w')
def TellO (o : Except Int Iv) : World → Ending → World → Prop := TellI (okc o) (oiv o)
section
variable {f : FuncId} {args : Array Value} {w : World}
theorem tellq_to {o o' : Except Int Rw} (h : o = o') (hc : Calls Tryz.prog f args w (TellQ o' w)) : Calls Tryz.prog f args w (TellQ o w) := by subst h; exact hc
theorem runq_to {o o' : Except Int Rw} (h : o = o') (hc : Calls Tryz.prog f args w (RunQ o' w)) : Calls Tryz.prog f args w (RunQ o w) := by subst h; exact hc
theorem runi_to {o o' : Except Int Iv} (h : o = o') (hc : Calls Tryz.prog f args w (RunI o' w)) : Calls Tryz.prog f args w (RunI o w) := by subst h; exact hc
theorem tello_to {o o' : Except Int Iv} (h : o = o') (hc : Calls Tryz.prog f args w (TellO o' w)) : Calls Tryz.prog f args w (TellO o w) := by subst h; exact hc
theorem tells_oc (S : Sc) {P : Int → Bool → Nat → Int → Prop} (ho : Only P) (hz : Null P) (h : Calls Tryz.prog f args w (Tells P w)) : Calls Tryz.prog f args w (TellQ (S.oc P) w) := h.mono fun en w' => by
 rintro ⟨k, s, A, n, c, m, x, rfl, hp, hN, b⟩
 have h2 := S.is P k s m x ho hp
 by_cases hk : k = 0
 ·subst hk
  rw [h2.1 rfl]
  exact ⟨A, n, c, rfl, hN.rd, b⟩
 ·rw [h2.2 hk]
  obtain ⟨rfl, rfl, rfl⟩ := hz _ _ _ _ hp hk
  have h3 := hN.rd
  rw [dig_zero] at h3
  exact ⟨A, n, c, rfl, h3, b⟩
end

theorem dadd_tell (S : Sc) {w : World} {a b : Rw} {A1 : Option Addr} {n1 c1 : Nat} {A2 : Option Addr} {n2 c2 : Nat} (hT : Tab w) (h1 : Rd w .u64 Go.Proofs.YtcbkhmejlaaieaaGreatDoor.W A1 n1 c1 a.l) (h2 : Rd w .u64 Go.Proofs.YtcbkhmejlaaieaaGreatDoor.W A2 n2 c2 b.l) : Calls Tryz.prog 31 #[.agg #[.bool a.s, .slice A1 n1 c1, .int .i64 a.e], .agg #[.bool b.s, .slice A2 n2 c2, .int .i64 b.e]] w (TellQ (addO S a b) w) := tells_oc S addR_only addR_null (dadd_raw S.big hT h1 h2)
theorem dmul_tell (S : Sc) {w : World} {a b : Rw} {A1 : Option Addr} {n1 c1 : Nat} {A2 : Option Addr} {n2 c2 : Nat} (hT : Tab w) (h1 : Rd w .u64 Go.Proofs.YtcbkhmejlaaieaaGreatDoor.W A1 n1 c1 a.l) (h2 : Rd w .u64 Go.Proofs.YtcbkhmejlaaieaaGreatDoor.W A2 n2 c2 b.l) : Calls Tryz.prog 33 #[.agg #[.bool a.s, .slice A1 n1 c1, .int .i64 a.e], .agg #[.bool b.s, .slice A2 n2 c2, .int .i64 b.e]] w (TellQ (mulO S a b) w) := tells_oc S mulR_only mulR_null (dmul_raw hT h1 h2)
theorem prec_cases (p : Int) (t : Bool) : ((1 ≤ p ∧ p ≤ 2000) ∧ t = true) ∨ (p < 1 ∨ 2000 < p ∨ t = false) := by
 cases t
 ·exact .inr (.inr (.inr rfl))
 ·by_cases h : 1 ≤ p ∧ p ≤ 2000
  ·exact .inl ⟨h, rfl⟩
  ·exact .inr (by omega)
theorem down_tell (S : Sc) {p : Int} {w : World} {a : Rw} {A1 : Option Addr} {n1 c1 : Nat} (hT : Tab w) (h1 : Rd w .u64 Go.Proofs.YtcbkhmejlaaieaaGreatDoor.W A1 n1 c1 a.l) : Calls Tryz.prog 148 #[.agg #[.bool a.s, .slice A1 n1 c1, .int .i64 a.e], .int .i64 p] w (TellQ (rndO S a p false) w) := by
 refine tells_oc S rndR_only rndR_null ?_
 unfold rndR
 rcases prec_cases p a.may with h | h
 ·rw [if_pos h]
  obtain ⟨n, rfl⟩ := Int.eq_ofNat_of_zero_le (show 0 ≤ p by omega)
  obtain ⟨hN, hO, _⟩ := rd_okd h1 h.2
  exact rdown_ok hT hN hO (by omega) (by omega)
 ·rw [if_neg (by rintro ⟨h2, h3⟩; rw [h3] at h; rcases h with h | h | h; omega; omega; cases h)]
  exact rdown_no hT h1 h
theorem up_tell (S : Sc) {p : Int} {w : World} {a : Rw} {A1 : Option Addr} {n1 c1 : Nat} (hT : Tab w) (h1 : Rd w .u64 Go.Proofs.YtcbkhmejlaaieaaGreatDoor.W A1 n1 c1 a.l) : Calls Tryz.prog 149 #[.agg #[.bool a.s, .slice A1 n1 c1, .int .i64 a.e], .int .i64 p] w (TellQ (rndO S a p true) w) := by
 refine tells_oc S rndR_only rndR_null ?_
 unfold rndR
 rcases prec_cases p a.may with h | h
 ·rw [if_pos h]
  obtain ⟨n, rfl⟩ := Int.eq_ofNat_of_zero_le (show 0 ≤ p by omega)
  obtain ⟨hN, hO, _⟩ := rd_okd h1 h.2
  exact rup_ok hT hN hO (by omega) (by omega)
 ·rw [if_neg (by rintro ⟨h2, h3⟩; rw [h3] at h; rcases h with h | h | h; omega; omega; cases h)]
  exact rup_no hT h1 h
theorem quot_tell (S : Sc) {p : Int} {up : Bool} {w : World} {a b : Rw} {A1 : Option Addr} {n1 c1 : Nat} {A2 : Option Addr} {n2 c2 : Nat} (hT : Tab w) (h1 : Rd w .u64 Go.Proofs.YtcbkhmejlaaieaaGreatDoor.W A1 n1 c1 a.l) (h2 : Rd w .u64 Go.Proofs.YtcbkhmejlaaieaaGreatDoor.W A2 n2 c2 b.l) : Calls Tryz.prog 122 #[.agg #[.bool a.s, .slice A1 n1 c1, .int .i64 a.e], .agg #[.bool b.s, .slice A2 n2 c2, .int .i64 b.e], .int .i64 p, .bool up] w (TellQ (quoO S p up a b) w) := tells_oc S quotR_only quotR_null (dquot_raw hT h1 h2)
theorem root_tell (S : Sc) {p : Int} {up : Bool} {w : World} {a : Rw} {A1 : Option Addr} {n1 c1 : Nat} (hT : Tab w) (h1 : Rd w .u64 Go.Proofs.YtcbkhmejlaaieaaGreatDoor.W A1 n1 c1 a.l) : Calls Tryz.prog 125 #[.agg #[.bool a.s, .slice A1 n1 c1, .int .i64 a.e], .int .i64 p, .bool up] w (TellQ (rooO S a p up) w) := tells_oc S (rootR_only a.lt) rootR_null (droot_raw hT h1)

theorem must_rd {A1 : Option Addr} {n1 c1 : Nat} {a : Rw} {w : World} (h1 : Rd w .u64 Go.Proofs.YtcbkhmejlaaieaaGreatDoor.W A1 n1 c1 a.l) :
  Calls Tryz.prog 101 #[.agg #[.bool a.s, .slice A1 n1 c1, .int .i64 a.e], .int .i64 0] w (GivQ a w) := by
 have BB := two_below w (.cells #[.bool a.s, .slice A1 n1 c1, .int .i64 a.e] 24) (.cells #[.bool a.s, .slice A1 n1 c1, .int .i64 a.e] 24)
 have h2 := h1.below BB
 go_enter Tryz.func101, Tryz.ntmps101
 go_wp2_with fail
 refine check_ok.mono ?_
 rintro e' w' ⟨rfl, rfl⟩
 go_wp2
 exact bodyPost_ret (v := .agg #[.bool a.s, .slice A1 n1 c1, .int .i64 a.e]) (by simp [results, Tryz.results101, go_sem]) rfl ⟨_, _, _, rfl, h2, BB⟩
theorem must_run {o : Except Int Rw} {w : World} {A1 : Option Addr} {n1 c1 : Nat} (hc : Cod o) (h1 : Rd w .u64 Go.Proofs.YtcbkhmejlaaieaaGreatDoor.W A1 n1 c1 (orw o).l) :
  Calls Tryz.prog 101 #[.agg #[.bool (orw o).s, .slice A1 n1 c1, .int .i64 (orw o).e], .int .i64 (okc o)] w (RunQ o w) := by
 cases o with
 | ok v => exact (must_rd (a := v) h1).mono fun en w' h => .inl ⟨v, rfl, h⟩
 | error k => exact (must_bad (k := k) (hc k rfl)).mono fun en w' h => .inr ⟨k, rfl, hc k rfl, h⟩

set_option maxRecDepth 100000 in
set_option maxHeartbeats 8000000 in
theorem down_run (S : Sc) {p : Int} {w : World} {a : Rw} {A1 : Option Addr} {n1 c1 : Nat} (hT : Tab w) (h1 : Rd w .u64 Go.Proofs.YtcbkhmejlaaieaaGreatDoor.W A1 n1 c1 a.l) :
  Calls Tryz.prog 100 #[.agg #[.bool a.s, .slice A1 n1 c1, .int .i64 a.e], .int .i64 p] w (RunQ (rndO S a p false) w) := by
 obtain ⟨q, hq⟩ : ∃ q : Except Int Rw, q = rndO S a p false := ⟨_, rfl⟩
 rw [← hq]
 have HQ := Lib.hid hq
 clear hq
 have BB := two_below w (.cells #[.bool a.s, .slice A1 n1 c1, .int .i64 a.e] 24) (.cells #[.bool false, .slice none 0 0, .int .i64 0] 24)
 obtain ⟨a10, a11, a12⟩ := ((Box.new w a.s A1 n1 c1 a.e).alloc (.cells #[.bool false, .slice none 0 0, .int .i64 0] 24)).held
 have r := box_one w (.cells #[.bool a.s, .slice A1 n1 c1, .int .i64 a.e] 24) false none 0 0 0
 have G := mv BB rfl <| And.intro hT <| h1
 clear hT h1
 obtain ⟨hT, h1⟩ := G
 go_enter Tryz.func100, Tryz.ntmps100
 obtain ⟨o1, ho1⟩ : ∃ o, o = rndO S a p false := ⟨_, rfl⟩
 have HO1 := Lib.hid ho1
 clear ho1
 have HC1 : Cod o1 := by rw [HO1.out]; exact rndO_cod
 go_wp2_with fail
 refine (tellq_to HO1.out (down_tell S hT h1)).mono ?_
 rintro en w1 ⟨A3, n3, c3, rfl, h3, b⟩
 replace BB := bnx BB b rfl rfl rfl rfl
 have G := mv b rfl (J3 hT h1 r)
 clear b hT h1 r
 obtain ⟨hT, h1, r⟩ := G
 go_wp2_with fail
 refine (must_run HC1 h3).mono ?_
 rintro en w2 (⟨v1, hv1, A5, n5, c5, rfl, h5, b⟩ | ⟨kk, hk, hk0, rfl, b⟩)
 rotate_left
 ·replace BB := bnx BB b rfl rfl rfl rfl
  clear b
  have HKK := Lib.hid (And.intro hk hk0)
  clear hk hk0
  go_wp2
  exact ⟨rfl, .inr ⟨kk, (HQ.out.trans (by simp only [← HO1.out, HKK.out.1])), HKK.out.2, rfl, BB⟩⟩
 have HV1 := Lib.hid hv1
 clear hv1
 clear h3
 replace BB := bnx BB b rfl rfl rfl rfl
 have G := mv b rfl (J3 hT h1 r)
 clear b hT h1 r
 obtain ⟨hT, h1, r⟩ := G
 have HL : q = .ok v1 := by rw [HQ.out, ← HO1.out, HV1.out]
 obtain ⟨f0, f1, f2⟩ := r.open
 obtain ⟨z0, z1, z2⟩ := r.held
 go_wp2
 have qq := r.put v1.s A5 n5 c5 v1.e
 have hN := h5.put3 r (.bool v1.s) (.slice A5 n5 c5) (.int .i64 v1.e)
 have HB3 := below_put3 (g := w.heap.size + 1) BB (by omega) (.bool v1.s) (.slice A5 n5 c5) (.int .i64 v1.e)
 obtain ⟨z0, z1, z2⟩ := qq.held
 exact bodyPost_ret (v := .agg #[.bool v1.s, .slice A5 n5 c5, .int .i64 v1.e]) (by simp [results, Tryz.results100, go_sem, z0, z1, z2]) rfl (.inl ⟨v1, HL, _, _, _, rfl, hN, HB3⟩)

set_option maxRecDepth 100000 in
set_option maxHeartbeats 8000000 in
theorem up_run (S : Sc) {p : Int} {w : World} {a : Rw} {A1 : Option Addr} {n1 c1 : Nat} (hT : Tab w) (h1 : Rd w .u64 Go.Proofs.YtcbkhmejlaaieaaGreatDoor.W A1 n1 c1 a.l) :
  Calls Tryz.prog 102 #[.agg #[.bool a.s, .slice A1 n1 c1, .int .i64 a.e], .int .i64 p] w (RunQ (rndO S a p true) w) := by
 obtain ⟨q, hq⟩ : ∃ q : Except Int Rw, q = rndO S a p true := ⟨_, rfl⟩
 rw [← hq]
 have HQ := Lib.hid hq
 clear hq
 have BB := two_below w (.cells #[.bool a.s, .slice A1 n1 c1, .int .i64 a.e] 24) (.cells #[.bool false, .slice none 0 0, .int .i64 0] 24)
 obtain ⟨a10, a11, a12⟩ := ((Box.new w a.s A1 n1 c1 a.e).alloc (.cells #[.bool false, .slice none 0 0, .int .i64 0] 24)).held
 have r := box_one w (.cells #[.bool a.s, .slice A1 n1 c1, .int .i64 a.e] 24) false none 0 0 0
 have G := mv BB rfl <| And.intro hT <| h1
 clear hT h1
 obtain ⟨hT, h1⟩ := G
 go_enter Tryz.func102, Tryz.ntmps102
 obtain ⟨o1, ho1⟩ : ∃ o, o = rndO S a p true := ⟨_, rfl⟩
 have HO1 := Lib.hid ho1
 clear ho1
 have HC1 : Cod o1 := by rw [HO1.out]; exact rndO_cod
 go_wp2_with fail
 refine (tellq_to HO1.out (up_tell S hT h1)).mono ?_
 rintro en w1 ⟨A3, n3, c3, rfl, h3, b⟩
 replace BB := bnx BB b rfl rfl rfl rfl
 have G := mv b rfl (J3 hT h1 r)
 clear b hT h1 r
 obtain ⟨hT, h1, r⟩ := G
 go_wp2_with fail
 refine (must_run HC1 h3).mono ?_
 rintro en w2 (⟨v1, hv1, A5, n5, c5, rfl, h5, b⟩ | ⟨kk, hk, hk0, rfl, b⟩)
 rotate_left
 ·replace BB := bnx BB b rfl rfl rfl rfl
  clear b
  have HKK := Lib.hid (And.intro hk hk0)
  clear hk hk0
  go_wp2
  exact ⟨rfl, .inr ⟨kk, (HQ.out.trans (by simp only [← HO1.out, HKK.out.1])), HKK.out.2, rfl, BB⟩⟩
 have HV1 := Lib.hid hv1
 clear hv1
 clear h3
 replace BB := bnx BB b rfl rfl rfl rfl
 have G := mv b rfl (J3 hT h1 r)
 clear b hT h1 r
 obtain ⟨hT, h1, r⟩ := G
 have HL : q = .ok v1 := by rw [HQ.out, ← HO1.out, HV1.out]
 obtain ⟨f0, f1, f2⟩ := r.open
 obtain ⟨z0, z1, z2⟩ := r.held
 go_wp2
 have qq := r.put v1.s A5 n5 c5 v1.e
 have hN := h5.put3 r (.bool v1.s) (.slice A5 n5 c5) (.int .i64 v1.e)
 have HB3 := below_put3 (g := w.heap.size + 1) BB (by omega) (.bool v1.s) (.slice A5 n5 c5) (.int .i64 v1.e)
 obtain ⟨z0, z1, z2⟩ := qq.held
 exact bodyPost_ret (v := .agg #[.bool v1.s, .slice A5 n5 c5, .int .i64 v1.e]) (by simp [results, Tryz.results102, go_sem, z0, z1, z2]) rfl (.inl ⟨v1, HL, _, _, _, rfl, hN, HB3⟩)

set_option maxRecDepth 100000 in
set_option maxHeartbeats 8000000 in
theorem product_run (S : Sc) {w : World} {a b : Rw} {A1 : Option Addr} {n1 c1 : Nat} {A2 : Option Addr} {n2 c2 : Nat} (hT : Tab w) (h1 : Rd w .u64 Go.Proofs.YtcbkhmejlaaieaaGreatDoor.W A1 n1 c1 a.l) (h2 : Rd w .u64 Go.Proofs.YtcbkhmejlaaieaaGreatDoor.W A2 n2 c2 b.l) :
  Calls Tryz.prog 54 #[.agg #[.bool a.s, .slice A1 n1 c1, .int .i64 a.e], .agg #[.bool b.s, .slice A2 n2 c2, .int .i64 b.e]] w (RunQ (mulO S a b) w) := by
 obtain ⟨q, hq⟩ : ∃ q : Except Int Rw, q = mulO S a b := ⟨_, rfl⟩
 rw [← hq]
 have HQ := Lib.hid hq
 clear hq
 obtain ⟨BB, xa, xb, r⟩ := three_dbl w (s1 := a.s) (A1 := A1) (n1 := n1) (c1 := c1) (e1 := a.e) (s2 := b.s) (A2 := A2) (n2 := n2) (c2 := c2) (e2 := b.e)
 obtain ⟨a10, a11, a12⟩ := xa.held
 obtain ⟨a20, a21, a22⟩ := xb.held
 have G := mv BB rfl (J3 hT h1 h2)
 clear hT h1 h2
 obtain ⟨hT, h1, h2⟩ := G
 go_enter Tryz.func54, Tryz.ntmps54
 obtain ⟨o1, ho1⟩ : ∃ o, o = mulO S a b := ⟨_, rfl⟩
 have HO1 := Lib.hid ho1
 clear ho1
 have HC1 : Cod o1 := by rw [HO1.out]; exact mulO_cod
 go_wp2_with fail
 refine (tellq_to HO1.out (dmul_tell S hT h1 h2)).mono ?_
 rintro en w1 ⟨A3, n3, c3, rfl, h3, b⟩
 replace BB := bnx BB b rfl rfl rfl rfl
 have G := mv b rfl (J4 hT h1 h2 r)
 clear b hT h1 h2 r
 obtain ⟨hT, h1, h2, r⟩ := G
 go_wp2_with fail
 refine (must_run HC1 h3).mono ?_
 rintro en w2 (⟨v1, hv1, A5, n5, c5, rfl, h5, b⟩ | ⟨kk, hk, hk0, rfl, b⟩)
 rotate_left
 ·replace BB := bnx BB b rfl rfl rfl rfl
  clear b
  have HKK := Lib.hid (And.intro hk hk0)
  clear hk hk0
  go_wp2
  exact ⟨rfl, .inr ⟨kk, (HQ.out.trans (by simp only [← HO1.out, HKK.out.1])), HKK.out.2, rfl, BB⟩⟩
 have HV1 := Lib.hid hv1
 clear hv1
 clear h3
 replace BB := bnx BB b rfl rfl rfl rfl
 have G := mv b rfl (J4 hT h1 h2 r)
 clear b hT h1 h2 r
 obtain ⟨hT, h1, h2, r⟩ := G
 have HL : q = .ok v1 := by rw [HQ.out, ← HO1.out, HV1.out]
 obtain ⟨f0, f1, f2⟩ := r.open
 obtain ⟨z0, z1, z2⟩ := r.held
 go_wp2
 have qq := r.put v1.s A5 n5 c5 v1.e
 have hN := h5.put3 r (.bool v1.s) (.slice A5 n5 c5) (.int .i64 v1.e)
 have HB3 := below_put3 (g := w.heap.size + 2) BB (by omega) (.bool v1.s) (.slice A5 n5 c5) (.int .i64 v1.e)
 obtain ⟨z0, z1, z2⟩ := qq.held
 exact bodyPost_ret (v := .agg #[.bool v1.s, .slice A5 n5 c5, .int .i64 v1.e]) (by simp [results, Tryz.results54, go_sem, z0, z1, z2]) rfl (.inl ⟨v1, HL, _, _, _, rfl, hN, HB3⟩)

set_option maxRecDepth 100000 in
set_option maxHeartbeats 8000000 in
theorem quotient1_run (S : Sc) {p : Int} {up : Bool} {g g2 : Nat} {w : World} {a b : Rw} {A1 : Option Addr} {n1 c1 : Nat} {A2 : Option Addr} {n2 c2 : Nat} (hT : Tab w) (h1 : Rd w .u64 Go.Proofs.YtcbkhmejlaaieaaGreatDoor.W A1 n1 c1 a.l) (h2 : Rd w .u64 Go.Proofs.YtcbkhmejlaaieaaGreatDoor.W A2 n2 c2 b.l) (gp : Cel w g p) (gu : w.cell? ⟨g2, 0, none⟩ = some (.bool up)) :
  Calls Tryz.prog 121 #[.agg #[.bool a.s, .slice A1 n1 c1, .int .i64 a.e], .agg #[.bool b.s, .slice A2 n2 c2, .int .i64 b.e], .pointer (some ⟨g, 0, none⟩), .pointer (some ⟨g2, 0, none⟩)] w (RunQ (quoO S p up a b) w) := by
 obtain ⟨q, hq⟩ : ∃ q : Except Int Rw, q = quoO S p up a b := ⟨_, rfl⟩
 rw [← hq]
 have HQ := Lib.hid hq
 clear hq
 obtain ⟨BB, xa, xb, r⟩ := three_dbl w (s1 := a.s) (A1 := A1) (n1 := n1) (c1 := c1) (e1 := a.e) (s2 := b.s) (A2 := A2) (n2 := n2) (c2 := c2) (e2 := b.e)
 obtain ⟨a10, a11, a12⟩ := xa.held
 obtain ⟨a20, a21, a22⟩ := xb.held
 have lp := gp.gl
 have lu := World.block_lt_of_cell? w _ gu
 have G := mv BB rfl (J5 hT h1 h2 gp gu)
 clear hT h1 h2 gp gu
 obtain ⟨hT, h1, h2, gp, gu⟩ := G
 have p0 := gp.c0
 go_enter Tryz.func121, Tryz.ntmps121
 obtain ⟨o1, ho1⟩ : ∃ o, o = quoO S p up a b := ⟨_, rfl⟩
 have HO1 := Lib.hid ho1
 clear ho1
 have HC1 : Cod o1 := by rw [HO1.out]; exact quoO_cod
 go_wp2_with fail
 refine (tellq_to HO1.out (quot_tell S hT h1 h2)).mono ?_
 rintro en w1 ⟨A3, n3, c3, rfl, h3, b⟩
 replace BB := bnx BB b rfl rfl rfl rfl
 have G := mv b rfl (J6 hT h1 h2 gp gu r)
 clear b hT h1 h2 gp gu r
 obtain ⟨hT, h1, h2, gp, gu, r⟩ := G
 go_wp2_with fail
 refine (must_run HC1 h3).mono ?_
 rintro en w2 (⟨v1, hv1, A5, n5, c5, rfl, h5, b⟩ | ⟨kk, hk, hk0, rfl, b⟩)
 rotate_left
 ·replace BB := bnx BB b rfl rfl rfl rfl
  clear b
  have HKK := Lib.hid (And.intro hk hk0)
  clear hk hk0
  go_wp2
  exact ⟨rfl, .inr ⟨kk, (HQ.out.trans (by simp only [← HO1.out, HKK.out.1])), HKK.out.2, rfl, BB⟩⟩
 have HV1 := Lib.hid hv1
 clear hv1
 clear h3
 replace BB := bnx BB b rfl rfl rfl rfl
 have G := mv b rfl (J6 hT h1 h2 gp gu r)
 clear b hT h1 h2 gp gu r
 obtain ⟨hT, h1, h2, gp, gu, r⟩ := G
 have HL : q = .ok v1 := by rw [HQ.out, ← HO1.out, HV1.out]
 obtain ⟨f0, f1, f2⟩ := r.open
 obtain ⟨z0, z1, z2⟩ := r.held
 go_wp2
 have qq := r.put v1.s A5 n5 c5 v1.e
 have hN := h5.put3 r (.bool v1.s) (.slice A5 n5 c5) (.int .i64 v1.e)
 have HB3 := below_put3 (g := w.heap.size + 2) BB (by omega) (.bool v1.s) (.slice A5 n5 c5) (.int .i64 v1.e)
 obtain ⟨z0, z1, z2⟩ := qq.held
 exact bodyPost_ret (v := .agg #[.bool v1.s, .slice A5 n5 c5, .int .i64 v1.e]) (by simp [results, Tryz.results121, go_sem, z0, z1, z2]) rfl (.inl ⟨v1, HL, _, _, _, rfl, hN, HB3⟩)

end Go.Proofs.YtcbkhmejlaaieaaGreatDoor
