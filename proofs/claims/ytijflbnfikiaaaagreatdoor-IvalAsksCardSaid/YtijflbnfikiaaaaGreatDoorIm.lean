/-
  Contract of the statements' own same of layer 5, at this translation. Condition: the slices read as limbs, the table of math/bits reads as its text lays it.
-/
import Derived.Test.YtijflbnfikiaaaaGreatDoorIi
import Derived.Test.YtijflbnfikiaaaaGreatDoorRc
namespace Go.Proofs.YtijflbnfikiaaaaGreatDoor
open Go.RowKit

set_option maxRecDepth 100000 in
set_option maxHeartbeats 8000000 in
theorem rless_any {w : World} {K : Nat} {a b : Rw} {A1 : Option Addr} {n1 c1 : Nat} {A2 : Option Addr} {n2 c2 : Nat} (hK : 4194304 ≤ K) (h1 : Rd w .u64 Go.Proofs.YtijflbnfikiaaaaGreatDoor.W A1 n1 c1 a.l) (h2 : Rd w .u64 Go.Proofs.YtijflbnfikiaaaaGreatDoor.W A2 n2 c2 b.l) :
    Calls Tryz.prog 41 #[.agg #[.bool a.s, .slice A1 n1 c1, .int .i64 a.e], .agg #[.bool b.s, .slice A2 n2 c2, .int .i64 b.e]] w (Bools (decide (cmpQ K a b < 0)) w) := by
  have BB := two_below w (.cells #[.bool a.s, .slice A1 n1 c1, .int .i64 a.e] 24) (.cells #[.bool b.s, .slice A2 n2 c2, .int .i64 b.e] 24)
  obtain ⟨a10, a11, a12, a20, a21, a22⟩ := (two_new w a.s b.s A1 A2 n1 c1 n2 c2 a.e b.e).held
  have G := mv BB rfl <| And.intro h1 <| h2
  clear h1 h2
  obtain ⟨h1, h2⟩ := G
  go_enter Tryz.func41, Tryz.ntmps41
  go_wp2_with fail
  refine (rcmpd_raw (K := K) (s1 := a.s) (e1 := a.e) (s2 := b.s) (e2 := b.e) hK h1 h2).mono ?_
  rintro en w1 ⟨rfl, b⟩
  replace BB := below_next BB BB.size b rfl rfl rfl rfl
  have G := mv b rfl <| And.intro a10 <| And.intro a11 <| And.intro a12 <| And.intro a20 <| And.intro a21 <| And.intro a22 <| And.intro h1 <| h2
  clear b a10 a11 a12 a20 a21 a22 h1 h2
  obtain ⟨a10, a11, a12, a20, a21, a22, h1, h2⟩ := G
  have e1 : cmpR K a.s a.l a.e b.s b.l b.e = cmpQ K a b := rfl
  rw [e1]
  clear e1
  go_wp2
  go_ret
  exact ⟨by first | rfl | simp, BB⟩

set_option maxRecDepth 100000 in
set_option maxHeartbeats 8000000 in
theorem rmayi_any {w : World} {K : Nat} {x : Iv} {A1 : Option Addr} {n1 c1 : Nat} {A2 : Option Addr} {n2 c2 : Nat} (hK : 4194304 ≤ K) (h1 : Rd w .u64 Go.Proofs.YtijflbnfikiaaaaGreatDoor.W A1 n1 c1 x.lo.l) (h2 : Rd w .u64 Go.Proofs.YtijflbnfikiaaaaGreatDoor.W A2 n2 c2 x.hi.l) :
    Calls Tryz.prog 13 #[.agg #[.bool x.lo.s, .slice A1 n1 c1, .int .i64 x.lo.e, .bool x.hi.s, .slice A2 n2 c2, .int .i64 x.hi.e]] w (Bools (mayI K x) w) := by
  have BB := below_alloc w (.cells #[.bool x.lo.s, .slice A1 n1 c1, .int .i64 x.lo.e, .bool x.hi.s, .slice A2 n2 c2, .int .i64 x.hi.e] 26)
  obtain ⟨a0, a1, a2, a3, a4, a5⟩ := (Ibx.new w x.lo.s A1 n1 c1 x.lo.e x.hi.s A2 n2 c2 x.hi.e).held
  have G := mv BB rfl <| And.intro h1 <| h2
  clear h1 h2
  obtain ⟨h1, h2⟩ := G
  obtain ⟨p1, hp1⟩ : ∃ p, p = x.lo.may := ⟨_, rfl⟩
  obtain ⟨p2, hp2⟩ : ∃ p, p = x.hi.may := ⟨_, rfl⟩
  obtain ⟨p3, hp3⟩ : ∃ p, p = decide (cmpQ K x.lo x.hi ≤ 0) := ⟨_, rfl⟩
  have HP1 := Lib.hid hp1
  have HP2 := Lib.hid hp2
  have HP3 := Lib.hid hp3
  unfold mayI
  rw [← hp1, ← hp2, ← hp3]
  clear hp1 hp2 hp3
  go_enter Tryz.func13, Tryz.ntmps13
  go_wp2_with fail
  refine (rmayd_any (s := x.lo.s) (e := x.lo.e) h1).mono ?_
  rintro en w1 ⟨rfl, b⟩
  have e1 : mayD x.lo.s x.lo.l x.lo.e = p1 := HP1.out.symm
  rw [e1]
  clear e1 HP1
  replace BB := below_next BB BB.size b rfl rfl rfl rfl
  have G := mv b rfl <| And.intro a0 <| And.intro a1 <| And.intro a2 <| And.intro a3 <| And.intro a4 <| And.intro a5 <| And.intro h1 <| h2
  clear b a0 a1 a2 a3 a4 a5 h1 h2
  obtain ⟨a0, a1, a2, a3, a4, a5, h1, h2⟩ := G
  cases p1
  · go_wp2
    go_ret
    exact ⟨by first | rfl | simp, BB⟩
  go_wp2_with fail
  refine (rmayd_any (s := x.hi.s) (e := x.hi.e) h2).mono ?_
  rintro en w2 ⟨rfl, b⟩
  have e1 : mayD x.hi.s x.hi.l x.hi.e = p2 := HP2.out.symm
  rw [e1]
  clear e1 HP2
  replace BB := below_next BB BB.size b rfl rfl rfl rfl
  have G := mv b rfl <| And.intro a0 <| And.intro a1 <| And.intro a2 <| And.intro a3 <| And.intro a4 <| And.intro a5 <| And.intro h1 <| h2
  clear b a0 a1 a2 a3 a4 a5 h1 h2
  obtain ⟨a0, a1, a2, a3, a4, a5, h1, h2⟩ := G
  cases p2
  · go_wp2
    go_ret
    exact ⟨by first | rfl | simp, BB⟩
  go_wp2_with fail
  refine (rcmpd_raw (K := K) (s1 := x.lo.s) (e1 := x.lo.e) (s2 := x.hi.s) (e2 := x.hi.e) hK h1 h2).mono ?_
  rintro en w3 ⟨rfl, b⟩
  replace BB := below_next BB BB.size b rfl rfl rfl rfl
  have G := mv b rfl <| And.intro a0 <| And.intro a1 <| And.intro a2 <| And.intro a3 <| And.intro a4 <| And.intro a5 <| And.intro h1 <| h2
  clear b a0 a1 a2 a3 a4 a5 h1 h2
  obtain ⟨a0, a1, a2, a3, a4, a5, h1, h2⟩ := G
  have e1 : cmpR K x.lo.s x.lo.l x.lo.e x.hi.s x.hi.l x.hi.e = cmpQ K x.lo x.hi := rfl
  rw [e1]
  clear e1
  generalize cmpQ K x.lo x.hi = z at HP3
  have f1 : decide (z ≤ 0) = p3 := HP3.out.symm
  clear HP3
  go_wp2
  go_ret
  exact ⟨by first | rfl | simp, BB⟩

set_option maxRecDepth 100000 in
set_option maxHeartbeats 8000000 in
theorem rleast_any {w : World} {K : Nat} {a b : Rw} {A1 : Option Addr} {n1 c1 : Nat} {A2 : Option Addr} {n2 c2 : Nat} (hK : 4194304 ≤ K) (h1 : Rd w .u64 Go.Proofs.YtijflbnfikiaaaaGreatDoor.W A1 n1 c1 a.l) (h2 : Rd w .u64 Go.Proofs.YtijflbnfikiaaaaGreatDoor.W A2 n2 c2 b.l) :
    Calls Tryz.prog 34 #[.agg #[.bool a.s, .slice A1 n1 c1, .int .i64 a.e], .agg #[.bool b.s, .slice A2 n2 c2, .int .i64 b.e]] w (GivQ (leastQ K a b) w) := by
  have BB := three_below w (.cells #[.bool a.s, .slice A1 n1 c1, .int .i64 a.e] 24) (.cells #[.bool b.s, .slice A2 n2 c2, .int .i64 b.e] 24) (.cells #[.bool false, .slice none 0 0, .int .i64 0] 24)
  obtain ⟨a10, a11, a12, a20, a21, a22⟩ := ((two_new w a.s b.s A1 A2 n1 c1 n2 c2 a.e b.e).alloc (.cells #[.bool false, .slice none 0 0, .int .i64 0] 24)).held
  have r := box_two w (.cells #[.bool a.s, .slice A1 n1 c1, .int .i64 a.e] 24) (.cells #[.bool b.s, .slice A2 n2 c2, .int .i64 b.e] 24) false none 0 0 0
  have G := mv BB rfl <| And.intro h1 <| h2
  clear h1 h2
  obtain ⟨h1, h2⟩ := G
  obtain ⟨q, hq⟩ : ∃ q, q = leastQ K a b := ⟨_, rfl⟩
  rw [← hq]
  obtain ⟨t, ht⟩ : ∃ t, t = decide (cmpQ K b a < 0) := ⟨_, rfl⟩
  have HF : Hid (q = if t then b else a) := Lib.hid (by
    rw [hq, ht]; unfold leastQ
    by_cases h : cmpQ K b a < 0
    · rw [if_pos h, if_pos (decide_eq_true h)]
    · rw [if_neg h, if_neg (by rw [decide_eq_false h]; exact Bool.false_ne_true)])
  have HT := Lib.hid ht
  clear ht hq
  go_enter Tryz.func34, Tryz.ntmps34
  go_wp2_with fail
  refine (rless_any (K := K) hK h2 h1).mono ?_
  rintro en w1 ⟨rfl, b⟩
  rw [← HT.out]
  clear HT
  replace BB := below_next BB BB.size b rfl rfl rfl rfl
  have G := mv b rfl <| And.intro a10 <| And.intro a11 <| And.intro a12 <| And.intro a20 <| And.intro a21 <| And.intro a22 <| And.intro h1 <| And.intro h2 <| r
  clear b a10 a11 a12 a20 a21 a22 h1 h2 r
  obtain ⟨a10, a11, a12, a20, a21, a22, h1, h2, r⟩ := G
  cases t
  · have e9 : q = a := HF.out.trans (if_neg Bool.false_ne_true)
    subst e9
    clear HF
    obtain ⟨f0, f1, f2⟩ := r.open
    obtain ⟨z0, z1, z2⟩ := r.held
    go_wp2
    have qq := r.put q.s A1 n1 c1 q.e
    have hN := h1.put3 r (.bool q.s) (.slice A1 n1 c1) (.int .i64 q.e)
    have HB3 := below_put3 (g := w.heap.size + 2) BB (by omega) (.bool q.s) (.slice A1 n1 c1) (.int .i64 q.e)
    obtain ⟨z0, z1, z2⟩ := qq.held
    exact bodyPost_ret (v := .agg #[.bool q.s, .slice A1 n1 c1, .int .i64 q.e]) (by simp [results, Tryz.results34, go_sem, z0, z1, z2]) rfl ⟨_, _, _, rfl, hN, HB3⟩
  · have e9 : q = b := HF.out.trans (if_pos rfl)
    subst e9
    clear HF
    obtain ⟨f0, f1, f2⟩ := r.open
    obtain ⟨z0, z1, z2⟩ := r.held
    go_wp2
    have qq := r.put q.s A2 n2 c2 q.e
    have hN := h2.put3 r (.bool q.s) (.slice A2 n2 c2) (.int .i64 q.e)
    have HB3 := below_put3 (g := w.heap.size + 2) BB (by omega) (.bool q.s) (.slice A2 n2 c2) (.int .i64 q.e)
    obtain ⟨z0, z1, z2⟩ := qq.held
    exact bodyPost_ret (v := .agg #[.bool q.s, .slice A2 n2 c2, .int .i64 q.e]) (by simp [results, Tryz.results34, go_sem, z0, z1, z2]) rfl ⟨_, _, _, rfl, hN, HB3⟩

set_option maxRecDepth 100000 in
set_option maxHeartbeats 8000000 in
theorem rgreatest_any {w : World} {K : Nat} {a b : Rw} {A1 : Option Addr} {n1 c1 : Nat} {A2 : Option Addr} {n2 c2 : Nat} (hK : 4194304 ≤ K) (h1 : Rd w .u64 Go.Proofs.YtijflbnfikiaaaaGreatDoor.W A1 n1 c1 a.l) (h2 : Rd w .u64 Go.Proofs.YtijflbnfikiaaaaGreatDoor.W A2 n2 c2 b.l) :
    Calls Tryz.prog 35 #[.agg #[.bool a.s, .slice A1 n1 c1, .int .i64 a.e], .agg #[.bool b.s, .slice A2 n2 c2, .int .i64 b.e]] w (GivQ (greatQ K a b) w) := by
  have BB := three_below w (.cells #[.bool a.s, .slice A1 n1 c1, .int .i64 a.e] 24) (.cells #[.bool b.s, .slice A2 n2 c2, .int .i64 b.e] 24) (.cells #[.bool false, .slice none 0 0, .int .i64 0] 24)
  obtain ⟨a10, a11, a12, a20, a21, a22⟩ := ((two_new w a.s b.s A1 A2 n1 c1 n2 c2 a.e b.e).alloc (.cells #[.bool false, .slice none 0 0, .int .i64 0] 24)).held
  have r := box_two w (.cells #[.bool a.s, .slice A1 n1 c1, .int .i64 a.e] 24) (.cells #[.bool b.s, .slice A2 n2 c2, .int .i64 b.e] 24) false none 0 0 0
  have G := mv BB rfl <| And.intro h1 <| h2
  clear h1 h2
  obtain ⟨h1, h2⟩ := G
  obtain ⟨q, hq⟩ : ∃ q, q = greatQ K a b := ⟨_, rfl⟩
  rw [← hq]
  obtain ⟨t, ht⟩ : ∃ t, t = decide (cmpQ K a b < 0) := ⟨_, rfl⟩
  have HF : Hid (q = if t then b else a) := Lib.hid (by
    rw [hq, ht]; unfold greatQ
    by_cases h : cmpQ K a b < 0
    · rw [if_pos h, if_pos (decide_eq_true h)]
    · rw [if_neg h, if_neg (by rw [decide_eq_false h]; exact Bool.false_ne_true)])
  have HT := Lib.hid ht
  clear ht hq
  go_enter Tryz.func35, Tryz.ntmps35
  go_wp2_with fail
  refine (rless_any (K := K) hK h1 h2).mono ?_
  rintro en w1 ⟨rfl, b⟩
  rw [← HT.out]
  clear HT
  replace BB := below_next BB BB.size b rfl rfl rfl rfl
  have G := mv b rfl <| And.intro a10 <| And.intro a11 <| And.intro a12 <| And.intro a20 <| And.intro a21 <| And.intro a22 <| And.intro h1 <| And.intro h2 <| r
  clear b a10 a11 a12 a20 a21 a22 h1 h2 r
  obtain ⟨a10, a11, a12, a20, a21, a22, h1, h2, r⟩ := G
  cases t
  · have e9 : q = a := HF.out.trans (if_neg Bool.false_ne_true)
    subst e9
    clear HF
    obtain ⟨f0, f1, f2⟩ := r.open
    obtain ⟨z0, z1, z2⟩ := r.held
    go_wp2
    have qq := r.put q.s A1 n1 c1 q.e
    have hN := h1.put3 r (.bool q.s) (.slice A1 n1 c1) (.int .i64 q.e)
    have HB3 := below_put3 (g := w.heap.size + 2) BB (by omega) (.bool q.s) (.slice A1 n1 c1) (.int .i64 q.e)
    obtain ⟨z0, z1, z2⟩ := qq.held
    exact bodyPost_ret (v := .agg #[.bool q.s, .slice A1 n1 c1, .int .i64 q.e]) (by simp [results, Tryz.results35, go_sem, z0, z1, z2]) rfl ⟨_, _, _, rfl, hN, HB3⟩
  · have e9 : q = b := HF.out.trans (if_pos rfl)
    subst e9
    clear HF
    obtain ⟨f0, f1, f2⟩ := r.open
    obtain ⟨z0, z1, z2⟩ := r.held
    go_wp2
    have qq := r.put q.s A2 n2 c2 q.e
    have hN := h2.put3 r (.bool q.s) (.slice A2 n2 c2) (.int .i64 q.e)
    have HB3 := below_put3 (g := w.heap.size + 2) BB (by omega) (.bool q.s) (.slice A2 n2 c2) (.int .i64 q.e)
    obtain ⟨z0, z1, z2⟩ := qq.held
    exact bodyPost_ret (v := .agg #[.bool q.s, .slice A2 n2 c2, .int .i64 q.e]) (by simp [results, Tryz.results35, go_sem, z0, z1, z2]) rfl ⟨_, _, _, rfl, hN, HB3⟩

set_option maxRecDepth 100000 in
set_option maxHeartbeats 8000000 in
theorem rhas_any {w : World} {K : Nat} {x : Iv} {d : Rw} {A1 : Option Addr} {n1 c1 : Nat} {A2 : Option Addr} {n2 c2 : Nat} {A3 : Option Addr} {n3 c3 : Nat} (hK : 4194304 ≤ K) (h1 : Rd w .u64 Go.Proofs.YtijflbnfikiaaaaGreatDoor.W A1 n1 c1 x.lo.l) (h2 : Rd w .u64 Go.Proofs.YtijflbnfikiaaaaGreatDoor.W A2 n2 c2 x.hi.l) (h3 : Rd w .u64 Go.Proofs.YtijflbnfikiaaaaGreatDoor.W A3 n3 c3 d.l) :
    Calls Tryz.prog 17 #[.agg #[.bool x.lo.s, .slice A1 n1 c1, .int .i64 x.lo.e, .bool x.hi.s, .slice A2 n2 c2, .int .i64 x.hi.e], .agg #[.bool d.s, .slice A3 n3 c3, .int .i64 d.e]] w (Bools (hasI K x d) w) := by
  obtain ⟨BB, xa, xb⟩ := ivl_dyd w (x := x) (d := d) (A1 := A1) (n1 := n1) (c1 := c1) (A2 := A2) (n2 := n2) (c2 := c2) (A3 := A3) (n3 := n3) (c3 := c3)
  obtain ⟨a0, a1, a2, a3, a4, a5⟩ := xa.held
  obtain ⟨b0, b1, b2⟩ := xb.held
  clear xa xb
  have G := mv BB rfl <| And.intro h1 <| And.intro h2 <| h3
  clear h1 h2 h3
  obtain ⟨h1, h2, h3⟩ := G
  obtain ⟨p1, hp1⟩ : ∃ p, p = mayI K x := ⟨_, rfl⟩
  obtain ⟨p2, hp2⟩ : ∃ p, p = d.may := ⟨_, rfl⟩
  obtain ⟨p3, hp3⟩ : ∃ p, p = decide (cmpQ K d x.lo < 0) := ⟨_, rfl⟩
  obtain ⟨p4, hp4⟩ : ∃ p, p = decide (cmpQ K x.hi d < 0) := ⟨_, rfl⟩
  have HP1 := Lib.hid hp1
  have HP2 := Lib.hid hp2
  have HP3 := Lib.hid hp3
  have HP4 := Lib.hid hp4
  rw [← has_ref]
  rw [← hp1, ← hp2, ← hp3, ← hp4]
  clear hp1 hp2 hp3 hp4
  go_enter Tryz.func17, Tryz.ntmps17
  go_wp2_with fail
  refine (rmayi_any (x := x) hK h1 h2).mono ?_
  rintro en w1 ⟨rfl, b⟩
  rw [← HP1.out]
  clear HP1
  replace BB := below_next BB BB.size b rfl rfl rfl rfl
  have G := mv b rfl <| And.intro a0 <| And.intro a1 <| And.intro a2 <| And.intro a3 <| And.intro a4 <| And.intro a5 <| And.intro b0 <| And.intro b1 <| And.intro b2 <| And.intro h1 <| And.intro h2 <| h3
  clear b a0 a1 a2 a3 a4 a5 b0 b1 b2 h1 h2 h3
  obtain ⟨a0, a1, a2, a3, a4, a5, b0, b1, b2, h1, h2, h3⟩ := G
  cases p1
  · go_wp2
    go_ret
    exact ⟨by first | rfl | simp, BB⟩
  go_wp2_with fail
  refine (rmayd_any (s := d.s) (e := d.e) h3).mono ?_
  rintro en w2 ⟨rfl, b⟩
  have e1 : mayD d.s d.l d.e = p2 := HP2.out.symm
  rw [e1]
  clear e1 HP2
  replace BB := below_next BB BB.size b rfl rfl rfl rfl
  have G := mv b rfl <| And.intro a0 <| And.intro a1 <| And.intro a2 <| And.intro a3 <| And.intro a4 <| And.intro a5 <| And.intro b0 <| And.intro b1 <| And.intro b2 <| And.intro h1 <| And.intro h2 <| h3
  clear b a0 a1 a2 a3 a4 a5 b0 b1 b2 h1 h2 h3
  obtain ⟨a0, a1, a2, a3, a4, a5, b0, b1, b2, h1, h2, h3⟩ := G
  cases p2
  · go_wp2
    go_ret
    exact ⟨by first | rfl | simp, BB⟩
  go_wp2_with fail
  refine (rless_any (a := d) (b := x.lo) hK h3 h1).mono ?_
  rintro en w3 ⟨rfl, b⟩
  rw [← HP3.out]
  clear HP3
  replace BB := below_next BB BB.size b rfl rfl rfl rfl
  have G := mv b rfl <| And.intro a0 <| And.intro a1 <| And.intro a2 <| And.intro a3 <| And.intro a4 <| And.intro a5 <| And.intro b0 <| And.intro b1 <| And.intro b2 <| And.intro h1 <| And.intro h2 <| h3
  clear b a0 a1 a2 a3 a4 a5 b0 b1 b2 h1 h2 h3
  obtain ⟨a0, a1, a2, a3, a4, a5, b0, b1, b2, h1, h2, h3⟩ := G
  cases p3
  rotate_left
  · go_wp2
    go_ret
    exact ⟨by first | rfl | simp, BB⟩
  go_wp2_with fail
  refine (rless_any (a := x.hi) (b := d) hK h2 h3).mono ?_
  rintro en w4 ⟨rfl, b⟩
  rw [← HP4.out]
  clear HP4
  replace BB := below_next BB BB.size b rfl rfl rfl rfl
  have G := mv b rfl <| And.intro a0 <| And.intro a1 <| And.intro a2 <| And.intro a3 <| And.intro a4 <| And.intro a5 <| And.intro b0 <| And.intro b1 <| And.intro b2 <| And.intro h1 <| And.intro h2 <| h3
  clear b a0 a1 a2 a3 a4 a5 b0 b1 b2 h1 h2 h3
  obtain ⟨a0, a1, a2, a3, a4, a5, b0, b1, b2, h1, h2, h3⟩ := G
  cases p4
  all_goals (go_wp2; go_ret; exact ⟨by first | rfl | simp, BB⟩)

set_option maxRecDepth 100000 in
set_option maxHeartbeats 8000000 in
theorem rwithin_any {w : World} {K : Nat} {x y : Iv} {A1 : Option Addr} {n1 c1 : Nat} {A2 : Option Addr} {n2 c2 : Nat} {A3 : Option Addr} {n3 c3 : Nat} {A4 : Option Addr} {n4 c4 : Nat} (hK : 4194304 ≤ K) (h1 : Rd w .u64 Go.Proofs.YtijflbnfikiaaaaGreatDoor.W A1 n1 c1 x.lo.l) (h2 : Rd w .u64 Go.Proofs.YtijflbnfikiaaaaGreatDoor.W A2 n2 c2 x.hi.l) (h3 : Rd w .u64 Go.Proofs.YtijflbnfikiaaaaGreatDoor.W A3 n3 c3 y.lo.l) (h4 : Rd w .u64 Go.Proofs.YtijflbnfikiaaaaGreatDoor.W A4 n4 c4 y.hi.l) :
    Calls Tryz.prog 19 #[.agg #[.bool x.lo.s, .slice A1 n1 c1, .int .i64 x.lo.e, .bool x.hi.s, .slice A2 n2 c2, .int .i64 x.hi.e], .agg #[.bool y.lo.s, .slice A3 n3 c3, .int .i64 y.lo.e, .bool y.hi.s, .slice A4 n4 c4, .int .i64 y.hi.e]] w (Bools (withinI K x y) w) := by
  obtain ⟨BB, xa, xb⟩ := two_ivl w (x := x) (y := y) (A1 := A1) (n1 := n1) (c1 := c1) (A2 := A2) (n2 := n2) (c2 := c2) (A3 := A3) (n3 := n3) (c3 := c3) (A4 := A4) (n4 := n4) (c4 := c4) 
  obtain ⟨a0, a1, a2, a3, a4, a5⟩ := xa.held
  obtain ⟨b0, b1, b2, b3, b4, b5⟩ := xb.held
  clear xa xb
  have G := mv BB rfl <| And.intro h1 <| And.intro h2 <| And.intro h3 <| h4
  clear h1 h2 h3 h4
  obtain ⟨h1, h2, h3, h4⟩ := G
  obtain ⟨p1, hp1⟩ : ∃ p, p = mayI K x := ⟨_, rfl⟩
  obtain ⟨p2, hp2⟩ : ∃ p, p = mayI K y := ⟨_, rfl⟩
  obtain ⟨p3, hp3⟩ : ∃ p, p = decide (cmpQ K x.lo y.lo < 0) := ⟨_, rfl⟩
  obtain ⟨p4, hp4⟩ : ∃ p, p = decide (cmpQ K y.hi x.hi < 0) := ⟨_, rfl⟩
  have HP1 := Lib.hid hp1
  have HP2 := Lib.hid hp2
  have HP3 := Lib.hid hp3
  have HP4 := Lib.hid hp4
  rw [← within_ref]
  rw [← hp1, ← hp2, ← hp3, ← hp4]
  clear hp1 hp2 hp3 hp4
  go_enter Tryz.func19, Tryz.ntmps19
  go_wp2_with fail
  refine (rmayi_any (x := x) hK h1 h2).mono ?_
  rintro en w1 ⟨rfl, b⟩
  rw [← HP1.out]
  clear HP1
  replace BB := below_next BB BB.size b rfl rfl rfl rfl
  have G := mv b rfl <| And.intro a0 <| And.intro a1 <| And.intro a2 <| And.intro a3 <| And.intro a4 <| And.intro a5 <| And.intro b0 <| And.intro b1 <| And.intro b2 <| And.intro b3 <| And.intro b4 <| And.intro b5 <| And.intro h1 <| And.intro h2 <| And.intro h3 <| h4
  clear b a0 a1 a2 a3 a4 a5 b0 b1 b2 b3 b4 b5 h1 h2 h3 h4
  obtain ⟨a0, a1, a2, a3, a4, a5, b0, b1, b2, b3, b4, b5, h1, h2, h3, h4⟩ := G
  cases p1
  · go_wp2
    go_ret
    exact ⟨by first | rfl | simp, BB⟩
  go_wp2_with fail
  refine (rmayi_any (x := y) hK h3 h4).mono ?_
  rintro en w2 ⟨rfl, b⟩
  rw [← HP2.out]
  clear HP2
  replace BB := below_next BB BB.size b rfl rfl rfl rfl
  have G := mv b rfl <| And.intro a0 <| And.intro a1 <| And.intro a2 <| And.intro a3 <| And.intro a4 <| And.intro a5 <| And.intro b0 <| And.intro b1 <| And.intro b2 <| And.intro b3 <| And.intro b4 <| And.intro b5 <| And.intro h1 <| And.intro h2 <| And.intro h3 <| h4
  clear b a0 a1 a2 a3 a4 a5 b0 b1 b2 b3 b4 b5 h1 h2 h3 h4
  obtain ⟨a0, a1, a2, a3, a4, a5, b0, b1, b2, b3, b4, b5, h1, h2, h3, h4⟩ := G
  cases p2
  · go_wp2
    go_ret
    exact ⟨by first | rfl | simp, BB⟩
  go_wp2_with fail
  refine (rless_any (a := x.lo) (b := y.lo) hK h1 h3).mono ?_
  rintro en w3 ⟨rfl, b⟩
  rw [← HP3.out]
  clear HP3
  replace BB := below_next BB BB.size b rfl rfl rfl rfl
  have G := mv b rfl <| And.intro a0 <| And.intro a1 <| And.intro a2 <| And.intro a3 <| And.intro a4 <| And.intro a5 <| And.intro b0 <| And.intro b1 <| And.intro b2 <| And.intro b3 <| And.intro b4 <| And.intro b5 <| And.intro h1 <| And.intro h2 <| And.intro h3 <| h4
  clear b a0 a1 a2 a3 a4 a5 b0 b1 b2 b3 b4 b5 h1 h2 h3 h4
  obtain ⟨a0, a1, a2, a3, a4, a5, b0, b1, b2, b3, b4, b5, h1, h2, h3, h4⟩ := G
  cases p3
  rotate_left
  · go_wp2
    go_ret
    exact ⟨by first | rfl | simp, BB⟩
  go_wp2_with fail
  refine (rless_any (a := y.hi) (b := x.hi) hK h4 h2).mono ?_
  rintro en w4 ⟨rfl, b⟩
  rw [← HP4.out]
  clear HP4
  replace BB := below_next BB BB.size b rfl rfl rfl rfl
  have G := mv b rfl <| And.intro a0 <| And.intro a1 <| And.intro a2 <| And.intro a3 <| And.intro a4 <| And.intro a5 <| And.intro b0 <| And.intro b1 <| And.intro b2 <| And.intro b3 <| And.intro b4 <| And.intro b5 <| And.intro h1 <| And.intro h2 <| And.intro h3 <| h4
  clear b a0 a1 a2 a3 a4 a5 b0 b1 b2 b3 b4 b5 h1 h2 h3 h4
  obtain ⟨a0, a1, a2, a3, a4, a5, b0, b1, b2, b3, b4, b5, h1, h2, h3, h4⟩ := G
  cases p4
  all_goals (go_wp2; go_ret; exact ⟨by first | rfl | simp, BB⟩)

set_option maxRecDepth 100000 in
set_option maxHeartbeats 8000000 in
theorem rinside_any {w : World} {K : Nat} {x y : Iv} {A1 : Option Addr} {n1 c1 : Nat} {A2 : Option Addr} {n2 c2 : Nat} {A3 : Option Addr} {n3 c3 : Nat} {A4 : Option Addr} {n4 c4 : Nat} (hK : 4194304 ≤ K) (h1 : Rd w .u64 Go.Proofs.YtijflbnfikiaaaaGreatDoor.W A1 n1 c1 x.lo.l) (h2 : Rd w .u64 Go.Proofs.YtijflbnfikiaaaaGreatDoor.W A2 n2 c2 x.hi.l) (h3 : Rd w .u64 Go.Proofs.YtijflbnfikiaaaaGreatDoor.W A3 n3 c3 y.lo.l) (h4 : Rd w .u64 Go.Proofs.YtijflbnfikiaaaaGreatDoor.W A4 n4 c4 y.hi.l) :
    Calls Tryz.prog 21 #[.agg #[.bool x.lo.s, .slice A1 n1 c1, .int .i64 x.lo.e, .bool x.hi.s, .slice A2 n2 c2, .int .i64 x.hi.e], .agg #[.bool y.lo.s, .slice A3 n3 c3, .int .i64 y.lo.e, .bool y.hi.s, .slice A4 n4 c4, .int .i64 y.hi.e]] w (Bools (insideI K x y) w) := by
  obtain ⟨BB, xa, xb⟩ := two_ivl w (x := x) (y := y) (A1 := A1) (n1 := n1) (c1 := c1) (A2 := A2) (n2 := n2) (c2 := c2) (A3 := A3) (n3 := n3) (c3 := c3) (A4 := A4) (n4 := n4) (c4 := c4) 
  obtain ⟨a0, a1, a2, a3, a4, a5⟩ := xa.held
  obtain ⟨b0, b1, b2, b3, b4, b5⟩ := xb.held
  clear xa xb
  have G := mv BB rfl <| And.intro h1 <| And.intro h2 <| And.intro h3 <| h4
  clear h1 h2 h3 h4
  obtain ⟨h1, h2, h3, h4⟩ := G
  obtain ⟨p1, hp1⟩ : ∃ p, p = mayI K x := ⟨_, rfl⟩
  obtain ⟨p2, hp2⟩ : ∃ p, p = mayI K y := ⟨_, rfl⟩
  obtain ⟨p3, hp3⟩ : ∃ p, p = decide (cmpQ K y.lo x.lo < 0) := ⟨_, rfl⟩
  obtain ⟨p4, hp4⟩ : ∃ p, p = decide (cmpQ K x.hi y.hi < 0) := ⟨_, rfl⟩
  have HP1 := Lib.hid hp1
  have HP2 := Lib.hid hp2
  have HP3 := Lib.hid hp3
  have HP4 := Lib.hid hp4
  unfold insideI
  rw [← hp1, ← hp2, ← hp3, ← hp4]
  clear hp1 hp2 hp3 hp4
  go_enter Tryz.func21, Tryz.ntmps21
  go_wp2_with fail
  refine (rmayi_any (x := x) hK h1 h2).mono ?_
  rintro en w1 ⟨rfl, b⟩
  rw [← HP1.out]
  clear HP1
  replace BB := below_next BB BB.size b rfl rfl rfl rfl
  have G := mv b rfl <| And.intro a0 <| And.intro a1 <| And.intro a2 <| And.intro a3 <| And.intro a4 <| And.intro a5 <| And.intro b0 <| And.intro b1 <| And.intro b2 <| And.intro b3 <| And.intro b4 <| And.intro b5 <| And.intro h1 <| And.intro h2 <| And.intro h3 <| h4
  clear b a0 a1 a2 a3 a4 a5 b0 b1 b2 b3 b4 b5 h1 h2 h3 h4
  obtain ⟨a0, a1, a2, a3, a4, a5, b0, b1, b2, b3, b4, b5, h1, h2, h3, h4⟩ := G
  cases p1
  · go_wp2
    go_ret
    exact ⟨by first | rfl | simp, BB⟩
  go_wp2_with fail
  refine (rmayi_any (x := y) hK h3 h4).mono ?_
  rintro en w2 ⟨rfl, b⟩
  rw [← HP2.out]
  clear HP2
  replace BB := below_next BB BB.size b rfl rfl rfl rfl
  have G := mv b rfl <| And.intro a0 <| And.intro a1 <| And.intro a2 <| And.intro a3 <| And.intro a4 <| And.intro a5 <| And.intro b0 <| And.intro b1 <| And.intro b2 <| And.intro b3 <| And.intro b4 <| And.intro b5 <| And.intro h1 <| And.intro h2 <| And.intro h3 <| h4
  clear b a0 a1 a2 a3 a4 a5 b0 b1 b2 b3 b4 b5 h1 h2 h3 h4
  obtain ⟨a0, a1, a2, a3, a4, a5, b0, b1, b2, b3, b4, b5, h1, h2, h3, h4⟩ := G
  cases p2
  · go_wp2
    go_ret
    exact ⟨by first | rfl | simp, BB⟩
  go_wp2_with fail
  refine (rless_any (a := y.lo) (b := x.lo) hK h3 h1).mono ?_
  rintro en w3 ⟨rfl, b⟩
  rw [← HP3.out]
  clear HP3
  replace BB := below_next BB BB.size b rfl rfl rfl rfl
  have G := mv b rfl <| And.intro a0 <| And.intro a1 <| And.intro a2 <| And.intro a3 <| And.intro a4 <| And.intro a5 <| And.intro b0 <| And.intro b1 <| And.intro b2 <| And.intro b3 <| And.intro b4 <| And.intro b5 <| And.intro h1 <| And.intro h2 <| And.intro h3 <| h4
  clear b a0 a1 a2 a3 a4 a5 b0 b1 b2 b3 b4 b5 h1 h2 h3 h4
  obtain ⟨a0, a1, a2, a3, a4, a5, b0, b1, b2, b3, b4, b5, h1, h2, h3, h4⟩ := G
  cases p3
  · go_wp2
    go_ret
    exact ⟨by first | rfl | simp, BB⟩
  go_wp2_with fail
  refine (rless_any (a := x.hi) (b := y.hi) hK h2 h4).mono ?_
  rintro en w4 ⟨rfl, b⟩
  rw [← HP4.out]
  clear HP4
  replace BB := below_next BB BB.size b rfl rfl rfl rfl
  have G := mv b rfl <| And.intro a0 <| And.intro a1 <| And.intro a2 <| And.intro a3 <| And.intro a4 <| And.intro a5 <| And.intro b0 <| And.intro b1 <| And.intro b2 <| And.intro b3 <| And.intro b4 <| And.intro b5 <| And.intro h1 <| And.intro h2 <| And.intro h3 <| h4
  clear b a0 a1 a2 a3 a4 a5 b0 b1 b2 b3 b4 b5 h1 h2 h3 h4
  obtain ⟨a0, a1, a2, a3, a4, a5, b0, b1, b2, b3, b4, b5, h1, h2, h3, h4⟩ := G
  go_wp2
  go_ret
  exact ⟨by first | rfl | simp, BB⟩

set_option maxRecDepth 100000 in
set_option maxHeartbeats 8000000 in
theorem rsamei_any {w : World} {x y : Iv} {A1 : Option Addr} {n1 c1 : Nat} {A2 : Option Addr} {n2 c2 : Nat} {A3 : Option Addr} {n3 c3 : Nat} {A4 : Option Addr} {n4 c4 : Nat} (h1 : Rd w .u64 Go.Proofs.YtijflbnfikiaaaaGreatDoor.W A1 n1 c1 x.lo.l) (h2 : Rd w .u64 Go.Proofs.YtijflbnfikiaaaaGreatDoor.W A2 n2 c2 x.hi.l) (h3 : Rd w .u64 Go.Proofs.YtijflbnfikiaaaaGreatDoor.W A3 n3 c3 y.lo.l) (h4 : Rd w .u64 Go.Proofs.YtijflbnfikiaaaaGreatDoor.W A4 n4 c4 y.hi.l) :
    Calls Tryz.prog 23 #[.agg #[.bool x.lo.s, .slice A1 n1 c1, .int .i64 x.lo.e, .bool x.hi.s, .slice A2 n2 c2, .int .i64 x.hi.e], .agg #[.bool y.lo.s, .slice A3 n3 c3, .int .i64 y.lo.e, .bool y.hi.s, .slice A4 n4 c4, .int .i64 y.hi.e]] w (Bools (sameI x y) w) := by
  obtain ⟨BB, xa, xb⟩ := two_ivl w (x := x) (y := y) (A1 := A1) (n1 := n1) (c1 := c1) (A2 := A2) (n2 := n2) (c2 := c2) (A3 := A3) (n3 := n3) (c3 := c3) (A4 := A4) (n4 := n4) (c4 := c4) 
  obtain ⟨a0, a1, a2, a3, a4, a5⟩ := xa.held
  obtain ⟨b0, b1, b2, b3, b4, b5⟩ := xb.held
  clear xa xb
  have G := mv BB rfl <| And.intro h1 <| And.intro h2 <| And.intro h3 <| h4
  clear h1 h2 h3 h4
  obtain ⟨h1, h2, h3, h4⟩ := G
  obtain ⟨p1, hp1⟩ : ∃ p, p = sameQ x.lo y.lo := ⟨_, rfl⟩
  obtain ⟨p2, hp2⟩ : ∃ p, p = sameQ x.hi y.hi := ⟨_, rfl⟩
  have HP1 := Lib.hid hp1
  have HP2 := Lib.hid hp2
  unfold sameI
  rw [← hp1, ← hp2]
  clear hp1 hp2
  go_enter Tryz.func23, Tryz.ntmps23
  go_wp2_with fail
  refine (rsame_raw (s := x.lo.s) (t := y.lo.s) (e := x.lo.e) (f := y.lo.e) h1 h3).mono ?_
  rintro en w1 ⟨rfl, b⟩
  have e1 : sameB x.lo.s y.lo.s x.lo.l y.lo.l x.lo.e y.lo.e = p1 := HP1.out.symm
  rw [e1]
  clear e1 HP1
  replace BB := below_next BB BB.size b rfl rfl rfl rfl
  have G := mv b rfl <| And.intro a0 <| And.intro a1 <| And.intro a2 <| And.intro a3 <| And.intro a4 <| And.intro a5 <| And.intro b0 <| And.intro b1 <| And.intro b2 <| And.intro b3 <| And.intro b4 <| And.intro b5 <| And.intro h1 <| And.intro h2 <| And.intro h3 <| h4
  clear b a0 a1 a2 a3 a4 a5 b0 b1 b2 b3 b4 b5 h1 h2 h3 h4
  obtain ⟨a0, a1, a2, a3, a4, a5, b0, b1, b2, b3, b4, b5, h1, h2, h3, h4⟩ := G
  cases p1
  · go_wp2
    go_ret
    exact ⟨by first | rfl | simp, BB⟩
  go_wp2_with fail
  refine (rsame_raw (s := x.hi.s) (t := y.hi.s) (e := x.hi.e) (f := y.hi.e) h2 h4).mono ?_
  rintro en w2 ⟨rfl, b⟩
  have e1 : sameB x.hi.s y.hi.s x.hi.l y.hi.l x.hi.e y.hi.e = p2 := HP2.out.symm
  rw [e1]
  clear e1 HP2
  replace BB := below_next BB BB.size b rfl rfl rfl rfl
  have G := mv b rfl <| And.intro a0 <| And.intro a1 <| And.intro a2 <| And.intro a3 <| And.intro a4 <| And.intro a5 <| And.intro b0 <| And.intro b1 <| And.intro b2 <| And.intro b3 <| And.intro b4 <| And.intro b5 <| And.intro h1 <| And.intro h2 <| And.intro h3 <| h4
  clear b a0 a1 a2 a3 a4 a5 b0 b1 b2 b3 b4 b5 h1 h2 h3 h4
  obtain ⟨a0, a1, a2, a3, a4, a5, b0, b1, b2, b3, b4, b5, h1, h2, h3, h4⟩ := G
  go_wp2
  go_ret
  exact ⟨by first | rfl | simp, BB⟩

theorem Ibx.oth6 {w : World} {g g' : Nat} {s : Bool} {A : Option Addr} {n c : Nat} {e : Int} {t : Bool} {B : Option Addr} {m d : Nat} {f : Int} (h : Ibx w g' s A n c e t B m d f) (hne : g' ≠ g) (u0 u1 u2 u3 u4 u5 : Value) : Ibx ((((((w.setCell ⟨g, 0, none⟩ u0).setCell ⟨g, 1, none⟩ u1).setCell ⟨g, 2, none⟩ u2).setCell ⟨g, 3, none⟩ u3).setCell ⟨g, 4, none⟩ u4).setCell ⟨g, 5, none⟩ u5) g' s A n c e t B m d f := (((((h.other hne 0 u0).other hne 1 u1).other hne 2 u2).other hne 3 u3).other hne 4 u4).other hne 5 u5

set_option maxRecDepth 100000 in
set_option maxHeartbeats 8000000 in
theorem rhull_no {w : World} {K : Nat} {x y : Iv} {A1 : Option Addr} {n1 c1 : Nat} {A2 : Option Addr} {n2 c2 : Nat} {A3 : Option Addr} {n3 c3 : Nat} {A4 : Option Addr} {n4 c4 : Nat} (hK : 4194304 ≤ K) (h1 : Rd w .u64 Go.Proofs.YtijflbnfikiaaaaGreatDoor.W A1 n1 c1 x.lo.l) (h2 : Rd w .u64 Go.Proofs.YtijflbnfikiaaaaGreatDoor.W A2 n2 c2 x.hi.l) (h3 : Rd w .u64 Go.Proofs.YtijflbnfikiaaaaGreatDoor.W A3 n3 c3 y.lo.l) (h4 : Rd w .u64 Go.Proofs.YtijflbnfikiaaaaGreatDoor.W A4 n4 c4 y.hi.l) (hm : ¬ (mayI K x = true ∧ mayI K y = true)) :
    Calls Tryz.prog 9 #[.agg #[.bool x.lo.s, .slice A1 n1 c1, .int .i64 x.lo.e, .bool x.hi.s, .slice A2 n2 c2, .int .i64 x.hi.e], .agg #[.bool y.lo.s, .slice A3 n3 c3, .int .i64 y.lo.e, .bool y.hi.s, .slice A4 n4 c4, .int .i64 y.hi.e]] w (TellI 1 Iv.zero w) := by
  have BB := three_below w (.cells #[.bool x.lo.s, .slice A1 n1 c1, .int .i64 x.lo.e, .bool x.hi.s, .slice A2 n2 c2, .int .i64 x.hi.e] 26) (.cells #[.bool y.lo.s, .slice A3 n3 c3, .int .i64 y.lo.e, .bool y.hi.s, .slice A4 n4 c4, .int .i64 y.hi.e] 26) (.cells #[.bool false, .slice none 0 0, .int .i64 0, .bool false, .slice none 0 0, .int .i64 0] 26)
  obtain ⟨_, xa, xb⟩ := two_ivl w (x := x) (y := y) (A1 := A1) (n1 := n1) (c1 := c1) (A2 := A2) (n2 := n2) (c2 := c2) (A3 := A3) (n3 := n3) (c3 := c3) (A4 := A4) (n4 := n4) (c4 := c4) 
  replace xa := xa.alloc (.cells #[.bool false, .slice none 0 0, .int .i64 0, .bool false, .slice none 0 0, .int .i64 0] 26)
  replace xb := xb.alloc (.cells #[.bool false, .slice none 0 0, .int .i64 0, .bool false, .slice none 0 0, .int .i64 0] 26)
  obtain ⟨a0, a1, a2, a3, a4, a5⟩ := xa.held
  obtain ⟨b0, b1, b2, b3, b4, b5⟩ := xb.held
  clear xa xb
  have G := mv BB rfl <| And.intro h1 <| And.intro h2 <| And.intro h3 <| h4
  clear h1 h2 h3 h4
  obtain ⟨h1, h2, h3, h4⟩ := G
  have r := ibx_two w (.cells #[.bool x.lo.s, .slice A1 n1 c1, .int .i64 x.lo.e, .bool x.hi.s, .slice A2 n2 c2, .int .i64 x.hi.e] 26) (.cells #[.bool y.lo.s, .slice A3 n3 c3, .int .i64 y.lo.e, .bool y.hi.s, .slice A4 n4 c4, .int .i64 y.hi.e] 26) false none 0 0 0 false none 0 0 0
  obtain ⟨q, hq⟩ : ∃ q, q = Iv.zero := ⟨_, rfl⟩
  rw [← hq]
  have HQ := Lib.hid hq
  have HM := Lib.hid hm
  clear hq hm
  go_enter Tryz.func9, Tryz.ntmps9
  go_wp2_with fail
  refine (rmayi_any (x := x) hK h1 h2).mono ?_
  rintro en w1 ⟨rfl, b⟩
  replace BB := below_next BB BB.size b rfl rfl rfl rfl
  have G := mv b rfl <| And.intro a0 <| And.intro a1 <| And.intro a2 <| And.intro a3 <| And.intro a4 <| And.intro a5 <| And.intro b0 <| And.intro b1 <| And.intro b2 <| And.intro b3 <| And.intro b4 <| And.intro b5 <| And.intro h1 <| And.intro h2 <| And.intro h3 <| And.intro h4 <| r
  clear b a0 a1 a2 a3 a4 a5 b0 b1 b2 b3 b4 b5 h1 h2 h3 h4 r
  obtain ⟨a0, a1, a2, a3, a4, a5, b0, b1, b2, b3, b4, b5, h1, h2, h3, h4, r⟩ := G
  cases q1 : mayI K x
  · clear q1 HM
    have hq0 : q = Iv.zero := HQ.out
    subst hq0
    clear HQ
    obtain ⟨f0, f1, f2, f3, f4, f5⟩ := r.open
    obtain ⟨z0, z1, z2, z3, z4, z5⟩ := r.held
    go_wp2
    have qq := r.put false none 0 0 0 false none 0 0 0
    have HB3 := below_put6 (g := w.heap.size + 2) BB (by omega) (.bool false) (.slice none 0 0) (.int .i64 0) (.bool false) (.slice none 0 0) (.int .i64 0)
    obtain ⟨z0, z1, z2, z3, z4, z5⟩ := qq.held
    exact bodyPost_ret (v := .tuple #[.agg #[.bool false, .slice none 0 0, .int .i64 0, .bool false, .slice none 0 0, .int .i64 0], .int .i64 1]) (by simp [results, Tryz.results9, go_sem, z0, z1, z2, z3, z4, z5]) rfl ⟨_, _, _, _, _, _, rfl, Rd.nil _ _ _ _ (by omega), Rd.nil _ _ _ _ (by omega), HB3⟩
  go_wp2_with fail
  refine (rmayi_any (x := y) hK h3 h4).mono ?_
  rintro en w2 ⟨rfl, b⟩
  replace BB := below_next BB BB.size b rfl rfl rfl rfl
  have G := mv b rfl <| And.intro a0 <| And.intro a1 <| And.intro a2 <| And.intro a3 <| And.intro a4 <| And.intro a5 <| And.intro b0 <| And.intro b1 <| And.intro b2 <| And.intro b3 <| And.intro b4 <| And.intro b5 <| And.intro h1 <| And.intro h2 <| And.intro h3 <| And.intro h4 <| r
  clear b a0 a1 a2 a3 a4 a5 b0 b1 b2 b3 b4 b5 h1 h2 h3 h4 r
  obtain ⟨a0, a1, a2, a3, a4, a5, b0, b1, b2, b3, b4, b5, h1, h2, h3, h4, r⟩ := G
  have q2 : mayI K y = false := Bool.eq_false_iff.2 fun h => HM.out ⟨q1, h⟩
  rw [q2]
  clear q1 q2 HM
  have hq0 : q = Iv.zero := HQ.out
  subst hq0
  clear HQ
  obtain ⟨f0, f1, f2, f3, f4, f5⟩ := r.open
  obtain ⟨z0, z1, z2, z3, z4, z5⟩ := r.held
  go_wp2
  have qq := r.put false none 0 0 0 false none 0 0 0
  have HB3 := below_put6 (g := w.heap.size + 2) BB (by omega) (.bool false) (.slice none 0 0) (.int .i64 0) (.bool false) (.slice none 0 0) (.int .i64 0)
  obtain ⟨z0, z1, z2, z3, z4, z5⟩ := qq.held
  exact bodyPost_ret (v := .tuple #[.agg #[.bool false, .slice none 0 0, .int .i64 0, .bool false, .slice none 0 0, .int .i64 0], .int .i64 1]) (by simp [results, Tryz.results9, go_sem, z0, z1, z2, z3, z4, z5]) rfl ⟨_, _, _, _, _, _, rfl, Rd.nil _ _ _ _ (by omega), Rd.nil _ _ _ _ (by omega), HB3⟩

set_option maxRecDepth 100000 in
set_option maxHeartbeats 8000000 in
theorem rhull_ok {w : World} {K : Nat} {x y : Iv} {A1 : Option Addr} {n1 c1 : Nat} {A2 : Option Addr} {n2 c2 : Nat} {A3 : Option Addr} {n3 c3 : Nat} {A4 : Option Addr} {n4 c4 : Nat} (hK : 4194304 ≤ K) (h1 : Rd w .u64 Go.Proofs.YtijflbnfikiaaaaGreatDoor.W A1 n1 c1 x.lo.l) (h2 : Rd w .u64 Go.Proofs.YtijflbnfikiaaaaGreatDoor.W A2 n2 c2 x.hi.l) (h3 : Rd w .u64 Go.Proofs.YtijflbnfikiaaaaGreatDoor.W A3 n3 c3 y.lo.l) (h4 : Rd w .u64 Go.Proofs.YtijflbnfikiaaaaGreatDoor.W A4 n4 c4 y.hi.l) (hx : mayI K x = true) (hy : mayI K y = true) :
    Calls Tryz.prog 9 #[.agg #[.bool x.lo.s, .slice A1 n1 c1, .int .i64 x.lo.e, .bool x.hi.s, .slice A2 n2 c2, .int .i64 x.hi.e], .agg #[.bool y.lo.s, .slice A3 n3 c3, .int .i64 y.lo.e, .bool y.hi.s, .slice A4 n4 c4, .int .i64 y.hi.e]] w (TellI 0 (hullQ K x y) w) := by
  obtain ⟨q, hq⟩ : ∃ q, q = hullQ K x y := ⟨_, rfl⟩
  rw [← hq]
  have HE : Hid (leastQ K x.lo y.lo = q.lo ∧ greatQ K x.hi y.hi = q.hi) := Lib.hid (by rw [hq, ← hull_ref hK hx hy]; exact ⟨rfl, rfl⟩)
  clear hq
  have HK := Lib.hid hK
  clear hK
  have BB := three_below w (.cells #[.bool x.lo.s, .slice A1 n1 c1, .int .i64 x.lo.e, .bool x.hi.s, .slice A2 n2 c2, .int .i64 x.hi.e] 26) (.cells #[.bool y.lo.s, .slice A3 n3 c3, .int .i64 y.lo.e, .bool y.hi.s, .slice A4 n4 c4, .int .i64 y.hi.e] 26) (.cells #[.bool false, .slice none 0 0, .int .i64 0, .bool false, .slice none 0 0, .int .i64 0] 26)
  obtain ⟨_, xa, xb⟩ := two_ivl w (x := x) (y := y) (A1 := A1) (n1 := n1) (c1 := c1) (A2 := A2) (n2 := n2) (c2 := c2) (A3 := A3) (n3 := n3) (c3 := c3) (A4 := A4) (n4 := n4) (c4 := c4) 
  replace xa := xa.alloc (.cells #[.bool false, .slice none 0 0, .int .i64 0, .bool false, .slice none 0 0, .int .i64 0] 26)
  replace xb := xb.alloc (.cells #[.bool false, .slice none 0 0, .int .i64 0, .bool false, .slice none 0 0, .int .i64 0] 26)
  obtain ⟨a0, a1, a2, a3, a4, a5⟩ := xa.held
  obtain ⟨b0, b1, b2, b3, b4, b5⟩ := xb.held
  clear xa xb
  have G := mv BB rfl <| And.intro h1 <| And.intro h2 <| And.intro h3 <| h4
  clear h1 h2 h3 h4
  obtain ⟨h1, h2, h3, h4⟩ := G
  have r := ibx_two w (.cells #[.bool x.lo.s, .slice A1 n1 c1, .int .i64 x.lo.e, .bool x.hi.s, .slice A2 n2 c2, .int .i64 x.hi.e] 26) (.cells #[.bool y.lo.s, .slice A3 n3 c3, .int .i64 y.lo.e, .bool y.hi.s, .slice A4 n4 c4, .int .i64 y.hi.e] 26) false none 0 0 0 false none 0 0 0
  have ne1 : w.heap.size ≠ w.heap.size + 2 := by omega
  have ne2 : w.heap.size + 1 ≠ w.heap.size + 2 := by omega
  have HX := Lib.hid hx
  have HY := Lib.hid hy
  clear hx hy
  go_enter Tryz.func9, Tryz.ntmps9
  go_wp2_with fail
  refine (rmayi_any (x := x) HK.out h1 h2).mono ?_
  rintro en w1 ⟨rfl, b⟩
  rw [HX.out]
  replace BB := below_next BB BB.size b rfl rfl rfl rfl
  have G := mv b rfl <| And.intro a0 <| And.intro a1 <| And.intro a2 <| And.intro a3 <| And.intro a4 <| And.intro a5 <| And.intro b0 <| And.intro b1 <| And.intro b2 <| And.intro b3 <| And.intro b4 <| And.intro b5 <| And.intro h1 <| And.intro h2 <| And.intro h3 <| And.intro h4 <| r
  clear b a0 a1 a2 a3 a4 a5 b0 b1 b2 b3 b4 b5 h1 h2 h3 h4 r
  obtain ⟨a0, a1, a2, a3, a4, a5, b0, b1, b2, b3, b4, b5, h1, h2, h3, h4, r⟩ := G
  go_wp2_with fail
  refine (rmayi_any (x := y) HK.out h3 h4).mono ?_
  rintro en w2 ⟨rfl, b⟩
  rw [HY.out]
  replace BB := below_next BB BB.size b rfl rfl rfl rfl
  have G := mv b rfl <| And.intro a0 <| And.intro a1 <| And.intro a2 <| And.intro a3 <| And.intro a4 <| And.intro a5 <| And.intro b0 <| And.intro b1 <| And.intro b2 <| And.intro b3 <| And.intro b4 <| And.intro b5 <| And.intro h1 <| And.intro h2 <| And.intro h3 <| And.intro h4 <| r
  clear b a0 a1 a2 a3 a4 a5 b0 b1 b2 b3 b4 b5 h1 h2 h3 h4 r
  obtain ⟨a0, a1, a2, a3, a4, a5, b0, b1, b2, b3, b4, b5, h1, h2, h3, h4, r⟩ := G
  clear HX HY
  go_wp2_with fail
  have b : Below w2.heap.size w2 (World.drew w2) := below_drewN (Below.refl _ _) 1
  replace BB := below_next BB BB.size b rfl rfl rfl rfl
  have G := mv b rfl <| And.intro a0 <| And.intro a1 <| And.intro a2 <| And.intro a3 <| And.intro a4 <| And.intro a5 <| And.intro b0 <| And.intro b1 <| And.intro b2 <| And.intro b3 <| And.intro b4 <| And.intro b5 <| And.intro h1 <| And.intro h2 <| And.intro h3 <| And.intro h4 <| r
  clear b a0 a1 a2 a3 a4 a5 b0 b1 b2 b3 b4 b5 h1 h2 h3 h4 r
  obtain ⟨a0, a1, a2, a3, a4, a5, b0, b1, b2, b3, b4, b5, h1, h2, h3, h4, r⟩ := G
  refine wp_region_held_drew (S := fun w' => w'.cell? ⟨w.heap.size, 0, none⟩ = some (.bool x.lo.s) ∧ w'.cell? ⟨w.heap.size, 1, none⟩ = some (.slice A1 n1 c1) ∧ w'.cell? ⟨w.heap.size, 2, none⟩ = some (.int .i64 x.lo.e) ∧ w'.cell? ⟨w.heap.size, 3, none⟩ = some (.bool x.hi.s) ∧ w'.cell? ⟨w.heap.size, 4, none⟩ = some (.slice A2 n2 c2) ∧ w'.cell? ⟨w.heap.size, 5, none⟩ = some (.int .i64 x.hi.e) ∧ w'.cell? ⟨w.heap.size + 1, 0, none⟩ = some (.bool y.lo.s) ∧ w'.cell? ⟨w.heap.size + 1, 1, none⟩ = some (.slice A3 n3 c3) ∧ w'.cell? ⟨w.heap.size + 1, 2, none⟩ = some (.int .i64 y.lo.e) ∧ w'.cell? ⟨w.heap.size + 1, 3, none⟩ = some (.bool y.hi.s) ∧ w'.cell? ⟨w.heap.size + 1, 4, none⟩ = some (.slice A4 n4 c4) ∧ w'.cell? ⟨w.heap.size + 1, 5, none⟩ = some (.int .i64 y.hi.e)) (by kernel_rfl) (by exact ⟨a0, a1, a2, a3, a4, a5, b0, b1, b2, b3, b4, b5⟩) (fun hHeldv0 => ?_)
  generalize World.drew w2 = wd at *
  refine wpAnyH_take (i := 0) (v := ?vv0) rfl (by kernel_rfl) (by kernel_rfl) (by kernel_rfl) (fun _ _ _ h => panic_put (P := Tryz.prog) (fn := Tryz.f9) (R := (TellI 0 q w)) h) (Or.inl ⟨by rfl, ?vy0⟩) (by assumption) ?_
  case vy0 => (intro w hSw; (try dsimp only at hSw); go_simp); try with_reducible rfl
  change wpAnyH _ _ _ _ _ _ _ (Act.put _ (some 15) _) _
  simp only [Act.put, List.setIfInBounds_toArray, List.set_cons_zero, List.set_cons_succ]
  refine wpAnyH_take (i := 1) (v := ?vv1) rfl (by kernel_rfl) (by kernel_rfl) (by kernel_rfl) (fun _ _ _ h => panic_put (P := Tryz.prog) (fn := Tryz.f9) (R := (TellI 0 q w)) h) (Or.inl ⟨by rfl, ?vy1⟩) (by assumption) ?_
  case vy1 => (intro w hSw; (try dsimp only at hSw); go_simp); try with_reducible rfl
  change wpAnyH _ _ _ _ _ _ _ (Act.put _ (some 16) _) _
  simp only [Act.put, List.setIfInBounds_toArray, List.set_cons_zero, List.set_cons_succ]
  refine wpAnyH_take (i := 2) (v := ?vv2) rfl (by kernel_rfl) (by kernel_rfl) (by kernel_rfl) (fun _ _ _ h => panic_put (P := Tryz.prog) (fn := Tryz.f9) (R := (TellI 0 q w)) h) (Or.inl ⟨by rfl, ?vy2⟩) (by assumption) ?_
  case vy2 => (intro w hSw; (try dsimp only at hSw); go_simp); try with_reducible rfl
  change wpAnyH _ _ _ _ _ _ _ (Act.put _ (some 17) _) _
  simp only [Act.put, List.setIfInBounds_toArray, List.set_cons_zero, List.set_cons_succ]
  refine wpAnyH_take (i := 3) (v := ?vv3) rfl (by kernel_rfl) (by kernel_rfl) (by kernel_rfl) (fun _ _ _ h => panic_put (P := Tryz.prog) (fn := Tryz.f9) (R := (TellI 0 q w)) h) (Or.inl ⟨by rfl, ?vy3⟩) (by assumption) ?_
  case vy3 => (intro w hSw; (try dsimp only at hSw); go_simp); try with_reducible rfl
  change wpAnyH _ _ _ _ _ _ _ (Act.put _ (some 18) _) _
  simp only [Act.put, List.setIfInBounds_toArray, List.set_cons_zero, List.set_cons_succ]
  refine wpAnyH_take (i := 5) (v := ?vv5) rfl (by kernel_rfl) (by kernel_rfl) (by kernel_rfl) (fun _ _ _ h => panic_put (P := Tryz.prog) (fn := Tryz.f9) (R := (TellI 0 q w)) h) (Or.inl ⟨by rfl, ?vy5⟩) (by assumption) ?_
  case vy5 => (intro w hSw; (try dsimp only at hSw); go_simp); try with_reducible rfl
  change wpAnyH _ _ _ _ _ _ _ (Act.put _ (some 20) _) _
  simp only [Act.put, List.setIfInBounds_toArray, List.set_cons_zero, List.set_cons_succ]
  refine wpAnyH_take (i := 6) (v := ?vv6) rfl (by kernel_rfl) (by kernel_rfl) (by kernel_rfl) (fun _ _ _ h => panic_put (P := Tryz.prog) (fn := Tryz.f9) (R := (TellI 0 q w)) h) (Or.inl ⟨by rfl, ?vy6⟩) (by assumption) ?_
  case vy6 => (intro w hSw; (try dsimp only at hSw); go_simp); try with_reducible rfl
  change wpAnyH _ _ _ _ _ _ _ (Act.put _ (some 21) _) _
  simp only [Act.put, List.setIfInBounds_toArray, List.set_cons_zero, List.set_cons_succ]
  refine wpAnyH_take (i := 7) (v := ?vv7) rfl (by kernel_rfl) (by kernel_rfl) (by kernel_rfl) (fun _ _ _ h => panic_put (P := Tryz.prog) (fn := Tryz.f9) (R := (TellI 0 q w)) h) (Or.inl ⟨by rfl, ?vy7⟩) (by assumption) ?_
  case vy7 => (intro w hSw; (try dsimp only at hSw); go_simp); try with_reducible rfl
  change wpAnyH _ _ _ _ _ _ _ (Act.put _ (some 22) _) _
  simp only [Act.put, List.setIfInBounds_toArray, List.set_cons_zero, List.set_cons_succ]
  refine wpAnyH_take (i := 8) (v := ?vv8) rfl (by kernel_rfl) (by kernel_rfl) (by kernel_rfl) (fun _ _ _ h => panic_put (P := Tryz.prog) (fn := Tryz.f9) (R := (TellI 0 q w)) h) (Or.inl ⟨by rfl, ?vy8⟩) (by assumption) ?_
  case vy8 => (intro w hSw; (try dsimp only at hSw); go_simp); try with_reducible rfl
  change wpAnyH _ _ _ _ _ _ _ (Act.put _ (some 23) _) _
  simp only [Act.put, List.setIfInBounds_toArray, List.set_cons_zero, List.set_cons_succ]
  refine wpAnyH_ready (rs := [4]) (by kernel_rfl) (by simp) ?_
  refine AllReadyH.cons (o := _) rfl (fun K hK => ?_) AllReadyH.nil
  go_simp
  refine (rleast_any (a := x.lo) (b := y.lo) HK.out h1 h3).mono ?_
  rintro en w' ⟨A5, n5, c5, rfl, h5, b⟩
  rw [HE.out.1] at h5 ⊢
  clear h1
  clear h3
  replace BB := below_next BB BB.size b (by rfl) (by rfl) (by rfl) (by rfl)
  have G := mv b (by rfl) <| And.intro a0 <| And.intro a1 <| And.intro a2 <| And.intro a3 <| And.intro a4 <| And.intro a5 <| And.intro b0 <| And.intro b1 <| And.intro b2 <| And.intro b3 <| And.intro b4 <| And.intro b5 <| And.intro h2 <| And.intro h4 <| r
  clear b a0 a1 a2 a3 a4 a5 b0 b1 b2 b3 b4 b5 h2 h4 r
  obtain ⟨a0, a1, a2, a3, a4, a5, b0, b1, b2, b3, b4, b5, h2, h4, r⟩ := G
  refine hK.out _ _ (by exact ⟨a0, a1, a2, a3, a4, a5, b0, b1, b2, b3, b4, b5⟩) (fun hHeldv1 => ?_)
  clear hK K hHeldv0
  try simp only [Act.put]
  refine wpAnyH_ready (rs := [9]) (by kernel_rfl) (by simp) ?_
  refine AllReadyH.cons (o := _) rfl (fun K hK => ?_) AllReadyH.nil
  go_simp
  refine (rgreatest_any (a := x.hi) (b := y.hi) HK.out h2 h4).mono ?_
  rintro en w' ⟨A6, n6, c6, rfl, h6, b⟩
  rw [HE.out.2] at h6 ⊢
  clear h2
  clear h4
  replace BB := below_next BB BB.size b (by rfl) (by rfl) (by rfl) (by rfl)
  have G := mv b (by rfl) <| And.intro a0 <| And.intro a1 <| And.intro a2 <| And.intro a3 <| And.intro a4 <| And.intro a5 <| And.intro b0 <| And.intro b1 <| And.intro b2 <| And.intro b3 <| And.intro b4 <| And.intro b5 <| And.intro r <| h5
  clear b a0 a1 a2 a3 a4 a5 b0 b1 b2 b3 b4 b5 r h5
  obtain ⟨a0, a1, a2, a3, a4, a5, b0, b1, b2, b3, b4, b5, r, h5⟩ := G
  obtain ⟨f0, f1, f2, f3, f4, f5⟩ := r.open
  obtain ⟨z0, z1, z2, z3, z4, z5⟩ := r.held
  refine hK.out _ _ (by exact ⟨a0, a1, a2, a3, a4, a5, b0, b1, b2, b3, b4, b5⟩) (fun hHeldv2 => ?_)
  clear hK K hHeldv1
  try simp only [Act.put]
  refine wpAnyH_take (i := 10) (v := ?vv10) rfl (by kernel_rfl) (by kernel_rfl) (by kernel_rfl) (fun _ _ _ h => panic_put (P := Tryz.prog) (fn := Tryz.f9) (R := (TellI 0 q w)) h) (Or.inl ⟨by rfl, ?vy10⟩) (by assumption) ?_
  case vy10 => (intro w hSw; (try dsimp only at hSw); go_simp); try with_reducible rfl
  change wpAnyH _ _ _ _ _ _ _ (Act.put _ (some 25) _) _
  simp only [Act.put, List.setIfInBounds_toArray, List.set_cons_zero, List.set_cons_succ]
  refine wpAnyH_ready (rs := [11]) (by kernel_rfl) (by simp) ?_
  refine AllReadyH.cons (o := _) rfl (fun K hK => ?_) AllReadyH.nil
  go_simp
  refine hK.out _ _ (by exact ⟨cell_oth6 a0 ne1, cell_oth6 a1 ne1, cell_oth6 a2 ne1, cell_oth6 a3 ne1, cell_oth6 a4 ne1, cell_oth6 a5 ne1, cell_oth6 b0 ne2, cell_oth6 b1 ne2, cell_oth6 b2 ne2, cell_oth6 b3 ne2, cell_oth6 b4 ne2, cell_oth6 b5 ne2⟩) (fun hHeldv3 => ?_)
  clear hK K hHeldv2
  try simp only [Act.put]
  refine wpAnyH_take (i := 12) (v := ?vv12) rfl (by kernel_rfl) (by kernel_rfl) (by kernel_rfl) (fun _ _ _ h => panic_put (P := Tryz.prog) (fn := Tryz.f9) (R := (TellI 0 q w)) h) (Or.inl ⟨by rfl, ?vy12⟩) (by assumption) ?_
  case vy12 => (intro w hSw; (try dsimp only at hSw); go_simp); try with_reducible rfl
  change wpAnyH _ _ _ _ _ _ _ (Act.put _ (some 5) _) _
  simp only [Act.put, List.setIfInBounds_toArray, List.set_cons_zero, List.set_cons_succ]
  refine wpAnyH_done (by kernel_rfl) ?_ _
  go_wp2
  have qq := r.put q.lo.s A5 n5 c5 q.lo.e q.hi.s A6 n6 c6 q.hi.e
  have hN := h5.put6 r (.bool q.lo.s) (.slice A5 n5 c5) (.int .i64 q.lo.e) (.bool q.hi.s) (.slice A6 n6 c6) (.int .i64 q.hi.e)
  have hM := h6.put6 r (.bool q.lo.s) (.slice A5 n5 c5) (.int .i64 q.lo.e) (.bool q.hi.s) (.slice A6 n6 c6) (.int .i64 q.hi.e)
  have HB3 := below_put6 (g := w.heap.size + 2) BB (by omega) (.bool q.lo.s) (.slice A5 n5 c5) (.int .i64 q.lo.e) (.bool q.hi.s) (.slice A6 n6 c6) (.int .i64 q.hi.e)
  obtain ⟨z0, z1, z2, z3, z4, z5⟩ := qq.held
  exact bodyPost_ret (v := .tuple #[.agg #[.bool q.lo.s, .slice A5 n5 c5, .int .i64 q.lo.e, .bool q.hi.s, .slice A6 n6 c6, .int .i64 q.hi.e], .int .i64 0]) (by simp [results, Tryz.results9, go_sem, z0, z1, z2, z3, z4, z5]) rfl ⟨_, _, _, _, _, _, rfl, hN, hM, HB3⟩

theorem rhull_any {w : World} {K : Nat} {x y : Iv} {A1 : Option Addr} {n1 c1 : Nat} {A2 : Option Addr} {n2 c2 : Nat} {A3 : Option Addr} {n3 c3 : Nat} {A4 : Option Addr} {n4 c4 : Nat} (hK : 4194304 ≤ K) (h1 : Rd w .u64 Go.Proofs.YtijflbnfikiaaaaGreatDoor.W A1 n1 c1 x.lo.l) (h2 : Rd w .u64 Go.Proofs.YtijflbnfikiaaaaGreatDoor.W A2 n2 c2 x.hi.l) (h3 : Rd w .u64 Go.Proofs.YtijflbnfikiaaaaGreatDoor.W A3 n3 c3 y.lo.l) (h4 : Rd w .u64 Go.Proofs.YtijflbnfikiaaaaGreatDoor.W A4 n4 c4 y.hi.l) :
    Calls Tryz.prog 9 #[.agg #[.bool x.lo.s, .slice A1 n1 c1, .int .i64 x.lo.e, .bool x.hi.s, .slice A2 n2 c2, .int .i64 x.hi.e], .agg #[.bool y.lo.s, .slice A3 n3 c3, .int .i64 y.lo.e, .bool y.hi.s, .slice A4 n4 c4, .int .i64 y.hi.e]] w (TellI (hullK K x y) (hullI K x y) w) := by
  unfold hullK hullI
  by_cases hm : mayI K x = true ∧ mayI K y = true
  · rw [if_pos hm, if_pos hm]; exact rhull_ok hK h1 h2 h3 h4 hm.1 hm.2
  · rw [if_neg hm, if_neg hm]; exact rhull_no hK h1 h2 h3 h4 hm

end Go.Proofs.YtijflbnfikiaaaaGreatDoor

namespace Go.Proofs.YtijflbnfikiaaaaGreatDoor
open Go.RowKit

set_option maxRecDepth 100000 in
set_option maxHeartbeats 8000000 in
theorem rmeet_no {w : World} {K : Nat} {x y : Iv} {A1 : Option Addr} {n1 c1 : Nat} {A2 : Option Addr} {n2 c2 : Nat} {A3 : Option Addr} {n3 c3 : Nat} {A4 : Option Addr} {n4 c4 : Nat} (hK : 4194304 ≤ K) (h1 : Rd w .u64 Go.Proofs.YtijflbnfikiaaaaGreatDoor.W A1 n1 c1 x.lo.l) (h2 : Rd w .u64 Go.Proofs.YtijflbnfikiaaaaGreatDoor.W A2 n2 c2 x.hi.l) (h3 : Rd w .u64 Go.Proofs.YtijflbnfikiaaaaGreatDoor.W A3 n3 c3 y.lo.l) (h4 : Rd w .u64 Go.Proofs.YtijflbnfikiaaaaGreatDoor.W A4 n4 c4 y.hi.l) (hm : ¬ (mayI K x = true ∧ mayI K y = true)) :
    Calls Tryz.prog 11 #[.agg #[.bool x.lo.s, .slice A1 n1 c1, .int .i64 x.lo.e, .bool x.hi.s, .slice A2 n2 c2, .int .i64 x.hi.e], .agg #[.bool y.lo.s, .slice A3 n3 c3, .int .i64 y.lo.e, .bool y.hi.s, .slice A4 n4 c4, .int .i64 y.hi.e]] w (TellI 1 Iv.zero w) := by
  have BB := three_below w (.cells #[.bool x.lo.s, .slice A1 n1 c1, .int .i64 x.lo.e, .bool x.hi.s, .slice A2 n2 c2, .int .i64 x.hi.e] 26) (.cells #[.bool y.lo.s, .slice A3 n3 c3, .int .i64 y.lo.e, .bool y.hi.s, .slice A4 n4 c4, .int .i64 y.hi.e] 26) (.cells #[.bool false, .slice none 0 0, .int .i64 0, .bool false, .slice none 0 0, .int .i64 0] 26)
  obtain ⟨_, xa, xb⟩ := two_ivl w (x := x) (y := y) (A1 := A1) (n1 := n1) (c1 := c1) (A2 := A2) (n2 := n2) (c2 := c2) (A3 := A3) (n3 := n3) (c3 := c3) (A4 := A4) (n4 := n4) (c4 := c4) 
  replace xa := xa.alloc (.cells #[.bool false, .slice none 0 0, .int .i64 0, .bool false, .slice none 0 0, .int .i64 0] 26)
  replace xb := xb.alloc (.cells #[.bool false, .slice none 0 0, .int .i64 0, .bool false, .slice none 0 0, .int .i64 0] 26)
  obtain ⟨a0, a1, a2, a3, a4, a5⟩ := xa.held
  obtain ⟨b0, b1, b2, b3, b4, b5⟩ := xb.held
  clear xa xb
  have G := mv BB rfl <| And.intro h1 <| And.intro h2 <| And.intro h3 <| h4
  clear h1 h2 h3 h4
  obtain ⟨h1, h2, h3, h4⟩ := G
  have r := ibx_two w (.cells #[.bool x.lo.s, .slice A1 n1 c1, .int .i64 x.lo.e, .bool x.hi.s, .slice A2 n2 c2, .int .i64 x.hi.e] 26) (.cells #[.bool y.lo.s, .slice A3 n3 c3, .int .i64 y.lo.e, .bool y.hi.s, .slice A4 n4 c4, .int .i64 y.hi.e] 26) false none 0 0 0 false none 0 0 0
  obtain ⟨q, hq⟩ : ∃ q, q = Iv.zero := ⟨_, rfl⟩
  rw [← hq]
  have HQ := Lib.hid hq
  have HM := Lib.hid hm
  clear hq hm
  go_enter Tryz.func11, Tryz.ntmps11
  go_wp2_with fail
  refine (rmayi_any (x := x) hK h1 h2).mono ?_
  rintro en w1 ⟨rfl, b⟩
  replace BB := below_next BB BB.size b rfl rfl rfl rfl
  have G := mv b rfl <| And.intro a0 <| And.intro a1 <| And.intro a2 <| And.intro a3 <| And.intro a4 <| And.intro a5 <| And.intro b0 <| And.intro b1 <| And.intro b2 <| And.intro b3 <| And.intro b4 <| And.intro b5 <| And.intro h1 <| And.intro h2 <| And.intro h3 <| And.intro h4 <| r
  clear b a0 a1 a2 a3 a4 a5 b0 b1 b2 b3 b4 b5 h1 h2 h3 h4 r
  obtain ⟨a0, a1, a2, a3, a4, a5, b0, b1, b2, b3, b4, b5, h1, h2, h3, h4, r⟩ := G
  cases q1 : mayI K x
  · clear q1 HM
    have hq0 : q = Iv.zero := HQ.out
    subst hq0
    clear HQ
    obtain ⟨f0, f1, f2, f3, f4, f5⟩ := r.open
    obtain ⟨z0, z1, z2, z3, z4, z5⟩ := r.held
    go_wp2
    have qq := r.put false none 0 0 0 false none 0 0 0
    have HB3 := below_put6 (g := w.heap.size + 2) BB (by omega) (.bool false) (.slice none 0 0) (.int .i64 0) (.bool false) (.slice none 0 0) (.int .i64 0)
    obtain ⟨z0, z1, z2, z3, z4, z5⟩ := qq.held
    exact bodyPost_ret (v := .tuple #[.agg #[.bool false, .slice none 0 0, .int .i64 0, .bool false, .slice none 0 0, .int .i64 0], .int .i64 1]) (by simp [results, Tryz.results11, go_sem, z0, z1, z2, z3, z4, z5]) rfl ⟨_, _, _, _, _, _, rfl, Rd.nil _ _ _ _ (by omega), Rd.nil _ _ _ _ (by omega), HB3⟩
  go_wp2_with fail
  refine (rmayi_any (x := y) hK h3 h4).mono ?_
  rintro en w2 ⟨rfl, b⟩
  replace BB := below_next BB BB.size b rfl rfl rfl rfl
  have G := mv b rfl <| And.intro a0 <| And.intro a1 <| And.intro a2 <| And.intro a3 <| And.intro a4 <| And.intro a5 <| And.intro b0 <| And.intro b1 <| And.intro b2 <| And.intro b3 <| And.intro b4 <| And.intro b5 <| And.intro h1 <| And.intro h2 <| And.intro h3 <| And.intro h4 <| r
  clear b a0 a1 a2 a3 a4 a5 b0 b1 b2 b3 b4 b5 h1 h2 h3 h4 r
  obtain ⟨a0, a1, a2, a3, a4, a5, b0, b1, b2, b3, b4, b5, h1, h2, h3, h4, r⟩ := G
  have q2 : mayI K y = false := Bool.eq_false_iff.2 fun h => HM.out ⟨q1, h⟩
  rw [q2]
  clear q1 q2 HM
  have hq0 : q = Iv.zero := HQ.out
  subst hq0
  clear HQ
  obtain ⟨f0, f1, f2, f3, f4, f5⟩ := r.open
  obtain ⟨z0, z1, z2, z3, z4, z5⟩ := r.held
  go_wp2
  have qq := r.put false none 0 0 0 false none 0 0 0
  have HB3 := below_put6 (g := w.heap.size + 2) BB (by omega) (.bool false) (.slice none 0 0) (.int .i64 0) (.bool false) (.slice none 0 0) (.int .i64 0)
  obtain ⟨z0, z1, z2, z3, z4, z5⟩ := qq.held
  exact bodyPost_ret (v := .tuple #[.agg #[.bool false, .slice none 0 0, .int .i64 0, .bool false, .slice none 0 0, .int .i64 0], .int .i64 1]) (by simp [results, Tryz.results11, go_sem, z0, z1, z2, z3, z4, z5]) rfl ⟨_, _, _, _, _, _, rfl, Rd.nil _ _ _ _ (by omega), Rd.nil _ _ _ _ (by omega), HB3⟩

set_option maxRecDepth 100000 in
set_option maxHeartbeats 8000000 in
theorem rmeet_ok {w : World} {K : Nat} {x y : Iv} {A1 : Option Addr} {n1 c1 : Nat} {A2 : Option Addr} {n2 c2 : Nat} {A3 : Option Addr} {n3 c3 : Nat} {A4 : Option Addr} {n4 c4 : Nat} (hK : 4194304 ≤ K) (h1 : Rd w .u64 Go.Proofs.YtijflbnfikiaaaaGreatDoor.W A1 n1 c1 x.lo.l) (h2 : Rd w .u64 Go.Proofs.YtijflbnfikiaaaaGreatDoor.W A2 n2 c2 x.hi.l) (h3 : Rd w .u64 Go.Proofs.YtijflbnfikiaaaaGreatDoor.W A3 n3 c3 y.lo.l) (h4 : Rd w .u64 Go.Proofs.YtijflbnfikiaaaaGreatDoor.W A4 n4 c4 y.hi.l) (hx : mayI K x = true) (hy : mayI K y = true) (hm : mayI K (meetQ K x y) = true) :
    Calls Tryz.prog 11 #[.agg #[.bool x.lo.s, .slice A1 n1 c1, .int .i64 x.lo.e, .bool x.hi.s, .slice A2 n2 c2, .int .i64 x.hi.e], .agg #[.bool y.lo.s, .slice A3 n3 c3, .int .i64 y.lo.e, .bool y.hi.s, .slice A4 n4 c4, .int .i64 y.hi.e]] w (TellI 0 (meetQ K x y) w) := by
  obtain ⟨p, hp⟩ : ∃ p, p = meetQ K x y := ⟨_, rfl⟩
  have HE : Hid (greatQ K x.lo y.lo = p.lo ∧ leastQ K x.hi y.hi = p.hi) := Lib.hid (by rw [hp, ← (meet_ref hK hx hy).1]; exact ⟨rfl, rfl⟩)
  have HL : Hid (decide (cmpQ K p.hi p.lo < 0) = false) := Lib.hid (by have := (meet_ref hK hx hy).2; rw [hm] at this; rw [hp]; cases h : decide (cmpQ K (meetQ K x y).hi (meetQ K x y).lo < 0) <;> rw [h] at this <;> first | rfl | cases this)
  rw [← hp]
  clear hp hm
  have HK := Lib.hid hK
  clear hK
  have BB := three_below w (.cells #[.bool x.lo.s, .slice A1 n1 c1, .int .i64 x.lo.e, .bool x.hi.s, .slice A2 n2 c2, .int .i64 x.hi.e] 26) (.cells #[.bool y.lo.s, .slice A3 n3 c3, .int .i64 y.lo.e, .bool y.hi.s, .slice A4 n4 c4, .int .i64 y.hi.e] 26) (.cells #[.bool false, .slice none 0 0, .int .i64 0, .bool false, .slice none 0 0, .int .i64 0] 26)
  obtain ⟨_, xa, xb⟩ := two_ivl w (x := x) (y := y) (A1 := A1) (n1 := n1) (c1 := c1) (A2 := A2) (n2 := n2) (c2 := c2) (A3 := A3) (n3 := n3) (c3 := c3) (A4 := A4) (n4 := n4) (c4 := c4) 
  replace xa := xa.alloc (.cells #[.bool false, .slice none 0 0, .int .i64 0, .bool false, .slice none 0 0, .int .i64 0] 26)
  replace xb := xb.alloc (.cells #[.bool false, .slice none 0 0, .int .i64 0, .bool false, .slice none 0 0, .int .i64 0] 26)
  obtain ⟨a0, a1, a2, a3, a4, a5⟩ := xa.held
  obtain ⟨b0, b1, b2, b3, b4, b5⟩ := xb.held
  clear xa xb
  have G := mv BB rfl <| And.intro h1 <| And.intro h2 <| And.intro h3 <| h4
  clear h1 h2 h3 h4
  obtain ⟨h1, h2, h3, h4⟩ := G
  have r := ibx_two w (.cells #[.bool x.lo.s, .slice A1 n1 c1, .int .i64 x.lo.e, .bool x.hi.s, .slice A2 n2 c2, .int .i64 x.hi.e] 26) (.cells #[.bool y.lo.s, .slice A3 n3 c3, .int .i64 y.lo.e, .bool y.hi.s, .slice A4 n4 c4, .int .i64 y.hi.e] 26) false none 0 0 0 false none 0 0 0
  have ne1 : w.heap.size ≠ w.heap.size + 2 := by omega
  have ne2 : w.heap.size + 1 ≠ w.heap.size + 2 := by omega
  have HX := Lib.hid hx
  have HY := Lib.hid hy
  clear hx hy
  go_enter Tryz.func11, Tryz.ntmps11
  go_wp2_with fail
  refine (rmayi_any (x := x) HK.out h1 h2).mono ?_
  rintro en w1 ⟨rfl, b⟩
  rw [HX.out]
  replace BB := below_next BB BB.size b rfl rfl rfl rfl
  have G := mv b rfl <| And.intro a0 <| And.intro a1 <| And.intro a2 <| And.intro a3 <| And.intro a4 <| And.intro a5 <| And.intro b0 <| And.intro b1 <| And.intro b2 <| And.intro b3 <| And.intro b4 <| And.intro b5 <| And.intro h1 <| And.intro h2 <| And.intro h3 <| And.intro h4 <| r
  clear b a0 a1 a2 a3 a4 a5 b0 b1 b2 b3 b4 b5 h1 h2 h3 h4 r
  obtain ⟨a0, a1, a2, a3, a4, a5, b0, b1, b2, b3, b4, b5, h1, h2, h3, h4, r⟩ := G
  go_wp2_with fail
  refine (rmayi_any (x := y) HK.out h3 h4).mono ?_
  rintro en w2 ⟨rfl, b⟩
  rw [HY.out]
  replace BB := below_next BB BB.size b rfl rfl rfl rfl
  have G := mv b rfl <| And.intro a0 <| And.intro a1 <| And.intro a2 <| And.intro a3 <| And.intro a4 <| And.intro a5 <| And.intro b0 <| And.intro b1 <| And.intro b2 <| And.intro b3 <| And.intro b4 <| And.intro b5 <| And.intro h1 <| And.intro h2 <| And.intro h3 <| And.intro h4 <| r
  clear b a0 a1 a2 a3 a4 a5 b0 b1 b2 b3 b4 b5 h1 h2 h3 h4 r
  obtain ⟨a0, a1, a2, a3, a4, a5, b0, b1, b2, b3, b4, b5, h1, h2, h3, h4, r⟩ := G
  clear HX HY
  go_wp2_with fail
  have b : Below w2.heap.size w2 (World.drew w2) := below_drewN (Below.refl _ _) 1
  replace BB := below_next BB BB.size b rfl rfl rfl rfl
  have G := mv b rfl <| And.intro a0 <| And.intro a1 <| And.intro a2 <| And.intro a3 <| And.intro a4 <| And.intro a5 <| And.intro b0 <| And.intro b1 <| And.intro b2 <| And.intro b3 <| And.intro b4 <| And.intro b5 <| And.intro h1 <| And.intro h2 <| And.intro h3 <| And.intro h4 <| r
  clear b a0 a1 a2 a3 a4 a5 b0 b1 b2 b3 b4 b5 h1 h2 h3 h4 r
  obtain ⟨a0, a1, a2, a3, a4, a5, b0, b1, b2, b3, b4, b5, h1, h2, h3, h4, r⟩ := G
  refine wp_region_held_drew (S := fun w' => w'.cell? ⟨w.heap.size, 0, none⟩ = some (.bool x.lo.s) ∧ w'.cell? ⟨w.heap.size, 1, none⟩ = some (.slice A1 n1 c1) ∧ w'.cell? ⟨w.heap.size, 2, none⟩ = some (.int .i64 x.lo.e) ∧ w'.cell? ⟨w.heap.size, 3, none⟩ = some (.bool x.hi.s) ∧ w'.cell? ⟨w.heap.size, 4, none⟩ = some (.slice A2 n2 c2) ∧ w'.cell? ⟨w.heap.size, 5, none⟩ = some (.int .i64 x.hi.e) ∧ w'.cell? ⟨w.heap.size + 1, 0, none⟩ = some (.bool y.lo.s) ∧ w'.cell? ⟨w.heap.size + 1, 1, none⟩ = some (.slice A3 n3 c3) ∧ w'.cell? ⟨w.heap.size + 1, 2, none⟩ = some (.int .i64 y.lo.e) ∧ w'.cell? ⟨w.heap.size + 1, 3, none⟩ = some (.bool y.hi.s) ∧ w'.cell? ⟨w.heap.size + 1, 4, none⟩ = some (.slice A4 n4 c4) ∧ w'.cell? ⟨w.heap.size + 1, 5, none⟩ = some (.int .i64 y.hi.e)) (by kernel_rfl) (by exact ⟨a0, a1, a2, a3, a4, a5, b0, b1, b2, b3, b4, b5⟩) (fun hHeldt0 => ?_)
  generalize World.drew w2 = wd at *
  refine wpAnyH_take (i := 0) (v := ?t1v0) rfl (by kernel_rfl) (by kernel_rfl) (by kernel_rfl) (fun _ _ _ h => panic_put (P := Tryz.prog) (fn := Tryz.f11) (R := (TellI 0 p w)) h) (Or.inl ⟨by rfl, ?t1y0⟩) (by assumption) ?_
  case t1y0 => (intro w hSw; (try dsimp only at hSw); go_simp); try with_reducible rfl
  change wpAnyH _ _ _ _ _ _ _ (Act.put _ (some 16) _) _
  simp only [Act.put, List.setIfInBounds_toArray, List.set_cons_zero, List.set_cons_succ]
  refine wpAnyH_take (i := 1) (v := ?t2v1) rfl (by kernel_rfl) (by kernel_rfl) (by kernel_rfl) (fun _ _ _ h => panic_put (P := Tryz.prog) (fn := Tryz.f11) (R := (TellI 0 p w)) h) (Or.inl ⟨by rfl, ?t2y1⟩) (by assumption) ?_
  case t2y1 => (intro w hSw; (try dsimp only at hSw); go_simp); try with_reducible rfl
  change wpAnyH _ _ _ _ _ _ _ (Act.put _ (some 17) _) _
  simp only [Act.put, List.setIfInBounds_toArray, List.set_cons_zero, List.set_cons_succ]
  refine wpAnyH_take (i := 2) (v := ?t3v2) rfl (by kernel_rfl) (by kernel_rfl) (by kernel_rfl) (fun _ _ _ h => panic_put (P := Tryz.prog) (fn := Tryz.f11) (R := (TellI 0 p w)) h) (Or.inl ⟨by rfl, ?t3y2⟩) (by assumption) ?_
  case t3y2 => (intro w hSw; (try dsimp only at hSw); go_simp); try with_reducible rfl
  change wpAnyH _ _ _ _ _ _ _ (Act.put _ (some 18) _) _
  simp only [Act.put, List.setIfInBounds_toArray, List.set_cons_zero, List.set_cons_succ]
  refine wpAnyH_take (i := 3) (v := ?t4v3) rfl (by kernel_rfl) (by kernel_rfl) (by kernel_rfl) (fun _ _ _ h => panic_put (P := Tryz.prog) (fn := Tryz.f11) (R := (TellI 0 p w)) h) (Or.inl ⟨by rfl, ?t4y3⟩) (by assumption) ?_
  case t4y3 => (intro w hSw; (try dsimp only at hSw); go_simp); try with_reducible rfl
  change wpAnyH _ _ _ _ _ _ _ (Act.put _ (some 19) _) _
  simp only [Act.put, List.setIfInBounds_toArray, List.set_cons_zero, List.set_cons_succ]
  refine wpAnyH_take (i := 5) (v := ?t5v5) rfl (by kernel_rfl) (by kernel_rfl) (by kernel_rfl) (fun _ _ _ h => panic_put (P := Tryz.prog) (fn := Tryz.f11) (R := (TellI 0 p w)) h) (Or.inl ⟨by rfl, ?t5y5⟩) (by assumption) ?_
  case t5y5 => (intro w hSw; (try dsimp only at hSw); go_simp); try with_reducible rfl
  change wpAnyH _ _ _ _ _ _ _ (Act.put _ (some 21) _) _
  simp only [Act.put, List.setIfInBounds_toArray, List.set_cons_zero, List.set_cons_succ]
  refine wpAnyH_take (i := 6) (v := ?t6v6) rfl (by kernel_rfl) (by kernel_rfl) (by kernel_rfl) (fun _ _ _ h => panic_put (P := Tryz.prog) (fn := Tryz.f11) (R := (TellI 0 p w)) h) (Or.inl ⟨by rfl, ?t6y6⟩) (by assumption) ?_
  case t6y6 => (intro w hSw; (try dsimp only at hSw); go_simp); try with_reducible rfl
  change wpAnyH _ _ _ _ _ _ _ (Act.put _ (some 22) _) _
  simp only [Act.put, List.setIfInBounds_toArray, List.set_cons_zero, List.set_cons_succ]
  refine wpAnyH_take (i := 7) (v := ?t7v7) rfl (by kernel_rfl) (by kernel_rfl) (by kernel_rfl) (fun _ _ _ h => panic_put (P := Tryz.prog) (fn := Tryz.f11) (R := (TellI 0 p w)) h) (Or.inl ⟨by rfl, ?t7y7⟩) (by assumption) ?_
  case t7y7 => (intro w hSw; (try dsimp only at hSw); go_simp); try with_reducible rfl
  change wpAnyH _ _ _ _ _ _ _ (Act.put _ (some 23) _) _
  simp only [Act.put, List.setIfInBounds_toArray, List.set_cons_zero, List.set_cons_succ]
  refine wpAnyH_take (i := 8) (v := ?t8v8) rfl (by kernel_rfl) (by kernel_rfl) (by kernel_rfl) (fun _ _ _ h => panic_put (P := Tryz.prog) (fn := Tryz.f11) (R := (TellI 0 p w)) h) (Or.inl ⟨by rfl, ?t8y8⟩) (by assumption) ?_
  case t8y8 => (intro w hSw; (try dsimp only at hSw); go_simp); try with_reducible rfl
  change wpAnyH _ _ _ _ _ _ _ (Act.put _ (some 24) _) _
  simp only [Act.put, List.setIfInBounds_toArray, List.set_cons_zero, List.set_cons_succ]
  refine wpAnyH_ready (rs := [4, 11]) (by kernel_rfl) (by simp) ?_
  refine AllReadyH.cons (o := _) rfl (fun K hK => ?_) (AllReadyH.cons (o := _) rfl (fun K hK => ?_) (AllReadyH.nil))
  · go_simp
    refine (rgreatest_any (a := x.lo) (b := y.lo) HK.out h1 h3).mono ?_
    rintro en u1 ⟨A5, n5, c5, rfl, h5, b⟩
    rw [HE.out.1] at h5 ⊢
    clear h1 h3
    replace BB := below_next BB BB.size b rfl rfl rfl rfl
    have G := mv b rfl <| And.intro a0 <| And.intro a1 <| And.intro a2 <| And.intro a3 <| And.intro a4 <| And.intro a5 <| And.intro b0 <| And.intro b1 <| And.intro b2 <| And.intro b3 <| And.intro b4 <| And.intro b5 <| And.intro h2 <| And.intro h4 <| r
    clear b a0 a1 a2 a3 a4 a5 b0 b1 b2 b3 b4 b5 h2 h4 r
    obtain ⟨a0, a1, a2, a3, a4, a5, b0, b1, b2, b3, b4, b5, h2, h4, r⟩ := G
    refine hK.out _ _ (by exact ⟨a0, a1, a2, a3, a4, a5, b0, b1, b2, b3, b4, b5⟩) (fun hHeldt1 => ?_)
    clear hK K hHeldt0
    try simp only [Act.put]
    refine wpAnyH_ready (rs := [9, 11]) (by kernel_rfl) (by simp) ?_
    refine AllReadyH.cons (o := _) rfl (fun K hK => ?_) (AllReadyH.cons (o := _) rfl (fun K hK => ?_) (AllReadyH.nil))
    · go_simp
      refine (rleast_any (a := x.hi) (b := y.hi) HK.out h2 h4).mono ?_
      rintro en u2 ⟨A6, n6, c6, rfl, h6, b⟩
      rw [HE.out.2] at h6 ⊢
      clear h2 h4
      replace BB := below_next BB BB.size b rfl rfl rfl rfl
      have G := mv b rfl <| And.intro a0 <| And.intro a1 <| And.intro a2 <| And.intro a3 <| And.intro a4 <| And.intro a5 <| And.intro b0 <| And.intro b1 <| And.intro b2 <| And.intro b3 <| And.intro b4 <| And.intro b5 <| And.intro r <| h5
      clear b a0 a1 a2 a3 a4 a5 b0 b1 b2 b3 b4 b5 r h5
      obtain ⟨a0, a1, a2, a3, a4, a5, b0, b1, b2, b3, b4, b5, r, h5⟩ := G
      refine hK.out _ _ (by exact ⟨a0, a1, a2, a3, a4, a5, b0, b1, b2, b3, b4, b5⟩) (fun hHeldt2 => ?_)
      clear hK K hHeldt1
      try simp only [Act.put]
      refine wpAnyH_take (i := 10) (v := ?t9v10) rfl (by kernel_rfl) (by kernel_rfl) (by kernel_rfl) (fun _ _ _ h => panic_put (P := Tryz.prog) (fn := Tryz.f11) (R := (TellI 0 p w)) h) (Or.inl ⟨by rfl, ?t9y10⟩) (by assumption) ?_
      case t9y10 => (intro w hSw; (try dsimp only at hSw); go_simp); try with_reducible rfl
      change wpAnyH _ _ _ _ _ _ _ (Act.put _ (some 26) _) _
      simp only [Act.put, List.setIfInBounds_toArray, List.set_cons_zero, List.set_cons_succ]
      refine wpAnyH_ready (rs := [11]) (by kernel_rfl) (by simp) ?_
      refine AllReadyH.cons (o := _) rfl (fun K hK => ?_) (AllReadyH.nil)
      go_simp
      have gl6 : w.heap.size + 2 < u2.heap.size := r.gl
      have p6 := Ibx.new u2 false none 0 0 0 false none 0 0 0
      have b := below_alloc u2 (.cells #[.bool false, .slice none 0 0, .int .i64 0, .bool false, .slice none 0 0, .int .i64 0] 26)
      replace BB := below_next BB BB.size b rfl rfl rfl rfl
      have G := mv b rfl <| And.intro a0 <| And.intro a1 <| And.intro a2 <| And.intro a3 <| And.intro a4 <| And.intro a5 <| And.intro b0 <| And.intro b1 <| And.intro b2 <| And.intro b3 <| And.intro b4 <| And.intro b5 <| And.intro r <| And.intro h5 <| h6
      clear b a0 a1 a2 a3 a4 a5 b0 b1 b2 b3 b4 b5 r h5 h6
      obtain ⟨a0, a1, a2, a3, a4, a5, b0, b1, b2, b3, b4, b5, r, h5, h6⟩ := G
      generalize u2.alloc (.cells #[.bool false, .slice none 0 0, .int .i64 0, .bool false, .slice none 0 0, .int .i64 0] 26) = u3 at *
      generalize u2.heap.size = g6 at *
      refine hK.out _ _ (by exact ⟨a0, a1, a2, a3, a4, a5, b0, b1, b2, b3, b4, b5⟩) (fun hHeldt3 => ?_)
      clear hK K hHeldt2
      try simp only [Act.put]
      refine wpAnyH_ready (rs := [12]) (by kernel_rfl) (by simp) ?_
      refine AllReadyH.cons (o := _) rfl (fun K hK => ?_) (AllReadyH.nil)
      obtain ⟨f0, f1, f2, f3, f4, f5⟩ := p6.open
      obtain ⟨z0, z1, z2, z3, z4, z5⟩ := p6.held
      go_simp
      replace a0 := cell_oth6 (g := g6) (u0 := .bool p.lo.s) (u1 := .slice A5 n5 c5) (u2 := .int .i64 p.lo.e) (u3 := .bool p.hi.s) (u4 := .slice A6 n6 c6) (u5 := .int .i64 p.hi.e) a0 (by omega)
      replace a1 := cell_oth6 (g := g6) (u0 := .bool p.lo.s) (u1 := .slice A5 n5 c5) (u2 := .int .i64 p.lo.e) (u3 := .bool p.hi.s) (u4 := .slice A6 n6 c6) (u5 := .int .i64 p.hi.e) a1 (by omega)
      replace a2 := cell_oth6 (g := g6) (u0 := .bool p.lo.s) (u1 := .slice A5 n5 c5) (u2 := .int .i64 p.lo.e) (u3 := .bool p.hi.s) (u4 := .slice A6 n6 c6) (u5 := .int .i64 p.hi.e) a2 (by omega)
      replace a3 := cell_oth6 (g := g6) (u0 := .bool p.lo.s) (u1 := .slice A5 n5 c5) (u2 := .int .i64 p.lo.e) (u3 := .bool p.hi.s) (u4 := .slice A6 n6 c6) (u5 := .int .i64 p.hi.e) a3 (by omega)
      replace a4 := cell_oth6 (g := g6) (u0 := .bool p.lo.s) (u1 := .slice A5 n5 c5) (u2 := .int .i64 p.lo.e) (u3 := .bool p.hi.s) (u4 := .slice A6 n6 c6) (u5 := .int .i64 p.hi.e) a4 (by omega)
      replace a5 := cell_oth6 (g := g6) (u0 := .bool p.lo.s) (u1 := .slice A5 n5 c5) (u2 := .int .i64 p.lo.e) (u3 := .bool p.hi.s) (u4 := .slice A6 n6 c6) (u5 := .int .i64 p.hi.e) a5 (by omega)
      replace b0 := cell_oth6 (g := g6) (u0 := .bool p.lo.s) (u1 := .slice A5 n5 c5) (u2 := .int .i64 p.lo.e) (u3 := .bool p.hi.s) (u4 := .slice A6 n6 c6) (u5 := .int .i64 p.hi.e) b0 (by omega)
      replace b1 := cell_oth6 (g := g6) (u0 := .bool p.lo.s) (u1 := .slice A5 n5 c5) (u2 := .int .i64 p.lo.e) (u3 := .bool p.hi.s) (u4 := .slice A6 n6 c6) (u5 := .int .i64 p.hi.e) b1 (by omega)
      replace b2 := cell_oth6 (g := g6) (u0 := .bool p.lo.s) (u1 := .slice A5 n5 c5) (u2 := .int .i64 p.lo.e) (u3 := .bool p.hi.s) (u4 := .slice A6 n6 c6) (u5 := .int .i64 p.hi.e) b2 (by omega)
      replace b3 := cell_oth6 (g := g6) (u0 := .bool p.lo.s) (u1 := .slice A5 n5 c5) (u2 := .int .i64 p.lo.e) (u3 := .bool p.hi.s) (u4 := .slice A6 n6 c6) (u5 := .int .i64 p.hi.e) b3 (by omega)
      replace b4 := cell_oth6 (g := g6) (u0 := .bool p.lo.s) (u1 := .slice A5 n5 c5) (u2 := .int .i64 p.lo.e) (u3 := .bool p.hi.s) (u4 := .slice A6 n6 c6) (u5 := .int .i64 p.hi.e) b4 (by omega)
      replace b5 := cell_oth6 (g := g6) (u0 := .bool p.lo.s) (u1 := .slice A5 n5 c5) (u2 := .int .i64 p.lo.e) (u3 := .bool p.hi.s) (u4 := .slice A6 n6 c6) (u5 := .int .i64 p.hi.e) b5 (by omega)
      replace r := Ibx.oth6 (g := g6) r (by omega) (.bool p.lo.s) (.slice A5 n5 c5) (.int .i64 p.lo.e) (.bool p.hi.s) (.slice A6 n6 c6) (.int .i64 p.hi.e)
      replace h5 := h5.put6 p6 (.bool p.lo.s) (.slice A5 n5 c5) (.int .i64 p.lo.e) (.bool p.hi.s) (.slice A6 n6 c6) (.int .i64 p.hi.e)
      replace h6 := h6.put6 p6 (.bool p.lo.s) (.slice A5 n5 c5) (.int .i64 p.lo.e) (.bool p.hi.s) (.slice A6 n6 c6) (.int .i64 p.hi.e)
      replace BB := below_put6 (g := g6) BB (by omega) (.bool p.lo.s) (.slice A5 n5 c5) (.int .i64 p.lo.e) (.bool p.hi.s) (.slice A6 n6 c6) (.int .i64 p.hi.e)
      replace p6 := p6.put p.lo.s A5 n5 c5 p.lo.e p.hi.s A6 n6 c6 p.hi.e
      clear f0 f1 f2 f3 f4 f5 z0 z1 z2 z3 z4 z5
      generalize (((((u3.setCell ⟨g6, 0, none⟩ (.bool p.lo.s)).setCell ⟨g6, 1, none⟩ (.slice A5 n5 c5)).setCell ⟨g6, 2, none⟩ (.int .i64 p.lo.e)).setCell ⟨g6, 3, none⟩ (.bool p.hi.s)).setCell ⟨g6, 4, none⟩ (.slice A6 n6 c6)).setCell ⟨g6, 5, none⟩ (.int .i64 p.hi.e) = u4 at *
      refine hK.out _ _ (by exact ⟨a0, a1, a2, a3, a4, a5, b0, b1, b2, b3, b4, b5⟩) (fun hHeldt4 => ?_)
      clear hK K hHeldt3
      try simp only [Act.put]
      refine wpAnyH_done (by kernel_rfl) ?_ _
      clear a0 a1 a2 a3 a4 a5 b0 b1 b2 b3 b4 b5 HE
      obtain ⟨y_0, y_1, y_2, y_3, y_4, y_5⟩ := p6.held
      clear p6
      go_wp2_with fail
      refine (rless_any (a := p.hi) (b := p.lo) HK.out h6 h5).mono ?_
      rintro en w9 ⟨rfl, b⟩
      rw [HL.out]
      replace BB := below_next BB BB.size b rfl rfl rfl rfl
      have G := mv b rfl <| And.intro r <| And.intro h5 <| And.intro h6 <| And.intro y_0 <| And.intro y_1 <| And.intro y_2 <| And.intro y_3 <| And.intro y_4 <| y_5
      clear b r h5 h6 y_0 y_1 y_2 y_3 y_4 y_5
      obtain ⟨r, h5, h6, y_0, y_1, y_2, y_3, y_4, y_5⟩ := G
      clear HL HK
      obtain ⟨f0, f1, f2, f3, f4, f5⟩ := r.open
      obtain ⟨z0, z1, z2, z3, z4, z5⟩ := r.held
      go_wp2
      have qq := r.put p.lo.s A5 n5 c5 p.lo.e p.hi.s A6 n6 c6 p.hi.e
      have hN := h5.put6 r (.bool p.lo.s) (.slice A5 n5 c5) (.int .i64 p.lo.e) (.bool p.hi.s) (.slice A6 n6 c6) (.int .i64 p.hi.e)
      have hM := h6.put6 r (.bool p.lo.s) (.slice A5 n5 c5) (.int .i64 p.lo.e) (.bool p.hi.s) (.slice A6 n6 c6) (.int .i64 p.hi.e)
      have HB3 := below_put6 (g := w.heap.size + 2) BB (by omega) (.bool p.lo.s) (.slice A5 n5 c5) (.int .i64 p.lo.e) (.bool p.hi.s) (.slice A6 n6 c6) (.int .i64 p.hi.e)
      obtain ⟨z0, z1, z2, z3, z4, z5⟩ := qq.held
      exact bodyPost_ret (v := .tuple #[.agg #[.bool p.lo.s, .slice A5 n5 c5, .int .i64 p.lo.e, .bool p.hi.s, .slice A6 n6 c6, .int .i64 p.hi.e], .int .i64 0]) (by simp [results, Tryz.results11, go_sem, z0, z1, z2, z3, z4, z5]) rfl ⟨_, _, _, _, _, _, rfl, hN, hM, HB3⟩
    · go_simp
      have gl6 : w.heap.size + 2 < u1.heap.size := r.gl
      have p6 := Ibx.new u1 false none 0 0 0 false none 0 0 0
      have b := below_alloc u1 (.cells #[.bool false, .slice none 0 0, .int .i64 0, .bool false, .slice none 0 0, .int .i64 0] 26)
      replace BB := below_next BB BB.size b rfl rfl rfl rfl
      have G := mv b rfl <| And.intro a0 <| And.intro a1 <| And.intro a2 <| And.intro a3 <| And.intro a4 <| And.intro a5 <| And.intro b0 <| And.intro b1 <| And.intro b2 <| And.intro b3 <| And.intro b4 <| And.intro b5 <| And.intro h2 <| And.intro h4 <| And.intro r <| h5
      clear b a0 a1 a2 a3 a4 a5 b0 b1 b2 b3 b4 b5 h2 h4 r h5
      obtain ⟨a0, a1, a2, a3, a4, a5, b0, b1, b2, b3, b4, b5, h2, h4, r, h5⟩ := G
      generalize u1.alloc (.cells #[.bool false, .slice none 0 0, .int .i64 0, .bool false, .slice none 0 0, .int .i64 0] 26) = u2 at *
      generalize u1.heap.size = g6 at *
      refine hK.out _ _ (by exact ⟨a0, a1, a2, a3, a4, a5, b0, b1, b2, b3, b4, b5⟩) (fun hHeldt2 => ?_)
      clear hK K hHeldt1
      try simp only [Act.put]
      refine wpAnyH_ready (rs := [9]) (by kernel_rfl) (by simp) ?_
      refine AllReadyH.cons (o := _) rfl (fun K hK => ?_) (AllReadyH.nil)
      go_simp
      refine (rleast_any (a := x.hi) (b := y.hi) HK.out h2 h4).mono ?_
      rintro en u3 ⟨A6, n6, c6, rfl, h6, b⟩
      rw [HE.out.2] at h6 ⊢
      clear h2 h4
      replace BB := below_next BB BB.size b rfl rfl rfl rfl
      have G := mv b rfl <| And.intro a0 <| And.intro a1 <| And.intro a2 <| And.intro a3 <| And.intro a4 <| And.intro a5 <| And.intro b0 <| And.intro b1 <| And.intro b2 <| And.intro b3 <| And.intro b4 <| And.intro b5 <| And.intro r <| And.intro h5 <| p6
      clear b a0 a1 a2 a3 a4 a5 b0 b1 b2 b3 b4 b5 r h5 p6
      obtain ⟨a0, a1, a2, a3, a4, a5, b0, b1, b2, b3, b4, b5, r, h5, p6⟩ := G
      refine hK.out _ _ (by exact ⟨a0, a1, a2, a3, a4, a5, b0, b1, b2, b3, b4, b5⟩) (fun hHeldt3 => ?_)
      clear hK K hHeldt2
      try simp only [Act.put]
      refine wpAnyH_take (i := 10) (v := ?t10v10) rfl (by kernel_rfl) (by kernel_rfl) (by kernel_rfl) (fun _ _ _ h => panic_put (P := Tryz.prog) (fn := Tryz.f11) (R := (TellI 0 p w)) h) (Or.inl ⟨by rfl, ?t10y10⟩) (by assumption) ?_
      case t10y10 => (intro w hSw; (try dsimp only at hSw); go_simp); try with_reducible rfl
      change wpAnyH _ _ _ _ _ _ _ (Act.put _ (some 26) _) _
      simp only [Act.put, List.setIfInBounds_toArray, List.set_cons_zero, List.set_cons_succ]
      refine wpAnyH_ready (rs := [12]) (by kernel_rfl) (by simp) ?_
      refine AllReadyH.cons (o := _) rfl (fun K hK => ?_) (AllReadyH.nil)
      obtain ⟨f0, f1, f2, f3, f4, f5⟩ := p6.open
      obtain ⟨z0, z1, z2, z3, z4, z5⟩ := p6.held
      go_simp
      replace a0 := cell_oth6 (g := g6) (u0 := .bool p.lo.s) (u1 := .slice A5 n5 c5) (u2 := .int .i64 p.lo.e) (u3 := .bool p.hi.s) (u4 := .slice A6 n6 c6) (u5 := .int .i64 p.hi.e) a0 (by omega)
      replace a1 := cell_oth6 (g := g6) (u0 := .bool p.lo.s) (u1 := .slice A5 n5 c5) (u2 := .int .i64 p.lo.e) (u3 := .bool p.hi.s) (u4 := .slice A6 n6 c6) (u5 := .int .i64 p.hi.e) a1 (by omega)
      replace a2 := cell_oth6 (g := g6) (u0 := .bool p.lo.s) (u1 := .slice A5 n5 c5) (u2 := .int .i64 p.lo.e) (u3 := .bool p.hi.s) (u4 := .slice A6 n6 c6) (u5 := .int .i64 p.hi.e) a2 (by omega)
      replace a3 := cell_oth6 (g := g6) (u0 := .bool p.lo.s) (u1 := .slice A5 n5 c5) (u2 := .int .i64 p.lo.e) (u3 := .bool p.hi.s) (u4 := .slice A6 n6 c6) (u5 := .int .i64 p.hi.e) a3 (by omega)
      replace a4 := cell_oth6 (g := g6) (u0 := .bool p.lo.s) (u1 := .slice A5 n5 c5) (u2 := .int .i64 p.lo.e) (u3 := .bool p.hi.s) (u4 := .slice A6 n6 c6) (u5 := .int .i64 p.hi.e) a4 (by omega)
      replace a5 := cell_oth6 (g := g6) (u0 := .bool p.lo.s) (u1 := .slice A5 n5 c5) (u2 := .int .i64 p.lo.e) (u3 := .bool p.hi.s) (u4 := .slice A6 n6 c6) (u5 := .int .i64 p.hi.e) a5 (by omega)
      replace b0 := cell_oth6 (g := g6) (u0 := .bool p.lo.s) (u1 := .slice A5 n5 c5) (u2 := .int .i64 p.lo.e) (u3 := .bool p.hi.s) (u4 := .slice A6 n6 c6) (u5 := .int .i64 p.hi.e) b0 (by omega)
      replace b1 := cell_oth6 (g := g6) (u0 := .bool p.lo.s) (u1 := .slice A5 n5 c5) (u2 := .int .i64 p.lo.e) (u3 := .bool p.hi.s) (u4 := .slice A6 n6 c6) (u5 := .int .i64 p.hi.e) b1 (by omega)
      replace b2 := cell_oth6 (g := g6) (u0 := .bool p.lo.s) (u1 := .slice A5 n5 c5) (u2 := .int .i64 p.lo.e) (u3 := .bool p.hi.s) (u4 := .slice A6 n6 c6) (u5 := .int .i64 p.hi.e) b2 (by omega)
      replace b3 := cell_oth6 (g := g6) (u0 := .bool p.lo.s) (u1 := .slice A5 n5 c5) (u2 := .int .i64 p.lo.e) (u3 := .bool p.hi.s) (u4 := .slice A6 n6 c6) (u5 := .int .i64 p.hi.e) b3 (by omega)
      replace b4 := cell_oth6 (g := g6) (u0 := .bool p.lo.s) (u1 := .slice A5 n5 c5) (u2 := .int .i64 p.lo.e) (u3 := .bool p.hi.s) (u4 := .slice A6 n6 c6) (u5 := .int .i64 p.hi.e) b4 (by omega)
      replace b5 := cell_oth6 (g := g6) (u0 := .bool p.lo.s) (u1 := .slice A5 n5 c5) (u2 := .int .i64 p.lo.e) (u3 := .bool p.hi.s) (u4 := .slice A6 n6 c6) (u5 := .int .i64 p.hi.e) b5 (by omega)
      replace r := Ibx.oth6 (g := g6) r (by omega) (.bool p.lo.s) (.slice A5 n5 c5) (.int .i64 p.lo.e) (.bool p.hi.s) (.slice A6 n6 c6) (.int .i64 p.hi.e)
      replace h5 := h5.put6 p6 (.bool p.lo.s) (.slice A5 n5 c5) (.int .i64 p.lo.e) (.bool p.hi.s) (.slice A6 n6 c6) (.int .i64 p.hi.e)
      replace h6 := h6.put6 p6 (.bool p.lo.s) (.slice A5 n5 c5) (.int .i64 p.lo.e) (.bool p.hi.s) (.slice A6 n6 c6) (.int .i64 p.hi.e)
      replace BB := below_put6 (g := g6) BB (by omega) (.bool p.lo.s) (.slice A5 n5 c5) (.int .i64 p.lo.e) (.bool p.hi.s) (.slice A6 n6 c6) (.int .i64 p.hi.e)
      replace p6 := p6.put p.lo.s A5 n5 c5 p.lo.e p.hi.s A6 n6 c6 p.hi.e
      clear f0 f1 f2 f3 f4 f5 z0 z1 z2 z3 z4 z5
      generalize (((((u3.setCell ⟨g6, 0, none⟩ (.bool p.lo.s)).setCell ⟨g6, 1, none⟩ (.slice A5 n5 c5)).setCell ⟨g6, 2, none⟩ (.int .i64 p.lo.e)).setCell ⟨g6, 3, none⟩ (.bool p.hi.s)).setCell ⟨g6, 4, none⟩ (.slice A6 n6 c6)).setCell ⟨g6, 5, none⟩ (.int .i64 p.hi.e) = u4 at *
      refine hK.out _ _ (by exact ⟨a0, a1, a2, a3, a4, a5, b0, b1, b2, b3, b4, b5⟩) (fun hHeldt4 => ?_)
      clear hK K hHeldt3
      try simp only [Act.put]
      refine wpAnyH_done (by kernel_rfl) ?_ _
      clear a0 a1 a2 a3 a4 a5 b0 b1 b2 b3 b4 b5 HE
      obtain ⟨y_0, y_1, y_2, y_3, y_4, y_5⟩ := p6.held
      clear p6
      go_wp2_with fail
      refine (rless_any (a := p.hi) (b := p.lo) HK.out h6 h5).mono ?_
      rintro en w9 ⟨rfl, b⟩
      rw [HL.out]
      replace BB := below_next BB BB.size b rfl rfl rfl rfl
      have G := mv b rfl <| And.intro r <| And.intro h5 <| And.intro h6 <| And.intro y_0 <| And.intro y_1 <| And.intro y_2 <| And.intro y_3 <| And.intro y_4 <| y_5
      clear b r h5 h6 y_0 y_1 y_2 y_3 y_4 y_5
      obtain ⟨r, h5, h6, y_0, y_1, y_2, y_3, y_4, y_5⟩ := G
      clear HL HK
      obtain ⟨f0, f1, f2, f3, f4, f5⟩ := r.open
      obtain ⟨z0, z1, z2, z3, z4, z5⟩ := r.held
      go_wp2
      have qq := r.put p.lo.s A5 n5 c5 p.lo.e p.hi.s A6 n6 c6 p.hi.e
      have hN := h5.put6 r (.bool p.lo.s) (.slice A5 n5 c5) (.int .i64 p.lo.e) (.bool p.hi.s) (.slice A6 n6 c6) (.int .i64 p.hi.e)
      have hM := h6.put6 r (.bool p.lo.s) (.slice A5 n5 c5) (.int .i64 p.lo.e) (.bool p.hi.s) (.slice A6 n6 c6) (.int .i64 p.hi.e)
      have HB3 := below_put6 (g := w.heap.size + 2) BB (by omega) (.bool p.lo.s) (.slice A5 n5 c5) (.int .i64 p.lo.e) (.bool p.hi.s) (.slice A6 n6 c6) (.int .i64 p.hi.e)
      obtain ⟨z0, z1, z2, z3, z4, z5⟩ := qq.held
      exact bodyPost_ret (v := .tuple #[.agg #[.bool p.lo.s, .slice A5 n5 c5, .int .i64 p.lo.e, .bool p.hi.s, .slice A6 n6 c6, .int .i64 p.hi.e], .int .i64 0]) (by simp [results, Tryz.results11, go_sem, z0, z1, z2, z3, z4, z5]) rfl ⟨_, _, _, _, _, _, rfl, hN, hM, HB3⟩
  · go_simp
    have gl6 : w.heap.size + 2 < wd.heap.size := r.gl
    have p6 := Ibx.new wd false none 0 0 0 false none 0 0 0
    have b := below_alloc wd (.cells #[.bool false, .slice none 0 0, .int .i64 0, .bool false, .slice none 0 0, .int .i64 0] 26)
    replace BB := below_next BB BB.size b rfl rfl rfl rfl
    have G := mv b rfl <| And.intro a0 <| And.intro a1 <| And.intro a2 <| And.intro a3 <| And.intro a4 <| And.intro a5 <| And.intro b0 <| And.intro b1 <| And.intro b2 <| And.intro b3 <| And.intro b4 <| And.intro b5 <| And.intro h1 <| And.intro h2 <| And.intro h3 <| And.intro h4 <| r
    clear b a0 a1 a2 a3 a4 a5 b0 b1 b2 b3 b4 b5 h1 h2 h3 h4 r
    obtain ⟨a0, a1, a2, a3, a4, a5, b0, b1, b2, b3, b4, b5, h1, h2, h3, h4, r⟩ := G
    generalize wd.alloc (.cells #[.bool false, .slice none 0 0, .int .i64 0, .bool false, .slice none 0 0, .int .i64 0] 26) = u1 at *
    generalize wd.heap.size = g6 at *
    refine hK.out _ _ (by exact ⟨a0, a1, a2, a3, a4, a5, b0, b1, b2, b3, b4, b5⟩) (fun hHeldt1 => ?_)
    clear hK K hHeldt0
    try simp only [Act.put]
    refine wpAnyH_ready (rs := [4]) (by kernel_rfl) (by simp) ?_
    refine AllReadyH.cons (o := _) rfl (fun K hK => ?_) (AllReadyH.nil)
    go_simp
    refine (rgreatest_any (a := x.lo) (b := y.lo) HK.out h1 h3).mono ?_
    rintro en u2 ⟨A5, n5, c5, rfl, h5, b⟩
    rw [HE.out.1] at h5 ⊢
    clear h1 h3
    replace BB := below_next BB BB.size b rfl rfl rfl rfl
    have G := mv b rfl <| And.intro a0 <| And.intro a1 <| And.intro a2 <| And.intro a3 <| And.intro a4 <| And.intro a5 <| And.intro b0 <| And.intro b1 <| And.intro b2 <| And.intro b3 <| And.intro b4 <| And.intro b5 <| And.intro h2 <| And.intro h4 <| And.intro r <| p6
    clear b a0 a1 a2 a3 a4 a5 b0 b1 b2 b3 b4 b5 h2 h4 r p6
    obtain ⟨a0, a1, a2, a3, a4, a5, b0, b1, b2, b3, b4, b5, h2, h4, r, p6⟩ := G
    refine hK.out _ _ (by exact ⟨a0, a1, a2, a3, a4, a5, b0, b1, b2, b3, b4, b5⟩) (fun hHeldt2 => ?_)
    clear hK K hHeldt1
    try simp only [Act.put]
    refine wpAnyH_ready (rs := [9]) (by kernel_rfl) (by simp) ?_
    refine AllReadyH.cons (o := _) rfl (fun K hK => ?_) (AllReadyH.nil)
    go_simp
    refine (rleast_any (a := x.hi) (b := y.hi) HK.out h2 h4).mono ?_
    rintro en u3 ⟨A6, n6, c6, rfl, h6, b⟩
    rw [HE.out.2] at h6 ⊢
    clear h2 h4
    replace BB := below_next BB BB.size b rfl rfl rfl rfl
    have G := mv b rfl <| And.intro a0 <| And.intro a1 <| And.intro a2 <| And.intro a3 <| And.intro a4 <| And.intro a5 <| And.intro b0 <| And.intro b1 <| And.intro b2 <| And.intro b3 <| And.intro b4 <| And.intro b5 <| And.intro r <| And.intro p6 <| h5
    clear b a0 a1 a2 a3 a4 a5 b0 b1 b2 b3 b4 b5 r p6 h5
    obtain ⟨a0, a1, a2, a3, a4, a5, b0, b1, b2, b3, b4, b5, r, p6, h5⟩ := G
    refine hK.out _ _ (by exact ⟨a0, a1, a2, a3, a4, a5, b0, b1, b2, b3, b4, b5⟩) (fun hHeldt3 => ?_)
    clear hK K hHeldt2
    try simp only [Act.put]
    refine wpAnyH_take (i := 10) (v := ?t11v10) rfl (by kernel_rfl) (by kernel_rfl) (by kernel_rfl) (fun _ _ _ h => panic_put (P := Tryz.prog) (fn := Tryz.f11) (R := (TellI 0 p w)) h) (Or.inl ⟨by rfl, ?t11y10⟩) (by assumption) ?_
    case t11y10 => (intro w hSw; (try dsimp only at hSw); go_simp); try with_reducible rfl
    change wpAnyH _ _ _ _ _ _ _ (Act.put _ (some 26) _) _
    simp only [Act.put, List.setIfInBounds_toArray, List.set_cons_zero, List.set_cons_succ]
    refine wpAnyH_ready (rs := [12]) (by kernel_rfl) (by simp) ?_
    refine AllReadyH.cons (o := _) rfl (fun K hK => ?_) (AllReadyH.nil)
    obtain ⟨f0, f1, f2, f3, f4, f5⟩ := p6.open
    obtain ⟨z0, z1, z2, z3, z4, z5⟩ := p6.held
    go_simp
    replace a0 := cell_oth6 (g := g6) (u0 := .bool p.lo.s) (u1 := .slice A5 n5 c5) (u2 := .int .i64 p.lo.e) (u3 := .bool p.hi.s) (u4 := .slice A6 n6 c6) (u5 := .int .i64 p.hi.e) a0 (by omega)
    replace a1 := cell_oth6 (g := g6) (u0 := .bool p.lo.s) (u1 := .slice A5 n5 c5) (u2 := .int .i64 p.lo.e) (u3 := .bool p.hi.s) (u4 := .slice A6 n6 c6) (u5 := .int .i64 p.hi.e) a1 (by omega)
    replace a2 := cell_oth6 (g := g6) (u0 := .bool p.lo.s) (u1 := .slice A5 n5 c5) (u2 := .int .i64 p.lo.e) (u3 := .bool p.hi.s) (u4 := .slice A6 n6 c6) (u5 := .int .i64 p.hi.e) a2 (by omega)
    replace a3 := cell_oth6 (g := g6) (u0 := .bool p.lo.s) (u1 := .slice A5 n5 c5) (u2 := .int .i64 p.lo.e) (u3 := .bool p.hi.s) (u4 := .slice A6 n6 c6) (u5 := .int .i64 p.hi.e) a3 (by omega)
    replace a4 := cell_oth6 (g := g6) (u0 := .bool p.lo.s) (u1 := .slice A5 n5 c5) (u2 := .int .i64 p.lo.e) (u3 := .bool p.hi.s) (u4 := .slice A6 n6 c6) (u5 := .int .i64 p.hi.e) a4 (by omega)
    replace a5 := cell_oth6 (g := g6) (u0 := .bool p.lo.s) (u1 := .slice A5 n5 c5) (u2 := .int .i64 p.lo.e) (u3 := .bool p.hi.s) (u4 := .slice A6 n6 c6) (u5 := .int .i64 p.hi.e) a5 (by omega)
    replace b0 := cell_oth6 (g := g6) (u0 := .bool p.lo.s) (u1 := .slice A5 n5 c5) (u2 := .int .i64 p.lo.e) (u3 := .bool p.hi.s) (u4 := .slice A6 n6 c6) (u5 := .int .i64 p.hi.e) b0 (by omega)
    replace b1 := cell_oth6 (g := g6) (u0 := .bool p.lo.s) (u1 := .slice A5 n5 c5) (u2 := .int .i64 p.lo.e) (u3 := .bool p.hi.s) (u4 := .slice A6 n6 c6) (u5 := .int .i64 p.hi.e) b1 (by omega)
    replace b2 := cell_oth6 (g := g6) (u0 := .bool p.lo.s) (u1 := .slice A5 n5 c5) (u2 := .int .i64 p.lo.e) (u3 := .bool p.hi.s) (u4 := .slice A6 n6 c6) (u5 := .int .i64 p.hi.e) b2 (by omega)
    replace b3 := cell_oth6 (g := g6) (u0 := .bool p.lo.s) (u1 := .slice A5 n5 c5) (u2 := .int .i64 p.lo.e) (u3 := .bool p.hi.s) (u4 := .slice A6 n6 c6) (u5 := .int .i64 p.hi.e) b3 (by omega)
    replace b4 := cell_oth6 (g := g6) (u0 := .bool p.lo.s) (u1 := .slice A5 n5 c5) (u2 := .int .i64 p.lo.e) (u3 := .bool p.hi.s) (u4 := .slice A6 n6 c6) (u5 := .int .i64 p.hi.e) b4 (by omega)
    replace b5 := cell_oth6 (g := g6) (u0 := .bool p.lo.s) (u1 := .slice A5 n5 c5) (u2 := .int .i64 p.lo.e) (u3 := .bool p.hi.s) (u4 := .slice A6 n6 c6) (u5 := .int .i64 p.hi.e) b5 (by omega)
    replace r := Ibx.oth6 (g := g6) r (by omega) (.bool p.lo.s) (.slice A5 n5 c5) (.int .i64 p.lo.e) (.bool p.hi.s) (.slice A6 n6 c6) (.int .i64 p.hi.e)
    replace h5 := h5.put6 p6 (.bool p.lo.s) (.slice A5 n5 c5) (.int .i64 p.lo.e) (.bool p.hi.s) (.slice A6 n6 c6) (.int .i64 p.hi.e)
    replace h6 := h6.put6 p6 (.bool p.lo.s) (.slice A5 n5 c5) (.int .i64 p.lo.e) (.bool p.hi.s) (.slice A6 n6 c6) (.int .i64 p.hi.e)
    replace BB := below_put6 (g := g6) BB (by omega) (.bool p.lo.s) (.slice A5 n5 c5) (.int .i64 p.lo.e) (.bool p.hi.s) (.slice A6 n6 c6) (.int .i64 p.hi.e)
    replace p6 := p6.put p.lo.s A5 n5 c5 p.lo.e p.hi.s A6 n6 c6 p.hi.e
    clear f0 f1 f2 f3 f4 f5 z0 z1 z2 z3 z4 z5
    generalize (((((u3.setCell ⟨g6, 0, none⟩ (.bool p.lo.s)).setCell ⟨g6, 1, none⟩ (.slice A5 n5 c5)).setCell ⟨g6, 2, none⟩ (.int .i64 p.lo.e)).setCell ⟨g6, 3, none⟩ (.bool p.hi.s)).setCell ⟨g6, 4, none⟩ (.slice A6 n6 c6)).setCell ⟨g6, 5, none⟩ (.int .i64 p.hi.e) = u4 at *
    refine hK.out _ _ (by exact ⟨a0, a1, a2, a3, a4, a5, b0, b1, b2, b3, b4, b5⟩) (fun hHeldt4 => ?_)
    clear hK K hHeldt3
    try simp only [Act.put]
    refine wpAnyH_done (by kernel_rfl) ?_ _
    clear a0 a1 a2 a3 a4 a5 b0 b1 b2 b3 b4 b5 HE
    obtain ⟨y_0, y_1, y_2, y_3, y_4, y_5⟩ := p6.held
    clear p6
    go_wp2_with fail
    refine (rless_any (a := p.hi) (b := p.lo) HK.out h6 h5).mono ?_
    rintro en w9 ⟨rfl, b⟩
    rw [HL.out]
    replace BB := below_next BB BB.size b rfl rfl rfl rfl
    have G := mv b rfl <| And.intro r <| And.intro h5 <| And.intro h6 <| And.intro y_0 <| And.intro y_1 <| And.intro y_2 <| And.intro y_3 <| And.intro y_4 <| y_5
    clear b r h5 h6 y_0 y_1 y_2 y_3 y_4 y_5
    obtain ⟨r, h5, h6, y_0, y_1, y_2, y_3, y_4, y_5⟩ := G
    clear HL HK
    obtain ⟨f0, f1, f2, f3, f4, f5⟩ := r.open
    obtain ⟨z0, z1, z2, z3, z4, z5⟩ := r.held
    go_wp2
    have qq := r.put p.lo.s A5 n5 c5 p.lo.e p.hi.s A6 n6 c6 p.hi.e
    have hN := h5.put6 r (.bool p.lo.s) (.slice A5 n5 c5) (.int .i64 p.lo.e) (.bool p.hi.s) (.slice A6 n6 c6) (.int .i64 p.hi.e)
    have hM := h6.put6 r (.bool p.lo.s) (.slice A5 n5 c5) (.int .i64 p.lo.e) (.bool p.hi.s) (.slice A6 n6 c6) (.int .i64 p.hi.e)
    have HB3 := below_put6 (g := w.heap.size + 2) BB (by omega) (.bool p.lo.s) (.slice A5 n5 c5) (.int .i64 p.lo.e) (.bool p.hi.s) (.slice A6 n6 c6) (.int .i64 p.hi.e)
    obtain ⟨z0, z1, z2, z3, z4, z5⟩ := qq.held
    exact bodyPost_ret (v := .tuple #[.agg #[.bool p.lo.s, .slice A5 n5 c5, .int .i64 p.lo.e, .bool p.hi.s, .slice A6 n6 c6, .int .i64 p.hi.e], .int .i64 0]) (by simp [results, Tryz.results11, go_sem, z0, z1, z2, z3, z4, z5]) rfl ⟨_, _, _, _, _, _, rfl, hN, hM, HB3⟩

set_option maxRecDepth 100000 in
set_option maxHeartbeats 8000000 in
theorem rmeet_none {w : World} {K : Nat} {x y : Iv} {A1 : Option Addr} {n1 c1 : Nat} {A2 : Option Addr} {n2 c2 : Nat} {A3 : Option Addr} {n3 c3 : Nat} {A4 : Option Addr} {n4 c4 : Nat} (hK : 4194304 ≤ K) (h1 : Rd w .u64 Go.Proofs.YtijflbnfikiaaaaGreatDoor.W A1 n1 c1 x.lo.l) (h2 : Rd w .u64 Go.Proofs.YtijflbnfikiaaaaGreatDoor.W A2 n2 c2 x.hi.l) (h3 : Rd w .u64 Go.Proofs.YtijflbnfikiaaaaGreatDoor.W A3 n3 c3 y.lo.l) (h4 : Rd w .u64 Go.Proofs.YtijflbnfikiaaaaGreatDoor.W A4 n4 c4 y.hi.l) (hx : mayI K x = true) (hy : mayI K y = true) (hm : mayI K (meetQ K x y) = false) :
    Calls Tryz.prog 11 #[.agg #[.bool x.lo.s, .slice A1 n1 c1, .int .i64 x.lo.e, .bool x.hi.s, .slice A2 n2 c2, .int .i64 x.hi.e], .agg #[.bool y.lo.s, .slice A3 n3 c3, .int .i64 y.lo.e, .bool y.hi.s, .slice A4 n4 c4, .int .i64 y.hi.e]] w (TellI 5 Iv.zero w) := by
  obtain ⟨p, hp⟩ : ∃ p, p = meetQ K x y := ⟨_, rfl⟩
  have HE : Hid (greatQ K x.lo y.lo = p.lo ∧ leastQ K x.hi y.hi = p.hi) := Lib.hid (by rw [hp, ← (meet_ref hK hx hy).1]; exact ⟨rfl, rfl⟩)
  have HL : Hid (decide (cmpQ K p.hi p.lo < 0) = true) := Lib.hid (by have := (meet_ref hK hx hy).2; rw [hm] at this; rw [hp]; cases h : decide (cmpQ K (meetQ K x y).hi (meetQ K x y).lo < 0) <;> rw [h] at this <;> first | rfl | cases this)
  obtain ⟨q, hq⟩ : ∃ q, q = Iv.zero := ⟨_, rfl⟩
  rw [← hq]
  have HQ := Lib.hid hq
  clear hq
  clear hp hm
  have HK := Lib.hid hK
  clear hK
  have BB := three_below w (.cells #[.bool x.lo.s, .slice A1 n1 c1, .int .i64 x.lo.e, .bool x.hi.s, .slice A2 n2 c2, .int .i64 x.hi.e] 26) (.cells #[.bool y.lo.s, .slice A3 n3 c3, .int .i64 y.lo.e, .bool y.hi.s, .slice A4 n4 c4, .int .i64 y.hi.e] 26) (.cells #[.bool false, .slice none 0 0, .int .i64 0, .bool false, .slice none 0 0, .int .i64 0] 26)
  obtain ⟨_, xa, xb⟩ := two_ivl w (x := x) (y := y) (A1 := A1) (n1 := n1) (c1 := c1) (A2 := A2) (n2 := n2) (c2 := c2) (A3 := A3) (n3 := n3) (c3 := c3) (A4 := A4) (n4 := n4) (c4 := c4) 
  replace xa := xa.alloc (.cells #[.bool false, .slice none 0 0, .int .i64 0, .bool false, .slice none 0 0, .int .i64 0] 26)
  replace xb := xb.alloc (.cells #[.bool false, .slice none 0 0, .int .i64 0, .bool false, .slice none 0 0, .int .i64 0] 26)
  obtain ⟨a0, a1, a2, a3, a4, a5⟩ := xa.held
  obtain ⟨b0, b1, b2, b3, b4, b5⟩ := xb.held
  clear xa xb
  have G := mv BB rfl <| And.intro h1 <| And.intro h2 <| And.intro h3 <| h4
  clear h1 h2 h3 h4
  obtain ⟨h1, h2, h3, h4⟩ := G
  have r := ibx_two w (.cells #[.bool x.lo.s, .slice A1 n1 c1, .int .i64 x.lo.e, .bool x.hi.s, .slice A2 n2 c2, .int .i64 x.hi.e] 26) (.cells #[.bool y.lo.s, .slice A3 n3 c3, .int .i64 y.lo.e, .bool y.hi.s, .slice A4 n4 c4, .int .i64 y.hi.e] 26) false none 0 0 0 false none 0 0 0
  have ne1 : w.heap.size ≠ w.heap.size + 2 := by omega
  have ne2 : w.heap.size + 1 ≠ w.heap.size + 2 := by omega
  have HX := Lib.hid hx
  have HY := Lib.hid hy
  clear hx hy
  go_enter Tryz.func11, Tryz.ntmps11
  go_wp2_with fail
  refine (rmayi_any (x := x) HK.out h1 h2).mono ?_
  rintro en w1 ⟨rfl, b⟩
  rw [HX.out]
  replace BB := below_next BB BB.size b rfl rfl rfl rfl
  have G := mv b rfl <| And.intro a0 <| And.intro a1 <| And.intro a2 <| And.intro a3 <| And.intro a4 <| And.intro a5 <| And.intro b0 <| And.intro b1 <| And.intro b2 <| And.intro b3 <| And.intro b4 <| And.intro b5 <| And.intro h1 <| And.intro h2 <| And.intro h3 <| And.intro h4 <| r
  clear b a0 a1 a2 a3 a4 a5 b0 b1 b2 b3 b4 b5 h1 h2 h3 h4 r
  obtain ⟨a0, a1, a2, a3, a4, a5, b0, b1, b2, b3, b4, b5, h1, h2, h3, h4, r⟩ := G
  go_wp2_with fail
  refine (rmayi_any (x := y) HK.out h3 h4).mono ?_
  rintro en w2 ⟨rfl, b⟩
  rw [HY.out]
  replace BB := below_next BB BB.size b rfl rfl rfl rfl
  have G := mv b rfl <| And.intro a0 <| And.intro a1 <| And.intro a2 <| And.intro a3 <| And.intro a4 <| And.intro a5 <| And.intro b0 <| And.intro b1 <| And.intro b2 <| And.intro b3 <| And.intro b4 <| And.intro b5 <| And.intro h1 <| And.intro h2 <| And.intro h3 <| And.intro h4 <| r
  clear b a0 a1 a2 a3 a4 a5 b0 b1 b2 b3 b4 b5 h1 h2 h3 h4 r
  obtain ⟨a0, a1, a2, a3, a4, a5, b0, b1, b2, b3, b4, b5, h1, h2, h3, h4, r⟩ := G
  clear HX HY
  go_wp2_with fail
  have b : Below w2.heap.size w2 (World.drew w2) := below_drewN (Below.refl _ _) 1
  replace BB := below_next BB BB.size b rfl rfl rfl rfl
  have G := mv b rfl <| And.intro a0 <| And.intro a1 <| And.intro a2 <| And.intro a3 <| And.intro a4 <| And.intro a5 <| And.intro b0 <| And.intro b1 <| And.intro b2 <| And.intro b3 <| And.intro b4 <| And.intro b5 <| And.intro h1 <| And.intro h2 <| And.intro h3 <| And.intro h4 <| r
  clear b a0 a1 a2 a3 a4 a5 b0 b1 b2 b3 b4 b5 h1 h2 h3 h4 r
  obtain ⟨a0, a1, a2, a3, a4, a5, b0, b1, b2, b3, b4, b5, h1, h2, h3, h4, r⟩ := G
  refine wp_region_held_drew (S := fun w' => w'.cell? ⟨w.heap.size, 0, none⟩ = some (.bool x.lo.s) ∧ w'.cell? ⟨w.heap.size, 1, none⟩ = some (.slice A1 n1 c1) ∧ w'.cell? ⟨w.heap.size, 2, none⟩ = some (.int .i64 x.lo.e) ∧ w'.cell? ⟨w.heap.size, 3, none⟩ = some (.bool x.hi.s) ∧ w'.cell? ⟨w.heap.size, 4, none⟩ = some (.slice A2 n2 c2) ∧ w'.cell? ⟨w.heap.size, 5, none⟩ = some (.int .i64 x.hi.e) ∧ w'.cell? ⟨w.heap.size + 1, 0, none⟩ = some (.bool y.lo.s) ∧ w'.cell? ⟨w.heap.size + 1, 1, none⟩ = some (.slice A3 n3 c3) ∧ w'.cell? ⟨w.heap.size + 1, 2, none⟩ = some (.int .i64 y.lo.e) ∧ w'.cell? ⟨w.heap.size + 1, 3, none⟩ = some (.bool y.hi.s) ∧ w'.cell? ⟨w.heap.size + 1, 4, none⟩ = some (.slice A4 n4 c4) ∧ w'.cell? ⟨w.heap.size + 1, 5, none⟩ = some (.int .i64 y.hi.e)) (by kernel_rfl) (by exact ⟨a0, a1, a2, a3, a4, a5, b0, b1, b2, b3, b4, b5⟩) (fun hHeldt0 => ?_)
  generalize World.drew w2 = wd at *
  refine wpAnyH_take (i := 0) (v := ?t12v0) rfl (by kernel_rfl) (by kernel_rfl) (by kernel_rfl) (fun _ _ _ h => panic_put (P := Tryz.prog) (fn := Tryz.f11) (R := (TellI 5 q w)) h) (Or.inl ⟨by rfl, ?t12y0⟩) (by assumption) ?_
  case t12y0 => (intro w hSw; (try dsimp only at hSw); go_simp); try with_reducible rfl
  change wpAnyH _ _ _ _ _ _ _ (Act.put _ (some 16) _) _
  simp only [Act.put, List.setIfInBounds_toArray, List.set_cons_zero, List.set_cons_succ]
  refine wpAnyH_take (i := 1) (v := ?t13v1) rfl (by kernel_rfl) (by kernel_rfl) (by kernel_rfl) (fun _ _ _ h => panic_put (P := Tryz.prog) (fn := Tryz.f11) (R := (TellI 5 q w)) h) (Or.inl ⟨by rfl, ?t13y1⟩) (by assumption) ?_
  case t13y1 => (intro w hSw; (try dsimp only at hSw); go_simp); try with_reducible rfl
  change wpAnyH _ _ _ _ _ _ _ (Act.put _ (some 17) _) _
  simp only [Act.put, List.setIfInBounds_toArray, List.set_cons_zero, List.set_cons_succ]
  refine wpAnyH_take (i := 2) (v := ?t14v2) rfl (by kernel_rfl) (by kernel_rfl) (by kernel_rfl) (fun _ _ _ h => panic_put (P := Tryz.prog) (fn := Tryz.f11) (R := (TellI 5 q w)) h) (Or.inl ⟨by rfl, ?t14y2⟩) (by assumption) ?_
  case t14y2 => (intro w hSw; (try dsimp only at hSw); go_simp); try with_reducible rfl
  change wpAnyH _ _ _ _ _ _ _ (Act.put _ (some 18) _) _
  simp only [Act.put, List.setIfInBounds_toArray, List.set_cons_zero, List.set_cons_succ]
  refine wpAnyH_take (i := 3) (v := ?t15v3) rfl (by kernel_rfl) (by kernel_rfl) (by kernel_rfl) (fun _ _ _ h => panic_put (P := Tryz.prog) (fn := Tryz.f11) (R := (TellI 5 q w)) h) (Or.inl ⟨by rfl, ?t15y3⟩) (by assumption) ?_
  case t15y3 => (intro w hSw; (try dsimp only at hSw); go_simp); try with_reducible rfl
  change wpAnyH _ _ _ _ _ _ _ (Act.put _ (some 19) _) _
  simp only [Act.put, List.setIfInBounds_toArray, List.set_cons_zero, List.set_cons_succ]
  refine wpAnyH_take (i := 5) (v := ?t16v5) rfl (by kernel_rfl) (by kernel_rfl) (by kernel_rfl) (fun _ _ _ h => panic_put (P := Tryz.prog) (fn := Tryz.f11) (R := (TellI 5 q w)) h) (Or.inl ⟨by rfl, ?t16y5⟩) (by assumption) ?_
  case t16y5 => (intro w hSw; (try dsimp only at hSw); go_simp); try with_reducible rfl
  change wpAnyH _ _ _ _ _ _ _ (Act.put _ (some 21) _) _
  simp only [Act.put, List.setIfInBounds_toArray, List.set_cons_zero, List.set_cons_succ]
  refine wpAnyH_take (i := 6) (v := ?t17v6) rfl (by kernel_rfl) (by kernel_rfl) (by kernel_rfl) (fun _ _ _ h => panic_put (P := Tryz.prog) (fn := Tryz.f11) (R := (TellI 5 q w)) h) (Or.inl ⟨by rfl, ?t17y6⟩) (by assumption) ?_
  case t17y6 => (intro w hSw; (try dsimp only at hSw); go_simp); try with_reducible rfl
  change wpAnyH _ _ _ _ _ _ _ (Act.put _ (some 22) _) _
  simp only [Act.put, List.setIfInBounds_toArray, List.set_cons_zero, List.set_cons_succ]
  refine wpAnyH_take (i := 7) (v := ?t18v7) rfl (by kernel_rfl) (by kernel_rfl) (by kernel_rfl) (fun _ _ _ h => panic_put (P := Tryz.prog) (fn := Tryz.f11) (R := (TellI 5 q w)) h) (Or.inl ⟨by rfl, ?t18y7⟩) (by assumption) ?_
  case t18y7 => (intro w hSw; (try dsimp only at hSw); go_simp); try with_reducible rfl
  change wpAnyH _ _ _ _ _ _ _ (Act.put _ (some 23) _) _
  simp only [Act.put, List.setIfInBounds_toArray, List.set_cons_zero, List.set_cons_succ]
  refine wpAnyH_take (i := 8) (v := ?t19v8) rfl (by kernel_rfl) (by kernel_rfl) (by kernel_rfl) (fun _ _ _ h => panic_put (P := Tryz.prog) (fn := Tryz.f11) (R := (TellI 5 q w)) h) (Or.inl ⟨by rfl, ?t19y8⟩) (by assumption) ?_
  case t19y8 => (intro w hSw; (try dsimp only at hSw); go_simp); try with_reducible rfl
  change wpAnyH _ _ _ _ _ _ _ (Act.put _ (some 24) _) _
  simp only [Act.put, List.setIfInBounds_toArray, List.set_cons_zero, List.set_cons_succ]
  refine wpAnyH_ready (rs := [4, 11]) (by kernel_rfl) (by simp) ?_
  refine AllReadyH.cons (o := _) rfl (fun K hK => ?_) (AllReadyH.cons (o := _) rfl (fun K hK => ?_) (AllReadyH.nil))
  · go_simp
    refine (rgreatest_any (a := x.lo) (b := y.lo) HK.out h1 h3).mono ?_
    rintro en u1 ⟨A5, n5, c5, rfl, h5, b⟩
    rw [HE.out.1] at h5 ⊢
    clear h1 h3
    replace BB := below_next BB BB.size b rfl rfl rfl rfl
    have G := mv b rfl <| And.intro a0 <| And.intro a1 <| And.intro a2 <| And.intro a3 <| And.intro a4 <| And.intro a5 <| And.intro b0 <| And.intro b1 <| And.intro b2 <| And.intro b3 <| And.intro b4 <| And.intro b5 <| And.intro h2 <| And.intro h4 <| r
    clear b a0 a1 a2 a3 a4 a5 b0 b1 b2 b3 b4 b5 h2 h4 r
    obtain ⟨a0, a1, a2, a3, a4, a5, b0, b1, b2, b3, b4, b5, h2, h4, r⟩ := G
    refine hK.out _ _ (by exact ⟨a0, a1, a2, a3, a4, a5, b0, b1, b2, b3, b4, b5⟩) (fun hHeldt1 => ?_)
    clear hK K hHeldt0
    try simp only [Act.put]
    refine wpAnyH_ready (rs := [9, 11]) (by kernel_rfl) (by simp) ?_
    refine AllReadyH.cons (o := _) rfl (fun K hK => ?_) (AllReadyH.cons (o := _) rfl (fun K hK => ?_) (AllReadyH.nil))
    · go_simp
      refine (rleast_any (a := x.hi) (b := y.hi) HK.out h2 h4).mono ?_
      rintro en u2 ⟨A6, n6, c6, rfl, h6, b⟩
      rw [HE.out.2] at h6 ⊢
      clear h2 h4
      replace BB := below_next BB BB.size b rfl rfl rfl rfl
      have G := mv b rfl <| And.intro a0 <| And.intro a1 <| And.intro a2 <| And.intro a3 <| And.intro a4 <| And.intro a5 <| And.intro b0 <| And.intro b1 <| And.intro b2 <| And.intro b3 <| And.intro b4 <| And.intro b5 <| And.intro r <| h5
      clear b a0 a1 a2 a3 a4 a5 b0 b1 b2 b3 b4 b5 r h5
      obtain ⟨a0, a1, a2, a3, a4, a5, b0, b1, b2, b3, b4, b5, r, h5⟩ := G
      refine hK.out _ _ (by exact ⟨a0, a1, a2, a3, a4, a5, b0, b1, b2, b3, b4, b5⟩) (fun hHeldt2 => ?_)
      clear hK K hHeldt1
      try simp only [Act.put]
      refine wpAnyH_take (i := 10) (v := ?t20v10) rfl (by kernel_rfl) (by kernel_rfl) (by kernel_rfl) (fun _ _ _ h => panic_put (P := Tryz.prog) (fn := Tryz.f11) (R := (TellI 5 q w)) h) (Or.inl ⟨by rfl, ?t20y10⟩) (by assumption) ?_
      case t20y10 => (intro w hSw; (try dsimp only at hSw); go_simp); try with_reducible rfl
      change wpAnyH _ _ _ _ _ _ _ (Act.put _ (some 26) _) _
      simp only [Act.put, List.setIfInBounds_toArray, List.set_cons_zero, List.set_cons_succ]
      refine wpAnyH_ready (rs := [11]) (by kernel_rfl) (by simp) ?_
      refine AllReadyH.cons (o := _) rfl (fun K hK => ?_) (AllReadyH.nil)
      go_simp
      have gl6 : w.heap.size + 2 < u2.heap.size := r.gl
      have p6 := Ibx.new u2 false none 0 0 0 false none 0 0 0
      have b := below_alloc u2 (.cells #[.bool false, .slice none 0 0, .int .i64 0, .bool false, .slice none 0 0, .int .i64 0] 26)
      replace BB := below_next BB BB.size b rfl rfl rfl rfl
      have G := mv b rfl <| And.intro a0 <| And.intro a1 <| And.intro a2 <| And.intro a3 <| And.intro a4 <| And.intro a5 <| And.intro b0 <| And.intro b1 <| And.intro b2 <| And.intro b3 <| And.intro b4 <| And.intro b5 <| And.intro r <| And.intro h5 <| h6
      clear b a0 a1 a2 a3 a4 a5 b0 b1 b2 b3 b4 b5 r h5 h6
      obtain ⟨a0, a1, a2, a3, a4, a5, b0, b1, b2, b3, b4, b5, r, h5, h6⟩ := G
      generalize u2.alloc (.cells #[.bool false, .slice none 0 0, .int .i64 0, .bool false, .slice none 0 0, .int .i64 0] 26) = u3 at *
      generalize u2.heap.size = g6 at *
      refine hK.out _ _ (by exact ⟨a0, a1, a2, a3, a4, a5, b0, b1, b2, b3, b4, b5⟩) (fun hHeldt3 => ?_)
      clear hK K hHeldt2
      try simp only [Act.put]
      refine wpAnyH_ready (rs := [12]) (by kernel_rfl) (by simp) ?_
      refine AllReadyH.cons (o := _) rfl (fun K hK => ?_) (AllReadyH.nil)
      obtain ⟨f0, f1, f2, f3, f4, f5⟩ := p6.open
      obtain ⟨z0, z1, z2, z3, z4, z5⟩ := p6.held
      go_simp
      replace a0 := cell_oth6 (g := g6) (u0 := .bool p.lo.s) (u1 := .slice A5 n5 c5) (u2 := .int .i64 p.lo.e) (u3 := .bool p.hi.s) (u4 := .slice A6 n6 c6) (u5 := .int .i64 p.hi.e) a0 (by omega)
      replace a1 := cell_oth6 (g := g6) (u0 := .bool p.lo.s) (u1 := .slice A5 n5 c5) (u2 := .int .i64 p.lo.e) (u3 := .bool p.hi.s) (u4 := .slice A6 n6 c6) (u5 := .int .i64 p.hi.e) a1 (by omega)
      replace a2 := cell_oth6 (g := g6) (u0 := .bool p.lo.s) (u1 := .slice A5 n5 c5) (u2 := .int .i64 p.lo.e) (u3 := .bool p.hi.s) (u4 := .slice A6 n6 c6) (u5 := .int .i64 p.hi.e) a2 (by omega)
      replace a3 := cell_oth6 (g := g6) (u0 := .bool p.lo.s) (u1 := .slice A5 n5 c5) (u2 := .int .i64 p.lo.e) (u3 := .bool p.hi.s) (u4 := .slice A6 n6 c6) (u5 := .int .i64 p.hi.e) a3 (by omega)
      replace a4 := cell_oth6 (g := g6) (u0 := .bool p.lo.s) (u1 := .slice A5 n5 c5) (u2 := .int .i64 p.lo.e) (u3 := .bool p.hi.s) (u4 := .slice A6 n6 c6) (u5 := .int .i64 p.hi.e) a4 (by omega)
      replace a5 := cell_oth6 (g := g6) (u0 := .bool p.lo.s) (u1 := .slice A5 n5 c5) (u2 := .int .i64 p.lo.e) (u3 := .bool p.hi.s) (u4 := .slice A6 n6 c6) (u5 := .int .i64 p.hi.e) a5 (by omega)
      replace b0 := cell_oth6 (g := g6) (u0 := .bool p.lo.s) (u1 := .slice A5 n5 c5) (u2 := .int .i64 p.lo.e) (u3 := .bool p.hi.s) (u4 := .slice A6 n6 c6) (u5 := .int .i64 p.hi.e) b0 (by omega)
      replace b1 := cell_oth6 (g := g6) (u0 := .bool p.lo.s) (u1 := .slice A5 n5 c5) (u2 := .int .i64 p.lo.e) (u3 := .bool p.hi.s) (u4 := .slice A6 n6 c6) (u5 := .int .i64 p.hi.e) b1 (by omega)
      replace b2 := cell_oth6 (g := g6) (u0 := .bool p.lo.s) (u1 := .slice A5 n5 c5) (u2 := .int .i64 p.lo.e) (u3 := .bool p.hi.s) (u4 := .slice A6 n6 c6) (u5 := .int .i64 p.hi.e) b2 (by omega)
      replace b3 := cell_oth6 (g := g6) (u0 := .bool p.lo.s) (u1 := .slice A5 n5 c5) (u2 := .int .i64 p.lo.e) (u3 := .bool p.hi.s) (u4 := .slice A6 n6 c6) (u5 := .int .i64 p.hi.e) b3 (by omega)
      replace b4 := cell_oth6 (g := g6) (u0 := .bool p.lo.s) (u1 := .slice A5 n5 c5) (u2 := .int .i64 p.lo.e) (u3 := .bool p.hi.s) (u4 := .slice A6 n6 c6) (u5 := .int .i64 p.hi.e) b4 (by omega)
      replace b5 := cell_oth6 (g := g6) (u0 := .bool p.lo.s) (u1 := .slice A5 n5 c5) (u2 := .int .i64 p.lo.e) (u3 := .bool p.hi.s) (u4 := .slice A6 n6 c6) (u5 := .int .i64 p.hi.e) b5 (by omega)
      replace r := Ibx.oth6 (g := g6) r (by omega) (.bool p.lo.s) (.slice A5 n5 c5) (.int .i64 p.lo.e) (.bool p.hi.s) (.slice A6 n6 c6) (.int .i64 p.hi.e)
      replace h5 := h5.put6 p6 (.bool p.lo.s) (.slice A5 n5 c5) (.int .i64 p.lo.e) (.bool p.hi.s) (.slice A6 n6 c6) (.int .i64 p.hi.e)
      replace h6 := h6.put6 p6 (.bool p.lo.s) (.slice A5 n5 c5) (.int .i64 p.lo.e) (.bool p.hi.s) (.slice A6 n6 c6) (.int .i64 p.hi.e)
      replace BB := below_put6 (g := g6) BB (by omega) (.bool p.lo.s) (.slice A5 n5 c5) (.int .i64 p.lo.e) (.bool p.hi.s) (.slice A6 n6 c6) (.int .i64 p.hi.e)
      replace p6 := p6.put p.lo.s A5 n5 c5 p.lo.e p.hi.s A6 n6 c6 p.hi.e
      clear f0 f1 f2 f3 f4 f5 z0 z1 z2 z3 z4 z5
      generalize (((((u3.setCell ⟨g6, 0, none⟩ (.bool p.lo.s)).setCell ⟨g6, 1, none⟩ (.slice A5 n5 c5)).setCell ⟨g6, 2, none⟩ (.int .i64 p.lo.e)).setCell ⟨g6, 3, none⟩ (.bool p.hi.s)).setCell ⟨g6, 4, none⟩ (.slice A6 n6 c6)).setCell ⟨g6, 5, none⟩ (.int .i64 p.hi.e) = u4 at *
      refine hK.out _ _ (by exact ⟨a0, a1, a2, a3, a4, a5, b0, b1, b2, b3, b4, b5⟩) (fun hHeldt4 => ?_)
      clear hK K hHeldt3
      try simp only [Act.put]
      refine wpAnyH_done (by kernel_rfl) ?_ _
      clear a0 a1 a2 a3 a4 a5 b0 b1 b2 b3 b4 b5 HE
      obtain ⟨y_0, y_1, y_2, y_3, y_4, y_5⟩ := p6.held
      clear p6
      go_wp2_with fail
      refine (rless_any (a := p.hi) (b := p.lo) HK.out h6 h5).mono ?_
      rintro en w9 ⟨rfl, b⟩
      rw [HL.out]
      replace BB := below_next BB BB.size b rfl rfl rfl rfl
      have G := mv b rfl <| And.intro r <| And.intro h5 <| And.intro h6 <| And.intro y_0 <| And.intro y_1 <| And.intro y_2 <| And.intro y_3 <| And.intro y_4 <| y_5
      clear b r h5 h6 y_0 y_1 y_2 y_3 y_4 y_5
      obtain ⟨r, h5, h6, y_0, y_1, y_2, y_3, y_4, y_5⟩ := G
      clear HL HK
      have hq0 : q = Iv.zero := HQ.out
      subst hq0
      clear HQ
      obtain ⟨f0, f1, f2, f3, f4, f5⟩ := r.open
      obtain ⟨z0, z1, z2, z3, z4, z5⟩ := r.held
      go_wp2
      have qq := r.put false none 0 0 0 false none 0 0 0
      have HB3 := below_put6 (g := w.heap.size + 2) BB (by omega) (.bool false) (.slice none 0 0) (.int .i64 0) (.bool false) (.slice none 0 0) (.int .i64 0)
      obtain ⟨z0, z1, z2, z3, z4, z5⟩ := qq.held
      exact bodyPost_ret (v := .tuple #[.agg #[.bool false, .slice none 0 0, .int .i64 0, .bool false, .slice none 0 0, .int .i64 0], .int .i64 5]) (by simp [results, Tryz.results11, go_sem, z0, z1, z2, z3, z4, z5]) rfl ⟨_, _, _, _, _, _, rfl, Rd.nil _ _ _ _ (by omega), Rd.nil _ _ _ _ (by omega), HB3⟩
    · go_simp
      have gl6 : w.heap.size + 2 < u1.heap.size := r.gl
      have p6 := Ibx.new u1 false none 0 0 0 false none 0 0 0
      have b := below_alloc u1 (.cells #[.bool false, .slice none 0 0, .int .i64 0, .bool false, .slice none 0 0, .int .i64 0] 26)
      replace BB := below_next BB BB.size b rfl rfl rfl rfl
      have G := mv b rfl <| And.intro a0 <| And.intro a1 <| And.intro a2 <| And.intro a3 <| And.intro a4 <| And.intro a5 <| And.intro b0 <| And.intro b1 <| And.intro b2 <| And.intro b3 <| And.intro b4 <| And.intro b5 <| And.intro h2 <| And.intro h4 <| And.intro r <| h5
      clear b a0 a1 a2 a3 a4 a5 b0 b1 b2 b3 b4 b5 h2 h4 r h5
      obtain ⟨a0, a1, a2, a3, a4, a5, b0, b1, b2, b3, b4, b5, h2, h4, r, h5⟩ := G
      generalize u1.alloc (.cells #[.bool false, .slice none 0 0, .int .i64 0, .bool false, .slice none 0 0, .int .i64 0] 26) = u2 at *
      generalize u1.heap.size = g6 at *
      refine hK.out _ _ (by exact ⟨a0, a1, a2, a3, a4, a5, b0, b1, b2, b3, b4, b5⟩) (fun hHeldt2 => ?_)
      clear hK K hHeldt1
      try simp only [Act.put]
      refine wpAnyH_ready (rs := [9]) (by kernel_rfl) (by simp) ?_
      refine AllReadyH.cons (o := _) rfl (fun K hK => ?_) (AllReadyH.nil)
      go_simp
      refine (rleast_any (a := x.hi) (b := y.hi) HK.out h2 h4).mono ?_
      rintro en u3 ⟨A6, n6, c6, rfl, h6, b⟩
      rw [HE.out.2] at h6 ⊢
      clear h2 h4
      replace BB := below_next BB BB.size b rfl rfl rfl rfl
      have G := mv b rfl <| And.intro a0 <| And.intro a1 <| And.intro a2 <| And.intro a3 <| And.intro a4 <| And.intro a5 <| And.intro b0 <| And.intro b1 <| And.intro b2 <| And.intro b3 <| And.intro b4 <| And.intro b5 <| And.intro r <| And.intro h5 <| p6
      clear b a0 a1 a2 a3 a4 a5 b0 b1 b2 b3 b4 b5 r h5 p6
      obtain ⟨a0, a1, a2, a3, a4, a5, b0, b1, b2, b3, b4, b5, r, h5, p6⟩ := G
      refine hK.out _ _ (by exact ⟨a0, a1, a2, a3, a4, a5, b0, b1, b2, b3, b4, b5⟩) (fun hHeldt3 => ?_)
      clear hK K hHeldt2
      try simp only [Act.put]
      refine wpAnyH_take (i := 10) (v := ?t21v10) rfl (by kernel_rfl) (by kernel_rfl) (by kernel_rfl) (fun _ _ _ h => panic_put (P := Tryz.prog) (fn := Tryz.f11) (R := (TellI 5 q w)) h) (Or.inl ⟨by rfl, ?t21y10⟩) (by assumption) ?_
      case t21y10 => (intro w hSw; (try dsimp only at hSw); go_simp); try with_reducible rfl
      change wpAnyH _ _ _ _ _ _ _ (Act.put _ (some 26) _) _
      simp only [Act.put, List.setIfInBounds_toArray, List.set_cons_zero, List.set_cons_succ]
      refine wpAnyH_ready (rs := [12]) (by kernel_rfl) (by simp) ?_
      refine AllReadyH.cons (o := _) rfl (fun K hK => ?_) (AllReadyH.nil)
      obtain ⟨f0, f1, f2, f3, f4, f5⟩ := p6.open
      obtain ⟨z0, z1, z2, z3, z4, z5⟩ := p6.held
      go_simp
      replace a0 := cell_oth6 (g := g6) (u0 := .bool p.lo.s) (u1 := .slice A5 n5 c5) (u2 := .int .i64 p.lo.e) (u3 := .bool p.hi.s) (u4 := .slice A6 n6 c6) (u5 := .int .i64 p.hi.e) a0 (by omega)
      replace a1 := cell_oth6 (g := g6) (u0 := .bool p.lo.s) (u1 := .slice A5 n5 c5) (u2 := .int .i64 p.lo.e) (u3 := .bool p.hi.s) (u4 := .slice A6 n6 c6) (u5 := .int .i64 p.hi.e) a1 (by omega)
      replace a2 := cell_oth6 (g := g6) (u0 := .bool p.lo.s) (u1 := .slice A5 n5 c5) (u2 := .int .i64 p.lo.e) (u3 := .bool p.hi.s) (u4 := .slice A6 n6 c6) (u5 := .int .i64 p.hi.e) a2 (by omega)
      replace a3 := cell_oth6 (g := g6) (u0 := .bool p.lo.s) (u1 := .slice A5 n5 c5) (u2 := .int .i64 p.lo.e) (u3 := .bool p.hi.s) (u4 := .slice A6 n6 c6) (u5 := .int .i64 p.hi.e) a3 (by omega)
      replace a4 := cell_oth6 (g := g6) (u0 := .bool p.lo.s) (u1 := .slice A5 n5 c5) (u2 := .int .i64 p.lo.e) (u3 := .bool p.hi.s) (u4 := .slice A6 n6 c6) (u5 := .int .i64 p.hi.e) a4 (by omega)
      replace a5 := cell_oth6 (g := g6) (u0 := .bool p.lo.s) (u1 := .slice A5 n5 c5) (u2 := .int .i64 p.lo.e) (u3 := .bool p.hi.s) (u4 := .slice A6 n6 c6) (u5 := .int .i64 p.hi.e) a5 (by omega)
      replace b0 := cell_oth6 (g := g6) (u0 := .bool p.lo.s) (u1 := .slice A5 n5 c5) (u2 := .int .i64 p.lo.e) (u3 := .bool p.hi.s) (u4 := .slice A6 n6 c6) (u5 := .int .i64 p.hi.e) b0 (by omega)
      replace b1 := cell_oth6 (g := g6) (u0 := .bool p.lo.s) (u1 := .slice A5 n5 c5) (u2 := .int .i64 p.lo.e) (u3 := .bool p.hi.s) (u4 := .slice A6 n6 c6) (u5 := .int .i64 p.hi.e) b1 (by omega)
      replace b2 := cell_oth6 (g := g6) (u0 := .bool p.lo.s) (u1 := .slice A5 n5 c5) (u2 := .int .i64 p.lo.e) (u3 := .bool p.hi.s) (u4 := .slice A6 n6 c6) (u5 := .int .i64 p.hi.e) b2 (by omega)
      replace b3 := cell_oth6 (g := g6) (u0 := .bool p.lo.s) (u1 := .slice A5 n5 c5) (u2 := .int .i64 p.lo.e) (u3 := .bool p.hi.s) (u4 := .slice A6 n6 c6) (u5 := .int .i64 p.hi.e) b3 (by omega)
      replace b4 := cell_oth6 (g := g6) (u0 := .bool p.lo.s) (u1 := .slice A5 n5 c5) (u2 := .int .i64 p.lo.e) (u3 := .bool p.hi.s) (u4 := .slice A6 n6 c6) (u5 := .int .i64 p.hi.e) b4 (by omega)
      replace b5 := cell_oth6 (g := g6) (u0 := .bool p.lo.s) (u1 := .slice A5 n5 c5) (u2 := .int .i64 p.lo.e) (u3 := .bool p.hi.s) (u4 := .slice A6 n6 c6) (u5 := .int .i64 p.hi.e) b5 (by omega)
      replace r := Ibx.oth6 (g := g6) r (by omega) (.bool p.lo.s) (.slice A5 n5 c5) (.int .i64 p.lo.e) (.bool p.hi.s) (.slice A6 n6 c6) (.int .i64 p.hi.e)
      replace h5 := h5.put6 p6 (.bool p.lo.s) (.slice A5 n5 c5) (.int .i64 p.lo.e) (.bool p.hi.s) (.slice A6 n6 c6) (.int .i64 p.hi.e)
      replace h6 := h6.put6 p6 (.bool p.lo.s) (.slice A5 n5 c5) (.int .i64 p.lo.e) (.bool p.hi.s) (.slice A6 n6 c6) (.int .i64 p.hi.e)
      replace BB := below_put6 (g := g6) BB (by omega) (.bool p.lo.s) (.slice A5 n5 c5) (.int .i64 p.lo.e) (.bool p.hi.s) (.slice A6 n6 c6) (.int .i64 p.hi.e)
      replace p6 := p6.put p.lo.s A5 n5 c5 p.lo.e p.hi.s A6 n6 c6 p.hi.e
      clear f0 f1 f2 f3 f4 f5 z0 z1 z2 z3 z4 z5
      generalize (((((u3.setCell ⟨g6, 0, none⟩ (.bool p.lo.s)).setCell ⟨g6, 1, none⟩ (.slice A5 n5 c5)).setCell ⟨g6, 2, none⟩ (.int .i64 p.lo.e)).setCell ⟨g6, 3, none⟩ (.bool p.hi.s)).setCell ⟨g6, 4, none⟩ (.slice A6 n6 c6)).setCell ⟨g6, 5, none⟩ (.int .i64 p.hi.e) = u4 at *
      refine hK.out _ _ (by exact ⟨a0, a1, a2, a3, a4, a5, b0, b1, b2, b3, b4, b5⟩) (fun hHeldt4 => ?_)
      clear hK K hHeldt3
      try simp only [Act.put]
      refine wpAnyH_done (by kernel_rfl) ?_ _
      clear a0 a1 a2 a3 a4 a5 b0 b1 b2 b3 b4 b5 HE
      obtain ⟨y_0, y_1, y_2, y_3, y_4, y_5⟩ := p6.held
      clear p6
      go_wp2_with fail
      refine (rless_any (a := p.hi) (b := p.lo) HK.out h6 h5).mono ?_
      rintro en w9 ⟨rfl, b⟩
      rw [HL.out]
      replace BB := below_next BB BB.size b rfl rfl rfl rfl
      have G := mv b rfl <| And.intro r <| And.intro h5 <| And.intro h6 <| And.intro y_0 <| And.intro y_1 <| And.intro y_2 <| And.intro y_3 <| And.intro y_4 <| y_5
      clear b r h5 h6 y_0 y_1 y_2 y_3 y_4 y_5
      obtain ⟨r, h5, h6, y_0, y_1, y_2, y_3, y_4, y_5⟩ := G
      clear HL HK
      have hq0 : q = Iv.zero := HQ.out
      subst hq0
      clear HQ
      obtain ⟨f0, f1, f2, f3, f4, f5⟩ := r.open
      obtain ⟨z0, z1, z2, z3, z4, z5⟩ := r.held
      go_wp2
      have qq := r.put false none 0 0 0 false none 0 0 0
      have HB3 := below_put6 (g := w.heap.size + 2) BB (by omega) (.bool false) (.slice none 0 0) (.int .i64 0) (.bool false) (.slice none 0 0) (.int .i64 0)
      obtain ⟨z0, z1, z2, z3, z4, z5⟩ := qq.held
      exact bodyPost_ret (v := .tuple #[.agg #[.bool false, .slice none 0 0, .int .i64 0, .bool false, .slice none 0 0, .int .i64 0], .int .i64 5]) (by simp [results, Tryz.results11, go_sem, z0, z1, z2, z3, z4, z5]) rfl ⟨_, _, _, _, _, _, rfl, Rd.nil _ _ _ _ (by omega), Rd.nil _ _ _ _ (by omega), HB3⟩
  · go_simp
    have gl6 : w.heap.size + 2 < wd.heap.size := r.gl
    have p6 := Ibx.new wd false none 0 0 0 false none 0 0 0
    have b := below_alloc wd (.cells #[.bool false, .slice none 0 0, .int .i64 0, .bool false, .slice none 0 0, .int .i64 0] 26)
    replace BB := below_next BB BB.size b rfl rfl rfl rfl
    have G := mv b rfl <| And.intro a0 <| And.intro a1 <| And.intro a2 <| And.intro a3 <| And.intro a4 <| And.intro a5 <| And.intro b0 <| And.intro b1 <| And.intro b2 <| And.intro b3 <| And.intro b4 <| And.intro b5 <| And.intro h1 <| And.intro h2 <| And.intro h3 <| And.intro h4 <| r
    clear b a0 a1 a2 a3 a4 a5 b0 b1 b2 b3 b4 b5 h1 h2 h3 h4 r
    obtain ⟨a0, a1, a2, a3, a4, a5, b0, b1, b2, b3, b4, b5, h1, h2, h3, h4, r⟩ := G
    generalize wd.alloc (.cells #[.bool false, .slice none 0 0, .int .i64 0, .bool false, .slice none 0 0, .int .i64 0] 26) = u1 at *
    generalize wd.heap.size = g6 at *
    refine hK.out _ _ (by exact ⟨a0, a1, a2, a3, a4, a5, b0, b1, b2, b3, b4, b5⟩) (fun hHeldt1 => ?_)
    clear hK K hHeldt0
    try simp only [Act.put]
    refine wpAnyH_ready (rs := [4]) (by kernel_rfl) (by simp) ?_
    refine AllReadyH.cons (o := _) rfl (fun K hK => ?_) (AllReadyH.nil)
    go_simp
    refine (rgreatest_any (a := x.lo) (b := y.lo) HK.out h1 h3).mono ?_
    rintro en u2 ⟨A5, n5, c5, rfl, h5, b⟩
    rw [HE.out.1] at h5 ⊢
    clear h1 h3
    replace BB := below_next BB BB.size b rfl rfl rfl rfl
    have G := mv b rfl <| And.intro a0 <| And.intro a1 <| And.intro a2 <| And.intro a3 <| And.intro a4 <| And.intro a5 <| And.intro b0 <| And.intro b1 <| And.intro b2 <| And.intro b3 <| And.intro b4 <| And.intro b5 <| And.intro h2 <| And.intro h4 <| And.intro r <| p6
    clear b a0 a1 a2 a3 a4 a5 b0 b1 b2 b3 b4 b5 h2 h4 r p6
    obtain ⟨a0, a1, a2, a3, a4, a5, b0, b1, b2, b3, b4, b5, h2, h4, r, p6⟩ := G
    refine hK.out _ _ (by exact ⟨a0, a1, a2, a3, a4, a5, b0, b1, b2, b3, b4, b5⟩) (fun hHeldt2 => ?_)
    clear hK K hHeldt1
    try simp only [Act.put]
    refine wpAnyH_ready (rs := [9]) (by kernel_rfl) (by simp) ?_
    refine AllReadyH.cons (o := _) rfl (fun K hK => ?_) (AllReadyH.nil)
    go_simp
    refine (rleast_any (a := x.hi) (b := y.hi) HK.out h2 h4).mono ?_
    rintro en u3 ⟨A6, n6, c6, rfl, h6, b⟩
    rw [HE.out.2] at h6 ⊢
    clear h2 h4
    replace BB := below_next BB BB.size b rfl rfl rfl rfl
    have G := mv b rfl <| And.intro a0 <| And.intro a1 <| And.intro a2 <| And.intro a3 <| And.intro a4 <| And.intro a5 <| And.intro b0 <| And.intro b1 <| And.intro b2 <| And.intro b3 <| And.intro b4 <| And.intro b5 <| And.intro r <| And.intro p6 <| h5
    clear b a0 a1 a2 a3 a4 a5 b0 b1 b2 b3 b4 b5 r p6 h5
    obtain ⟨a0, a1, a2, a3, a4, a5, b0, b1, b2, b3, b4, b5, r, p6, h5⟩ := G
    refine hK.out _ _ (by exact ⟨a0, a1, a2, a3, a4, a5, b0, b1, b2, b3, b4, b5⟩) (fun hHeldt3 => ?_)
    clear hK K hHeldt2
    try simp only [Act.put]
    refine wpAnyH_take (i := 10) (v := ?t22v10) rfl (by kernel_rfl) (by kernel_rfl) (by kernel_rfl) (fun _ _ _ h => panic_put (P := Tryz.prog) (fn := Tryz.f11) (R := (TellI 5 q w)) h) (Or.inl ⟨by rfl, ?t22y10⟩) (by assumption) ?_
    case t22y10 => (intro w hSw; (try dsimp only at hSw); go_simp); try with_reducible rfl
    change wpAnyH _ _ _ _ _ _ _ (Act.put _ (some 26) _) _
    simp only [Act.put, List.setIfInBounds_toArray, List.set_cons_zero, List.set_cons_succ]
    refine wpAnyH_ready (rs := [12]) (by kernel_rfl) (by simp) ?_
    refine AllReadyH.cons (o := _) rfl (fun K hK => ?_) (AllReadyH.nil)
    obtain ⟨f0, f1, f2, f3, f4, f5⟩ := p6.open
    obtain ⟨z0, z1, z2, z3, z4, z5⟩ := p6.held
    go_simp
    replace a0 := cell_oth6 (g := g6) (u0 := .bool p.lo.s) (u1 := .slice A5 n5 c5) (u2 := .int .i64 p.lo.e) (u3 := .bool p.hi.s) (u4 := .slice A6 n6 c6) (u5 := .int .i64 p.hi.e) a0 (by omega)
    replace a1 := cell_oth6 (g := g6) (u0 := .bool p.lo.s) (u1 := .slice A5 n5 c5) (u2 := .int .i64 p.lo.e) (u3 := .bool p.hi.s) (u4 := .slice A6 n6 c6) (u5 := .int .i64 p.hi.e) a1 (by omega)
    replace a2 := cell_oth6 (g := g6) (u0 := .bool p.lo.s) (u1 := .slice A5 n5 c5) (u2 := .int .i64 p.lo.e) (u3 := .bool p.hi.s) (u4 := .slice A6 n6 c6) (u5 := .int .i64 p.hi.e) a2 (by omega)
    replace a3 := cell_oth6 (g := g6) (u0 := .bool p.lo.s) (u1 := .slice A5 n5 c5) (u2 := .int .i64 p.lo.e) (u3 := .bool p.hi.s) (u4 := .slice A6 n6 c6) (u5 := .int .i64 p.hi.e) a3 (by omega)
    replace a4 := cell_oth6 (g := g6) (u0 := .bool p.lo.s) (u1 := .slice A5 n5 c5) (u2 := .int .i64 p.lo.e) (u3 := .bool p.hi.s) (u4 := .slice A6 n6 c6) (u5 := .int .i64 p.hi.e) a4 (by omega)
    replace a5 := cell_oth6 (g := g6) (u0 := .bool p.lo.s) (u1 := .slice A5 n5 c5) (u2 := .int .i64 p.lo.e) (u3 := .bool p.hi.s) (u4 := .slice A6 n6 c6) (u5 := .int .i64 p.hi.e) a5 (by omega)
    replace b0 := cell_oth6 (g := g6) (u0 := .bool p.lo.s) (u1 := .slice A5 n5 c5) (u2 := .int .i64 p.lo.e) (u3 := .bool p.hi.s) (u4 := .slice A6 n6 c6) (u5 := .int .i64 p.hi.e) b0 (by omega)
    replace b1 := cell_oth6 (g := g6) (u0 := .bool p.lo.s) (u1 := .slice A5 n5 c5) (u2 := .int .i64 p.lo.e) (u3 := .bool p.hi.s) (u4 := .slice A6 n6 c6) (u5 := .int .i64 p.hi.e) b1 (by omega)
    replace b2 := cell_oth6 (g := g6) (u0 := .bool p.lo.s) (u1 := .slice A5 n5 c5) (u2 := .int .i64 p.lo.e) (u3 := .bool p.hi.s) (u4 := .slice A6 n6 c6) (u5 := .int .i64 p.hi.e) b2 (by omega)
    replace b3 := cell_oth6 (g := g6) (u0 := .bool p.lo.s) (u1 := .slice A5 n5 c5) (u2 := .int .i64 p.lo.e) (u3 := .bool p.hi.s) (u4 := .slice A6 n6 c6) (u5 := .int .i64 p.hi.e) b3 (by omega)
    replace b4 := cell_oth6 (g := g6) (u0 := .bool p.lo.s) (u1 := .slice A5 n5 c5) (u2 := .int .i64 p.lo.e) (u3 := .bool p.hi.s) (u4 := .slice A6 n6 c6) (u5 := .int .i64 p.hi.e) b4 (by omega)
    replace b5 := cell_oth6 (g := g6) (u0 := .bool p.lo.s) (u1 := .slice A5 n5 c5) (u2 := .int .i64 p.lo.e) (u3 := .bool p.hi.s) (u4 := .slice A6 n6 c6) (u5 := .int .i64 p.hi.e) b5 (by omega)
    replace r := Ibx.oth6 (g := g6) r (by omega) (.bool p.lo.s) (.slice A5 n5 c5) (.int .i64 p.lo.e) (.bool p.hi.s) (.slice A6 n6 c6) (.int .i64 p.hi.e)
    replace h5 := h5.put6 p6 (.bool p.lo.s) (.slice A5 n5 c5) (.int .i64 p.lo.e) (.bool p.hi.s) (.slice A6 n6 c6) (.int .i64 p.hi.e)
    replace h6 := h6.put6 p6 (.bool p.lo.s) (.slice A5 n5 c5) (.int .i64 p.lo.e) (.bool p.hi.s) (.slice A6 n6 c6) (.int .i64 p.hi.e)
    replace BB := below_put6 (g := g6) BB (by omega) (.bool p.lo.s) (.slice A5 n5 c5) (.int .i64 p.lo.e) (.bool p.hi.s) (.slice A6 n6 c6) (.int .i64 p.hi.e)
    replace p6 := p6.put p.lo.s A5 n5 c5 p.lo.e p.hi.s A6 n6 c6 p.hi.e
    clear f0 f1 f2 f3 f4 f5 z0 z1 z2 z3 z4 z5
    generalize (((((u3.setCell ⟨g6, 0, none⟩ (.bool p.lo.s)).setCell ⟨g6, 1, none⟩ (.slice A5 n5 c5)).setCell ⟨g6, 2, none⟩ (.int .i64 p.lo.e)).setCell ⟨g6, 3, none⟩ (.bool p.hi.s)).setCell ⟨g6, 4, none⟩ (.slice A6 n6 c6)).setCell ⟨g6, 5, none⟩ (.int .i64 p.hi.e) = u4 at *
    refine hK.out _ _ (by exact ⟨a0, a1, a2, a3, a4, a5, b0, b1, b2, b3, b4, b5⟩) (fun hHeldt4 => ?_)
    clear hK K hHeldt3
    try simp only [Act.put]
    refine wpAnyH_done (by kernel_rfl) ?_ _
    clear a0 a1 a2 a3 a4 a5 b0 b1 b2 b3 b4 b5 HE
    obtain ⟨y_0, y_1, y_2, y_3, y_4, y_5⟩ := p6.held
    clear p6
    go_wp2_with fail
    refine (rless_any (a := p.hi) (b := p.lo) HK.out h6 h5).mono ?_
    rintro en w9 ⟨rfl, b⟩
    rw [HL.out]
    replace BB := below_next BB BB.size b rfl rfl rfl rfl
    have G := mv b rfl <| And.intro r <| And.intro h5 <| And.intro h6 <| And.intro y_0 <| And.intro y_1 <| And.intro y_2 <| And.intro y_3 <| And.intro y_4 <| y_5
    clear b r h5 h6 y_0 y_1 y_2 y_3 y_4 y_5
    obtain ⟨r, h5, h6, y_0, y_1, y_2, y_3, y_4, y_5⟩ := G
    clear HL HK
    have hq0 : q = Iv.zero := HQ.out
    subst hq0
    clear HQ
    obtain ⟨f0, f1, f2, f3, f4, f5⟩ := r.open
    obtain ⟨z0, z1, z2, z3, z4, z5⟩ := r.held
    go_wp2
    have qq := r.put false none 0 0 0 false none 0 0 0
    have HB3 := below_put6 (g := w.heap.size + 2) BB (by omega) (.bool false) (.slice none 0 0) (.int .i64 0) (.bool false) (.slice none 0 0) (.int .i64 0)
    obtain ⟨z0, z1, z2, z3, z4, z5⟩ := qq.held
    exact bodyPost_ret (v := .tuple #[.agg #[.bool false, .slice none 0 0, .int .i64 0, .bool false, .slice none 0 0, .int .i64 0], .int .i64 5]) (by simp [results, Tryz.results11, go_sem, z0, z1, z2, z3, z4, z5]) rfl ⟨_, _, _, _, _, _, rfl, Rd.nil _ _ _ _ (by omega), Rd.nil _ _ _ _ (by omega), HB3⟩

theorem rmeet_any {w : World} {K : Nat} {x y : Iv} {A1 : Option Addr} {n1 c1 : Nat} {A2 : Option Addr} {n2 c2 : Nat} {A3 : Option Addr} {n3 c3 : Nat} {A4 : Option Addr} {n4 c4 : Nat} (hK : 4194304 ≤ K) (h1 : Rd w .u64 Go.Proofs.YtijflbnfikiaaaaGreatDoor.W A1 n1 c1 x.lo.l) (h2 : Rd w .u64 Go.Proofs.YtijflbnfikiaaaaGreatDoor.W A2 n2 c2 x.hi.l) (h3 : Rd w .u64 Go.Proofs.YtijflbnfikiaaaaGreatDoor.W A3 n3 c3 y.lo.l) (h4 : Rd w .u64 Go.Proofs.YtijflbnfikiaaaaGreatDoor.W A4 n4 c4 y.hi.l) :
    Calls Tryz.prog 11 #[.agg #[.bool x.lo.s, .slice A1 n1 c1, .int .i64 x.lo.e, .bool x.hi.s, .slice A2 n2 c2, .int .i64 x.hi.e], .agg #[.bool y.lo.s, .slice A3 n3 c3, .int .i64 y.lo.e, .bool y.hi.s, .slice A4 n4 c4, .int .i64 y.hi.e]] w (TellI (meetK K x y) (meetI K x y) w) := by
  unfold meetK meetI
  by_cases hm : mayI K x = true ∧ mayI K y = true
  · by_cases hq : mayI K (meetQ K x y) = true
    · rw [if_pos hm, if_pos hq, if_pos ⟨hm, hq⟩]; exact rmeet_ok hK h1 h2 h3 h4 hm.1 hm.2 hq
    · rw [if_pos hm, if_neg hq, if_neg (fun h => hq h.2)]; exact rmeet_none hK h1 h2 h3 h4 hm.1 hm.2 (Bool.eq_false_iff.2 hq)
  · rw [if_neg hm, if_neg (fun h => hm h.1)]; exact rmeet_no hK h1 h2 h3 h4 hm

end Go.Proofs.YtijflbnfikiaaaaGreatDoor

namespace Go.Proofs.YtijflbnfikiaaaaGreatDoor
open Go.RowKit

set_option maxRecDepth 100000 in
set_option maxHeartbeats 8000000 in
theorem same5_self {w : World} {x : Iv} {k : Int} {A1 : Option Addr} {n1 c1 : Nat} {A2 : Option Addr} {n2 c2 : Nat} {A3 : Option Addr} {n3 c3 : Nat} {A4 : Option Addr} {n4 c4 : Nat} (h1 : Rd w .u64 Go.Proofs.YtijflbnfikiaaaaGreatDoor.W A1 n1 c1 x.lo.l) (h2 : Rd w .u64 Go.Proofs.YtijflbnfikiaaaaGreatDoor.W A2 n2 c2 x.hi.l) (h3 : Rd w .u64 Go.Proofs.YtijflbnfikiaaaaGreatDoor.W A3 n3 c3 x.lo.l) (h4 : Rd w .u64 Go.Proofs.YtijflbnfikiaaaaGreatDoor.W A4 n4 c4 x.hi.l) :
    Calls Tryz.prog 15 #[.agg #[.bool x.lo.s, .slice A1 n1 c1, .int .i64 x.lo.e, .bool x.hi.s, .slice A2 n2 c2, .int .i64 x.hi.e], .int .i64 k, .agg #[.bool x.lo.s, .slice A3 n3 c3, .int .i64 x.lo.e, .bool x.hi.s, .slice A4 n4 c4, .int .i64 x.hi.e], .int .i64 k] w (Bools true w) := by
  obtain ⟨BB, xa, xb⟩ := two_ivl w (x := x) (y := x) (A1 := A1) (n1 := n1) (c1 := c1) (A2 := A2) (n2 := n2) (c2 := c2) (A3 := A3) (n3 := n3) (c3 := c3) (A4 := A4) (n4 := n4) (c4 := c4) 
  obtain ⟨a0, a1, a2, a3, a4, a5⟩ := xa.held
  obtain ⟨b0, b1, b2, b3, b4, b5⟩ := xb.held
  clear xa xb
  have G := mv BB rfl <| And.intro h1 <| And.intro h2 <| And.intro h3 <| h4
  clear h1 h2 h3 h4
  obtain ⟨h1, h2, h3, h4⟩ := G
  have fk : (k == k) = true := by simp
  go_enter Tryz.func15, Tryz.ntmps15
  go_wp2_with fail
  refine (rsamei_any (x := x) (y := x) h1 h2 h3 h4).mono ?_
  rintro en w1 ⟨rfl, b⟩
  rw [sameI_iff.2 rfl]
  replace BB := below_next BB BB.size b rfl rfl rfl rfl
  have G := mv b rfl <| And.intro a0 <| And.intro a1 <| And.intro a2 <| And.intro a3 <| And.intro a4 <| And.intro a5 <| And.intro b0 <| And.intro b1 <| And.intro b2 <| And.intro b3 <| And.intro b4 <| And.intro b5 <| And.intro h1 <| And.intro h2 <| And.intro h3 <| h4
  clear b a0 a1 a2 a3 a4 a5 b0 b1 b2 b3 b4 b5 h1 h2 h3 h4
  obtain ⟨a0, a1, a2, a3, a4, a5, b0, b1, b2, b3, b4, b5, h1, h2, h3, h4⟩ := G
  go_wp2
  go_ret
  exact ⟨by first | rfl | simp, BB⟩

end Go.Proofs.YtijflbnfikiaaaaGreatDoor
