/-
 Contracts of the reference's Prec, turn, ends, Round, Add, Sub, Neg, Sqrt and Sqr, at this translation. Condition: the slices read as limbs, the table of math/bits reads as its text lays it.
-/
import Derived.Test.YtcbkhmejlaaieaaGreatDoorQLd
import Derived.Test.YtcbkhmejlaaieaaGreatDoorQLc
import Derived.Test.YtcbkhmejlaaieaaGreatDoorQLg
import Derived.Test.YtcbkhmejlaaieaaGreatDoorQLf
namespace Go.Proofs.YtcbkhmejlaaieaaGreatDoor
open Go.RowKit

/-- how one ends that tells a number, or nought and a code -/
def TelQ (o : Except Int Rw) (w : World) (en : Ending) (w' : World) : Prop := (∃ v, o = .ok v ∧ ∃ A n c, en = .returned (.tuple #[.agg #[.bool v.s, .slice A n c, .int .i64 v.e], .int .i64 0]) ∧ Rd w' .u64 Go.Proofs.YtcbkhmejlaaieaaGreatDoor.W A n c v.l ∧ Below w.heap.size w w') ∨
 (∃ k, o = .error k ∧ k ≠ 0 ∧ ∃ A c, en = .returned (.tuple #[.agg #[.bool false, .slice A 0 c, .int .i64 0], .int .i64 k]) ∧ Below w.heap.size w w')
section
variable {f : FuncId} {args : Array Value} {w : World}
theorem telq_to {o o' : Except Int Rw} (h : o = o') (hc : Calls Tryz.prog f args w (TelQ o' w)) : Calls Tryz.prog f args w (TelQ o w) := by subst h; exact hc
theorem tellq_or {o : Except Int Rw} (h0 : Cod o) (h : Calls Tryz.prog f args w (TellQ o w)) : Calls Tryz.prog f args w (TelQ o w) := h.mono fun en w' => by
 rintro ⟨A, n, c, rfl, hr, b⟩
 cases o with
 | ok v => exact .inl ⟨v, rfl, A, n, c, rfl, hr, b⟩
 | error k =>
  obtain rfl : n = 0 := hr.len.symm
  exact .inr ⟨k, rfl, h0 k rfl, A, c, rfl, b⟩
end

theorem rsqrt_tel (S : Sc) {p : Int} {up : Bool} {w : World} {a : Rw} {A1 : Option Addr} {n1 c1 : Nat} (h1 : Rd w .u64 Go.Proofs.YtcbkhmejlaaieaaGreatDoor.W A1 n1 c1 a.l) (hp : p ≤ 1000 ∨ 2000 < p) : Calls Tryz.prog 72 #[.agg #[.bool a.s, .slice A1 n1 c1, .int .i64 a.e], .int .i64 p, .bool up] w (TelQ (rooO S a p up) w) := tellq_or rooO_cod (tells_oc S (rootR_only a.lt) rootR_null ((rsqrtd_raw h1 hp).mono fun en w' h => by
 obtain ⟨k, s, A, n, c, m, x, h2, h3, h4⟩ := h
 exact ⟨k, s, A, n, c, m, x, h2, rootQ_is a.lt h3, h4⟩))
set_option maxRecDepth 100000 in
theorem rprec_any {w : World} {p : Int} : Calls Tryz.prog 46 #[.int .i64 p] w (Bools (prec p) w) := by
 have BB := Below.refl w.heap.size w
 unfold prec
 cases d1 : decide (1 ≤ p)
 ·go_enter Tryz.func46, Tryz.ntmps46
  go_wp2
  go_ret
  exact ⟨by first | rfl | simp, BB⟩
 ·cases d2 : decide (p ≤ 2000)
  all_goals
   go_enter Tryz.func46, Tryz.ntmps46
   go_wp2
   go_ret
   exact ⟨by first | rfl | simp, BB⟩

set_option maxRecDepth 100000 in
set_option maxHeartbeats 8000000 in
theorem rsqrt5_any (S : Sc) {w : World} {x : Iv} {p : Int} {A1 : Option Addr} {n1 c1 : Nat} {A2 : Option Addr} {n2 c2 : Nat} (h1 : Rd w .u64 Go.Proofs.YtcbkhmejlaaieaaGreatDoor.W A1 n1 c1 x.lo.l) (h2 : Rd w .u64 Go.Proofs.YtcbkhmejlaaieaaGreatDoor.W A2 n2 c2 x.hi.l) (hp : p ≤ 1000 ∨ 2000 < p) :
  Calls Tryz.prog 25 #[.agg #[.bool x.lo.s, .slice A1 n1 c1, .int .i64 x.lo.e, .bool x.hi.s, .slice A2 n2 c2, .int .i64 x.hi.e], .int .i64 p] w (TellO (face1 S x p (rooI S x p)) w) := by
 obtain ⟨q, hq⟩ : ∃ q : Except Int Iv, q = face1 S x p (rooI S x p) := ⟨_, rfl⟩
 rw [← hq]
 have HQ := Lib.hid hq
 clear hq
 have BB := two_below w (.cells #[.bool x.lo.s, .slice A1 n1 c1, .int .i64 x.lo.e, .bool x.hi.s, .slice A2 n2 c2, .int .i64 x.hi.e] 26) (.cells #[.bool false, .slice none 0 0, .int .i64 0, .bool false, .slice none 0 0, .int .i64 0] 26)
 have xa := (Ibx.new w x.lo.s A1 n1 c1 x.lo.e x.hi.s A2 n2 c2 x.hi.e).alloc (.cells #[.bool false, .slice none 0 0, .int .i64 0, .bool false, .slice none 0 0, .int .i64 0] 26)
 have r := ibx_one w (.cells #[.bool x.lo.s, .slice A1 n1 c1, .int .i64 x.lo.e, .bool x.hi.s, .slice A2 n2 c2, .int .i64 x.hi.e] 26) false none 0 0 0 false none 0 0 0
 obtain ⟨a0, a1, a2, a3, a4, a5⟩ := xa.held
 clear xa
 have G := mv BB rfl <| And.intro h1 <| h2
 clear h1 h2
 obtain ⟨h1, h2⟩ := G
 go_enter Tryz.func25, Tryz.ntmps25
 obtain ⟨z1_, hz⟩ : ∃ z, z = mayI S.K x := ⟨_, rfl⟩
 have HZ1 := Lib.hid hz
 clear hz
 obtain ⟨z2_, hz⟩ : ∃ z, z = prec p := ⟨_, rfl⟩
 have HZ2 := Lib.hid hz
 clear hz
 go_wp2_with fail
 refine (show Calls _ _ _ _ (Bools z1_ _) from by rw [HZ1.out]; exact rmayi_any (K := S.K) S.big h1 h2).mono ?_
 rintro en w1 ⟨rfl, b⟩
 replace BB := bnx BB b rfl rfl rfl rfl
 have G := mv b rfl (J9 h1 h2 r a0 a1 a2 a3 a4 a5)
 clear b h1 h2 r a0 a1 a2 a3 a4 a5
 obtain ⟨h1, h2, r, a0, a1, a2, a3, a4, a5⟩ := G
 cases z1_
 ·have HL := Lib.hid (show q = .error 1 from by rw [HQ.out]; unfold face1; rw [if_neg (by intro h; rw [← HZ1.out] at h; simp at h)])
  obtain ⟨f0, f1, f2, f3, f4, f5⟩ := r.open
  obtain ⟨z0, z1, z2, z3, z4, z5⟩ := r.held
  go_wp2
  have qq := r.put false none 0 0 0 false none 0 0 0
  have HB3 := below_put6 (g := w.heap.size + 1) BB (by omega) (.bool false) (.slice none 0 0) (.int .i64 0) (.bool false) (.slice none 0 0) (.int .i64 0)
  obtain ⟨z0, z1, z2, z3, z4, z5⟩ := qq.held
  exact bodyPost_ret (v := .tuple #[.agg #[.bool false, .slice none 0 0, .int .i64 0, .bool false, .slice none 0 0, .int .i64 0], .int .i64 1]) (by simp [results, Tryz.results25, go_sem, z0, z1, z2, z3, z4, z5]) rfl (by rw [HL.out]; exact ⟨none, 0, 0, none, 0, 0, rfl, Rd.nil _ _ _ _ (by omega), Rd.nil _ _ _ _ (by omega), HB3⟩)
 go_wp2_with fail
 refine (show Calls _ _ _ _ (Bools z2_ _) from by rw [HZ2.out]; exact rprec_any).mono ?_
 rintro en w2 ⟨rfl, b⟩
 replace BB := bnx BB b rfl rfl rfl rfl
 have G := mv b rfl (J9 h1 h2 r a0 a1 a2 a3 a4 a5)
 clear b h1 h2 r a0 a1 a2 a3 a4 a5
 obtain ⟨h1, h2, r, a0, a1, a2, a3, a4, a5⟩ := G
 cases z2_
 ·have HL := Lib.hid (show q = .error 1 from by rw [HQ.out]; unfold face1; rw [if_neg (by intro h; rw [← HZ2.out] at h; simp at h)])
  obtain ⟨f0, f1, f2, f3, f4, f5⟩ := r.open
  obtain ⟨z0, z1, z2, z3, z4, z5⟩ := r.held
  go_wp2
  have qq := r.put false none 0 0 0 false none 0 0 0
  have HB3 := below_put6 (g := w.heap.size + 1) BB (by omega) (.bool false) (.slice none 0 0) (.int .i64 0) (.bool false) (.slice none 0 0) (.int .i64 0)
  obtain ⟨z0, z1, z2, z3, z4, z5⟩ := qq.held
  exact bodyPost_ret (v := .tuple #[.agg #[.bool false, .slice none 0 0, .int .i64 0, .bool false, .slice none 0 0, .int .i64 0], .int .i64 1]) (by simp [results, Tryz.results25, go_sem, z0, z1, z2, z3, z4, z5]) rfl (by rw [HL.out]; exact ⟨none, 0, 0, none, 0, 0, rfl, Rd.nil _ _ _ _ (by omega), Rd.nil _ _ _ _ (by omega), HB3⟩)
 have HF := Lib.hid (show q = rooI S x p from by rw [HQ.out]; unfold face1; rw [if_pos (by rw [← HZ1.out, ← HZ2.out]; rfl)])
 clear HZ1 HZ2
 obtain ⟨o1, ho1⟩ : ∃ o, o = rooO S x.lo p false := ⟨_, rfl⟩
 have HO1 := Lib.hid ho1
 clear ho1
 go_wp2_with fail
 refine (telq_to HO1.out (rsqrt_tel S (a := x.lo) h1 hp)).mono ?_
 rintro en w3 (⟨v1, hv1, A3, n3, c3, rfl, h3, b⟩ | ⟨kk, hk, hk0, A3, c3, rfl, b⟩)
 rotate_left
 ·replace BB := bnx BB b rfl rfl rfl rfl
  have G := mv b rfl (J9 h1 h2 r a0 a1 a2 a3 a4 a5)
  clear b h1 h2 r a0 a1 a2 a3 a4 a5
  obtain ⟨h1, h2, r, a0, a1, a2, a3, a4, a5⟩ := G
  have HKK := Lib.hid (And.intro hk hk0)
  have g1 : (kk != 0) = true := by simp; exact hk0
  have g2 : (kk == 0) = false := by simp; exact hk0
  clear hk hk0
  have b := below_alloc w3 (.cells #[.bool false, .slice A3 0 c3, .int .i64 0] 24)
  replace BB := bnx BB b rfl rfl rfl rfl
  have G := mv b rfl (J9 h1 h2 r a0 a1 a2 a3 a4 a5)
  clear b h1 h2 r a0 a1 a2 a3 a4 a5
  obtain ⟨h1, h2, r, a0, a1, a2, a3, a4, a5⟩ := G
  have HL := Lib.hid (show q = .error kk from (HF.out.trans (by simp only [rooI, thn, ← HO1.out, HKK.out.1])))
  obtain ⟨f0, f1, f2, f3, f4, f5⟩ := r.open
  obtain ⟨z0, z1, z2, z3, z4, z5⟩ := r.held
  go_wp2
  have qq := r.put false none 0 0 0 false none 0 0 0
  have HB3 := below_put6 (g := w.heap.size + 1) BB (by omega) (.bool false) (.slice none 0 0) (.int .i64 0) (.bool false) (.slice none 0 0) (.int .i64 0)
  obtain ⟨z0, z1, z2, z3, z4, z5⟩ := qq.held
  exact bodyPost_ret (v := .tuple #[.agg #[.bool false, .slice none 0 0, .int .i64 0, .bool false, .slice none 0 0, .int .i64 0], .int .i64 kk]) (by simp [results, Tryz.results25, go_sem, z0, z1, z2, z3, z4, z5]) rfl (by rw [HL.out]; exact ⟨none, 0, 0, none, 0, 0, rfl, Rd.nil _ _ _ _ (by omega), Rd.nil _ _ _ _ (by omega), HB3⟩)
 have HV1 := Lib.hid hv1
 clear hv1
 replace BB := bnx BB b rfl rfl rfl rfl
 have G := mv b rfl (J9 h1 h2 r a0 a1 a2 a3 a4 a5)
 clear b h1 h2 r a0 a1 a2 a3 a4 a5
 obtain ⟨h1, h2, r, a0, a1, a2, a3, a4, a5⟩ := G
 have ly_ := Lib.hid r.gl
 obtain ⟨y0, y1, y2⟩ := (Box.new w3 v1.s A3 n3 c3 v1.e).held
 have b := below_alloc w3 (.cells #[.bool v1.s, .slice A3 n3 c3, .int .i64 v1.e] 24)
 replace BB := bnx BB b rfl rfl rfl rfl
 have G := mv b rfl (J10 h1 h2 r a0 a1 a2 a3 a4 a5 h3)
 clear b h1 h2 r a0 a1 a2 a3 a4 a5 h3
 obtain ⟨h1, h2, r, a0, a1, a2, a3, a4, a5, h3⟩ := G
 obtain ⟨o2, ho2⟩ : ∃ o, o = rooO S x.hi p true := ⟨_, rfl⟩
 have HO2 := Lib.hid ho2
 clear ho2
 go_wp2_with fail
 refine (telq_to HO2.out (rsqrt_tel S (a := x.hi) h2 hp)).mono ?_
 rintro en w4 (⟨v2, hv2, A4, n4, c4, rfl, h4, b⟩ | ⟨kk, hk, hk0, A4, c4, rfl, b⟩)
 rotate_left
 ·replace BB := bnx BB b rfl rfl rfl rfl
  have G := mv b rfl (J13 h1 h2 r a0 a1 a2 a3 a4 a5 h3 y0 y1 y2)
  clear b h1 h2 r a0 a1 a2 a3 a4 a5 h3 y0 y1 y2
  obtain ⟨h1, h2, r, a0, a1, a2, a3, a4, a5, h3, y0, y1, y2⟩ := G
  have HKK := Lib.hid (And.intro hk hk0)
  have g1 : (kk != 0) = true := by simp; exact hk0
  have g2 : (kk == 0) = false := by simp; exact hk0
  clear hk hk0
  have b := below_alloc w4 (.cells #[.bool false, .slice A4 0 c4, .int .i64 0] 24)
  replace BB := bnx BB b rfl rfl rfl rfl
  have G := mv b rfl (J13 h1 h2 r a0 a1 a2 a3 a4 a5 h3 y0 y1 y2)
  clear b h1 h2 r a0 a1 a2 a3 a4 a5 h3 y0 y1 y2
  obtain ⟨h1, h2, r, a0, a1, a2, a3, a4, a5, h3, y0, y1, y2⟩ := G
  have HL := Lib.hid (show q = .error kk from (HF.out.trans (by simp only [rooI, thn, ← HO1.out, HV1.out, ← HO2.out, HKK.out.1])))
  obtain ⟨f0, f1, f2, f3, f4, f5⟩ := r.open
  obtain ⟨z0, z1, z2, z3, z4, z5⟩ := r.held
  go_wp2
  have qq := r.put false none 0 0 0 false none 0 0 0
  have HB3 := below_put6 (g := w.heap.size + 1) BB (by omega) (.bool false) (.slice none 0 0) (.int .i64 0) (.bool false) (.slice none 0 0) (.int .i64 0)
  obtain ⟨z0, z1, z2, z3, z4, z5⟩ := qq.held
  exact bodyPost_ret (v := .tuple #[.agg #[.bool false, .slice none 0 0, .int .i64 0, .bool false, .slice none 0 0, .int .i64 0], .int .i64 kk]) (by simp [results, Tryz.results25, go_sem, z0, z1, z2, z3, z4, z5]) rfl (by rw [HL.out]; exact ⟨none, 0, 0, none, 0, 0, rfl, Rd.nil _ _ _ _ (by omega), Rd.nil _ _ _ _ (by omega), HB3⟩)
 have HV2 := Lib.hid hv2
 clear hv2
 replace BB := bnx BB b rfl rfl rfl rfl
 have G := mv b rfl (J13 h1 h2 r a0 a1 a2 a3 a4 a5 h3 y0 y1 y2)
 clear b h1 h2 r a0 a1 a2 a3 a4 a5 h3 y0 y1 y2
 obtain ⟨h1, h2, r, a0, a1, a2, a3, a4, a5, h3, y0, y1, y2⟩ := G
 have lu_ := Lib.hid r.gl
 obtain ⟨u0, u1, u2⟩ := (Box.new w4 v2.s A4 n4 c4 v2.e).held
 have b := below_alloc w4 (.cells #[.bool v2.s, .slice A4 n4 c4, .int .i64 v2.e] 24)
 replace BB := bnx BB b rfl rfl rfl rfl
 have G := mv b rfl (J14 h1 h2 r a0 a1 a2 a3 a4 a5 h3 y0 y1 y2 h4)
 clear b h1 h2 r a0 a1 a2 a3 a4 a5 h3 y0 y1 y2 h4
 obtain ⟨h1, h2, r, a0, a1, a2, a3, a4, a5, h3, y0, y1, y2, h4⟩ := G
 obtain ⟨f0, f1, f2, f3, f4, f5⟩ := r.open
 obtain ⟨z0, z1, z2, z3, z4, z5⟩ := r.held
 go_wp2
 have HL := Lib.hid (show q = .ok ⟨v1, v2⟩ from (HF.out.trans (by simp only [rooI, thn, ← HO1.out, HV1.out, ← HO2.out, HV2.out])))
 have qq := r.put v1.s A3 n3 c3 v1.e v2.s A4 n4 c4 v2.e
 have hN := h3.put6 r (.bool v1.s) (.slice A3 n3 c3) (.int .i64 v1.e) (.bool v2.s) (.slice A4 n4 c4) (.int .i64 v2.e)
 have hM := h4.put6 r (.bool v1.s) (.slice A3 n3 c3) (.int .i64 v1.e) (.bool v2.s) (.slice A4 n4 c4) (.int .i64 v2.e)
 have HB3 := below_put6 (g := w.heap.size + 1) BB (by omega) (.bool v1.s) (.slice A3 n3 c3) (.int .i64 v1.e) (.bool v2.s) (.slice A4 n4 c4) (.int .i64 v2.e)
 obtain ⟨z0, z1, z2, z3, z4, z5⟩ := qq.held
 exact bodyPost_ret (v := .tuple #[.agg #[.bool v1.s, .slice A3 n3 c3, .int .i64 v1.e, .bool v2.s, .slice A4 n4 c4, .int .i64 v2.e], .int .i64 0]) (by simp [results, Tryz.results25, go_sem, z0, z1, z2, z3, z4, z5]) rfl (by rw [HL.out]; exact ⟨_, _, _, _, _, _, rfl, hN, hM, HB3⟩)

end Go.Proofs.YtcbkhmejlaaieaaGreatDoor
namespace Go.Proofs.YtcbkhmejlaaieaaGreatDoor
open Go.RowKit

set_option maxRecDepth 100000 in
set_option maxHeartbeats 8000000 in
theorem add1_run (S : Sc) {w : World} {x y : Iv} {p : Int} {ga gb gp : Nat} {A1 : Option Addr} {n1 c1 : Nat} {A2 : Option Addr} {n2 c2 : Nat} {A3 : Option Addr} {n3 c3 : Nat} {A4 : Option Addr} {n4 c4 : Nat} (hT : Tab w) (h1 : Rd w .u64 Go.Proofs.YtcbkhmejlaaieaaGreatDoor.W A1 n1 c1 x.lo.l) (h2 : Rd w .u64 Go.Proofs.YtcbkhmejlaaieaaGreatDoor.W A2 n2 c2 x.hi.l) (h3 : Rd w .u64 Go.Proofs.YtcbkhmejlaaieaaGreatDoor.W A3 n3 c3 y.lo.l) (h4 : Rd w .u64 Go.Proofs.YtcbkhmejlaaieaaGreatDoor.W A4 n4 c4 y.hi.l) (xa : Ibx w ga x.lo.s A1 n1 c1 x.lo.e x.hi.s A2 n2 c2 x.hi.e) (xb : Ibx w gb y.lo.s A3 n3 c3 y.lo.e y.hi.s A4 n4 c4 y.hi.e) (xp : Cel w gp p) :
  Calls Tryz.prog 43 #[.pointer (some ⟨ga, 0, none⟩), .pointer (some ⟨gb, 0, none⟩), .pointer (some ⟨gp, 0, none⟩)] w (RunI (sumO S x y p) w) := by
 obtain ⟨q, hq⟩ : ∃ q : Except Int Iv, q = sumO S x y p := ⟨_, rfl⟩
 rw [← hq]
 have HQ := Lib.hid hq
 clear hq
 have BB := below_alloc w (.cells #[.bool false, .slice none 0 0, .int .i64 0, .bool false, .slice none 0 0, .int .i64 0] 26)
 have r := Ibx.new w false none 0 0 0 false none 0 0 0
 have la := xa.gl
 have lb := xb.gl
 have lp := xp.gl
 obtain ⟨a0, a1, a2, a3, a4, a5⟩ := xa.held
 obtain ⟨e0, e1, e2, e3, e4, e5⟩ := xb.held
 have p0 := xp.c0
 clear xa xp xb
 have G := mv BB rfl (J18 hT h1 h2 h3 h4 a0 a1 a2 a3 a4 a5 e0 e1 e2 e3 e4 e5 p0)
 clear hT h1 h2 h3 h4 a0 a1 a2 a3 a4 a5 e0 e1 e2 e3 e4 e5 p0
 obtain ⟨hT, h1, h2, h3, h4, a0, a1, a2, a3, a4, a5, e0, e1, e2, e3, e4, e5, p0⟩ := G
 go_enter Tryz.func43, Tryz.ntmps43
 obtain ⟨o1, ho1⟩ : ∃ o, o = sumO S x y p := ⟨_, rfl⟩
 have HO1 := Lib.hid ho1
 clear ho1
 go_wp2_with fail
 refine (runi_to HO1.out (sum_run S hT h1 h2 h3 h4)).mono ?_
 rintro en w1 (⟨v1, hv1, A5, n5, c5, A6, n6, c6, rfl, h5, h6, b⟩ | ⟨kk, hk, hk0, rfl, b⟩)
 rotate_left
 ·replace BB := bnx BB b rfl rfl rfl rfl
  clear b
  have HKK := Lib.hid (And.intro hk hk0)
  clear hk hk0
  go_wp2
  exact ⟨rfl, .inr ⟨kk, (HQ.out.trans (by simp only [← HO1.out, HKK.out.1])), HKK.out.2, rfl, BB⟩⟩
 have HV1 := Lib.hid hv1
 clear hv1
 replace BB := bnx BB b rfl rfl rfl rfl
 have G := mv b rfl (J19 hT h1 h2 h3 h4 a0 a1 a2 a3 a4 a5 e0 e1 e2 e3 e4 e5 p0 r)
 clear b hT h1 h2 h3 h4 a0 a1 a2 a3 a4 a5 e0 e1 e2 e3 e4 e5 p0 r
 obtain ⟨hT, h1, h2, h3, h4, a0, a1, a2, a3, a4, a5, e0, e1, e2, e3, e4, e5, p0, r⟩ := G
 have HL : q = .ok v1 := by rw [HQ.out, ← HO1.out, HV1.out]
 obtain ⟨f0, f1, f2, f3, f4, f5⟩ := r.open
 obtain ⟨z0, z1, z2, z3, z4, z5⟩ := r.held
 go_wp2
 have qq := r.put v1.lo.s A5 n5 c5 v1.lo.e v1.hi.s A6 n6 c6 v1.hi.e
 have hN := h5.put6 r (.bool v1.lo.s) (.slice A5 n5 c5) (.int .i64 v1.lo.e) (.bool v1.hi.s) (.slice A6 n6 c6) (.int .i64 v1.hi.e)
 have hM := h6.put6 r (.bool v1.lo.s) (.slice A5 n5 c5) (.int .i64 v1.lo.e) (.bool v1.hi.s) (.slice A6 n6 c6) (.int .i64 v1.hi.e)
 have HB3 := below_put6 (g := w.heap.size) BB (by omega) (.bool v1.lo.s) (.slice A5 n5 c5) (.int .i64 v1.lo.e) (.bool v1.hi.s) (.slice A6 n6 c6) (.int .i64 v1.hi.e)
 obtain ⟨z0, z1, z2, z3, z4, z5⟩ := qq.held
 exact bodyPost_ret (v := .agg #[.bool v1.lo.s, .slice A5 n5 c5, .int .i64 v1.lo.e, .bool v1.hi.s, .slice A6 n6 c6, .int .i64 v1.hi.e]) (by simp [results, Tryz.results43, go_sem, z0, z1, z2, z3, z4, z5]) rfl (.inl ⟨v1, HL, _, _, _, _, _, _, rfl, hN, hM, HB3⟩)

theorem corO_len {F : Rw → Rw → Except Int Rw} {x y : Iv} {L : List Rw} (h : corO F x y = .ok L) : L ≠ [] ∧ L.length ≤ 1000 := by
 obtain ⟨a, b, c, d, _, _, _, _, rfl⟩ := corO_ok h
 exact ⟨List.cons_ne_nil _ _, show 4 ≤ 1000 by decide⟩
theorem runl_to {f : FuncId} {args : Array Value} {w : World} {o o' : Except Int (List Rw)} (h : o = o') (hc : Calls Tryz.prog f args w (RunL o' w)) : Calls Tryz.prog f args w (RunL o w) := by subst h; exact hc

set_option maxRecDepth 100000 in
set_option maxHeartbeats 8000000 in
theorem sqrt1_run (S : Sc) {w : World} {x : Iv} {p : Int} {ga gp : Nat} {A1 : Option Addr} {n1 c1 : Nat} {A2 : Option Addr} {n2 c2 : Nat} (hT : Tab w) (h1 : Rd w .u64 Go.Proofs.YtcbkhmejlaaieaaGreatDoor.W A1 n1 c1 x.lo.l) (h2 : Rd w .u64 Go.Proofs.YtcbkhmejlaaieaaGreatDoor.W A2 n2 c2 x.hi.l) (xa : Ibx w ga x.lo.s A1 n1 c1 x.lo.e x.hi.s A2 n2 c2 x.hi.e) (xp : Cel w gp p) :
  Calls Tryz.prog 70 #[.pointer (some ⟨ga, 0, none⟩), .pointer (some ⟨gp, 0, none⟩)] w (RunI (sqtI S x p) w) := by
 obtain ⟨q, hq⟩ : ∃ q : Except Int Iv, q = sqtI S x p := ⟨_, rfl⟩
 rw [← hq]
 have HQ := Lib.hid hq
 clear hq
 have BB := below_alloc w (.cells #[.bool false, .slice none 0 0, .int .i64 0, .bool false, .slice none 0 0, .int .i64 0] 26)
 have r := Ibx.new w false none 0 0 0 false none 0 0 0
 have la := xa.gl
 have lp := xp.gl
 obtain ⟨a0, a1, a2, a3, a4, a5⟩ := xa.held
 have p0 := xp.c0
 clear xa xp
 have G := mv BB rfl (J10 hT h1 h2 a0 a1 a2 a3 a4 a5 p0)
 clear hT h1 h2 a0 a1 a2 a3 a4 a5 p0
 obtain ⟨hT, h1, h2, a0, a1, a2, a3, a4, a5, p0⟩ := G
 obtain ⟨t, ht⟩ : ∃ t, t = signR x.lo.s x.lo.l x.lo.e := ⟨_, rfl⟩
 have HT := Lib.hid ht
 clear ht
 go_enter Tryz.func70, Tryz.ntmps70
 go_wp2_with fail
 refine (show Calls _ _ _ _ (Ints t _) from by rw [HT.out]; exact dsign_raw (s1 := x.lo.s) (e1 := x.lo.e) hT h1).mono ?_
 rintro en w1 ⟨rfl, b⟩
 replace BB := bnx BB b rfl rfl rfl rfl
 have G := mv b rfl (J11 hT h1 h2 a0 a1 a2 a3 a4 a5 p0 r)
 clear b hT h1 h2 a0 a1 a2 a3 a4 a5 p0 r
 obtain ⟨hT, h1, h2, a0, a1, a2, a3, a4, a5, p0, r⟩ := G
 cases hd : decide (t < 0)
 rotate_left
 ·have HD := Lib.hid (of_decide_eq_true hd)
  go_wp2
  exact ⟨rfl, .inr ⟨4, by rw [HQ.out]; unfold sqtI; rw [if_pos (HT.out ▸ HD.out)], by decide, rfl, BB⟩⟩
 have HD := Lib.hid (of_decide_eq_false hd)
 have HSQ : sqtI S x p = rooI S x p := by unfold sqtI; rw [if_neg (HT.out ▸ HD.out)]
 have HSQ := Lib.hid HSQ
 obtain ⟨o1, ho1⟩ : ∃ o, o = rooI S x p := ⟨_, rfl⟩
 have HO1 := Lib.hid ho1
 clear ho1
 go_wp2_with fail
 refine (runi_to HO1.out (roots_run S hT h1 h2)).mono ?_
 rintro en w2 (⟨v1, hv1, A5, n5, c5, A6, n6, c6, rfl, h5, h6, b⟩ | ⟨kk, hk, hk0, rfl, b⟩)
 rotate_left
 ·replace BB := bnx BB b rfl rfl rfl rfl
  clear b
  have HKK := Lib.hid (And.intro hk hk0)
  clear hk hk0
  go_wp2
  exact ⟨rfl, .inr ⟨kk, (by rw [HQ.out, HSQ.out, ← HO1.out, HKK.out.1]), HKK.out.2, rfl, BB⟩⟩
 have HV1 := Lib.hid hv1
 clear hv1
 replace BB := bnx BB b rfl rfl rfl rfl
 have G := mv b rfl (J11 hT h1 h2 a0 a1 a2 a3 a4 a5 p0 r)
 clear b hT h1 h2 a0 a1 a2 a3 a4 a5 p0 r
 obtain ⟨hT, h1, h2, a0, a1, a2, a3, a4, a5, p0, r⟩ := G
 have HL : q = .ok v1 := by rw [HQ.out, HSQ.out, ← HO1.out, HV1.out]
 obtain ⟨f0, f1, f2, f3, f4, f5⟩ := r.open
 obtain ⟨z0, z1, z2, z3, z4, z5⟩ := r.held
 go_wp2
 have qq := r.put v1.lo.s A5 n5 c5 v1.lo.e v1.hi.s A6 n6 c6 v1.hi.e
 have hN := h5.put6 r (.bool v1.lo.s) (.slice A5 n5 c5) (.int .i64 v1.lo.e) (.bool v1.hi.s) (.slice A6 n6 c6) (.int .i64 v1.hi.e)
 have hM := h6.put6 r (.bool v1.lo.s) (.slice A5 n5 c5) (.int .i64 v1.lo.e) (.bool v1.hi.s) (.slice A6 n6 c6) (.int .i64 v1.hi.e)
 have HB3 := below_put6 (g := w.heap.size) BB (by omega) (.bool v1.lo.s) (.slice A5 n5 c5) (.int .i64 v1.lo.e) (.bool v1.hi.s) (.slice A6 n6 c6) (.int .i64 v1.hi.e)
 obtain ⟨z0, z1, z2, z3, z4, z5⟩ := qq.held
 exact bodyPost_ret (v := .agg #[.bool v1.lo.s, .slice A5 n5 c5, .int .i64 v1.lo.e, .bool v1.hi.s, .slice A6 n6 c6, .int .i64 v1.hi.e]) (by simp [results, Tryz.results70, go_sem, z0, z1, z2, z3, z4, z5]) rfl (.inl ⟨v1, HL, _, _, _, _, _, _, rfl, hN, hM, HB3⟩)

end Go.Proofs.YtcbkhmejlaaieaaGreatDoor
namespace Go.Proofs.YtcbkhmejlaaieaaGreatDoor
open Go.RowKit

theorem cell_oth3 {w : World} {k g i : Nat} {v : Value} (h : w.cell? ⟨k, i, none⟩ = some v) (hne : k ≠ g) (u0 u1 u2 : Value) : (((w.setCell ⟨g, 0, none⟩ u0).setCell ⟨g, 1, none⟩ u1).setCell ⟨g, 2, none⟩ u2).cell? ⟨k, i, none⟩ = some v := cell_oth (cell_oth (cell_oth h hne 0 u0) hne 1 u1) hne 2 u2
end Go.Proofs.YtcbkhmejlaaieaaGreatDoor
namespace Go.Proofs.YtcbkhmejlaaieaaGreatDoor
open Go.RowKit

theorem qs_four {w : World} {g : Nat} (hg : w.heap.size = g) {a b c d : Rw} {A1 : Option Addr} {n1 c1 : Nat} {A2 : Option Addr} {n2 c2 : Nat} {A3 : Option Addr} {n3 c3 : Nat} {A4 : Option Addr} {n4 c4 : Nat} (h1 : Rd w .u64 Go.Proofs.YtcbkhmejlaaieaaGreatDoor.W A1 n1 c1 a.l) (h2 : Rd w .u64 Go.Proofs.YtcbkhmejlaaieaaGreatDoor.W A2 n2 c2 b.l) (h3 : Rd w .u64 Go.Proofs.YtcbkhmejlaaieaaGreatDoor.W A3 n3 c3 c.l) (h4 : Rd w .u64 Go.Proofs.YtcbkhmejlaaieaaGreatDoor.W A4 n4 c4 d.l) : Qs (w.alloc (.cells #[.bool a.s, .slice A1 n1 c1, .int .i64 a.e, .bool b.s, .slice A2 n2 c2, .int .i64 b.e, .bool c.s, .slice A3 n3 c3, .int .i64 c.e, .bool d.s, .slice A4 n4 c4, .int .i64 d.e] 24)) g [a, b, c, d] := by
 subst hg
 have bl := below_alloc w (.cells #[.bool a.s, .slice A1 n1 c1, .int .i64 a.e, .bool b.s, .slice A2 n2 c2, .int .i64 b.e, .bool c.s, .slice A3 n3 c3, .int .i64 c.e, .bool d.s, .slice A4 n4 c4, .int .i64 d.e] 24)
 have hc : ∀ j : Nat, (w.alloc (.cells #[.bool a.s, .slice A1 n1 c1, .int .i64 a.e, .bool b.s, .slice A2 n2 c2, .int .i64 b.e, .bool c.s, .slice A3 n3 c3, .int .i64 c.e, .bool d.s, .slice A4 n4 c4, .int .i64 d.e] 24)).cell? ⟨w.heap.size, j, none⟩ = _ := fun j => cell_of_row _ _ j _ 24 (0, 0) (heap_alloc_new w _)
 intro i hi
 rcases (show i = 0 ∨ i = 1 ∨ i = 2 ∨ i = 3 by simp at hi; omega) with rfl | rfl | rfl | rfl
 ·exact ⟨A1, n1, c1, ⟨hc 0, hc 1, hc 2⟩, h1.next bl rfl⟩
 ·exact ⟨A2, n2, c2, ⟨hc 3, hc 4, hc 5⟩, h2.next bl rfl⟩
 ·exact ⟨A3, n3, c3, ⟨hc 6, hc 7, hc 8⟩, h3.next bl rfl⟩
 ·exact ⟨A4, n4, c4, ⟨hc 9, hc 10, hc 11⟩, h4.next bl rfl⟩
theorem four_x (a b : Rw) {i : Nat} (hi : i < 4) : [a, a, b, b].getD i Rw.zero = [a, b].getD (i / 2) Rw.zero := by
 rcases (show i = 0 ∨ i = 1 ∨ i = 2 ∨ i = 3 by omega) with rfl | rfl | rfl | rfl <;> rfl
theorem four_y (a b : Rw) {i : Nat} (hi : i < 4) : [a, b, a, b].getD i Rw.zero = [a, b].getD (i % 2) Rw.zero := by
 rcases (show i = 0 ∨ i = 1 ∨ i = 2 ∨ i = 3 by omega) with rfl | rfl | rfl | rfl <;> rfl
theorem pre_step {F : Rw → Rw → Except Int Rw} {x y : Iv} {L : List Rw} {i : Nat} {a b v : Rw} (h : Pre F x y i L) (hi : i < 4) (ha : a = [x.lo, x.lo, x.hi, x.hi].getD i Rw.zero) (hb : b = [y.lo, y.hi, y.lo, y.hi].getD i Rw.zero) (hv : F a b = .ok v) : Pre F x y (i + 1) (L ++ [v]) := by
 have e : 2 * (i / 2) + i % 2 = i := by omega
 have := pre_snoc (i := i / 2) (j := i % 2) (v := v) (a := a) (b := b) (by rw [e]; exact h) (by omega) (by rw [ha, four_x _ _ hi]) (by rw [hb, four_y _ _ hi]) hv
 rwa [show 2 * (i / 2) + (i % 2 + 1) = i + 1 by omega] at this
theorem pre_stop {F : Rw → Rw → Except Int Rw} {x y : Iv} {L : List Rw} {i : Nat} {a b : Rw} {k : Int} (h : Pre F x y i L) (hi : i < 4) (ha : a = [x.lo, x.lo, x.hi, x.hi].getD i Rw.zero) (hb : b = [y.lo, y.hi, y.lo, y.hi].getD i Rw.zero) (hv : F a b = .error k) : corO F x y = .error k := by
 have e : 2 * (i / 2) + i % 2 = i := by omega
 exact pre_err (i := i / 2) (j := i % 2) (a := a) (b := b) (by rw [e]; exact h) (by omega) (by omega) (by rw [ha, four_x _ _ hi]) (by rw [hb, four_y _ _ hi]) hv
/-- one more: the least and the greatest go on -/
theorem lea_snoc (S : Sc) {L : List Rw} {z : Rw} (h : L ≠ []) : leaL S (L ++ [z]) = leastQ S.K (leaL S L) z ∧ greL S (L ++ [z]) = greatQ S.K (greL S L) z := by
 obtain ⟨a, l, rfl⟩ := getD_ne h
 constructor
 ·show (l ++ [z]).foldl (leastQ S.K) a = _
  rw [List.foldl_append]; rfl
 ·show (l ++ [z]).foldl (greatQ S.K) a = _
  rw [List.foldl_append]; rfl
theorem okc_err {o : Except Int Rw} (h : okc o ≠ 0) : o = .error (okc o) := by
 cases o with
 | ok v => exact absurd rfl h
 | error k => rfl
theorem okc_ok {o : Except Int Rw} (hc : Cod o) (h : okc o = 0) : o = .ok (orw o) := by
 cases o with
 | ok v => rfl
 | error k => exact absurd h (hc k rfl)
theorem Qs.put3 {w : World} {g g' : Nat} {L : List Rw} {s0 : Bool} {A0 : Option Addr} {n0 c0 : Nat} {e0 : Int} (h : Qs w g L) (hb : Box w g' s0 A0 n0 c0 e0) (hne : g ≠ g') (u0 u1 u2 : Value) : Qs (((w.setCell ⟨g', 0, none⟩ u0).setCell ⟨g', 1, none⟩ u1).setCell ⟨g', 2, none⟩ u2) g L := fun i hi => by
 obtain ⟨A, n, c, ⟨h0, h1, h2⟩, r⟩ := h i hi
 exact ⟨A, n, c, ⟨cell_oth3 h0 hne u0 u1 u2, cell_oth3 h1 hne u0 u1 u2, cell_oth3 h2 hne u0 u1 u2⟩, r.put3 hb u0 u1 u2⟩

end Go.Proofs.YtcbkhmejlaaieaaGreatDoor
