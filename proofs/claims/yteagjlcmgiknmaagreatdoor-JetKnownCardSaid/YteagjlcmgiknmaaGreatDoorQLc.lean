/-
 How functions end that tell outcomes; contracts of arith's down, up, product and of quotient's closure, at this translation. Condition: the slices read as limbs, the table of math/bits reads as its text lays it.
-/
import Derived.Test.YteagjlcmgiknmaaGreatDoorQLb
import Derived.Test.YteagjlcmgiknmaaGreatDoorQEb
set_option maxHeartbeats 8000000
set_option maxRecDepth 100000
namespace Go.Proofs.YteagjlcmgiknmaaGreatDoor
open Go.RowKit

def TellQ (o : Except Int Rw) (w : World) (en : Ending) (w' : World) : Prop := ∃ A n c, en = .returned (.tuple #[.agg #[.bool (orw o).s, .slice A n c, .int .i64 (orw o).e], .int .i64 (okc o)]) ∧ Rd w' .u64 Go.Proofs.YteagjlcmgiknmaaGreatDoor.W A n c (orw o).l ∧ Below w.heap.size w w'
def RunQ (o : Except Int Rw) (w : World) (en : Ending) (w' : World) : Prop := (∃ v, o = .ok v ∧ GivQ v w en w') ∨ (∃ k, o = .error k ∧ k ≠ 0 ∧ Faults k w en w')
def RunI (o : Except Int Iv) (w : World) (en : Ending) (w' : World) : Prop := (∃ v, o = .ok v ∧ GivI v w en w') ∨ (∃ k, o = .error k ∧ k ≠ 0 ∧ Faults k w en w')
def TellO (o : Except Int Iv) : World → Ending → World → Prop := TellI (okc o) (oiv o)
section
variable {f : FuncId} {args : Array Value} {w : World}
theorem tellq_to {o o' : Except Int Rw} (h : o = o') (hc : Calls Tryz.prog f args w (TellQ o' w)) : Calls Tryz.prog f args w (TellQ o w) := by subst h; exact hc
theorem runq_to {o o' : Except Int Rw} (h : o = o') (hc : Calls Tryz.prog f args w (RunQ o' w)) : Calls Tryz.prog f args w (RunQ o w) := by subst h; exact hc
theorem runi_to {o o' : Except Int Iv} (h : o = o') (hc : Calls Tryz.prog f args w (RunI o' w)) : Calls Tryz.prog f args w (RunI o w) := by subst h; exact hc
theorem tello_to {o o' : Except Int Iv} (h : o = o') (hc : Calls Tryz.prog f args w (TellO o' w)) : Calls Tryz.prog f args w (TellO o w) := by subst h; exact hc
theorem tells_oc (S : Sc) {P : Int → Bool → Nat → Int → Prop} (ho : Only P) (hz : Null P) (h : Calls Tryz.prog f args w (Tells P w)) : Calls Tryz.prog f args w (TellQ (S.oc P) w) := h.mono fun en w' => by
 rintro ⟨k, s, A, n, c, m, x, rfl, hp, hN, b⟩
 have h2 := S.is P k s m x ho hp
 by_cases hk : k = 0
 ·subst hk
  rw [h2.1 rfl]
  exact ⟨A, n, c, rfl, hN.rd, b⟩
 ·rw [h2.2 hk]
  obtain ⟨rfl, rfl, rfl⟩ := hz _ _ _ _ hp hk
  have h3 := hN.rd
  rw [dig_zero] at h3
  exact ⟨A, n, c, rfl, h3, b⟩
end

theorem dadd_tell (S : Sc) {w : World} {a b : Rw} {A1 : Option Addr} {n1 c1 : Nat} {A2 : Option Addr} {n2 c2 : Nat} (hT : Tab w) (h1 : Rd w .u64 Go.Proofs.YteagjlcmgiknmaaGreatDoor.W A1 n1 c1 a.l) (h2 : Rd w .u64 Go.Proofs.YteagjlcmgiknmaaGreatDoor.W A2 n2 c2 b.l) : Calls Tryz.prog 162 #[.agg #[.bool a.s, .slice A1 n1 c1, .int .i64 a.e], .agg #[.bool b.s, .slice A2 n2 c2, .int .i64 b.e]] w (TellQ (addO S a b) w) := tells_oc S addR_only addR_null (dadd_raw S.big hT h1 h2)
theorem dmul_tell (S : Sc) {w : World} {a b : Rw} {A1 : Option Addr} {n1 c1 : Nat} {A2 : Option Addr} {n2 c2 : Nat} (hT : Tab w) (h1 : Rd w .u64 Go.Proofs.YteagjlcmgiknmaaGreatDoor.W A1 n1 c1 a.l) (h2 : Rd w .u64 Go.Proofs.YteagjlcmgiknmaaGreatDoor.W A2 n2 c2 b.l) : Calls Tryz.prog 9 #[.agg #[.bool a.s, .slice A1 n1 c1, .int .i64 a.e], .agg #[.bool b.s, .slice A2 n2 c2, .int .i64 b.e]] w (TellQ (mulO S a b) w) := tells_oc S mulR_only mulR_null (dmul_raw hT h1 h2)
theorem prec_cases (p : Int) (t : Bool) : ((1 ≤ p ∧ p ≤ 2000) ∧ t = true) ∨ (p < 1 ∨ 2000 < p ∨ t = false) := by
 cases t
 ·exact .inr (.inr (.inr rfl))
 ·by_cases h : 1 ≤ p ∧ p ≤ 2000
  ·exact .inl ⟨h, rfl⟩
  ·exact .inr (by omega)
theorem down_tell (S : Sc) {p : Int} {w : World} {a : Rw} {A1 : Option Addr} {n1 c1 : Nat} (hT : Tab w) (h1 : Rd w .u64 Go.Proofs.YteagjlcmgiknmaaGreatDoor.W A1 n1 c1 a.l) : Calls Tryz.prog 78 #[.agg #[.bool a.s, .slice A1 n1 c1, .int .i64 a.e], .int .i64 p] w (TellQ (rndO S a p false) w) := by
 refine tells_oc S rndR_only rndR_null ?_
 unfold rndR
 rcases prec_cases p a.may with h | h
 ·rw [if_pos h]
  obtain ⟨n, rfl⟩ := Int.eq_ofNat_of_zero_le (show 0 ≤ p by omega)
  obtain ⟨hN, hO, _⟩ := rd_okd h1 h.2
  exact rdown_ok hT hN hO (by omega) (by omega)
 ·rw [if_neg (by rintro ⟨h2, h3⟩; rw [h3] at h; rcases h with h | h | h; omega; omega; cases h)]
  exact rdown_no hT h1 h
theorem up_tell (S : Sc) {p : Int} {w : World} {a : Rw} {A1 : Option Addr} {n1 c1 : Nat} (hT : Tab w) (h1 : Rd w .u64 Go.Proofs.YteagjlcmgiknmaaGreatDoor.W A1 n1 c1 a.l) : Calls Tryz.prog 77 #[.agg #[.bool a.s, .slice A1 n1 c1, .int .i64 a.e], .int .i64 p] w (TellQ (rndO S a p true) w) := by
 refine tells_oc S rndR_only rndR_null ?_
 unfold rndR
 rcases prec_cases p a.may with h | h
 ·rw [if_pos h]
  obtain ⟨n, rfl⟩ := Int.eq_ofNat_of_zero_le (show 0 ≤ p by omega)
  obtain ⟨hN, hO, _⟩ := rd_okd h1 h.2
  exact rup_ok hT hN hO (by omega) (by omega)
 ·rw [if_neg (by rintro ⟨h2, h3⟩; rw [h3] at h; rcases h with h | h | h; omega; omega; cases h)]
  exact rup_no hT h1 h
theorem quot_tell (S : Sc) {p : Int} {up : Bool} {w : World} {a b : Rw} {A1 : Option Addr} {n1 c1 : Nat} {A2 : Option Addr} {n2 c2 : Nat} (hT : Tab w) (h1 : Rd w .u64 Go.Proofs.YteagjlcmgiknmaaGreatDoor.W A1 n1 c1 a.l) (h2 : Rd w .u64 Go.Proofs.YteagjlcmgiknmaaGreatDoor.W A2 n2 c2 b.l) : Calls Tryz.prog 130 #[.agg #[.bool a.s, .slice A1 n1 c1, .int .i64 a.e], .agg #[.bool b.s, .slice A2 n2 c2, .int .i64 b.e], .int .i64 p, .bool up] w (TellQ (quoO S p up a b) w) := tells_oc S quotR_only quotR_null (dquot_raw hT h1 h2)
theorem must_rd {A1 : Option Addr} {n1 c1 : Nat} {a : Rw} {w : World} (h1 : Rd w .u64 Go.Proofs.YteagjlcmgiknmaaGreatDoor.W A1 n1 c1 a.l) :
  Calls Tryz.prog 76 #[.agg #[.bool a.s, .slice A1 n1 c1, .int .i64 a.e], .int .i64 0] w (GivQ a w) := by
 have BB := two_below w (.cells #[.bool a.s, .slice A1 n1 c1, .int .i64 a.e] 25) (.cells #[.bool a.s, .slice A1 n1 c1, .int .i64 a.e] 25)
 have h2 := h1.below BB
 go_enter Tryz.func76, Tryz.ntmps76
 go_wp2_with fail
 refine check_ok.mono ?_
 rintro e' w' ⟨rfl, rfl⟩
 go_wp2
 exact bodyPost_ret (v := .agg #[.bool a.s, .slice A1 n1 c1, .int .i64 a.e]) (by simp [results, Tryz.results76, go_sem]) rfl ⟨_, _, _, rfl, h2, BB⟩
theorem must_run {o : Except Int Rw} {w : World} {A1 : Option Addr} {n1 c1 : Nat} (hc : Cod o) (h1 : Rd w .u64 Go.Proofs.YteagjlcmgiknmaaGreatDoor.W A1 n1 c1 (orw o).l) :
  Calls Tryz.prog 76 #[.agg #[.bool (orw o).s, .slice A1 n1 c1, .int .i64 (orw o).e], .int .i64 (okc o)] w (RunQ o w) := by
 cases o with
 | ok v => exact (must_rd (a := v) h1).mono fun en w' h => .inl ⟨v, rfl, h⟩
 | error k => exact (must_bad (k := k) (hc k rfl)).mono fun en w' h => .inr ⟨k, rfl, hc k rfl, h⟩

theorem down_run (S : Sc) {p : Int} {w : World} {a : Rw} {A1 : Option Addr} {n1 c1 : Nat} (hT : Tab w) (h1 : Rd w .u64 Go.Proofs.YteagjlcmgiknmaaGreatDoor.W A1 n1 c1 a.l) :
  Calls Tryz.prog 146 #[.agg #[.bool a.s, .slice A1 n1 c1, .int .i64 a.e], .int .i64 p] w (RunQ (rndO S a p false) w) := by
 obtain ⟨q, hq⟩ : ∃ q : Except Int Rw, q = rndO S a p false := ⟨_, rfl⟩
 rw [← hq]
 have HQ := Lib.hid hq
 clear hq
 have BB := two_below w (.cells #[.bool a.s, .slice A1 n1 c1, .int .i64 a.e] 25) (.cells #[.bool false, .slice none 0 0, .int .i64 0] 25)
 obtain ⟨a10, a11, a12⟩ := ((Box.new w a.s A1 n1 c1 a.e).alloc (.cells #[.bool false, .slice none 0 0, .int .i64 0] 25)).held
 have r := box_one w (.cells #[.bool a.s, .slice A1 n1 c1, .int .i64 a.e] 25) false none 0 0 0
 have G := mv BB rfl <| And.intro hT <| h1
 clear hT h1
 obtain ⟨hT, h1⟩ := G
 go_enter Tryz.func146, Tryz.ntmps146
 obtain ⟨o1, ho1⟩ : ∃ o, o = rndO S a p false := ⟨_, rfl⟩
 have HO1 := Lib.hid ho1
 clear ho1
 have HC1 : Cod o1 := by rw [HO1.out]; exact rndO_cod
 go_wp2_with fail
 refine (tellq_to HO1.out (down_tell S hT h1)).mono ?_
 rintro en w1 ⟨A3, n3, c3, rfl, h3, b⟩
 replace BB := bnx BB b
 have G := mv b rfl (J3 hT h1 r)
 clear b hT h1 r
 obtain ⟨hT, h1, r⟩ := G
 go_wp2_with fail
 refine (must_run HC1 h3).mono ?_
 rintro en w2 (⟨v1, hv1, A5, n5, c5, rfl, h5, b⟩ | ⟨kk, hk, hk0, rfl, b⟩)
 rotate_left
 ·replace BB := bnx BB b
  clear b
  have HKK := Lib.hid (And.intro hk hk0)
  clear hk hk0
  go_wp2
  exact ⟨rfl, .inr ⟨kk, (HQ.out.trans (by simp only [← HO1.out, HKK.out.1])), HKK.out.2, rfl, BB⟩⟩
 have HV1 := Lib.hid hv1
 clear hv1
 clear h3
 replace BB := bnx BB b
 have G := mv b rfl (J3 hT h1 r)
 clear b hT h1 r
 obtain ⟨hT, h1, r⟩ := G
 have HL : q = .ok v1 := by rw [HQ.out, ← HO1.out, HV1.out]
 obtain ⟨f0, f1, f2⟩ := r.open
 obtain ⟨z0, z1, z2⟩ := r.held
 go_wp2
 have qq := r.put v1.s A5 n5 c5 v1.e
 have hN := h5.put3 r (.bool v1.s) (.slice A5 n5 c5) (.int .i64 v1.e)
 have HB3 := below_put3 (g := w.heap.size + 1) BB (by omega) (.bool v1.s) (.slice A5 n5 c5) (.int .i64 v1.e)
 obtain ⟨z0, z1, z2⟩ := qq.held
 exact bodyPost_ret (v := .agg #[.bool v1.s, .slice A5 n5 c5, .int .i64 v1.e]) (by simp [results, Tryz.results146, go_sem, z0, z1, z2]) rfl (.inl ⟨v1, HL, _, _, _, rfl, hN, HB3⟩)

theorem up_run (S : Sc) {p : Int} {w : World} {a : Rw} {A1 : Option Addr} {n1 c1 : Nat} (hT : Tab w) (h1 : Rd w .u64 Go.Proofs.YteagjlcmgiknmaaGreatDoor.W A1 n1 c1 a.l) :
  Calls Tryz.prog 147 #[.agg #[.bool a.s, .slice A1 n1 c1, .int .i64 a.e], .int .i64 p] w (RunQ (rndO S a p true) w) := by
 obtain ⟨q, hq⟩ : ∃ q : Except Int Rw, q = rndO S a p true := ⟨_, rfl⟩
 rw [← hq]
 have HQ := Lib.hid hq
 clear hq
 have BB := two_below w (.cells #[.bool a.s, .slice A1 n1 c1, .int .i64 a.e] 25) (.cells #[.bool false, .slice none 0 0, .int .i64 0] 25)
 obtain ⟨a10, a11, a12⟩ := ((Box.new w a.s A1 n1 c1 a.e).alloc (.cells #[.bool false, .slice none 0 0, .int .i64 0] 25)).held
 have r := box_one w (.cells #[.bool a.s, .slice A1 n1 c1, .int .i64 a.e] 25) false none 0 0 0
 have G := mv BB rfl <| And.intro hT <| h1
 clear hT h1
 obtain ⟨hT, h1⟩ := G
 go_enter Tryz.func147, Tryz.ntmps147
 obtain ⟨o1, ho1⟩ : ∃ o, o = rndO S a p true := ⟨_, rfl⟩
 have HO1 := Lib.hid ho1
 clear ho1
 have HC1 : Cod o1 := by rw [HO1.out]; exact rndO_cod
 go_wp2_with fail
 refine (tellq_to HO1.out (up_tell S hT h1)).mono ?_
 rintro en w1 ⟨A3, n3, c3, rfl, h3, b⟩
 replace BB := bnx BB b
 have G := mv b rfl (J3 hT h1 r)
 clear b hT h1 r
 obtain ⟨hT, h1, r⟩ := G
 go_wp2_with fail
 refine (must_run HC1 h3).mono ?_
 rintro en w2 (⟨v1, hv1, A5, n5, c5, rfl, h5, b⟩ | ⟨kk, hk, hk0, rfl, b⟩)
 rotate_left
 ·replace BB := bnx BB b
  clear b
  have HKK := Lib.hid (And.intro hk hk0)
  clear hk hk0
  go_wp2
  exact ⟨rfl, .inr ⟨kk, (HQ.out.trans (by simp only [← HO1.out, HKK.out.1])), HKK.out.2, rfl, BB⟩⟩
 have HV1 := Lib.hid hv1
 clear hv1
 clear h3
 replace BB := bnx BB b
 have G := mv b rfl (J3 hT h1 r)
 clear b hT h1 r
 obtain ⟨hT, h1, r⟩ := G
 have HL : q = .ok v1 := by rw [HQ.out, ← HO1.out, HV1.out]
 obtain ⟨f0, f1, f2⟩ := r.open
 obtain ⟨z0, z1, z2⟩ := r.held
 go_wp2
 have qq := r.put v1.s A5 n5 c5 v1.e
 have hN := h5.put3 r (.bool v1.s) (.slice A5 n5 c5) (.int .i64 v1.e)
 have HB3 := below_put3 (g := w.heap.size + 1) BB (by omega) (.bool v1.s) (.slice A5 n5 c5) (.int .i64 v1.e)
 obtain ⟨z0, z1, z2⟩ := qq.held
 exact bodyPost_ret (v := .agg #[.bool v1.s, .slice A5 n5 c5, .int .i64 v1.e]) (by simp [results, Tryz.results147, go_sem, z0, z1, z2]) rfl (.inl ⟨v1, HL, _, _, _, rfl, hN, HB3⟩)

theorem product_run (S : Sc) {w : World} {a b : Rw} {A1 : Option Addr} {n1 c1 : Nat} {A2 : Option Addr} {n2 c2 : Nat} (hT : Tab w) (h1 : Rd w .u64 Go.Proofs.YteagjlcmgiknmaaGreatDoor.W A1 n1 c1 a.l) (h2 : Rd w .u64 Go.Proofs.YteagjlcmgiknmaaGreatDoor.W A2 n2 c2 b.l) :
  Calls Tryz.prog 149 #[.agg #[.bool a.s, .slice A1 n1 c1, .int .i64 a.e], .agg #[.bool b.s, .slice A2 n2 c2, .int .i64 b.e]] w (RunQ (mulO S a b) w) := by
 obtain ⟨q, hq⟩ : ∃ q : Except Int Rw, q = mulO S a b := ⟨_, rfl⟩
 rw [← hq]
 have HQ := Lib.hid hq
 clear hq
 obtain ⟨BB, xa, xb, r⟩ := three_dbl w (s1 := a.s) (A1 := A1) (n1 := n1) (c1 := c1) (e1 := a.e) (s2 := b.s) (A2 := A2) (n2 := n2) (c2 := c2) (e2 := b.e)
 obtain ⟨a10, a11, a12⟩ := xa.held
 obtain ⟨a20, a21, a22⟩ := xb.held
 have G := mv BB rfl (J3 hT h1 h2)
 clear hT h1 h2
 obtain ⟨hT, h1, h2⟩ := G
 go_enter Tryz.func149, Tryz.ntmps149
 obtain ⟨o1, ho1⟩ : ∃ o, o = mulO S a b := ⟨_, rfl⟩
 have HO1 := Lib.hid ho1
 clear ho1
 have HC1 : Cod o1 := by rw [HO1.out]; exact mulO_cod
 go_wp2_with fail
 refine (tellq_to HO1.out (dmul_tell S hT h1 h2)).mono ?_
 rintro en w1 ⟨A3, n3, c3, rfl, h3, b⟩
 replace BB := bnx BB b
 have G := mv b rfl (J4 hT h1 h2 r)
 clear b hT h1 h2 r
 obtain ⟨hT, h1, h2, r⟩ := G
 go_wp2_with fail
 refine (must_run HC1 h3).mono ?_
 rintro en w2 (⟨v1, hv1, A5, n5, c5, rfl, h5, b⟩ | ⟨kk, hk, hk0, rfl, b⟩)
 rotate_left
 ·replace BB := bnx BB b
  clear b
  have HKK := Lib.hid (And.intro hk hk0)
  clear hk hk0
  go_wp2
  exact ⟨rfl, .inr ⟨kk, (HQ.out.trans (by simp only [← HO1.out, HKK.out.1])), HKK.out.2, rfl, BB⟩⟩
 have HV1 := Lib.hid hv1
 clear hv1
 clear h3
 replace BB := bnx BB b
 have G := mv b rfl (J4 hT h1 h2 r)
 clear b hT h1 h2 r
 obtain ⟨hT, h1, h2, r⟩ := G
 have HL : q = .ok v1 := by rw [HQ.out, ← HO1.out, HV1.out]
 obtain ⟨f0, f1, f2⟩ := r.open
 obtain ⟨z0, z1, z2⟩ := r.held
 go_wp2
 have qq := r.put v1.s A5 n5 c5 v1.e
 have hN := h5.put3 r (.bool v1.s) (.slice A5 n5 c5) (.int .i64 v1.e)
 have HB3 := below_put3 (g := w.heap.size + 2) BB (by omega) (.bool v1.s) (.slice A5 n5 c5) (.int .i64 v1.e)
 obtain ⟨z0, z1, z2⟩ := qq.held
 exact bodyPost_ret (v := .agg #[.bool v1.s, .slice A5 n5 c5, .int .i64 v1.e]) (by simp [results, Tryz.results149, go_sem, z0, z1, z2]) rfl (.inl ⟨v1, HL, _, _, _, rfl, hN, HB3⟩)

theorem quotient1_run (S : Sc) {p : Int} {up : Bool} {g g2 : Nat} {w : World} {a b : Rw} {A1 : Option Addr} {n1 c1 : Nat} {A2 : Option Addr} {n2 c2 : Nat} (hT : Tab w) (h1 : Rd w .u64 Go.Proofs.YteagjlcmgiknmaaGreatDoor.W A1 n1 c1 a.l) (h2 : Rd w .u64 Go.Proofs.YteagjlcmgiknmaaGreatDoor.W A2 n2 c2 b.l) (gp : Cel w g p) (gu : w.cell? ⟨g2, 0, none⟩ = some (.bool up)) :
  Calls Tryz.prog 129 #[.agg #[.bool a.s, .slice A1 n1 c1, .int .i64 a.e], .agg #[.bool b.s, .slice A2 n2 c2, .int .i64 b.e], .pointer (some ⟨g, 0, none⟩), .pointer (some ⟨g2, 0, none⟩)] w (RunQ (quoO S p up a b) w) := by
 obtain ⟨q, hq⟩ : ∃ q : Except Int Rw, q = quoO S p up a b := ⟨_, rfl⟩
 rw [← hq]
 have HQ := Lib.hid hq
 clear hq
 obtain ⟨BB, xa, xb, r⟩ := three_dbl w (s1 := a.s) (A1 := A1) (n1 := n1) (c1 := c1) (e1 := a.e) (s2 := b.s) (A2 := A2) (n2 := n2) (c2 := c2) (e2 := b.e)
 obtain ⟨a10, a11, a12⟩ := xa.held
 obtain ⟨a20, a21, a22⟩ := xb.held
 have lp := gp.gl
 have lu := World.block_lt_of_cell? w _ gu
 have G := mv BB rfl (J5 hT h1 h2 gp gu)
 clear hT h1 h2 gp gu
 obtain ⟨hT, h1, h2, gp, gu⟩ := G
 have p0 := gp.c0
 go_enter Tryz.func129, Tryz.ntmps129
 obtain ⟨o1, ho1⟩ : ∃ o, o = quoO S p up a b := ⟨_, rfl⟩
 have HO1 := Lib.hid ho1
 clear ho1
 have HC1 : Cod o1 := by rw [HO1.out]; exact quoO_cod
 go_wp2_with fail
 refine (tellq_to HO1.out (quot_tell S hT h1 h2)).mono ?_
 rintro en w1 ⟨A3, n3, c3, rfl, h3, b⟩
 replace BB := bnx BB b
 have G := mv b rfl (J6 hT h1 h2 gp gu r)
 clear b hT h1 h2 gp gu r
 obtain ⟨hT, h1, h2, gp, gu, r⟩ := G
 go_wp2_with fail
 refine (must_run HC1 h3).mono ?_
 rintro en w2 (⟨v1, hv1, A5, n5, c5, rfl, h5, b⟩ | ⟨kk, hk, hk0, rfl, b⟩)
 rotate_left
 ·replace BB := bnx BB b
  clear b
  have HKK := Lib.hid (And.intro hk hk0)
  clear hk hk0
  go_wp2
  exact ⟨rfl, .inr ⟨kk, (HQ.out.trans (by simp only [← HO1.out, HKK.out.1])), HKK.out.2, rfl, BB⟩⟩
 have HV1 := Lib.hid hv1
 clear hv1
 clear h3
 replace BB := bnx BB b
 have G := mv b rfl (J6 hT h1 h2 gp gu r)
 clear b hT h1 h2 gp gu r
 obtain ⟨hT, h1, h2, gp, gu, r⟩ := G
 have HL : q = .ok v1 := by rw [HQ.out, ← HO1.out, HV1.out]
 obtain ⟨f0, f1, f2⟩ := r.open
 obtain ⟨z0, z1, z2⟩ := r.held
 go_wp2
 have qq := r.put v1.s A5 n5 c5 v1.e
 have hN := h5.put3 r (.bool v1.s) (.slice A5 n5 c5) (.int .i64 v1.e)
 have HB3 := below_put3 (g := w.heap.size + 2) BB (by omega) (.bool v1.s) (.slice A5 n5 c5) (.int .i64 v1.e)
 obtain ⟨z0, z1, z2⟩ := qq.held
 exact bodyPost_ret (v := .agg #[.bool v1.s, .slice A5 n5 c5, .int .i64 v1.e]) (by simp [results, Tryz.results129, go_sem, z0, z1, z2]) rfl (.inl ⟨v1, HL, _, _, _, rfl, hN, HB3⟩)

end Go.Proofs.YteagjlcmgiknmaaGreatDoor
