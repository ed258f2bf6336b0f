/-
 Contract of the statement DecBack's function at this translation: it returns true, whatever its arguments. Conditions: the slice reads as limbs; the two tables, and the two errors of strconv, lie as their texts lay them.
-/
import Derived.Test.YtefofejgogokpaaGreatDoorUKz
import Derived.Test.YtefofejgogokpaaGreatDoorUVj
import Derived.Test.YtefofejgogokpaaGreatDoorUVa
set_option maxHeartbeats 8000000
set_option maxRecDepth 100000
namespace Go.Proofs.YtefofejgogokpaaGreatDoor
open Go.RowKit

theorem text_same {n Q Q' : Nat} (h : (pointT n (asc (padT n Q))).length ≤ 60) (h' : (pointT n (asc (padT n Q'))).length ≤ 60) : txt (pointT n (asc (padT n Q))) = txt (pointT n (asc (padT n Q'))) ↔ Q = Q' := by
 constructor
 ·intro e
  obtain ⟨D, r, q, _⟩ := read_text h
  obtain ⟨D', r', q', _⟩ := read_text h'
  have e2 := congrArg (fun s : ByteArray => readD s.data.toList) e
  have e3 : readD ((pointT n (asc (padT n Q))).map UInt8.ofNat) = readD ((pointT n (asc (padT n Q'))).map UInt8.ofNat) := e2
  rw [r, r'] at e3
  injection e3 with e3
  injection e3 with e3 _
  rw [← q, ← q', e3]
 ·rintro rfl; rfl
theorem back_text {w : World} {A : Option Addr} {n c q : Nat} {l : List Nat} {e : Int} {up : Bool} (hT : Tab w) (hP : PowT w) (h : Rd w .u64 Go.Proofs.YtefofejgogokpaaGreatDoor.W A n c l) (hd : mayD false l e = true) (hq : q ≤ 40) (h1 : -60 ≤ e) (h2 : e ≤ 100) :
  Calls Tryz.prog 18 #[.agg #[.bool false, .slice A n c, .int .i64 e], .int .i64 (q : Int), .bool up] w fun en w' => en = .returned (.tuple #[.string (txt (pointT q (asc (padT q (textQ false (val Go.Proofs.YtefofejgogokpaaGreatDoor.W l) e q up))))), .int .i64 0]) ∧ Below w.heap.size w w' := by
 have hk : textK false l e (q : Int) = 0 := by
  unfold textK
  rw [if_pos ⟨hd, by omega, by omega⟩, if_pos ⟨by omega, by omega⟩]
 have := dtext_any (s := false) (e := e) (N := (q : Int)) (up := up) hT hP h
 unfold textS at this
 rw [hk, if_pos rfl, Int.toNat_natCast] at this
 unfold textT at this
 rw [if_neg (fun hh => by cases hh.1), List.nil_append] at this
 exact this
theorem lit_told {w : World} {args : Array Value} {s3 s4 : Bool} {v3 v4 : Nat} {f3 f4 : Int} (h : Calls Tryz.prog 10 args w (TellI 0 ⟨rwOf s3 v3 f3, rwOf s4 v4 f4⟩ w)) (o3 : OkD s3 v3 f3) (o4 : OkD s4 v4 f4) :
  Calls Tryz.prog 10 args w fun en w' => ∃ A n c B m d, en = .returned (.tuple #[.agg #[.bool s3, .slice A n c, .int .i64 f3, .bool s4, .slice B m d, .int .i64 f4], .int .i64 0]) ∧ Nt w' A n c v3 ∧ Nt w' B m d v4 ∧ Below w.heap.size w w' :=
 h.mono fun _ _ ⟨A, n, c, B, m, d, e, h1, h2, b⟩ => ⟨A, n, c, B, m, d, e, ⟨h1, okd_lt o3⟩, ⟨h2, okd_lt o4⟩, b⟩
theorem back_any {w : World} {A1 : Option Addr} {n1 c1 : Nat} {l1 : List Nat} {s1 : Bool} {e1 p : Int} (hE : Errs w) (hT : Tab w) (hP : PowT w) (h1 : Rd w .u64 Go.Proofs.YtefofejgogokpaaGreatDoor.W A1 n1 c1 l1) :
  Calls Tryz.prog 6 #[.agg #[.bool s1, .slice A1 n1 c1, .int .i64 e1], .int .i64 p] w fun en w' => ToldEnd w en w' := by
 have xn1 : n1 ≤ 9223372036854775807 := Nat.le_trans h1.cap h1.max
 obtain ⟨rn, hrn⟩ := Int.eq_ofNat_of_zero_le (show 0 ≤ IntKind.u64.wrap p by rw [IntKind.wrap_u64]; omega)
 obtain ⟨qn, hqn⟩ : ∃ q, q = rn % 41 := ⟨_, rfl⟩
 have uun : (rn : Int) % 41 = (qn : Int) := by omega
 have uxn : (qn : Int) ≤ 40 := by omega
 have uyn : qn ≤ 40 := by omega
 have uwn : (0 : Int) ≤ (rn : Int) := by omega
 clear hqn
 have BB := below_alloc w (.cells #[.bool s1, .slice A1 n1 c1, .int .i64 e1] 25)
 have x := Box.new w s1 A1 n1 c1 e1
 have G := mv BB rfl <| And.intro hE <| And.intro hT <| And.intro hP h1
 clear hE hT hP h1
 obtain ⟨hE, hT, hP, h1⟩ := G
 obtain ⟨a0, a1, a2⟩ := x.held
 clear x
 go_enter Tryz.func6, Tryz.ntmps6
 by_cases q1 : 4 < n1
 ·have d1 : decide ((4 : Int) < (n1 : Int)) = true := decide_eq_true (by omega)
  go_wp2_with fail
  refine (told4_any hE hT hP).mono ?_
  rintro en w99 ⟨rfl, b⟩
  replace BB := bnx BB b
  clear b
  go_wp2
  go_ret
  exact ⟨by first | rfl | (simp; done) | (simp; assumption), BB⟩
 have d1 : decide ((4 : Int) < (n1 : Int)) = false := decide_eq_false (by omega)
 go_wp2_with fail
 refine (dmay_any (s := s1) (e := e1) hT h1).mono ?_
 rintro en w2 ⟨rfl, b⟩
 replace BB := bnx BB b
 have G := mv b rfl (J7 hE hT hP h1 a0 a1 a2)
 clear b hE hT hP h1 a0 a1 a2
 obtain ⟨hE, hT, hP, h1, a0, a1, a2⟩ := G
 cases hd1 : mayD s1 l1 e1
 ·clear hd1
  go_wp2_with fail
  refine (told4_any hE hT hP).mono ?_
  rintro en w99 ⟨rfl, b⟩
  replace BB := bnx BB b
  clear b
  go_wp2
  go_ret
  exact ⟨by first | rfl | (simp; done) | (simp; assumption), BB⟩
 cases s1 with
 | true =>
  clear hd1
  go_wp2_with fail
  refine (told4_any hE hT hP).mono ?_
  rintro en w99 ⟨rfl, b⟩
  replace BB := bnx BB b
  clear b
  go_wp2
  go_ret
  exact ⟨by first | rfl | (simp; done) | (simp; assumption), BB⟩
 | false =>
  by_cases q2 : e1 < -60
  ·have d2 : decide (e1 < -60) = true := decide_eq_true q2
   clear hd1
   go_wp2_with fail
   refine (told4_any hE hT hP).mono ?_
   rintro en w99 ⟨rfl, b⟩
   replace BB := bnx BB b
   clear b
   go_wp2
   go_ret
   exact ⟨by first | rfl | (simp; done) | (simp; assumption), BB⟩
  have d2 : decide (e1 < -60) = false := decide_eq_false q2
  by_cases q3 : 100 < e1
  ·have d3 : decide (100 < e1) = true := decide_eq_true q3
   clear hd1
   go_wp2_with fail
   refine (told4_any hE hT hP).mono ?_
   rintro en w99 ⟨rfl, b⟩
   replace BB := bnx BB b
   clear b
   go_wp2
   go_ret
   exact ⟨by first | rfl | (simp; done) | (simp; assumption), BB⟩
  have d3 : decide (100 < e1) = false := decide_eq_false q3
  have hn70 : n1 ≤ 70 := by omega
  have r1 : -60 ≤ e1 := by omega
  have r2 : e1 ≤ 100 := by omega
  clear q2 q3
  obtain ⟨hm, hok⟩ := mayD_of h1.lt hd1
  obtain ⟨m, hm0⟩ : ∃ m, m = val Go.Proofs.YtefofejgogokpaaGreatDoor.W l1 := ⟨_, rfl⟩
  rw [← hm0] at hok
  obtain ⟨KS, hKS⟩ := scale_has
  have TV := textQ_val (K := KS) (m := m) (n := qn) (e := e1) hKS r1
  obtain ⟨Qd, hQd⟩ : ∃ z, z = textQ false m e1 qn false := ⟨_, rfl⟩
  obtain ⟨Qu, hQu⟩ : ∃ z, z = textQ false m e1 qn true := ⟨_, rfl⟩
  rw [← hQd, ← hQu] at TV
  obtain ⟨sa, hsa⟩ : ∃ z, z = txt (pointT qn (asc (padT qn Qd))) := ⟨_, rfl⟩
  obtain ⟨sb, hsb⟩ : ∃ z, z = txt (pointT qn (asc (padT qn Qu))) := ⟨_, rfl⟩
  have C1 : Hid (∀ W1 : World, Tab W1 → PowT W1 → Rd W1 .u64 Go.Proofs.YtefofejgogokpaaGreatDoor.W A1 n1 c1 l1 → Calls Tryz.prog 18 #[.agg #[.bool false, .slice A1 n1 c1, .int .i64 e1], .int .i64 (qn : Int), .bool false] W1 fun en w' => en = .returned (.tuple #[.string sa, .int .i64 0]) ∧ Below W1.heap.size W1 w') := fun W1 t q r => by
   rw [hsa, hQd, hm0]
   exact back_text t q r hd1 uyn r1 r2
  have C2 : Hid (∀ W1 : World, Tab W1 → PowT W1 → Rd W1 .u64 Go.Proofs.YtefofejgogokpaaGreatDoor.W A1 n1 c1 l1 → Calls Tryz.prog 18 #[.agg #[.bool false, .slice A1 n1 c1, .int .i64 e1], .int .i64 (qn : Int), .bool true] W1 fun en w' => en = .returned (.tuple #[.string sb, .int .i64 0]) ∧ Below W1.heap.size W1 w') := fun W1 t q r => by
   rw [hsb, hQu, hm0]
   exact back_text t q r hd1 uyn r1 r2
  have hla : sa.size = (pointT qn (asc (padT qn Qd))).length := by rw [hsa, txt_size]
  have hlb : sb.size = (pointT qn (asc (padT qn Qu))).length := by rw [hsb, txt_size]
  have hra : sa.size ≤ 60 → ∃ D, readD sa.data.toList = some (D, -(qn : Int)) ∧ numV D = Qd ∧ Digs D ∧ D.length ≤ 60 := fun h => by
   rw [hsa]
   exact read_text (by rw [← hla]; exact h)
  have hrb : sb.size ≤ 60 → ∃ D, readD sb.data.toList = some (D, -(qn : Int)) ∧ numV D = Qu ∧ Digs D ∧ D.length ≤ 60 := fun h => by
   rw [hsb]
   exact read_text (by rw [← hlb]; exact h)
  have hss : sa.size ≤ 60 → sb.size ≤ 60 → (sa = sb ↔ Qd = Qu) := fun h h' => by
   rw [hsa, hsb]
   exact text_same (by rw [← hla]; exact h) (by rw [← hlb]; exact h')
  have hsz : sa.size ≤ 10000 ∧ sb.size ≤ 10000 := by
   have e1' := textS_len (s := false) (e := e1) (N := (qn : Int)) (up := false) h1.lt
   have e2' := textS_len (s := false) (e := e1) (N := (qn : Int)) (up := true) h1.lt
   have hk : textK false l1 e1 (qn : Int) = 0 := by unfold textK; rw [if_pos ⟨hd1, by omega, by omega⟩, if_pos ⟨by omega, by omega⟩]
   unfold textS textT at e1' e2'
   rw [hk, if_pos rfl, if_neg (fun hh => by cases hh.1), List.nil_append, Int.toNat_natCast, ← hm0] at e1' e2'
   rw [← hQd] at e1'
   rw [← hQu] at e2'
   omega
  have HRA := Lib.hid hra
  have HRB := Lib.hid hrb
  have HSS := Lib.hid hss
  have HTV := Lib.hid TV
  have HM := Lib.hid hm0
  have HMB := Lib.hid hm
  obtain ⟨hza, hzb⟩ := hsz
  clear hsa hsb hla hlb hra hrb hss TV hQd hQu hm0 hm hd1 q1
  go_wp2_with fail
  refine (dfew_yes (s := false) (e := e1) hn70).mono ?_
  rintro en w3 ⟨rfl, b⟩
  replace BB := bnx BB b
  have G := mv b rfl (J7 hE hT hP h1 a0 a1 a2)
  clear b hE hT hP h1 a0 a1 a2
  obtain ⟨hE, hT, hP, h1, a0, a1, a2⟩ := G
  go_wp2_with fail
  refine (C1.out _ hT hP h1).mono ?_
  rintro en w4 ⟨rfl, b⟩
  replace BB := bnx BB b
  have G := mv b rfl (J7 hE hT hP h1 a0 a1 a2)
  clear b hE hT hP h1 a0 a1 a2
  obtain ⟨hE, hT, hP, h1, a0, a1, a2⟩ := G
  go_wp2_with fail
  refine (C2.out _ hT hP h1).mono ?_
  rintro en w5 ⟨rfl, b⟩
  replace BB := bnx BB b
  have G := mv b rfl (J7 hE hT hP h1 a0 a1 a2)
  clear b hE hT hP h1 a0 a1 a2
  obtain ⟨hE, hT, hP, h1, a0, a1, a2⟩ := G
  clear C1 C2
  by_cases g1 : 60 < sa.size
  ·have d4 : decide ((60 : Int) < (sa.size : Int)) = true := decide_eq_true (by omega)
   go_wp2_with fail
   refine (told4_any hE hT hP).mono ?_
   rintro en w99 ⟨rfl, b⟩
   replace BB := bnx BB b
   clear b
   go_wp2
   go_ret
   exact ⟨by first | rfl | (simp; done) | (simp; assumption), BB⟩
  have d4 : decide ((60 : Int) < (sa.size : Int)) = false := decide_eq_false (by omega)
  by_cases g2 : 60 < sb.size
  ·have d5 : decide ((60 : Int) < (sb.size : Int)) = true := decide_eq_true (by omega)
   go_wp2_with fail
   refine (told4_any hE hT hP).mono ?_
   rintro en w99 ⟨rfl, b⟩
   replace BB := bnx BB b
   clear b
   go_wp2
   go_ret
   exact ⟨by first | rfl | (simp; done) | (simp; assumption), BB⟩
  have d5 : decide ((60 : Int) < (sb.size : Int)) = false := decide_eq_false (by omega)
  obtain ⟨D, ra, na, da, la⟩ := HRA.out (by omega)
  obtain ⟨D', rb, nb, db, lb⟩ := HRB.out (by omega)
  have SS := HSS.out (by omega) (by omega)
  obtain ⟨x, hx, hc⟩ := dlit_ok (s := sa) (p := 1000) hE hT ra (by omega) (by omega)
  have HLA : Hid (∀ W1 : World, Errs W1 → Tab W1 → ∃ x, LitQ D (-(qn : Int)) 1000 x ∧ Calls Tryz.prog 10 #[.string sa, .int .i64 1000] W1 (TellI 0 x W1)) := fun W1 e t => dlit_ok (s := sa) (p := 1000) e t ra (by omega) (by omega)
  have HLB : Hid (∀ W1 : World, Errs W1 → Tab W1 → ∃ x, LitQ D' (-(qn : Int)) 1000 x ∧ Calls Tryz.prog 10 #[.string sb, .int .i64 1000] W1 (TellI 0 x W1)) := fun W1 e t => dlit_ok (s := sb) (p := 1000) e t rb (by omega) (by omega)
  clear hx hc x
  have XA := Lib.hid (And.intro ra (And.intro na SS))
  have EA : ∀ x, LitQ D (-(qn : Int)) 1000 x → _ := fun x h => lit_ends (K := KS) (p := 1000) (k := qn) hKS (by omega) (by omega) (by omega) da la h
  have EB : ∀ x, LitQ D' (-(qn : Int)) 1000 x → _ := fun x h => lit_ends (K := KS) (p := 1000) (k := qn) hKS (by omega) (by omega) (by omega) db lb h
  rw [na] at EA
  rw [nb] at EB
  have N1 : Nt w5 A1 n1 c1 m := by rw [HM.out]; exact (nt_of h1 HMB.out).1
  obtain ⟨xa, hxa, hca⟩ := HLA.out _ hE hT
  obtain ⟨s3, v3, f3, s4, v4, f4, rfl, o3, o4, e3, e4⟩ := EA _ hxa
  have H3 := Lib.hid (And.intro o3 (And.intro o4 e3))
  have HCA := Lib.hid (lit_told hca o3.1 o4.1)
  have HEB := Lib.hid EB
  clear EA EB hxa hca HLA o3 o4 e3 e4 ra na da la rb nb db lb SS HRA HRB HSS HMB HM h1
  go_wp2_with fail
  refine (HCA.out).mono ?_
  rintro en w6 ⟨A3, n3, c3, A4, n4, c4, rfl, N3, _, b⟩
  clear HCA
  replace BB := bnx BB b
  have G := mv b rfl (J7 hE hT hP a0 a1 a2 N1)
  clear b hE hT hP a0 a1 a2 N1
  obtain ⟨hE, hT, hP, a0, a1, a2, N1⟩ := G
  obtain ⟨i0, i1, i2, i3, i4, i5⟩ := (Ibx.new w6 s3 A3 n3 c3 f3 s4 A4 n4 c4 f4).held
  have b := below_alloc w6 (.cells #[.bool s3, .slice A3 n3 c3, .int .i64 f3, .bool s4, .slice A4 n4 c4, .int .i64 f4] 27)
  replace BB := bnx BB b
  have G := mv b rfl (J8 hE hT hP a0 a1 a2 N1 N3)
  clear b hE hT hP a0 a1 a2 N1 N3
  obtain ⟨hE, hT, hP, a0, a1, a2, N1, N3⟩ := G
  obtain ⟨xb, hxb, hcb⟩ := HLB.out _ hE hT
  obtain ⟨s5, v5, f5, s6, v6, f6, rfl, o5, o6, e5, e6⟩ := HEB.out _ hxb
  have H6 := Lib.hid (And.intro o5 (And.intro o6 e6))
  have HCB := Lib.hid (lit_told hcb o5.1 o6.1)
  clear hxb hcb HLB HEB o5 o6 e5 e6
  go_wp2_with fail
  refine (HCB.out).mono ?_
  rintro en w7 ⟨A5, n5, c5, A6, n6, c6, rfl, _, N6, b⟩
  clear HCB
  replace BB := bnx BB b
  have G := mv b rfl (J14 hE hT hP a0 a1 a2 N1 N3 i0 i1 i2 i3 i4 i5)
  clear b hE hT hP a0 a1 a2 N1 N3 i0 i1 i2 i3 i4 i5
  obtain ⟨hE, hT, hP, a0, a1, a2, N1, N3, i0, i1, i2, i3, i4, i5⟩ := G
  obtain ⟨j0, j1, j2, j3, j4, j5⟩ := (Ibx.new w7 s5 A5 n5 c5 f5 s6 A6 n6 c6 f6).held
  have b := below_alloc w7 (.cells #[.bool s5, .slice A5 n5 c5, .int .i64 f5, .bool s6, .slice A6 n6 c6, .int .i64 f6] 27)
  replace BB := bnx BB b
  have G := mv b rfl (J15 hE hT hP a0 a1 a2 N1 N3 i0 i1 i2 i3 i4 i5 N6)
  clear b hE hT hP a0 a1 a2 N1 N3 i0 i1 i2 i3 i4 i5 N6
  obtain ⟨hE, hT, hP, a0, a1, a2, N1, N3, i0, i1, i2, i3, i4, i5, N6⟩ := G
  have hT10 : (0 : Int) < ((10 ^ qn : Nat) : Int) := by have : 0 < 10 ^ qn := Nat.pow_pos (by omega); omega
  have u1 : vz KS s3 v3 f3 ≤ vz KS false m e1 := Int.le_of_mul_le_mul_right (Int.le_trans H3.out.2.2 HTV.out.1) hT10
  have u2 : vz KS false m e1 ≤ vz KS s6 v6 f6 := Int.le_of_mul_le_mul_right (Int.le_trans HTV.out.2.1 H6.out.2.2) hT10
  obtain ⟨z1, cc1, dz1⟩ : ∃ z, Hid (cmpV (vz KS s3 v3 f3) (vz KS false m e1) = z) ∧ decide (0 < z) = false := ⟨_, rfl, decide_eq_false (by rcases cmpV_cases (vz KS s3 v3 f3) (vz KS false m e1) with ⟨h, _⟩ | ⟨h, _⟩ | ⟨h, h'⟩ <;> omega)⟩
  obtain ⟨z2, cc2, dz2⟩ : ∃ z, Hid (cmpV (vz KS false m e1) (vz KS s6 v6 f6) = z) ∧ decide (0 < z) = false := ⟨_, rfl, decide_eq_false (by rcases cmpV_cases (vz KS false m e1) (vz KS s6 v6 f6) with ⟨h, _⟩ | ⟨h, _⟩ | ⟨h, h'⟩ <;> omega)⟩
  clear u1 u2 hT10
  go_wp2_with fail
  refine (dcmp_is hKS hT N3 N1 H3.out.1.1 hok cc1.out).mono ?_
  rintro en w8 ⟨rfl, b⟩
  clear N3
  replace BB := bnx BB b
  have G := mv b rfl (J20 hE hT hP a0 a1 a2 N1 i0 i1 i2 i3 i4 i5 N6 j0 j1 j2 j3 j4 j5)
  clear b hE hT hP a0 a1 a2 N1 i0 i1 i2 i3 i4 i5 N6 j0 j1 j2 j3 j4 j5
  obtain ⟨hE, hT, hP, a0, a1, a2, N1, i0, i1, i2, i3, i4, i5, N6, j0, j1, j2, j3, j4, j5⟩ := G
  go_wp2_with fail
  refine (dcmp_is hKS hT N1 N6 hok H6.out.2.1.1 cc2.out).mono ?_
  rintro en w9 ⟨rfl, b⟩
  clear N6
  replace BB := bnx BB b
  have G := mv b rfl (J19 hE hT hP a0 a1 a2 N1 i0 i1 i2 i3 i4 i5 j0 j1 j2 j3 j4 j5)
  clear b hE hT hP a0 a1 a2 N1 i0 i1 i2 i3 i4 i5 j0 j1 j2 j3 j4 j5
  obtain ⟨hE, hT, hP, a0, a1, a2, N1, i0, i1, i2, i3, i4, i5, j0, j1, j2, j3, j4, j5⟩ := G
  clear i0 i1 i2 i3 i4 i5 j0 j1 j2 j3 j4 j5
  have HEX := exact_any (s := sa) hE hT
  rw [XA.out.1] at HEX
  have HEX2 := Lib.hid HEX
  clear HEX
  go_wp2_with fail
  refine (HEX2.out).mono ?_
  rintro en u1 ⟨k7, s7, A7, n7, c7, m7, g7, rfl, P7, N7, b⟩
  have EX := exact_back hKS (by omega) XA.out.2.1 hok P7
  have EQ := EX.trans HTV.out.2.2.symm
  have SQ := EQ.trans XA.out.2.2.symm
  clear P7 EX EQ HEX2 XA HTV H3 H6 cc1 cc2 dz1 dz2 hok
  replace BB := bnx BB b
  have G := mv b rfl (J7 hE hT hP a0 a1 a2 N1)
  clear b hE hT hP a0 a1 a2 N1
  obtain ⟨hE, hT, hP, a0, a1, a2, N1⟩ := G
  obtain ⟨y0, y1, y2⟩ := (Box.new u1 s7 A7 n7 c7 g7).held
  have b := below_alloc u1 (.cells #[.bool s7, .slice A7 n7 c7, .int .i64 g7] 25)
  replace BB := bnx BB b
  have G := mv b rfl (J8 hE hT hP a0 a1 a2 N1 N7)
  clear b hE hT hP a0 a1 a2 N1 N7
  obtain ⟨hE, hT, hP, a0, a1, a2, N1, N7⟩ := G
  by_cases hq : sa = sb
  ·obtain ⟨rfl, rfl, rfl, rfl⟩ := SQ.2 hq
   clear SQ
   subst hq
   go_wp2_with fail
   refine (told4_any hE hT hP).mono ?_
   rintro en u2 ⟨rfl, b⟩
   clear hE hT hP
   replace BB := bnx BB b
   have G := mv b rfl (J8 a0 a1 a2 N1 N7 y0 y1 y2)
   clear b a0 a1 a2 N1 N7 y0 y1 y2
   obtain ⟨a0, a1, a2, N1, N7, y0, y1, y2⟩ := G
   have hsame := dsame_any (s := false) (t := false) (e := g7) (f := g7) N7 N1
   rw [decide_eq_true ⟨rfl, rfl, rfl⟩] at hsame
   go_wp2_with fail
   refine (hsame).mono ?_
   rintro en u3 ⟨rfl, b⟩
   replace BB := bnx BB b
   have G := mv b rfl (J8 a0 a1 a2 N1 N7 y0 y1 y2)
   clear b a0 a1 a2 N1 N7 y0 y1 y2
   obtain ⟨a0, a1, a2, N1, N7, y0, y1, y2⟩ := G
   go_wp2
   go_ret
   exact ⟨by first | rfl | (simp; done) | (simp; assumption), BB⟩
  ·have hsl : ¬ sa.toList = sb.toList := fun h => hq (by rw [ByteArray.toList_eq, ByteArray.toList_eq] at h; exact ByteArray.ext (Array.toList_inj.1 h))
   by_cases hk : k7 = 0
   ·subst hk
    have hn : ¬ (s7 = false ∧ m7 = m ∧ g7 = e1) := fun h => hq (SQ.1 ⟨rfl, h⟩)
    clear SQ
    go_wp2_with fail
    refine (told4_any hE hT hP).mono ?_
    rintro en u2 ⟨rfl, b⟩
    clear hE hT hP
    replace BB := bnx BB b
    have G := mv b rfl (J8 a0 a1 a2 N1 N7 y0 y1 y2)
    clear b a0 a1 a2 N1 N7 y0 y1 y2
    obtain ⟨a0, a1, a2, N1, N7, y0, y1, y2⟩ := G
    have hsame := dsame_any (s := s7) (t := false) (e := g7) (f := e1) N7 N1
    rw [decide_eq_false hn] at hsame
    go_wp2_with fail
    refine (hsame).mono ?_
    rintro en u3 ⟨rfl, b⟩
    replace BB := bnx BB b
    have G := mv b rfl (J8 a0 a1 a2 N1 N7 y0 y1 y2)
    clear b a0 a1 a2 N1 N7 y0 y1 y2
    obtain ⟨a0, a1, a2, N1, N7, y0, y1, y2⟩ := G
    go_wp2
    go_ret
    exact ⟨by first | rfl | (simp; done) | (simp; assumption), BB⟩
   ·have hk2 : (k7 == 0) = false := by simp [hk]
    clear SQ hk
    go_wp2_with fail
    refine (told4_any hE hT hP).mono ?_
    rintro en w99 ⟨rfl, b⟩
    replace BB := bnx BB b
    clear b
    go_wp2
    go_ret
    exact ⟨by first | rfl | (simp; done) | (simp; assumption), BB⟩
end Go.Proofs.YtefofejgogokpaaGreatDoor
