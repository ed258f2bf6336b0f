/-
  Contract of the statement IvalRounds's function at this translation: it returns true, whatever its arguments. Condition: the slices read as limbs, the table of math/bits reads as its text lays it.
-/
import Derived.Test.YtijflbnfikiaaaaGreatDoorIs
import Derived.Test.YtijflbnfikiaaaaGreatDoorIn
namespace Go.Proofs.YtijflbnfikiaaaaGreatDoor
open Go.RowKit

theorem down_le {K p : Nat} {a : Rw} {s : Bool} {m : Nat} {e : Int} (hK : 4194304 ≤ K) (ha : a.may = true) (h : RdTold a.s (val W a.l) a.e p false 0 s m e) : (Rw.of s m e).v K ≤ a.v K := by
  have r := okd_ge hK (mayD_of a.lt ha).2
  rw [Rw.of_v, nm_value r.2.2 h]
  exact rd_between.1
theorem up_ge {K p : Nat} {a : Rw} {s : Bool} {m : Nat} {e : Int} (hK : 4194304 ≤ K) (ha : a.may = true) (h : RdTold a.s (val W a.l) a.e p true 0 s m e) : a.v K ≤ (Rw.of s m e).v K := by
  have r := okd_ge hK (mayD_of a.lt ha).2
  rw [Rw.of_v, nm_value r.2.2 h]
  exact rd_between.2
/-- of fewer bits: farther away -/
theorem down_few {K n m : Nat} {a : Rw} {s t : Bool} {x y : Nat} {e f : Int} (hK : 4194304 ≤ K) (hm : 1 ≤ m) (hmn : m ≤ n) (ha : a.may = true) (h : RdTold a.s (val W a.l) a.e n false 0 s x e) (h' : RdTold a.s (val W a.l) a.e m false 0 t y f) : (Rw.of t y f).v K ≤ (Rw.of s x e).v K := by
  have r := okd_ge hK (mayD_of a.lt ha).2
  have r2 := okd_ge hK (nm_okd h')
  have h1 := down_le hK ha h'
  rw [Rw.of_v] at h1
  rw [Rw.of_v, Rw.of_v, nm_value r.2.2 h]
  exact near_down (by omega) r.2.2 r2.2.2 (fits_mono (nm_fits h' (rd_fits hm _ _)) hmn) h1
theorem up_few {K n m : Nat} {a : Rw} {s t : Bool} {x y : Nat} {e f : Int} (hK : 4194304 ≤ K) (hm : 1 ≤ m) (hmn : m ≤ n) (ha : a.may = true) (h : RdTold a.s (val W a.l) a.e n true 0 s x e) (h' : RdTold a.s (val W a.l) a.e m true 0 t y f) : (Rw.of s x e).v K ≤ (Rw.of t y f).v K := by
  have r := okd_ge hK (mayD_of a.lt ha).2
  have r2 := okd_ge hK (nm_okd h')
  have h1 := up_ge hK ha h'
  rw [Rw.of_v] at h1
  rw [Rw.of_v, Rw.of_v, nm_value r.2.2 h]
  exact near_up (by omega) r.2.2 r2.2.2 (fits_mono (nm_fits h' (rd_fits hm _ _)) hmn) h1
def Rounded (x : Iv) (p : Nat) (q : Iv) : Prop := ∃ s m e s' m' e', RdTold x.lo.s (val W x.lo.l) x.lo.e p false 0 s m e ∧ RdTold x.hi.s (val W x.hi.l) x.hi.e p true 0 s' m' e' ∧ q = ⟨Rw.of s m e, Rw.of s' m' e'⟩
theorem rounded_holds {K n : Nat} {x q : Iv} (hK : 4194304 ≤ K) (hx : mayI K x = true) (h : Rounded x n q) : mayI K q = true ∧ withinI K x q = true ∧ decide (cmpQ K q.lo x.lo ≤ 0) = true := by
  obtain ⟨s, m, e, s', m', e', h1, h2, rfl⟩ := h
  have k := mayI_iff.1 hx
  have v1 := down_le hK k.1 h1
  have v2 := up_ge hK k.2.1 h2
  have hm : mayI K ⟨Rw.of s m e, Rw.of s' m' e'⟩ = true := mayI_iff.2 ⟨Rw.of_may (nm_okd h1), Rw.of_may (nm_okd h2), Int.le_trans v1 (Int.le_trans k.2.2 v2)⟩
  exact ⟨hm, withinI_iff.2 ⟨hx, hm, v1, v2⟩, decide_eq_true ((cmpQ_le (Rw.of_may (nm_okd h1)) k.1).2 v1)⟩
theorem rounded_few {K n m : Nat} {x q r : Iv} (hK : 4194304 ≤ K) (hm : 1 ≤ m) (hmn : m ≤ n) (hx : mayI K x = true) (h : Rounded x n q) (h' : Rounded x m r) : withinI K q r = true := by
  have k := mayI_iff.1 hx
  have hq := (rounded_holds hK hx h).1
  have hr := (rounded_holds hK hx h').1
  obtain ⟨s, m1, e, s', m1', e', h1, h2, rfl⟩ := h
  obtain ⟨t, y, f, t', y', f', h3, h4, rfl⟩ := h'
  exact withinI_iff.2 ⟨hq, hr, down_few hK hm hmn k.1 h1 h3, up_few hK hm hmn k.2.1 h2 h4⟩
/-- rounded again it stays -/
theorem rounded_again {n : Nat} {x q : Iv} (hn : 1 ≤ n) (h : Rounded x n q) : RdTold q.lo.s (val W q.lo.l) q.lo.e n false 0 q.lo.s (val W q.lo.l) q.lo.e ∧ RdTold q.hi.s (val W q.hi.l) q.hi.e n true 0 q.hi.s (val W q.hi.l) q.hi.e ∧ q = ⟨Rw.of q.lo.s (val W q.lo.l) q.lo.e, Rw.of q.hi.s (val W q.hi.l) q.hi.e⟩ ∧ blen (val W q.lo.l) ≤ n ∧ blen (val W q.hi.l) ≤ n := by
  obtain ⟨s, m, e, s', m', e', h1, h2, rfl⟩ := h
  have key : ∀ {a : Nat} {x : Nat} {b : Bool} {f : Int} {u : Bool} {s : Bool} {m : Nat} {e : Int}, RdTold b x f n u 0 s m e → RdTold (Rw.of s m e).s (val W (Rw.of s m e).l) (Rw.of s m e).e n u 0 (Rw.of s m e).s (val W (Rw.of s m e).l) (Rw.of s m e).e ∧ Rw.of s m e = Rw.of (Rw.of s m e).s (val W (Rw.of s m e).l) (Rw.of s m e).e ∧ blen (val W (Rw.of s m e).l) ≤ n := fun {a x b f u s m e} h => by
    have e1 : val W (Rw.of s m e).l = m := val_dig W_two m
    rw [e1]
    refine ⟨?_, rfl, told_bits hn h⟩
    show Nm s (rdN n m (u != s)) e 0 s m e
    rw [rd_self hn (nm_fits h (rd_fits hn x (u != b)))]
    exact nm_self (nm_okd h)
  obtain ⟨a1, a2, a3⟩ := key (a := 0) h1
  obtain ⟨b1, b2, b3⟩ := key (a := 0) h2
  exact ⟨a1, b1, congr (congrArg Iv.mk a2) b2, a3, b3⟩

theorem tell_to {f : FuncId} {args : Array Value} {w : World} {k : Int} {x x' : Iv} (hx : x' = x) (h : Calls Tryz.prog f args w (TellI k x' w)) : Calls Tryz.prog f args w (TellI k x w) := by
  subst hx
  exact h

set_option maxRecDepth 100000 in
set_option maxHeartbeats 8000000 in
theorem irounds_any {w : World} {x : Iv} {A1 : Option Addr} {n1 c1 : Nat} {A2 : Option Addr} {n2 c2 : Nat} {p q : Int} (hT : Tab w) (h1 : Rd w .u64 Go.Proofs.YtijflbnfikiaaaaGreatDoor.W A1 n1 c1 x.lo.l) (h2 : Rd w .u64 Go.Proofs.YtijflbnfikiaaaaGreatDoor.W A2 n2 c2 x.hi.l) :
    Calls Tryz.prog 4 #[.agg #[.bool x.lo.s, .slice A1 n1 c1, .int .i64 x.lo.e, .bool x.hi.s, .slice A2 n2 c2, .int .i64 x.hi.e], .int .i64 p, .int .i64 q] w fun en w' => ToldEnd w en w' := by
  obtain ⟨KK, hKK⟩ := scale_has
  have y1 : n1 ≤ 9223372036854775807 := Nat.le_trans h1.cap h1.max
  have y2 : n2 ≤ 9223372036854775807 := Nat.le_trans h2.cap h2.max
  obtain ⟨rn, hrn⟩ := Int.eq_ofNat_of_zero_le (show 0 ≤ IntKind.u64.wrap p by rw [IntKind.wrap_u64]; omega)
  obtain ⟨qn, hqn⟩ : ∃ q, q = rn % 300 := ⟨_, rfl⟩
  obtain ⟨n, hnn⟩ : ∃ n, n = 1 + qn := ⟨_, rfl⟩
  have uun : (rn : Int) % 300 = (qn : Int) := by omega
  have uvn : (1 : Int) + (qn : Int) = (n : Int) := by omega
  have uwn : (0 : Int) ≤ (rn : Int) := by omega
  have uxn : (qn : Int) ≤ 300 := by omega
  have nlo : 1 ≤ n := by omega
  have nhi : n ≤ 300 := by omega
  have uyn : (n : Int) ≤ 300 := by omega
  clear hqn hnn
  obtain ⟨rm, hrm⟩ := Int.eq_ofNat_of_zero_le (show 0 ≤ IntKind.u64.wrap q by rw [IntKind.wrap_u64]; omega)
  have hnw : IntKind.u64.wrap (n : Int) = (n : Int) := by rw [IntKind.wrap_u64]; omega
  obtain ⟨qm, hqm⟩ : ∃ x, x = rm % n := ⟨_, rfl⟩
  have hlt := Nat.mod_lt rm (show 0 < n by omega)
  obtain ⟨m, hm⟩ : ∃ x, x = 1 + qm := ⟨_, rfl⟩
  have uum : (rm : Int) % (n : Int) = (qm : Int) := by rw [hqm]; first | exact (Int.natCast_emod rm n).symm | exact (Int.ofNat_emod rm n).symm
  have uvm : (1 : Int) + (qm : Int) = (m : Int) := by omega
  have uwm : (0 : Int) ≤ (rm : Int) := by omega
  have uxm : (qm : Int) ≤ 400 := by omega
  have mlo : 1 ≤ m := by omega
  have mhi : m ≤ n := by omega
  have uym : (m : Int) ≤ 400 := by omega
  have nz : (n : Int) ≠ 0 := by omega
  clear hqm hm hlt
  have BB := below_alloc w (.cells #[.bool x.lo.s, .slice A1 n1 c1, .int .i64 x.lo.e, .bool x.hi.s, .slice A2 n2 c2, .int .i64 x.hi.e] 26)
  obtain ⟨a0, a1, a2, a3, a4, a5⟩ := (Ibx.new w x.lo.s A1 n1 c1 x.lo.e x.hi.s A2 n2 c2 x.hi.e).held
  have G := mv BB rfl <| And.intro hT <| And.intro h1 <| h2
  clear hT h1 h2
  obtain ⟨hT, h1, h2⟩ := G
  go_enter Tryz.func4, Tryz.ntmps4
  go_wp2_with fail
  refine (few5_any (x := x) y1 y2).mono ?_
  rintro en w1 ⟨rfl, b⟩
  replace BB := below_next BB BB.size b rfl rfl rfl rfl
  have G := mv b rfl <| And.intro a0 <| And.intro a1 <| And.intro a2 <| And.intro a3 <| And.intro a4 <| And.intro a5 <| And.intro hT <| And.intro h1 <| h2
  clear b a0 a1 a2 a3 a4 a5 hT h1 h2
  obtain ⟨a0, a1, a2, a3, a4, a5, hT, h1, h2⟩ := G
  cases q1 : (decide (n1 ≤ 70) && decide (n2 ≤ 70))
  · clear q1
    go_wp2_with fail
    refine (told5_any hT).mono ?_
    rintro en w99 ⟨rfl, b⟩
    replace BB := below_next BB BB.size b rfl rfl rfl rfl
    clear b
    go_wp2
    go_ret
    exact ⟨by first | rfl | simp, BB⟩
  clear q1 y1 y2
  go_wp2_with fail
  refine (imay_any (x := x) hKK hT h1 h2).mono ?_
  rintro en w2 ⟨rfl, b⟩
  replace BB := below_next BB BB.size b rfl rfl rfl rfl
  have G := mv b rfl <| And.intro a0 <| And.intro a1 <| And.intro a2 <| And.intro a3 <| And.intro a4 <| And.intro a5 <| And.intro hT <| And.intro h1 <| h2
  clear b a0 a1 a2 a3 a4 a5 hT h1 h2
  obtain ⟨a0, a1, a2, a3, a4, a5, hT, h1, h2⟩ := G
  cases hx : mayI KK x
  · clear hx
    go_wp2_with fail
    refine (told5_any hT).mono ?_
    rintro en w99 ⟨rfl, b⟩
    replace BB := below_next BB BB.size b rfl rfl rfl rfl
    clear b
    go_wp2
    go_ret
    exact ⟨by first | rfl | simp, BB⟩
  obtain ⟨kb, xb, hb, KB⟩ := iround_any hKK hx nlo (by omega)
  obtain ⟨kc, xc, hc, KC⟩ := iround_any hKK hx mlo (show m ≤ 2000 by omega)
  have HB := Lib.hid hb
  have HC := Lib.hid hc
  have HX := Lib.hid hx
  clear hb hc hx
  go_wp2_with fail
  refine (KB hT h1 h2).mono ?_
  rintro en v1 ⟨A3, n3, c3, A4, n4, c4, rfl, h3, h4, b⟩
  replace BB := below_next BB BB.size b rfl rfl rfl rfl
  have G := mv b rfl <| And.intro a0 <| And.intro a1 <| And.intro a2 <| And.intro a3 <| And.intro a4 <| And.intro a5 <| And.intro hT <| And.intro h1 <| h2
  clear b a0 a1 a2 a3 a4 a5 hT h1 h2
  obtain ⟨a0, a1, a2, a3, a4, a5, hT, h1, h2⟩ := G
  obtain ⟨e0, e1, e2, e3, e4, e5⟩ := (Ibx.new v1 xb.lo.s A3 n3 c3 xb.lo.e xb.hi.s A4 n4 c4 xb.hi.e).held
  have b := below_alloc v1 (.cells #[.bool xb.lo.s, .slice A3 n3 c3, .int .i64 xb.lo.e, .bool xb.hi.s, .slice A4 n4 c4, .int .i64 xb.hi.e] 26)
  replace BB := below_next BB BB.size b rfl rfl rfl rfl
  have G := mv b rfl <| And.intro a0 <| And.intro a1 <| And.intro a2 <| And.intro a3 <| And.intro a4 <| And.intro a5 <| And.intro hT <| And.intro h1 <| And.intro h2 <| And.intro h3 <| h4
  clear b a0 a1 a2 a3 a4 a5 hT h1 h2 h3 h4
  obtain ⟨a0, a1, a2, a3, a4, a5, hT, h1, h2, h3, h4⟩ := G
  go_wp2_with fail
  refine (KC hT h1 h2).mono ?_
  rintro en v2 ⟨A5, n5, c5, A6, n6, c6, rfl, h5, h6, b⟩
  replace BB := below_next BB BB.size b rfl rfl rfl rfl
  have G := mv b rfl <| And.intro a0 <| And.intro a1 <| And.intro a2 <| And.intro a3 <| And.intro a4 <| And.intro a5 <| And.intro hT <| And.intro h1 <| And.intro h2 <| And.intro h3 <| And.intro h4 <| And.intro e0 <| And.intro e1 <| And.intro e2 <| And.intro e3 <| And.intro e4 <| e5
  clear b a0 a1 a2 a3 a4 a5 hT h1 h2 h3 h4 e0 e1 e2 e3 e4 e5
  obtain ⟨a0, a1, a2, a3, a4, a5, hT, h1, h2, h3, h4, e0, e1, e2, e3, e4, e5⟩ := G
  obtain ⟨f0, f1, f2, f3, f4, f5⟩ := (Ibx.new v2 xc.lo.s A5 n5 c5 xc.lo.e xc.hi.s A6 n6 c6 xc.hi.e).held
  have b := below_alloc v2 (.cells #[.bool xc.lo.s, .slice A5 n5 c5, .int .i64 xc.lo.e, .bool xc.hi.s, .slice A6 n6 c6, .int .i64 xc.hi.e] 26)
  replace BB := below_next BB BB.size b rfl rfl rfl rfl
  have G := mv b rfl <| And.intro a0 <| And.intro a1 <| And.intro a2 <| And.intro a3 <| And.intro a4 <| And.intro a5 <| And.intro hT <| And.intro h1 <| And.intro h2 <| And.intro h3 <| And.intro h4 <| And.intro e0 <| And.intro e1 <| And.intro e2 <| And.intro e3 <| And.intro e4 <| And.intro e5 <| And.intro h5 <| h6
  clear b a0 a1 a2 a3 a4 a5 hT h1 h2 h3 h4 e0 e1 e2 e3 e4 e5 h5 h6
  obtain ⟨a0, a1, a2, a3, a4, a5, hT, h1, h2, h3, h4, e0, e1, e2, e3, e4, e5, h5, h6⟩ := G
  clear KB KC
  by_cases z1 : kb = 0
  rotate_left
  · have g1 : (kb != 0) = true := by simp; exact z1
    clear z1
    go_wp2_with fail
    refine (told5_any hT).mono ?_
    rintro en w99 ⟨rfl, b⟩
    replace BB := below_next BB BB.size b rfl rfl rfl rfl
    clear b
    go_wp2
    go_ret
    exact ⟨by first | rfl | simp, BB⟩
  by_cases z2 : kc = 0
  rotate_left
  · have g1 : (kb != 0) = false := by simp; exact z1
    have g2 : (kc != 0) = true := by simp; exact z2
    clear z1 z2
    go_wp2_with fail
    refine (told5_any hT).mono ?_
    rintro en w99 ⟨rfl, b⟩
    replace BB := below_next BB BB.size b rfl rfl rfl rfl
    clear b
    go_wp2
    go_ret
    exact ⟨by first | rfl | simp, BB⟩
  subst z1 z2
  have RB : Rounded x n xb := HB.out rfl
  have RC : Rounded x m xc := HC.out rfl
  obtain ⟨mb, wb, cb⟩ := rounded_holds hKK HX.out RB
  have wc := rounded_few hKK mlo mhi HX.out RB RC
  obtain ⟨ra, rb, rc, rd, re⟩ := rounded_again nlo RB
  have ob := mayI_iff.1 mb
  have MB := Lib.hid mb
  have WB := Lib.hid wb
  have CB := Lib.hid cb
  have WC := Lib.hid wc
  have RA := Lib.hid (And.intro ra <| And.intro rb rc)
  have OB := Lib.hid (And.intro ob.1 ob.2.1)
  obtain ⟨bl, hbl⟩ : ∃ z, z = blen (val W xb.lo.l) := ⟨_, rfl⟩
  obtain ⟨bh, hbh⟩ : ∃ z, z = blen (val W xb.hi.l) := ⟨_, rfl⟩
  rw [← hbl] at rd
  rw [← hbh] at re
  have HBL := Lib.hid hbl
  have HBH := Lib.hid hbh
  clear RB RC mb wb cb wc ra rb rc ob hbl hbh HB HC
  have rd2 : decide (bl ≤ n) = true := decide_eq_true rd
  have re2 : decide (bh ≤ n) = true := decide_eq_true re
  have rd' : decide ((bl : Int) ≤ (n : Int)) = true := decide_eq_true (by omega)
  have re' : decide ((bh : Int) ≤ (n : Int)) = true := decide_eq_true (by omega)
  have e9 : (⟨Rw.of xb.lo.s (val W xb.lo.l) xb.lo.e, Rw.of xb.hi.s (val W xb.hi.l) xb.hi.e⟩ : Iv) = xb := RA.out.2.2.symm
  have E9 := Lib.hid e9
  clear e9
  go_wp2_with fail
  refine (tell_to E9.out (iround_ok hKK hT h3 h4 MB.out nlo (by omega) RA.out.1 RA.out.2.1)).mono ?_
  rintro en v3 ⟨A7, n7, c7, A8, n8, c8, rfl, h7, h8, b⟩
  replace BB := below_next BB BB.size b rfl rfl rfl rfl
  have G := mv b rfl <| And.intro a0 <| And.intro a1 <| And.intro a2 <| And.intro a3 <| And.intro a4 <| And.intro a5 <| And.intro hT <| And.intro h1 <| And.intro h2 <| And.intro h3 <| And.intro h4 <| And.intro e0 <| And.intro e1 <| And.intro e2 <| And.intro e3 <| And.intro e4 <| And.intro e5 <| And.intro h5 <| And.intro h6 <| And.intro f0 <| And.intro f1 <| And.intro f2 <| And.intro f3 <| And.intro f4 <| f5
  clear b a0 a1 a2 a3 a4 a5 hT h1 h2 h3 h4 e0 e1 e2 e3 e4 e5 h5 h6 f0 f1 f2 f3 f4 f5
  obtain ⟨a0, a1, a2, a3, a4, a5, hT, h1, h2, h3, h4, e0, e1, e2, e3, e4, e5, h5, h6, f0, f1, f2, f3, f4, f5⟩ := G
  obtain ⟨g0, g1, g2, g3, g4, g5⟩ := (Ibx.new v3 xb.lo.s A7 n7 c7 xb.lo.e xb.hi.s A8 n8 c8 xb.hi.e).held
  have b := below_alloc v3 (.cells #[.bool xb.lo.s, .slice A7 n7 c7, .int .i64 xb.lo.e, .bool xb.hi.s, .slice A8 n8 c8, .int .i64 xb.hi.e] 26)
  replace BB := below_next BB BB.size b rfl rfl rfl rfl
  have G := mv b rfl <| And.intro a0 <| And.intro a1 <| And.intro a2 <| And.intro a3 <| And.intro a4 <| And.intro a5 <| And.intro hT <| And.intro h1 <| And.intro h2 <| And.intro h3 <| And.intro h4 <| And.intro e0 <| And.intro e1 <| And.intro e2 <| And.intro e3 <| And.intro e4 <| And.intro e5 <| And.intro h5 <| And.intro h6 <| And.intro f0 <| And.intro f1 <| And.intro f2 <| And.intro f3 <| And.intro f4 <| And.intro f5 <| And.intro h7 <| h8
  clear b a0 a1 a2 a3 a4 a5 hT h1 h2 h3 h4 e0 e1 e2 e3 e4 e5 h5 h6 f0 f1 f2 f3 f4 f5 h7 h8
  obtain ⟨a0, a1, a2, a3, a4, a5, hT, h1, h2, h3, h4, e0, e1, e2, e3, e4, e5, h5, h6, f0, f1, f2, f3, f4, f5, h7, h8⟩ := G
  go_wp2_with fail
  refine (told5_any hT).mono ?_
  rintro en t1 ⟨rfl, b⟩
  replace BB := below_next BB BB.size b rfl rfl rfl rfl
  have G := mv b rfl <| And.intro a0 <| And.intro a1 <| And.intro a2 <| And.intro a3 <| And.intro a4 <| And.intro a5 <| And.intro hT <| And.intro h1 <| And.intro h2 <| And.intro h3 <| And.intro h4 <| And.intro e0 <| And.intro e1 <| And.intro e2 <| And.intro e3 <| And.intro e4 <| And.intro e5 <| And.intro h5 <| And.intro h6 <| And.intro f0 <| And.intro f1 <| And.intro f2 <| And.intro f3 <| And.intro f4 <| And.intro f5 <| And.intro h7 <| And.intro h8 <| And.intro g0 <| And.intro g1 <| And.intro g2 <| And.intro g3 <| And.intro g4 <| g5
  clear b a0 a1 a2 a3 a4 a5 hT h1 h2 h3 h4 e0 e1 e2 e3 e4 e5 h5 h6 f0 f1 f2 f3 f4 f5 h7 h8 g0 g1 g2 g3 g4 g5
  obtain ⟨a0, a1, a2, a3, a4, a5, hT, h1, h2, h3, h4, e0, e1, e2, e3, e4, e5, h5, h6, f0, f1, f2, f3, f4, f5, h7, h8, g0, g1, g2, g3, g4, g5⟩ := G
  go_wp2_with fail
  refine (iwithin_any (x := x) (y := xb) hKK hT h1 h2 h3 h4).mono ?_
  rintro en t2 ⟨rfl, b⟩
  rw [WB.out]
  replace BB := below_next BB BB.size b rfl rfl rfl rfl
  have G := mv b rfl <| And.intro a0 <| And.intro a1 <| And.intro a2 <| And.intro a3 <| And.intro a4 <| And.intro a5 <| And.intro hT <| And.intro h1 <| And.intro h2 <| And.intro h3 <| And.intro h4 <| And.intro e0 <| And.intro e1 <| And.intro e2 <| And.intro e3 <| And.intro e4 <| And.intro e5 <| And.intro h5 <| And.intro h6 <| And.intro f0 <| And.intro f1 <| And.intro f2 <| And.intro f3 <| And.intro f4 <| And.intro f5 <| And.intro h7 <| And.intro h8 <| And.intro g0 <| And.intro g1 <| And.intro g2 <| And.intro g3 <| And.intro g4 <| g5
  clear b a0 a1 a2 a3 a4 a5 hT h1 h2 h3 h4 e0 e1 e2 e3 e4 e5 h5 h6 f0 f1 f2 f3 f4 f5 h7 h8 g0 g1 g2 g3 g4 g5
  obtain ⟨a0, a1, a2, a3, a4, a5, hT, h1, h2, h3, h4, e0, e1, e2, e3, e4, e5, h5, h6, f0, f1, f2, f3, f4, f5, h7, h8, g0, g1, g2, g3, g4, g5⟩ := G
  go_wp2_with fail
  refine (iwithin_any (x := xb) (y := xc) hKK hT h3 h4 h5 h6).mono ?_
  rintro en t3 ⟨rfl, b⟩
  rw [WC.out]
  replace BB := below_next BB BB.size b rfl rfl rfl rfl
  have G := mv b rfl <| And.intro a0 <| And.intro a1 <| And.intro a2 <| And.intro a3 <| And.intro a4 <| And.intro a5 <| And.intro hT <| And.intro h1 <| And.intro h2 <| And.intro h3 <| And.intro h4 <| And.intro e0 <| And.intro e1 <| And.intro e2 <| And.intro e3 <| And.intro e4 <| And.intro e5 <| And.intro h5 <| And.intro h6 <| And.intro f0 <| And.intro f1 <| And.intro f2 <| And.intro f3 <| And.intro f4 <| And.intro f5 <| And.intro h7 <| And.intro h8 <| And.intro g0 <| And.intro g1 <| And.intro g2 <| And.intro g3 <| And.intro g4 <| g5
  clear b a0 a1 a2 a3 a4 a5 hT h1 h2 h3 h4 e0 e1 e2 e3 e4 e5 h5 h6 f0 f1 f2 f3 f4 f5 h7 h8 g0 g1 g2 g3 g4 g5
  obtain ⟨a0, a1, a2, a3, a4, a5, hT, h1, h2, h3, h4, e0, e1, e2, e3, e4, e5, h5, h6, f0, f1, f2, f3, f4, f5, h7, h8, g0, g1, g2, g3, g4, g5⟩ := G
  go_wp2_with fail
  refine (isame_any (x := xb) (y := xb) h7 h8 h3 h4).mono ?_
  rintro en t4 ⟨rfl, b⟩
  rw [sameI_iff.2 rfl]
  replace BB := below_next BB BB.size b rfl rfl rfl rfl
  have G := mv b rfl <| And.intro a0 <| And.intro a1 <| And.intro a2 <| And.intro a3 <| And.intro a4 <| And.intro a5 <| And.intro hT <| And.intro h1 <| And.intro h2 <| And.intro h3 <| And.intro h4 <| And.intro e0 <| And.intro e1 <| And.intro e2 <| And.intro e3 <| And.intro e4 <| And.intro e5 <| And.intro h5 <| And.intro h6 <| And.intro f0 <| And.intro f1 <| And.intro f2 <| And.intro f3 <| And.intro f4 <| And.intro f5 <| And.intro h7 <| And.intro h8 <| And.intro g0 <| And.intro g1 <| And.intro g2 <| And.intro g3 <| And.intro g4 <| g5
  clear b a0 a1 a2 a3 a4 a5 hT h1 h2 h3 h4 e0 e1 e2 e3 e4 e5 h5 h6 f0 f1 f2 f3 f4 f5 h7 h8 g0 g1 g2 g3 g4 g5
  obtain ⟨a0, a1, a2, a3, a4, a5, hT, h1, h2, h3, h4, e0, e1, e2, e3, e4, e5, h5, h6, f0, f1, f2, f3, f4, f5, h7, h8, g0, g1, g2, g3, g4, g5⟩ := G
  go_wp2_with fail
  refine (bits_ok hT (rd_okd h3 OB.out.1).1 (rd_okd h3 OB.out.1).2.1).mono ?_
  rintro en t5 ⟨rfl, b⟩
  rw [← HBL.out]
  replace BB := below_next BB BB.size b rfl rfl rfl rfl
  have G := mv b rfl <| And.intro a0 <| And.intro a1 <| And.intro a2 <| And.intro a3 <| And.intro a4 <| And.intro a5 <| And.intro hT <| And.intro h1 <| And.intro h2 <| And.intro h3 <| And.intro h4 <| And.intro e0 <| And.intro e1 <| And.intro e2 <| And.intro e3 <| And.intro e4 <| And.intro e5 <| And.intro h5 <| And.intro h6 <| And.intro f0 <| And.intro f1 <| And.intro f2 <| And.intro f3 <| And.intro f4 <| And.intro f5 <| And.intro h7 <| And.intro h8 <| And.intro g0 <| And.intro g1 <| And.intro g2 <| And.intro g3 <| And.intro g4 <| g5
  clear b a0 a1 a2 a3 a4 a5 hT h1 h2 h3 h4 e0 e1 e2 e3 e4 e5 h5 h6 f0 f1 f2 f3 f4 f5 h7 h8 g0 g1 g2 g3 g4 g5
  obtain ⟨a0, a1, a2, a3, a4, a5, hT, h1, h2, h3, h4, e0, e1, e2, e3, e4, e5, h5, h6, f0, f1, f2, f3, f4, f5, h7, h8, g0, g1, g2, g3, g4, g5⟩ := G
  go_wp2_with fail
  refine (bits_ok hT (rd_okd h4 OB.out.2).1 (rd_okd h4 OB.out.2).2.1).mono ?_
  rintro en t6 ⟨rfl, b⟩
  rw [← HBH.out]
  replace BB := below_next BB BB.size b rfl rfl rfl rfl
  have G := mv b rfl <| And.intro a0 <| And.intro a1 <| And.intro a2 <| And.intro a3 <| And.intro a4 <| And.intro a5 <| And.intro hT <| And.intro h1 <| And.intro h2 <| And.intro h3 <| And.intro h4 <| And.intro e0 <| And.intro e1 <| And.intro e2 <| And.intro e3 <| And.intro e4 <| And.intro e5 <| And.intro h5 <| And.intro h6 <| And.intro f0 <| And.intro f1 <| And.intro f2 <| And.intro f3 <| And.intro f4 <| And.intro f5 <| And.intro h7 <| And.intro h8 <| And.intro g0 <| And.intro g1 <| And.intro g2 <| And.intro g3 <| And.intro g4 <| g5
  clear b a0 a1 a2 a3 a4 a5 hT h1 h2 h3 h4 e0 e1 e2 e3 e4 e5 h5 h6 f0 f1 f2 f3 f4 f5 h7 h8 g0 g1 g2 g3 g4 g5
  obtain ⟨a0, a1, a2, a3, a4, a5, hT, h1, h2, h3, h4, e0, e1, e2, e3, e4, e5, h5, h6, f0, f1, f2, f3, f4, f5, h7, h8, g0, g1, g2, g3, g4, g5⟩ := G
  go_wp2_with fail
  refine (dcmp_raw (K := KK) (s1 := xb.lo.s) (e1 := xb.lo.e) (s2 := x.lo.s) (e2 := x.lo.e) hKK hT h3 h1).mono ?_
  rintro en t7 ⟨rfl, b⟩
  replace BB := below_next BB BB.size b rfl rfl rfl rfl
  have G := mv b rfl <| And.intro a0 <| And.intro a1 <| And.intro a2 <| And.intro a3 <| And.intro a4 <| And.intro a5 <| And.intro hT <| And.intro h1 <| And.intro h2 <| And.intro h3 <| And.intro h4 <| And.intro e0 <| And.intro e1 <| And.intro e2 <| And.intro e3 <| And.intro e4 <| And.intro e5 <| And.intro h5 <| And.intro h6 <| And.intro f0 <| And.intro f1 <| And.intro f2 <| And.intro f3 <| And.intro f4 <| And.intro f5 <| And.intro h7 <| And.intro h8 <| And.intro g0 <| And.intro g1 <| And.intro g2 <| And.intro g3 <| And.intro g4 <| g5
  clear b a0 a1 a2 a3 a4 a5 hT h1 h2 h3 h4 e0 e1 e2 e3 e4 e5 h5 h6 f0 f1 f2 f3 f4 f5 h7 h8 g0 g1 g2 g3 g4 g5
  obtain ⟨a0, a1, a2, a3, a4, a5, hT, h1, h2, h3, h4, e0, e1, e2, e3, e4, e5, h5, h6, f0, f1, f2, f3, f4, f5, h7, h8, g0, g1, g2, g3, g4, g5⟩ := G
  have e1 : cmpR KK xb.lo.s xb.lo.l xb.lo.e x.lo.s x.lo.l x.lo.e = cmpQ KK xb.lo x.lo := rfl
  rw [e1]
  clear e1
  have f9 := CB.out
  clear CB
  generalize cmpQ KK xb.lo x.lo = z at f9 ⊢
  go_wp2
  go_ret
  exact ⟨by first | rfl | simp, BB⟩

end Go.Proofs.YtijflbnfikiaaaaGreatDoor
