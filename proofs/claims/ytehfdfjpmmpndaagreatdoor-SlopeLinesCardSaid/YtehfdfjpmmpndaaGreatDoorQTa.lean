/-
  Outcome of expo's power, at this translation.
-/
import Derived.Test.YtehfdfjpmmpndaaGreatDoorQEw
import Derived.Test.YtehfdfjpmmpndaaGreatDoorQEp
import Derived.Test.YtehfdfjpmmpndaaGreatDoorQLc
import Derived.Test.YtehfdfjpmmpndaaGreatDoorQIs
set_option maxHeartbeats 8000000
set_option maxRecDepth 100000
namespace Go.Proofs.YtehfdfjpmmpndaaGreatDoor
open Go.RowKit
variable {A1 : Option Addr} {K c1 i n1 : Nat} {e p : Int} {neg up : Bool} {w : World} {x y : Iv}
def powF (S : Sc) (m : Nat) (e : Int) (k : Nat) (p : Int) (up neg : Bool) : Nat → Nat → Except Int Rw
 | 0, _ => .error 2
 | g + 1, w => thn (bouO S m e k w neg) fun b => thn (rndO S b.lo p false) fun lo => thn (nxtO S lo p) fun hi => if 0 < cmpR S.K b.hi.s b.hi.l b.hi.e hi.s hi.l hi.e then powF S m e k p up neg g (w * 2) else .ok (if up = true then hi else lo)
theorem powF_succ {S : Sc} {m : Nat} {k : Nat} {g w : Nat} : powF S m e k p up neg (g + 1) w = thn (bouO S m e k w neg) fun b => thn (rndO S b.lo p false) fun lo => thn (nxtO S lo p) fun hi => if 0 < cmpR S.K b.hi.s b.hi.l b.hi.e hi.s hi.l hi.e then powF S m e k p up neg g (w * 2) else .ok (if up = true then hi else lo) := rfl
theorem rnd_may {S : Sc} {a c : Rw} (h : rndO S a p up = .ok c) : a.may = true ∧ c.may = true := by
 obtain ⟨s, m, e, hp, rfl⟩ := S.of_ok rndR_only rndR_some h
 unfold rndR at hp
 split at hp
 ·rename_i hc
  exact ⟨hc.2, Rw.of_may (nm_okd hp)⟩
 exact absurd hp.1 (by decide)
theorem bou_end {S : Sc} {m : Nat} {k q : Nat} (hq : 4096 ≤ q) : bouO S m e k q neg = .error 2 := by
 have hn : ¬ 2 ^ q < W ^ 64 := by
  rw [W64_pow]
  have := Nat.pow_le_pow_right (n := 2) (by omega) (show 64 * 64 ≤ q by omega)
  omega
 have hs : ∀ x y, serO x y q = none := fun x y => by unfold serO; rw [if_neg hn]
 unfold bouO bndO
 cases partO m e k q with
 | none => rfl
 | some z => dsimp only; rw [hs]; rfl
theorem epower_run (S : Sc) {x k p : Nat} {s up : Bool} (hT : Tab w) (h1 : Nt w A1 n1 c1 x) (hd : OkD s x e) (h0 : x ≠ 0) (he1 : -1000 ≤ e) (he2 : e ≤ 1000) (hk : (k : Int) = max 0 ((blen x : Int) + e + 8)) (hp1 : 1 ≤ p) (hp2 : p ≤ 300) :
  Calls Tryz.prog 126 #[.agg #[.bool s, .slice A1 n1 c1, .int .i64 e], .int .i64 (p : Int), .bool up] w (RunQ (powF S x e k (p : Int) up s 8 (p + 32)) w) := by
 obtain ⟨o, ho⟩ : ∃ o, o = powF S x e k (p : Int) up s 8 (p + 32) := ⟨_, rfl⟩
 rw [← ho]
 have HO := hyd ho
 have HD := hyd hd
 have HX0 := hyd h0
 have HKX := hyd hk
 clear ho hd h0 hk
 have hw1 : IntKind.i64.wrap ((p : Int) + 32) = ((p + 32 : Nat) : Int) := by rw [IntWalk.i64_in _ (by omega)]; omega
 have BB := two_below w (.cells #[.bool s, .slice A1 n1 c1, .int .i64 e] 28) (.cells #[.bool false, .slice none 0 0, .int .i64 0] 28)
 have X0 := (Box.new w s A1 n1 c1 e).alloc (.cells #[.bool false, .slice none 0 0, .int .i64 0] 28)
 have r := box_one w (.cells #[.bool s, .slice A1 n1 c1, .int .i64 e] 28) false none 0 0 0
 obtain ⟨a0, a1, a2⟩ := X0.held
 have G := mv BB rfl <| And.intro hT <| h1
 clear hT h1
 obtain ⟨hT, h1⟩ := G
 go_enter Tryz.func126, Tryz.ntmps126
 go_wp2
 go_step3
 have hsg := sign_ok hT h1 HD.out
 obtain ⟨z0, hz0⟩ : ∃ z, z = signD s x := ⟨_, rfl⟩
 rw [← hz0] at hsg
 have hzn : (z0 == 0) = false := by
  rw [hz0]
  unfold signD
  rw [if_neg HX0.out]
  cases s <;> rfl
 clear hz0
 go_wp2_with fail
 refine (hsg).mono ?_
 rintro en w1 ⟨rfl, b⟩
 clear hsg
 replace BB := bnx BB b
 have G := mv b rfl (J7 hT h1 r X0 a0 a1 a2)
 clear b hT h1 r X0 a0 a1 a2
 obtain ⟨hT, h1, r, X0, a0, a1, a2⟩ := G
 have BW := BB
 clear a0 a1 a2
 have BB := Below.refl w1.heap.size w1
 go_wp2
 go_step3
 go_wp2
 go_loopg [7] 8 (fun gk v7 wr => ∃ v : Nat, v7 = .int .i64 (v : Int) ∧ Hid (1 ≤ gk ∧ v * 2 ^ gk = (p + 32) * 256 ∧ 33 ≤ v) ∧ Hid (o = powF S x e k (p : Int) up s gk v) ∧ Below w1.heap.size w1 wr)
 case atStart => exact ⟨p + 32, rfl, hyd ⟨by omega, by omega, by omega⟩, HO, BB⟩
 case round =>
  clear BB
  obtain ⟨v, rfl, HV, HI, BB⟩ := hrel
  obtain ⟨g, rfl⟩ : ∃ z, gk = z + 1 := ⟨gk - 1, by have := HV.out.1; omega⟩
  have hv5 : v ≤ 100000 := by
   have h2 := HV.out.2.1
   have h3 : v * 1 ≤ v * 2 ^ (g + 1) := Nat.mul_le_mul_left _ (Nat.pow_pos (by omega))
   omega
  obtain ⟨t0, k1, r, X1⟩ := mv BB rfl <| And.intro hT <| And.intro h1 <| And.intro r X0
  obtain ⟨a0, a1, a2⟩ := X1.held
  clear X1
  obtain ⟨o1, ho1⟩ : ∃ o, o = bouO S x e k v s := ⟨_, rfl⟩
  have HO1 := hyd ho1
  clear ho1
  go_wp2_with fail
  refine (runi_to HO1.out (ebounds_run S t0 k1 HD.out HX0.out (by omega) (by omega) HKX.out (by have := HV.out.2.2; omega) hv5)).mono ?_
  rintro en u1 (⟨v1, hv1, A3, n3, c3, A4, n4, c4, rfl, h3, h4, b⟩ | ⟨kk, hk, hk0, rfl, b⟩)
  rotate_left
  ·replace BB := bnx BB b
   clear b
   have HKK := hyd (And.intro hk hk0)
   clear hk hk0
   go_wp2
   exact ⟨rfl, .inr ⟨kk, (HI.out.trans (by simp only [powF_succ, thn, ← HO1.out, HKK.out.1])), HKK.out.2, rfl, BW.trans (BB.mono BW.size)⟩⟩
  have HV1 := hyd hv1
  clear hv1
  replace BB := bnx BB b
  have G := mv b rfl (J6 t0 k1 r a0 a1 a2)
  clear b t0 k1 r a0 a1 a2
  obtain ⟨t0, k1, r, a0, a1, a2⟩ := G
  obtain ⟨x0, x1, x2, x3, x4, x5⟩ := (Ibx.new u1 v1.lo.s A3 n3 c3 v1.lo.e v1.hi.s A4 n4 c4 v1.hi.e).held
  have b := below_alloc u1 (.cells #[.bool v1.lo.s, .slice A3 n3 c3, .int .i64 v1.lo.e, .bool v1.hi.s, .slice A4 n4 c4, .int .i64 v1.hi.e] 30)
  replace BB := bnx BB b
  have G := mv b rfl (J8 t0 k1 r a0 a1 a2 h3 h4)
  clear b t0 k1 r a0 a1 a2 h3 h4
  obtain ⟨t0, k1, r, a0, a1, a2, h3, h4⟩ := G
  obtain ⟨o2, ho2⟩ : ∃ o, o = rndO S v1.lo (p : Int) false := ⟨_, rfl⟩
  have HO2 := hyd ho2
  clear ho2
  have HC2 : Cod o2 := by rw [HO2.out]; exact rndO_cod
  go_wp2_with fail
  refine (tellq_to HO2.out (down_tell S (a := v1.lo) (p := (p : Int)) t0 h3)).mono ?_
  rintro en w2 ⟨A5, n5, c5, rfl, h5, b⟩
  replace BB := bnx BB b
  have G := mv b rfl (J14 t0 k1 r a0 a1 a2 h3 h4 x0 x1 x2 x3 x4 x5)
  clear b t0 k1 r a0 a1 a2 h3 h4 x0 x1 x2 x3 x4 x5
  obtain ⟨t0, k1, r, a0, a1, a2, h3, h4, x0, x1, x2, x3, x4, x5⟩ := G
  go_wp2_with fail
  refine (must_run HC2 h5).mono ?_
  rintro en u3 (⟨v2, hv2, A6, n6, c6, rfl, h6, b⟩ | ⟨kk, hk, hk0, rfl, b⟩)
  rotate_left
  ·replace BB := bnx BB b
   clear b
   have HKK := hyd (And.intro hk hk0)
   clear hk hk0
   go_wp2
   exact ⟨rfl, .inr ⟨kk, (HI.out.trans (by simp only [powF_succ, thn, ← HO1.out, HV1.out, ← HO2.out, HKK.out.1])), HKK.out.2, rfl, BW.trans (BB.mono BW.size)⟩⟩
  have HV2 := hyd hv2
  clear hv2
  clear h5
  replace BB := bnx BB b
  have G := mv b rfl (J14 t0 k1 r a0 a1 a2 h3 h4 x0 x1 x2 x3 x4 x5)
  clear b t0 k1 r a0 a1 a2 h3 h4 x0 x1 x2 x3 x4 x5
  obtain ⟨t0, k1, r, a0, a1, a2, h3, h4, x0, x1, x2, x3, x4, x5⟩ := G
  obtain ⟨y0, y1, y2⟩ := (Box.new u3 v2.s A6 n6 c6 v2.e).held
  have b := below_alloc u3 (.cells #[.bool v2.s, .slice A6 n6 c6, .int .i64 v2.e] 28)
  replace BB := bnx BB b
  have G := mv b rfl (J15 t0 k1 r a0 a1 a2 h3 h4 x0 x1 x2 x3 x4 x5 h6)
  clear b t0 k1 r a0 a1 a2 h3 h4 x0 x1 x2 x3 x4 x5 h6
  obtain ⟨t0, k1, r, a0, a1, a2, h3, h4, x0, x1, x2, x3, x4, x5, h6⟩ := G
  have HM := hyd (rnd_may (show rndO S v1.lo (p : Int) false = .ok v2 from HO2.out.symm.trans HV2.out))
  obtain ⟨o3, ho3⟩ : ∃ o, o = nxtO S v2 (p : Int) := ⟨_, rfl⟩
  have HO3 := hyd ho3
  clear ho3
  go_wp2_with fail
  refine (runq_to HO3.out (enext_run S t0 h6 HM.out.2 (by omega) (by omega))).mono ?_
  rintro en u4 (⟨v3, hv3, A7, n7, c7, rfl, h7, b⟩ | ⟨kk, hk, hk0, rfl, b⟩)
  rotate_left
  ·replace BB := bnx BB b
   clear b
   have HKK := hyd (And.intro hk hk0)
   clear hk hk0
   go_wp2
   exact ⟨rfl, .inr ⟨kk, (HI.out.trans (by simp only [powF_succ, thn, ← HO1.out, HV1.out, ← HO2.out, HV2.out, ← HO3.out, HKK.out.1])), HKK.out.2, rfl, BW.trans (BB.mono BW.size)⟩⟩
  have HV3 := hyd hv3
  clear hv3
  replace BB := bnx BB b
  have G := mv b rfl (J18 t0 k1 r a0 a1 a2 h3 h4 x0 x1 x2 x3 x4 x5 h6 y0 y1 y2)
  clear b t0 k1 r a0 a1 a2 h3 h4 x0 x1 x2 x3 x4 x5 h6 y0 y1 y2
  obtain ⟨t0, k1, r, a0, a1, a2, h3, h4, x0, x1, x2, x3, x4, x5, h6, y0, y1, y2⟩ := G
  obtain ⟨z0, z1, z2⟩ := (Box.new u4 v3.s A7 n7 c7 v3.e).held
  have b := below_alloc u4 (.cells #[.bool v3.s, .slice A7 n7 c7, .int .i64 v3.e] 28)
  replace BB := bnx BB b
  have G := mv b rfl (J19 t0 k1 r a0 a1 a2 h3 h4 x0 x1 x2 x3 x4 x5 h6 y0 y1 y2 h7)
  clear b t0 k1 r a0 a1 a2 h3 h4 x0 x1 x2 x3 x4 x5 h6 y0 y1 y2 h7
  obtain ⟨t0, k1, r, a0, a1, a2, h3, h4, x0, x1, x2, x3, x4, x5, h6, y0, y1, y2, h7⟩ := G
  have HL : Hid (o = if 0 < cmpR S.K v1.hi.s v1.hi.l v1.hi.e v3.s v3.l v3.e then powF S x e k (p : Int) up s g (v * 2) else .ok (if up = true then v3 else v2)) := hyd (HI.out.trans (by simp only [powF_succ, thn, ← HO1.out, HV1.out, ← HO2.out, HV2.out, ← HO3.out, HV3.out]))
  have hcm := dcmp_raw (s1 := v1.hi.s) (s2 := v3.s) (e1 := v1.hi.e) (e2 := v3.e) S.big t0 h4 h7
  obtain ⟨zc, hzc⟩ : ∃ z, z = cmpR S.K v1.hi.s v1.hi.l v1.hi.e v3.s v3.l v3.e := ⟨_, rfl⟩
  rw [← hzc] at hcm
  have HZC : Hid (o = if 0 < zc then powF S x e k (p : Int) up s g (v * 2) else .ok (if up = true then v3 else v2)) := hyd (by rw [hzc]; exact HL.out)
  clear hzc HL
  go_wp2_with fail
  refine (hcm).mono ?_
  rintro en u5 ⟨rfl, b⟩
  clear hcm
  replace BB := bnx BB b
  have G := mv b rfl (J22 t0 k1 r a0 a1 a2 h3 h4 x0 x1 x2 x3 x4 x5 h6 y0 y1 y2 h7 z0 z1 z2)
  clear b t0 k1 r a0 a1 a2 h3 h4 x0 x1 x2 x3 x4 x5 h6 y0 y1 y2 h7 z0 z1 z2
  obtain ⟨t0, k1, r, a0, a1, a2, h3, h4, x0, x1, x2, x3, x4, x5, h6, y0, y1, y2, h7, z0, z1, z2⟩ := G
  by_cases hc : 0 < zc
  ·have d0 : decide (0 < zc) = true := decide_eq_true hc
   have HI2 : Hid (o = powF S x e k (p : Int) up s g (v * 2)) := hyd (by rw [HZC.out, if_pos hc])
   have HV4 : Hid (1 ≤ g ∧ v * 2 * 2 ^ g = (p + 32) * 256 ∧ 33 ≤ v * 2) := hyd (by
    obtain ⟨q1, q2, q3⟩ := HV.out
    refine ⟨?_, by rw [← q2, Nat.pow_succ]; ac_rfl, by omega⟩
    rcases Nat.eq_zero_or_pos g with h | h
    ·exfalso
     rw [h, Nat.pow_succ, Nat.pow_zero] at q2
     have h5 := bou_end (S := S) (m := x) (e := e) (k := k) (neg := s) (show 4096 ≤ v by omega)
     rw [← HO1.out, HV1.out] at h5
     cases h5
    exact h)
   have hw2 : IntKind.i64.wrap ((v : Int) * 2) = ((v * 2 : Nat) : Int) := by rw [IntWalk.i64_in _ (by omega)]; omega
   clear hc
   go_wp2
   go_roundg g
   case measure => omega
   case rel => exact ⟨v * 2, by first | rfl | go_num, HV4, HI2, BB⟩
  have d0 : decide (0 < zc) = false := decide_eq_false hc
  have HF : Hid (o = .ok (if up = true then v3 else v2)) := hyd (by rw [HZC.out, if_neg hc])
  clear hc HZC
  replace BB := BW.trans (BB.mono BW.size)
  cases up with
  | true =>
   have HE : Hid (o = .ok v3) := hyd (HF.out.trans (by first | rfl | simp))
   obtain ⟨f0, f1, f2⟩ := r.open
   obtain ⟨g0, g1, g2⟩ := r.held
   go_wp2
   first | rw [Exit.noGoto_ret] | skip
   exact ret3 rfl rfl rfl r BB (by omega) (h7.put3 r _ _ _) fun hN HB3 => (.inl ⟨v3, HE.out, _, _, _, rfl, hN, HB3⟩)
  | false =>
   have HE : Hid (o = .ok v2) := hyd (HF.out.trans (by first | rfl | simp))
   obtain ⟨f0, f1, f2⟩ := r.open
   obtain ⟨g0, g1, g2⟩ := r.held
   go_wp2
   first | rw [Exit.noGoto_ret] | skip
   exact ret3 rfl rfl rfl r BB (by omega) (h6.put3 r _ _ _) fun hN HB3 => (.inl ⟨v2, HE.out, _, _, _, rfl, hN, HB3⟩)
set_option maxHeartbeats 8000000
set_option maxRecDepth 100000
def kN (x : Nat) (e : Int) : Nat := (max 0 ((blen x : Int) + e + 8)).toNat
def powO (S : Sc) (a : Rw) (p : Int) (up : Bool) : Except Int Rw := if val W a.l = 0 then .ok oneQ else powF S (val W a.l) a.e (kN (val W a.l) a.e) p up a.s 8 (p.toNat + 32)
def paiO (S : Sc) (x : Iv) (p : Int) : Except Int Iv := thn (powO S x.lo p false) fun l => thn (powO S x.hi p true) fun h => .ok ⟨l, h⟩
def ovrO (S : Sc) (x : Iv) (p : Int) : Except Int Iv := if chk S.K x p = 0 then paiO S x p else .error (chk S.K x p)
theorem epow_run (S : Sc) {a : Rw} (hT : Tab w) (h1 : Rd w .u64 W A1 n1 c1 a.l) (hm : a.may = true) (he1 : -400 ≤ a.e) (he2 : a.e ≤ 6) (hp1 : 1 ≤ p) (hp2 : p ≤ 300) :
  Calls Tryz.prog 126 #[.agg #[.bool a.s, .slice A1 n1 c1, .int .i64 a.e], .int .i64 p, .bool up] w (RunQ (powO S a p up) w) := by
 obtain ⟨hN, hO, _⟩ := rd_okd h1 hm
 unfold powO
 by_cases h0 : val W a.l = 0
 ·rw [if_pos h0]
  rw [h0] at hN hO
  have hs : a.s = false ∧ a.e = 0 := by
   rcases hO with ⟨_, h2, h3⟩ | ⟨h2, _⟩
   ·exact ⟨h2, h3⟩
   exact absurd h2 (by decide)
  rw [hs.1, hs.2]
  exact (epower_0 hT hN).mono fun en w' ⟨A, n, c, e, g, b⟩ => .inl ⟨oneQ, rfl, A, n, c, e, g.rd, b⟩
 rw [if_neg h0]
 obtain ⟨P, rfl⟩ := Int.eq_ofNat_of_zero_le (show 0 ≤ p by omega)
 rw [Int.toNat_natCast]
 exact epower_run S hT hN hO h0 (by omega) (by omega) (by unfold kN; omega) (by omega) (by omega)
theorem chk_zero (h : chk K x p = 0) : mayI K x = true ∧ 1 ≤ p ∧ p ≤ 300 ∧ withinI K x d64 = true ∧ -400 ≤ x.lo.e ∧ -400 ≤ x.hi.e := by
 unfold chk at h
 split at h
 ·cases h
 rename_i h1
 split at h
 ·cases h
 rename_i h2
 split at h
 ·cases h
 rename_i h3
 refine ⟨?_, by omega, by omega, ?_, by omega, by omega⟩
 ·cases hm : mayI K x
  ·exact absurd (.inl hm) h1
  rfl
 cases hm : withinI K x d64
 ·exact absurd hm h2
 rfl
theorem e_small {a : Rw} (hm : a.may = true) (h1 : -(64 * ((2 ^ K : Nat) : Int)) ≤ a.v K) (h2 : a.v K ≤ 64 * ((2 ^ K : Nat) : Int)) : a.e ≤ 6 := by
 obtain ⟨_, hO⟩ := mayD_of a.lt hm
 rcases hO with ⟨_, _, h3⟩ | ⟨hodd, _, h3, h4⟩
 ·omega
 refine Int.le_of_not_gt fun h5 => ?_
 have h6 := vz_abs (K := K) (s := a.s) (m := val W a.l) (e := a.e)
 have h7 : 2 ^ (K + 7) ≤ val W a.l * 2 ^ (a.e + (K : Int)).toNat := by
  refine Nat.le_trans (Nat.pow_le_pow_right (by omega) (show K + 7 ≤ (a.e + (K : Int)).toNat by omega)) (Nat.le_mul_of_pos_left _ (by omega))
 have h8 : 2 ^ (K + 7) = 2 ^ K * 128 := by rw [Nat.pow_add]
 rw [← h6, h8] at h7
 have h9 : 0 < 2 ^ K := Nat.pow_pos (by omega)
 unfold Rw.v at h1 h2
 generalize vz K a.s (val W a.l) a.e = z at *
 generalize 2 ^ K = P at *
 omega
theorem chk_small (h : chk K x p = 0) : x.lo.may = true ∧ x.hi.may = true ∧ x.lo.e ≤ 6 ∧ x.hi.e ≤ 6 := by
 obtain ⟨hm, _, _, hw, _⟩ := chk_zero h
 obtain ⟨m1, m2, m3⟩ := mayI_iff.1 hm
 obtain ⟨_, _, w1, w2⟩ := withinI_iff.1 hw
 have e1 : d64.lo.v K = -(64 * ((2 ^ K : Nat) : Int)) := by
  have := (v_64 K).2
  rw [← this]
  exact Rw.of_v
 have e2 : d64.hi.v K = 64 * ((2 ^ K : Nat) : Int) := by
  have := (v_64 K).1
  rw [← this]
  exact Rw.of_v
 rw [e1] at w1
 rw [e2] at w2
 exact ⟨m1, m2, e_small (K := K) m1 (by omega) (by omega), e_small (K := K) m2 (by omega) (by omega)⟩
theorem runi_ok {o : Except Int Iv} {v : Iv} {w w' : World} {en : Ending} (h : RunI o w en w') (hv : o = .ok v) : GivI v w en w' := by
 rcases h with ⟨u, hu, g⟩ | ⟨k, hk, _⟩
 ·rw [hu] at hv
  injection hv with hv
  rw [← hv]
  exact g
 rw [hk] at hv
 cases hv
theorem runi_no {o : Except Int Iv} {k : Int} {w w' : World} {en : Ending} (h : RunI o w en w') (hv : o = .error k) : Faults k w en w' := by
 rcases h with ⟨u, hu, _⟩ | ⟨k2, hk, _, g⟩
 ·rw [hu] at hv
  cases hv
 rw [hk] at hv
 injection hv with hv
 rw [← hv]
 exact g
theorem over1_run (S : Sc) {g : Nat} {A2 : Option Addr} {n2 c2 : Nat} (hT : Tab w) (h1 : Rd w .u64 W A1 n1 c1 x.lo.l) (h2 : Rd w .u64 W A2 n2 c2 x.hi.l) (xa : Ibx w g x.lo.s A1 n1 c1 x.lo.e x.hi.s A2 n2 c2 x.hi.e) (xp : Cel w (g + 1) p) (hc : chk S.K x p = 0) :
  Calls Tryz.prog 124 #[.pointer (some ⟨g, 0, none⟩), .pointer (some ⟨g + 1, 0, none⟩)] w (RunI (paiO S x p) w) := by
 obtain ⟨q, hq⟩ : ∃ q : Except Int Iv, q = paiO S x p := ⟨_, rfl⟩
 rw [← hq]
 have HQ := hyd hq
 clear hq
 have BB := below_alloc w (.cells #[.bool false, .slice none 0 0, .int .i64 0, .bool false, .slice none 0 0, .int .i64 0] 30)
 have r := Ibx.new w false none 0 0 0 false none 0 0 0
 obtain ⟨a0, a1, a2, a3, a4, a5⟩ := xa.held
 have p0 := xp.c0
 have lg := xa.gl
 have lp := xp.gl
 have hcs := chk_small hc
 have hcz := chk_zero hc
 have HC := hyd hc
 have HCS := hyd (And.intro hcs hcz)
 clear hc hcs hcz xa xp
 have G := mv BB rfl (J10 hT h1 h2 a0 a1 a2 a3 a4 a5 p0)
 clear hT h1 h2 a0 a1 a2 a3 a4 a5 p0
 obtain ⟨hT, h1, h2, a0, a1, a2, a3, a4, a5, p0⟩ := G
 go_enter Tryz.func124, Tryz.ntmps124
 go_wp2_with fail
 refine (echeck_ok (echeck_any (x := x) S.big hT h1 h2) HC.out).mono ?_
 rintro en w2 ⟨rfl, b⟩
 replace BB := bnx BB b
 have G := mv b rfl (J11 hT h1 h2 a0 a1 a2 a3 a4 a5 p0 r)
 clear b hT h1 h2 a0 a1 a2 a3 a4 a5 p0 r
 obtain ⟨hT, h1, h2, a0, a1, a2, a3, a4, a5, p0, r⟩ := G
 go_wp2_with fail
 have b := drew_b w2
 replace BB := bnx BB b
 have G := mv b rfl (J11 hT h1 h2 a0 a1 a2 a3 a4 a5 p0 r)
 clear b hT h1 h2 a0 a1 a2 a3 a4 a5 p0 r
 obtain ⟨hT, h1, h2, a0, a1, a2, a3, a4, a5, p0, r⟩ := G
 obtain ⟨o1, ho1⟩ : ∃ o, o = powO S x.lo p false := ⟨_, rfl⟩
 have HO1 := hyd ho1
 clear ho1
 obtain ⟨o2, ho2⟩ : ∃ o, o = powO S x.hi p true := ⟨_, rfl⟩
 have HO2 := hyd ho2
 clear ho2
 generalize hwd : World.drew w2 = wd at *
 have HS := J7 a0 a1 a2 a3 a4 a5 p0
 revert HS
 apply rg hwd
 intro hHeldv0
 clear hwd
 refine tl 0 ?_
 refine tl 1 ?_
 refine tl 2 ?_
 refine tl 4 ?_
 refine tl 5 ?_
 refine tl 6 ?_
 refine rdy 3 fun K hK => ?_
 go_simp
 refine (runq_to HO1.out (epow_run S hT h1 (by exact HCS.out.1.1) (by have := HCS.out; omega) (by have := HCS.out; omega) (by have := HCS.out; omega) (by have := HCS.out; omega))).mono ?_
 rintro en w' (⟨v1, hv1, A5, n5, c5, rfl, h5, b⟩ | ⟨kk, hk, hk0, rfl, b⟩)
 rotate_left
 ·exact ⟨rfl, .inr ⟨kk, (HQ.out.trans (by simp only [paiO, thn, ← HO1.out, hk])), hk0, rfl, bnx BB b⟩⟩
 have HV1 := hyd hv1
 clear hv1
 replace BB := bnx BB b
 have G := mv b (by rfl) (J11 hT h1 h2 a0 a1 a2 a3 a4 a5 p0 r)
 clear b hT h1 h2 a0 a1 a2 a3 a4 a5 p0 r
 obtain ⟨hT, h1, h2, a0, a1, a2, a3, a4, a5, p0, r⟩ := G
 refine kp hK ⟨a0, a1, a2, a3, a4, a5, p0⟩ fun hHeldv1 => ?_
 clear hK K hHeldv0
 try simp only [Act.put]
 refine rdy 7 fun K hK => ?_
 go_simp
 refine (runq_to HO2.out (epow_run S hT h2 (by exact HCS.out.1.2.1) (by have := HCS.out; omega) (by have := HCS.out; omega) (by have := HCS.out; omega) (by have := HCS.out; omega))).mono ?_
 rintro en w' (⟨v2, hv2, A6, n6, c6, rfl, h6, b⟩ | ⟨kk, hk, hk0, rfl, b⟩)
 rotate_left
 ·exact ⟨rfl, .inr ⟨kk, (HQ.out.trans (by simp only [paiO, thn, ← HO1.out, HV1.out, ← HO2.out, hk])), hk0, rfl, bnx BB b⟩⟩
 have HV2 := hyd hv2
 clear hv2
 replace BB := bnx BB b
 have G := mv b (by rfl) (J12 hT h1 h2 a0 a1 a2 a3 a4 a5 p0 r h5)
 clear b hT h1 h2 a0 a1 a2 a3 a4 a5 p0 r h5
 obtain ⟨hT, h1, h2, a0, a1, a2, a3, a4, a5, p0, r, h5⟩ := G
 obtain ⟨f0, f1, f2, f3, f4, f5⟩ := r.open
 obtain ⟨z0, z1, z2, z3, z4, z5⟩ := r.held
 refine kp hK ⟨a0, a1, a2, a3, a4, a5, p0⟩ fun hHeldv2 => ?_
 clear hK K hHeldv1
 try simp only [Act.put]
 refine tl 8 ?_
 refine rdy 9 fun K hK => ?_
 go_simp
 refine hK.out _ _ (by exact ⟨cell_oth6 a0 (by omega), cell_oth6 a1 (by omega), cell_oth6 a2 (by omega), cell_oth6 a3 (by omega), cell_oth6 a4 (by omega), cell_oth6 a5 (by omega), cell_oth6 p0 (by omega)⟩) (fun hHeldv3 => ?_)
 clear hK K hHeldv2
 try simp only [Act.put]
 refine wpAnyH_done (by kernel_rfl) ?_ _
 go_wp2
 obtain ⟨f0, f1, f2, f3, f4, f5⟩ := r.open
 obtain ⟨z0, z1, z2, z3, z4, z5⟩ := r.held
 exact ret6 rfl rfl rfl r h5 h6 BB (by omega) fun _ hN hM HB3 => (.inl ⟨⟨v1, v2⟩, (HQ.out.trans (by simp only [paiO, thn, ← HO1.out, HV1.out, ← HO2.out, HV2.out])), _, _, _, _, _, _, rfl, hN, hM, HB3⟩)
theorem eover_any (S : Sc) {A2 : Option Addr} {n2 c2 : Nat} (hT : Tab w) (h1 : Rd w .u64 W A1 n1 c1 x.lo.l) (h2 : Rd w .u64 W A2 n2 c2 x.hi.l) :
  Calls Tryz.prog 82 #[.agg #[.bool x.lo.s, .slice A1 n1 c1, .int .i64 x.lo.e, .bool x.hi.s, .slice A2 n2 c2, .int .i64 x.hi.e], .int .i64 p] w (TellO (ovrO S x p) w) := by
 unfold TellO
 have hmf := make_func
 obtain ⟨q, hq⟩ : ∃ q, q = ovrO S x p := ⟨_, rfl⟩
 rw [← hq]
 have HQ := hyd hq
 clear hq
 have HTL : Hid (∀ (W1 : World) (g : Nat), Tab W1 → Rd W1 .u64 W A1 n1 c1 x.lo.l → Rd W1 .u64 W A2 n2 c2 x.hi.l → Ibx W1 g x.lo.s A1 n1 c1 x.lo.e x.hi.s A2 n2 c2 x.hi.e → Cel W1 (g + 1) p → Calls Tryz.prog 47 #[.func (Fn.func 124) #[] #[.pointer (some ⟨g, 0, none⟩), .pointer (some ⟨g + 1, 0, none⟩)]] W1 (TellI (okc q) (oiv q) W1)) := by
  refine hyd fun W1 g t a1 a2 xa xp => ?_
  by_cases hc : chk S.K x p = 0
  ·have hqq : q = paiO S x p := by rw [HQ.out]; unfold ovrO; rw [if_pos hc]
   cases hp : paiO S x p with
   | ok v =>
    rw [hqq, hp]
    exact itold_ok (fun _ => by kernel_rfl) fun _ b => (over1_run S (mv b rfl t) (mv b rfl a1) (mv b rfl a2) (mv b rfl xa) (mv b rfl xp) hc).mono fun _ _ h => runi_ok h hp
   | error k =>
    rw [hqq, hp]
    exact itold_no (fun _ => by kernel_rfl) fun _ b => (over1_run S (mv b rfl t) (mv b rfl a1) (mv b rfl a2) (mv b rfl xa) (mv b rfl xp) hc).mono fun _ _ h => runi_no h hp
  have hqq : q = .error (chk S.K x p) := by rw [HQ.out]; unfold ovrO; rw [if_neg hc]
  rw [hqq]
  exact itold_no (fun _ => by kernel_rfl) fun _ b => eover1_no S.big (mv b rfl t) (mv b rfl a1) (mv b rfl a2) (mv b rfl xa) (mv b rfl xp) rfl hc
 clear HQ
 have BB := three_below w (.cells #[.bool x.lo.s, .slice A1 n1 c1, .int .i64 x.lo.e, .bool x.hi.s, .slice A2 n2 c2, .int .i64 x.hi.e] 30) (.cells #[.int .i64 p] 3) (.cells #[.bool false, .slice none 0 0, .int .i64 0, .bool false, .slice none 0 0, .int .i64 0] 30)
 have xa := ((Ibx.new w x.lo.s A1 n1 c1 x.lo.e x.hi.s A2 n2 c2 x.hi.e).alloc (.cells #[.int .i64 p] 3)).alloc (.cells #[.bool false, .slice none 0 0, .int .i64 0, .bool false, .slice none 0 0, .int .i64 0] 30)
 have xp := mv (below_alloc ((w.alloc (.cells #[.bool x.lo.s, .slice A1 n1 c1, .int .i64 x.lo.e, .bool x.hi.s, .slice A2 n2 c2, .int .i64 x.hi.e] 30)).alloc (.cells #[.int .i64 p] 3)) (.cells #[.bool false, .slice none 0 0, .int .i64 0, .bool false, .slice none 0 0, .int .i64 0] 30)) rfl (Cel.new1 w (.cells #[.bool x.lo.s, .slice A1 n1 c1, .int .i64 x.lo.e, .bool x.hi.s, .slice A2 n2 c2, .int .i64 x.hi.e] 30) p)
 have r := ibx_two w (.cells #[.bool x.lo.s, .slice A1 n1 c1, .int .i64 x.lo.e, .bool x.hi.s, .slice A2 n2 c2, .int .i64 x.hi.e] 30) (.cells #[.int .i64 p] 3) false none 0 0 0 false none 0 0 0
 have G := mv BB rfl (J3 hT h1 h2)
 clear hT h1 h2
 obtain ⟨hT, h1, h2⟩ := G
 go_enter Tryz.func82, Tryz.ntmps82
 go_wp2_with fail
 refine (HTL.out _ _ hT h1 h2 xa xp).mono ?_
 rintro en w5 ⟨A5, n5, c5, A6, n6, c6, rfl, h5, h6, b⟩
 clear hT h1 h2 xa xp
 replace BB := bnx BB b
 replace r := mv b rfl r
 clear b
 obtain ⟨f0, f1, f2, f3, f4, f5⟩ := r.open
 obtain ⟨z0, z1, z2, z3, z4, z5⟩ := r.held
 go_wp2
 exact ret6t rfl rfl rfl rfl r h5 h6 BB (by omega) fun _ hN hM HB3 => ⟨_, _, _, _, _, _, rfl, hN, hM, HB3⟩
structure Ln where
 op : Int
 a : Int
 b : Int
 k : Iv
structure En where
 t : Iv
 nx : Nat
 X : Nat → Iv
 nu : Nat
 U : Nat → Iv
 np : Nat
 P : Nat → Iv
structure Tp where
 n : Nat
 L : Nat → Ln
 m : Nat
 O : Nat → Int
def belowB (k n : Int) : Bool := decide (0 ≤ k) && decide (k < n)
theorem belowB_iff {k n : Int} : belowB k n = true ↔ 0 ≤ k ∧ k < n := by
 unfold belowB
 simp
def bareB (l : Ln) : Bool := sameI l.k Iv.zero
def mayLn (K : Nat) (l : Ln) (i x u p : Int) : Bool :=
 if l.op = 1 then mayI K l.k && (decide (l.a = 0) && decide (l.b = 0))
 else if l.op = 2 then decide (l.a = 0) && (decide (l.b = 0) && bareB l)
 else if l.op = 3 then belowB l.a x && (decide (l.b = 0) && bareB l)
 else if l.op = 4 then belowB l.a u && (decide (l.b = 0) && bareB l)
 else if l.op = 5 then belowB l.a p && (decide (l.b = 0) && bareB l)
 else if l.op = 6 ∨ l.op = 7 ∨ l.op = 8 ∨ l.op = 9 then belowB l.a i && (belowB l.b i && bareB l)
 else if l.op = 10 ∨ l.op = 11 ∨ l.op = 12 ∨ l.op = 13 then belowB l.a i && (decide (l.b = 0) && bareB l)
 else false
def allB (n : Nat) (f : Nat → Bool) : Bool := (List.range n).all f
theorem allB_iff {n : Nat} {f : Nat → Bool} : allB n f = true ↔ ∀ i, i < n → f i = true := by
 unfold allB
 simp [List.all_eq_true, List.mem_range]
def mayT (K : Nat) (T : Tp) (x u p : Int) : Bool := decide (T.n ≤ 200) && (decide (T.m ≤ 200) && (allB T.n (fun i => mayLn K (T.L i) i x u p) && allB T.m (fun j => belowB (T.O j) T.n)))
theorem mayT_iff {T : Tp} {x u p : Int} : mayT K T x u p = true ↔ T.n ≤ 200 ∧ T.m ≤ 200 ∧ (∀ i, i < T.n → mayLn K (T.L i) i x u p = true) ∧ ∀ j, j < T.m → belowB (T.O j) T.n = true := by
 unfold mayT
 simp only [Bool.and_eq_true, decide_eq_true_eq, allB_iff]
def mayE (K : Nat) (E : En) : Bool := mayI K E.t && (allB E.nx (fun i => mayI K (E.X i)) && (allB E.nu (fun i => mayI K (E.U i)) && allB E.np (fun i => mayI K (E.P i))))
theorem mayE_iff {E : En} : mayE K E = true ↔ mayI K E.t = true ∧ (∀ i, i < E.nx → mayI K (E.X i) = true) ∧ (∀ i, i < E.nu → mayI K (E.U i) = true) ∧ ∀ i, i < E.np → mayI K (E.P i) = true := by
 unfold mayE
 simp only [Bool.and_eq_true, allB_iff]
section
variable (S : Sc)
def rouI (x : Iv) (p : Int) : Except Int Iv := outO S x.lo x.hi p
def valO (l : Ln) (V : Nat → Iv) (E : En) (p : Int) : Except Int Iv :=
 if l.op = 1 then rouI S l.k p
 else if l.op = 2 then rouI S E.t p
 else if l.op = 3 then rouI S (E.X l.a.toNat) p
 else if l.op = 4 then rouI S (E.U l.a.toNat) p
 else if l.op = 5 then rouI S (E.P l.a.toNat) p
 else if l.op = 6 then face2 S (V l.a.toNat) (V l.b.toNat) p (sumO S (V l.a.toNat) (V l.b.toNat) p)
 else if l.op = 7 then face2 S (V l.a.toNat) (V l.b.toNat) p (sumO S (V l.a.toNat) (turnI (V l.b.toNat)) p)
 else if l.op = 8 then face2 S (V l.a.toNat) (V l.b.toNat) p (mulI S (V l.a.toNat) (V l.b.toNat) p)
 else if l.op = 9 then face2 S (V l.a.toNat) (V l.b.toNat) p (divI S (V l.a.toNat) (V l.b.toNat) p)
 else if l.op = 10 then face1 S (V l.a.toNat) p (negI S (V l.a.toNat) p)
 else if l.op = 11 then face1 S (V l.a.toNat) p (sqrI S (V l.a.toNat) p)
 else if l.op = 12 then face1 S (V l.a.toNat) p (sqtI S (V l.a.toNat) p)
 else if l.op = 13 then ovrO S (V l.a.toNat) p
 else .error 1
def linO (L : Nat → Ln) (E : En) (p : Int) : Nat → Except Int (List Iv)
 | 0 => .ok []
 | i + 1 => thn (linO L E p i) fun R => thn (valO S (L i) (fun j => R.getD j Iv.zero) E p) fun v => .ok (R ++ [v])
def asksT (T : Tp) (E : En) (p : Int) : Bool := decide (1 ≤ p) && (decide (p ≤ 300) && (mayT S.K T E.nx E.nu E.np && mayE S.K E))
def linesO (T : Tp) (E : En) (p : Int) : Except Int (List Iv) := if asksT S T E p = true then linO S T.L E p T.n else .error 1
def outsL (R : List Iv) (T : Tp) : List Iv := (List.range T.m).map fun j => R.getD (T.O j).toNat Iv.zero
end
def oli (o : Except Int (List Iv)) : List Iv := match o with
 | .ok l => l
 | .error _ => []
section
variable {S : Sc} {L : Nat → Ln} {E : En} {p : Int}
theorem ite_cod {α : Type} {c : Prop} [Decidable c] {a b : Except Int α} (h1 : c → Cod a) (h2 : ¬ c → Cod b) : Cod (if c then a else b) := by
 by_cases h : c
 ·rw [if_pos h]; exact h1 h
 rw [if_neg h]; exact h2 h
theorem tface1_cod {o : Except Int Iv} (h : Cod o) : Cod (face1 S x p o) := by
 unfold face1
 split
 ·exact h
 exact err_cod (by decide)
theorem tface2_cod {o : Except Int Iv} (h : Cod o) : Cod (face2 S x y p o) := by
 unfold face2
 split
 ·exact h
 exact err_cod (by decide)
theorem tmulI_cod : Cod (mulI S x y p) := thn_cod (corO_cod fun _ _ => mulO_cod) fun _ _ => outO_cod
theorem tsqrI_cod : Cod (sqrI S x p) := thn_cod mulO_cod fun _ _ => thn_cod mulO_cod fun _ _ => outO_cod
theorem tdivI_cod : Cod (divI S x y p) := by
 unfold divI
 split
 ·exact err_cod (by decide)
 exact thn_cod (corO_cod fun _ _ => quoO_cod) fun _ _ => thn_cod (corO_cod fun _ _ => quoO_cod) fun _ _ => ok_cod
theorem tsqtI_cod : Cod (sqtI S x p) := by
 unfold sqtI
 split
 ·exact err_cod (by decide)
 exact rooI_cod
theorem fromO_cod {q : Nat} {u : Option (Nat × Nat)} : Cod (fromO S q neg u) := by
 cases u with
 | none => exact err_cod (by decide)
 | some u =>
  show Cod (if neg = true then invO S ⟨natQ S u.1 q, natQ S u.2 q⟩ (q : Int) else .ok ⟨natQ S u.1 q, natQ S u.2 q⟩)
  exact ite_cod (fun _ => thn_cod quoO_cod fun _ _ => thn_cod quoO_cod fun _ _ => ok_cod) fun _ => ok_cod
theorem powF_cod {m : Nat} {k : Nat} (g : Nat) : ∀ w, Cod (powF S m e k p up neg g w) := by
 induction g with
 | zero => exact fun w => err_cod (by decide)
 | succ g ih =>
  intro w
  rw [powF_succ]
  refine thn_cod fromO_cod fun b _ => thn_cod rndO_cod fun lo _ => thn_cod (thn_cod twoO_cod fun _ _ => addO_cod) fun hi _ => ?_
  split
  ·exact ih _
  exact ok_cod
theorem powO_cod {a : Rw} : Cod (powO S a p up) := by
 unfold powO
 split
 ·exact ok_cod
 exact powF_cod _ _
theorem ovrO_cod : Cod (ovrO S x p) := by
 unfold ovrO
 split
 ·exact thn_cod powO_cod fun _ _ => thn_cod powO_cod fun _ _ => ok_cod
 rename_i h
 exact err_cod h
theorem valO_cod {l : Ln} {V : Nat → Iv} : Cod (valO S l V E p) := ite_cod (fun _ => outO_cod) fun _ => ite_cod (fun _ => outO_cod) fun _ => ite_cod (fun _ => outO_cod) fun _ => ite_cod (fun _ => outO_cod) fun _ => ite_cod (fun _ => outO_cod) fun _ => ite_cod (fun _ => tface2_cod sumO_cod) fun _ => ite_cod (fun _ => tface2_cod sumO_cod) fun _ => ite_cod (fun _ => tface2_cod tmulI_cod) fun _ => ite_cod (fun _ => tface2_cod tdivI_cod) fun _ => ite_cod (fun _ => tface1_cod outO_cod) fun _ => ite_cod (fun _ => tface1_cod tsqrI_cod) fun _ => ite_cod (fun _ => tface1_cod tsqtI_cod) fun _ => ite_cod (fun _ => ovrO_cod) fun _ => err_cod (by decide)
theorem linO_cod : ∀ n, Cod (linO S L E p n)
 | 0 => ok_cod
 | n + 1 => thn_cod (linO_cod n) fun _ _ => thn_cod valO_cod fun _ _ => ok_cod
theorem linesO_cod {T : Tp} : Cod (linesO S T E p) := by
 unfold linesO
 split
 ·exact linO_cod _
 exact err_cod (by decide)
theorem lin_step {R : List Iv} (h : linO S L E p (i + 1) = .ok R) : ∃ Q v, linO S L E p i = .ok Q ∧ valO S (L i) (fun j => Q.getD j Iv.zero) E p = .ok v ∧ R = Q ++ [v] := by
 unfold linO at h
 cases h1 : linO S L E p i with
 | error k => rw [h1] at h; cases h
 | ok Q =>
  rw [h1] at h
  simp only [thn] at h
  cases h2 : valO S (L i) (fun j => Q.getD j Iv.zero) E p with
  | error k => rw [h2] at h; cases h
  | ok v =>
   rw [h2] at h
   injection h with h
   exact ⟨Q, v, rfl, h2, h.symm⟩
theorem lin_ok {Q : List Iv} {v : Iv} (h1 : linO S L E p i = .ok Q) (h2 : valO S (L i) (fun j => Q.getD j Iv.zero) E p = .ok v) : linO S L E p (i + 1) = .ok (Q ++ [v]) := by
 rw [linO, h1]
 simp only [thn, h2]
theorem lin_bad {Q : List Iv} {k : Int} (h1 : linO S L E p i = .ok Q) (h2 : valO S (L i) (fun j => Q.getD j Iv.zero) E p = .error k) : linO S L E p (i + 1) = .error k := by
 rw [linO, h1]
 simp only [thn, h2]
theorem lin_err {i d : Nat} {k : Int} (h : linO S L E p i = .error k) : linO S L E p (i + d) = .error k := by
 induction d with
 | zero => exact h
 | succ d ih =>
  show linO S L E p (i + d + 1) = _
  rw [linO, ih]
  rfl
theorem lin_len : ∀ {n : Nat} {R : List Iv}, linO S L E p n = .ok R → R.length = n
 | 0, R, h => by injection h with h; subst h; rfl
 | n + 1, R, h => by
  obtain ⟨Q, v, h1, _, rfl⟩ := lin_step h
  rw [List.length_append, lin_len h1]
  rfl
theorem lin_pre {i : Nat} : ∀ {n : Nat} {R : List Iv}, i ≤ n → linO S L E p n = .ok R → linO S L E p i = .ok (R.take i)
 | 0, R, hi, h => by
  obtain rfl : i = 0 := by omega
  rw [h, List.take_of_length_le (by rw [lin_len h]; exact Nat.le_refl 0)]
 | n + 1, R, hi, h => by
  by_cases hn : i = n + 1
  ·subst hn
   rw [h, List.take_of_length_le (by rw [lin_len h]; exact Nat.le_refl _)]
  obtain ⟨Q, v, h1, _, rfl⟩ := lin_step h
  rw [lin_pre (by omega) h1, List.take_append_of_le_length (by rw [lin_len h1]; omega)]
theorem lin_at {n i : Nat} {R : List Iv} (h : linO S L E p n = .ok R) (hi : i < n) : valO S (L i) (fun j => (R.take i).getD j Iv.zero) E p = .ok (R.getD i Iv.zero) := by
 have h1 := lin_pre (i := i + 1) (by omega) h
 obtain ⟨Q, v, h2, h3, h4⟩ := lin_step h1
 have h5 := lin_pre (i := i) (by omega) h
 rw [h5] at h2
 injection h2 with h2
 subst h2
 rw [h3]
 have hl := lin_len h
 have e : (R.take (i + 1)).getD i Iv.zero = v := by
  rw [h4, List.getD_eq_getElem?_getD, List.getElem?_append_right (by rw [List.length_take]; omega), List.length_take, Nat.min_eq_left (by omega), Nat.sub_self]
  rfl
 rw [← e]
 simp [List.getD_eq_getElem?_getD]
end
end Go.Proofs.YtehfdfjpmmpndaaGreatDoor
