/-
  Outcome of expo's sum, at this translation.
-/
import Derived.Test.YtehfdfjpmmpndaaGreatDoorQEp
set_option maxHeartbeats 8000000
set_option maxRecDepth 100000
namespace Go.Proofs.YtehfdfjpmmpndaaGreatDoor
open Go.RowKit
variable {A1 A2 : Option Addr} {c1 c2 i n1 n2 q x y z : Nat} {w : World}
def sumF (x y q : Nat) : Nat → Nat → Nat × Nat × Nat × Nat → Option (Nat × Nat)
 | 0, _, _ => none
 | g + 1, j, s => if s.1 * x < W ^ 64 ∧ s.2.1 * y < W ^ 64 then
   (if (sStep x y q (j + 1) s).2.2.1 < W ^ 64 ∧ (sStep x y q (j + 1) s).2.2.2 < W ^ 64 then
    (if (sStep x y q (j + 1) s).2.1 = 1 then (if (sStep x y q (j + 1) s).2.2.2 + (sStep x y q (j + 1) s).2.1 < W ^ 64 then some ((sStep x y q (j + 1) s).2.2.1, (sStep x y q (j + 1) s).2.2.2 + (sStep x y q (j + 1) s).2.1) else none)
    else sumF x y q g (j + 1) (sStep x y q (j + 1) s))
   else none)
  else none
theorem sumF_pos {x y q g j : Nat} {s : Nat × Nat × Nat × Nat} (h : s.1 * x < W ^ 64 ∧ s.2.1 * y < W ^ 64) : sumF x y q (g + 1) j s = (if (sStep x y q (j + 1) s).2.2.1 < W ^ 64 ∧ (sStep x y q (j + 1) s).2.2.2 < W ^ 64 then
    (if (sStep x y q (j + 1) s).2.1 = 1 then (if (sStep x y q (j + 1) s).2.2.2 + (sStep x y q (j + 1) s).2.1 < W ^ 64 then some ((sStep x y q (j + 1) s).2.2.1, (sStep x y q (j + 1) s).2.2.2 + (sStep x y q (j + 1) s).2.1) else none)
    else sumF x y q g (j + 1) (sStep x y q (j + 1) s))
   else none) := if_pos h
def serO (x y q : Nat) : Option (Nat × Nat) := if 2 ^ q < W ^ 64 then sumF x y q q 0 (2 ^ q, 2 ^ q, 2 ^ q, 2 ^ q) else none
theorem ceilN_le (hi : 1 ≤ i) : ceilN z i ≤ z := by
 unfold ceilN
 by_cases h1 : i = 1
 ·subst h1
  rw [Nat.div_one, Nat.mod_one, if_pos rfl]
  omega
 have h2 : z / i ≤ z / 2 := Nat.div_le_div_left (by omega) (by omega)
 split
 ·exact Nat.div_le_self _ _
 rename_i h3
 have h4 : z ≠ 0 := fun h => h3 (by rw [h, Nat.zero_mod])
 rcases Nat.lt_or_ge z 2 with h5 | h5
 ·obtain rfl : z = 1 := by omega
  rw [Nat.div_eq_of_lt (show 1 < i by omega)]
  exact Nat.le_refl 1
 omega
theorem ceilN_pos (hz : z ≠ 0) : ceilN z i ≠ 0 := by
 unfold ceilN
 split
 ·rename_i h
  intro h2
  have h3 := Nat.div_add_mod z i
  rw [h] at h3
  have h4 : z / i = 0 := by simpa using h2
  rw [h4, Nat.mul_zero] at h3
  exact hz h3.symm
 exact Nat.succ_ne_zero _
theorem upN_pos {z n : Nat} (hz : z ≠ 0) : upN z n ≠ 0 := ceilN_pos (i := 2 ^ n) hz
theorem upN_half {t y q : Nat} (hy : 2 * y ≤ 2 ^ q) : 2 * upN (t * y) q ≤ t + 1 := by
 unfold upN
 have h1 := Nat.div_add_mod (t * y) (2 ^ q)
 have h2 := Nat.mul_le_mul_left t hy
 rw [show t * (2 * y) = 2 * (t * y) by ac_rfl] at h2
 have hP : 0 < 2 ^ q := Nat.pow_pos (by omega)
 generalize 2 ^ q = P at *
 generalize t * y / P = a at *
 generalize t * y % P = b at *
 rw [← h1, Nat.mul_add, show 2 * (P * a) = 2 * a * P by ac_rfl] at h2
 split
 ·rename_i hb
  rw [hb, Nat.mul_zero, Nat.add_zero] at h2
  have := Nat.le_of_mul_le_mul_right h2 hP
  omega
 rename_i hb
 have h3 : 2 * a * P < t * P := by omega
 have := Nat.lt_of_mul_lt_mul_right h3
 omega
theorem next_term {t y q i g : Nat} (hy0 : y ≠ 0) (hy : 2 * y ≤ 2 ^ q) (hi : 1 ≤ i) (h2 : 2 ≤ t) (hg : t - 1 < 2 ^ (g + 1)) : ceilN (upN (t * y) q) i ≠ 0 ∧ ceilN (upN (t * y) q) i - 1 < 2 ^ g ∧ ceilN (upN (t * y) q) i ≤ t := by
 have h3 := upN_half (t := t) hy
 have h4 : ceilN (upN (t * y) q) i ≤ upN (t * y) q := ceilN_le hi
 rw [Nat.pow_succ] at hg
 exact ⟨ceilN_pos (upN_pos (Nat.mul_ne_zero (by omega) hy0)), by omega, by omega⟩
theorem over_fits (h : z + 1 < W ^ 64) : z / i + 1 < W ^ 64 := by
 have := Nat.div_le_self z i
 omega
theorem esum_no (hT : Tab w) (h1 : Nt w A1 n1 c1 x) (h2 : Nt w A2 n2 c2 y) (hq2 : W ^ 64 ≤ 1 * 2 ^ q) :
  Calls Tryz.prog 166 #[.agg #[.slice A1 n1 c1, .slice A2 n2 c2, .int .i64 (q : Int)]] w (Faults 2 w) := by
 have BB := three_below w (.cells #[.slice A1 n1 c1, .slice A2 n2 c2, .int .i64 (q : Int)] 143) (.cells #[.slice none 0 0, .slice none 0 0, .int .i64 0] 143) (.cells #[.int .u64 1] 58)
 have xa := ((Nrb.new w A1 n1 c1 A2 n2 c2 (q : Int)).alloc (.cells #[.slice none 0 0, .slice none 0 0, .int .i64 0] 143)).alloc (.cells #[.int .u64 1] 58)
 have r := (Nrb.at_ (w := (w.alloc (.cells #[.slice A1 n1 c1, .slice A2 n2 c2, .int .i64 (q : Int)] 143))) (sizes_up rfl) none 0 0 none 0 0 0).alloc (.cells #[.int .u64 1] 58)
 have N1 := nt_one_at (w := ((w.alloc (.cells #[.slice A1 n1 c1, .slice A2 n2 c2, .int .i64 (q : Int)] 143)).alloc (.cells #[.slice none 0 0, .slice none 0 0, .int .i64 0] 143))) (g := w.heap.size + 2) (v := 1) (sizes_up (sizes_up rfl)) (by omega) (by omega)
 obtain ⟨a0, a1, a2⟩ := xa.held
 have HQ := hyd hq2
 clear hq2
 have G := mv BB rfl (J3 hT h1 h2)
 clear hT h1 h2
 obtain ⟨hT, h1, h2⟩ := G
 go_enter Tryz.func166, Tryz.ntmps166
 go_wp2
 go_step3
 go_wp2_with fail
 refine (shl_over (s := q) N1 (by omega) HQ.out).mono ?_
 rintro en w1 ⟨rfl, rfl⟩
 go_wp2_with fail
 refine (natural_bad (by decide)).mono ?_
 rintro en w2 ⟨rfl, rfl⟩
 go_wp2
 exact ⟨rfl, rfl, BB⟩
theorem esum_go (hT : Tab w) (h1 : Nt w A1 n1 c1 x) (h2 : Nt w A2 n2 c2 y) (hq1 : 1 ≤ q) (hq : q ≤ 100000) (hq2 : 1 * 2 ^ q < W ^ 64) (hy0 : y ≠ 0) (hy : 2 * y ≤ 2 ^ q) :
  Calls Tryz.prog 166 #[.agg #[.slice A1 n1 c1, .slice A2 n2 c2, .int .i64 (q : Int)]] w (NearO (sumF x y q q 0 (2 ^ q, 2 ^ q, 2 ^ q, 2 ^ q)) (q : Int) w) := by
 have BB := three_below w (.cells #[.slice A1 n1 c1, .slice A2 n2 c2, .int .i64 (q : Int)] 143) (.cells #[.slice none 0 0, .slice none 0 0, .int .i64 0] 143) (.cells #[.int .u64 1] 58)
 have xa := ((Nrb.new w A1 n1 c1 A2 n2 c2 (q : Int)).alloc (.cells #[.slice none 0 0, .slice none 0 0, .int .i64 0] 143)).alloc (.cells #[.int .u64 1] 58)
 have r := (Nrb.at_ (w := (w.alloc (.cells #[.slice A1 n1 c1, .slice A2 n2 c2, .int .i64 (q : Int)] 143))) (sizes_up rfl) none 0 0 none 0 0 0).alloc (.cells #[.int .u64 1] 58)
 have N1 := nt_one_at (w := ((w.alloc (.cells #[.slice A1 n1 c1, .slice A2 n2 c2, .int .i64 (q : Int)] 143)).alloc (.cells #[.slice none 0 0, .slice none 0 0, .int .i64 0] 143))) (g := w.heap.size + 2) (v := 1) (sizes_up (sizes_up rfl)) (by omega) (by omega)
 obtain ⟨a0, a1, a2⟩ := xa.held
 obtain ⟨o, ho⟩ : ∃ o, o = sumF x y q q 0 (2 ^ q, 2 ^ q, 2 ^ q, 2 ^ q) := ⟨_, rfl⟩
 rw [← ho]
 have HO := hyd ho
 have HY := hyd (And.intro hy0 hy)
 have HQ := hyd (And.intro hq hq2)
 have HQ1 := hyd hq1
 have H2q : Hid (2 ≤ 2 ^ q ∧ 2 ^ q - 1 < 2 ^ q) := hyd (by
  have h := Nat.pow_le_pow_right (n := 2) (by omega) hq1
  rw [Nat.pow_one] at h
  exact ⟨h, by omega⟩)
 clear ho hy0 hy hq hq2 hq1
 have G := mv BB rfl (J3 hT h1 h2)
 clear hT h1 h2
 obtain ⟨hT, h1, h2⟩ := G
 go_enter Tryz.func166, Tryz.ntmps166
 go_wp2
 go_step3
 go_wp2_with fail
 refine (shl_ok (s := q) N1 (Nat.le_trans HQ.out.1 (by omega)) HQ.out.2).mono ?_
 rintro en w1 ⟨A3, n3, c3, rfl, h3, b⟩
 replace BB := bnx BB b
 have G := mv b rfl (J9 hT h1 h2 xa r N1 a0 a1 a2)
 clear b hT h1 h2 xa r N1 a0 a1 a2
 obtain ⟨hT, h1, h2, xa, r, N1, a0, a1, a2⟩ := G
 rw [Nat.one_mul] at h3
 go_wp2_with fail
 refine natural_ok.mono ?_
 rintro en w' ⟨rfl, rfl⟩
 have gl := r.gl
 have BW := BB
 clear BB a0 a1 a2
 have p5 := (Nrb.at_ (w := w1) rfl A3 n3 c3 A3 n3 c3 (q : Int)).alloc (.cells #[.slice A3 n3 c3, .slice A3 n3 c3, .int .i64 (q : Int)] 143)
 have p6 := Nrb.at_ (w := w1.alloc (.cells #[.slice A3 n3 c3, .slice A3 n3 c3, .int .i64 (q : Int)] 143)) (sizes_up rfl) A3 n3 c3 A3 n3 c3 (q : Int)
 have BB := two_below w1 (.cells #[.slice A3 n3 c3, .slice A3 n3 c3, .int .i64 (q : Int)] 143) (.cells #[.slice A3 n3 c3, .slice A3 n3 c3, .int .i64 (q : Int)] 143)
 obtain ⟨k3, k4⟩ := mv BB rfl <| And.intro h3 h3
 obtain ⟨x0, x1, x2⟩ := xa.held
 have q5 := (Nrb.at_ (w := w1) rfl A3 n3 c3 A3 n3 c3 (q : Int)).held
 obtain ⟨y0, y1, y2⟩ := q5
 go_wp2
 go_step3
 go_wp2
 go_loopg [7] q (fun gk v7 wr => ∃ (j tl th al ah : Nat) (A4 : Option Addr) (n4 c4 : Nat) (A5 : Option Addr) (n5 c5 : Nat) (A6 : Option Addr) (n6 c6 : Nat) (A7 : Option Addr) (n7 c7 : Nat), j + gk = q ∧ v7 = .int .u64 ((j + 1 : Nat) : Int) ∧ Hid (2 ≤ th ∧ th - 1 < 2 ^ gk) ∧ Hid (o = sumF x y q gk j (tl, th, al, ah)) ∧ Nrb wr w1.heap.size A4 n4 c4 A5 n5 c5 (q : Int) ∧ Nrb wr (w1.heap.size + 1) A6 n6 c6 A7 n7 c7 (q : Int) ∧ Nt wr A4 n4 c4 tl ∧ Nt wr A5 n5 c5 th ∧ Nt wr A6 n6 c6 al ∧ Nt wr A7 n7 c7 ah ∧ Below w1.heap.size w1 wr)
 case atStart => exact ⟨0, _, _, _, _, A3, n3, c3, A3, n3, c3, A3, n3, c3, A3, n3, c3, by omega, rfl, H2q, HO, p5, p6, k3, k4, k3, k4, BB⟩
 case round =>
  clear p5 p6 k3 k4 BB
  obtain ⟨j, tl, th, al, ah, A4, n4, c4, A5, n5, c5, A6, n6, c6, A7, n7, c7, hg, rfl, HTH, HI, p5, p6, h4, h5, h6, h7, BB⟩ := hrel
  obtain ⟨gq, hgq⟩ : ∃ z, gk = z + 1 := ⟨gk - 1, by
   rcases Nat.eq_zero_or_pos gk with h | h
   ·have h1 := HTH.out
    rw [h, Nat.pow_zero] at h1
    omega
   omega⟩
  subst hgq
  have HG := hyd hg
  have hj5 : j ≤ 100000 := by have := HQ.out.1; omega
  clear hg
  have h5lt := hyd h5.lt
  have HNX := hyd (fun (i : Nat) (hi : 1 ≤ i) => next_term (i := i) HY.out.1 HY.out.2 hi HTH.out.1 HTH.out.2)
  obtain ⟨t0, k1, k2, ya, r0, M1⟩ := mv BB rfl <| And.intro hT <| And.intro h1 <| And.intro h2 <| And.intro xa <| And.intro r <| N1
  obtain ⟨y0, y1, y2⟩ := p5.held
  obtain ⟨a0, a1, a2⟩ := ya.held
  clear r0
  by_cases cc1 : tl * x < W ^ 64 ∧ th * y < W ^ 64
  rotate_left
  ·have HB : Hid (o = none) := hyd (by rw [HI.out]; unfold sumF; rw [if_neg cc1])
   have hc : Calls Tryz.prog 168 #[.agg #[.slice A4 n4 c4, .slice A5 n5 c5, .int .i64 (q : Int)], .agg #[.slice A1 n1 c1, .slice A2 n2 c2, .int .i64 (q : Int)]] wr (Faults 2 wr) := by
    have hh := etim_any (q := q) (q2 := (q : Int)) t0 h4 h5 k1 k2 (Nat.mul_ne_zero (by have := HTH.out; omega) HY.out.1) HQ1.out (Nat.le_trans HQ.out.1 (by omega))
    unfold timO at hh
    rw [if_neg cc1] at hh
    exact hh
   clear cc1
   go_wp2_with fail
   refine hc.mono ?_
   rintro en u1 ⟨rfl, b⟩
   replace BB := bnx BB b
   clear b
   go_wp2
   exact ⟨rfl, (by rw [HB.out]; exact ⟨rfl, BW.trans (BB.mono BW.size)⟩)⟩
  have C := hyd cc1
  clear cc1
  go_wp2_with fail
  refine (etim_ok t0 h4 h5 k1 k2 C.out.1 C.out.2 (Nat.mul_ne_zero (by have := HTH.out; omega) HY.out.1) (half_fits HQ1.out C.out.2) (Nat.le_trans HQ.out.1 (by omega))).mono ?_
  rintro en u1 ⟨A8, n8, c8, A9, n9, c9, rfl, h8, h9, b⟩
  clear y0 y1 y2 a0 a1 a2
  clear h4 h5 k1 k2
  replace BB := bnx BB b
  have G := mv b rfl (J7 t0 ya M1 p5 p6 h6 h7)
  clear b t0 ya M1 p5 p6 h6 h7
  obtain ⟨t0, ya, M1, p5, p6, h6, h7⟩ := G
  obtain ⟨y0, y1, y2⟩ := p5.held
  have HUF : Hid (upN (th * y) q + 1 < W ^ 64) := hyd (by
   have e := upN_half (t := th) HY.out.2
   have e2 := h5lt.out
   have e3 := HTH.out.1
   have e4 : 5 < W ^ 64 := small64 (by omega)
   omega)
  go_wp2_with fail
  refine (eover_ok (i := j + 1) h8 h9 (by omega) (by rw [W_eq]; omega) (over_fits HUF.out)).mono ?_
  rintro en u2 ⟨A10, n10, c10, A11, n11, c11, rfl, h10, h11, b⟩
  clear y0 y1 y2
  clear h8 h9
  replace BB := bnx BB b
  have G := mv b rfl (J7 t0 ya M1 p5 p6 h6 h7)
  clear b t0 ya M1 p5 p6 h6 h7
  obtain ⟨t0, ya, M1, p5, p6, h6, h7⟩ := G
  obtain ⟨tl2, htl⟩ : ∃ z, z = tl * x / 2 ^ q / (j + 1) := ⟨_, rfl⟩
  obtain ⟨th2, hth⟩ : ∃ z, z = ceilN (upN (th * y) q) (j + 1) := ⟨_, rfl⟩
  rw [← htl] at h10
  rw [← hth] at h11
  have HT2 : Hid (th2 ≠ 0 ∧ th2 - 1 < 2 ^ gq ∧ th2 ≤ th) := hyd (by rw [hth]; exact HNX.out (j + 1) (by omega))
  have HJ : Hid (sStep x y q (j + 1) (tl, th, al, ah) = (tl2, th2, al + tl2, ah + th2)) := hyd (by rw [htl, hth]; rfl)
  have HI2 : Hid (o = if al + tl2 < W ^ 64 ∧ ah + th2 < W ^ 64 then (if th2 = 1 then (if ah + th2 + th2 < W ^ 64 then some (al + tl2, ah + th2 + th2) else none) else sumF x y q gq (j + 1) (tl2, th2, al + tl2, ah + th2)) else none) := hyd (by
   rw [HI.out, sumF_pos C.out, HJ.out])
  clear htl hth HJ C HI HNX HUF
  obtain ⟨f0, f1, f2⟩ := p5.open
  obtain ⟨y0, y1, y2⟩ := p5.held
  have g5l := p5.gl
  go_upto_region 8 with fail
  clear f0 f1 f2 y0 y1 y2 ya t0 M1
  replace p6 := p6.other (g' := w1.heap.size) (by omega) (.slice A10 n10 c10) (.slice A11 n11 c11) (.int .i64 (q : Int))
  replace h6 := h6.putN p5 (.slice A10 n10 c10) (.slice A11 n11 c11) (.int .i64 (q : Int))
  replace h7 := h7.putN p5 (.slice A10 n10 c10) (.slice A11 n11 c11) (.int .i64 (q : Int))
  replace h10 := h10.putN p5 (.slice A10 n10 c10) (.slice A11 n11 c11) (.int .i64 (q : Int))
  replace h11 := h11.putN p5 (.slice A10 n10 c10) (.slice A11 n11 c11) (.int .i64 (q : Int))
  replace BB := below_put3 (g := w1.heap.size) BB (by omega) (.slice A10 n10 c10) (.slice A11 n11 c11) (.int .i64 (q : Int))
  replace p5 := p5.put A10 n10 c10 A11 n11 c11 (q : Int)
  generalize ((u2.setCell ⟨w1.heap.size, 0, none⟩ (.slice A10 n10 c10)).setCell ⟨w1.heap.size, 1, none⟩ (.slice A11 n11 c11)).setCell ⟨w1.heap.size, 2, none⟩ (.int .i64 (q : Int)) = u3 at *
  obtain ⟨y0, y1, y2⟩ := p5.held
  obtain ⟨z0, z1, z2⟩ := p6.held
  by_cases cc2 : al + tl2 < W ^ 64 ∧ ah + th2 < W ^ 64
  rotate_left
  ·have HB : Hid (o = none) := hyd (by rw [HI2.out, if_neg cc2])
   have hc : Calls Tryz.prog 175 #[.agg #[.slice A6 n6 c6, .slice A7 n7 c7, .int .i64 (q : Int)], .agg #[.slice A10 n10 c10, .slice A11 n11 c11, .int .i64 (q : Int)]] u3 (Faults 2 u3) := by
    have hh := eplus_any (q := q) (q2 := (q : Int)) h6 h7 h10 h11
    unfold pluO at hh
    rw [if_neg cc2] at hh
    exact hh
   clear cc2
   go_wp2_with fail
   refine hc.mono ?_
   rintro en u4 ⟨rfl, b⟩
   replace BB := bnx BB b
   clear b
   go_wp2
   exact ⟨rfl, (by rw [HB.out]; exact ⟨rfl, BW.trans (BB.mono BW.size)⟩)⟩
  have HC := hyd cc2
  have HI3 : Hid (o = if th2 = 1 then (if ah + th2 + th2 < W ^ 64 then some (al + tl2, ah + th2 + th2) else none) else sumF x y q gq (j + 1) (tl2, th2, al + tl2, ah + th2)) := hyd (by rw [HI2.out, if_pos cc2])
  clear cc2 HI2
  go_wp2_with fail
  refine (eplus_ok h6 h7 h10 h11 HC.out.1 HC.out.2).mono ?_
  rintro en u4 ⟨A12, n12, c12, A13, n13, c13, rfl, h12, h13, b⟩
  clear y0 y1 y2 z0 z1 z2 HC
  clear h6 h7
  replace BB := bnx BB b
  have G := mv b rfl (J4 p5 p6 h10 h11)
  clear b p5 p6 h10 h11
  obtain ⟨p5, p6, h10, h11⟩ := G
  obtain ⟨f0, f1, f2⟩ := p6.open
  obtain ⟨y0, y1, y2⟩ := p6.held
  have g6l := p6.gl
  go_upto_region 9 with fail
  clear f0 f1 f2 y0 y1 y2
  replace p5 := p5.other (g' := (w1.heap.size + 1)) (by omega) (.slice A12 n12 c12) (.slice A13 n13 c13) (.int .i64 (q : Int))
  replace h10 := h10.putN p6 (.slice A12 n12 c12) (.slice A13 n13 c13) (.int .i64 (q : Int))
  replace h11 := h11.putN p6 (.slice A12 n12 c12) (.slice A13 n13 c13) (.int .i64 (q : Int))
  replace h12 := h12.putN p6 (.slice A12 n12 c12) (.slice A13 n13 c13) (.int .i64 (q : Int))
  replace h13 := h13.putN p6 (.slice A12 n12 c12) (.slice A13 n13 c13) (.int .i64 (q : Int))
  replace BB := below_put3 (g := (w1.heap.size + 1)) BB (by omega) (.slice A12 n12 c12) (.slice A13 n13 c13) (.int .i64 (q : Int))
  replace p6 := p6.put A12 n12 c12 A13 n13 c13 (q : Int)
  generalize ((u4.setCell ⟨(w1.heap.size + 1), 0, none⟩ (.slice A12 n12 c12)).setCell ⟨(w1.heap.size + 1), 1, none⟩ (.slice A13 n13 c13)).setCell ⟨(w1.heap.size + 1), 2, none⟩ (.int .i64 (q : Int)) = u5 at *
  have M1 := mv BB rfl N1
  obtain ⟨y0, y1, y2⟩ := p5.held
  go_wp2_with fail
  refine (cmp_nt h11 M1).mono ?_
  rintro en u6 ⟨rfl, b⟩
  clear y0 y1 y2 M1
  replace BB := bnx BB b
  have G := mv b rfl (J6 p5 p6 h10 h11 h12 h13)
  clear b p5 p6 h10 h11 h12 h13
  obtain ⟨p5, p6, h10, h11, h12, h13⟩ := G
  obtain ⟨z, hz⟩ : ∃ z, cmpN th2 1 = z := ⟨_, rfl⟩
  rw [hz]
  by_cases hth : th2 = 1
  ·have e0 : (z == 0) = true := by rw [← hz, cmpN_eq hth]; rfl
   have HI4 : Hid (o = if ah + th2 + th2 < W ^ 64 then some (al + tl2, ah + th2 + th2) else none) := hyd (by rw [HI3.out, if_pos hth])
   clear hz hth HI3 HG
   obtain ⟨xa, r⟩ := mv BB rfl <| And.intro xa r
   have BB1 : Below w.heap.size w u6 := BW.trans (BB.mono BW.size)
   replace BB := BB1
   clear BB1 BW hT h1 h2 N1 h3
   obtain ⟨y0, y1, y2⟩ := p5.held
   obtain ⟨z0, z1, z2⟩ := p6.held
   obtain ⟨a0, a1, a2⟩ := xa.held
   have nn := nt_nil u6
   by_cases cc3 : ah + th2 + th2 < W ^ 64
   rotate_left
   ·have HB : Hid (o = none) := hyd (by rw [HI4.out, if_neg cc3])
    have hc3 : W ^ 64 ≤ ah + th2 + th2 := by omega
    go_wp2_with fail
    refine (eplus_no2 h12 h13 nn h11 ⟨by rw [Nat.add_zero]; exact h12.lt, hc3⟩).mono ?_
    rintro en u7 ⟨rfl, b⟩
    replace BB := bnx BB b
    clear b
    go_wp2
    exact ⟨rfl, (by rw [HB.out]; exact ⟨rfl, BB⟩)⟩
   have HB : Hid (o = some (al + tl2, ah + th2 + th2)) := hyd (by rw [HI4.out, if_pos cc3])
   have HF2 := hyd cc3
   clear cc3 HI4
   go_wp2_with fail
   refine (eplus_ok h12 h13 nn h11 (by rw [Nat.add_zero]; exact h12.lt) HF2.out).mono ?_
   rintro en u7 ⟨A14, n14, c14, A15, n15, c15, rfl, h14, h15, b⟩
   clear y0 y1 y2 z0 z1 z2 a0 a1 a2 nn p5 p6 xa h10 h11 h12 h13
   replace BB := bnx BB b
   replace r := mv b rfl r
   clear b
   rw [Nat.add_zero] at h14
   obtain ⟨f0, f1, f2⟩ := r.open
   obtain ⟨z0, z1, z2⟩ := r.held
   go_wp2
   first | rw [Exit.noGoto_ret] | skip
   have qq := r.put A14 n14 c14 A15 n15 c15 (q : Int)
   have hN := h14.putN r (.slice A14 n14 c14) (.slice A15 n15 c15) (.int .i64 (q : Int))
   have hM := h15.putN r (.slice A14 n14 c14) (.slice A15 n15 c15) (.int .i64 (q : Int))
   have HB3 := below_put3 (g := w.heap.size + 1) BB (by omega) (.slice A14 n14 c14) (.slice A15 n15 c15) (.int .i64 (q : Int))
   obtain ⟨z0, z1, z2⟩ := qq.held
   exact bodyPost_ret (v := .agg #[.slice A14 n14 c14, .slice A15 n15 c15, .int .i64 (q : Int)]) (by simp [results, Tryz.results166, go_sem, z0, z1, z2]) rfl (by rw [HB.out]; exact ⟨_, _, _, _, _, _, rfl, hN, hM, HB3⟩)
  have e0 : (z == 0) = false := by rcases cmpN_cases th2 1 with ⟨h, _⟩ | ⟨_, h⟩ | ⟨h, _⟩; (rw [← hz, h]; rfl); exact absurd h hth; (rw [← hz, h]; rfl)
  have HI5 : Hid (o = sumF x y q gq (j + 1) (tl2, th2, al + tl2, ah + th2)) := hyd (by rw [HI3.out, if_neg hth])
  have HTH2 : Hid (2 ≤ th2 ∧ th2 - 1 < 2 ^ gq) := hyd (by have := HT2.out; exact ⟨by omega, this.2.1⟩)
  have HG2 : Hid (j + 1 + gq = q) := hyd (by have := HG.out; omega)
  have hwj : IntKind.u64.wrap (((j + 1 : Nat) : Int) + 1) = ((j + 1 + 1 : Nat) : Int) := by rw [IntWalk.u64_in _ (by omega)]; try omega
  clear hz hth HI3 HG HTH HT2
  go_wp2
  go_roundg gq
  case measure => omega
  case rel => exact ⟨j + 1, _, _, _, _, _, _, _, _, _, _, _, _, _, _, _, _, HG2.out, by first | rfl | go_num | (congr 1 <;> omega), HTH2, HI5, p5, p6, h10, h11, h12, h13, BB⟩
theorem esum_any (hT : Tab w) (h1 : Nt w A1 n1 c1 x) (h2 : Nt w A2 n2 c2 y) (hq1 : 1 ≤ q) (hq : q ≤ 100000) (hy0 : y ≠ 0) (hy : 2 * y ≤ 2 ^ q) :
  Calls Tryz.prog 166 #[.agg #[.slice A1 n1 c1, .slice A2 n2 c2, .int .i64 (q : Int)]] w (NearO (serO x y q) (q : Int) w) := by
 unfold serO
 by_cases h : 2 ^ q < W ^ 64
 ·rw [if_pos h]
  exact esum_go hT h1 h2 hq1 hq (by rw [Nat.one_mul]; exact h) hy0 hy
 rw [if_neg h]
 exact esum_no hT h1 h2 (by rw [Nat.one_mul]; omega)
end Go.Proofs.YtehfdfjpmmpndaaGreatDoor
