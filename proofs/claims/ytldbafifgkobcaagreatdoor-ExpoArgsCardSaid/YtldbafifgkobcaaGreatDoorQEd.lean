/-
 Contracts of expo's part and sum, at this translation. Condition: the slices read as limbs, the table of math/bits reads as its text lays it.
-/
import Derived.Test.YtldbafifgkobcaaGreatDoorQEb
import Derived.Test.YtldbafifgkobcaaGreatDoorQRt
set_option maxHeartbeats 8000000
set_option maxRecDepth 100000
namespace Go.Proofs.YtldbafifgkobcaaGreatDoor
open Go.RowKit

theorem big_W {x : Nat} (h : x < 2 ^ 200) : x < W ^ 64 := by
 have h1 : 2 ^ 200 ≤ W ^ 4 := by rw [W_eq]; decide
 exact Nat.lt_of_lt_of_le h (Nat.le_trans h1 (Nat.pow_le_pow_right (by rw [W_eq]; decide) (by decide)))
/-- a term and the sum up to it, behind i terms -/
def sStep (x y q i : Nat) (s : Nat × Nat × Nat × Nat) : Nat × Nat × Nat × Nat :=
 (s.1 * x / 2 ^ q / i, ceilN (upN (s.2.1 * y) q) i, s.2.2.1 + s.1 * x / 2 ^ q / i, s.2.2.2 + ceilN (upN (s.2.1 * y) q) i)
def sIt (x y q : Nat) : Nat → Nat × Nat × Nat × Nat
 | 0 => (2 ^ q, 2 ^ q, 2 ^ q, 2 ^ q)
 | i + 1 => sStep x y q (i + 1) (sIt x y q i)
/-- no step grows too great -/
def SumC (x y q i : Nat) (s : Nat × Nat × Nat × Nat) : Prop :=
 s.1 * x < W ^ 64 ∧ s.2.1 * y < W ^ 64 ∧ s.2.1 * y ≠ 0 ∧ s.2.1 * y / 2 ^ q + 1 < W ^ 64 ∧ upN (s.2.1 * y) q / i + 1 < W ^ 64 ∧ s.2.2.1 + s.1 * x / 2 ^ q / i < W ^ 64 ∧ s.2.2.2 + ceilN (upN (s.2.1 * y) q) i < W ^ 64

theorem epart_ok {w : World} {A1 : Option Addr} {n1 c1 : Nat} {x k q n : Nat} {s : Bool} {e : Int} (h1 : Nt w A1 n1 c1 x) (hn : e - (k : Int) + (q : Int) = (n : Int)) (he1 : -1000000 ≤ e) (he2 : e ≤ 1000000) (hk : k ≤ 1000000) (hn2 : n ≤ 1000000) (hl : x * 2 ^ n < W ^ 64) :
  Calls Tryz.prog 138 #[.agg #[.bool s, .slice A1 n1 c1, .int .i64 e], .int .i64 (k : Int), .int .i64 (q : Int)] w (NearIs (x * 2 ^ n) (x * 2 ^ n) (q : Int) w) := by
 have BB := two_below w (.cells #[.bool s, .slice A1 n1 c1, .int .i64 e] 24) (.cells #[.slice none 0 0, .slice none 0 0, .int .i64 0] 117)
 obtain ⟨a0, a1, a2⟩ := ((Box.new w s A1 n1 c1 e).alloc (.cells #[.slice none 0 0, .slice none 0 0, .int .i64 0] 117)).held
 have r := Nrb.at_ (w := (w.alloc (.cells #[.bool s, .slice A1 n1 c1, .int .i64 e] 24))) (sizes_up rfl) none 0 0 none 0 0 0
 have HL := Lib.hid hl
 have hw1 : IntKind.i64.wrap (e - (k : Int)) = e - (k : Int) := IntWalk.i64_in _ (by omega)
 have hw2 : IntKind.i64.wrap (e - (k : Int) + (q : Int)) = (n : Int) := by rw [hn]; exact IntWalk.i64_in _ (by omega)
 have d1 : decide ((n : Int) ≥ 0) = true := decide_eq_true (by omega)
 have d2 : decide ((0 : Int) ≤ (n : Int)) = true := d1
 clear hl hn
 replace h1 := mv BB rfl h1
 go_enter Tryz.func138, Tryz.ntmps138
 go_wp2_with fail
 refine (shl_ok (s := n) h1 hn2 HL.out).mono ?_
 rintro en w1 ⟨A3, n3, c3, rfl, h3, b⟩
 replace BB := bnx BB b
 have G := mv b rfl (J5 h1 a0 a1 a2 r)
 clear b h1 a0 a1 a2 r
 obtain ⟨h1, a0, a1, a2, r⟩ := G
 go_wp2_with fail
 refine natural_ok.mono ?_
 rintro en w' ⟨rfl, rfl⟩
 obtain ⟨f0, f1, f2⟩ := r.open
 obtain ⟨z0, z1, z2⟩ := r.held
 go_wp2
 have qq := r.put A3 n3 c3 A3 n3 c3 (q : Int)
 have hN := h3.putN r (.slice A3 n3 c3) (.slice A3 n3 c3) (.int .i64 (q : Int))
 have hM := h3.putN r (.slice A3 n3 c3) (.slice A3 n3 c3) (.int .i64 (q : Int))
 have HB3 := below_put3 (g := w.heap.size + 1) BB (by omega) (.slice A3 n3 c3) (.slice A3 n3 c3) (.int .i64 (q : Int))
 obtain ⟨z0, z1, z2⟩ := qq.held
 exact bodyPost_ret (v := .agg #[.slice A3 n3 c3, .slice A3 n3 c3, .int .i64 (q : Int)]) (by simp [results, Tryz.results138, go_sem, z0, z1, z2]) rfl ⟨_, _, _, _, _, _, rfl, hN, hM, HB3⟩

theorem esum_ok {w : World} {A1 : Option Addr} {n1 c1 : Nat} {A2 : Option Addr} {n2 c2 : Nat} {x y q n : Nat} (hT : Tab w) (h1 : Nt w A1 n1 c1 x) (h2 : Nt w A2 n2 c2 y) (hq : q ≤ 1000000) (hq3 : q ≤ 64000000) (hq2 : 1 * 2 ^ q < W ^ 64) (hn : n ≤ 1000000) (hn1 : 1 ≤ n) (hs : ∀ j, j < n → SumC x y q (j + 1) (sIt x y q j)) (he : ∀ j, j < n → ((sIt x y q (j + 1)).2.1 = 1 ↔ j + 1 = n)) (hf : (sIt x y q n).2.2.2 + (sIt x y q n).2.1 < W ^ 64) :
  Calls Tryz.prog 137 #[.agg #[.slice A1 n1 c1, .slice A2 n2 c2, .int .i64 (q : Int)]] w (NearIs (sIt x y q n).2.2.1 ((sIt x y q n).2.2.2 + (sIt x y q n).2.1) (q : Int) w) := by
 have BB := three_below w (.cells #[.slice A1 n1 c1, .slice A2 n2 c2, .int .i64 (q : Int)] 117) (.cells #[.slice none 0 0, .slice none 0 0, .int .i64 0] 117) (.cells #[.int .u64 1] 34)
 have xa := ((Nrb.new w A1 n1 c1 A2 n2 c2 (q : Int)).alloc (.cells #[.slice none 0 0, .slice none 0 0, .int .i64 0] 117)).alloc (.cells #[.int .u64 1] 34)
 have r := (Nrb.at_ (w := (w.alloc (.cells #[.slice A1 n1 c1, .slice A2 n2 c2, .int .i64 (q : Int)] 117))) (sizes_up rfl) none 0 0 none 0 0 0).alloc (.cells #[.int .u64 1] 34)
 have N1 := nt_one_at (w := ((w.alloc (.cells #[.slice A1 n1 c1, .slice A2 n2 c2, .int .i64 (q : Int)] 117)).alloc (.cells #[.slice none 0 0, .slice none 0 0, .int .i64 0] 117))) (g := w.heap.size + 2) (v := 1) (sizes_up (sizes_up rfl)) (by omega) (by omega)
 obtain ⟨a0, a1, a2⟩ := xa.held
 have HS := Lib.hid hs
 have HE := Lib.hid he
 have HF := Lib.hid hf
 have HQ := Lib.hid (And.intro hq hq2)
 have HQ3 := Lib.hid (And.intro hn hq3)
 clear hn hq3
 clear hs he hf hq hq2
 have G := mv BB rfl (J3 hT h1 h2)
 clear hT h1 h2
 obtain ⟨hT, h1, h2⟩ := G
 go_enter Tryz.func137, Tryz.ntmps137
 go_wp2
 go_step3
 go_wp2_with fail
 refine (shl_ok (s := q) N1 HQ.out.1 HQ.out.2).mono ?_
 rintro en w1 ⟨A3, n3, c3, rfl, h3, b⟩
 replace BB := bnx BB b
 have G := mv b rfl (J9 hT h1 h2 xa r N1 a0 a1 a2)
 clear b hT h1 h2 xa r N1 a0 a1 a2
 obtain ⟨hT, h1, h2, xa, r, N1, a0, a1, a2⟩ := G
 rw [Nat.one_mul] at h3
 go_wp2_with fail
 refine natural_ok.mono ?_
 rintro en w' ⟨rfl, rfl⟩
 have gl := r.gl
 have BW := BB
 clear BB a0 a1 a2
 skip
 have p5 := (Nrb.at_ (w := w1) rfl A3 n3 c3 A3 n3 c3 (q : Int)).alloc (.cells #[.slice A3 n3 c3, .slice A3 n3 c3, .int .i64 (q : Int)] 117)
 have p6 := Nrb.at_ (w := w1.alloc (.cells #[.slice A3 n3 c3, .slice A3 n3 c3, .int .i64 (q : Int)] 117)) (sizes_up rfl) A3 n3 c3 A3 n3 c3 (q : Int)
 have BB := two_below w1 (.cells #[.slice A3 n3 c3, .slice A3 n3 c3, .int .i64 (q : Int)] 117) (.cells #[.slice A3 n3 c3, .slice A3 n3 c3, .int .i64 (q : Int)] 117)
 obtain ⟨k3, k4⟩ := mv BB rfl <| And.intro h3 h3
 obtain ⟨x0, x1, x2⟩ := xa.held
 skip
 have q5 := (Nrb.at_ (w := w1) rfl A3 n3 c3 A3 n3 c3 (q : Int)).held
 obtain ⟨y0, y1, y2⟩ := q5
 go_wp2
 go_step3
 go_wp2
 go_loopg [7] n (fun gk v7 wr => ∃ (j tl th al ah : Nat) (A4 : Option Addr) (n4 c4 : Nat) (A5 : Option Addr) (n5 c5 : Nat) (A6 : Option Addr) (n6 c6 : Nat) (A7 : Option Addr) (n7 c7 : Nat), j + gk = n ∧ j < n ∧ v7 = .int .u64 ((j + 1 : Nat) : Int) ∧ Hid (sIt x y q j = (tl, th, al, ah)) ∧ Nrb wr w1.heap.size A4 n4 c4 A5 n5 c5 (q : Int) ∧ Nrb wr (w1.heap.size + 1) A6 n6 c6 A7 n7 c7 (q : Int) ∧ Nt wr A4 n4 c4 tl ∧ Nt wr A5 n5 c5 th ∧ Nt wr A6 n6 c6 al ∧ Nt wr A7 n7 c7 ah ∧ Below w1.heap.size w1 wr)
 case atStart => exact ⟨0, _, _, _, _, A3, n3, c3, A3, n3, c3, A3, n3, c3, A3, n3, c3, by omega, by omega, rfl, Lib.hid rfl, p5, p6, k3, k4, k3, k4, BB⟩
 case round =>
  clear p5 p6 k3 k4 BB
  obtain ⟨j, tl, th, al, ah, A4, n4, c4, A5, n5, c5, A6, n6, c6, A7, n7, c7, hg, hjn, rfl, HI, p5, p6, h4, h5, h6, h7, BB⟩ := hrel
  have HG := Lib.hid hg
  clear hg
  have C : SumC x y q (j + 1) (tl, th, al, ah) := by rw [← HI.out]; exact HS.out j hjn
  have C := Lib.hid C
  have HJ : Hid (sIt x y q (j + 1) = sStep x y q (j + 1) (tl, th, al, ah)) := Lib.hid (by rw [← HI.out]; rfl)
  skip
  obtain ⟨t0, k1, k2, ya, r0, M1⟩ := mv BB rfl <| And.intro hT <| And.intro h1 <| And.intro h2 <| And.intro xa <| And.intro r <| N1
  obtain ⟨y0, y1, y2⟩ := p5.held
  obtain ⟨a0, a1, a2⟩ := ya.held
  clear r0
  go_wp2_with fail
  refine (etim_ok t0 h4 h5 k1 k2 C.out.1 C.out.2.1 C.out.2.2.1 C.out.2.2.2.1 HQ3.out.2).mono ?_
  rintro en u1 ⟨A8, n8, c8, A9, n9, c9, rfl, h8, h9, b⟩
  clear y0 y1 y2 a0 a1 a2
  clear h4 h5 k1 k2
  replace BB := bnx BB b
  have G := mv b rfl (J7 t0 ya M1 p5 p6 h6 h7)
  clear b t0 ya M1 p5 p6 h6 h7
  obtain ⟨t0, ya, M1, p5, p6, h6, h7⟩ := G
  obtain ⟨y0, y1, y2⟩ := p5.held
  go_wp2_with fail
  refine (eover_ok (i := j + 1) h8 h9 (by omega) (by have := HQ3.out.1; rw [W_eq]; omega) C.out.2.2.2.2.1).mono ?_
  rintro en u2 ⟨A10, n10, c10, A11, n11, c11, rfl, h10, h11, b⟩
  clear y0 y1 y2
  clear h8 h9
  replace BB := bnx BB b
  have G := mv b rfl (J7 t0 ya M1 p5 p6 h6 h7)
  clear b t0 ya M1 p5 p6 h6 h7
  obtain ⟨t0, ya, M1, p5, p6, h6, h7⟩ := G
  obtain ⟨tl2, htl⟩ : ∃ z, z = tl * x / 2 ^ q / (j + 1) := ⟨_, rfl⟩
  obtain ⟨th2, hth⟩ : ∃ z, z = ceilN (upN (th * y) q) (j + 1) := ⟨_, rfl⟩
  rw [← htl] at h10
  rw [← hth] at h11
  have HJ2 : Hid (sIt x y q (j + 1) = (tl2, th2, al + tl2, ah + th2)) := Lib.hid (by rw [HJ.out, htl, hth]; rfl)
  have HC : Hid (al + tl2 < W ^ 64 ∧ ah + th2 < W ^ 64) := Lib.hid (by rw [htl, hth]; exact ⟨C.out.2.2.2.2.2.1, C.out.2.2.2.2.2.2⟩)
  clear htl hth HJ C HI
  obtain ⟨f0, f1, f2⟩ := p5.open
  obtain ⟨y0, y1, y2⟩ := p5.held
  have g5l := p5.gl
  go_upto_region 8 with fail
  clear f0 f1 f2 y0 y1 y2 ya t0 M1
  replace p6 := p6.other (g' := w1.heap.size) (by omega) (.slice A10 n10 c10) (.slice A11 n11 c11) (.int .i64 (q : Int))
  replace h6 := h6.putN p5 (.slice A10 n10 c10) (.slice A11 n11 c11) (.int .i64 (q : Int))
  replace h7 := h7.putN p5 (.slice A10 n10 c10) (.slice A11 n11 c11) (.int .i64 (q : Int))
  replace h10 := h10.putN p5 (.slice A10 n10 c10) (.slice A11 n11 c11) (.int .i64 (q : Int))
  replace h11 := h11.putN p5 (.slice A10 n10 c10) (.slice A11 n11 c11) (.int .i64 (q : Int))
  replace BB := below_put3 (g := w1.heap.size) BB (by omega) (.slice A10 n10 c10) (.slice A11 n11 c11) (.int .i64 (q : Int))
  replace p5 := p5.put A10 n10 c10 A11 n11 c11 (q : Int)
  generalize ((u2.setCell ⟨w1.heap.size, 0, none⟩ (.slice A10 n10 c10)).setCell ⟨w1.heap.size, 1, none⟩ (.slice A11 n11 c11)).setCell ⟨w1.heap.size, 2, none⟩ (.int .i64 (q : Int)) = u3 at *
  obtain ⟨y0, y1, y2⟩ := p5.held
  obtain ⟨z0, z1, z2⟩ := p6.held
  go_wp2_with fail
  refine (eplus_ok h6 h7 h10 h11 HC.out.1 HC.out.2).mono ?_
  rintro en u4 ⟨A12, n12, c12, A13, n13, c13, rfl, h12, h13, b⟩
  clear y0 y1 y2 z0 z1 z2 HC
  clear h6 h7
  replace BB := bnx BB b
  have G := mv b rfl (J4 p5 p6 h10 h11)
  clear b p5 p6 h10 h11
  obtain ⟨p5, p6, h10, h11⟩ := G
  obtain ⟨f0, f1, f2⟩ := p6.open
  obtain ⟨y0, y1, y2⟩ := p6.held
  have g6l := p6.gl
  go_upto_region 9 with fail
  clear f0 f1 f2 y0 y1 y2
  replace p5 := p5.other (g' := (w1.heap.size + 1)) (by omega) (.slice A12 n12 c12) (.slice A13 n13 c13) (.int .i64 (q : Int))
  replace h10 := h10.putN p6 (.slice A12 n12 c12) (.slice A13 n13 c13) (.int .i64 (q : Int))
  replace h11 := h11.putN p6 (.slice A12 n12 c12) (.slice A13 n13 c13) (.int .i64 (q : Int))
  replace h12 := h12.putN p6 (.slice A12 n12 c12) (.slice A13 n13 c13) (.int .i64 (q : Int))
  replace h13 := h13.putN p6 (.slice A12 n12 c12) (.slice A13 n13 c13) (.int .i64 (q : Int))
  replace BB := below_put3 (g := (w1.heap.size + 1)) BB (by omega) (.slice A12 n12 c12) (.slice A13 n13 c13) (.int .i64 (q : Int))
  replace p6 := p6.put A12 n12 c12 A13 n13 c13 (q : Int)
  generalize ((u4.setCell ⟨(w1.heap.size + 1), 0, none⟩ (.slice A12 n12 c12)).setCell ⟨(w1.heap.size + 1), 1, none⟩ (.slice A13 n13 c13)).setCell ⟨(w1.heap.size + 1), 2, none⟩ (.int .i64 (q : Int)) = u5 at *
  have M1 := mv BB rfl N1
  obtain ⟨y0, y1, y2⟩ := p5.held
  go_wp2_with fail
  refine (cmp_nt h11 M1).mono ?_
  rintro en u6 ⟨rfl, b⟩
  clear y0 y1 y2 M1
  replace BB := bnx BB b
  have G := mv b rfl (J6 p5 p6 h10 h11 h12 h13)
  clear b p5 p6 h10 h11 h12 h13
  obtain ⟨p5, p6, h10, h11, h12, h13⟩ := G
  have HZ := HE.out j hjn
  rw [HJ2.out] at HZ
  obtain ⟨z, hz⟩ : ∃ z, cmpN th2 1 = z := ⟨_, rfl⟩
  rw [hz]
  by_cases hth : th2 = 1
  ·have e0 : (z == 0) = true := by rw [← hz, cmpN_eq hth]; rfl
   have hjl : j + 1 = n := HZ.1 hth
   have HJ3 : Hid (sIt x y q n = (tl2, th2, al + tl2, ah + th2)) := Lib.hid (by rw [← hjl]; exact HJ2.out)
   have HF2 : Hid (ah + th2 + th2 < W ^ 64) := Lib.hid (by have := HF.out; rw [HJ3.out] at this; exact this)
   clear hz hth HZ HJ2 HF HG hjl hjn
   obtain ⟨xa, r⟩ := mv BB rfl <| And.intro xa r
   have BB1 : Below w.heap.size w u6 := BW.trans (BB.mono BW.size)
   replace BB := BB1
   clear BB1 BW hT h1 h2 N1 h3
   obtain ⟨y0, y1, y2⟩ := p5.held
   obtain ⟨z0, z1, z2⟩ := p6.held
   obtain ⟨a0, a1, a2⟩ := xa.held
   have nn := nt_nil u6
   go_wp2_with fail
   refine (eplus_ok h12 h13 nn h11 (by rw [Nat.add_zero]; exact h12.lt) HF2.out).mono ?_
   rintro en u7 ⟨A14, n14, c14, A15, n15, c15, rfl, h14, h15, b⟩
   clear y0 y1 y2 z0 z1 z2 a0 a1 a2 nn p5 p6 xa h10 h11 h12 h13
   replace BB := bnx BB b
   replace r := mv b rfl r
   clear b
   rw [Nat.add_zero] at h14
   obtain ⟨f0, f1, f2⟩ := r.open
   obtain ⟨z0, z1, z2⟩ := r.held
   go_wp2
   first | rw [Exit.noGoto_ret] | skip
   have qq := r.put A14 n14 c14 A15 n15 c15 (q : Int)
   have hN := h14.putN r (.slice A14 n14 c14) (.slice A15 n15 c15) (.int .i64 (q : Int))
   have hM := h15.putN r (.slice A14 n14 c14) (.slice A15 n15 c15) (.int .i64 (q : Int))
   have HB3 := below_put3 (g := w.heap.size + 1) BB (by omega) (.slice A14 n14 c14) (.slice A15 n15 c15) (.int .i64 (q : Int))
   obtain ⟨z0, z1, z2⟩ := qq.held
   exact bodyPost_ret (v := .agg #[.slice A14 n14 c14, .slice A15 n15 c15, .int .i64 (q : Int)]) (by simp [results, Tryz.results137, go_sem, z0, z1, z2]) rfl ⟨_, _, _, _, _, _, rfl, by rw [HJ3.out]; exact hN, by rw [HJ3.out]; exact hM, HB3⟩
  have e0 : (z == 0) = false := by rcases cmpN_cases th2 1 with ⟨h, _⟩ | ⟨_, h⟩ | ⟨h, _⟩; (rw [← hz, h]; rfl); exact absurd h hth; (rw [← hz, h]; rfl)
  have hjl : j + 1 ≠ n := fun h => hth (HZ.2 h)
  have HG2 : Hid (j + 1 + (gk - 1) = n ∧ j + 1 < n) := Lib.hid (by have := HG.out; omega)
  have HG3 : Hid (gk - 1 < gk) := Lib.hid (by have := HG.out; omega)
  have hwj : IntKind.u64.wrap (((j + 1 : Nat) : Int) + 1) = ((j + 1 + 1 : Nat) : Int) := by have := HQ3.out.1; rw [IntWalk.u64_in _ (by omega)]; try omega
  clear hz hth HZ hjl HG
  go_wp2
  go_roundg (gk - 1)
  case measure => exact HG3.out
  case rel => exact ⟨j + 1, _, _, _, _, _, _, _, _, _, _, _, _, _, _, _, _, HG2.out.1, HG2.out.2, by first | rfl | go_num | (congr 1 <;> omega), HJ2, p5, p6, h10, h11, h12, h13, BB⟩

end Go.Proofs.YtldbafifgkobcaaGreatDoor
