/-
  TubeTimes: it returns true, at this translation. Condition: the slices read as limbs, the table of math/bits reads as its text lays it.
-/
import Derived.Test.YtkpcmgfpmekkjaaDoorQUo
import Derived.Test.YtkpcmgfpmekkjaaDoorQUp
import Derived.Test.YtkpcmgfpmekkjaaDoorQTx
namespace Go.Proofs.YtkpcmgfpmekkjaaDoor
open Go.RowKit


section
variable {K : Nat} {a u : Tb} {x y : Rw}
theorem over_at (h : OverOk K a x y) : OverOk K a x x := ⟨h.1, h.mx, h.mx, Int.le_refl _, h.lo, Int.le_trans h.le h.hi⟩
theorem ovr_five (hm : MayT K a) (hx : x.may = true) (hy : y.may = true) (hl : x.v K ≤ y.v K) (h : overK K a x y ≠ 0) : overK K a x y = 5 := by
  have hc : ¬ cmpQ K y x < 0 := fun h2 => by have := (cmpQ_lt hy hx).1 h2; omega
  have h0 : (mayTb K a && (x.may && (y.may && !decide (cmpQ K y x < 0)))) = true := by
    rw [mayTb_iff.2 hm, hx, hy, decide_eq_false hc]; rfl
  unfold overK at h ⊢
  rw [if_pos h0] at h ⊢
  split at h
  · exact absurd rfl h
  · next h2 => rw [if_neg h2]
theorem times_all (hI : cellsB K a u (withinI K) = true) (hx : x.may = true) (hy : y.may = true) (hl : x.v K ≤ y.v K) : overK K u x y = overK K a x y ∧ (overK K a x y ≠ 0 → overK K a x y = 5) ∧ (overK K a x y = 0 → overK K a x x = 0 ∧ overK K u x x = 0 ∧ withinI K (overI K a x y) (overI K u x y) = true ∧ withinI K (overI K a x x) (overI K u x x) = true) := by
  have h1 := cellsB_iff.1 hI
  refine ⟨(in_code h1).symm, ovr_five h1.1 hx hy hl, fun h => ?_⟩
  have h2 := overK_ok.1 h
  have h3 := over_at h2
  exact ⟨overK_ok.2 h3, overK_ok.2 (in_over h1 h3).1, (in_over h1 h2).2, (in_over h1 h3).2⟩
end
theorem blk_put3 {w : World} {g g2 : Nat} {cs : Array Value} {T : TypeId} (h : Blk w g cs T) (hne : g ≠ g2) (u0 u1 u2 : Value) : Blk (((w.setCell ⟨g2, 0, none⟩ u0).setCell ⟨g2, 1, none⟩ u1).setCell ⟨g2, 2, none⟩ u2) g cs T :=
  ⟨(Below.heap_setCell _ ⟨g2, 2, none⟩ u2 g hne).trans ((Below.heap_setCell _ ⟨g2, 1, none⟩ u1 g hne).trans ((Below.heap_setCell w ⟨g2, 0, none⟩ u0 g hne).trans h.blk))⟩
/-- the two times as they lie, the lesser one first, and the boxes of two tubes -/
def TwoW (K : Nat) (w : World) (ga gu g7 g8 : Nat) (ca cu : Array Value) (wc : World) : Prop := ∃ (x y : Rw) (A1 : Option Addr) (n1 c1 : Nat) (A2 : Option Addr) (n2 c2 : Nat), (x.may = true ∧ y.may = true ∧ x.v K ≤ y.v K) ∧ Box wc g7 x.s A1 n1 c1 x.e ∧ Box wc g8 y.s A2 n2 c2 y.e ∧ Rd wc .u64 Go.Proofs.YtkpcmgfpmekkjaaDoor.W A1 n1 c1 x.l ∧ Rd wc .u64 Go.Proofs.YtkpcmgfpmekkjaaDoor.W A2 n2 c2 y.l ∧ Blk wc ga ca 25 ∧ Blk wc gu cu 25 ∧ Below w.heap.size w wc
theorem two_swap {K : Nat} {w wa : World} {ga gu g7 g8 : Nat} {ca cu : Array Value} {x y : Rw} {A1 : Option Addr} {n1 c1 : Nat} {A2 : Option Addr} {n2 c2 : Nat} (hx : x.may = true) (hy : y.may = true) (hl : y.v K ≤ x.v K) (x7 : Box wa g7 x.s A1 n1 c1 x.e) (x8 : Box wa g8 y.s A2 n2 c2 y.e) (r1 : Rd wa .u64 Go.Proofs.YtkpcmgfpmekkjaaDoor.W A1 n1 c1 x.l) (r2 : Rd wa .u64 Go.Proofs.YtkpcmgfpmekkjaaDoor.W A2 n2 c2 y.l) (xa : Blk wa ga ca 25) (xu : Blk wa gu cu 25) (BB : Below w.heap.size w wa) (h7 : w.heap.size ≤ g7) (h8 : g7 < g8) (h5 : ga < g7) (h6 : gu < g7) :
    TwoW K w ga gu g7 g8 ca cu ((((((wa.setCell ⟨g7, 0, none⟩ (.bool y.s)).setCell ⟨g7, 1, none⟩ (.slice A2 n2 c2)).setCell ⟨g7, 2, none⟩ (.int .i64 y.e)).setCell ⟨g8, 0, none⟩ (.bool x.s)).setCell ⟨g8, 1, none⟩ (.slice A1 n1 c1)).setCell ⟨g8, 2, none⟩ (.int .i64 x.e)) := by
  have ya := x7.put y.s A2 n2 c2 y.e
  have yb := x8.put3 (g := g7) (by omega) (.bool y.s) (.slice A2 n2 c2) (.int .i64 y.e)
  have s1 := r1.put3 x7 (.bool y.s) (.slice A2 n2 c2) (.int .i64 y.e)
  have s2 := r2.put3 x7 (.bool y.s) (.slice A2 n2 c2) (.int .i64 y.e)
  exact ⟨y, x, A2, n2, c2, A1, n1, c1, ⟨hy, hx, hl⟩, ya.put3 (g := g8) (by omega) _ _ _, yb.put x.s A1 n1 c1 x.e, s2.put3 yb _ _ _, s1.put3 yb _ _ _, blk_put3 (blk_put3 xa (by omega) _ _ _) (by omega) _ _ _, blk_put3 (blk_put3 xu (by omega) _ _ _) (by omega) _ _ _, below_put3 (below_put3 BB h7 _ _ _) (by omega) _ _ _⟩

theorem cmp_ge {K : Nat} {x y : Rw} (hx : x.may = true) (hy : y.may = true) (h : 0 < cmpQ K x y) : y.v K ≤ x.v K := by
  rcases Int.lt_or_le (x.v K) (y.v K) with h2 | h2
  · have := (cmpQ_lt hx hy).2 h2; omega
  · exact h2
theorem cmp_le' {K : Nat} {x y : Rw} (hx : x.may = true) (hy : y.may = true) (h : ¬ 0 < cmpQ K x y) : x.v K ≤ y.v K := by
  exact (cmpQ_le hx hy).1 (by omega)

set_option maxRecDepth 100000 in
set_option maxHeartbeats 8000000 in
theorem tubetimes_any {w : World} {a : Tb} {Ta Va : Option Addr} {ca da : Nat} {u : Tb} {Tu Vu : Option Addr} {cu du : Nat} {x y : Rw} {A1 : Option Addr} {n1 c1 : Nat} {A2 : Option Addr} {n2 c2 : Nat} (hT : Tab w) (ha : RdTb w Ta ca Va da a) (hu : RdTb w Tu cu Vu du u) (h1 : Rd w .u64 Go.Proofs.YtkpcmgfpmekkjaaDoor.W A1 n1 c1 x.l) (h2 : Rd w .u64 Go.Proofs.YtkpcmgfpmekkjaaDoor.W A2 n2 c2 y.l) :
    Calls Tryd.prog 3 #[.agg #[.slice Ta a.m ca, .slice Va a.n da], .agg #[.slice Tu u.m cu, .slice Vu u.n du], .agg #[.bool x.s, .slice A1 n1 c1, .int .i64 x.e], .agg #[.bool y.s, .slice A2 n2 c2, .int .i64 y.e]] w (Bools true w) := by
  obtain ⟨KS, hKS⟩ := scale_has
  have HK := Lib.hid hKS
  have hT0 := hT
  have ha0 := ha
  have hu0 := hu
  have BB := Below.refl w.heap.size w
  have b := below_alloc w (.cells #[.slice Ta a.m ca, .slice Va a.n da] 25)
  have xa := Blk.new w #[.slice Ta a.m ca, .slice Va a.n da] 25
  replace BB := below_next BB BB.size b rfl rfl rfl rfl
  have G := mv b rfl <| And.intro hT <| And.intro ha <| And.intro hu <| And.intro h1 <| h2
  clear hT ha hu h1 h2
  obtain ⟨hT, ha, hu, h1, h2⟩ := G
  clear b
  have b := below_alloc (w.alloc (.cells #[.slice Ta a.m ca, .slice Va a.n da] 25)) (.cells #[.slice Tu u.m cu, .slice Vu u.n du] 25)
  have xu := Blk.new (w.alloc (.cells #[.slice Ta a.m ca, .slice Va a.n da] 25)) #[.slice Tu u.m cu, .slice Vu u.n du] 25
  rw [show (w.alloc (.cells #[.slice Ta a.m ca, .slice Va a.n da] 25)).heap.size = w.heap.size + 1 by simp] at xu
  replace BB := below_next BB BB.size b rfl rfl rfl rfl
  have G := mv b rfl <| And.intro hT <| And.intro ha <| And.intro hu <| And.intro h1 <| And.intro h2 <| xa
  clear hT ha hu h1 h2 xa
  obtain ⟨hT, ha, hu, h1, h2, xa⟩ := G
  clear b
  have b := below_alloc ((w.alloc (.cells #[.slice Ta a.m ca, .slice Va a.n da] 25)).alloc (.cells #[.slice Tu u.m cu, .slice Vu u.n du] 25)) (.cells #[.bool x.s, .slice A1 n1 c1, .int .i64 x.e] 28)
  have x7 := Blk.new ((w.alloc (.cells #[.slice Ta a.m ca, .slice Va a.n da] 25)).alloc (.cells #[.slice Tu u.m cu, .slice Vu u.n du] 25)) #[.bool x.s, .slice A1 n1 c1, .int .i64 x.e] 28
  rw [show ((w.alloc (.cells #[.slice Ta a.m ca, .slice Va a.n da] 25)).alloc (.cells #[.slice Tu u.m cu, .slice Vu u.n du] 25)).heap.size = w.heap.size + 2 by simp] at x7
  replace BB := below_next BB BB.size b rfl rfl rfl rfl
  have G := mv b rfl <| And.intro hT <| And.intro ha <| And.intro hu <| And.intro h1 <| And.intro h2 <| And.intro xa <| xu
  clear hT ha hu h1 h2 xa xu
  obtain ⟨hT, ha, hu, h1, h2, xa, xu⟩ := G
  clear b
  have b := below_alloc (((w.alloc (.cells #[.slice Ta a.m ca, .slice Va a.n da] 25)).alloc (.cells #[.slice Tu u.m cu, .slice Vu u.n du] 25)).alloc (.cells #[.bool x.s, .slice A1 n1 c1, .int .i64 x.e] 28)) (.cells #[.bool y.s, .slice A2 n2 c2, .int .i64 y.e] 28)
  have x8 := Blk.new (((w.alloc (.cells #[.slice Ta a.m ca, .slice Va a.n da] 25)).alloc (.cells #[.slice Tu u.m cu, .slice Vu u.n du] 25)).alloc (.cells #[.bool x.s, .slice A1 n1 c1, .int .i64 x.e] 28)) #[.bool y.s, .slice A2 n2 c2, .int .i64 y.e] 28
  rw [show (((w.alloc (.cells #[.slice Ta a.m ca, .slice Va a.n da] 25)).alloc (.cells #[.slice Tu u.m cu, .slice Vu u.n du] 25)).alloc (.cells #[.bool x.s, .slice A1 n1 c1, .int .i64 x.e] 28)).heap.size = w.heap.size + 3 by simp] at x8
  replace BB := below_next BB BB.size b rfl rfl rfl rfl
  have G := mv b rfl <| And.intro hT <| And.intro ha <| And.intro hu <| And.intro h1 <| And.intro h2 <| And.intro xa <| And.intro xu <| x7
  clear hT ha hu h1 h2 xa xu x7
  obtain ⟨hT, ha, hu, h1, h2, xa, xu, x7⟩ := G
  clear b
  have xa0 : World.cell? _ ⟨_, 0, none⟩ = some (.slice Ta a.m ca) := xa.at 0
  have xa1 : World.cell? _ ⟨_, 1, none⟩ = some (.slice Va a.n da) := xa.at 1
  have xu0 : World.cell? _ ⟨_, 0, none⟩ = some (.slice Tu u.m cu) := xu.at 0
  have xu1 : World.cell? _ ⟨_, 1, none⟩ = some (.slice Vu u.n du) := xu.at 1
  have x0 : World.cell? _ ⟨_, 0, none⟩ = some (.bool x.s) := x7.at 0
  have x1 : World.cell? _ ⟨_, 1, none⟩ = some (.slice A1 n1 c1) := x7.at 1
  have x2 : World.cell? _ ⟨_, 2, none⟩ = some (.int .i64 x.e) := x7.at 2
  have y0 : World.cell? _ ⟨_, 0, none⟩ = some (.bool y.s) := x8.at 0
  have y1 : World.cell? _ ⟨_, 1, none⟩ = some (.slice A2 n2 c2) := x8.at 1
  have y2 : World.cell? _ ⟨_, 2, none⟩ = some (.int .i64 y.e) := x8.at 2
  have hga : w.heap.size < w.heap.size + 2 := by omega
  have hgu : w.heap.size + 1 < w.heap.size + 2 := by omega
  have hg7 : w.heap.size ≤ w.heap.size + 2 := by omega
  have hg78 : w.heap.size + 2 < w.heap.size + 3 := by omega
  go_enter Tryd.func3, Tryd.ntmps3
  go_upto_region 1 with fail
  generalize ((((w.alloc (.cells #[.slice Ta a.m ca, .slice Va a.n da] 25)).alloc (.cells #[.slice Tu u.m cu, .slice Vu u.n du] 25)).alloc (.cells #[.bool x.s, .slice A1 n1 c1, .int .i64 x.e] 28)).alloc (.cells #[.bool y.s, .slice A2 n2 c2, .int .i64 y.e] 28)) = W0 at *
  generalize w.heap.size + 3 = g8 at *
  generalize w.heap.size + 2 = g7 at *
  generalize w.heap.size + 1 = gu at *
  have HG7 := Lib.hid (And.intro hg7 (And.intro hg78 (And.intro hga hgu)))
  clear hga hgu hg7
  have hg1 : ¬ g7 = g8 := by omega
  have hg2 : ¬ g8 = g7 := by omega
  clear hg78
  go_wp2_with fail
  refine (tfew13_any ha).mono ?_
  rintro en w1 ⟨p1, rfl, hF1, b⟩
  replace BB := below_next BB BB.size b rfl rfl rfl rfl
  have G := mv b rfl <| And.intro hT <| And.intro ha <| And.intro hu <| And.intro h1 <| And.intro h2 <| And.intro xa <| And.intro xu <| And.intro x7 <| And.intro x8 <| And.intro xa0 <| And.intro xa1 <| And.intro xu0 <| And.intro xu1 <| And.intro x0 <| And.intro x1 <| And.intro x2 <| And.intro y0 <| And.intro y1 <| y2
  clear hT ha hu h1 h2 xa xu x7 x8 xa0 xa1 xu0 xu1 x0 x1 x2 y0 y1 y2
  obtain ⟨hT, ha, hu, h1, h2, xa, xu, x7, x8, xa0, xa1, xu0, xu1, x0, x1, x2, y0, y1, y2⟩ := G
  clear b
  cases p1
  · go_wp2_with fail
    refine (told13_any hT).mono ?_
    rintro en wz ⟨rfl, b⟩
    replace BB := below_next BB BB.size b rfl rfl rfl rfl
    clear b
    go_wp2
    go_ret
    exact ⟨by first | rfl | simp, BB⟩
  · go_wp2_with fail
    refine (tfew13_any hu).mono ?_
    rintro en w2 ⟨p2, rfl, hF2, b⟩
    replace BB := below_next BB BB.size b rfl rfl rfl rfl
    have G := mv b rfl <| And.intro hT <| And.intro ha <| And.intro hu <| And.intro h1 <| And.intro h2 <| And.intro xa <| And.intro xu <| And.intro x7 <| And.intro x8 <| And.intro xa0 <| And.intro xa1 <| And.intro xu0 <| And.intro xu1 <| And.intro x0 <| And.intro x1 <| And.intro x2 <| And.intro y0 <| And.intro y1 <| y2
    clear hT ha hu h1 h2 xa xu x7 x8 xa0 xa1 xu0 xu1 x0 x1 x2 y0 y1 y2
    obtain ⟨hT, ha, hu, h1, h2, xa, xu, x7, x8, xa0, xa1, xu0, xu1, x0, x1, x2, y0, y1, y2⟩ := G
    clear b
    cases p2
    · go_wp2_with fail
      refine (told13_any hT).mono ?_
      rintro en wz ⟨rfl, b⟩
      replace BB := below_next BB BB.size b rfl rfl rfl rfl
      clear b
      go_wp2
      go_ret
      exact ⟨by first | rfl | simp, BB⟩
    · by_cases j1 : 6 < n1
      · have j1i : (6 : Int) < (n1 : Int) := by omega
        go_wp2_with fail
        any_goals (first | (exfalso; omega) | skip)
        refine (told13_any hT).mono ?_
        rintro en wz ⟨rfl, b⟩
        replace BB := below_next BB BB.size b rfl rfl rfl rfl
        clear b
        go_wp2
        go_ret
        exact ⟨by first | rfl | simp, BB⟩
      · have j1i : ¬ (6 : Int) < (n1 : Int) := by omega
        by_cases j2 : 6 < n2
        · have j2i : (6 : Int) < (n2 : Int) := by omega
          go_wp2_with fail
          any_goals (first | (exfalso; omega) | skip)
          refine (told13_any hT).mono ?_
          rintro en wz ⟨rfl, b⟩
          replace BB := below_next BB BB.size b rfl rfl rfl rfl
          clear b
          go_wp2
          go_ret
          exact ⟨by first | rfl | simp, BB⟩
        · have j2i : ¬ (6 : Int) < (n2 : Int) := by omega
          obtain ⟨pw, hpw⟩ : ∃ z, z = cellsB KS a u (withinI KS) := ⟨_, rfl⟩
          have HW := Lib.hid hpw.symm
          clear hpw
          go_wp2_with fail
          any_goals (first | (exfalso; omega) | skip)
          refine (twithin_any HK.out hT ha hu).mono ?_
          rintro en w3 ⟨rfl, b⟩
          rw [HW.out]
          replace BB := below_next BB BB.size b rfl rfl rfl rfl
          have G := mv b rfl <| And.intro hT <| And.intro ha <| And.intro hu <| And.intro h1 <| And.intro h2 <| And.intro xa <| And.intro xu <| And.intro x7 <| And.intro x8 <| And.intro xa0 <| And.intro xa1 <| And.intro xu0 <| And.intro xu1 <| And.intro x0 <| And.intro x1 <| And.intro x2 <| And.intro y0 <| And.intro y1 <| y2
          clear hT ha hu h1 h2 xa xu x7 x8 xa0 xa1 xu0 xu1 x0 x1 x2 y0 y1 y2
          obtain ⟨hT, ha, hu, h1, h2, xa, xu, x7, x8, xa0, xa1, xu0, xu1, x0, x1, x2, y0, y1, y2⟩ := G
          clear b
          cases pw
          · go_wp2_with fail
            refine (told13_any hT).mono ?_
            rintro en wz ⟨rfl, b⟩
            replace BB := below_next BB BB.size b rfl rfl rfl rfl
            clear b
            go_wp2
            go_ret
            exact ⟨by first | rfl | simp, BB⟩
          · have HWW := HW
            obtain ⟨mx, hmx⟩ : ∃ z, z = x.may := ⟨_, rfl⟩
            have HMx := Lib.hid hmx.symm
            clear hmx
            go_wp2_with fail
            refine (dmay_any (s := x.s) (e := x.e) hT h1).mono ?_
            rintro en w4 ⟨rfl, b⟩
            have e1 : mayD x.s x.l x.e = mx := HMx.out
            rw [e1]
            clear e1
            replace BB := below_next BB BB.size b rfl rfl rfl rfl
            have G := mv b rfl <| And.intro hT <| And.intro ha <| And.intro hu <| And.intro h1 <| And.intro h2 <| And.intro xa <| And.intro xu <| And.intro x7 <| And.intro x8 <| And.intro xa0 <| And.intro xa1 <| And.intro xu0 <| And.intro xu1 <| And.intro x0 <| And.intro x1 <| And.intro x2 <| And.intro y0 <| And.intro y1 <| y2
            clear hT ha hu h1 h2 xa xu x7 x8 xa0 xa1 xu0 xu1 x0 x1 x2 y0 y1 y2
            obtain ⟨hT, ha, hu, h1, h2, xa, xu, x7, x8, xa0, xa1, xu0, xu1, x0, x1, x2, y0, y1, y2⟩ := G
            clear b
            cases mx
            · go_wp2_with fail
              refine (told13_any hT).mono ?_
              rintro en wz ⟨rfl, b⟩
              replace BB := below_next BB BB.size b rfl rfl rfl rfl
              clear b
              go_wp2
              go_ret
              exact ⟨by first | rfl | simp, BB⟩
            · obtain ⟨my, hmy⟩ : ∃ z, z = y.may := ⟨_, rfl⟩
              have HMy := Lib.hid hmy.symm
              clear hmy
              go_wp2_with fail
              refine (dmay_any (s := y.s) (e := y.e) hT h2).mono ?_
              rintro en w5 ⟨rfl, b⟩
              have e1 : mayD y.s y.l y.e = my := HMy.out
              rw [e1]
              clear e1
              replace BB := below_next BB BB.size b rfl rfl rfl rfl
              have G := mv b rfl <| And.intro hT <| And.intro ha <| And.intro hu <| And.intro h1 <| And.intro h2 <| And.intro xa <| And.intro xu <| And.intro x7 <| And.intro x8 <| And.intro xa0 <| And.intro xa1 <| And.intro xu0 <| And.intro xu1 <| And.intro x0 <| And.intro x1 <| And.intro x2 <| And.intro y0 <| And.intro y1 <| y2
              clear hT ha hu h1 h2 xa xu x7 x8 xa0 xa1 xu0 xu1 x0 x1 x2 y0 y1 y2
              obtain ⟨hT, ha, hu, h1, h2, xa, xu, x7, x8, xa0, xa1, xu0, xu1, x0, x1, x2, y0, y1, y2⟩ := G
              clear b
              cases my
              · go_wp2_with fail
                refine (told13_any hT).mono ?_
                rintro en wz ⟨rfl, b⟩
                replace BB := below_next BB BB.size b rfl rfl rfl rfl
                clear b
                go_wp2
                go_ret
                exact ⟨by first | rfl | simp, BB⟩
              · go_upto_region 3 with fail
                go_wp2_with fail
                refine (dcmp_raw (K := KS) (s1 := x.s) (e1 := x.e) (s2 := y.s) (e2 := y.e) HK.out hT h1 h2).mono ?_
                rintro en w6 ⟨rfl, b⟩
                have e1 : cmpR KS x.s x.l x.e y.s y.l y.e = cmpQ KS x y := rfl
                rw [e1]
                clear e1
                replace BB := below_next BB BB.size b rfl rfl rfl rfl
                have G := mv b rfl <| And.intro hT <| And.intro ha <| And.intro hu <| And.intro h1 <| And.intro h2 <| And.intro xa <| And.intro xu <| And.intro x7 <| And.intro x8 <| And.intro xa0 <| And.intro xa1 <| And.intro xu0 <| And.intro xu1 <| And.intro x0 <| And.intro x1 <| And.intro x2 <| And.intro y0 <| And.intro y1 <| y2
                clear hT ha hu h1 h2 xa xu x7 x8 xa0 xa1 xu0 xu1 x0 x1 x2 y0 y1 y2
                obtain ⟨hT, ha, hu, h1, h2, xa, xu, x7, x8, xa0, xa1, xu0, xu1, x0, x1, x2, y0, y1, y2⟩ := G
                clear b
                obtain ⟨cz, hcz⟩ : ∃ z, z = cmpQ KS x y := ⟨_, rfl⟩
                rw [← hcz]
                have HCZ := Lib.hid hcz
                clear hcz
                go_upto_if 57 with fail
                generalize w6 = w9 at *
                replace x7 : Box w9 g7 x.s A1 n1 c1 x.e := ⟨x7.blk⟩
                replace x8 : Box w9 g8 y.s A2 n2 c2 y.e := ⟨x8.blk⟩
                go_cut [58] from 58 to 59 (fun v58 wc => TwoW KS w w.heap.size gu g7 g8 #[.slice Ta a.m ca, .slice Va a.n da] #[.slice Tu u.m cu, .slice Vu u.n du] wc)
                case first =>
                  obtain ⟨f0, f1, f2⟩ := x7.open
                  obtain ⟨f3, f4, f5⟩ := x8.open
                  by_cases c : 0 < cz
                  · go_wp2
                    all_goals (first | (exfalso; omega) | skip)
                    go_meet
                    case rel => exact two_swap HMx.out HMy.out (cmp_ge HMx.out HMy.out (by have h8 := HCZ.out; omega)) x7 x8 h1 h2 xa xu BB HG7.out.1 HG7.out.2.1 HG7.out.2.2.1 HG7.out.2.2.2
                  · go_wp2
                    all_goals (first | (exfalso; omega) | skip)
                    go_meet
                    case rel => exact ⟨x, y, _, _, _, _, _, _, ⟨HMx.out, HMy.out, cmp_le' HMx.out HMy.out (by have h8 := HCZ.out; omega)⟩, x7, x8, h1, h2, xa, xu, BB⟩
                case rest =>
                clear h1 h2 xa xu x7 x8 xa0 xa1 xu0 xu1 x0 x1 x2 y0 y1 y2 BB HCZ HMx HMy hT ha hu
                obtain ⟨px, py, A1, n1, c1, A2, n2, c2, hxy, x7, x8, h1, h2, xa, xu, BB⟩ := hcut
                generalize wc = w10 at *
                have hT := mv BB rfl hT0
                have ha := mv BB rfl ha0
                have hu := mv BB rfl hu0
                have xa0 : World.cell? _ ⟨_, 0, none⟩ = some (.slice Ta a.m ca) := xa.at 0
                have xa1 : World.cell? _ ⟨_, 1, none⟩ = some (.slice Va a.n da) := xa.at 1
                have xu0 : World.cell? _ ⟨_, 0, none⟩ = some (.slice Tu u.m cu) := xu.at 0
                have xu1 : World.cell? _ ⟨_, 1, none⟩ = some (.slice Vu u.n du) := xu.at 1
                obtain ⟨x0, x1, x2⟩ := x7.held
                obtain ⟨y0, y1, y2⟩ := x8.held
                clear xa xu x7 x8
                have HT := Lib.hid (times_all HW.out hxy.1 hxy.2.1 hxy.2.2)
                clear HW hxy
                obtain ⟨k, hk⟩ : ∃ z, z = overK KS a px py := ⟨_, rfl⟩
                have HKK := Lib.hid hk.symm
                clear hk
                obtain ⟨Ip, hqp⟩ : ∃ z, z = overI KS a px py := ⟨_, rfl⟩
                have HIp := Lib.hid hqp.symm
                clear hqp
                obtain ⟨Iq, hqq⟩ : ∃ z, z = overI KS u px py := ⟨_, rfl⟩
                have HIq := Lib.hid hqq.symm
                clear hqq
                go_wp2_with fail
                refine (show Calls _ _ _ _ (TellI k Ip _) from by have h := tover_any (x := px) (y := py) HK.out hT ha h1 h2; rw [HKK.out, HIp.out] at h; exact h).mono ?_
                rintro en w27 ⟨Ap, np, kp, Bp, mp, dp, rfl, rp, sp, b⟩
                replace BB := below_next BB BB.size b rfl rfl rfl rfl
                have G := mv b rfl <| And.intro hT <| And.intro ha <| And.intro hu <| And.intro h1 <| And.intro h2 <| And.intro xa0 <| And.intro xa1 <| And.intro xu0 <| And.intro xu1 <| And.intro x0 <| And.intro x1 <| And.intro x2 <| And.intro y0 <| And.intro y1 <| y2
                clear hT ha hu h1 h2 xa0 xa1 xu0 xu1 x0 x1 x2 y0 y1 y2
                obtain ⟨hT, ha, hu, h1, h2, xa0, xa1, xu0, xu1, x0, x1, x2, y0, y1, y2⟩ := G
                clear b
                have b := below_alloc w27 (.cells #[.bool Ip.lo.s, .slice Ap np kp, .int .i64 Ip.lo.e, .bool Ip.hi.s, .slice Bp mp dp, .int .i64 Ip.hi.e] 35)
                have zp := Blk.new w27 #[.bool Ip.lo.s, .slice Ap np kp, .int .i64 Ip.lo.e, .bool Ip.hi.s, .slice Bp mp dp, .int .i64 Ip.hi.e] 35
                replace BB := below_next BB BB.size b rfl rfl rfl rfl
                have G := mv b rfl <| And.intro hT <| And.intro ha <| And.intro hu <| And.intro h1 <| And.intro h2 <| And.intro xa0 <| And.intro xa1 <| And.intro xu0 <| And.intro xu1 <| And.intro x0 <| And.intro x1 <| And.intro x2 <| And.intro y0 <| And.intro y1 <| And.intro y2 <| And.intro rp <| sp
                clear hT ha hu h1 h2 xa0 xa1 xu0 xu1 x0 x1 x2 y0 y1 y2 rp sp
                obtain ⟨hT, ha, hu, h1, h2, xa0, xa1, xu0, xu1, x0, x1, x2, y0, y1, y2, rp, sp⟩ := G
                clear b
                go_upto_region 6 with fail
                generalize w27.alloc (.cells #[.bool Ip.lo.s, .slice Ap np kp, .int .i64 Ip.lo.e, .bool Ip.hi.s, .slice Bp mp dp, .int .i64 Ip.hi.e] 35) = W27 at *
                generalize w27.heap.size = gp at *
                have tp0 : World.cell? _ ⟨_, 0, none⟩ = some (.bool Ip.lo.s) := zp.at 0
                have tp1 : World.cell? _ ⟨_, 1, none⟩ = some (.slice Ap np kp) := zp.at 1
                have tp2 : World.cell? _ ⟨_, 2, none⟩ = some (.int .i64 Ip.lo.e) := zp.at 2
                have tp3 : World.cell? _ ⟨_, 3, none⟩ = some (.bool Ip.hi.s) := zp.at 3
                have tp4 : World.cell? _ ⟨_, 4, none⟩ = some (.slice Bp mp dp) := zp.at 4
                have tp5 : World.cell? _ ⟨_, 5, none⟩ = some (.int .i64 Ip.hi.e) := zp.at 5
                clear zp
                go_wp2_with fail
                refine (show Calls _ _ _ _ (TellI k Iq _) from by have h := tover_any (x := px) (y := py) HK.out hT hu h1 h2; rw [HT.out.1, HKK.out, HIq.out] at h; exact h).mono ?_
                rintro en w28 ⟨Aq, nq, kq, Bq, mq, dq, rfl, rq, sq, b⟩
                replace BB := below_next BB BB.size b rfl rfl rfl rfl
                have G := mv b rfl <| And.intro hT <| And.intro ha <| And.intro hu <| And.intro h1 <| And.intro h2 <| And.intro xa0 <| And.intro xa1 <| And.intro xu0 <| And.intro xu1 <| And.intro x0 <| And.intro x1 <| And.intro x2 <| And.intro y0 <| And.intro y1 <| And.intro y2 <| And.intro rp <| And.intro sp <| And.intro tp0 <| And.intro tp1 <| And.intro tp2 <| And.intro tp3 <| And.intro tp4 <| tp5
                clear hT ha hu h1 h2 xa0 xa1 xu0 xu1 x0 x1 x2 y0 y1 y2 rp sp tp0 tp1 tp2 tp3 tp4 tp5
                obtain ⟨hT, ha, hu, h1, h2, xa0, xa1, xu0, xu1, x0, x1, x2, y0, y1, y2, rp, sp, tp0, tp1, tp2, tp3, tp4, tp5⟩ := G
                clear b
                have b := below_alloc w28 (.cells #[.bool Iq.lo.s, .slice Aq nq kq, .int .i64 Iq.lo.e, .bool Iq.hi.s, .slice Bq mq dq, .int .i64 Iq.hi.e] 35)
                have zq := Blk.new w28 #[.bool Iq.lo.s, .slice Aq nq kq, .int .i64 Iq.lo.e, .bool Iq.hi.s, .slice Bq mq dq, .int .i64 Iq.hi.e] 35
                replace BB := below_next BB BB.size b rfl rfl rfl rfl
                have G := mv b rfl <| And.intro hT <| And.intro ha <| And.intro hu <| And.intro h1 <| And.intro h2 <| And.intro xa0 <| And.intro xa1 <| And.intro xu0 <| And.intro xu1 <| And.intro x0 <| And.intro x1 <| And.intro x2 <| And.intro y0 <| And.intro y1 <| And.intro y2 <| And.intro rp <| And.intro sp <| And.intro tp0 <| And.intro tp1 <| And.intro tp2 <| And.intro tp3 <| And.intro tp4 <| And.intro tp5 <| And.intro rq <| sq
                clear hT ha hu h1 h2 xa0 xa1 xu0 xu1 x0 x1 x2 y0 y1 y2 rp sp tp0 tp1 tp2 tp3 tp4 tp5 rq sq
                obtain ⟨hT, ha, hu, h1, h2, xa0, xa1, xu0, xu1, x0, x1, x2, y0, y1, y2, rp, sp, tp0, tp1, tp2, tp3, tp4, tp5, rq, sq⟩ := G
                clear b
                go_upto_region 7 with fail
                generalize w28.alloc (.cells #[.bool Iq.lo.s, .slice Aq nq kq, .int .i64 Iq.lo.e, .bool Iq.hi.s, .slice Bq mq dq, .int .i64 Iq.hi.e] 35) = W28 at *
                generalize w28.heap.size = gq at *
                have tq0 : World.cell? _ ⟨_, 0, none⟩ = some (.bool Iq.lo.s) := zq.at 0
                have tq1 : World.cell? _ ⟨_, 1, none⟩ = some (.slice Aq nq kq) := zq.at 1
                have tq2 : World.cell? _ ⟨_, 2, none⟩ = some (.int .i64 Iq.lo.e) := zq.at 2
                have tq3 : World.cell? _ ⟨_, 3, none⟩ = some (.bool Iq.hi.s) := zq.at 3
                have tq4 : World.cell? _ ⟨_, 4, none⟩ = some (.slice Bq mq dq) := zq.at 4
                have tq5 : World.cell? _ ⟨_, 5, none⟩ = some (.int .i64 Iq.hi.e) := zq.at 5
                clear zq
                by_cases hk0 : k = 0
                · subst hk0
                  have HF := Lib.hid (HT.out.2.2 HKK.out)
                  clear HT HKK
                  obtain ⟨Ir, hqr⟩ : ∃ z, z = overI KS a px px := ⟨_, rfl⟩
                  have HIr := Lib.hid hqr.symm
                  clear hqr
                  obtain ⟨Is, hqs⟩ : ∃ z, z = overI KS u px px := ⟨_, rfl⟩
                  have HIs := Lib.hid hqs.symm
                  clear hqs
                  go_upto_region 11 with fail
                  go_wp2_with fail
                  refine (show Calls _ _ _ _ (TellI 0 Ir _) from by have h := tat_any (x := px) HK.out hT ha h1; rw [HF.out.1, HIr.out] at h; exact h).mono ?_
                  rintro en w29 ⟨Ar, nr, kr, Br, mr, dr, rfl, rr, sr, b⟩
                  replace BB := below_next BB BB.size b rfl rfl rfl rfl
                  have G := mv b rfl <| And.intro hT <| And.intro ha <| And.intro hu <| And.intro h1 <| And.intro h2 <| And.intro xa0 <| And.intro xa1 <| And.intro xu0 <| And.intro xu1 <| And.intro x0 <| And.intro x1 <| And.intro x2 <| And.intro y0 <| And.intro y1 <| And.intro y2 <| And.intro rp <| And.intro sp <| And.intro tp0 <| And.intro tp1 <| And.intro tp2 <| And.intro tp3 <| And.intro tp4 <| And.intro tp5 <| And.intro rq <| And.intro sq <| And.intro tq0 <| And.intro tq1 <| And.intro tq2 <| And.intro tq3 <| And.intro tq4 <| tq5
                  clear hT ha hu h1 h2 xa0 xa1 xu0 xu1 x0 x1 x2 y0 y1 y2 rp sp tp0 tp1 tp2 tp3 tp4 tp5 rq sq tq0 tq1 tq2 tq3 tq4 tq5
                  obtain ⟨hT, ha, hu, h1, h2, xa0, xa1, xu0, xu1, x0, x1, x2, y0, y1, y2, rp, sp, tp0, tp1, tp2, tp3, tp4, tp5, rq, sq, tq0, tq1, tq2, tq3, tq4, tq5⟩ := G
                  clear b
                  have b := below_alloc w29 (.cells #[.bool Ir.lo.s, .slice Ar nr kr, .int .i64 Ir.lo.e, .bool Ir.hi.s, .slice Br mr dr, .int .i64 Ir.hi.e] 35)
                  have zr := Blk.new w29 #[.bool Ir.lo.s, .slice Ar nr kr, .int .i64 Ir.lo.e, .bool Ir.hi.s, .slice Br mr dr, .int .i64 Ir.hi.e] 35
                  replace BB := below_next BB BB.size b rfl rfl rfl rfl
                  have G := mv b rfl <| And.intro hT <| And.intro ha <| And.intro hu <| And.intro h1 <| And.intro h2 <| And.intro xa0 <| And.intro xa1 <| And.intro xu0 <| And.intro xu1 <| And.intro x0 <| And.intro x1 <| And.intro x2 <| And.intro y0 <| And.intro y1 <| And.intro y2 <| And.intro rp <| And.intro sp <| And.intro tp0 <| And.intro tp1 <| And.intro tp2 <| And.intro tp3 <| And.intro tp4 <| And.intro tp5 <| And.intro rq <| And.intro sq <| And.intro tq0 <| And.intro tq1 <| And.intro tq2 <| And.intro tq3 <| And.intro tq4 <| And.intro tq5 <| And.intro rr <| sr
                  clear hT ha hu h1 h2 xa0 xa1 xu0 xu1 x0 x1 x2 y0 y1 y2 rp sp tp0 tp1 tp2 tp3 tp4 tp5 rq sq tq0 tq1 tq2 tq3 tq4 tq5 rr sr
                  obtain ⟨hT, ha, hu, h1, h2, xa0, xa1, xu0, xu1, x0, x1, x2, y0, y1, y2, rp, sp, tp0, tp1, tp2, tp3, tp4, tp5, rq, sq, tq0, tq1, tq2, tq3, tq4, tq5, rr, sr⟩ := G
                  clear b
                  go_upto_region 12 with fail
                  generalize w29.alloc (.cells #[.bool Ir.lo.s, .slice Ar nr kr, .int .i64 Ir.lo.e, .bool Ir.hi.s, .slice Br mr dr, .int .i64 Ir.hi.e] 35) = W29 at *
                  generalize w29.heap.size = gr at *
                  have tr0 : World.cell? _ ⟨_, 0, none⟩ = some (.bool Ir.lo.s) := zr.at 0
                  have tr1 : World.cell? _ ⟨_, 1, none⟩ = some (.slice Ar nr kr) := zr.at 1
                  have tr2 : World.cell? _ ⟨_, 2, none⟩ = some (.int .i64 Ir.lo.e) := zr.at 2
                  have tr3 : World.cell? _ ⟨_, 3, none⟩ = some (.bool Ir.hi.s) := zr.at 3
                  have tr4 : World.cell? _ ⟨_, 4, none⟩ = some (.slice Br mr dr) := zr.at 4
                  have tr5 : World.cell? _ ⟨_, 5, none⟩ = some (.int .i64 Ir.hi.e) := zr.at 5
                  clear zr
                  go_wp2_with fail
                  refine (show Calls _ _ _ _ (TellI 0 Is _) from by have h := tat_any (x := px) HK.out hT hu h1; rw [HF.out.2.1, HIs.out] at h; exact h).mono ?_
                  rintro en w30 ⟨As, ns, ks, Bs, ms, ds, rfl, rs, ss, b⟩
                  replace BB := below_next BB BB.size b rfl rfl rfl rfl
                  have G := mv b rfl <| And.intro hT <| And.intro ha <| And.intro hu <| And.intro h1 <| And.intro h2 <| And.intro xa0 <| And.intro xa1 <| And.intro xu0 <| And.intro xu1 <| And.intro x0 <| And.intro x1 <| And.intro x2 <| And.intro y0 <| And.intro y1 <| And.intro y2 <| And.intro rp <| And.intro sp <| And.intro tp0 <| And.intro tp1 <| And.intro tp2 <| And.intro tp3 <| And.intro tp4 <| And.intro tp5 <| And.intro rq <| And.intro sq <| And.intro tq0 <| And.intro tq1 <| And.intro tq2 <| And.intro tq3 <| And.intro tq4 <| And.intro tq5 <| And.intro rr <| And.intro sr <| And.intro tr0 <| And.intro tr1 <| And.intro tr2 <| And.intro tr3 <| And.intro tr4 <| tr5
                  clear hT ha hu h1 h2 xa0 xa1 xu0 xu1 x0 x1 x2 y0 y1 y2 rp sp tp0 tp1 tp2 tp3 tp4 tp5 rq sq tq0 tq1 tq2 tq3 tq4 tq5 rr sr tr0 tr1 tr2 tr3 tr4 tr5
                  obtain ⟨hT, ha, hu, h1, h2, xa0, xa1, xu0, xu1, x0, x1, x2, y0, y1, y2, rp, sp, tp0, tp1, tp2, tp3, tp4, tp5, rq, sq, tq0, tq1, tq2, tq3, tq4, tq5, rr, sr, tr0, tr1, tr2, tr3, tr4, tr5⟩ := G
                  clear b
                  have b := below_alloc w30 (.cells #[.bool Is.lo.s, .slice As ns ks, .int .i64 Is.lo.e, .bool Is.hi.s, .slice Bs ms ds, .int .i64 Is.hi.e] 35)
                  have zs := Blk.new w30 #[.bool Is.lo.s, .slice As ns ks, .int .i64 Is.lo.e, .bool Is.hi.s, .slice Bs ms ds, .int .i64 Is.hi.e] 35
                  replace BB := below_next BB BB.size b rfl rfl rfl rfl
                  have G := mv b rfl <| And.intro hT <| And.intro ha <| And.intro hu <| And.intro h1 <| And.intro h2 <| And.intro xa0 <| And.intro xa1 <| And.intro xu0 <| And.intro xu1 <| And.intro x0 <| And.intro x1 <| And.intro x2 <| And.intro y0 <| And.intro y1 <| And.intro y2 <| And.intro rp <| And.intro sp <| And.intro tp0 <| And.intro tp1 <| And.intro tp2 <| And.intro tp3 <| And.intro tp4 <| And.intro tp5 <| And.intro rq <| And.intro sq <| And.intro tq0 <| And.intro tq1 <| And.intro tq2 <| And.intro tq3 <| And.intro tq4 <| And.intro tq5 <| And.intro rr <| And.intro sr <| And.intro tr0 <| And.intro tr1 <| And.intro tr2 <| And.intro tr3 <| And.intro tr4 <| And.intro tr5 <| And.intro rs <| ss
                  clear hT ha hu h1 h2 xa0 xa1 xu0 xu1 x0 x1 x2 y0 y1 y2 rp sp tp0 tp1 tp2 tp3 tp4 tp5 rq sq tq0 tq1 tq2 tq3 tq4 tq5 rr sr tr0 tr1 tr2 tr3 tr4 tr5 rs ss
                  obtain ⟨hT, ha, hu, h1, h2, xa0, xa1, xu0, xu1, x0, x1, x2, y0, y1, y2, rp, sp, tp0, tp1, tp2, tp3, tp4, tp5, rq, sq, tq0, tq1, tq2, tq3, tq4, tq5, rr, sr, tr0, tr1, tr2, tr3, tr4, tr5, rs, ss⟩ := G
                  clear b
                  go_upto_region 13 with fail
                  generalize w30.alloc (.cells #[.bool Is.lo.s, .slice As ns ks, .int .i64 Is.lo.e, .bool Is.hi.s, .slice Bs ms ds, .int .i64 Is.hi.e] 35) = W30 at *
                  generalize w30.heap.size = gs at *
                  have ts0 : World.cell? _ ⟨_, 0, none⟩ = some (.bool Is.lo.s) := zs.at 0
                  have ts1 : World.cell? _ ⟨_, 1, none⟩ = some (.slice As ns ks) := zs.at 1
                  have ts2 : World.cell? _ ⟨_, 2, none⟩ = some (.int .i64 Is.lo.e) := zs.at 2
                  have ts3 : World.cell? _ ⟨_, 3, none⟩ = some (.bool Is.hi.s) := zs.at 3
                  have ts4 : World.cell? _ ⟨_, 4, none⟩ = some (.slice Bs ms ds) := zs.at 4
                  have ts5 : World.cell? _ ⟨_, 5, none⟩ = some (.int .i64 Is.hi.e) := zs.at 5
                  clear zs
                  have HF3 : Hid (withinI KS Ip Iq = true ∧ withinI KS Ir Is = true) := Lib.hid (by rw [← HIp.out, ← HIq.out, ← HIr.out, ← HIs.out]; exact ⟨HF.out.2.2.1, HF.out.2.2.2⟩)
                  clear HF HIp HIq HIr HIs
                  go_wp2_with fail
                  refine (told13_any hT).mono ?_
                  rintro en w11 ⟨rfl, b⟩
                  replace BB := below_next BB BB.size b rfl rfl rfl rfl
                  have G := mv b rfl <| And.intro hT <| And.intro ha <| And.intro hu <| And.intro h1 <| And.intro h2 <| And.intro xa0 <| And.intro xa1 <| And.intro xu0 <| And.intro xu1 <| And.intro x0 <| And.intro x1 <| And.intro x2 <| And.intro y0 <| And.intro y1 <| And.intro y2 <| And.intro rp <| And.intro sp <| And.intro tp0 <| And.intro tp1 <| And.intro tp2 <| And.intro tp3 <| And.intro tp4 <| And.intro tp5 <| And.intro rq <| And.intro sq <| And.intro tq0 <| And.intro tq1 <| And.intro tq2 <| And.intro tq3 <| And.intro tq4 <| And.intro tq5 <| And.intro rr <| And.intro sr <| And.intro tr0 <| And.intro tr1 <| And.intro tr2 <| And.intro tr3 <| And.intro tr4 <| And.intro tr5 <| And.intro rs <| And.intro ss <| And.intro ts0 <| And.intro ts1 <| And.intro ts2 <| And.intro ts3 <| And.intro ts4 <| ts5
                  clear hT ha hu h1 h2 xa0 xa1 xu0 xu1 x0 x1 x2 y0 y1 y2 rp sp tp0 tp1 tp2 tp3 tp4 tp5 rq sq tq0 tq1 tq2 tq3 tq4 tq5 rr sr tr0 tr1 tr2 tr3 tr4 tr5 rs ss ts0 ts1 ts2 ts3 ts4 ts5
                  obtain ⟨hT, ha, hu, h1, h2, xa0, xa1, xu0, xu1, x0, x1, x2, y0, y1, y2, rp, sp, tp0, tp1, tp2, tp3, tp4, tp5, rq, sq, tq0, tq1, tq2, tq3, tq4, tq5, rr, sr, tr0, tr1, tr2, tr3, tr4, tr5, rs, ss, ts0, ts1, ts2, ts3, ts4, ts5⟩ := G
                  clear b
                  go_wp2_with fail
                  refine (iwithin_any (x := Ip) (y := Iq) HK.out hT rp sp rq sq).mono ?_
                  rintro en w12 ⟨rfl, b⟩
                  rw [HF3.out.1]
                  replace BB := below_next BB BB.size b rfl rfl rfl rfl
                  have G := mv b rfl <| And.intro hT <| And.intro ha <| And.intro hu <| And.intro h1 <| And.intro h2 <| And.intro xa0 <| And.intro xa1 <| And.intro xu0 <| And.intro xu1 <| And.intro x0 <| And.intro x1 <| And.intro x2 <| And.intro y0 <| And.intro y1 <| And.intro y2 <| And.intro rp <| And.intro sp <| And.intro tp0 <| And.intro tp1 <| And.intro tp2 <| And.intro tp3 <| And.intro tp4 <| And.intro tp5 <| And.intro rq <| And.intro sq <| And.intro tq0 <| And.intro tq1 <| And.intro tq2 <| And.intro tq3 <| And.intro tq4 <| And.intro tq5 <| And.intro rr <| And.intro sr <| And.intro tr0 <| And.intro tr1 <| And.intro tr2 <| And.intro tr3 <| And.intro tr4 <| And.intro tr5 <| And.intro rs <| And.intro ss <| And.intro ts0 <| And.intro ts1 <| And.intro ts2 <| And.intro ts3 <| And.intro ts4 <| ts5
                  clear hT ha hu h1 h2 xa0 xa1 xu0 xu1 x0 x1 x2 y0 y1 y2 rp sp tp0 tp1 tp2 tp3 tp4 tp5 rq sq tq0 tq1 tq2 tq3 tq4 tq5 rr sr tr0 tr1 tr2 tr3 tr4 tr5 rs ss ts0 ts1 ts2 ts3 ts4 ts5
                  obtain ⟨hT, ha, hu, h1, h2, xa0, xa1, xu0, xu1, x0, x1, x2, y0, y1, y2, rp, sp, tp0, tp1, tp2, tp3, tp4, tp5, rq, sq, tq0, tq1, tq2, tq3, tq4, tq5, rr, sr, tr0, tr1, tr2, tr3, tr4, tr5, rs, ss, ts0, ts1, ts2, ts3, ts4, ts5⟩ := G
                  clear b
                  go_wp2_with fail
                  refine (iwithin_any (x := Ir) (y := Is) HK.out hT rr sr rs ss).mono ?_
                  rintro en w13 ⟨rfl, b⟩
                  rw [HF3.out.2]
                  replace BB := below_next BB BB.size b rfl rfl rfl rfl
                  have G := mv b rfl <| And.intro hT <| And.intro ha <| And.intro hu <| And.intro h1 <| And.intro h2 <| And.intro xa0 <| And.intro xa1 <| And.intro xu0 <| And.intro xu1 <| And.intro x0 <| And.intro x1 <| And.intro x2 <| And.intro y0 <| And.intro y1 <| And.intro y2 <| And.intro rp <| And.intro sp <| And.intro tp0 <| And.intro tp1 <| And.intro tp2 <| And.intro tp3 <| And.intro tp4 <| And.intro tp5 <| And.intro rq <| And.intro sq <| And.intro tq0 <| And.intro tq1 <| And.intro tq2 <| And.intro tq3 <| And.intro tq4 <| And.intro tq5 <| And.intro rr <| And.intro sr <| And.intro tr0 <| And.intro tr1 <| And.intro tr2 <| And.intro tr3 <| And.intro tr4 <| And.intro tr5 <| And.intro rs <| And.intro ss <| And.intro ts0 <| And.intro ts1 <| And.intro ts2 <| And.intro ts3 <| And.intro ts4 <| ts5
                  clear hT ha hu h1 h2 xa0 xa1 xu0 xu1 x0 x1 x2 y0 y1 y2 rp sp tp0 tp1 tp2 tp3 tp4 tp5 rq sq tq0 tq1 tq2 tq3 tq4 tq5 rr sr tr0 tr1 tr2 tr3 tr4 tr5 rs ss ts0 ts1 ts2 ts3 ts4 ts5
                  obtain ⟨hT, ha, hu, h1, h2, xa0, xa1, xu0, xu1, x0, x1, x2, y0, y1, y2, rp, sp, tp0, tp1, tp2, tp3, tp4, tp5, rq, sq, tq0, tq1, tq2, tq3, tq4, tq5, rr, sr, tr0, tr1, tr2, tr3, tr4, tr5, rs, ss, ts0, ts1, ts2, ts3, ts4, ts5⟩ := G
                  clear b
                  obtain ⟨p9, hp9⟩ : ∃ z, z = cellsB KS a u (insideI KS) := ⟨_, rfl⟩
                  have HP9 := Lib.hid hp9.symm
                  clear hp9
                  go_wp2_with fail
                  refine (tinside_any HK.out hT ha hu).mono ?_
                  rintro en w14 ⟨rfl, b⟩
                  rw [HP9.out]
                  replace BB := below_next BB BB.size b rfl rfl rfl rfl
                  have G := mv b rfl <| And.intro hT <| And.intro ha <| And.intro hu <| And.intro h1 <| And.intro h2 <| And.intro xa0 <| And.intro xa1 <| And.intro xu0 <| And.intro xu1 <| And.intro x0 <| And.intro x1 <| And.intro x2 <| And.intro y0 <| And.intro y1 <| And.intro y2 <| And.intro rp <| And.intro sp <| And.intro tp0 <| And.intro tp1 <| And.intro tp2 <| And.intro tp3 <| And.intro tp4 <| And.intro tp5 <| And.intro rq <| And.intro sq <| And.intro tq0 <| And.intro tq1 <| And.intro tq2 <| And.intro tq3 <| And.intro tq4 <| And.intro tq5 <| And.intro rr <| And.intro sr <| And.intro tr0 <| And.intro tr1 <| And.intro tr2 <| And.intro tr3 <| And.intro tr4 <| And.intro tr5 <| And.intro rs <| And.intro ss <| And.intro ts0 <| And.intro ts1 <| And.intro ts2 <| And.intro ts3 <| And.intro ts4 <| ts5
                  clear hT ha hu h1 h2 xa0 xa1 xu0 xu1 x0 x1 x2 y0 y1 y2 rp sp tp0 tp1 tp2 tp3 tp4 tp5 rq sq tq0 tq1 tq2 tq3 tq4 tq5 rr sr tr0 tr1 tr2 tr3 tr4 tr5 rs ss ts0 ts1 ts2 ts3 ts4 ts5
                  obtain ⟨hT, ha, hu, h1, h2, xa0, xa1, xu0, xu1, x0, x1, x2, y0, y1, y2, rp, sp, tp0, tp1, tp2, tp3, tp4, tp5, rq, sq, tq0, tq1, tq2, tq3, tq4, tq5, rr, sr, tr0, tr1, tr2, tr3, tr4, tr5, rs, ss, ts0, ts1, ts2, ts3, ts4, ts5⟩ := G
                  clear b
                  cases p9
                  · go_wp2
                    go_ret
                    exact ⟨by first | rfl | simp, BB⟩
                  · go_wp2_with fail
                    refine (twithin_any HK.out hT ha hu).mono ?_
                    rintro en w15 ⟨rfl, b⟩
                    rw [HWW.out]
                    replace BB := below_next BB BB.size b rfl rfl rfl rfl
                    have G := mv b rfl <| And.intro hT <| And.intro ha <| And.intro hu <| And.intro h1 <| And.intro h2 <| And.intro xa0 <| And.intro xa1 <| And.intro xu0 <| And.intro xu1 <| And.intro x0 <| And.intro x1 <| And.intro x2 <| And.intro y0 <| And.intro y1 <| And.intro y2 <| And.intro rp <| And.intro sp <| And.intro tp0 <| And.intro tp1 <| And.intro tp2 <| And.intro tp3 <| And.intro tp4 <| And.intro tp5 <| And.intro rq <| And.intro sq <| And.intro tq0 <| And.intro tq1 <| And.intro tq2 <| And.intro tq3 <| And.intro tq4 <| And.intro tq5 <| And.intro rr <| And.intro sr <| And.intro tr0 <| And.intro tr1 <| And.intro tr2 <| And.intro tr3 <| And.intro tr4 <| And.intro tr5 <| And.intro rs <| And.intro ss <| And.intro ts0 <| And.intro ts1 <| And.intro ts2 <| And.intro ts3 <| And.intro ts4 <| ts5
                    clear hT ha hu h1 h2 xa0 xa1 xu0 xu1 x0 x1 x2 y0 y1 y2 rp sp tp0 tp1 tp2 tp3 tp4 tp5 rq sq tq0 tq1 tq2 tq3 tq4 tq5 rr sr tr0 tr1 tr2 tr3 tr4 tr5 rs ss ts0 ts1 ts2 ts3 ts4 ts5
                    obtain ⟨hT, ha, hu, h1, h2, xa0, xa1, xu0, xu1, x0, x1, x2, y0, y1, y2, rp, sp, tp0, tp1, tp2, tp3, tp4, tp5, rq, sq, tq0, tq1, tq2, tq3, tq4, tq5, rr, sr, tr0, tr1, tr2, tr3, tr4, tr5, rs, ss, ts0, ts1, ts2, ts3, ts4, ts5⟩ := G
                    clear b
                    go_wp2
                    go_ret
                    exact ⟨by first | rfl | simp, BB⟩
                · obtain rfl : k = 5 := by have := HKK.out; rw [← this]; exact HT.out.2.1 (by rw [this]; exact hk0)
                  clear hk0
                  go_wp2_with fail
                  refine (told13_any hT).mono ?_
                  rintro en wz ⟨rfl, b⟩
                  replace BB := below_next BB BB.size b rfl rfl rfl rfl
                  clear b
                  go_wp2
                  go_ret
                  exact ⟨by first | rfl | simp, BB⟩

end Go.Proofs.YtkpcmgfpmekkjaaDoor
