/-
  TubeOrder: it returns true, at this translation. Condition: the slices read as limbs, the table of math/bits reads as its text lays it.
-/
import Derived.Test.YtkpcmgfpmekkjaaDoorQUo
import Derived.Test.YtkpcmgfpmekkjaaDoorQUp
namespace Go.Proofs.YtkpcmgfpmekkjaaDoor
open Go.RowKit


theorem hull_make {K : Nat} {a : Tb} (h : MayT K a) : overK K a (a.T 0) (a.T a.n) = 0 ∧ makeTK K (a.T 0) (a.T a.n) (overI K a (a.T 0) (a.T a.n)) = 0 ∧ makeTT K (a.T 0) (a.T a.n) (overI K a (a.T 0) (a.T a.n)) = oneT (a.T 0) (a.T a.n) (overI K a (a.T 0) (a.T a.n)) ∧ cellsB K a (oneT (a.T 0) (a.T a.n) (overI K a (a.T 0) (a.T a.n))) (withinI K) = true := by
  obtain ⟨h1, h2⟩ := in_hull h
  have h3 := mayTb_iff.2 h1.2.1
  exact ⟨overK_ok.2 h2, if_pos h3, if_pos h3, cellsB_iff.2 h1⟩
theorem trans_b {K : Nat} {a b c : Tb} (h1 : cellsB K a b (withinI K) = true) (h2 : cellsB K b c (withinI K) = true) : cellsB K a c (withinI K) = true := cellsB_iff.2 (in_trans (cellsB_iff.1 h1) (cellsB_iff.1 h2))
theorem trans_i {K : Nat} {a b c : Tb} (h1 : cellsB K a b (insideI K) = true) (h2 : cellsB K b c (withinI K) = true) : cellsB K a c (insideI K) = true := cellsB_iff.2 (inside_trans (cellsB_iff.1 h1) (cellsB_iff.1 h2))

set_option maxRecDepth 100000 in
set_option maxHeartbeats 8000000 in
theorem tubeorder_any {w : World} {a : Tb} {Ta Va : Option Addr} {ca da : Nat} {u : Tb} {Tu Vu : Option Addr} {cu du : Nat} {q : Tb} {Tq Vq : Option Addr} {cq dq : Nat} (hT : Tab w) (ha : RdTb w Ta ca Va da a) (hu : RdTb w Tu cu Vu du u) (hq : RdTb w Tq cq Vq dq q) :
    Calls Tryd.prog 5 #[.agg #[.slice Ta a.m ca, .slice Va a.n da], .agg #[.slice Tu u.m cu, .slice Vu u.n du], .agg #[.slice Tq q.m cq, .slice Vq q.n dq]] w (Bools true w) := by
  obtain ⟨KS, hKS⟩ := scale_has
  have HK := Lib.hid hKS
  have BB := Below.refl w.heap.size w
  have b := below_alloc w (.cells #[.slice Ta a.m ca, .slice Va a.n da] 25)
  have xa := Blk.new w #[.slice Ta a.m ca, .slice Va a.n da] 25
  replace BB := bnx BB b rfl rfl rfl rfl
  have G := mv b rfl (J4 hT ha hu hq)
  clear hT ha hu hq
  obtain ⟨hT, ha, hu, hq⟩ := G
  clear b
  have b := below_alloc (w.alloc (.cells #[.slice Ta a.m ca, .slice Va a.n da] 25)) (.cells #[.slice Tu u.m cu, .slice Vu u.n du] 25)
  have xu := Blk.new (w.alloc (.cells #[.slice Ta a.m ca, .slice Va a.n da] 25)) #[.slice Tu u.m cu, .slice Vu u.n du] 25
  rw [show (w.alloc (.cells #[.slice Ta a.m ca, .slice Va a.n da] 25)).heap.size = w.heap.size + 1 by simp] at xu
  replace BB := bnx BB b rfl rfl rfl rfl
  have G := mv b rfl (J5 hT ha hu hq xa)
  clear hT ha hu hq xa
  obtain ⟨hT, ha, hu, hq, xa⟩ := G
  clear b
  have b := below_alloc ((w.alloc (.cells #[.slice Ta a.m ca, .slice Va a.n da] 25)).alloc (.cells #[.slice Tu u.m cu, .slice Vu u.n du] 25)) (.cells #[.slice Tq q.m cq, .slice Vq q.n dq] 25)
  have xq := Blk.new ((w.alloc (.cells #[.slice Ta a.m ca, .slice Va a.n da] 25)).alloc (.cells #[.slice Tu u.m cu, .slice Vu u.n du] 25)) #[.slice Tq q.m cq, .slice Vq q.n dq] 25
  rw [show ((w.alloc (.cells #[.slice Ta a.m ca, .slice Va a.n da] 25)).alloc (.cells #[.slice Tu u.m cu, .slice Vu u.n du] 25)).heap.size = w.heap.size + 2 by simp] at xq
  replace BB := bnx BB b rfl rfl rfl rfl
  have G := mv b rfl (J6 hT ha hu hq xa xu)
  clear hT ha hu hq xa xu
  obtain ⟨hT, ha, hu, hq, xa, xu⟩ := G
  clear b
  have xa0 : World.cell? _ ⟨_, 0, none⟩ = some (.slice Ta a.m ca) := xa.at 0
  have xa1 : World.cell? _ ⟨_, 1, none⟩ = some (.slice Va a.n da) := xa.at 1
  have xu0 : World.cell? _ ⟨_, 0, none⟩ = some (.slice Tu u.m cu) := xu.at 0
  have xu1 : World.cell? _ ⟨_, 1, none⟩ = some (.slice Vu u.n du) := xu.at 1
  have xq0 : World.cell? _ ⟨_, 0, none⟩ = some (.slice Tq q.m cq) := xq.at 0
  have xq1 : World.cell? _ ⟨_, 1, none⟩ = some (.slice Vq q.n dq) := xq.at 1
  clear xa xu xq
  go_enter Tryd.func5, Tryd.ntmps5
  go_upto_region 1 with fail
  generalize (((w.alloc (.cells #[.slice Ta a.m ca, .slice Va a.n da] 25)).alloc (.cells #[.slice Tu u.m cu, .slice Vu u.n du] 25)).alloc (.cells #[.slice Tq q.m cq, .slice Vq q.n dq] 25)) = W0 at *
  go_wp2_with fail
  refine (tfew13_any ha).mono ?_
  rintro en w1 ⟨p1, rfl, hF1, b⟩
  replace BB := bnx BB b rfl rfl rfl rfl
  have G := mv b rfl (J10 hT ha hu hq xa0 xa1 xu0 xu1 xq0 xq1)
  clear hT ha hu hq xa0 xa1 xu0 xu1 xq0 xq1
  obtain ⟨hT, ha, hu, hq, xa0, xa1, xu0, xu1, xq0, xq1⟩ := G
  clear b
  cases p1
  · go_wp2_with fail
    refine (told13_any hT).mono ?_
    rintro en wz ⟨rfl, b⟩
    replace BB := bnx BB b rfl rfl rfl rfl
    clear b
    go_wp2
    go_ret
    exact ⟨by first | rfl | simp, BB⟩
  · go_wp2_with fail
    refine (tfew13_any hu).mono ?_
    rintro en w2 ⟨p2, rfl, hF2, b⟩
    replace BB := bnx BB b rfl rfl rfl rfl
    have G := mv b rfl (J10 hT ha hu hq xa0 xa1 xu0 xu1 xq0 xq1)
    clear hT ha hu hq xa0 xa1 xu0 xu1 xq0 xq1
    obtain ⟨hT, ha, hu, hq, xa0, xa1, xu0, xu1, xq0, xq1⟩ := G
    clear b
    cases p2
    · go_wp2_with fail
      refine (told13_any hT).mono ?_
      rintro en wz ⟨rfl, b⟩
      replace BB := bnx BB b rfl rfl rfl rfl
      clear b
      go_wp2
      go_ret
      exact ⟨by first | rfl | simp, BB⟩
    · go_wp2_with fail
      refine (tfew13_any hq).mono ?_
      rintro en w3 ⟨p3, rfl, hF3, b⟩
      replace BB := bnx BB b rfl rfl rfl rfl
      have G := mv b rfl (J10 hT ha hu hq xa0 xa1 xu0 xu1 xq0 xq1)
      clear hT ha hu hq xa0 xa1 xu0 xu1 xq0 xq1
      obtain ⟨hT, ha, hu, hq, xa0, xa1, xu0, xu1, xq0, xq1⟩ := G
      clear b
      cases p3
      · go_wp2_with fail
        refine (told13_any hT).mono ?_
        rintro en wz ⟨rfl, b⟩
        replace BB := bnx BB b rfl rfl rfl rfl
        clear b
        go_wp2
        go_ret
        exact ⟨by first | rfl | simp, BB⟩
      · obtain ⟨pm, hpm⟩ : ∃ z, z = mayTb KS a := ⟨_, rfl⟩
        have HPM := Lib.hid hpm
        go_wp2_with fail
        refine (tmayt_any HK.out hT ha).mono ?_
        rintro en w4 ⟨rfl, b⟩
        rw [← hpm]
        clear hpm
        replace BB := bnx BB b rfl rfl rfl rfl
        have G := mv b rfl (J10 hT ha hu hq xa0 xa1 xu0 xu1 xq0 xq1)
        clear hT ha hu hq xa0 xa1 xu0 xu1 xq0 xq1
        obtain ⟨hT, ha, hu, hq, xa0, xa1, xu0, xu1, xq0, xq1⟩ := G
        clear b
        cases pm
        · go_wp2_with fail
          refine (told13_any hT).mono ?_
          rintro en wz ⟨rfl, b⟩
          replace BB := bnx BB b rfl rfl rfl rfl
          clear b
          go_wp2
          go_ret
          exact ⟨by first | rfl | simp, BB⟩
        · have hMA := mayTb_iff.1 HPM.out.symm
          have hnm : a.n < a.m := by have := hMA.len; omega
          have hn1 := hMA.pos
          have HMA := Lib.hid hMA
          clear hMA HPM
          obtain ⟨g, off, hTa, hc⟩ := ha.at_.at_ (by omega)
          subst hTa
          obtain ⟨A1, n1, c1, ⟨r0, r1, r2⟩, y1⟩ := hc 0 (by omega)
          simp only [Nat.zero_mul, Nat.add_zero] at r0 r1 r2
          obtain ⟨A2, n2, c2, ⟨s0, s1, s2⟩, y2⟩ := hc a.n hnm
          clear hc
          have hhull := hull_make HMA.out
          obtain ⟨H, hH⟩ : ∃ z, z = overI KS a (a.T 0) (a.T a.n) := ⟨_, rfl⟩
          rw [← hH] at hhull
          obtain ⟨hh, hhe⟩ : ∃ z, z = oneT (a.T 0) (a.T a.n) H := ⟨_, rfl⟩
          rw [← hhe] at hhull
          have HS := Lib.hid (cellsB_iff.2 (in_self HMA.out))
          have HI := Lib.hid (inside_no HMA.out)
          clear HMA
          clear hhe
          generalize a.T 0 = t0 at *
          generalize a.T a.n = tn at *
          have HH := Lib.hid hhull
          have HI0 := Lib.hid hH.symm
          clear hhull hH
          have hp2 : (a.n : Int) < a.m := by omega
          have hp3 : (0 : Int) ≤ a.n := by omega
          have hp4 : 0 < a.m := by omega
          go_upto_region 3 with fail
          go_cut [7, 8] (fun v7 v8 wc => ∃ (g7 : Nat) (A5 : Option Addr) (n5 c5 : Nat) (A6 : Option Addr) (n6 c6 : Nat), v7 = .pointer (some ⟨g7, 0, none⟩) ∧ v8 = .int .i64 0 ∧ Ibx wc g7 H.lo.s A5 n5 c5 H.lo.e H.hi.s A6 n6 c6 H.hi.e ∧ Rd wc .u64 Go.Proofs.YtkpcmgfpmekkjaaDoor.W A5 n5 c5 H.lo.l ∧ Rd wc .u64 Go.Proofs.YtkpcmgfpmekkjaaDoor.W A6 n6 c6 H.hi.l ∧ Below w4.heap.size w4 wc)
          case first =>
            have b9 : Below w4.heap.size w4 (World.drew w4) := below_drewN (Below.refl _ _) 1
            have G := mv b9 rfl (J18 hT ha hu hq xa0 xa1 xu0 xu1 xq0 xq1 y1 y2 r0 r1 r2 s0 s1 s2)
            clear hT ha hu hq xa0 xa1 xu0 xu1 xq0 xq1 y1 y2 r0 r1 r2 s0 s1 s2
            obtain ⟨hT, ha, hu, hq, xa0, xa1, xu0, xu1, xq0, xq1, y1, y2, r0, r1, r2, s0, s1, s2⟩ := G
            refine wp_region_upto (S := fun w' => w'.cell? ⟨w.heap.size, 0, none⟩ = some (.slice (some ⟨g, off, none⟩) a.m ca) ∧ w'.cell? ⟨w.heap.size, 1, none⟩ = some (.slice Va a.n da) ∧ w'.cell? ⟨g, off, none⟩ = some (.bool t0.s) ∧ w'.cell? ⟨g, off + 1, none⟩ = some (.slice A1 n1 c1) ∧ w'.cell? ⟨g, off + 2, none⟩ = some (.int .i64 t0.e) ∧ w'.cell? ⟨g, off + a.n * 3, none⟩ = some (.bool tn.s) ∧ w'.cell? ⟨g, off + a.n * 3 + 1, none⟩ = some (.slice A2 n2 c2) ∧ w'.cell? ⟨g, off + a.n * 3 + 2, none⟩ = some (.int .i64 tn.e)) 18 (by kernel_rfl) (by exact ⟨xa0, xa1, r0, r1, r2, s0, s1, s2⟩) (fun hHeldk0 => ?_)
            generalize World.drew w4 = wd at *
            have BD := Below.refl wd.heap.size wd
            refine wpAnyT_take (i := 0) (v := ?k1v0) rfl (by kernel_rfl) (by kernel_rfl) (by kernel_rfl) (by kernel_rfl) (by kernel_rfl) (by kernel_rfl) (fun _ _ _ h => panic_put (P := Tryd.prog) (fn := Tryd.f5) (R := (Bools true w)) h) (Or.inl ⟨by rfl, ?k1y0⟩) (by assumption) ?_
            case k1y0 => (intro w hSw; (try dsimp only at hSw); go_simp); try with_reducible rfl
            change wpAnyT _ _ _ _ _ _ _ _ (Act.put _ (some 31) _) _
            simp only [Act.put, List.setIfInBounds_toArray, List.set_cons_zero, List.set_cons_succ]
            refine wpAnyT_take (i := 1) (v := ?k2v1) rfl (by kernel_rfl) (by kernel_rfl) (by kernel_rfl) (by kernel_rfl) (by kernel_rfl) (by kernel_rfl) (fun _ _ _ h => panic_put (P := Tryd.prog) (fn := Tryd.f5) (R := (Bools true w)) h) (Or.inl ⟨by rfl, ?k2y1⟩) (by assumption) ?_
            case k2y1 => (intro w hSw; (try dsimp only at hSw); go_simp); try with_reducible rfl
            change wpAnyT _ _ _ _ _ _ _ _ (Act.put _ (some 32) _) _
            simp only [Act.put, List.setIfInBounds_toArray, List.set_cons_zero, List.set_cons_succ]
            refine wpAnyT_take (i := 2) (v := ?k3v2) rfl (by kernel_rfl) (by kernel_rfl) (by kernel_rfl) (by kernel_rfl) (by kernel_rfl) (by kernel_rfl) (fun _ _ _ h => panic_put (P := Tryd.prog) (fn := Tryd.f5) (R := (Bools true w)) h) (Or.inl ⟨by rfl, ?k3y2⟩) (by assumption) ?_
            case k3y2 => (intro w hSw; (try dsimp only at hSw); go_simp); try with_reducible rfl
            change wpAnyT _ _ _ _ _ _ _ _ (Act.put _ (some 33) _) _
            simp only [Act.put, List.setIfInBounds_toArray, List.set_cons_zero, List.set_cons_succ]
            refine wpAnyT_take (i := 3) (v := ?k4v3) rfl (by kernel_rfl) (by kernel_rfl) (by kernel_rfl) (by kernel_rfl) (by kernel_rfl) (by kernel_rfl) (fun _ _ _ h => panic_put (P := Tryd.prog) (fn := Tryd.f5) (R := (Bools true w)) h) (Or.inl ⟨by rfl, ?k4y3⟩) (by assumption) ?_
            case k4y3 => (intro w hSw; (try dsimp only at hSw); go_simp); try with_reducible rfl
            change wpAnyT _ _ _ _ _ _ _ _ (Act.put _ (some 34) _) _
            simp only [Act.put, List.setIfInBounds_toArray, List.set_cons_zero, List.set_cons_succ]
            refine wpAnyT_take (i := 4) (v := ?k5v4) rfl (by kernel_rfl) (by kernel_rfl) (by kernel_rfl) (by kernel_rfl) (by kernel_rfl) (by kernel_rfl) (fun _ _ _ h => panic_put (P := Tryd.prog) (fn := Tryd.f5) (R := (Bools true w)) h) (Or.inl ⟨by rfl, ?k5y4⟩) (by assumption) ?_
            case k5y4 => (intro w hSw; (try dsimp only at hSw); go_simp); try with_reducible rfl
            change wpAnyT _ _ _ _ _ _ _ _ (Act.put _ (some 35) _) _
            simp only [Act.put, List.setIfInBounds_toArray, List.set_cons_zero, List.set_cons_succ]
            refine wpAnyT_take (i := 5) (v := ?k6v5) rfl (by kernel_rfl) (by kernel_rfl) (by kernel_rfl) (by kernel_rfl) (by kernel_rfl) (by kernel_rfl) (fun _ _ _ h => panic_put (P := Tryd.prog) (fn := Tryd.f5) (R := (Bools true w)) h) (Or.inl ⟨by rfl, ?k6y5⟩) (by assumption) ?_
            case k6y5 => (intro w hSw; (try dsimp only at hSw); go_simp); try with_reducible rfl
            change wpAnyT _ _ _ _ _ _ _ _ (Act.put _ (some 36) _) _
            simp only [Act.put, List.setIfInBounds_toArray, List.set_cons_zero, List.set_cons_succ]
            refine wpAnyT_take (i := 6) (v := ?k7v6) rfl (by kernel_rfl) (by kernel_rfl) (by kernel_rfl) (by kernel_rfl) (by kernel_rfl) (by kernel_rfl) (fun _ _ _ h => panic_put (P := Tryd.prog) (fn := Tryd.f5) (R := (Bools true w)) h) (Or.inl ⟨by rfl, ?k7y6⟩) (by assumption) ?_
            case k7y6 => (intro w hSw; (try dsimp only at hSw); go_simp); try with_reducible rfl
            change wpAnyT _ _ _ _ _ _ _ _ (Act.put _ (some 37) _) _
            simp only [Act.put, List.setIfInBounds_toArray, List.set_cons_zero, List.set_cons_succ]
            refine wpAnyT_take (i := 7) (v := ?k8v7) rfl (by kernel_rfl) (by kernel_rfl) (by kernel_rfl) (by kernel_rfl) (by kernel_rfl) (by kernel_rfl) (fun _ _ _ h => panic_put (P := Tryd.prog) (fn := Tryd.f5) (R := (Bools true w)) h) (Or.inl ⟨by rfl, ?k8y7⟩) (by assumption) ?_
            case k8y7 => (intro w hSw; (try dsimp only at hSw); go_simp); try with_reducible rfl
            change wpAnyT _ _ _ _ _ _ _ _ (Act.put _ (some 38) _) _
            simp only [Act.put, List.setIfInBounds_toArray, List.set_cons_zero, List.set_cons_succ]
            refine wpAnyT_take (i := 8) (v := ?k9v8) rfl (by kernel_rfl) (by kernel_rfl) (by kernel_rfl) (by kernel_rfl) (by kernel_rfl) (by kernel_rfl) (fun _ _ _ h => panic_put (P := Tryd.prog) (fn := Tryd.f5) (R := (Bools true w)) h) (Or.inl ⟨by rfl, ?k9y8⟩) (by assumption) ?_
            case k9y8 => (intro w hSw; (try dsimp only at hSw); go_simp); try with_reducible rfl
            change wpAnyT _ _ _ _ _ _ _ _ (Act.put _ (some 39) _) _
            simp only [Act.put, List.setIfInBounds_toArray, List.set_cons_zero, List.set_cons_succ]
            refine wpAnyT_take (i := 9) (v := ?k10v9) rfl (by kernel_rfl) (by kernel_rfl) (by kernel_rfl) (by kernel_rfl) (by kernel_rfl) (by kernel_rfl) (fun _ _ _ h => panic_put (P := Tryd.prog) (fn := Tryd.f5) (R := (Bools true w)) h) (Or.inl ⟨by rfl, ?k10y9⟩) (by assumption) ?_
            case k10y9 => (intro w hSw; (try dsimp only at hSw); go_simp); try with_reducible rfl
            change wpAnyT _ _ _ _ _ _ _ _ (Act.put _ (some 40) _) _
            simp only [Act.put, List.setIfInBounds_toArray, List.set_cons_zero, List.set_cons_succ]
            refine wpAnyT_take (i := 10) (v := ?k11v10) rfl (by kernel_rfl) (by kernel_rfl) (by kernel_rfl) (by kernel_rfl) (by kernel_rfl) (by kernel_rfl) (fun _ _ _ h => panic_put (P := Tryd.prog) (fn := Tryd.f5) (R := (Bools true w)) h) (Or.inl ⟨by rfl, ?k11y10⟩) (by assumption) ?_
            case k11y10 => (intro w hSw; (try dsimp only at hSw); go_simp); try with_reducible rfl
            change wpAnyT _ _ _ _ _ _ _ _ (Act.put _ (some 41) _) _
            simp only [Act.put, List.setIfInBounds_toArray, List.set_cons_zero, List.set_cons_succ]
            refine wpAnyT_take (i := 11) (v := ?k12v11) rfl (by kernel_rfl) (by kernel_rfl) (by kernel_rfl) (by kernel_rfl) (by kernel_rfl) (by kernel_rfl) (fun _ _ _ h => panic_put (P := Tryd.prog) (fn := Tryd.f5) (R := (Bools true w)) h) (Or.inl ⟨by rfl, ?k12y11⟩) (by assumption) ?_
            case k12y11 => (intro w hSw; (try dsimp only at hSw); go_simp); try with_reducible rfl
            change wpAnyT _ _ _ _ _ _ _ _ (Act.put _ (some 42) _) _
            simp only [Act.put, List.setIfInBounds_toArray, List.set_cons_zero, List.set_cons_succ]
            refine wpAnyT_ready (rs := [12, 16]) (by kernel_rfl) (by simp) ?_
            refine AllReadyT.cons (o := _) rfl (fun K hK => ?_) (AllReadyT.cons (o := _) rfl (fun K hK => ?_) (AllReadyT.nil))
            go_simp
            refine (show Calls _ _ _ _ (TellI 0 H _) from by
              have h := tover_any (x := t0) (y := tn) HK.out (mv BD rfl hT) (mv BD rfl ha) (mv BD rfl y1) (mv BD rfl y2)
              rw [HH.out.1, HI0.out] at h
              exact h).mono ?_
            rintro en ub ⟨A5, n5, c5, A6, n6, c6, rfl, h5, h6, b⟩
            replace BD := below_next BD BD.size b (by rfl) (by rfl) (by rfl) (by rfl)
            clear b
            try dsimp only
            refine hK.out _ _ (by exact ⟨mv BD rfl xa0, mv BD rfl xa1, mv BD rfl r0, mv BD rfl r1, mv BD rfl r2, mv BD rfl s0, mv BD rfl s1, mv BD rfl s2⟩) (fun hHeldk1 => ?_)
            clear hK K hHeldk0
            try simp only [Act.put]
            refine wpAnyT_take (i := 13) (v := ?k13v13) rfl (by kernel_rfl) (by kernel_rfl) (by kernel_rfl) (by kernel_rfl) (by kernel_rfl) (by kernel_rfl) (fun _ _ _ h => panic_put (P := Tryd.prog) (fn := Tryd.f5) (R := (Bools true w)) h) (Or.inl ⟨by rfl, ?k13y13⟩) (by assumption) ?_
            case k13y13 => (intro w hSw; (try dsimp only at hSw); go_simp); try with_reducible rfl
            change wpAnyT _ _ _ _ _ _ _ _ (Act.put _ (some 30) _) _
            simp only [Act.put, List.setIfInBounds_toArray, List.set_cons_zero, List.set_cons_succ]
            refine wpAnyT_take (i := 14) (v := ?k14v14) rfl (by kernel_rfl) (by kernel_rfl) (by kernel_rfl) (by kernel_rfl) (by kernel_rfl) (by kernel_rfl) (fun _ _ _ h => panic_put (P := Tryd.prog) (fn := Tryd.f5) (R := (Bools true w)) h) (Or.inl ⟨by rfl, ?k14y14⟩) (by assumption) ?_
            case k14y14 => (intro w hSw; (try dsimp only at hSw); go_simp); try with_reducible rfl
            change wpAnyT _ _ _ _ _ _ _ _ (Act.put _ (some 44) _) _
            simp only [Act.put, List.setIfInBounds_toArray, List.set_cons_zero, List.set_cons_succ]
            refine wpAnyT_take (i := 15) (v := ?k15v15) rfl (by kernel_rfl) (by kernel_rfl) (by kernel_rfl) (by kernel_rfl) (by kernel_rfl) (by kernel_rfl) (fun _ _ _ h => panic_put (P := Tryd.prog) (fn := Tryd.f5) (R := (Bools true w)) h) (Or.inl ⟨by rfl, ?k15y15⟩) (by assumption) ?_
            case k15y15 => (intro w hSw; (try dsimp only at hSw); go_simp); try with_reducible rfl
            change wpAnyT _ _ _ _ _ _ _ _ (Act.put _ (some 45) _) _
            simp only [Act.put, List.setIfInBounds_toArray, List.set_cons_zero, List.set_cons_succ]
            refine wpAnyT_ready (rs := [16]) (by kernel_rfl) (by simp) ?_
            refine AllReadyT.cons (o := _) rfl (fun K hK => ?_) (AllReadyT.nil)
            go_simp
            have hgs : wd.heap.size ≤ ub.heap.size := BD.size
            have b := below_alloc ub (.cells #[.bool false, .slice none 0 0, .int .i64 0, .bool false, .slice none 0 0, .int .i64 0] 35)
            have xz := Ibx.new ub false none 0 0 0 false none 0 0 0
            replace BD := below_next BD BD.size b rfl rfl rfl rfl
            have G := mv b (by rfl) <| And.intro h5 <| h6
            clear h5 h6
            obtain ⟨h5, h6⟩ := G
            clear b
            generalize ub.alloc (.cells #[.bool false, .slice none 0 0, .int .i64 0, .bool false, .slice none 0 0, .int .i64 0] 35) = uc at *
            generalize hgq : ub.heap.size = gz at xz ⊢
            have hgz : wd.heap.size ≤ gz := by omega
            clear hgq hgs
            refine hK.out _ _ (by exact ⟨mv BD rfl xa0, mv BD rfl xa1, mv BD rfl r0, mv BD rfl r1, mv BD rfl r2, mv BD rfl s0, mv BD rfl s1, mv BD rfl s2⟩) (fun hHeldk2 => ?_)
            clear hK K hHeldk1
            try simp only [Act.put]
            refine wpAnyT_ready (rs := [17]) (by kernel_rfl) (by simp) ?_
            refine AllReadyT.cons (o := _) rfl (fun K hK => ?_) (AllReadyT.nil)
            obtain ⟨f0, f1, f2, f3, f4, f5⟩ := xz.open
            obtain ⟨z0, z1, z2, z3, z4, z5⟩ := xz.held
            go_simp
            replace BD := below_put6 (g := gz) BD hgz (.bool H.lo.s) (.slice A5 n5 c5) (.int .i64 H.lo.e) (.bool H.hi.s) (.slice A6 n6 c6) (.int .i64 H.hi.e)
            have xx := xz.put H.lo.s A5 n5 c5 H.lo.e H.hi.s A6 n6 c6 H.hi.e
            replace h5 := h5.put6 xz (.bool H.lo.s) (.slice A5 n5 c5) (.int .i64 H.lo.e) (.bool H.hi.s) (.slice A6 n6 c6) (.int .i64 H.hi.e)
            replace h6 := h6.put6 xz (.bool H.lo.s) (.slice A5 n5 c5) (.int .i64 H.lo.e) (.bool H.hi.s) (.slice A6 n6 c6) (.int .i64 H.hi.e)
            clear xz f0 f1 f2 f3 f4 f5 z0 z1 z2 z3 z4 z5
            refine hK.out _ _ (by exact ⟨mv BD rfl xa0, mv BD rfl xa1, mv BD rfl r0, mv BD rfl r1, mv BD rfl r2, mv BD rfl s0, mv BD rfl s1, mv BD rfl s2⟩) (fun hHeldk3 => ?_)
            clear hK K hHeldk2
            try simp only [Act.put]
            rotate_left
            go_simp
            have hgs : wd.heap.size ≤ wd.heap.size := BD.size
            have b := below_alloc wd (.cells #[.bool false, .slice none 0 0, .int .i64 0, .bool false, .slice none 0 0, .int .i64 0] 35)
            have xz := Ibx.new wd false none 0 0 0 false none 0 0 0
            replace BD := below_next BD BD.size b rfl rfl rfl rfl
            clear b
            generalize wd.alloc (.cells #[.bool false, .slice none 0 0, .int .i64 0, .bool false, .slice none 0 0, .int .i64 0] 35) = ub at *
            generalize hgq : wd.heap.size = gz at xz ⊢
            have hgz : wd.heap.size ≤ gz := by omega
            clear hgq hgs
            refine hK.out _ _ (by exact ⟨mv BD rfl xa0, mv BD rfl xa1, mv BD rfl r0, mv BD rfl r1, mv BD rfl r2, mv BD rfl s0, mv BD rfl s1, mv BD rfl s2⟩) (fun hHeldk1 => ?_)
            clear hK K hHeldk0
            try simp only [Act.put]
            refine wpAnyT_ready (rs := [12]) (by kernel_rfl) (by simp) ?_
            refine AllReadyT.cons (o := _) rfl (fun K hK => ?_) (AllReadyT.nil)
            go_simp
            refine (show Calls _ _ _ _ (TellI 0 H _) from by
              have h := tover_any (x := t0) (y := tn) HK.out (mv BD rfl hT) (mv BD rfl ha) (mv BD rfl y1) (mv BD rfl y2)
              rw [HH.out.1, HI0.out] at h
              exact h).mono ?_
            rintro en uc ⟨A5, n5, c5, A6, n6, c6, rfl, h5, h6, b⟩
            replace BD := below_next BD BD.size b (by rfl) (by rfl) (by rfl) (by rfl)
            replace xz := mv b (by rfl) xz
            clear b
            try dsimp only
            refine hK.out _ _ (by exact ⟨mv BD rfl xa0, mv BD rfl xa1, mv BD rfl r0, mv BD rfl r1, mv BD rfl r2, mv BD rfl s0, mv BD rfl s1, mv BD rfl s2⟩) (fun hHeldk2 => ?_)
            clear hK K hHeldk1
            try simp only [Act.put]
            refine wpAnyT_take (i := 13) (v := ?k16v13) rfl (by kernel_rfl) (by kernel_rfl) (by kernel_rfl) (by kernel_rfl) (by kernel_rfl) (by kernel_rfl) (fun _ _ _ h => panic_put (P := Tryd.prog) (fn := Tryd.f5) (R := (Bools true w)) h) (Or.inl ⟨by rfl, ?k16y13⟩) (by assumption) ?_
            case k16y13 => (intro w hSw; (try dsimp only at hSw); go_simp); try with_reducible rfl
            change wpAnyT _ _ _ _ _ _ _ _ (Act.put _ (some 30) _) _
            simp only [Act.put, List.setIfInBounds_toArray, List.set_cons_zero, List.set_cons_succ]
            refine wpAnyT_take (i := 14) (v := ?k17v14) rfl (by kernel_rfl) (by kernel_rfl) (by kernel_rfl) (by kernel_rfl) (by kernel_rfl) (by kernel_rfl) (fun _ _ _ h => panic_put (P := Tryd.prog) (fn := Tryd.f5) (R := (Bools true w)) h) (Or.inl ⟨by rfl, ?k17y14⟩) (by assumption) ?_
            case k17y14 => (intro w hSw; (try dsimp only at hSw); go_simp); try with_reducible rfl
            change wpAnyT _ _ _ _ _ _ _ _ (Act.put _ (some 44) _) _
            simp only [Act.put, List.setIfInBounds_toArray, List.set_cons_zero, List.set_cons_succ]
            refine wpAnyT_take (i := 15) (v := ?k18v15) rfl (by kernel_rfl) (by kernel_rfl) (by kernel_rfl) (by kernel_rfl) (by kernel_rfl) (by kernel_rfl) (fun _ _ _ h => panic_put (P := Tryd.prog) (fn := Tryd.f5) (R := (Bools true w)) h) (Or.inl ⟨by rfl, ?k18y15⟩) (by assumption) ?_
            case k18y15 => (intro w hSw; (try dsimp only at hSw); go_simp); try with_reducible rfl
            change wpAnyT _ _ _ _ _ _ _ _ (Act.put _ (some 45) _) _
            simp only [Act.put, List.setIfInBounds_toArray, List.set_cons_zero, List.set_cons_succ]
            refine wpAnyT_ready (rs := [17]) (by kernel_rfl) (by simp) ?_
            refine AllReadyT.cons (o := _) rfl (fun K hK => ?_) (AllReadyT.nil)
            obtain ⟨f0, f1, f2, f3, f4, f5⟩ := xz.open
            obtain ⟨z0, z1, z2, z3, z4, z5⟩ := xz.held
            go_simp
            replace BD := below_put6 (g := gz) BD hgz (.bool H.lo.s) (.slice A5 n5 c5) (.int .i64 H.lo.e) (.bool H.hi.s) (.slice A6 n6 c6) (.int .i64 H.hi.e)
            have xx := xz.put H.lo.s A5 n5 c5 H.lo.e H.hi.s A6 n6 c6 H.hi.e
            replace h5 := h5.put6 xz (.bool H.lo.s) (.slice A5 n5 c5) (.int .i64 H.lo.e) (.bool H.hi.s) (.slice A6 n6 c6) (.int .i64 H.hi.e)
            replace h6 := h6.put6 xz (.bool H.lo.s) (.slice A5 n5 c5) (.int .i64 H.lo.e) (.bool H.hi.s) (.slice A6 n6 c6) (.int .i64 H.hi.e)
            clear xz f0 f1 f2 f3 f4 f5 z0 z1 z2 z3 z4 z5
            refine hK.out _ _ (by exact ⟨mv BD rfl xa0, mv BD rfl xa1, mv BD rfl r0, mv BD rfl r1, mv BD rfl r2, mv BD rfl s0, mv BD rfl s1, mv BD rfl s2⟩) (fun hHeldk3 => ?_)
            clear hK K hHeldk2
            try simp only [Act.put]
            rotate_left
            all_goals (
              clear hHeldk3
              refine wpAnyT_ready (rs := [18]) (by kernel_rfl) (by simp) ?_
              refine AllReadyT.consB (o := _) rfl (by kernel_rfl) (fun K hK => ?_) AllReadyT.nil
              go_simp
              refine hK.out _ _ ?_
              clear hK K
              try simp only [Act.put]
              refine wpAnyT_done (by kernel_rfl) ?_ _
              go_wp2
              go_meet
              case rel => exact ⟨gz, _, _, _, _, _, _, rfl, rfl, xx, h5, h6, below_next b9 b9.size BD rfl rfl rfl rfl⟩)
          case rest =>
          obtain ⟨g7, A5, n5, c5, A6, n6, c6, rfl, rfl, xx, h5, h6, b⟩ := hcut
          replace BB := bnx BB b rfl rfl rfl rfl
          have G := mv b rfl (J18 hT ha hu hq xa0 xa1 xu0 xu1 xq0 xq1 y1 y2 r0 r1 r2 s0 s1 s2)
          clear hT ha hu hq xa0 xa1 xu0 xu1 xq0 xq1 y1 y2 r0 r1 r2 s0 s1 s2
          obtain ⟨hT, ha, hu, hq, xa0, xa1, xu0, xu1, xq0, xq1, y1, y2, r0, r1, r2, s0, s1, s2⟩ := G
          clear b
          generalize wc = w5 at *
          obtain ⟨k0, k1, k2, k3, k4, k5⟩ := xx.held
          clear xx
          go_upto_region 4 with fail
          go_cut [9, 10] (fun v9 v10 wc => ∃ (g9 : Nat) (A9 : Option Addr) (c9 : Nat) (B9 : Option Addr) (d9 : Nat), v9 = .pointer (some ⟨g9, 0, none⟩) ∧ v10 = .int .i64 0 ∧ Blk wc g9 #[.slice A9 hh.m c9, .slice B9 hh.n d9] 25 ∧ RdTb wc A9 c9 B9 d9 hh ∧ Below w5.heap.size w5 wc)
          case first =>
            have b9 : Below w5.heap.size w5 (World.drew w5) := below_drewN (Below.refl _ _) 1
            have G := mv b9 rfl (J26 hT ha hu hq xa0 xa1 xu0 xu1 xq0 xq1 y1 y2 r0 r1 r2 s0 s1 s2 h5 h6 k0 k1 k2 k3 k4 k5)
            clear hT ha hu hq xa0 xa1 xu0 xu1 xq0 xq1 y1 y2 r0 r1 r2 s0 s1 s2 h5 h6 k0 k1 k2 k3 k4 k5
            obtain ⟨hT, ha, hu, hq, xa0, xa1, xu0, xu1, xq0, xq1, y1, y2, r0, r1, r2, s0, s1, s2, h5, h6, k0, k1, k2, k3, k4, k5⟩ := G
            refine wp_region_upto (S := fun w' => w'.cell? ⟨w.heap.size, 0, none⟩ = some (.slice (some ⟨g, off, none⟩) a.m ca) ∧ w'.cell? ⟨w.heap.size, 1, none⟩ = some (.slice Va a.n da) ∧ w'.cell? ⟨g, off, none⟩ = some (.bool t0.s) ∧ w'.cell? ⟨g, off + 1, none⟩ = some (.slice A1 n1 c1) ∧ w'.cell? ⟨g, off + 2, none⟩ = some (.int .i64 t0.e) ∧ w'.cell? ⟨g, off + a.n * 3, none⟩ = some (.bool tn.s) ∧ w'.cell? ⟨g, off + a.n * 3 + 1, none⟩ = some (.slice A2 n2 c2) ∧ w'.cell? ⟨g, off + a.n * 3 + 2, none⟩ = some (.int .i64 tn.e) ∧ w'.cell? ⟨g7, 0, none⟩ = some (.bool H.lo.s) ∧ w'.cell? ⟨g7, 1, none⟩ = some (.slice A5 n5 c5) ∧ w'.cell? ⟨g7, 2, none⟩ = some (.int .i64 H.lo.e) ∧ w'.cell? ⟨g7, 3, none⟩ = some (.bool H.hi.s) ∧ w'.cell? ⟨g7, 4, none⟩ = some (.slice A6 n6 c6) ∧ w'.cell? ⟨g7, 5, none⟩ = some (.int .i64 H.hi.e)) 18 (by kernel_rfl) (by exact ⟨xa0, xa1, r0, r1, r2, s0, s1, s2, k0, k1, k2, k3, k4, k5⟩) (fun hHeldm0 => ?_)
            generalize World.drew w5 = wd at *
            have BD := Below.refl wd.heap.size wd
            refine wpAnyT_take (i := 0) (v := ?m19v0) rfl (by kernel_rfl) (by kernel_rfl) (by kernel_rfl) (by kernel_rfl) (by kernel_rfl) (by kernel_rfl) (fun _ _ _ h => panic_put (P := Tryd.prog) (fn := Tryd.f5) (R := (Bools true w)) h) (Or.inl ⟨by rfl, ?m19y0⟩) (by assumption) ?_
            case m19y0 => (intro w hSw; (try dsimp only at hSw); go_simp); try with_reducible rfl
            change wpAnyT _ _ _ _ _ _ _ _ (Act.put _ (some 47) _) _
            simp only [Act.put, List.setIfInBounds_toArray, List.set_cons_zero, List.set_cons_succ]
            refine wpAnyT_take (i := 1) (v := ?m20v1) rfl (by kernel_rfl) (by kernel_rfl) (by kernel_rfl) (by kernel_rfl) (by kernel_rfl) (by kernel_rfl) (fun _ _ _ h => panic_put (P := Tryd.prog) (fn := Tryd.f5) (R := (Bools true w)) h) (Or.inl ⟨by rfl, ?m20y1⟩) (by assumption) ?_
            case m20y1 => (intro w hSw; (try dsimp only at hSw); go_simp); try with_reducible rfl
            change wpAnyT _ _ _ _ _ _ _ _ (Act.put _ (some 48) _) _
            simp only [Act.put, List.setIfInBounds_toArray, List.set_cons_zero, List.set_cons_succ]
            refine wpAnyT_take (i := 2) (v := ?m21v2) rfl (by kernel_rfl) (by kernel_rfl) (by kernel_rfl) (by kernel_rfl) (by kernel_rfl) (by kernel_rfl) (fun _ _ _ h => panic_put (P := Tryd.prog) (fn := Tryd.f5) (R := (Bools true w)) h) (Or.inl ⟨by rfl, ?m21y2⟩) (by assumption) ?_
            case m21y2 => (intro w hSw; (try dsimp only at hSw); go_simp); try with_reducible rfl
            change wpAnyT _ _ _ _ _ _ _ _ (Act.put _ (some 49) _) _
            simp only [Act.put, List.setIfInBounds_toArray, List.set_cons_zero, List.set_cons_succ]
            refine wpAnyT_take (i := 3) (v := ?m22v3) rfl (by kernel_rfl) (by kernel_rfl) (by kernel_rfl) (by kernel_rfl) (by kernel_rfl) (by kernel_rfl) (fun _ _ _ h => panic_put (P := Tryd.prog) (fn := Tryd.f5) (R := (Bools true w)) h) (Or.inl ⟨by rfl, ?m22y3⟩) (by assumption) ?_
            case m22y3 => (intro w hSw; (try dsimp only at hSw); go_simp); try with_reducible rfl
            change wpAnyT _ _ _ _ _ _ _ _ (Act.put _ (some 50) _) _
            simp only [Act.put, List.setIfInBounds_toArray, List.set_cons_zero, List.set_cons_succ]
            refine wpAnyT_take (i := 4) (v := ?m23v4) rfl (by kernel_rfl) (by kernel_rfl) (by kernel_rfl) (by kernel_rfl) (by kernel_rfl) (by kernel_rfl) (fun _ _ _ h => panic_put (P := Tryd.prog) (fn := Tryd.f5) (R := (Bools true w)) h) (Or.inl ⟨by rfl, ?m23y4⟩) (by assumption) ?_
            case m23y4 => (intro w hSw; (try dsimp only at hSw); go_simp); try with_reducible rfl
            change wpAnyT _ _ _ _ _ _ _ _ (Act.put _ (some 51) _) _
            simp only [Act.put, List.setIfInBounds_toArray, List.set_cons_zero, List.set_cons_succ]
            refine wpAnyT_take (i := 5) (v := ?m24v5) rfl (by kernel_rfl) (by kernel_rfl) (by kernel_rfl) (by kernel_rfl) (by kernel_rfl) (by kernel_rfl) (fun _ _ _ h => panic_put (P := Tryd.prog) (fn := Tryd.f5) (R := (Bools true w)) h) (Or.inl ⟨by rfl, ?m24y5⟩) (by assumption) ?_
            case m24y5 => (intro w hSw; (try dsimp only at hSw); go_simp); try with_reducible rfl
            change wpAnyT _ _ _ _ _ _ _ _ (Act.put _ (some 52) _) _
            simp only [Act.put, List.setIfInBounds_toArray, List.set_cons_zero, List.set_cons_succ]
            refine wpAnyT_take (i := 6) (v := ?m25v6) rfl (by kernel_rfl) (by kernel_rfl) (by kernel_rfl) (by kernel_rfl) (by kernel_rfl) (by kernel_rfl) (fun _ _ _ h => panic_put (P := Tryd.prog) (fn := Tryd.f5) (R := (Bools true w)) h) (Or.inl ⟨by rfl, ?m25y6⟩) (by assumption) ?_
            case m25y6 => (intro w hSw; (try dsimp only at hSw); go_simp); try with_reducible rfl
            change wpAnyT _ _ _ _ _ _ _ _ (Act.put _ (some 53) _) _
            simp only [Act.put, List.setIfInBounds_toArray, List.set_cons_zero, List.set_cons_succ]
            refine wpAnyT_take (i := 7) (v := ?m26v7) rfl (by kernel_rfl) (by kernel_rfl) (by kernel_rfl) (by kernel_rfl) (by kernel_rfl) (by kernel_rfl) (fun _ _ _ h => panic_put (P := Tryd.prog) (fn := Tryd.f5) (R := (Bools true w)) h) (Or.inl ⟨by rfl, ?m26y7⟩) (by assumption) ?_
            case m26y7 => (intro w hSw; (try dsimp only at hSw); go_simp); try with_reducible rfl
            change wpAnyT _ _ _ _ _ _ _ _ (Act.put _ (some 54) _) _
            simp only [Act.put, List.setIfInBounds_toArray, List.set_cons_zero, List.set_cons_succ]
            refine wpAnyT_take (i := 8) (v := ?m27v8) rfl (by kernel_rfl) (by kernel_rfl) (by kernel_rfl) (by kernel_rfl) (by kernel_rfl) (by kernel_rfl) (fun _ _ _ h => panic_put (P := Tryd.prog) (fn := Tryd.f5) (R := (Bools true w)) h) (Or.inl ⟨by rfl, ?m27y8⟩) (by assumption) ?_
            case m27y8 => (intro w hSw; (try dsimp only at hSw); go_simp); try with_reducible rfl
            change wpAnyT _ _ _ _ _ _ _ _ (Act.put _ (some 55) _) _
            simp only [Act.put, List.setIfInBounds_toArray, List.set_cons_zero, List.set_cons_succ]
            refine wpAnyT_take (i := 9) (v := ?m28v9) rfl (by kernel_rfl) (by kernel_rfl) (by kernel_rfl) (by kernel_rfl) (by kernel_rfl) (by kernel_rfl) (fun _ _ _ h => panic_put (P := Tryd.prog) (fn := Tryd.f5) (R := (Bools true w)) h) (Or.inl ⟨by rfl, ?m28y9⟩) (by assumption) ?_
            case m28y9 => (intro w hSw; (try dsimp only at hSw); go_simp); try with_reducible rfl
            change wpAnyT _ _ _ _ _ _ _ _ (Act.put _ (some 56) _) _
            simp only [Act.put, List.setIfInBounds_toArray, List.set_cons_zero, List.set_cons_succ]
            refine wpAnyT_take (i := 10) (v := ?m29v10) rfl (by kernel_rfl) (by kernel_rfl) (by kernel_rfl) (by kernel_rfl) (by kernel_rfl) (by kernel_rfl) (fun _ _ _ h => panic_put (P := Tryd.prog) (fn := Tryd.f5) (R := (Bools true w)) h) (Or.inl ⟨by rfl, ?m29y10⟩) (by assumption) ?_
            case m29y10 => (intro w hSw; (try dsimp only at hSw); go_simp); try with_reducible rfl
            change wpAnyT _ _ _ _ _ _ _ _ (Act.put _ (some 57) _) _
            simp only [Act.put, List.setIfInBounds_toArray, List.set_cons_zero, List.set_cons_succ]
            refine wpAnyT_take (i := 11) (v := ?m30v11) rfl (by kernel_rfl) (by kernel_rfl) (by kernel_rfl) (by kernel_rfl) (by kernel_rfl) (by kernel_rfl) (fun _ _ _ h => panic_put (P := Tryd.prog) (fn := Tryd.f5) (R := (Bools true w)) h) (Or.inl ⟨by rfl, ?m30y11⟩) (by assumption) ?_
            case m30y11 => (intro w hSw; (try dsimp only at hSw); go_simp); try with_reducible rfl
            change wpAnyT _ _ _ _ _ _ _ _ (Act.put _ (some 58) _) _
            simp only [Act.put, List.setIfInBounds_toArray, List.set_cons_zero, List.set_cons_succ]
            refine wpAnyT_ready (rs := [12, 16]) (by kernel_rfl) (by simp) ?_
            refine AllReadyT.cons (o := _) rfl (fun K hK => ?_) (AllReadyT.cons (o := _) rfl (fun K hK => ?_) (AllReadyT.nil))
            go_simp
            refine (show Calls _ _ _ _ (TellT 0 hh _) from by
              have h := tmake_any (x := t0) (y := tn) (v := H) HK.out (mv BD rfl hT) (mv BD rfl y1) (mv BD rfl y2) (mv BD rfl h5) (mv BD rfl h6)
              rw [HH.out.2.1, HH.out.2.2.1] at h
              exact h).mono ?_
            rintro en ub ⟨A9, c9, B9, d9, rfl, hz, b⟩
            replace BD := below_next BD BD.size b (by rfl) (by rfl) (by rfl) (by rfl)
            clear b
            try dsimp only
            refine hK.out _ _ (by exact ⟨mv BD rfl xa0, mv BD rfl xa1, mv BD rfl r0, mv BD rfl r1, mv BD rfl r2, mv BD rfl s0, mv BD rfl s1, mv BD rfl s2, mv BD rfl k0, mv BD rfl k1, mv BD rfl k2, mv BD rfl k3, mv BD rfl k4, mv BD rfl k5⟩) (fun hHeldm1 => ?_)
            clear hK K hHeldm0
            try simp only [Act.put]
            refine wpAnyT_take (i := 13) (v := ?m31v13) rfl (by kernel_rfl) (by kernel_rfl) (by kernel_rfl) (by kernel_rfl) (by kernel_rfl) (by kernel_rfl) (fun _ _ _ h => panic_put (P := Tryd.prog) (fn := Tryd.f5) (R := (Bools true w)) h) (Or.inl ⟨by rfl, ?m31y13⟩) (by assumption) ?_
            case m31y13 => (intro w hSw; (try dsimp only at hSw); go_simp); try with_reducible rfl
            change wpAnyT _ _ _ _ _ _ _ _ (Act.put _ (some 46) _) _
            simp only [Act.put, List.setIfInBounds_toArray, List.set_cons_zero, List.set_cons_succ]
            refine wpAnyT_take (i := 14) (v := ?m32v14) rfl (by kernel_rfl) (by kernel_rfl) (by kernel_rfl) (by kernel_rfl) (by kernel_rfl) (by kernel_rfl) (fun _ _ _ h => panic_put (P := Tryd.prog) (fn := Tryd.f5) (R := (Bools true w)) h) (Or.inl ⟨by rfl, ?m32y14⟩) (by assumption) ?_
            case m32y14 => (intro w hSw; (try dsimp only at hSw); go_simp); try with_reducible rfl
            change wpAnyT _ _ _ _ _ _ _ _ (Act.put _ (some 60) _) _
            simp only [Act.put, List.setIfInBounds_toArray, List.set_cons_zero, List.set_cons_succ]
            refine wpAnyT_take (i := 15) (v := ?m33v15) rfl (by kernel_rfl) (by kernel_rfl) (by kernel_rfl) (by kernel_rfl) (by kernel_rfl) (by kernel_rfl) (fun _ _ _ h => panic_put (P := Tryd.prog) (fn := Tryd.f5) (R := (Bools true w)) h) (Or.inl ⟨by rfl, ?m33y15⟩) (by assumption) ?_
            case m33y15 => (intro w hSw; (try dsimp only at hSw); go_simp); try with_reducible rfl
            change wpAnyT _ _ _ _ _ _ _ _ (Act.put _ (some 61) _) _
            simp only [Act.put, List.setIfInBounds_toArray, List.set_cons_zero, List.set_cons_succ]
            refine wpAnyT_ready (rs := [16]) (by kernel_rfl) (by simp) ?_
            refine AllReadyT.cons (o := _) rfl (fun K hK => ?_) (AllReadyT.nil)
            go_simp
            have hgs : wd.heap.size ≤ ub.heap.size := BD.size
            have b := below_alloc ub (.cells #[.slice none 0 0, .slice none 0 0] 25)
            have xz := Blk.new ub #[.slice none 0 0, .slice none 0 0] 25
            replace BD := below_next BD BD.size b rfl rfl rfl rfl
            replace hz := mv b (by rfl) hz
            clear b
            generalize ub.alloc (.cells #[.slice none 0 0, .slice none 0 0] 25) = uc at *
            generalize hgq : ub.heap.size = gz at xz ⊢
            have hgz : wd.heap.size ≤ gz := by omega
            clear hgq hgs
            refine hK.out _ _ (by exact ⟨mv BD rfl xa0, mv BD rfl xa1, mv BD rfl r0, mv BD rfl r1, mv BD rfl r2, mv BD rfl s0, mv BD rfl s1, mv BD rfl s2, mv BD rfl k0, mv BD rfl k1, mv BD rfl k2, mv BD rfl k3, mv BD rfl k4, mv BD rfl k5⟩) (fun hHeldm2 => ?_)
            clear hK K hHeldm1
            try simp only [Act.put]
            refine wpAnyT_ready (rs := [17]) (by kernel_rfl) (by simp) ?_
            refine AllReadyT.cons (o := _) rfl (fun K hK => ?_) (AllReadyT.nil)
            obtain ⟨f0, f1⟩ := (show _ ∧ _ from ⟨xz.frozen 0, xz.frozen 1⟩)
            have z0 : World.cell? _ ⟨gz, 0, none⟩ = some (.slice none 0 0) := xz.at 0
            have z1 : World.cell? _ ⟨gz, 1, none⟩ = some (.slice none 0 0) := xz.at 1
            go_simp
            replace BD := below_put2 (g := gz) BD hgz (.slice A9 hh.m c9) (.slice B9 hh.n d9)
            have xx := xz.put2 (.slice A9 hh.m c9) (.slice B9 hh.n d9)
            replace hz := hz.put2 xz (.slice A9 hh.m c9) (.slice B9 hh.n d9)
            clear xz f0 f1 z0 z1
            refine hK.out _ _ (by exact ⟨mv BD rfl xa0, mv BD rfl xa1, mv BD rfl r0, mv BD rfl r1, mv BD rfl r2, mv BD rfl s0, mv BD rfl s1, mv BD rfl s2, mv BD rfl k0, mv BD rfl k1, mv BD rfl k2, mv BD rfl k3, mv BD rfl k4, mv BD rfl k5⟩) (fun hHeldm3 => ?_)
            clear hK K hHeldm2
            try simp only [Act.put]
            rotate_left
            go_simp
            have hgs : wd.heap.size ≤ wd.heap.size := BD.size
            have b := below_alloc wd (.cells #[.slice none 0 0, .slice none 0 0] 25)
            have xz := Blk.new wd #[.slice none 0 0, .slice none 0 0] 25
            replace BD := below_next BD BD.size b rfl rfl rfl rfl
            clear b
            generalize wd.alloc (.cells #[.slice none 0 0, .slice none 0 0] 25) = ub at *
            generalize hgq : wd.heap.size = gz at xz ⊢
            have hgz : wd.heap.size ≤ gz := by omega
            clear hgq hgs
            refine hK.out _ _ (by exact ⟨mv BD rfl xa0, mv BD rfl xa1, mv BD rfl r0, mv BD rfl r1, mv BD rfl r2, mv BD rfl s0, mv BD rfl s1, mv BD rfl s2, mv BD rfl k0, mv BD rfl k1, mv BD rfl k2, mv BD rfl k3, mv BD rfl k4, mv BD rfl k5⟩) (fun hHeldm1 => ?_)
            clear hK K hHeldm0
            try simp only [Act.put]
            refine wpAnyT_ready (rs := [12]) (by kernel_rfl) (by simp) ?_
            refine AllReadyT.cons (o := _) rfl (fun K hK => ?_) (AllReadyT.nil)
            go_simp
            refine (show Calls _ _ _ _ (TellT 0 hh _) from by
              have h := tmake_any (x := t0) (y := tn) (v := H) HK.out (mv BD rfl hT) (mv BD rfl y1) (mv BD rfl y2) (mv BD rfl h5) (mv BD rfl h6)
              rw [HH.out.2.1, HH.out.2.2.1] at h
              exact h).mono ?_
            rintro en uc ⟨A9, c9, B9, d9, rfl, hz, b⟩
            replace BD := below_next BD BD.size b (by rfl) (by rfl) (by rfl) (by rfl)
            replace xz := mv b (by rfl) xz
            clear b
            try dsimp only
            refine hK.out _ _ (by exact ⟨mv BD rfl xa0, mv BD rfl xa1, mv BD rfl r0, mv BD rfl r1, mv BD rfl r2, mv BD rfl s0, mv BD rfl s1, mv BD rfl s2, mv BD rfl k0, mv BD rfl k1, mv BD rfl k2, mv BD rfl k3, mv BD rfl k4, mv BD rfl k5⟩) (fun hHeldm2 => ?_)
            clear hK K hHeldm1
            try simp only [Act.put]
            refine wpAnyT_take (i := 13) (v := ?m34v13) rfl (by kernel_rfl) (by kernel_rfl) (by kernel_rfl) (by kernel_rfl) (by kernel_rfl) (by kernel_rfl) (fun _ _ _ h => panic_put (P := Tryd.prog) (fn := Tryd.f5) (R := (Bools true w)) h) (Or.inl ⟨by rfl, ?m34y13⟩) (by assumption) ?_
            case m34y13 => (intro w hSw; (try dsimp only at hSw); go_simp); try with_reducible rfl
            change wpAnyT _ _ _ _ _ _ _ _ (Act.put _ (some 46) _) _
            simp only [Act.put, List.setIfInBounds_toArray, List.set_cons_zero, List.set_cons_succ]
            refine wpAnyT_take (i := 14) (v := ?m35v14) rfl (by kernel_rfl) (by kernel_rfl) (by kernel_rfl) (by kernel_rfl) (by kernel_rfl) (by kernel_rfl) (fun _ _ _ h => panic_put (P := Tryd.prog) (fn := Tryd.f5) (R := (Bools true w)) h) (Or.inl ⟨by rfl, ?m35y14⟩) (by assumption) ?_
            case m35y14 => (intro w hSw; (try dsimp only at hSw); go_simp); try with_reducible rfl
            change wpAnyT _ _ _ _ _ _ _ _ (Act.put _ (some 60) _) _
            simp only [Act.put, List.setIfInBounds_toArray, List.set_cons_zero, List.set_cons_succ]
            refine wpAnyT_take (i := 15) (v := ?m36v15) rfl (by kernel_rfl) (by kernel_rfl) (by kernel_rfl) (by kernel_rfl) (by kernel_rfl) (by kernel_rfl) (fun _ _ _ h => panic_put (P := Tryd.prog) (fn := Tryd.f5) (R := (Bools true w)) h) (Or.inl ⟨by rfl, ?m36y15⟩) (by assumption) ?_
            case m36y15 => (intro w hSw; (try dsimp only at hSw); go_simp); try with_reducible rfl
            change wpAnyT _ _ _ _ _ _ _ _ (Act.put _ (some 61) _) _
            simp only [Act.put, List.setIfInBounds_toArray, List.set_cons_zero, List.set_cons_succ]
            refine wpAnyT_ready (rs := [17]) (by kernel_rfl) (by simp) ?_
            refine AllReadyT.cons (o := _) rfl (fun K hK => ?_) (AllReadyT.nil)
            obtain ⟨f0, f1⟩ := (show _ ∧ _ from ⟨xz.frozen 0, xz.frozen 1⟩)
            have z0 : World.cell? _ ⟨gz, 0, none⟩ = some (.slice none 0 0) := xz.at 0
            have z1 : World.cell? _ ⟨gz, 1, none⟩ = some (.slice none 0 0) := xz.at 1
            go_simp
            replace BD := below_put2 (g := gz) BD hgz (.slice A9 hh.m c9) (.slice B9 hh.n d9)
            have xx := xz.put2 (.slice A9 hh.m c9) (.slice B9 hh.n d9)
            replace hz := hz.put2 xz (.slice A9 hh.m c9) (.slice B9 hh.n d9)
            clear xz f0 f1 z0 z1
            refine hK.out _ _ (by exact ⟨mv BD rfl xa0, mv BD rfl xa1, mv BD rfl r0, mv BD rfl r1, mv BD rfl r2, mv BD rfl s0, mv BD rfl s1, mv BD rfl s2, mv BD rfl k0, mv BD rfl k1, mv BD rfl k2, mv BD rfl k3, mv BD rfl k4, mv BD rfl k5⟩) (fun hHeldm3 => ?_)
            clear hK K hHeldm2
            try simp only [Act.put]
            rotate_left
            all_goals (
              clear hHeldm3
              refine wpAnyT_ready (rs := [18]) (by kernel_rfl) (by simp) ?_
              refine AllReadyT.consB (o := _) rfl (by kernel_rfl) (fun K hK => ?_) AllReadyT.nil
              go_simp
              refine hK.out _ _ ?_
              clear hK K
              try simp only [Act.put]
              refine wpAnyT_done (by kernel_rfl) ?_ _
              go_wp2
              go_meet
              case rel => exact ⟨gz, _, _, _, _, rfl, rfl, xx, hz, below_next b9 b9.size BD rfl rfl rfl rfl⟩)
          case rest =>
          obtain ⟨g9, A9, c9, B9, d9, rfl, rfl, xx, hz, b⟩ := hcut
          replace BB := bnx BB b rfl rfl rfl rfl
          have G := mv b rfl (J10 hT ha hu hq xa0 xa1 xu0 xu1 xq0 xq1)
          clear hT ha hu hq xa0 xa1 xu0 xu1 xq0 xq1
          obtain ⟨hT, ha, hu, hq, xa0, xa1, xu0, xu1, xq0, xq1⟩ := G
          clear b
          generalize wc = w6 at *
          have k0 : World.cell? _ ⟨_, 0, none⟩ = some (.slice A9 hh.m c9) := xx.at 0
          have k1 : World.cell? _ ⟨_, 1, none⟩ = some (.slice B9 hh.n d9) := xx.at 1
          clear xx
          go_upto_region 5 with fail
          go_wp2_with fail
          refine (twithin_any HK.out hT ha ha).mono ?_
          rintro en w7 ⟨rfl, b⟩
          rw [HS.out]
          replace BB := bnx BB b rfl rfl rfl rfl
          have G := mv b rfl (J13 hT ha hu hq xa0 xa1 xu0 xu1 xq0 xq1 hz k0 k1)
          clear hT ha hu hq xa0 xa1 xu0 xu1 xq0 xq1 hz k0 k1
          obtain ⟨hT, ha, hu, hq, xa0, xa1, xu0, xu1, xq0, xq1, hz, k0, k1⟩ := G
          clear b
          go_wp2_with fail
          refine (twithin_any HK.out hT ha hz).mono ?_
          rintro en w8 ⟨rfl, b⟩
          rw [HH.out.2.2.2]
          replace BB := bnx BB b rfl rfl rfl rfl
          have G := mv b rfl (J13 hT ha hu hq xa0 xa1 xu0 xu1 xq0 xq1 hz k0 k1)
          clear hT ha hu hq xa0 xa1 xu0 xu1 xq0 xq1 hz k0 k1
          obtain ⟨hT, ha, hu, hq, xa0, xa1, xu0, xu1, xq0, xq1, hz, k0, k1⟩ := G
          clear b
          go_wp2_with fail
          refine (tinside_any HK.out hT ha ha).mono ?_
          rintro en w9 ⟨rfl, b⟩
          rw [HI.out]
          replace BB := bnx BB b rfl rfl rfl rfl
          have G := mv b rfl (J13 hT ha hu hq xa0 xa1 xu0 xu1 xq0 xq1 hz k0 k1)
          clear hT ha hu hq xa0 xa1 xu0 xu1 xq0 xq1 hz k0 k1
          obtain ⟨hT, ha, hu, hq, xa0, xa1, xu0, xu1, xq0, xq1, hz, k0, k1⟩ := G
          clear b
          clear HS HH HI HI0 hz k0 k1
          go_wp2_with fail
          refine (told13_any hT).mono ?_
          rintro en w10 ⟨rfl, b⟩
          replace BB := bnx BB b rfl rfl rfl rfl
          have G := mv b rfl (J10 hT ha hu hq xa0 xa1 xu0 xu1 xq0 xq1)
          clear hT ha hu hq xa0 xa1 xu0 xu1 xq0 xq1
          obtain ⟨hT, ha, hu, hq, xa0, xa1, xu0, xu1, xq0, xq1⟩ := G
          clear b
          have F1 := Lib.hid (fun h1 h2 => trans_b (K := KS) (a := a) (b := u) (c := q) h1 h2)
          have F2 := Lib.hid (fun h1 h2 => trans_i (K := KS) (a := a) (b := u) (c := q) h1 h2)
          obtain ⟨p1, hp1⟩ : ∃ z, z = cellsB KS a u (withinI KS) := ⟨_, rfl⟩
          obtain ⟨p2, hp2⟩ : ∃ z, z = cellsB KS u q (withinI KS) := ⟨_, rfl⟩
          obtain ⟨p3, hp3⟩ : ∃ z, z = cellsB KS a u (insideI KS) := ⟨_, rfl⟩
          have H1 := Lib.hid hp1.symm
          have H2 := Lib.hid hp2.symm
          have H3 := Lib.hid hp3.symm
          clear hp1 hp2 hp3
          go_wp2_with fail
          refine (twithin_any HK.out hT ha hu).mono ?_
          rintro en w11 ⟨rfl, b⟩
          rw [H1.out]
          replace BB := bnx BB b rfl rfl rfl rfl
          have G := mv b rfl (J10 hT ha hu hq xa0 xa1 xu0 xu1 xq0 xq1)
          clear hT ha hu hq xa0 xa1 xu0 xu1 xq0 xq1
          obtain ⟨hT, ha, hu, hq, xa0, xa1, xu0, xu1, xq0, xq1⟩ := G
          clear b
          cases p1
          · go_wp2_with fail
            refine (tinside_any HK.out hT ha hu).mono ?_
            rintro en w12 ⟨rfl, b⟩
            rw [H3.out]
            replace BB := bnx BB b rfl rfl rfl rfl
            have G := mv b rfl (J10 hT ha hu hq xa0 xa1 xu0 xu1 xq0 xq1)
            clear hT ha hu hq xa0 xa1 xu0 xu1 xq0 xq1
            obtain ⟨hT, ha, hu, hq, xa0, xa1, xu0, xu1, xq0, xq1⟩ := G
            clear b
            cases p3
            · go_wp2
              go_ret
              exact ⟨by first | rfl | simp, BB⟩
            · go_wp2_with fail
              refine (twithin_any HK.out hT hu hq).mono ?_
              rintro en w13 ⟨rfl, b⟩
              rw [H2.out]
              replace BB := bnx BB b rfl rfl rfl rfl
              have G := mv b rfl (J10 hT ha hu hq xa0 xa1 xu0 xu1 xq0 xq1)
              clear hT ha hu hq xa0 xa1 xu0 xu1 xq0 xq1
              obtain ⟨hT, ha, hu, hq, xa0, xa1, xu0, xu1, xq0, xq1⟩ := G
              clear b
              cases p2
              · go_wp2
                go_ret
                exact ⟨by first | rfl | simp, BB⟩
              · go_wp2_with fail
                refine (tinside_any HK.out hT ha hq).mono ?_
                rintro en w14 ⟨rfl, b⟩
                rw [F2.out H3.out H2.out]
                replace BB := bnx BB b rfl rfl rfl rfl
                have G := mv b rfl (J10 hT ha hu hq xa0 xa1 xu0 xu1 xq0 xq1)
                clear hT ha hu hq xa0 xa1 xu0 xu1 xq0 xq1
                obtain ⟨hT, ha, hu, hq, xa0, xa1, xu0, xu1, xq0, xq1⟩ := G
                clear b
                go_wp2
                go_ret
                exact ⟨by first | rfl | simp, BB⟩
          · go_wp2_with fail
            refine (twithin_any HK.out hT hu hq).mono ?_
            rintro en w15 ⟨rfl, b⟩
            rw [H2.out]
            replace BB := bnx BB b rfl rfl rfl rfl
            have G := mv b rfl (J10 hT ha hu hq xa0 xa1 xu0 xu1 xq0 xq1)
            clear hT ha hu hq xa0 xa1 xu0 xu1 xq0 xq1
            obtain ⟨hT, ha, hu, hq, xa0, xa1, xu0, xu1, xq0, xq1⟩ := G
            clear b
            cases p2
            · go_wp2_with fail
              refine (tinside_any HK.out hT ha hu).mono ?_
              rintro en w16 ⟨rfl, b⟩
              rw [H3.out]
              replace BB := bnx BB b rfl rfl rfl rfl
              have G := mv b rfl (J10 hT ha hu hq xa0 xa1 xu0 xu1 xq0 xq1)
              clear hT ha hu hq xa0 xa1 xu0 xu1 xq0 xq1
              obtain ⟨hT, ha, hu, hq, xa0, xa1, xu0, xu1, xq0, xq1⟩ := G
              clear b
              cases p3
              · go_wp2
                go_ret
                exact ⟨by first | rfl | simp, BB⟩
              · go_wp2_with fail
                refine (twithin_any HK.out hT hu hq).mono ?_
                rintro en w17 ⟨rfl, b⟩
                rw [H2.out]
                replace BB := bnx BB b rfl rfl rfl rfl
                have G := mv b rfl (J10 hT ha hu hq xa0 xa1 xu0 xu1 xq0 xq1)
                clear hT ha hu hq xa0 xa1 xu0 xu1 xq0 xq1
                obtain ⟨hT, ha, hu, hq, xa0, xa1, xu0, xu1, xq0, xq1⟩ := G
                clear b
                go_wp2
                go_ret
                exact ⟨by first | rfl | simp, BB⟩
            · go_wp2_with fail
              refine (twithin_any HK.out hT ha hq).mono ?_
              rintro en w19 ⟨rfl, b⟩
              rw [F1.out H1.out H2.out]
              replace BB := bnx BB b rfl rfl rfl rfl
              have G := mv b rfl (J10 hT ha hu hq xa0 xa1 xu0 xu1 xq0 xq1)
              clear hT ha hu hq xa0 xa1 xu0 xu1 xq0 xq1
              obtain ⟨hT, ha, hu, hq, xa0, xa1, xu0, xu1, xq0, xq1⟩ := G
              clear b
              go_wp2_with fail
              refine (tinside_any HK.out hT ha hu).mono ?_
              rintro en w20 ⟨rfl, b⟩
              rw [H3.out]
              replace BB := bnx BB b rfl rfl rfl rfl
              have G := mv b rfl (J10 hT ha hu hq xa0 xa1 xu0 xu1 xq0 xq1)
              clear hT ha hu hq xa0 xa1 xu0 xu1 xq0 xq1
              obtain ⟨hT, ha, hu, hq, xa0, xa1, xu0, xu1, xq0, xq1⟩ := G
              clear b
              cases p3
              · go_wp2
                go_ret
                exact ⟨by first | rfl | simp, BB⟩
              · go_wp2_with fail
                refine (twithin_any HK.out hT hu hq).mono ?_
                rintro en w21 ⟨rfl, b⟩
                rw [H2.out]
                replace BB := bnx BB b rfl rfl rfl rfl
                have G := mv b rfl (J10 hT ha hu hq xa0 xa1 xu0 xu1 xq0 xq1)
                clear hT ha hu hq xa0 xa1 xu0 xu1 xq0 xq1
                obtain ⟨hT, ha, hu, hq, xa0, xa1, xu0, xu1, xq0, xq1⟩ := G
                clear b
                go_wp2_with fail
                refine (tinside_any HK.out hT ha hq).mono ?_
                rintro en w22 ⟨rfl, b⟩
                rw [F2.out H3.out H2.out]
                replace BB := bnx BB b rfl rfl rfl rfl
                have G := mv b rfl (J10 hT ha hu hq xa0 xa1 xu0 xu1 xq0 xq1)
                clear hT ha hu hq xa0 xa1 xu0 xu1 xq0 xq1
                obtain ⟨hT, ha, hu, hq, xa0, xa1, xu0, xu1, xq0, xq1⟩ := G
                clear b
                go_wp2
                go_ret
                exact ⟨by first | rfl | simp, BB⟩

end Go.Proofs.YtkpcmgfpmekkjaaDoor
