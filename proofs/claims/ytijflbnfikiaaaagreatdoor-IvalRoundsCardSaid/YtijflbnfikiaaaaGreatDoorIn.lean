/-
  Contract of the statements' own told of layer 5: it returns true, at this translation. Condition: the slices read as limbs, the table of math/bits reads as its text lays it.
-/
import Derived.Test.YtijflbnfikiaaaaGreatDoorIl
namespace Go.Proofs.YtijflbnfikiaaaaGreatDoor
open Go.RowKit

def x13 : Iv := ⟨q1, q3⟩
def x31 : Iv := ⟨q3, q1⟩
def x11 : Iv := ⟨q1, q1⟩
def x33 : Iv := ⟨q3, q3⟩

set_option maxRecDepth 100000 in
set_option maxHeartbeats 8000000 in
theorem told5_any {w : World} (hT : Tab w) : Calls Tryz.prog 7 #[] w (Bools true w) := by
  obtain ⟨KK, hKK⟩ := scale_has
  have BB := Below.refl w.heap.size w
  have N1 := nt_one_at (w := w) (v := 1) rfl (by omega) (by omega)
  have b := below_alloc w (.cells #[.int .u64 1] 43)
  replace BB := below_next BB BB.size b rfl rfl rfl rfl
  replace hT := mv b rfl hT
  clear b
  have N3 := nt_one_at (w := (w.alloc (.cells #[.int .u64 1] 43))) (v := 3) (g := w.heap.size + 1) (by simp) (by omega) (by omega)
  have b := below_alloc (w.alloc (.cells #[.int .u64 1] 43)) (.cells #[.int .u64 3] 43)
  replace BB := below_next BB BB.size b rfl rfl rfl rfl
  have G := mv b rfl <| And.intro hT <| N1
  clear b hT N1
  obtain ⟨hT, N1⟩ := G
  obtain ⟨o10, o11, o12⟩ := (box_at (w := ((w.alloc (.cells #[.int .u64 1] 43)).alloc (.cells #[.int .u64 3] 43))) (g := w.heap.size + 2) (by simp) false (some ⟨w.heap.size, 0, none⟩) 1 1 0).held
  have b := below_alloc ((w.alloc (.cells #[.int .u64 1] 43)).alloc (.cells #[.int .u64 3] 43)) (.cells #[.bool false, .slice (some ⟨w.heap.size, 0, none⟩) 1 1, .int .i64 0] 24)
  replace BB := below_next BB BB.size b rfl rfl rfl rfl
  have G := mv b rfl <| And.intro hT <| And.intro N1 <| N3
  clear b hT N1 N3
  obtain ⟨hT, N1, N3⟩ := G
  obtain ⟨o30, o31, o32⟩ := (box_at (w := (((w.alloc (.cells #[.int .u64 1] 43)).alloc (.cells #[.int .u64 3] 43)).alloc (.cells #[.bool false, .slice (some ⟨w.heap.size, 0, none⟩) 1 1, .int .i64 0] 24))) (g := w.heap.size + 3) (by simp) false (some ⟨w.heap.size + 1, 0, none⟩) 1 1 0).held
  have b := below_alloc (((w.alloc (.cells #[.int .u64 1] 43)).alloc (.cells #[.int .u64 3] 43)).alloc (.cells #[.bool false, .slice (some ⟨w.heap.size, 0, none⟩) 1 1, .int .i64 0] 24)) (.cells #[.bool false, .slice (some ⟨w.heap.size + 1, 0, none⟩) 1 1, .int .i64 0] 24)
  replace BB := below_next BB BB.size b rfl rfl rfl rfl
  have G := mv b rfl <| And.intro hT <| And.intro N1 <| And.intro N3 <| And.intro o10 <| And.intro o11 <| o12
  clear b hT N1 N3 o10 o11 o12
  obtain ⟨hT, N1, N3, o10, o11, o12⟩ := G
  go_enter Tryz.func7, Tryz.ntmps7
  go_wp2_with fail
  refine (imake_ok (x := x13) hKK hT N1.rd N3.rd (may_13 KK)).mono ?_
  rintro en v1 ⟨A4, n4, c4, A5, n5, c5, rfl, h4, h5, b⟩
  replace BB := below_next BB BB.size b rfl rfl rfl rfl
  have G := mv b rfl <| And.intro hT <| And.intro N1 <| And.intro N3 <| And.intro o10 <| And.intro o11 <| And.intro o12 <| And.intro o30 <| And.intro o31 <| o32
  clear b hT N1 N3 o10 o11 o12 o30 o31 o32
  obtain ⟨hT, N1, N3, o10, o11, o12, o30, o31, o32⟩ := G
  obtain ⟨y0, y1, y2, y3, y4, y5⟩ := (Ibx.new v1 x13.lo.s A4 n4 c4 x13.lo.e x13.hi.s A5 n5 c5 x13.hi.e).held
  have b := below_alloc v1 (.cells #[.bool x13.lo.s, .slice A4 n4 c4, .int .i64 x13.lo.e, .bool x13.hi.s, .slice A5 n5 c5, .int .i64 x13.hi.e] 26)
  replace BB := below_next BB BB.size b rfl rfl rfl rfl
  have G := mv b rfl <| And.intro hT <| And.intro N1 <| And.intro N3 <| And.intro o10 <| And.intro o11 <| And.intro o12 <| And.intro o30 <| And.intro o31 <| And.intro o32 <| And.intro h4 <| h5
  clear b hT N1 N3 o10 o11 o12 o30 o31 o32 h4 h5
  obtain ⟨hT, N1, N3, o10, o11, o12, o30, o31, o32, h4, h5⟩ := G
  go_wp2_with fail
  refine (imake_no (x := x31) hKK hT N3.rd N1.rd (may_31 KK)).mono ?_
  rintro en v2 ⟨A6, n6, c6, A7, n7, c7, rfl, _, _, b⟩
  replace BB := below_next BB BB.size b rfl rfl rfl rfl
  have G := mv b rfl <| And.intro hT <| And.intro N1 <| And.intro N3 <| And.intro o10 <| And.intro o11 <| And.intro o12 <| And.intro o30 <| And.intro o31 <| And.intro o32 <| And.intro h4 <| And.intro h5 <| And.intro y0 <| And.intro y1 <| And.intro y2 <| And.intro y3 <| And.intro y4 <| y5
  clear b hT N1 N3 o10 o11 o12 o30 o31 o32 h4 h5 y0 y1 y2 y3 y4 y5
  obtain ⟨hT, N1, N3, o10, o11, o12, o30, o31, o32, h4, h5, y0, y1, y2, y3, y4, y5⟩ := G
  have b := below_alloc v2 (.cells #[.bool Iv.zero.lo.s, .slice A6 n6 c6, .int .i64 Iv.zero.lo.e, .bool Iv.zero.hi.s, .slice A7 n7 c7, .int .i64 Iv.zero.hi.e] 26)
  replace BB := below_next BB BB.size b rfl rfl rfl rfl
  have G := mv b rfl <| And.intro hT <| And.intro N1 <| And.intro N3 <| And.intro o10 <| And.intro o11 <| And.intro o12 <| And.intro o30 <| And.intro o31 <| And.intro o32 <| And.intro h4 <| And.intro h5 <| And.intro y0 <| And.intro y1 <| And.intro y2 <| And.intro y3 <| And.intro y4 <| y5
  clear b hT N1 N3 o10 o11 o12 o30 o31 o32 h4 h5 y0 y1 y2 y3 y4 y5
  obtain ⟨hT, N1, N3, o10, o11, o12, o30, o31, o32, h4, h5, y0, y1, y2, y3, y4, y5⟩ := G
  go_wp2_with fail
  refine (imid_is (x := x13) (s0 := false) (m0 := 1) (e0 := 1) hKK hT h4 h5 (may_13 KK) (add_13 hKK) (okd_small (m := 1) (e := 2) rfl (by omega) (by decide) (by decide)) (by omega) (by decide) (by decide) (by decide)).mono ?_
  rintro en v3 ⟨A8, n8, c8, rfl, _, b⟩
  replace BB := below_next BB BB.size b rfl rfl rfl rfl
  have G := mv b rfl <| And.intro hT <| And.intro N1 <| And.intro N3 <| And.intro o10 <| And.intro o11 <| And.intro o12 <| And.intro o30 <| And.intro o31 <| And.intro o32 <| And.intro h4 <| And.intro h5 <| And.intro y0 <| And.intro y1 <| And.intro y2 <| And.intro y3 <| And.intro y4 <| y5
  clear b hT N1 N3 o10 o11 o12 o30 o31 o32 h4 h5 y0 y1 y2 y3 y4 y5
  obtain ⟨hT, N1, N3, o10, o11, o12, o30, o31, o32, h4, h5, y0, y1, y2, y3, y4, y5⟩ := G
  obtain ⟨m0, m1, m2⟩ := (Box.new v3 false A8 n8 c8 1).held
  have b := below_alloc v3 (.cells #[.bool false, .slice A8 n8 c8, .int .i64 1] 24)
  replace BB := below_next BB BB.size b rfl rfl rfl rfl
  have G := mv b rfl <| And.intro hT <| And.intro N1 <| And.intro N3 <| And.intro o10 <| And.intro o11 <| And.intro o12 <| And.intro o30 <| And.intro o31 <| And.intro o32 <| And.intro h4 <| And.intro h5 <| And.intro y0 <| And.intro y1 <| And.intro y2 <| And.intro y3 <| And.intro y4 <| y5
  clear b hT N1 N3 o10 o11 o12 o30 o31 o32 h4 h5 y0 y1 y2 y3 y4 y5
  obtain ⟨hT, N1, N3, o10, o11, o12, o30, o31, o32, h4, h5, y0, y1, y2, y3, y4, y5⟩ := G
  go_wp2_with fail
  refine (iwidth_is (x := x13) (s0 := false) (m0 := 1) (e0 := 1) hKK hT h4 h5 (may_13 KK) (sub_13 hKK)).mono ?_
  rintro en v4 ⟨A9, n9, c9, rfl, _, b⟩
  replace BB := below_next BB BB.size b rfl rfl rfl rfl
  have G := mv b rfl <| And.intro hT <| And.intro N1 <| And.intro N3 <| And.intro o10 <| And.intro o11 <| And.intro o12 <| And.intro o30 <| And.intro o31 <| And.intro o32 <| And.intro h4 <| And.intro h5 <| And.intro y0 <| And.intro y1 <| And.intro y2 <| And.intro y3 <| And.intro y4 <| And.intro y5 <| And.intro m0 <| And.intro m1 <| m2
  clear b hT N1 N3 o10 o11 o12 o30 o31 o32 h4 h5 y0 y1 y2 y3 y4 y5 m0 m1 m2
  obtain ⟨hT, N1, N3, o10, o11, o12, o30, o31, o32, h4, h5, y0, y1, y2, y3, y4, y5, m0, m1, m2⟩ := G
  obtain ⟨d0, d1, d2⟩ := (Box.new v4 false A9 n9 c9 1).held
  have b := below_alloc v4 (.cells #[.bool false, .slice A9 n9 c9, .int .i64 1] 24)
  replace BB := below_next BB BB.size b rfl rfl rfl rfl
  have G := mv b rfl <| And.intro hT <| And.intro N1 <| And.intro N3 <| And.intro o10 <| And.intro o11 <| And.intro o12 <| And.intro o30 <| And.intro o31 <| And.intro o32 <| And.intro h4 <| And.intro h5 <| And.intro y0 <| And.intro y1 <| And.intro y2 <| And.intro y3 <| And.intro y4 <| And.intro y5 <| And.intro m0 <| And.intro m1 <| m2
  clear b hT N1 N3 o10 o11 o12 o30 o31 o32 h4 h5 y0 y1 y2 y3 y4 y5 m0 m1 m2
  obtain ⟨hT, N1, N3, o10, o11, o12, o30, o31, o32, h4, h5, y0, y1, y2, y3, y4, y5, m0, m1, m2⟩ := G
  go_upto_region 6 with fail
  go_cut [12] (fun v12 wc => v12 = .int .i64 5 ∧ Below w.heap.size w wc ∧ Below (v4.alloc (.cells #[.bool false, .slice A9 n9 c9, .int .i64 1] 24)).heap.size (v4.alloc (.cells #[.bool false, .slice A9 n9 c9, .int .i64 1] 24)) wc)
  case first =>
    have bd : Below (v4.alloc (.cells #[.bool false, .slice A9 n9 c9, .int .i64 1] 24)).heap.size (v4.alloc (.cells #[.bool false, .slice A9 n9 c9, .int .i64 1] 24)) (World.drew (v4.alloc (.cells #[.bool false, .slice A9 n9 c9, .int .i64 1] 24))) := below_drewN (Below.refl _ _) 1
    have b : Below (v4.alloc (.cells #[.bool false, .slice A9 n9 c9, .int .i64 1] 24)).heap.size (v4.alloc (.cells #[.bool false, .slice A9 n9 c9, .int .i64 1] 24)) (World.drew (v4.alloc (.cells #[.bool false, .slice A9 n9 c9, .int .i64 1] 24))) := below_drewN (Below.refl _ _) 1
    replace BB := below_next BB BB.size b rfl rfl rfl rfl
    have G := mv b rfl <| And.intro hT <| And.intro N1 <| And.intro N3 <| And.intro o10 <| And.intro o11 <| And.intro o12 <| And.intro o30 <| And.intro o31 <| And.intro o32 <| And.intro h4 <| And.intro h5 <| And.intro y0 <| And.intro y1 <| And.intro y2 <| And.intro y3 <| And.intro y4 <| And.intro y5 <| And.intro m0 <| And.intro m1 <| And.intro m2 <| And.intro d0 <| And.intro d1 <| d2
    clear b hT N1 N3 o10 o11 o12 o30 o31 o32 h4 h5 y0 y1 y2 y3 y4 y5 m0 m1 m2 d0 d1 d2
    obtain ⟨hT, N1, N3, o10, o11, o12, o30, o31, o32, h4, h5, y0, y1, y2, y3, y4, y5, m0, m1, m2, d0, d1, d2⟩ := G
    refine wp_region_held_drew (S := fun w' => w'.cell? ⟨w.heap.size + 2, 0, none⟩ = some (.bool false) ∧ w'.cell? ⟨w.heap.size + 2, 1, none⟩ = some (.slice (some ⟨w.heap.size, 0, none⟩) 1 1) ∧ w'.cell? ⟨w.heap.size + 2, 2, none⟩ = some (.int .i64 0) ∧ w'.cell? ⟨w.heap.size + 3, 0, none⟩ = some (.bool false) ∧ w'.cell? ⟨w.heap.size + 3, 1, none⟩ = some (.slice (some ⟨w.heap.size + 1, 0, none⟩) 1 1) ∧ w'.cell? ⟨w.heap.size + 3, 2, none⟩ = some (.int .i64 0)) (by kernel_rfl) (by exact ⟨o10, o11, o12, o30, o31, o32⟩) (fun hHeldt0 => ?_)
    generalize World.drew (v4.alloc (.cells #[.bool false, .slice A9 n9 c9, .int .i64 1] 24)) = wd at *
    skip
    have BD := bd
    clear bd h4 h5 y0 y1 y2 y3 y4 y5 m0 m1 m2 d0 d1 d2
    refine wpAnyH_take (i := 0) (v := ?t1v0) rfl (by kernel_rfl) (by kernel_rfl) (by kernel_rfl) (fun _ _ _ h => panic_put (P := Tryz.prog) (fn := Tryz.f7) (R := (Bools true w)) h) (Or.inl ⟨by rfl, ?t1y0⟩) (by assumption) ?_
    case t1y0 => (intro w hSw; (try dsimp only at hSw); go_simp); try with_reducible rfl
    change wpAnyH _ _ _ _ _ _ _ (Act.put _ (some 40) _) _
    simp only [Act.put, List.setIfInBounds_toArray, List.set_cons_zero, List.set_cons_succ]
    refine wpAnyH_take (i := 2) (v := ?t2v2) rfl (by kernel_rfl) (by kernel_rfl) (by kernel_rfl) (fun _ _ _ h => panic_put (P := Tryz.prog) (fn := Tryz.f7) (R := (Bools true w)) h) (Or.inl ⟨by rfl, ?t2y2⟩) (by assumption) ?_
    case t2y2 => (intro w hSw; (try dsimp only at hSw); go_simp); try with_reducible rfl
    change wpAnyH _ _ _ _ _ _ _ (Act.put _ (some 42) _) _
    simp only [Act.put, List.setIfInBounds_toArray, List.set_cons_zero, List.set_cons_succ]
    refine wpAnyH_ready (rs := [1, 8]) (by kernel_rfl) (by simp) ?_
    refine AllReadyH.cons (o := _) rfl (fun K hK => ?_) (AllReadyH.cons (o := _) rfl (fun K hK => ?_) (AllReadyH.nil))
    · go_simp
      refine (show Calls _ _ _ _ (GivI x11 _) from iof_any (a := q1) N1.rd (by omega)).mono ?_
      rintro en u1 ⟨A14, n14, c14, A15, n15, c15, rfl, h14, h15, b⟩
      replace BD := below_next BD BD.size b rfl rfl rfl rfl
      replace BB := below_next BB BB.size b rfl rfl rfl rfl
      have G := mv b rfl <| And.intro o10 <| And.intro o11 <| And.intro o12 <| And.intro o30 <| And.intro o31 <| And.intro o32 <| And.intro hT <| And.intro N1 <| N3
      clear b o10 o11 o12 o30 o31 o32 hT N1 N3
      obtain ⟨o10, o11, o12, o30, o31, o32, hT, N1, N3⟩ := G
      refine hK.out _ _ (by exact ⟨o10, o11, o12, o30, o31, o32⟩) (fun hHeldt1 => ?_)
      clear hK K hHeldt0
      try simp only [Act.put]
      refine wpAnyH_ready (rs := [3, 8]) (by kernel_rfl) (by simp) ?_
      refine AllReadyH.cons (o := _) rfl (fun K hK => ?_) (AllReadyH.cons (o := _) rfl (fun K hK => ?_) (AllReadyH.nil))
      · go_simp
        refine (show Calls _ _ _ _ (GivI x33 _) from iof_any (a := q3) N3.rd (by omega)).mono ?_
        rintro en u2 ⟨A16, n16, c16, A17, n17, c17, rfl, h16, h17, b⟩
        replace BD := below_next BD BD.size b rfl rfl rfl rfl
        replace BB := below_next BB BB.size b rfl rfl rfl rfl
        have G := mv b rfl <| And.intro o10 <| And.intro o11 <| And.intro o12 <| And.intro o30 <| And.intro o31 <| And.intro o32 <| And.intro hT <| And.intro N1 <| And.intro N3 <| And.intro h14 <| h15
        clear b o10 o11 o12 o30 o31 o32 hT N1 N3 h14 h15
        obtain ⟨o10, o11, o12, o30, o31, o32, hT, N1, N3, h14, h15⟩ := G
        refine hK.out _ _ (by exact ⟨o10, o11, o12, o30, o31, o32⟩) (fun hHeldt2 => ?_)
        clear hK K hHeldt1
        try simp only [Act.put]
        refine wpAnyH_ready (rs := [4, 8]) (by kernel_rfl) (by simp) ?_
        refine AllReadyH.cons (o := _) rfl (fun K hK => ?_) (AllReadyH.cons (o := _) rfl (fun K hK => ?_) (AllReadyH.nil))
        · go_simp
          refine (imeet_none (x := x11) (y := x33) hKK hT h14 h15 h16 h17 (mayI_point q1_may) (mayI_point q3_may) (by rw [show meetQ KK x11 x33 = ⟨q3, q1⟩ from meet_13 KK]; exact may_31 KK)).mono ?_
          rintro en u3 ⟨A12, n12, c12, A13, n13, c13, rfl, _, _, b⟩
          clear h14 h15 h16 h17
          replace BD := below_next BD BD.size b rfl rfl rfl rfl
          replace BB := below_next BB BB.size b rfl rfl rfl rfl
          have G := mv b rfl <| And.intro o10 <| And.intro o11 <| And.intro o12 <| And.intro o30 <| And.intro o31 <| And.intro o32 <| And.intro hT <| And.intro N1 <| N3
          clear b o10 o11 o12 o30 o31 o32 hT N1 N3
          obtain ⟨o10, o11, o12, o30, o31, o32, hT, N1, N3⟩ := G
          refine hK.out _ _ (by exact ⟨o10, o11, o12, o30, o31, o32⟩) (fun hHeldt3 => ?_)
          clear hK K hHeldt2
          try simp only [Act.put]
          refine wpAnyH_take (i := 5) (v := ?t3v5) rfl (by kernel_rfl) (by kernel_rfl) (by kernel_rfl) (fun _ _ _ h => panic_put (P := Tryz.prog) (fn := Tryz.f7) (R := (Bools true w)) h) (Or.inl ⟨by rfl, ?t3y5⟩) (by assumption) ?_
          case t3y5 => (intro w hSw; (try dsimp only at hSw); go_simp); try with_reducible rfl
          change wpAnyH _ _ _ _ _ _ _ (Act.put _ (some 39) _) _
          simp only [Act.put, List.setIfInBounds_toArray, List.set_cons_zero, List.set_cons_succ]
          refine wpAnyH_take (i := 6) (v := ?t4v6) rfl (by kernel_rfl) (by kernel_rfl) (by kernel_rfl) (fun _ _ _ h => panic_put (P := Tryz.prog) (fn := Tryz.f7) (R := (Bools true w)) h) (Or.inl ⟨by rfl, ?t4y6⟩) (by assumption) ?_
          case t4y6 => (intro w hSw; (try dsimp only at hSw); go_simp); try with_reducible rfl
          change wpAnyH _ _ _ _ _ _ _ (Act.put _ (some 45) _) _
          simp only [Act.put, List.setIfInBounds_toArray, List.set_cons_zero, List.set_cons_succ]
          refine wpAnyH_take (i := 7) (v := ?t5v7) rfl (by kernel_rfl) (by kernel_rfl) (by kernel_rfl) (fun _ _ _ h => panic_put (P := Tryz.prog) (fn := Tryz.f7) (R := (Bools true w)) h) (Or.inl ⟨by rfl, ?t5y7⟩) (by assumption) ?_
          case t5y7 => (intro w hSw; (try dsimp only at hSw); go_simp); try with_reducible rfl
          change wpAnyH _ _ _ _ _ _ _ (Act.put _ (some 46) _) _
          simp only [Act.put, List.setIfInBounds_toArray, List.set_cons_zero, List.set_cons_succ]
          refine wpAnyH_ready (rs := [8]) (by kernel_rfl) (by simp) ?_
          refine AllReadyH.cons (o := _) rfl (fun K hK => ?_) (AllReadyH.nil)
          go_simp
          have gl6 : w.heap.size + 3 < u3.heap.size := World.block_lt_of_cell? _ _ o30
          have gd6 : (v4.alloc (.cells #[.bool false, .slice A9 n9 c9, .int .i64 1] 24)).heap.size ≤ u3.heap.size := BD.size
          have p6 := Ibx.new u3 false none 0 0 0 false none 0 0 0
          have b := below_alloc u3 (.cells #[.bool false, .slice none 0 0, .int .i64 0, .bool false, .slice none 0 0, .int .i64 0] 26)
          replace BD := below_next BD BD.size b rfl rfl rfl rfl
          replace BB := below_next BB BB.size b rfl rfl rfl rfl
          have G := mv b rfl <| And.intro o10 <| And.intro o11 <| And.intro o12 <| And.intro o30 <| And.intro o31 <| And.intro o32 <| And.intro hT <| And.intro N1 <| N3
          clear b o10 o11 o12 o30 o31 o32 hT N1 N3
          obtain ⟨o10, o11, o12, o30, o31, o32, hT, N1, N3⟩ := G
          generalize u3.alloc (.cells #[.bool false, .slice none 0 0, .int .i64 0, .bool false, .slice none 0 0, .int .i64 0] 26) = u4 at *
          generalize u3.heap.size = g6 at *
          refine hK.out _ _ (by exact ⟨o10, o11, o12, o30, o31, o32⟩) (fun hHeldt4 => ?_)
          clear hK K hHeldt3
          try simp only [Act.put]
          refine wpAnyH_ready (rs := [9]) (by kernel_rfl) (by simp) ?_
          refine AllReadyH.cons (o := _) rfl (fun K hK => ?_) (AllReadyH.nil)
          obtain ⟨f0, f1, f2, f3, f4, f5⟩ := p6.open
          obtain ⟨z0, z1, z2, z3, z4, z5⟩ := p6.held
          go_simp
          clear hT N1 N3
          replace o10 := cell_oth6 (g := g6) (u0 := .bool Iv.zero.lo.s) (u1 := .slice A12 n12 c12) (u2 := .int .i64 Iv.zero.lo.e) (u3 := .bool Iv.zero.hi.s) (u4 := .slice A13 n13 c13) (u5 := .int .i64 Iv.zero.hi.e) o10 (by omega)
          replace o11 := cell_oth6 (g := g6) (u0 := .bool Iv.zero.lo.s) (u1 := .slice A12 n12 c12) (u2 := .int .i64 Iv.zero.lo.e) (u3 := .bool Iv.zero.hi.s) (u4 := .slice A13 n13 c13) (u5 := .int .i64 Iv.zero.hi.e) o11 (by omega)
          replace o12 := cell_oth6 (g := g6) (u0 := .bool Iv.zero.lo.s) (u1 := .slice A12 n12 c12) (u2 := .int .i64 Iv.zero.lo.e) (u3 := .bool Iv.zero.hi.s) (u4 := .slice A13 n13 c13) (u5 := .int .i64 Iv.zero.hi.e) o12 (by omega)
          replace o30 := cell_oth6 (g := g6) (u0 := .bool Iv.zero.lo.s) (u1 := .slice A12 n12 c12) (u2 := .int .i64 Iv.zero.lo.e) (u3 := .bool Iv.zero.hi.s) (u4 := .slice A13 n13 c13) (u5 := .int .i64 Iv.zero.hi.e) o30 (by omega)
          replace o31 := cell_oth6 (g := g6) (u0 := .bool Iv.zero.lo.s) (u1 := .slice A12 n12 c12) (u2 := .int .i64 Iv.zero.lo.e) (u3 := .bool Iv.zero.hi.s) (u4 := .slice A13 n13 c13) (u5 := .int .i64 Iv.zero.hi.e) o31 (by omega)
          replace o32 := cell_oth6 (g := g6) (u0 := .bool Iv.zero.lo.s) (u1 := .slice A12 n12 c12) (u2 := .int .i64 Iv.zero.lo.e) (u3 := .bool Iv.zero.hi.s) (u4 := .slice A13 n13 c13) (u5 := .int .i64 Iv.zero.hi.e) o32 (by omega)
          replace BB := below_put6 (g := g6) BB (by omega) (.bool Iv.zero.lo.s) (.slice A12 n12 c12) (.int .i64 Iv.zero.lo.e) (.bool Iv.zero.hi.s) (.slice A13 n13 c13) (.int .i64 Iv.zero.hi.e)
          replace BD := below_put6 (g := g6) BD (by omega) (.bool Iv.zero.lo.s) (.slice A12 n12 c12) (.int .i64 Iv.zero.lo.e) (.bool Iv.zero.hi.s) (.slice A13 n13 c13) (.int .i64 Iv.zero.hi.e)
          clear f0 f1 f2 f3 f4 f5 z0 z1 z2 z3 z4 z5 p6
          generalize (((((u4.setCell ⟨g6, 0, none⟩ (.bool Iv.zero.lo.s)).setCell ⟨g6, 1, none⟩ (.slice A12 n12 c12)).setCell ⟨g6, 2, none⟩ (.int .i64 Iv.zero.lo.e)).setCell ⟨g6, 3, none⟩ (.bool Iv.zero.hi.s)).setCell ⟨g6, 4, none⟩ (.slice A13 n13 c13)).setCell ⟨g6, 5, none⟩ (.int .i64 Iv.zero.hi.e) = u5 at *
          refine hK.out _ _ (by exact ⟨o10, o11, o12, o30, o31, o32⟩) (fun hHeldt5 => ?_)
          clear hK K hHeldt4
          try simp only [Act.put]
          refine wpAnyH_take (i := 10) (v := ?t6v10) rfl (by kernel_rfl) (by kernel_rfl) (by kernel_rfl) (fun _ _ _ h => panic_put (P := Tryz.prog) (fn := Tryz.f7) (R := (Bools true w)) h) (Or.inl ⟨by rfl, ?t6y10⟩) (by assumption) ?_
          case t6y10 => (intro w hSw; (try dsimp only at hSw); go_simp); try with_reducible rfl
          change wpAnyH _ _ _ _ _ _ _ (Act.put _ (some 12) _) _
          simp only [Act.put, List.setIfInBounds_toArray, List.set_cons_zero, List.set_cons_succ]
          refine wpAnyH_done (by kernel_rfl) ?_ _
          clear o10 o11 o12 o30 o31 o32
          go_wp2_with fail
          go_meet
          case rel => exact ⟨rfl, BB, BD⟩
        · go_simp
          have gl6 : w.heap.size + 3 < u2.heap.size := World.block_lt_of_cell? _ _ o30
          have gd6 : (v4.alloc (.cells #[.bool false, .slice A9 n9 c9, .int .i64 1] 24)).heap.size ≤ u2.heap.size := BD.size
          have p6 := Ibx.new u2 false none 0 0 0 false none 0 0 0
          have b := below_alloc u2 (.cells #[.bool false, .slice none 0 0, .int .i64 0, .bool false, .slice none 0 0, .int .i64 0] 26)
          replace BD := below_next BD BD.size b rfl rfl rfl rfl
          replace BB := below_next BB BB.size b rfl rfl rfl rfl
          have G := mv b rfl <| And.intro o10 <| And.intro o11 <| And.intro o12 <| And.intro o30 <| And.intro o31 <| And.intro o32 <| And.intro hT <| And.intro N1 <| And.intro N3 <| And.intro h14 <| And.intro h15 <| And.intro h16 <| h17
          clear b o10 o11 o12 o30 o31 o32 hT N1 N3 h14 h15 h16 h17
          obtain ⟨o10, o11, o12, o30, o31, o32, hT, N1, N3, h14, h15, h16, h17⟩ := G
          generalize u2.alloc (.cells #[.bool false, .slice none 0 0, .int .i64 0, .bool false, .slice none 0 0, .int .i64 0] 26) = u3 at *
          generalize u2.heap.size = g6 at *
          refine hK.out _ _ (by exact ⟨o10, o11, o12, o30, o31, o32⟩) (fun hHeldt3 => ?_)
          clear hK K hHeldt2
          try simp only [Act.put]
          refine wpAnyH_ready (rs := [4]) (by kernel_rfl) (by simp) ?_
          refine AllReadyH.cons (o := _) rfl (fun K hK => ?_) (AllReadyH.nil)
          go_simp
          refine (imeet_none (x := x11) (y := x33) hKK hT h14 h15 h16 h17 (mayI_point q1_may) (mayI_point q3_may) (by rw [show meetQ KK x11 x33 = ⟨q3, q1⟩ from meet_13 KK]; exact may_31 KK)).mono ?_
          rintro en u4 ⟨A12, n12, c12, A13, n13, c13, rfl, _, _, b⟩
          clear h14 h15 h16 h17
          replace BD := below_next BD BD.size b rfl rfl rfl rfl
          replace BB := below_next BB BB.size b rfl rfl rfl rfl
          have G := mv b rfl <| And.intro o10 <| And.intro o11 <| And.intro o12 <| And.intro o30 <| And.intro o31 <| And.intro o32 <| And.intro hT <| And.intro N1 <| And.intro N3 <| p6
          clear b o10 o11 o12 o30 o31 o32 hT N1 N3 p6
          obtain ⟨o10, o11, o12, o30, o31, o32, hT, N1, N3, p6⟩ := G
          refine hK.out _ _ (by exact ⟨o10, o11, o12, o30, o31, o32⟩) (fun hHeldt4 => ?_)
          clear hK K hHeldt3
          try simp only [Act.put]
          refine wpAnyH_take (i := 5) (v := ?t7v5) rfl (by kernel_rfl) (by kernel_rfl) (by kernel_rfl) (fun _ _ _ h => panic_put (P := Tryz.prog) (fn := Tryz.f7) (R := (Bools true w)) h) (Or.inl ⟨by rfl, ?t7y5⟩) (by assumption) ?_
          case t7y5 => (intro w hSw; (try dsimp only at hSw); go_simp); try with_reducible rfl
          change wpAnyH _ _ _ _ _ _ _ (Act.put _ (some 39) _) _
          simp only [Act.put, List.setIfInBounds_toArray, List.set_cons_zero, List.set_cons_succ]
          refine wpAnyH_take (i := 6) (v := ?t8v6) rfl (by kernel_rfl) (by kernel_rfl) (by kernel_rfl) (fun _ _ _ h => panic_put (P := Tryz.prog) (fn := Tryz.f7) (R := (Bools true w)) h) (Or.inl ⟨by rfl, ?t8y6⟩) (by assumption) ?_
          case t8y6 => (intro w hSw; (try dsimp only at hSw); go_simp); try with_reducible rfl
          change wpAnyH _ _ _ _ _ _ _ (Act.put _ (some 45) _) _
          simp only [Act.put, List.setIfInBounds_toArray, List.set_cons_zero, List.set_cons_succ]
          refine wpAnyH_take (i := 7) (v := ?t9v7) rfl (by kernel_rfl) (by kernel_rfl) (by kernel_rfl) (fun _ _ _ h => panic_put (P := Tryz.prog) (fn := Tryz.f7) (R := (Bools true w)) h) (Or.inl ⟨by rfl, ?t9y7⟩) (by assumption) ?_
          case t9y7 => (intro w hSw; (try dsimp only at hSw); go_simp); try with_reducible rfl
          change wpAnyH _ _ _ _ _ _ _ (Act.put _ (some 46) _) _
          simp only [Act.put, List.setIfInBounds_toArray, List.set_cons_zero, List.set_cons_succ]
          refine wpAnyH_ready (rs := [9]) (by kernel_rfl) (by simp) ?_
          refine AllReadyH.cons (o := _) rfl (fun K hK => ?_) (AllReadyH.nil)
          obtain ⟨f0, f1, f2, f3, f4, f5⟩ := p6.open
          obtain ⟨z0, z1, z2, z3, z4, z5⟩ := p6.held
          go_simp
          clear hT N1 N3
          replace o10 := cell_oth6 (g := g6) (u0 := .bool Iv.zero.lo.s) (u1 := .slice A12 n12 c12) (u2 := .int .i64 Iv.zero.lo.e) (u3 := .bool Iv.zero.hi.s) (u4 := .slice A13 n13 c13) (u5 := .int .i64 Iv.zero.hi.e) o10 (by omega)
          replace o11 := cell_oth6 (g := g6) (u0 := .bool Iv.zero.lo.s) (u1 := .slice A12 n12 c12) (u2 := .int .i64 Iv.zero.lo.e) (u3 := .bool Iv.zero.hi.s) (u4 := .slice A13 n13 c13) (u5 := .int .i64 Iv.zero.hi.e) o11 (by omega)
          replace o12 := cell_oth6 (g := g6) (u0 := .bool Iv.zero.lo.s) (u1 := .slice A12 n12 c12) (u2 := .int .i64 Iv.zero.lo.e) (u3 := .bool Iv.zero.hi.s) (u4 := .slice A13 n13 c13) (u5 := .int .i64 Iv.zero.hi.e) o12 (by omega)
          replace o30 := cell_oth6 (g := g6) (u0 := .bool Iv.zero.lo.s) (u1 := .slice A12 n12 c12) (u2 := .int .i64 Iv.zero.lo.e) (u3 := .bool Iv.zero.hi.s) (u4 := .slice A13 n13 c13) (u5 := .int .i64 Iv.zero.hi.e) o30 (by omega)
          replace o31 := cell_oth6 (g := g6) (u0 := .bool Iv.zero.lo.s) (u1 := .slice A12 n12 c12) (u2 := .int .i64 Iv.zero.lo.e) (u3 := .bool Iv.zero.hi.s) (u4 := .slice A13 n13 c13) (u5 := .int .i64 Iv.zero.hi.e) o31 (by omega)
          replace o32 := cell_oth6 (g := g6) (u0 := .bool Iv.zero.lo.s) (u1 := .slice A12 n12 c12) (u2 := .int .i64 Iv.zero.lo.e) (u3 := .bool Iv.zero.hi.s) (u4 := .slice A13 n13 c13) (u5 := .int .i64 Iv.zero.hi.e) o32 (by omega)
          replace BB := below_put6 (g := g6) BB (by omega) (.bool Iv.zero.lo.s) (.slice A12 n12 c12) (.int .i64 Iv.zero.lo.e) (.bool Iv.zero.hi.s) (.slice A13 n13 c13) (.int .i64 Iv.zero.hi.e)
          replace BD := below_put6 (g := g6) BD (by omega) (.bool Iv.zero.lo.s) (.slice A12 n12 c12) (.int .i64 Iv.zero.lo.e) (.bool Iv.zero.hi.s) (.slice A13 n13 c13) (.int .i64 Iv.zero.hi.e)
          clear f0 f1 f2 f3 f4 f5 z0 z1 z2 z3 z4 z5 p6
          generalize (((((u4.setCell ⟨g6, 0, none⟩ (.bool Iv.zero.lo.s)).setCell ⟨g6, 1, none⟩ (.slice A12 n12 c12)).setCell ⟨g6, 2, none⟩ (.int .i64 Iv.zero.lo.e)).setCell ⟨g6, 3, none⟩ (.bool Iv.zero.hi.s)).setCell ⟨g6, 4, none⟩ (.slice A13 n13 c13)).setCell ⟨g6, 5, none⟩ (.int .i64 Iv.zero.hi.e) = u5 at *
          refine hK.out _ _ (by exact ⟨o10, o11, o12, o30, o31, o32⟩) (fun hHeldt5 => ?_)
          clear hK K hHeldt4
          try simp only [Act.put]
          refine wpAnyH_take (i := 10) (v := ?t10v10) rfl (by kernel_rfl) (by kernel_rfl) (by kernel_rfl) (fun _ _ _ h => panic_put (P := Tryz.prog) (fn := Tryz.f7) (R := (Bools true w)) h) (Or.inl ⟨by rfl, ?t10y10⟩) (by assumption) ?_
          case t10y10 => (intro w hSw; (try dsimp only at hSw); go_simp); try with_reducible rfl
          change wpAnyH _ _ _ _ _ _ _ (Act.put _ (some 12) _) _
          simp only [Act.put, List.setIfInBounds_toArray, List.set_cons_zero, List.set_cons_succ]
          refine wpAnyH_done (by kernel_rfl) ?_ _
          clear o10 o11 o12 o30 o31 o32
          go_wp2_with fail
          go_meet
          case rel => exact ⟨rfl, BB, BD⟩
      · go_simp
        have gl6 : w.heap.size + 3 < u1.heap.size := World.block_lt_of_cell? _ _ o30
        have gd6 : (v4.alloc (.cells #[.bool false, .slice A9 n9 c9, .int .i64 1] 24)).heap.size ≤ u1.heap.size := BD.size
        have p6 := Ibx.new u1 false none 0 0 0 false none 0 0 0
        have b := below_alloc u1 (.cells #[.bool false, .slice none 0 0, .int .i64 0, .bool false, .slice none 0 0, .int .i64 0] 26)
        replace BD := below_next BD BD.size b rfl rfl rfl rfl
        replace BB := below_next BB BB.size b rfl rfl rfl rfl
        have G := mv b rfl <| And.intro o10 <| And.intro o11 <| And.intro o12 <| And.intro o30 <| And.intro o31 <| And.intro o32 <| And.intro hT <| And.intro N1 <| And.intro N3 <| And.intro h14 <| h15
        clear b o10 o11 o12 o30 o31 o32 hT N1 N3 h14 h15
        obtain ⟨o10, o11, o12, o30, o31, o32, hT, N1, N3, h14, h15⟩ := G
        generalize u1.alloc (.cells #[.bool false, .slice none 0 0, .int .i64 0, .bool false, .slice none 0 0, .int .i64 0] 26) = u2 at *
        generalize u1.heap.size = g6 at *
        refine hK.out _ _ (by exact ⟨o10, o11, o12, o30, o31, o32⟩) (fun hHeldt2 => ?_)
        clear hK K hHeldt1
        try simp only [Act.put]
        refine wpAnyH_ready (rs := [3]) (by kernel_rfl) (by simp) ?_
        refine AllReadyH.cons (o := _) rfl (fun K hK => ?_) (AllReadyH.nil)
        go_simp
        refine (show Calls _ _ _ _ (GivI x33 _) from iof_any (a := q3) N3.rd (by omega)).mono ?_
        rintro en u3 ⟨A16, n16, c16, A17, n17, c17, rfl, h16, h17, b⟩
        replace BD := below_next BD BD.size b rfl rfl rfl rfl
        replace BB := below_next BB BB.size b rfl rfl rfl rfl
        have G := mv b rfl <| And.intro o10 <| And.intro o11 <| And.intro o12 <| And.intro o30 <| And.intro o31 <| And.intro o32 <| And.intro hT <| And.intro N1 <| And.intro N3 <| And.intro h14 <| And.intro h15 <| p6
        clear b o10 o11 o12 o30 o31 o32 hT N1 N3 h14 h15 p6
        obtain ⟨o10, o11, o12, o30, o31, o32, hT, N1, N3, h14, h15, p6⟩ := G
        refine hK.out _ _ (by exact ⟨o10, o11, o12, o30, o31, o32⟩) (fun hHeldt3 => ?_)
        clear hK K hHeldt2
        try simp only [Act.put]
        refine wpAnyH_ready (rs := [4]) (by kernel_rfl) (by simp) ?_
        refine AllReadyH.cons (o := _) rfl (fun K hK => ?_) (AllReadyH.nil)
        go_simp
        refine (imeet_none (x := x11) (y := x33) hKK hT h14 h15 h16 h17 (mayI_point q1_may) (mayI_point q3_may) (by rw [show meetQ KK x11 x33 = ⟨q3, q1⟩ from meet_13 KK]; exact may_31 KK)).mono ?_
        rintro en u4 ⟨A12, n12, c12, A13, n13, c13, rfl, _, _, b⟩
        clear h14 h15 h16 h17
        replace BD := below_next BD BD.size b rfl rfl rfl rfl
        replace BB := below_next BB BB.size b rfl rfl rfl rfl
        have G := mv b rfl <| And.intro o10 <| And.intro o11 <| And.intro o12 <| And.intro o30 <| And.intro o31 <| And.intro o32 <| And.intro hT <| And.intro N1 <| And.intro N3 <| p6
        clear b o10 o11 o12 o30 o31 o32 hT N1 N3 p6
        obtain ⟨o10, o11, o12, o30, o31, o32, hT, N1, N3, p6⟩ := G
        refine hK.out _ _ (by exact ⟨o10, o11, o12, o30, o31, o32⟩) (fun hHeldt4 => ?_)
        clear hK K hHeldt3
        try simp only [Act.put]
        refine wpAnyH_take (i := 5) (v := ?t11v5) rfl (by kernel_rfl) (by kernel_rfl) (by kernel_rfl) (fun _ _ _ h => panic_put (P := Tryz.prog) (fn := Tryz.f7) (R := (Bools true w)) h) (Or.inl ⟨by rfl, ?t11y5⟩) (by assumption) ?_
        case t11y5 => (intro w hSw; (try dsimp only at hSw); go_simp); try with_reducible rfl
        change wpAnyH _ _ _ _ _ _ _ (Act.put _ (some 39) _) _
        simp only [Act.put, List.setIfInBounds_toArray, List.set_cons_zero, List.set_cons_succ]
        refine wpAnyH_take (i := 6) (v := ?t12v6) rfl (by kernel_rfl) (by kernel_rfl) (by kernel_rfl) (fun _ _ _ h => panic_put (P := Tryz.prog) (fn := Tryz.f7) (R := (Bools true w)) h) (Or.inl ⟨by rfl, ?t12y6⟩) (by assumption) ?_
        case t12y6 => (intro w hSw; (try dsimp only at hSw); go_simp); try with_reducible rfl
        change wpAnyH _ _ _ _ _ _ _ (Act.put _ (some 45) _) _
        simp only [Act.put, List.setIfInBounds_toArray, List.set_cons_zero, List.set_cons_succ]
        refine wpAnyH_take (i := 7) (v := ?t13v7) rfl (by kernel_rfl) (by kernel_rfl) (by kernel_rfl) (fun _ _ _ h => panic_put (P := Tryz.prog) (fn := Tryz.f7) (R := (Bools true w)) h) (Or.inl ⟨by rfl, ?t13y7⟩) (by assumption) ?_
        case t13y7 => (intro w hSw; (try dsimp only at hSw); go_simp); try with_reducible rfl
        change wpAnyH _ _ _ _ _ _ _ (Act.put _ (some 46) _) _
        simp only [Act.put, List.setIfInBounds_toArray, List.set_cons_zero, List.set_cons_succ]
        refine wpAnyH_ready (rs := [9]) (by kernel_rfl) (by simp) ?_
        refine AllReadyH.cons (o := _) rfl (fun K hK => ?_) (AllReadyH.nil)
        obtain ⟨f0, f1, f2, f3, f4, f5⟩ := p6.open
        obtain ⟨z0, z1, z2, z3, z4, z5⟩ := p6.held
        go_simp
        clear hT N1 N3
        replace o10 := cell_oth6 (g := g6) (u0 := .bool Iv.zero.lo.s) (u1 := .slice A12 n12 c12) (u2 := .int .i64 Iv.zero.lo.e) (u3 := .bool Iv.zero.hi.s) (u4 := .slice A13 n13 c13) (u5 := .int .i64 Iv.zero.hi.e) o10 (by omega)
        replace o11 := cell_oth6 (g := g6) (u0 := .bool Iv.zero.lo.s) (u1 := .slice A12 n12 c12) (u2 := .int .i64 Iv.zero.lo.e) (u3 := .bool Iv.zero.hi.s) (u4 := .slice A13 n13 c13) (u5 := .int .i64 Iv.zero.hi.e) o11 (by omega)
        replace o12 := cell_oth6 (g := g6) (u0 := .bool Iv.zero.lo.s) (u1 := .slice A12 n12 c12) (u2 := .int .i64 Iv.zero.lo.e) (u3 := .bool Iv.zero.hi.s) (u4 := .slice A13 n13 c13) (u5 := .int .i64 Iv.zero.hi.e) o12 (by omega)
        replace o30 := cell_oth6 (g := g6) (u0 := .bool Iv.zero.lo.s) (u1 := .slice A12 n12 c12) (u2 := .int .i64 Iv.zero.lo.e) (u3 := .bool Iv.zero.hi.s) (u4 := .slice A13 n13 c13) (u5 := .int .i64 Iv.zero.hi.e) o30 (by omega)
        replace o31 := cell_oth6 (g := g6) (u0 := .bool Iv.zero.lo.s) (u1 := .slice A12 n12 c12) (u2 := .int .i64 Iv.zero.lo.e) (u3 := .bool Iv.zero.hi.s) (u4 := .slice A13 n13 c13) (u5 := .int .i64 Iv.zero.hi.e) o31 (by omega)
        replace o32 := cell_oth6 (g := g6) (u0 := .bool Iv.zero.lo.s) (u1 := .slice A12 n12 c12) (u2 := .int .i64 Iv.zero.lo.e) (u3 := .bool Iv.zero.hi.s) (u4 := .slice A13 n13 c13) (u5 := .int .i64 Iv.zero.hi.e) o32 (by omega)
        replace BB := below_put6 (g := g6) BB (by omega) (.bool Iv.zero.lo.s) (.slice A12 n12 c12) (.int .i64 Iv.zero.lo.e) (.bool Iv.zero.hi.s) (.slice A13 n13 c13) (.int .i64 Iv.zero.hi.e)
        replace BD := below_put6 (g := g6) BD (by omega) (.bool Iv.zero.lo.s) (.slice A12 n12 c12) (.int .i64 Iv.zero.lo.e) (.bool Iv.zero.hi.s) (.slice A13 n13 c13) (.int .i64 Iv.zero.hi.e)
        clear f0 f1 f2 f3 f4 f5 z0 z1 z2 z3 z4 z5 p6
        generalize (((((u4.setCell ⟨g6, 0, none⟩ (.bool Iv.zero.lo.s)).setCell ⟨g6, 1, none⟩ (.slice A12 n12 c12)).setCell ⟨g6, 2, none⟩ (.int .i64 Iv.zero.lo.e)).setCell ⟨g6, 3, none⟩ (.bool Iv.zero.hi.s)).setCell ⟨g6, 4, none⟩ (.slice A13 n13 c13)).setCell ⟨g6, 5, none⟩ (.int .i64 Iv.zero.hi.e) = u5 at *
        refine hK.out _ _ (by exact ⟨o10, o11, o12, o30, o31, o32⟩) (fun hHeldt5 => ?_)
        clear hK K hHeldt4
        try simp only [Act.put]
        refine wpAnyH_take (i := 10) (v := ?t14v10) rfl (by kernel_rfl) (by kernel_rfl) (by kernel_rfl) (fun _ _ _ h => panic_put (P := Tryz.prog) (fn := Tryz.f7) (R := (Bools true w)) h) (Or.inl ⟨by rfl, ?t14y10⟩) (by assumption) ?_
        case t14y10 => (intro w hSw; (try dsimp only at hSw); go_simp); try with_reducible rfl
        change wpAnyH _ _ _ _ _ _ _ (Act.put _ (some 12) _) _
        simp only [Act.put, List.setIfInBounds_toArray, List.set_cons_zero, List.set_cons_succ]
        refine wpAnyH_done (by kernel_rfl) ?_ _
        clear o10 o11 o12 o30 o31 o32
        go_wp2_with fail
        go_meet
        case rel => exact ⟨rfl, BB, BD⟩
    · go_simp
      have gl6 : w.heap.size + 3 < wd.heap.size := World.block_lt_of_cell? _ _ o30
      have gd6 : (v4.alloc (.cells #[.bool false, .slice A9 n9 c9, .int .i64 1] 24)).heap.size ≤ wd.heap.size := BD.size
      have p6 := Ibx.new wd false none 0 0 0 false none 0 0 0
      have b := below_alloc wd (.cells #[.bool false, .slice none 0 0, .int .i64 0, .bool false, .slice none 0 0, .int .i64 0] 26)
      replace BD := below_next BD BD.size b rfl rfl rfl rfl
      replace BB := below_next BB BB.size b rfl rfl rfl rfl
      have G := mv b rfl <| And.intro o10 <| And.intro o11 <| And.intro o12 <| And.intro o30 <| And.intro o31 <| And.intro o32 <| And.intro hT <| And.intro N1 <| N3
      clear b o10 o11 o12 o30 o31 o32 hT N1 N3
      obtain ⟨o10, o11, o12, o30, o31, o32, hT, N1, N3⟩ := G
      generalize wd.alloc (.cells #[.bool false, .slice none 0 0, .int .i64 0, .bool false, .slice none 0 0, .int .i64 0] 26) = u1 at *
      generalize wd.heap.size = g6 at *
      refine hK.out _ _ (by exact ⟨o10, o11, o12, o30, o31, o32⟩) (fun hHeldt1 => ?_)
      clear hK K hHeldt0
      try simp only [Act.put]
      refine wpAnyH_ready (rs := [1]) (by kernel_rfl) (by simp) ?_
      refine AllReadyH.cons (o := _) rfl (fun K hK => ?_) (AllReadyH.nil)
      go_simp
      refine (show Calls _ _ _ _ (GivI x11 _) from iof_any (a := q1) N1.rd (by omega)).mono ?_
      rintro en u2 ⟨A14, n14, c14, A15, n15, c15, rfl, h14, h15, b⟩
      replace BD := below_next BD BD.size b rfl rfl rfl rfl
      replace BB := below_next BB BB.size b rfl rfl rfl rfl
      have G := mv b rfl <| And.intro o10 <| And.intro o11 <| And.intro o12 <| And.intro o30 <| And.intro o31 <| And.intro o32 <| And.intro hT <| And.intro N1 <| And.intro N3 <| p6
      clear b o10 o11 o12 o30 o31 o32 hT N1 N3 p6
      obtain ⟨o10, o11, o12, o30, o31, o32, hT, N1, N3, p6⟩ := G
      refine hK.out _ _ (by exact ⟨o10, o11, o12, o30, o31, o32⟩) (fun hHeldt2 => ?_)
      clear hK K hHeldt1
      try simp only [Act.put]
      refine wpAnyH_ready (rs := [3]) (by kernel_rfl) (by simp) ?_
      refine AllReadyH.cons (o := _) rfl (fun K hK => ?_) (AllReadyH.nil)
      go_simp
      refine (show Calls _ _ _ _ (GivI x33 _) from iof_any (a := q3) N3.rd (by omega)).mono ?_
      rintro en u3 ⟨A16, n16, c16, A17, n17, c17, rfl, h16, h17, b⟩
      replace BD := below_next BD BD.size b rfl rfl rfl rfl
      replace BB := below_next BB BB.size b rfl rfl rfl rfl
      have G := mv b rfl <| And.intro o10 <| And.intro o11 <| And.intro o12 <| And.intro o30 <| And.intro o31 <| And.intro o32 <| And.intro hT <| And.intro N1 <| And.intro N3 <| And.intro p6 <| And.intro h14 <| h15
      clear b o10 o11 o12 o30 o31 o32 hT N1 N3 p6 h14 h15
      obtain ⟨o10, o11, o12, o30, o31, o32, hT, N1, N3, p6, h14, h15⟩ := G
      refine hK.out _ _ (by exact ⟨o10, o11, o12, o30, o31, o32⟩) (fun hHeldt3 => ?_)
      clear hK K hHeldt2
      try simp only [Act.put]
      refine wpAnyH_ready (rs := [4]) (by kernel_rfl) (by simp) ?_
      refine AllReadyH.cons (o := _) rfl (fun K hK => ?_) (AllReadyH.nil)
      go_simp
      refine (imeet_none (x := x11) (y := x33) hKK hT h14 h15 h16 h17 (mayI_point q1_may) (mayI_point q3_may) (by rw [show meetQ KK x11 x33 = ⟨q3, q1⟩ from meet_13 KK]; exact may_31 KK)).mono ?_
      rintro en u4 ⟨A12, n12, c12, A13, n13, c13, rfl, _, _, b⟩
      clear h14 h15 h16 h17
      replace BD := below_next BD BD.size b rfl rfl rfl rfl
      replace BB := below_next BB BB.size b rfl rfl rfl rfl
      have G := mv b rfl <| And.intro o10 <| And.intro o11 <| And.intro o12 <| And.intro o30 <| And.intro o31 <| And.intro o32 <| And.intro hT <| And.intro N1 <| And.intro N3 <| p6
      clear b o10 o11 o12 o30 o31 o32 hT N1 N3 p6
      obtain ⟨o10, o11, o12, o30, o31, o32, hT, N1, N3, p6⟩ := G
      refine hK.out _ _ (by exact ⟨o10, o11, o12, o30, o31, o32⟩) (fun hHeldt4 => ?_)
      clear hK K hHeldt3
      try simp only [Act.put]
      refine wpAnyH_take (i := 5) (v := ?t15v5) rfl (by kernel_rfl) (by kernel_rfl) (by kernel_rfl) (fun _ _ _ h => panic_put (P := Tryz.prog) (fn := Tryz.f7) (R := (Bools true w)) h) (Or.inl ⟨by rfl, ?t15y5⟩) (by assumption) ?_
      case t15y5 => (intro w hSw; (try dsimp only at hSw); go_simp); try with_reducible rfl
      change wpAnyH _ _ _ _ _ _ _ (Act.put _ (some 39) _) _
      simp only [Act.put, List.setIfInBounds_toArray, List.set_cons_zero, List.set_cons_succ]
      refine wpAnyH_take (i := 6) (v := ?t16v6) rfl (by kernel_rfl) (by kernel_rfl) (by kernel_rfl) (fun _ _ _ h => panic_put (P := Tryz.prog) (fn := Tryz.f7) (R := (Bools true w)) h) (Or.inl ⟨by rfl, ?t16y6⟩) (by assumption) ?_
      case t16y6 => (intro w hSw; (try dsimp only at hSw); go_simp); try with_reducible rfl
      change wpAnyH _ _ _ _ _ _ _ (Act.put _ (some 45) _) _
      simp only [Act.put, List.setIfInBounds_toArray, List.set_cons_zero, List.set_cons_succ]
      refine wpAnyH_take (i := 7) (v := ?t17v7) rfl (by kernel_rfl) (by kernel_rfl) (by kernel_rfl) (fun _ _ _ h => panic_put (P := Tryz.prog) (fn := Tryz.f7) (R := (Bools true w)) h) (Or.inl ⟨by rfl, ?t17y7⟩) (by assumption) ?_
      case t17y7 => (intro w hSw; (try dsimp only at hSw); go_simp); try with_reducible rfl
      change wpAnyH _ _ _ _ _ _ _ (Act.put _ (some 46) _) _
      simp only [Act.put, List.setIfInBounds_toArray, List.set_cons_zero, List.set_cons_succ]
      refine wpAnyH_ready (rs := [9]) (by kernel_rfl) (by simp) ?_
      refine AllReadyH.cons (o := _) rfl (fun K hK => ?_) (AllReadyH.nil)
      obtain ⟨f0, f1, f2, f3, f4, f5⟩ := p6.open
      obtain ⟨z0, z1, z2, z3, z4, z5⟩ := p6.held
      go_simp
      clear hT N1 N3
      replace o10 := cell_oth6 (g := g6) (u0 := .bool Iv.zero.lo.s) (u1 := .slice A12 n12 c12) (u2 := .int .i64 Iv.zero.lo.e) (u3 := .bool Iv.zero.hi.s) (u4 := .slice A13 n13 c13) (u5 := .int .i64 Iv.zero.hi.e) o10 (by omega)
      replace o11 := cell_oth6 (g := g6) (u0 := .bool Iv.zero.lo.s) (u1 := .slice A12 n12 c12) (u2 := .int .i64 Iv.zero.lo.e) (u3 := .bool Iv.zero.hi.s) (u4 := .slice A13 n13 c13) (u5 := .int .i64 Iv.zero.hi.e) o11 (by omega)
      replace o12 := cell_oth6 (g := g6) (u0 := .bool Iv.zero.lo.s) (u1 := .slice A12 n12 c12) (u2 := .int .i64 Iv.zero.lo.e) (u3 := .bool Iv.zero.hi.s) (u4 := .slice A13 n13 c13) (u5 := .int .i64 Iv.zero.hi.e) o12 (by omega)
      replace o30 := cell_oth6 (g := g6) (u0 := .bool Iv.zero.lo.s) (u1 := .slice A12 n12 c12) (u2 := .int .i64 Iv.zero.lo.e) (u3 := .bool Iv.zero.hi.s) (u4 := .slice A13 n13 c13) (u5 := .int .i64 Iv.zero.hi.e) o30 (by omega)
      replace o31 := cell_oth6 (g := g6) (u0 := .bool Iv.zero.lo.s) (u1 := .slice A12 n12 c12) (u2 := .int .i64 Iv.zero.lo.e) (u3 := .bool Iv.zero.hi.s) (u4 := .slice A13 n13 c13) (u5 := .int .i64 Iv.zero.hi.e) o31 (by omega)
      replace o32 := cell_oth6 (g := g6) (u0 := .bool Iv.zero.lo.s) (u1 := .slice A12 n12 c12) (u2 := .int .i64 Iv.zero.lo.e) (u3 := .bool Iv.zero.hi.s) (u4 := .slice A13 n13 c13) (u5 := .int .i64 Iv.zero.hi.e) o32 (by omega)
      replace BB := below_put6 (g := g6) BB (by omega) (.bool Iv.zero.lo.s) (.slice A12 n12 c12) (.int .i64 Iv.zero.lo.e) (.bool Iv.zero.hi.s) (.slice A13 n13 c13) (.int .i64 Iv.zero.hi.e)
      replace BD := below_put6 (g := g6) BD (by omega) (.bool Iv.zero.lo.s) (.slice A12 n12 c12) (.int .i64 Iv.zero.lo.e) (.bool Iv.zero.hi.s) (.slice A13 n13 c13) (.int .i64 Iv.zero.hi.e)
      clear f0 f1 f2 f3 f4 f5 z0 z1 z2 z3 z4 z5 p6
      generalize (((((u4.setCell ⟨g6, 0, none⟩ (.bool Iv.zero.lo.s)).setCell ⟨g6, 1, none⟩ (.slice A12 n12 c12)).setCell ⟨g6, 2, none⟩ (.int .i64 Iv.zero.lo.e)).setCell ⟨g6, 3, none⟩ (.bool Iv.zero.hi.s)).setCell ⟨g6, 4, none⟩ (.slice A13 n13 c13)).setCell ⟨g6, 5, none⟩ (.int .i64 Iv.zero.hi.e) = u5 at *
      refine hK.out _ _ (by exact ⟨o10, o11, o12, o30, o31, o32⟩) (fun hHeldt5 => ?_)
      clear hK K hHeldt4
      try simp only [Act.put]
      refine wpAnyH_take (i := 10) (v := ?t18v10) rfl (by kernel_rfl) (by kernel_rfl) (by kernel_rfl) (fun _ _ _ h => panic_put (P := Tryz.prog) (fn := Tryz.f7) (R := (Bools true w)) h) (Or.inl ⟨by rfl, ?t18y10⟩) (by assumption) ?_
      case t18y10 => (intro w hSw; (try dsimp only at hSw); go_simp); try with_reducible rfl
      change wpAnyH _ _ _ _ _ _ _ (Act.put _ (some 12) _) _
      simp only [Act.put, List.setIfInBounds_toArray, List.set_cons_zero, List.set_cons_succ]
      refine wpAnyH_done (by kernel_rfl) ?_ _
      clear o10 o11 o12 o30 o31 o32
      go_wp2_with fail
      go_meet
      case rel => exact ⟨rfl, BB, BD⟩
  case rest =>
    obtain ⟨rfl, BB2, b⟩ := hcut
    clear BB
    have G := mv b rfl <| And.intro hT <| And.intro N1 <| And.intro N3 <| And.intro o10 <| And.intro o11 <| And.intro o12 <| And.intro o30 <| And.intro o31 <| And.intro o32 <| And.intro h4 <| And.intro h5 <| And.intro y0 <| And.intro y1 <| And.intro y2 <| And.intro y3 <| And.intro y4 <| And.intro y5 <| And.intro m0 <| And.intro m1 <| And.intro m2 <| And.intro d0 <| And.intro d1 <| d2
    clear b hT N1 N3 o10 o11 o12 o30 o31 o32 h4 h5 y0 y1 y2 y3 y4 y5 m0 m1 m2 d0 d1 d2
    obtain ⟨hT, N1, N3, o10, o11, o12, o30, o31, o32, h4, h5, y0, y1, y2, y3, y4, y5, m0, m1, m2, d0, d1, d2⟩ := G
    have BB := BB2
    clear BB2
    go_upto_region 7 with fail
    have b : Below wc.heap.size wc (World.drew wc) := below_drewN (Below.refl _ _) 1
    replace BB := below_next BB BB.size b rfl rfl rfl rfl
    have G := mv b rfl <| And.intro hT <| And.intro N1 <| And.intro N3 <| And.intro o10 <| And.intro o11 <| And.intro o12 <| And.intro o30 <| And.intro o31 <| And.intro o32 <| And.intro h4 <| And.intro h5 <| And.intro y0 <| And.intro y1 <| And.intro y2 <| And.intro y3 <| And.intro y4 <| And.intro y5 <| And.intro m0 <| And.intro m1 <| And.intro m2 <| And.intro d0 <| And.intro d1 <| d2
    clear b hT N1 N3 o10 o11 o12 o30 o31 o32 h4 h5 y0 y1 y2 y3 y4 y5 m0 m1 m2 d0 d1 d2
    obtain ⟨hT, N1, N3, o10, o11, o12, o30, o31, o32, h4, h5, y0, y1, y2, y3, y4, y5, m0, m1, m2, d0, d1, d2⟩ := G
    clear m0 m1 d0 d1
    refine wp_region_held_drew (S := fun w' => w'.cell? ⟨w.heap.size + 2, 0, none⟩ = some (.bool false) ∧ w'.cell? ⟨w.heap.size + 2, 1, none⟩ = some (.slice (some ⟨w.heap.size, 0, none⟩) 1 1) ∧ w'.cell? ⟨w.heap.size + 2, 2, none⟩ = some (.int .i64 0) ∧ w'.cell? ⟨w.heap.size + 3, 0, none⟩ = some (.bool false) ∧ w'.cell? ⟨w.heap.size + 3, 1, none⟩ = some (.slice (some ⟨w.heap.size + 1, 0, none⟩) 1 1) ∧ w'.cell? ⟨w.heap.size + 3, 2, none⟩ = some (.int .i64 0) ∧ w'.cell? ⟨v1.heap.size, 0, none⟩ = some (.bool x13.lo.s) ∧ w'.cell? ⟨v1.heap.size, 1, none⟩ = some (.slice A4 n4 c4) ∧ w'.cell? ⟨v1.heap.size, 2, none⟩ = some (.int .i64 x13.lo.e) ∧ w'.cell? ⟨v1.heap.size, 3, none⟩ = some (.bool x13.hi.s) ∧ w'.cell? ⟨v1.heap.size, 4, none⟩ = some (.slice A5 n5 c5) ∧ w'.cell? ⟨v1.heap.size, 5, none⟩ = some (.int .i64 x13.hi.e) ∧ w'.cell? ⟨v3.heap.size, 2, none⟩ = some (.int .i64 1) ∧ w'.cell? ⟨v4.heap.size, 2, none⟩ = some (.int .i64 1)) (by kernel_rfl) (by exact ⟨o10, o11, o12, o30, o31, o32, y0, y1, y2, y3, y4, y5, m2, d2⟩) (fun hHelds0 => ?_)
    generalize World.drew wc = wd at *
    have HK := Lib.hid hKK
    clear hKK
    refine wpAnyH_take (i := 0) (v := ?sv0) rfl (by kernel_rfl) (by kernel_rfl) (by kernel_rfl) (fun _ _ _ h => panic_put (P := Tryz.prog) (fn := Tryz.f7) (R := (Bools true w)) h) (Or.inl ⟨by rfl, ?sy0⟩) (by assumption) ?_
    case sy0 => (intro w hSw; (try dsimp only at hSw); go_simp); try with_reducible rfl
    change wpAnyH _ _ _ _ _ _ _ (Act.put _ (some 47) _) _
    simp only [Act.put, List.setIfInBounds_toArray, List.set_cons_zero, List.set_cons_succ]
    refine wpAnyH_take (i := 1) (v := ?sv1) rfl (by kernel_rfl) (by kernel_rfl) (by kernel_rfl) (fun _ _ _ h => panic_put (P := Tryz.prog) (fn := Tryz.f7) (R := (Bools true w)) h) (Or.inl ⟨by rfl, ?sy1⟩) (by assumption) ?_
    case sy1 => (intro w hSw; (try dsimp only at hSw); go_simp); try with_reducible rfl
    change wpAnyH _ _ _ _ _ _ _ (Act.put _ (some 48) _) _
    simp only [Act.put, List.setIfInBounds_toArray, List.set_cons_zero, List.set_cons_succ]
    refine wpAnyH_take (i := 2) (v := ?sv2) rfl (by kernel_rfl) (by kernel_rfl) (by kernel_rfl) (fun _ _ _ h => panic_put (P := Tryz.prog) (fn := Tryz.f7) (R := (Bools true w)) h) (Or.inl ⟨by rfl, ?sy2⟩) (by assumption) ?_
    case sy2 => (intro w hSw; (try dsimp only at hSw); go_simp); try with_reducible rfl
    change wpAnyH _ _ _ _ _ _ _ (Act.put _ (some 49) _) _
    simp only [Act.put, List.setIfInBounds_toArray, List.set_cons_zero, List.set_cons_succ]
    refine wpAnyH_take (i := 3) (v := ?sv3) rfl (by kernel_rfl) (by kernel_rfl) (by kernel_rfl) (fun _ _ _ h => panic_put (P := Tryz.prog) (fn := Tryz.f7) (R := (Bools true w)) h) (Or.inl ⟨by rfl, ?sy3⟩) (by assumption) ?_
    case sy3 => (intro w hSw; (try dsimp only at hSw); go_simp); try with_reducible rfl
    change wpAnyH _ _ _ _ _ _ _ (Act.put _ (some 50) _) _
    simp only [Act.put, List.setIfInBounds_toArray, List.set_cons_zero, List.set_cons_succ]
    refine wpAnyH_take (i := 4) (v := ?sv4) rfl (by kernel_rfl) (by kernel_rfl) (by kernel_rfl) (fun _ _ _ h => panic_put (P := Tryz.prog) (fn := Tryz.f7) (R := (Bools true w)) h) (Or.inl ⟨by rfl, ?sy4⟩) (by assumption) ?_
    case sy4 => (intro w hSw; (try dsimp only at hSw); go_simp); try with_reducible rfl
    change wpAnyH _ _ _ _ _ _ _ (Act.put _ (some 51) _) _
    simp only [Act.put, List.setIfInBounds_toArray, List.set_cons_zero, List.set_cons_succ]
    refine wpAnyH_take (i := 5) (v := ?sv5) rfl (by kernel_rfl) (by kernel_rfl) (by kernel_rfl) (fun _ _ _ h => panic_put (P := Tryz.prog) (fn := Tryz.f7) (R := (Bools true w)) h) (Or.inl ⟨by rfl, ?sy5⟩) (by assumption) ?_
    case sy5 => (intro w hSw; (try dsimp only at hSw); go_simp); try with_reducible rfl
    change wpAnyH _ _ _ _ _ _ _ (Act.put _ (some 52) _) _
    simp only [Act.put, List.setIfInBounds_toArray, List.set_cons_zero, List.set_cons_succ]
    refine wpAnyH_take (i := 6) (v := ?sv6) rfl (by kernel_rfl) (by kernel_rfl) (by kernel_rfl) (fun _ _ _ h => panic_put (P := Tryz.prog) (fn := Tryz.f7) (R := (Bools true w)) h) (Or.inl ⟨by rfl, ?sy6⟩) (by assumption) ?_
    case sy6 => (intro w hSw; (try dsimp only at hSw); go_simp); try with_reducible rfl
    change wpAnyH _ _ _ _ _ _ _ (Act.put _ (some 53) _) _
    simp only [Act.put, List.setIfInBounds_toArray, List.set_cons_zero, List.set_cons_succ]
    refine wpAnyH_take (i := 7) (v := ?sv7) rfl (by kernel_rfl) (by kernel_rfl) (by kernel_rfl) (fun _ _ _ h => panic_put (P := Tryz.prog) (fn := Tryz.f7) (R := (Bools true w)) h) (Or.inl ⟨by rfl, ?sy7⟩) (by assumption) ?_
    case sy7 => (intro w hSw; (try dsimp only at hSw); go_simp); try with_reducible rfl
    change wpAnyH _ _ _ _ _ _ _ (Act.put _ (some 54) _) _
    simp only [Act.put, List.setIfInBounds_toArray, List.set_cons_zero, List.set_cons_succ]
    refine wpAnyH_take (i := 8) (v := ?sv8) rfl (by kernel_rfl) (by kernel_rfl) (by kernel_rfl) (fun _ _ _ h => panic_put (P := Tryz.prog) (fn := Tryz.f7) (R := (Bools true w)) h) (Or.inl ⟨by rfl, ?sy8⟩) (by assumption) ?_
    case sy8 => (intro w hSw; (try dsimp only at hSw); go_simp); try with_reducible rfl
    change wpAnyH _ _ _ _ _ _ _ (Act.put _ (some 55) _) _
    simp only [Act.put, List.setIfInBounds_toArray, List.set_cons_zero, List.set_cons_succ]
    refine wpAnyH_take (i := 9) (v := ?sv9) rfl (by kernel_rfl) (by kernel_rfl) (by kernel_rfl) (fun _ _ _ h => panic_put (P := Tryz.prog) (fn := Tryz.f7) (R := (Bools true w)) h) (Or.inl ⟨by rfl, ?sy9⟩) (by assumption) ?_
    case sy9 => (intro w hSw; (try dsimp only at hSw); go_simp); try with_reducible rfl
    change wpAnyH _ _ _ _ _ _ _ (Act.put _ (some 56) _) _
    simp only [Act.put, List.setIfInBounds_toArray, List.set_cons_zero, List.set_cons_succ]
    refine wpAnyH_take (i := 10) (v := ?sv10) rfl (by kernel_rfl) (by kernel_rfl) (by kernel_rfl) (fun _ _ _ h => panic_put (P := Tryz.prog) (fn := Tryz.f7) (R := (Bools true w)) h) (Or.inl ⟨by rfl, ?sy10⟩) (by assumption) ?_
    case sy10 => (intro w hSw; (try dsimp only at hSw); go_simp); try with_reducible rfl
    change wpAnyH _ _ _ _ _ _ _ (Act.put _ (some 57) _) _
    simp only [Act.put, List.setIfInBounds_toArray, List.set_cons_zero, List.set_cons_succ]
    refine wpAnyH_take (i := 11) (v := ?sv11) rfl (by kernel_rfl) (by kernel_rfl) (by kernel_rfl) (fun _ _ _ h => panic_put (P := Tryz.prog) (fn := Tryz.f7) (R := (Bools true w)) h) (Or.inl ⟨by rfl, ?sy11⟩) (by assumption) ?_
    case sy11 => (intro w hSw; (try dsimp only at hSw); go_simp); try with_reducible rfl
    change wpAnyH _ _ _ _ _ _ _ (Act.put _ (some 58) _) _
    simp only [Act.put, List.setIfInBounds_toArray, List.set_cons_zero, List.set_cons_succ]
    refine wpAnyH_take (i := 12) (v := ?sv12) rfl (by kernel_rfl) (by kernel_rfl) (by kernel_rfl) (fun _ _ _ h => panic_put (P := Tryz.prog) (fn := Tryz.f7) (R := (Bools true w)) h) (Or.inl ⟨by rfl, ?sy12⟩) (by assumption) ?_
    case sy12 => (intro w hSw; (try dsimp only at hSw); go_simp); try with_reducible rfl
    change wpAnyH _ _ _ _ _ _ _ (Act.put _ (some 59) _) _
    simp only [Act.put, List.setIfInBounds_toArray, List.set_cons_zero, List.set_cons_succ]
    refine wpAnyH_take (i := 13) (v := ?sv13) rfl (by kernel_rfl) (by kernel_rfl) (by kernel_rfl) (fun _ _ _ h => panic_put (P := Tryz.prog) (fn := Tryz.f7) (R := (Bools true w)) h) (Or.inl ⟨by rfl, ?sy13⟩) (by assumption) ?_
    case sy13 => (intro w hSw; (try dsimp only at hSw); go_simp); try with_reducible rfl
    change wpAnyH _ _ _ _ _ _ _ (Act.put _ (some 60) _) _
    simp only [Act.put, List.setIfInBounds_toArray, List.set_cons_zero, List.set_cons_succ]
    refine wpAnyH_take (i := 14) (v := ?sv14) rfl (by kernel_rfl) (by kernel_rfl) (by kernel_rfl) (fun _ _ _ h => panic_put (P := Tryz.prog) (fn := Tryz.f7) (R := (Bools true w)) h) (Or.inl ⟨by rfl, ?sy14⟩) (by assumption) ?_
    case sy14 => (intro w hSw; (try dsimp only at hSw); go_simp); try with_reducible rfl
    change wpAnyH _ _ _ _ _ _ _ (Act.put _ (some 61) _) _
    simp only [Act.put, List.setIfInBounds_toArray, List.set_cons_zero, List.set_cons_succ]
    refine wpAnyH_take (i := 15) (v := ?sv15) rfl (by kernel_rfl) (by kernel_rfl) (by kernel_rfl) (fun _ _ _ h => panic_put (P := Tryz.prog) (fn := Tryz.f7) (R := (Bools true w)) h) (Or.inl ⟨by rfl, ?sy15⟩) (by assumption) ?_
    case sy15 => (intro w hSw; (try dsimp only at hSw); go_simp); try with_reducible rfl
    change wpAnyH _ _ _ _ _ _ _ (Act.put _ (some 62) _) _
    simp only [Act.put, List.setIfInBounds_toArray, List.set_cons_zero, List.set_cons_succ]
    refine wpAnyH_take (i := 16) (v := ?sv16) rfl (by kernel_rfl) (by kernel_rfl) (by kernel_rfl) (fun _ _ _ h => panic_put (P := Tryz.prog) (fn := Tryz.f7) (R := (Bools true w)) h) (Or.inl ⟨by rfl, ?sy16⟩) (by assumption) ?_
    case sy16 => (intro w hSw; (try dsimp only at hSw); go_simp); try with_reducible rfl
    change wpAnyH _ _ _ _ _ _ _ (Act.put _ (some 63) _) _
    simp only [Act.put, List.setIfInBounds_toArray, List.set_cons_zero, List.set_cons_succ]
    refine wpAnyH_take (i := 17) (v := ?sv17) rfl (by kernel_rfl) (by kernel_rfl) (by kernel_rfl) (fun _ _ _ h => panic_put (P := Tryz.prog) (fn := Tryz.f7) (R := (Bools true w)) h) (Or.inl ⟨by rfl, ?sy17⟩) (by assumption) ?_
    case sy17 => (intro w hSw; (try dsimp only at hSw); go_simp); try with_reducible rfl
    change wpAnyH _ _ _ _ _ _ _ (Act.put _ (some 64) _) _
    simp only [Act.put, List.setIfInBounds_toArray, List.set_cons_zero, List.set_cons_succ]
    refine wpAnyH_take (i := 18) (v := ?sv18) rfl (by kernel_rfl) (by kernel_rfl) (by kernel_rfl) (fun _ _ _ h => panic_put (P := Tryz.prog) (fn := Tryz.f7) (R := (Bools true w)) h) (Or.inl ⟨by rfl, ?sy18⟩) (by assumption) ?_
    case sy18 => (intro w hSw; (try dsimp only at hSw); go_simp); try with_reducible rfl
    change wpAnyH _ _ _ _ _ _ _ (Act.put _ (some 65) _) _
    simp only [Act.put, List.setIfInBounds_toArray, List.set_cons_zero, List.set_cons_succ]
    refine wpAnyH_take (i := 19) (v := ?sv19) rfl (by kernel_rfl) (by kernel_rfl) (by kernel_rfl) (fun _ _ _ h => panic_put (P := Tryz.prog) (fn := Tryz.f7) (R := (Bools true w)) h) (Or.inl ⟨by rfl, ?sy19⟩) (by assumption) ?_
    case sy19 => (intro w hSw; (try dsimp only at hSw); go_simp); try with_reducible rfl
    change wpAnyH _ _ _ _ _ _ _ (Act.put _ (some 66) _) _
    simp only [Act.put, List.setIfInBounds_toArray, List.set_cons_zero, List.set_cons_succ]
    refine wpAnyH_take (i := 20) (v := ?sv20) rfl (by kernel_rfl) (by kernel_rfl) (by kernel_rfl) (fun _ _ _ h => panic_put (P := Tryz.prog) (fn := Tryz.f7) (R := (Bools true w)) h) (Or.inl ⟨by rfl, ?sy20⟩) (by assumption) ?_
    case sy20 => (intro w hSw; (try dsimp only at hSw); go_simp); try with_reducible rfl
    change wpAnyH _ _ _ _ _ _ _ (Act.put _ (some 67) _) _
    simp only [Act.put, List.setIfInBounds_toArray, List.set_cons_zero, List.set_cons_succ]
    refine wpAnyH_take (i := 21) (v := ?sv21) rfl (by kernel_rfl) (by kernel_rfl) (by kernel_rfl) (fun _ _ _ h => panic_put (P := Tryz.prog) (fn := Tryz.f7) (R := (Bools true w)) h) (Or.inl ⟨by rfl, ?sy21⟩) (by assumption) ?_
    case sy21 => (intro w hSw; (try dsimp only at hSw); go_simp); try with_reducible rfl
    change wpAnyH _ _ _ _ _ _ _ (Act.put _ (some 68) _) _
    simp only [Act.put, List.setIfInBounds_toArray, List.set_cons_zero, List.set_cons_succ]
    refine wpAnyH_take (i := 22) (v := ?sv22) rfl (by kernel_rfl) (by kernel_rfl) (by kernel_rfl) (fun _ _ _ h => panic_put (P := Tryz.prog) (fn := Tryz.f7) (R := (Bools true w)) h) (Or.inl ⟨by rfl, ?sy22⟩) (by assumption) ?_
    case sy22 => (intro w hSw; (try dsimp only at hSw); go_simp); try with_reducible rfl
    change wpAnyH _ _ _ _ _ _ _ (Act.put _ (some 69) _) _
    simp only [Act.put, List.setIfInBounds_toArray, List.set_cons_zero, List.set_cons_succ]
    refine wpAnyH_take (i := 23) (v := ?sv23) rfl (by kernel_rfl) (by kernel_rfl) (by kernel_rfl) (fun _ _ _ h => panic_put (P := Tryz.prog) (fn := Tryz.f7) (R := (Bools true w)) h) (Or.inl ⟨by rfl, ?sy23⟩) (by assumption) ?_
    case sy23 => (intro w hSw; (try dsimp only at hSw); go_simp); try with_reducible rfl
    change wpAnyH _ _ _ _ _ _ _ (Act.put _ (some 70) _) _
    simp only [Act.put, List.setIfInBounds_toArray, List.set_cons_zero, List.set_cons_succ]
    refine wpAnyH_take (i := 24) (v := ?sv24) rfl (by kernel_rfl) (by kernel_rfl) (by kernel_rfl) (fun _ _ _ h => panic_put (P := Tryz.prog) (fn := Tryz.f7) (R := (Bools true w)) h) (Or.inl ⟨by rfl, ?sy24⟩) (by assumption) ?_
    case sy24 => (intro w hSw; (try dsimp only at hSw); go_simp); try with_reducible rfl
    change wpAnyH _ _ _ _ _ _ _ (Act.put _ (some 71) _) _
    simp only [Act.put, List.setIfInBounds_toArray, List.set_cons_zero, List.set_cons_succ]
    refine wpAnyH_take (i := 25) (v := ?sv25) rfl (by kernel_rfl) (by kernel_rfl) (by kernel_rfl) (fun _ _ _ h => panic_put (P := Tryz.prog) (fn := Tryz.f7) (R := (Bools true w)) h) (Or.inl ⟨by rfl, ?sy25⟩) (by assumption) ?_
    case sy25 => (intro w hSw; (try dsimp only at hSw); go_simp); try with_reducible rfl
    change wpAnyH _ _ _ _ _ _ _ (Act.put _ (some 72) _) _
    simp only [Act.put, List.setIfInBounds_toArray, List.set_cons_zero, List.set_cons_succ]
    refine wpAnyH_take (i := 26) (v := ?sv26) rfl (by kernel_rfl) (by kernel_rfl) (by kernel_rfl) (fun _ _ _ h => panic_put (P := Tryz.prog) (fn := Tryz.f7) (R := (Bools true w)) h) (Or.inl ⟨by rfl, ?sy26⟩) (by assumption) ?_
    case sy26 => (intro w hSw; (try dsimp only at hSw); go_simp); try with_reducible rfl
    change wpAnyH _ _ _ _ _ _ _ (Act.put _ (some 73) _) _
    simp only [Act.put, List.setIfInBounds_toArray, List.set_cons_zero, List.set_cons_succ]
    refine wpAnyH_take (i := 27) (v := ?sv27) rfl (by kernel_rfl) (by kernel_rfl) (by kernel_rfl) (fun _ _ _ h => panic_put (P := Tryz.prog) (fn := Tryz.f7) (R := (Bools true w)) h) (Or.inl ⟨by rfl, ?sy27⟩) (by assumption) ?_
    case sy27 => (intro w hSw; (try dsimp only at hSw); go_simp); try with_reducible rfl
    change wpAnyH _ _ _ _ _ _ _ (Act.put _ (some 74) _) _
    simp only [Act.put, List.setIfInBounds_toArray, List.set_cons_zero, List.set_cons_succ]
    refine wpAnyH_take (i := 28) (v := ?sv28) rfl (by kernel_rfl) (by kernel_rfl) (by kernel_rfl) (fun _ _ _ h => panic_put (P := Tryz.prog) (fn := Tryz.f7) (R := (Bools true w)) h) (Or.inl ⟨by rfl, ?sy28⟩) (by assumption) ?_
    case sy28 => (intro w hSw; (try dsimp only at hSw); go_simp); try with_reducible rfl
    change wpAnyH _ _ _ _ _ _ _ (Act.put _ (some 75) _) _
    simp only [Act.put, List.setIfInBounds_toArray, List.set_cons_zero, List.set_cons_succ]
    refine wpAnyH_take (i := 29) (v := ?sv29) rfl (by kernel_rfl) (by kernel_rfl) (by kernel_rfl) (fun _ _ _ h => panic_put (P := Tryz.prog) (fn := Tryz.f7) (R := (Bools true w)) h) (Or.inl ⟨by rfl, ?sy29⟩) (by assumption) ?_
    case sy29 => (intro w hSw; (try dsimp only at hSw); go_simp); try with_reducible rfl
    change wpAnyH _ _ _ _ _ _ _ (Act.put _ (some 76) _) _
    simp only [Act.put, List.setIfInBounds_toArray, List.set_cons_zero, List.set_cons_succ]
    refine wpAnyH_take (i := 30) (v := ?sv30) rfl (by kernel_rfl) (by kernel_rfl) (by kernel_rfl) (fun _ _ _ h => panic_put (P := Tryz.prog) (fn := Tryz.f7) (R := (Bools true w)) h) (Or.inl ⟨by rfl, ?sy30⟩) (by assumption) ?_
    case sy30 => (intro w hSw; (try dsimp only at hSw); go_simp); try with_reducible rfl
    change wpAnyH _ _ _ _ _ _ _ (Act.put _ (some 77) _) _
    simp only [Act.put, List.setIfInBounds_toArray, List.set_cons_zero, List.set_cons_succ]
    refine wpAnyH_ready (rs := [31]) (by kernel_rfl) (by simp) ?_
    refine AllReadyH.cons (o := _) rfl (fun K hK => ?_) AllReadyH.nil
    go_simp
    refine (ihas_any (K := KK) (x := x13) (d := q1) HK.out hT h4 h5 N1.rd).mono ?_
    rintro en w' ⟨rfl, b⟩
    rw [show hasI KK x13 q1 = true from has_13 KK]
    replace BB := below_next BB BB.size b (by rfl) (by rfl) (by rfl) (by rfl)
    have G := mv b (by rfl) <| And.intro hT <| And.intro N1 <| And.intro N3 <| And.intro o10 <| And.intro o11 <| And.intro o12 <| And.intro o30 <| And.intro o31 <| And.intro o32 <| And.intro h4 <| And.intro h5 <| And.intro y0 <| And.intro y1 <| And.intro y2 <| And.intro y3 <| And.intro y4 <| And.intro y5 <| And.intro m2 <| d2
    clear b hT N1 N3 o10 o11 o12 o30 o31 o32 h4 h5 y0 y1 y2 y3 y4 y5 m2 d2
    obtain ⟨hT, N1, N3, o10, o11, o12, o30, o31, o32, h4, h5, y0, y1, y2, y3, y4, y5, m2, d2⟩ := G
    refine hK.out _ _ (by exact ⟨o10, o11, o12, o30, o31, o32, y0, y1, y2, y3, y4, y5, m2, d2⟩) (fun hHelds1 => ?_)
    clear hK K hHelds0
    try simp only [Act.put]
    refine wpAnyH_take (i := 32) (v := ?sv32) rfl (by kernel_rfl) (by kernel_rfl) (by kernel_rfl) (fun _ _ _ h => panic_put (P := Tryz.prog) (fn := Tryz.f7) (R := (Bools true w)) h) (Or.inl ⟨by rfl, ?sy32⟩) (by assumption) ?_
    case sy32 => (intro w hSw; (try dsimp only at hSw); go_simp); try with_reducible rfl
    change wpAnyH _ _ _ _ _ _ _ (Act.put _ (some 79) _) _
    simp only [Act.put, List.setIfInBounds_toArray, List.set_cons_zero, List.set_cons_succ]
    refine wpAnyH_take (i := 33) (v := ?sv33) rfl (by kernel_rfl) (by kernel_rfl) (by kernel_rfl) (fun _ _ _ h => panic_put (P := Tryz.prog) (fn := Tryz.f7) (R := (Bools true w)) h) (Or.inl ⟨by rfl, ?sy33⟩) (by assumption) ?_
    case sy33 => (intro w hSw; (try dsimp only at hSw); go_simp); try with_reducible rfl
    change wpAnyH _ _ _ _ _ _ _ (Act.put _ (some 80) _) _
    simp only [Act.put, List.setIfInBounds_toArray, List.set_cons_zero, List.set_cons_succ]
    refine wpAnyH_take (i := 34) (v := ?sv34) rfl (by kernel_rfl) (by kernel_rfl) (by kernel_rfl) (fun _ _ _ h => panic_put (P := Tryz.prog) (fn := Tryz.f7) (R := (Bools true w)) h) (Or.inl ⟨by rfl, ?sy34⟩) (by assumption) ?_
    case sy34 => (intro w hSw; (try dsimp only at hSw); go_simp); try with_reducible rfl
    change wpAnyH _ _ _ _ _ _ _ (Act.put _ (some 81) _) _
    simp only [Act.put, List.setIfInBounds_toArray, List.set_cons_zero, List.set_cons_succ]
    refine wpAnyH_take (i := 36) (v := ?sv36) rfl (by kernel_rfl) (by kernel_rfl) (by kernel_rfl) (fun _ _ _ h => panic_put (P := Tryz.prog) (fn := Tryz.f7) (R := (Bools true w)) h) (Or.inl ⟨by rfl, ?sy36⟩) (by assumption) ?_
    case sy36 => (intro w hSw; (try dsimp only at hSw); go_simp); try with_reducible rfl
    change wpAnyH _ _ _ _ _ _ _ (Act.put _ (some 83) _) _
    simp only [Act.put, List.setIfInBounds_toArray, List.set_cons_zero, List.set_cons_succ]
    refine wpAnyH_ready (rs := [35]) (by kernel_rfl) (by simp) ?_
    refine AllReadyH.cons (o := _) rfl (fun K hK => ?_) AllReadyH.nil
    go_simp
    refine (show Calls _ _ _ _ (GivI x33 _) from iof_any (a := q3) N3.rd (by omega)).mono ?_
    rintro en w' ⟨A16, n16, c16, A17, n17, c17, rfl, h16, h17, b⟩
    replace BB := below_next BB BB.size b (by rfl) (by rfl) (by rfl) (by rfl)
    have G := mv b (by rfl) <| And.intro hT <| And.intro N1 <| And.intro N3 <| And.intro o10 <| And.intro o11 <| And.intro o12 <| And.intro o30 <| And.intro o31 <| And.intro o32 <| And.intro h4 <| And.intro h5 <| And.intro y0 <| And.intro y1 <| And.intro y2 <| And.intro y3 <| And.intro y4 <| And.intro y5 <| And.intro m2 <| d2
    clear b hT N1 N3 o10 o11 o12 o30 o31 o32 h4 h5 y0 y1 y2 y3 y4 y5 m2 d2
    obtain ⟨hT, N1, N3, o10, o11, o12, o30, o31, o32, h4, h5, y0, y1, y2, y3, y4, y5, m2, d2⟩ := G
    refine hK.out _ _ (by exact ⟨o10, o11, o12, o30, o31, o32, y0, y1, y2, y3, y4, y5, m2, d2⟩) (fun hHelds2 => ?_)
    clear hK K hHelds1
    try simp only [Act.put]
    refine wpAnyH_ready (rs := [37]) (by kernel_rfl) (by simp) ?_
    refine AllReadyH.cons (o := _) rfl (fun K hK => ?_) AllReadyH.nil
    go_simp
    refine (iwithin_any (K := KK) (x := x33) (y := x13) HK.out hT h16 h17 h4 h5).mono ?_
    rintro en w' ⟨rfl, b⟩
    rw [show withinI KK x33 x13 = true from within_13 KK]
    clear h16
    clear h17
    replace BB := below_next BB BB.size b (by rfl) (by rfl) (by rfl) (by rfl)
    have G := mv b (by rfl) <| And.intro hT <| And.intro N1 <| And.intro N3 <| And.intro o10 <| And.intro o11 <| And.intro o12 <| And.intro o30 <| And.intro o31 <| And.intro o32 <| And.intro h4 <| And.intro h5 <| And.intro y0 <| And.intro y1 <| And.intro y2 <| And.intro y3 <| And.intro y4 <| And.intro y5 <| And.intro m2 <| d2
    clear b hT N1 N3 o10 o11 o12 o30 o31 o32 h4 h5 y0 y1 y2 y3 y4 y5 m2 d2
    obtain ⟨hT, N1, N3, o10, o11, o12, o30, o31, o32, h4, h5, y0, y1, y2, y3, y4, y5, m2, d2⟩ := G
    refine hK.out _ _ (by exact ⟨o10, o11, o12, o30, o31, o32, y0, y1, y2, y3, y4, y5, m2, d2⟩) (fun hHelds3 => ?_)
    clear hK K hHelds2
    try simp only [Act.put]
    refine wpAnyH_take (i := 38) (v := ?sv38) rfl (by kernel_rfl) (by kernel_rfl) (by kernel_rfl) (fun _ _ _ h => panic_put (P := Tryz.prog) (fn := Tryz.f7) (R := (Bools true w)) h) (Or.inl ⟨by rfl, ?sy38⟩) (by assumption) ?_
    case sy38 => (intro w hSw; (try dsimp only at hSw); go_simp); try with_reducible rfl
    change wpAnyH _ _ _ _ _ _ _ (Act.put _ (some 85) _) _
    simp only [Act.put, List.setIfInBounds_toArray, List.set_cons_zero, List.set_cons_succ]
    refine wpAnyH_take (i := 39) (v := ?sv39) rfl (by kernel_rfl) (by kernel_rfl) (by kernel_rfl) (fun _ _ _ h => panic_put (P := Tryz.prog) (fn := Tryz.f7) (R := (Bools true w)) h) (Or.inl ⟨by rfl, ?sy39⟩) (by assumption) ?_
    case sy39 => (intro w hSw; (try dsimp only at hSw); go_simp); try with_reducible rfl
    change wpAnyH _ _ _ _ _ _ _ (Act.put _ (some 86) _) _
    simp only [Act.put, List.setIfInBounds_toArray, List.set_cons_zero, List.set_cons_succ]
    refine wpAnyH_take (i := 40) (v := ?sv40) rfl (by kernel_rfl) (by kernel_rfl) (by kernel_rfl) (fun _ _ _ h => panic_put (P := Tryz.prog) (fn := Tryz.f7) (R := (Bools true w)) h) (Or.inl ⟨by rfl, ?sy40⟩) (by assumption) ?_
    case sy40 => (intro w hSw; (try dsimp only at hSw); go_simp); try with_reducible rfl
    change wpAnyH _ _ _ _ _ _ _ (Act.put _ (some 87) _) _
    simp only [Act.put, List.setIfInBounds_toArray, List.set_cons_zero, List.set_cons_succ]
    refine wpAnyH_take (i := 42) (v := ?sv42) rfl (by kernel_rfl) (by kernel_rfl) (by kernel_rfl) (fun _ _ _ h => panic_put (P := Tryz.prog) (fn := Tryz.f7) (R := (Bools true w)) h) (Or.inl ⟨by rfl, ?sy42⟩) (by assumption) ?_
    case sy42 => (intro w hSw; (try dsimp only at hSw); go_simp); try with_reducible rfl
    change wpAnyH _ _ _ _ _ _ _ (Act.put _ (some 89) _) _
    simp only [Act.put, List.setIfInBounds_toArray, List.set_cons_zero, List.set_cons_succ]
    refine wpAnyH_ready (rs := [41]) (by kernel_rfl) (by simp) ?_
    refine AllReadyH.cons (o := _) rfl (fun K hK => ?_) AllReadyH.nil
    go_simp
    refine (show Calls _ _ _ _ (GivI x33 _) from iof_any (a := q3) N3.rd (by omega)).mono ?_
    rintro en w' ⟨A18, n18, c18, A19, n19, c19, rfl, h18, h19, b⟩
    replace BB := below_next BB BB.size b (by rfl) (by rfl) (by rfl) (by rfl)
    have G := mv b (by rfl) <| And.intro hT <| And.intro N1 <| And.intro N3 <| And.intro o10 <| And.intro o11 <| And.intro o12 <| And.intro o30 <| And.intro o31 <| And.intro o32 <| And.intro h4 <| And.intro h5 <| And.intro y0 <| And.intro y1 <| And.intro y2 <| And.intro y3 <| And.intro y4 <| And.intro y5 <| And.intro m2 <| d2
    clear b hT N1 N3 o10 o11 o12 o30 o31 o32 h4 h5 y0 y1 y2 y3 y4 y5 m2 d2
    obtain ⟨hT, N1, N3, o10, o11, o12, o30, o31, o32, h4, h5, y0, y1, y2, y3, y4, y5, m2, d2⟩ := G
    refine hK.out _ _ (by exact ⟨o10, o11, o12, o30, o31, o32, y0, y1, y2, y3, y4, y5, m2, d2⟩) (fun hHelds4 => ?_)
    clear hK K hHelds3
    try simp only [Act.put]
    refine wpAnyH_ready (rs := [43]) (by kernel_rfl) (by simp) ?_
    refine AllReadyH.cons (o := _) rfl (fun K hK => ?_) AllReadyH.nil
    go_simp
    refine (iinside_any (K := KK) (x := x33) (y := x13) HK.out hT h18 h19 h4 h5).mono ?_
    rintro en w' ⟨rfl, b⟩
    rw [show insideI KK x33 x13 = false from inside_13 KK]
    clear h18
    clear h19
    replace BB := below_next BB BB.size b (by rfl) (by rfl) (by rfl) (by rfl)
    have G := mv b (by rfl) <| And.intro hT <| And.intro N1 <| And.intro N3 <| And.intro o10 <| And.intro o11 <| And.intro o12 <| And.intro o30 <| And.intro o31 <| And.intro o32 <| And.intro h4 <| And.intro h5 <| And.intro y0 <| And.intro y1 <| And.intro y2 <| And.intro y3 <| And.intro y4 <| And.intro y5 <| And.intro m2 <| d2
    clear b hT N1 N3 o10 o11 o12 o30 o31 o32 h4 h5 y0 y1 y2 y3 y4 y5 m2 d2
    obtain ⟨hT, N1, N3, o10, o11, o12, o30, o31, o32, h4, h5, y0, y1, y2, y3, y4, y5, m2, d2⟩ := G
    refine hK.out _ _ (by exact ⟨o10, o11, o12, o30, o31, o32, y0, y1, y2, y3, y4, y5, m2, d2⟩) (fun hHelds5 => ?_)
    clear hK K hHelds4
    try simp only [Act.put]
    refine wpAnyH_take (i := 44) (v := ?sv44) rfl (by kernel_rfl) (by kernel_rfl) (by kernel_rfl) (fun _ _ _ h => panic_put (P := Tryz.prog) (fn := Tryz.f7) (R := (Bools true w)) h) (Or.inl ⟨by rfl, ?sy44⟩) (by assumption) ?_
    case sy44 => (intro w hSw; (try dsimp only at hSw); go_simp); try with_reducible rfl
    change wpAnyH _ _ _ _ _ _ _ (Act.put _ (some 91) _) _
    simp only [Act.put, List.setIfInBounds_toArray, List.set_cons_zero, List.set_cons_succ]
    refine wpAnyH_take (i := 45) (v := ?sv45) rfl (by kernel_rfl) (by kernel_rfl) (by kernel_rfl) (fun _ _ _ h => panic_put (P := Tryz.prog) (fn := Tryz.f7) (R := (Bools true w)) h) (Or.inl ⟨by rfl, ?sy45⟩) (by assumption) ?_
    case sy45 => (intro w hSw; (try dsimp only at hSw); go_simp); try with_reducible rfl
    change wpAnyH _ _ _ _ _ _ _ (Act.put _ (some 92) _) _
    simp only [Act.put, List.setIfInBounds_toArray, List.set_cons_zero, List.set_cons_succ]
    refine wpAnyH_take (i := 46) (v := ?sv46) rfl (by kernel_rfl) (by kernel_rfl) (by kernel_rfl) (fun _ _ _ h => panic_put (P := Tryz.prog) (fn := Tryz.f7) (R := (Bools true w)) h) (Or.inl ⟨by rfl, ?sy46⟩) (by assumption) ?_
    case sy46 => (intro w hSw; (try dsimp only at hSw); go_simp); try with_reducible rfl
    change wpAnyH _ _ _ _ _ _ _ (Act.put _ (some 93) _) _
    simp only [Act.put, List.setIfInBounds_toArray, List.set_cons_zero, List.set_cons_succ]
    refine wpAnyH_take (i := 47) (v := ?sv47) rfl (by kernel_rfl) (by kernel_rfl) (by kernel_rfl) (fun _ _ _ h => panic_put (P := Tryz.prog) (fn := Tryz.f7) (R := (Bools true w)) h) (Or.inl ⟨by rfl, ?sy47⟩) (by assumption) ?_
    case sy47 => (intro w hSw; (try dsimp only at hSw); go_simp); try with_reducible rfl
    change wpAnyH _ _ _ _ _ _ _ (Act.put _ (some 94) _) _
    simp only [Act.put, List.setIfInBounds_toArray, List.set_cons_zero, List.set_cons_succ]
    refine wpAnyH_ready (rs := [48]) (by kernel_rfl) (by simp) ?_
    refine AllReadyH.cons (o := _) rfl (fun K hK => ?_) AllReadyH.nil
    go_simp
    refine (imay_any (K := KK) (x := Iv.zero) HK.out hT (Rd.nil _ _ _ _ (by omega)) (Rd.nil _ _ _ _ (by omega))).mono ?_
    rintro en w' ⟨rfl, b⟩
    rw [mayI_zero]
    replace BB := below_next BB BB.size b (by rfl) (by rfl) (by rfl) (by rfl)
    have G := mv b (by rfl) <| And.intro hT <| And.intro N1 <| And.intro N3 <| And.intro o10 <| And.intro o11 <| And.intro o12 <| And.intro o30 <| And.intro o31 <| And.intro o32 <| And.intro h4 <| And.intro h5 <| And.intro y0 <| And.intro y1 <| And.intro y2 <| And.intro y3 <| And.intro y4 <| And.intro y5 <| And.intro m2 <| d2
    clear b hT N1 N3 o10 o11 o12 o30 o31 o32 h4 h5 y0 y1 y2 y3 y4 y5 m2 d2
    obtain ⟨hT, N1, N3, o10, o11, o12, o30, o31, o32, h4, h5, y0, y1, y2, y3, y4, y5, m2, d2⟩ := G
    refine hK.out _ _ (by exact ⟨o10, o11, o12, o30, o31, o32, y0, y1, y2, y3, y4, y5, m2, d2⟩) (fun hHelds6 => ?_)
    clear hK K hHelds5
    try simp only [Act.put]
    refine wpAnyH_take (i := 49) (v := ?sv49) rfl (by kernel_rfl) (by kernel_rfl) (by kernel_rfl) (fun _ _ _ h => panic_put (P := Tryz.prog) (fn := Tryz.f7) (R := (Bools true w)) h) (Or.inl ⟨by rfl, ?sy49⟩) (by assumption) ?_
    case sy49 => (intro w hSw; (try dsimp only at hSw); go_simp); try with_reducible rfl
    change wpAnyH _ _ _ _ _ _ _ (Act.put _ (some 96) _) _
    simp only [Act.put, List.setIfInBounds_toArray, List.set_cons_zero, List.set_cons_succ]
    refine wpAnyH_take (i := 50) (v := ?sv50) rfl (by kernel_rfl) (by kernel_rfl) (by kernel_rfl) (fun _ _ _ h => panic_put (P := Tryz.prog) (fn := Tryz.f7) (R := (Bools true w)) h) (Or.inl ⟨by rfl, ?sy50⟩) (by assumption) ?_
    case sy50 => (intro w hSw; (try dsimp only at hSw); go_simp); try with_reducible rfl
    change wpAnyH _ _ _ _ _ _ _ (Act.put _ (some 0) _) _
    simp only [Act.put, List.setIfInBounds_toArray, List.set_cons_zero]
    refine wpAnyH_done (by kernel_rfl) ?_ _
    go_wp2
    go_ret
    exact ⟨by first | rfl | simp, BB⟩

end Go.Proofs.YtijflbnfikiaaaaGreatDoor
