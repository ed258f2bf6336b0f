/-
 Contracts of expo's next and power, at 1 with 8 bits, and at 0, at this translation. Condition: the slices read as limbs, the table of math/bits reads as its text lays it.
-/
import Derived.Test.YtldbafifgkobcaaGreatDoorQEf
set_option maxHeartbeats 8000000
set_option maxRecDepth 100000
namespace Go.Proofs.YtldbafifgkobcaaGreatDoor
open Go.RowKit

theorem small60 {m : Nat} (h : m < 2 ^ 60) : m < W ^ 64 := big_W (Nat.lt_trans h (by decide))
theorem nm_known {q k : Nat} {e f : Int} (hq : 2 * q + 1 < 2 ^ 60) (he : e + (k : Int) = f) (h3 : -1048576 ≤ f) (h4 : f ≤ 1048576) : Nm false (2 ^ k * (2 * q + 1)) e 0 false (2 * q + 1) f :=
 .inr ⟨k, q, rfl, .inr (.inr ⟨small60 hq, by omega, rfl, rfl, rfl, he.symm⟩)⟩
theorem okd_173 : OkD false 173 (-6) := .inr ⟨rfl, small60 (by decide), by decide, by decide⟩
theorem okd_step : OkD false 1 (-6) := .inr ⟨rfl, small60 (by decide), by decide, by decide⟩
theorem okd_87 : OkD false 87 (-5) := .inr ⟨rfl, small60 (by decide), by decide, by decide⟩
theorem okd_lo : OkD false 747195619003 (-38) := .inr ⟨rfl, small60 (by decide), by decide, by decide⟩
theorem okd_hi : OkD false 2988782481477 (-40) := .inr ⟨rfl, small60 (by decide), by decide, by decide⟩
theorem bits_173 {w : World} {A : Option Addr} {n c : Nat} (hT : Tab w) (h : Nt w A n c 173) : Calls Tryz.prog 22 #[.agg #[.bool false, .slice A n c, .int .i64 (-6)]] w (Ints 8 w) := by
 have hb : blen 173 = 8 := blen_eq (k := 7) (by decide) (by decide)
 have := bits_ok hT h okd_173
 rwa [hb] at this
theorem of_step {w : World} (hT : Tab w) : Calls Tryz.prog 136 #[.int .i64 1, .int .i64 (-6)] w (ToldIs false 1 (-6) 0 w) :=
 (of_pos (a := 1) hT (by omega)).mono fun _ _ h => told_is h fun _ _ _ _ hp => nm_fun hp (nm_self okd_step)
theorem add_173 {w : World} {A B : Option Addr} {n c m d : Nat} (hT : Tab w) (h : Nt w A n c 173) (h' : Nt w B m d 1) : Calls Tryz.prog 23 #[.agg #[.bool false, .slice A n c, .int .i64 (-6)], .agg #[.bool false, .slice B m d, .int .i64 (-6)]] w (ToldIs false 87 (-5) 0 w) := by
 obtain ⟨K, hK⟩ := scale_has
 refine (dadd_ok (K := K) hK hT h h' okd_173 okd_step).mono fun _ _ h => told_is h fun _ _ _ _ hp => ?_
 have hv : vz K false 87 (-5) = vz K false 173 (-6) + vz K false 1 (-6) := by
  rw [← vz_add]
  have e1 : ((-6 : Int) + ((1 : Nat) : Int)) = -5 := rfl
  have := vz_up (K := K) (s := false) (m := 87) (e := -6) (by omega) 1
  rw [e1] at this
  rw [this]
 obtain ⟨h1, h2, h3, h4⟩ := nmv_hit hK hp okd_87 hv
 exact ⟨h1, h2, h3, h4⟩
theorem down_known {w : World} {A : Option Addr} {n c : Nat} (hT : Tab w) (h : Nt w A n c 747195619003) : Calls Tryz.prog 84 #[.agg #[.bool false, .slice A n c, .int .i64 (-38)], .int .i64 8] w (ToldIs false 173 (-6) 0 w) :=
 (rdown_ok (p := 8) hT h okd_lo (by omega) (by omega)).mono fun _ _ h => told_is h fun _ _ _ _ hp => by
  have hb : blen 747195619003 = 40 := blen_eq (k := 39) (by decide) (by decide)
  have e1 : rdN 8 747195619003 (false != false) = 2 ^ 32 * (2 * 86 + 1) := by unfold rdN cutN; rw [hb]; decide
  unfold RdTold at hp
  rw [e1] at hp
  exact nm_fun hp (nm_known (q := 86) (k := 32) (e := -38) (f := -6) (by decide) (by decide) (by decide) (by decide))
theorem cmp_known {w : World} {A B : Option Addr} {n c m d : Nat} (hT : Tab w) (h : Nt w A n c 2988782481477) (h' : Nt w B m d 87) : Calls Tryz.prog 20 #[.agg #[.bool false, .slice A n c, .int .i64 (-40)], .agg #[.bool false, .slice B m d, .int .i64 (-5)]] w (Ints (-1) w) := by
 obtain ⟨K, hK⟩ := scale_has
 refine dcmp_is hK hT h h' okd_hi okd_87 ?_
 have e1 : ((-40 : Int) + ((35 : Nat) : Int)) = -5 := rfl
 have := vz_up (K := K) (s := false) (m := 87) (e := -40) (by omega) 35
 rw [e1] at this
 unfold cmpV
 rw [if_pos]
 rw [this]
 have e2 : 87 * 2 ^ 35 = 2988782481477 + 514756539 := by decide
 have hz : (0 : Int) < vz K false 514756539 (-40) := by
  have h0 : vz K false 514756539 (-40) ≠ 0 := fun h => by have := vz_eq_zero.1 h; omega
  have h1 : 0 ≤ vz K false 514756539 (-40) := by
   unfold vz sg
   rw [if_neg Bool.false_ne_true, Int.one_mul]
   exact Int.natCast_nonneg _
  omega
 rw [e2, vz_add]
 omega

theorem enext_known {w : World} {A1 : Option Addr} {n1 c1 : Nat} (hT : Tab w) (h1 : Nt w A1 n1 c1 173) :
  Calls Tryz.prog 93 #[.agg #[.bool false, .slice A1 n1 c1, .int .i64 (-6)], .int .i64 8] w (Goods false 87 (-5) w) := by
 have BB := two_below w (.cells #[.bool false, .slice A1 n1 c1, .int .i64 (-6)] 24) (.cells #[.bool false, .slice none 0 0, .int .i64 0] 24)
 obtain ⟨a0, a1, a2⟩ := ((Box.new w false A1 n1 c1 (-6)).alloc (.cells #[.bool false, .slice none 0 0, .int .i64 0] 24)).held
 have r := box_one w (.cells #[.bool false, .slice A1 n1 c1, .int .i64 (-6)] 24) false none 0 0 0
 have G := mv BB rfl <| And.intro hT <| h1
 clear hT h1
 obtain ⟨hT, h1⟩ := G
 go_enter Tryz.func93, Tryz.ntmps93
 go_upto_region 1 with fail
 go_cut [5] (fun v5 wc => ∃ (g5 : Nat) (A5 : Option Addr) (n5 c5 : Nat), v5 = .pointer (some ⟨g5, 0, none⟩) ∧ w.heap.size + 1 < g5 ∧ Box wc g5 false A5 n5 c5 (-6) ∧ Nt wc A5 n5 c5 1 ∧ Below w.heap.size w wc ∧ Below ((w.alloc (.cells #[.bool false, .slice A1 n1 c1, .int .i64 (-6)] 24)).alloc (.cells #[.bool false, .slice none 0 0, .int .i64 0] 24)).heap.size ((w.alloc (.cells #[.bool false, .slice A1 n1 c1, .int .i64 (-6)] 24)).alloc (.cells #[.bool false, .slice none 0 0, .int .i64 0] 24)) wc)
 case first =>
  have BD := Below.refl ((w.alloc (.cells #[.bool false, .slice A1 n1 c1, .int .i64 (-6)] 24)).alloc (.cells #[.bool false, .slice none 0 0, .int .i64 0] 24)).heap.size ((w.alloc (.cells #[.bool false, .slice A1 n1 c1, .int .i64 (-6)] 24)).alloc (.cells #[.bool false, .slice none 0 0, .int .i64 0] 24))
  clear r
  have b : Below ((w.alloc (.cells #[.bool false, .slice A1 n1 c1, .int .i64 (-6)] 24)).alloc (.cells #[.bool false, .slice none 0 0, .int .i64 0] 24)).heap.size ((w.alloc (.cells #[.bool false, .slice A1 n1 c1, .int .i64 (-6)] 24)).alloc (.cells #[.bool false, .slice none 0 0, .int .i64 0] 24)) (World.drew ((w.alloc (.cells #[.bool false, .slice A1 n1 c1, .int .i64 (-6)] 24)).alloc (.cells #[.bool false, .slice none 0 0, .int .i64 0] 24))) := below_drewN (Below.refl _ _) 1
  replace BD := below_next BD BD.size b rfl rfl rfl rfl
  replace BB := bnx BB b
  have G := mv b rfl (J5 hT h1 a0 a1 a2)
  clear b hT h1 a0 a1 a2
  obtain ⟨hT, h1, a0, a1, a2⟩ := G
  refine wp_region_held_drew (S := fun w' => w'.cell? ⟨w.heap.size, 0, none⟩ = some (.bool false) ∧ w'.cell? ⟨w.heap.size, 1, none⟩ = some (.slice A1 n1 c1) ∧ w'.cell? ⟨w.heap.size, 2, none⟩ = some (.int .i64 (-6))) (by kernel_rfl) (by exact ⟨a0, a1, a2⟩) (fun hHeldt0 => ?_)
  generalize World.drew ((w.alloc (.cells #[.bool false, .slice A1 n1 c1, .int .i64 (-6)] 24)).alloc (.cells #[.bool false, .slice none 0 0, .int .i64 0] 24)) = wd at *
  refine tl 0 ?_
  refine tl 1 ?_
  refine tl 2 ?_
  refine tl 5 ?_
  refine wpAnyH_ready (rs := [3, 11]) (by kernel_rfl) (by simp) ?_
  refine AllReadyH.cons (o := _) rfl (fun K hK => ?_) (AllReadyH.cons (o := _) rfl (fun K hK => ?_) (AllReadyH.nil))
  ·go_simp
   refine (bits_173 hT h1).mono ?_
   rintro en u1 ⟨rfl, b⟩
   replace BD := below_next BD BD.size b (by rfl) (by rfl) (by rfl) (by rfl)
   replace BB := below_next BB BB.size b (by rfl) (by rfl) (by rfl) (by rfl)
   have G := mv b (by rfl) <| And.intro hT <| And.intro h1 <| And.intro a0 <| And.intro a1 <| a2
   clear b hT h1 a0 a1 a2
   obtain ⟨hT, h1, a0, a1, a2⟩ := G
   refine hK.out _ _ (by exact ⟨a0, a1, a2⟩) (fun hHeldt1 => ?_)
   clear hK K hHeldt0
   try simp only [Act.put]
   refine tl 4 ?_
   refine tl 6 ?_
   refine wpAnyH_ready (rs := [7, 11]) (by kernel_rfl) (by simp) ?_
   refine AllReadyH.cons (o := _) rfl (fun K hK => ?_) (AllReadyH.cons (o := _) rfl (fun K hK => ?_) (AllReadyH.nil))
   ·go_simp
    refine (of_step hT).mono ?_
    rintro en u2 ⟨A3, n3, c3, rfl, h3, b⟩
    replace BD := below_next BD BD.size b (by rfl) (by rfl) (by rfl) (by rfl)
    replace BB := below_next BB BB.size b (by rfl) (by rfl) (by rfl) (by rfl)
    have G := mv b (by rfl) <| And.intro hT <| And.intro h1 <| And.intro a0 <| And.intro a1 <| a2
    clear b hT h1 a0 a1 a2
    obtain ⟨hT, h1, a0, a1, a2⟩ := G
    refine hK.out _ _ (by exact ⟨a0, a1, a2⟩) (fun hHeldt2 => ?_)
    clear hK K hHeldt1
    try simp only [Act.put]
    refine tl 8 ?_
    refine tl 9 ?_
    refine wpAnyH_ready (rs := [10, 11]) (by kernel_rfl) (by simp) ?_
    refine AllReadyH.cons (o := _) rfl (fun K hK => ?_) (AllReadyH.cons (o := _) rfl (fun K hK => ?_) (AllReadyH.nil))
    ·go_simp
     refine (must_ok h3).mono ?_
     rintro en u3 ⟨A4, n4, c4, rfl, h4, b⟩
     clear h3
     replace BD := below_next BD BD.size b (by rfl) (by rfl) (by rfl) (by rfl)
     replace BB := below_next BB BB.size b (by rfl) (by rfl) (by rfl) (by rfl)
     have G := mv b (by rfl) <| And.intro hT <| And.intro h1 <| And.intro a0 <| And.intro a1 <| a2
     clear b hT h1 a0 a1 a2
     obtain ⟨hT, h1, a0, a1, a2⟩ := G
     refine hK.out _ _ (by exact ⟨a0, a1, a2⟩) (fun hHeldt3 => ?_)
     clear hK K hHeldt2
     try simp only [Act.put]
     refine rdy 11 fun K hK => ?_
     go_simp
     have gl5 : w.heap.size + 1 < u3.heap.size := by have := BD.size; simp at this; omega
     have gd5 : ((w.alloc (.cells #[.bool false, .slice A1 n1 c1, .int .i64 (-6)] 24)).alloc (.cells #[.bool false, .slice none 0 0, .int .i64 0] 24)).heap.size ≤ u3.heap.size := BD.size
     have p5 := Box.new u3 false none 0 0 0
     have b := below_alloc u3 (.cells #[.bool false, .slice none 0 0, .int .i64 0] 24)
     replace BD := below_next BD BD.size b (by rfl) (by rfl) (by rfl) (by rfl)
     replace BB := below_next BB BB.size b (by rfl) (by rfl) (by rfl) (by rfl)
     have G := mv b (by rfl) <| And.intro hT <| And.intro h1 <| And.intro a0 <| And.intro a1 <| And.intro a2 <| h4
     clear b hT h1 a0 a1 a2 h4
     obtain ⟨hT, h1, a0, a1, a2, h4⟩ := G
     generalize u3.alloc (.cells #[.bool false, .slice none 0 0, .int .i64 0] 24) = u4 at *
     generalize u3.heap.size = g5 at *
     refine hK.out _ _ (by exact ⟨a0, a1, a2⟩) (fun hHeldt4 => ?_)
     clear hK K hHeldt3
     try simp only [Act.put]
     refine rdy 12 fun K hK => ?_
     obtain ⟨f0, f1, f2⟩ := p5.open
     obtain ⟨z0, z1, z2⟩ := p5.held
     go_simp
     replace a0 := nr_oth (g := g5) (u0 := .bool false) (u1 := .slice A4 n4 c4) (u2 := .int .i64 (-6)) a0 (by omega)
     replace a1 := nr_oth (g := g5) (u0 := .bool false) (u1 := .slice A4 n4 c4) (u2 := .int .i64 (-6)) a1 (by omega)
     replace a2 := nr_oth (g := g5) (u0 := .bool false) (u1 := .slice A4 n4 c4) (u2 := .int .i64 (-6)) a2 (by omega)
     replace h4 := h4.put3 p5 (.bool false) (.slice A4 n4 c4) (.int .i64 (-6))
     replace BB := below_put3 (g := g5) BB (by omega) (.bool false) (.slice A4 n4 c4) (.int .i64 (-6))
     replace BD := below_put3 (g := g5) BD gd5 (.bool false) (.slice A4 n4 c4) (.int .i64 (-6))
     replace p5 := p5.put false A4 n4 c4 (-6)
     clear f0 f1 f2 z0 z1 z2 hT h1
     refine hK.out _ _ (by exact ⟨a0, a1, a2⟩) (fun hHeldt5 => ?_)
     clear hK K hHeldt4
     try simp only [Act.put]
     refine wpAnyH_done (by kernel_rfl) ?_ _
     go_wp2_with fail
     go_meet
     case rel => exact ⟨g5, A4, n4, c4, rfl, gl5, p5, h4, BB, BD⟩
    ·go_simp
     have gl5 : w.heap.size + 1 < u2.heap.size := by have := BD.size; simp at this; omega
     have gd5 : ((w.alloc (.cells #[.bool false, .slice A1 n1 c1, .int .i64 (-6)] 24)).alloc (.cells #[.bool false, .slice none 0 0, .int .i64 0] 24)).heap.size ≤ u2.heap.size := BD.size
     have p5 := Box.new u2 false none 0 0 0
     have b := below_alloc u2 (.cells #[.bool false, .slice none 0 0, .int .i64 0] 24)
     replace BD := below_next BD BD.size b (by rfl) (by rfl) (by rfl) (by rfl)
     replace BB := below_next BB BB.size b (by rfl) (by rfl) (by rfl) (by rfl)
     have G := mv b (by rfl) <| And.intro hT <| And.intro h1 <| And.intro a0 <| And.intro a1 <| And.intro a2 <| h3
     clear b hT h1 a0 a1 a2 h3
     obtain ⟨hT, h1, a0, a1, a2, h3⟩ := G
     generalize u2.alloc (.cells #[.bool false, .slice none 0 0, .int .i64 0] 24) = u3 at *
     generalize u2.heap.size = g5 at *
     refine hK.out _ _ (by exact ⟨a0, a1, a2⟩) (fun hHeldt3 => ?_)
     clear hK K hHeldt2
     try simp only [Act.put]
     refine rdy 10 fun K hK => ?_
     go_simp
     refine (must_ok h3).mono ?_
     rintro en u4 ⟨A4, n4, c4, rfl, h4, b⟩
     clear h3
     replace BD := below_next BD BD.size b (by rfl) (by rfl) (by rfl) (by rfl)
     replace BB := below_next BB BB.size b (by rfl) (by rfl) (by rfl) (by rfl)
     have G := mv b (by rfl) <| And.intro hT <| And.intro h1 <| And.intro a0 <| And.intro a1 <| And.intro a2 <| p5
     clear b hT h1 a0 a1 a2 p5
     obtain ⟨hT, h1, a0, a1, a2, p5⟩ := G
     refine hK.out _ _ (by exact ⟨a0, a1, a2⟩) (fun hHeldt4 => ?_)
     clear hK K hHeldt3
     try simp only [Act.put]
     refine rdy 12 fun K hK => ?_
     obtain ⟨f0, f1, f2⟩ := p5.open
     obtain ⟨z0, z1, z2⟩ := p5.held
     go_simp
     replace a0 := nr_oth (g := g5) (u0 := .bool false) (u1 := .slice A4 n4 c4) (u2 := .int .i64 (-6)) a0 (by omega)
     replace a1 := nr_oth (g := g5) (u0 := .bool false) (u1 := .slice A4 n4 c4) (u2 := .int .i64 (-6)) a1 (by omega)
     replace a2 := nr_oth (g := g5) (u0 := .bool false) (u1 := .slice A4 n4 c4) (u2 := .int .i64 (-6)) a2 (by omega)
     replace h4 := h4.put3 p5 (.bool false) (.slice A4 n4 c4) (.int .i64 (-6))
     replace BB := below_put3 (g := g5) BB (by omega) (.bool false) (.slice A4 n4 c4) (.int .i64 (-6))
     replace BD := below_put3 (g := g5) BD gd5 (.bool false) (.slice A4 n4 c4) (.int .i64 (-6))
     replace p5 := p5.put false A4 n4 c4 (-6)
     clear f0 f1 f2 z0 z1 z2 hT h1
     refine hK.out _ _ (by exact ⟨a0, a1, a2⟩) (fun hHeldt5 => ?_)
     clear hK K hHeldt4
     try simp only [Act.put]
     refine wpAnyH_done (by kernel_rfl) ?_ _
     go_wp2_with fail
     go_meet
     case rel => exact ⟨g5, A4, n4, c4, rfl, gl5, p5, h4, BB, BD⟩
   ·go_simp
    have gl5 : w.heap.size + 1 < u1.heap.size := by have := BD.size; simp at this; omega
    have gd5 : ((w.alloc (.cells #[.bool false, .slice A1 n1 c1, .int .i64 (-6)] 24)).alloc (.cells #[.bool false, .slice none 0 0, .int .i64 0] 24)).heap.size ≤ u1.heap.size := BD.size
    have p5 := Box.new u1 false none 0 0 0
    have b := below_alloc u1 (.cells #[.bool false, .slice none 0 0, .int .i64 0] 24)
    replace BD := below_next BD BD.size b (by rfl) (by rfl) (by rfl) (by rfl)
    replace BB := below_next BB BB.size b (by rfl) (by rfl) (by rfl) (by rfl)
    have G := mv b (by rfl) <| And.intro hT <| And.intro h1 <| And.intro a0 <| And.intro a1 <| a2
    clear b hT h1 a0 a1 a2
    obtain ⟨hT, h1, a0, a1, a2⟩ := G
    generalize u1.alloc (.cells #[.bool false, .slice none 0 0, .int .i64 0] 24) = u2 at *
    generalize u1.heap.size = g5 at *
    refine hK.out _ _ (by exact ⟨a0, a1, a2⟩) (fun hHeldt2 => ?_)
    clear hK K hHeldt1
    try simp only [Act.put]
    refine rdy 7 fun K hK => ?_
    go_simp
    refine (of_step hT).mono ?_
    rintro en u3 ⟨A3, n3, c3, rfl, h3, b⟩
    replace BD := below_next BD BD.size b (by rfl) (by rfl) (by rfl) (by rfl)
    replace BB := below_next BB BB.size b (by rfl) (by rfl) (by rfl) (by rfl)
    have G := mv b (by rfl) <| And.intro hT <| And.intro h1 <| And.intro a0 <| And.intro a1 <| And.intro a2 <| p5
    clear b hT h1 a0 a1 a2 p5
    obtain ⟨hT, h1, a0, a1, a2, p5⟩ := G
    refine hK.out _ _ (by exact ⟨a0, a1, a2⟩) (fun hHeldt3 => ?_)
    clear hK K hHeldt2
    try simp only [Act.put]
    refine tl 8 ?_
    refine tl 9 ?_
    refine rdy 10 fun K hK => ?_
    go_simp
    refine (must_ok h3).mono ?_
    rintro en u4 ⟨A4, n4, c4, rfl, h4, b⟩
    clear h3
    replace BD := below_next BD BD.size b (by rfl) (by rfl) (by rfl) (by rfl)
    replace BB := below_next BB BB.size b (by rfl) (by rfl) (by rfl) (by rfl)
    have G := mv b (by rfl) <| And.intro hT <| And.intro h1 <| And.intro a0 <| And.intro a1 <| And.intro a2 <| p5
    clear b hT h1 a0 a1 a2 p5
    obtain ⟨hT, h1, a0, a1, a2, p5⟩ := G
    refine hK.out _ _ (by exact ⟨a0, a1, a2⟩) (fun hHeldt4 => ?_)
    clear hK K hHeldt3
    try simp only [Act.put]
    refine rdy 12 fun K hK => ?_
    obtain ⟨f0, f1, f2⟩ := p5.open
    obtain ⟨z0, z1, z2⟩ := p5.held
    go_simp
    replace a0 := nr_oth (g := g5) (u0 := .bool false) (u1 := .slice A4 n4 c4) (u2 := .int .i64 (-6)) a0 (by omega)
    replace a1 := nr_oth (g := g5) (u0 := .bool false) (u1 := .slice A4 n4 c4) (u2 := .int .i64 (-6)) a1 (by omega)
    replace a2 := nr_oth (g := g5) (u0 := .bool false) (u1 := .slice A4 n4 c4) (u2 := .int .i64 (-6)) a2 (by omega)
    replace h4 := h4.put3 p5 (.bool false) (.slice A4 n4 c4) (.int .i64 (-6))
    replace BB := below_put3 (g := g5) BB (by omega) (.bool false) (.slice A4 n4 c4) (.int .i64 (-6))
    replace BD := below_put3 (g := g5) BD gd5 (.bool false) (.slice A4 n4 c4) (.int .i64 (-6))
    replace p5 := p5.put false A4 n4 c4 (-6)
    clear f0 f1 f2 z0 z1 z2 hT h1
    refine hK.out _ _ (by exact ⟨a0, a1, a2⟩) (fun hHeldt5 => ?_)
    clear hK K hHeldt4
    try simp only [Act.put]
    refine wpAnyH_done (by kernel_rfl) ?_ _
    go_wp2_with fail
    go_meet
    case rel => exact ⟨g5, A4, n4, c4, rfl, gl5, p5, h4, BB, BD⟩
  ·go_simp
   have gl5 : w.heap.size + 1 < wd.heap.size := by have := BD.size; simp at this; omega
   have gd5 : ((w.alloc (.cells #[.bool false, .slice A1 n1 c1, .int .i64 (-6)] 24)).alloc (.cells #[.bool false, .slice none 0 0, .int .i64 0] 24)).heap.size ≤ wd.heap.size := BD.size
   have p5 := Box.new wd false none 0 0 0
   have b := below_alloc wd (.cells #[.bool false, .slice none 0 0, .int .i64 0] 24)
   replace BD := below_next BD BD.size b (by rfl) (by rfl) (by rfl) (by rfl)
   replace BB := below_next BB BB.size b (by rfl) (by rfl) (by rfl) (by rfl)
   have G := mv b (by rfl) <| And.intro hT <| And.intro h1 <| And.intro a0 <| And.intro a1 <| a2
   clear b hT h1 a0 a1 a2
   obtain ⟨hT, h1, a0, a1, a2⟩ := G
   generalize wd.alloc (.cells #[.bool false, .slice none 0 0, .int .i64 0] 24) = u1 at *
   generalize wd.heap.size = g5 at *
   refine hK.out _ _ (by exact ⟨a0, a1, a2⟩) (fun hHeldt1 => ?_)
   clear hK K hHeldt0
   try simp only [Act.put]
   refine rdy 3 fun K hK => ?_
   go_simp
   refine (bits_173 hT h1).mono ?_
   rintro en u2 ⟨rfl, b⟩
   replace BD := below_next BD BD.size b (by rfl) (by rfl) (by rfl) (by rfl)
   replace BB := below_next BB BB.size b (by rfl) (by rfl) (by rfl) (by rfl)
   have G := mv b (by rfl) <| And.intro hT <| And.intro h1 <| And.intro a0 <| And.intro a1 <| And.intro a2 <| p5
   clear b hT h1 a0 a1 a2 p5
   obtain ⟨hT, h1, a0, a1, a2, p5⟩ := G
   refine hK.out _ _ (by exact ⟨a0, a1, a2⟩) (fun hHeldt2 => ?_)
   clear hK K hHeldt1
   try simp only [Act.put]
   refine tl 4 ?_
   refine tl 6 ?_
   refine rdy 7 fun K hK => ?_
   go_simp
   refine (of_step hT).mono ?_
   rintro en u3 ⟨A3, n3, c3, rfl, h3, b⟩
   replace BD := below_next BD BD.size b (by rfl) (by rfl) (by rfl) (by rfl)
   replace BB := below_next BB BB.size b (by rfl) (by rfl) (by rfl) (by rfl)
   have G := mv b (by rfl) <| And.intro hT <| And.intro h1 <| And.intro a0 <| And.intro a1 <| And.intro a2 <| p5
   clear b hT h1 a0 a1 a2 p5
   obtain ⟨hT, h1, a0, a1, a2, p5⟩ := G
   refine hK.out _ _ (by exact ⟨a0, a1, a2⟩) (fun hHeldt3 => ?_)
   clear hK K hHeldt2
   try simp only [Act.put]
   refine tl 8 ?_
   refine tl 9 ?_
   refine rdy 10 fun K hK => ?_
   go_simp
   refine (must_ok h3).mono ?_
   rintro en u4 ⟨A4, n4, c4, rfl, h4, b⟩
   clear h3
   replace BD := below_next BD BD.size b (by rfl) (by rfl) (by rfl) (by rfl)
   replace BB := below_next BB BB.size b (by rfl) (by rfl) (by rfl) (by rfl)
   have G := mv b (by rfl) <| And.intro hT <| And.intro h1 <| And.intro a0 <| And.intro a1 <| And.intro a2 <| p5
   clear b hT h1 a0 a1 a2 p5
   obtain ⟨hT, h1, a0, a1, a2, p5⟩ := G
   refine hK.out _ _ (by exact ⟨a0, a1, a2⟩) (fun hHeldt4 => ?_)
   clear hK K hHeldt3
   try simp only [Act.put]
   refine rdy 12 fun K hK => ?_
   obtain ⟨f0, f1, f2⟩ := p5.open
   obtain ⟨z0, z1, z2⟩ := p5.held
   go_simp
   replace a0 := nr_oth (g := g5) (u0 := .bool false) (u1 := .slice A4 n4 c4) (u2 := .int .i64 (-6)) a0 (by omega)
   replace a1 := nr_oth (g := g5) (u0 := .bool false) (u1 := .slice A4 n4 c4) (u2 := .int .i64 (-6)) a1 (by omega)
   replace a2 := nr_oth (g := g5) (u0 := .bool false) (u1 := .slice A4 n4 c4) (u2 := .int .i64 (-6)) a2 (by omega)
   replace h4 := h4.put3 p5 (.bool false) (.slice A4 n4 c4) (.int .i64 (-6))
   replace BB := below_put3 (g := g5) BB (by omega) (.bool false) (.slice A4 n4 c4) (.int .i64 (-6))
   replace BD := below_put3 (g := g5) BD gd5 (.bool false) (.slice A4 n4 c4) (.int .i64 (-6))
   replace p5 := p5.put false A4 n4 c4 (-6)
   clear f0 f1 f2 z0 z1 z2 hT h1
   refine hK.out _ _ (by exact ⟨a0, a1, a2⟩) (fun hHeldt5 => ?_)
   clear hK K hHeldt4
   try simp only [Act.put]
   refine wpAnyH_done (by kernel_rfl) ?_ _
   go_wp2_with fail
   go_meet
   case rel => exact ⟨g5, A4, n4, c4, rfl, gl5, p5, h4, BB, BD⟩
 case rest =>
  obtain ⟨g5, A5, n5, c5, rfl, gl5, p5, h5, BB2, b⟩ := hcut
  obtain ⟨hT, h1, a0, a1, a2, r⟩ := mv b rfl <| And.intro hT <| And.intro h1 <| And.intro a0 <| And.intro a1 <| And.intro a2 <| r
  replace BB := BB2
  clear BB2 b
  obtain ⟨y0, y1, y2⟩ := p5.held
  go_wp2_with fail
  refine (add_173 hT h1 h5).mono ?_
  rintro en w2 ⟨A6, n6, c6, rfl, h6, b⟩
  clear hT h1 a0 a1 a2 y0 y1 y2 p5 h5
  replace BB := bnx BB b
  replace r := mv b rfl r
  clear b
  go_wp2_with fail
  refine (must_ok h6).mono ?_
  rintro en w3 ⟨A7, n7, c7, rfl, h7, b⟩
  clear h6
  replace BB := bnx BB b
  replace r := mv b rfl r
  clear b
  obtain ⟨f0, f1, f2⟩ := r.open
  obtain ⟨z0, z1, z2⟩ := r.held
  go_wp2
  have qq := r.put false A7 n7 c7 (-5)
  have hN := h7.put3 r (.bool false) (.slice A7 n7 c7) (.int .i64 (-5))
  have HB3 := below_put3 (g := w.heap.size + 1) BB (by omega) (.bool false) (.slice A7 n7 c7) (.int .i64 (-5))
  obtain ⟨z0, z1, z2⟩ := qq.held
  exact bodyPost_ret (v := .agg #[.bool false, .slice A7 n7 c7, .int .i64 (-5)]) (by simp [results, Tryz.results93, go_sem, z0, z1, z2]) rfl ⟨_, _, _, rfl, hN, HB3⟩

theorem epower_1 {w : World} {A1 : Option Addr} {n1 c1 : Nat} (hT : Tab w) (h1 : Nt w A1 n1 c1 1) (hbd : ∀ (W2 : World) (A : Option Addr) (n c : Nat), Tab W2 → Nt W2 A n c 1 → Calls Tryz.prog 92 #[.agg #[.bool false, .slice A n c, .int .i64 0], .int .i64 40] W2 (BetIs false 747195619003 (-38) false 2988782481477 (-40) W2)) :
  Calls Tryz.prog 39 #[.agg #[.bool false, .slice A1 n1 c1, .int .i64 0], .int .i64 8, .bool false] w (Goods false 173 (-6) w) := by
 have BB := two_below w (.cells #[.bool false, .slice A1 n1 c1, .int .i64 0] 24) (.cells #[.bool false, .slice none 0 0, .int .i64 0] 24)
 obtain ⟨a0, a1, a2⟩ := ((Box.new w false A1 n1 c1 0).alloc (.cells #[.bool false, .slice none 0 0, .int .i64 0] 24)).held
 have r := box_one w (.cells #[.bool false, .slice A1 n1 c1, .int .i64 0] 24) false none 0 0 0
 have HBD := Lib.hid hbd
 clear hbd
 have G := mv BB rfl <| And.intro hT <| h1
 clear hT h1
 obtain ⟨hT, h1⟩ := G
 go_enter Tryz.func39, Tryz.ntmps39
 go_wp2
 go_step3
 go_wp2_with fail
 refine (sign_is (z := 1) hT h1 okd_1 (by decide)).mono ?_
 rintro en w1 ⟨rfl, b⟩
 replace BB := bnx BB b
 have G := mv b rfl (J6 hT h1 r a0 a1 a2)
 clear b hT h1 r a0 a1 a2
 obtain ⟨hT, h1, r, a0, a1, a2⟩ := G
 go_wp2
 go_step3
 go_wp2
 go_loopg [7] 0 (fun gk v7 wr => v7 = .int .i64 40 ∧ wr = w1)
 case atStart => exact ⟨rfl, rfl⟩
 case round =>
  obtain ⟨rfl, rfl⟩ := hrel
  go_wp2_with fail
  refine (HBD.out _ A1 n1 c1 hT h1).mono ?_
  rintro en w2 ⟨A3, n3, c3, A4, n4, c4, rfl, h3, h4, b⟩
  clear a0 a1 a2
  replace BB := bnx BB b
  have G := mv b rfl (J3 hT h1 r)
  clear b hT h1 r
  obtain ⟨hT, h1, r⟩ := G
  obtain ⟨x0, x1, x2, x3, x4, x5⟩ := (Ibx.new w2 false A3 n3 c3 (-38) false A4 n4 c4 (-40)).held
  have b := below_alloc w2 (.cells #[.bool false, .slice A3 n3 c3, .int .i64 (-38), .bool false, .slice A4 n4 c4, .int .i64 (-40)] 33)
  replace BB := bnx BB b
  have G := mv b rfl (J5 hT h1 r h3 h4)
  clear b hT h1 r h3 h4
  obtain ⟨hT, h1, r, h3, h4⟩ := G
  go_wp2_with fail
  refine (down_known hT h3).mono ?_
  rintro en w3 ⟨A5, n5, c5, rfl, h5, b⟩
  clear x0 x1 x2 h3
  replace BB := bnx BB b
  have G := mv b rfl (J7 hT h1 r h4 x3 x4 x5)
  clear b hT h1 r h4 x3 x4 x5
  obtain ⟨hT, h1, r, h4, x3, x4, x5⟩ := G
  go_wp2_with fail
  refine (must_ok h5).mono ?_
  rintro en w4 ⟨A6, n6, c6, rfl, h6, b⟩
  clear h5
  replace BB := bnx BB b
  have G := mv b rfl (J7 hT h1 r h4 x3 x4 x5)
  clear b hT h1 r h4 x3 x4 x5
  obtain ⟨hT, h1, r, h4, x3, x4, x5⟩ := G
  obtain ⟨y0, y1, y2⟩ := (Box.new w4 false A6 n6 c6 (-6)).held
  have b := below_alloc w4 (.cells #[.bool false, .slice A6 n6 c6, .int .i64 (-6)] 24)
  replace BB := bnx BB b
  have G := mv b rfl (J8 hT h1 r h4 x3 x4 x5 h6)
  clear b hT h1 r h4 x3 x4 x5 h6
  obtain ⟨hT, h1, r, h4, x3, x4, x5, h6⟩ := G
  go_wp2_with fail
  refine (enext_known hT h6).mono ?_
  rintro en w5 ⟨A7, n7, c7, rfl, h7, b⟩
  replace BB := bnx BB b
  have G := mv b rfl (J11 hT h1 r h4 x3 x4 x5 h6 y0 y1 y2)
  clear b hT h1 r h4 x3 x4 x5 h6 y0 y1 y2
  obtain ⟨hT, h1, r, h4, x3, x4, x5, h6, y0, y1, y2⟩ := G
  obtain ⟨z0, z1, z2⟩ := (Box.new w5 false A7 n7 c7 (-5)).held
  have b := below_alloc w5 (.cells #[.bool false, .slice A7 n7 c7, .int .i64 (-5)] 24)
  replace BB := bnx BB b
  have G := mv b rfl (J12 hT h1 r h4 x3 x4 x5 h6 y0 y1 y2 h7)
  clear b hT h1 r h4 x3 x4 x5 h6 y0 y1 y2 h7
  obtain ⟨hT, h1, r, h4, x3, x4, x5, h6, y0, y1, y2, h7⟩ := G
  go_wp2_with fail
  refine (cmp_known hT h4 h7).mono ?_
  rintro en w6 ⟨rfl, b⟩
  clear x3 x4 x5
  replace BB := bnx BB b
  have G := mv b rfl (J12 hT h1 r h4 h6 y0 y1 y2 h7 z0 z1 z2)
  clear b hT h1 r h4 h6 y0 y1 y2 h7 z0 z1 z2
  obtain ⟨hT, h1, r, h4, h6, y0, y1, y2, h7, z0, z1, z2⟩ := G
  clear hT h1 h4 h7 z0 z1 z2
  obtain ⟨f0, f1, f2⟩ := r.open
  obtain ⟨z0, z1, z2⟩ := r.held
  go_wp2
  first | rw [Exit.noGoto_ret] | skip
  have qq := r.put false A6 n6 c6 (-6)
  have hN := h6.put3 r (.bool false) (.slice A6 n6 c6) (.int .i64 (-6))
  have HB3 := below_put3 (g := w.heap.size + 1) BB (by omega) (.bool false) (.slice A6 n6 c6) (.int .i64 (-6))
  obtain ⟨z0, z1, z2⟩ := qq.held
  exact bodyPost_ret (v := .agg #[.bool false, .slice A6 n6 c6, .int .i64 (-6)]) (by simp [results, Tryz.results39, go_sem, z0, z1, z2]) rfl ⟨_, _, _, rfl, hN, HB3⟩

theorem epower_0 {w : World} {A1 : Option Addr} {n1 c1 : Nat} {p : Int} {up : Bool} (hT : Tab w) (h1 : Nt w A1 n1 c1 0) :
  Calls Tryz.prog 39 #[.agg #[.bool false, .slice A1 n1 c1, .int .i64 0], .int .i64 p, .bool up] w (Goods false 1 0 w) := by
 have BB := two_below w (.cells #[.bool false, .slice A1 n1 c1, .int .i64 0] 24) (.cells #[.bool false, .slice none 0 0, .int .i64 0] 24)
 obtain ⟨a0, a1, a2⟩ := ((Box.new w false A1 n1 c1 0).alloc (.cells #[.bool false, .slice none 0 0, .int .i64 0] 24)).held
 have r := box_one w (.cells #[.bool false, .slice A1 n1 c1, .int .i64 0] 24) false none 0 0 0
 have G := mv BB rfl <| And.intro hT <| h1
 clear hT h1
 obtain ⟨hT, h1⟩ := G
 go_enter Tryz.func39, Tryz.ntmps39
 go_wp2
 go_step3
 go_wp2_with fail
 refine (sign_is (z := 0) hT h1 okd_zero (by decide)).mono ?_
 rintro en w1 ⟨rfl, b⟩
 clear a0 a1 a2
 replace BB := bnx BB b
 have G := mv b rfl (J3 hT h1 r)
 clear b hT h1 r
 obtain ⟨hT, h1, r⟩ := G
 go_wp2_with fail
 refine (eone_ok hT).mono ?_
 rintro en w2 ⟨A3, n3, c3, rfl, h3, b⟩
 clear hT h1
 replace BB := bnx BB b
 replace r := mv b rfl r
 clear b
 obtain ⟨f0, f1, f2⟩ := r.open
 obtain ⟨z0, z1, z2⟩ := r.held
 go_wp2
 first | rw [Exit.noGoto_ret] | skip
 have qq := r.put false A3 n3 c3 0
 have hN := h3.put3 r (.bool false) (.slice A3 n3 c3) (.int .i64 0)
 have HB3 := below_put3 (g := w.heap.size + 1) BB (by omega) (.bool false) (.slice A3 n3 c3) (.int .i64 0)
 obtain ⟨z0, z1, z2⟩ := qq.held
 exact bodyPost_ret (v := .agg #[.bool false, .slice A3 n3 c3, .int .i64 0]) (by simp [results, Tryz.results39, go_sem, z0, z1, z2]) rfl ⟨_, _, _, rfl, hN, HB3⟩

end Go.Proofs.YtldbafifgkobcaaGreatDoor
