/-
 Contract of the statements' own told of layer 11: it returns true, at this translation. Condition: the slices read as limbs, the table of math/bits reads as its text lays it.
-/
import Derived.Test.YtlpjlmophlikeaaGreatDoorQHe
set_option maxHeartbeats 8000000
set_option maxRecDepth 100000
namespace Go.Proofs.YtlpjlmophlikeaaGreatDoor
open Go.RowKit


def xA : Iv := ⟨Rw.zero, q1⟩
def xB : Iv := ⟨q1, q1⟩
def xAB (i : Nat) : Iv := if i = 0 then xA else xB
theorem zero_v (K : Nat) : Rw.zero.v K = 0 := vz_zero K false 0
theorem q1_v (K : Nat) : 0 < q1.v K := by
 unfold q1
 rw [Rw.of_v, vz_1]
 have h := pow_pos2 K
 generalize 2 ^ K = P at *
 omega
theorem may_A (K : Nat) : mayI K xA = true := mayI_iff.2 ⟨Rw.zero_may, q1_may, by have h1 := zero_v K; have h2 := q1_v K; show Rw.zero.v K ≤ q1.v K; omega⟩
theorem may_B (K : Nat) : mayI K xB = true := mayI_point q1_may
theorem lt_two {i : Nat} {P : Nat → Prop} (h0 : P 0) (h1 : P 1) (hi : i < 2) : P i := by
 rcases (show i = 0 ∨ i = 1 by omega) with rfl | rfl
 ·exact h0
 ·exact h1
theorem may_AB (K : Nat) : (eachB 2 fun i => mayI K (xAB i)) = true := eachB_iff.2 fun _ hi => lt_two (P := fun i => mayI K (xAB i) = true) (may_A K) (may_B K) hi
theorem has_AB (K : Nat) : (decide (2 = 2) && eachB 2 fun i => hasI K (xAB i) (cornQ 1 i (xAB i))) = true := two_yes fun i hi => corn_has (eachB_iff.1 (may_AB K) i hi)
theorem within_AB (K : Nat) : (decide (2 = 2) && eachB 2 fun i => withinI K (xAB i) (xAB i)) = true := two_yes fun i hi => within_self (eachB_iff.1 (may_AB K) i hi)
theorem inside_AB (K : Nat) : (decide (2 = 2) && eachB 2 fun i => insideI K (xAB i) (xAB i)) = false := by
 rw [two_is]
 exact eachB_no (i := 0) (by omega) inside_self
theorem hull_nil (K : Nat) {Y : Nat → Iv} : bothK K 2 0 xAB Y (hullK K) = 1 := if_neg fun h => absurd h.1 (by decide)
theorem corn_0 : cornQ 1 0 (xAB 0) = q1 := rfl
theorem corn_1 : cornQ 1 1 (xAB 1) = q1 := rfl
/-- the widths of the two -/
def wAB (i : Nat) : Rw := if i = 0 then q1 else Rw.zero
theorem sub_A {K : Nat} (hK : 4194304 ≤ K) (k : Int) (s : Bool) (m : Nat) (e : Int) (h : subR K q1.s q1.l q1.e Rw.zero.s Rw.zero.l Rw.zero.e k s m e) : k = 0 ∧ s = false ∧ m = 1 ∧ e = 0 := by
 unfold subR at h
 rw [if_pos ⟨q1_may, Rw.zero_may⟩] at h
 exact nmv_hit hK h okd_1 (by have h1 := zero_v K; show vz K false 1 0 = q1.v K - Rw.zero.v K; rw [h1]; unfold q1; rw [Rw.of_v]; omega)
theorem sub_B {K : Nat} (hK : 4194304 ≤ K) (k : Int) (s : Bool) (m : Nat) (e : Int) (h : subR K q1.s q1.l q1.e q1.s q1.l q1.e k s m e) : k = 0 ∧ s = false ∧ m = 0 ∧ e = 0 := by
 unfold subR at h
 rw [if_pos ⟨q1_may, q1_may⟩] at h
 exact nmv_hit hK h (.inl ⟨rfl, rfl, rfl⟩) (by have h1 := zero_v K; show Rw.zero.v K = q1.v K - q1.v K; omega)
theorem wid_is {w : World} {en : Ending} {w' : World} {s : Bool} {m : Nat} {e : Int} (h : ToldIs s m e 0 w en w') : TellD 0 (Rw.of s m e) w en w' := by
 obtain ⟨A, n, c, rfl, h2, b⟩ := h
 exact ⟨A, n, c, rfl, h2.rd, b⟩
theorem of_zero : Rw.of false 0 0 = Rw.zero := Rw.ext rfl (dig_may Rw.zero.lt (mayD_of Rw.zero.lt Rw.zero_may).1) rfl
theorem width_AB {K : Nat} (hK : 4194304 ≤ K) : ∀ i, i < 2 → Wide (xAB i) (wAB i) := fun _ hi => lt_two (P := fun i => Wide (xAB i) (wAB i))
 (fun hT h1 h2 => (iwidth_is (x := xA) hK hT h1 h2 (may_A K) (sub_A hK)).mono fun _ _ h => wid_is h)
 (fun hT h1 h2 => (iwidth_is (x := xB) hK hT h1 h2 (may_B K) (sub_B hK)).mono fun _ _ h => by rw [show wAB 1 = Rw.of false 0 0 from of_zero.symm]; exact wid_is h) hi
theorem max_AB (K : Nat) : maxW K wAB 2 = q1 := by
 have h1 : 0 < cmpQ K q1 Rw.zero := by rw [cmpQ_may q1_may Rw.zero_may]; have h1 := zero_v K; have h2 := q1_v K; unfold cmpV; rw [if_neg (by omega), if_neg (by omega)]; decide
 have h2 : ¬ 0 < cmpQ K Rw.zero q1 := by rw [cmpQ_may Rw.zero_may q1_may]; have h1 := zero_v K; have h2 := q1_v K; unfold cmpV; rw [if_pos (by omega)]; decide
 show (if 0 < cmpQ K Rw.zero (if 0 < cmpQ K q1 Rw.zero then q1 else Rw.zero) then Rw.zero else if 0 < cmpQ K q1 Rw.zero then q1 else Rw.zero) = q1
 rw [if_pos h1, if_neg h2]

theorem same_q1 {w : World} {A B : Option Addr} {n c m d : Nat} (h : Rd w .u64 Go.Proofs.YtlpjlmophlikeaaGreatDoor.W A n c q1.l) (h' : Rd w .u64 Go.Proofs.YtlpjlmophlikeaaGreatDoor.W B m d q1.l) :
  Calls Tryz.prog 26 #[.agg #[.bool q1.s, .slice A n c, .int .i64 q1.e], .agg #[.bool q1.s, .slice B m d, .int .i64 q1.e]] w (Bools true w) :=
 dsame_self (rd_okd h q1_may).1 (rd_okd h' q1_may).1

theorem told11_any {w : World} (hT : Tab w) : Calls Tryz.prog 16 #[] w (Bools true w) := by
 obtain ⟨KS, hKS⟩ := scale_has
 have BB := Below.refl w.heap.size w
 have N1 := nt_one_at (w := w) (v := 1) rfl (by omega) (by omega)
 have b := below_alloc w (.cells #[.int .u64 1] 60)
 replace BB := bnx BB b
 clear b
 obtain ⟨o0, o1, o2⟩ := (box_at (w := (w.alloc (.cells #[.int .u64 1] 60))) (g := w.heap.size + 1) (by simp) false (some ⟨w.heap.size, 0, none⟩) 1 1 0).held
 have b := below_alloc (w.alloc (.cells #[.int .u64 1] 60)) (.cells #[.bool false, .slice (some ⟨w.heap.size, 0, none⟩) 1 1, .int .i64 0] 27)
 replace BB := bnx BB b
 replace N1 := mv b rfl N1
 clear b
 go_enter Tryz.func16, Tryz.ntmps16
 go_upto_region 2 with fail
 generalize (w.alloc (.cells #[.int .u64 1] 60)).alloc (.cells #[.bool false, .slice (some ⟨w.heap.size, 0, none⟩) 1 1, .int .i64 0] 27) = W1 at *
 have b : Below W1.heap.size W1 (World.drew W1) := below_drewN (Below.refl _ _) 1
 replace BB := bnx BB b
 have G := mv b rfl (J4 N1 o0 o1 o2)
 clear N1 o0 o1 o2
 obtain ⟨N1, o0, o1, o2⟩ := G
 clear b
 have hT1 := mv BB rfl hT
 go_wp2_with fail
 refine wp_region_held_drew (S := fun w' => w'.cell? ⟨w.heap.size + 1, 0, none⟩ = some (.bool false) ∧ w'.cell? ⟨w.heap.size + 1, 1, none⟩ = some (.slice (some ⟨w.heap.size, 0, none⟩) 1 1) ∧ w'.cell? ⟨w.heap.size + 1, 2, none⟩ = some (.int .i64 0)) (by kernel_rfl) (by exact ⟨o0, o1, o2⟩) (fun hHelda0 => ?_)
 generalize World.drew W1 = wd at *
 refine tl 0 ?_
 refine tl 1 ?_
 refine tl 2 ?_
 refine rdy 3 fun K hK => ?_
 go_simp
 refine (show Calls _ _ _ _ (GivI xB _) from iof_any (a := q1) N1.rd (by omega)).mono ?_
 rintro en z1 ⟨A5, n5, c5, A6, n6, c6, rfl, h5, h6, b⟩
 replace BB := below_next BB BB.size b (by rfl) (by rfl) (by rfl) (by rfl)
 have G := mv b (by rfl) <| And.intro N1 <| And.intro hT1 <| And.intro o0 <| And.intro o1 <| o2
 clear N1 hT1 o0 o1 o2
 obtain ⟨N1, hT1, o0, o1, o2⟩ := G
 clear b
 refine hK.out _ _ (by exact ⟨o0, o1, o2⟩) (fun hHelda1 => ?_)
 clear hK K hHelda0
 try simp only [Act.put]
 refine rdy 4 fun K hK => ?_
 go_simp
 have hR : RdS (z1.alloc (.cells #[.bool false, .slice none 0 0, .int .i64 0, .bool false, .slice (some ⟨w.heap.size, 0, none⟩) 1 1, .int .i64 0, .bool xB.lo.s, .slice A5 n5 c5, .int .i64 xB.lo.e, .bool xB.hi.s, .slice A6 n6 c6, .int .i64 xB.hi.e] 29)) (some ⟨z1.heap.size, 0, none⟩) 2 2 xAB := ⟨by omega, by omega, fun _ => ⟨z1.heap.size, 0, rfl, rows_two (x := xA) (y := xB) rfl (rd_nil0 z1) N1.rd h5 h6⟩⟩
 have b := below_alloc z1 (.cells #[.bool false, .slice none 0 0, .int .i64 0, .bool false, .slice (some ⟨w.heap.size, 0, none⟩) 1 1, .int .i64 0, .bool xB.lo.s, .slice A5 n5 c5, .int .i64 xB.lo.e, .bool xB.hi.s, .slice A6 n6 c6, .int .i64 xB.hi.e] 29)
 replace BB := below_next BB BB.size b (by rfl) (by rfl) (by rfl) (by rfl)
 have G := mv b (by rfl) <| And.intro N1 <| And.intro hT1 <| And.intro o0 <| And.intro o1 <| o2
 clear N1 hT1 o0 o1 o2
 obtain ⟨N1, hT1, o0, o1, o2⟩ := G
 clear b h5 h6
 generalize z1.alloc (.cells #[.bool false, .slice none 0 0, .int .i64 0, .bool false, .slice (some ⟨w.heap.size, 0, none⟩) 1 1, .int .i64 0, .bool xB.lo.s, .slice A5 n5 c5, .int .i64 xB.lo.e, .bool xB.hi.s, .slice A6 n6 c6, .int .i64 xB.hi.e] 29) = z2 at *
 generalize z1.heap.size = gb at *
 refine hK.out _ _ (by exact ⟨o0, o1, o2⟩) (fun hHelda2 => ?_)
 clear hK K hHelda1
 try simp only [Act.put]
 refine tl 5 ?_
 refine wpAnyH_done (by kernel_rfl) ?_ _
 go_wp2_with fail
 refine (bcorner_any (K := KS) (kz := 1) hKS hT1 hR (by omega) (may_AB KS)).mono ?_
 rintro en z3 ⟨Ac, cc, rfl, hC, b⟩
 replace BB := bnx BB b
 have G := mv b rfl (J6 N1 hT1 hR o0 o1 o2)
 clear N1 hT1 hR o0 o1 o2
 obtain ⟨N1, hT1, hR, o0, o1, o2⟩ := G
 clear b
 go_wp2_with fail
 refine (bwidth_any (K := KS) hKS hT1 hR (by omega) (width_AB hKS)).mono ?_
 rintro en z4 ⟨A7, n7, c7, rfl, h7, b⟩
 rw [max_AB KS] at *
 replace BB := bnx BB b
 have G := mv b rfl (J7 N1 hT1 hR o0 o1 o2 hC)
 clear N1 hT1 hR o0 o1 o2 hC
 obtain ⟨N1, hT1, hR, o0, o1, o2, hC⟩ := G
 clear b
 have b := below_alloc z4 (.cells #[.bool q1.s, .slice A7 n7 c7, .int .i64 q1.e] 27)
 have xw := Box.new z4 q1.s A7 n7 c7 q1.e
 replace BB := bnx BB b
 have G := mv b rfl (J8 N1 hT1 hR o0 o1 o2 hC h7)
 clear N1 hT1 hR o0 o1 o2 hC h7
 obtain ⟨N1, hT1, hR, o0, o1, o2, hC, h7⟩ := G
 clear b
 go_wp2_with fail
 refine (bhull_any (Y := fun _ => Iv.zero) hKS hT1 hR (rds_nil _ _) (by omega) (by omega)).mono ?_
 rintro en z5 ⟨A8, m8, c8, rfl, _, hz, b⟩
 rw [hull_nil KS] at *
 obtain ⟨rfl, rfl, rfl⟩ := hz (by decide)
 clear hz
 replace BB := bnx BB b
 have G := mv b rfl (J9 N1 hT1 hR o0 o1 o2 hC h7 xw)
 clear N1 hT1 hR o0 o1 o2 hC h7 xw
 obtain ⟨N1, hT1, hR, o0, o1, o2, hC, h7, xw⟩ := G
 clear b
 obtain ⟨gc, oc, hAc, hCc⟩ := hC.at_ (by decide)
 subst hAc
 obtain ⟨Ad, nd, cd, ⟨d0, d1, d2⟩, hd⟩ := hCc 0 (by decide)
 obtain ⟨Ae, ne, ce, ⟨e0, e1, e2⟩, he⟩ := hCc 1 (by decide)
 rw [corn_0] at d0 d2 hd
 rw [corn_1] at e0 e2 he
 clear hCc
 obtain ⟨x0, x1, x2⟩ := xw.held
 clear xw
 replace d0 : World.cell? z5 ⟨gc, oc, none⟩ = some (.bool q1.s) := d0
 replace d1 : World.cell? z5 ⟨gc, oc + 1, none⟩ = some (.slice Ad nd cd) := d1
 replace d2 : World.cell? z5 ⟨gc, oc + 2, none⟩ = some (.int .i64 q1.e) := d2
 replace e0 : World.cell? z5 ⟨gc, oc + 3, none⟩ = some (.bool q1.s) := e0
 replace e1 : World.cell? z5 ⟨gc, oc + 4, none⟩ = some (.slice Ae ne ce) := e1
 replace e2 : World.cell? z5 ⟨gc, oc + 5, none⟩ = some (.int .i64 q1.e) := e2
 go_upto_region 6 with fail
 have b : Below z5.heap.size z5 (World.drew z5) := below_drewN (Below.refl _ _) 1
 replace BB := bnx BB b
 have G := mv b rfl (J19 N1 hT1 hR o0 o1 o2 hC h7 d0 d1 d2 hd e0 e1 e2 he x0 x1 x2)
 clear N1 hT1 hR o0 o1 o2 hC h7 d0 d1 d2 hd e0 e1 e2 he x0 x1 x2
 obtain ⟨N1, hT1, hR, o0, o1, o2, hC, h7, d0, d1, d2, hd, e0, e1, e2, he, x0, x1, x2⟩ := G
 clear b
 skip
 go_wp2_with fail
 refine wp_region_held_drew (S := fun w' => w'.cell? ⟨w.heap.size + 1, 0, none⟩ = some (.bool false) ∧ w'.cell? ⟨w.heap.size + 1, 1, none⟩ = some (.slice (some ⟨w.heap.size, 0, none⟩) 1 1) ∧ w'.cell? ⟨w.heap.size + 1, 2, none⟩ = some (.int .i64 0) ∧ w'.cell? ⟨gc, oc, none⟩ = some (.bool q1.s) ∧ w'.cell? ⟨gc, oc + 1, none⟩ = some (.slice Ad nd cd) ∧ w'.cell? ⟨gc, oc + 2, none⟩ = some (.int .i64 q1.e) ∧ w'.cell? ⟨gc, oc + 3, none⟩ = some (.bool q1.s) ∧ w'.cell? ⟨gc, oc + 4, none⟩ = some (.slice Ae ne ce) ∧ w'.cell? ⟨gc, oc + 5, none⟩ = some (.int .i64 q1.e) ∧ w'.cell? ⟨z4.heap.size, 0, none⟩ = some (.bool q1.s) ∧ w'.cell? ⟨z4.heap.size, 1, none⟩ = some (.slice A7 n7 c7) ∧ w'.cell? ⟨z4.heap.size, 2, none⟩ = some (.int .i64 q1.e)) (by kernel_rfl) (by exact ⟨o0, o1, o2, d0, d1, d2, e0, e1, e2, x0, x1, x2⟩) (fun hHelds0 => ?_)
 generalize World.drew z5 = wd at *
 refine tl 0 ?_
 refine tl 1 ?_
 refine tl 2 ?_
 refine tl 3 ?_
 refine tl 4 ?_
 refine tl 5 ?_
 refine tl 6 ?_
 refine tl 7 ?_
 refine rdy 8 fun K hK => ?_
 go_simp
 refine (same_q1 hd N1.rd).mono ?_
 rintro en w' ⟨rfl, b⟩
 replace BB := below_next BB BB.size b (by rfl) (by rfl) (by rfl) (by rfl)
 have G := mv b (by rfl) <| And.intro N1 <| And.intro hT1 <| And.intro hR <| And.intro o0 <| And.intro o1 <| And.intro o2 <| And.intro hC <| And.intro h7 <| And.intro d0 <| And.intro d1 <| And.intro d2 <| And.intro hd <| And.intro e0 <| And.intro e1 <| And.intro e2 <| And.intro he <| And.intro x0 <| And.intro x1 <| x2
 clear N1 hT1 hR o0 o1 o2 hC h7 d0 d1 d2 hd e0 e1 e2 he x0 x1 x2
 obtain ⟨N1, hT1, hR, o0, o1, o2, hC, h7, d0, d1, d2, hd, e0, e1, e2, he, x0, x1, x2⟩ := G
 clear b
 refine hK.out _ _ (by exact ⟨o0, o1, o2, d0, d1, d2, e0, e1, e2, x0, x1, x2⟩) (fun hHelds1 => ?_)
 clear hK K hHelds0
 try simp only [Act.put]
 refine tl 9 ?_
 refine tl 10 ?_
 refine tl 11 ?_
 refine tl 12 ?_
 refine tl 13 ?_
 refine tl 14 ?_
 refine rdy 15 fun K hK => ?_
 go_simp
 refine (same_q1 he N1.rd).mono ?_
 rintro en w' ⟨rfl, b⟩
 replace BB := below_next BB BB.size b (by rfl) (by rfl) (by rfl) (by rfl)
 have G := mv b (by rfl) <| And.intro N1 <| And.intro hT1 <| And.intro hR <| And.intro o0 <| And.intro o1 <| And.intro o2 <| And.intro hC <| And.intro h7 <| And.intro d0 <| And.intro d1 <| And.intro d2 <| And.intro hd <| And.intro e0 <| And.intro e1 <| And.intro e2 <| And.intro he <| And.intro x0 <| And.intro x1 <| x2
 clear N1 hT1 hR o0 o1 o2 hC h7 d0 d1 d2 hd e0 e1 e2 he x0 x1 x2
 obtain ⟨N1, hT1, hR, o0, o1, o2, hC, h7, d0, d1, d2, hd, e0, e1, e2, he, x0, x1, x2⟩ := G
 clear b
 refine hK.out _ _ (by exact ⟨o0, o1, o2, d0, d1, d2, e0, e1, e2, x0, x1, x2⟩) (fun hHelds2 => ?_)
 clear hK K hHelds1
 try simp only [Act.put]
 refine tl 16 ?_
 refine tl 17 ?_
 refine tl 18 ?_
 refine tl 19 ?_
 refine tl 20 ?_
 refine tl 21 ?_
 refine tl 22 ?_
 refine tl 23 ?_
 refine rdy 24 fun K hK => ?_
 go_simp
 refine (same_q1 h7 N1.rd).mono ?_
 rintro en w' ⟨rfl, b⟩
 replace BB := below_next BB BB.size b (by rfl) (by rfl) (by rfl) (by rfl)
 have G := mv b (by rfl) <| And.intro N1 <| And.intro hT1 <| And.intro hR <| And.intro o0 <| And.intro o1 <| And.intro o2 <| And.intro hC <| And.intro h7 <| And.intro d0 <| And.intro d1 <| And.intro d2 <| And.intro hd <| And.intro e0 <| And.intro e1 <| And.intro e2 <| And.intro he <| And.intro x0 <| And.intro x1 <| x2
 clear N1 hT1 hR o0 o1 o2 hC h7 d0 d1 d2 hd e0 e1 e2 he x0 x1 x2
 obtain ⟨N1, hT1, hR, o0, o1, o2, hC, h7, d0, d1, d2, hd, e0, e1, e2, he, x0, x1, x2⟩ := G
 clear b
 refine hK.out _ _ (by exact ⟨o0, o1, o2, d0, d1, d2, e0, e1, e2, x0, x1, x2⟩) (fun hHelds3 => ?_)
 clear hK K hHelds2
 try simp only [Act.put]
 refine tl 25 ?_
 refine tl 26 ?_
 refine tl 27 ?_
 refine tl 28 ?_
 refine tl 29 ?_
 refine tl 30 ?_
 refine tl 31 ?_
 refine rdy 32 fun K hK => ?_
 go_simp
 refine (bmay_any hKS hT1 hR (by omega)).mono ?_
 rintro en w' ⟨rfl, b⟩
 rw [may_AB KS]
 replace BB := below_next BB BB.size b (by rfl) (by rfl) (by rfl) (by rfl)
 have G := mv b (by rfl) <| And.intro N1 <| And.intro hT1 <| And.intro hR <| And.intro o0 <| And.intro o1 <| And.intro o2 <| And.intro hC <| And.intro h7 <| And.intro d0 <| And.intro d1 <| And.intro d2 <| And.intro hd <| And.intro e0 <| And.intro e1 <| And.intro e2 <| And.intro he <| And.intro x0 <| And.intro x1 <| x2
 clear N1 hT1 hR o0 o1 o2 hC h7 d0 d1 d2 hd e0 e1 e2 he x0 x1 x2
 obtain ⟨N1, hT1, hR, o0, o1, o2, hC, h7, d0, d1, d2, hd, e0, e1, e2, he, x0, x1, x2⟩ := G
 clear b
 refine hK.out _ _ (by exact ⟨o0, o1, o2, d0, d1, d2, e0, e1, e2, x0, x1, x2⟩) (fun hHelds4 => ?_)
 clear hK K hHelds3
 try simp only [Act.put]
 refine tl 33 ?_
 refine tl 34 ?_
 refine tl 35 ?_
 refine tl 36 ?_
 refine rdy 37 fun K hK => ?_
 go_simp
 refine (bhas_any hKS hT1 hR hC (by omega)).mono ?_
 rintro en w' ⟨rfl, b⟩
 rw [has_AB KS]
 replace BB := below_next BB BB.size b (by rfl) (by rfl) (by rfl) (by rfl)
 have G := mv b (by rfl) <| And.intro N1 <| And.intro hT1 <| And.intro hR <| And.intro o0 <| And.intro o1 <| And.intro o2 <| And.intro hC <| And.intro h7 <| And.intro d0 <| And.intro d1 <| And.intro d2 <| And.intro hd <| And.intro e0 <| And.intro e1 <| And.intro e2 <| And.intro he <| And.intro x0 <| And.intro x1 <| x2
 clear N1 hT1 hR o0 o1 o2 hC h7 d0 d1 d2 hd e0 e1 e2 he x0 x1 x2
 obtain ⟨N1, hT1, hR, o0, o1, o2, hC, h7, d0, d1, d2, hd, e0, e1, e2, he, x0, x1, x2⟩ := G
 clear b
 refine hK.out _ _ (by exact ⟨o0, o1, o2, d0, d1, d2, e0, e1, e2, x0, x1, x2⟩) (fun hHelds5 => ?_)
 clear hK K hHelds4
 try simp only [Act.put]
 refine tl 38 ?_
 refine tl 39 ?_
 refine tl 40 ?_
 refine tl 41 ?_
 refine rdy 42 fun K hK => ?_
 go_simp
 refine (bwithin_any hKS hT1 hR hR (by omega)).mono ?_
 rintro en w' ⟨rfl, b⟩
 rw [within_AB KS]
 replace BB := below_next BB BB.size b (by rfl) (by rfl) (by rfl) (by rfl)
 have G := mv b (by rfl) <| And.intro N1 <| And.intro hT1 <| And.intro hR <| And.intro o0 <| And.intro o1 <| And.intro o2 <| And.intro hC <| And.intro h7 <| And.intro d0 <| And.intro d1 <| And.intro d2 <| And.intro hd <| And.intro e0 <| And.intro e1 <| And.intro e2 <| And.intro he <| And.intro x0 <| And.intro x1 <| x2
 clear N1 hT1 hR o0 o1 o2 hC h7 d0 d1 d2 hd e0 e1 e2 he x0 x1 x2
 obtain ⟨N1, hT1, hR, o0, o1, o2, hC, h7, d0, d1, d2, hd, e0, e1, e2, he, x0, x1, x2⟩ := G
 clear b
 refine hK.out _ _ (by exact ⟨o0, o1, o2, d0, d1, d2, e0, e1, e2, x0, x1, x2⟩) (fun hHelds6 => ?_)
 clear hK K hHelds5
 try simp only [Act.put]
 refine tl 43 ?_
 refine tl 44 ?_
 refine tl 45 ?_
 refine tl 46 ?_
 refine rdy 47 fun K hK => ?_
 go_simp
 refine (binside_any hKS hT1 hR hR (by omega)).mono ?_
 rintro en w' ⟨rfl, b⟩
 rw [inside_AB KS]
 replace BB := below_next BB BB.size b (by rfl) (by rfl) (by rfl) (by rfl)
 have G := mv b (by rfl) <| And.intro N1 <| And.intro hT1 <| And.intro hR <| And.intro o0 <| And.intro o1 <| And.intro o2 <| And.intro hC <| And.intro h7 <| And.intro d0 <| And.intro d1 <| And.intro d2 <| And.intro hd <| And.intro e0 <| And.intro e1 <| And.intro e2 <| And.intro he <| And.intro x0 <| And.intro x1 <| x2
 clear N1 hT1 hR o0 o1 o2 hC h7 d0 d1 d2 hd e0 e1 e2 he x0 x1 x2
 obtain ⟨N1, hT1, hR, o0, o1, o2, hC, h7, d0, d1, d2, hd, e0, e1, e2, he, x0, x1, x2⟩ := G
 clear b
 refine hK.out _ _ (by exact ⟨o0, o1, o2, d0, d1, d2, e0, e1, e2, x0, x1, x2⟩) (fun hHelds7 => ?_)
 clear hK K hHelds6
 try simp only [Act.put]
 refine tl 48 ?_
 refine tl 49 ?_
 refine tl 50 ?_
 refine rdy 51 fun K hK => ?_
 go_simp
 refine (binside_any (K := KS) (X := fun _ => Iv.zero) (Y := fun _ => Iv.zero) hKS hT1 (rds_nil _ _) (rds_nil _ _) (by omega)).mono ?_
 rintro en w' ⟨rfl, b⟩
 rw [show (decide (0 = 0) && eachB 0 fun i => insideI KS ((fun _ => Iv.zero) i) ((fun _ => Iv.zero) i)) = true from two_yes fun i hi => absurd hi (Nat.not_lt_zero i)]
 replace BB := below_next BB BB.size b (by rfl) (by rfl) (by rfl) (by rfl)
 have G := mv b (by rfl) <| And.intro N1 <| And.intro hT1 <| And.intro hR <| And.intro o0 <| And.intro o1 <| And.intro o2 <| And.intro hC <| And.intro h7 <| And.intro d0 <| And.intro d1 <| And.intro d2 <| And.intro hd <| And.intro e0 <| And.intro e1 <| And.intro e2 <| And.intro he <| And.intro x0 <| And.intro x1 <| x2
 clear N1 hT1 hR o0 o1 o2 hC h7 d0 d1 d2 hd e0 e1 e2 he x0 x1 x2
 obtain ⟨N1, hT1, hR, o0, o1, o2, hC, h7, d0, d1, d2, hd, e0, e1, e2, he, x0, x1, x2⟩ := G
 clear b
 refine hK.out _ _ (by exact ⟨o0, o1, o2, d0, d1, d2, e0, e1, e2, x0, x1, x2⟩) (fun hHelds8 => ?_)
 clear hK K hHelds7
 try simp only [Act.put]
 refine tl 52 ?_
 refine tl 53 ?_
 refine wpAnyH_done (by kernel_rfl) ?_ _
 go_wp2
 go_ret
 exact ⟨by first | rfl | simp, BB⟩

end Go.Proofs.YtlpjlmophlikeaaGreatDoor
