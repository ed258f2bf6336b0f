/-
 Known answers of sums, products and rounded numbers; contract of the statements' own told of layer 6: it returns true, at this translation. Condition: the slices read as limbs, the table of math/bits reads as its text lays it.
-/
import Derived.Test.YtdklnpaocaebkaaGreatDoorLj
import Derived.Test.YtdklnpaocaebkaaGreatDoorLa
set_option maxHeartbeats 8000000
set_option maxRecDepth 100000
namespace Go.Proofs.YtdklnpaocaebkaaGreatDoor
open Go.RowKit

section
variable {S : Sc} {a b c : Rw} {p : Int} {up : Bool}
theorem Rw.of_self (h : a.may = true) : Rw.of a.s (val W a.l) a.e = a := Rw.ext rfl (dig_may a.lt (mayD_of a.lt h).1) rfl
theorem rnd_fit (hp : 1 ≤ p ∧ p ≤ 2000) (ha : a.may = true) (hb : blen (val W a.l) ≤ p.toNat) : rndO S a p up = .ok a := by
 obtain ⟨k, s, m, e, h⟩ := rndR_some (a := a) (p := p) (up := up)
 have h2 := h
 unfold rndR at h2
 rw [if_pos ⟨hp, ha⟩] at h2
 obtain ⟨rfl, rfl, rfl, rfl⟩ := rd_fit (by omega) (mayD_of a.lt ha).2 hb h2
 exact ((S.is _ _ _ _ _ rndR_only h).1 rfl).trans (congrArg Except.ok (Rw.of_self ha))
theorem addO_is (ha : a.may = true) (hb : b.may = true) (hc : c.may = true) (hv : c.v S.K = a.v S.K + b.v S.K) : addO S a b = .ok c := by
 obtain ⟨k, s, m, e, h⟩ := addR_some (s := a.s) (t := b.s) (e := a.e) (f := b.e) S.big a.lt b.lt
 have h2 := h
 unfold addR at h2
 rw [if_pos ⟨ha, hb⟩] at h2
 obtain ⟨rfl, rfl, rfl, rfl⟩ := nmv_hit S.big h2 (mayD_of c.lt hc).2 hv
 exact ((S.is _ _ _ _ _ addR_only h).1 rfl).trans (congrArg Except.ok (Rw.of_self hc))
theorem mulO_is (ha : a.may = true) (hb : b.may = true) (hc : c.may = true) (hv : c.v S.K * ((2 ^ S.K : Nat) : Int) = a.v S.K * b.v S.K) : mulO S a b = .ok c := by
 obtain ⟨k, s, m, e, h⟩ := mulR_some (s := a.s) (l := a.l) (e := a.e) (t := b.s) (r := b.l) (f := b.e)
 have h2 := h
 unfold mulR at h2
 rw [if_pos ⟨ha, hb⟩] at h2
 have r1 := okd_ge S.big (mayD_of a.lt ha).2
 have r2 := okd_ge S.big (mayD_of b.lt hb).2
 have hk := S.big
 have hm := vz_mul (K := S.K) (s := a.s) (t := b.s) (m := val W a.l) (n := val W b.l) r1.2.2 r2.2.2 (by omega)
 have hv2 : c.v S.K = vz S.K (a.s != b.s) (val W a.l * val W b.l) (a.e + b.e) := Int.eq_of_mul_eq_mul_right (Int.ne_of_gt pos_of_pow) (hv.trans hm)
 obtain ⟨rfl, rfl, rfl, rfl⟩ := nmv_hit S.big ⟨_, _, _, by omega, rfl, h2⟩ (mayD_of c.lt hc).2 hv2
 exact ((S.is _ _ _ _ _ mulR_only h).1 rfl).trans (congrArg Except.ok (Rw.of_self hc))
end
def qm : Rw := Rw.of true 1 0
def q2 : Rw := Rw.of false 1 1
def q4 : Rw := Rw.of false 1 2
def xmm : Iv := ⟨qm, qm⟩
def x22 : Iv := ⟨q2, q2⟩
theorem qm_may : qm.may = true := Rw.of_may (.inr ⟨rfl, small64 (m := 1) (by omega), by decide, by decide⟩)
theorem q2_may : q2.may = true := Rw.of_may (okd_small (m := 1) (e := 1) rfl (by omega) (by decide) (by decide))
theorem q4_may : q4.may = true := Rw.of_may (okd_small (m := 1) (e := 2) rfl (by omega) (by decide) (by decide))
theorem q6_vals (K : Nat) : ∃ P : Int, 0 < P ∧ P = ((2 ^ K : Nat) : Int) ∧ qm.v K = -P ∧ q1.v K = P ∧ q2.v K = 2 * P ∧ q4.v K = 4 * P ∧ Rw.zero.v K = 0 := by
 refine ⟨((2 ^ K : Nat) : Int), pos_of_pow, rfl, ?_, ?_, ?_, ?_, ?_⟩
 ·unfold qm
  rw [Rw.of_v, show true = !false from rfl, vz_not, vz_1]; omega
 ·unfold q1
  rw [Rw.of_v, vz_1]; omega
 ·unfold q2
  rw [Rw.of_v]
  have := vz_2 K 1 1
  rw [show ((1 : Nat) : Int) = 1 from rfl] at this
  rw [this]; omega
 ·unfold q4
  rw [Rw.of_v]
  have := vz_2 K 1 2
  rw [show ((2 : Nat) : Int) = 2 from rfl] at this
  rw [this]; omega
 ·exact vz_zero K _ _
theorem bl_one (s : Bool) (e : Int) : blen (val W (Rw.of s 1 e).l) ≤ (20 : Int).toNat := by
 have h : val W (Rw.of s 1 e).l = 1 := val_dig W_two 1
 rw [h, blen_eq (k := 0) (by decide) (by decide)]
 decide
theorem may_m2 (K : Nat) : mayI K ⟨qm, q2⟩ = true := by
 obtain ⟨P, h0, _, h1, _, h3, _⟩ := q6_vals K
 exact mayI_iff.2 ⟨qm_may, q2_may, by show qm.v K ≤ q2.v K; omega⟩
theorem has_m2 (K : Nat) : hasI K ⟨qm, q2⟩ Rw.zero = true := by
 obtain ⟨P, h0, _, h1, _, h3, _, h5⟩ := q6_vals K
 exact hasI_iff.2 ⟨may_m2 K, Rw.zero_may, by show qm.v K ≤ _; omega, by show _ ≤ q2.v K; omega⟩
theorem P20 : (1 : Int) ≤ 20 ∧ (20 : Int) ≤ 2000 := ⟨by decide, by decide⟩
theorem sqr_known (S : Sc) : face1 S ⟨qm, q2⟩ 20 (sqrI S ⟨qm, q2⟩ 20) = .ok ⟨Rw.zero, q4⟩ := by
 obtain ⟨P, h0, hP, h1, h2, h3, h4, h5⟩ := q6_vals S.K
 have e1 : mulO S qm qm = .ok q1 := mulO_is qm_may qm_may q1_may (by rw [← hP, h1, h2, Int.neg_mul_neg])
 have e2 : mulO S q2 q2 = .ok q4 := mulO_is q2_may q2_may q4_may (by rw [← hP, h3, h4, Int.mul_assoc, Int.mul_assoc, Int.mul_left_comm P 2 P, ← Int.mul_assoc 2 2]; rfl)
 have hl : ∀ z ∈ [q1, q4, Rw.zero], z.may = true := fun z hz => by
  simp only [List.mem_cons, List.not_mem_nil, or_false] at hz
  rcases hz with rfl | rfl | rfl
  ·exact q1_may
  ·exact q4_may
  ·exact Rw.zero_may
 obtain ⟨l1, l2⟩ := lea_of (S := S) (L := [q1, q4, Rw.zero]) (List.cons_ne_nil _ _) hl
 obtain ⟨g1, g2⟩ := gre_of (S := S) (L := [q1, q4, Rw.zero]) (List.cons_ne_nil _ _) hl
 have e3 : leaL S [q1, q4, Rw.zero] = Rw.zero := by
  have k := l2 Rw.zero (by simp)
  simp only [List.mem_cons, List.not_mem_nil, or_false] at l1
  rcases l1 with h | h | h
  ·rw [h] at k; omega
  ·rw [h] at k; omega
  ·exact h
 have e4 : greL S [q1, q4, Rw.zero] = q4 := by
  have k := g2 q4 (by simp)
  simp only [List.mem_cons, List.not_mem_nil, or_false] at g1
  rcases g1 with h | h | h
  ·rw [h] at k; omega
  ·exact h
  ·rw [h] at k; omega
 unfold face1
 rw [if_pos (by rw [may_m2]; decide)]
 unfold sqrI
 show thn (mulO S qm qm) _ = _
 rw [e1]
 show thn (mulO S q2 q2) _ = _
 rw [e2]
 show outO S (leaL S (if hasI S.K ⟨qm, q2⟩ Rw.zero = true then [q1, q4, Rw.zero] else [q1, q4])) (greL S (if hasI S.K ⟨qm, q2⟩ Rw.zero = true then [q1, q4, Rw.zero] else [q1, q4])) 20 = _
 rw [if_pos (has_m2 S.K), e3, e4]
 unfold outO
 rw [rnd_fit P20 Rw.zero_may (by show blen 0 ≤ _; rw [show blen 0 = 0 from by unfold blen; rw [dig_zero]; rfl]; exact Nat.zero_le _), show rndO S q4 20 true = .ok q4 from rnd_fit P20 q4_may (bl_one false 2)]
 rfl
theorem add_known (S : Sc) : face2 S ⟨qm, qm⟩ ⟨q2, q2⟩ 20 (sumO S ⟨qm, qm⟩ ⟨q2, q2⟩ 20) = .ok ⟨q1, q1⟩ := by
 obtain ⟨P, h0, hP, h1, h2, h3, h4, h5⟩ := q6_vals S.K
 have e1 : addO S qm q2 = .ok q1 := addO_is qm_may q2_may q1_may (by omega)
 unfold face2
 rw [if_pos (by rw [mayI_point qm_may, mayI_point q2_may]; decide)]
 unfold sumO
 show thn (addO S qm q2) _ = _
 rw [e1]
 show thn (rndO S q1 20 false) _ = _
 rw [show rndO S q1 20 false = .ok q1 from rnd_fit P20 q1_may (bl_one false 0)]
 show thn (rndO S q1 20 true) _ = _
 rw [show rndO S q1 20 true = .ok q1 from rnd_fit P20 q1_may (bl_one false 0)]
 rfl
theorem div_known (S : Sc) : face2 S ⟨q2, q2⟩ ⟨qm, q2⟩ 20 (divI S ⟨q2, q2⟩ ⟨qm, q2⟩ 20) = .error 4 := by
 unfold face2
 rw [if_pos (by rw [mayI_point q2_may, may_m2]; decide)]
 unfold divI
 rw [if_pos (has_m2 S.K)]
theorem sqrt_known (S : Sc) : face1 S ⟨qm, qm⟩ 20 (sqtI S ⟨qm, qm⟩ 20) = .error 4 := by
 unfold face1
 rw [if_pos (by rw [mayI_point qm_may]; decide)]
 unfold sqtI
 rw [if_pos]
 show signR qm.s qm.l qm.e < 0
 unfold signR
 rw [if_pos (show mayD qm.s qm.l qm.e = true from qm_may)]
 have h : val W qm.l = 1 := val_dig W_two 1
 rw [h]
 decide
theorem of_m1 {w : World} (hT : Tab w) : Calls Tryz.prog 18 #[.int .i64 (-1), .int .i64 0] w (ToldIs true 1 0 0 w) :=
 told_is' (of_neg (a := 1) hT (by omega) (by omega)) fun _ _ _ _ h => nm_fun h (nm_self (.inr ⟨rfl, small64 (m := 1) (by omega), by decide, by decide⟩))
theorem of_2 {w : World} (hT : Tab w) : Calls Tryz.prog 18 #[.int .i64 2, .int .i64 0] w (ToldIs false 1 1 0 w) :=
 told_is' (of_pos (a := 2) hT (by omega)) fun _ _ _ _ h => nm_fun h (nm_small (q := 0) (k := 1) (e := 0) (f := 1) (by omega) (by decide) (by decide) (by decide))

theorem told6_any {w : World} (hT : Tab w) :
  Calls Tryz.prog 5 #[] w (Bools true w) := by
 obtain ⟨S⟩ := sc_has
 have BB := Below.refl w.heap.size w
 go_enter Tryz.func5, Tryz.ntmps5
 go_wp2_with fail
 refine (of_m1 hT).mono ?_
 rintro en v1 ⟨A1, n1, c1, rfl, N1, b⟩
 replace BB := bnx BB b
 replace hT := mv b rfl hT
 clear b
 have h1 : Rd v1 .u64 Go.Proofs.YtdklnpaocaebkaaGreatDoor.W A1 n1 c1 qm.l := N1.rd
 clear N1
 obtain ⟨a0, a1, a2⟩ := (Box.new v1 true A1 n1 c1 0).held
 have b := below_alloc v1 (.cells #[.bool true, .slice A1 n1 c1, .int .i64 0] 24)
 replace BB := bnx BB b
 have G := mv b rfl <| And.intro hT <| h1
 clear b hT h1
 obtain ⟨hT, h1⟩ := G
 go_wp2_with fail
 refine (of_2 hT).mono ?_
 rintro en v2 ⟨A2, n2, c2, rfl, N2, b⟩
 replace BB := bnx BB b
 have G := mv b rfl (J5 hT h1 a0 a1 a2)
 clear b hT h1 a0 a1 a2
 obtain ⟨hT, h1, a0, a1, a2⟩ := G
 have h2 : Rd v2 .u64 Go.Proofs.YtdklnpaocaebkaaGreatDoor.W A2 n2 c2 q2.l := N2.rd
 clear N2
 obtain ⟨e0, e1, e2⟩ := (Box.new v2 false A2 n2 c2 1).held
 have b := below_alloc v2 (.cells #[.bool false, .slice A2 n2 c2, .int .i64 1] 24)
 replace BB := bnx BB b
 have G := mv b rfl (J6 hT h1 a0 a1 a2 h2)
 clear b hT h1 a0 a1 a2 h2
 obtain ⟨hT, h1, a0, a1, a2, h2⟩ := G
 have z1 : n1 ≤ 10000000000000 := by rw [← h1.len]; exact (may_len (mayI_point (K := S.K) qm_may)).1
 have z2 : n2 ≤ 10000000000000 := by rw [← h2.len]; exact (may_len (mayI_point (K := S.K) q2_may)).1
 have Z1 := Lib.hid z1
 have Z2 := Lib.hid z2
 clear z1 z2
 go_wp2_with fail
 refine (show Calls _ _ _ _ (TellI 0 ⟨Rw.zero, q4⟩ _) from by have := asqr_any S (x := ⟨qm, q2⟩) (p := 20) hT h1 h2; rwa [sqr_known] at this).mono ?_
 rintro en v3 ⟨A3, n3, c3, A4, n4, c4, rfl, h3, h4, b⟩
 replace BB := bnx BB b
 have G := mv b rfl (J9 hT h1 a0 a1 a2 h2 e0 e1 e2)
 clear b hT h1 a0 a1 a2 h2 e0 e1 e2
 obtain ⟨hT, h1, a0, a1, a2, h2, e0, e1, e2⟩ := G
 obtain ⟨f0, f1, f2, f3, f4, f5⟩ := (Ibx.new v3 Rw.zero.s A3 n3 c3 Rw.zero.e q4.s A4 n4 c4 q4.e).held
 have b := below_alloc v3 (.cells #[.bool Rw.zero.s, .slice A3 n3 c3, .int .i64 Rw.zero.e, .bool q4.s, .slice A4 n4 c4, .int .i64 q4.e] 26)
 replace BB := bnx BB b
 have G := mv b rfl (J11 hT h1 a0 a1 a2 h2 e0 e1 e2 h3 h4)
 clear b hT h1 a0 a1 a2 h2 e0 e1 e2 h3 h4
 obtain ⟨hT, h1, a0, a1, a2, h2, e0, e1, e2, h3, h4⟩ := G
 clear h4
 go_upto_region 4 with fail
 generalize (v3.alloc (.cells #[.bool Rw.zero.s, .slice A3 n3 c3, .int .i64 Rw.zero.e, .bool q4.s, .slice A4 n4 c4, .int .i64 q4.e] 26)) = X1 at *
 go_cut [7, 8] (fun v7 v8 wx => ∃ (g : Nat) (A : Option Addr) (n c : Nat) (B : Option Addr) (m d : Nat), v7 = .pointer (some ⟨g, 0, none⟩) ∧ v8 = .int .i64 0 ∧ Ibx wx g q1.s A n c q1.e q1.s B m d q1.e ∧ Rd wx .u64 Go.Proofs.YtdklnpaocaebkaaGreatDoor.W A n c q1.l ∧ Rd wx .u64 Go.Proofs.YtdklnpaocaebkaaGreatDoor.W B m d q1.l ∧ Below X1.heap.size X1 wx)
 case first =>
  have B1 := Below.refl X1.heap.size X1
  clear BB
  have BB := B1
  clear B1
  have b : Below X1.heap.size X1 (World.drew X1) := below_drewN (Below.refl _ _) 1
  replace BB := bnx BB b
  have G := mv b rfl (J9 hT h1 h2 a0 a1 a2 e0 e1 e2)
  clear b hT h1 h2 a0 a1 a2 e0 e1 e2
  obtain ⟨hT, h1, h2, a0, a1, a2, e0, e1, e2⟩ := G
  refine wp_region_held_drew (S := fun w' => w'.cell? ⟨v1.heap.size, 0, none⟩ = some (.bool true) ∧ w'.cell? ⟨v1.heap.size, 1, none⟩ = some (.slice A1 n1 c1) ∧ w'.cell? ⟨v1.heap.size, 2, none⟩ = some (.int .i64 0) ∧ w'.cell? ⟨v2.heap.size, 0, none⟩ = some (.bool false) ∧ w'.cell? ⟨v2.heap.size, 1, none⟩ = some (.slice A2 n2 c2) ∧ w'.cell? ⟨v2.heap.size, 2, none⟩ = some (.int .i64 1)) (by kernel_rfl) (by exact ⟨a0, a1, a2, e0, e1, e2⟩) (fun hHeldp0 => ?_)
  generalize World.drew X1 = wd at *
  refine tl 0 ?_
  refine tl 2 ?_
  refine wpAnyH_ready (rs := [1, 8]) (by kernel_rfl) (by simp) ?_
  refine AllReadyH.cons (o := _) rfl (fun K hK => ?_) (AllReadyH.cons (o := _) rfl (fun K hK => ?_) (AllReadyH.nil))
  ·go_simp
   refine (show Calls _ _ _ _ (GivI xmm _) from iof_any (a := qm) h1 Z1.out).mono ?_
   rintro en u_1 ⟨A5, n5, c5, A6, n6, c6, rfl, h5, h6, b⟩
   replace BB := bnx BB b
   have G := mv b rfl (J9 hT h1 h2 a0 a1 a2 e0 e1 e2)
   clear b hT h1 h2 a0 a1 a2 e0 e1 e2
   obtain ⟨hT, h1, h2, a0, a1, a2, e0, e1, e2⟩ := G
   refine hK.out _ _ (by exact ⟨a0, a1, a2, e0, e1, e2⟩) (fun hHeldp1 => ?_)
   clear hK K hHeldp0
   try simp only [Act.put]
   refine wpAnyH_ready (rs := [3, 8]) (by kernel_rfl) (by simp) ?_
   refine AllReadyH.cons (o := _) rfl (fun K hK => ?_) (AllReadyH.cons (o := _) rfl (fun K hK => ?_) (AllReadyH.nil))
   ·go_simp
    refine (show Calls _ _ _ _ (GivI x22 _) from iof_any (a := q2) h2 Z2.out).mono ?_
    rintro en u_2 ⟨A7, n7, c7, A8, n8, c8, rfl, h7, h8, b⟩
    replace BB := bnx BB b
    have G := mv b rfl (J11 hT h1 h2 a0 a1 a2 e0 e1 e2 h5 h6)
    clear b hT h1 h2 a0 a1 a2 e0 e1 e2 h5 h6
    obtain ⟨hT, h1, h2, a0, a1, a2, e0, e1, e2, h5, h6⟩ := G
    refine hK.out _ _ (by exact ⟨a0, a1, a2, e0, e1, e2⟩) (fun hHeldp2 => ?_)
    clear hK K hHeldp1
    try simp only [Act.put]
    refine wpAnyH_ready (rs := [4, 8]) (by kernel_rfl) (by simp) ?_
    refine AllReadyH.cons (o := _) rfl (fun K hK => ?_) (AllReadyH.cons (o := _) rfl (fun K hK => ?_) (AllReadyH.nil))
    ·go_simp
     refine (show Calls _ _ _ _ (TellI 0 x11 _) from by have := aadd_any S (x := ⟨qm, qm⟩) (y := ⟨q2, q2⟩) (p := 20) hT h5 h6 h7 h8; rwa [add_known] at this).mono ?_
     rintro en u_3 ⟨A9, n9, c9, A10, n10, c10, rfl, h9, h10, b⟩
     clear h5 h6 h7 h8
     replace BB := bnx BB b
     have G := mv b rfl (J9 hT h1 h2 a0 a1 a2 e0 e1 e2)
     clear b hT h1 h2 a0 a1 a2 e0 e1 e2
     obtain ⟨hT, h1, h2, a0, a1, a2, e0, e1, e2⟩ := G
     refine hK.out _ _ (by exact ⟨a0, a1, a2, e0, e1, e2⟩) (fun hHeldp3 => ?_)
     clear hK K hHeldp2
     try simp only [Act.put]
     refine tl 5 ?_
     refine tl 6 ?_
     refine tl 7 ?_
     refine rdy 8 fun K hK => ?_
     go_simp
     have gl9 : X1.heap.size ≤ u_3.heap.size := BB.size
     have gx9 : v1.heap.size < u_3.heap.size := World.block_lt_of_cell? _ _ a0
     have gy9 : v2.heap.size < u_3.heap.size := World.block_lt_of_cell? _ _ e0
     have p9 := Ibx.new u_3 false none 0 0 0 false none 0 0 0
     have b := below_alloc u_3 (.cells #[.bool false, .slice none 0 0, .int .i64 0, .bool false, .slice none 0 0, .int .i64 0] 26)
     replace BB := bnx BB b
     have G := mv b rfl (J11 hT h1 h2 a0 a1 a2 e0 e1 e2 h9 h10)
     clear b hT h1 h2 a0 a1 a2 e0 e1 e2 h9 h10
     obtain ⟨hT, h1, h2, a0, a1, a2, e0, e1, e2, h9, h10⟩ := G
     generalize u_3.alloc (.cells #[.bool false, .slice none 0 0, .int .i64 0, .bool false, .slice none 0 0, .int .i64 0] 26) = u_4 at *
     generalize u_3.heap.size = g9 at *
     refine hK.out _ _ (by exact ⟨a0, a1, a2, e0, e1, e2⟩) (fun hHeldp4 => ?_)
     clear hK K hHeldp3
     try simp only [Act.put]
     refine rdy 9 fun K hK => ?_
     obtain ⟨f0_, f1_, f2_, f3_, f4_, f5_⟩ := p9.open
     obtain ⟨z0, z1, z2, z3, z4, z5⟩ := p9.held
     go_simp
     clear hT h1 h2
     replace a0 := cell_oth6 (g := g9) (u0 := .bool x11.lo.s) (u1 := .slice A9 n9 c9) (u2 := .int .i64 x11.lo.e) (u3 := .bool x11.hi.s) (u4 := .slice A10 n10 c10) (u5 := .int .i64 x11.hi.e) a0 (by omega)
     replace a1 := cell_oth6 (g := g9) (u0 := .bool x11.lo.s) (u1 := .slice A9 n9 c9) (u2 := .int .i64 x11.lo.e) (u3 := .bool x11.hi.s) (u4 := .slice A10 n10 c10) (u5 := .int .i64 x11.hi.e) a1 (by omega)
     replace a2 := cell_oth6 (g := g9) (u0 := .bool x11.lo.s) (u1 := .slice A9 n9 c9) (u2 := .int .i64 x11.lo.e) (u3 := .bool x11.hi.s) (u4 := .slice A10 n10 c10) (u5 := .int .i64 x11.hi.e) a2 (by omega)
     replace e0 := cell_oth6 (g := g9) (u0 := .bool x11.lo.s) (u1 := .slice A9 n9 c9) (u2 := .int .i64 x11.lo.e) (u3 := .bool x11.hi.s) (u4 := .slice A10 n10 c10) (u5 := .int .i64 x11.hi.e) e0 (by omega)
     replace e1 := cell_oth6 (g := g9) (u0 := .bool x11.lo.s) (u1 := .slice A9 n9 c9) (u2 := .int .i64 x11.lo.e) (u3 := .bool x11.hi.s) (u4 := .slice A10 n10 c10) (u5 := .int .i64 x11.hi.e) e1 (by omega)
     replace e2 := cell_oth6 (g := g9) (u0 := .bool x11.lo.s) (u1 := .slice A9 n9 c9) (u2 := .int .i64 x11.lo.e) (u3 := .bool x11.hi.s) (u4 := .slice A10 n10 c10) (u5 := .int .i64 x11.hi.e) e2 (by omega)
     replace h9 := h9.put6 p9 (.bool x11.lo.s) (.slice A9 n9 c9) (.int .i64 x11.lo.e) (.bool x11.hi.s) (.slice A10 n10 c10) (.int .i64 x11.hi.e)
     replace h10 := h10.put6 p9 (.bool x11.lo.s) (.slice A9 n9 c9) (.int .i64 x11.lo.e) (.bool x11.hi.s) (.slice A10 n10 c10) (.int .i64 x11.hi.e)
     replace BB := below_put6 (g := g9) BB gl9 (.bool x11.lo.s) (.slice A9 n9 c9) (.int .i64 x11.lo.e) (.bool x11.hi.s) (.slice A10 n10 c10) (.int .i64 x11.hi.e)
     replace p9 := p9.put x11.lo.s A9 n9 c9 x11.lo.e x11.hi.s A10 n10 c10 x11.hi.e
     clear f0_ f1_ f2_ f3_ f4_ f5_ z0 z1 z2 z3 z4 z5
     generalize (((((u_4.setCell ⟨g9, 0, none⟩ (.bool x11.lo.s)).setCell ⟨g9, 1, none⟩ (.slice A9 n9 c9)).setCell ⟨g9, 2, none⟩ (.int .i64 x11.lo.e)).setCell ⟨g9, 3, none⟩ (.bool x11.hi.s)).setCell ⟨g9, 4, none⟩ (.slice A10 n10 c10)).setCell ⟨g9, 5, none⟩ (.int .i64 x11.hi.e) = u_5 at *
     refine hK.out _ _ (by exact ⟨a0, a1, a2, e0, e1, e2⟩) (fun hHeldp5 => ?_)
     clear hK K hHeldp4
     try simp only [Act.put]
     refine tl 10 ?_
     refine wpAnyH_done (by kernel_rfl) ?_ _
     go_wp2_with fail
     go_meet
     case rel => exact ⟨g9, A9, n9, c9, A10, n10, c10, rfl, rfl, p9, h9, h10, BB⟩
    ·go_simp
     have gl9 : X1.heap.size ≤ u_2.heap.size := BB.size
     have gx9 : v1.heap.size < u_2.heap.size := World.block_lt_of_cell? _ _ a0
     have gy9 : v2.heap.size < u_2.heap.size := World.block_lt_of_cell? _ _ e0
     have p9 := Ibx.new u_2 false none 0 0 0 false none 0 0 0
     have b := below_alloc u_2 (.cells #[.bool false, .slice none 0 0, .int .i64 0, .bool false, .slice none 0 0, .int .i64 0] 26)
     replace BB := bnx BB b
     have G := mv b rfl (J13 hT h1 h2 a0 a1 a2 e0 e1 e2 h5 h6 h7 h8)
     clear b hT h1 h2 a0 a1 a2 e0 e1 e2 h5 h6 h7 h8
     obtain ⟨hT, h1, h2, a0, a1, a2, e0, e1, e2, h5, h6, h7, h8⟩ := G
     generalize u_2.alloc (.cells #[.bool false, .slice none 0 0, .int .i64 0, .bool false, .slice none 0 0, .int .i64 0] 26) = u_3 at *
     generalize u_2.heap.size = g9 at *
     refine hK.out _ _ (by exact ⟨a0, a1, a2, e0, e1, e2⟩) (fun hHeldp3 => ?_)
     clear hK K hHeldp2
     try simp only [Act.put]
     refine rdy 4 fun K hK => ?_
     go_simp
     refine (show Calls _ _ _ _ (TellI 0 x11 _) from by have := aadd_any S (x := ⟨qm, qm⟩) (y := ⟨q2, q2⟩) (p := 20) hT h5 h6 h7 h8; rwa [add_known] at this).mono ?_
     rintro en u_4 ⟨A9, n9, c9, A10, n10, c10, rfl, h9, h10, b⟩
     clear h5 h6 h7 h8
     replace BB := bnx BB b
     have G := mv b rfl (J10 hT h1 h2 a0 a1 a2 e0 e1 e2 p9)
     clear b hT h1 h2 a0 a1 a2 e0 e1 e2 p9
     obtain ⟨hT, h1, h2, a0, a1, a2, e0, e1, e2, p9⟩ := G
     refine hK.out _ _ (by exact ⟨a0, a1, a2, e0, e1, e2⟩) (fun hHeldp4 => ?_)
     clear hK K hHeldp3
     try simp only [Act.put]
     refine tl 5 ?_
     refine tl 6 ?_
     refine tl 7 ?_
     refine rdy 9 fun K hK => ?_
     obtain ⟨f0_, f1_, f2_, f3_, f4_, f5_⟩ := p9.open
     obtain ⟨z0, z1, z2, z3, z4, z5⟩ := p9.held
     go_simp
     clear hT h1 h2
     replace a0 := cell_oth6 (g := g9) (u0 := .bool x11.lo.s) (u1 := .slice A9 n9 c9) (u2 := .int .i64 x11.lo.e) (u3 := .bool x11.hi.s) (u4 := .slice A10 n10 c10) (u5 := .int .i64 x11.hi.e) a0 (by omega)
     replace a1 := cell_oth6 (g := g9) (u0 := .bool x11.lo.s) (u1 := .slice A9 n9 c9) (u2 := .int .i64 x11.lo.e) (u3 := .bool x11.hi.s) (u4 := .slice A10 n10 c10) (u5 := .int .i64 x11.hi.e) a1 (by omega)
     replace a2 := cell_oth6 (g := g9) (u0 := .bool x11.lo.s) (u1 := .slice A9 n9 c9) (u2 := .int .i64 x11.lo.e) (u3 := .bool x11.hi.s) (u4 := .slice A10 n10 c10) (u5 := .int .i64 x11.hi.e) a2 (by omega)
     replace e0 := cell_oth6 (g := g9) (u0 := .bool x11.lo.s) (u1 := .slice A9 n9 c9) (u2 := .int .i64 x11.lo.e) (u3 := .bool x11.hi.s) (u4 := .slice A10 n10 c10) (u5 := .int .i64 x11.hi.e) e0 (by omega)
     replace e1 := cell_oth6 (g := g9) (u0 := .bool x11.lo.s) (u1 := .slice A9 n9 c9) (u2 := .int .i64 x11.lo.e) (u3 := .bool x11.hi.s) (u4 := .slice A10 n10 c10) (u5 := .int .i64 x11.hi.e) e1 (by omega)
     replace e2 := cell_oth6 (g := g9) (u0 := .bool x11.lo.s) (u1 := .slice A9 n9 c9) (u2 := .int .i64 x11.lo.e) (u3 := .bool x11.hi.s) (u4 := .slice A10 n10 c10) (u5 := .int .i64 x11.hi.e) e2 (by omega)
     replace h9 := h9.put6 p9 (.bool x11.lo.s) (.slice A9 n9 c9) (.int .i64 x11.lo.e) (.bool x11.hi.s) (.slice A10 n10 c10) (.int .i64 x11.hi.e)
     replace h10 := h10.put6 p9 (.bool x11.lo.s) (.slice A9 n9 c9) (.int .i64 x11.lo.e) (.bool x11.hi.s) (.slice A10 n10 c10) (.int .i64 x11.hi.e)
     replace BB := below_put6 (g := g9) BB gl9 (.bool x11.lo.s) (.slice A9 n9 c9) (.int .i64 x11.lo.e) (.bool x11.hi.s) (.slice A10 n10 c10) (.int .i64 x11.hi.e)
     replace p9 := p9.put x11.lo.s A9 n9 c9 x11.lo.e x11.hi.s A10 n10 c10 x11.hi.e
     clear f0_ f1_ f2_ f3_ f4_ f5_ z0 z1 z2 z3 z4 z5
     generalize (((((u_4.setCell ⟨g9, 0, none⟩ (.bool x11.lo.s)).setCell ⟨g9, 1, none⟩ (.slice A9 n9 c9)).setCell ⟨g9, 2, none⟩ (.int .i64 x11.lo.e)).setCell ⟨g9, 3, none⟩ (.bool x11.hi.s)).setCell ⟨g9, 4, none⟩ (.slice A10 n10 c10)).setCell ⟨g9, 5, none⟩ (.int .i64 x11.hi.e) = u_5 at *
     refine hK.out _ _ (by exact ⟨a0, a1, a2, e0, e1, e2⟩) (fun hHeldp5 => ?_)
     clear hK K hHeldp4
     try simp only [Act.put]
     refine tl 10 ?_
     refine wpAnyH_done (by kernel_rfl) ?_ _
     go_wp2_with fail
     go_meet
     case rel => exact ⟨g9, A9, n9, c9, A10, n10, c10, rfl, rfl, p9, h9, h10, BB⟩
   ·go_simp
    have gl9 : X1.heap.size ≤ u_1.heap.size := BB.size
    have gx9 : v1.heap.size < u_1.heap.size := World.block_lt_of_cell? _ _ a0
    have gy9 : v2.heap.size < u_1.heap.size := World.block_lt_of_cell? _ _ e0
    have p9 := Ibx.new u_1 false none 0 0 0 false none 0 0 0
    have b := below_alloc u_1 (.cells #[.bool false, .slice none 0 0, .int .i64 0, .bool false, .slice none 0 0, .int .i64 0] 26)
    replace BB := bnx BB b
    have G := mv b rfl (J11 hT h1 h2 a0 a1 a2 e0 e1 e2 h5 h6)
    clear b hT h1 h2 a0 a1 a2 e0 e1 e2 h5 h6
    obtain ⟨hT, h1, h2, a0, a1, a2, e0, e1, e2, h5, h6⟩ := G
    generalize u_1.alloc (.cells #[.bool false, .slice none 0 0, .int .i64 0, .bool false, .slice none 0 0, .int .i64 0] 26) = u_2 at *
    generalize u_1.heap.size = g9 at *
    refine hK.out _ _ (by exact ⟨a0, a1, a2, e0, e1, e2⟩) (fun hHeldp2 => ?_)
    clear hK K hHeldp1
    try simp only [Act.put]
    refine rdy 3 fun K hK => ?_
    go_simp
    refine (show Calls _ _ _ _ (GivI x22 _) from iof_any (a := q2) h2 Z2.out).mono ?_
    rintro en u_3 ⟨A7, n7, c7, A8, n8, c8, rfl, h7, h8, b⟩
    replace BB := bnx BB b
    have G := mv b rfl (J12 hT h1 h2 a0 a1 a2 e0 e1 e2 h5 h6 p9)
    clear b hT h1 h2 a0 a1 a2 e0 e1 e2 h5 h6 p9
    obtain ⟨hT, h1, h2, a0, a1, a2, e0, e1, e2, h5, h6, p9⟩ := G
    refine hK.out _ _ (by exact ⟨a0, a1, a2, e0, e1, e2⟩) (fun hHeldp3 => ?_)
    clear hK K hHeldp2
    try simp only [Act.put]
    refine rdy 4 fun K hK => ?_
    go_simp
    refine (show Calls _ _ _ _ (TellI 0 x11 _) from by have := aadd_any S (x := ⟨qm, qm⟩) (y := ⟨q2, q2⟩) (p := 20) hT h5 h6 h7 h8; rwa [add_known] at this).mono ?_
    rintro en u_4 ⟨A9, n9, c9, A10, n10, c10, rfl, h9, h10, b⟩
    clear h5 h6 h7 h8
    replace BB := bnx BB b
    have G := mv b rfl (J10 hT h1 h2 a0 a1 a2 e0 e1 e2 p9)
    clear b hT h1 h2 a0 a1 a2 e0 e1 e2 p9
    obtain ⟨hT, h1, h2, a0, a1, a2, e0, e1, e2, p9⟩ := G
    refine hK.out _ _ (by exact ⟨a0, a1, a2, e0, e1, e2⟩) (fun hHeldp4 => ?_)
    clear hK K hHeldp3
    try simp only [Act.put]
    refine tl 5 ?_
    refine tl 6 ?_
    refine tl 7 ?_
    refine rdy 9 fun K hK => ?_
    obtain ⟨f0_, f1_, f2_, f3_, f4_, f5_⟩ := p9.open
    obtain ⟨z0, z1, z2, z3, z4, z5⟩ := p9.held
    go_simp
    clear hT h1 h2
    replace a0 := cell_oth6 (g := g9) (u0 := .bool x11.lo.s) (u1 := .slice A9 n9 c9) (u2 := .int .i64 x11.lo.e) (u3 := .bool x11.hi.s) (u4 := .slice A10 n10 c10) (u5 := .int .i64 x11.hi.e) a0 (by omega)
    replace a1 := cell_oth6 (g := g9) (u0 := .bool x11.lo.s) (u1 := .slice A9 n9 c9) (u2 := .int .i64 x11.lo.e) (u3 := .bool x11.hi.s) (u4 := .slice A10 n10 c10) (u5 := .int .i64 x11.hi.e) a1 (by omega)
    replace a2 := cell_oth6 (g := g9) (u0 := .bool x11.lo.s) (u1 := .slice A9 n9 c9) (u2 := .int .i64 x11.lo.e) (u3 := .bool x11.hi.s) (u4 := .slice A10 n10 c10) (u5 := .int .i64 x11.hi.e) a2 (by omega)
    replace e0 := cell_oth6 (g := g9) (u0 := .bool x11.lo.s) (u1 := .slice A9 n9 c9) (u2 := .int .i64 x11.lo.e) (u3 := .bool x11.hi.s) (u4 := .slice A10 n10 c10) (u5 := .int .i64 x11.hi.e) e0 (by omega)
    replace e1 := cell_oth6 (g := g9) (u0 := .bool x11.lo.s) (u1 := .slice A9 n9 c9) (u2 := .int .i64 x11.lo.e) (u3 := .bool x11.hi.s) (u4 := .slice A10 n10 c10) (u5 := .int .i64 x11.hi.e) e1 (by omega)
    replace e2 := cell_oth6 (g := g9) (u0 := .bool x11.lo.s) (u1 := .slice A9 n9 c9) (u2 := .int .i64 x11.lo.e) (u3 := .bool x11.hi.s) (u4 := .slice A10 n10 c10) (u5 := .int .i64 x11.hi.e) e2 (by omega)
    replace h9 := h9.put6 p9 (.bool x11.lo.s) (.slice A9 n9 c9) (.int .i64 x11.lo.e) (.bool x11.hi.s) (.slice A10 n10 c10) (.int .i64 x11.hi.e)
    replace h10 := h10.put6 p9 (.bool x11.lo.s) (.slice A9 n9 c9) (.int .i64 x11.lo.e) (.bool x11.hi.s) (.slice A10 n10 c10) (.int .i64 x11.hi.e)
    replace BB := below_put6 (g := g9) BB gl9 (.bool x11.lo.s) (.slice A9 n9 c9) (.int .i64 x11.lo.e) (.bool x11.hi.s) (.slice A10 n10 c10) (.int .i64 x11.hi.e)
    replace p9 := p9.put x11.lo.s A9 n9 c9 x11.lo.e x11.hi.s A10 n10 c10 x11.hi.e
    clear f0_ f1_ f2_ f3_ f4_ f5_ z0 z1 z2 z3 z4 z5
    generalize (((((u_4.setCell ⟨g9, 0, none⟩ (.bool x11.lo.s)).setCell ⟨g9, 1, none⟩ (.slice A9 n9 c9)).setCell ⟨g9, 2, none⟩ (.int .i64 x11.lo.e)).setCell ⟨g9, 3, none⟩ (.bool x11.hi.s)).setCell ⟨g9, 4, none⟩ (.slice A10 n10 c10)).setCell ⟨g9, 5, none⟩ (.int .i64 x11.hi.e) = u_5 at *
    refine hK.out _ _ (by exact ⟨a0, a1, a2, e0, e1, e2⟩) (fun hHeldp5 => ?_)
    clear hK K hHeldp4
    try simp only [Act.put]
    refine tl 10 ?_
    refine wpAnyH_done (by kernel_rfl) ?_ _
    go_wp2_with fail
    go_meet
    case rel => exact ⟨g9, A9, n9, c9, A10, n10, c10, rfl, rfl, p9, h9, h10, BB⟩
  ·go_simp
   have gl9 : X1.heap.size ≤ wd.heap.size := BB.size
   have gx9 : v1.heap.size < wd.heap.size := World.block_lt_of_cell? _ _ a0
   have gy9 : v2.heap.size < wd.heap.size := World.block_lt_of_cell? _ _ e0
   have p9 := Ibx.new wd false none 0 0 0 false none 0 0 0
   have b := below_alloc wd (.cells #[.bool false, .slice none 0 0, .int .i64 0, .bool false, .slice none 0 0, .int .i64 0] 26)
   replace BB := bnx BB b
   have G := mv b rfl (J9 hT h1 h2 a0 a1 a2 e0 e1 e2)
   clear b hT h1 h2 a0 a1 a2 e0 e1 e2
   obtain ⟨hT, h1, h2, a0, a1, a2, e0, e1, e2⟩ := G
   generalize wd.alloc (.cells #[.bool false, .slice none 0 0, .int .i64 0, .bool false, .slice none 0 0, .int .i64 0] 26) = u_1 at *
   generalize wd.heap.size = g9 at *
   refine hK.out _ _ (by exact ⟨a0, a1, a2, e0, e1, e2⟩) (fun hHeldp1 => ?_)
   clear hK K hHeldp0
   try simp only [Act.put]
   refine rdy 1 fun K hK => ?_
   go_simp
   refine (show Calls _ _ _ _ (GivI xmm _) from iof_any (a := qm) h1 Z1.out).mono ?_
   rintro en u_2 ⟨A5, n5, c5, A6, n6, c6, rfl, h5, h6, b⟩
   replace BB := bnx BB b
   have G := mv b rfl (J10 hT h1 h2 a0 a1 a2 e0 e1 e2 p9)
   clear b hT h1 h2 a0 a1 a2 e0 e1 e2 p9
   obtain ⟨hT, h1, h2, a0, a1, a2, e0, e1, e2, p9⟩ := G
   refine hK.out _ _ (by exact ⟨a0, a1, a2, e0, e1, e2⟩) (fun hHeldp2 => ?_)
   clear hK K hHeldp1
   try simp only [Act.put]
   refine rdy 3 fun K hK => ?_
   go_simp
   refine (show Calls _ _ _ _ (GivI x22 _) from iof_any (a := q2) h2 Z2.out).mono ?_
   rintro en u_3 ⟨A7, n7, c7, A8, n8, c8, rfl, h7, h8, b⟩
   replace BB := bnx BB b
   have G := mv b rfl (J12 hT h1 h2 a0 a1 a2 e0 e1 e2 p9 h5 h6)
   clear b hT h1 h2 a0 a1 a2 e0 e1 e2 p9 h5 h6
   obtain ⟨hT, h1, h2, a0, a1, a2, e0, e1, e2, p9, h5, h6⟩ := G
   refine hK.out _ _ (by exact ⟨a0, a1, a2, e0, e1, e2⟩) (fun hHeldp3 => ?_)
   clear hK K hHeldp2
   try simp only [Act.put]
   refine rdy 4 fun K hK => ?_
   go_simp
   refine (show Calls _ _ _ _ (TellI 0 x11 _) from by have := aadd_any S (x := ⟨qm, qm⟩) (y := ⟨q2, q2⟩) (p := 20) hT h5 h6 h7 h8; rwa [add_known] at this).mono ?_
   rintro en u_4 ⟨A9, n9, c9, A10, n10, c10, rfl, h9, h10, b⟩
   clear h5 h6 h7 h8
   replace BB := bnx BB b
   have G := mv b rfl (J10 hT h1 h2 a0 a1 a2 e0 e1 e2 p9)
   clear b hT h1 h2 a0 a1 a2 e0 e1 e2 p9
   obtain ⟨hT, h1, h2, a0, a1, a2, e0, e1, e2, p9⟩ := G
   refine hK.out _ _ (by exact ⟨a0, a1, a2, e0, e1, e2⟩) (fun hHeldp4 => ?_)
   clear hK K hHeldp3
   try simp only [Act.put]
   refine tl 5 ?_
   refine tl 6 ?_
   refine tl 7 ?_
   refine rdy 9 fun K hK => ?_
   obtain ⟨f0_, f1_, f2_, f3_, f4_, f5_⟩ := p9.open
   obtain ⟨z0, z1, z2, z3, z4, z5⟩ := p9.held
   go_simp
   clear hT h1 h2
   replace a0 := cell_oth6 (g := g9) (u0 := .bool x11.lo.s) (u1 := .slice A9 n9 c9) (u2 := .int .i64 x11.lo.e) (u3 := .bool x11.hi.s) (u4 := .slice A10 n10 c10) (u5 := .int .i64 x11.hi.e) a0 (by omega)
   replace a1 := cell_oth6 (g := g9) (u0 := .bool x11.lo.s) (u1 := .slice A9 n9 c9) (u2 := .int .i64 x11.lo.e) (u3 := .bool x11.hi.s) (u4 := .slice A10 n10 c10) (u5 := .int .i64 x11.hi.e) a1 (by omega)
   replace a2 := cell_oth6 (g := g9) (u0 := .bool x11.lo.s) (u1 := .slice A9 n9 c9) (u2 := .int .i64 x11.lo.e) (u3 := .bool x11.hi.s) (u4 := .slice A10 n10 c10) (u5 := .int .i64 x11.hi.e) a2 (by omega)
   replace e0 := cell_oth6 (g := g9) (u0 := .bool x11.lo.s) (u1 := .slice A9 n9 c9) (u2 := .int .i64 x11.lo.e) (u3 := .bool x11.hi.s) (u4 := .slice A10 n10 c10) (u5 := .int .i64 x11.hi.e) e0 (by omega)
   replace e1 := cell_oth6 (g := g9) (u0 := .bool x11.lo.s) (u1 := .slice A9 n9 c9) (u2 := .int .i64 x11.lo.e) (u3 := .bool x11.hi.s) (u4 := .slice A10 n10 c10) (u5 := .int .i64 x11.hi.e) e1 (by omega)
   replace e2 := cell_oth6 (g := g9) (u0 := .bool x11.lo.s) (u1 := .slice A9 n9 c9) (u2 := .int .i64 x11.lo.e) (u3 := .bool x11.hi.s) (u4 := .slice A10 n10 c10) (u5 := .int .i64 x11.hi.e) e2 (by omega)
   replace h9 := h9.put6 p9 (.bool x11.lo.s) (.slice A9 n9 c9) (.int .i64 x11.lo.e) (.bool x11.hi.s) (.slice A10 n10 c10) (.int .i64 x11.hi.e)
   replace h10 := h10.put6 p9 (.bool x11.lo.s) (.slice A9 n9 c9) (.int .i64 x11.lo.e) (.bool x11.hi.s) (.slice A10 n10 c10) (.int .i64 x11.hi.e)
   replace BB := below_put6 (g := g9) BB gl9 (.bool x11.lo.s) (.slice A9 n9 c9) (.int .i64 x11.lo.e) (.bool x11.hi.s) (.slice A10 n10 c10) (.int .i64 x11.hi.e)
   replace p9 := p9.put x11.lo.s A9 n9 c9 x11.lo.e x11.hi.s A10 n10 c10 x11.hi.e
   clear f0_ f1_ f2_ f3_ f4_ f5_ z0 z1 z2 z3 z4 z5
   generalize (((((u_4.setCell ⟨g9, 0, none⟩ (.bool x11.lo.s)).setCell ⟨g9, 1, none⟩ (.slice A9 n9 c9)).setCell ⟨g9, 2, none⟩ (.int .i64 x11.lo.e)).setCell ⟨g9, 3, none⟩ (.bool x11.hi.s)).setCell ⟨g9, 4, none⟩ (.slice A10 n10 c10)).setCell ⟨g9, 5, none⟩ (.int .i64 x11.hi.e) = u_5 at *
   refine hK.out _ _ (by exact ⟨a0, a1, a2, e0, e1, e2⟩) (fun hHeldp5 => ?_)
   clear hK K hHeldp4
   try simp only [Act.put]
   refine tl 10 ?_
   refine wpAnyH_done (by kernel_rfl) ?_ _
   go_wp2_with fail
   go_meet
   case rel => exact ⟨g9, A9, n9, c9, A10, n10, c10, rfl, rfl, p9, h9, h10, BB⟩
 case rest =>
  obtain ⟨g9, A9, n9, c9, A10, n10, c10, rfl, rfl, p9, h9, h10, b⟩ := hcut
  replace BB := bnx BB b
  have G := mv b rfl (J16 hT h1 a0 a1 a2 h2 e0 e1 e2 h3 f0 f1 f2 f3 f4 f5)
  clear b hT h1 a0 a1 a2 h2 e0 e1 e2 h3 f0 f1 f2 f3 f4 f5
  obtain ⟨hT, h1, a0, a1, a2, h2, e0, e1, e2, h3, f0, f1, f2, f3, f4, f5⟩ := G
  generalize wc = W5 at *
  go_upto_region 5 with fail
  generalize W5 = W1 at *
  go_cut [10] (fun v10 wx => v10 = .int .i64 4 ∧ Below W1.heap.size W1 wx)
  case first =>
   have B1 := Below.refl W1.heap.size W1
   clear BB
   have BB := B1
   clear B1
   have b : Below W1.heap.size W1 (World.drew W1) := below_drewN (Below.refl _ _) 1
   replace BB := bnx BB b
   have G := mv b rfl (J9 hT h1 h2 a0 a1 a2 e0 e1 e2)
   clear b hT h1 h2 a0 a1 a2 e0 e1 e2
   obtain ⟨hT, h1, h2, a0, a1, a2, e0, e1, e2⟩ := G
   refine wp_region_held_drew (S := fun w' => w'.cell? ⟨v1.heap.size, 0, none⟩ = some (.bool true) ∧ w'.cell? ⟨v1.heap.size, 1, none⟩ = some (.slice A1 n1 c1) ∧ w'.cell? ⟨v1.heap.size, 2, none⟩ = some (.int .i64 0) ∧ w'.cell? ⟨v2.heap.size, 0, none⟩ = some (.bool false) ∧ w'.cell? ⟨v2.heap.size, 1, none⟩ = some (.slice A2 n2 c2) ∧ w'.cell? ⟨v2.heap.size, 2, none⟩ = some (.int .i64 1)) (by kernel_rfl) (by exact ⟨a0, a1, a2, e0, e1, e2⟩) (fun hHeldk0 => ?_)
   generalize World.drew W1 = wd at *
   refine tl 0 ?_
   refine tl 2 ?_
   refine tl 3 ?_
   refine tl 4 ?_
   refine wpAnyH_ready (rs := [1, 9]) (by kernel_rfl) (by simp) ?_
   refine AllReadyH.cons (o := _) rfl (fun K hK => ?_) (AllReadyH.cons (o := _) rfl (fun K hK => ?_) (AllReadyH.nil))
   ·go_simp
    refine (show Calls _ _ _ _ (GivI x22 _) from iof_any (a := q2) h2 Z2.out).mono ?_
    rintro en u_1 ⟨A7, n7, c7, A8, n8, c8, rfl, h7, h8, b⟩
    replace BB := bnx BB b
    have G := mv b rfl (J9 hT h1 h2 a0 a1 a2 e0 e1 e2)
    clear b hT h1 h2 a0 a1 a2 e0 e1 e2
    obtain ⟨hT, h1, h2, a0, a1, a2, e0, e1, e2⟩ := G
    refine hK.out _ _ (by exact ⟨a0, a1, a2, e0, e1, e2⟩) (fun hHeldk1 => ?_)
    clear hK K hHeldk0
    try simp only [Act.put]
    refine wpAnyH_ready (rs := [5, 9]) (by kernel_rfl) (by simp) ?_
    refine AllReadyH.cons (o := _) rfl (fun K hK => ?_) (AllReadyH.cons (o := _) rfl (fun K hK => ?_) (AllReadyH.nil))
    ·go_simp
     refine (show Calls _ _ _ _ (TellI 4 Iv.zero _) from by have := adiv_any S (x := ⟨q2, q2⟩) (y := ⟨qm, q2⟩) (p := 20) hT h7 h8 h1 h2; rwa [div_known] at this).mono ?_
     rintro en u_2 ⟨A13, n13, c13, A14, n14, c14, rfl, _, _, b⟩
     clear h7 h8
     replace BB := bnx BB b
     have G := mv b rfl (J9 hT h1 h2 a0 a1 a2 e0 e1 e2)
     clear b hT h1 h2 a0 a1 a2 e0 e1 e2
     obtain ⟨hT, h1, h2, a0, a1, a2, e0, e1, e2⟩ := G
     refine hK.out _ _ (by exact ⟨a0, a1, a2, e0, e1, e2⟩) (fun hHeldk2 => ?_)
     clear hK K hHeldk1
     try simp only [Act.put]
     refine tl 6 ?_
     refine tl 7 ?_
     refine tl 8 ?_
     refine rdy 9 fun K hK => ?_
     go_simp
     have gl9 : W1.heap.size ≤ u_2.heap.size := BB.size
     have gx9 : v1.heap.size < u_2.heap.size := World.block_lt_of_cell? _ _ a0
     have gy9 : v2.heap.size < u_2.heap.size := World.block_lt_of_cell? _ _ e0
     have p9 := Ibx.new u_2 false none 0 0 0 false none 0 0 0
     have b := below_alloc u_2 (.cells #[.bool false, .slice none 0 0, .int .i64 0, .bool false, .slice none 0 0, .int .i64 0] 26)
     replace BB := bnx BB b
     have G := mv b rfl (J9 hT h1 h2 a0 a1 a2 e0 e1 e2)
     clear b hT h1 h2 a0 a1 a2 e0 e1 e2
     obtain ⟨hT, h1, h2, a0, a1, a2, e0, e1, e2⟩ := G
     generalize u_2.alloc (.cells #[.bool false, .slice none 0 0, .int .i64 0, .bool false, .slice none 0 0, .int .i64 0] 26) = u_3 at *
     generalize u_2.heap.size = g9 at *
     refine hK.out _ _ (by exact ⟨a0, a1, a2, e0, e1, e2⟩) (fun hHeldk3 => ?_)
     clear hK K hHeldk2
     try simp only [Act.put]
     refine rdy 10 fun K hK => ?_
     obtain ⟨f0_, f1_, f2_, f3_, f4_, f5_⟩ := p9.open
     obtain ⟨z0, z1, z2, z3, z4, z5⟩ := p9.held
     go_simp
     clear hT h1 h2
     replace a0 := cell_oth6 (g := g9) (u0 := .bool Iv.zero.lo.s) (u1 := .slice A13 n13 c13) (u2 := .int .i64 Iv.zero.lo.e) (u3 := .bool Iv.zero.hi.s) (u4 := .slice A14 n14 c14) (u5 := .int .i64 Iv.zero.hi.e) a0 (by omega)
     replace a1 := cell_oth6 (g := g9) (u0 := .bool Iv.zero.lo.s) (u1 := .slice A13 n13 c13) (u2 := .int .i64 Iv.zero.lo.e) (u3 := .bool Iv.zero.hi.s) (u4 := .slice A14 n14 c14) (u5 := .int .i64 Iv.zero.hi.e) a1 (by omega)
     replace a2 := cell_oth6 (g := g9) (u0 := .bool Iv.zero.lo.s) (u1 := .slice A13 n13 c13) (u2 := .int .i64 Iv.zero.lo.e) (u3 := .bool Iv.zero.hi.s) (u4 := .slice A14 n14 c14) (u5 := .int .i64 Iv.zero.hi.e) a2 (by omega)
     replace e0 := cell_oth6 (g := g9) (u0 := .bool Iv.zero.lo.s) (u1 := .slice A13 n13 c13) (u2 := .int .i64 Iv.zero.lo.e) (u3 := .bool Iv.zero.hi.s) (u4 := .slice A14 n14 c14) (u5 := .int .i64 Iv.zero.hi.e) e0 (by omega)
     replace e1 := cell_oth6 (g := g9) (u0 := .bool Iv.zero.lo.s) (u1 := .slice A13 n13 c13) (u2 := .int .i64 Iv.zero.lo.e) (u3 := .bool Iv.zero.hi.s) (u4 := .slice A14 n14 c14) (u5 := .int .i64 Iv.zero.hi.e) e1 (by omega)
     replace e2 := cell_oth6 (g := g9) (u0 := .bool Iv.zero.lo.s) (u1 := .slice A13 n13 c13) (u2 := .int .i64 Iv.zero.lo.e) (u3 := .bool Iv.zero.hi.s) (u4 := .slice A14 n14 c14) (u5 := .int .i64 Iv.zero.hi.e) e2 (by omega)
     replace BB := below_put6 (g := g9) BB gl9 (.bool Iv.zero.lo.s) (.slice A13 n13 c13) (.int .i64 Iv.zero.lo.e) (.bool Iv.zero.hi.s) (.slice A14 n14 c14) (.int .i64 Iv.zero.hi.e)
     replace p9 := p9.put Iv.zero.lo.s A13 n13 c13 Iv.zero.lo.e Iv.zero.hi.s A14 n14 c14 Iv.zero.hi.e
     clear f0_ f1_ f2_ f3_ f4_ f5_ z0 z1 z2 z3 z4 z5
     generalize (((((u_3.setCell ⟨g9, 0, none⟩ (.bool Iv.zero.lo.s)).setCell ⟨g9, 1, none⟩ (.slice A13 n13 c13)).setCell ⟨g9, 2, none⟩ (.int .i64 Iv.zero.lo.e)).setCell ⟨g9, 3, none⟩ (.bool Iv.zero.hi.s)).setCell ⟨g9, 4, none⟩ (.slice A14 n14 c14)).setCell ⟨g9, 5, none⟩ (.int .i64 Iv.zero.hi.e) = u_4 at *
     refine hK.out _ _ (by exact ⟨a0, a1, a2, e0, e1, e2⟩) (fun hHeldk4 => ?_)
     clear hK K hHeldk3
     try simp only [Act.put]
     refine tl 11 ?_
     refine wpAnyH_done (by kernel_rfl) ?_ _
     go_wp2_with fail
     go_meet
     case rel => exact ⟨rfl, BB⟩
    ·go_simp
     have gl9 : W1.heap.size ≤ u_1.heap.size := BB.size
     have gx9 : v1.heap.size < u_1.heap.size := World.block_lt_of_cell? _ _ a0
     have gy9 : v2.heap.size < u_1.heap.size := World.block_lt_of_cell? _ _ e0
     have p9 := Ibx.new u_1 false none 0 0 0 false none 0 0 0
     have b := below_alloc u_1 (.cells #[.bool false, .slice none 0 0, .int .i64 0, .bool false, .slice none 0 0, .int .i64 0] 26)
     replace BB := bnx BB b
     have G := mv b rfl (J11 hT h1 h2 a0 a1 a2 e0 e1 e2 h7 h8)
     clear b hT h1 h2 a0 a1 a2 e0 e1 e2 h7 h8
     obtain ⟨hT, h1, h2, a0, a1, a2, e0, e1, e2, h7, h8⟩ := G
     generalize u_1.alloc (.cells #[.bool false, .slice none 0 0, .int .i64 0, .bool false, .slice none 0 0, .int .i64 0] 26) = u_2 at *
     generalize u_1.heap.size = g9 at *
     refine hK.out _ _ (by exact ⟨a0, a1, a2, e0, e1, e2⟩) (fun hHeldk2 => ?_)
     clear hK K hHeldk1
     try simp only [Act.put]
     refine rdy 5 fun K hK => ?_
     go_simp
     refine (show Calls _ _ _ _ (TellI 4 Iv.zero _) from by have := adiv_any S (x := ⟨q2, q2⟩) (y := ⟨qm, q2⟩) (p := 20) hT h7 h8 h1 h2; rwa [div_known] at this).mono ?_
     rintro en u_3 ⟨A13, n13, c13, A14, n14, c14, rfl, _, _, b⟩
     clear h7 h8
     replace BB := bnx BB b
     have G := mv b rfl (J10 hT h1 h2 a0 a1 a2 e0 e1 e2 p9)
     clear b hT h1 h2 a0 a1 a2 e0 e1 e2 p9
     obtain ⟨hT, h1, h2, a0, a1, a2, e0, e1, e2, p9⟩ := G
     refine hK.out _ _ (by exact ⟨a0, a1, a2, e0, e1, e2⟩) (fun hHeldk3 => ?_)
     clear hK K hHeldk2
     try simp only [Act.put]
     refine tl 6 ?_
     refine tl 7 ?_
     refine tl 8 ?_
     refine rdy 10 fun K hK => ?_
     obtain ⟨f0_, f1_, f2_, f3_, f4_, f5_⟩ := p9.open
     obtain ⟨z0, z1, z2, z3, z4, z5⟩ := p9.held
     go_simp
     clear hT h1 h2
     replace a0 := cell_oth6 (g := g9) (u0 := .bool Iv.zero.lo.s) (u1 := .slice A13 n13 c13) (u2 := .int .i64 Iv.zero.lo.e) (u3 := .bool Iv.zero.hi.s) (u4 := .slice A14 n14 c14) (u5 := .int .i64 Iv.zero.hi.e) a0 (by omega)
     replace a1 := cell_oth6 (g := g9) (u0 := .bool Iv.zero.lo.s) (u1 := .slice A13 n13 c13) (u2 := .int .i64 Iv.zero.lo.e) (u3 := .bool Iv.zero.hi.s) (u4 := .slice A14 n14 c14) (u5 := .int .i64 Iv.zero.hi.e) a1 (by omega)
     replace a2 := cell_oth6 (g := g9) (u0 := .bool Iv.zero.lo.s) (u1 := .slice A13 n13 c13) (u2 := .int .i64 Iv.zero.lo.e) (u3 := .bool Iv.zero.hi.s) (u4 := .slice A14 n14 c14) (u5 := .int .i64 Iv.zero.hi.e) a2 (by omega)
     replace e0 := cell_oth6 (g := g9) (u0 := .bool Iv.zero.lo.s) (u1 := .slice A13 n13 c13) (u2 := .int .i64 Iv.zero.lo.e) (u3 := .bool Iv.zero.hi.s) (u4 := .slice A14 n14 c14) (u5 := .int .i64 Iv.zero.hi.e) e0 (by omega)
     replace e1 := cell_oth6 (g := g9) (u0 := .bool Iv.zero.lo.s) (u1 := .slice A13 n13 c13) (u2 := .int .i64 Iv.zero.lo.e) (u3 := .bool Iv.zero.hi.s) (u4 := .slice A14 n14 c14) (u5 := .int .i64 Iv.zero.hi.e) e1 (by omega)
     replace e2 := cell_oth6 (g := g9) (u0 := .bool Iv.zero.lo.s) (u1 := .slice A13 n13 c13) (u2 := .int .i64 Iv.zero.lo.e) (u3 := .bool Iv.zero.hi.s) (u4 := .slice A14 n14 c14) (u5 := .int .i64 Iv.zero.hi.e) e2 (by omega)
     replace BB := below_put6 (g := g9) BB gl9 (.bool Iv.zero.lo.s) (.slice A13 n13 c13) (.int .i64 Iv.zero.lo.e) (.bool Iv.zero.hi.s) (.slice A14 n14 c14) (.int .i64 Iv.zero.hi.e)
     replace p9 := p9.put Iv.zero.lo.s A13 n13 c13 Iv.zero.lo.e Iv.zero.hi.s A14 n14 c14 Iv.zero.hi.e
     clear f0_ f1_ f2_ f3_ f4_ f5_ z0 z1 z2 z3 z4 z5
     generalize (((((u_3.setCell ⟨g9, 0, none⟩ (.bool Iv.zero.lo.s)).setCell ⟨g9, 1, none⟩ (.slice A13 n13 c13)).setCell ⟨g9, 2, none⟩ (.int .i64 Iv.zero.lo.e)).setCell ⟨g9, 3, none⟩ (.bool Iv.zero.hi.s)).setCell ⟨g9, 4, none⟩ (.slice A14 n14 c14)).setCell ⟨g9, 5, none⟩ (.int .i64 Iv.zero.hi.e) = u_4 at *
     refine hK.out _ _ (by exact ⟨a0, a1, a2, e0, e1, e2⟩) (fun hHeldk4 => ?_)
     clear hK K hHeldk3
     try simp only [Act.put]
     refine tl 11 ?_
     refine wpAnyH_done (by kernel_rfl) ?_ _
     go_wp2_with fail
     go_meet
     case rel => exact ⟨rfl, BB⟩
   ·go_simp
    have gl9 : W1.heap.size ≤ wd.heap.size := BB.size
    have gx9 : v1.heap.size < wd.heap.size := World.block_lt_of_cell? _ _ a0
    have gy9 : v2.heap.size < wd.heap.size := World.block_lt_of_cell? _ _ e0
    have p9 := Ibx.new wd false none 0 0 0 false none 0 0 0
    have b := below_alloc wd (.cells #[.bool false, .slice none 0 0, .int .i64 0, .bool false, .slice none 0 0, .int .i64 0] 26)
    replace BB := bnx BB b
    have G := mv b rfl (J9 hT h1 h2 a0 a1 a2 e0 e1 e2)
    clear b hT h1 h2 a0 a1 a2 e0 e1 e2
    obtain ⟨hT, h1, h2, a0, a1, a2, e0, e1, e2⟩ := G
    generalize wd.alloc (.cells #[.bool false, .slice none 0 0, .int .i64 0, .bool false, .slice none 0 0, .int .i64 0] 26) = u_1 at *
    generalize wd.heap.size = g9 at *
    refine hK.out _ _ (by exact ⟨a0, a1, a2, e0, e1, e2⟩) (fun hHeldk1 => ?_)
    clear hK K hHeldk0
    try simp only [Act.put]
    refine rdy 1 fun K hK => ?_
    go_simp
    refine (show Calls _ _ _ _ (GivI x22 _) from iof_any (a := q2) h2 Z2.out).mono ?_
    rintro en u_2 ⟨A7, n7, c7, A8, n8, c8, rfl, h7, h8, b⟩
    replace BB := bnx BB b
    have G := mv b rfl (J10 hT h1 h2 a0 a1 a2 e0 e1 e2 p9)
    clear b hT h1 h2 a0 a1 a2 e0 e1 e2 p9
    obtain ⟨hT, h1, h2, a0, a1, a2, e0, e1, e2, p9⟩ := G
    refine hK.out _ _ (by exact ⟨a0, a1, a2, e0, e1, e2⟩) (fun hHeldk2 => ?_)
    clear hK K hHeldk1
    try simp only [Act.put]
    refine rdy 5 fun K hK => ?_
    go_simp
    refine (show Calls _ _ _ _ (TellI 4 Iv.zero _) from by have := adiv_any S (x := ⟨q2, q2⟩) (y := ⟨qm, q2⟩) (p := 20) hT h7 h8 h1 h2; rwa [div_known] at this).mono ?_
    rintro en u_3 ⟨A13, n13, c13, A14, n14, c14, rfl, _, _, b⟩
    clear h7 h8
    replace BB := bnx BB b
    have G := mv b rfl (J10 hT h1 h2 a0 a1 a2 e0 e1 e2 p9)
    clear b hT h1 h2 a0 a1 a2 e0 e1 e2 p9
    obtain ⟨hT, h1, h2, a0, a1, a2, e0, e1, e2, p9⟩ := G
    refine hK.out _ _ (by exact ⟨a0, a1, a2, e0, e1, e2⟩) (fun hHeldk3 => ?_)
    clear hK K hHeldk2
    try simp only [Act.put]
    refine tl 6 ?_
    refine tl 7 ?_
    refine tl 8 ?_
    refine rdy 10 fun K hK => ?_
    obtain ⟨f0_, f1_, f2_, f3_, f4_, f5_⟩ := p9.open
    obtain ⟨z0, z1, z2, z3, z4, z5⟩ := p9.held
    go_simp
    clear hT h1 h2
    replace a0 := cell_oth6 (g := g9) (u0 := .bool Iv.zero.lo.s) (u1 := .slice A13 n13 c13) (u2 := .int .i64 Iv.zero.lo.e) (u3 := .bool Iv.zero.hi.s) (u4 := .slice A14 n14 c14) (u5 := .int .i64 Iv.zero.hi.e) a0 (by omega)
    replace a1 := cell_oth6 (g := g9) (u0 := .bool Iv.zero.lo.s) (u1 := .slice A13 n13 c13) (u2 := .int .i64 Iv.zero.lo.e) (u3 := .bool Iv.zero.hi.s) (u4 := .slice A14 n14 c14) (u5 := .int .i64 Iv.zero.hi.e) a1 (by omega)
    replace a2 := cell_oth6 (g := g9) (u0 := .bool Iv.zero.lo.s) (u1 := .slice A13 n13 c13) (u2 := .int .i64 Iv.zero.lo.e) (u3 := .bool Iv.zero.hi.s) (u4 := .slice A14 n14 c14) (u5 := .int .i64 Iv.zero.hi.e) a2 (by omega)
    replace e0 := cell_oth6 (g := g9) (u0 := .bool Iv.zero.lo.s) (u1 := .slice A13 n13 c13) (u2 := .int .i64 Iv.zero.lo.e) (u3 := .bool Iv.zero.hi.s) (u4 := .slice A14 n14 c14) (u5 := .int .i64 Iv.zero.hi.e) e0 (by omega)
    replace e1 := cell_oth6 (g := g9) (u0 := .bool Iv.zero.lo.s) (u1 := .slice A13 n13 c13) (u2 := .int .i64 Iv.zero.lo.e) (u3 := .bool Iv.zero.hi.s) (u4 := .slice A14 n14 c14) (u5 := .int .i64 Iv.zero.hi.e) e1 (by omega)
    replace e2 := cell_oth6 (g := g9) (u0 := .bool Iv.zero.lo.s) (u1 := .slice A13 n13 c13) (u2 := .int .i64 Iv.zero.lo.e) (u3 := .bool Iv.zero.hi.s) (u4 := .slice A14 n14 c14) (u5 := .int .i64 Iv.zero.hi.e) e2 (by omega)
    replace BB := below_put6 (g := g9) BB gl9 (.bool Iv.zero.lo.s) (.slice A13 n13 c13) (.int .i64 Iv.zero.lo.e) (.bool Iv.zero.hi.s) (.slice A14 n14 c14) (.int .i64 Iv.zero.hi.e)
    replace p9 := p9.put Iv.zero.lo.s A13 n13 c13 Iv.zero.lo.e Iv.zero.hi.s A14 n14 c14 Iv.zero.hi.e
    clear f0_ f1_ f2_ f3_ f4_ f5_ z0 z1 z2 z3 z4 z5
    generalize (((((u_3.setCell ⟨g9, 0, none⟩ (.bool Iv.zero.lo.s)).setCell ⟨g9, 1, none⟩ (.slice A13 n13 c13)).setCell ⟨g9, 2, none⟩ (.int .i64 Iv.zero.lo.e)).setCell ⟨g9, 3, none⟩ (.bool Iv.zero.hi.s)).setCell ⟨g9, 4, none⟩ (.slice A14 n14 c14)).setCell ⟨g9, 5, none⟩ (.int .i64 Iv.zero.hi.e) = u_4 at *
    refine hK.out _ _ (by exact ⟨a0, a1, a2, e0, e1, e2⟩) (fun hHeldk4 => ?_)
    clear hK K hHeldk3
    try simp only [Act.put]
    refine tl 11 ?_
    refine wpAnyH_done (by kernel_rfl) ?_ _
    go_wp2_with fail
    go_meet
    case rel => exact ⟨rfl, BB⟩
  case rest =>
   obtain ⟨rfl, b⟩ := hcut
   replace BB := bnx BB b
   have G := mv b rfl (J19 hT h1 a0 a1 a2 h2 e0 e1 e2 h3 f0 f1 f2 f3 f4 f5 p9 h9 h10)
   clear b hT h1 a0 a1 a2 h2 e0 e1 e2 h3 f0 f1 f2 f3 f4 f5 p9 h9 h10
   obtain ⟨hT, h1, a0, a1, a2, h2, e0, e1, e2, h3, f0, f1, f2, f3, f4, f5, p9, h9, h10⟩ := G
   go_wp2_with fail
   refine (show Calls _ _ _ _ (GivI xmm _) from iof_any (a := qm) h1 Z1.out).mono ?_
   rintro en v7 ⟨A5, n5, c5, A6, n6, c6, rfl, h5, h6, b⟩
   replace BB := bnx BB b
   have G := mv b rfl (J19 hT h1 a0 a1 a2 h2 e0 e1 e2 h3 f0 f1 f2 f3 f4 f5 p9 h9 h10)
   clear b hT h1 a0 a1 a2 h2 e0 e1 e2 h3 f0 f1 f2 f3 f4 f5 p9 h9 h10
   obtain ⟨hT, h1, a0, a1, a2, h2, e0, e1, e2, h3, f0, f1, f2, f3, f4, f5, p9, h9, h10⟩ := G
   go_wp2_with fail
   refine (show Calls _ _ _ _ (TellI 4 Iv.zero _) from by have := asqrt_any S (x := ⟨qm, qm⟩) (p := 20) hT h5 h6; rwa [sqrt_known] at this).mono ?_
   rintro en v8 ⟨A15, n15, c15, A16, n16, c16, rfl, _, _, b⟩
   clear h5 h6 h1 h2 a0 a1 a2 e0 e1 e2
   replace BB := bnx BB b
   have G := mv b rfl (J11 hT h3 f0 f1 f2 f3 f4 f5 p9 h9 h10)
   clear b hT h3 f0 f1 f2 f3 f4 f5 p9 h9 h10
   obtain ⟨hT, h3, f0, f1, f2, f3, f4, f5, p9, h9, h10⟩ := G
   have b := below_alloc v8 (.cells #[.bool Iv.zero.lo.s, .slice A15 n15 c15, .int .i64 Iv.zero.lo.e, .bool Iv.zero.hi.s, .slice A16 n16 c16, .int .i64 Iv.zero.hi.e] 26)
   replace BB := bnx BB b
   have G := mv b rfl (J11 hT h3 f0 f1 f2 f3 f4 f5 p9 h9 h10)
   clear b hT h3 f0 f1 f2 f3 f4 f5 p9 h9 h10
   obtain ⟨hT, h3, f0, f1, f2, f3, f4, f5, p9, h9, h10⟩ := G
   obtain ⟨k0, k1, k2, k3, k4, k5⟩ := p9.held
   go_wp2_with fail
   refine (show Calls _ _ _ _ (Ints 0 _) from by have := dsign_raw (s1 := Rw.zero.s) (e1 := Rw.zero.e) hT h3; exact this).mono ?_
   rintro en v9 ⟨rfl, b⟩
   clear h3
   replace BB := bnx BB b
   have G := mv b rfl (J16 hT f0 f1 f2 f3 f4 f5 p9 h9 h10 k0 k1 k2 k3 k4 k5)
   clear b hT f0 f1 f2 f3 f4 f5 p9 h9 h10 k0 k1 k2 k3 k4 k5
   obtain ⟨hT, f0, f1, f2, f3, f4, f5, p9, h9, h10, k0, k1, k2, k3, k4, k5⟩ := G
   go_wp2_with fail
   refine (show Calls _ _ _ _ (Ints 0 _) from by have := dcmp_raw (K := S.K) (s1 := q1.s) (e1 := q1.e) (s2 := q1.s) (e2 := q1.e) S.big hT h9 h10; rwa [show cmpR S.K q1.s q1.l q1.e q1.s q1.l q1.e = 0 from by have := cmpQ_turn (K := S.K) q1 q1; unfold cmpQ at this; omega] at this).mono ?_
   rintro en v10 ⟨rfl, b⟩
   replace BB := bnx BB b
   have G := mv b rfl (J16 hT f0 f1 f2 f3 f4 f5 p9 h9 h10 k0 k1 k2 k3 k4 k5)
   clear b hT f0 f1 f2 f3 f4 f5 p9 h9 h10 k0 k1 k2 k3 k4 k5
   obtain ⟨hT, f0, f1, f2, f3, f4, f5, p9, h9, h10, k0, k1, k2, k3, k4, k5⟩ := G
   have j0 := k0
   have j1 := k1
   have j2 := k2
   have N9 := nt_one_at (w := v10) (v := 1) rfl (by omega) (by omega)
   have b := below_alloc v10 (.cells #[.int .u64 1] 41)
   replace BB := bnx BB b
   have G := mv b rfl (J16 hT f0 f1 f2 f3 f4 f5 p9 h9 h10 k0 k1 k2 k3 k4 k5)
   clear b hT f0 f1 f2 f3 f4 f5 p9 h9 h10 k0 k1 k2 k3 k4 k5
   obtain ⟨hT, f0, f1, f2, f3, f4, f5, p9, h9, h10, k0, k1, k2, k3, k4, k5⟩ := G
   go_wp2_with fail
   refine (show Calls _ _ _ _ (Bools true _) from by have := dsame_raw (s := q1.s) (e := q1.e) (t := false) (f := 0) h9 N9.rd; rwa [show sameB q1.s false q1.l (dig Go.Proofs.YtdklnpaocaebkaaGreatDoor.W 1) q1.e 0 = true from decide_eq_true ⟨rfl, rfl, rfl⟩] at this).mono ?_
   rintro en v11 ⟨rfl, b⟩
   replace BB := bnx BB b
   have G := mv b rfl (J17 hT f0 f1 f2 f3 f4 f5 p9 h9 h10 k0 k1 k2 k3 k4 k5 N9)
   clear b hT f0 f1 f2 f3 f4 f5 p9 h9 h10 k0 k1 k2 k3 k4 k5 N9
   obtain ⟨hT, f0, f1, f2, f3, f4, f5, p9, h9, h10, k0, k1, k2, k3, k4, k5, N9⟩ := G
   go_wp2
   go_ret
   exact ⟨by first | rfl | simp, BB⟩

end Go.Proofs.YtdklnpaocaebkaaGreatDoor
