/-
  Contracts of dyad's sizes, without, at this translation. Condition: the Dyads' limbs read as naturals, the table of math/bits reads as its text lays it.
-/
import Derived.Test.YtkpcmgfpmekkjaaDoorQDy3
namespace Go.Proofs.YtkpcmgfpmekkjaaDoor
open Go.RowKit

set_option maxRecDepth 100000 in
set_option maxHeartbeats 1000000 in
theorem without_le {w : World} {A B : Option Addr} {n c m d x y : Nat} {s t : Bool} {e f : Int} (hT : Tab w) (h : Nt w A n c x) (h' : Nt w B m d y) (he : -1048576 ≤ e) (he' : e ≤ 1048576) (hf : -1048576 ≤ f) (hf' : f ≤ 1048576) (hy : y ≠ 0) {j : Nat} (hj : f - e = (j : Int)) (hle : y * 2 ^ j ≤ x) {k : Int} {s' : Bool} {m' : Nat} {e' : Int} (hN : Nm s (x - y * 2 ^ j) e k s' m' e') (hk : k = 0) :
    Calls Tryd.prog 84 #[.agg #[.bool s, .slice A n c, .int .i64 e], .agg #[.bool t, .slice B m d, .int .i64 f]] w (Goods s' m' e' w) := by
  subst hk
  have HY := Lib.hid hy
  have HLE := Lib.hid hle
  have HN := Lib.hid hN
  have HL2 : Hid (y * 2 ^ j < W ^ 64) := Lib.hid (Nat.lt_of_le_of_lt hle h.lt)
  clear hy hle hN
  have d0 : decide (e ≤ f) = true := decide_eq_true (by omega)
  have g := (two_new w s t A B n c m d e f).alloc (.cells #[.bool false, .slice none 0 0, .int .i64 0] 28)
  have r := box_two w (.cells #[.bool s, .slice A n c, .int .i64 e] 28) (.cells #[.bool t, .slice B m d, .int .i64 f] 28) false none 0 0 0
  have BB := three_below w (.cells #[.bool s, .slice A n c, .int .i64 e] 28) (.cells #[.bool t, .slice B m d, .int .i64 f] 28) (.cells #[.bool false, .slice none 0 0, .int .i64 0] 28)
  obtain ⟨p0, p1, p2, p3, p4, p5⟩ := g.held
  have h1 := h.below BB
  have h2 := h'.below BB
  have hT1 := hT.below BB
  have ne1 : ¬ w.heap.size + 2 = w.heap.size + 1 := by omega
  have ne2 : ¬ w.heap.size + 1 = w.heap.size + 2 := by omega
  have ne3 : ¬ w.heap.size = w.heap.size + 2 := by omega
  have ne4 : ¬ w.heap.size + 2 = w.heap.size := by omega
  clear h h' hT
  go_enter Tryd.func84, Tryd.ntmps84
  go_wp2_with fail
  refine wp_region_held_drew (S := fun w' => w'.cell? ⟨w.heap.size, 0, none⟩ = some (.bool s) ∧ w'.cell? ⟨w.heap.size, 1, none⟩ = some (.slice A n c) ∧ w'.cell? ⟨w.heap.size, 2, none⟩ = some (.int .i64 e) ∧ w'.cell? ⟨w.heap.size + 1, 0, none⟩ = some (.bool t) ∧ w'.cell? ⟨w.heap.size + 1, 1, none⟩ = some (.slice B m d) ∧ w'.cell? ⟨w.heap.size + 1, 2, none⟩ = some (.int .i64 f)) (by kernel_rfl) (by first | (dsimp only; go_keep) | go_keep) (fun hHeld => ?_)
  refine tk 0 12 ?_
  simp only [Act.put]
  refine tk 1 13 ?_
  simp only [Act.put]
  refine tk 2 14 ?_
  simp only [Act.put]
  refine tk 3 15 ?_
  simp only [Act.put]
  refine tk 4 16 ?_
  simp only [Act.put]
  refine tk 5 17 ?_
  simp only [Act.put]
  refine tk 6 18 ?_
  simp only [Act.put]
  refine tk 12 24 ?_
  simp only [Act.put]
  refine tk 13 25 ?_
  simp only [Act.put]
  refine wpAnyH_ready (rs := [7]) (by kernel_rfl) (by simp) ?_
  refine AllReadyH.cons (o := _) rfl (fun K hK => ?_) AllReadyH.nil
  go_simp
  refine (over_ok (j := j) (h2.heap (by rfl)) hf hf' (by omega) (by omega) (by omega) HY.out HL2.out).mono ?_
  rintro en w1 ⟨A3, n3, c3, rfl, h4, b⟩
  replace h1 := h1.next b (by rfl)
  replace hT1 := hT1.next b (by rfl)
  replace g := g.next b (by rfl)
  replace r := r.next b (by rfl)
  replace BB := below_next BB BB.size b (by rfl) (by rfl) (by rfl) (by rfl)
  clear b h2
  obtain ⟨q0, q1, q2, q3, q4, q5⟩ := g.held
  refine hK.out _ _ (by first | (dsimp only; go_keep) | go_keep) (fun hHeld => ?_)
  clear hK K
  try simp only [Act.put]
  refine wpAnyH_ready (rs := [8]) (by kernel_rfl) (by simp) ?_
  refine AllReadyH.cons (o := _) rfl (fun K hK => ?_) AllReadyH.nil
  go_simp
  refine (sub_ok (h1.heap (by rfl)) (h4.heap (by rfl)) HLE.out).mono ?_
  rintro en w2 ⟨A4, n4, c4, rfl, hs4, b⟩
  replace hT1 := hT1.next b (by rfl)
  replace g := g.next b (by rfl)
  replace r := r.next b (by rfl)
  replace BB := below_next BB BB.size b (by rfl) (by rfl) (by rfl) (by rfl)
  clear b h1 h4
  obtain ⟨q0, q1, q2, q3, q4, q5⟩ := g.held
  refine hK.out _ _ (by first | (dsimp only; go_keep) | go_keep) (fun hHeld => ?_)
  clear hK K
  try simp only [Act.put]
  refine tk 9 21 ?_
  simp only [Act.put]
  refine tk 10 22 ?_
  simp only [Act.put]
  refine wpAnyH_ready (rs := [11]) (by kernel_rfl) (by simp) ?_
  refine AllReadyH.cons (o := _) rfl (fun K hK => ?_) AllReadyH.nil
  go_simp
  refine (natural_ok).mono ?_
  rintro en w' ⟨rfl, rfl⟩
  refine hK.out _ _ (by first | (dsimp only; go_keep) | go_keep) (fun hHeld => ?_)
  clear hK K
  try simp only [Act.put]
  refine wpAnyH_ready (rs := [14]) (by kernel_rfl) (by simp) ?_
  refine AllReadyH.cons (o := _) rfl (fun K hK => ?_) AllReadyH.nil
  go_simp
  refine (normal_good (hT1.heap (by rfl)) (hs4.heap (by rfl)) HN.out).mono ?_
  rintro en w3 ⟨A5, n5, c5, rfl, h5, b⟩
  replace hT1 := hT1.next b (by rfl)
  replace g := g.next b (by rfl)
  replace r := r.next b (by rfl)
  replace hs4 := hs4.next b (by rfl)
  replace BB := below_next BB BB.size b (by rfl) (by rfl) (by rfl) (by rfl)
  clear b
  obtain ⟨q0, q1, q2, q3, q4, q5⟩ := g.held
  obtain ⟨f0, f1, f2⟩ := r.open
  obtain ⟨z0, z1, z2⟩ := r.held
  refine hK.out _ _ (by first | (dsimp only; go_keep) | go_keep) (fun hHeld => ?_)
  clear hK K
  try simp only [Act.put]
  refine wpAnyH_ready (rs := [15]) (by kernel_rfl) (by simp) ?_
  refine AllReadyH.cons (o := _) rfl (fun K hK => ?_) AllReadyH.nil
  go_simp
  refine hK.out _ _ (by first | (dsimp only; go_keep) | go_keep) (fun hHeld => ?_)
  clear hK K
  try simp only [Act.put]
  refine wpAnyH_done (by kernel_rfl) ?_ _
  go_wp2
  have p := r.put s' A5 n5 c5 e'
  have hN5 := h5.put3 r (.bool s') (.slice A5 n5 c5) (.int .i64 e')
  have HB3 := below_put3 (g := w.heap.size + 2) BB (by omega) (.bool s') (.slice A5 n5 c5) (.int .i64 e')
  obtain ⟨z0, z1, z2⟩ := p.held
  exact bodyPost_ret (v := .agg #[.bool s', .slice A5 n5 c5, .int .i64 e']) (by simp [results, Tryd.results84, go_sem, z0, z1, z2]) rfl ⟨_, _, _, rfl, hN5, HB3⟩

set_option maxRecDepth 100000 in
set_option maxHeartbeats 1000000 in
theorem without_fault {w : World} {A B : Option Addr} {n c m d x y : Nat} {s t : Bool} {e f : Int} (hT : Tab w) (h : Nt w A n c x) (h' : Nt w B m d y) (he : -1048576 ≤ e) (he' : e ≤ 1048576) (hf : -1048576 ≤ f) (hf' : f ≤ 1048576) (hy : y ≠ 0) {j : Nat} (hj : f - e = (j : Int)) (hle : y * 2 ^ j ≤ x) {k : Int} {s' : Bool} {m' : Nat} {e' : Int} (hN : Nm s (x - y * 2 ^ j) e k s' m' e') (hk : k ≠ 0) :
    Calls Tryd.prog 84 #[.agg #[.bool s, .slice A n c, .int .i64 e], .agg #[.bool t, .slice B m d, .int .i64 f]] w (Faults k w) := by
  have HK := Lib.hid hk
  clear hk
  have HY := Lib.hid hy
  have HLE := Lib.hid hle
  have HN := Lib.hid hN
  have HL2 : Hid (y * 2 ^ j < W ^ 64) := Lib.hid (Nat.lt_of_le_of_lt hle h.lt)
  clear hy hle hN
  have d0 : decide (e ≤ f) = true := decide_eq_true (by omega)
  have g := (two_new w s t A B n c m d e f).alloc (.cells #[.bool false, .slice none 0 0, .int .i64 0] 28)
  have r := box_two w (.cells #[.bool s, .slice A n c, .int .i64 e] 28) (.cells #[.bool t, .slice B m d, .int .i64 f] 28) false none 0 0 0
  have BB := three_below w (.cells #[.bool s, .slice A n c, .int .i64 e] 28) (.cells #[.bool t, .slice B m d, .int .i64 f] 28) (.cells #[.bool false, .slice none 0 0, .int .i64 0] 28)
  obtain ⟨p0, p1, p2, p3, p4, p5⟩ := g.held
  have h1 := h.below BB
  have h2 := h'.below BB
  have hT1 := hT.below BB
  have ne1 : ¬ w.heap.size + 2 = w.heap.size + 1 := by omega
  have ne2 : ¬ w.heap.size + 1 = w.heap.size + 2 := by omega
  have ne3 : ¬ w.heap.size = w.heap.size + 2 := by omega
  have ne4 : ¬ w.heap.size + 2 = w.heap.size := by omega
  clear h h' hT
  go_enter Tryd.func84, Tryd.ntmps84
  go_wp2_with fail
  refine wp_region_held_drew (S := fun w' => w'.cell? ⟨w.heap.size, 0, none⟩ = some (.bool s) ∧ w'.cell? ⟨w.heap.size, 1, none⟩ = some (.slice A n c) ∧ w'.cell? ⟨w.heap.size, 2, none⟩ = some (.int .i64 e) ∧ w'.cell? ⟨w.heap.size + 1, 0, none⟩ = some (.bool t) ∧ w'.cell? ⟨w.heap.size + 1, 1, none⟩ = some (.slice B m d) ∧ w'.cell? ⟨w.heap.size + 1, 2, none⟩ = some (.int .i64 f)) (by kernel_rfl) (by first | (dsimp only; go_keep) | go_keep) (fun hHeld => ?_)
  refine tk 0 12 ?_
  simp only [Act.put]
  refine tk 1 13 ?_
  simp only [Act.put]
  refine tk 2 14 ?_
  simp only [Act.put]
  refine tk 3 15 ?_
  simp only [Act.put]
  refine tk 4 16 ?_
  simp only [Act.put]
  refine tk 5 17 ?_
  simp only [Act.put]
  refine tk 6 18 ?_
  simp only [Act.put]
  refine tk 12 24 ?_
  simp only [Act.put]
  refine tk 13 25 ?_
  simp only [Act.put]
  refine wpAnyH_ready (rs := [7]) (by kernel_rfl) (by simp) ?_
  refine AllReadyH.cons (o := _) rfl (fun K hK => ?_) AllReadyH.nil
  go_simp
  refine (over_ok (j := j) (h2.heap (by rfl)) hf hf' (by omega) (by omega) (by omega) HY.out HL2.out).mono ?_
  rintro en w1 ⟨A3, n3, c3, rfl, h4, b⟩
  replace h1 := h1.next b (by rfl)
  replace hT1 := hT1.next b (by rfl)
  replace g := g.next b (by rfl)
  replace r := r.next b (by rfl)
  replace BB := below_next BB BB.size b (by rfl) (by rfl) (by rfl) (by rfl)
  clear b h2
  obtain ⟨q0, q1, q2, q3, q4, q5⟩ := g.held
  refine hK.out _ _ (by first | (dsimp only; go_keep) | go_keep) (fun hHeld => ?_)
  clear hK K
  try simp only [Act.put]
  refine wpAnyH_ready (rs := [8]) (by kernel_rfl) (by simp) ?_
  refine AllReadyH.cons (o := _) rfl (fun K hK => ?_) AllReadyH.nil
  go_simp
  refine (sub_ok (h1.heap (by rfl)) (h4.heap (by rfl)) HLE.out).mono ?_
  rintro en w2 ⟨A4, n4, c4, rfl, hs4, b⟩
  replace hT1 := hT1.next b (by rfl)
  replace g := g.next b (by rfl)
  replace r := r.next b (by rfl)
  replace BB := below_next BB BB.size b (by rfl) (by rfl) (by rfl) (by rfl)
  clear b h1 h4
  obtain ⟨q0, q1, q2, q3, q4, q5⟩ := g.held
  refine hK.out _ _ (by first | (dsimp only; go_keep) | go_keep) (fun hHeld => ?_)
  clear hK K
  try simp only [Act.put]
  refine tk 9 21 ?_
  simp only [Act.put]
  refine tk 10 22 ?_
  simp only [Act.put]
  refine wpAnyH_ready (rs := [11]) (by kernel_rfl) (by simp) ?_
  refine AllReadyH.cons (o := _) rfl (fun K hK => ?_) AllReadyH.nil
  go_simp
  refine (natural_ok).mono ?_
  rintro en w' ⟨rfl, rfl⟩
  refine hK.out _ _ (by first | (dsimp only; go_keep) | go_keep) (fun hHeld => ?_)
  clear hK K
  try simp only [Act.put]
  refine wpAnyH_ready (rs := [14]) (by kernel_rfl) (by simp) ?_
  refine AllReadyH.cons (o := _) rfl (fun K hK => ?_) AllReadyH.nil
  go_simp
  refine (normal_fault (hT1.heap (by rfl)) (hs4.heap (by rfl)) HN.out HK.out).mono ?_
  rintro en w9 ⟨rfl, b⟩
  exact ⟨rfl, rfl, below_next BB BB.size b (by rfl) (by rfl) (by rfl) (by rfl)⟩

set_option maxRecDepth 100000 in
set_option maxHeartbeats 1000000 in
theorem without_gt_good {w : World} {A B : Option Addr} {n c m d x y : Nat} {s t : Bool} {e f : Int} (hT : Tab w) (h : Nt w A n c x) (h' : Nt w B m d y) (he : -1048576 ≤ e) (he' : e ≤ 1048576) (hf : -1048576 ≤ f) (hf' : f ≤ 1048576) (hx : x ≠ 0) {i : Nat} (hi : e - (f + 1) = (i : Int)) (hfit : x * 2 ^ i < W ^ 64) (hle : y / 2 + 1 ≤ x * 2 ^ i) (hlt : (x * 2 ^ i - (y / 2 + 1)) * 2 ^ 1 + 1 < W ^ 64) :
    Calls Tryd.prog 84 #[.agg #[.bool s, .slice A n c, .int .i64 e], .agg #[.bool t, .slice B m d, .int .i64 f]] w (Goods s ((x * 2 ^ i - (y / 2 + 1)) * 2 ^ 1 + 1) f w) := by
  have HX := Lib.hid hx
  have d0 : decide (e ≤ f) = false := decide_eq_false (by omega)
  have hs : IntKind.i64.wrap (f + 1) = f + 1 := IntWalk.i64_in _ (by omega)
  have HL1 := Lib.hid hfit
  have HLE := Lib.hid hle
  have HS1 : Hid ((x * 2 ^ i - (y / 2 + 1)) * 2 ^ 1 < W ^ 64) := Lib.hid (by omega)
  have HS2 := Lib.hid hlt
  have HN : Hid (Nm s ((x * 2 ^ i - (y / 2 + 1)) * 2 ^ 1 + 1) f 0 s ((x * 2 ^ i - (y / 2 + 1)) * 2 ^ 1 + 1) f) := Lib.hid (nm_self (.inr ⟨by omega, hlt, by omega, by omega⟩))
  clear hfit hle hlt hx
  have g := (two_new w s t A B n c m d e f).alloc (.cells #[.bool false, .slice none 0 0, .int .i64 0] 28)
  have r := box_two w (.cells #[.bool s, .slice A n c, .int .i64 e] 28) (.cells #[.bool t, .slice B m d, .int .i64 f] 28) false none 0 0 0
  have BB := three_below w (.cells #[.bool s, .slice A n c, .int .i64 e] 28) (.cells #[.bool t, .slice B m d, .int .i64 f] 28) (.cells #[.bool false, .slice none 0 0, .int .i64 0] 28)
  obtain ⟨p0, p1, p2, p3, p4, p5⟩ := g.held
  have h1 := h.below BB
  have h2 := h'.below BB
  have hT1 := hT.below BB
  have ne1 : ¬ w.heap.size + 2 = w.heap.size + 1 := by omega
  have ne2 : ¬ w.heap.size + 1 = w.heap.size + 2 := by omega
  have ne3 : ¬ w.heap.size = w.heap.size + 2 := by omega
  have ne4 : ¬ w.heap.size + 2 = w.heap.size := by omega
  clear h h' hT
  go_enter Tryd.func84, Tryd.ntmps84
  go_wp2_with fail
  refine wp_region_held_drew (S := fun w' => w'.cell? ⟨w.heap.size, 0, none⟩ = some (.bool s) ∧ w'.cell? ⟨w.heap.size, 1, none⟩ = some (.slice A n c) ∧ w'.cell? ⟨w.heap.size, 2, none⟩ = some (.int .i64 e) ∧ w'.cell? ⟨w.heap.size + 1, 0, none⟩ = some (.bool t) ∧ w'.cell? ⟨w.heap.size + 1, 1, none⟩ = some (.slice B m d) ∧ w'.cell? ⟨w.heap.size + 1, 2, none⟩ = some (.int .i64 f)) (by kernel_rfl) (by first | (dsimp only; go_keep) | go_keep) (fun hHeld => ?_)
  refine tk 0 27 ?_
  simp only [Act.put]
  refine tk 1 28 ?_
  simp only [Act.put]
  refine tk 2 29 ?_
  simp only [Act.put]
  refine tk 3 30 ?_
  simp only [Act.put]
  refine tk 5 32 ?_
  simp only [Act.put]
  refine tk 6 33 ?_
  simp only [Act.put]
  refine wpAnyH_ready (rs := [4]) (by kernel_rfl) (by simp) ?_
  refine AllReadyH.cons (o := _) rfl (fun K hK => ?_) AllReadyH.nil
  go_simp
  refine (over_ok (j := i) (h1.heap (by rfl)) he he' (by omega) (by omega) (by omega) HX.out HL1.out).mono ?_
  rintro en w1 ⟨A2, n2, c2, rfl, h3, b⟩
  replace h2 := h2.next b (by rfl)
  replace hT1 := hT1.next b (by rfl)
  replace g := g.next b (by rfl)
  replace r := r.next b (by rfl)
  replace BB := below_next BB BB.size b (by rfl) (by rfl) (by rfl) (by rfl)
  clear b h1
  obtain ⟨q0, q1, q2, q3, q4, q5⟩ := g.held
  refine hK.out _ _ (by first | (dsimp only; go_keep) | go_keep) (fun hHeld => ?_)
  clear hK K
  try simp only [Act.put]
  refine wpAnyH_ready (rs := [7]) (by kernel_rfl) (by simp) ?_
  refine AllReadyH.cons (o := _) rfl (fun K hK => ?_) AllReadyH.nil
  go_simp
  refine (greater_any (h2.heap (by rfl))).mono ?_
  rintro en w2 ⟨A3, n3, c3, rfl, h4, b⟩
  replace hT1 := hT1.next b (by rfl)
  replace g := g.next b (by rfl)
  replace r := r.next b (by rfl)
  replace h3 := h3.next b (by rfl)
  replace BB := below_next BB BB.size b (by rfl) (by rfl) (by rfl) (by rfl)
  clear b h2
  obtain ⟨q0, q1, q2, q3, q4, q5⟩ := g.held
  refine hK.out _ _ (by first | (dsimp only; go_keep) | go_keep) (fun hHeld => ?_)
  clear hK K
  try simp only [Act.put]
  refine wpAnyH_ready (rs := [8]) (by kernel_rfl) (by simp) ?_
  refine AllReadyH.cons (o := _) rfl (fun K hK => ?_) AllReadyH.nil
  go_simp
  refine (sub_ok (h3.heap (by rfl)) (h4.heap (by rfl)) HLE.out).mono ?_
  rintro en w3 ⟨A4, n4, c4, rfl, hs4, b⟩
  replace hT1 := hT1.next b (by rfl)
  replace g := g.next b (by rfl)
  replace r := r.next b (by rfl)
  replace BB := below_next BB BB.size b (by rfl) (by rfl) (by rfl) (by rfl)
  clear b h3 h4
  obtain ⟨q0, q1, q2, q3, q4, q5⟩ := g.held
  refine hK.out _ _ (by first | (dsimp only; go_keep) | go_keep) (fun hHeld => ?_)
  clear hK K
  try simp only [Act.put]
  refine tk 9 36 ?_
  simp only [Act.put]
  refine tk 10 37 ?_
  simp only [Act.put]
  refine wpAnyH_ready (rs := [11]) (by kernel_rfl) (by simp) ?_
  refine AllReadyH.cons (o := _) rfl (fun K hK => ?_) AllReadyH.nil
  go_simp
  refine (natural_ok).mono ?_
  rintro en w' ⟨rfl, rfl⟩
  refine hK.out _ _ (by first | (dsimp only; go_keep) | go_keep) (fun hHeld => ?_)
  clear hK K
  try simp only [Act.put]
  refine tk 12 5 ?_
  simp only [Act.put]
  refine wpAnyH_done (by kernel_rfl) ?_ _
  go_wp2_with fail
  refine (shl_ok (s := 1) hs4 (by omega) HS1.out).mono ?_
  rintro en w20 ⟨A6, n6, c6, rfl, h6, b⟩
  replace hT1 := hT1.next b (by rfl)
  replace g := g.next b (by rfl)
  replace r := r.next b (by rfl)
  replace BB := below_next BB BB.size b (by rfl) (by rfl) (by rfl) (by rfl)
  clear b hs4
  go_wp2_with fail
  refine natural_ok.mono ?_
  rintro en w' ⟨rfl, rfl⟩
  go_wp2_with fail
  have b := below_alloc w20 (.cells #[.int .u64 1] 52)
  have h7 := nt_one w20 (v := 1) (by omega) (small_W (by omega))
  replace h6 := h6.next b (by rfl)
  replace hT1 := hT1.next b (by rfl)
  replace g := g.next b (by rfl)
  replace r := r.next b (by rfl)
  replace BB := below_next BB BB.size b (by rfl) (by rfl) (by rfl) (by rfl)
  clear b
  refine (add_ok h6 h7 HS2.out).mono ?_
  rintro en w21 ⟨A8, n8, c8, rfl, h8, b⟩
  replace hT1 := hT1.next b (by rfl)
  replace g := g.next b (by rfl)
  replace r := r.next b (by rfl)
  replace BB := below_next BB BB.size b (by rfl) (by rfl) (by rfl) (by rfl)
  clear b h6 h7
  go_wp2_with fail
  refine natural_ok.mono ?_
  rintro en w' ⟨rfl, rfl⟩
  obtain ⟨q0, q1, q2, q3, q4, q5⟩ := g.held
  go_wp2_with fail
  refine (normal_good hT1 h8 HN.out).mono ?_
  rintro en w22 ⟨A5, n5, c5, rfl, h5, b⟩
  replace r := r.next b (by rfl)
  replace BB := below_next BB BB.size b (by rfl) (by rfl) (by rfl) (by rfl)
  clear b h8
  obtain ⟨f0, f1, f2⟩ := r.open
  obtain ⟨z0, z1, z2⟩ := r.held
  go_wp2
  have p := r.put s A5 n5 c5 f
  have hN5 := h5.put3 r (.bool s) (.slice A5 n5 c5) (.int .i64 f)
  have HB3 := below_put3 (g := w.heap.size + 2) BB (by omega) (.bool s) (.slice A5 n5 c5) (.int .i64 f)
  obtain ⟨z0, z1, z2⟩ := p.held
  exact bodyPost_ret (v := .agg #[.bool s, .slice A5 n5 c5, .int .i64 f]) (by simp [results, Tryd.results84, go_sem, z0, z1, z2]) rfl ⟨_, _, _, rfl, hN5, HB3⟩

set_option maxRecDepth 100000 in
set_option maxHeartbeats 1000000 in
theorem without_gt_shl {w : World} {A B : Option Addr} {n c m d x y : Nat} {s t : Bool} {e f : Int} (hT : Tab w) (h : Nt w A n c x) (h' : Nt w B m d y) (he : -1048576 ≤ e) (he' : e ≤ 1048576) (hf : -1048576 ≤ f) (hf' : f ≤ 1048576) (hx : x ≠ 0) {i : Nat} (hi : e - (f + 1) = (i : Int)) (hfit : x * 2 ^ i < W ^ 64) (hle : y / 2 + 1 ≤ x * 2 ^ i) (hov : W ^ 64 ≤ (x * 2 ^ i - (y / 2 + 1)) * 2 ^ 1) :
    Calls Tryd.prog 84 #[.agg #[.bool s, .slice A n c, .int .i64 e], .agg #[.bool t, .slice B m d, .int .i64 f]] w (Faults 2 w) := by
  have HX := Lib.hid hx
  have d0 : decide (e ≤ f) = false := decide_eq_false (by omega)
  have hs : IntKind.i64.wrap (f + 1) = f + 1 := IntWalk.i64_in _ (by omega)
  have HL1 := Lib.hid hfit
  have HLE := Lib.hid hle
  have HS := Lib.hid hov
  have H0 : Hid ((x * 2 ^ i - (y / 2 + 1)) ≠ 0) := Lib.hid (by intro h0; rw [h0, Nat.zero_mul] at hov; have : 0 < W ^ 64 := Nat.pow_pos (by rw [W_eq]; omega); omega)
  clear hfit hle hov hx
  have g := (two_new w s t A B n c m d e f).alloc (.cells #[.bool false, .slice none 0 0, .int .i64 0] 28)
  have r := box_two w (.cells #[.bool s, .slice A n c, .int .i64 e] 28) (.cells #[.bool t, .slice B m d, .int .i64 f] 28) false none 0 0 0
  have BB := three_below w (.cells #[.bool s, .slice A n c, .int .i64 e] 28) (.cells #[.bool t, .slice B m d, .int .i64 f] 28) (.cells #[.bool false, .slice none 0 0, .int .i64 0] 28)
  obtain ⟨p0, p1, p2, p3, p4, p5⟩ := g.held
  have h1 := h.below BB
  have h2 := h'.below BB
  have hT1 := hT.below BB
  have ne1 : ¬ w.heap.size + 2 = w.heap.size + 1 := by omega
  have ne2 : ¬ w.heap.size + 1 = w.heap.size + 2 := by omega
  have ne3 : ¬ w.heap.size = w.heap.size + 2 := by omega
  have ne4 : ¬ w.heap.size + 2 = w.heap.size := by omega
  clear h h' hT
  go_enter Tryd.func84, Tryd.ntmps84
  go_wp2_with fail
  refine wp_region_held_drew (S := fun w' => w'.cell? ⟨w.heap.size, 0, none⟩ = some (.bool s) ∧ w'.cell? ⟨w.heap.size, 1, none⟩ = some (.slice A n c) ∧ w'.cell? ⟨w.heap.size, 2, none⟩ = some (.int .i64 e) ∧ w'.cell? ⟨w.heap.size + 1, 0, none⟩ = some (.bool t) ∧ w'.cell? ⟨w.heap.size + 1, 1, none⟩ = some (.slice B m d) ∧ w'.cell? ⟨w.heap.size + 1, 2, none⟩ = some (.int .i64 f)) (by kernel_rfl) (by first | (dsimp only; go_keep) | go_keep) (fun hHeld => ?_)
  refine tk 0 27 ?_
  simp only [Act.put]
  refine tk 1 28 ?_
  simp only [Act.put]
  refine tk 2 29 ?_
  simp only [Act.put]
  refine tk 3 30 ?_
  simp only [Act.put]
  refine tk 5 32 ?_
  simp only [Act.put]
  refine tk 6 33 ?_
  simp only [Act.put]
  refine wpAnyH_ready (rs := [4]) (by kernel_rfl) (by simp) ?_
  refine AllReadyH.cons (o := _) rfl (fun K hK => ?_) AllReadyH.nil
  go_simp
  refine (over_ok (j := i) (h1.heap (by rfl)) he he' (by omega) (by omega) (by omega) HX.out HL1.out).mono ?_
  rintro en w1 ⟨A2, n2, c2, rfl, h3, b⟩
  replace h2 := h2.next b (by rfl)
  replace hT1 := hT1.next b (by rfl)
  replace g := g.next b (by rfl)
  replace r := r.next b (by rfl)
  replace BB := below_next BB BB.size b (by rfl) (by rfl) (by rfl) (by rfl)
  clear b h1
  obtain ⟨q0, q1, q2, q3, q4, q5⟩ := g.held
  refine hK.out _ _ (by first | (dsimp only; go_keep) | go_keep) (fun hHeld => ?_)
  clear hK K
  try simp only [Act.put]
  refine wpAnyH_ready (rs := [7]) (by kernel_rfl) (by simp) ?_
  refine AllReadyH.cons (o := _) rfl (fun K hK => ?_) AllReadyH.nil
  go_simp
  refine (greater_any (h2.heap (by rfl))).mono ?_
  rintro en w2 ⟨A3, n3, c3, rfl, h4, b⟩
  replace hT1 := hT1.next b (by rfl)
  replace g := g.next b (by rfl)
  replace r := r.next b (by rfl)
  replace h3 := h3.next b (by rfl)
  replace BB := below_next BB BB.size b (by rfl) (by rfl) (by rfl) (by rfl)
  clear b h2
  obtain ⟨q0, q1, q2, q3, q4, q5⟩ := g.held
  refine hK.out _ _ (by first | (dsimp only; go_keep) | go_keep) (fun hHeld => ?_)
  clear hK K
  try simp only [Act.put]
  refine wpAnyH_ready (rs := [8]) (by kernel_rfl) (by simp) ?_
  refine AllReadyH.cons (o := _) rfl (fun K hK => ?_) AllReadyH.nil
  go_simp
  refine (sub_ok (h3.heap (by rfl)) (h4.heap (by rfl)) HLE.out).mono ?_
  rintro en w3 ⟨A4, n4, c4, rfl, hs4, b⟩
  replace hT1 := hT1.next b (by rfl)
  replace g := g.next b (by rfl)
  replace r := r.next b (by rfl)
  replace BB := below_next BB BB.size b (by rfl) (by rfl) (by rfl) (by rfl)
  clear b h3 h4
  obtain ⟨q0, q1, q2, q3, q4, q5⟩ := g.held
  refine hK.out _ _ (by first | (dsimp only; go_keep) | go_keep) (fun hHeld => ?_)
  clear hK K
  try simp only [Act.put]
  refine tk 9 36 ?_
  simp only [Act.put]
  refine tk 10 37 ?_
  simp only [Act.put]
  refine wpAnyH_ready (rs := [11]) (by kernel_rfl) (by simp) ?_
  refine AllReadyH.cons (o := _) rfl (fun K hK => ?_) AllReadyH.nil
  go_simp
  refine (natural_ok).mono ?_
  rintro en w' ⟨rfl, rfl⟩
  refine hK.out _ _ (by first | (dsimp only; go_keep) | go_keep) (fun hHeld => ?_)
  clear hK K
  try simp only [Act.put]
  refine tk 12 5 ?_
  simp only [Act.put]
  refine wpAnyH_done (by kernel_rfl) ?_ _
  go_wp2_with fail
  refine (shl_over (s := 1) hs4 H0.out HS.out).mono ?_
  rintro en w' ⟨rfl, rfl⟩
  go_wp2_with fail
  refine (natural_bad (k := 2) (by decide)).mono ?_
  rintro en w' ⟨rfl, rfl⟩
  go_wp2
  exact ⟨rfl, rfl, BB⟩

set_option maxRecDepth 100000 in
set_option maxHeartbeats 1000000 in
theorem without_gt_big {w : World} {A B : Option Addr} {n c m d x y : Nat} {s t : Bool} {e f : Int} (hT : Tab w) (h : Nt w A n c x) (h' : Nt w B m d y) (he : -1048576 ≤ e) (he' : e ≤ 1048576) (hf : -1048576 ≤ f) (hf' : f ≤ 1048576) (hx : x ≠ 0) {i : Nat} (hi : e - (f + 1) = (i : Int)) (hov : W ^ 64 ≤ x * 2 ^ i) :
    Calls Tryd.prog 84 #[.agg #[.bool s, .slice A n c, .int .i64 e], .agg #[.bool t, .slice B m d, .int .i64 f]] w (Faults 2 w) := by
  have HX := Lib.hid hx
  have d0 : decide (e ≤ f) = false := decide_eq_false (by omega)
  have hs : IntKind.i64.wrap (f + 1) = f + 1 := IntWalk.i64_in _ (by omega)
  have HS := Lib.hid hov
  clear hov hx
  have g := (two_new w s t A B n c m d e f).alloc (.cells #[.bool false, .slice none 0 0, .int .i64 0] 28)
  have r := box_two w (.cells #[.bool s, .slice A n c, .int .i64 e] 28) (.cells #[.bool t, .slice B m d, .int .i64 f] 28) false none 0 0 0
  have BB := three_below w (.cells #[.bool s, .slice A n c, .int .i64 e] 28) (.cells #[.bool t, .slice B m d, .int .i64 f] 28) (.cells #[.bool false, .slice none 0 0, .int .i64 0] 28)
  obtain ⟨p0, p1, p2, p3, p4, p5⟩ := g.held
  have h1 := h.below BB
  have h2 := h'.below BB
  have hT1 := hT.below BB
  have ne1 : ¬ w.heap.size + 2 = w.heap.size + 1 := by omega
  have ne2 : ¬ w.heap.size + 1 = w.heap.size + 2 := by omega
  have ne3 : ¬ w.heap.size = w.heap.size + 2 := by omega
  have ne4 : ¬ w.heap.size + 2 = w.heap.size := by omega
  clear h h' hT
  go_enter Tryd.func84, Tryd.ntmps84
  go_wp2_with fail
  refine wp_region_held_drew (S := fun w' => w'.cell? ⟨w.heap.size, 0, none⟩ = some (.bool s) ∧ w'.cell? ⟨w.heap.size, 1, none⟩ = some (.slice A n c) ∧ w'.cell? ⟨w.heap.size, 2, none⟩ = some (.int .i64 e) ∧ w'.cell? ⟨w.heap.size + 1, 0, none⟩ = some (.bool t) ∧ w'.cell? ⟨w.heap.size + 1, 1, none⟩ = some (.slice B m d) ∧ w'.cell? ⟨w.heap.size + 1, 2, none⟩ = some (.int .i64 f)) (by kernel_rfl) (by first | (dsimp only; go_keep) | go_keep) (fun hHeld => ?_)
  refine tk 0 27 ?_
  simp only [Act.put]
  refine tk 1 28 ?_
  simp only [Act.put]
  refine tk 2 29 ?_
  simp only [Act.put]
  refine tk 3 30 ?_
  simp only [Act.put]
  refine tk 5 32 ?_
  simp only [Act.put]
  refine tk 6 33 ?_
  simp only [Act.put]
  refine wpAnyH_ready (rs := [4]) (by kernel_rfl) (by simp) ?_
  refine AllReadyH.cons (o := _) rfl (fun K hK => ?_) AllReadyH.nil
  go_simp
  refine (over_big (j := i) (h1.heap (by rfl)) he he' (by omega) (by omega) (by omega) HX.out HS.out).mono ?_
  rintro en w9 ⟨rfl, b⟩
  exact ⟨rfl, rfl, below_next BB BB.size b (by rfl) (by rfl) (by rfl) (by rfl)⟩

set_option maxRecDepth 100000 in
set_option maxHeartbeats 1000000 in
theorem sizes_lt {w : World} {A B : Option Addr} {n c m d x y : Nat} {s t : Bool} {e f : Int} (hT : Tab w) (h : Nt w A n c x) (h' : Nt w B m d y) (he : -1048576 ≤ e) (he' : e ≤ 1048576) (hf : -1048576 ≤ f) (hf' : f ≤ 1048576) (hr : (blen x : Int) + e < (blen y : Int) + f) :
    Calls Tryd.prog 27 #[.agg #[.bool s, .slice A n c, .int .i64 e], .agg #[.bool t, .slice B m d, .int .i64 f]] w (Ints (-1) w) := by
  have hc : Lib.compareInt ((blen x : Int) + e) ((blen y : Int) + f) = (-1) := by unfold Lib.compareInt; rw [if_pos hr]
  have HC := Lib.hid hc
  clear hc hr
  have g := two_new w s t A B n c m d e f
  have BB := two_below w (.cells #[.bool s, .slice A n c, .int .i64 e] 28) (.cells #[.bool t, .slice B m d, .int .i64 f] 28)
  obtain ⟨p0, p1, p2, p3, p4, p5⟩ := g.held
  have h1 := h.below BB
  have h2 := h'.below BB
  have hT1 := hT.below BB
  have ne1 : ¬ w.heap.size + 2 = w.heap.size + 1 := by omega
  have ne2 : ¬ w.heap.size + 1 = w.heap.size + 2 := by omega
  have ne3 : ¬ w.heap.size = w.heap.size + 2 := by omega
  have ne4 : ¬ w.heap.size + 2 = w.heap.size := by omega
  clear h h' hT
  go_enter Tryd.func27, Tryd.ntmps27
  go_wp2_with fail
  refine wp_region_held_drew (S := fun w' => w'.cell? ⟨w.heap.size, 0, none⟩ = some (.bool s) ∧ w'.cell? ⟨w.heap.size, 1, none⟩ = some (.slice A n c) ∧ w'.cell? ⟨w.heap.size, 2, none⟩ = some (.int .i64 e) ∧ w'.cell? ⟨w.heap.size + 1, 0, none⟩ = some (.bool t) ∧ w'.cell? ⟨w.heap.size + 1, 1, none⟩ = some (.slice B m d) ∧ w'.cell? ⟨w.heap.size + 1, 2, none⟩ = some (.int .i64 f)) (by kernel_rfl) (by first | (dsimp only; go_keep) | go_keep) (fun hHeld => ?_)
  refine tk 0 7 ?_
  simp only [Act.put]
  refine tk 2 9 ?_
  simp only [Act.put]
  refine wpAnyH_ready (rs := [1]) (by kernel_rfl) (by simp) ?_
  refine AllReadyH.cons (o := _) rfl (fun K hK => ?_) AllReadyH.nil
  go_simp
  refine (top_any (h1.heap (by rfl)) he he').mono ?_
  rintro en w1 ⟨rfl, b⟩
  replace h1 := h1.next b (by rfl)
  replace h2 := h2.next b (by rfl)
  replace hT1 := hT1.next b (by rfl)
  replace g := g.next b (by rfl)
  replace BB := below_next BB BB.size b (by rfl) (by rfl) (by rfl) (by rfl)
  clear b
  obtain ⟨q0, q1, q2, q3, q4, q5⟩ := g.held
  refine hK.out _ _ (by first | (dsimp only; go_keep) | go_keep) (fun hHeld => ?_)
  clear hK K
  try simp only [Act.put]
  refine wpAnyH_ready (rs := [3]) (by kernel_rfl) (by simp) ?_
  refine AllReadyH.cons (o := _) rfl (fun K hK => ?_) AllReadyH.nil
  go_simp
  refine (top_any (h2.heap (by rfl)) hf hf').mono ?_
  rintro en w2 ⟨rfl, b⟩
  replace h1 := h1.next b (by rfl)
  replace h2 := h2.next b (by rfl)
  replace hT1 := hT1.next b (by rfl)
  replace g := g.next b (by rfl)
  replace BB := below_next BB BB.size b (by rfl) (by rfl) (by rfl) (by rfl)
  clear b
  obtain ⟨q0, q1, q2, q3, q4, q5⟩ := g.held
  refine hK.out _ _ (by first | (dsimp only; go_keep) | go_keep) (fun hHeld => ?_)
  clear hK K
  try simp only [Act.put]
  refine wpAnyH_ready (rs := [4]) (by kernel_rfl) (by simp) ?_
  refine AllReadyH.cons (o := _) rfl (fun K hK => ?_) AllReadyH.nil
  go_simp
  refine (Tryd.cmp_Compare_int _ _ _).mono ?_
  rintro en w' ⟨rfl, rfl⟩
  rw [HC.out]
  refine hK.out _ _ (by first | (dsimp only; go_keep) | go_keep) (fun hHeld => ?_)
  clear hK K
  try simp only [Act.put]
  refine tk 5 5 ?_
  simp only [Act.put]
  refine wpAnyH_done (by kernel_rfl) ?_ _
  go_wp2
  go_ret
  exact ⟨rfl, BB⟩

set_option maxRecDepth 100000 in
set_option maxHeartbeats 1000000 in
theorem sizes_gt {w : World} {A B : Option Addr} {n c m d x y : Nat} {s t : Bool} {e f : Int} (hT : Tab w) (h : Nt w A n c x) (h' : Nt w B m d y) (he : -1048576 ≤ e) (he' : e ≤ 1048576) (hf : -1048576 ≤ f) (hf' : f ≤ 1048576) (hr : (blen x : Int) + e > (blen y : Int) + f) :
    Calls Tryd.prog 27 #[.agg #[.bool s, .slice A n c, .int .i64 e], .agg #[.bool t, .slice B m d, .int .i64 f]] w (Ints 1 w) := by
  have hc : Lib.compareInt ((blen x : Int) + e) ((blen y : Int) + f) = 1 := by unfold Lib.compareInt; rw [if_neg (by omega), if_pos hr]
  have HC := Lib.hid hc
  clear hc hr
  have g := two_new w s t A B n c m d e f
  have BB := two_below w (.cells #[.bool s, .slice A n c, .int .i64 e] 28) (.cells #[.bool t, .slice B m d, .int .i64 f] 28)
  obtain ⟨p0, p1, p2, p3, p4, p5⟩ := g.held
  have h1 := h.below BB
  have h2 := h'.below BB
  have hT1 := hT.below BB
  have ne1 : ¬ w.heap.size + 2 = w.heap.size + 1 := by omega
  have ne2 : ¬ w.heap.size + 1 = w.heap.size + 2 := by omega
  have ne3 : ¬ w.heap.size = w.heap.size + 2 := by omega
  have ne4 : ¬ w.heap.size + 2 = w.heap.size := by omega
  clear h h' hT
  go_enter Tryd.func27, Tryd.ntmps27
  go_wp2_with fail
  refine wp_region_held_drew (S := fun w' => w'.cell? ⟨w.heap.size, 0, none⟩ = some (.bool s) ∧ w'.cell? ⟨w.heap.size, 1, none⟩ = some (.slice A n c) ∧ w'.cell? ⟨w.heap.size, 2, none⟩ = some (.int .i64 e) ∧ w'.cell? ⟨w.heap.size + 1, 0, none⟩ = some (.bool t) ∧ w'.cell? ⟨w.heap.size + 1, 1, none⟩ = some (.slice B m d) ∧ w'.cell? ⟨w.heap.size + 1, 2, none⟩ = some (.int .i64 f)) (by kernel_rfl) (by first | (dsimp only; go_keep) | go_keep) (fun hHeld => ?_)
  refine tk 0 7 ?_
  simp only [Act.put]
  refine tk 2 9 ?_
  simp only [Act.put]
  refine wpAnyH_ready (rs := [1]) (by kernel_rfl) (by simp) ?_
  refine AllReadyH.cons (o := _) rfl (fun K hK => ?_) AllReadyH.nil
  go_simp
  refine (top_any (h1.heap (by rfl)) he he').mono ?_
  rintro en w1 ⟨rfl, b⟩
  replace h1 := h1.next b (by rfl)
  replace h2 := h2.next b (by rfl)
  replace hT1 := hT1.next b (by rfl)
  replace g := g.next b (by rfl)
  replace BB := below_next BB BB.size b (by rfl) (by rfl) (by rfl) (by rfl)
  clear b
  obtain ⟨q0, q1, q2, q3, q4, q5⟩ := g.held
  refine hK.out _ _ (by first | (dsimp only; go_keep) | go_keep) (fun hHeld => ?_)
  clear hK K
  try simp only [Act.put]
  refine wpAnyH_ready (rs := [3]) (by kernel_rfl) (by simp) ?_
  refine AllReadyH.cons (o := _) rfl (fun K hK => ?_) AllReadyH.nil
  go_simp
  refine (top_any (h2.heap (by rfl)) hf hf').mono ?_
  rintro en w2 ⟨rfl, b⟩
  replace h1 := h1.next b (by rfl)
  replace h2 := h2.next b (by rfl)
  replace hT1 := hT1.next b (by rfl)
  replace g := g.next b (by rfl)
  replace BB := below_next BB BB.size b (by rfl) (by rfl) (by rfl) (by rfl)
  clear b
  obtain ⟨q0, q1, q2, q3, q4, q5⟩ := g.held
  refine hK.out _ _ (by first | (dsimp only; go_keep) | go_keep) (fun hHeld => ?_)
  clear hK K
  try simp only [Act.put]
  refine wpAnyH_ready (rs := [4]) (by kernel_rfl) (by simp) ?_
  refine AllReadyH.cons (o := _) rfl (fun K hK => ?_) AllReadyH.nil
  go_simp
  refine (Tryd.cmp_Compare_int _ _ _).mono ?_
  rintro en w' ⟨rfl, rfl⟩
  rw [HC.out]
  refine hK.out _ _ (by first | (dsimp only; go_keep) | go_keep) (fun hHeld => ?_)
  clear hK K
  try simp only [Act.put]
  refine tk 5 5 ?_
  simp only [Act.put]
  refine wpAnyH_done (by kernel_rfl) ?_ _
  go_wp2
  go_ret
  exact ⟨rfl, BB⟩

set_option maxRecDepth 100000 in
set_option maxHeartbeats 1000000 in
theorem sizes_eq {w : World} {A B : Option Addr} {n c m d x y : Nat} {s t : Bool} {e f : Int} (hT : Tab w) (h : Nt w A n c x) (h' : Nt w B m d y) (he : -1048576 ≤ e) (he' : e ≤ 1048576) (hf : -1048576 ≤ f) (hf' : f ≤ 1048576) (hx : x ≠ 0) (hy : y ≠ 0) (hr : (blen x : Int) + e = (blen y : Int) + f) {lo : Int} (hlo : min e f = lo) {i j : Nat} (hi : e - lo = (i : Int)) (hj : f - lo = (j : Int)) (hxi : x * 2 ^ i < W ^ 64) (hyj : y * 2 ^ j < W ^ 64) :
    Calls Tryd.prog 27 #[.agg #[.bool s, .slice A n c, .int .i64 e], .agg #[.bool t, .slice B m d, .int .i64 f]] w (Ints (cmpN (x * 2 ^ i) (y * 2 ^ j)) w) := by
  have hc : Lib.compareInt ((blen x : Int) + e) ((blen y : Int) + f) = 0 := by unfold Lib.compareInt; rw [if_neg (by omega), if_neg (by omega)]
  have HC := Lib.hid hc
  have HX := Lib.hid hx
  have HY := Lib.hid hy
  have HL1 := Lib.hid hxi
  have HL2 := Lib.hid hyj
  have hlo1 : -1048577 ≤ lo := by omega
  have hlo2 : lo ≤ 1048577 := by omega
  clear hc hr hx hy hxi hyj
  have g := two_new w s t A B n c m d e f
  have BB := two_below w (.cells #[.bool s, .slice A n c, .int .i64 e] 28) (.cells #[.bool t, .slice B m d, .int .i64 f] 28)
  obtain ⟨p0, p1, p2, p3, p4, p5⟩ := g.held
  have h1 := h.below BB
  have h2 := h'.below BB
  have hT1 := hT.below BB
  have ne1 : ¬ w.heap.size + 2 = w.heap.size + 1 := by omega
  have ne2 : ¬ w.heap.size + 1 = w.heap.size + 2 := by omega
  have ne3 : ¬ w.heap.size = w.heap.size + 2 := by omega
  have ne4 : ¬ w.heap.size + 2 = w.heap.size := by omega
  clear h h' hT
  go_enter Tryd.func27, Tryd.ntmps27
  go_wp2_with fail
  refine wp_region_held_drew (S := fun w' => w'.cell? ⟨w.heap.size, 0, none⟩ = some (.bool s) ∧ w'.cell? ⟨w.heap.size, 1, none⟩ = some (.slice A n c) ∧ w'.cell? ⟨w.heap.size, 2, none⟩ = some (.int .i64 e) ∧ w'.cell? ⟨w.heap.size + 1, 0, none⟩ = some (.bool t) ∧ w'.cell? ⟨w.heap.size + 1, 1, none⟩ = some (.slice B m d) ∧ w'.cell? ⟨w.heap.size + 1, 2, none⟩ = some (.int .i64 f)) (by kernel_rfl) (by first | (dsimp only; go_keep) | go_keep) (fun hHeld => ?_)
  refine tk 0 7 ?_
  simp only [Act.put]
  refine tk 2 9 ?_
  simp only [Act.put]
  refine wpAnyH_ready (rs := [1]) (by kernel_rfl) (by simp) ?_
  refine AllReadyH.cons (o := _) rfl (fun K hK => ?_) AllReadyH.nil
  go_simp
  refine (top_any (h1.heap (by rfl)) he he').mono ?_
  rintro en w1 ⟨rfl, b⟩
  replace h1 := h1.next b (by rfl)
  replace h2 := h2.next b (by rfl)
  replace hT1 := hT1.next b (by rfl)
  replace g := g.next b (by rfl)
  replace BB := below_next BB BB.size b (by rfl) (by rfl) (by rfl) (by rfl)
  clear b
  obtain ⟨q0, q1, q2, q3, q4, q5⟩ := g.held
  refine hK.out _ _ (by first | (dsimp only; go_keep) | go_keep) (fun hHeld => ?_)
  clear hK K
  try simp only [Act.put]
  refine wpAnyH_ready (rs := [3]) (by kernel_rfl) (by simp) ?_
  refine AllReadyH.cons (o := _) rfl (fun K hK => ?_) AllReadyH.nil
  go_simp
  refine (top_any (h2.heap (by rfl)) hf hf').mono ?_
  rintro en w2 ⟨rfl, b⟩
  replace h1 := h1.next b (by rfl)
  replace h2 := h2.next b (by rfl)
  replace hT1 := hT1.next b (by rfl)
  replace g := g.next b (by rfl)
  replace BB := below_next BB BB.size b (by rfl) (by rfl) (by rfl) (by rfl)
  clear b
  obtain ⟨q0, q1, q2, q3, q4, q5⟩ := g.held
  refine hK.out _ _ (by first | (dsimp only; go_keep) | go_keep) (fun hHeld => ?_)
  clear hK K
  try simp only [Act.put]
  refine wpAnyH_ready (rs := [4]) (by kernel_rfl) (by simp) ?_
  refine AllReadyH.cons (o := _) rfl (fun K hK => ?_) AllReadyH.nil
  go_simp
  refine (Tryd.cmp_Compare_int _ _ _).mono ?_
  rintro en w' ⟨rfl, rfl⟩
  rw [HC.out]
  refine hK.out _ _ (by first | (dsimp only; go_keep) | go_keep) (fun hHeld => ?_)
  clear hK K
  try simp only [Act.put]
  refine tk 5 5 ?_
  simp only [Act.put]
  refine wpAnyH_done (by kernel_rfl) ?_ _
  go_wp2_with fail
  refine wp_region_held_drew (S := fun w' => w'.cell? ⟨w.heap.size, 0, none⟩ = some (.bool s) ∧ w'.cell? ⟨w.heap.size, 1, none⟩ = some (.slice A n c) ∧ w'.cell? ⟨w.heap.size, 2, none⟩ = some (.int .i64 e) ∧ w'.cell? ⟨w.heap.size + 1, 0, none⟩ = some (.bool t) ∧ w'.cell? ⟨w.heap.size + 1, 1, none⟩ = some (.slice B m d) ∧ w'.cell? ⟨w.heap.size + 1, 2, none⟩ = some (.int .i64 f)) (by kernel_rfl) (by first | (dsimp only; go_keep) | go_keep) (fun hHeld => ?_)
  refine tk 0 20 ?_
  simp only [Act.put]
  refine tk 1 21 ?_
  simp only [Act.put]
  refine tk 3 23 ?_
  simp only [Act.put]
  refine tk 4 24 ?_
  simp only [Act.put]
  refine wpAnyH_ready (rs := [2]) (by kernel_rfl) (by simp) ?_
  refine AllReadyH.cons (o := _) rfl (fun K hK => ?_) AllReadyH.nil
  go_simp
  refine (over_ok (j := i) (h1.heap (by rfl)) he he' hlo1 hlo2 hi HX.out HL1.out).mono ?_
  rintro en w3 ⟨A2, n2, c2, rfl, h3, b⟩
  replace h2 := h2.next b (by rfl)
  replace hT1 := hT1.next b (by rfl)
  replace g := g.next b (by rfl)
  replace BB := below_next BB BB.size b (by rfl) (by rfl) (by rfl) (by rfl)
  clear b h1
  obtain ⟨q0, q1, q2, q3, q4, q5⟩ := g.held
  refine hK.out _ _ (by first | (dsimp only; go_keep) | go_keep) (fun hHeld => ?_)
  clear hK K
  try simp only [Act.put]
  refine wpAnyH_ready (rs := [5]) (by kernel_rfl) (by simp) ?_
  refine AllReadyH.cons (o := _) rfl (fun K hK => ?_) AllReadyH.nil
  go_simp
  refine (over_ok (j := j) (h2.heap (by rfl)) hf hf' hlo1 hlo2 hj HY.out HL2.out).mono ?_
  rintro en w4 ⟨A3, n3, c3, rfl, h4, b⟩
  replace hT1 := hT1.next b (by rfl)
  replace g := g.next b (by rfl)
  replace h3 := h3.next b (by rfl)
  replace BB := below_next BB BB.size b (by rfl) (by rfl) (by rfl) (by rfl)
  clear b h2
  obtain ⟨q0, q1, q2, q3, q4, q5⟩ := g.held
  refine hK.out _ _ (by first | (dsimp only; go_keep) | go_keep) (fun hHeld => ?_)
  clear hK K
  try simp only [Act.put]
  refine wpAnyH_ready (rs := [6]) (by kernel_rfl) (by simp) ?_
  refine AllReadyH.cons (o := _) rfl (fun K hK => ?_) AllReadyH.nil
  go_simp
  refine (cmp_nt (h3.heap (by rfl)) (h4.heap (by rfl))).mono ?_
  rintro en w5 ⟨rfl, b⟩
  replace hT1 := hT1.next b (by rfl)
  replace g := g.next b (by rfl)
  replace h3 := h3.next b (by rfl)
  replace h4 := h4.next b (by rfl)
  replace BB := below_next BB BB.size b (by rfl) (by rfl) (by rfl) (by rfl)
  clear b
  obtain ⟨q0, q1, q2, q3, q4, q5⟩ := g.held
  refine hK.out _ _ (by first | (dsimp only; go_keep) | go_keep) (fun hHeld => ?_)
  clear hK K
  try simp only [Act.put]
  refine tk 7 4 ?_
  simp only [Act.put]
  refine wpAnyH_done (by kernel_rfl) ?_ _
  go_wp2
  go_ret
  exact ⟨by simp, BB⟩

end Go.Proofs.YtkpcmgfpmekkjaaDoor
