/-
  Contracts of dyad's sizes, together, without, at this translation. Condition: the Dyads' limbs read as naturals, the table of math/bits reads as its text lays it.
-/
import Derived.Test.YtkpcmgfpmekkjaaDoorQDy3
namespace Go.Proofs.YtkpcmgfpmekkjaaDoor
open Go.RowKit

set_option maxRecDepth 100000 in
set_option maxHeartbeats 1000000 in
theorem together_even {w : World} {A B : Option Addr} {n c m d x y : Nat} {s t : Bool} {e : Int} (hT : Tab w) (h : Nt w A n c x) (h' : Nt w B m d y) (he : -1048576 ≤ e) (he' : e ≤ 1048576) (hlt : x / 2 + (y / 2 + 1) < W ^ 64) {k : Int} {s' : Bool} {m' : Nat} {e' : Int} (hN : Nm s (x / 2 + (y / 2 + 1)) (e + 1) k s' m' e') (hk : k = 0) :
    Calls Tryd.prog 83 #[.agg #[.bool s, .slice A n c, .int .i64 e], .agg #[.bool t, .slice B m d, .int .i64 e]] w (Goods s' m' e' w) := by
  subst hk
  have HLT := Lib.hid hlt
  have HN := Lib.hid hN
  clear hlt hN
  have g := (two_new w s t A B n c m d e e).alloc (.cells #[.bool false, .slice none 0 0, .int .i64 0] 28)
  have r := box_two w (.cells #[.bool s, .slice A n c, .int .i64 e] 28) (.cells #[.bool t, .slice B m d, .int .i64 e] 28) false none 0 0 0
  have BB := three_below w (.cells #[.bool s, .slice A n c, .int .i64 e] 28) (.cells #[.bool t, .slice B m d, .int .i64 e] 28) (.cells #[.bool false, .slice none 0 0, .int .i64 0] 28)
  obtain ⟨p0, p1, p2, p3, p4, p5⟩ := g.held
  have h1 := h.below BB
  have h2 := h'.below BB
  have hT1 := hT.below BB
  have ne1 : ¬ w.heap.size + 2 = w.heap.size + 1 := by omega
  have ne2 : ¬ w.heap.size + 1 = w.heap.size + 2 := by omega
  have ne3 : ¬ w.heap.size = w.heap.size + 2 := by omega
  have ne4 : ¬ w.heap.size + 2 = w.heap.size := by omega
  clear h h' hT
  have hs : IntKind.i64.wrap (e + 1) = e + 1 := IntWalk.i64_in _ (by omega)
  go_enter Tryd.func83, Tryd.ntmps83
  go_wp2_with fail
  refine wp_region_held_drew (S := fun w' => w'.cell? ⟨w.heap.size, 0, none⟩ = some (.bool s) ∧ w'.cell? ⟨w.heap.size, 1, none⟩ = some (.slice A n c) ∧ w'.cell? ⟨w.heap.size, 2, none⟩ = some (.int .i64 e) ∧ w'.cell? ⟨w.heap.size + 1, 0, none⟩ = some (.bool t) ∧ w'.cell? ⟨w.heap.size + 1, 1, none⟩ = some (.slice B m d) ∧ w'.cell? ⟨w.heap.size + 1, 2, none⟩ = some (.int .i64 e)) (by kernel_rfl) (by first | (dsimp only; go_keep) | go_keep) (fun hHeld => ?_)
  refine td 0 ?_
  try simp only [Act.put]
  refine td 1 ?_
  try simp only [Act.put]
  refine td 2 ?_
  try simp only [Act.put]
  refine td 3 ?_
  try simp only [Act.put]
  refine td 5 ?_
  try simp only [Act.put]
  refine td 6 ?_
  try simp only [Act.put]
  refine td 12 ?_
  try simp only [Act.put]
  refine td 13 ?_
  try simp only [Act.put]
  refine td 14 ?_
  try simp only [Act.put]
  refine wpAnyH_ready (rs := [4]) (by kernel_rfl) (by simp) ?_
  refine AllReadyH.cons (o := _) rfl (fun K hK => ?_) AllReadyH.nil
  go_simp
  refine (lesser_any (h1.heap (by rfl))).mono ?_
  rintro en w1 ⟨A2, n2, c2, rfl, h3, b⟩
  replace h2 := h2.next b (by rfl)
  replace hT1 := hT1.next b (by rfl)
  replace g := g.next b (by rfl)
  replace r := r.next b (by rfl)
  replace BB := below_next BB BB.size b (by rfl) (by rfl) (by rfl) (by rfl)
  clear b h1
  obtain ⟨q0, q1, q2, q3, q4, q5⟩ := g.held
  refine hK.out _ _ (by first | (dsimp only; go_keep) | go_keep) (fun hHeld => ?_)
  clear hK K
  try simp only [Act.put]
  refine wpAnyH_ready (rs := [7]) (by kernel_rfl) (by simp) ?_
  refine AllReadyH.cons (o := _) rfl (fun K hK => ?_) AllReadyH.nil
  go_simp
  refine (greater_any (h2.heap (by rfl))).mono ?_
  rintro en w2 ⟨A3, n3, c3, rfl, h4, b⟩
  replace hT1 := hT1.next b (by rfl)
  replace g := g.next b (by rfl)
  replace r := r.next b (by rfl)
  replace h3 := h3.next b (by rfl)
  replace BB := below_next BB BB.size b (by rfl) (by rfl) (by rfl) (by rfl)
  clear b h2
  obtain ⟨q0, q1, q2, q3, q4, q5⟩ := g.held
  refine hK.out _ _ (by first | (dsimp only; go_keep) | go_keep) (fun hHeld => ?_)
  clear hK K
  try simp only [Act.put]
  refine wpAnyH_ready (rs := [8]) (by kernel_rfl) (by simp) ?_
  refine AllReadyH.cons (o := _) rfl (fun K hK => ?_) AllReadyH.nil
  go_simp
  refine (add_ok (h3.heap (by rfl)) (h4.heap (by rfl)) HLT.out).mono ?_
  rintro en w3 ⟨A4, n4, c4, rfl, hs4, b⟩
  replace hT1 := hT1.next b (by rfl)
  replace g := g.next b (by rfl)
  replace r := r.next b (by rfl)
  replace BB := below_next BB BB.size b (by rfl) (by rfl) (by rfl) (by rfl)
  clear b h3 h4
  obtain ⟨q0, q1, q2, q3, q4, q5⟩ := g.held
  refine hK.out _ _ (by first | (dsimp only; go_keep) | go_keep) (fun hHeld => ?_)
  clear hK K
  try simp only [Act.put]
  refine td 9 ?_
  try simp only [Act.put]
  refine td 10 ?_
  try simp only [Act.put]
  refine wpAnyH_ready (rs := [11]) (by kernel_rfl) (by simp) ?_
  refine AllReadyH.cons (o := _) rfl (fun K hK => ?_) AllReadyH.nil
  go_simp
  refine (natural_ok).mono ?_
  rintro en w' ⟨rfl, rfl⟩
  refine hK.out _ _ (by first | (dsimp only; go_keep) | go_keep) (fun hHeld => ?_)
  clear hK K
  try simp only [Act.put]
  refine wpAnyH_ready (rs := [15]) (by kernel_rfl) (by simp) ?_
  refine AllReadyH.cons (o := _) rfl (fun K hK => ?_) AllReadyH.nil
  go_simp
  refine (normal_good (hT1.heap (by rfl)) (hs4.heap (by rfl)) HN.out).mono ?_
  rintro en w4 ⟨A5, n5, c5, rfl, h5, b⟩
  replace hT1 := hT1.next b (by rfl)
  replace g := g.next b (by rfl)
  replace r := r.next b (by rfl)
  replace hs4 := hs4.next b (by rfl)
  replace BB := below_next BB BB.size b (by rfl) (by rfl) (by rfl) (by rfl)
  clear b
  obtain ⟨q0, q1, q2, q3, q4, q5⟩ := g.held
  obtain ⟨f0, f1, f2⟩ := r.open
  obtain ⟨z0, z1, z2⟩ := r.held
  refine hK.out _ _ (by first | (dsimp only; go_keep) | go_keep) (fun hHeld => ?_)
  clear hK K
  try simp only [Act.put]
  refine wpAnyH_ready (rs := [16]) (by kernel_rfl) (by simp) ?_
  refine AllReadyH.cons (o := _) rfl (fun K hK => ?_) AllReadyH.nil
  go_simp
  refine hK.out _ _ (by first | (dsimp only; go_keep) | go_keep) (fun hHeld => ?_)
  clear hK K
  try simp only [Act.put]
  refine wpAnyH_done (by kernel_rfl) ?_ _
  go_wp2
  have p := r.put s' A5 n5 c5 e'
  have hN5 := h5.put3 r (.bool s') (.slice A5 n5 c5) (.int .i64 e')
  have HB3 := below_put3 (g := w.heap.size + 2) BB (by omega) (.bool s') (.slice A5 n5 c5) (.int .i64 e')
  obtain ⟨z0, z1, z2⟩ := p.held
  exact bodyPost_ret (v := .agg #[.bool s', .slice A5 n5 c5, .int .i64 e']) (by simp [results, Tryd.results83, go_sem, z0, z1, z2]) rfl ⟨_, _, _, rfl, hN5, HB3⟩

set_option maxRecDepth 100000 in
set_option maxHeartbeats 1000000 in
theorem together_fault {w : World} {A B : Option Addr} {n c m d x y : Nat} {s t : Bool} {e : Int} (hT : Tab w) (h : Nt w A n c x) (h' : Nt w B m d y) (he : -1048576 ≤ e) (he' : e ≤ 1048576) (hlt : x / 2 + (y / 2 + 1) < W ^ 64) {k : Int} {s' : Bool} {m' : Nat} {e' : Int} (hN : Nm s (x / 2 + (y / 2 + 1)) (e + 1) k s' m' e') (hk : k ≠ 0) :
    Calls Tryd.prog 83 #[.agg #[.bool s, .slice A n c, .int .i64 e], .agg #[.bool t, .slice B m d, .int .i64 e]] w (Faults k w) := by
  have HK := Lib.hid hk
  clear hk
  have HLT := Lib.hid hlt
  have HN := Lib.hid hN
  clear hlt hN
  have g := (two_new w s t A B n c m d e e).alloc (.cells #[.bool false, .slice none 0 0, .int .i64 0] 28)
  have r := box_two w (.cells #[.bool s, .slice A n c, .int .i64 e] 28) (.cells #[.bool t, .slice B m d, .int .i64 e] 28) false none 0 0 0
  have BB := three_below w (.cells #[.bool s, .slice A n c, .int .i64 e] 28) (.cells #[.bool t, .slice B m d, .int .i64 e] 28) (.cells #[.bool false, .slice none 0 0, .int .i64 0] 28)
  obtain ⟨p0, p1, p2, p3, p4, p5⟩ := g.held
  have h1 := h.below BB
  have h2 := h'.below BB
  have hT1 := hT.below BB
  have ne1 : ¬ w.heap.size + 2 = w.heap.size + 1 := by omega
  have ne2 : ¬ w.heap.size + 1 = w.heap.size + 2 := by omega
  have ne3 : ¬ w.heap.size = w.heap.size + 2 := by omega
  have ne4 : ¬ w.heap.size + 2 = w.heap.size := by omega
  clear h h' hT
  have hs : IntKind.i64.wrap (e + 1) = e + 1 := IntWalk.i64_in _ (by omega)
  go_enter Tryd.func83, Tryd.ntmps83
  go_wp2_with fail
  refine wp_region_held_drew (S := fun w' => w'.cell? ⟨w.heap.size, 0, none⟩ = some (.bool s) ∧ w'.cell? ⟨w.heap.size, 1, none⟩ = some (.slice A n c) ∧ w'.cell? ⟨w.heap.size, 2, none⟩ = some (.int .i64 e) ∧ w'.cell? ⟨w.heap.size + 1, 0, none⟩ = some (.bool t) ∧ w'.cell? ⟨w.heap.size + 1, 1, none⟩ = some (.slice B m d) ∧ w'.cell? ⟨w.heap.size + 1, 2, none⟩ = some (.int .i64 e)) (by kernel_rfl) (by first | (dsimp only; go_keep) | go_keep) (fun hHeld => ?_)
  refine td 0 ?_
  try simp only [Act.put]
  refine td 1 ?_
  try simp only [Act.put]
  refine td 2 ?_
  try simp only [Act.put]
  refine td 3 ?_
  try simp only [Act.put]
  refine td 5 ?_
  try simp only [Act.put]
  refine td 6 ?_
  try simp only [Act.put]
  refine td 12 ?_
  try simp only [Act.put]
  refine td 13 ?_
  try simp only [Act.put]
  refine td 14 ?_
  try simp only [Act.put]
  refine wpAnyH_ready (rs := [4]) (by kernel_rfl) (by simp) ?_
  refine AllReadyH.cons (o := _) rfl (fun K hK => ?_) AllReadyH.nil
  go_simp
  refine (lesser_any (h1.heap (by rfl))).mono ?_
  rintro en w1 ⟨A2, n2, c2, rfl, h3, b⟩
  replace h2 := h2.next b (by rfl)
  replace hT1 := hT1.next b (by rfl)
  replace g := g.next b (by rfl)
  replace r := r.next b (by rfl)
  replace BB := below_next BB BB.size b (by rfl) (by rfl) (by rfl) (by rfl)
  clear b h1
  obtain ⟨q0, q1, q2, q3, q4, q5⟩ := g.held
  refine hK.out _ _ (by first | (dsimp only; go_keep) | go_keep) (fun hHeld => ?_)
  clear hK K
  try simp only [Act.put]
  refine wpAnyH_ready (rs := [7]) (by kernel_rfl) (by simp) ?_
  refine AllReadyH.cons (o := _) rfl (fun K hK => ?_) AllReadyH.nil
  go_simp
  refine (greater_any (h2.heap (by rfl))).mono ?_
  rintro en w2 ⟨A3, n3, c3, rfl, h4, b⟩
  replace hT1 := hT1.next b (by rfl)
  replace g := g.next b (by rfl)
  replace r := r.next b (by rfl)
  replace h3 := h3.next b (by rfl)
  replace BB := below_next BB BB.size b (by rfl) (by rfl) (by rfl) (by rfl)
  clear b h2
  obtain ⟨q0, q1, q2, q3, q4, q5⟩ := g.held
  refine hK.out _ _ (by first | (dsimp only; go_keep) | go_keep) (fun hHeld => ?_)
  clear hK K
  try simp only [Act.put]
  refine wpAnyH_ready (rs := [8]) (by kernel_rfl) (by simp) ?_
  refine AllReadyH.cons (o := _) rfl (fun K hK => ?_) AllReadyH.nil
  go_simp
  refine (add_ok (h3.heap (by rfl)) (h4.heap (by rfl)) HLT.out).mono ?_
  rintro en w3 ⟨A4, n4, c4, rfl, hs4, b⟩
  replace hT1 := hT1.next b (by rfl)
  replace g := g.next b (by rfl)
  replace r := r.next b (by rfl)
  replace BB := below_next BB BB.size b (by rfl) (by rfl) (by rfl) (by rfl)
  clear b h3 h4
  obtain ⟨q0, q1, q2, q3, q4, q5⟩ := g.held
  refine hK.out _ _ (by first | (dsimp only; go_keep) | go_keep) (fun hHeld => ?_)
  clear hK K
  try simp only [Act.put]
  refine td 9 ?_
  try simp only [Act.put]
  refine td 10 ?_
  try simp only [Act.put]
  refine wpAnyH_ready (rs := [11]) (by kernel_rfl) (by simp) ?_
  refine AllReadyH.cons (o := _) rfl (fun K hK => ?_) AllReadyH.nil
  go_simp
  refine (natural_ok).mono ?_
  rintro en w' ⟨rfl, rfl⟩
  refine hK.out _ _ (by first | (dsimp only; go_keep) | go_keep) (fun hHeld => ?_)
  clear hK K
  try simp only [Act.put]
  refine wpAnyH_ready (rs := [15]) (by kernel_rfl) (by simp) ?_
  refine AllReadyH.cons (o := _) rfl (fun K hK => ?_) AllReadyH.nil
  go_simp
  refine (normal_fault (hT1.heap (by rfl)) (hs4.heap (by rfl)) HN.out HK.out).mono ?_
  rintro en w9 ⟨rfl, b⟩
  exact ⟨rfl, rfl, below_next BB BB.size b (by rfl) (by rfl) (by rfl) (by rfl)⟩

set_option maxRecDepth 100000 in
set_option maxHeartbeats 1000000 in
theorem together_a_good {w : World} {A B : Option Addr} {n c m d x y : Nat} {s t : Bool} {e f : Int} (hT : Tab w) (h : Nt w A n c x) (h' : Nt w B m d y) (he : -1048576 ≤ e) (he' : e ≤ 1048576) (hf : -1048576 ≤ f) (hf' : f ≤ 1048576) (hx : x ≠ 0) (hy : y ≠ 0) {j : Nat} (hj : f - e = (j : Int)) (hj0 : j ≠ 0) (hlt : x * 2 ^ 0 + y * 2 ^ j < W ^ 64) (hodd : (x * 2 ^ 0 + y * 2 ^ j) % 2 = 1) :
    Calls Tryd.prog 83 #[.agg #[.bool s, .slice A n c, .int .i64 e], .agg #[.bool t, .slice B m d, .int .i64 f]] w (Goods s (x * 2 ^ 0 + y * 2 ^ j) e w) := by
  have HX := Lib.hid hx
  have HY := Lib.hid hy
  have HL1 : Hid (x * 2 ^ 0 < W ^ 64) := Lib.hid (by rw [Nat.pow_zero, Nat.mul_one]; exact h.lt)
  have HL2 : Hid (y * 2 ^ j < W ^ 64) := Lib.hid (by omega)
  have HS := Lib.hid hlt
  have HN : Hid (Nm s (x * 2 ^ 0 + y * 2 ^ j) e 0 s (x * 2 ^ 0 + y * 2 ^ j) e) := Lib.hid (nm_self (.inr ⟨hodd, hlt, by omega, by omega⟩))
  clear hlt hodd
  clear hx hy
  have f0 : (e == f) = false := by simp; omega
  have hmin : min e f = e := by omega
  have g := (two_new w s t A B n c m d e f).alloc (.cells #[.bool false, .slice none 0 0, .int .i64 0] 28)
  have r := box_two w (.cells #[.bool s, .slice A n c, .int .i64 e] 28) (.cells #[.bool t, .slice B m d, .int .i64 f] 28) false none 0 0 0
  have BB := three_below w (.cells #[.bool s, .slice A n c, .int .i64 e] 28) (.cells #[.bool t, .slice B m d, .int .i64 f] 28) (.cells #[.bool false, .slice none 0 0, .int .i64 0] 28)
  obtain ⟨p0, p1, p2, p3, p4, p5⟩ := g.held
  have h1 := h.below BB
  have h2 := h'.below BB
  have hT1 := hT.below BB
  have ne1 : ¬ w.heap.size + 2 = w.heap.size + 1 := by omega
  have ne2 : ¬ w.heap.size + 1 = w.heap.size + 2 := by omega
  have ne3 : ¬ w.heap.size = w.heap.size + 2 := by omega
  have ne4 : ¬ w.heap.size + 2 = w.heap.size := by omega
  clear h h' hT
  go_enter Tryd.func83, Tryd.ntmps83
  go_wp2_with fail
  refine wp_region_held_drew (S := fun w' => w'.cell? ⟨w.heap.size, 0, none⟩ = some (.bool s) ∧ w'.cell? ⟨w.heap.size, 1, none⟩ = some (.slice A n c) ∧ w'.cell? ⟨w.heap.size, 2, none⟩ = some (.int .i64 e) ∧ w'.cell? ⟨w.heap.size + 1, 0, none⟩ = some (.bool t) ∧ w'.cell? ⟨w.heap.size + 1, 1, none⟩ = some (.slice B m d) ∧ w'.cell? ⟨w.heap.size + 1, 2, none⟩ = some (.int .i64 f)) (by kernel_rfl) (by first | (dsimp only; go_keep) | go_keep) (fun hHeld => ?_)
  refine td 0 ?_
  try simp only [Act.put]
  refine td 1 ?_
  try simp only [Act.put]
  refine td 2 ?_
  try simp only [Act.put]
  refine td 3 ?_
  try simp only [Act.put]
  refine td 5 ?_
  try simp only [Act.put]
  refine td 6 ?_
  try simp only [Act.put]
  refine td 12 ?_
  try simp only [Act.put]
  refine wpAnyH_ready (rs := [4]) (by kernel_rfl) (by simp) ?_
  refine AllReadyH.cons (o := _) rfl (fun K hK => ?_) AllReadyH.nil
  go_simp
  refine (over_ok (j := 0) (h1.heap (by rfl)) he he' (by omega) (by omega) (by omega) HX.out HL1.out).mono ?_
  rintro en w1 ⟨A2, n2, c2, rfl, h3, b⟩
  replace h2 := h2.next b (by rfl)
  replace hT1 := hT1.next b (by rfl)
  replace g := g.next b (by rfl)
  replace r := r.next b (by rfl)
  replace BB := below_next BB BB.size b (by rfl) (by rfl) (by rfl) (by rfl)
  clear b h1
  obtain ⟨q0, q1, q2, q3, q4, q5⟩ := g.held
  refine hK.out _ _ (by first | (dsimp only; go_keep) | go_keep) (fun hHeld => ?_)
  clear hK K
  try simp only [Act.put]
  refine wpAnyH_ready (rs := [7]) (by kernel_rfl) (by simp) ?_
  refine AllReadyH.cons (o := _) rfl (fun K hK => ?_) AllReadyH.nil
  go_simp
  refine (over_ok (j := j) (h2.heap (by rfl)) hf hf' (by omega) (by omega) (by omega) HY.out HL2.out).mono ?_
  rintro en w2 ⟨A3, n3, c3, rfl, h4, b⟩
  replace hT1 := hT1.next b (by rfl)
  replace g := g.next b (by rfl)
  replace r := r.next b (by rfl)
  replace h3 := h3.next b (by rfl)
  replace BB := below_next BB BB.size b (by rfl) (by rfl) (by rfl) (by rfl)
  clear b h2
  obtain ⟨q0, q1, q2, q3, q4, q5⟩ := g.held
  refine hK.out _ _ (by first | (dsimp only; go_keep) | go_keep) (fun hHeld => ?_)
  clear hK K
  try simp only [Act.put]
  refine wpAnyH_ready (rs := [8]) (by kernel_rfl) (by simp) ?_
  refine AllReadyH.cons (o := _) rfl (fun K hK => ?_) AllReadyH.nil
  go_simp
  refine (add_ok (h3.heap (by rfl)) (h4.heap (by rfl)) HS.out).mono ?_
  rintro en w3 ⟨A4, n4, c4, rfl, hs4, b⟩
  replace hT1 := hT1.next b (by rfl)
  replace g := g.next b (by rfl)
  replace r := r.next b (by rfl)
  replace BB := below_next BB BB.size b (by rfl) (by rfl) (by rfl) (by rfl)
  clear b h3 h4
  obtain ⟨q0, q1, q2, q3, q4, q5⟩ := g.held
  refine hK.out _ _ (by first | (dsimp only; go_keep) | go_keep) (fun hHeld => ?_)
  clear hK K
  try simp only [Act.put]
  refine td 9 ?_
  try simp only [Act.put]
  refine td 10 ?_
  try simp only [Act.put]
  refine wpAnyH_ready (rs := [11]) (by kernel_rfl) (by simp) ?_
  refine AllReadyH.cons (o := _) rfl (fun K hK => ?_) AllReadyH.nil
  go_simp
  refine (natural_ok).mono ?_
  rintro en w' ⟨rfl, rfl⟩
  refine hK.out _ _ (by first | (dsimp only; go_keep) | go_keep) (fun hHeld => ?_)
  clear hK K
  try simp only [Act.put]
  refine wpAnyH_ready (rs := [13]) (by kernel_rfl) (by simp) ?_
  refine AllReadyH.cons (o := _) rfl (fun K hK => ?_) AllReadyH.nil
  go_simp
  refine (normal_good (hT1.heap (by rfl)) (hs4.heap (by rfl)) HN.out).mono ?_
  rintro en w4 ⟨A5, n5, c5, rfl, h5, b⟩
  replace hT1 := hT1.next b (by rfl)
  replace g := g.next b (by rfl)
  replace r := r.next b (by rfl)
  replace hs4 := hs4.next b (by rfl)
  replace BB := below_next BB BB.size b (by rfl) (by rfl) (by rfl) (by rfl)
  clear b
  obtain ⟨q0, q1, q2, q3, q4, q5⟩ := g.held
  obtain ⟨f0, f1, f2⟩ := r.open
  obtain ⟨z0, z1, z2⟩ := r.held
  refine hK.out _ _ (by first | (dsimp only; go_keep) | go_keep) (fun hHeld => ?_)
  clear hK K
  try simp only [Act.put]
  refine wpAnyH_ready (rs := [14]) (by kernel_rfl) (by simp) ?_
  refine AllReadyH.cons (o := _) rfl (fun K hK => ?_) AllReadyH.nil
  go_simp
  refine hK.out _ _ (by first | (dsimp only; go_keep) | go_keep) (fun hHeld => ?_)
  clear hK K
  try simp only [Act.put]
  refine wpAnyH_done (by kernel_rfl) ?_ _
  go_wp2
  have p := r.put s A5 n5 c5 e
  have hN5 := h5.put3 r (.bool s) (.slice A5 n5 c5) (.int .i64 e)
  have HB3 := below_put3 (g := w.heap.size + 2) BB (by omega) (.bool s) (.slice A5 n5 c5) (.int .i64 e)
  obtain ⟨z0, z1, z2⟩ := p.held
  exact bodyPost_ret (v := .agg #[.bool s, .slice A5 n5 c5, .int .i64 e]) (by simp [results, Tryd.results83, go_sem, z0, z1, z2]) rfl ⟨_, _, _, rfl, hN5, HB3⟩

set_option maxRecDepth 100000 in
set_option maxHeartbeats 1000000 in
theorem together_a_over {w : World} {A B : Option Addr} {n c m d x y : Nat} {s t : Bool} {e f : Int} (hT : Tab w) (h : Nt w A n c x) (h' : Nt w B m d y) (he : -1048576 ≤ e) (he' : e ≤ 1048576) (hf : -1048576 ≤ f) (hf' : f ≤ 1048576) (hx : x ≠ 0) (hy : y ≠ 0) {j : Nat} (hj : f - e = (j : Int)) (hj0 : j ≠ 0) (hlt : y * 2 ^ j < W ^ 64) (hov : W ^ 64 ≤ x * 2 ^ 0 + y * 2 ^ j) :
    Calls Tryd.prog 83 #[.agg #[.bool s, .slice A n c, .int .i64 e], .agg #[.bool t, .slice B m d, .int .i64 f]] w (Faults 2 w) := by
  have HX := Lib.hid hx
  have HY := Lib.hid hy
  have HL1 : Hid (x * 2 ^ 0 < W ^ 64) := Lib.hid (by rw [Nat.pow_zero, Nat.mul_one]; exact h.lt)
  have HL2 : Hid (y * 2 ^ j < W ^ 64) := Lib.hid (by exact hlt)
  have HS := Lib.hid hov
  clear hlt hov
  clear hx hy
  have f0 : (e == f) = false := by simp; omega
  have hmin : min e f = e := by omega
  have g := (two_new w s t A B n c m d e f).alloc (.cells #[.bool false, .slice none 0 0, .int .i64 0] 28)
  have r := box_two w (.cells #[.bool s, .slice A n c, .int .i64 e] 28) (.cells #[.bool t, .slice B m d, .int .i64 f] 28) false none 0 0 0
  have BB := three_below w (.cells #[.bool s, .slice A n c, .int .i64 e] 28) (.cells #[.bool t, .slice B m d, .int .i64 f] 28) (.cells #[.bool false, .slice none 0 0, .int .i64 0] 28)
  obtain ⟨p0, p1, p2, p3, p4, p5⟩ := g.held
  have h1 := h.below BB
  have h2 := h'.below BB
  have hT1 := hT.below BB
  have ne1 : ¬ w.heap.size + 2 = w.heap.size + 1 := by omega
  have ne2 : ¬ w.heap.size + 1 = w.heap.size + 2 := by omega
  have ne3 : ¬ w.heap.size = w.heap.size + 2 := by omega
  have ne4 : ¬ w.heap.size + 2 = w.heap.size := by omega
  clear h h' hT
  go_enter Tryd.func83, Tryd.ntmps83
  go_wp2_with fail
  refine wp_region_held_drew (S := fun w' => w'.cell? ⟨w.heap.size, 0, none⟩ = some (.bool s) ∧ w'.cell? ⟨w.heap.size, 1, none⟩ = some (.slice A n c) ∧ w'.cell? ⟨w.heap.size, 2, none⟩ = some (.int .i64 e) ∧ w'.cell? ⟨w.heap.size + 1, 0, none⟩ = some (.bool t) ∧ w'.cell? ⟨w.heap.size + 1, 1, none⟩ = some (.slice B m d) ∧ w'.cell? ⟨w.heap.size + 1, 2, none⟩ = some (.int .i64 f)) (by kernel_rfl) (by first | (dsimp only; go_keep) | go_keep) (fun hHeld => ?_)
  refine td 0 ?_
  try simp only [Act.put]
  refine td 1 ?_
  try simp only [Act.put]
  refine td 2 ?_
  try simp only [Act.put]
  refine td 3 ?_
  try simp only [Act.put]
  refine td 5 ?_
  try simp only [Act.put]
  refine td 6 ?_
  try simp only [Act.put]
  refine td 12 ?_
  try simp only [Act.put]
  refine wpAnyH_ready (rs := [4]) (by kernel_rfl) (by simp) ?_
  refine AllReadyH.cons (o := _) rfl (fun K hK => ?_) AllReadyH.nil
  go_simp
  refine (over_ok (j := 0) (h1.heap (by rfl)) he he' (by omega) (by omega) (by omega) HX.out HL1.out).mono ?_
  rintro en w1 ⟨A2, n2, c2, rfl, h3, b⟩
  replace h2 := h2.next b (by rfl)
  replace hT1 := hT1.next b (by rfl)
  replace g := g.next b (by rfl)
  replace r := r.next b (by rfl)
  replace BB := below_next BB BB.size b (by rfl) (by rfl) (by rfl) (by rfl)
  clear b h1
  obtain ⟨q0, q1, q2, q3, q4, q5⟩ := g.held
  refine hK.out _ _ (by first | (dsimp only; go_keep) | go_keep) (fun hHeld => ?_)
  clear hK K
  try simp only [Act.put]
  refine wpAnyH_ready (rs := [7]) (by kernel_rfl) (by simp) ?_
  refine AllReadyH.cons (o := _) rfl (fun K hK => ?_) AllReadyH.nil
  go_simp
  refine (over_ok (j := j) (h2.heap (by rfl)) hf hf' (by omega) (by omega) (by omega) HY.out HL2.out).mono ?_
  rintro en w2 ⟨A3, n3, c3, rfl, h4, b⟩
  replace hT1 := hT1.next b (by rfl)
  replace g := g.next b (by rfl)
  replace r := r.next b (by rfl)
  replace h3 := h3.next b (by rfl)
  replace BB := below_next BB BB.size b (by rfl) (by rfl) (by rfl) (by rfl)
  clear b h2
  obtain ⟨q0, q1, q2, q3, q4, q5⟩ := g.held
  refine hK.out _ _ (by first | (dsimp only; go_keep) | go_keep) (fun hHeld => ?_)
  clear hK K
  try simp only [Act.put]
  refine wpAnyH_ready (rs := [8]) (by kernel_rfl) (by simp) ?_
  refine AllReadyH.cons (o := _) rfl (fun K hK => ?_) AllReadyH.nil
  go_simp
  refine (add_over (h3.heap (by rfl)) (h4.heap (by rfl)) HS.out).mono ?_
  rintro en w3 ⟨rfl, b⟩
  replace hT1 := hT1.next b (by rfl)
  replace g := g.next b (by rfl)
  replace r := r.next b (by rfl)
  replace h3 := h3.next b (by rfl)
  replace h4 := h4.next b (by rfl)
  replace BB := below_next BB BB.size b (by rfl) (by rfl) (by rfl) (by rfl)
  clear b
  obtain ⟨q0, q1, q2, q3, q4, q5⟩ := g.held
  refine hK.out _ _ (by first | (dsimp only; go_keep) | go_keep) (fun hHeld => ?_)
  clear hK K
  try simp only [Act.put]
  refine td 9 ?_
  try simp only [Act.put]
  refine td 10 ?_
  try simp only [Act.put]
  refine wpAnyH_ready (rs := [11]) (by kernel_rfl) (by simp) ?_
  refine AllReadyH.cons (o := _) rfl (fun K hK => ?_) AllReadyH.nil
  go_simp
  refine (natural_bad (k := 2) (by decide)).mono ?_
  rintro en w' ⟨rfl, rfl⟩
  exact ⟨rfl, rfl, BB⟩

set_option maxRecDepth 100000 in
set_option maxHeartbeats 1000000 in
theorem together_a_big {w : World} {A B : Option Addr} {n c m d x y : Nat} {s t : Bool} {e f : Int} (hT : Tab w) (h : Nt w A n c x) (h' : Nt w B m d y) (he : -1048576 ≤ e) (he' : e ≤ 1048576) (hf : -1048576 ≤ f) (hf' : f ≤ 1048576) (hx : x ≠ 0) (hy : y ≠ 0) {j : Nat} (hj : f - e = (j : Int)) (hj0 : j ≠ 0) (hov : W ^ 64 ≤ y * 2 ^ j) :
    Calls Tryd.prog 83 #[.agg #[.bool s, .slice A n c, .int .i64 e], .agg #[.bool t, .slice B m d, .int .i64 f]] w (Faults 2 w) := by
  have HX := Lib.hid hx
  have HY := Lib.hid hy
  have HL1 : Hid (x * 2 ^ 0 < W ^ 64) := Lib.hid (by rw [Nat.pow_zero, Nat.mul_one]; exact h.lt)
  have HS := Lib.hid hov
  clear hov
  clear hx hy
  have f0 : (e == f) = false := by simp; omega
  have hmin : min e f = e := by omega
  have g := (two_new w s t A B n c m d e f).alloc (.cells #[.bool false, .slice none 0 0, .int .i64 0] 28)
  have r := box_two w (.cells #[.bool s, .slice A n c, .int .i64 e] 28) (.cells #[.bool t, .slice B m d, .int .i64 f] 28) false none 0 0 0
  have BB := three_below w (.cells #[.bool s, .slice A n c, .int .i64 e] 28) (.cells #[.bool t, .slice B m d, .int .i64 f] 28) (.cells #[.bool false, .slice none 0 0, .int .i64 0] 28)
  obtain ⟨p0, p1, p2, p3, p4, p5⟩ := g.held
  have h1 := h.below BB
  have h2 := h'.below BB
  have hT1 := hT.below BB
  have ne1 : ¬ w.heap.size + 2 = w.heap.size + 1 := by omega
  have ne2 : ¬ w.heap.size + 1 = w.heap.size + 2 := by omega
  have ne3 : ¬ w.heap.size = w.heap.size + 2 := by omega
  have ne4 : ¬ w.heap.size + 2 = w.heap.size := by omega
  clear h h' hT
  go_enter Tryd.func83, Tryd.ntmps83
  go_wp2_with fail
  refine wp_region_held_drew (S := fun w' => w'.cell? ⟨w.heap.size, 0, none⟩ = some (.bool s) ∧ w'.cell? ⟨w.heap.size, 1, none⟩ = some (.slice A n c) ∧ w'.cell? ⟨w.heap.size, 2, none⟩ = some (.int .i64 e) ∧ w'.cell? ⟨w.heap.size + 1, 0, none⟩ = some (.bool t) ∧ w'.cell? ⟨w.heap.size + 1, 1, none⟩ = some (.slice B m d) ∧ w'.cell? ⟨w.heap.size + 1, 2, none⟩ = some (.int .i64 f)) (by kernel_rfl) (by first | (dsimp only; go_keep) | go_keep) (fun hHeld => ?_)
  refine td 0 ?_
  try simp only [Act.put]
  refine td 1 ?_
  try simp only [Act.put]
  refine td 2 ?_
  try simp only [Act.put]
  refine td 3 ?_
  try simp only [Act.put]
  refine td 5 ?_
  try simp only [Act.put]
  refine td 6 ?_
  try simp only [Act.put]
  refine td 12 ?_
  try simp only [Act.put]
  refine wpAnyH_ready (rs := [4]) (by kernel_rfl) (by simp) ?_
  refine AllReadyH.cons (o := _) rfl (fun K hK => ?_) AllReadyH.nil
  go_simp
  refine (over_ok (j := 0) (h1.heap (by rfl)) he he' (by omega) (by omega) (by omega) HX.out HL1.out).mono ?_
  rintro en w1 ⟨A2, n2, c2, rfl, h3, b⟩
  replace h2 := h2.next b (by rfl)
  replace hT1 := hT1.next b (by rfl)
  replace g := g.next b (by rfl)
  replace r := r.next b (by rfl)
  replace BB := below_next BB BB.size b (by rfl) (by rfl) (by rfl) (by rfl)
  clear b h1
  obtain ⟨q0, q1, q2, q3, q4, q5⟩ := g.held
  refine hK.out _ _ (by first | (dsimp only; go_keep) | go_keep) (fun hHeld => ?_)
  clear hK K
  try simp only [Act.put]
  refine wpAnyH_ready (rs := [7]) (by kernel_rfl) (by simp) ?_
  refine AllReadyH.cons (o := _) rfl (fun K hK => ?_) AllReadyH.nil
  go_simp
  refine (over_big (j := j) (h2.heap (by rfl)) hf hf' (by omega) (by omega) (by omega) HY.out HS.out).mono ?_
  rintro en w9 ⟨rfl, b⟩
  exact ⟨rfl, rfl, below_next BB BB.size b (by rfl) (by rfl) (by rfl) (by rfl)⟩

set_option maxRecDepth 100000 in
set_option maxHeartbeats 1000000 in
theorem together_b_good {w : World} {A B : Option Addr} {n c m d x y : Nat} {s t : Bool} {e f : Int} (hT : Tab w) (h : Nt w A n c x) (h' : Nt w B m d y) (he : -1048576 ≤ e) (he' : e ≤ 1048576) (hf : -1048576 ≤ f) (hf' : f ≤ 1048576) (hx : x ≠ 0) (hy : y ≠ 0) {j : Nat} (hj : e - f = (j : Int)) (hj0 : j ≠ 0) (hlt : x * 2 ^ j + y * 2 ^ 0 < W ^ 64) (hodd : (x * 2 ^ j + y * 2 ^ 0) % 2 = 1) :
    Calls Tryd.prog 83 #[.agg #[.bool s, .slice A n c, .int .i64 e], .agg #[.bool t, .slice B m d, .int .i64 f]] w (Goods s (x * 2 ^ j + y * 2 ^ 0) f w) := by
  have HX := Lib.hid hx
  have HY := Lib.hid hy
  have HL1 : Hid (x * 2 ^ j < W ^ 64) := Lib.hid (by omega)
  have HL2 : Hid (y * 2 ^ 0 < W ^ 64) := Lib.hid (by rw [Nat.pow_zero, Nat.mul_one]; exact h'.lt)
  have HS := Lib.hid hlt
  have HN : Hid (Nm s (x * 2 ^ j + y * 2 ^ 0) f 0 s (x * 2 ^ j + y * 2 ^ 0) f) := Lib.hid (nm_self (.inr ⟨hodd, hlt, by omega, by omega⟩))
  clear hlt hodd
  clear hx hy
  have f0 : (e == f) = false := by simp; omega
  have hmin : min e f = f := by omega
  have g := (two_new w s t A B n c m d e f).alloc (.cells #[.bool false, .slice none 0 0, .int .i64 0] 28)
  have r := box_two w (.cells #[.bool s, .slice A n c, .int .i64 e] 28) (.cells #[.bool t, .slice B m d, .int .i64 f] 28) false none 0 0 0
  have BB := three_below w (.cells #[.bool s, .slice A n c, .int .i64 e] 28) (.cells #[.bool t, .slice B m d, .int .i64 f] 28) (.cells #[.bool false, .slice none 0 0, .int .i64 0] 28)
  obtain ⟨p0, p1, p2, p3, p4, p5⟩ := g.held
  have h1 := h.below BB
  have h2 := h'.below BB
  have hT1 := hT.below BB
  have ne1 : ¬ w.heap.size + 2 = w.heap.size + 1 := by omega
  have ne2 : ¬ w.heap.size + 1 = w.heap.size + 2 := by omega
  have ne3 : ¬ w.heap.size = w.heap.size + 2 := by omega
  have ne4 : ¬ w.heap.size + 2 = w.heap.size := by omega
  clear h h' hT
  go_enter Tryd.func83, Tryd.ntmps83
  go_wp2_with fail
  refine wp_region_held_drew (S := fun w' => w'.cell? ⟨w.heap.size, 0, none⟩ = some (.bool s) ∧ w'.cell? ⟨w.heap.size, 1, none⟩ = some (.slice A n c) ∧ w'.cell? ⟨w.heap.size, 2, none⟩ = some (.int .i64 e) ∧ w'.cell? ⟨w.heap.size + 1, 0, none⟩ = some (.bool t) ∧ w'.cell? ⟨w.heap.size + 1, 1, none⟩ = some (.slice B m d) ∧ w'.cell? ⟨w.heap.size + 1, 2, none⟩ = some (.int .i64 f)) (by kernel_rfl) (by first | (dsimp only; go_keep) | go_keep) (fun hHeld => ?_)
  refine td 0 ?_
  try simp only [Act.put]
  refine td 1 ?_
  try simp only [Act.put]
  refine td 2 ?_
  try simp only [Act.put]
  refine td 3 ?_
  try simp only [Act.put]
  refine td 5 ?_
  try simp only [Act.put]
  refine td 6 ?_
  try simp only [Act.put]
  refine td 12 ?_
  try simp only [Act.put]
  refine wpAnyH_ready (rs := [4]) (by kernel_rfl) (by simp) ?_
  refine AllReadyH.cons (o := _) rfl (fun K hK => ?_) AllReadyH.nil
  go_simp
  refine (over_ok (j := j) (h1.heap (by rfl)) he he' (by omega) (by omega) (by omega) HX.out HL1.out).mono ?_
  rintro en w1 ⟨A2, n2, c2, rfl, h3, b⟩
  replace h2 := h2.next b (by rfl)
  replace hT1 := hT1.next b (by rfl)
  replace g := g.next b (by rfl)
  replace r := r.next b (by rfl)
  replace BB := below_next BB BB.size b (by rfl) (by rfl) (by rfl) (by rfl)
  clear b h1
  obtain ⟨q0, q1, q2, q3, q4, q5⟩ := g.held
  refine hK.out _ _ (by first | (dsimp only; go_keep) | go_keep) (fun hHeld => ?_)
  clear hK K
  try simp only [Act.put]
  refine wpAnyH_ready (rs := [7]) (by kernel_rfl) (by simp) ?_
  refine AllReadyH.cons (o := _) rfl (fun K hK => ?_) AllReadyH.nil
  go_simp
  refine (over_ok (j := 0) (h2.heap (by rfl)) hf hf' (by omega) (by omega) (by omega) HY.out HL2.out).mono ?_
  rintro en w2 ⟨A3, n3, c3, rfl, h4, b⟩
  replace hT1 := hT1.next b (by rfl)
  replace g := g.next b (by rfl)
  replace r := r.next b (by rfl)
  replace h3 := h3.next b (by rfl)
  replace BB := below_next BB BB.size b (by rfl) (by rfl) (by rfl) (by rfl)
  clear b h2
  obtain ⟨q0, q1, q2, q3, q4, q5⟩ := g.held
  refine hK.out _ _ (by first | (dsimp only; go_keep) | go_keep) (fun hHeld => ?_)
  clear hK K
  try simp only [Act.put]
  refine wpAnyH_ready (rs := [8]) (by kernel_rfl) (by simp) ?_
  refine AllReadyH.cons (o := _) rfl (fun K hK => ?_) AllReadyH.nil
  go_simp
  refine (add_ok (h3.heap (by rfl)) (h4.heap (by rfl)) HS.out).mono ?_
  rintro en w3 ⟨A4, n4, c4, rfl, hs4, b⟩
  replace hT1 := hT1.next b (by rfl)
  replace g := g.next b (by rfl)
  replace r := r.next b (by rfl)
  replace BB := below_next BB BB.size b (by rfl) (by rfl) (by rfl) (by rfl)
  clear b h3 h4
  obtain ⟨q0, q1, q2, q3, q4, q5⟩ := g.held
  refine hK.out _ _ (by first | (dsimp only; go_keep) | go_keep) (fun hHeld => ?_)
  clear hK K
  try simp only [Act.put]
  refine td 9 ?_
  try simp only [Act.put]
  refine td 10 ?_
  try simp only [Act.put]
  refine wpAnyH_ready (rs := [11]) (by kernel_rfl) (by simp) ?_
  refine AllReadyH.cons (o := _) rfl (fun K hK => ?_) AllReadyH.nil
  go_simp
  refine (natural_ok).mono ?_
  rintro en w' ⟨rfl, rfl⟩
  refine hK.out _ _ (by first | (dsimp only; go_keep) | go_keep) (fun hHeld => ?_)
  clear hK K
  try simp only [Act.put]
  refine wpAnyH_ready (rs := [13]) (by kernel_rfl) (by simp) ?_
  refine AllReadyH.cons (o := _) rfl (fun K hK => ?_) AllReadyH.nil
  go_simp
  refine (normal_good (hT1.heap (by rfl)) (hs4.heap (by rfl)) HN.out).mono ?_
  rintro en w4 ⟨A5, n5, c5, rfl, h5, b⟩
  replace hT1 := hT1.next b (by rfl)
  replace g := g.next b (by rfl)
  replace r := r.next b (by rfl)
  replace hs4 := hs4.next b (by rfl)
  replace BB := below_next BB BB.size b (by rfl) (by rfl) (by rfl) (by rfl)
  clear b
  obtain ⟨q0, q1, q2, q3, q4, q5⟩ := g.held
  obtain ⟨f0, f1, f2⟩ := r.open
  obtain ⟨z0, z1, z2⟩ := r.held
  refine hK.out _ _ (by first | (dsimp only; go_keep) | go_keep) (fun hHeld => ?_)
  clear hK K
  try simp only [Act.put]
  refine wpAnyH_ready (rs := [14]) (by kernel_rfl) (by simp) ?_
  refine AllReadyH.cons (o := _) rfl (fun K hK => ?_) AllReadyH.nil
  go_simp
  refine hK.out _ _ (by first | (dsimp only; go_keep) | go_keep) (fun hHeld => ?_)
  clear hK K
  try simp only [Act.put]
  refine wpAnyH_done (by kernel_rfl) ?_ _
  go_wp2
  have p := r.put s A5 n5 c5 f
  have hN5 := h5.put3 r (.bool s) (.slice A5 n5 c5) (.int .i64 f)
  have HB3 := below_put3 (g := w.heap.size + 2) BB (by omega) (.bool s) (.slice A5 n5 c5) (.int .i64 f)
  obtain ⟨z0, z1, z2⟩ := p.held
  exact bodyPost_ret (v := .agg #[.bool s, .slice A5 n5 c5, .int .i64 f]) (by simp [results, Tryd.results83, go_sem, z0, z1, z2]) rfl ⟨_, _, _, rfl, hN5, HB3⟩

set_option maxRecDepth 100000 in
set_option maxHeartbeats 1000000 in
theorem together_b_over {w : World} {A B : Option Addr} {n c m d x y : Nat} {s t : Bool} {e f : Int} (hT : Tab w) (h : Nt w A n c x) (h' : Nt w B m d y) (he : -1048576 ≤ e) (he' : e ≤ 1048576) (hf : -1048576 ≤ f) (hf' : f ≤ 1048576) (hx : x ≠ 0) (hy : y ≠ 0) {j : Nat} (hj : e - f = (j : Int)) (hj0 : j ≠ 0) (hlt : x * 2 ^ j < W ^ 64) (hov : W ^ 64 ≤ x * 2 ^ j + y * 2 ^ 0) :
    Calls Tryd.prog 83 #[.agg #[.bool s, .slice A n c, .int .i64 e], .agg #[.bool t, .slice B m d, .int .i64 f]] w (Faults 2 w) := by
  have HX := Lib.hid hx
  have HY := Lib.hid hy
  have HL1 : Hid (x * 2 ^ j < W ^ 64) := Lib.hid (by exact hlt)
  have HL2 : Hid (y * 2 ^ 0 < W ^ 64) := Lib.hid (by rw [Nat.pow_zero, Nat.mul_one]; exact h'.lt)
  have HS := Lib.hid hov
  clear hlt hov
  clear hx hy
  have f0 : (e == f) = false := by simp; omega
  have hmin : min e f = f := by omega
  have g := (two_new w s t A B n c m d e f).alloc (.cells #[.bool false, .slice none 0 0, .int .i64 0] 28)
  have r := box_two w (.cells #[.bool s, .slice A n c, .int .i64 e] 28) (.cells #[.bool t, .slice B m d, .int .i64 f] 28) false none 0 0 0
  have BB := three_below w (.cells #[.bool s, .slice A n c, .int .i64 e] 28) (.cells #[.bool t, .slice B m d, .int .i64 f] 28) (.cells #[.bool false, .slice none 0 0, .int .i64 0] 28)
  obtain ⟨p0, p1, p2, p3, p4, p5⟩ := g.held
  have h1 := h.below BB
  have h2 := h'.below BB
  have hT1 := hT.below BB
  have ne1 : ¬ w.heap.size + 2 = w.heap.size + 1 := by omega
  have ne2 : ¬ w.heap.size + 1 = w.heap.size + 2 := by omega
  have ne3 : ¬ w.heap.size = w.heap.size + 2 := by omega
  have ne4 : ¬ w.heap.size + 2 = w.heap.size := by omega
  clear h h' hT
  go_enter Tryd.func83, Tryd.ntmps83
  go_wp2_with fail
  refine wp_region_held_drew (S := fun w' => w'.cell? ⟨w.heap.size, 0, none⟩ = some (.bool s) ∧ w'.cell? ⟨w.heap.size, 1, none⟩ = some (.slice A n c) ∧ w'.cell? ⟨w.heap.size, 2, none⟩ = some (.int .i64 e) ∧ w'.cell? ⟨w.heap.size + 1, 0, none⟩ = some (.bool t) ∧ w'.cell? ⟨w.heap.size + 1, 1, none⟩ = some (.slice B m d) ∧ w'.cell? ⟨w.heap.size + 1, 2, none⟩ = some (.int .i64 f)) (by kernel_rfl) (by first | (dsimp only; go_keep) | go_keep) (fun hHeld => ?_)
  refine td 0 ?_
  try simp only [Act.put]
  refine td 1 ?_
  try simp only [Act.put]
  refine td 2 ?_
  try simp only [Act.put]
  refine td 3 ?_
  try simp only [Act.put]
  refine td 5 ?_
  try simp only [Act.put]
  refine td 6 ?_
  try simp only [Act.put]
  refine td 12 ?_
  try simp only [Act.put]
  refine wpAnyH_ready (rs := [4]) (by kernel_rfl) (by simp) ?_
  refine AllReadyH.cons (o := _) rfl (fun K hK => ?_) AllReadyH.nil
  go_simp
  refine (over_ok (j := j) (h1.heap (by rfl)) he he' (by omega) (by omega) (by omega) HX.out HL1.out).mono ?_
  rintro en w1 ⟨A2, n2, c2, rfl, h3, b⟩
  replace h2 := h2.next b (by rfl)
  replace hT1 := hT1.next b (by rfl)
  replace g := g.next b (by rfl)
  replace r := r.next b (by rfl)
  replace BB := below_next BB BB.size b (by rfl) (by rfl) (by rfl) (by rfl)
  clear b h1
  obtain ⟨q0, q1, q2, q3, q4, q5⟩ := g.held
  refine hK.out _ _ (by first | (dsimp only; go_keep) | go_keep) (fun hHeld => ?_)
  clear hK K
  try simp only [Act.put]
  refine wpAnyH_ready (rs := [7]) (by kernel_rfl) (by simp) ?_
  refine AllReadyH.cons (o := _) rfl (fun K hK => ?_) AllReadyH.nil
  go_simp
  refine (over_ok (j := 0) (h2.heap (by rfl)) hf hf' (by omega) (by omega) (by omega) HY.out HL2.out).mono ?_
  rintro en w2 ⟨A3, n3, c3, rfl, h4, b⟩
  replace hT1 := hT1.next b (by rfl)
  replace g := g.next b (by rfl)
  replace r := r.next b (by rfl)
  replace h3 := h3.next b (by rfl)
  replace BB := below_next BB BB.size b (by rfl) (by rfl) (by rfl) (by rfl)
  clear b h2
  obtain ⟨q0, q1, q2, q3, q4, q5⟩ := g.held
  refine hK.out _ _ (by first | (dsimp only; go_keep) | go_keep) (fun hHeld => ?_)
  clear hK K
  try simp only [Act.put]
  refine wpAnyH_ready (rs := [8]) (by kernel_rfl) (by simp) ?_
  refine AllReadyH.cons (o := _) rfl (fun K hK => ?_) AllReadyH.nil
  go_simp
  refine (add_over (h3.heap (by rfl)) (h4.heap (by rfl)) HS.out).mono ?_
  rintro en w3 ⟨rfl, b⟩
  replace hT1 := hT1.next b (by rfl)
  replace g := g.next b (by rfl)
  replace r := r.next b (by rfl)
  replace h3 := h3.next b (by rfl)
  replace h4 := h4.next b (by rfl)
  replace BB := below_next BB BB.size b (by rfl) (by rfl) (by rfl) (by rfl)
  clear b
  obtain ⟨q0, q1, q2, q3, q4, q5⟩ := g.held
  refine hK.out _ _ (by first | (dsimp only; go_keep) | go_keep) (fun hHeld => ?_)
  clear hK K
  try simp only [Act.put]
  refine td 9 ?_
  try simp only [Act.put]
  refine td 10 ?_
  try simp only [Act.put]
  refine wpAnyH_ready (rs := [11]) (by kernel_rfl) (by simp) ?_
  refine AllReadyH.cons (o := _) rfl (fun K hK => ?_) AllReadyH.nil
  go_simp
  refine (natural_bad (k := 2) (by decide)).mono ?_
  rintro en w' ⟨rfl, rfl⟩
  exact ⟨rfl, rfl, BB⟩

set_option maxRecDepth 100000 in
set_option maxHeartbeats 1000000 in
theorem together_b_big {w : World} {A B : Option Addr} {n c m d x y : Nat} {s t : Bool} {e f : Int} (hT : Tab w) (h : Nt w A n c x) (h' : Nt w B m d y) (he : -1048576 ≤ e) (he' : e ≤ 1048576) (hf : -1048576 ≤ f) (hf' : f ≤ 1048576) (hx : x ≠ 0) (hy : y ≠ 0) {j : Nat} (hj : e - f = (j : Int)) (hj0 : j ≠ 0) (hov : W ^ 64 ≤ x * 2 ^ j) :
    Calls Tryd.prog 83 #[.agg #[.bool s, .slice A n c, .int .i64 e], .agg #[.bool t, .slice B m d, .int .i64 f]] w (Faults 2 w) := by
  have HX := Lib.hid hx
  have HY := Lib.hid hy
  have HS := Lib.hid hov
  clear hov
  clear hx hy
  have f0 : (e == f) = false := by simp; omega
  have hmin : min e f = f := by omega
  have g := (two_new w s t A B n c m d e f).alloc (.cells #[.bool false, .slice none 0 0, .int .i64 0] 28)
  have r := box_two w (.cells #[.bool s, .slice A n c, .int .i64 e] 28) (.cells #[.bool t, .slice B m d, .int .i64 f] 28) false none 0 0 0
  have BB := three_below w (.cells #[.bool s, .slice A n c, .int .i64 e] 28) (.cells #[.bool t, .slice B m d, .int .i64 f] 28) (.cells #[.bool false, .slice none 0 0, .int .i64 0] 28)
  obtain ⟨p0, p1, p2, p3, p4, p5⟩ := g.held
  have h1 := h.below BB
  have h2 := h'.below BB
  have hT1 := hT.below BB
  have ne1 : ¬ w.heap.size + 2 = w.heap.size + 1 := by omega
  have ne2 : ¬ w.heap.size + 1 = w.heap.size + 2 := by omega
  have ne3 : ¬ w.heap.size = w.heap.size + 2 := by omega
  have ne4 : ¬ w.heap.size + 2 = w.heap.size := by omega
  clear h h' hT
  go_enter Tryd.func83, Tryd.ntmps83
  go_wp2_with fail
  refine wp_region_held_drew (S := fun w' => w'.cell? ⟨w.heap.size, 0, none⟩ = some (.bool s) ∧ w'.cell? ⟨w.heap.size, 1, none⟩ = some (.slice A n c) ∧ w'.cell? ⟨w.heap.size, 2, none⟩ = some (.int .i64 e) ∧ w'.cell? ⟨w.heap.size + 1, 0, none⟩ = some (.bool t) ∧ w'.cell? ⟨w.heap.size + 1, 1, none⟩ = some (.slice B m d) ∧ w'.cell? ⟨w.heap.size + 1, 2, none⟩ = some (.int .i64 f)) (by kernel_rfl) (by first | (dsimp only; go_keep) | go_keep) (fun hHeld => ?_)
  refine td 0 ?_
  try simp only [Act.put]
  refine td 1 ?_
  try simp only [Act.put]
  refine td 2 ?_
  try simp only [Act.put]
  refine td 3 ?_
  try simp only [Act.put]
  refine td 5 ?_
  try simp only [Act.put]
  refine td 6 ?_
  try simp only [Act.put]
  refine td 12 ?_
  try simp only [Act.put]
  refine wpAnyH_ready (rs := [4]) (by kernel_rfl) (by simp) ?_
  refine AllReadyH.cons (o := _) rfl (fun K hK => ?_) AllReadyH.nil
  go_simp
  refine (over_big (j := j) (h1.heap (by rfl)) he he' (by omega) (by omega) (by omega) HX.out HS.out).mono ?_
  rintro en w9 ⟨rfl, b⟩
  exact ⟨rfl, rfl, below_next BB BB.size b (by rfl) (by rfl) (by rfl) (by rfl)⟩

end Go.Proofs.YtkpcmgfpmekkjaaDoor
