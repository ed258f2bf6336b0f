/-
  Contracts of dyad's sizes, together, without, at this translation.
-/
import Derived.Test.YtehfdfjpmmpndaaGreatDoorQDy3
set_option maxHeartbeats 1000000
set_option maxRecDepth 100000
namespace Go.Proofs.YtehfdfjpmmpndaaGreatDoor
open Go.RowKit
variable {c d j m n x y : Nat} {e f : Int} {s t : Bool} {w : World}
theorem together_even {A B : Option Addr} (hT : Tab w) (h : Nt w A n c x) (h' : Nt w B m d y) (he : -1048576 ≤ e) (he' : e ≤ 1048576) (hlt : x / 2 + (y / 2 + 1) < W ^ 64) {k : Int} {s' : Bool} {m' : Nat} {e' : Int} (hN : Nm s (x / 2 + (y / 2 + 1)) (e + 1) k s' m' e') (hk : k = 0) :
  Calls Tryz.prog 63 #[.agg #[.bool s, .slice A n c, .int .i64 e], .agg #[.bool t, .slice B m d, .int .i64 e]] w (Goods s' m' e' w) := by
 subst hk
 have HLT := hyd hlt
 have HN := hyd hN
 clear hlt hN
 obtain ⟨BB, r, g⟩ := tri w s t A B n c m d e e
 obtain ⟨p0, p1, p2, p3, p4, p5⟩ := g.held
 have h1 := h.below BB
 have h2 := h'.below BB
 have hT1 := hT.below BB
 obtain ⟨ne1, ne2, ne3, ne4⟩ := nes w.heap.size
 clear h h' hT
 have hs : IntKind.i64.wrap (e + 1) = e + 1 := IntWalk.i64_in _ (by omega)
 go_enter Tryz.func63, Tryz.ntmps63
 go_wp2_with fail
 refine rgn (fun w' => w'.cell? ⟨w.heap.size, 0, none⟩ = some (.bool s) ∧ w'.cell? ⟨w.heap.size, 1, none⟩ = some (.slice A n c) ∧ w'.cell? ⟨w.heap.size, 2, none⟩ = some (.int .i64 e) ∧ w'.cell? ⟨w.heap.size + 1, 0, none⟩ = some (.bool t) ∧ w'.cell? ⟨w.heap.size + 1, 1, none⟩ = some (.slice B m d) ∧ w'.cell? ⟨w.heap.size + 1, 2, none⟩ = some (.int .i64 e)) fun hHeld => ?_
 refine td 0 ?_
 try simp only [Act.put]
 refine td 1 ?_
 try simp only [Act.put]
 refine td 2 ?_
 try simp only [Act.put]
 refine td 3 ?_
 try simp only [Act.put]
 refine td 5 ?_
 try simp only [Act.put]
 refine td 6 ?_
 try simp only [Act.put]
 refine td 12 ?_
 try simp only [Act.put]
 refine td 13 ?_
 try simp only [Act.put]
 refine td 14 ?_
 try simp only [Act.put]
 refine rdy 4 fun K hK => ?_
 go_simp
 refine (lesser_any (h1.heap (by rfl))).mono ?_
 rintro en w1 ⟨A2, n2, c2, rfl, h3, b⟩
 replace h2 := h2.next b (by rfl)
 replace hT1 := hT1.next b (by rfl)
 replace g := g.next b (by rfl)
 replace r := r.next b (by rfl)
 replace BB := bnx BB b
 clear b h1
 obtain ⟨q0, q1, q2, q3, q4, q5⟩ := g.held
 refine bk hK fun hHeld => ?_
 clear hK K
 try simp only [Act.put]
 refine rdy 7 fun K hK => ?_
 go_simp
 refine (greater_any (h2.heap (by rfl))).mono ?_
 rintro en w2 ⟨A3, n3, c3, rfl, h4, b⟩
 replace hT1 := hT1.next b (by rfl)
 replace g := g.next b (by rfl)
 replace r := r.next b (by rfl)
 replace h3 := h3.next b (by rfl)
 replace BB := bnx BB b
 clear b h2
 obtain ⟨q0, q1, q2, q3, q4, q5⟩ := g.held
 refine bk hK fun hHeld => ?_
 clear hK K
 try simp only [Act.put]
 refine rdy 8 fun K hK => ?_
 go_simp
 refine (add_ok (h3.heap (by rfl)) (h4.heap (by rfl)) HLT.out).mono ?_
 rintro en w3 ⟨A4, n4, c4, rfl, hs4, b⟩
 replace hT1 := hT1.next b (by rfl)
 replace g := g.next b (by rfl)
 replace r := r.next b (by rfl)
 replace BB := bnx BB b
 clear b h3 h4
 obtain ⟨q0, q1, q2, q3, q4, q5⟩ := g.held
 refine bk hK fun hHeld => ?_
 clear hK K
 try simp only [Act.put]
 refine td 9 ?_
 try simp only [Act.put]
 refine td 10 ?_
 try simp only [Act.put]
 refine rdy 11 fun K hK => ?_
 go_simp
 refine (natural_ok).mono ?_
 rintro en w' ⟨rfl, rfl⟩
 refine bk hK fun hHeld => ?_
 clear hK K
 try simp only [Act.put]
 refine rdy 15 fun K hK => ?_
 go_simp
 refine (normal_good (hT1.heap (by rfl)) (hs4.heap (by rfl)) HN.out).mono ?_
 rintro en w4 ⟨A5, n5, c5, rfl, h5, b⟩
 replace hT1 := hT1.next b (by rfl)
 replace g := g.next b (by rfl)
 replace r := r.next b (by rfl)
 replace hs4 := hs4.next b (by rfl)
 replace BB := bnx BB b
 clear b
 obtain ⟨q0, q1, q2, q3, q4, q5⟩ := g.held
 obtain ⟨f0, f1, f2⟩ := r.open
 obtain ⟨z0, z1, z2⟩ := r.held
 refine bk hK fun hHeld => ?_
 clear hK K
 try simp only [Act.put]
 refine rdy 16 fun K hK => ?_
 go_simp
 refine bk hK fun hHeld => ?_
 clear hK K
 try simp only [Act.put]
 refine wpAnyH_done (by kernel_rfl) ?_ _
 go_wp2
 exact ret3 rfl rfl rfl r BB (by omega) (h5.put3 r _ _ _) fun hN5 HB3 => ⟨_, _, _, rfl, hN5, HB3⟩
theorem together_fault {A B : Option Addr} (hT : Tab w) (h : Nt w A n c x) (h' : Nt w B m d y) (he : -1048576 ≤ e) (he' : e ≤ 1048576) (hlt : x / 2 + (y / 2 + 1) < W ^ 64) {k : Int} {s' : Bool} {m' : Nat} {e' : Int} (hN : Nm s (x / 2 + (y / 2 + 1)) (e + 1) k s' m' e') (hk : k ≠ 0) :
  Calls Tryz.prog 63 #[.agg #[.bool s, .slice A n c, .int .i64 e], .agg #[.bool t, .slice B m d, .int .i64 e]] w (Faults k w) := by
 have HK := hyd hk
 clear hk
 have HLT := hyd hlt
 have HN := hyd hN
 clear hlt hN
 obtain ⟨BB, r, g⟩ := tri w s t A B n c m d e e
 obtain ⟨p0, p1, p2, p3, p4, p5⟩ := g.held
 have h1 := h.below BB
 have h2 := h'.below BB
 have hT1 := hT.below BB
 obtain ⟨ne1, ne2, ne3, ne4⟩ := nes w.heap.size
 clear h h' hT
 have hs : IntKind.i64.wrap (e + 1) = e + 1 := IntWalk.i64_in _ (by omega)
 go_enter Tryz.func63, Tryz.ntmps63
 go_wp2_with fail
 refine rgn (fun w' => w'.cell? ⟨w.heap.size, 0, none⟩ = some (.bool s) ∧ w'.cell? ⟨w.heap.size, 1, none⟩ = some (.slice A n c) ∧ w'.cell? ⟨w.heap.size, 2, none⟩ = some (.int .i64 e) ∧ w'.cell? ⟨w.heap.size + 1, 0, none⟩ = some (.bool t) ∧ w'.cell? ⟨w.heap.size + 1, 1, none⟩ = some (.slice B m d) ∧ w'.cell? ⟨w.heap.size + 1, 2, none⟩ = some (.int .i64 e)) fun hHeld => ?_
 refine td 0 ?_
 try simp only [Act.put]
 refine td 1 ?_
 try simp only [Act.put]
 refine td 2 ?_
 try simp only [Act.put]
 refine td 3 ?_
 try simp only [Act.put]
 refine td 5 ?_
 try simp only [Act.put]
 refine td 6 ?_
 try simp only [Act.put]
 refine td 12 ?_
 try simp only [Act.put]
 refine td 13 ?_
 try simp only [Act.put]
 refine td 14 ?_
 try simp only [Act.put]
 refine rdy 4 fun K hK => ?_
 go_simp
 refine (lesser_any (h1.heap (by rfl))).mono ?_
 rintro en w1 ⟨A2, n2, c2, rfl, h3, b⟩
 replace h2 := h2.next b (by rfl)
 replace hT1 := hT1.next b (by rfl)
 replace g := g.next b (by rfl)
 replace r := r.next b (by rfl)
 replace BB := bnx BB b
 clear b h1
 obtain ⟨q0, q1, q2, q3, q4, q5⟩ := g.held
 refine bk hK fun hHeld => ?_
 clear hK K
 try simp only [Act.put]
 refine rdy 7 fun K hK => ?_
 go_simp
 refine (greater_any (h2.heap (by rfl))).mono ?_
 rintro en w2 ⟨A3, n3, c3, rfl, h4, b⟩
 replace hT1 := hT1.next b (by rfl)
 replace g := g.next b (by rfl)
 replace r := r.next b (by rfl)
 replace h3 := h3.next b (by rfl)
 replace BB := bnx BB b
 clear b h2
 obtain ⟨q0, q1, q2, q3, q4, q5⟩ := g.held
 refine bk hK fun hHeld => ?_
 clear hK K
 try simp only [Act.put]
 refine rdy 8 fun K hK => ?_
 go_simp
 refine (add_ok (h3.heap (by rfl)) (h4.heap (by rfl)) HLT.out).mono ?_
 rintro en w3 ⟨A4, n4, c4, rfl, hs4, b⟩
 replace hT1 := hT1.next b (by rfl)
 replace g := g.next b (by rfl)
 replace r := r.next b (by rfl)
 replace BB := bnx BB b
 clear b h3 h4
 obtain ⟨q0, q1, q2, q3, q4, q5⟩ := g.held
 refine bk hK fun hHeld => ?_
 clear hK K
 try simp only [Act.put]
 refine td 9 ?_
 try simp only [Act.put]
 refine td 10 ?_
 try simp only [Act.put]
 refine rdy 11 fun K hK => ?_
 go_simp
 refine (natural_ok).mono ?_
 rintro en w' ⟨rfl, rfl⟩
 refine bk hK fun hHeld => ?_
 clear hK K
 try simp only [Act.put]
 refine rdy 15 fun K hK => ?_
 go_simp
 refine (normal_fault (hT1.heap (by rfl)) (hs4.heap (by rfl)) HN.out HK.out).mono ?_
 rintro en w9 ⟨rfl, b⟩
 exact ⟨rfl, rfl, bnx BB b⟩
theorem together_a_good {A B : Option Addr} (hT : Tab w) (h : Nt w A n c x) (h' : Nt w B m d y) (he : -1048576 ≤ e) (he' : e ≤ 1048576) (hf : -1048576 ≤ f) (hf' : f ≤ 1048576) (hx : x ≠ 0) (hy : y ≠ 0) (hj : f - e = (j : Int)) (hj0 : j ≠ 0) (hlt : x * 2 ^ 0 + y * 2 ^ j < W ^ 64) (hodd : (x * 2 ^ 0 + y * 2 ^ j) % 2 = 1) :
  Calls Tryz.prog 63 #[.agg #[.bool s, .slice A n c, .int .i64 e], .agg #[.bool t, .slice B m d, .int .i64 f]] w (Goods s (x * 2 ^ 0 + y * 2 ^ j) e w) := by
 have HX := hyd hx
 have HY := hyd hy
 have HL1 : Hid (x * 2 ^ 0 < W ^ 64) := hyd (by rw [Nat.pow_zero, Nat.mul_one]; exact h.lt)
 have HL2 : Hid (y * 2 ^ j < W ^ 64) := hyd (by omega)
 have HS := hyd hlt
 have HN : Hid (Nm s (x * 2 ^ 0 + y * 2 ^ j) e 0 s (x * 2 ^ 0 + y * 2 ^ j) e) := hyd (nm_self (.inr ⟨hodd, hlt, by omega, by omega⟩))
 clear hlt hodd
 clear hx hy
 have f0 : (e == f) = false := by simp; omega
 have hmin : min e f = e := by omega
 obtain ⟨BB, r, g⟩ := tri w s t A B n c m d e f
 obtain ⟨p0, p1, p2, p3, p4, p5⟩ := g.held
 have h1 := h.below BB
 have h2 := h'.below BB
 have hT1 := hT.below BB
 obtain ⟨ne1, ne2, ne3, ne4⟩ := nes w.heap.size
 clear h h' hT
 go_enter Tryz.func63, Tryz.ntmps63
 go_wp2_with fail
 refine rgn (fun w' => w'.cell? ⟨w.heap.size, 0, none⟩ = some (.bool s) ∧ w'.cell? ⟨w.heap.size, 1, none⟩ = some (.slice A n c) ∧ w'.cell? ⟨w.heap.size, 2, none⟩ = some (.int .i64 e) ∧ w'.cell? ⟨w.heap.size + 1, 0, none⟩ = some (.bool t) ∧ w'.cell? ⟨w.heap.size + 1, 1, none⟩ = some (.slice B m d) ∧ w'.cell? ⟨w.heap.size + 1, 2, none⟩ = some (.int .i64 f)) fun hHeld => ?_
 refine td 0 ?_
 try simp only [Act.put]
 refine td 1 ?_
 try simp only [Act.put]
 refine td 2 ?_
 try simp only [Act.put]
 refine td 3 ?_
 try simp only [Act.put]
 refine td 5 ?_
 try simp only [Act.put]
 refine td 6 ?_
 try simp only [Act.put]
 refine td 12 ?_
 try simp only [Act.put]
 refine rdy 4 fun K hK => ?_
 go_simp
 refine (over_ok (j := 0) (h1.heap (by rfl)) he he' (by omega) (by omega) (by omega) HX.out HL1.out).mono ?_
 rintro en w1 ⟨A2, n2, c2, rfl, h3, b⟩
 replace h2 := h2.next b (by rfl)
 replace hT1 := hT1.next b (by rfl)
 replace g := g.next b (by rfl)
 replace r := r.next b (by rfl)
 replace BB := bnx BB b
 clear b h1
 obtain ⟨q0, q1, q2, q3, q4, q5⟩ := g.held
 refine bk hK fun hHeld => ?_
 clear hK K
 try simp only [Act.put]
 refine rdy 7 fun K hK => ?_
 go_simp
 refine (over_ok (j := j) (h2.heap (by rfl)) hf hf' (by omega) (by omega) (by omega) HY.out HL2.out).mono ?_
 rintro en w2 ⟨A3, n3, c3, rfl, h4, b⟩
 replace hT1 := hT1.next b (by rfl)
 replace g := g.next b (by rfl)
 replace r := r.next b (by rfl)
 replace h3 := h3.next b (by rfl)
 replace BB := bnx BB b
 clear b h2
 obtain ⟨q0, q1, q2, q3, q4, q5⟩ := g.held
 refine bk hK fun hHeld => ?_
 clear hK K
 try simp only [Act.put]
 refine rdy 8 fun K hK => ?_
 go_simp
 refine (add_ok (h3.heap (by rfl)) (h4.heap (by rfl)) HS.out).mono ?_
 rintro en w3 ⟨A4, n4, c4, rfl, hs4, b⟩
 replace hT1 := hT1.next b (by rfl)
 replace g := g.next b (by rfl)
 replace r := r.next b (by rfl)
 replace BB := bnx BB b
 clear b h3 h4
 obtain ⟨q0, q1, q2, q3, q4, q5⟩ := g.held
 refine bk hK fun hHeld => ?_
 clear hK K
 try simp only [Act.put]
 refine td 9 ?_
 try simp only [Act.put]
 refine td 10 ?_
 try simp only [Act.put]
 refine rdy 11 fun K hK => ?_
 go_simp
 refine (natural_ok).mono ?_
 rintro en w' ⟨rfl, rfl⟩
 refine bk hK fun hHeld => ?_
 clear hK K
 try simp only [Act.put]
 refine rdy 13 fun K hK => ?_
 go_simp
 refine (normal_good (hT1.heap (by rfl)) (hs4.heap (by rfl)) HN.out).mono ?_
 rintro en w4 ⟨A5, n5, c5, rfl, h5, b⟩
 replace hT1 := hT1.next b (by rfl)
 replace g := g.next b (by rfl)
 replace r := r.next b (by rfl)
 replace hs4 := hs4.next b (by rfl)
 replace BB := bnx BB b
 clear b
 obtain ⟨q0, q1, q2, q3, q4, q5⟩ := g.held
 obtain ⟨f0, f1, f2⟩ := r.open
 obtain ⟨z0, z1, z2⟩ := r.held
 refine bk hK fun hHeld => ?_
 clear hK K
 try simp only [Act.put]
 refine rdy 14 fun K hK => ?_
 go_simp
 refine bk hK fun hHeld => ?_
 clear hK K
 try simp only [Act.put]
 refine wpAnyH_done (by kernel_rfl) ?_ _
 go_wp2
 exact ret3 rfl rfl rfl r BB (by omega) (h5.put3 r _ _ _) fun hN5 HB3 => ⟨_, _, _, rfl, hN5, HB3⟩
theorem together_a_over {A B : Option Addr} (hT : Tab w) (h : Nt w A n c x) (h' : Nt w B m d y) (he : -1048576 ≤ e) (he' : e ≤ 1048576) (hf : -1048576 ≤ f) (hf' : f ≤ 1048576) (hx : x ≠ 0) (hy : y ≠ 0) (hj : f - e = (j : Int)) (hj0 : j ≠ 0) (hlt : y * 2 ^ j < W ^ 64) (hov : W ^ 64 ≤ x * 2 ^ 0 + y * 2 ^ j) :
  Calls Tryz.prog 63 #[.agg #[.bool s, .slice A n c, .int .i64 e], .agg #[.bool t, .slice B m d, .int .i64 f]] w (Faults 2 w) := by
 have HX := hyd hx
 have HY := hyd hy
 have HL1 : Hid (x * 2 ^ 0 < W ^ 64) := hyd (by rw [Nat.pow_zero, Nat.mul_one]; exact h.lt)
 have HL2 : Hid (y * 2 ^ j < W ^ 64) := hyd (by exact hlt)
 have HS := hyd hov
 clear hlt hov
 clear hx hy
 have f0 : (e == f) = false := by simp; omega
 have hmin : min e f = e := by omega
 obtain ⟨BB, r, g⟩ := tri w s t A B n c m d e f
 obtain ⟨p0, p1, p2, p3, p4, p5⟩ := g.held
 have h1 := h.below BB
 have h2 := h'.below BB
 have hT1 := hT.below BB
 obtain ⟨ne1, ne2, ne3, ne4⟩ := nes w.heap.size
 clear h h' hT
 go_enter Tryz.func63, Tryz.ntmps63
 go_wp2_with fail
 refine rgn (fun w' => w'.cell? ⟨w.heap.size, 0, none⟩ = some (.bool s) ∧ w'.cell? ⟨w.heap.size, 1, none⟩ = some (.slice A n c) ∧ w'.cell? ⟨w.heap.size, 2, none⟩ = some (.int .i64 e) ∧ w'.cell? ⟨w.heap.size + 1, 0, none⟩ = some (.bool t) ∧ w'.cell? ⟨w.heap.size + 1, 1, none⟩ = some (.slice B m d) ∧ w'.cell? ⟨w.heap.size + 1, 2, none⟩ = some (.int .i64 f)) fun hHeld => ?_
 refine td 0 ?_
 try simp only [Act.put]
 refine td 1 ?_
 try simp only [Act.put]
 refine td 2 ?_
 try simp only [Act.put]
 refine td 3 ?_
 try simp only [Act.put]
 refine td 5 ?_
 try simp only [Act.put]
 refine td 6 ?_
 try simp only [Act.put]
 refine td 12 ?_
 try simp only [Act.put]
 refine rdy 4 fun K hK => ?_
 go_simp
 refine (over_ok (j := 0) (h1.heap (by rfl)) he he' (by omega) (by omega) (by omega) HX.out HL1.out).mono ?_
 rintro en w1 ⟨A2, n2, c2, rfl, h3, b⟩
 replace h2 := h2.next b (by rfl)
 replace hT1 := hT1.next b (by rfl)
 replace g := g.next b (by rfl)
 replace r := r.next b (by rfl)
 replace BB := bnx BB b
 clear b h1
 obtain ⟨q0, q1, q2, q3, q4, q5⟩ := g.held
 refine bk hK fun hHeld => ?_
 clear hK K
 try simp only [Act.put]
 refine rdy 7 fun K hK => ?_
 go_simp
 refine (over_ok (j := j) (h2.heap (by rfl)) hf hf' (by omega) (by omega) (by omega) HY.out HL2.out).mono ?_
 rintro en w2 ⟨A3, n3, c3, rfl, h4, b⟩
 replace hT1 := hT1.next b (by rfl)
 replace g := g.next b (by rfl)
 replace r := r.next b (by rfl)
 replace h3 := h3.next b (by rfl)
 replace BB := bnx BB b
 clear b h2
 obtain ⟨q0, q1, q2, q3, q4, q5⟩ := g.held
 refine bk hK fun hHeld => ?_
 clear hK K
 try simp only [Act.put]
 refine rdy 8 fun K hK => ?_
 go_simp
 refine (add_over (h3.heap (by rfl)) (h4.heap (by rfl)) HS.out).mono ?_
 rintro en w3 ⟨rfl, b⟩
 replace hT1 := hT1.next b (by rfl)
 replace g := g.next b (by rfl)
 replace r := r.next b (by rfl)
 replace h3 := h3.next b (by rfl)
 replace h4 := h4.next b (by rfl)
 replace BB := bnx BB b
 clear b
 obtain ⟨q0, q1, q2, q3, q4, q5⟩ := g.held
 refine bk hK fun hHeld => ?_
 clear hK K
 try simp only [Act.put]
 refine td 9 ?_
 try simp only [Act.put]
 refine td 10 ?_
 try simp only [Act.put]
 refine rdy 11 fun K hK => ?_
 go_simp
 refine (natural_bad (k := 2) (by decide)).mono ?_
 rintro en w' ⟨rfl, rfl⟩
 exact ⟨rfl, rfl, BB⟩
theorem together_a_big {A B : Option Addr} (hT : Tab w) (h : Nt w A n c x) (h' : Nt w B m d y) (he : -1048576 ≤ e) (he' : e ≤ 1048576) (hf : -1048576 ≤ f) (hf' : f ≤ 1048576) (hx : x ≠ 0) (hy : y ≠ 0) (hj : f - e = (j : Int)) (hj0 : j ≠ 0) (hov : W ^ 64 ≤ y * 2 ^ j) :
  Calls Tryz.prog 63 #[.agg #[.bool s, .slice A n c, .int .i64 e], .agg #[.bool t, .slice B m d, .int .i64 f]] w (Faults 2 w) := by
 have HX := hyd hx
 have HY := hyd hy
 have HL1 : Hid (x * 2 ^ 0 < W ^ 64) := hyd (by rw [Nat.pow_zero, Nat.mul_one]; exact h.lt)
 have HS := hyd hov
 clear hov
 clear hx hy
 have f0 : (e == f) = false := by simp; omega
 have hmin : min e f = e := by omega
 obtain ⟨BB, r, g⟩ := tri w s t A B n c m d e f
 obtain ⟨p0, p1, p2, p3, p4, p5⟩ := g.held
 have h1 := h.below BB
 have h2 := h'.below BB
 have hT1 := hT.below BB
 obtain ⟨ne1, ne2, ne3, ne4⟩ := nes w.heap.size
 clear h h' hT
 go_enter Tryz.func63, Tryz.ntmps63
 go_wp2_with fail
 refine rgn (fun w' => w'.cell? ⟨w.heap.size, 0, none⟩ = some (.bool s) ∧ w'.cell? ⟨w.heap.size, 1, none⟩ = some (.slice A n c) ∧ w'.cell? ⟨w.heap.size, 2, none⟩ = some (.int .i64 e) ∧ w'.cell? ⟨w.heap.size + 1, 0, none⟩ = some (.bool t) ∧ w'.cell? ⟨w.heap.size + 1, 1, none⟩ = some (.slice B m d) ∧ w'.cell? ⟨w.heap.size + 1, 2, none⟩ = some (.int .i64 f)) fun hHeld => ?_
 refine td 0 ?_
 try simp only [Act.put]
 refine td 1 ?_
 try simp only [Act.put]
 refine td 2 ?_
 try simp only [Act.put]
 refine td 3 ?_
 try simp only [Act.put]
 refine td 5 ?_
 try simp only [Act.put]
 refine td 6 ?_
 try simp only [Act.put]
 refine td 12 ?_
 try simp only [Act.put]
 refine rdy 4 fun K hK => ?_
 go_simp
 refine (over_ok (j := 0) (h1.heap (by rfl)) he he' (by omega) (by omega) (by omega) HX.out HL1.out).mono ?_
 rintro en w1 ⟨A2, n2, c2, rfl, h3, b⟩
 replace h2 := h2.next b (by rfl)
 replace hT1 := hT1.next b (by rfl)
 replace g := g.next b (by rfl)
 replace r := r.next b (by rfl)
 replace BB := bnx BB b
 clear b h1
 obtain ⟨q0, q1, q2, q3, q4, q5⟩ := g.held
 refine bk hK fun hHeld => ?_
 clear hK K
 try simp only [Act.put]
 refine rdy 7 fun K hK => ?_
 go_simp
 refine (over_big (j := j) (h2.heap (by rfl)) hf hf' (by omega) (by omega) (by omega) HY.out HS.out).mono ?_
 rintro en w9 ⟨rfl, b⟩
 exact ⟨rfl, rfl, bnx BB b⟩
theorem together_b_good {A B : Option Addr} (hT : Tab w) (h : Nt w A n c x) (h' : Nt w B m d y) (he : -1048576 ≤ e) (he' : e ≤ 1048576) (hf : -1048576 ≤ f) (hf' : f ≤ 1048576) (hx : x ≠ 0) (hy : y ≠ 0) (hj : e - f = (j : Int)) (hj0 : j ≠ 0) (hlt : x * 2 ^ j + y * 2 ^ 0 < W ^ 64) (hodd : (x * 2 ^ j + y * 2 ^ 0) % 2 = 1) :
  Calls Tryz.prog 63 #[.agg #[.bool s, .slice A n c, .int .i64 e], .agg #[.bool t, .slice B m d, .int .i64 f]] w (Goods s (x * 2 ^ j + y * 2 ^ 0) f w) := by
 have HX := hyd hx
 have HY := hyd hy
 have HL1 : Hid (x * 2 ^ j < W ^ 64) := hyd (by omega)
 have HL2 : Hid (y * 2 ^ 0 < W ^ 64) := hyd (by rw [Nat.pow_zero, Nat.mul_one]; exact h'.lt)
 have HS := hyd hlt
 have HN : Hid (Nm s (x * 2 ^ j + y * 2 ^ 0) f 0 s (x * 2 ^ j + y * 2 ^ 0) f) := hyd (nm_self (.inr ⟨hodd, hlt, by omega, by omega⟩))
 clear hlt hodd
 clear hx hy
 have f0 : (e == f) = false := by simp; omega
 have hmin : min e f = f := by omega
 obtain ⟨BB, r, g⟩ := tri w s t A B n c m d e f
 obtain ⟨p0, p1, p2, p3, p4, p5⟩ := g.held
 have h1 := h.below BB
 have h2 := h'.below BB
 have hT1 := hT.below BB
 obtain ⟨ne1, ne2, ne3, ne4⟩ := nes w.heap.size
 clear h h' hT
 go_enter Tryz.func63, Tryz.ntmps63
 go_wp2_with fail
 refine rgn (fun w' => w'.cell? ⟨w.heap.size, 0, none⟩ = some (.bool s) ∧ w'.cell? ⟨w.heap.size, 1, none⟩ = some (.slice A n c) ∧ w'.cell? ⟨w.heap.size, 2, none⟩ = some (.int .i64 e) ∧ w'.cell? ⟨w.heap.size + 1, 0, none⟩ = some (.bool t) ∧ w'.cell? ⟨w.heap.size + 1, 1, none⟩ = some (.slice B m d) ∧ w'.cell? ⟨w.heap.size + 1, 2, none⟩ = some (.int .i64 f)) fun hHeld => ?_
 refine td 0 ?_
 try simp only [Act.put]
 refine td 1 ?_
 try simp only [Act.put]
 refine td 2 ?_
 try simp only [Act.put]
 refine td 3 ?_
 try simp only [Act.put]
 refine td 5 ?_
 try simp only [Act.put]
 refine td 6 ?_
 try simp only [Act.put]
 refine td 12 ?_
 try simp only [Act.put]
 refine rdy 4 fun K hK => ?_
 go_simp
 refine (over_ok (j := j) (h1.heap (by rfl)) he he' (by omega) (by omega) (by omega) HX.out HL1.out).mono ?_
 rintro en w1 ⟨A2, n2, c2, rfl, h3, b⟩
 replace h2 := h2.next b (by rfl)
 replace hT1 := hT1.next b (by rfl)
 replace g := g.next b (by rfl)
 replace r := r.next b (by rfl)
 replace BB := bnx BB b
 clear b h1
 obtain ⟨q0, q1, q2, q3, q4, q5⟩ := g.held
 refine bk hK fun hHeld => ?_
 clear hK K
 try simp only [Act.put]
 refine rdy 7 fun K hK => ?_
 go_simp
 refine (over_ok (j := 0) (h2.heap (by rfl)) hf hf' (by omega) (by omega) (by omega) HY.out HL2.out).mono ?_
 rintro en w2 ⟨A3, n3, c3, rfl, h4, b⟩
 replace hT1 := hT1.next b (by rfl)
 replace g := g.next b (by rfl)
 replace r := r.next b (by rfl)
 replace h3 := h3.next b (by rfl)
 replace BB := bnx BB b
 clear b h2
 obtain ⟨q0, q1, q2, q3, q4, q5⟩ := g.held
 refine bk hK fun hHeld => ?_
 clear hK K
 try simp only [Act.put]
 refine rdy 8 fun K hK => ?_
 go_simp
 refine (add_ok (h3.heap (by rfl)) (h4.heap (by rfl)) HS.out).mono ?_
 rintro en w3 ⟨A4, n4, c4, rfl, hs4, b⟩
 replace hT1 := hT1.next b (by rfl)
 replace g := g.next b (by rfl)
 replace r := r.next b (by rfl)
 replace BB := bnx BB b
 clear b h3 h4
 obtain ⟨q0, q1, q2, q3, q4, q5⟩ := g.held
 refine bk hK fun hHeld => ?_
 clear hK K
 try simp only [Act.put]
 refine td 9 ?_
 try simp only [Act.put]
 refine td 10 ?_
 try simp only [Act.put]
 refine rdy 11 fun K hK => ?_
 go_simp
 refine (natural_ok).mono ?_
 rintro en w' ⟨rfl, rfl⟩
 refine bk hK fun hHeld => ?_
 clear hK K
 try simp only [Act.put]
 refine rdy 13 fun K hK => ?_
 go_simp
 refine (normal_good (hT1.heap (by rfl)) (hs4.heap (by rfl)) HN.out).mono ?_
 rintro en w4 ⟨A5, n5, c5, rfl, h5, b⟩
 replace hT1 := hT1.next b (by rfl)
 replace g := g.next b (by rfl)
 replace r := r.next b (by rfl)
 replace hs4 := hs4.next b (by rfl)
 replace BB := bnx BB b
 clear b
 obtain ⟨q0, q1, q2, q3, q4, q5⟩ := g.held
 obtain ⟨f0, f1, f2⟩ := r.open
 obtain ⟨z0, z1, z2⟩ := r.held
 refine bk hK fun hHeld => ?_
 clear hK K
 try simp only [Act.put]
 refine rdy 14 fun K hK => ?_
 go_simp
 refine bk hK fun hHeld => ?_
 clear hK K
 try simp only [Act.put]
 refine wpAnyH_done (by kernel_rfl) ?_ _
 go_wp2
 exact ret3 rfl rfl rfl r BB (by omega) (h5.put3 r _ _ _) fun hN5 HB3 => ⟨_, _, _, rfl, hN5, HB3⟩
theorem together_b_over {A B : Option Addr} (hT : Tab w) (h : Nt w A n c x) (h' : Nt w B m d y) (he : -1048576 ≤ e) (he' : e ≤ 1048576) (hf : -1048576 ≤ f) (hf' : f ≤ 1048576) (hx : x ≠ 0) (hy : y ≠ 0) (hj : e - f = (j : Int)) (hj0 : j ≠ 0) (hlt : x * 2 ^ j < W ^ 64) (hov : W ^ 64 ≤ x * 2 ^ j + y * 2 ^ 0) :
  Calls Tryz.prog 63 #[.agg #[.bool s, .slice A n c, .int .i64 e], .agg #[.bool t, .slice B m d, .int .i64 f]] w (Faults 2 w) := by
 have HX := hyd hx
 have HY := hyd hy
 have HL1 : Hid (x * 2 ^ j < W ^ 64) := hyd (by exact hlt)
 have HL2 : Hid (y * 2 ^ 0 < W ^ 64) := hyd (by rw [Nat.pow_zero, Nat.mul_one]; exact h'.lt)
 have HS := hyd hov
 clear hlt hov
 clear hx hy
 have f0 : (e == f) = false := by simp; omega
 have hmin : min e f = f := by omega
 obtain ⟨BB, r, g⟩ := tri w s t A B n c m d e f
 obtain ⟨p0, p1, p2, p3, p4, p5⟩ := g.held
 have h1 := h.below BB
 have h2 := h'.below BB
 have hT1 := hT.below BB
 obtain ⟨ne1, ne2, ne3, ne4⟩ := nes w.heap.size
 clear h h' hT
 go_enter Tryz.func63, Tryz.ntmps63
 go_wp2_with fail
 refine rgn (fun w' => w'.cell? ⟨w.heap.size, 0, none⟩ = some (.bool s) ∧ w'.cell? ⟨w.heap.size, 1, none⟩ = some (.slice A n c) ∧ w'.cell? ⟨w.heap.size, 2, none⟩ = some (.int .i64 e) ∧ w'.cell? ⟨w.heap.size + 1, 0, none⟩ = some (.bool t) ∧ w'.cell? ⟨w.heap.size + 1, 1, none⟩ = some (.slice B m d) ∧ w'.cell? ⟨w.heap.size + 1, 2, none⟩ = some (.int .i64 f)) fun hHeld => ?_
 refine td 0 ?_
 try simp only [Act.put]
 refine td 1 ?_
 try simp only [Act.put]
 refine td 2 ?_
 try simp only [Act.put]
 refine td 3 ?_
 try simp only [Act.put]
 refine td 5 ?_
 try simp only [Act.put]
 refine td 6 ?_
 try simp only [Act.put]
 refine td 12 ?_
 try simp only [Act.put]
 refine rdy 4 fun K hK => ?_
 go_simp
 refine (over_ok (j := j) (h1.heap (by rfl)) he he' (by omega) (by omega) (by omega) HX.out HL1.out).mono ?_
 rintro en w1 ⟨A2, n2, c2, rfl, h3, b⟩
 replace h2 := h2.next b (by rfl)
 replace hT1 := hT1.next b (by rfl)
 replace g := g.next b (by rfl)
 replace r := r.next b (by rfl)
 replace BB := bnx BB b
 clear b h1
 obtain ⟨q0, q1, q2, q3, q4, q5⟩ := g.held
 refine bk hK fun hHeld => ?_
 clear hK K
 try simp only [Act.put]
 refine rdy 7 fun K hK => ?_
 go_simp
 refine (over_ok (j := 0) (h2.heap (by rfl)) hf hf' (by omega) (by omega) (by omega) HY.out HL2.out).mono ?_
 rintro en w2 ⟨A3, n3, c3, rfl, h4, b⟩
 replace hT1 := hT1.next b (by rfl)
 replace g := g.next b (by rfl)
 replace r := r.next b (by rfl)
 replace h3 := h3.next b (by rfl)
 replace BB := bnx BB b
 clear b h2
 obtain ⟨q0, q1, q2, q3, q4, q5⟩ := g.held
 refine bk hK fun hHeld => ?_
 clear hK K
 try simp only [Act.put]
 refine rdy 8 fun K hK => ?_
 go_simp
 refine (add_over (h3.heap (by rfl)) (h4.heap (by rfl)) HS.out).mono ?_
 rintro en w3 ⟨rfl, b⟩
 replace hT1 := hT1.next b (by rfl)
 replace g := g.next b (by rfl)
 replace r := r.next b (by rfl)
 replace h3 := h3.next b (by rfl)
 replace h4 := h4.next b (by rfl)
 replace BB := bnx BB b
 clear b
 obtain ⟨q0, q1, q2, q3, q4, q5⟩ := g.held
 refine bk hK fun hHeld => ?_
 clear hK K
 try simp only [Act.put]
 refine td 9 ?_
 try simp only [Act.put]
 refine td 10 ?_
 try simp only [Act.put]
 refine rdy 11 fun K hK => ?_
 go_simp
 refine (natural_bad (k := 2) (by decide)).mono ?_
 rintro en w' ⟨rfl, rfl⟩
 exact ⟨rfl, rfl, BB⟩
theorem together_b_big {A B : Option Addr} (hT : Tab w) (h : Nt w A n c x) (h' : Nt w B m d y) (he : -1048576 ≤ e) (he' : e ≤ 1048576) (hf : -1048576 ≤ f) (hf' : f ≤ 1048576) (hx : x ≠ 0) (hy : y ≠ 0) (hj : e - f = (j : Int)) (hj0 : j ≠ 0) (hov : W ^ 64 ≤ x * 2 ^ j) :
  Calls Tryz.prog 63 #[.agg #[.bool s, .slice A n c, .int .i64 e], .agg #[.bool t, .slice B m d, .int .i64 f]] w (Faults 2 w) := by
 have HX := hyd hx
 have HY := hyd hy
 have HS := hyd hov
 clear hov
 clear hx hy
 have f0 : (e == f) = false := by simp; omega
 have hmin : min e f = f := by omega
 obtain ⟨BB, r, g⟩ := tri w s t A B n c m d e f
 obtain ⟨p0, p1, p2, p3, p4, p5⟩ := g.held
 have h1 := h.below BB
 have h2 := h'.below BB
 have hT1 := hT.below BB
 obtain ⟨ne1, ne2, ne3, ne4⟩ := nes w.heap.size
 clear h h' hT
 go_enter Tryz.func63, Tryz.ntmps63
 go_wp2_with fail
 refine rgn (fun w' => w'.cell? ⟨w.heap.size, 0, none⟩ = some (.bool s) ∧ w'.cell? ⟨w.heap.size, 1, none⟩ = some (.slice A n c) ∧ w'.cell? ⟨w.heap.size, 2, none⟩ = some (.int .i64 e) ∧ w'.cell? ⟨w.heap.size + 1, 0, none⟩ = some (.bool t) ∧ w'.cell? ⟨w.heap.size + 1, 1, none⟩ = some (.slice B m d) ∧ w'.cell? ⟨w.heap.size + 1, 2, none⟩ = some (.int .i64 f)) fun hHeld => ?_
 refine td 0 ?_
 try simp only [Act.put]
 refine td 1 ?_
 try simp only [Act.put]
 refine td 2 ?_
 try simp only [Act.put]
 refine td 3 ?_
 try simp only [Act.put]
 refine td 5 ?_
 try simp only [Act.put]
 refine td 6 ?_
 try simp only [Act.put]
 refine td 12 ?_
 try simp only [Act.put]
 refine rdy 4 fun K hK => ?_
 go_simp
 refine (over_big (j := j) (h1.heap (by rfl)) he he' (by omega) (by omega) (by omega) HX.out HS.out).mono ?_
 rintro en w9 ⟨rfl, b⟩
 exact ⟨rfl, rfl, bnx BB b⟩
end Go.Proofs.YtehfdfjpmmpndaaGreatDoor
