/-
  Contracts of dyad.Same, and of the statements' own told of layer 2, at this translation. Condition: the slices read as limbs, the table of math/bits reads as its text lays it.
-/
import Derived.Test.YtkpcmgfpmekkjaaDoorQDyc
namespace Go.Proofs.YtkpcmgfpmekkjaaDoor
open Go.RowKit

theorem over_zero {w : World} {A : Option Addr} {n c : Nat} {s : Bool} (h : Nt w A n c 0) :
    Calls Tryd.prog 51 #[.agg #[.bool s, .slice A n c, .int .i64 0], .int .i64 0] w fun e' w' => ∃ A1 n1 c1, e' = .returned (.slice A1 n1 c1) ∧ Nt w' A1 n1 c1 0 ∧ Below w.heap.size w w' := by
  obtain rfl : n = 0 := h.zero.2 rfl
  have hB := below_alloc w (.cells #[.bool s, .slice A 0 c, .int .i64 0] 28)
  have h1 := h.below hB
  go_enter Tryd.func51, Tryd.ntmps51
  go_wp2_with fail
  refine (shl_nought (s := 0) h1).mono ?_
  rintro en w' ⟨rfl, rfl⟩
  go_wp2_with fail
  refine natural_ok.mono ?_
  rintro e' w' ⟨rfl, rfl⟩
  go_wp2
  go_ret
  exact ⟨_, _, _, rfl, nt_nil _, hB⟩
theorem wrap_sign {p z : Int} (hb : -1 ≤ p ∧ p ≤ 1) (hb' : -1 ≤ z ∧ z ≤ 1) : IntKind.i64.wrap (p * z) = p * z := by
  refine IntWalk.i64_in _ ?_
  obtain ⟨b1, b2⟩ := hb
  obtain ⟨b3, b4⟩ := hb'
  have h3 : p = -1 ∨ p = 0 ∨ p = 1 := by omega
  rcases h3 with rfl | rfl | rfl <;> omega
/-- the order of two values -/
def cmpV (V U : Int) : Int := if V < U then -1 else if V = U then 0 else 1
theorem cmpV_lt {V U : Int} (h : V < U) : cmpV V U = -1 := by unfold cmpV; rw [if_pos h]
theorem cmpV_eq {V U : Int} (h : V = U) : cmpV V U = 0 := by unfold cmpV; rw [if_neg (by omega), if_pos h]
theorem cmpV_gt {V U : Int} (h : U < V) : cmpV V U = 1 := by unfold cmpV; rw [if_neg (by omega), if_neg (by omega)]
theorem vz_lo {K i x : Nat} {s : Bool} {e lo : Int} (he : lo + i = e) (hlo : -(K : Int) ≤ lo) : ∃ P : Nat, 0 < P ∧ P = 2 ^ (lo + K).toNat ∧ vz K s x e = sg s * ((x * 2 ^ i * P : Nat) : Int) :=
  ⟨2 ^ (lo + K).toNat, Nat.pow_pos (by omega), rfl, by rw [← he, vz_up hlo]; rfl⟩
theorem vz_pos {K x : Nat} {s : Bool} {e : Int} (hx : x ≠ 0) : (s = false → 0 < vz K s x e) ∧ (s = true → vz K s x e < 0) := by
  unfold vz
  have hp : 0 < x * 2 ^ (e + K).toNat := Nat.mul_pos (by omega) (Nat.pow_pos (by omega))
  generalize x * 2 ^ (e + K).toNat = y at *
  constructor <;> rintro rfl <;> simp only [sg, Bool.false_eq_true, if_false, if_true] <;> omega
theorem signD_cases (s : Bool) (x : Nat) : (x = 0 ∧ signD s x = 0) ∨ (x ≠ 0 ∧ s = false ∧ signD s x = 1) ∨ (x ≠ 0 ∧ s = true ∧ signD s x = -1) := by
  unfold signD
  by_cases h : x = 0
  · exact .inl ⟨h, if_pos h⟩
  · rw [if_neg h]
    cases s
    · exact .inr (.inl ⟨h, rfl, rfl⟩)
    · exact .inr (.inr ⟨h, rfl, rfl⟩)
/-- of other signs -/
theorem cmp_signs {K x y : Nat} {s t : Bool} {e f : Int} (h : Lib.compareInt (signD s x) (signD t y) ≠ 0) : cmpV (vz K s x e) (vz K t y f) = Lib.compareInt (signD s x) (signD t y) := by
  have zx := @vz_zero K s e
  have zy := @vz_zero K t f
  rcases signD_cases s x with ⟨hx, h1⟩ | ⟨hx, hs, h1⟩ | ⟨hx, hs, h1⟩ <;> rcases signD_cases t y with ⟨hy, h2⟩ | ⟨hy, ht, h2⟩ | ⟨hy, ht, h2⟩ <;> rw [h1, h2] at h ⊢
  · exact absurd rfl h
  · subst hx; rw [zx, cmpV_lt ((vz_pos hy).1 ht)]; rfl
  · subst hx; rw [zx, cmpV_gt ((vz_pos hy).2 ht)]; rfl
  · subst hy; rw [zy, cmpV_gt ((vz_pos hx).1 hs)]; rfl
  · exact absurd rfl h
  · rw [cmpV_gt (by have := (vz_pos (K := K) (e := e) hx).1 hs; have := (vz_pos (K := K) (e := f) hy).2 ht; omega)]; rfl
  · subst hy; rw [zy, cmpV_lt ((vz_pos hx).2 hs)]; rfl
  · rw [cmpV_lt (by have := (vz_pos (K := K) (e := e) hx).2 hs; have := (vz_pos (K := K) (e := f) hy).1 ht; omega)]; rfl
  · exact absurd rfl h
theorem signs_same {s t : Bool} {x y : Nat} (h : Lib.compareInt (signD s x) (signD t y) = 0) : signD s x = signD t y := by
  unfold Lib.compareInt at h
  rcases Int.lt_trichotomy (signD s x) (signD t y) with h1 | h1 | h1
  · rw [if_pos h1] at h; omega
  · exact h1
  · rw [if_neg (by omega), if_pos h1] at h; omega
theorem cmp_sizes {K x y i j : Nat} {s : Bool} {e f lo : Int} (hx : x ≠ 0) (hi : lo + i = e) (hj : lo + j = f) (hlo : -(K : Int) ≤ lo) : cmpV (vz K s x e) (vz K s y f) = signD s x * cmpN (x * 2 ^ i) (y * 2 ^ j) := by
  obtain ⟨P, hP, hP1, h1⟩ := vz_lo (K := K) (x := x) (s := s) hi hlo
  obtain ⟨P', _, hP2, h2⟩ := vz_lo (K := K) (x := y) (s := s) hj hlo
  rw [← hP1] at hP2
  subst hP2
  rw [h1, h2]
  unfold signD
  rw [if_neg hx]
  clear h1 h2 hP1
  generalize x * 2 ^ i = X
  generalize y * 2 ^ j = Y
  rcases Nat.lt_trichotomy X Y with h | h | h
  · have := Nat.mul_lt_mul_of_pos_right h hP
    generalize X * P' = a at *
    generalize Y * P' = b at *
    rw [cmpN_lt h]
    cases s
    · rw [cmpV_lt (by simp only [sg, Bool.false_eq_true, if_false]; omega)]; rfl
    · rw [cmpV_gt (by simp only [sg, if_true]; omega)]; rfl
  · subst h
    rw [cmpN_eq rfl, cmpV_eq rfl, Int.mul_zero]
  · have := Nat.mul_lt_mul_of_pos_right h hP
    generalize X * P' = a at *
    generalize Y * P' = b at *
    rw [cmpN_gt h]
    cases s
    · rw [cmpV_gt (by simp only [sg, Bool.false_eq_true, if_false]; omega)]; rfl
    · rw [cmpV_lt (by simp only [sg, if_true]; omega)]; rfl

set_option maxRecDepth 100000 in
set_option maxHeartbeats 1000000 in
theorem sizes_zero {w : World} {A B : Option Addr} {n c m d : Nat} {s t : Bool} (hT : Tab w) (h : Nt w A n c 0) (h' : Nt w B m d 0) :
    Calls Tryd.prog 27 #[.agg #[.bool s, .slice A n c, .int .i64 0], .agg #[.bool t, .slice B m d, .int .i64 0]] w (Ints 0 w) := by
  have hc : Lib.compareInt (blen 0 : Int) (blen 0 : Int) = 0 := by unfold Lib.compareInt; rw [if_neg (by omega), if_neg (by omega)]
  have HC := Lib.hid hc
  clear hc
  have g := two_new w s t A B n c m d 0 0
  have BB := two_below w (.cells #[.bool s, .slice A n c, .int .i64 0] 28) (.cells #[.bool t, .slice B m d, .int .i64 0] 28)
  obtain ⟨p0, p1, p2, p3, p4, p5⟩ := g.held
  have h1 := h.below BB
  have h2 := h'.below BB
  have hT1 := hT.below BB
  have ne1 : ¬ w.heap.size + 2 = w.heap.size + 1 := by omega
  have ne2 : ¬ w.heap.size + 1 = w.heap.size + 2 := by omega
  have ne3 : ¬ w.heap.size = w.heap.size + 2 := by omega
  have ne4 : ¬ w.heap.size + 2 = w.heap.size := by omega
  clear h h' hT
  go_enter Tryd.func27, Tryd.ntmps27
  go_wp2_with fail
  refine wp_region_held_drew (S := fun w' => w'.cell? ⟨w.heap.size, 0, none⟩ = some (.bool s) ∧ w'.cell? ⟨w.heap.size, 1, none⟩ = some (.slice A n c) ∧ w'.cell? ⟨w.heap.size, 2, none⟩ = some (.int .i64 0) ∧ w'.cell? ⟨w.heap.size + 1, 0, none⟩ = some (.bool t) ∧ w'.cell? ⟨w.heap.size + 1, 1, none⟩ = some (.slice B m d) ∧ w'.cell? ⟨w.heap.size + 1, 2, none⟩ = some (.int .i64 0)) (by kernel_rfl) (by first | (dsimp only; go_keep) | go_keep) (fun hHeld => ?_)
  refine tk 0 7 ?_
  simp only [Act.put]
  refine tk 2 9 ?_
  simp only [Act.put]
  refine wpAnyH_ready (rs := [1]) (by kernel_rfl) (by simp) ?_
  refine AllReadyH.cons (o := _) rfl (fun K hK => ?_) AllReadyH.nil
  go_simp
  refine (top_any (e := 0) (h1.heap (by rfl)) (by decide) (by decide)).mono ?_
  rintro en w1 ⟨rfl, b⟩
  replace h1 := h1.next b (by rfl)
  replace h2 := h2.next b (by rfl)
  replace hT1 := hT1.next b (by rfl)
  replace g := g.next b (by rfl)
  replace BB := below_next BB BB.size b (by rfl) (by rfl) (by rfl) (by rfl)
  clear b
  obtain ⟨q0, q1, q2, q3, q4, q5⟩ := g.held
  refine hK.out _ _ (by first | (dsimp only; go_keep) | go_keep) (fun hHeld => ?_)
  clear hK K
  try simp only [Act.put]
  refine wpAnyH_ready (rs := [3]) (by kernel_rfl) (by simp) ?_
  refine AllReadyH.cons (o := _) rfl (fun K hK => ?_) AllReadyH.nil
  go_simp
  refine (top_any (e := 0) (h2.heap (by rfl)) (by decide) (by decide)).mono ?_
  rintro en w2 ⟨rfl, b⟩
  replace h1 := h1.next b (by rfl)
  replace h2 := h2.next b (by rfl)
  replace hT1 := hT1.next b (by rfl)
  replace g := g.next b (by rfl)
  replace BB := below_next BB BB.size b (by rfl) (by rfl) (by rfl) (by rfl)
  clear b
  obtain ⟨q0, q1, q2, q3, q4, q5⟩ := g.held
  refine hK.out _ _ (by first | (dsimp only; go_keep) | go_keep) (fun hHeld => ?_)
  clear hK K
  try simp only [Act.put]
  refine wpAnyH_ready (rs := [4]) (by kernel_rfl) (by simp) ?_
  refine AllReadyH.cons (o := _) rfl (fun K hK => ?_) AllReadyH.nil
  go_simp
  refine (Tryd.cmp_Compare_int _ _ _).mono ?_
  rintro en w' ⟨rfl, rfl⟩
  rw [HC.out]
  refine hK.out _ _ (by first | (dsimp only; go_keep) | go_keep) (fun hHeld => ?_)
  clear hK K
  try simp only [Act.put]
  refine tk 5 5 ?_
  simp only [Act.put]
  refine wpAnyH_done (by kernel_rfl) ?_ _
  go_wp2_with fail
  refine wp_region_held_drew (S := fun w' => w'.cell? ⟨w.heap.size, 0, none⟩ = some (.bool s) ∧ w'.cell? ⟨w.heap.size, 1, none⟩ = some (.slice A n c) ∧ w'.cell? ⟨w.heap.size, 2, none⟩ = some (.int .i64 0) ∧ w'.cell? ⟨w.heap.size + 1, 0, none⟩ = some (.bool t) ∧ w'.cell? ⟨w.heap.size + 1, 1, none⟩ = some (.slice B m d) ∧ w'.cell? ⟨w.heap.size + 1, 2, none⟩ = some (.int .i64 0)) (by kernel_rfl) (by first | (dsimp only; go_keep) | go_keep) (fun hHeld => ?_)
  refine tk 0 20 ?_
  simp only [Act.put]
  refine tk 1 21 ?_
  simp only [Act.put]
  refine tk 3 23 ?_
  simp only [Act.put]
  refine tk 4 24 ?_
  simp only [Act.put]
  refine wpAnyH_ready (rs := [2]) (by kernel_rfl) (by simp) ?_
  refine AllReadyH.cons (o := _) rfl (fun K hK => ?_) AllReadyH.nil
  go_simp
  refine (over_zero (h1.heap (by rfl))).mono ?_
  rintro en w3 ⟨A2, n2, c2, rfl, h3, b⟩
  replace h2 := h2.next b (by rfl)
  replace hT1 := hT1.next b (by rfl)
  replace g := g.next b (by rfl)
  replace BB := below_next BB BB.size b (by rfl) (by rfl) (by rfl) (by rfl)
  clear b h1
  obtain ⟨q0, q1, q2, q3, q4, q5⟩ := g.held
  refine hK.out _ _ (by first | (dsimp only; go_keep) | go_keep) (fun hHeld => ?_)
  clear hK K
  try simp only [Act.put]
  refine wpAnyH_ready (rs := [5]) (by kernel_rfl) (by simp) ?_
  refine AllReadyH.cons (o := _) rfl (fun K hK => ?_) AllReadyH.nil
  go_simp
  refine (over_zero (h2.heap (by rfl))).mono ?_
  rintro en w4 ⟨A3, n3, c3, rfl, h4, b⟩
  replace hT1 := hT1.next b (by rfl)
  replace g := g.next b (by rfl)
  replace h3 := h3.next b (by rfl)
  replace BB := below_next BB BB.size b (by rfl) (by rfl) (by rfl) (by rfl)
  clear b h2
  obtain ⟨q0, q1, q2, q3, q4, q5⟩ := g.held
  refine hK.out _ _ (by first | (dsimp only; go_keep) | go_keep) (fun hHeld => ?_)
  clear hK K
  try simp only [Act.put]
  refine wpAnyH_ready (rs := [6]) (by kernel_rfl) (by simp) ?_
  refine AllReadyH.cons (o := _) rfl (fun K hK => ?_) AllReadyH.nil
  go_simp
  refine (cmp_nt (h3.heap (by rfl)) (h4.heap (by rfl))).mono ?_
  rintro en w5 ⟨rfl, b⟩
  replace hT1 := hT1.next b (by rfl)
  replace g := g.next b (by rfl)
  replace h3 := h3.next b (by rfl)
  replace h4 := h4.next b (by rfl)
  replace BB := below_next BB BB.size b (by rfl) (by rfl) (by rfl) (by rfl)
  clear b
  obtain ⟨q0, q1, q2, q3, q4, q5⟩ := g.held
  refine hK.out _ _ (by first | (dsimp only; go_keep) | go_keep) (fun hHeld => ?_)
  clear hK K
  try simp only [Act.put]
  refine tk 7 4 ?_
  simp only [Act.put]
  refine wpAnyH_done (by kernel_rfl) ?_ _
  go_wp2
  go_ret
  exact ⟨by simp [cmpN], BB⟩

set_option maxRecDepth 100000 in
set_option maxHeartbeats 2000000 in
theorem cmp_signs_say {w : World} {A B : Option Addr} {n c m d x y : Nat} {s t : Bool} {e f : Int} (hT : Tab w) (h : Nt w A n c x) (h' : Nt w B m d y) (hd : OkD s x e) (hd' : OkD t y f) {p q z : Int} (hp : signD s x = p) (hq : signD t y = q) (hc : Lib.compareInt p q = z) (hz : z ≠ 0) :
    Calls Tryd.prog 10 #[.agg #[.bool s, .slice A n c, .int .i64 e], .agg #[.bool t, .slice B m d, .int .i64 f]] w (Ints z w) := by
  have HD := Lib.hid (mayD_ok hd)
  have HD2 := Lib.hid (mayD_ok hd')
  have HO := Lib.hid hd
  have HO2 := Lib.hid hd'
  clear hd hd'
  have HP := Lib.hid hp
  have HQ := Lib.hid hq
  have HC := Lib.hid hc
  have fz : (z != 0) = true := by simp [hz]
  clear hp hq hc hz
  have g := two_new w s t A B n c m d e f
  have BB := two_below w (.cells #[.bool s, .slice A n c, .int .i64 e] 28) (.cells #[.bool t, .slice B m d, .int .i64 f] 28)
  obtain ⟨p0, p1, p2, p3, p4, p5⟩ := g.held
  have h1 := h.below BB
  have h2 := h'.below BB
  have hT1 := hT.below BB
  have ne1 : ¬ w.heap.size + 2 = w.heap.size + 1 := by omega
  have ne2 : ¬ w.heap.size + 1 = w.heap.size + 2 := by omega
  have ne3 : ¬ w.heap.size = w.heap.size + 2 := by omega
  have ne4 : ¬ w.heap.size + 2 = w.heap.size := by omega
  clear h h' hT
  go_enter Tryd.func10, Tryd.ntmps10
  go_wp2_with fail
  refine (dmay_any (s := s) (e := e) hT1 h1.rd).mono ?_
  rintro en w1 ⟨rfl, b⟩
  replace h1 := h1.next b rfl
  replace h2 := h2.next b rfl
  replace hT1 := hT1.next b rfl
  replace g := g.next b rfl
  replace BB := bnx BB b rfl rfl rfl rfl
  clear b
  obtain ⟨p0, p1, p2, p3, p4, p5⟩ := g.held
  rw [HD.out]
  go_wp2_with fail
  refine (dmay_any (s := t) (e := f) hT1 h2.rd).mono ?_
  rintro en w2 ⟨rfl, b⟩
  replace h1 := h1.next b rfl
  replace h2 := h2.next b rfl
  replace hT1 := hT1.next b rfl
  replace g := g.next b rfl
  replace BB := bnx BB b rfl rfl rfl rfl
  clear b
  obtain ⟨p0, p1, p2, p3, p4, p5⟩ := g.held
  rw [HD2.out]
  go_wp2_with fail
  refine (sign_ok hT1 h1 HO.out).mono ?_
  rintro en w3 ⟨rfl, b⟩
  replace h1 := h1.next b rfl
  replace h2 := h2.next b rfl
  replace hT1 := hT1.next b rfl
  replace g := g.next b rfl
  replace BB := bnx BB b rfl rfl rfl rfl
  clear b
  obtain ⟨p0, p1, p2, p3, p4, p5⟩ := g.held
  rw [HP.out]
  go_wp2_with fail
  refine (sign_ok hT1 h2 HO2.out).mono ?_
  rintro en w4 ⟨rfl, b⟩
  replace h1 := h1.next b rfl
  replace h2 := h2.next b rfl
  replace hT1 := hT1.next b rfl
  replace g := g.next b rfl
  replace BB := bnx BB b rfl rfl rfl rfl
  clear b
  obtain ⟨p0, p1, p2, p3, p4, p5⟩ := g.held
  rw [HQ.out]
  go_wp2_with fail
  refine (Tryd.cmp_Compare_int _ _ _).mono ?_
  rintro en w' ⟨rfl, rfl⟩
  rw [HC.out]
  go_wp2
  go_ret
  exact ⟨rfl, BB⟩

set_option maxRecDepth 100000 in
set_option maxHeartbeats 2000000 in
theorem cmp_sizes_say {w : World} {A B : Option Addr} {n c m d x y : Nat} {s t : Bool} {e f : Int} (hT : Tab w) (h : Nt w A n c x) (h' : Nt w B m d y) (hd : OkD s x e) (hd' : OkD t y f) {p q z : Int} (hp : signD s x = p) (hq : signD t y = q) (hc : Lib.compareInt p q = 0) (hb : -1 ≤ p ∧ p ≤ 1) (hb' : -1 ≤ z ∧ z ≤ 1)
    (hs : ∀ W2 : World, Below w.heap.size w W2 → Calls Tryd.prog 27 #[.agg #[.bool s, .slice A n c, .int .i64 e], .agg #[.bool t, .slice B m d, .int .i64 f]] W2 (Ints z W2)) :
    Calls Tryd.prog 10 #[.agg #[.bool s, .slice A n c, .int .i64 e], .agg #[.bool t, .slice B m d, .int .i64 f]] w (Ints (p * z) w) := by
  have HD := Lib.hid (mayD_ok hd)
  have HD2 := Lib.hid (mayD_ok hd')
  have HO := Lib.hid hd
  have HO2 := Lib.hid hd'
  clear hd hd'
  have HP := Lib.hid hp
  have HQ := Lib.hid hq
  have HC := Lib.hid hc
  have HSZ := Lib.hid hs
  have hw := wrap_sign hb hb'
  clear hp hq hc hs
  have g := two_new w s t A B n c m d e f
  have BB := two_below w (.cells #[.bool s, .slice A n c, .int .i64 e] 28) (.cells #[.bool t, .slice B m d, .int .i64 f] 28)
  obtain ⟨p0, p1, p2, p3, p4, p5⟩ := g.held
  have h1 := h.below BB
  have h2 := h'.below BB
  have hT1 := hT.below BB
  have ne1 : ¬ w.heap.size + 2 = w.heap.size + 1 := by omega
  have ne2 : ¬ w.heap.size + 1 = w.heap.size + 2 := by omega
  have ne3 : ¬ w.heap.size = w.heap.size + 2 := by omega
  have ne4 : ¬ w.heap.size + 2 = w.heap.size := by omega
  clear h h' hT
  go_enter Tryd.func10, Tryd.ntmps10
  go_wp2_with fail
  refine (dmay_any (s := s) (e := e) hT1 h1.rd).mono ?_
  rintro en w1 ⟨rfl, b⟩
  replace h1 := h1.next b rfl
  replace h2 := h2.next b rfl
  replace hT1 := hT1.next b rfl
  replace g := g.next b rfl
  replace BB := bnx BB b rfl rfl rfl rfl
  clear b
  obtain ⟨p0, p1, p2, p3, p4, p5⟩ := g.held
  rw [HD.out]
  go_wp2_with fail
  refine (dmay_any (s := t) (e := f) hT1 h2.rd).mono ?_
  rintro en w2 ⟨rfl, b⟩
  replace h1 := h1.next b rfl
  replace h2 := h2.next b rfl
  replace hT1 := hT1.next b rfl
  replace g := g.next b rfl
  replace BB := bnx BB b rfl rfl rfl rfl
  clear b
  obtain ⟨p0, p1, p2, p3, p4, p5⟩ := g.held
  rw [HD2.out]
  go_wp2_with fail
  refine (sign_ok hT1 h1 HO.out).mono ?_
  rintro en w3 ⟨rfl, b⟩
  replace h1 := h1.next b rfl
  replace h2 := h2.next b rfl
  replace hT1 := hT1.next b rfl
  replace g := g.next b rfl
  replace BB := bnx BB b rfl rfl rfl rfl
  clear b
  obtain ⟨p0, p1, p2, p3, p4, p5⟩ := g.held
  rw [HP.out]
  go_wp2_with fail
  refine (sign_ok hT1 h2 HO2.out).mono ?_
  rintro en w4 ⟨rfl, b⟩
  replace h1 := h1.next b rfl
  replace h2 := h2.next b rfl
  replace hT1 := hT1.next b rfl
  replace g := g.next b rfl
  replace BB := bnx BB b rfl rfl rfl rfl
  clear b
  obtain ⟨p0, p1, p2, p3, p4, p5⟩ := g.held
  rw [HQ.out]
  go_wp2_with fail
  refine (Tryd.cmp_Compare_int _ _ _).mono ?_
  rintro en w' ⟨rfl, rfl⟩
  rw [HC.out]
  go_wp2_with fail
  refine (HSZ.out _ BB).mono ?_
  rintro en w6 ⟨rfl, b⟩
  replace h1 := h1.next b rfl
  replace h2 := h2.next b rfl
  replace hT1 := hT1.next b rfl
  replace g := g.next b rfl
  replace BB := bnx BB b rfl rfl rfl rfl
  clear b
  obtain ⟨p0, p1, p2, p3, p4, p5⟩ := g.held
  go_wp2
  go_ret
  exact ⟨by simp, BB⟩

theorem dcmp_ok {w : World} {A B : Option Addr} {n c m d x y K : Nat} {s t : Bool} {e f : Int} (hK : 4194304 ≤ K) (hT : Tab w) (h : Nt w A n c x) (h' : Nt w B m d y) (hd : OkD s x e) (hd' : OkD t y f) :
    Calls Tryd.prog 10 #[.agg #[.bool s, .slice A n c, .int .i64 e], .agg #[.bool t, .slice B m d, .int .i64 f]] w (Ints (cmpV (vz K s x e) (vz K t y f)) w) := by
  have r1 := okd_ge hK hd
  have r2 := okd_ge hK hd'
  by_cases hc : Lib.compareInt (signD s x) (signD t y) = 0
  · have hsg := signs_same hc
    by_cases hx : x = 0
    · have hy : y = 0 := by
        rcases signD_cases t y with ⟨hy, _⟩ | ⟨hy, _, h2⟩ | ⟨hy, _, h2⟩
        · exact hy
        · rw [h2] at hsg; unfold signD at hsg; rw [if_pos hx] at hsg; omega
        · rw [h2] at hsg; unfold signD at hsg; rw [if_pos hx] at hsg; omega
      subst hx hy
      obtain ⟨rfl, rfl⟩ : s = false ∧ e = 0 := by rcases hd with ⟨_, h1, h2⟩ | ⟨h1, _⟩ <;> first | exact ⟨h1, h2⟩ | omega
      obtain ⟨rfl, rfl⟩ : t = false ∧ f = 0 := by rcases hd' with ⟨_, h1, h2⟩ | ⟨h1, _⟩ <;> first | exact ⟨h1, h2⟩ | omega
      have := cmp_sizes_say hT h h' hd hd' rfl rfl hc (by decide) (by decide) (fun W2 b => sizes_zero (hT.below b) (h.below b) (h'.below b))
      rw [cmpV_eq rfl]
      exact this
    · have hst : s = t ∧ y ≠ 0 := by
        rcases signD_cases s x with ⟨h1, h2⟩ | ⟨_, h1, h2⟩ | ⟨_, h1, h2⟩ <;> rcases signD_cases t y with ⟨h3, h4⟩ | ⟨h5, h3, h4⟩ | ⟨h5, h3, h4⟩ <;> rw [h2, h4] at hsg <;> first | exact absurd h1 hx | (exfalso; omega) | exact ⟨h1.trans h3.symm, h5⟩
      obtain ⟨rfl, hy⟩ := hst
      obtain ⟨lo, hlo⟩ : ∃ lo, min e f = lo := ⟨_, rfl⟩
      obtain ⟨i, hi⟩ := Int.eq_ofNat_of_zero_le (show 0 ≤ e - lo by omega)
      obtain ⟨j, hj⟩ := Int.eq_ofNat_of_zero_le (show 0 ≤ f - lo by omega)
      obtain ⟨_, z1, z2, _⟩ := cmp_swap (x * 2 ^ i) (y * 2 ^ j)
      rw [cmp_sizes (K := K) (i := i) (j := j) (lo := lo) hx (by omega) (by omega) (by omega)]
      exact cmp_sizes_say hT h h' hd hd' rfl rfl hc (by rcases signD_cases s x with ⟨_, h2⟩ | ⟨_, _, h2⟩ | ⟨_, _, h2⟩ <;> rw [h2] <;> omega) ⟨z1, z2⟩
        (fun W2 b => sizes_any (hT.below b) (h.below b) (h'.below b) hx hy r1.1 r1.2.1 r2.1 r2.2.1 hlo hi hj)
  · rw [cmp_signs hc]
    exact cmp_signs_say hT h h' hd hd' rfl rfl rfl hc
end Go.Proofs.YtkpcmgfpmekkjaaDoor

namespace Go.Proofs.YtkpcmgfpmekkjaaDoor
open Go.RowKit

set_option maxRecDepth 100000 in
set_option maxHeartbeats 1000000 in
theorem dsame_eq {w : World} {A B : Option Addr} {n c m d : Nat} {l r : List Nat} {s : Bool} {e : Int} (h : Rd w .u64 W A n c l) (h' : Rd w .u64 W B m d r) :
    Calls Tryd.prog 19 #[.agg #[.bool s, .slice A n c, .int .i64 e], .agg #[.bool s, .slice B m d, .int .i64 e]] w fun en w' => en = .returned (.bool (decide (l = r))) ∧ Below w.heap.size w w' := by
  have BB := two_below w (.cells #[.bool s, .slice A n c, .int .i64 e] 28) (.cells #[.bool s, .slice B m d, .int .i64 e] 28)
  have h1 := h.below BB
  have h2 := h'.below BB
  have fs : (s == s) = true := by simp
  have fe : (e == e) = true := by simp
  go_enter Tryd.func19, Tryd.ntmps19
  go_wp2_with fail
  refine (equal_any h1 h2).mono ?_
  rintro en w2 ⟨rfl, b⟩
  replace BB := bnx BB b rfl rfl rfl rfl
  clear b h1 h2 h h'
  go_wp2
  go_ret
  exact ⟨rfl, BB⟩
theorem dsame_no {w : World} {A B : Option Addr} {n c m d : Nat} {s t : Bool} {e f : Int} (hne : s ≠ t ∨ e ≠ f) :
    Calls Tryd.prog 19 #[.agg #[.bool s, .slice A n c, .int .i64 e], .agg #[.bool t, .slice B m d, .int .i64 f]] w fun en w' => en = .returned (.bool false) ∧ Below w.heap.size w w' := by
  have BB := two_below w (.cells #[.bool s, .slice A n c, .int .i64 e] 28) (.cells #[.bool t, .slice B m d, .int .i64 f] 28)
  by_cases hst : s = t
  · subst hst
    have fs : (s == s) = true := by simp
    have fe : (e == f) = false := by have := hne.resolve_left (by simp); simp [this]
    clear hne
    go_enter Tryd.func19, Tryd.ntmps19
    go_wp2
    go_ret
    exact ⟨rfl, BB⟩
  · have fs : (s == t) = false := by simp [hst]
    clear hne
    go_enter Tryd.func19, Tryd.ntmps19
    go_wp2
    go_ret
    exact ⟨rfl, BB⟩

/-- what a function of the face tells, known whole -/
def ToldIs (s : Bool) (m : Nat) (e k : Int) (w : World) (en : Ending) (w' : World) : Prop := ∃ A1 n1 c1, en = .returned (.tuple #[.agg #[.bool s, .slice A1 n1 c1, .int .i64 e], .int .i64 k]) ∧ Nt w' A1 n1 c1 m ∧ Below w.heap.size w w'
theorem told_is {P : Int → Bool → Nat → Int → Prop} {w w' : World} {en : Ending} {s : Bool} {m : Nat} {e k : Int} (h : Tells P w en w') (hP : ∀ k1 s1 m1 e1, P k1 s1 m1 e1 → k1 = k ∧ s1 = s ∧ m1 = m ∧ e1 = e) : ToldIs s m e k w en w' := by
  obtain ⟨k1, s1, A, n, c, m1, e1, h1, h2, h3, h4⟩ := h
  obtain ⟨rfl, rfl, rfl, rfl⟩ := hP _ _ _ _ h2
  exact ⟨A, n, c, h1, h3, h4⟩
theorem small64 {m : Nat} (h : m < 100) : m < W ^ 64 := Nat.lt_of_lt_of_le (small_W h) (Nat.le_self_pow (by omega) W)
theorem scale_has : ∃ K : Nat, 4194304 ≤ K := ⟨_, Nat.le_refl _⟩
end Go.Proofs.YtkpcmgfpmekkjaaDoor
