/-
 Contracts of the reference's AddDyad and SubDyad, at this translation. Condition: the slices read as limbs.
-/
import Derived.Test.YtdklnpaocaebkaaGreatDoorRc
set_option maxHeartbeats 8000000
set_option maxRecDepth 100000
namespace Go.Proofs.YtdklnpaocaebkaaGreatDoor
open Go.RowKit

theorem add_fits {P Q k m : Nat} (hP : blen P ≤ k) (hQ : blen Q ≤ k) (hk : k + 1 ≤ 16 * m) : blen (P + Q) ≤ k + 1 ∧ P + Q < Go.Proofs.YtdklnpaocaebkaaGreatDoor.H ^ m ∧ P < Go.Proofs.YtdklnpaocaebkaaGreatDoor.H ^ m ∧ Q < Go.Proofs.YtdklnpaocaebkaaGreatDoor.H ^ m := by
 have h1 := (blen_le P k).1 hP
 have h2 := (blen_le Q k).1 hQ
 have h3 : 2 ^ (k + 1) = 2 ^ k + 2 ^ k := by rw [Nat.pow_succ]; omega
 have h4 : 2 ^ (k + 1) ≤ Go.Proofs.YtdklnpaocaebkaaGreatDoor.H ^ m := by
  rw [H_pow, ← Nat.pow_mul]
  exact Nat.pow_le_pow_right (by omega) hk
 exact ⟨(blen_le _ _).2 (by omega), by omega, by omega, by omega⟩
theorem sub_blen {P Q k : Nat} (h : blen P ≤ k) : blen (P - Q) ≤ k := (blen_le _ _).2 (Nat.lt_of_le_of_lt (Nat.sub_le _ _) ((blen_le P k).1 h))
section
variable {w : World} {g g' k i n c x n0 c0 : Nat} {A A0 : Option Addr} {s s0 : Bool} {e e0 : Int} {v u0 u1 u2 : Value}
theorem cell_other (h : w.cell? ⟨k, i, none⟩ = some v) (hne : k ≠ g) (j : Nat) (u : Value) : (w.setCell ⟨g, j, none⟩ u).cell? ⟨k, i, none⟩ = some v := by
 have e := Below.heap_setCell w ⟨g, j, none⟩ u k hne
 unfold World.cell? at h ⊢
 simpa [e] using h
theorem cell_put3 (h : w.cell? ⟨k, i, none⟩ = some v) (hne : k ≠ g) : (((w.setCell ⟨g, 0, none⟩ u0).setCell ⟨g, 1, none⟩ u1).setCell ⟨g, 2, none⟩ u2).cell? ⟨k, i, none⟩ = some v := cell_other (cell_other (cell_other h hne 0 u0) hne 1 u1) hne 2 u2
theorem Dbx.other (h : Dbx w g' s A n c e) (hne : g' ≠ g) (j : Nat) (u : Value) : Dbx (w.setCell ⟨g, j, none⟩ u) g' s A n c e := ⟨(Below.heap_setCell w _ u g' hne).trans h.blk⟩
theorem Dbx.put3 (h : Dbx w g' s A n c e) (hne : g' ≠ g) (u0 u1 u2 : Value) : Dbx (((w.setCell ⟨g, 0, none⟩ u0).setCell ⟨g, 1, none⟩ u1).setCell ⟨g, 2, none⟩ u2) g' s A n c e := ((h.other hne 0 u0).other hne 1 u1).other hne 2 u2
theorem Box.put3 (h : Box w g' s A n c e) (hne : g' ≠ g) (u0 u1 u2 : Value) : Box (((w.setCell ⟨g, 0, none⟩ u0).setCell ⟨g, 1, none⟩ u1).setCell ⟨g, 2, none⟩ u2) g' s A n c e := ((h.other hne 0 u0).other hne 1 u1).other hne 2 u2
theorem Nt.off3 (h : Nt w A n c x) (hb : Dbx w g s0 A0 n0 c0 e0) (u0 u1 u2 : Value) : Nt (((w.setCell ⟨g, 0, none⟩ u0).setCell ⟨g, 1, none⟩ u1).setCell ⟨g, 2, none⟩ u2) A n c x := by
 have hne := h.rd.off (g := g) (fun i x => by
  rw [hb.at i]
  match i with
  | 0 => simp
  | 1 => simp
  | 2 => simp
  | i + 3 => simp)
 exact ⟨((h.rd.set1 hne 0 u0).set1 hne 1 u1).set1 hne 2 u2, h.lt⟩
theorem put_all {k1 k2 k3 : Nat} {v0 v1 v2 y0 y1 y2 : Value} (a0 : w.cell? ⟨k1, 0, none⟩ = some v0) (a1 : w.cell? ⟨k1, 1, none⟩ = some v1) (a2 : w.cell? ⟨k1, 2, none⟩ = some v2) (b0 : w.cell? ⟨k2, 0, none⟩ = some y0) (b1 : w.cell? ⟨k2, 1, none⟩ = some y1) (b2 : w.cell? ⟨k2, 2, none⟩ = some y2) (r : Box w k3 s A n c e) (d1 : k1 ≠ g) (d2 : k2 ≠ g) (d3 : k3 ≠ g) :
  (((w.setCell ⟨g, 0, none⟩ u0).setCell ⟨g, 1, none⟩ u1).setCell ⟨g, 2, none⟩ u2).cell? ⟨k1, 0, none⟩ = some v0 ∧ (((w.setCell ⟨g, 0, none⟩ u0).setCell ⟨g, 1, none⟩ u1).setCell ⟨g, 2, none⟩ u2).cell? ⟨k1, 1, none⟩ = some v1 ∧ (((w.setCell ⟨g, 0, none⟩ u0).setCell ⟨g, 1, none⟩ u1).setCell ⟨g, 2, none⟩ u2).cell? ⟨k1, 2, none⟩ = some v2 ∧
  (((w.setCell ⟨g, 0, none⟩ u0).setCell ⟨g, 1, none⟩ u1).setCell ⟨g, 2, none⟩ u2).cell? ⟨k2, 0, none⟩ = some y0 ∧ (((w.setCell ⟨g, 0, none⟩ u0).setCell ⟨g, 1, none⟩ u1).setCell ⟨g, 2, none⟩ u2).cell? ⟨k2, 1, none⟩ = some y1 ∧ (((w.setCell ⟨g, 0, none⟩ u0).setCell ⟨g, 1, none⟩ u1).setCell ⟨g, 2, none⟩ u2).cell? ⟨k2, 2, none⟩ = some y2 ∧
  Box (((w.setCell ⟨g, 0, none⟩ u0).setCell ⟨g, 1, none⟩ u1).setCell ⟨g, 2, none⟩ u2) k3 s A n c e := ⟨cell_put3 a0 d1, cell_put3 a1 d1, cell_put3 a2 d1, cell_put3 b0 d2, cell_put3 b1 d2, cell_put3 b2 d2, r.put3 d3 u0 u1 u2⟩
end

theorem raddd_z1 {w : World} {A1 : Option Addr} {n1 c1 x1 : Nat} {s1 : Bool} {e1 : Int} {A2 : Option Addr} {n2 c2 x2 : Nat} {s2 : Bool} {e2 : Int} (h1 : Nt w A1 n1 c1 x1) (d1 : OkD s1 x1 e1) (h2 : Nt w A2 n2 c2 x2) (d2 : OkD s2 x2 e2) {P : Int → Bool → Nat → Int → Prop} (hx : x1 = 0) (hP : P 0 s2 x2 e2) :
  Calls Tryz.prog 30 #[.agg #[.bool s1, .slice A1 n1 c1, .int .i64 e1], .agg #[.bool s2, .slice A2 n2 c2, .int .i64 e2]] w (Tells P w) := by
 have M1 := Lib.hid (mayD_ok d1)
 have M2 := Lib.hid (mayD_ok d2)
 have n1l := h1.le
 have n2l := h2.le
 have bx := blen_nt h1
 have by_ := blen_nt h2
 have g1 := okd_ge (K := 4194304) (Nat.le_refl _) d1
 have g2 := okd_ge (K := 4194304) (Nat.le_refl _) d2
 have r1 := g1.1
 have r2 := g1.2.1
 have r3 := g2.1
 have r4 := g2.2.1
 have O1 := Lib.hid d1
 have O2 := Lib.hid d2
 clear g1 g2 d1 d2
 obtain ⟨BB, xa, xb, r⟩ := three_dbl w (s1 := s1) (A1 := A1) (n1 := n1) (c1 := c1) (e1 := e1) (s2 := s2) (A2 := A2) (n2 := n2) (c2 := c2) (e2 := e2)
 obtain ⟨a10, a11, a12⟩ := xa.held
 obtain ⟨a20, a21, a22⟩ := xb.held
 clear xa xb
 have ne1 : ¬ w.heap.size + 2 = w.heap.size := by omega
 have ne2 : ¬ w.heap.size = w.heap.size + 2 := by omega
 have ne3 : ¬ w.heap.size + 2 = w.heap.size + 1 := by omega
 have ne4 : ¬ w.heap.size + 1 = w.heap.size + 2 := by omega
 have G := mv BB rfl <| And.intro h1 <| h2
 clear h1 h2
 obtain ⟨h1, h2⟩ := G
 have HS : Hid (signD s1 x1 = 0) := Lib.hid (by unfold signD; rw [if_pos hx])
 clear hx O2
 go_enter Tryz.func30, Tryz.ntmps30
 go_wp2_with fail
 refine (rmayd_any (s := s1) (e := e1) h1.rd).mono ?_
 rintro en w1 ⟨rfl, b⟩
 rw [M1.out]
 replace BB := bnx BB b
 have G := mv b rfl (J9 a10 a11 a12 a20 a21 a22 h1 h2 r)
 clear b a10 a11 a12 a20 a21 a22 h1 h2 r
 obtain ⟨a10, a11, a12, a20, a21, a22, h1, h2, r⟩ := G
 go_wp2_with fail
 refine (rmayd_any (s := s2) (e := e2) h2.rd).mono ?_
 rintro en w2 ⟨rfl, b⟩
 rw [M2.out]
 replace BB := bnx BB b
 have G := mv b rfl (J9 a10 a11 a12 a20 a21 a22 h1 h2 r)
 clear b a10 a11 a12 a20 a21 a22 h1 h2 r
 obtain ⟨a10, a11, a12, a20, a21, a22, h1, h2, r⟩ := G
 go_wp2_with fail
 refine (rsign_ok h1 O1.out).mono ?_
 rintro en w3 ⟨rfl, b⟩
 rw [HS.out]
 replace BB := bnx BB b
 have G := mv b rfl (J9 a10 a11 a12 a20 a21 a22 h1 h2 r)
 clear b a10 a11 a12 a20 a21 a22 h1 h2 r
 obtain ⟨a10, a11, a12, a20, a21, a22, h1, h2, r⟩ := G
 obtain ⟨f0, f1, f2⟩ := r.open
 obtain ⟨z0, z1, z2⟩ := r.held
 go_wp2
 have qq := r.put s2 A2 n2 c2 e2
 have hN := h2.put3 r (.bool s2) (.slice A2 n2 c2) (.int .i64 e2)
 have HB3 := below_put3 (g := w.heap.size + 2) BB (by omega) (.bool s2) (.slice A2 n2 c2) (.int .i64 e2)
 obtain ⟨z0, z1, z2⟩ := qq.held
 exact bodyPost_ret (v := .tuple #[.agg #[.bool s2, .slice A2 n2 c2, .int .i64 e2], .int .i64 0]) (by simp [results, Tryz.results30, go_sem, z0, z1, z2]) rfl ⟨_, _, _, _, _, _, _, rfl, hP, hN, HB3⟩

theorem raddd_z2 {w : World} {A1 : Option Addr} {n1 c1 x1 : Nat} {s1 : Bool} {e1 : Int} {A2 : Option Addr} {n2 c2 x2 : Nat} {s2 : Bool} {e2 : Int} (h1 : Nt w A1 n1 c1 x1) (d1 : OkD s1 x1 e1) (h2 : Nt w A2 n2 c2 x2) (d2 : OkD s2 x2 e2) {P : Int → Bool → Nat → Int → Prop} (hx : x1 ≠ 0) (hy : x2 = 0) (hP : P 0 s1 x1 e1) :
  Calls Tryz.prog 30 #[.agg #[.bool s1, .slice A1 n1 c1, .int .i64 e1], .agg #[.bool s2, .slice A2 n2 c2, .int .i64 e2]] w (Tells P w) := by
 have M1 := Lib.hid (mayD_ok d1)
 have M2 := Lib.hid (mayD_ok d2)
 have n1l := h1.le
 have n2l := h2.le
 have bx := blen_nt h1
 have by_ := blen_nt h2
 have g1 := okd_ge (K := 4194304) (Nat.le_refl _) d1
 have g2 := okd_ge (K := 4194304) (Nat.le_refl _) d2
 have r1 := g1.1
 have r2 := g1.2.1
 have r3 := g2.1
 have r4 := g2.2.1
 have O1 := Lib.hid d1
 have O2 := Lib.hid d2
 clear g1 g2 d1 d2
 obtain ⟨BB, xa, xb, r⟩ := three_dbl w (s1 := s1) (A1 := A1) (n1 := n1) (c1 := c1) (e1 := e1) (s2 := s2) (A2 := A2) (n2 := n2) (c2 := c2) (e2 := e2)
 obtain ⟨a10, a11, a12⟩ := xa.held
 obtain ⟨a20, a21, a22⟩ := xb.held
 clear xa xb
 have ne1 : ¬ w.heap.size + 2 = w.heap.size := by omega
 have ne2 : ¬ w.heap.size = w.heap.size + 2 := by omega
 have ne3 : ¬ w.heap.size + 2 = w.heap.size + 1 := by omega
 have ne4 : ¬ w.heap.size + 1 = w.heap.size + 2 := by omega
 have G := mv BB rfl <| And.intro h1 <| h2
 clear h1 h2
 obtain ⟨h1, h2⟩ := G
 have HS1 : Hid (signD s1 x1 ≠ 0) := Lib.hid (by rcases signD_cases s1 x1 with ⟨h, _⟩ | ⟨_, _, h2⟩ | ⟨_, _, h2⟩ <;> first | exact absurd h hx | (rw [h2]; omega))
 have HS2 : Hid (signD s2 x2 = 0) := Lib.hid (by unfold signD; rw [if_pos hy])
 obtain ⟨z9, hz9⟩ : ∃ z, signD s1 x1 = z := ⟨_, rfl⟩
 have q9 : (z9 == 0) = false := by have := HS1.out; rw [hz9] at this; simp [this]
 have Z9 := Lib.hid hz9
 clear hz9 HS1
 clear hx hy
 go_enter Tryz.func30, Tryz.ntmps30
 go_wp2_with fail
 refine (rmayd_any (s := s1) (e := e1) h1.rd).mono ?_
 rintro en w1 ⟨rfl, b⟩
 rw [M1.out]
 replace BB := bnx BB b
 have G := mv b rfl (J9 a10 a11 a12 a20 a21 a22 h1 h2 r)
 clear b a10 a11 a12 a20 a21 a22 h1 h2 r
 obtain ⟨a10, a11, a12, a20, a21, a22, h1, h2, r⟩ := G
 go_wp2_with fail
 refine (rmayd_any (s := s2) (e := e2) h2.rd).mono ?_
 rintro en w2 ⟨rfl, b⟩
 rw [M2.out]
 replace BB := bnx BB b
 have G := mv b rfl (J9 a10 a11 a12 a20 a21 a22 h1 h2 r)
 clear b a10 a11 a12 a20 a21 a22 h1 h2 r
 obtain ⟨a10, a11, a12, a20, a21, a22, h1, h2, r⟩ := G
 go_wp2_with fail
 refine (rsign_ok h1 O1.out).mono ?_
 rintro en w3 ⟨rfl, b⟩
 rw [Z9.out]
 replace BB := bnx BB b
 have G := mv b rfl (J9 a10 a11 a12 a20 a21 a22 h1 h2 r)
 clear b a10 a11 a12 a20 a21 a22 h1 h2 r
 obtain ⟨a10, a11, a12, a20, a21, a22, h1, h2, r⟩ := G
 go_wp2_with fail
 refine (rsign_ok h2 O2.out).mono ?_
 rintro en w4 ⟨rfl, b⟩
 rw [HS2.out]
 replace BB := bnx BB b
 have G := mv b rfl (J9 a10 a11 a12 a20 a21 a22 h1 h2 r)
 clear b a10 a11 a12 a20 a21 a22 h1 h2 r
 obtain ⟨a10, a11, a12, a20, a21, a22, h1, h2, r⟩ := G
 obtain ⟨f0, f1, f2⟩ := r.open
 obtain ⟨z0, z1, z2⟩ := r.held
 go_wp2
 have qq := r.put s1 A1 n1 c1 e1
 have hN := h1.put3 r (.bool s1) (.slice A1 n1 c1) (.int .i64 e1)
 have HB3 := below_put3 (g := w.heap.size + 2) BB (by omega) (.bool s1) (.slice A1 n1 c1) (.int .i64 e1)
 obtain ⟨z0, z1, z2⟩ := qq.held
 exact bodyPost_ret (v := .tuple #[.agg #[.bool s1, .slice A1 n1 c1, .int .i64 e1], .int .i64 0]) (by simp [results, Tryz.results30, go_sem, z0, z1, z2]) rfl ⟨_, _, _, _, _, _, _, rfl, hP, hN, HB3⟩

theorem raddd_some {w : World} {A1 : Option Addr} {n1 c1 x1 : Nat} {s1 : Bool} {e1 : Int} {A2 : Option Addr} {n2 c2 x2 : Nat} {s2 : Bool} {e2 : Int} (h1 : Nt w A1 n1 c1 x1) (d1 : OkD s1 x1 e1) (h2 : Nt w A2 n2 c2 x2) (d2 : OkD s2 x2 e2) {P : Int → Bool → Nat → Int → Prop} {i j : Nat} {lo : Int} (hx : x1 ≠ 0) (hy : x2 ≠ 0) (hlo : min e1 e2 = lo) (hi : e1 - lo = (i : Int)) (hj : e2 - lo = (j : Int)) (hfar : 4166 < blen x1 + i ∨ 4166 < blen x2 + j → P 2 false 0 0) (hsame : s1 = s2 → ∀ k s' m' e', Nm s1 (x1 * 2 ^ i + x2 * 2 ^ j) lo k s' m' e' → P k s' m' e') (hmore : s1 ≠ s2 → x2 * 2 ^ j ≤ x1 * 2 ^ i → ∀ k s' m' e', Nm s1 (x1 * 2 ^ i - x2 * 2 ^ j) lo k s' m' e' → P k s' m' e') (hless : s1 ≠ s2 → x1 * 2 ^ i < x2 * 2 ^ j → ∀ k s' m' e', Nm s2 (x2 * 2 ^ j - x1 * 2 ^ i) lo k s' m' e' → P k s' m' e') :
  Calls Tryz.prog 30 #[.agg #[.bool s1, .slice A1 n1 c1, .int .i64 e1], .agg #[.bool s2, .slice A2 n2 c2, .int .i64 e2]] w (Tells P w) := by
 have M1 := Lib.hid (mayD_ok d1)
 have M2 := Lib.hid (mayD_ok d2)
 have n1l := h1.le
 have n2l := h2.le
 have bx := blen_nt h1
 have by_ := blen_nt h2
 have g1 := okd_ge (K := 4194304) (Nat.le_refl _) d1
 have g2 := okd_ge (K := 4194304) (Nat.le_refl _) d2
 have r1 := g1.1
 have r2 := g1.2.1
 have r3 := g2.1
 have r4 := g2.2.1
 have O1 := Lib.hid d1
 have O2 := Lib.hid d2
 clear g1 g2 d1 d2
 obtain ⟨BB, xa, xb, r⟩ := three_dbl w (s1 := s1) (A1 := A1) (n1 := n1) (c1 := c1) (e1 := e1) (s2 := s2) (A2 := A2) (n2 := n2) (c2 := c2) (e2 := e2)
 obtain ⟨a10, a11, a12⟩ := xa.held
 obtain ⟨a20, a21, a22⟩ := xb.held
 clear xa xb
 have ne1 : ¬ w.heap.size + 2 = w.heap.size := by omega
 have ne2 : ¬ w.heap.size = w.heap.size + 2 := by omega
 have ne3 : ¬ w.heap.size + 2 = w.heap.size + 1 := by omega
 have ne4 : ¬ w.heap.size + 1 = w.heap.size + 2 := by omega
 have G := mv BB rfl <| And.intro h1 <| h2
 clear h1 h2
 obtain ⟨h1, h2⟩ := G
 have HS1 : Hid (signD s1 x1 ≠ 0) := Lib.hid (by rcases signD_cases s1 x1 with ⟨h, _⟩ | ⟨_, _, h2⟩ | ⟨_, _, h2⟩ <;> first | exact absurd h hx | (rw [h2]; omega))
 have HS2 : Hid (signD s2 x2 ≠ 0) := Lib.hid (by rcases signD_cases s2 x2 with ⟨h, _⟩ | ⟨_, _, h2⟩ | ⟨_, _, h2⟩ <;> first | exact absurd h hy | (rw [h2]; omega))
 obtain ⟨z9, hz9⟩ : ∃ z, signD s1 x1 = z := ⟨_, rfl⟩
 have q9 : (z9 == 0) = false := by have := HS1.out; rw [hz9] at this; simp [this]
 have Z9 := Lib.hid hz9
 clear hz9 HS1
 obtain ⟨z8, hz8⟩ : ∃ z, signD s2 x2 = z := ⟨_, rfl⟩
 have q8 : (z8 == 0) = false := by have := HS2.out; rw [hz8] at this; simp [this]
 have Z8 := Lib.hid hz8
 have hbx := blen_shift (k := i) hx
 have hby := blen_shift (k := j) hy
 have HFAR := Lib.hid hfar
 have HSAME := Lib.hid hsame
 have HMORE := Lib.hid hmore
 have HLESS := Lib.hid hless
 have HLO := Lib.hid hlo
 have HI := Lib.hid hi
 have HJ := Lib.hid hj
 have HBL := Lib.hid (And.intro hbx hby)
 clear hz8 HS2 hx hy hlo hi hj hfar hsame hmore hless hbx hby
 go_enter Tryz.func30, Tryz.ntmps30
 go_wp2_with fail
 refine (rmayd_any (s := s1) (e := e1) h1.rd).mono ?_
 rintro en w1 ⟨rfl, b⟩
 rw [M1.out]
 replace BB := bnx BB b
 have G := mv b rfl (J9 a10 a11 a12 a20 a21 a22 h1 h2 r)
 clear b a10 a11 a12 a20 a21 a22 h1 h2 r
 obtain ⟨a10, a11, a12, a20, a21, a22, h1, h2, r⟩ := G
 go_wp2_with fail
 refine (rmayd_any (s := s2) (e := e2) h2.rd).mono ?_
 rintro en w2 ⟨rfl, b⟩
 rw [M2.out]
 replace BB := bnx BB b
 have G := mv b rfl (J9 a10 a11 a12 a20 a21 a22 h1 h2 r)
 clear b a10 a11 a12 a20 a21 a22 h1 h2 r
 obtain ⟨a10, a11, a12, a20, a21, a22, h1, h2, r⟩ := G
 go_wp2_with fail
 refine (rsign_ok h1 O1.out).mono ?_
 rintro en w3 ⟨rfl, b⟩
 rw [Z9.out]
 replace BB := bnx BB b
 have G := mv b rfl (J9 a10 a11 a12 a20 a21 a22 h1 h2 r)
 clear b a10 a11 a12 a20 a21 a22 h1 h2 r
 obtain ⟨a10, a11, a12, a20, a21, a22, h1, h2, r⟩ := G
 go_wp2_with fail
 refine (rsign_ok h2 O2.out).mono ?_
 rintro en w9 ⟨rfl, b⟩
 rw [Z8.out]
 replace BB := bnx BB b
 have G := mv b rfl (J9 a10 a11 a12 a20 a21 a22 h1 h2 r)
 clear b a10 a11 a12 a20 a21 a22 h1 h2 r
 obtain ⟨a10, a11, a12, a20, a21, a22, h1, h2, r⟩ := G
 go_upto_region 7 with fail
 go_cut [6, 7] (fun v6 v7 wc => ∃ (g6 g7 : Nat) (A3 : Option Addr) (n3 c3 : Nat) (A4 : Option Addr) (n4 c4 : Nat), v6 = .pointer (some ⟨g6, 0, none⟩) ∧ v7 = .pointer (some ⟨g7, 0, none⟩) ∧ w.heap.size + 2 < g6 ∧ w.heap.size + 2 < g7 ∧ Dbx wc g6 s1 A3 n3 c3 e1 ∧ Dbx wc g7 s2 A4 n4 c4 e2 ∧ Dg wc A3 n3 c3 x1 ∧ Dg wc A4 n4 c4 x2 ∧ n3 ≤ 256 ∧ n4 ≤ 256 ∧ Box wc (w.heap.size + 2) false none 0 0 0 ∧ Below w.heap.size w wc)
 case first =>
  replace h1 := Nt.heap (w2 := World.drew w9) h1 rfl
  replace h2 := Nt.heap (w2 := World.drew w9) h2 rfl
  replace r : Box (World.drew w9) (w.heap.size + 2) false none 0 0 0 := ⟨r.blk⟩
  have BD : Below w.heap.size w (World.drew w9) := below_drewN BB 1
  clear BB
  refine rgn (fun w' => w'.cell? ⟨w.heap.size, 0, none⟩ = some (.bool s1) ∧ w'.cell? ⟨w.heap.size, 1, none⟩ = some (.slice A1 n1 c1) ∧ w'.cell? ⟨w.heap.size, 2, none⟩ = some (.int .i64 e1) ∧ w'.cell? ⟨(w.heap.size + 1), 0, none⟩ = some (.bool s2) ∧ w'.cell? ⟨(w.heap.size + 1), 1, none⟩ = some (.slice A2 n2 c2) ∧ w'.cell? ⟨(w.heap.size + 1), 2, none⟩ = some (.int .i64 e2)) fun hHeld0 => ?_
  clear a10 a11 a12 a20 a21 a22
  obtain ⟨a10, a11, a12, a20, a21, a22⟩ := id hHeld0
  generalize World.drew w9 = u at *
  have BB := BD
  have hHeld := hHeld0
  clear BD hHeld0
  refine tl 0 ?_
  refine tl 2 ?_
  have t02 : True := trivial
  repeat'
   first
   | (clear m1; go_simp; refine (rof_any (s := s1) (e := e1) h1).mono ?_; rintro en u ⟨A3, n3, c3, rfl, h3, b⟩; have n3l : n3 ≤ 256 := dg_small h3 (by rw [H256]; exact h1.lt); clear h1; replace BB := bnx BB b; have G := mv b rfl <| And.intro a10 <| And.intro a11 <| And.intro a12 <| And.intro a20 <| And.intro a21 <| And.intro a22 <| r; clear a10 a11 a12 a20 a21 a22 r; obtain ⟨a10, a11, a12, a20, a21, a22, r⟩ := G; (try replace h2 := mv b rfl h2); (try replace h4 := mv b rfl h4); (try replace p6 := mv b rfl p6); (try replace p7 := mv b rfl p7); clear b; clear hHeld; refine hK.out _ _ ⟨a10, a11, a12, a20, a21, a22⟩ (fun hHeld => ?_); clear hK K; try simp only [Act.put])
   | (clear m3; go_simp; refine (rof_any (s := s2) (e := e2) h2).mono ?_; rintro en u ⟨A4, n4, c4, rfl, h4, b⟩; have n4l : n4 ≤ 256 := dg_small h4 (by rw [H256]; exact h2.lt); clear h2; replace BB := bnx BB b; have G := mv b rfl <| And.intro a10 <| And.intro a11 <| And.intro a12 <| And.intro a20 <| And.intro a21 <| And.intro a22 <| r; clear a10 a11 a12 a20 a21 a22 r; obtain ⟨a10, a11, a12, a20, a21, a22, r⟩ := G; (try replace h1 := mv b rfl h1); (try replace h3 := mv b rfl h3); (try replace p6 := mv b rfl p6); (try replace p7 := mv b rfl p7); clear b; clear hHeld; refine hK.out _ _ ⟨a10, a11, a12, a20, a21, a22⟩ (fun hHeld => ?_); clear hK K; try simp only [Act.put])
   | (clear m4; go_simp; have gl6 : w.heap.size + 2 < u.heap.size := r.gl; have p6 := Dbx.new u false none 0 0 0; have b := below_alloc u (.cells #[.bool false, .slice none 0 0, .int .i64 0] 73); (try have gn : u.heap.size ≠ g7 := by have := p7.gl; omega); replace BB := bnx BB b; have G := mv b rfl <| And.intro a10 <| And.intro a11 <| And.intro a12 <| And.intro a20 <| And.intro a21 <| And.intro a22 <| r; clear a10 a11 a12 a20 a21 a22 r; obtain ⟨a10, a11, a12, a20, a21, a22, r⟩ := G; (try replace h1 := mv b rfl h1); (try replace h2 := mv b rfl h2); (try replace h3 := mv b rfl h3); (try replace h4 := mv b rfl h4); (try replace p7 := mv b rfl p7); clear b; generalize u.heap.size = g6 at *; generalize u.alloc (.cells #[.bool false, .slice none 0 0, .int .i64 0] 73) = u at *; clear hHeld; refine hK.out _ _ ⟨a10, a11, a12, a20, a21, a22⟩ (fun hHeld => ?_); clear hK K; try simp only [Act.put])
   | (clear m5; go_simp; have gl7 : w.heap.size + 2 < u.heap.size := r.gl; have p7 := Dbx.new u false none 0 0 0; have b := below_alloc u (.cells #[.bool false, .slice none 0 0, .int .i64 0] 73); (try have gn : u.heap.size ≠ g6 := by have := p6.gl; omega); replace BB := bnx BB b; have G := mv b rfl <| And.intro a10 <| And.intro a11 <| And.intro a12 <| And.intro a20 <| And.intro a21 <| And.intro a22 <| r; clear a10 a11 a12 a20 a21 a22 r; obtain ⟨a10, a11, a12, a20, a21, a22, r⟩ := G; (try replace h1 := mv b rfl h1); (try replace h2 := mv b rfl h2); (try replace h3 := mv b rfl h3); (try replace h4 := mv b rfl h4); (try replace p6 := mv b rfl p6); clear b; generalize u.heap.size = g7 at *; generalize u.alloc (.cells #[.bool false, .slice none 0 0, .int .i64 0] 73) = u at *; clear hHeld; refine hK.out _ _ ⟨a10, a11, a12, a20, a21, a22⟩ (fun hHeld => ?_); clear hK K; try simp only [Act.put])
   | (clear m6; go_simp; obtain ⟨f0, f1, f2⟩ := p6.open; obtain ⟨z0, z1, z2⟩ := p6.held; go_simp; have G := put_all (g := g6) (u0 := .bool s1) (u1 := .slice A3 n3 c3) (u2 := .int .i64 e1) a10 a11 a12 a20 a21 a22 r (by omega) (by omega) (by omega); clear a10 a11 a12 a20 a21 a22 r; obtain ⟨a10, a11, a12, a20, a21, a22, r⟩ := G; (try replace h3 := Dg.put3 h3 p6 (.bool s1) (.slice A3 n3 c3) (.int .i64 e1)); (try replace h4 := Dg.put3 h4 p6 (.bool s1) (.slice A3 n3 c3) (.int .i64 e1)); (try replace h2 := h2.off3 p6 (.bool s1) (.slice A3 n3 c3) (.int .i64 e1)); (try replace p7 := Dbx.put3 (g := g6) p7 (by omega) (.bool s1) (.slice A3 n3 c3) (.int .i64 e1)); replace BB := below_put3 (g := g6) BB (by omega) (.bool s1) (.slice A3 n3 c3) (.int .i64 e1); replace p6 := p6.put s1 A3 n3 c3 e1; clear f0 f1 f2 z0 z1 z2; generalize ((u.setCell ⟨g6, 0, none⟩ (.bool s1)).setCell ⟨g6, 1, none⟩ (.slice A3 n3 c3)).setCell ⟨g6, 2, none⟩ (.int .i64 e1) = u at *; clear hHeld; refine hK.out _ _ ⟨a10, a11, a12, a20, a21, a22⟩ (fun hHeld => ?_); clear hK K; try simp only [Act.put])
   | (clear m7; go_simp; obtain ⟨f0, f1, f2⟩ := p7.open; obtain ⟨z0, z1, z2⟩ := p7.held; go_simp; have G := put_all (g := g7) (u0 := .bool s2) (u1 := .slice A4 n4 c4) (u2 := .int .i64 e2) a10 a11 a12 a20 a21 a22 r (by omega) (by omega) (by omega); clear a10 a11 a12 a20 a21 a22 r; obtain ⟨a10, a11, a12, a20, a21, a22, r⟩ := G; (try replace h3 := Dg.put3 h3 p7 (.bool s2) (.slice A4 n4 c4) (.int .i64 e2)); (try replace h4 := Dg.put3 h4 p7 (.bool s2) (.slice A4 n4 c4) (.int .i64 e2)); (try replace h1 := h1.off3 p7 (.bool s2) (.slice A4 n4 c4) (.int .i64 e2)); (try replace p6 := Dbx.put3 (g := g7) p6 (by omega) (.bool s2) (.slice A4 n4 c4) (.int .i64 e2)); replace BB := below_put3 (g := g7) BB (by omega) (.bool s2) (.slice A4 n4 c4) (.int .i64 e2); replace p7 := p7.put s2 A4 n4 c4 e2; clear f0 f1 f2 z0 z1 z2; generalize ((u.setCell ⟨g7, 0, none⟩ (.bool s2)).setCell ⟨g7, 1, none⟩ (.slice A4 n4 c4)).setCell ⟨g7, 2, none⟩ (.int .i64 e2) = u at *; clear hHeld; refine hK.out _ _ ⟨a10, a11, a12, a20, a21, a22⟩ (fun hHeld => ?_); clear hK K; try simp only [Act.put])
   | (clear t02; refine wpAnyH_ready (rs := [1, 4, 5]) (by kernel_rfl) (by simp) (AllReadyH.cons (o := _) rfl (fun K hK => have m1 : True := trivial; have t012 : True := trivial; ?_) (AllReadyH.cons (o := _) rfl (fun K hK => have m4 : True := trivial; have t024 : True := trivial; ?_) (AllReadyH.cons (o := _) rfl (fun K hK => have m5 : True := trivial; have t025 : True := trivial; ?_) (AllReadyH.nil)))))
   | (clear t012; refine wpAnyH_ready (rs := [3, 4, 5]) (by kernel_rfl) (by simp) (AllReadyH.cons (o := _) rfl (fun K hK => have m3 : True := trivial; have t0123 : True := trivial; ?_) (AllReadyH.cons (o := _) rfl (fun K hK => have m4 : True := trivial; have t0124 : True := trivial; ?_) (AllReadyH.cons (o := _) rfl (fun K hK => have m5 : True := trivial; have t0125 : True := trivial; ?_) (AllReadyH.nil)))))
   | (clear t0123; refine wpAnyH_ready (rs := [4, 5]) (by kernel_rfl) (by simp) (AllReadyH.cons (o := _) rfl (fun K hK => have m4 : True := trivial; have t01234 : True := trivial; ?_) (AllReadyH.cons (o := _) rfl (fun K hK => have m5 : True := trivial; have t01235 : True := trivial; ?_) (AllReadyH.nil))))
   | (clear t01234; refine wpAnyH_ready (rs := [5]) (by kernel_rfl) (by simp) (AllReadyH.cons (o := _) rfl (fun K hK => have m5 : True := trivial; have t012345 : True := trivial; ?_) (AllReadyH.nil)))
   | (clear t012345; refine wpAnyH_ready (rs := [6]) (by kernel_rfl) (by simp) (AllReadyH.cons (o := _) rfl (fun K hK => have m6 : True := trivial; have t0123456 : True := trivial; ?_) (AllReadyH.nil)))
   | (clear t0123456; refine wpAnyH_ready (rs := [7]) (by kernel_rfl) (by simp) (AllReadyH.cons (o := _) rfl (fun K hK => have m7 : True := trivial; have t01234567 : True := trivial; ?_) (AllReadyH.nil)))
   | (clear t01234567; refine wpAnyH_done (by kernel_rfl) ?_ _; go_wp2_with fail; go_meet; case rel => exact ⟨g6, g7, A3, n3, c3, A4, n4, c4, rfl, rfl, gl6, gl7, p6, p7, h3, h4, n3l, n4l, r, BB⟩)
   | (clear t01235; refine wpAnyH_ready (rs := [4]) (by kernel_rfl) (by simp) (AllReadyH.cons (o := _) rfl (fun K hK => have m4 : True := trivial; have t012345 : True := trivial; ?_) (AllReadyH.nil)))
   | (clear t0124; refine wpAnyH_ready (rs := [3, 5]) (by kernel_rfl) (by simp) (AllReadyH.cons (o := _) rfl (fun K hK => have m3 : True := trivial; have t01234 : True := trivial; ?_) (AllReadyH.cons (o := _) rfl (fun K hK => have m5 : True := trivial; have t01245 : True := trivial; ?_) (AllReadyH.nil))))
   | (clear t01245; refine wpAnyH_ready (rs := [3]) (by kernel_rfl) (by simp) (AllReadyH.cons (o := _) rfl (fun K hK => have m3 : True := trivial; have t012345 : True := trivial; ?_) (AllReadyH.nil)))
   | (clear t0125; refine wpAnyH_ready (rs := [3, 4]) (by kernel_rfl) (by simp) (AllReadyH.cons (o := _) rfl (fun K hK => have m3 : True := trivial; have t01235 : True := trivial; ?_) (AllReadyH.cons (o := _) rfl (fun K hK => have m4 : True := trivial; have t01245 : True := trivial; ?_) (AllReadyH.nil))))
   | (clear t024; refine wpAnyH_ready (rs := [1, 5]) (by kernel_rfl) (by simp) (AllReadyH.cons (o := _) rfl (fun K hK => have m1 : True := trivial; have t0124 : True := trivial; ?_) (AllReadyH.cons (o := _) rfl (fun K hK => have m5 : True := trivial; have t0245 : True := trivial; ?_) (AllReadyH.nil))))
   | (clear t0245; refine wpAnyH_ready (rs := [1]) (by kernel_rfl) (by simp) (AllReadyH.cons (o := _) rfl (fun K hK => have m1 : True := trivial; have t01245 : True := trivial; ?_) (AllReadyH.nil)))
   | (clear t025; refine wpAnyH_ready (rs := [1, 4]) (by kernel_rfl) (by simp) (AllReadyH.cons (o := _) rfl (fun K hK => have m1 : True := trivial; have t0125 : True := trivial; ?_) (AllReadyH.cons (o := _) rfl (fun K hK => have m4 : True := trivial; have t0245 : True := trivial; ?_) (AllReadyH.nil))))
 case rest =>
   obtain ⟨g6, g7, A3, n3, c3, A4, n4, c4, rfl, rfl, gl6, gl7, p6, p7, h3, h4, n3l, n4l, r, BB⟩ := hcut
   have k1 : ¬ w.heap.size + 2 = g6 := by omega
   have k2 : ¬ g6 = w.heap.size + 2 := by omega
   have k3 : ¬ w.heap.size + 2 = g7 := by omega
   have k4 : ¬ g7 = w.heap.size + 2 := by omega
   have hlo := HLO.out
   have hi := HI.out
   have hj := HJ.out
   clear M1 M2 Z9 Z8 q9 q8 O1 O2
   obtain ⟨a30, a31, a32⟩ := p6.held
   obtain ⟨a40, a41, a42⟩ := p7.held
   have hw1 : IntKind.i64.wrap ((blen x1 : Int) + e1) = (blen x1 : Int) + e1 := IntWalk.i64_in _ (by omega)
   have hw2 : IntKind.i64.wrap ((blen x2 : Int) + e2) = (blen x2 : Int) + e2 := IntWalk.i64_in _ (by omega)
   obtain ⟨mx, hmx⟩ : ∃ m, max ((blen x1 : Int) + e1) ((blen x2 : Int) + e2) = m := ⟨_, rfl⟩
   have hw3 : IntKind.i64.wrap (mx - lo) = mx - lo := IntWalk.i64_in _ (by omega)
   by_cases hnf : 4166 < mx - lo
   ·have d0 : decide ((4166 : Int) < mx - lo) = true := decide_eq_true hnf
    have hPf := HFAR.out (by omega)
    clear HSAME HMORE HLESS HFAR HBL
    go_upto_region 9 with fail
    clear p6 p7
    refine rgn (fun w' => w'.cell? ⟨g6, 0, none⟩ = some (.bool s1) ∧ w'.cell? ⟨g6, 1, none⟩ = some (.slice A3 n3 c3) ∧ w'.cell? ⟨g6, 2, none⟩ = some (.int .i64 e1) ∧ w'.cell? ⟨g7, 0, none⟩ = some (.bool s2) ∧ w'.cell? ⟨g7, 1, none⟩ = some (.slice A4 n4 c4) ∧ w'.cell? ⟨g7, 2, none⟩ = some (.int .i64 e2)) fun hHelduf0 => ?_
    refine tl 0 ?_
    refine tl 1 ?_
    refine tl 3 ?_
    refine tl 4 ?_
    refine tl 6 ?_
    refine tl 7 ?_
    refine tl 9 ?_
    refine tl 10 ?_
    refine tl 13 ?_
    refine rdy 2 fun K hK => ?_
    go_simp
    refine (rbits_any (Dg.heap32 h3 (by rfl)) (by omega)).mono ?_
    rintro en w' ⟨rfl, rfl⟩
    refine bk hK fun hHelduf1 => ?_
    clear hK K hHelduf0
    try simp only [Act.put]
    refine wpAnyH_take (i := 5) (v := ?ufv5) rfl (by kernel_rfl) (by kernel_rfl) (by kernel_rfl) (fun _ _ _ h => panic_put (P := Tryz.prog) (fn := Tryz.f30) (R := (Tells P w)) h) (Or.inl ⟨by rfl, ?ufy5⟩) (by assumption) ?_
    case ufy5 => (intro w hSw; (try dsimp only at hSw); go_simp; (try simp only [hw1, hw2, hmx, hw3])); try with_reducible rfl
    change wpAnyH _ _ _ _ _ _ _ (Act.put _ (some 43) _) _
    simp only [Act.put, List.setIfInBounds_toArray, List.set_cons_zero, List.set_cons_succ]
    refine rdy 8 fun K hK => ?_
    go_simp
    refine (rbits_any (Dg.heap32 h4 (by rfl)) (by omega)).mono ?_
    rintro en w' ⟨rfl, rfl⟩
    refine bk hK fun hHelduf2 => ?_
    clear hK K hHelduf1
    try simp only [Act.put]
    refine wpAnyH_take (i := 11) (v := ?ufv11) rfl (by kernel_rfl) (by kernel_rfl) (by kernel_rfl) (fun _ _ _ h => panic_put (P := Tryz.prog) (fn := Tryz.f30) (R := (Tells P w)) h) (Or.inl ⟨by rfl, ?ufy11⟩) (by assumption) ?_
    case ufy11 => (intro w hSw; (try dsimp only at hSw); go_simp; (try simp only [hw1, hw2, hmx, hw3])); try with_reducible rfl
    change wpAnyH _ _ _ _ _ _ _ (Act.put _ (some 49) _) _
    simp only [Act.put, List.setIfInBounds_toArray, List.set_cons_zero, List.set_cons_succ]
    refine tl 12 ?_
    refine wpAnyH_take (i := 14) (v := ?ufv14) rfl (by kernel_rfl) (by kernel_rfl) (by kernel_rfl) (fun _ _ _ h => panic_put (P := Tryz.prog) (fn := Tryz.f30) (R := (Tells P w)) h) (Or.inl ⟨by rfl, ?ufy14⟩) (by assumption) ?_
    case ufy14 => (intro w hSw; (try dsimp only at hSw); go_simp; (try simp only [hw1, hw2, hmx, hw3])); try with_reducible rfl
    change wpAnyH _ _ _ _ _ _ _ (Act.put _ (some 52) _) _
    simp only [Act.put, List.setIfInBounds_toArray, List.set_cons_zero, List.set_cons_succ]
    refine wpAnyH_take (i := 15) (v := ?ufv15) rfl (by kernel_rfl) (by kernel_rfl) (by kernel_rfl) (fun _ _ _ h => panic_put (P := Tryz.prog) (fn := Tryz.f30) (R := (Tells P w)) h) (Or.inl ⟨by rfl, ?ufy15⟩) (by assumption) ?_
    case ufy15 => (intro w hSw; (try dsimp only at hSw); go_simp; (try simp only [hw1, hw2, hmx, hw3])); try with_reducible rfl
    change wpAnyH _ _ _ _ _ _ _ (Act.put _ (some 53) _) _
    simp only [Act.put, List.setIfInBounds_toArray, List.set_cons_zero, List.set_cons_succ]
    refine wpAnyH_done (by kernel_rfl) ?_ _
    replace h3 := Dg.heap32 (w2 := World.drew wc) h3 rfl
    replace h4 := Dg.heap32 (w2 := World.drew wc) h4 rfl
    replace r : Box (World.drew wc) (w.heap.size + 2) false none 0 0 0 := ⟨r.blk⟩
    have BD : Below w.heap.size w (World.drew wc) := below_drewN BB 1
    clear a30 a31 a32 a40 a41 a42 BB hw1 hw2 hw3
    obtain ⟨a30, a31, a32, a40, a41, a42⟩ := hHelduf2
    generalize World.drew wc = wd at *
    have BB := BD
    clear BD
    clear hmx hlo hi hj hnf
    obtain ⟨f0, f1, f2⟩ := r.open
    obtain ⟨z0, z1, z2⟩ := r.held
    go_wp2
    have qq := r.put false none 0 0 0
    have HB3 := below_put3 (g := w.heap.size + 2) BB (by omega) (.bool false) (.slice none 0 0) (.int .i64 0)
    obtain ⟨z0, z1, z2⟩ := qq.held
    exact bodyPost_ret (v := .tuple #[.agg #[.bool false, .slice none 0 0, .int .i64 0], .int .i64 2]) (by simp [results, Tryz.results30, go_sem, z0, z1, z2]) rfl ⟨_, _, _, _, _, 0, _, rfl, hPf, nt_nil _, HB3⟩
   have d0 : decide ((4166 : Int) < mx - lo) = false := decide_eq_false hnf
   have hbl := HBL.out
   have HB := Lib.hid (add_fits (P := x1 * 2 ^ i) (Q := x2 * 2 ^ j) (k := 4166) (m := 300) (by omega) (by omega) (by omega))
   have hi9 : i ≤ 10000 := by omega
   have hj9 : j ≤ 10000 := by omega
   have HK := Lib.hid (And.intro (show blen (x1 * 2 ^ i) ≤ 4166 by omega) (show blen (x2 * 2 ^ j) ≤ 4166 by omega))
   clear hbl hnf HFAR HBL
   go_upto_region 9 with fail
   clear p6 p7
   refine rgn (fun w' => w'.cell? ⟨g6, 0, none⟩ = some (.bool s1) ∧ w'.cell? ⟨g6, 1, none⟩ = some (.slice A3 n3 c3) ∧ w'.cell? ⟨g6, 2, none⟩ = some (.int .i64 e1) ∧ w'.cell? ⟨g7, 0, none⟩ = some (.bool s2) ∧ w'.cell? ⟨g7, 1, none⟩ = some (.slice A4 n4 c4) ∧ w'.cell? ⟨g7, 2, none⟩ = some (.int .i64 e2)) fun hHeldun0 => ?_
   refine tl 0 ?_
   refine tl 1 ?_
   refine tl 3 ?_
   refine tl 4 ?_
   refine tl 6 ?_
   refine tl 7 ?_
   refine tl 9 ?_
   refine tl 10 ?_
   refine tl 13 ?_
   refine rdy 2 fun K hK => ?_
   go_simp
   refine (rbits_any (Dg.heap32 h3 (by rfl)) (by omega)).mono ?_
   rintro en w' ⟨rfl, rfl⟩
   refine bk hK fun hHeldun1 => ?_
   clear hK K hHeldun0
   try simp only [Act.put]
   refine wpAnyH_take (i := 5) (v := ?unv5) rfl (by kernel_rfl) (by kernel_rfl) (by kernel_rfl) (fun _ _ _ h => panic_put (P := Tryz.prog) (fn := Tryz.f30) (R := (Tells P w)) h) (Or.inl ⟨by rfl, ?uny5⟩) (by assumption) ?_
   case uny5 => (intro w hSw; (try dsimp only at hSw); go_simp; (try simp only [hw1, hw2, hmx, hw3])); try with_reducible rfl
   change wpAnyH _ _ _ _ _ _ _ (Act.put _ (some 43) _) _
   simp only [Act.put, List.setIfInBounds_toArray, List.set_cons_zero, List.set_cons_succ]
   refine rdy 8 fun K hK => ?_
   go_simp
   refine (rbits_any (Dg.heap32 h4 (by rfl)) (by omega)).mono ?_
   rintro en w' ⟨rfl, rfl⟩
   refine bk hK fun hHeldun2 => ?_
   clear hK K hHeldun1
   try simp only [Act.put]
   refine wpAnyH_take (i := 11) (v := ?unv11) rfl (by kernel_rfl) (by kernel_rfl) (by kernel_rfl) (fun _ _ _ h => panic_put (P := Tryz.prog) (fn := Tryz.f30) (R := (Tells P w)) h) (Or.inl ⟨by rfl, ?uny11⟩) (by assumption) ?_
   case uny11 => (intro w hSw; (try dsimp only at hSw); go_simp; (try simp only [hw1, hw2, hmx, hw3])); try with_reducible rfl
   change wpAnyH _ _ _ _ _ _ _ (Act.put _ (some 49) _) _
   simp only [Act.put, List.setIfInBounds_toArray, List.set_cons_zero, List.set_cons_succ]
   refine tl 12 ?_
   refine wpAnyH_take (i := 14) (v := ?unv14) rfl (by kernel_rfl) (by kernel_rfl) (by kernel_rfl) (fun _ _ _ h => panic_put (P := Tryz.prog) (fn := Tryz.f30) (R := (Tells P w)) h) (Or.inl ⟨by rfl, ?uny14⟩) (by assumption) ?_
   case uny14 => (intro w hSw; (try dsimp only at hSw); go_simp; (try simp only [hw1, hw2, hmx, hw3])); try with_reducible rfl
   change wpAnyH _ _ _ _ _ _ _ (Act.put _ (some 52) _) _
   simp only [Act.put, List.setIfInBounds_toArray, List.set_cons_zero, List.set_cons_succ]
   refine wpAnyH_take (i := 15) (v := ?unv15) rfl (by kernel_rfl) (by kernel_rfl) (by kernel_rfl) (fun _ _ _ h => panic_put (P := Tryz.prog) (fn := Tryz.f30) (R := (Tells P w)) h) (Or.inl ⟨by rfl, ?uny15⟩) (by assumption) ?_
   case uny15 => (intro w hSw; (try dsimp only at hSw); go_simp; (try simp only [hw1, hw2, hmx, hw3])); try with_reducible rfl
   change wpAnyH _ _ _ _ _ _ _ (Act.put _ (some 53) _) _
   simp only [Act.put, List.setIfInBounds_toArray, List.set_cons_zero, List.set_cons_succ]
   refine wpAnyH_done (by kernel_rfl) ?_ _
   replace h3 := Dg.heap32 (w2 := World.drew wc) h3 rfl
   replace h4 := Dg.heap32 (w2 := World.drew wc) h4 rfl
   replace r : Box (World.drew wc) (w.heap.size + 2) false none 0 0 0 := ⟨r.blk⟩
   have BD : Below w.heap.size w (World.drew wc) := below_drewN BB 1
   clear a30 a31 a32 a40 a41 a42 BB hw1 hw2 hw3
   obtain ⟨a30, a31, a32, a40, a41, a42⟩ := hHeldun2
   generalize World.drew wc = wd at *
   have BB := BD
   clear BD
   go_upto_region 11 with fail
   have wi : IntKind.i64.wrap (i : Int) = (i : Int) := IntWalk.i64_in _ (by omega)
   have wj : IntKind.i64.wrap (j : Int) = (j : Int) := IntWalk.i64_in _ (by omega)
   clear hmx d0 hlo
   refine rgn (fun w' => w'.cell? ⟨g6, 0, none⟩ = some (.bool s1) ∧ w'.cell? ⟨g6, 1, none⟩ = some (.slice A3 n3 c3) ∧ w'.cell? ⟨g6, 2, none⟩ = some (.int .i64 e1) ∧ w'.cell? ⟨g7, 0, none⟩ = some (.bool s2) ∧ w'.cell? ⟨g7, 1, none⟩ = some (.slice A4 n4 c4) ∧ w'.cell? ⟨g7, 2, none⟩ = some (.int .i64 e2)) fun hHeldv0 => ?_
   refine tl 0 ?_
   refine tl 1 ?_
   refine tl 2 ?_
   refine tl 3 ?_
   refine tl 4 ?_
   refine wpAnyH_take (i := 5) (v := ?vv5) rfl (by kernel_rfl) (by kernel_rfl) (by kernel_rfl) (fun _ _ _ h => panic_put (P := Tryz.prog) (fn := Tryz.f30) (R := (Tells P w)) h) (Or.inl ⟨by rfl, ?vy5⟩) (by assumption) ?_
   case vy5 => (intro w hSw; (try dsimp only at hSw); go_simp; (try simp only [wi, wj])); try with_reducible rfl
   change wpAnyH _ _ _ _ _ _ _ (Act.put _ (some 60) _) _
   simp only [Act.put, List.setIfInBounds_toArray, List.set_cons_zero, List.set_cons_succ]
   refine tl 7 ?_
   refine tl 8 ?_
   refine tl 9 ?_
   refine tl 10 ?_
   refine tl 11 ?_
   refine wpAnyH_take (i := 12) (v := ?vv12) rfl (by kernel_rfl) (by kernel_rfl) (by kernel_rfl) (fun _ _ _ h => panic_put (P := Tryz.prog) (fn := Tryz.f30) (R := (Tells P w)) h) (Or.inl ⟨by rfl, ?vy12⟩) (by assumption) ?_
   case vy12 => (intro w hSw; (try dsimp only at hSw); go_simp; (try simp only [wi, wj])); try with_reducible rfl
   change wpAnyH _ _ _ _ _ _ _ (Act.put _ (some 67) _) _
   simp only [Act.put, List.setIfInBounds_toArray, List.set_cons_zero, List.set_cons_succ]
   refine rdy 6 fun K hK => ?_
   go_simp
   refine (rshl_any (s := i) (Dg.heap32 h3 (by rfl)) (by omega) (by omega)).mono ?_
   rintro en w' ⟨A5, n5, c5, rfl, h5, b⟩
   have n5l : n5 ≤ 300 := dg_small h5 HB.out.2.2.1
   clear h3
   replace BB := below_next BB BB.size b (by rfl) (by rfl) (by rfl) (by rfl)
   have G := mv b (by rfl) <| And.intro a30 <| And.intro a31 <| And.intro a32 <| And.intro a40 <| And.intro a41 <| And.intro a42 <| And.intro r <| h4
   clear b a30 a31 a32 a40 a41 a42 r h4
   obtain ⟨a30, a31, a32, a40, a41, a42, r, h4⟩ := G
   replace h5 := Dg.heap32 h5 (by rfl)
   refine bk hK fun hHeldv1 => ?_
   clear hK K hHeldv0
   try simp only [Act.put]
   refine rdy 13 fun K hK => ?_
   go_simp
   refine (rshl_any (s := j) (Dg.heap32 h4 (by rfl)) (by omega) (by omega)).mono ?_
   rintro en w' ⟨A6, n6, c6, rfl, h6, b⟩
   have n6l : n6 ≤ 300 := dg_small h6 HB.out.2.2.2
   clear h4
   replace BB := below_next BB BB.size b (by rfl) (by rfl) (by rfl) (by rfl)
   have G := mv b (by rfl) <| And.intro a30 <| And.intro a31 <| And.intro a32 <| And.intro a40 <| And.intro a41 <| And.intro a42 <| And.intro r <| h5
   clear b a30 a31 a32 a40 a41 a42 r h5
   obtain ⟨a30, a31, a32, a40, a41, a42, r, h5⟩ := G
   replace h6 := Dg.heap32 h6 (by rfl)
   refine bk hK fun hHeldv2 => ?_
   clear hK K hHeldv1
   try simp only [Act.put]
   refine tl 14 ?_
   refine tl 15 ?_
   refine wpAnyH_done (by kernel_rfl) ?_ _
   try clear hHeldv2
   clear wi wj hi hj HI HJ HLO
   go_wp2_with fail
   refine (rcmp_any (Dg.heap32 h5 (by rfl)) (Dg.heap32 h6 (by rfl))).mono ?_
   rintro en w5 ⟨rfl, b⟩
   replace BB := below_next BB BB.size b (by rfl) (by rfl) (by rfl) (by rfl)
   have G := mv b (by rfl) <| And.intro a30 <| And.intro a31 <| And.intro a32 <| And.intro a40 <| And.intro a41 <| And.intro a42 <| And.intro r <| And.intro h5 <| h6
   clear b a30 a31 a32 a40 a41 a42 r h5 h6
   obtain ⟨a30, a31, a32, a40, a41, a42, r, h5, h6⟩ := G
   obtain ⟨zc, hzc⟩ : ∃ z, cmpN (x1 * 2 ^ i) (x2 * 2 ^ j) = z := ⟨_, rfl⟩
   rw [hzc]
   have hord := cmpN_cases (x1 * 2 ^ i) (x2 * 2 ^ j)
   rw [hzc] at hord
   clear hzc
   by_cases hst : s1 = s2
   ·have HQ := Lib.hid (HSAME.out hst)
    have HV : Hid (blen (x1 * 2 ^ i + x2 * 2 ^ j) ≤ 5000 ∧ x1 * 2 ^ i + x2 * 2 ^ j < Go.Proofs.YtdklnpaocaebkaaGreatDoor.H ^ 300) := Lib.hid (by
   have h1 := HB.out
   have h2 := HK.out
   exact ⟨by omega, h1.2.1⟩)
    have fs : (s1 == s2) = true := by simp [hst]
    clear hst hord HSAME HMORE HLESS
    go_upto_region 14 with fail
    refine rgn (fun w' => w'.cell? ⟨g6, 0, none⟩ = some (.bool s1) ∧ w'.cell? ⟨g6, 1, none⟩ = some (.slice A3 n3 c3) ∧ w'.cell? ⟨g6, 2, none⟩ = some (.int .i64 e1) ∧ w'.cell? ⟨g7, 0, none⟩ = some (.bool s2) ∧ w'.cell? ⟨g7, 1, none⟩ = some (.slice A4 n4 c4) ∧ w'.cell? ⟨g7, 2, none⟩ = some (.int .i64 e2)) fun hHeldw0 => ?_
    refine tl 0 ?_
    refine tl 1 ?_
    refine tl 2 ?_
    refine tl 3 ?_
    refine tl 5 ?_
    refine rdy 4 fun K hK => ?_
    go_simp
    refine (radd_any (Dg.heap32 h5 (by rfl)) (Dg.heap32 h6 (by rfl)) (by omega) (by omega)).mono ?_
    rintro en w' ⟨A7, n7, c7, rfl, h7, b⟩
    clear h5 h6
    replace BB := below_next BB BB.size b (by rfl) (by rfl) (by rfl) (by rfl)
    have G := mv b (by rfl) <| And.intro a30 <| And.intro a31 <| And.intro a32 <| And.intro a40 <| And.intro a41 <| And.intro a42 <| r
    clear b a30 a31 a32 a40 a41 a42 r
    obtain ⟨a30, a31, a32, a40, a41, a42, r⟩ := G
    have n7l : n7 ≤ 300 := dg_small h7 HV.out.2
    replace h7 := Dg.heap32 h7 (by rfl)
    refine bk hK fun hHeldw1 => ?_
    clear hK K hHeldw0
    try simp only [Act.put]
    refine tl 6 ?_
    refine rdy 7 fun K hK => ?_
    go_simp
    refine (rnorm_any (s := s1) (e := lo) (Dg.heap32 h7 (by rfl)) HV.out.1 (by omega)).mono ?_
    rintro en w' ⟨k6, s6, A6, n6, c6, m6, e6, rfl, hP', h6, b⟩
    have HP := Lib.hid (HQ.out _ _ _ _ hP')
    clear hP' h7
    replace BB := below_next BB BB.size b (by rfl) (by rfl) (by rfl) (by rfl)
    have G := mv b (by rfl) <| And.intro a30 <| And.intro a31 <| And.intro a32 <| And.intro a40 <| And.intro a41 <| And.intro a42 <| r
    clear b a30 a31 a32 a40 a41 a42 r
    obtain ⟨a30, a31, a32, a40, a41, a42, r⟩ := G
    replace h6 := h6.heap (by rfl)
    obtain ⟨f0, f1, f2⟩ := r.open
    obtain ⟨z0, z1, z2⟩ := r.held
    refine bk hK fun hHeldw2 => ?_
    clear hK K hHeldw1
    try simp only [Act.put]
    refine tl 8 ?_
    refine tl 9 ?_
    refine rdy 10 fun K hK => ?_
    go_simp
    refine bk hK fun hHeldw3 => ?_
    clear hK K hHeldw2
    try simp only [Act.put]
    refine tl 11 ?_
    refine wpAnyH_done (by kernel_rfl) ?_ _
    go_wp2
    have qq := r.put s6 A6 n6 c6 e6
    have hN := h6.put3 r (.bool s6) (.slice A6 n6 c6) (.int .i64 e6)
    have HB3 := below_put3 (g := w.heap.size + 2) BB (by omega) (.bool s6) (.slice A6 n6 c6) (.int .i64 e6)
    obtain ⟨z0, z1, z2⟩ := qq.held
    exact bodyPost_ret (v := .tuple #[.agg #[.bool s6, .slice A6 n6 c6, .int .i64 e6], .int .i64 k6]) (by simp [results, Tryz.results30, go_sem, z0, z1, z2]) rfl ⟨_, _, _, _, _, _, _, rfl, HP.out, hN, HB3⟩
   have fs : (s1 == s2) = false := by simp [hst]
   by_cases hle : x2 * 2 ^ j ≤ x1 * 2 ^ i
   ·have fz : decide (zc ≥ 0) = true := decide_eq_true (by rcases hord with ⟨h, h'⟩ | ⟨h, h'⟩ | ⟨h, h'⟩ <;> omega)
    have fz2 : decide ((0 : Int) ≤ zc) = true := fz
    have HQ := Lib.hid (HMORE.out hst hle)
    have HV : Hid (blen (x1 * 2 ^ i - x2 * 2 ^ j) ≤ 5000 ∧ x1 * 2 ^ i - x2 * 2 ^ j < Go.Proofs.YtdklnpaocaebkaaGreatDoor.H ^ 300) := Lib.hid (by
   have h1 := HB.out
   have h2 := HK.out
   exact ⟨by have := sub_blen (Q := x2 * 2 ^ j) h2.1; omega, Nat.lt_of_le_of_lt (Nat.sub_le _ _) h1.2.2.1⟩)
    have HLE := Lib.hid hle
    clear hst hord hle HSAME HMORE HLESS
    go_upto_region 16 with fail
    refine rgn (fun w' => w'.cell? ⟨g6, 0, none⟩ = some (.bool s1) ∧ w'.cell? ⟨g6, 1, none⟩ = some (.slice A3 n3 c3) ∧ w'.cell? ⟨g6, 2, none⟩ = some (.int .i64 e1) ∧ w'.cell? ⟨g7, 0, none⟩ = some (.bool s2) ∧ w'.cell? ⟨g7, 1, none⟩ = some (.slice A4 n4 c4) ∧ w'.cell? ⟨g7, 2, none⟩ = some (.int .i64 e2)) fun hHeldx0 => ?_
    refine tl 0 ?_
    refine tl 1 ?_
    refine tl 2 ?_
    refine tl 3 ?_
    refine tl 5 ?_
    refine rdy 4 fun K hK => ?_
    go_simp
    refine (rsub_any (Dg.heap32 h5 (by rfl)) (Dg.heap32 h6 (by rfl)) (by omega) HLE.out).mono ?_
    rintro en w' ⟨A7, n7, c7, rfl, h7, b⟩
    clear h5 h6
    replace BB := below_next BB BB.size b (by rfl) (by rfl) (by rfl) (by rfl)
    have G := mv b (by rfl) <| And.intro a30 <| And.intro a31 <| And.intro a32 <| And.intro a40 <| And.intro a41 <| And.intro a42 <| r
    clear b a30 a31 a32 a40 a41 a42 r
    obtain ⟨a30, a31, a32, a40, a41, a42, r⟩ := G
    have n7l : n7 ≤ 300 := dg_small h7 HV.out.2
    replace h7 := Dg.heap32 h7 (by rfl)
    refine bk hK fun hHeldx1 => ?_
    clear hK K hHeldx0
    try simp only [Act.put]
    refine tl 6 ?_
    refine rdy 7 fun K hK => ?_
    go_simp
    refine (rnorm_any (s := s1) (e := lo) (Dg.heap32 h7 (by rfl)) HV.out.1 (by omega)).mono ?_
    rintro en w' ⟨k6, s6, A6, n6, c6, m6, e6, rfl, hP', h6, b⟩
    have HP := Lib.hid (HQ.out _ _ _ _ hP')
    clear hP' h7
    replace BB := below_next BB BB.size b (by rfl) (by rfl) (by rfl) (by rfl)
    have G := mv b (by rfl) <| And.intro a30 <| And.intro a31 <| And.intro a32 <| And.intro a40 <| And.intro a41 <| And.intro a42 <| r
    clear b a30 a31 a32 a40 a41 a42 r
    obtain ⟨a30, a31, a32, a40, a41, a42, r⟩ := G
    replace h6 := h6.heap (by rfl)
    obtain ⟨f0, f1, f2⟩ := r.open
    obtain ⟨z0, z1, z2⟩ := r.held
    refine bk hK fun hHeldx2 => ?_
    clear hK K hHeldx1
    try simp only [Act.put]
    refine tl 8 ?_
    refine tl 9 ?_
    refine rdy 10 fun K hK => ?_
    go_simp
    refine bk hK fun hHeldx3 => ?_
    clear hK K hHeldx2
    try simp only [Act.put]
    refine tl 11 ?_
    refine wpAnyH_done (by kernel_rfl) ?_ _
    go_wp2
    have qq := r.put s6 A6 n6 c6 e6
    have hN := h6.put3 r (.bool s6) (.slice A6 n6 c6) (.int .i64 e6)
    have HB3 := below_put3 (g := w.heap.size + 2) BB (by omega) (.bool s6) (.slice A6 n6 c6) (.int .i64 e6)
    obtain ⟨z0, z1, z2⟩ := qq.held
    exact bodyPost_ret (v := .tuple #[.agg #[.bool s6, .slice A6 n6 c6, .int .i64 e6], .int .i64 k6]) (by simp [results, Tryz.results30, go_sem, z0, z1, z2]) rfl ⟨_, _, _, _, _, _, _, rfl, HP.out, hN, HB3⟩
   have hlt : x1 * 2 ^ i < x2 * 2 ^ j := Nat.not_le.1 hle
   have fz : decide (zc ≥ 0) = false := decide_eq_false (by rcases hord with ⟨h, h'⟩ | ⟨h, h'⟩ | ⟨h, h'⟩ <;> omega)
   have fz2 : decide ((0 : Int) ≤ zc) = false := fz
   have HQ := Lib.hid (HLESS.out hst hlt)
   have HV : Hid (blen (x2 * 2 ^ j - x1 * 2 ^ i) ≤ 5000 ∧ x2 * 2 ^ j - x1 * 2 ^ i < Go.Proofs.YtdklnpaocaebkaaGreatDoor.H ^ 300) := Lib.hid (by
   have h1 := HB.out
   have h2 := HK.out
   exact ⟨by have := sub_blen (Q := x1 * 2 ^ i) h2.2; omega, Nat.lt_of_le_of_lt (Nat.sub_le _ _) h1.2.2.2⟩)
   have HLE := Lib.hid (Nat.le_of_lt hlt)
   clear hst hord hle hlt HSAME HMORE HLESS
   go_upto_region 17 with fail
   refine rgn (fun w' => w'.cell? ⟨g6, 0, none⟩ = some (.bool s1) ∧ w'.cell? ⟨g6, 1, none⟩ = some (.slice A3 n3 c3) ∧ w'.cell? ⟨g6, 2, none⟩ = some (.int .i64 e1) ∧ w'.cell? ⟨g7, 0, none⟩ = some (.bool s2) ∧ w'.cell? ⟨g7, 1, none⟩ = some (.slice A4 n4 c4) ∧ w'.cell? ⟨g7, 2, none⟩ = some (.int .i64 e2)) fun hHeldy0 => ?_
   refine tl 0 ?_
   refine tl 1 ?_
   refine tl 2 ?_
   refine tl 3 ?_
   refine tl 5 ?_
   refine rdy 4 fun K hK => ?_
   go_simp
   refine (rsub_any (Dg.heap32 h6 (by rfl)) (Dg.heap32 h5 (by rfl)) (by omega) HLE.out).mono ?_
   rintro en w' ⟨A7, n7, c7, rfl, h7, b⟩
   clear h5 h6
   replace BB := below_next BB BB.size b (by rfl) (by rfl) (by rfl) (by rfl)
   have G := mv b (by rfl) <| And.intro a30 <| And.intro a31 <| And.intro a32 <| And.intro a40 <| And.intro a41 <| And.intro a42 <| r
   clear b a30 a31 a32 a40 a41 a42 r
   obtain ⟨a30, a31, a32, a40, a41, a42, r⟩ := G
   have n7l : n7 ≤ 300 := dg_small h7 HV.out.2
   replace h7 := Dg.heap32 h7 (by rfl)
   refine bk hK fun hHeldy1 => ?_
   clear hK K hHeldy0
   try simp only [Act.put]
   refine tl 6 ?_
   refine rdy 7 fun K hK => ?_
   go_simp
   refine (rnorm_any (s := s2) (e := lo) (Dg.heap32 h7 (by rfl)) HV.out.1 (by omega)).mono ?_
   rintro en w' ⟨k6, s6, A6, n6, c6, m6, e6, rfl, hP', h6, b⟩
   have HP := Lib.hid (HQ.out _ _ _ _ hP')
   clear hP' h7
   replace BB := below_next BB BB.size b (by rfl) (by rfl) (by rfl) (by rfl)
   have G := mv b (by rfl) <| And.intro a30 <| And.intro a31 <| And.intro a32 <| And.intro a40 <| And.intro a41 <| And.intro a42 <| r
   clear b a30 a31 a32 a40 a41 a42 r
   obtain ⟨a30, a31, a32, a40, a41, a42, r⟩ := G
   replace h6 := h6.heap (by rfl)
   obtain ⟨f0, f1, f2⟩ := r.open
   obtain ⟨z0, z1, z2⟩ := r.held
   refine bk hK fun hHeldy2 => ?_
   clear hK K hHeldy1
   try simp only [Act.put]
   refine tl 8 ?_
   refine tl 9 ?_
   refine rdy 10 fun K hK => ?_
   go_simp
   refine bk hK fun hHeldy3 => ?_
   clear hK K hHeldy2
   try simp only [Act.put]
   refine tl 11 ?_
   refine wpAnyH_done (by kernel_rfl) ?_ _
   go_wp2
   have qq := r.put s6 A6 n6 c6 e6
   have hN := h6.put3 r (.bool s6) (.slice A6 n6 c6) (.int .i64 e6)
   have HB3 := below_put3 (g := w.heap.size + 2) BB (by omega) (.bool s6) (.slice A6 n6 c6) (.int .i64 e6)
   obtain ⟨z0, z1, z2⟩ := qq.held
   exact bodyPost_ret (v := .tuple #[.agg #[.bool s6, .slice A6 n6 c6, .int .i64 e6], .int .i64 k6]) (by simp [results, Tryz.results30, go_sem, z0, z1, z2]) rfl ⟨_, _, _, _, _, _, _, rfl, HP.out, hN, HB3⟩

end Go.Proofs.YtdklnpaocaebkaaGreatDoor
