/-
 A polynomial by its roots: what its tape's lines are, what slope and tape tell of it, and why between two numbers its values differ by the derivative times theirs. No condition; nothing of the program is named here.
-/
import Derived.Test.YtlpjlmophlikeaaGreatDoorPGr
namespace Go.Proofs.YtlpjlmophlikeaaGreatDoor

structure MeaT (k : Nat) (L : Nat → Ln) (d : Nat → Rw) : Prop where
 z : L 0 = ⟨3, 0, 0, Iv.zero⟩
 c : ∀ i, i < k → L (3 * i + 1) = ⟨1, 0, 0, ⟨d i, d i⟩⟩
 s : ∀ i, i < k → L (3 * i + 2) = ⟨7, 0, ((3 * i + 1 : Nat) : Int), Iv.zero⟩
 m : ∀ i, i < k → L (3 * i + 3) = ⟨8, ((3 * i : Nat) : Int), ((3 * i + 2 : Nat) : Int), Iv.zero⟩
/-- the product's values, in eighths to the power; the divided differences -/
def pF (r : Nat → Int) (x : Int) : Nat → Int
 | 0 => x
 | i + 1 => pF r x i * (x - r i)
def qF (r : Nat → Int) (x y : Int) : Nat → Int
 | 0 => 1
 | i + 1 => qF r x y i * (y - r i) + pF r x i
theorem pq_diff (r : Nat → Int) (x y : Int) : ∀ i, pF r y i - pF r x i = qF r x y i * (y - x)
 | 0 => by show y - x = 1 * (y - x); omega
 | i + 1 => by
  have h := pq_diff r x y i
  show pF r y i * (y - r i) - pF r x i * (x - r i) = (qF r x y i * (y - r i) + pF r x i) * (y - x)
  have e : pF r y i = pF r x i + qF r x y i * (y - x) := by omega
  rw [e]
  grind
theorem p_abs {r : Nat → Int} {x : Int} {k : Nat} (hx : x.natAbs ≤ 16) (hr : ∀ i, i < k → (r i).natAbs ≤ 8) : ∀ i, i ≤ k → (pF r x i).natAbs ≤ 2 ^ (4 + 5 * i)
 | 0, _ => by show x.natAbs ≤ 2 ^ 4; omega
 | i + 1, hi => by
  have h := p_abs hx hr i (by omega)
  have h2 := hr i (by omega)
  have h3 : (x - r i).natAbs ≤ 2 ^ 5 := by omega
  have h4 := mul_abs h h3
  rw [show 4 + 5 * i + 5 = 4 + 5 * (i + 1) by omega] at h4
  exact h4
theorem q_abs {r : Nat → Int} {x y : Int} {k : Nat} (hx : x.natAbs ≤ 16) (hy : y.natAbs ≤ 16) (hr : ∀ i, i < k → (r i).natAbs ≤ 8) : ∀ i, i ≤ k → (qF r x y i).natAbs ≤ 2 ^ (6 * i)
 | 0, _ => Nat.le_refl 1
 | i + 1, hi => by
  have h := q_abs hx hy hr i (by omega)
  have h2 := hr i (by omega)
  have h3 : (y - r i).natAbs ≤ 2 ^ 5 := by omega
  have h4 := mul_abs h h3
  have h5 := p_abs hx hr i (by omega)
  have h6 : 2 ^ (4 + 5 * i) ≤ 2 ^ (6 * i + 5) := Nat.pow_le_pow_right (by omega) (by omega)
  have h7 : 2 ^ (6 * (i + 1)) = 2 ^ (6 * i + 5) + 2 ^ (6 * i + 5) := by rw [show 6 * (i + 1) = 6 * i + 5 + 1 by omega, Nat.pow_succ]; omega
  show (qF r x y i * (y - r i) + pF r x i).natAbs ≤ _
  omega
section
variable {S : Sc} {f m n k : Nat} {x y z : Int} {p : Int} {I R : Iv} {L : Nat → Ln} {d : Nat → Rw} {r : Nat → Int} {E : En}
theorem bo_mono (h : Bo S f m I) (hm : m ≤ n) : Bo S f n I := by
 obtain ⟨u, v, h1, h2, h3, h4, h5⟩ := h
 have := Nat.pow_le_pow_right (show 0 < 2 by omega) hm
 exact ⟨u, v, h1, h2, h3, Nat.le_trans h4 this, Nat.le_trans h5 this⟩
theorem pt_bo {a : Rw} (h : At S f z a) (hz : z.natAbs ≤ 2 ^ m) : Bo S f m ⟨a, a⟩ := ⟨z, z, h, h, Int.le_refl _, hz, hz⟩
theorem out_ni (hp : 1 ≤ p ∧ p ≤ 2000) (h : Ni S f z I) (hR : outO S I.lo I.hi p = .ok R) : Ni S f z R := by
 obtain ⟨a, ha, hw⟩ := h
 obtain ⟨_, h2, h3, h4⟩ := withinI_iff.1 hw
 have hm := mayI_iff.1 h2
 have t := outO_ok hp hm.1 hm.2.1 hR
 have ht := tight_may t hm.2.2
 exact ⟨a, ha, withinI_iff.2 ⟨mayI_point ha.1, ht, Int.le_trans t.1.2.1 h3, Int.le_trans h4 t.2.2.1⟩⟩
/-- the numbers of the roots -/
def Rts (S : Sc) (k : Nat) (d : Nat → Rw) (r : Nat → Int) : Prop := ∀ i, i < k → At S 3 (r i) (d i) ∧ (r i).natAbs ≤ 8
/-- what is known of the values of the lines above -/
structure ValK (S : Sc) (x y : Int) (r : Nat → Int) (d : Nat → Rw) (V : Nat → Iv) (i : Nat) : Prop where
 v : ∀ q, q ≤ i → Bo S (3 * (q + 1)) (4 + 5 * q) (V (3 * q)) ∧ Ni S (3 * (q + 1)) (pF r x q) (V (3 * q)) ∧ Ni S (3 * (q + 1)) (pF r y q) (V (3 * q))
 c : ∀ q, q < i → V (3 * q + 1) = ⟨d q, d q⟩
 b : ∀ q, q < i → Bo S 3 5 (V (3 * q + 2)) ∧ Ni S 3 (x - r q) (V (3 * q + 2)) ∧ Ni S 3 (y - r q) (V (3 * q + 2))
theorem mean_vals (hk : k ≤ 5) (hp : 20 ≤ p ∧ p ≤ 300) (hL : MeaT k L d) (hd : Rts S k d r) (hx : x.natAbs ≤ 16) (hy : y.natAbs ≤ 16) (hI : Bo S 3 4 (E.X 0)) (h1 : Ni S 3 x (E.X 0)) (h2 : Ni S 3 y (E.X 0)) : ∀ i, i ≤ k →
  ∃ R, linO S L E p (3 * i + 1) = .ok R ∧ ValK S x y r d (fun j => R.getD j Iv.zero) i
 | 0, _ => by
  obtain ⟨u, v, u1, u2, u3, u4, u5⟩ := hI
  obtain ⟨W, hW, hb⟩ := out_bo (p := p) ⟨by omega, by omega⟩ (by omega) (by omega) u1 u2 u3 u4 u5
  have P : 1 ≤ p ∧ p ≤ 2000 := ⟨by omega, by omega⟩
  refine ⟨[W], lin_ok (Q := []) rfl ?_, fun q hq => ?_, fun q hq => by omega, fun q hq => by omega⟩
  ·rw [hL.z]
   simp only [valO]
   simp
   exact hW
  ·obtain rfl : q = 0 := by omega
   exact ⟨hb, out_ni P h1 hW, out_ni P h2 hW⟩
 | i + 1, hi => by
  obtain ⟨Q, hQ, hV⟩ := mean_vals hk hp hL hd hx hy hI h1 h2 i (by omega)
  have P : 1 ≤ p ∧ p ≤ 2000 := ⟨by omega, by omega⟩
  have hl := lin_len hQ
  obtain ⟨hr, hr8⟩ := hd i (by omega)
  have hV0 := hV.v 0 (by omega)
  have hVi := hV.v i (by omega)
  have a1 : linO S L E p (3 * i + 2) = .ok (Q ++ [(⟨d i, d i⟩ : Iv)]) := lin_ok hQ (by
   rw [hL.c i (by omega)]
   simp only [valO]
   simp
   exact out_pt P hr.1 (Nat.le_trans (at_blen hr (by omega) (L := 20) (by omega) (by omega)) (by omega)))
  obtain ⟨B, hB, hBo⟩ := subF_bo (p := p) P (by omega) (by omega) hV0.1 (pt_bo hr (m := 4) (by omega))
  have hBx := subF_ni (L := 5) P (by omega) (by omega) hV0.2.1 (pt_ni hr) (show (pF r x 0 - r i).natAbs ≤ 2 ^ 5 by show (x - r i).natAbs ≤ 2 ^ 5; omega) hB
  have hBy := subF_ni (L := 5) P (by omega) (by omega) hV0.2.2 (pt_ni hr) (show (pF r y 0 - r i).natAbs ≤ 2 ^ 5 by show (y - r i).natAbs ≤ 2 ^ 5; omega) hB
  have a2 : linO S L E p (3 * i + 3) = .ok (Q ++ [(⟨d i, d i⟩ : Iv)] ++ [B]) := lin_ok a1 (by
   rw [hL.s i (by omega)]
   simp only [valO]
   have e1 : (Q ++ [(⟨d i, d i⟩ : Iv)]).getD 0 Iv.zero = Q.getD 0 Iv.zero := gd_old (by omega)
   have e2 : (Q ++ [(⟨d i, d i⟩ : Iv)]).getD (3 * i + 1) Iv.zero = ⟨d i, d i⟩ := gd_at (k := 0) hl
   simp only [Int.toNat_natCast, Int.toNat_zero, e1, e2]
   simp
   exact hB)
  obtain ⟨C, hC, hCo⟩ := mulF_bo (p := p) P (by omega) (by omega) hVi.1 hBo
  have hrk : ∀ j, j < k → (r j).natAbs ≤ 8 := fun j hj => (hd j hj).2
  have hCx := mulF_ni P (by omega) (by omega) hVi.2.1 hBx (p_abs hx hrk (i + 1) hi) hC
  have hCy := mulF_ni P (by omega) (by omega) hVi.2.2 hBy (p_abs hy hrk (i + 1) hi) hC
  have a3 : linO S L E p (3 * i + 4) = .ok (Q ++ [(⟨d i, d i⟩ : Iv)] ++ [B] ++ [C]) := lin_ok a2 (by
   rw [hL.m i (by omega)]
   simp only [valO]
   have e1 : (Q ++ [(⟨d i, d i⟩ : Iv)] ++ [B]).getD (3 * i) Iv.zero = Q.getD (3 * i) Iv.zero := by rw [List.append_assoc]; exact gd_old (by omega)
   have e2 : (Q ++ [(⟨d i, d i⟩ : Iv)] ++ [B]).getD (3 * i + 2) Iv.zero = B := by rw [List.append_assoc]; exact gd_at (m := 3 * i + 1) (k := 1) hl
   simp only [Int.toNat_natCast, e1, e2]
   simp
   exact hC)
  have g : ∀ j, j < 3 * i + 1 → (Q ++ [(⟨d i, d i⟩ : Iv)] ++ [B] ++ [C]).getD j Iv.zero = Q.getD j Iv.zero := fun j hj => by
   rw [List.append_assoc, List.append_assoc]
   exact gd_old (by omega)
  have g1 : (Q ++ [(⟨d i, d i⟩ : Iv)] ++ [B] ++ [C]).getD (3 * i + 1) Iv.zero = ⟨d i, d i⟩ := by rw [List.append_assoc, List.append_assoc]; exact gd_at (m := 3 * i + 1) (k := 0) hl
  have g2 : (Q ++ [(⟨d i, d i⟩ : Iv)] ++ [B] ++ [C]).getD (3 * i + 2) Iv.zero = B := by rw [List.append_assoc, List.append_assoc]; exact gd_at (m := 3 * i + 1) (k := 1) hl
  have g3 : (Q ++ [(⟨d i, d i⟩ : Iv)] ++ [B] ++ [C]).getD (3 * (i + 1)) Iv.zero = C := by rw [List.append_assoc, List.append_assoc]; exact gd_at (m := 3 * i + 1) (k := 2) hl
  refine ⟨_, by rw [show 3 * (i + 1) + 1 = 3 * i + 4 by omega]; exact a3, fun q hq => ?_, fun q hq => ?_, fun q hq => ?_⟩
  ·rcases Nat.lt_or_ge i q with c | c
   ·obtain rfl : q = i + 1 := by omega
    show Bo S _ _ ((Q ++ [(⟨d i, d i⟩ : Iv)] ++ [B] ++ [C]).getD _ _) ∧ Ni S _ _ ((Q ++ [(⟨d i, d i⟩ : Iv)] ++ [B] ++ [C]).getD _ _) ∧ Ni S _ _ ((Q ++ [(⟨d i, d i⟩ : Iv)] ++ [B] ++ [C]).getD _ _)
    rw [g3, show 3 * (i + 1 + 1) = 3 * (i + 1) + 3 by omega, show 4 + 5 * (i + 1) = 4 + 5 * i + 5 by omega]
    exact ⟨hCo, hCx, hCy⟩
   ·show Bo S _ _ ((Q ++ [(⟨d i, d i⟩ : Iv)] ++ [B] ++ [C]).getD _ _) ∧ Ni S _ _ ((Q ++ [(⟨d i, d i⟩ : Iv)] ++ [B] ++ [C]).getD _ _) ∧ Ni S _ _ ((Q ++ [(⟨d i, d i⟩ : Iv)] ++ [B] ++ [C]).getD _ _)
    rw [g _ (by omega)]
    exact hV.v q c
  ·rcases Nat.lt_or_ge q i with c | c
   ·exact (g _ (by omega)).trans (hV.c q c)
   ·obtain rfl : q = i := by omega
    exact g1
  ·rcases Nat.lt_or_ge q i with c | c
   ·show Bo S _ _ ((Q ++ [(⟨d i, d i⟩ : Iv)] ++ [B] ++ [C]).getD _ _) ∧ Ni S _ _ ((Q ++ [(⟨d i, d i⟩ : Iv)] ++ [B] ++ [C]).getD _ _) ∧ Ni S _ _ ((Q ++ [(⟨d i, d i⟩ : Iv)] ++ [B] ++ [C]).getD _ _)
    rw [g _ (by omega)]
    exact hV.b q c
   ·obtain rfl : q = i := by omega
    show Bo S _ _ ((Q ++ [(⟨d q, d q⟩ : Iv)] ++ [B] ++ [C]).getD _ _) ∧ Ni S _ _ ((Q ++ [(⟨d q, d q⟩ : Iv)] ++ [B] ++ [C]).getD _ _) ∧ Ni S _ _ ((Q ++ [(⟨d q, d q⟩ : Iv)] ++ [B] ++ [C]).getD _ _)
    rw [g2]
    exact ⟨hBo, hBx, hBy⟩
theorem one_bo : Bo S 0 0 (pwI 0) := pt_bo at_pw (by decide)
theorem one_ni : Ni S 0 1 (pwI 0) := pt_ni at_pw
theorem one_sub (hp : 20 ≤ p ∧ p ≤ 300) : subF S (pwI 0) Iv.zero p = .ok (pwI 0) :=
 subF_pt (f := 0) ⟨by omega, by omega⟩ at_pw at_zero (by rw [Int.sub_zero]; exact at_pw) (Nat.le_trans (at_blen (S := S) at_pw (by omega) (L := 1) (by omega) (by decide)) (by omega))
theorem mean_tab (hk : k ≤ 5) (hp : 20 ≤ p ∧ p ≤ 300) (hL : MeaT k L d) (hd : Rts S k d r) (hx : x.natAbs ≤ 16) (hy : y.natAbs ≤ 16) {V : Nat → Iv} (hV : ValK S x y r d V k) {st : Nat → Int} (hst : st 0 = 0) : ∀ i, i ≤ k →
  ∃ Q, tabO S L V st 1 p (3 * i + 1) = .ok Q ∧ Q.getD 0 [] = [pwI 0] ∧ ∃ D, Q.getD (3 * i) [] = [D] ∧ Bo S (3 * i) (6 * i) D ∧ Ni S (3 * i) (qF r x y i) D
 | 0, _ => by
  refine ⟨[[pwI 0]], tab_ok (Q := []) rfl (row_known (m := 1) (f := fun _ => pwI 0) fun j hj => ?_), rfl, pwI 0, rfl, one_bo, one_ni⟩
  obtain rfl : j = 0 := by omega
  rw [hL.z, hst]
  rfl
 | i + 1, hi => by
  obtain ⟨Q, hQ, h0, D, hD, hDb, hDn⟩ := mean_tab hk hp hL hd hx hy hV hst i (by omega)
  have P : 1 ≤ p ∧ p ≤ 2000 := ⟨by omega, by omega⟩
  have hl := (tab_len hQ).1
  have hrk : ∀ j, j < k → (r j).natAbs ≤ 8 := fun j hj => (hd j hj).2
  have hVi := hV.v i (by omega)
  have hB := hV.b i (by omega)
  have a1 : tabO S L V st 1 p (3 * i + 2) = .ok (Q ++ [[Iv.zero]]) := tab_ok hQ (row_known (m := 1) (f := fun _ => Iv.zero) fun j hj => by
   rw [hL.c i (by omega)]
   simp [nextO])
  have a2 : tabO S L V st 1 p (3 * i + 3) = .ok (Q ++ [[Iv.zero]] ++ [[pwI 0]]) := tab_ok a1 (row_known (m := 1) (f := fun _ => pwI 0) fun j hj => by
   obtain rfl : j = 0 := by omega
   rw [hL.s i (by omega)]
   have e1 : (Q ++ [[Iv.zero]]).getD 0 [] = [pwI 0] := (gd_old (by omega)).trans h0
   have e2 : (Q ++ [[Iv.zero]]).getD (3 * i + 1) [] = [Iv.zero] := gd_at (k := 0) hl
   simp only [nextO, stepO]
   simp only [Int.toNat_natCast, Int.toNat_zero, e1, e2]
   simp
   exact one_sub hp)
  obtain ⟨X, hX, hXb⟩ := mulF_bo (p := p) P (by omega) (by omega) hDb hB.1
  have hXn := mulF_ni (L := 6 * i + 5) P (by omega) (by omega) hDn hB.2.2 (by
   have h1 := q_abs hx hy hrk i (by omega)
   have h2 := hrk i (by omega)
   exact mul_abs h1 (show (y - r i).natAbs ≤ 2 ^ 5 by omega)) hX
  obtain ⟨Y, hY, hYb⟩ := mulF_bo (p := p) P (by omega) (by omega) hVi.1 one_bo
  have hYn := mulF_ni (L := 4 + 5 * i) P (by omega) (by omega) hVi.2.1 one_ni (by rw [Int.mul_one]; exact p_abs hx hrk i (by omega)) hY
  rw [Int.mul_one, Nat.add_zero] at hYn
  rw [Nat.add_zero, Nat.add_zero] at hYb
  rw [show 3 * i + 3 = 3 * (i + 1) by omega] at hXb hXn
  obtain ⟨Z, hZ, hZb⟩ := addF_bo (p := p) P (by omega) (by omega) hXb (bo_mono hYb (show 4 + 5 * i ≤ 6 * i + 5 by omega))
  have hZn := addF_ni P (by omega) (by omega) hXn hYn (q_abs hx hy hrk (i + 1) hi) hZ
  have a3 : tabO S L V st 1 p (3 * i + 4) = .ok (Q ++ [[Iv.zero]] ++ [[pwI 0]] ++ [[Z]]) := tab_ok a2 (row_known (m := 1) (f := fun _ => Z) fun j hj => by
   obtain rfl : j = 0 := by omega
   rw [hL.m i (by omega)]
   have e1 : (Q ++ [[Iv.zero]] ++ [[pwI 0]]).getD (3 * i) [] = [D] := by rw [List.append_assoc]; exact (gd_old (by omega)).trans hD
   have e2 : (Q ++ [[Iv.zero]] ++ [[pwI 0]]).getD (3 * i + 2) [] = [pwI 0] := by rw [List.append_assoc]; exact gd_at (m := 3 * i + 1) (k := 1) hl
   simp only [nextO, stepO]
   simp only [Int.toNat_natCast, e1, e2]
   simp
   show thn (mulF S D (V (3 * i + 2)) p) (fun X => thn (mulF S (V (3 * i)) (pwI 0) p) fun y => addF S X y p) = _
   rw [hX]
   show thn (mulF S (V (3 * i)) (pwI 0) p) (fun y => addF S X y p) = _
   rw [hY]
   exact hZ)
  refine ⟨_, by rw [show 3 * (i + 1) + 1 = 3 * i + 4 by omega]; exact a3, ?_, Z, ?_, ?_, hZn⟩
  ·rw [List.append_assoc, List.append_assoc]
   exact (gd_old (by omega)).trans h0
  ·rw [List.append_assoc, List.append_assoc]
   exact gd_at (m := 3 * i + 1) (k := 2) hl
  ·rw [show 6 * (i + 1) = 6 * i + 5 + 1 by omega]
   exact hZb
theorem mline_of {N : Nat} (hN : N < 3 * k + 1) : N = 0 ∨ ∃ i, i < k ∧ (N = 3 * i + 1 ∨ N = 3 * i + 2 ∨ N = 3 * i + 3) := by
 by_cases h : N = 0
 ·exact .inl h
 ·exact .inr ⟨(N - 1) / 3, by omega, by omega⟩
theorem mean_may (hk : k ≤ 5) (hL : MeaT k L d) (hd : Rts S k d r) {O : Nat → Int} (hO : O 0 = ((3 * k : Nat) : Int)) : mayT S.K ⟨3 * k + 1, L, 1, O⟩ 1 0 0 = true := by
 refine mayT_iff.2 ⟨by show 3 * k + 1 ≤ 200; omega, by show 1 ≤ 200; omega, fun j hj => ?_, fun j hj => ?_⟩
 ·have bz : sameI Iv.zero Iv.zero = true := by decide
  rcases mline_of (k := k) hj with rfl | ⟨i, hi, rfl | rfl | rfl⟩
  ·show mayLn S.K (L 0) _ _ _ _ = true
   rw [hL.z]
   simp [mayLn, bareB, bz, belowB]
  ·show mayLn S.K (L (3 * i + 1)) _ _ _ _ = true
   rw [hL.c i hi]
   simp [mayLn, mayI_point (hd i hi).1.1]
  ·show mayLn S.K (L (3 * i + 2)) _ _ _ _ = true
   rw [hL.s i hi]
   simp [mayLn, bareB, bz, belowB]
   omega
  ·show mayLn S.K (L (3 * i + 3)) _ _ _ _ = true
   rw [hL.m i hi]
   simp [mayLn, bareB, bz, belowB]
   omega
 ·have hj : j < 1 := hj
  obtain rfl : j = 0 := by omega
  show belowB (O 0) ((3 * k + 1 : Nat) : Int) = true
  rw [hO]
  exact belowB_iff.2 ⟨by omega, by omega⟩
theorem mean_mayE (hI : mayI S.K (E.X 0) = true) (hE : E.nx = 1) (hE2 : E.nu = 0 ∧ E.np = 0) (hE3 : E.t = Iv.zero) : mayE S.K E = true := by
 refine mayE_iff.2 ⟨by rw [hE3]; exact mayI_point Rw.zero_may, fun i hi => ?_, fun i hi => by omega, fun i hi => by omega⟩
 obtain rfl : i = 0 := by omega
 exact hI
/-- what slope tells of it -/
theorem grad_mean (hk : k ≤ 5) (hp : 20 ≤ p ∧ p ≤ 80) (hL : MeaT k L d) (hd : Rts S k d r) (hx : x.natAbs ≤ 16) (hy : y.natAbs ≤ 16) (hI : Bo S 3 4 (E.X 0)) (h1 : Ni S 3 x (E.X 0)) (h2 : Ni S 3 y (E.X 0)) (hE : E.nx = 1) (hE2 : E.nu = 0 ∧ E.np = 0) (hE3 : E.t = Iv.zero) {O : Nat → Int} (hO : O 0 = ((3 * k : Nat) : Int)) :
  ∃ R D, gradO S ⟨3 * k + 1, L, 1, O⟩ E p = .ok (R, [[D]]) ∧ Bo S (3 * k) (6 * k) D ∧ Ni S (3 * k) (qF r x y k) D := by
 obtain ⟨V, hV, hVk⟩ := mean_vals (E := E) (p := p) hk ⟨by omega, by omega⟩ hL hd hx hy hI h1 h2 k (Nat.le_refl k)
 have hlin : linesO S ⟨3 * k + 1, L, 1, O⟩ E p = .ok V := by
  rw [lines_yes ⟨by omega, by omega, by rw [hE, hE2.1, hE2.2]; exact mean_may hk hL hd hO, mean_mayE (bo_may hI) hE hE2 hE3⟩]
  exact hV
 have hN : ∀ j, j < 1 → namB L (3 * k + 1) j = true := fun j hj => by
  obtain rfl : j = 0 := by omega
  unfold namB
  rw [List.any_eq_true]
  refine ⟨0, List.mem_range.2 (by omega), ?_⟩
  rw [hL.z]
  simp
 have hask := ask_all hN
 obtain ⟨Q, hQ, _, D, hD, hDb, hDn⟩ := mean_tab (p := p) hk ⟨by omega, by omega⟩ hL hd hx hy hVk (st := fun k => ([0] : List Int).getD k 0) rfl k (Nat.le_refl k)
 refine ⟨outsL V ⟨3 * k + 1, L, 1, O⟩, D, ?_, hDb, hDn⟩
 unfold gradO
 rw [hlin]
 show thn (tabO S L (fun i => V.getD i Iv.zero) (fun j => (askS (namB L (3 * k + 1)) E.nx).1.getD j 0) (askS (namB L (3 * k + 1)) E.nx).1.length p (3 * k + 1)) _ = _
 rw [hE, hask]
 show thn (tabO S L (fun i => V.getD i Iv.zero) (fun j => ([0] : List Int).getD j 0) 1 p (3 * k + 1)) _ = _
 rw [hQ]
 show Except.ok (_, [[(Q.getD (O 0).toNat []).getD 0 Iv.zero]]) = _
 rw [hO, Int.toNat_natCast, hD]
 rfl
/-- at a number the values are the product's own -/
theorem mean_pt (hk : k ≤ 5) (hL : MeaT k L d) (hd : Rts S k d r) (hx : x.natAbs ≤ 16) {a : Rw} (ha : At S 3 x a) (hX : E.X 0 = ⟨a, a⟩) : ∀ i, i ≤ k →
  ∃ R, linO S L E 200 (3 * i + 1) = .ok R ∧ R.getD 0 Iv.zero = ⟨a, a⟩ ∧ ∃ c, R.getD (3 * i) Iv.zero = ⟨c, c⟩ ∧ At S (3 * (i + 1)) (pF r x i) c
 | 0, _ => by
  refine ⟨[⟨a, a⟩], lin_ok (Q := []) rfl ?_, rfl, a, rfl, ha⟩
  rw [hL.z]
  simp only [valO]
  simp
  rw [hX]
  exact out_pt ⟨by decide, by decide⟩ ha.1 (Nat.le_trans (at_blen ha (by omega) (L := 5) (by omega) (by omega)) (by decide))
 | i + 1, hi => by
  obtain ⟨Q, hQ, h0, c, hc, hat⟩ := mean_pt hk hL hd hx ha hX i (by omega)
  have P : (1 : Int) ≤ 200 ∧ (200 : Int) ≤ 2000 := ⟨by decide, by decide⟩
  have hl := lin_len hQ
  obtain ⟨hr, hr8⟩ := hd i (by omega)
  have hrk : ∀ j, j < k → (r j).natAbs ≤ 8 := fun j hj => (hd j hj).2
  have a1 : linO S L E 200 (3 * i + 2) = .ok (Q ++ [(⟨d i, d i⟩ : Iv)]) := lin_ok hQ (by
   rw [hL.c i (by omega)]
   simp only [valO]
   simp
   exact out_pt P hr.1 (Nat.le_trans (at_blen hr (by omega) (L := 5) (by omega) (by omega)) (by decide)))
  obtain ⟨b, hb, hbl⟩ := at_has S (f := 3) (L := 6) (z := x - r i) (by omega) (by omega) (by omega)
  have a2 : linO S L E 200 (3 * i + 3) = .ok (Q ++ [(⟨d i, d i⟩ : Iv)] ++ [(⟨b, b⟩ : Iv)]) := lin_ok a1 (by
   rw [hL.s i (by omega)]
   simp only [valO]
   have e1 : (Q ++ [(⟨d i, d i⟩ : Iv)]).getD 0 Iv.zero = ⟨a, a⟩ := (gd_old (by omega)).trans h0
   have e2 : (Q ++ [(⟨d i, d i⟩ : Iv)]).getD (3 * i + 1) Iv.zero = ⟨d i, d i⟩ := gd_at (k := 0) hl
   simp only [Int.toNat_natCast, Int.toNat_zero, e1, e2]
   simp
   exact subF_pt P ha hr hb (Nat.le_trans hbl (by decide)))
  obtain ⟨e, he, hel⟩ := at_has S (f := 3 * (i + 1) + 3) (L := 5 * k + 5) (z := pF r x i * (x - r i)) (by omega) (by omega) (Nat.lt_of_le_of_lt (p_abs hx hrk (i + 1) hi) (Nat.pow_lt_pow_right (by omega) (by omega)))
  have a3 : linO S L E 200 (3 * i + 4) = .ok (Q ++ [(⟨d i, d i⟩ : Iv)] ++ [(⟨b, b⟩ : Iv)] ++ [(⟨e, e⟩ : Iv)]) := lin_ok a2 (by
   rw [hL.m i (by omega)]
   simp only [valO]
   have e1 : (Q ++ [(⟨d i, d i⟩ : Iv)] ++ [(⟨b, b⟩ : Iv)]).getD (3 * i) Iv.zero = ⟨c, c⟩ := by rw [List.append_assoc]; exact (gd_old (by omega)).trans hc
   have e2 : (Q ++ [(⟨d i, d i⟩ : Iv)] ++ [(⟨b, b⟩ : Iv)]).getD (3 * i + 2) Iv.zero = ⟨b, b⟩ := by rw [List.append_assoc]; exact gd_at (m := 3 * i + 1) (k := 1) hl
   simp only [Int.toNat_natCast, e1, e2]
   simp
   exact mulF_pt P hat hb he (Nat.le_trans hel (by show 5 * k + 5 ≤ 200; omega)))
  refine ⟨_, by rw [show 3 * (i + 1) + 1 = 3 * i + 4 by omega]; exact a3, ?_, e, ?_, by rw [show 3 * (i + 1 + 1) = 3 * (i + 1) + 3 by omega]; exact he⟩
  ·rw [List.append_assoc, List.append_assoc]
   exact (gd_old (by omega)).trans h0
  ·rw [List.append_assoc, List.append_assoc]
   exact gd_at (m := 3 * i + 1) (k := 2) hl
theorem eval_mean (hk : k ≤ 5) (hL : MeaT k L d) (hd : Rts S k d r) (hx : x.natAbs ≤ 16) {a : Rw} (ha : At S 3 x a) (hX : E.X 0 = ⟨a, a⟩) (hE : E.nx = 1) (hE2 : E.nu = 0 ∧ E.np = 0) (hE3 : E.t = Iv.zero) {O : Nat → Int} (hO : O 0 = ((3 * k : Nat) : Int)) :
  ∃ c, evalO S ⟨3 * k + 1, L, 1, O⟩ E 200 = .ok [⟨c, c⟩] ∧ At S (3 * (k + 1)) (pF r x k) c := by
 obtain ⟨R, hR, _, c, hc, hat⟩ := mean_pt (E := E) hk hL hd hx ha hX k (Nat.le_refl k)
 refine ⟨c, ?_, hat⟩
 unfold evalO
 rw [lines_yes ⟨by decide, by decide, by rw [hE, hE2.1, hE2.2]; exact mean_may hk hL hd hO, mean_mayE (by rw [hX]; exact mayI_point ha.1) hE hE2 hE3⟩]
 show thn (linO S L E 200 (3 * k + 1)) _ = _
 rw [hR]
 show Except.ok [R.getD (O 0).toNat Iv.zero] = _
 rw [hO, Int.toNat_natCast, hc]
/-- so between the two the values differ by a number of the derivative times theirs -/
theorem mean_in {D : Iv} (hxy : x ≤ y) (hD : Bo S (3 * k) (6 * k) D) (hN : Ni S (3 * k) (qF r x y k) D) : ∃ u v : Int, At S (3 * k) u D.lo ∧ At S (3 * k) v D.hi ∧ u.natAbs ≤ 2 ^ (6 * k) ∧ v.natAbs ≤ 2 ^ (6 * k) ∧ u * (y - x) ≤ pF r y k - pF r x k ∧ pF r y k - pF r x k ≤ v * (y - x) := by
 obtain ⟨u, v, h1, h2, _, h4, h5⟩ := hD
 obtain ⟨a, ha, hw⟩ := hN
 obtain ⟨_, _, h7, h8⟩ := withinI_iff.1 hw
 refine ⟨u, v, h1, h2, h4, h5, ?_, ?_⟩
 ·rw [pq_diff]
  exact Int.mul_le_mul_of_nonneg_right ((at_le h1 ha).1 h7) (by omega)
 ·rw [pq_diff]
  exact Int.mul_le_mul_of_nonneg_right ((at_le ha h2).1 h8) (by omega)
end
end Go.Proofs.YtlpjlmophlikeaaGreatDoor
