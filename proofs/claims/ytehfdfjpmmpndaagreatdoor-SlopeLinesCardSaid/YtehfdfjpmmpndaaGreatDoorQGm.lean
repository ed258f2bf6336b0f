/-
  Sums of states with numbers: what their tape's lines are, what slope tells of it.
-/
import Derived.Test.YtehfdfjpmmpndaaGreatDoorQGi
import Derived.Test.YtehfdfjpmmpndaaGreatDoorQGp
import Derived.Test.YtehfdfjpmmpndaaGreatDoorQGj
namespace Go.Proofs.YtehfdfjpmmpndaaGreatDoor
variable {b : Nat} {w : World}
def gB (i : Nat) : Nat := 4 * i - 1
structure LinT (n : Nat) (L : Nat → Ln) (d : Nat → Rw) : Prop where
 c : ∀ i, i < n → L (gB i) = ⟨1, 0, 0, ⟨d i, d i⟩⟩
 s : ∀ i, i < n → L (gB i + 1) = ⟨3, (i : Int), 0, Iv.zero⟩
 m : ∀ i, i < n → L (gB i + 2) = ⟨8, (gB i : Nat), ((gB i + 1 : Nat) : Int), Iv.zero⟩
 a : ∀ i, i < n → 1 ≤ i → L (gB i + 3) = ⟨6, ((gB i - 1 : Nat) : Int), ((gB i + 2 : Nat) : Int), Iv.zero⟩
def Egh (S : Sc) (n : Nat) (d : Nat → Rw) : Prop := ∀ i, i < n → ∃ z : Int, At S 3 z (d i) ∧ z.natAbs ≤ 32
theorem gd_at {α : Type} {R T : List α} {m k : Nat} {z : α} (h : R.length = m) : (R ++ T).getD (m + k) z = T.getD k z := by
 subst h
 rw [List.getD_eq_getElem?_getD, List.getElem?_append_right (Nat.le_add_right _ _), Nat.add_sub_cancel_left, ← List.getD_eq_getElem?_getD]
theorem gd_old {α : Type} {R T : List α} {j : Nat} {z : α} (h : j < R.length) : (R ++ T).getD j z = R.getD j z := by
 rw [List.getD_eq_getElem?_getD, List.getElem?_append_left h, ← List.getD_eq_getElem?_getD]
theorem gd_map {f : Nat → Iv} {n k : Nat} (h : k < n) : ((List.range n).map f).getD k Iv.zero = f k := by
 rw [List.getD_eq_getElem?_getD]
 simp [h]
section
variable {S : Sc} {f g : Nat} {x y z : Int} {a b c : Rw} {p : Int}
theorem p20 (hp : 20 ≤ p ∧ p ≤ 80) (h : At S f z a) (hf : f ≤ 1000) (hz : z.natAbs < 2 ^ 20) : blen (val W a.l) ≤ p.toNat := Nat.le_trans (at_blen h hf (L := 20) (by omega) hz) (by omega)
theorem at_pw : At S 0 1 (pwQ 0) := at_of (m := 1) (j := 0) rfl (by omega) (by omega)
theorem mul_one (hp : 20 ≤ p ∧ p ≤ 80) (h : At S 3 z a) (hz : z.natAbs ≤ 32) : mulF S ⟨a, a⟩ (pwI 0) p = .ok ⟨a, a⟩ :=
 mulF_pt (f := 3) (g := 0) ⟨by omega, by omega⟩ h at_pw (by rw [Int.mul_one]; exact h) (p20 hp h (by omega) (by omega))
theorem mul_nil (hp : 20 ≤ p ∧ p ≤ 80) (h : At S 3 z a) : mulF S ⟨a, a⟩ Iv.zero p = .ok Iv.zero :=
 mulF_pt (f := 3) (g := 0) ⟨by omega, by omega⟩ h at_zero (by rw [Int.mul_zero]; exact at_zero) (p20 (S := S) (f := 0) (z := 0) hp at_zero (by omega) (by decide))
theorem nil_mul (hp : 20 ≤ p ∧ p ≤ 80) (h : At S 3 z a) : mulF S Iv.zero ⟨a, a⟩ p = .ok Iv.zero :=
 mulF_pt (f := 0) (g := 3) ⟨by omega, by omega⟩ at_zero h (by rw [Int.zero_mul]; exact at_zero) (p20 (S := S) (f := 0) (z := 0) hp at_zero (by omega) (by decide))
theorem nil_add (hp : 20 ≤ p ∧ p ≤ 80) (h : At S 3 z a) (hz : z.natAbs ≤ 32) : addF S Iv.zero ⟨a, a⟩ p = .ok ⟨a, a⟩ :=
 addF_pt (f := 3) ⟨by omega, by omega⟩ at_zero h (by rw [Int.zero_add]; exact h) (p20 hp h (by omega) (by omega))
theorem add_nil (hp : 20 ≤ p ∧ p ≤ 80) (h : At S 3 z a) (hz : z.natAbs ≤ 32) : addF S ⟨a, a⟩ Iv.zero p = .ok ⟨a, a⟩ :=
 addF_pt (f := 3) ⟨by omega, by omega⟩ h at_zero (by rw [Int.add_zero]; exact h) (p20 hp h (by omega) (by omega))
theorem nil_nil (hp : 20 ≤ p ∧ p ≤ 80) : addF S Iv.zero Iv.zero p = .ok Iv.zero := nil_add (S := S) (z := 0) hp at_zero (by decide)
end
section
variable {S : Sc} {n : Nat} {L : Nat → Ln} {d x : Nat → Rw} {E : En} {p : Int}
theorem lin_three (hp : 20 ≤ p ∧ p ≤ 80) (hL : LinT n L d) (hd : Egh S n d) (hX : ∀ i, i < n → E.X i = ⟨x i, x i⟩) (hx : Egh S n x) {i : Nat} (hi : i < n) {R : List Iv} (h : linO S L E p (gB i) = .ok R) :
  ∃ c s, linO S L E p (gB i + 3) = .ok (R ++ [⟨d i, d i⟩, ⟨x i, x i⟩, ⟨c, c⟩]) ∧ At S 6 s c ∧ s.natAbs ≤ 1024 := by
 obtain ⟨z, hz, bz⟩ := hd i hi
 obtain ⟨u, hu, bu⟩ := hx i hi
 have hl := lin_len h
 have hb : (z * u).natAbs ≤ 1024 := by rw [Int.natAbs_mul]; exact Nat.mul_le_mul bz bu
 obtain ⟨c, hc, _⟩ := at_has S (f := 6) (L := 20) (z := z * u) (by omega) (by omega) (by omega)
 refine ⟨c, z * u, ?_, hc, hb⟩
 have h1 : linO S L E p (gB i + 1) = .ok (R ++ [⟨d i, d i⟩]) := lin_ok h (by
  rw [hL.c i hi]
  simp only [valO]
  simp
  exact out_pt ⟨by omega, by omega⟩ hz.1 (p20 hp hz (by omega) (by omega)))
 have h2 : linO S L E p (gB i + 2) = .ok (R ++ [⟨d i, d i⟩] ++ [⟨x i, x i⟩]) := lin_ok h1 (by
  rw [hL.s i hi]
  simp only [valO]
  simp
  rw [hX i hi]
  exact out_pt ⟨by omega, by omega⟩ hu.1 (p20 hp hu (by omega) (by omega)))
 have h3 : linO S L E p (gB i + 3) = .ok (R ++ [⟨d i, d i⟩] ++ [⟨x i, x i⟩] ++ [⟨c, c⟩]) := lin_ok h2 (by
  rw [hL.m i hi]
  simp only [valO]
  have e1 : (R ++ [(⟨d i, d i⟩ : Iv)] ++ [(⟨x i, x i⟩ : Iv)]).getD (gB i) Iv.zero = ⟨d i, d i⟩ := by rw [List.append_assoc]; exact gd_at (k := 0) hl
  have e2 : (R ++ [(⟨d i, d i⟩ : Iv)] ++ [(⟨x i, x i⟩ : Iv)]).getD (gB i + 1) Iv.zero = ⟨x i, x i⟩ := by rw [List.append_assoc]; exact gd_at (k := 1) hl
  simp only [Int.toNat_natCast, e1, e2]
  simp
  exact mulF_pt (f := 3) (g := 3) ⟨by omega, by omega⟩ hz hu hc (p20 hp hc (by omega) (by omega)))
 simpa [List.append_assoc] using h3
theorem lin_vals (hn : n ≤ 6) (hp : 20 ≤ p ∧ p ≤ 80) (hL : LinT n L d) (hd : Egh S n d) (hX : ∀ i, i < n → E.X i = ⟨x i, x i⟩) (hx : Egh S n x) : ∀ i, i < n →
  ∃ R c s, linO S L E p (4 * i + 3) = .ok R ∧ R.getD (4 * i + 2) Iv.zero = ⟨c, c⟩ ∧ At S 6 s c ∧ s.natAbs ≤ 1024 * (i + 1) ∧ ∀ q, q ≤ i → R.getD (gB q) Iv.zero = ⟨d q, d q⟩ ∧ R.getD (gB q + 1) Iv.zero = ⟨x q, x q⟩
 | 0, hi => by
  obtain ⟨c, s, h1, h2, h3⟩ := lin_three (R := []) hp hL hd hX hx hi rfl
  refine ⟨_, c, s, h1, rfl, h2, h3, fun q hq => ?_⟩
  obtain rfl : q = 0 := by omega
  exact ⟨rfl, rfl⟩
 | i + 1, hi => by
  obtain ⟨R, c0, s0, h1, h2, h3, h4, h5⟩ := lin_vals hn hp hL hd hX hx i (by omega)
  have hB : gB (i + 1) = 4 * i + 3 := by unfold gB; omega
  have hl := lin_len h1
  rw [← hB] at h1
  obtain ⟨c, s, g1, g2, g3⟩ := lin_three hp hL hd hX hx hi h1
  obtain ⟨e, he, _⟩ := at_has S (f := 6) (L := 20) (z := s0 + s) (by omega) (by omega) (by omega)
  have h6 : linO S L E p (gB (i + 1) + 4) = .ok (R ++ [⟨d (i + 1), d (i + 1)⟩, ⟨x (i + 1), x (i + 1)⟩, ⟨c, c⟩] ++ [⟨e, e⟩]) := lin_ok g1 (by
   rw [hL.a (i + 1) hi (by omega)]
   simp only [valO]
   have e1 : (R ++ [(⟨d (i + 1), d (i + 1)⟩ : Iv), (⟨x (i + 1), x (i + 1)⟩ : Iv), (⟨c, c⟩ : Iv)]).getD (gB (i + 1) - 1) Iv.zero = ⟨c0, c0⟩ := by
    rw [gd_old (by omega), show gB (i + 1) - 1 = 4 * i + 2 by omega]; exact h2
   have e2 : (R ++ [(⟨d (i + 1), d (i + 1)⟩ : Iv), (⟨x (i + 1), x (i + 1)⟩ : Iv), (⟨c, c⟩ : Iv)]).getD (gB (i + 1) + 2) Iv.zero = ⟨c, c⟩ := gd_at (k := 2) (by omega)
   simp only [Int.toNat_natCast, e1, e2]
   simp
   exact addF_pt (f := 6) ⟨by omega, by omega⟩ h3 g2 he (p20 hp he (by omega) (by omega)))
  refine ⟨_, e, s0 + s, by rw [show 4 * (i + 1) + 3 = gB (i + 1) + 4 by omega]; exact h6, ?_, he, by omega, fun q hq => ?_⟩
  ·rw [show 4 * (i + 1) + 2 = gB (i + 1) + 3 + 0 by omega]
   exact gd_at (by simp; omega)
  rw [List.append_assoc]
  rcases Nat.lt_or_ge q (i + 1) with hq2 | hq2
  ·have : gB q + 1 < R.length := by unfold gB; omega
   rw [gd_old (by omega), gd_old this]
   exact h5 q (by omega)
  obtain rfl : q = i + 1 := by omega
  exact ⟨gd_at (m := gB (i + 1)) (k := 0) (by omega), gd_at (m := gB (i + 1)) (k := 1) (by omega)⟩
theorem row_known {l : Ln} {V : Nat → Iv} {Q : Nat → List Iv} {c : Iv} {st : Nat → Int} {f : Nat → Iv} : ∀ {m : Nat}, (∀ k, k < m → nextO S l V (fun j => (Q j).getD k Iv.zero) c (st k) p = .ok (f k)) → rowO S l V Q c st p m = .ok ((List.range m).map f)
 | 0, _ => rfl
 | m + 1, h => by
  rw [List.range_succ, List.map_append]
  exact row_ok (row_known fun k hk => h k (by omega)) (h m (by omega))
def dAll (n : Nat) (d : Nat → Rw) (i : Nat) : List Iv := (List.range n).map fun k => if k ≤ i then ⟨d k, d k⟩ else Iv.zero
theorem tab_three (hp : 20 ≤ p ∧ p ≤ 80) (hL : LinT n L d) (hd : Egh S n d) (hx : Egh S n x) {V : Nat → Iv} {st : Nat → Int} (hst : ∀ k, k < n → st k = (k : Int)) {i : Nat} (hi : i < n) (hV1 : V (gB i) = ⟨d i, d i⟩) (hV2 : V (gB i + 1) = ⟨x i, x i⟩) {Q : List (List Iv)} (h : tabO S L V st n p (gB i) = .ok Q) :
  ∃ R1 R2, tabO S L V st n p (gB i + 3) = .ok (Q ++ [R1, R2, (List.range n).map fun k => if k = i then ⟨d k, d k⟩ else Iv.zero]) := by
 obtain ⟨z, hz, bz⟩ := hd i hi
 obtain ⟨u, hu, bu⟩ := hx i hi
 have hl := (tab_len h).1
 have h1 : tabO S L V st n p (gB i + 1) = .ok (Q ++ [(List.range n).map fun _ => Iv.zero]) := tab_ok h (row_known fun k hk => by
  rw [hL.c i hi]
  simp [nextO])
 have h2 : tabO S L V st n p (gB i + 2) = .ok (Q ++ [(List.range n).map fun _ => Iv.zero] ++ [(List.range n).map fun k => if k = i then pwI 0 else Iv.zero]) := tab_ok h1 (row_known fun k hk => by
  rw [hL.s i hi, hst k hk]
  simp only [nextO]
  by_cases hk2 : k = i
  ·simp [hk2]
  simp [hk2]
  exact fun h => absurd (by omega) hk2)
 have h3 : tabO S L V st n p (gB i + 3) = .ok (Q ++ [(List.range n).map fun _ => Iv.zero] ++ [(List.range n).map fun k => if k = i then pwI 0 else Iv.zero] ++ [(List.range n).map fun k => if k = i then ⟨d k, d k⟩ else Iv.zero]) := tab_ok h2 (row_known fun k hk => by
  rw [hL.m i hi]
  have e1 : (Q ++ [(List.range n).map fun _ => Iv.zero] ++ [(List.range n).map fun k => if k = i then pwI 0 else Iv.zero]).getD (gB i) [] = (List.range n).map fun _ => Iv.zero := by rw [List.append_assoc]; exact gd_at (k := 0) hl
  have e2 : (Q ++ [(List.range n).map fun _ => Iv.zero] ++ [(List.range n).map fun k => if k = i then pwI 0 else Iv.zero]).getD (gB i + 1) [] = (List.range n).map fun k => if k = i then pwI 0 else Iv.zero := by rw [List.append_assoc]; exact gd_at (k := 1) hl
  simp only [nextO, stepO]
  simp only [Int.toNat_natCast, e1, e2, hV1, hV2, gd_map hk]
  simp
  show thn (mulF S Iv.zero ⟨x i, x i⟩ p) (fun X => thn (mulF S ⟨d i, d i⟩ (if k = i then pwI 0 else Iv.zero) p) fun y => addF S X y p) = _
  rw [nil_mul hp hu]
  show thn (mulF S ⟨d i, d i⟩ (if k = i then pwI 0 else Iv.zero) p) (fun y => addF S Iv.zero y p) = _
  by_cases hk2 : k = i
  ·rw [if_pos hk2, if_pos hk2, mul_one hp hz bz, hk2]
   exact nil_add hp hz bz
  rw [if_neg hk2, if_neg hk2, mul_nil hp hz]
  exact nil_nil hp)
 exact ⟨_, _, by simpa [List.append_assoc] using h3⟩
theorem tab_rows (hn : n ≤ 6) (hp : 20 ≤ p ∧ p ≤ 80) (hL : LinT n L d) (hd : Egh S n d) (hx : Egh S n x) {V : Nat → Iv} {st : Nat → Int} (hst : ∀ k, k < n → st k = (k : Int)) (hV : ∀ q, q < n → V (gB q) = ⟨d q, d q⟩ ∧ V (gB q + 1) = ⟨x q, x q⟩) : ∀ i, i < n →
  ∃ Q, tabO S L V st n p (4 * i + 3) = .ok Q ∧ Q.getD (4 * i + 2) [] = dAll n d i
 | 0, hi => by
  obtain ⟨R1, R2, h⟩ := tab_three (Q := []) hp hL hd hx hst hi (hV 0 hi).1 (hV 0 hi).2 rfl
  refine ⟨_, h, ?_⟩
  show (List.range n).map _ = dAll n d 0
  unfold dAll
  simp only [Nat.le_zero]
 | i + 1, hi => by
  obtain ⟨Q, h1, h2⟩ := tab_rows hn hp hL hd hx hst hV i (by omega)
  have hB : gB (i + 1) = 4 * i + 3 := by unfold gB; omega
  have hl := (tab_len h1).1
  rw [← hB] at h1
  obtain ⟨R1, R2, h3⟩ := tab_three hp hL hd hx hst hi (hV _ hi).1 (hV _ hi).2 h1
  have h4 : tabO S L V st n p (gB (i + 1) + 4) = .ok (Q ++ [R1, R2, (List.range n).map fun k => if k = i + 1 then ⟨d k, d k⟩ else Iv.zero] ++ [dAll n d (i + 1)]) := tab_ok h3 (row_known fun k hk => by
   rw [hL.a (i + 1) hi (by omega)]
   have e1 : (Q ++ [R1, R2, (List.range n).map fun k => if k = i + 1 then ⟨d k, d k⟩ else Iv.zero]).getD (gB (i + 1) - 1) [] = dAll n d i := by
    rw [gd_old (by omega), show gB (i + 1) - 1 = 4 * i + 2 by omega]; exact h2
   have e2 : (Q ++ [R1, R2, (List.range n).map fun k => if k = i + 1 then ⟨d k, d k⟩ else Iv.zero]).getD (gB (i + 1) + 2) [] = (List.range n).map fun k => if k = i + 1 then ⟨d k, d k⟩ else Iv.zero := gd_at (k := 2) (by omega)
   obtain ⟨z, hz, bz⟩ := hd k hk
   simp only [nextO, stepO]
   simp only [Int.toNat_natCast, e1, e2]
   unfold dAll
   simp only [gd_map hk]
   simp
   rcases (show k ≤ i ∨ k = i + 1 ∨ i + 1 < k by omega) with c | c | c
   ·rw [if_pos c, if_neg (by omega), if_pos (by omega)]
    exact add_nil hp hz bz
   ·rw [if_neg (by omega), if_pos c, if_pos (by omega)]
    exact nil_add hp hz bz
   rw [if_neg (by omega), if_neg (by omega), if_neg (by omega)]
   exact nil_nil hp)
  refine ⟨_, by rw [show 4 * (i + 1) + 3 = gB (i + 1) + 4 by omega]; exact h4, ?_⟩
  rw [show 4 * (i + 1) + 2 = gB (i + 1) + 3 + 0 by omega]
  exact gd_at (by simp; omega)
theorem ask_all {N : Nat → Bool} : ∀ {n : Nat}, (∀ j, j < n → N j = true) → askS N n = ((List.range n).map fun (j : Nat) => (j : Int), (List.range n).map fun (j : Nat) => (j : Int), -1)
 | 0, _ => rfl
 | n + 1, h => by
  unfold askS
  dsimp only
  rw [ask_all fun j hj => h j (by omega), if_pos (h n (by omega))]
  simp [List.range_succ]
theorem line_of {N : Nat} (hN : N < 4 * n - 1) : ∃ i, i < n ∧ (N = gB i ∨ N = gB i + 1 ∨ N = gB i + 2 ∨ 1 ≤ i ∧ N = gB i + 3) := by
 unfold gB
 by_cases h : N < 3
 ·exact ⟨0, by omega, by omega⟩
 exact ⟨(N + 1) / 4, by omega, by omega⟩
theorem grad_lines (hn : 1 ≤ n ∧ n ≤ 6) (hp : 20 ≤ p ∧ p ≤ 80) (hL : LinT n L d) (hd : Egh S n d) (hx : Egh S n x) (hX : ∀ i, i < n → E.X i = ⟨x i, x i⟩) (hE : E.nx = n) (hE2 : E.nu = 0 ∧ E.np = 0) (hE3 : E.t = Iv.zero) {O : Nat → Int} (hO : O 0 = ((4 * n - 2 : Nat) : Int)) :
  ∃ R, gradO S ⟨4 * n - 1, L, 1, O⟩ E p = .ok (R, [(List.range n).map fun k => ⟨d k, d k⟩]) := by
 obtain ⟨V, c, s, h1, _, _, _, hV⟩ := lin_vals hn.2 hp hL hd hX hx (n - 1) (by omega)
 have hV2 : ∀ q, q < n → (fun i => V.getD i Iv.zero) (gB q) = ⟨d q, d q⟩ ∧ (fun i => V.getD i Iv.zero) (gB q + 1) = ⟨x q, x q⟩ := fun q hq => hV q (by omega)
 have hmT : mayT S.K ⟨4 * n - 1, L, 1, O⟩ E.nx E.nu E.np = true := by
  refine mayT_iff.2 ⟨by show 4 * n - 1 ≤ 200; omega, by show 1 ≤ 200; omega, fun j hj => ?_, fun j hj => ?_⟩
  ·obtain ⟨i, hi, hj⟩ := line_of (n := n) hj
   rw [hE]
   obtain ⟨z, hz, _⟩ := hd i hi
   have bz : sameI Iv.zero Iv.zero = true := by decide
   rcases hj with rfl | rfl | rfl | ⟨h0, rfl⟩
   ·show mayLn S.K (L (gB i)) _ _ _ _ = true
    rw [hL.c i hi]
    simp [mayLn, mayI_point hz.1]
   ·show mayLn S.K (L (gB i + 1)) _ _ _ _ = true
    rw [hL.s i hi]
    simp [mayLn, bareB, bz, belowB]
    omega
   ·show mayLn S.K (L (gB i + 2)) _ _ _ _ = true
    rw [hL.m i hi]
    simp [mayLn, bareB, bz, belowB]
    omega
   show mayLn S.K (L (gB i + 3)) _ _ _ _ = true
   rw [hL.a i hi h0]
   simp [mayLn, bareB, bz, belowB]
   omega
  have hj : j < 1 := hj
  obtain rfl : j = 0 := by omega
  show belowB (O 0) ((4 * n - 1 : Nat) : Int) = true
  rw [hO]
  exact belowB_iff.2 ⟨by omega, by omega⟩
 have hmE : mayE S.K E = true := by
  refine mayE_iff.2 ⟨by rw [hE3]; exact mayI_point Rw.zero_may, fun i hi => ?_, fun i hi => by omega, fun i hi => by omega⟩
  rw [hX i (by omega)]
  obtain ⟨z, hz, _⟩ := hx i (by omega)
  exact mayI_point hz.1
 have hlin : linesO S ⟨4 * n - 1, L, 1, O⟩ E p = .ok V := by
  rw [lines_yes ⟨by omega, by omega, hmT, hmE⟩]
  show linO S L E p (4 * n - 1) = _
  rw [show 4 * n - 1 = 4 * (n - 1) + 3 by omega]
  exact h1
 have hN : ∀ j, j < n → namB L (4 * n - 1) j = true := fun j hj => by
  unfold namB
  rw [List.any_eq_true]
  refine ⟨gB j + 1, List.mem_range.2 (by unfold gB; omega), ?_⟩
  rw [hL.s j hj]
  simp
 have hask := ask_all hN
 obtain ⟨Q, hQ, hQ2⟩ := tab_rows hn.2 hp hL hd hx (V := fun i => V.getD i Iv.zero) (st := fun k => ((List.range n).map fun (j : Nat) => (j : Int)).getD k 0) (fun k hk => by
  rw [List.getD_eq_getElem?_getD]
  simp [hk]) hV2 (n - 1) (by omega)
 refine ⟨outsL V ⟨4 * n - 1, L, 1, O⟩, ?_⟩
 unfold gradO
 rw [hlin]
 show thn (tabO S L (fun i => V.getD i Iv.zero) (fun k => (askS (namB L (4 * n - 1)) E.nx).1.getD k 0) (askS (namB L (4 * n - 1)) E.nx).1.length p (4 * n - 1)) _ = _
 rw [hE, hask]
 simp only [List.length_map, List.length_range]
 rw [show 4 * n - 1 = 4 * (n - 1) + 3 by omega, hQ]
 show Except.ok (_, [((List.range n).map fun (j : Nat) => (j : Int)).map fun k => (Q.getD (O 0).toNat []).getD k.toNat Iv.zero]) = _
 rw [hO, Int.toNat_natCast, show 4 * n - 2 = 4 * (n - 1) + 2 by omega, hQ2, List.map_map]
 congr 3
 refine List.map_congr_left fun k hk => ?_
 have hk2 := List.mem_range.1 hk
 show (dAll n d (n - 1)).getD ((k : Nat) : Int).toNat Iv.zero = _
 rw [Int.toNat_natCast]
 unfold dAll
 rw [gd_map hk2, if_pos (by omega)]
end
open Go.RowKit
def Celg {α : Type} (R : World → α → List Value → Prop) (w : World) : List α → List Value → Prop
 | [], xs => xs = []
 | x :: L, xs => ∃ c ys, xs = c ++ ys ∧ R w x c ∧ Celg R w L ys
class Kin {α : Type} (R : World → α → List Value → Prop) (k : Nat) : Prop where
 len : ∀ {w x c}, R w x c → c.length = k
 one : ∀ {w x c}, R w x c → ∀ u ∈ c, u.oneCell' = true ∧ NoL u
 mv : ∀ {w w' : World} {x c}, (∀ A n c l, Rd w .u64 W A n c l → Rd w' .u64 W A n c l) → R w x c → R w' x c
section
variable {α : Type} {R : World → α → List Value → Prop} {k : Nat}
theorem Celg.mv [hk : Kin R k] {w w' : World} (f : ∀ A n c l, Rd w .u64 W A n c l → Rd w' .u64 W A n c l) : ∀ {L : List α} {xs : List Value}, Celg R w L xs → Celg R w' L xs
 | [], _, h => h
 | _ :: _, _, ⟨c, ys, h1, h2, h3⟩ => ⟨c, ys, h1, hk.mv f h2, Celg.mv (hk := hk) f h3⟩
theorem Celg.app {w : World} : ∀ {L N : List α} {xs ys : List Value}, Celg R w L xs → Celg R w N ys → Celg R w (L ++ N) (xs ++ ys)
 | [], _, _, _, h, h' => by
  have h : _ = [] := h
  subst h
  exact h'
 | _ :: _, _, _, _, ⟨c, zs, h1, h2, h3⟩, h' => ⟨c, zs ++ _, by rw [h1, List.append_assoc], h2, h3.app h'⟩
theorem Celg.len [hk : Kin R k] {w : World} : ∀ {L : List α} {xs : List Value}, Celg R w L xs → xs.length = L.length * k
 | [], _, h => by
  have h : _ = [] := h
  subst h
  simp
 | x :: L, _, ⟨c, ys, h1, h2, h3⟩ => by
  rw [h1, List.length_append, hk.len h2, Celg.len (hk := hk) h3, List.length_cons, Nat.succ_mul, Nat.add_comm]
theorem Celg.all [hk : Kin R k] {w : World} : ∀ {L : List α} {xs : List Value}, Celg R w L xs → ∀ u ∈ xs, u.oneCell' = true ∧ NoL u
 | [], _, h, u, hu => by
  have h : _ = [] := h
  rw [h] at hu
  cases hu
 | x :: L, _, ⟨c, ys, h1, h2, h3⟩, u, hu => by
  rw [h1] at hu
  rcases List.mem_append.1 hu with hu | hu
  ·exact hk.one h2 u hu
  exact Celg.all (hk := hk) h3 u hu
theorem Celg.get [hk : Kin R k] {w : World} : ∀ {L : List α} {xs : List Value}, Celg R w L xs → ∀ (i : Nat) (x : α), L[i]? = some x → ∃ c, R w x c ∧ ∀ (j : Nat) (u : Value), c[j]? = some u → xs[i * k + j]? = some u
 | [], _, _, i, x, hx => by simp at hx
 | y :: L, _, ⟨c, ys, h1, h2, h3⟩, 0, x, hx => by
  have : y = x := by simpa using hx
  subst this
  refine ⟨c, h2, fun j u hu => ?_⟩
  have hj : j < c.length := (List.getElem?_eq_some_iff.1 hu).1
  rw [h1, Nat.zero_mul, Nat.zero_add, List.getElem?_append_left hj]
  exact hu
 | y :: L, _, ⟨c, ys, h1, h2, h3⟩, i + 1, x, hx => by
  obtain ⟨c', g1, g2⟩ := Celg.get (hk := hk) h3 i x (by simpa using hx)
  refine ⟨c', g1, fun j u hu => ?_⟩
  have hc := hk.len h2
  rw [h1, List.getElem?_append_right (by rw [hc, Nat.succ_mul]; omega), hc, Nat.succ_mul, show i * k + k + j - k = i * k + j by omega]
  exact g2 j u hu
def GRow (R : World → α → List Value → Prop) (E : TypeId) (k : Nat) (w : World) (base : Nat) (v : Value) (L : List α) : Prop := ∃ xs, RowN w base E k v L.length xs ∧ Celg R w L xs
variable {E : TypeId} {base : Nat} {v : Value} {L : List α}
theorem GRow.next [hk : Kin R k] {w X w2 : World} (h : GRow R E k w base v L) (b : Below X.heap.size X w2) (e : X.heap = w.heap) : GRow R E k w2 base v L := by
 obtain ⟨xs, h1, h2⟩ := h
 exact ⟨xs, h1.next b e, Celg.mv (hk := hk) (fun _ _ _ _ hr => hr.next b e) h2⟩
theorem grow_nil (w : World) (base : Nat) : GRow R E k w base (.slice none 0 0) [] := ⟨[], rown_nil .., rfl⟩
theorem GRow.lt {w : World} (h : GRow R E k w base v L) : ∀ q, v.ownBlock = some q → base ≤ q ∧ q < w.heap.size := by
 obtain ⟨xs, h1, _⟩ := h
 exact h1.lt
theorem GRow.no (h : GRow R E k w base v L) : ∀ q, v.ownBlock = some q → ∀ i x : Nat, w.cell? ⟨q, i, none⟩ ≠ some (.int .u64 (x : Int)) := by
 obtain ⟨xs, h1, _⟩ := h
 exact h1.2
theorem GRow.kind (h : GRow R E k w base v L) : ∀ q, v.ownBlock = some q → ∃ cs, w.heap[q]? = some (.cells cs E (0, 0)) := by
 intro q hq
 obtain ⟨xs, ⟨⟨_, h1⟩, _⟩, _⟩ := h
 rcases h1 with ⟨rfl, _⟩ | ⟨g, cap, cur, rfl, _, hg, _⟩
 ·cases hq
 injection hq with hq
 subst hq
 exact ⟨cur, hg⟩
theorem GRow.grown [hk : Kin R k] {w w' : World} {row : Option Nat} (h : GRow R E k w base v L) (hg : w.grownBy w' row) (hne : ∀ q, v.ownBlock = some q → row ≠ some q) (hno : ∀ q, row = some q → ∀ i x : Nat, w.cell? ⟨q, i, none⟩ ≠ some (.int .u64 (x : Int))) : GRow R E k w' base v L := by
 have hlt := h.lt
 obtain ⟨xs, h1, h2⟩ := h
 refine ⟨xs, h1.same fun q hq => hg.block q (hlt q hq).2 (fun e => hne q hq e.symm), Celg.mv (hk := hk) (fun A n c l hr => ?_) h2⟩
 cases row with
 | none => exact hr.grownNone hg
 | some g => exact hr.grown hg (hr.off (hno g rfl))
theorem GRow.form [hk : Kin R k] (h : GRow R E k w base v L) : ∃ A c, v = .slice A L.length c ∧ L.length ≤ c ∧ c ≤ 9223372036854775807 ∧ (L ≠ [] → ∃ g, A = some ⟨g, 0, none⟩ ∧ ∀ (i : Nat) (x : α), L[i]? = some x → ∃ cs, R w x cs ∧ ∀ (j : Nat) (u : Value), cs[j]? = some u → w.cell? ⟨g, i * k + j, none⟩ = some u) := by
 obtain ⟨xs, h1, h2⟩ := h
 rcases h1.1.2 with ⟨hv, h3⟩ | ⟨g, cap, cur, hv, hb, hg, hc, hm, _, ht⟩
 ·exact ⟨none, 0, by rw [hv, h3], by omega, by omega, fun h0 => absurd (List.eq_nil_of_length_eq_zero h3) h0⟩
 refine ⟨some ⟨g, 0, none⟩, cap, hv, hc, by unfold maxLen at hm; omega, fun _ => ⟨g, rfl, fun i x hx => ?_⟩⟩
 obtain ⟨cs, g1, g2⟩ := Celg.get (hk := hk) h2 i x hx
 refine ⟨cs, g1, fun j u hu => ?_⟩
 have := h1.1.cells (g := g) (by rw [hv]; rfl) (i * k + j) u (g2 j u hu)
 rwa [show (⟨g, 0, none⟩ : Addr).add (i * k + j) = ⟨g, i * k + j, none⟩ by unfold Addr.add; split <;> simp_all] at this
theorem appg_run [hk : Kin R k] {T : TypeId} {z : Value} {bytes : Nat} (hT : Tryz.prog.underlying T = some (.slice E)) (hE : (Tryz.prog.info? E).map (fun i => (i.zero, i.size, i.bytes)) = some (some z, k, bytes)) (hz : z.cells.size = k) (hzn : ∀ u ∈ z.cells, NoL u) (hk0 : 0 < k) (hbt : bytes ≤ 1000)
  (ty : TypeId) {b m cc : Nat} {N : List α} {news : List Value} (h : GRow R E k w base v L) (hc : ∀ (j : Nat) (u : Value), news[j]? = some u → w.cell? ⟨b, j, none⟩ = some u) (hN : Celg R w N news) (hm : N.length = m) (hm0 : 0 < m) (hL : L.length + m ≤ 1000) (hbase : base ≤ w.heap.size) :
  ∃ v' w', (Builtin.append_ #[T, T] ty #[v, .slice (some ⟨b, 0, none⟩) m cc]).run Tryz.prog w = .ok v' w' ∧ GRow R E k w' base v' (L ++ N) ∧ w.grownBy w' v.ownBlock ∧ (v'.ownBlock = v.ownBlock ∨ v'.ownBlock = some w.heap.size) := by
 obtain ⟨xs, h1, h2⟩ := h
 obtain ⟨i0, hi, hz0, hz1, hz2⟩ := info_partsD hE
 have hall := Celg.all (hk := hk) hN
 obtain ⟨v', w', hr', g1, g2, g3⟩ := run_append_n (ty := ty) (c := cc) hT hi hz0 hz1 hz2 hz hk0 hzn h1 (a := ⟨b, 0, none⟩) (m := m) (news := news) (by rw [Celg.len (hk := hk) hN, hm])
  (fun j u hu => by
   rw [show (⟨b, 0, none⟩ : Addr).add j = ⟨b, j, none⟩ by unfold Addr.add; split <;> simp_all]
   exact hc j u hu) (fun u hu => (hall u hu).1) (fun u hu => (hall u hu).2) hm0 (by unfold maxLen; omega) (Nat.le_trans (Nat.mul_le_mul hL hbt) (by decide)) hbase
 have hfar : ∀ (B : Option Addr) (k d : Nat) (l : List Nat), Rd w .u64 W B k d l → Rd w' .u64 W B k d l := fun B k d l hB => by
  cases hv : v.ownBlock with
  | none => rw [hv] at g2; exact hB.grownNone g2
  | some g => rw [hv] at g2; exact hB.grown g2 (hB.off (h1.2 g hv))
 exact ⟨v', w', hr', ⟨xs ++ news, by rw [List.length_append, hm]; exact g1, (Celg.mv (hk := hk) hfar h2).app (Celg.mv (hk := hk) hfar hN)⟩, g2, g3⟩
end
def rD (w : World) (x : Rw) (c : List Value) : Prop := ∃ A n m, c = [.bool x.s, .slice A n m, .int .i64 x.e] ∧ Rd w .u64 W A n m x.l
def rL (w : World) (x : Ln) (c : List Value) : Prop := ∃ A n a B m b, c = [.int .i64 x.op, .int .i64 x.a, .int .i64 x.b, .bool x.k.lo.s, .slice A n a, .int .i64 x.k.lo.e, .bool x.k.hi.s, .slice B m b, .int .i64 x.k.hi.e] ∧ Rd w .u64 W A n a x.k.lo.l ∧ Rd w .u64 W B m b x.k.hi.l
instance : Kin rD 3 where
 len := fun ⟨_, _, _, h, _⟩ => by rw [h]; rfl
 one := fun ⟨_, _, _, h, _⟩ u hu => by
  rw [h] at hu
  simp at hu
  rcases hu with rfl | rfl | rfl <;> exact ⟨rfl, fun _ h => by cases h⟩
 mv := fun f ⟨A, n, m, h, r⟩ => ⟨A, n, m, h, f _ _ _ _ r⟩
instance : Kin rL 9 where
 len := fun ⟨_, _, _, _, _, _, h, _⟩ => by rw [h]; rfl
 one := fun ⟨_, _, _, _, _, _, h, _⟩ u hu => by
  rw [h] at hu
  simp at hu
  rcases hu with rfl | rfl | rfl | rfl | rfl | rfl | rfl | rfl | rfl <;> exact ⟨rfl, fun _ h => by cases h⟩
 mv := fun f ⟨A, n, a, B, m, b, h, r, s⟩ => ⟨A, n, a, B, m, b, h, f _ _ _ _ r, f _ _ _ _ s⟩
def DRow : World → Nat → Value → List Rw → Prop := GRow rD 28 3
def LRow : World → Nat → Value → List Ln → Prop := GRow rL 46 9
theorem infoDy : (Tryz.prog.info? 28).map (fun i => (i.zero, i.size, i.bytes)) = some (some (.agg #[.bool false, .slice none 0 0, .int .i64 0]), 3, 40) := by kernel_rfl
theorem infoLn : (Tryz.prog.info? 46).map (fun i => (i.zero, i.size, i.bytes)) = some (some (.agg #[.int .i64 0, .int .i64 0, .int .i64 0, .bool false, .slice none 0 0, .int .i64 0, .bool false, .slice none 0 0, .int .i64 0]), 9, 104) := by kernel_rfl
section
variable {w : World} {base : Nat} {v : Value}
theorem appd_run {L : List Rw} {x : Rw} {A : Option Addr} {n c : Nat} (ty : TypeId) (h : DRow w base v L) (hb : Blk w b #[.bool x.s, .slice A n c, .int .i64 x.e] 28) (hr : Rd w .u64 W A n c x.l) (hL : L.length ≤ 900) (hbase : base ≤ w.heap.size) :
  ∃ v' w', (Builtin.append_ #[53, 53] ty #[v, .slice (some ⟨b, 0, none⟩) 1 1]).run Tryz.prog w = .ok v' w' ∧ DRow w' base v' (L ++ [x]) ∧ w.grownBy w' v.ownBlock ∧ (v'.ownBlock = v.ownBlock ∨ v'.ownBlock = some w.heap.size) :=
 appg_run (R := rD) (N := [x]) (news := [.bool x.s, .slice A n c, .int .i64 x.e]) Tryz.underlying53 infoDy rfl (fun u hu => by simp [Value.cells] at hu; rcases hu with rfl | rfl | rfl <;> exact fun _ h => by cases h) (by decide) (by decide) ty h
  (fun j u hu => hb.at j (by rw [← hu]; simp)) ⟨_, [], (List.append_nil _).symm, ⟨A, n, c, rfl, hr⟩, rfl⟩ rfl (by decide) (by omega) hbase
theorem lrow_rd {L : List Ln} {d : Ln} (h : LRow w base v L) : ∃ A c, v = .slice A L.length c ∧ RdL w A L.length c (fun i => L.getD i d) := by
 obtain ⟨A, c, hv, hc, hm, hat⟩ := GRow.form h
 refine ⟨A, c, hv, ⟨hc, hm, fun hn => ?_⟩⟩
 obtain ⟨g, hA, hg⟩ := hat (fun e => hn (by rw [e]; rfl))
 refine ⟨g, 0, hA, fun i hi => ?_⟩
 have e : L[i]? = some (L.getD i d) := by rw [List.getD_eq_getElem?_getD, List.getElem?_eq_getElem hi]; rfl
 obtain ⟨cs, ⟨A1, n1, c1, A2, n2, c2, rfl, r1, r2⟩, hat⟩ := hg i _ e
 rw [Nat.zero_add]
 exact ⟨A1, n1, c1, A2, n2, c2, ⟨hat 0 _ rfl, hat 1 _ rfl, hat 2 _ rfl, hat 3 _ rfl, hat 4 _ rfl, hat 5 _ rfl, hat 6 _ rfl, hat 7 _ rfl, hat 8 _ rfl⟩, r1, r2⟩
end
theorem zln : ∀ {w : World} {op a b : Int}, rL w ⟨op, a, b, Iv.zero⟩ [.int .i64 op, .int .i64 a, .int .i64 b, .bool false, .slice none 0 0, .int .i64 0, .bool false, .slice none 0 0, .int .i64 0] := fun {w} {_} {_} {_} => ⟨none, 0, 0, none, 0, 0, rfl, rd_nil0 w, rd_nil0 w⟩
section
variable {w : World} {base : Nat} {v : Value} {L : List Ln}
theorem app1_run {op x y : Int} (ty : TypeId) (h : LRow w base v L) (hb : Blk w b #[.int .i64 op, .int .i64 x, .int .i64 y, .bool false, .slice none 0 0, .int .i64 0, .bool false, .slice none 0 0, .int .i64 0] 46) (hL : L.length ≤ 900) (hbase : base ≤ w.heap.size) :
  ∃ v' w', (Builtin.append_ #[22, 22] ty #[v, .slice (some ⟨b, 0, none⟩) 1 1]).run Tryz.prog w = .ok v' w' ∧ LRow w' base v' (L ++ [⟨op, x, y, Iv.zero⟩]) ∧ w.grownBy w' v.ownBlock ∧ (v'.ownBlock = v.ownBlock ∨ v'.ownBlock = some w.heap.size) :=
 appg_run (R := rL) (N := [⟨op, x, y, Iv.zero⟩]) (news := [.int .i64 op, .int .i64 x, .int .i64 y, .bool false, .slice none 0 0, .int .i64 0, .bool false, .slice none 0 0, .int .i64 0]) Tryz.underlying22 infoLn rfl (fun u hu => by simp [Value.cells] at hu; rcases hu with rfl | rfl | rfl | rfl | rfl | rfl | rfl | rfl | rfl <;> exact fun _ h => by cases h) (by decide) (by decide) ty h
  (fun j u hu => hb.at j (by rw [← hu]; simp)) ⟨_, [], (List.append_nil _).symm, zln, rfl⟩ rfl (by decide) (by omega) hbase
theorem app3_run {d : Iv} {i k k1 : Int} {A : Option Addr} {n c : Nat} {B : Option Addr} {m e : Nat} (ty : TypeId) (h : LRow w base v L) (hb : Blk w b #[.int .i64 1, .int .i64 0, .int .i64 0, .bool d.lo.s, .slice A n c, .int .i64 d.lo.e, .bool d.hi.s, .slice B m e, .int .i64 d.hi.e,
   .int .i64 3, .int .i64 i, .int .i64 0, .bool false, .slice none 0 0, .int .i64 0, .bool false, .slice none 0 0, .int .i64 0, .int .i64 8, .int .i64 k, .int .i64 k1, .bool false, .slice none 0 0, .int .i64 0, .bool false, .slice none 0 0, .int .i64 0] 46)
  (r1 : Rd w .u64 W A n c d.lo.l) (r2 : Rd w .u64 W B m e d.hi.l) (hL : L.length ≤ 900) (hbase : base ≤ w.heap.size) :
  ∃ v' w', (Builtin.append_ #[22, 22] ty #[v, .slice (some ⟨b, 0, none⟩) 3 3]).run Tryz.prog w = .ok v' w' ∧ LRow w' base v' (L ++ [⟨1, 0, 0, d⟩, ⟨3, i, 0, Iv.zero⟩, ⟨8, k, k1, Iv.zero⟩]) ∧ w.grownBy w' v.ownBlock ∧ (v'.ownBlock = v.ownBlock ∨ v'.ownBlock = some w.heap.size) :=
 appg_run (R := rL) (N := [⟨1, 0, 0, d⟩, ⟨3, i, 0, Iv.zero⟩, ⟨8, k, k1, Iv.zero⟩]) (news := [.int .i64 1, .int .i64 0, .int .i64 0, .bool d.lo.s, .slice A n c, .int .i64 d.lo.e, .bool d.hi.s, .slice B m e, .int .i64 d.hi.e,
   .int .i64 3, .int .i64 i, .int .i64 0, .bool false, .slice none 0 0, .int .i64 0, .bool false, .slice none 0 0, .int .i64 0, .int .i64 8, .int .i64 k, .int .i64 k1, .bool false, .slice none 0 0, .int .i64 0, .bool false, .slice none 0 0, .int .i64 0]) Tryz.underlying22 infoLn rfl (fun u hu => by simp [Value.cells] at hu; rcases hu with rfl | rfl | rfl | rfl | rfl | rfl | rfl | rfl | rfl <;> exact fun _ h => by cases h) (by decide) (by decide) ty h
  (fun j u hu => hb.at j (by rw [← hu]; simp)) ⟨_, _, rfl, ⟨A, n, c, B, m, e, rfl, r1, r2⟩, _, _, rfl, zln, _, [], (List.append_nil _).symm, zln, rfl⟩ rfl (by decide) (by omega) hbase
end
end Go.Proofs.YtehfdfjpmmpndaaGreatDoor
