/-
 Known answers of sums, products and rounded numbers; contract of the statements' own told of layer 6: it returns true, at this translation. Condition: the slices read as limbs, the table of math/bits reads as its text lays it.
-/
import Derived.Test.YtlpjlmophlikeaaGreatDoorPLj
import Derived.Test.YtlpjlmophlikeaaGreatDoorPEa
import Derived.Test.YtlpjlmophlikeaaGreatDoorPGg
import Derived.Test.YtlpjlmophlikeaaGreatDoorPGi
namespace Go.Proofs.YtlpjlmophlikeaaGreatDoor
open Go.RowKit

section
variable {S : Sc} {a b c : Rw} {p : Int} {up : Bool}
theorem Rw.of_self (h : a.may = true) : Rw.of a.s (val W a.l) a.e = a := Rw.ext rfl (dig_may a.lt (mayD_of a.lt h).1) rfl
theorem rnd_fit (hp : 1 ≤ p ∧ p ≤ 2000) (ha : a.may = true) (hb : blen (val W a.l) ≤ p.toNat) : rndO S a p up = .ok a := by
 obtain ⟨k, s, m, e, h⟩ := rndR_some (a := a) (p := p) (up := up)
 have h2 := h
 unfold rndR at h2
 rw [if_pos ⟨hp, ha⟩] at h2
 obtain ⟨rfl, rfl, rfl, rfl⟩ := rd_fit (by omega) (mayD_of a.lt ha).2 hb h2
 exact ((S.is _ _ _ _ _ rndR_only h).1 rfl).trans (congrArg Except.ok (Rw.of_self ha))
theorem addO_is (ha : a.may = true) (hb : b.may = true) (hc : c.may = true) (hv : c.v S.K = a.v S.K + b.v S.K) : addO S a b = .ok c := by
 obtain ⟨k, s, m, e, h⟩ := addR_some (s := a.s) (t := b.s) (e := a.e) (f := b.e) S.big a.lt b.lt
 have h2 := h
 unfold addR at h2
 rw [if_pos ⟨ha, hb⟩] at h2
 obtain ⟨rfl, rfl, rfl, rfl⟩ := nmv_hit S.big h2 (mayD_of c.lt hc).2 hv
 exact ((S.is _ _ _ _ _ addR_only h).1 rfl).trans (congrArg Except.ok (Rw.of_self hc))
theorem mulO_is (ha : a.may = true) (hb : b.may = true) (hc : c.may = true) (hv : c.v S.K * ((2 ^ S.K : Nat) : Int) = a.v S.K * b.v S.K) : mulO S a b = .ok c := by
 obtain ⟨k, s, m, e, h⟩ := mulR_some (s := a.s) (l := a.l) (e := a.e) (t := b.s) (r := b.l) (f := b.e)
 have h2 := h
 unfold mulR at h2
 rw [if_pos ⟨ha, hb⟩] at h2
 have r1 := okd_ge S.big (mayD_of a.lt ha).2
 have r2 := okd_ge S.big (mayD_of b.lt hb).2
 have hk := S.big
 have hm := vz_mul (K := S.K) (s := a.s) (t := b.s) (m := val W a.l) (n := val W b.l) r1.2.2 r2.2.2 (by omega)
 have hv2 : c.v S.K = vz S.K (a.s != b.s) (val W a.l * val W b.l) (a.e + b.e) := Int.eq_of_mul_eq_mul_right (Int.ne_of_gt pos_of_pow) (hv.trans hm)
 obtain ⟨rfl, rfl, rfl, rfl⟩ := nmv_hit S.big ⟨_, _, _, by omega, rfl, h2⟩ (mayD_of c.lt hc).2 hv2
 exact ((S.is _ _ _ _ _ mulR_only h).1 rfl).trans (congrArg Except.ok (Rw.of_self hc))
end
def qm : Rw := Rw.of true 1 0
def q2 : Rw := Rw.of false 1 1
def q4 : Rw := Rw.of false 1 2
end Go.Proofs.YtlpjlmophlikeaaGreatDoor
namespace Go.Proofs.YtlpjlmophlikeaaGreatDoor

/-- a is z / 2^f -/
def At (S : Sc) (f : Nat) (z : Int) (a : Rw) : Prop := a.may = true ∧ a.v S.K * ((2 ^ f : Nat) : Int) = z * ((2 ^ S.K : Nat) : Int)
section
variable {S : Sc} {f g L : Nat} {x y z : Int} {a b c : Rw} {p : Int}
theorem two_pos (f : Nat) : (0 : Int) < ((2 ^ f : Nat) : Int) := Int.natCast_pos.2 (Nat.pow_pos (by decide))
theorem vz_at_neg {K : Nat} {s : Bool} {M : Nat} (hf : f ≤ K) : vz K s M (-(f : Int)) * ((2 ^ f : Nat) : Int) = sg s * (M : Int) * ((2 ^ K : Nat) : Int) := by
 unfold vz
 have e1 : (-(f : Int) + (K : Int)).toNat = K - f := by omega
 rw [e1, Int.mul_assoc, Int.mul_assoc, ← Int.natCast_mul, ← Int.natCast_mul, Nat.mul_assoc, ← Nat.pow_add, show K - f + f = K by omega]
theorem at_has (S : Sc) {f L : Nat} {z : Int} (hf : f ≤ 1000) (hL : L ≤ 600) (hz : z.natAbs < 2 ^ L) : ∃ a, At S f z a ∧ blen (val Go.Proofs.YtlpjlmophlikeaaGreatDoor.W a.l) ≤ L := by
 have hK := S.big
 have hb : blen z.natAbs ≤ L := (blen_le _ _).2 hz
 obtain ⟨k, s', m', e', h⟩ := nm_total (decide (z < 0)) z.natAbs (-(f : Int))
 have hk := nm_good h (by omega) (by omega) (by omega)
 subst hk
 refine ⟨Rw.of s' m' e', ⟨Rw.of_may (nm_ok h), ?_⟩, ?_⟩
 ·rw [Rw.of_v, nm_value (by omega) h, vz_at_neg (by omega)]
  congr 1
  unfold sg
  by_cases h0 : z < 0
  ·rw [decide_eq_true h0]; simp; omega
  ·rw [decide_eq_false h0]; simp; omega
 ·have e1 : val Go.Proofs.YtlpjlmophlikeaaGreatDoor.W (Rw.of s' m' e').l = m' := val_dig W_two m'
  rw [e1]
  rcases nm_small_e h (by omega) with h2 | ⟨h2, _⟩
  ·exact Nat.le_trans h2.1 hb
  ·rw [h2, blen_zero]; exact Nat.zero_le _
theorem at_fun (h : At S f z a) (h' : At S f z b) : a = b := one_of_v S.big h.1 h'.1 (Int.eq_of_mul_eq_mul_right (Int.ne_of_gt (two_pos f)) (h.2.trans h'.2.symm))
theorem at_blen (h : At S f z a) (hf : f ≤ 1000) (hL : L ≤ 600) (hz : z.natAbs < 2 ^ L) : blen (val Go.Proofs.YtlpjlmophlikeaaGreatDoor.W a.l) ≤ L := by
 obtain ⟨b, hb, h2⟩ := at_has S hf hL hz
 rw [at_fun h hb]
 exact h2
theorem at_zero : At S f 0 Rw.zero := ⟨Rw.zero_may, by rw [show Rw.zero.v S.K = 0 from vz_zero _ _ _]; simp⟩
theorem at_neg (h : At S f z a) : At S f (-z) (negQ a) := ⟨by rw [negQ_may]; exact h.1, by rw [negQ_v h.1, Int.neg_mul, h.2, Int.neg_mul]⟩
theorem at_of {m j : Nat} (h1 : m % 2 = 1) (h2 : m < 100) (hj : j ≤ 1000) : At S 0 ((m * 2 ^ j : Nat) : Int) (Rw.of false m (j : Int)) := ⟨Rw.of_may (okd_small h1 h2 (by omega) (by omega)), by rw [Rw.of_v, vz_2]; simp⟩
theorem at_add (ha : At S f x a) (hb : At S f y b) (hc : At S f (x + y) c) : addO S a b = .ok c := addO_is ha.1 hb.1 hc.1 (Int.eq_of_mul_eq_mul_right (Int.ne_of_gt (two_pos f)) (by rw [hc.2, Int.add_mul, Int.add_mul, ha.2, hb.2]))
theorem at_mul (ha : At S f x a) (hb : At S g y b) (hc : At S (f + g) (x * y) c) : mulO S a b = .ok c := by
 refine mulO_is ha.1 hb.1 hc.1 (Int.eq_of_mul_eq_mul_right (Int.ne_of_gt (two_pos (f + g))) ?_)
 have h3 := hc.2
 rw [Int.mul_right_comm, h3, Nat.pow_add, Int.natCast_mul]
 have e1 : a.v S.K * b.v S.K * (((2 ^ f : Nat) : Int) * ((2 ^ g : Nat) : Int)) = a.v S.K * ((2 ^ f : Nat) : Int) * (b.v S.K * ((2 ^ g : Nat) : Int)) := by
  rw [Int.mul_assoc, Int.mul_assoc, Int.mul_left_comm (b.v S.K)]
 rw [e1, ha.2, hb.2, Int.mul_assoc, Int.mul_assoc, Int.mul_assoc, Int.mul_left_comm y]
theorem out_pt (hp : 1 ≤ p ∧ p ≤ 2000) (hc : c.may = true) (hl : blen (val Go.Proofs.YtlpjlmophlikeaaGreatDoor.W c.l) ≤ p.toNat) : outO S c c p = .ok ⟨c, c⟩ := by
 unfold outO
 rw [rnd_fit hp hc hl]
 show thn (rndO S c p true) _ = _
 rw [rnd_fit hp hc hl]
 rfl
theorem face2_pt {o : Except Int Iv} (hp : 1 ≤ p ∧ p ≤ 2000) (ha : a.may = true) (hb : b.may = true) : face2 S ⟨a, a⟩ ⟨b, b⟩ p o = o := by
 unfold face2 prec
 rw [mayI_point ha, mayI_point hb, decide_eq_true hp.1, decide_eq_true hp.2]
 rfl
theorem sum_pt (hp : 1 ≤ p ∧ p ≤ 2000) (h : addO S a b = .ok c) (hc : c.may = true) (hl : blen (val Go.Proofs.YtlpjlmophlikeaaGreatDoor.W c.l) ≤ p.toNat) : sumO S ⟨a, a⟩ ⟨b, b⟩ p = .ok ⟨c, c⟩ := by
 unfold sumO
 show thn (addO S a b) _ = _
 rw [h]
 show thn (rndO S c p false) _ = _
 rw [rnd_fit hp hc hl]
 show thn (rndO S c p true) _ = _
 rw [rnd_fit hp hc hl]
 rfl
theorem addF_pt (hp : 1 ≤ p ∧ p ≤ 2000) (ha : At S f x a) (hb : At S f y b) (hc : At S f (x + y) c) (hl : blen (val Go.Proofs.YtlpjlmophlikeaaGreatDoor.W c.l) ≤ p.toNat) : addF S ⟨a, a⟩ ⟨b, b⟩ p = .ok ⟨c, c⟩ := by
 unfold addF
 rw [face2_pt hp ha.1 hb.1]
 exact sum_pt hp (at_add ha hb hc) hc.1 hl
theorem subF_pt (hp : 1 ≤ p ∧ p ≤ 2000) (ha : At S f x a) (hb : At S f y b) (hc : At S f (x - y) c) (hl : blen (val Go.Proofs.YtlpjlmophlikeaaGreatDoor.W c.l) ≤ p.toNat) : subF S ⟨a, a⟩ ⟨b, b⟩ p = .ok ⟨c, c⟩ := by
 unfold subF
 rw [face2_pt hp ha.1 hb.1]
 exact sum_pt (b := negQ b) hp (at_add ha (at_neg hb) (by rw [← Int.sub_eq_add_neg]; exact hc)) hc.1 hl
theorem mulF_pt (hp : 1 ≤ p ∧ p ≤ 2000) (ha : At S f x a) (hb : At S g y b) (hc : At S (f + g) (x * y) c) (hl : blen (val Go.Proofs.YtlpjlmophlikeaaGreatDoor.W c.l) ≤ p.toNat) : mulF S ⟨a, a⟩ ⟨b, b⟩ p = .ok ⟨c, c⟩ := by
 unfold mulF
 rw [face2_pt hp ha.1 hb.1]
 have h := at_mul ha hb hc
 have hcor : corO (mulO S) ⟨a, a⟩ ⟨b, b⟩ = .ok [c, c, c, c] := by
  unfold corO
  show thn (mulO S a b) (fun x => thn (mulO S a b) fun y => thn (mulO S a b) fun z => thn (mulO S a b) fun u => .ok [x, y, z, u]) = _
  rw [h]
  rfl
 have hl2 : ∀ z ∈ [c, c, c, c], z.may = true := fun z hz => by
  have : z = c := by simpa using hz
  rw [this]; exact hc.1
 have e1 : leaL S [c, c, c, c] = c := by simpa using (lea_of (S := S) (L := [c, c, c, c]) (List.cons_ne_nil _ _) hl2).1
 have e2 : greL S [c, c, c, c] = c := by simpa using (gre_of (S := S) (L := [c, c, c, c]) (List.cons_ne_nil _ _) hl2).1
 unfold mulI
 rw [hcor]
 show outO S (leaL S [c, c, c, c]) (greL S [c, c, c, c]) p = _
 rw [e1, e2]
 exact out_pt hp hc.1 hl
end
end Go.Proofs.YtlpjlmophlikeaaGreatDoor
namespace Go.Proofs.YtlpjlmophlikeaaGreatDoor

theorem gd_at {α : Type} {R T : List α} {m k : Nat} {z : α} (h : R.length = m) : (R ++ T).getD (m + k) z = T.getD k z := by
 subst h
 rw [List.getD_eq_getElem?_getD, List.getElem?_append_right (Nat.le_add_right _ _), Nat.add_sub_cancel_left, ← List.getD_eq_getElem?_getD]
theorem gd_old {α : Type} {R T : List α} {j : Nat} {z : α} (h : j < R.length) : (R ++ T).getD j z = R.getD j z := by
 rw [List.getD_eq_getElem?_getD, List.getElem?_append_left h, ← List.getD_eq_getElem?_getD]
section
variable {S : Sc} {f g : Nat} {x y z : Int} {a b c : Rw} {p : Int}
theorem at_pw : At S 0 1 (pwQ 0) := at_of (m := 1) (j := 0) rfl (by omega) (by omega)
end
section
variable {S : Sc} {n : Nat} {L : Nat → Ln} {d x : Nat → Rw} {E : En} {p : Int}
/-- a row whose every derivative is known -/
theorem row_known {l : Ln} {V : Nat → Iv} {Q : Nat → List Iv} {c : Iv} {st : Nat → Int} {f : Nat → Iv} : ∀ {m : Nat}, (∀ k, k < m → nextO S l V (fun j => (Q j).getD k Iv.zero) c (st k) p = .ok (f k)) → rowO S l V Q c st p m = .ok ((List.range m).map f)
 | 0, _ => rfl
 | m + 1, h => by
  rw [List.range_succ, List.map_append]
  exact row_ok (row_known fun k hk => h k (by omega)) (h m (by omega))
theorem ask_all {N : Nat → Bool} : ∀ {n : Nat}, (∀ j, j < n → N j = true) → askS N n = ((List.range n).map fun (j : Nat) => (j : Int), (List.range n).map fun (j : Nat) => (j : Int), -1)
 | 0, _ => rfl
 | n + 1, h => by
  unfold askS
  dsimp only
  rw [ask_all fun j hj => h j (by omega), if_pos (h n (by omega))]
  simp [List.range_succ]
end
end Go.Proofs.YtlpjlmophlikeaaGreatDoor
namespace Go.Proofs.YtlpjlmophlikeaaGreatDoor

section
variable {S : Sc} {f g m n : Nat} {x y z : Int} {a b c : Rw} {p : Int}
theorem at_low {L : Nat} (h : At S f z a) (hf : f ≤ 1000) (hL : L ≤ 600) (hz : z.natAbs < 2 ^ L) : -(f : Int) ≤ a.e ∧ a.e ≤ 600 ∧ blen (val Go.Proofs.YtlpjlmophlikeaaGreatDoor.W a.l) ≤ 600 ∧ (val Go.Proofs.YtlpjlmophlikeaaGreatDoor.W a.l) * 2 ^ (a.e + f).toNat = z.natAbs ∧ z = sg a.s * (z.natAbs : Int) := by
 have hK := S.big
 have hb : blen z.natAbs ≤ L := (blen_le _ _).2 hz
 obtain ⟨k, s', m', e', h9⟩ := nm_total (decide (z < 0)) z.natAbs (-(f : Int))
 have hk := nm_good h9 (by omega) (by omega) (by omega)
 subst hk
 have hb2 : At S f z (Rw.of s' m' e') := ⟨Rw.of_may (nm_ok h9), by
  rw [Rw.of_v, nm_value (by omega) h9, vz_at_neg (by omega)]
  congr 1
  unfold sg
  by_cases h0 : z < 0
  ·rw [decide_eq_true h0]; simp; omega
  ·rw [decide_eq_false h0]; simp; omega⟩
 have e0 := at_fun h hb2
 subst e0
 have e1 : val Go.Proofs.YtlpjlmophlikeaaGreatDoor.W (Rw.of s' m' e').l = m' := val_dig W_two m'
 rw [e1]
 have hbl := Nat.le_trans (at_blen hb2 hf hL hz) hL
 rw [e1] at hbl
 rcases h9 with ⟨h1, _, h3, h4, h5⟩ | ⟨j, q, hm, ⟨_, hc, _⟩ | ⟨_, _, hc, _⟩ | ⟨_, _, _, h3, h4, h5⟩⟩
 ·subst h3 h4 h5
  refine ⟨by show -(f : Int) ≤ 0; omega, by show (0 : Int) ≤ 600; omega, hbl, by rw [h1]; simp, by rw [h1]; simp; omega⟩
 ·cases hc
 ·cases hc
 ·subst h3 h4 h5
  have hj : j ≤ L := by
   have h2 : 2 ^ j < 2 ^ L := Nat.lt_of_le_of_lt (by rw [hm]; exact Nat.le_mul_of_pos_right _ (by omega)) hz
   exact Nat.le_of_lt ((Nat.pow_lt_pow_iff_right (by omega)).1 h2)
  refine ⟨by show -(f : Int) ≤ -(f : Int) + j; omega, by show -(f : Int) + j ≤ 600; omega, hbl, ?_, ?_⟩
  ·show (2 * q + 1) * 2 ^ (-(f : Int) + j + f).toNat = _
   rw [hm, show (-(f : Int) + j + f).toNat = j by omega, Nat.mul_comm]
  ·show z = sg (decide (z < 0)) * _
   unfold sg
   by_cases h0 : z < 0
   ·rw [decide_eq_true h0]; simp; omega
   ·rw [decide_eq_false h0]; simp; omega
theorem fits_pow {q j : Nat} (hq : 1 ≤ q) : Fits q (2 ^ j) := ⟨1, j, by simp, Nat.one_lt_two_pow (by omega)⟩
theorem rd_bound {q k j : Nat} (hq : 1 ≤ q) (h : k ≤ 2 ^ j) (u : Bool) : rdN q k u ≤ 2 ^ j := by
 cases u
 ·exact Nat.le_trans (rd_down_le _ _) h
 ·exact rd_least hq (fits_pow hq) h
/-- a rounding is told, and is of the same kind -/
theorem rnd_at (hp : 1 ≤ p ∧ p ≤ 2000) (h : At S f z a) (hf : f ≤ 1000) (hm : m ≤ 500) (hz : z.natAbs ≤ 2 ^ m) (up : Bool) : ∃ c u, rndO S a p up = .ok c ∧ At S f u c ∧ u.natAbs ≤ 2 ^ m := by
 have hK := S.big
 have hz2 : z.natAbs < 2 ^ (m + 1) := Nat.lt_of_le_of_lt hz (Nat.pow_lt_pow_right (by omega) (by omega))
 obtain ⟨l1, l2, l3, l4, l5⟩ := at_low h hf (by omega) hz2
 obtain ⟨k, s, m', e, hr⟩ := rndR_some (a := a) (p := p) (up := up)
 have h2 := hr
 unfold rndR at h2
 rw [if_pos ⟨hp, h.1⟩] at h2
 have h2 : Nm a.s (rdN p.toNat (val Go.Proofs.YtlpjlmophlikeaaGreatDoor.W a.l) (up != a.s)) a.e k s m' e := h2
 have hq : 1 ≤ p.toNat := by omega
 obtain ⟨T, hT⟩ : ∃ T : Nat, T = 600 := ⟨_, rfl⟩
 rw [← hT] at l3
 have hx : val Go.Proofs.YtlpjlmophlikeaaGreatDoor.W a.l ≤ 2 ^ T := Nat.le_of_lt ((blen_le _ _).1 l3)
 have hb := rd_bound hq hx (up != a.s)
 have hk := nm_good h2 (Nat.le_trans ((blen_le _ (T + 1)).2 (Nat.lt_of_le_of_lt hb (Nat.pow_lt_pow_right (by omega) (by omega)))) (by omega)) (by omega) (by omega)
 subst hk
 refine ⟨Rw.of s m' e, sg a.s * ((rdN p.toNat (val Go.Proofs.YtlpjlmophlikeaaGreatDoor.W a.l) (up != a.s) * 2 ^ (a.e + f).toNat : Nat) : Int), (S.is _ _ _ _ _ rndR_only hr).1 rfl, ⟨Rw.of_may (nm_ok h2), ?_⟩, ?_⟩
 ·rw [Rw.of_v, nm_value (by omega) h2]
  unfold vz
  rw [Int.mul_assoc, Int.mul_assoc, ← Int.natCast_mul, ← Int.natCast_mul, Nat.mul_assoc, Nat.mul_assoc, ← Nat.pow_add, ← Nat.pow_add, show (a.e + (S.K : Int)).toNat + f = (a.e + (f : Int)).toNat + S.K by omega]
 ·have e1 : (sg a.s * ((rdN p.toNat (val Go.Proofs.YtlpjlmophlikeaaGreatDoor.W a.l) (up != a.s) * 2 ^ (a.e + f).toNat : Nat) : Int)).natAbs = rdN p.toNat (val Go.Proofs.YtlpjlmophlikeaaGreatDoor.W a.l) (up != a.s) * 2 ^ (a.e + f).toNat := by
   rw [Int.natAbs_mul, Int.natAbs_natCast]
   unfold sg
   cases a.s <;> simp
  rw [e1]
  by_cases h0 : val Go.Proofs.YtlpjlmophlikeaaGreatDoor.W a.l = 0
  ·rw [h0, rd_zero, Nat.zero_mul]; exact Nat.zero_le _
  ·have hle : (a.e + f).toNat ≤ m := by
    refine (Nat.pow_le_pow_iff_right (a := 2) (by omega)).1 (Nat.le_trans ?_ hz)
    rw [← l4]
    exact Nat.le_mul_of_pos_left _ (by omega)
   have h3 : val Go.Proofs.YtlpjlmophlikeaaGreatDoor.W a.l ≤ 2 ^ (m - (a.e + f).toNat) := by
    refine Nat.le_of_mul_le_mul_right ?_ (Nat.pow_pos (n := (a.e + f).toNat) (show 0 < 2 by omega))
    rw [l4, ← Nat.pow_add, show m - (a.e + f).toNat + (a.e + f).toNat = m by omega]
    exact hz
   have h4 := Nat.mul_le_mul_right (2 ^ (a.e + f).toNat) (rd_bound hq h3 (up != a.s))
   rw [← Nat.pow_add, show m - (a.e + f).toNat + (a.e + f).toNat = m by omega] at h4
   exact h4
theorem at_le (h : At S f x a) (h' : At S f y b) : a.v S.K ≤ b.v S.K ↔ x ≤ y := by
 have e1 := h.2
 have e2 := h'.2
 constructor
 ·intro hv
  refine Int.le_of_mul_le_mul_right ?_ (two_pos S.K)
  rw [← e1, ← e2]
  exact Int.mul_le_mul_of_nonneg_right hv (Int.le_of_lt (two_pos f))
 ·intro hv
  refine Int.le_of_mul_le_mul_right ?_ (two_pos f)
  rw [e1, e2]
  exact Int.mul_le_mul_of_nonneg_right hv (Int.le_of_lt (two_pos S.K))
/-- an interval between two such, not great -/
def Bo (S : Sc) (f m : Nat) (I : Iv) : Prop := ∃ u v : Int, At S f u I.lo ∧ At S f v I.hi ∧ u ≤ v ∧ u.natAbs ≤ 2 ^ m ∧ v.natAbs ≤ 2 ^ m
/-- a number lies in it -/
def Ni (S : Sc) (f : Nat) (z : Int) (I : Iv) : Prop := ∃ a, At S f z a ∧ withinI S.K ⟨a, a⟩ I = true
variable {I J R : Iv}
theorem bo_may (h : Bo S f m I) : mayI S.K I = true := by
 obtain ⟨u, v, h1, h2, h3, _⟩ := h
 exact mayI_iff.2 ⟨h1.1, h2.1, (at_le h1 h2).2 h3⟩
theorem at_sum {L : Nat} (hf : f ≤ 1000) (hL : L ≤ 500) (ha : At S f x a) (hb : At S f y b) (hx : (x + y).natAbs ≤ 2 ^ L) : ∃ c, addO S a b = .ok c ∧ At S f (x + y) c ∧ blen (val Go.Proofs.YtlpjlmophlikeaaGreatDoor.W c.l) ≤ L + 1 := by
 obtain ⟨c, hc, h2⟩ := at_has S (f := f) (L := L + 1) (z := x + y) hf (by omega) (Nat.lt_of_le_of_lt hx (Nat.pow_lt_pow_right (by omega) (by omega)))
 exact ⟨c, at_add ha hb hc, hc, h2⟩
theorem at_times {L : Nat} (hf : f + g ≤ 1000) (hL : L ≤ 500) (ha : At S f x a) (hb : At S g y b) (hx : (x * y).natAbs ≤ 2 ^ L) : ∃ c, mulO S a b = .ok c ∧ At S (f + g) (x * y) c ∧ blen (val Go.Proofs.YtlpjlmophlikeaaGreatDoor.W c.l) ≤ L + 1 := by
 obtain ⟨c, hc, h2⟩ := at_has S (f := f + g) (L := L + 1) (z := x * y) hf (by omega) (Nat.lt_of_le_of_lt hx (Nat.pow_lt_pow_right (by omega) (by omega)))
 exact ⟨c, at_mul ha hb hc, hc, h2⟩
theorem out_bo (hp : 1 ≤ p ∧ p ≤ 2000) (hf : f ≤ 1000) (hm : m ≤ 500) (ha : At S f x a) (hb : At S f y b) (hxy : x ≤ y) (hx : x.natAbs ≤ 2 ^ m) (hy : y.natAbs ≤ 2 ^ m) : ∃ R, outO S a b p = .ok R ∧ Bo S f m R := by
 obtain ⟨c, u, h1, h2, h3⟩ := rnd_at hp ha hf hm hx false
 obtain ⟨d, v, g1, g2, g3⟩ := rnd_at hp hb hf hm hy true
 have h : outO S a b p = .ok ⟨c, d⟩ := by
  unfold outO
  rw [h1]
  show thn (rndO S b p true) _ = _
  rw [g1]
  rfl
 refine ⟨_, h, u, v, h2, g2, ?_, h3, g3⟩
 have := mayI_iff.1 (tight_may (outO_ok hp ha.1 hb.1 h) ((at_le ha hb).2 hxy))
 exact (at_le h2 g2).1 this.2.2
theorem sum_bo (hp : 1 ≤ p ∧ p ≤ 2000) (hf : f ≤ 1000) (hm : m + 1 ≤ 500) (hI : Bo S f m I) (hJ : Bo S f m J) : ∃ R, sumO S I J p = .ok R ∧ Bo S f (m + 1) R := by
 obtain ⟨u, v, u1, u2, u3, u4, u5⟩ := hI
 obtain ⟨s, t, s1, s2, s3, s4, s5⟩ := hJ
 have hpw : 2 ^ (m + 1) = 2 ^ m + 2 ^ m := by rw [Nat.pow_succ]; omega
 have b1 : (u + s).natAbs ≤ 2 ^ (m + 1) := by omega
 have b2 : (v + t).natAbs ≤ 2 ^ (m + 1) := by omega
 obtain ⟨c, h1, h2, _⟩ := at_sum hf hm u1 s1 b1
 obtain ⟨d, g1, g2, _⟩ := at_sum hf hm u2 s2 b2
 obtain ⟨R, hR, hb⟩ := out_bo hp hf hm h2 g2 (by omega) b1 b2
 refine ⟨R, ?_, hb⟩
 unfold sumO
 rw [h1]
 unfold outO at hR
 show thn (rndO S c p false) (fun l => thn (addO S I.hi J.hi) fun e => thn (rndO S e p true) fun h => (Except.ok (⟨l, h⟩ : Iv) : Except Int Iv)) = _
 rw [g1]
 exact hR
theorem face2_bo {o : Except Int Iv} (hp : 1 ≤ p ∧ p ≤ 2000) (hI : mayI S.K I = true) (hJ : mayI S.K J = true) : face2 S I J p o = o := by
 unfold face2 prec
 rw [hI, hJ, decide_eq_true hp.1, decide_eq_true hp.2]
 rfl
theorem turn_bo (h : Bo S f m I) : Bo S f m (turnI I) := by
 obtain ⟨u, v, h1, h2, h3, h4, h5⟩ := h
 exact ⟨-v, -u, at_neg h2, at_neg h1, by omega, by omega, by omega⟩
theorem addF_bo (hp : 1 ≤ p ∧ p ≤ 2000) (hf : f ≤ 1000) (hm : m + 1 ≤ 500) (hI : Bo S f m I) (hJ : Bo S f m J) : ∃ R, addF S I J p = .ok R ∧ Bo S f (m + 1) R := by
 unfold addF
 rw [face2_bo hp (bo_may hI) (bo_may hJ)]
 exact sum_bo hp hf hm hI hJ
theorem subF_bo (hp : 1 ≤ p ∧ p ≤ 2000) (hf : f ≤ 1000) (hm : m + 1 ≤ 500) (hI : Bo S f m I) (hJ : Bo S f m J) : ∃ R, subF S I J p = .ok R ∧ Bo S f (m + 1) R := by
 unfold subF
 rw [face2_bo hp (bo_may hI) (bo_may hJ)]
 exact sum_bo hp hf hm hI (turn_bo hJ)
theorem mul_abs (h1 : x.natAbs ≤ 2 ^ m) (h2 : y.natAbs ≤ 2 ^ n) : (x * y).natAbs ≤ 2 ^ (m + n) := by
 rw [Int.natAbs_mul, Nat.pow_add]
 exact Nat.mul_le_mul h1 h2
theorem mulF_bo (hp : 1 ≤ p ∧ p ≤ 2000) (hf : f + g ≤ 1000) (hm : m + n ≤ 500) (hI : Bo S f m I) (hJ : Bo S g n J) : ∃ R, mulF S I J p = .ok R ∧ Bo S (f + g) (m + n) R := by
 unfold mulF
 rw [face2_bo hp (bo_may hI) (bo_may hJ)]
 obtain ⟨u, v, u1, u2, u3, u4, u5⟩ := hI
 obtain ⟨s, t, s1, s2, s3, s4, s5⟩ := hJ
 obtain ⟨c1, h1, a1, _⟩ := at_times hf hm u1 s1 (mul_abs u4 s4)
 obtain ⟨c2, h2, a2, _⟩ := at_times hf hm u1 s2 (mul_abs u4 s5)
 obtain ⟨c3, h3, a3, _⟩ := at_times hf hm u2 s1 (mul_abs u5 s4)
 obtain ⟨c4, h4, a4, _⟩ := at_times hf hm u2 s2 (mul_abs u5 s5)
 have hcor : corO (mulO S) I J = .ok [c1, c2, c3, c4] := by
  unfold corO
  simp only [thn, h1, h2, h3, h4]
 have hall : ∀ z ∈ [c1, c2, c3, c4], ∃ q : Int, At S (f + g) q z ∧ q.natAbs ≤ 2 ^ (m + n) := fun z hz => by
  simp at hz
  rcases hz with rfl | rfl | rfl | rfl
  ·exact ⟨_, a1, mul_abs u4 s4⟩
  ·exact ⟨_, a2, mul_abs u4 s5⟩
  ·exact ⟨_, a3, mul_abs u5 s4⟩
  ·exact ⟨_, a4, mul_abs u5 s5⟩
 have hmay : ∀ z ∈ [c1, c2, c3, c4], z.may = true := fun z hz => by
  obtain ⟨q, h, _⟩ := hall z hz
  exact h.1
 have l1 := lea_of (S := S) (L := [c1, c2, c3, c4]) (List.cons_ne_nil _ _) hmay
 have l2 := gre_of (S := S) (L := [c1, c2, c3, c4]) (List.cons_ne_nil _ _) hmay
 obtain ⟨q, hq, hq2⟩ := hall _ l1.1
 obtain ⟨r, hr, hr2⟩ := hall _ l2.1
 obtain ⟨R, hR, hb⟩ := out_bo hp hf hm hq hr ((at_le hq hr).1 (l1.2 _ l2.1)) hq2 hr2
 refine ⟨R, ?_, hb⟩
 unfold mulI
 rw [hcor]
 exact hR
theorem pt_ni (h : At S f z a) : Ni S f z ⟨a, a⟩ := ⟨a, h, withinI_iff.2 ⟨mayI_point h.1, mayI_point h.1, Int.le_refl _, Int.le_refl _⟩⟩
theorem sum_ni {L : Nat} (hp : 1 ≤ p ∧ p ≤ 2000) (hf : f ≤ 1000) (hL : L ≤ 500) (hI : Ni S f x I) (hJ : Ni S f y J) (hxy : (x + y).natAbs ≤ 2 ^ L) (h : sumO S I J p = .ok R) : Ni S f (x + y) R := by
 obtain ⟨a, ha, hI⟩ := hI
 obtain ⟨b, hb, hJ⟩ := hJ
 obtain ⟨c, h1, hc, hl⟩ := at_sum hf hL ha hb hxy
 have P : (1 : Int) ≤ 2000 ∧ (2000 : Int) ≤ 2000 := ⟨by decide, by decide⟩
 exact ⟨c, hc, sum_grow P hp hI hJ (sum_pt P h1 hc.1 (Nat.le_trans hl (by show L + 1 ≤ 2000; omega))) h⟩
theorem addF_ni {L : Nat} (hp : 1 ≤ p ∧ p ≤ 2000) (hf : f ≤ 1000) (hL : L ≤ 500) (hI : Ni S f x I) (hJ : Ni S f y J) (hxy : (x + y).natAbs ≤ 2 ^ L) (h : addF S I J p = .ok R) : Ni S f (x + y) R := sum_ni hp hf hL hI hJ hxy (tface2_ok h)
theorem turn_ni (h : Ni S f x I) : Ni S f (-x) (turnI I) := by
 obtain ⟨a, ha, hI⟩ := h
 exact ⟨negQ a, at_neg ha, turn_within hI⟩
theorem subF_ni {L : Nat} (hp : 1 ≤ p ∧ p ≤ 2000) (hf : f ≤ 1000) (hL : L ≤ 500) (hI : Ni S f x I) (hJ : Ni S f y J) (hxy : (x - y).natAbs ≤ 2 ^ L) (h : subF S I J p = .ok R) : Ni S f (x - y) R := by
 rw [Int.sub_eq_add_neg] at hxy ⊢
 exact sum_ni hp hf hL hI (turn_ni hJ) hxy (tface2_ok h)
theorem mulF_ni {L : Nat} (hp : 1 ≤ p ∧ p ≤ 2000) (hf : f + g ≤ 1000) (hL : L ≤ 500) (hI : Ni S f x I) (hJ : Ni S g y J) (hxy : (x * y).natAbs ≤ 2 ^ L) (h : mulF S I J p = .ok R) : Ni S (f + g) (x * y) R := by
 obtain ⟨a, ha, hI⟩ := hI
 obtain ⟨b, hb, hJ⟩ := hJ
 obtain ⟨c, h1, hc, hl⟩ := at_times hf hL ha hb hxy
 have P : (1 : Int) ≤ 2000 ∧ (2000 : Int) ≤ 2000 := ⟨by decide, by decide⟩
 have h2 := mulF_pt (f := f) (g := g) P ha hb hc (Nat.le_trans hl (by show L + 1 ≤ 2000; omega))
 exact ⟨c, hc, mul_grow P hp hI hJ (tface2_ok h2) (tface2_ok h)⟩
end
end Go.Proofs.YtlpjlmophlikeaaGreatDoor
