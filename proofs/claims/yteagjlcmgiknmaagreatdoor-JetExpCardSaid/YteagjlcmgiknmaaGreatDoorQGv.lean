/-
 Numbers with few bits behind the point, and intervals between such: sums, differences, products of them are told, and hold what they ought to. No condition; nothing of the program is named here.
-/
import Derived.StillTailTactics
import Derived.Test.YteagjlcmgiknmaaGreatDoorQGj
namespace Go.Proofs.YteagjlcmgiknmaaGreatDoor

section
variable {S : Sc} {f g m n : Nat} {x y z : Int} {a b c : Rw} {p : Int}
theorem at_low {L : Nat} (h : At S f z a) (hf : f ≤ 2000) (hL : L ≤ 1900) (hz : z.natAbs < 2 ^ L) : -(f : Int) ≤ a.e ∧ a.e ≤ 1900 ∧ blen (val Go.Proofs.YteagjlcmgiknmaaGreatDoor.W a.l) ≤ 1900 ∧ (val Go.Proofs.YteagjlcmgiknmaaGreatDoor.W a.l) * 2 ^ (a.e + f).toNat = z.natAbs ∧ z = sg a.s * (z.natAbs : Int) := by
 have hK := S.big
 have hb : blen z.natAbs ≤ L := (blen_le _ _).2 hz
 obtain ⟨k, s', m', e', h9⟩ := nm_total (decide (z < 0)) z.natAbs (-(f : Int))
 have hk := nm_good h9 (by omega) (by omega) (by omega)
 subst hk
 have hb2 : At S f z (Rw.of s' m' e') := ⟨Rw.of_may (nm_ok h9), by
  rw [Rw.of_v, nm_value (by omega) h9, vz_at_neg (by omega)]
  congr 1
  unfold sg
  by_cases h0 : z < 0
  ·rw [decide_eq_true h0]; simp; omega
  ·rw [decide_eq_false h0]; simp; omega⟩
 have e0 := at_fun h hb2
 subst e0
 have e1 : val Go.Proofs.YteagjlcmgiknmaaGreatDoor.W (Rw.of s' m' e').l = m' := val_dig W_two m'
 rw [e1]
 have hbl := Nat.le_trans (at_blen hb2 hf hL hz) hL
 rw [e1] at hbl
 rcases h9 with ⟨h1, _, h3, h4, h5⟩ | ⟨j, q, hm, ⟨_, hc, _⟩ | ⟨_, _, hc, _⟩ | ⟨_, _, _, h3, h4, h5⟩⟩
 ·subst h3 h4 h5
  refine ⟨by show -(f : Int) ≤ 0; omega, by show (0 : Int) ≤ 1900; omega, hbl, by rw [h1]; simp, by rw [h1]; simp; omega⟩
 ·cases hc
 ·cases hc
 ·subst h3 h4 h5
  have hj : j ≤ L := by
   have h2 : 2 ^ j < 2 ^ L := Nat.lt_of_le_of_lt (by rw [hm]; exact Nat.le_mul_of_pos_right _ (by omega)) hz
   exact Nat.le_of_lt ((Nat.pow_lt_pow_iff_right (by omega)).1 h2)
  refine ⟨by show -(f : Int) ≤ -(f : Int) + j; omega, by show -(f : Int) + j ≤ 1900; omega, hbl, ?_, ?_⟩
  ·show (2 * q + 1) * 2 ^ (-(f : Int) + j + f).toNat = _
   rw [hm, show (-(f : Int) + j + f).toNat = j by omega, Nat.mul_comm]
  ·show z = sg (decide (z < 0)) * _
   unfold sg
   by_cases h0 : z < 0
   ·rw [decide_eq_true h0]; simp; omega
   ·rw [decide_eq_false h0]; simp; omega
theorem fits_pow {q j : Nat} (hq : 1 ≤ q) : Fits q (2 ^ j) := ⟨1, j, by simp, Nat.one_lt_two_pow (by omega)⟩
theorem rd_bound {q k j : Nat} (hq : 1 ≤ q) (h : k ≤ 2 ^ j) (u : Bool) : rdN q k u ≤ 2 ^ j := by
 cases u
 ·exact Nat.le_trans (rd_down_le _ _) h
 ·exact rd_least hq (fits_pow hq) h
/-- a rounding is told, and is of the same kind -/
theorem rnd_at (hp : 1 ≤ p ∧ p ≤ 2000) (h : At S f z a) (hf : f ≤ 2000) (hm : m ≤ 1800) (hz : z.natAbs ≤ 2 ^ m) (up : Bool) : ∃ c u, rndO S a p up = .ok c ∧ At S f u c ∧ u.natAbs ≤ 2 ^ m := by
 have hK := S.big
 have hz2 : z.natAbs < 2 ^ (m + 1) := Nat.lt_of_le_of_lt hz (Nat.pow_lt_pow_right (by omega) (by omega))
 obtain ⟨l1, l2, l3, l4, l5⟩ := at_low h hf (by omega) hz2
 obtain ⟨k, s, m', e, hr⟩ := rndR_some (a := a) (p := p) (up := up)
 have h2 := hr
 unfold rndR at h2
 rw [if_pos ⟨hp, h.1⟩] at h2
 have h2 : Nm a.s (rdN p.toNat (val Go.Proofs.YteagjlcmgiknmaaGreatDoor.W a.l) (up != a.s)) a.e k s m' e := h2
 have hq : 1 ≤ p.toNat := by omega
 obtain ⟨T, hT⟩ : ∃ T : Nat, T = 1900 := ⟨_, rfl⟩
 rw [← hT] at l3
 have hx : val Go.Proofs.YteagjlcmgiknmaaGreatDoor.W a.l ≤ 2 ^ T := Nat.le_of_lt ((blen_le _ _).1 l3)
 have hb := rd_bound hq hx (up != a.s)
 have hk := nm_good h2 (Nat.le_trans ((blen_le _ (T + 1)).2 (Nat.lt_of_le_of_lt hb (Nat.pow_lt_pow_right (by omega) (by omega)))) (by omega)) (by omega) (by omega)
 subst hk
 refine ⟨Rw.of s m' e, sg a.s * ((rdN p.toNat (val Go.Proofs.YteagjlcmgiknmaaGreatDoor.W a.l) (up != a.s) * 2 ^ (a.e + f).toNat : Nat) : Int), (S.is _ _ _ _ _ rndR_only hr).1 rfl, ⟨Rw.of_may (nm_ok h2), ?_⟩, ?_⟩
 ·rw [Rw.of_v, nm_value (by omega) h2]
  unfold vz
  rw [Int.mul_assoc, Int.mul_assoc, ← Int.natCast_mul, ← Int.natCast_mul, Nat.mul_assoc, Nat.mul_assoc, ← Nat.pow_add, ← Nat.pow_add, show (a.e + (S.K : Int)).toNat + f = (a.e + (f : Int)).toNat + S.K by omega]
 ·have e1 : (sg a.s * ((rdN p.toNat (val Go.Proofs.YteagjlcmgiknmaaGreatDoor.W a.l) (up != a.s) * 2 ^ (a.e + f).toNat : Nat) : Int)).natAbs = rdN p.toNat (val Go.Proofs.YteagjlcmgiknmaaGreatDoor.W a.l) (up != a.s) * 2 ^ (a.e + f).toNat := by
   rw [Int.natAbs_mul, Int.natAbs_natCast]
   unfold sg
   cases a.s <;> simp
  rw [e1]
  by_cases h0 : val Go.Proofs.YteagjlcmgiknmaaGreatDoor.W a.l = 0
  ·rw [h0, rd_zero, Nat.zero_mul]; exact Nat.zero_le _
  ·have hle : (a.e + f).toNat ≤ m := by
    refine (Nat.pow_le_pow_iff_right (a := 2) (by omega)).1 (Nat.le_trans ?_ hz)
    rw [← l4]
    exact Nat.le_mul_of_pos_left _ (by omega)
   have h3 : val Go.Proofs.YteagjlcmgiknmaaGreatDoor.W a.l ≤ 2 ^ (m - (a.e + f).toNat) := by
    refine Nat.le_of_mul_le_mul_right ?_ (Nat.pow_pos (n := (a.e + f).toNat) (show 0 < 2 by omega))
    rw [l4, ← Nat.pow_add, show m - (a.e + f).toNat + (a.e + f).toNat = m by omega]
    exact hz
   have h4 := Nat.mul_le_mul_right (2 ^ (a.e + f).toNat) (rd_bound hq h3 (up != a.s))
   rw [← Nat.pow_add, show m - (a.e + f).toNat + (a.e + f).toNat = m by omega] at h4
   exact h4
theorem at_le (h : At S f x a) (h' : At S f y b) : a.v S.K ≤ b.v S.K ↔ x ≤ y := by
 have e1 := h.2
 have e2 := h'.2
 constructor
 ·intro hv
  refine Int.le_of_mul_le_mul_right ?_ (two_pos S.K)
  rw [← e1, ← e2]
  exact Int.mul_le_mul_of_nonneg_right hv (Int.le_of_lt (two_pos f))
 ·intro hv
  refine Int.le_of_mul_le_mul_right ?_ (two_pos f)
  rw [e1, e2]
  exact Int.mul_le_mul_of_nonneg_right hv (Int.le_of_lt (two_pos S.K))
/-- an interval between two such, not great -/
def Bo (S : Sc) (f m : Nat) (I : Iv) : Prop := ∃ u v : Int, At S f u I.lo ∧ At S f v I.hi ∧ u ≤ v ∧ u.natAbs ≤ 2 ^ m ∧ v.natAbs ≤ 2 ^ m
/-- a number lies in it -/
def Ni (S : Sc) (f : Nat) (z : Int) (I : Iv) : Prop := ∃ a, At S f z a ∧ withinI S.K ⟨a, a⟩ I = true
variable {I J R : Iv}
theorem bo_may (h : Bo S f m I) : mayI S.K I = true := by
 obtain ⟨u, v, h1, h2, h3, _⟩ := h
 exact mayI_iff.2 ⟨h1.1, h2.1, (at_le h1 h2).2 h3⟩
theorem at_sum {L : Nat} (hf : f ≤ 2000) (hL : L ≤ 1800) (ha : At S f x a) (hb : At S f y b) (hx : (x + y).natAbs ≤ 2 ^ L) : ∃ c, addO S a b = .ok c ∧ At S f (x + y) c ∧ blen (val Go.Proofs.YteagjlcmgiknmaaGreatDoor.W c.l) ≤ L + 1 := by
 obtain ⟨c, hc, h2⟩ := at_has S (f := f) (L := L + 1) (z := x + y) hf (by omega) (Nat.lt_of_le_of_lt hx (Nat.pow_lt_pow_right (by omega) (by omega)))
 exact ⟨c, at_add ha hb hc, hc, h2⟩
theorem at_times {L : Nat} (hf : f + g ≤ 2000) (hL : L ≤ 1800) (ha : At S f x a) (hb : At S g y b) (hx : (x * y).natAbs ≤ 2 ^ L) : ∃ c, mulO S a b = .ok c ∧ At S (f + g) (x * y) c ∧ blen (val Go.Proofs.YteagjlcmgiknmaaGreatDoor.W c.l) ≤ L + 1 := by
 obtain ⟨c, hc, h2⟩ := at_has S (f := f + g) (L := L + 1) (z := x * y) hf (by omega) (Nat.lt_of_le_of_lt hx (Nat.pow_lt_pow_right (by omega) (by omega)))
 exact ⟨c, at_mul ha hb hc, hc, h2⟩
theorem out_bo (hp : 1 ≤ p ∧ p ≤ 2000) (hf : f ≤ 2000) (hm : m ≤ 1800) (ha : At S f x a) (hb : At S f y b) (hxy : x ≤ y) (hx : x.natAbs ≤ 2 ^ m) (hy : y.natAbs ≤ 2 ^ m) : ∃ R, outO S a b p = .ok R ∧ Bo S f m R := by
 obtain ⟨c, u, h1, h2, h3⟩ := rnd_at hp ha hf hm hx false
 obtain ⟨d, v, g1, g2, g3⟩ := rnd_at hp hb hf hm hy true
 have h : outO S a b p = .ok ⟨c, d⟩ := by
  unfold outO
  rw [h1]
  show thn (rndO S b p true) _ = _
  rw [g1]
  rfl
 refine ⟨_, h, u, v, h2, g2, ?_, h3, g3⟩
 have := mayI_iff.1 (tight_may (outO_ok hp ha.1 hb.1 h) ((at_le ha hb).2 hxy))
 exact (at_le h2 g2).1 this.2.2
theorem sum_bo (hp : 1 ≤ p ∧ p ≤ 2000) (hf : f ≤ 2000) (hm : m + 1 ≤ 1800) (hI : Bo S f m I) (hJ : Bo S f m J) : ∃ R, sumO S I J p = .ok R ∧ Bo S f (m + 1) R := by
 obtain ⟨u, v, u1, u2, u3, u4, u5⟩ := hI
 obtain ⟨s, t, s1, s2, s3, s4, s5⟩ := hJ
 have hpw : 2 ^ (m + 1) = 2 ^ m + 2 ^ m := by rw [Nat.pow_succ]; omega
 have b1 : (u + s).natAbs ≤ 2 ^ (m + 1) := by omega
 have b2 : (v + t).natAbs ≤ 2 ^ (m + 1) := by omega
 obtain ⟨c, h1, h2, _⟩ := at_sum hf hm u1 s1 b1
 obtain ⟨d, g1, g2, _⟩ := at_sum hf hm u2 s2 b2
 obtain ⟨R, hR, hb⟩ := out_bo hp hf hm h2 g2 (by omega) b1 b2
 refine ⟨R, ?_, hb⟩
 unfold sumO
 rw [h1]
 unfold outO at hR
 show thn (rndO S c p false) (fun l => thn (addO S I.hi J.hi) fun e => thn (rndO S e p true) fun h => (Except.ok (⟨l, h⟩ : Iv) : Except Int Iv)) = _
 rw [g1]
 exact hR
theorem face2_bo {o : Except Int Iv} (hp : 1 ≤ p ∧ p ≤ 2000) (hI : mayI S.K I = true) (hJ : mayI S.K J = true) : face2 S I J p o = o := by
 unfold face2 prec
 rw [hI, hJ, decide_eq_true hp.1, decide_eq_true hp.2]
 rfl
theorem addF_bo (hp : 1 ≤ p ∧ p ≤ 2000) (hf : f ≤ 2000) (hm : m + 1 ≤ 1800) (hI : Bo S f m I) (hJ : Bo S f m J) : ∃ R, addF S I J p = .ok R ∧ Bo S f (m + 1) R := by
 unfold addF
 rw [face2_bo hp (bo_may hI) (bo_may hJ)]
 exact sum_bo hp hf hm hI hJ
theorem mul_abs (h1 : x.natAbs ≤ 2 ^ m) (h2 : y.natAbs ≤ 2 ^ n) : (x * y).natAbs ≤ 2 ^ (m + n) := by
 rw [Int.natAbs_mul, Nat.pow_add]
 exact Nat.mul_le_mul h1 h2
theorem mulF_bo (hp : 1 ≤ p ∧ p ≤ 2000) (hf : f + g ≤ 2000) (hm : m + n ≤ 1800) (hI : Bo S f m I) (hJ : Bo S g n J) : ∃ R, mulF S I J p = .ok R ∧ Bo S (f + g) (m + n) R := by
 unfold mulF
 rw [face2_bo hp (bo_may hI) (bo_may hJ)]
 obtain ⟨u, v, u1, u2, u3, u4, u5⟩ := hI
 obtain ⟨s, t, s1, s2, s3, s4, s5⟩ := hJ
 obtain ⟨c1, h1, a1, _⟩ := at_times hf hm u1 s1 (mul_abs u4 s4)
 obtain ⟨c2, h2, a2, _⟩ := at_times hf hm u1 s2 (mul_abs u4 s5)
 obtain ⟨c3, h3, a3, _⟩ := at_times hf hm u2 s1 (mul_abs u5 s4)
 obtain ⟨c4, h4, a4, _⟩ := at_times hf hm u2 s2 (mul_abs u5 s5)
 have hcor : corO (mulO S) I J = .ok [c1, c2, c3, c4] := by
  unfold corO
  simp only [thn, h1, h2, h3, h4]
 have hall : ∀ z ∈ [c1, c2, c3, c4], ∃ q : Int, At S (f + g) q z ∧ q.natAbs ≤ 2 ^ (m + n) := fun z hz => by
  simp at hz
  rcases hz with rfl | rfl | rfl | rfl
  ·exact ⟨_, a1, mul_abs u4 s4⟩
  ·exact ⟨_, a2, mul_abs u4 s5⟩
  ·exact ⟨_, a3, mul_abs u5 s4⟩
  ·exact ⟨_, a4, mul_abs u5 s5⟩
 have hmay : ∀ z ∈ [c1, c2, c3, c4], z.may = true := fun z hz => by
  obtain ⟨q, h, _⟩ := hall z hz
  exact h.1
 have l1 := lea_of (S := S) (L := [c1, c2, c3, c4]) (List.cons_ne_nil _ _) hmay
 have l2 := gre_of (S := S) (L := [c1, c2, c3, c4]) (List.cons_ne_nil _ _) hmay
 obtain ⟨q, hq, hq2⟩ := hall _ l1.1
 obtain ⟨r, hr, hr2⟩ := hall _ l2.1
 obtain ⟨R, hR, hb⟩ := out_bo hp hf hm hq hr ((at_le hq hr).1 (l1.2 _ l2.1)) hq2 hr2
 refine ⟨R, ?_, hb⟩
 unfold mulI
 rw [hcor]
 exact hR
theorem pt_ni (h : At S f z a) : Ni S f z ⟨a, a⟩ := ⟨a, h, withinI_iff.2 ⟨mayI_point h.1, mayI_point h.1, Int.le_refl _, Int.le_refl _⟩⟩
theorem sum_ni {L : Nat} (hp : 1 ≤ p ∧ p ≤ 2000) (hf : f ≤ 2000) (hL : L ≤ 1800) (hI : Ni S f x I) (hJ : Ni S f y J) (hxy : (x + y).natAbs ≤ 2 ^ L) (h : sumO S I J p = .ok R) : Ni S f (x + y) R := by
 obtain ⟨a, ha, hI⟩ := hI
 obtain ⟨b, hb, hJ⟩ := hJ
 obtain ⟨c, h1, hc, hl⟩ := at_sum hf hL ha hb hxy
 have P : (1 : Int) ≤ 2000 ∧ (2000 : Int) ≤ 2000 := ⟨by decide, by decide⟩
 exact ⟨c, hc, sum_grow P hp hI hJ (sum_pt P h1 hc.1 (Nat.le_trans hl (by show L + 1 ≤ 2000; omega))) h⟩
theorem addF_ni {L : Nat} (hp : 1 ≤ p ∧ p ≤ 2000) (hf : f ≤ 2000) (hL : L ≤ 1800) (hI : Ni S f x I) (hJ : Ni S f y J) (hxy : (x + y).natAbs ≤ 2 ^ L) (h : addF S I J p = .ok R) : Ni S f (x + y) R := sum_ni hp hf hL hI hJ hxy (tface2_ok h)
theorem mulF_ni {L : Nat} (hp : 1 ≤ p ∧ p ≤ 2000) (hf : f + g ≤ 2000) (hL : L ≤ 1800) (hI : Ni S f x I) (hJ : Ni S g y J) (hxy : (x * y).natAbs ≤ 2 ^ L) (h : mulF S I J p = .ok R) : Ni S (f + g) (x * y) R := by
 obtain ⟨a, ha, hI⟩ := hI
 obtain ⟨b, hb, hJ⟩ := hJ
 obtain ⟨c, h1, hc, hl⟩ := at_times hf hL ha hb hxy
 have P : (1 : Int) ≤ 2000 ∧ (2000 : Int) ≤ 2000 := ⟨by decide, by decide⟩
 have h2 := mulF_pt (f := f) (g := g) P ha hb hc (Nat.le_trans hl (by show L + 1 ≤ 2000; omega))
 exact ⟨c, hc, mul_grow P hp hI hJ (tface2_ok h2) (tface2_ok h)⟩
end
end Go.Proofs.YteagjlcmgiknmaaGreatDoor
namespace Go.Proofs.YteagjlcmgiknmaaGreatDoor
open Go.RowKit

/-- the cells of some elements, one behind the other -/
def Celg {α : Type} (R : World → α → List Value → Prop) (w : World) : List α → List Value → Prop
 | [], xs => xs = []
 | x :: L, xs => ∃ c ys, xs = c ++ ys ∧ R w x c ∧ Celg R w L ys
/-- a kind of element: how many cells it has, that it hangs on what reads as limbs alone -/
class Kin {α : Type} (R : World → α → List Value → Prop) (k : Nat) : Prop where
 len : ∀ {w x c}, R w x c → c.length = k
 one : ∀ {w x c}, R w x c → ∀ u ∈ c, u.oneCell' = true ∧ NoL u
 mv : ∀ {w w' : World} {x c}, (∀ A n c l, Rd w .u64 Go.Proofs.YteagjlcmgiknmaaGreatDoor.W A n c l → Rd w' .u64 Go.Proofs.YteagjlcmgiknmaaGreatDoor.W A n c l) → R w x c → R w' x c
section
variable {α : Type} {R : World → α → List Value → Prop} {k : Nat}
theorem Celg.mv [hk : Kin R k] {w w' : World} (f : ∀ A n c l, Rd w .u64 Go.Proofs.YteagjlcmgiknmaaGreatDoor.W A n c l → Rd w' .u64 Go.Proofs.YteagjlcmgiknmaaGreatDoor.W A n c l) : ∀ {L : List α} {xs : List Value}, Celg R w L xs → Celg R w' L xs
 | [], _, h => h
 | _ :: _, _, ⟨c, ys, h1, h2, h3⟩ => ⟨c, ys, h1, hk.mv f h2, Celg.mv (hk := hk) f h3⟩
theorem Celg.len [hk : Kin R k] {w : World} : ∀ {L : List α} {xs : List Value}, Celg R w L xs → xs.length = L.length * k
 | [], _, h => by
  have h : _ = [] := h
  subst h
  simp
 | x :: L, _, ⟨c, ys, h1, h2, h3⟩ => by
  rw [h1, List.length_append, hk.len h2, Celg.len (hk := hk) h3, List.length_cons, Nat.succ_mul, Nat.add_comm]
theorem Celg.all [hk : Kin R k] {w : World} : ∀ {L : List α} {xs : List Value}, Celg R w L xs → ∀ u ∈ xs, u.oneCell' = true ∧ NoL u
 | [], _, h, u, hu => by
  have h : _ = [] := h
  rw [h] at hu
  cases hu
 | x :: L, _, ⟨c, ys, h1, h2, h3⟩, u, hu => by
  rw [h1] at hu
  rcases List.mem_append.1 hu with hu | hu
  ·exact hk.one h2 u hu
  ·exact Celg.all (hk := hk) h3 u hu
theorem Celg.get [hk : Kin R k] {w : World} : ∀ {L : List α} {xs : List Value}, Celg R w L xs → ∀ (i : Nat) (x : α), L[i]? = some x → ∃ c, R w x c ∧ ∀ (j : Nat) (u : Value), c[j]? = some u → xs[i * k + j]? = some u
 | [], _, _, i, x, hx => by simp at hx
 | y :: L, _, ⟨c, ys, h1, h2, h3⟩, 0, x, hx => by
  have : y = x := by simpa using hx
  subst this
  refine ⟨c, h2, fun j u hu => ?_⟩
  have hj : j < c.length := (List.getElem?_eq_some_iff.1 hu).1
  rw [h1, Nat.zero_mul, Nat.zero_add, List.getElem?_append_left hj]
  exact hu
 | y :: L, _, ⟨c, ys, h1, h2, h3⟩, i + 1, x, hx => by
  obtain ⟨c', g1, g2⟩ := Celg.get (hk := hk) h3 i x (by simpa using hx)
  refine ⟨c', g1, fun j u hu => ?_⟩
  have hc := hk.len h2
  rw [h1, List.getElem?_append_right (by rw [hc, Nat.succ_mul]; omega), hc, Nat.succ_mul, show i * k + k + j - k = i * k + j by omega]
  exact g2 j u hu
/-- a row of such elements of the call's own -/
def GRow (R : World → α → List Value → Prop) (E : TypeId) (k : Nat) (w : World) (base : Nat) (v : Value) (L : List α) : Prop := ∃ xs, RowN w base E k v L.length xs ∧ Celg R w L xs
variable {E : TypeId} {base : Nat} {v : Value} {L : List α}
theorem GRow.next [hk : Kin R k] {w X w2 : World} (h : GRow R E k w base v L) (b : Below X.heap.size X w2) (e : X.heap = w.heap) : GRow R E k w2 base v L := by
 obtain ⟨xs, h1, h2⟩ := h
 exact ⟨xs, h1.next b e, Celg.mv (hk := hk) (fun _ _ _ _ hr => hr.next b e) h2⟩
theorem GRow.lt {w : World} (h : GRow R E k w base v L) : ∀ q, v.ownBlock = some q → base ≤ q ∧ q < w.heap.size := by
 obtain ⟨xs, h1, _⟩ := h
 exact h1.lt
theorem GRow.no {w : World} (h : GRow R E k w base v L) : ∀ q, v.ownBlock = some q → ∀ i x : Nat, w.cell? ⟨q, i, none⟩ ≠ some (.int .u64 (x : Int)) := by
 obtain ⟨xs, h1, _⟩ := h
 exact h1.2
theorem GRow.kind {w : World} (h : GRow R E k w base v L) : ∀ q, v.ownBlock = some q → ∃ cs, w.heap[q]? = some (.cells cs E (0, 0)) := by
 intro q hq
 obtain ⟨xs, ⟨⟨_, h1⟩, _⟩, _⟩ := h
 rcases h1 with ⟨rfl, _⟩ | ⟨g, cap, cur, rfl, _, hg, _⟩
 ·cases hq
 ·injection hq with hq
  subst hq
  exact ⟨cur, hg⟩
theorem GRow.grown [hk : Kin R k] {w w' : World} {row : Option Nat} (h : GRow R E k w base v L) (hg : w.grownBy w' row) (hne : ∀ q, v.ownBlock = some q → row ≠ some q) (hno : ∀ q, row = some q → ∀ i x : Nat, w.cell? ⟨q, i, none⟩ ≠ some (.int .u64 (x : Int))) : GRow R E k w' base v L := by
 have hlt := h.lt
 obtain ⟨xs, h1, h2⟩ := h
 refine ⟨xs, h1.same fun q hq => hg.block q (hlt q hq).2 (fun e => hne q hq e.symm), Celg.mv (hk := hk) (fun A n c l hr => ?_) h2⟩
 cases row with
 | none => exact hr.grownNone hg
 | some g => exact hr.grown hg (hr.off (hno g rfl))
theorem GRow.form [hk : Kin R k] {w : World} (h : GRow R E k w base v L) : ∃ A c, v = .slice A L.length c ∧ L.length ≤ c ∧ c ≤ 9223372036854775807 ∧ (L ≠ [] → ∃ g, A = some ⟨g, 0, none⟩ ∧ ∀ (i : Nat) (x : α), L[i]? = some x → ∃ cs, R w x cs ∧ ∀ (j : Nat) (u : Value), cs[j]? = some u → w.cell? ⟨g, i * k + j, none⟩ = some u) := by
 obtain ⟨xs, h1, h2⟩ := h
 rcases h1.1.2 with ⟨hv, h3⟩ | ⟨g, cap, cur, hv, hb, hg, hc, hm, _, ht⟩
 ·exact ⟨none, 0, by rw [hv, h3], by omega, by omega, fun h0 => absurd (List.eq_nil_of_length_eq_zero h3) h0⟩
 ·refine ⟨some ⟨g, 0, none⟩, cap, hv, hc, by unfold maxLen at hm; omega, fun _ => ⟨g, rfl, fun i x hx => ?_⟩⟩
  obtain ⟨cs, g1, g2⟩ := Celg.get (hk := hk) h2 i x hx
  refine ⟨cs, g1, fun j u hu => ?_⟩
  have := h1.1.cells (g := g) (by rw [hv]; rfl) (i * k + j) u (g2 j u hu)
  rwa [show (⟨g, 0, none⟩ : Addr).add (i * k + j) = ⟨g, i * k + j, none⟩ by unfold Addr.add; split <;> simp_all] at this
end
/-- a number's three cells; a line's nine -/
def rD (w : World) (x : Rw) (c : List Value) : Prop := ∃ A n m, c = [.bool x.s, .slice A n m, .int .i64 x.e] ∧ Rd w .u64 Go.Proofs.YteagjlcmgiknmaaGreatDoor.W A n m x.l
def rL (w : World) (x : Ln) (c : List Value) : Prop := ∃ A n a B m b, c = [.int .i64 x.op, .int .i64 x.a, .int .i64 x.b, .bool x.k.lo.s, .slice A n a, .int .i64 x.k.lo.e, .bool x.k.hi.s, .slice B m b, .int .i64 x.k.hi.e] ∧ Rd w .u64 Go.Proofs.YteagjlcmgiknmaaGreatDoor.W A n a x.k.lo.l ∧ Rd w .u64 Go.Proofs.YteagjlcmgiknmaaGreatDoor.W B m b x.k.hi.l
instance : Kin rD 3 where
 len := fun ⟨_, _, _, h, _⟩ => by rw [h]; rfl
 one := fun ⟨_, _, _, h, _⟩ u hu => by
  rw [h] at hu
  simp at hu
  rcases hu with rfl | rfl | rfl <;> exact ⟨rfl, fun _ h => by cases h⟩
 mv := fun f ⟨A, n, m, h, r⟩ => ⟨A, n, m, h, f _ _ _ _ r⟩
instance : Kin rL 9 where
 len := fun ⟨_, _, _, _, _, _, h, _⟩ => by rw [h]; rfl
 one := fun ⟨_, _, _, _, _, _, h, _⟩ u hu => by
  rw [h] at hu
  simp at hu
  rcases hu with rfl | rfl | rfl | rfl | rfl | rfl | rfl | rfl | rfl <;> exact ⟨rfl, fun _ h => by cases h⟩
 mv := fun f ⟨A, n, a, B, m, b, h, r, s⟩ => ⟨A, n, a, B, m, b, h, f _ _ _ _ r, f _ _ _ _ s⟩
def LRow : World → Nat → Value → List Ln → Prop := GRow rL 31 9
end Go.Proofs.YteagjlcmgiknmaaGreatDoor
namespace Go.Proofs.YteagjlcmgiknmaaGreatDoor
open Go.RowKit

/-- all are numbers of eighths -/
def AllE (S : Sc) (D : List Rw) : Prop := ∀ a ∈ D, ∃ z : Int, At S 3 z a ∧ z.natAbs ≤ 32
theorem AllE.snoc {S : Sc} {D : List Rw} {d : Rw} {z : Int} (h : AllE S D) (h1 : At S 3 z d) (h2 : z.natAbs ≤ 32) : AllE S (D ++ [d]) := fun a ha => by
 rcases List.mem_append.1 ha with ha | ha
 ·exact h a ha
 ·rw [List.mem_singleton.1 ha]; exact ⟨z, h1, h2⟩
end Go.Proofs.YteagjlcmgiknmaaGreatDoor
namespace Go.Proofs.YteagjlcmgiknmaaGreatDoor
open Go.RowKit

/-- a number of eighths as dyad.Of tells it -/
def OfIs (S : Sc) (z : Int) (w : World) (en : Ending) (w' : World) : Prop := ∃ (q : Rw) (A : Option Addr) (n c : Nat), en = .returned (.tuple #[.agg #[.bool q.s, .slice A n c, .int .i64 q.e], .int .i64 0]) ∧ Rd w' .u64 Go.Proofs.YteagjlcmgiknmaaGreatDoor.W A n c q.l ∧ At S 3 z q ∧ Below w.heap.size w w'
theorem of_is (S : Sc) {w : World} {z : Int} (hT : Tab w) (hz : -32 ≤ z ∧ z ≤ 32) : Calls Tryz.prog 5 #[.int .i64 z, .int .i64 (-3)] w (OfIs S z w) := by
 have hK := S.big
 have key : ∀ {s : Bool} {m : Nat} (_ : m ≤ 32) (_ : sg s * (m : Int) = z) {en : Ending} {w' : World}, Tells (Nm s m (-3)) w en w' → OfIs S z w en w' := fun {s m} hm hs {en w'} h => by
  obtain ⟨k, s', m', e', h9⟩ := nm_total s m (-3)
  have hk := nm_good h9 (by have := (blen_le m 6).2 (by omega); omega) (by omega) (by omega)
  subst hk
  obtain ⟨A, n, c, he, hr, hb⟩ := told_is h (s := s') (m := m') (e := e') (k := 0) fun k1 s1 m1 e1 h2 => nm_fun h2 h9
  refine ⟨Rw.of s' m' e', A, n, c, he, hr.rd, ⟨Rw.of_may (nm_ok h9), ?_⟩, hb⟩
  rw [Rw.of_v, nm_value (by omega) h9, show (-3 : Int) = -((3 : Nat) : Int) from rfl, vz_at_neg (by omega), hs]
 by_cases h0 : z < 0
 ·have e1 : z = -((z.natAbs : Nat) : Int) := by omega
  rw [e1]
  rw [e1] at key
  exact (of_neg hT (by omega) (by omega)).mono fun en w' h => key (s := true) (m := z.natAbs) (by omega) (by simp [sg]) h
 ·have e1 : z = ((z.natAbs : Nat) : Int) := by omega
  rw [e1]
  rw [e1] at key
  exact (of_pos hT (by omega)).mono fun en w' h => key (s := false) (m := z.natAbs) (by omega) (by simp [sg]) h
/-- what lies between two rounds -/
structure MeanW (w w1 : World) (vL : Value) (Ls : List Ln) : Prop where
 below : Below w.heap.size w w1
 tape : Blk w1 (w.heap.size + 1) #[vL, .slice none 0 0] 35
 L : LRow w1 w.heap.size vL Ls
section
variable {w w1 w2 : World} {vL v' : Value} {Ls N : List Ln}
theorem MeanW.big (h : MeanW w w1 vL Ls) : w.heap.size + 2 ≤ w1.heap.size := h.tape.gl
theorem MeanW.go (h : MeanW w w1 vL Ls) (b : Below w1.heap.size w1 w2) : MeanW w w2 vL Ls := ⟨below_next h.below h.below.size b rfl rfl rfl rfl, h.tape.next b rfl, GRow.next h.L b rfl⟩
theorem MeanW.off (h : MeanW w w1 vL Ls) : vL.ownBlock ≠ some (w.heap.size + 1) := fun e => by
 obtain ⟨cs, hc⟩ := GRow.kind h.L _ e
 rw [h.tape.blk] at hc
 injection hc with hc
 injection hc with _ hc
 exact absurd hc (by decide)
theorem MeanW.form (h : MeanW w w1 vL Ls) : ∃ A c, vL = .slice A Ls.length c := by
 obtain ⟨C, e, h3, _⟩ := GRow.form h.L
 exact ⟨C, e, h3⟩
end
end Go.Proofs.YteagjlcmgiknmaaGreatDoor
namespace Go.Proofs.YteagjlcmgiknmaaGreatDoor
open Go.RowKit

def AtEnd (S : Sc) (f : Nat) (z : Int) (w : World) (en : Ending) (w' : World) : Prop := ∃ (q : Rw) (A : Option Addr) (n c : Nat), en = .returned (.tuple #[.agg #[.bool q.s, .slice A n c, .int .i64 q.e], .int .i64 0]) ∧ Rd w' .u64 Go.Proofs.YteagjlcmgiknmaaGreatDoor.W A n c q.l ∧ At S f z q ∧ Below w.heap.size w w'
section
variable {S : Sc} {w : World} {f g m : Nat} {x y : Int} {a b : Rw} {A1 : Option Addr} {n1 c1 : Nat} {A2 : Option Addr} {n2 c2 : Nat}
theorem oc_told {P : Int → Bool → Nat → Int → Prop} {c : Rw} (hO : Only P) (h : S.oc P = .ok c) {k : Int} {s : Bool} {m' : Nat} {e : Int} (hP : P k s m' e) : k = 0 ∧ Rw.of s m' e = c := by
 obtain ⟨i1, i2⟩ := S.is _ _ _ _ _ hO hP
 by_cases hk : k = 0
 ·rw [i1 hk] at h
  injection h with h
  exact ⟨hk, h⟩
 ·rw [i2 hk] at h
  cases h
theorem dmul_at (hT : Tab w) (h1 : Rd w .u64 Go.Proofs.YteagjlcmgiknmaaGreatDoor.W A1 n1 c1 a.l) (h2 : Rd w .u64 Go.Proofs.YteagjlcmgiknmaaGreatDoor.W A2 n2 c2 b.l) (ha : At S f x a) (hb : At S g y b) (hf : f + g ≤ 2000) (hm : m ≤ 1800) (hz : (x * y).natAbs ≤ 2 ^ m) :
  Calls Tryz.prog 9 #[.agg #[.bool a.s, .slice A1 n1 c1, .int .i64 a.e], .agg #[.bool b.s, .slice A2 n2 c2, .int .i64 b.e]] w (AtEnd S (f + g) (x * y) w) := by
 obtain ⟨c, hc, hat, _⟩ := at_times hf hm ha hb hz
 refine (dmul_raw hT h1 h2).mono fun en w' h => ?_
 obtain ⟨k, s, A, n, c', m', e', he, hP, hr, hbl⟩ := h
 obtain ⟨rfl, rfl⟩ := oc_told mulR_only hc hP
 exact ⟨Rw.of s m' e', A, n, c', he, hr.rd, hat, hbl⟩
theorem dcmp_at (hT : Tab w) (h1 : Rd w .u64 Go.Proofs.YteagjlcmgiknmaaGreatDoor.W A1 n1 c1 a.l) (h2 : Rd w .u64 Go.Proofs.YteagjlcmgiknmaaGreatDoor.W A2 n2 c2 b.l) (ha : At S f x a) (hb : At S f y b) :
  Calls Tryz.prog 11 #[.agg #[.bool a.s, .slice A1 n1 c1, .int .i64 a.e], .agg #[.bool b.s, .slice A2 n2 c2, .int .i64 b.e]] w (Ints (cmpV x y) w) := by
 have e : cmpR S.K a.s a.l a.e b.s b.l b.e = cmpV x y := by
  unfold cmpR
  rw [if_pos ⟨ha.1, hb.1⟩]
  have i1 := at_le ha hb
  have i2 := at_le hb ha
  show cmpV (a.v S.K) (b.v S.K) = _
  unfold cmpV
  by_cases c1 : x < y
  ·rw [if_pos c1, if_pos (by omega)]
  ·by_cases c2 : x = y
   ·rw [if_neg c1, if_pos c2, if_neg (by omega), if_pos (by omega)]
   ·rw [if_neg c1, if_neg c2, if_neg (by omega), if_neg (by omega)]
 rw [← e]
 exact dcmp_raw S.big hT h1 h2
end
end Go.Proofs.YteagjlcmgiknmaaGreatDoor
