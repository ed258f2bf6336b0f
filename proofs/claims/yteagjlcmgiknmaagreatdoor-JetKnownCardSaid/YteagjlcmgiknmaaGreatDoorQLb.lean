/-
 Contract of the statement IvalRounds's function at this translation: it returns true, whatever its arguments. Condition: the slices read as limbs, the table of math/bits reads as its text lays it.
-/
import Derived.Test.YteagjlcmgiknmaaGreatDoorQIs
import Derived.Test.YteagjlcmgiknmaaGreatDoorQEb
import Derived.Test.YteagjlcmgiknmaaGreatDoorQRj
import Derived.Test.YteagjlcmgiknmaaGreatDoorQRo
namespace Go.Proofs.YteagjlcmgiknmaaGreatDoor
open Go.RowKit

theorem down_le {K p : Nat} {a : Rw} {s : Bool} {m : Nat} {e : Int} (hK : 4194304 ≤ K) (ha : a.may = true) (h : RdTold a.s (val W a.l) a.e p false 0 s m e) : (Rw.of s m e).v K ≤ a.v K := by
 have r := okd_ge hK (mayD_of a.lt ha).2
 rw [Rw.of_v, nm_value r.2.2 h]
 exact rd_between.1
theorem up_ge {K p : Nat} {a : Rw} {s : Bool} {m : Nat} {e : Int} (hK : 4194304 ≤ K) (ha : a.may = true) (h : RdTold a.s (val W a.l) a.e p true 0 s m e) : a.v K ≤ (Rw.of s m e).v K := by
 have r := okd_ge hK (mayD_of a.lt ha).2
 rw [Rw.of_v, nm_value r.2.2 h]
 exact rd_between.2
end Go.Proofs.YteagjlcmgiknmaaGreatDoor
namespace Go.Proofs.YteagjlcmgiknmaaGreatDoor

def Only (P : Int → Bool → Nat → Int → Prop) : Prop := ∀ k s m e k2 s2 m2 e2, P k s m e → P k2 s2 m2 e2 → k = k2 ∧ s = s2 ∧ m = m2 ∧ e = e2
/-- where it goes wrong nought is told -/
def Null (P : Int → Bool → Nat → Int → Prop) : Prop := ∀ k s m e, P k s m e → k ≠ 0 → s = false ∧ m = 0 ∧ e = 0
def Some (P : Int → Bool → Nat → Int → Prop) : Prop := ∃ k s m e, P k s m e
/-- a scale, and a name for each answer that is the only one -/
structure Sc where
 K : Nat
 big : 4194304 ≤ K
 oc : (Int → Bool → Nat → Int → Prop) → Except Int Rw
 is : ∀ P k s m e, Only P → P k s m e → (k = 0 → oc P = .ok (Rw.of s m e)) ∧ (k ≠ 0 → oc P = .error k)
theorem sc_has : Nonempty Sc := by
 obtain ⟨K, hK⟩ := scale_has
 have key : ∀ P : Int → Bool → Nat → Int → Prop, ∃ o : Except Int Rw, ∀ k s m e, Only P → P k s m e → (k = 0 → o = .ok (Rw.of s m e)) ∧ (k ≠ 0 → o = .error k) := fun P => by
  by_cases h : ∃ s m e, P 0 s m e
  ·obtain ⟨s, m, e, h⟩ := h
   refine ⟨.ok (Rw.of s m e), fun k s' m' e' ho hp => ?_⟩
   obtain ⟨rfl, rfl, rfl, rfl⟩ := ho _ _ _ _ _ _ _ _ h hp
   exact ⟨fun _ => rfl, fun h => absurd rfl h⟩
  ·by_cases h2 : ∃ k s m e, P k s m e
   ·obtain ⟨k, s, m, e, h2⟩ := h2
    refine ⟨.error k, fun k' s' m' e' ho hp => ?_⟩
    obtain ⟨rfl, rfl, rfl, rfl⟩ := ho _ _ _ _ _ _ _ _ h2 hp
    exact ⟨fun h3 => absurd ⟨_, _, _, h3 ▸ h2⟩ h, fun _ => rfl⟩
   ·exact ⟨.error 0, fun k s m e _ hp => absurd ⟨k, s, m, e, hp⟩ h2⟩
 exact ⟨⟨K, hK, fun P => (key P).choose, fun P => (key P).choose_spec⟩⟩
theorem Sc.of_ok (S : Sc) {P : Int → Bool → Nat → Int → Prop} {a : Rw} (ho : Only P) (hs : Some P) (h : S.oc P = .ok a) : ∃ s m e, P 0 s m e ∧ a = Rw.of s m e := by
 obtain ⟨k, s, m, e, hp⟩ := hs
 have h2 := S.is P k s m e ho hp
 by_cases hk : k = 0
 ·subst hk
  have h3 := h2.1 rfl
  rw [h3] at h
  cases h
  exact ⟨s, m, e, hp, rfl⟩
 ·rw [h2.2 hk] at h
  cases h
theorem Sc.of_err (S : Sc) {P : Int → Bool → Nat → Int → Prop} {k : Int} (ho : Only P) (hs : Some P) (h : S.oc P = .error k) : k ≠ 0 ∧ ∃ s m e, P k s m e := by
 obtain ⟨k', s, m, e, hp⟩ := hs
 have h2 := S.is P k' s m e ho hp
 by_cases hk : k' = 0
 ·rw [h2.1 hk] at h; cases h
 ·rw [h2.2 hk] at h
  cases h
  exact ⟨hk, s, m, e, hp⟩
/-- one behind the other -/
def thn {α β : Type} (o : Except Int α) (f : α → Except Int β) : Except Int β := match o with
 | .ok a => f a
 | .error k => .error k
def okc {α : Type} (o : Except Int α) : Int := match o with
 | .ok _ => 0
 | .error k => k
def orw (o : Except Int Rw) : Rw := match o with
 | .ok a => a
 | .error _ => Rw.zero
def oiv (o : Except Int Iv) : Iv := match o with
 | .ok a => a
 | .error _ => Iv.zero
/-- no outcome is an error without a code -/
def Cod {α : Type} (o : Except Int α) : Prop := ∀ k, o = .error k → k ≠ 0
theorem thn_cod {α β : Type} {o : Except Int α} {f : α → Except Int β} (h : Cod o) (h2 : ∀ a, o = .ok a → Cod (f a)) : Cod (thn o f) := by
 intro k hk
 cases o with
 | ok a => exact h2 a rfl k hk
 | error j => exact h k (by cases hk; rfl)

theorem wrong_only : Only Wrong := fun _ _ _ _ _ _ _ _ h h' => wrong_fun h h'
theorem wrong_null : Null Wrong := fun _ _ _ _ h _ => h.2
theorem wrong_some : Some Wrong := ⟨_, _, _, _, rfl, rfl, rfl, rfl⟩
theorem outside_null : Null Outside := fun _ _ _ _ h _ => h.2
theorem outside_some : Some Outside := ⟨_, _, _, _, rfl, rfl, rfl, rfl⟩
theorem nm_only (s : Bool) (m : Nat) (e : Int) : Only (Nm s m e) := fun _ _ _ _ _ _ _ _ h h' => nm_fun h h'
theorem nm_null (s : Bool) (m : Nat) (e : Int) : Null (Nm s m e) := fun _ _ _ _ h hk => by
 rcases nm_code h with h1 | ⟨_, h1⟩
 ·exact absurd h1 hk
 ·exact h1
theorem nm_some (s : Bool) (m : Nat) (e : Int) : Some (Nm s m e) := nm_total s m e
section
variable {K : Nat} {s t : Bool} {l r : List Nat} {e f p : Int} {up : Bool}
theorem addR_only : Only (addR K s l e t r f) := fun _ _ _ _ _ _ _ _ h h' => addR_fun h h'
theorem addR_null : Null (addR K s l e t r f) := by
 unfold addR
 split
 ·rintro k s m e ⟨_, _, _, _, _, h⟩ hk; exact nm_null _ _ _ _ _ _ _ h hk
 ·exact wrong_null
theorem addR_some (hK : 4194304 ≤ K) (hl : Lt W l) (hr : Lt W r) : Some (addR K s l e t r f) := by
 unfold addR
 split
 ·next h => 
  obtain ⟨_, o1⟩ := mayD_of hl h.1
  obtain ⟨_, o2⟩ := mayD_of hr h.2
  have r1 := okd_ge hK o1
  have r2 := okd_ge hK o2
  exact sum_has hK ⟨r1.1, r1.2.1⟩ ⟨r2.1, r2.2.1⟩
 ·exact wrong_some
theorem mulR_only : Only (mulR s l e t r f) := fun _ _ _ _ _ _ _ _ h h' => mulR_fun h h'
theorem mulR_null : Null (mulR s l e t r f) := by
 unfold mulR
 split
 ·exact nm_null _ _ _
 ·exact wrong_null
theorem mulR_some : Some (mulR s l e t r f) := by
 unfold mulR
 split
 ·exact nm_some _ _ _
 ·exact wrong_some
theorem quotR_only : Only (quotR s l e t r f p up) := fun _ _ _ _ _ _ _ _ h h' => quotR_fun h h'
theorem quotR_null : Null (quotR s l e t r f p up) := by
 unfold quotR
 split
 ·split
  ·exact outside_null
  ·exact nm_null _ _ _
 ·exact wrong_null
theorem quotR_some : Some (quotR s l e t r f p up) := by
 unfold quotR
 split
 ·split
  ·exact outside_some
  ·exact nm_some _ _ _
 ·exact wrong_some
end
/-- what rounding tells of any, raw ones too -/
def rndR (a : Rw) (p : Int) (up : Bool) : Int → Bool → Nat → Int → Prop := if (1 ≤ p ∧ p ≤ 2000) ∧ a.may = true then RdTold a.s (val W a.l) a.e p.toNat up else Wrong
theorem rndR_only {a : Rw} {p : Int} {up : Bool} : Only (rndR a p up) := by
 unfold rndR
 split
 ·exact nm_only _ _ _
 ·exact wrong_only
theorem rndR_null {a : Rw} {p : Int} {up : Bool} : Null (rndR a p up) := by
 unfold rndR
 split
 ·exact nm_null _ _ _
 ·exact wrong_null
theorem rndR_some {a : Rw} {p : Int} {up : Bool} : Some (rndR a p up) := by
 unfold rndR
 split
 ·exact nm_some _ _ _
 ·exact wrong_some
section
variable (S : Sc)
def addO (a b : Rw) : Except Int Rw := S.oc (addR S.K a.s a.l a.e b.s b.l b.e)
def mulO (a b : Rw) : Except Int Rw := S.oc (mulR a.s a.l a.e b.s b.l b.e)
def quoO (p : Int) (up : Bool) (a b : Rw) : Except Int Rw := S.oc (quotR a.s a.l a.e b.s b.l b.e p up)
def rndO (a : Rw) (p : Int) (up : Bool) : Except Int Rw := S.oc (rndR a p up)
/-- Down of one, Up of another one -/
def outO (a b : Rw) (p : Int) : Except Int Iv := thn (rndO S a p false) fun l => thn (rndO S b p true) fun h => .ok ⟨l, h⟩
def sumO (x y : Iv) (p : Int) : Except Int Iv := thn (addO S x.lo y.lo) fun a => thn (rndO S a p false) fun l => thn (addO S x.hi y.hi) fun b => thn (rndO S b p true) fun h => .ok ⟨l, h⟩
def corO (F : Rw → Rw → Except Int Rw) (x y : Iv) : Except Int (List Rw) := thn (F x.lo y.lo) fun a => thn (F x.lo y.hi) fun b => thn (F x.hi y.lo) fun c => thn (F x.hi y.hi) fun d => .ok [a, b, c, d]
def leaL : List Rw → Rw
 | [] => Rw.zero
 | a :: l => l.foldl (leastQ S.K) a
def greL : List Rw → Rw
 | [] => Rw.zero
 | a :: l => l.foldl (greatQ S.K) a
def mulI (x y : Iv) (p : Int) : Except Int Iv := thn (corO (mulO S) x y) fun L => outO S (leaL S L) (greL S L) p
def divI (x y : Iv) (p : Int) : Except Int Iv := if hasI S.K y Rw.zero = true then .error 4 else thn (corO (quoO S p false) x y) fun L => thn (corO (quoO S p true) x y) fun M => .ok ⟨leaL S L, greL S M⟩
def prec (p : Int) : Bool := decide (1 ≤ p) && decide (p ≤ 2000)
/-- a face of two intervals, of one -/
def face2 (x y : Iv) (p : Int) (o : Except Int Iv) : Except Int Iv := if (mayI S.K x && mayI S.K y && prec p) = true then o else .error 1
end
end Go.Proofs.YteagjlcmgiknmaaGreatDoor
namespace Go.Proofs.YteagjlcmgiknmaaGreatDoor

section
variable {S : Sc} {a b c d : Rw} {x y r : Iv} {p : Int}
theorem addO_ok (ha : a.may = true) (hb : b.may = true) (h : addO S a b = .ok c) : c.may = true ∧ c.v S.K = a.v S.K + b.v S.K := by
 obtain ⟨s, m, e, hp, rfl⟩ := S.of_ok addR_only (addR_some S.big a.lt b.lt) h
 unfold addR at hp
 rw [if_pos ⟨ha, hb⟩] at hp
 obtain ⟨s0, m0, e0, he0, hv, hN⟩ := hp
 exact ⟨Rw.of_may (nm_ok hN), by rw [Rw.of_v, nm_value he0 hN, hv]; rfl⟩
theorem mulO_ok (ha : a.may = true) (hb : b.may = true) (h : mulO S a b = .ok c) : c.may = true ∧ c.v S.K * ((2 ^ S.K : Nat) : Int) = a.v S.K * b.v S.K := by
 obtain ⟨s, m, e, hp, rfl⟩ := S.of_ok mulR_only mulR_some h
 unfold mulR at hp
 rw [if_pos ⟨ha, hb⟩] at hp
 have r1 := okd_ge S.big (mayD_of a.lt ha).2
 have r2 := okd_ge S.big (mayD_of b.lt hb).2
 have hk := S.big
 exact ⟨Rw.of_may (nm_ok hp), by rw [Rw.of_v, nm_value (by omega) hp]; exact (vz_mul r1.2.2 r2.2.2 (by omega)).symm⟩
theorem oc_cod {P : Int → Bool → Nat → Int → Prop} (ho : Only P) (hs : Some P) : Cod (S.oc P) := fun _ h => (S.of_err ho hs h).1
theorem addO_cod : Cod (addO S a b) := oc_cod addR_only (addR_some S.big a.lt b.lt)
theorem mulO_cod : Cod (mulO S a b) := oc_cod mulR_only mulR_some
theorem quoO_cod {up : Bool} : Cod (quoO S p up a b) := oc_cod quotR_only quotR_some
theorem rndO_cod {up : Bool} : Cod (rndO S a p up) := oc_cod rndR_only rndR_some
theorem ok_cod {α : Type} {v : α} : Cod (.ok v : Except Int α) := fun _ h => by cases h
theorem err_cod {α : Type} {k : Int} (hk : k ≠ 0) : Cod (.error k : Except Int α) := fun _ h => by cases h; exact hk
theorem outO_cod : Cod (outO S a b p) := thn_cod rndO_cod fun _ _ => thn_cod rndO_cod fun _ _ => ok_cod
theorem sumO_cod : Cod (sumO S x y p) := thn_cod addO_cod fun _ _ => thn_cod rndO_cod fun _ _ => thn_cod addO_cod fun _ _ => thn_cod rndO_cod fun _ _ => ok_cod
theorem corO_cod {F : Rw → Rw → Except Int Rw} (h : ∀ a b, Cod (F a b)) : Cod (corO F x y) := thn_cod (h _ _) fun _ _ => thn_cod (h _ _) fun _ _ => thn_cod (h _ _) fun _ _ => thn_cod (h _ _) fun _ _ => ok_cod
theorem thn_ok {α β : Type} {o : Except Int α} {f : α → Except Int β} {v : β} (h : thn o f = .ok v) : ∃ u, o = .ok u ∧ f u = .ok v := by
 cases o with
 | ok u => exact ⟨u, rfl, h⟩
 | error k => cases h
/-- the greatest of p bits that is not above, the least that is not below -/
def Dn (S : Sc) (p : Int) (A : Int) (c : Rw) : Prop := c.may = true ∧ c.v S.K ≤ A ∧ Fits p.toNat (val W c.l) ∧ ∀ d : Rw, d.may = true → Fits p.toNat (val W d.l) → d.v S.K ≤ A → d.v S.K ≤ c.v S.K
def Upp (S : Sc) (p : Int) (A : Int) (c : Rw) : Prop := c.may = true ∧ A ≤ c.v S.K ∧ Fits p.toNat (val W c.l) ∧ ∀ d : Rw, d.may = true → Fits p.toNat (val W d.l) → A ≤ d.v S.K → c.v S.K ≤ d.v S.K
theorem rndO_told {up : Bool} (hp : 1 ≤ p ∧ p ≤ 2000) (ha : a.may = true) (h : rndO S a p up = .ok c) : ∃ s m e, RdTold a.s (val W a.l) a.e p.toNat up 0 s m e ∧ c = Rw.of s m e := by
 obtain ⟨s, m, e, hp2, hc⟩ := S.of_ok rndR_only rndR_some h
 unfold rndR at hp2
 rw [if_pos ⟨hp, ha⟩] at hp2
 exact ⟨s, m, e, hp2, hc⟩
theorem rnd_dn (hp : 1 ≤ p ∧ p ≤ 2000) (ha : a.may = true) (h : rndO S a p false = .ok c) : Dn S p (a.v S.K) c := by
 obtain ⟨s, m, e, h2, rfl⟩ := rndO_told hp ha h
 have hn : 1 ≤ p.toNat := by omega
 have r := okd_ge S.big (mayD_of a.lt ha).2
 refine ⟨Rw.of_may (nm_okd h2), down_le S.big ha h2, ?_, fun d hd hf hv => ?_⟩
 ·show Fits p.toNat (val W (dig W m))
  rw [val_dig W_two]
  exact nm_fits h2 (rd_fits hn _ _)
 ·have r2 := okd_ge S.big (mayD_of d.lt hd).2
  rw [Rw.of_v, nm_value r.2.2 h2]
  exact near_down hn r.2.2 r2.2.2 hf hv
theorem rnd_up (hp : 1 ≤ p ∧ p ≤ 2000) (ha : a.may = true) (h : rndO S a p true = .ok c) : Upp S p (a.v S.K) c := by
 obtain ⟨s, m, e, h2, rfl⟩ := rndO_told hp ha h
 have hn : 1 ≤ p.toNat := by omega
 have r := okd_ge S.big (mayD_of a.lt ha).2
 refine ⟨Rw.of_may (nm_okd h2), up_ge S.big ha h2, ?_, fun d hd hf hv => ?_⟩
 ·show Fits p.toNat (val W (dig W m))
  rw [val_dig W_two]
  exact nm_fits h2 (rd_fits hn _ _)
 ·have r2 := okd_ge S.big (mayD_of d.lt hd).2
  rw [Rw.of_v, nm_value r.2.2 h2]
  exact near_up hn r.2.2 r2.2.2 hf hv
theorem dn_mono {q A B : Int} (hq : q ≤ p) (h : Dn S p B c) (h' : Dn S q A d) (hAB : A ≤ B) : d.v S.K ≤ c.v S.K :=
 h.2.2.2 d h'.1 (fits_mono h'.2.2.1 (by omega)) (Int.le_trans h'.2.1 hAB)
theorem up_mono {q A B : Int} (hq : q ≤ p) (h : Upp S p B c) (h' : Upp S q A d) (hAB : B ≤ A) : c.v S.K ≤ d.v S.K :=
 h.2.2.2 d h'.1 (fits_mono h'.2.2.1 (by omega)) (Int.le_trans hAB h'.2.1)
def Tight (S : Sc) (p A B : Int) (r : Iv) : Prop := Dn S p A r.lo ∧ Upp S p B r.hi
theorem tight_may {A B : Int} (h : Tight S p A B r) (hAB : A ≤ B) : mayI S.K r = true := mayI_iff.2 ⟨h.1.1, h.2.1, Int.le_trans h.1.2.1 (Int.le_trans hAB h.2.2.1)⟩
theorem tight_grow {q A B A' B' : Int} {t : Iv} (hq : q ≤ p) (h : Tight S p A B r) (h' : Tight S q A' B' t) (hAB : A ≤ B) (h1 : A' ≤ A) (h2 : B ≤ B') : withinI S.K r t = true :=
 withinI_iff.2 ⟨tight_may h hAB, tight_may h' (by omega), dn_mono hq h.1 h'.1 h1, up_mono hq h.2 h'.2 h2⟩
theorem outO_ok (hp : 1 ≤ p ∧ p ≤ 2000) (ha : a.may = true) (hb : b.may = true) (h : outO S a b p = .ok r) : Tight S p (a.v S.K) (b.v S.K) r := by
 obtain ⟨l, h1, h⟩ := thn_ok h
 obtain ⟨u, h2, h⟩ := thn_ok h
 cases h
 exact ⟨rnd_dn hp ha h1, rnd_up hp hb h2⟩
theorem sumO_ok (hp : 1 ≤ p ∧ p ≤ 2000) (hx : mayI S.K x = true) (hy : mayI S.K y = true) (h : sumO S x y p = .ok r) : Tight S p (x.lo.v S.K + y.lo.v S.K) (x.hi.v S.K + y.hi.v S.K) r := by
 obtain ⟨a, h1, h⟩ := thn_ok h
 obtain ⟨l, h2, h⟩ := thn_ok h
 obtain ⟨b, h3, h⟩ := thn_ok h
 obtain ⟨u, h4, h⟩ := thn_ok h
 cases h
 have k1 := mayI_iff.1 hx
 have k2 := mayI_iff.1 hy
 have a1 := addO_ok k1.1 k2.1 h1
 have a2 := addO_ok k1.2.1 k2.2.1 h3
 rw [← a1.2, ← a2.2]
 exact ⟨rnd_dn hp a1.1 h2, rnd_up hp a2.1 h4⟩
theorem sum_grow {q : Int} {X Y R : Iv} (hp : 1 ≤ p ∧ p ≤ 2000) (hq : 1 ≤ q ∧ q ≤ p) (hx : withinI S.K x X = true) (hy : withinI S.K y Y = true) (h : sumO S x y p = .ok r) (h' : sumO S X Y q = .ok R) : withinI S.K r R = true := by
 obtain ⟨a1, a2, a3, a4⟩ := withinI_iff.1 hx
 obtain ⟨b1, b2, b3, b4⟩ := withinI_iff.1 hy
 have k1 := mayI_iff.1 a1
 have k2 := mayI_iff.1 b1
 exact tight_grow hq.2 (sumO_ok hp a1 b1 h) (sumO_ok ⟨hq.1, by omega⟩ a2 b2 h') (by omega) (by omega) (by omega)
/-- the least and the greatest of some -/
theorem least_or (ha : a.may = true) (hb : b.may = true) : (leastQ S.K a b = a ∨ leastQ S.K a b = b) ∧ (leastQ S.K a b).v S.K ≤ a.v S.K ∧ (leastQ S.K a b).v S.K ≤ b.v S.K := by
 have h := cmpQ_lt (K := S.K) hb ha
 unfold leastQ
 by_cases h1 : cmpQ S.K b a < 0
 ·rw [if_pos h1]; exact ⟨.inr rfl, Int.le_of_lt (h.1 h1), Int.le_refl _⟩
 ·rw [if_neg h1]; exact ⟨.inl rfl, Int.le_refl _, Int.not_lt.1 fun h2 => h1 (h.2 h2)⟩
theorem great_or (ha : a.may = true) (hb : b.may = true) : (greatQ S.K a b = a ∨ greatQ S.K a b = b) ∧ a.v S.K ≤ (greatQ S.K a b).v S.K ∧ b.v S.K ≤ (greatQ S.K a b).v S.K := by
 have h := cmpQ_lt (K := S.K) ha hb
 unfold greatQ
 by_cases h1 : cmpQ S.K a b < 0
 ·rw [if_pos h1]; exact ⟨.inr rfl, Int.le_of_lt (h.1 h1), Int.le_refl _⟩
 ·rw [if_neg h1]; exact ⟨.inl rfl, Int.le_refl _, Int.not_lt.1 fun h2 => h1 (h.2 h2)⟩
theorem fold_least (l : List Rw) : ∀ a : Rw, a.may = true → (∀ z ∈ l, z.may = true) → (l.foldl (leastQ S.K) a ∈ a :: l) ∧ ∀ z ∈ a :: l, (l.foldl (leastQ S.K) a).v S.K ≤ z.v S.K := by
 induction l with
 | nil => exact fun a _ _ => ⟨List.mem_singleton.2 rfl, fun z hz => by rw [List.mem_singleton.1 hz]; exact Int.le_refl _⟩
 | cons b l ih =>
  intro a ha hl
  have hb := hl b (List.mem_cons_self ..)
  obtain ⟨o, v1, v2⟩ := least_or (S := S) ha hb
  have hm : (leastQ S.K a b).may = true := by rcases o with o | o <;> rw [o] <;> assumption
  obtain ⟨i1, i2⟩ := ih (leastQ S.K a b) hm (fun z hz => hl z (List.mem_cons_of_mem _ hz))
  have i3 := i2 _ (List.mem_cons_self ..)
  rw [List.foldl_cons]
  refine ⟨?_, fun z hz => ?_⟩
  ·rcases List.mem_cons.1 i1 with i | i
   ·rw [i]; rcases o with o | o <;> rw [o] <;> simp
   ·exact List.mem_cons_of_mem _ (List.mem_cons_of_mem _ i)
  ·rcases List.mem_cons.1 hz with rfl | hz
   ·exact Int.le_trans i3 v1
   ·rcases List.mem_cons.1 hz with rfl | hz
    ·exact Int.le_trans i3 v2
    ·exact i2 z (List.mem_cons_of_mem _ hz)
theorem fold_great (l : List Rw) : ∀ a : Rw, a.may = true → (∀ z ∈ l, z.may = true) → (l.foldl (greatQ S.K) a ∈ a :: l) ∧ ∀ z ∈ a :: l, z.v S.K ≤ (l.foldl (greatQ S.K) a).v S.K := by
 induction l with
 | nil => exact fun a _ _ => ⟨List.mem_singleton.2 rfl, fun z hz => by rw [List.mem_singleton.1 hz]; exact Int.le_refl _⟩
 | cons b l ih =>
  intro a ha hl
  have hb := hl b (List.mem_cons_self ..)
  obtain ⟨o, v1, v2⟩ := great_or (S := S) ha hb
  have hm : (greatQ S.K a b).may = true := by rcases o with o | o <;> rw [o] <;> assumption
  obtain ⟨i1, i2⟩ := ih (greatQ S.K a b) hm (fun z hz => hl z (List.mem_cons_of_mem _ hz))
  have i3 := i2 _ (List.mem_cons_self ..)
  rw [List.foldl_cons]
  refine ⟨?_, fun z hz => ?_⟩
  ·rcases List.mem_cons.1 i1 with i | i
   ·rw [i]; rcases o with o | o <;> rw [o] <;> simp
   ·exact List.mem_cons_of_mem _ (List.mem_cons_of_mem _ i)
  ·rcases List.mem_cons.1 hz with rfl | hz
   ·exact Int.le_trans v1 i3
   ·rcases List.mem_cons.1 hz with rfl | hz
    ·exact Int.le_trans v2 i3
    ·exact i2 z (List.mem_cons_of_mem _ hz)
theorem lea_of {L : List Rw} (h0 : L ≠ []) (hl : ∀ z ∈ L, z.may = true) : leaL S L ∈ L ∧ ∀ z ∈ L, (leaL S L).v S.K ≤ z.v S.K := by
 cases L with
 | nil => exact absurd rfl h0
 | cons a l => exact fold_least l a (hl a (List.mem_cons_self ..)) (fun z hz => hl z (List.mem_cons_of_mem _ hz))
theorem gre_of {L : List Rw} (h0 : L ≠ []) (hl : ∀ z ∈ L, z.may = true) : greL S L ∈ L ∧ ∀ z ∈ L, z.v S.K ≤ (greL S L).v S.K := by
 cases L with
 | nil => exact absurd rfl h0
 | cons a l => exact fold_great l a (hl a (List.mem_cons_self ..)) (fun z hz => hl z (List.mem_cons_of_mem _ hz))
end
/-- products of numbers between are not below the least of the corners' -/
theorem corner_lo {a1 a2 b1 b2 u w M : Int} (h1 : M ≤ a1 * b1) (h2 : M ≤ a1 * b2) (h3 : M ≤ a2 * b1) (h4 : M ≤ a2 * b2) (u1 : a1 ≤ u) (u2 : u ≤ a2) (w1 : b1 ≤ w) (w2 : w ≤ b2) : M ≤ u * w := by
 have key : ∀ b, M ≤ a1 * b → M ≤ a2 * b → M ≤ u * b := fun b k1 k2 => by
  rcases Int.le_total 0 b with hb | hb
  ·exact Int.le_trans k1 (Int.mul_le_mul_of_nonneg_right u1 hb)
  ·exact Int.le_trans k2 (Int.mul_le_mul_of_nonpos_right u2 hb)
 rcases Int.le_total 0 u with hu | hu
 ·exact Int.le_trans (key b1 h1 h3) (Int.mul_le_mul_of_nonneg_left w1 hu)
 ·exact Int.le_trans (key b2 h2 h4) (Int.mul_le_mul_of_nonpos_left hu w2)
theorem corner_hi {a1 a2 b1 b2 u w M : Int} (h1 : a1 * b1 ≤ M) (h2 : a1 * b2 ≤ M) (h3 : a2 * b1 ≤ M) (h4 : a2 * b2 ≤ M) (u1 : a1 ≤ u) (u2 : u ≤ a2) (w1 : b1 ≤ w) (w2 : w ≤ b2) : u * w ≤ M := by
 have := corner_lo (a1 := a1) (a2 := a2) (b1 := -b2) (b2 := -b1) (u := u) (w := -w) (M := -M) (by rw [Int.mul_neg]; omega) (by rw [Int.mul_neg]; omega) (by rw [Int.mul_neg]; omega) (by rw [Int.mul_neg]; omega) u1 u2 (by omega) (by omega)
 rw [Int.mul_neg] at this
 omega
section
variable {S : Sc} {a b c d : Rw} {x y r : Iv} {p : Int}
theorem corO_ok {F : Rw → Rw → Except Int Rw} {L : List Rw} (h : corO F x y = .ok L) : ∃ a b c d, F x.lo y.lo = .ok a ∧ F x.lo y.hi = .ok b ∧ F x.hi y.lo = .ok c ∧ F x.hi y.hi = .ok d ∧ L = [a, b, c, d] := by
 obtain ⟨a, h1, h⟩ := thn_ok h
 obtain ⟨b, h2, h⟩ := thn_ok h
 obtain ⟨c, h3, h⟩ := thn_ok h
 obtain ⟨d, h4, h⟩ := thn_ok h
 cases h
 exact ⟨a, b, c, d, h1, h2, h3, h4, rfl⟩
/-- the corners' products: all may be, each one's value, and all products of numbers between lie between -/
theorem cor_mul {L : List Rw} (hx : mayI S.K x = true) (hy : mayI S.K y = true) (h : corO (mulO S) x y = .ok L) : L ≠ [] ∧ (∀ z ∈ L, z.may = true) ∧ (∀ z ∈ L, ∃ u w : Rw, (u = x.lo ∨ u = x.hi) ∧ (w = y.lo ∨ w = y.hi) ∧ mulO S u w = .ok z) ∧
  (∀ u w, (u = x.lo ∨ u = x.hi) → (w = y.lo ∨ w = y.hi) → ∃ z ∈ L, mulO S u w = .ok z) := by
 obtain ⟨a, b, c, d, h1, h2, h3, h4, rfl⟩ := corO_ok h
 have k1 := mayI_iff.1 hx
 have k2 := mayI_iff.1 hy
 refine ⟨List.cons_ne_nil _ _, ?_, ?_, ?_⟩
 ·intro z hz
  simp only [List.mem_cons, List.not_mem_nil, or_false] at hz
  rcases hz with rfl | rfl | rfl | rfl
  ·exact (mulO_ok k1.1 k2.1 h1).1
  ·exact (mulO_ok k1.1 k2.2.1 h2).1
  ·exact (mulO_ok k1.2.1 k2.1 h3).1
  ·exact (mulO_ok k1.2.1 k2.2.1 h4).1
 ·intro z hz
  simp only [List.mem_cons, List.not_mem_nil, or_false] at hz
  rcases hz with rfl | rfl | rfl | rfl
  ·exact ⟨_, _, .inl rfl, .inl rfl, h1⟩
  ·exact ⟨_, _, .inl rfl, .inr rfl, h2⟩
  ·exact ⟨_, _, .inr rfl, .inl rfl, h3⟩
  ·exact ⟨_, _, .inr rfl, .inr rfl, h4⟩
 ·rintro u w (rfl | rfl) (rfl | rfl)
  ·exact ⟨a, by simp, h1⟩
  ·exact ⟨b, by simp, h2⟩
  ·exact ⟨c, by simp, h3⟩
  ·exact ⟨d, by simp, h4⟩
theorem cor_between {L : List Rw} (hx : mayI S.K x = true) (hy : mayI S.K y = true) (h : corO (mulO S) x y = .ok L) {u w : Int} (u1 : x.lo.v S.K ≤ u) (u2 : u ≤ x.hi.v S.K) (w1 : y.lo.v S.K ≤ w) (w2 : w ≤ y.hi.v S.K) :
  (leaL S L).v S.K * ((2 ^ S.K : Nat) : Int) ≤ u * w ∧ u * w ≤ (greL S L).v S.K * ((2 ^ S.K : Nat) : Int) := by
 obtain ⟨c0, c1, _, c3⟩ := cor_mul hx hy h
 obtain ⟨_, l2⟩ := lea_of (S := S) c0 c1
 obtain ⟨_, g2⟩ := gre_of (S := S) c0 c1
 have k1 := mayI_iff.1 hx
 have k2 := mayI_iff.1 hy
 have hP := Int.le_of_lt (pos_of_pow (k := S.K))
 have key : ∀ s t : Rw, (s = x.lo ∨ s = x.hi) → (t = y.lo ∨ t = y.hi) → (leaL S L).v S.K * ((2 ^ S.K : Nat) : Int) ≤ s.v S.K * t.v S.K ∧ s.v S.K * t.v S.K ≤ (greL S L).v S.K * ((2 ^ S.K : Nat) : Int) := fun s t hs ht => by
  obtain ⟨z, hz, h5⟩ := c3 s t hs ht
  have ms : s.may = true := by rcases hs with rfl | rfl; exact k1.1; exact k1.2.1
  have mt : t.may = true := by rcases ht with rfl | rfl; exact k2.1; exact k2.2.1
  have := (mulO_ok ms mt h5).2
  rw [← this]
  exact ⟨Int.mul_le_mul_of_nonneg_right (l2 z hz) hP, Int.mul_le_mul_of_nonneg_right (g2 z hz) hP⟩
 have a1 := key _ _ (.inl rfl) (.inl rfl)
 have a2 := key _ _ (.inl rfl) (.inr rfl)
 have a3 := key _ _ (.inr rfl) (.inl rfl)
 have a4 := key _ _ (.inr rfl) (.inr rfl)
 exact ⟨corner_lo a1.1 a2.1 a3.1 a4.1 u1 u2 w1 w2, corner_hi a1.2 a2.2 a3.2 a4.2 u1 u2 w1 w2⟩
theorem lea_gre {L : List Rw} (h0 : L ≠ []) (hl : ∀ z ∈ L, z.may = true) : (leaL S L).may = true ∧ (greL S L).may = true ∧ (leaL S L).v S.K ≤ (greL S L).v S.K := by
 obtain ⟨l1, l2⟩ := lea_of (S := S) h0 hl
 obtain ⟨g1, g2⟩ := gre_of (S := S) h0 hl
 exact ⟨hl _ l1, hl _ g1, Int.le_trans (l2 _ g1) (Int.le_refl _)⟩
theorem mul_end {L : List Rw} (hx : mayI S.K x = true) (hy : mayI S.K y = true) (h : corO (mulO S) x y = .ok L) {z : Rw} (hz : z ∈ L) : ∃ u w : Int, z.v S.K * ((2 ^ S.K : Nat) : Int) = u * w ∧ x.lo.v S.K ≤ u ∧ u ≤ x.hi.v S.K ∧ y.lo.v S.K ≤ w ∧ w ≤ y.hi.v S.K := by
 obtain ⟨_, _, c2, _⟩ := cor_mul hx hy h
 have k1 := mayI_iff.1 hx
 have k2 := mayI_iff.1 hy
 obtain ⟨u, w, hu, hw, h5⟩ := c2 z hz
 have mu : u.may = true := by rcases hu with rfl | rfl; exact k1.1; exact k1.2.1
 have mw : w.may = true := by rcases hw with rfl | rfl; exact k2.1; exact k2.2.1
 refine ⟨u.v S.K, w.v S.K, (mulO_ok mu mw h5).2, ?_, ?_, ?_, ?_⟩
 ·rcases hu with rfl | rfl; exact Int.le_refl _; exact k1.2.2
 ·rcases hu with rfl | rfl; exact k1.2.2; exact Int.le_refl _
 ·rcases hw with rfl | rfl; exact Int.le_refl _; exact k2.2.2
 ·rcases hw with rfl | rfl; exact k2.2.2; exact Int.le_refl _
theorem of_scaled {K : Nat} {A B : Int} (h : A * ((2 ^ K : Nat) : Int) ≤ B * ((2 ^ K : Nat) : Int)) : A ≤ B := Int.le_of_mul_le_mul_right h pos_of_pow
theorem mulI_ok (hp : 1 ≤ p ∧ p ≤ 2000) (hx : mayI S.K x = true) (hy : mayI S.K y = true) (h : mulI S x y p = .ok r) : ∃ L, corO (mulO S) x y = .ok L ∧ Tight S p ((leaL S L).v S.K) ((greL S L).v S.K) r ∧ (leaL S L).v S.K ≤ (greL S L).v S.K ∧ leaL S L ∈ L ∧ greL S L ∈ L := by
 obtain ⟨L, h1, h⟩ := thn_ok h
 obtain ⟨c0, c1, _⟩ := cor_mul hx hy h1
 obtain ⟨m1, m2, m3⟩ := lea_gre (S := S) c0 c1
 exact ⟨L, h1, outO_ok hp m1 m2 h, m3, (lea_of c0 c1).1, (gre_of c0 c1).1⟩
theorem mul_grow {q : Int} {X Y R : Iv} (hp : 1 ≤ p ∧ p ≤ 2000) (hq : 1 ≤ q ∧ q ≤ p) (hx : withinI S.K x X = true) (hy : withinI S.K y Y = true) (h : mulI S x y p = .ok r) (h' : mulI S X Y q = .ok R) : withinI S.K r R = true := by
 obtain ⟨a1, a2, a3, a4⟩ := withinI_iff.1 hx
 obtain ⟨b1, b2, b3, b4⟩ := withinI_iff.1 hy
 obtain ⟨L, c1, t1, o1, e1, e2⟩ := mulI_ok hp a1 b1 h
 obtain ⟨M, d1, t2, _⟩ := mulI_ok ⟨hq.1, by omega⟩ a2 b2 h'
 refine tight_grow hq.2 t1 t2 o1 ?_ ?_
 ·obtain ⟨u, w, hv, u1, u2, w1, w2⟩ := mul_end a1 b1 c1 e1
  have := (cor_between a2 b2 d1 (u := u) (w := w) (by omega) (by omega) (by omega) (by omega)).1
  rw [← hv] at this
  exact of_scaled this
 ·obtain ⟨u, w, hv, u1, u2, w1, w2⟩ := mul_end a1 b1 c1 e2
  have := (cor_between a2 b2 d1 (u := u) (w := w) (by omega) (by omega) (by omega) (by omega)).2
  rw [← hv] at this
  exact of_scaled this
end
end Go.Proofs.YteagjlcmgiknmaaGreatDoor
