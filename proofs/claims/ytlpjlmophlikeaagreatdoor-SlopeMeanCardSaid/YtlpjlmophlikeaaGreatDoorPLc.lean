/-
 What outcomes are worth: sums, products, rounded numbers as values; the least interval of so many bits; greater intervals make no less. No condition; nothing of the program is named here.
-/
import Derived.Test.YtlpjlmophlikeaaGreatDoorPLa
import Derived.Test.YtlpjlmophlikeaaGreatDoorPIc
import Derived.Test.YtlpjlmophlikeaaGreatDoorPEa
namespace Go.Proofs.YtlpjlmophlikeaaGreatDoor

section
variable {S : Sc} {a b c d : Rw} {x y r : Iv} {p : Int}
theorem addO_ok (ha : a.may = true) (hb : b.may = true) (h : addO S a b = .ok c) : c.may = true ∧ c.v S.K = a.v S.K + b.v S.K := by
 obtain ⟨s, m, e, hp, rfl⟩ := S.of_ok addR_only (addR_some S.big a.lt b.lt) h
 unfold addR at hp
 rw [if_pos ⟨ha, hb⟩] at hp
 obtain ⟨s0, m0, e0, he0, hv, hN⟩ := hp
 exact ⟨Rw.of_may (nm_ok hN), by rw [Rw.of_v, nm_value he0 hN, hv]; rfl⟩
theorem mulO_ok (ha : a.may = true) (hb : b.may = true) (h : mulO S a b = .ok c) : c.may = true ∧ c.v S.K * ((2 ^ S.K : Nat) : Int) = a.v S.K * b.v S.K := by
 obtain ⟨s, m, e, hp, rfl⟩ := S.of_ok mulR_only mulR_some h
 unfold mulR at hp
 rw [if_pos ⟨ha, hb⟩] at hp
 have r1 := okd_ge S.big (mayD_of a.lt ha).2
 have r2 := okd_ge S.big (mayD_of b.lt hb).2
 have hk := S.big
 exact ⟨Rw.of_may (nm_ok hp), by rw [Rw.of_v, nm_value (by omega) hp]; exact (vz_mul r1.2.2 r2.2.2 (by omega)).symm⟩
theorem oc_cod {P : Int → Bool → Nat → Int → Prop} (ho : Only P) (hs : Some P) : Cod (S.oc P) := fun _ h => (S.of_err ho hs h).1
theorem addO_cod : Cod (addO S a b) := oc_cod addR_only (addR_some S.big a.lt b.lt)
theorem mulO_cod : Cod (mulO S a b) := oc_cod mulR_only mulR_some
theorem quoO_cod {up : Bool} : Cod (quoO S p up a b) := oc_cod quotR_only quotR_some
theorem rooO_cod {up : Bool} : Cod (rooO S a p up) := oc_cod (rootR_only a.lt) rootR_some
theorem rndO_cod {up : Bool} : Cod (rndO S a p up) := oc_cod rndR_only rndR_some
theorem ok_cod {α : Type} {v : α} : Cod (.ok v : Except Int α) := fun _ h => by cases h
theorem err_cod {α : Type} {k : Int} (hk : k ≠ 0) : Cod (.error k : Except Int α) := fun _ h => by cases h; exact hk
theorem outO_cod : Cod (outO S a b p) := thn_cod rndO_cod fun _ _ => thn_cod rndO_cod fun _ _ => ok_cod
theorem sumO_cod : Cod (sumO S x y p) := thn_cod addO_cod fun _ _ => thn_cod rndO_cod fun _ _ => thn_cod addO_cod fun _ _ => thn_cod rndO_cod fun _ _ => ok_cod
theorem rooI_cod : Cod (rooI S x p) := thn_cod rooO_cod fun _ _ => thn_cod rooO_cod fun _ _ => ok_cod
theorem corO_cod {F : Rw → Rw → Except Int Rw} (h : ∀ a b, Cod (F a b)) : Cod (corO F x y) := thn_cod (h _ _) fun _ _ => thn_cod (h _ _) fun _ _ => thn_cod (h _ _) fun _ _ => thn_cod (h _ _) fun _ _ => ok_cod
theorem thn_ok {α β : Type} {o : Except Int α} {f : α → Except Int β} {v : β} (h : thn o f = .ok v) : ∃ u, o = .ok u ∧ f u = .ok v := by
 cases o with
 | ok u => exact ⟨u, rfl, h⟩
 | error k => cases h
/-- the greatest of p bits that is not above, the least that is not below -/
def Dn (S : Sc) (p : Int) (A : Int) (c : Rw) : Prop := c.may = true ∧ c.v S.K ≤ A ∧ Fits p.toNat (val W c.l) ∧ ∀ d : Rw, d.may = true → Fits p.toNat (val W d.l) → d.v S.K ≤ A → d.v S.K ≤ c.v S.K
def Upp (S : Sc) (p : Int) (A : Int) (c : Rw) : Prop := c.may = true ∧ A ≤ c.v S.K ∧ Fits p.toNat (val W c.l) ∧ ∀ d : Rw, d.may = true → Fits p.toNat (val W d.l) → A ≤ d.v S.K → c.v S.K ≤ d.v S.K
theorem rndO_told {up : Bool} (hp : 1 ≤ p ∧ p ≤ 2000) (ha : a.may = true) (h : rndO S a p up = .ok c) : ∃ s m e, RdTold a.s (val W a.l) a.e p.toNat up 0 s m e ∧ c = Rw.of s m e := by
 obtain ⟨s, m, e, hp2, hc⟩ := S.of_ok rndR_only rndR_some h
 unfold rndR at hp2
 rw [if_pos ⟨hp, ha⟩] at hp2
 exact ⟨s, m, e, hp2, hc⟩
theorem rnd_dn (hp : 1 ≤ p ∧ p ≤ 2000) (ha : a.may = true) (h : rndO S a p false = .ok c) : Dn S p (a.v S.K) c := by
 obtain ⟨s, m, e, h2, rfl⟩ := rndO_told hp ha h
 have hn : 1 ≤ p.toNat := by omega
 have r := okd_ge S.big (mayD_of a.lt ha).2
 refine ⟨Rw.of_may (nm_okd h2), down_le S.big ha h2, ?_, fun d hd hf hv => ?_⟩
 ·show Fits p.toNat (val W (dig W m))
  rw [val_dig W_two]
  exact nm_fits h2 (rd_fits hn _ _)
 ·have r2 := okd_ge S.big (mayD_of d.lt hd).2
  rw [Rw.of_v, nm_value r.2.2 h2]
  exact near_down hn r.2.2 r2.2.2 hf hv
theorem rnd_up (hp : 1 ≤ p ∧ p ≤ 2000) (ha : a.may = true) (h : rndO S a p true = .ok c) : Upp S p (a.v S.K) c := by
 obtain ⟨s, m, e, h2, rfl⟩ := rndO_told hp ha h
 have hn : 1 ≤ p.toNat := by omega
 have r := okd_ge S.big (mayD_of a.lt ha).2
 refine ⟨Rw.of_may (nm_okd h2), up_ge S.big ha h2, ?_, fun d hd hf hv => ?_⟩
 ·show Fits p.toNat (val W (dig W m))
  rw [val_dig W_two]
  exact nm_fits h2 (rd_fits hn _ _)
 ·have r2 := okd_ge S.big (mayD_of d.lt hd).2
  rw [Rw.of_v, nm_value r.2.2 h2]
  exact near_up hn r.2.2 r2.2.2 hf hv
theorem dn_mono {q A B : Int} (hq : q ≤ p) (h : Dn S p B c) (h' : Dn S q A d) (hAB : A ≤ B) : d.v S.K ≤ c.v S.K :=
 h.2.2.2 d h'.1 (fits_mono h'.2.2.1 (by omega)) (Int.le_trans h'.2.1 hAB)
theorem up_mono {q A B : Int} (hq : q ≤ p) (h : Upp S p B c) (h' : Upp S q A d) (hAB : B ≤ A) : c.v S.K ≤ d.v S.K :=
 h.2.2.2 d h'.1 (fits_mono h'.2.2.1 (by omega)) (Int.le_trans hAB h'.2.1)
def Tight (S : Sc) (p A B : Int) (r : Iv) : Prop := Dn S p A r.lo ∧ Upp S p B r.hi
theorem tight_may {A B : Int} (h : Tight S p A B r) (hAB : A ≤ B) : mayI S.K r = true := mayI_iff.2 ⟨h.1.1, h.2.1, Int.le_trans h.1.2.1 (Int.le_trans hAB h.2.2.1)⟩
theorem tight_grow {q A B A' B' : Int} {t : Iv} (hq : q ≤ p) (h : Tight S p A B r) (h' : Tight S q A' B' t) (hAB : A ≤ B) (h1 : A' ≤ A) (h2 : B ≤ B') : withinI S.K r t = true :=
 withinI_iff.2 ⟨tight_may h hAB, tight_may h' (by omega), dn_mono hq h.1 h'.1 h1, up_mono hq h.2 h'.2 h2⟩
theorem outO_ok (hp : 1 ≤ p ∧ p ≤ 2000) (ha : a.may = true) (hb : b.may = true) (h : outO S a b p = .ok r) : Tight S p (a.v S.K) (b.v S.K) r := by
 obtain ⟨l, h1, h⟩ := thn_ok h
 obtain ⟨u, h2, h⟩ := thn_ok h
 cases h
 exact ⟨rnd_dn hp ha h1, rnd_up hp hb h2⟩
theorem sumO_ok (hp : 1 ≤ p ∧ p ≤ 2000) (hx : mayI S.K x = true) (hy : mayI S.K y = true) (h : sumO S x y p = .ok r) : Tight S p (x.lo.v S.K + y.lo.v S.K) (x.hi.v S.K + y.hi.v S.K) r := by
 obtain ⟨a, h1, h⟩ := thn_ok h
 obtain ⟨l, h2, h⟩ := thn_ok h
 obtain ⟨b, h3, h⟩ := thn_ok h
 obtain ⟨u, h4, h⟩ := thn_ok h
 cases h
 have k1 := mayI_iff.1 hx
 have k2 := mayI_iff.1 hy
 have a1 := addO_ok k1.1 k2.1 h1
 have a2 := addO_ok k1.2.1 k2.2.1 h3
 rw [← a1.2, ← a2.2]
 exact ⟨rnd_dn hp a1.1 h2, rnd_up hp a2.1 h4⟩
theorem negQ_may : (negQ a).may = a.may := negR_may.1
theorem negQ_v (ha : a.may = true) : (negQ a).v S.K = - a.v S.K := negR_may.2 S.K ha
theorem turn_may : mayI S.K (turnI x) = mayI S.K x := by
 rw [Bool.eq_iff_iff, mayI_iff, mayI_iff]
 show (negQ x.hi).may = true ∧ (negQ x.lo).may = true ∧ (negQ x.hi).v S.K ≤ (negQ x.lo).v S.K ↔ _
 rw [negQ_may, negQ_may]
 constructor
 ·rintro ⟨h1, h2, h3⟩
  rw [negQ_v h1, negQ_v h2] at h3
  exact ⟨h2, h1, by omega⟩
 ·rintro ⟨h1, h2, h3⟩
  rw [negQ_v h1, negQ_v h2]
  exact ⟨h2, h1, by omega⟩
theorem turn_within (h : withinI S.K x y = true) : withinI S.K (turnI x) (turnI y) = true := by
 obtain ⟨h1, h2, h3, h4⟩ := withinI_iff.1 h
 have k1 := mayI_iff.1 h1
 have k2 := mayI_iff.1 h2
 refine withinI_iff.2 ⟨by rw [turn_may]; exact h1, by rw [turn_may]; exact h2, ?_, ?_⟩
 ·show (negQ y.hi).v S.K ≤ (negQ x.hi).v S.K
  rw [negQ_v k1.2.1, negQ_v k2.2.1]; omega
 ·show (negQ x.lo).v S.K ≤ (negQ y.lo).v S.K
  rw [negQ_v k1.1, negQ_v k2.1]; omega
theorem sum_grow {q : Int} {X Y R : Iv} (hp : 1 ≤ p ∧ p ≤ 2000) (hq : 1 ≤ q ∧ q ≤ p) (hx : withinI S.K x X = true) (hy : withinI S.K y Y = true) (h : sumO S x y p = .ok r) (h' : sumO S X Y q = .ok R) : withinI S.K r R = true := by
 obtain ⟨a1, a2, a3, a4⟩ := withinI_iff.1 hx
 obtain ⟨b1, b2, b3, b4⟩ := withinI_iff.1 hy
 have k1 := mayI_iff.1 a1
 have k2 := mayI_iff.1 b1
 exact tight_grow hq.2 (sumO_ok hp a1 b1 h) (sumO_ok ⟨hq.1, by omega⟩ a2 b2 h') (by omega) (by omega) (by omega)
/-- the least and the greatest of some -/
theorem least_or (ha : a.may = true) (hb : b.may = true) : (leastQ S.K a b = a ∨ leastQ S.K a b = b) ∧ (leastQ S.K a b).v S.K ≤ a.v S.K ∧ (leastQ S.K a b).v S.K ≤ b.v S.K := by
 have h := cmpQ_lt (K := S.K) hb ha
 unfold leastQ
 by_cases h1 : cmpQ S.K b a < 0
 ·rw [if_pos h1]; exact ⟨.inr rfl, Int.le_of_lt (h.1 h1), Int.le_refl _⟩
 ·rw [if_neg h1]; exact ⟨.inl rfl, Int.le_refl _, Int.not_lt.1 fun h2 => h1 (h.2 h2)⟩
theorem great_or (ha : a.may = true) (hb : b.may = true) : (greatQ S.K a b = a ∨ greatQ S.K a b = b) ∧ a.v S.K ≤ (greatQ S.K a b).v S.K ∧ b.v S.K ≤ (greatQ S.K a b).v S.K := by
 have h := cmpQ_lt (K := S.K) ha hb
 unfold greatQ
 by_cases h1 : cmpQ S.K a b < 0
 ·rw [if_pos h1]; exact ⟨.inr rfl, Int.le_of_lt (h.1 h1), Int.le_refl _⟩
 ·rw [if_neg h1]; exact ⟨.inl rfl, Int.le_refl _, Int.not_lt.1 fun h2 => h1 (h.2 h2)⟩
theorem fold_least (l : List Rw) : ∀ a : Rw, a.may = true → (∀ z ∈ l, z.may = true) → (l.foldl (leastQ S.K) a ∈ a :: l) ∧ ∀ z ∈ a :: l, (l.foldl (leastQ S.K) a).v S.K ≤ z.v S.K := by
 induction l with
 | nil => exact fun a _ _ => ⟨List.mem_singleton.2 rfl, fun z hz => by rw [List.mem_singleton.1 hz]; exact Int.le_refl _⟩
 | cons b l ih =>
  intro a ha hl
  have hb := hl b (List.mem_cons_self ..)
  obtain ⟨o, v1, v2⟩ := least_or (S := S) ha hb
  have hm : (leastQ S.K a b).may = true := by rcases o with o | o <;> rw [o] <;> assumption
  obtain ⟨i1, i2⟩ := ih (leastQ S.K a b) hm (fun z hz => hl z (List.mem_cons_of_mem _ hz))
  have i3 := i2 _ (List.mem_cons_self ..)
  rw [List.foldl_cons]
  refine ⟨?_, fun z hz => ?_⟩
  ·rcases List.mem_cons.1 i1 with i | i
   ·rw [i]; rcases o with o | o <;> rw [o] <;> simp
   ·exact List.mem_cons_of_mem _ (List.mem_cons_of_mem _ i)
  ·rcases List.mem_cons.1 hz with rfl | hz
   ·exact Int.le_trans i3 v1
   ·rcases List.mem_cons.1 hz with rfl | hz
    ·exact Int.le_trans i3 v2
    ·exact i2 z (List.mem_cons_of_mem _ hz)
theorem fold_great (l : List Rw) : ∀ a : Rw, a.may = true → (∀ z ∈ l, z.may = true) → (l.foldl (greatQ S.K) a ∈ a :: l) ∧ ∀ z ∈ a :: l, z.v S.K ≤ (l.foldl (greatQ S.K) a).v S.K := by
 induction l with
 | nil => exact fun a _ _ => ⟨List.mem_singleton.2 rfl, fun z hz => by rw [List.mem_singleton.1 hz]; exact Int.le_refl _⟩
 | cons b l ih =>
  intro a ha hl
  have hb := hl b (List.mem_cons_self ..)
  obtain ⟨o, v1, v2⟩ := great_or (S := S) ha hb
  have hm : (greatQ S.K a b).may = true := by rcases o with o | o <;> rw [o] <;> assumption
  obtain ⟨i1, i2⟩ := ih (greatQ S.K a b) hm (fun z hz => hl z (List.mem_cons_of_mem _ hz))
  have i3 := i2 _ (List.mem_cons_self ..)
  rw [List.foldl_cons]
  refine ⟨?_, fun z hz => ?_⟩
  ·rcases List.mem_cons.1 i1 with i | i
   ·rw [i]; rcases o with o | o <;> rw [o] <;> simp
   ·exact List.mem_cons_of_mem _ (List.mem_cons_of_mem _ i)
  ·rcases List.mem_cons.1 hz with rfl | hz
   ·exact Int.le_trans v1 i3
   ·rcases List.mem_cons.1 hz with rfl | hz
    ·exact Int.le_trans v2 i3
    ·exact i2 z (List.mem_cons_of_mem _ hz)
theorem lea_of {L : List Rw} (h0 : L ≠ []) (hl : ∀ z ∈ L, z.may = true) : leaL S L ∈ L ∧ ∀ z ∈ L, (leaL S L).v S.K ≤ z.v S.K := by
 cases L with
 | nil => exact absurd rfl h0
 | cons a l => exact fold_least l a (hl a (List.mem_cons_self ..)) (fun z hz => hl z (List.mem_cons_of_mem _ hz))
theorem gre_of {L : List Rw} (h0 : L ≠ []) (hl : ∀ z ∈ L, z.may = true) : greL S L ∈ L ∧ ∀ z ∈ L, z.v S.K ≤ (greL S L).v S.K := by
 cases L with
 | nil => exact absurd rfl h0
 | cons a l => exact fold_great l a (hl a (List.mem_cons_self ..)) (fun z hz => hl z (List.mem_cons_of_mem _ hz))
end
/-- products of numbers between are not below the least of the corners' -/
theorem corner_lo {a1 a2 b1 b2 u w M : Int} (h1 : M ≤ a1 * b1) (h2 : M ≤ a1 * b2) (h3 : M ≤ a2 * b1) (h4 : M ≤ a2 * b2) (u1 : a1 ≤ u) (u2 : u ≤ a2) (w1 : b1 ≤ w) (w2 : w ≤ b2) : M ≤ u * w := by
 have key : ∀ b, M ≤ a1 * b → M ≤ a2 * b → M ≤ u * b := fun b k1 k2 => by
  rcases Int.le_total 0 b with hb | hb
  ·exact Int.le_trans k1 (Int.mul_le_mul_of_nonneg_right u1 hb)
  ·exact Int.le_trans k2 (Int.mul_le_mul_of_nonpos_right u2 hb)
 rcases Int.le_total 0 u with hu | hu
 ·exact Int.le_trans (key b1 h1 h3) (Int.mul_le_mul_of_nonneg_left w1 hu)
 ·exact Int.le_trans (key b2 h2 h4) (Int.mul_le_mul_of_nonpos_left hu w2)
theorem corner_hi {a1 a2 b1 b2 u w M : Int} (h1 : a1 * b1 ≤ M) (h2 : a1 * b2 ≤ M) (h3 : a2 * b1 ≤ M) (h4 : a2 * b2 ≤ M) (u1 : a1 ≤ u) (u2 : u ≤ a2) (w1 : b1 ≤ w) (w2 : w ≤ b2) : u * w ≤ M := by
 have := corner_lo (a1 := a1) (a2 := a2) (b1 := -b2) (b2 := -b1) (u := u) (w := -w) (M := -M) (by rw [Int.mul_neg]; omega) (by rw [Int.mul_neg]; omega) (by rw [Int.mul_neg]; omega) (by rw [Int.mul_neg]; omega) u1 u2 (by omega) (by omega)
 rw [Int.mul_neg] at this
 omega
section
variable {S : Sc} {a b c d : Rw} {x y r : Iv} {p : Int}
theorem corO_ok {F : Rw → Rw → Except Int Rw} {L : List Rw} (h : corO F x y = .ok L) : ∃ a b c d, F x.lo y.lo = .ok a ∧ F x.lo y.hi = .ok b ∧ F x.hi y.lo = .ok c ∧ F x.hi y.hi = .ok d ∧ L = [a, b, c, d] := by
 obtain ⟨a, h1, h⟩ := thn_ok h
 obtain ⟨b, h2, h⟩ := thn_ok h
 obtain ⟨c, h3, h⟩ := thn_ok h
 obtain ⟨d, h4, h⟩ := thn_ok h
 cases h
 exact ⟨a, b, c, d, h1, h2, h3, h4, rfl⟩
/-- the corners' products: all may be, each one's value, and all products of numbers between lie between -/
theorem cor_mul {L : List Rw} (hx : mayI S.K x = true) (hy : mayI S.K y = true) (h : corO (mulO S) x y = .ok L) : L ≠ [] ∧ (∀ z ∈ L, z.may = true) ∧ (∀ z ∈ L, ∃ u w : Rw, (u = x.lo ∨ u = x.hi) ∧ (w = y.lo ∨ w = y.hi) ∧ mulO S u w = .ok z) ∧
  (∀ u w, (u = x.lo ∨ u = x.hi) → (w = y.lo ∨ w = y.hi) → ∃ z ∈ L, mulO S u w = .ok z) := by
 obtain ⟨a, b, c, d, h1, h2, h3, h4, rfl⟩ := corO_ok h
 have k1 := mayI_iff.1 hx
 have k2 := mayI_iff.1 hy
 refine ⟨List.cons_ne_nil _ _, ?_, ?_, ?_⟩
 ·intro z hz
  simp only [List.mem_cons, List.not_mem_nil, or_false] at hz
  rcases hz with rfl | rfl | rfl | rfl
  ·exact (mulO_ok k1.1 k2.1 h1).1
  ·exact (mulO_ok k1.1 k2.2.1 h2).1
  ·exact (mulO_ok k1.2.1 k2.1 h3).1
  ·exact (mulO_ok k1.2.1 k2.2.1 h4).1
 ·intro z hz
  simp only [List.mem_cons, List.not_mem_nil, or_false] at hz
  rcases hz with rfl | rfl | rfl | rfl
  ·exact ⟨_, _, .inl rfl, .inl rfl, h1⟩
  ·exact ⟨_, _, .inl rfl, .inr rfl, h2⟩
  ·exact ⟨_, _, .inr rfl, .inl rfl, h3⟩
  ·exact ⟨_, _, .inr rfl, .inr rfl, h4⟩
 ·rintro u w (rfl | rfl) (rfl | rfl)
  ·exact ⟨a, by simp, h1⟩
  ·exact ⟨b, by simp, h2⟩
  ·exact ⟨c, by simp, h3⟩
  ·exact ⟨d, by simp, h4⟩
theorem cor_between {L : List Rw} (hx : mayI S.K x = true) (hy : mayI S.K y = true) (h : corO (mulO S) x y = .ok L) {u w : Int} (u1 : x.lo.v S.K ≤ u) (u2 : u ≤ x.hi.v S.K) (w1 : y.lo.v S.K ≤ w) (w2 : w ≤ y.hi.v S.K) :
  (leaL S L).v S.K * ((2 ^ S.K : Nat) : Int) ≤ u * w ∧ u * w ≤ (greL S L).v S.K * ((2 ^ S.K : Nat) : Int) := by
 obtain ⟨c0, c1, _, c3⟩ := cor_mul hx hy h
 obtain ⟨_, l2⟩ := lea_of (S := S) c0 c1
 obtain ⟨_, g2⟩ := gre_of (S := S) c0 c1
 have k1 := mayI_iff.1 hx
 have k2 := mayI_iff.1 hy
 have hP := Int.le_of_lt (pos_of_pow (k := S.K))
 have key : ∀ s t : Rw, (s = x.lo ∨ s = x.hi) → (t = y.lo ∨ t = y.hi) → (leaL S L).v S.K * ((2 ^ S.K : Nat) : Int) ≤ s.v S.K * t.v S.K ∧ s.v S.K * t.v S.K ≤ (greL S L).v S.K * ((2 ^ S.K : Nat) : Int) := fun s t hs ht => by
  obtain ⟨z, hz, h5⟩ := c3 s t hs ht
  have ms : s.may = true := by rcases hs with rfl | rfl; exact k1.1; exact k1.2.1
  have mt : t.may = true := by rcases ht with rfl | rfl; exact k2.1; exact k2.2.1
  have := (mulO_ok ms mt h5).2
  rw [← this]
  exact ⟨Int.mul_le_mul_of_nonneg_right (l2 z hz) hP, Int.mul_le_mul_of_nonneg_right (g2 z hz) hP⟩
 have a1 := key _ _ (.inl rfl) (.inl rfl)
 have a2 := key _ _ (.inl rfl) (.inr rfl)
 have a3 := key _ _ (.inr rfl) (.inl rfl)
 have a4 := key _ _ (.inr rfl) (.inr rfl)
 exact ⟨corner_lo a1.1 a2.1 a3.1 a4.1 u1 u2 w1 w2, corner_hi a1.2 a2.2 a3.2 a4.2 u1 u2 w1 w2⟩
theorem lea_gre {L : List Rw} (h0 : L ≠ []) (hl : ∀ z ∈ L, z.may = true) : (leaL S L).may = true ∧ (greL S L).may = true ∧ (leaL S L).v S.K ≤ (greL S L).v S.K := by
 obtain ⟨l1, l2⟩ := lea_of (S := S) h0 hl
 obtain ⟨g1, g2⟩ := gre_of (S := S) h0 hl
 exact ⟨hl _ l1, hl _ g1, Int.le_trans (l2 _ g1) (Int.le_refl _)⟩
theorem mul_end {L : List Rw} (hx : mayI S.K x = true) (hy : mayI S.K y = true) (h : corO (mulO S) x y = .ok L) {z : Rw} (hz : z ∈ L) : ∃ u w : Int, z.v S.K * ((2 ^ S.K : Nat) : Int) = u * w ∧ x.lo.v S.K ≤ u ∧ u ≤ x.hi.v S.K ∧ y.lo.v S.K ≤ w ∧ w ≤ y.hi.v S.K := by
 obtain ⟨_, _, c2, _⟩ := cor_mul hx hy h
 have k1 := mayI_iff.1 hx
 have k2 := mayI_iff.1 hy
 obtain ⟨u, w, hu, hw, h5⟩ := c2 z hz
 have mu : u.may = true := by rcases hu with rfl | rfl; exact k1.1; exact k1.2.1
 have mw : w.may = true := by rcases hw with rfl | rfl; exact k2.1; exact k2.2.1
 refine ⟨u.v S.K, w.v S.K, (mulO_ok mu mw h5).2, ?_, ?_, ?_, ?_⟩
 ·rcases hu with rfl | rfl; exact Int.le_refl _; exact k1.2.2
 ·rcases hu with rfl | rfl; exact k1.2.2; exact Int.le_refl _
 ·rcases hw with rfl | rfl; exact Int.le_refl _; exact k2.2.2
 ·rcases hw with rfl | rfl; exact k2.2.2; exact Int.le_refl _
theorem of_scaled {K : Nat} {A B : Int} (h : A * ((2 ^ K : Nat) : Int) ≤ B * ((2 ^ K : Nat) : Int)) : A ≤ B := Int.le_of_mul_le_mul_right h pos_of_pow
theorem mulI_ok (hp : 1 ≤ p ∧ p ≤ 2000) (hx : mayI S.K x = true) (hy : mayI S.K y = true) (h : mulI S x y p = .ok r) : ∃ L, corO (mulO S) x y = .ok L ∧ Tight S p ((leaL S L).v S.K) ((greL S L).v S.K) r ∧ (leaL S L).v S.K ≤ (greL S L).v S.K ∧ leaL S L ∈ L ∧ greL S L ∈ L := by
 obtain ⟨L, h1, h⟩ := thn_ok h
 obtain ⟨c0, c1, _⟩ := cor_mul hx hy h1
 obtain ⟨m1, m2, m3⟩ := lea_gre (S := S) c0 c1
 exact ⟨L, h1, outO_ok hp m1 m2 h, m3, (lea_of c0 c1).1, (gre_of c0 c1).1⟩
theorem mul_grow {q : Int} {X Y R : Iv} (hp : 1 ≤ p ∧ p ≤ 2000) (hq : 1 ≤ q ∧ q ≤ p) (hx : withinI S.K x X = true) (hy : withinI S.K y Y = true) (h : mulI S x y p = .ok r) (h' : mulI S X Y q = .ok R) : withinI S.K r R = true := by
 obtain ⟨a1, a2, a3, a4⟩ := withinI_iff.1 hx
 obtain ⟨b1, b2, b3, b4⟩ := withinI_iff.1 hy
 obtain ⟨L, c1, t1, o1, e1, e2⟩ := mulI_ok hp a1 b1 h
 obtain ⟨M, d1, t2, _⟩ := mulI_ok ⟨hq.1, by omega⟩ a2 b2 h'
 refine tight_grow hq.2 t1 t2 o1 ?_ ?_
 ·obtain ⟨u, w, hv, u1, u2, w1, w2⟩ := mul_end a1 b1 c1 e1
  have := (cor_between a2 b2 d1 (u := u) (w := w) (by omega) (by omega) (by omega) (by omega)).1
  rw [← hv] at this
  exact of_scaled this
 ·obtain ⟨u, w, hv, u1, u2, w1, w2⟩ := mul_end a1 b1 c1 e2
  have := (cor_between a2 b2 d1 (u := u) (w := w) (by omega) (by omega) (by omega) (by omega)).2
  rw [← hv] at this
  exact of_scaled this
end
end Go.Proofs.YtlpjlmophlikeaaGreatDoor
set_option maxHeartbeats 8000000
set_option maxRecDepth 100000
namespace Go.Proofs.YtlpjlmophlikeaaGreatDoor
open Go.RowKit

def TellQ (o : Except Int Rw) (w : World) (en : Ending) (w' : World) : Prop := ∃ A n c, en = .returned (.tuple #[.agg #[.bool (orw o).s, .slice A n c, .int .i64 (orw o).e], .int .i64 (okc o)]) ∧ Rd w' .u64 Go.Proofs.YtlpjlmophlikeaaGreatDoor.W A n c (orw o).l ∧ Below w.heap.size w w'
def RunQ (o : Except Int Rw) (w : World) (en : Ending) (w' : World) : Prop := (∃ v, o = .ok v ∧ GivQ v w en w') ∨ (∃ k, o = .error k ∧ k ≠ 0 ∧ Faults k w en w')
def RunI (o : Except Int Iv) (w : World) (en : Ending) (w' : World) : Prop := (∃ v, o = .ok v ∧ GivI v w en w') ∨ (∃ k, o = .error k ∧ k ≠ 0 ∧ Faults k w en w')
def TellO (o : Except Int Iv) : World → Ending → World → Prop := TellI (okc o) (oiv o)
section
variable {f : FuncId} {args : Array Value} {w : World}
theorem tellq_to {o o' : Except Int Rw} (h : o = o') (hc : Calls Tryz.prog f args w (TellQ o' w)) : Calls Tryz.prog f args w (TellQ o w) := by subst h; exact hc
theorem runq_to {o o' : Except Int Rw} (h : o = o') (hc : Calls Tryz.prog f args w (RunQ o' w)) : Calls Tryz.prog f args w (RunQ o w) := by subst h; exact hc
theorem runi_to {o o' : Except Int Iv} (h : o = o') (hc : Calls Tryz.prog f args w (RunI o' w)) : Calls Tryz.prog f args w (RunI o w) := by subst h; exact hc
theorem tello_to {o o' : Except Int Iv} (h : o = o') (hc : Calls Tryz.prog f args w (TellO o' w)) : Calls Tryz.prog f args w (TellO o w) := by subst h; exact hc
theorem tells_oc (S : Sc) {P : Int → Bool → Nat → Int → Prop} (ho : Only P) (hz : Null P) (h : Calls Tryz.prog f args w (Tells P w)) : Calls Tryz.prog f args w (TellQ (S.oc P) w) := h.mono fun en w' => by
 rintro ⟨k, s, A, n, c, m, x, rfl, hp, hN, b⟩
 have h2 := S.is P k s m x ho hp
 by_cases hk : k = 0
 ·subst hk
  rw [h2.1 rfl]
  exact ⟨A, n, c, rfl, hN.rd, b⟩
 ·rw [h2.2 hk]
  obtain ⟨rfl, rfl, rfl⟩ := hz _ _ _ _ hp hk
  have h3 := hN.rd
  rw [dig_zero] at h3
  exact ⟨A, n, c, rfl, h3, b⟩
end

theorem dadd_tell (S : Sc) {w : World} {a b : Rw} {A1 : Option Addr} {n1 c1 : Nat} {A2 : Option Addr} {n2 c2 : Nat} (hT : Tab w) (h1 : Rd w .u64 Go.Proofs.YtlpjlmophlikeaaGreatDoor.W A1 n1 c1 a.l) (h2 : Rd w .u64 Go.Proofs.YtlpjlmophlikeaaGreatDoor.W A2 n2 c2 b.l) : Calls Tryz.prog 178 #[.agg #[.bool a.s, .slice A1 n1 c1, .int .i64 a.e], .agg #[.bool b.s, .slice A2 n2 c2, .int .i64 b.e]] w (TellQ (addO S a b) w) := tells_oc S addR_only addR_null (dadd_raw S.big hT h1 h2)
theorem dmul_tell (S : Sc) {w : World} {a b : Rw} {A1 : Option Addr} {n1 c1 : Nat} {A2 : Option Addr} {n2 c2 : Nat} (hT : Tab w) (h1 : Rd w .u64 Go.Proofs.YtlpjlmophlikeaaGreatDoor.W A1 n1 c1 a.l) (h2 : Rd w .u64 Go.Proofs.YtlpjlmophlikeaaGreatDoor.W A2 n2 c2 b.l) : Calls Tryz.prog 13 #[.agg #[.bool a.s, .slice A1 n1 c1, .int .i64 a.e], .agg #[.bool b.s, .slice A2 n2 c2, .int .i64 b.e]] w (TellQ (mulO S a b) w) := tells_oc S mulR_only mulR_null (dmul_raw hT h1 h2)
theorem prec_cases (p : Int) (t : Bool) : ((1 ≤ p ∧ p ≤ 2000) ∧ t = true) ∨ (p < 1 ∨ 2000 < p ∨ t = false) := by
 cases t
 ·exact .inr (.inr (.inr rfl))
 ·by_cases h : 1 ≤ p ∧ p ≤ 2000
  ·exact .inl ⟨h, rfl⟩
  ·exact .inr (by omega)
theorem down_tell (S : Sc) {p : Int} {w : World} {a : Rw} {A1 : Option Addr} {n1 c1 : Nat} (hT : Tab w) (h1 : Rd w .u64 Go.Proofs.YtlpjlmophlikeaaGreatDoor.W A1 n1 c1 a.l) : Calls Tryz.prog 144 #[.agg #[.bool a.s, .slice A1 n1 c1, .int .i64 a.e], .int .i64 p] w (TellQ (rndO S a p false) w) := by
 refine tells_oc S rndR_only rndR_null ?_
 unfold rndR
 rcases prec_cases p a.may with h | h
 ·rw [if_pos h]
  obtain ⟨n, rfl⟩ := Int.eq_ofNat_of_zero_le (show 0 ≤ p by omega)
  obtain ⟨hN, hO, _⟩ := rd_okd h1 h.2
  exact rdown_ok hT hN hO (by omega) (by omega)
 ·rw [if_neg (by rintro ⟨h2, h3⟩; rw [h3] at h; rcases h with h | h | h; omega; omega; cases h)]
  exact rdown_no hT h1 h
theorem up_tell (S : Sc) {p : Int} {w : World} {a : Rw} {A1 : Option Addr} {n1 c1 : Nat} (hT : Tab w) (h1 : Rd w .u64 Go.Proofs.YtlpjlmophlikeaaGreatDoor.W A1 n1 c1 a.l) : Calls Tryz.prog 143 #[.agg #[.bool a.s, .slice A1 n1 c1, .int .i64 a.e], .int .i64 p] w (TellQ (rndO S a p true) w) := by
 refine tells_oc S rndR_only rndR_null ?_
 unfold rndR
 rcases prec_cases p a.may with h | h
 ·rw [if_pos h]
  obtain ⟨n, rfl⟩ := Int.eq_ofNat_of_zero_le (show 0 ≤ p by omega)
  obtain ⟨hN, hO, _⟩ := rd_okd h1 h.2
  exact rup_ok hT hN hO (by omega) (by omega)
 ·rw [if_neg (by rintro ⟨h2, h3⟩; rw [h3] at h; rcases h with h | h | h; omega; omega; cases h)]
  exact rup_no hT h1 h
theorem must_rd {A1 : Option Addr} {n1 c1 : Nat} {a : Rw} {w : World} (h1 : Rd w .u64 Go.Proofs.YtlpjlmophlikeaaGreatDoor.W A1 n1 c1 a.l) :
  Calls Tryz.prog 136 #[.agg #[.bool a.s, .slice A1 n1 c1, .int .i64 a.e], .int .i64 0] w (GivQ a w) := by
 have BB := two_below w (.cells #[.bool a.s, .slice A1 n1 c1, .int .i64 a.e] 27) (.cells #[.bool a.s, .slice A1 n1 c1, .int .i64 a.e] 27)
 have h2 := h1.below BB
 go_enter Tryz.func136, Tryz.ntmps136
 go_wp2_with fail
 refine check_ok.mono ?_
 rintro e' w' ⟨rfl, rfl⟩
 go_wp2
 exact bodyPost_ret (v := .agg #[.bool a.s, .slice A1 n1 c1, .int .i64 a.e]) (by simp [results, Tryz.results136, go_sem]) rfl ⟨_, _, _, rfl, h2, BB⟩
theorem must_run {o : Except Int Rw} {w : World} {A1 : Option Addr} {n1 c1 : Nat} (hc : Cod o) (h1 : Rd w .u64 Go.Proofs.YtlpjlmophlikeaaGreatDoor.W A1 n1 c1 (orw o).l) :
  Calls Tryz.prog 136 #[.agg #[.bool (orw o).s, .slice A1 n1 c1, .int .i64 (orw o).e], .int .i64 (okc o)] w (RunQ o w) := by
 cases o with
 | ok v => exact (must_rd (a := v) h1).mono fun en w' h => .inl ⟨v, rfl, h⟩
 | error k => exact (must_bad (k := k) (hc k rfl)).mono fun en w' h => .inr ⟨k, rfl, hc k rfl, h⟩

theorem down_run (S : Sc) {p : Int} {w : World} {a : Rw} {A1 : Option Addr} {n1 c1 : Nat} (hT : Tab w) (h1 : Rd w .u64 Go.Proofs.YtlpjlmophlikeaaGreatDoor.W A1 n1 c1 a.l) :
  Calls Tryz.prog 177 #[.agg #[.bool a.s, .slice A1 n1 c1, .int .i64 a.e], .int .i64 p] w (RunQ (rndO S a p false) w) := by
 obtain ⟨q, hq⟩ : ∃ q : Except Int Rw, q = rndO S a p false := ⟨_, rfl⟩
 rw [← hq]
 have HQ := Lib.hid hq
 clear hq
 have BB := two_below w (.cells #[.bool a.s, .slice A1 n1 c1, .int .i64 a.e] 27) (.cells #[.bool false, .slice none 0 0, .int .i64 0] 27)
 obtain ⟨a10, a11, a12⟩ := ((Box.new w a.s A1 n1 c1 a.e).alloc (.cells #[.bool false, .slice none 0 0, .int .i64 0] 27)).held
 have r := box_one w (.cells #[.bool a.s, .slice A1 n1 c1, .int .i64 a.e] 27) false none 0 0 0
 have G := mv BB rfl <| And.intro hT <| h1
 clear hT h1
 obtain ⟨hT, h1⟩ := G
 go_enter Tryz.func177, Tryz.ntmps177
 obtain ⟨o1, ho1⟩ : ∃ o, o = rndO S a p false := ⟨_, rfl⟩
 have HO1 := Lib.hid ho1
 clear ho1
 have HC1 : Cod o1 := by rw [HO1.out]; exact rndO_cod
 go_wp2_with fail
 refine (tellq_to HO1.out (down_tell S hT h1)).mono ?_
 rintro en w1 ⟨A3, n3, c3, rfl, h3, b⟩
 replace BB := bnx BB b
 have G := mv b rfl (J3 hT h1 r)
 clear b hT h1 r
 obtain ⟨hT, h1, r⟩ := G
 go_wp2_with fail
 refine (must_run HC1 h3).mono ?_
 rintro en w2 (⟨v1, hv1, A5, n5, c5, rfl, h5, b⟩ | ⟨kk, hk, hk0, rfl, b⟩)
 rotate_left
 ·replace BB := bnx BB b
  clear b
  have HKK := Lib.hid (And.intro hk hk0)
  clear hk hk0
  go_wp2
  exact ⟨rfl, .inr ⟨kk, (HQ.out.trans (by simp only [← HO1.out, HKK.out.1])), HKK.out.2, rfl, BB⟩⟩
 have HV1 := Lib.hid hv1
 clear hv1
 clear h3
 replace BB := bnx BB b
 have G := mv b rfl (J3 hT h1 r)
 clear b hT h1 r
 obtain ⟨hT, h1, r⟩ := G
 have HL : q = .ok v1 := by rw [HQ.out, ← HO1.out, HV1.out]
 obtain ⟨f0, f1, f2⟩ := r.open
 obtain ⟨z0, z1, z2⟩ := r.held
 go_wp2
 have qq := r.put v1.s A5 n5 c5 v1.e
 have hN := h5.put3 r (.bool v1.s) (.slice A5 n5 c5) (.int .i64 v1.e)
 have HB3 := below_put3 (g := w.heap.size + 1) BB (by omega) (.bool v1.s) (.slice A5 n5 c5) (.int .i64 v1.e)
 obtain ⟨z0, z1, z2⟩ := qq.held
 exact bodyPost_ret (v := .agg #[.bool v1.s, .slice A5 n5 c5, .int .i64 v1.e]) (by simp [results, Tryz.results177, go_sem, z0, z1, z2]) rfl (.inl ⟨v1, HL, _, _, _, rfl, hN, HB3⟩)

theorem up_run (S : Sc) {p : Int} {w : World} {a : Rw} {A1 : Option Addr} {n1 c1 : Nat} (hT : Tab w) (h1 : Rd w .u64 Go.Proofs.YtlpjlmophlikeaaGreatDoor.W A1 n1 c1 a.l) :
  Calls Tryz.prog 179 #[.agg #[.bool a.s, .slice A1 n1 c1, .int .i64 a.e], .int .i64 p] w (RunQ (rndO S a p true) w) := by
 obtain ⟨q, hq⟩ : ∃ q : Except Int Rw, q = rndO S a p true := ⟨_, rfl⟩
 rw [← hq]
 have HQ := Lib.hid hq
 clear hq
 have BB := two_below w (.cells #[.bool a.s, .slice A1 n1 c1, .int .i64 a.e] 27) (.cells #[.bool false, .slice none 0 0, .int .i64 0] 27)
 obtain ⟨a10, a11, a12⟩ := ((Box.new w a.s A1 n1 c1 a.e).alloc (.cells #[.bool false, .slice none 0 0, .int .i64 0] 27)).held
 have r := box_one w (.cells #[.bool a.s, .slice A1 n1 c1, .int .i64 a.e] 27) false none 0 0 0
 have G := mv BB rfl <| And.intro hT <| h1
 clear hT h1
 obtain ⟨hT, h1⟩ := G
 go_enter Tryz.func179, Tryz.ntmps179
 obtain ⟨o1, ho1⟩ : ∃ o, o = rndO S a p true := ⟨_, rfl⟩
 have HO1 := Lib.hid ho1
 clear ho1
 have HC1 : Cod o1 := by rw [HO1.out]; exact rndO_cod
 go_wp2_with fail
 refine (tellq_to HO1.out (up_tell S hT h1)).mono ?_
 rintro en w1 ⟨A3, n3, c3, rfl, h3, b⟩
 replace BB := bnx BB b
 have G := mv b rfl (J3 hT h1 r)
 clear b hT h1 r
 obtain ⟨hT, h1, r⟩ := G
 go_wp2_with fail
 refine (must_run HC1 h3).mono ?_
 rintro en w2 (⟨v1, hv1, A5, n5, c5, rfl, h5, b⟩ | ⟨kk, hk, hk0, rfl, b⟩)
 rotate_left
 ·replace BB := bnx BB b
  clear b
  have HKK := Lib.hid (And.intro hk hk0)
  clear hk hk0
  go_wp2
  exact ⟨rfl, .inr ⟨kk, (HQ.out.trans (by simp only [← HO1.out, HKK.out.1])), HKK.out.2, rfl, BB⟩⟩
 have HV1 := Lib.hid hv1
 clear hv1
 clear h3
 replace BB := bnx BB b
 have G := mv b rfl (J3 hT h1 r)
 clear b hT h1 r
 obtain ⟨hT, h1, r⟩ := G
 have HL : q = .ok v1 := by rw [HQ.out, ← HO1.out, HV1.out]
 obtain ⟨f0, f1, f2⟩ := r.open
 obtain ⟨z0, z1, z2⟩ := r.held
 go_wp2
 have qq := r.put v1.s A5 n5 c5 v1.e
 have hN := h5.put3 r (.bool v1.s) (.slice A5 n5 c5) (.int .i64 v1.e)
 have HB3 := below_put3 (g := w.heap.size + 1) BB (by omega) (.bool v1.s) (.slice A5 n5 c5) (.int .i64 v1.e)
 obtain ⟨z0, z1, z2⟩ := qq.held
 exact bodyPost_ret (v := .agg #[.bool v1.s, .slice A5 n5 c5, .int .i64 v1.e]) (by simp [results, Tryz.results179, go_sem, z0, z1, z2]) rfl (.inl ⟨v1, HL, _, _, _, rfl, hN, HB3⟩)

theorem product_run (S : Sc) {w : World} {a b : Rw} {A1 : Option Addr} {n1 c1 : Nat} {A2 : Option Addr} {n2 c2 : Nat} (hT : Tab w) (h1 : Rd w .u64 Go.Proofs.YtlpjlmophlikeaaGreatDoor.W A1 n1 c1 a.l) (h2 : Rd w .u64 Go.Proofs.YtlpjlmophlikeaaGreatDoor.W A2 n2 c2 b.l) :
  Calls Tryz.prog 152 #[.agg #[.bool a.s, .slice A1 n1 c1, .int .i64 a.e], .agg #[.bool b.s, .slice A2 n2 c2, .int .i64 b.e]] w (RunQ (mulO S a b) w) := by
 obtain ⟨q, hq⟩ : ∃ q : Except Int Rw, q = mulO S a b := ⟨_, rfl⟩
 rw [← hq]
 have HQ := Lib.hid hq
 clear hq
 obtain ⟨BB, xa, xb, r⟩ := three_dbl w (s1 := a.s) (A1 := A1) (n1 := n1) (c1 := c1) (e1 := a.e) (s2 := b.s) (A2 := A2) (n2 := n2) (c2 := c2) (e2 := b.e)
 obtain ⟨a10, a11, a12⟩ := xa.held
 obtain ⟨a20, a21, a22⟩ := xb.held
 have G := mv BB rfl (J3 hT h1 h2)
 clear hT h1 h2
 obtain ⟨hT, h1, h2⟩ := G
 go_enter Tryz.func152, Tryz.ntmps152
 obtain ⟨o1, ho1⟩ : ∃ o, o = mulO S a b := ⟨_, rfl⟩
 have HO1 := Lib.hid ho1
 clear ho1
 have HC1 : Cod o1 := by rw [HO1.out]; exact mulO_cod
 go_wp2_with fail
 refine (tellq_to HO1.out (dmul_tell S hT h1 h2)).mono ?_
 rintro en w1 ⟨A3, n3, c3, rfl, h3, b⟩
 replace BB := bnx BB b
 have G := mv b rfl (J4 hT h1 h2 r)
 clear b hT h1 h2 r
 obtain ⟨hT, h1, h2, r⟩ := G
 go_wp2_with fail
 refine (must_run HC1 h3).mono ?_
 rintro en w2 (⟨v1, hv1, A5, n5, c5, rfl, h5, b⟩ | ⟨kk, hk, hk0, rfl, b⟩)
 rotate_left
 ·replace BB := bnx BB b
  clear b
  have HKK := Lib.hid (And.intro hk hk0)
  clear hk hk0
  go_wp2
  exact ⟨rfl, .inr ⟨kk, (HQ.out.trans (by simp only [← HO1.out, HKK.out.1])), HKK.out.2, rfl, BB⟩⟩
 have HV1 := Lib.hid hv1
 clear hv1
 clear h3
 replace BB := bnx BB b
 have G := mv b rfl (J4 hT h1 h2 r)
 clear b hT h1 h2 r
 obtain ⟨hT, h1, h2, r⟩ := G
 have HL : q = .ok v1 := by rw [HQ.out, ← HO1.out, HV1.out]
 obtain ⟨f0, f1, f2⟩ := r.open
 obtain ⟨z0, z1, z2⟩ := r.held
 go_wp2
 have qq := r.put v1.s A5 n5 c5 v1.e
 have hN := h5.put3 r (.bool v1.s) (.slice A5 n5 c5) (.int .i64 v1.e)
 have HB3 := below_put3 (g := w.heap.size + 2) BB (by omega) (.bool v1.s) (.slice A5 n5 c5) (.int .i64 v1.e)
 obtain ⟨z0, z1, z2⟩ := qq.held
 exact bodyPost_ret (v := .agg #[.bool v1.s, .slice A5 n5 c5, .int .i64 v1.e]) (by simp [results, Tryz.results152, go_sem, z0, z1, z2]) rfl (.inl ⟨v1, HL, _, _, _, rfl, hN, HB3⟩)

end Go.Proofs.YtlpjlmophlikeaaGreatDoor
