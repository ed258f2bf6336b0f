/-
  Outcomes: what is told of sums, products, quotients, roots and rounded numbers, as answers or codes, and what arith makes of them.
-/
import Derived.Test.YtehfdfjpmmpndaaGreatDoorQIs
import Derived.Test.YtehfdfjpmmpndaaGreatDoorQRoo
import Derived.Test.YtehfdfjpmmpndaaGreatDoorQRj
import Derived.Test.YtehfdfjpmmpndaaGreatDoorQDn
namespace Go.Proofs.YtehfdfjpmmpndaaGreatDoor
variable {A1 A2 : Option Addr} {a b : Rw} {c1 c2 n1 n2 : Nat} {p : Int} {up : Bool} {w : World}
def Only (P : Int → Bool → Nat → Int → Prop) : Prop := ∀ k s m e k2 s2 m2 e2, P k s m e → P k2 s2 m2 e2 → k = k2 ∧ s = s2 ∧ m = m2 ∧ e = e2
def Null (P : Int → Bool → Nat → Int → Prop) : Prop := ∀ k s m e, P k s m e → k ≠ 0 → s = false ∧ m = 0 ∧ e = 0
def Some (P : Int → Bool → Nat → Int → Prop) : Prop := ∃ k s m e, P k s m e
structure Sc where
 K : Nat
 big : 4194304 ≤ K
 oc : (Int → Bool → Nat → Int → Prop) → Except Int Rw
 is : ∀ P k s m e, Only P → P k s m e → (k = 0 → oc P = .ok (Rw.of s m e)) ∧ (k ≠ 0 → oc P = .error k)
theorem sc_has : Nonempty Sc := by
 obtain ⟨K, hK⟩ := scale_has
 have key : ∀ P : Int → Bool → Nat → Int → Prop, ∃ o : Except Int Rw, ∀ k s m e, Only P → P k s m e → (k = 0 → o = .ok (Rw.of s m e)) ∧ (k ≠ 0 → o = .error k) := fun P => by
  by_cases h : ∃ s m e, P 0 s m e
  ·obtain ⟨s, m, e, h⟩ := h
   refine ⟨.ok (Rw.of s m e), fun k s' m' e' ho hp => ?_⟩
   obtain ⟨rfl, rfl, rfl, rfl⟩ := ho _ _ _ _ _ _ _ _ h hp
   exact ⟨fun _ => rfl, fun h => absurd rfl h⟩
  by_cases h2 : ∃ k s m e, P k s m e
  ·obtain ⟨k, s, m, e, h2⟩ := h2
   refine ⟨.error k, fun k' s' m' e' ho hp => ?_⟩
   obtain ⟨rfl, rfl, rfl, rfl⟩ := ho _ _ _ _ _ _ _ _ h2 hp
   exact ⟨fun h3 => absurd ⟨_, _, _, h3 ▸ h2⟩ h, fun _ => rfl⟩
  exact ⟨.error 0, fun k s m e _ hp => absurd ⟨k, s, m, e, hp⟩ h2⟩
 exact ⟨⟨K, hK, fun P => (key P).choose, fun P => (key P).choose_spec⟩⟩
theorem Sc.of_ok (S : Sc) {P : Int → Bool → Nat → Int → Prop} (ho : Only P) (hs : Some P) (h : S.oc P = .ok a) : ∃ s m e, P 0 s m e ∧ a = Rw.of s m e := by
 obtain ⟨k, s, m, e, hp⟩ := hs
 have h2 := S.is P k s m e ho hp
 by_cases hk : k = 0
 ·subst hk
  have h3 := h2.1 rfl
  rw [h3] at h
  cases h
  exact ⟨s, m, e, hp, rfl⟩
 rw [h2.2 hk] at h
 cases h
theorem Sc.of_err (S : Sc) {P : Int → Bool → Nat → Int → Prop} {k : Int} (ho : Only P) (hs : Some P) (h : S.oc P = .error k) : k ≠ 0 ∧ ∃ s m e, P k s m e := by
 obtain ⟨k', s, m, e, hp⟩ := hs
 have h2 := S.is P k' s m e ho hp
 by_cases hk : k' = 0
 ·rw [h2.1 hk] at h; cases h
 rw [h2.2 hk] at h
 cases h
 exact ⟨hk, s, m, e, hp⟩
def thn {α β : Type} (o : Except Int α) (f : α → Except Int β) : Except Int β := match o with
 | .ok a => f a
 | .error k => .error k
def okc {α : Type} (o : Except Int α) : Int := match o with
 | .ok _ => 0
 | .error k => k
def orw (o : Except Int Rw) : Rw := match o with
 | .ok a => a
 | .error _ => Rw.zero
def oiv (o : Except Int Iv) : Iv := match o with
 | .ok a => a
 | .error _ => Iv.zero
def Cod {α : Type} (o : Except Int α) : Prop := ∀ k, o = .error k → k ≠ 0
theorem thn_cod {α β : Type} {o : Except Int α} {f : α → Except Int β} (h : Cod o) (h2 : ∀ a, o = .ok a → Cod (f a)) : Cod (thn o f) := by
 intro k hk
 cases o with
 | ok a => exact h2 a rfl k hk
 | error j => exact h k (by cases hk; rfl)
theorem wrong_only : Only Wrong := fun _ _ _ _ _ _ _ _ h h' => wrong_fun h h'
theorem wrong_null : Null Wrong := fun _ _ _ _ h _ => h.2
theorem wrong_some : Some Wrong := ⟨_, _, _, _, rfl, rfl, rfl, rfl⟩
theorem outside_null : Null Outside := fun _ _ _ _ h _ => h.2
theorem outside_some : Some Outside := ⟨_, _, _, _, rfl, rfl, rfl, rfl⟩
theorem nm_only (s : Bool) (m : Nat) (e : Int) : Only (Nm s m e) := fun _ _ _ _ _ _ _ _ h h' => nm_fun h h'
theorem nm_null (s : Bool) (m : Nat) (e : Int) : Null (Nm s m e) := fun _ _ _ _ h hk => by
 rcases nm_code h with h1 | ⟨_, h1⟩
 ·exact absurd h1 hk
 exact h1
theorem nm_some (s : Bool) (m : Nat) (e : Int) : Some (Nm s m e) := nm_total s m e
section
variable {K : Nat} {s t : Bool} {l r : List Nat} {e f p : Int} {up : Bool}
theorem addR_only : Only (addR K s l e t r f) := fun _ _ _ _ _ _ _ _ h h' => addR_fun h h'
theorem addR_null : Null (addR K s l e t r f) := by
 unfold addR
 split
 ·rintro k s m e ⟨_, _, _, _, _, h⟩ hk; exact nm_null _ _ _ _ _ _ _ h hk
 exact wrong_null
theorem addR_some (hK : 4194304 ≤ K) (hl : Lt W l) (hr : Lt W r) : Some (addR K s l e t r f) := by
 unfold addR
 split
 ·next h => 
  obtain ⟨_, o1⟩ := mayD_of hl h.1
  obtain ⟨_, o2⟩ := mayD_of hr h.2
  have r1 := okd_ge hK o1
  have r2 := okd_ge hK o2
  exact sum_has hK ⟨r1.1, r1.2.1⟩ ⟨r2.1, r2.2.1⟩
 exact wrong_some
theorem mulR_only : Only (mulR s l e t r f) := fun _ _ _ _ _ _ _ _ h h' => mulR_fun h h'
theorem mulR_null : Null (mulR s l e t r f) := by
 unfold mulR
 split
 ·exact nm_null _ _ _
 exact wrong_null
theorem mulR_some : Some (mulR s l e t r f) := by
 unfold mulR
 split
 ·exact nm_some _ _ _
 exact wrong_some
theorem quotR_only : Only (quotR s l e t r f p up) := fun _ _ _ _ _ _ _ _ h h' => quotR_fun h h'
theorem quotR_null : Null (quotR s l e t r f p up) := by
 unfold quotR
 split
 ·split
  ·exact outside_null
  exact nm_null _ _ _
 exact wrong_null
theorem quotR_some : Some (quotR s l e t r f p up) := by
 unfold quotR
 split
 ·split
  ·exact outside_some
  exact nm_some _ _ _
 exact wrong_some
theorem rootR_some : Some (rootR s l e p up) := by
 unfold rootR
 split
 ·split
  ·exact outside_some
  obtain ⟨q, hq⟩ : ∃ q, q = p.toNat := ⟨_, rfl⟩
  rw [← hq]
  generalize val W l = x
  obtain ⟨d, hd⟩ : ∃ d : Int, (e - d) % 2 = 0 ∧ (blen x : Int) + d ≤ 2 * q ∧ 2 * (q : Int) ≤ (blen x : Int) + d + 1 := by
   by_cases h : (e - (2 * (q : Int) - blen x)) % 2 = 0
   ·exact ⟨_, h, by omega, by omega⟩
   exact ⟨2 * (q : Int) - blen x - 1, by omega, by omega, by omega⟩
  obtain ⟨r, h1, h2⟩ := root_has (x * 2 ^ d.toNat / 2 ^ (-d).toNat)
  obtain ⟨k, s', m', e', hN⟩ := nm_total false (cutR q r (!decide (r * r * 2 ^ (-d).toNat = x * 2 ^ d.toNat)) (up != false)) ((e - d) / 2 + ((blen r - q : Nat) : Int))
  exact ⟨k, s', m', e', d.toNat, (-d).toNat, r, (e - d) / 2, ⟨by omega, by omega, by omega, by omega, h1, h2⟩, hN⟩
 exact wrong_some
theorem rootQ_some : Some (rootQ s l e p up) := by
 unfold rootQ
 split
 ·split
  ·exact outside_some
  split
  ·exact ⟨_, _, _, _, rfl, rfl, rfl, rfl⟩
  obtain ⟨q, hq⟩ : ∃ q, q = p.toNat := ⟨_, rfl⟩
  next h _ _ =>
  have hq2 : q ≤ 2000 := by omega
  rw [← hq]
  generalize val W l = x
  obtain ⟨S, hS⟩ : ∃ S : Nat, 2 * q + 6 ≤ S ∧ S ≤ 2 * q + 7 ∧ (e - (S : Int)) % 2 = 0 := by
   by_cases h : (e - ((2 * q + 6 : Nat) : Int)) % 2 = 0
   ·exact ⟨_, Nat.le_refl _, by omega, h⟩
   exact ⟨2 * q + 7, by omega, by omega, by omega⟩
  obtain ⟨R, h1, h2⟩ := root_has (x * 2 ^ S)
  obtain ⟨k, s', m', e', hN⟩ := nm_total false (cutN q (stickyR S x R) (up != false)) ((e - (S : Int)) / 2 - 1 + ((blen (stickyR S x R) - q : Nat) : Int))
  exact ⟨k, s', m', e', R, S, (e - (S : Int)) / 2, ⟨by omega, by omega, by omega, h1, h2⟩, hN⟩
 exact wrong_some
theorem rootR_only (hl : Lt W l) : Only (rootR s l e p up) := fun k s1 m1 e1 k2 s2 m2 e2 h h' => by
 obtain ⟨k3, s3, m3, e3, h3⟩ := rootQ_some (s := s) (l := l) (e := e) (p := p) (up := up)
 obtain ⟨rfl, rfl, rfl, rfl⟩ := root_agree hl h h3
 obtain ⟨rfl, rfl, rfl, rfl⟩ := root_agree hl h' h3
 exact ⟨rfl, rfl, rfl, rfl⟩
theorem rootR_null : Null (rootR s l e p up) := by
 unfold rootR
 split
 ·split
  ·exact outside_null
  rintro k s' m' e' ⟨_, _, _, _, _, h⟩ hk
  exact nm_null _ _ _ _ _ _ _ h hk
 exact wrong_null
end
def rndR (a : Rw) (p : Int) (up : Bool) : Int → Bool → Nat → Int → Prop := if (1 ≤ p ∧ p ≤ 2000) ∧ a.may = true then RdTold a.s (val W a.l) a.e p.toNat up else Wrong
theorem rndR_only : Only (rndR a p up) := by
 unfold rndR
 split
 ·exact nm_only _ _ _
 exact wrong_only
theorem rndR_null : Null (rndR a p up) := by
 unfold rndR
 split
 ·exact nm_null _ _ _
 exact wrong_null
theorem rndR_some : Some (rndR a p up) := by
 unfold rndR
 split
 ·exact nm_some _ _ _
 exact wrong_some
section
variable (S : Sc)
def addO (a b : Rw) : Except Int Rw := S.oc (addR S.K a.s a.l a.e b.s b.l b.e)
def mulO (a b : Rw) : Except Int Rw := S.oc (mulR a.s a.l a.e b.s b.l b.e)
def quoO (p : Int) (up : Bool) (a b : Rw) : Except Int Rw := S.oc (quotR a.s a.l a.e b.s b.l b.e p up)
def rooO (a : Rw) (p : Int) (up : Bool) : Except Int Rw := S.oc (rootR a.s a.l a.e p up)
def rndO (a : Rw) (p : Int) (up : Bool) : Except Int Rw := S.oc (rndR a p up)
def negQ (a : Rw) : Rw := ⟨negR a.s a.l a.e, a.l, a.e, a.lt⟩
def turnI (x : Iv) : Iv := ⟨negQ x.hi, negQ x.lo⟩
def outO (a b : Rw) (p : Int) : Except Int Iv := thn (rndO S a p false) fun l => thn (rndO S b p true) fun h => .ok ⟨l, h⟩
def sumO (x y : Iv) (p : Int) : Except Int Iv := thn (addO S x.lo y.lo) fun a => thn (rndO S a p false) fun l => thn (addO S x.hi y.hi) fun b => thn (rndO S b p true) fun h => .ok ⟨l, h⟩
def rooI (x : Iv) (p : Int) : Except Int Iv := thn (rooO S x.lo p false) fun l => thn (rooO S x.hi p true) fun h => .ok ⟨l, h⟩
def corO (F : Rw → Rw → Except Int Rw) (x y : Iv) : Except Int (List Rw) := thn (F x.lo y.lo) fun a => thn (F x.lo y.hi) fun b => thn (F x.hi y.lo) fun c => thn (F x.hi y.hi) fun d => .ok [a, b, c, d]
def leaL : List Rw → Rw
 | [] => Rw.zero
 | a :: l => l.foldl (leastQ S.K) a
def greL : List Rw → Rw
 | [] => Rw.zero
 | a :: l => l.foldl (greatQ S.K) a
def mulI (x y : Iv) (p : Int) : Except Int Iv := thn (corO (mulO S) x y) fun L => outO S (leaL S L) (greL S L) p
def divI (x y : Iv) (p : Int) : Except Int Iv := if hasI S.K y Rw.zero = true then .error 4 else thn (corO (quoO S p false) x y) fun L => thn (corO (quoO S p true) x y) fun M => .ok ⟨leaL S L, greL S M⟩
def sqrI (x : Iv) (p : Int) : Except Int Iv := thn (mulO S x.lo x.lo) fun a => thn (mulO S x.hi x.hi) fun b =>
 outO S (leaL S (if hasI S.K x Rw.zero = true then [a, b, Rw.zero] else [a, b])) (greL S (if hasI S.K x Rw.zero = true then [a, b, Rw.zero] else [a, b])) p
def sqtI (x : Iv) (p : Int) : Except Int Iv := if signR x.lo.s x.lo.l x.lo.e < 0 then .error 4 else rooI S x p
def negI (x : Iv) (p : Int) : Except Int Iv := outO S (turnI x).lo (turnI x).hi p
def prec (p : Int) : Bool := decide (1 ≤ p) && decide (p ≤ 2000)
def face2 (x y : Iv) (p : Int) (o : Except Int Iv) : Except Int Iv := if (mayI S.K x && mayI S.K y && prec p) = true then o else .error 1
def face1 (x : Iv) (p : Int) (o : Except Int Iv) : Except Int Iv := if (mayI S.K x && prec p) = true then o else .error 1
end
section
variable {S : Sc} {a b c d : Rw} {x y r : Iv} {p : Int}
theorem oc_cod {P : Int → Bool → Nat → Int → Prop} (ho : Only P) (hs : Some P) : Cod (S.oc P) := fun _ h => (S.of_err ho hs h).1
theorem addO_cod : Cod (addO S a b) := oc_cod addR_only (addR_some S.big a.lt b.lt)
theorem mulO_cod : Cod (mulO S a b) := oc_cod mulR_only mulR_some
theorem quoO_cod : Cod (quoO S p up a b) := oc_cod quotR_only quotR_some
theorem rooO_cod : Cod (rooO S a p up) := oc_cod (rootR_only a.lt) rootR_some
theorem rndO_cod : Cod (rndO S a p up) := oc_cod rndR_only rndR_some
theorem ok_cod {α : Type} {v : α} : Cod (.ok v : Except Int α) := fun _ h => by cases h
theorem err_cod {α : Type} {k : Int} (hk : k ≠ 0) : Cod (.error k : Except Int α) := fun _ h => by cases h; exact hk
theorem outO_cod : Cod (outO S a b p) := thn_cod rndO_cod fun _ _ => thn_cod rndO_cod fun _ _ => ok_cod
theorem sumO_cod : Cod (sumO S x y p) := thn_cod addO_cod fun _ _ => thn_cod rndO_cod fun _ _ => thn_cod addO_cod fun _ _ => thn_cod rndO_cod fun _ _ => ok_cod
theorem rooI_cod : Cod (rooI S x p) := thn_cod rooO_cod fun _ _ => thn_cod rooO_cod fun _ _ => ok_cod
theorem corO_cod {F : Rw → Rw → Except Int Rw} (h : ∀ a b, Cod (F a b)) : Cod (corO F x y) := thn_cod (h _ _) fun _ _ => thn_cod (h _ _) fun _ _ => thn_cod (h _ _) fun _ _ => thn_cod (h _ _) fun _ _ => ok_cod
theorem thn_ok {α β : Type} {o : Except Int α} {f : α → Except Int β} {v : β} (h : thn o f = .ok v) : ∃ u, o = .ok u ∧ f u = .ok v := by
 cases o with
 | ok u => exact ⟨u, rfl, h⟩
 | error k => cases h
def Dn (S : Sc) (p : Int) (A : Int) (c : Rw) : Prop := c.may = true ∧ c.v S.K ≤ A ∧ Fits p.toNat (val W c.l) ∧ ∀ d : Rw, d.may = true → Fits p.toNat (val W d.l) → d.v S.K ≤ A → d.v S.K ≤ c.v S.K
theorem least_or (ha : a.may = true) (hb : b.may = true) : (leastQ S.K a b = a ∨ leastQ S.K a b = b) ∧ (leastQ S.K a b).v S.K ≤ a.v S.K ∧ (leastQ S.K a b).v S.K ≤ b.v S.K := by
 have h := cmpQ_lt (K := S.K) hb ha
 unfold leastQ
 by_cases h1 : cmpQ S.K b a < 0
 ·rw [if_pos h1]; exact ⟨.inr rfl, Int.le_of_lt (h.1 h1), Int.le_refl _⟩
 rw [if_neg h1]; exact ⟨.inl rfl, Int.le_refl _, Int.not_lt.1 fun h2 => h1 (h.2 h2)⟩
theorem great_or (ha : a.may = true) (hb : b.may = true) : (greatQ S.K a b = a ∨ greatQ S.K a b = b) ∧ a.v S.K ≤ (greatQ S.K a b).v S.K ∧ b.v S.K ≤ (greatQ S.K a b).v S.K := by
 have h := cmpQ_lt (K := S.K) ha hb
 unfold greatQ
 by_cases h1 : cmpQ S.K a b < 0
 ·rw [if_pos h1]; exact ⟨.inr rfl, Int.le_of_lt (h.1 h1), Int.le_refl _⟩
 rw [if_neg h1]; exact ⟨.inl rfl, Int.le_refl _, Int.not_lt.1 fun h2 => h1 (h.2 h2)⟩
theorem fold_least (l : List Rw) : ∀ a : Rw, a.may = true → (∀ z ∈ l, z.may = true) → (l.foldl (leastQ S.K) a ∈ a :: l) ∧ ∀ z ∈ a :: l, (l.foldl (leastQ S.K) a).v S.K ≤ z.v S.K := by
 induction l with
 | nil => exact fun a _ _ => ⟨List.mem_singleton.2 rfl, fun z hz => by rw [List.mem_singleton.1 hz]; exact Int.le_refl _⟩
 | cons b l ih =>
  intro a ha hl
  have hb := hl b (List.mem_cons_self ..)
  obtain ⟨o, v1, v2⟩ := least_or (S := S) ha hb
  have hm : (leastQ S.K a b).may = true := by rcases o with o | o <;> rw [o] <;> assumption
  obtain ⟨i1, i2⟩ := ih (leastQ S.K a b) hm (fun z hz => hl z (List.mem_cons_of_mem _ hz))
  have i3 := i2 _ (List.mem_cons_self ..)
  rw [List.foldl_cons]
  refine ⟨?_, fun z hz => ?_⟩
  ·rcases List.mem_cons.1 i1 with i | i
   ·rw [i]; rcases o with o | o <;> rw [o] <;> simp
   exact List.mem_cons_of_mem _ (List.mem_cons_of_mem _ i)
  rcases List.mem_cons.1 hz with rfl | hz
  ·exact Int.le_trans i3 v1
  rcases List.mem_cons.1 hz with rfl | hz
  ·exact Int.le_trans i3 v2
  exact i2 z (List.mem_cons_of_mem _ hz)
theorem fold_great (l : List Rw) : ∀ a : Rw, a.may = true → (∀ z ∈ l, z.may = true) → (l.foldl (greatQ S.K) a ∈ a :: l) ∧ ∀ z ∈ a :: l, z.v S.K ≤ (l.foldl (greatQ S.K) a).v S.K := by
 induction l with
 | nil => exact fun a _ _ => ⟨List.mem_singleton.2 rfl, fun z hz => by rw [List.mem_singleton.1 hz]; exact Int.le_refl _⟩
 | cons b l ih =>
  intro a ha hl
  have hb := hl b (List.mem_cons_self ..)
  obtain ⟨o, v1, v2⟩ := great_or (S := S) ha hb
  have hm : (greatQ S.K a b).may = true := by rcases o with o | o <;> rw [o] <;> assumption
  obtain ⟨i1, i2⟩ := ih (greatQ S.K a b) hm (fun z hz => hl z (List.mem_cons_of_mem _ hz))
  have i3 := i2 _ (List.mem_cons_self ..)
  rw [List.foldl_cons]
  refine ⟨?_, fun z hz => ?_⟩
  ·rcases List.mem_cons.1 i1 with i | i
   ·rw [i]; rcases o with o | o <;> rw [o] <;> simp
   exact List.mem_cons_of_mem _ (List.mem_cons_of_mem _ i)
  rcases List.mem_cons.1 hz with rfl | hz
  ·exact Int.le_trans v1 i3
  rcases List.mem_cons.1 hz with rfl | hz
  ·exact Int.le_trans v2 i3
  exact i2 z (List.mem_cons_of_mem _ hz)
theorem lea_of {L : List Rw} (h0 : L ≠ []) (hl : ∀ z ∈ L, z.may = true) : leaL S L ∈ L ∧ ∀ z ∈ L, (leaL S L).v S.K ≤ z.v S.K := by
 cases L with
 | nil => exact absurd rfl h0
 | cons a l => exact fold_least l a (hl a (List.mem_cons_self ..)) (fun z hz => hl z (List.mem_cons_of_mem _ hz))
theorem gre_of {L : List Rw} (h0 : L ≠ []) (hl : ∀ z ∈ L, z.may = true) : greL S L ∈ L ∧ ∀ z ∈ L, z.v S.K ≤ (greL S L).v S.K := by
 cases L with
 | nil => exact absurd rfl h0
 | cons a l => exact fold_great l a (hl a (List.mem_cons_self ..)) (fun z hz => hl z (List.mem_cons_of_mem _ hz))
end
section
variable {S : Sc} {a b c d : Rw} {x y r : Iv} {p : Int}
theorem corO_ok {F : Rw → Rw → Except Int Rw} {L : List Rw} (h : corO F x y = .ok L) : ∃ a b c d, F x.lo y.lo = .ok a ∧ F x.lo y.hi = .ok b ∧ F x.hi y.lo = .ok c ∧ F x.hi y.hi = .ok d ∧ L = [a, b, c, d] := by
 obtain ⟨a, h1, h⟩ := thn_ok h
 obtain ⟨b, h2, h⟩ := thn_ok h
 obtain ⟨c, h3, h⟩ := thn_ok h
 obtain ⟨d, h4, h⟩ := thn_ok h
 cases h
 exact ⟨a, b, c, d, h1, h2, h3, h4, rfl⟩
end
set_option maxHeartbeats 8000000
set_option maxRecDepth 100000
open Go.RowKit
def TellQ (o : Except Int Rw) (w : World) (en : Ending) (w' : World) : Prop := ∃ A n c, en = .returned (.tuple #[.agg #[.bool (orw o).s, .slice A n c, .int .i64 (orw o).e], .int .i64 (okc o)]) ∧ Rd w' .u64 YtehfdfjpmmpndaaGreatDoor.W A n c (orw o).l ∧ Below w.heap.size w w'
def RunQ (o : Except Int Rw) (w : World) (en : Ending) (w' : World) : Prop := (∃ v, o = .ok v ∧ GivQ v w en w') ∨ (∃ k, o = .error k ∧ k ≠ 0 ∧ Faults k w en w')
def RunI (o : Except Int Iv) (w : World) (en : Ending) (w' : World) : Prop := (∃ v, o = .ok v ∧ GivI v w en w') ∨ (∃ k, o = .error k ∧ k ≠ 0 ∧ Faults k w en w')
def TellO (o : Except Int Iv) : World → Ending → World → Prop := TellI (okc o) (oiv o)
section
variable {f : FuncId} {args : Array Value} {w : World}
theorem tellq_to {o o' : Except Int Rw} (h : o = o') (hc : Calls Tryz.prog f args w (TellQ o' w)) : Calls Tryz.prog f args w (TellQ o w) := by subst h; exact hc
theorem runq_to {o o' : Except Int Rw} (h : o = o') (hc : Calls Tryz.prog f args w (RunQ o' w)) : Calls Tryz.prog f args w (RunQ o w) := by subst h; exact hc
theorem runi_to {o o' : Except Int Iv} (h : o = o') (hc : Calls Tryz.prog f args w (RunI o' w)) : Calls Tryz.prog f args w (RunI o w) := by subst h; exact hc
theorem tello_to {o o' : Except Int Iv} (h : o = o') (hc : Calls Tryz.prog f args w (TellO o' w)) : Calls Tryz.prog f args w (TellO o w) := by subst h; exact hc
theorem tells_oc (S : Sc) {P : Int → Bool → Nat → Int → Prop} (ho : Only P) (hz : Null P) (h : Calls Tryz.prog f args w (Tells P w)) : Calls Tryz.prog f args w (TellQ (S.oc P) w) := h.mono fun en w' => by
 rintro ⟨k, s, A, n, c, m, x, rfl, hp, hN, b⟩
 have h2 := S.is P k s m x ho hp
 by_cases hk : k = 0
 ·subst hk
  rw [h2.1 rfl]
  exact ⟨A, n, c, rfl, hN.rd, b⟩
 rw [h2.2 hk]
 obtain ⟨rfl, rfl, rfl⟩ := hz _ _ _ _ hp hk
 have h3 := hN.rd
 rw [dig_zero] at h3
 exact ⟨A, n, c, rfl, h3, b⟩
end
theorem dadd_tell (S : Sc) (hT : Tab w) (h1 : Rd w .u64 YtehfdfjpmmpndaaGreatDoor.W A1 n1 c1 a.l) (h2 : Rd w .u64 YtehfdfjpmmpndaaGreatDoor.W A2 n2 c2 b.l) : Calls Tryz.prog 141 #[.agg #[.bool a.s, .slice A1 n1 c1, .int .i64 a.e], .agg #[.bool b.s, .slice A2 n2 c2, .int .i64 b.e]] w (TellQ (addO S a b) w) := tells_oc S addR_only addR_null (dadd_raw S.big hT h1 h2)
theorem dmul_tell (S : Sc) (hT : Tab w) (h1 : Rd w .u64 YtehfdfjpmmpndaaGreatDoor.W A1 n1 c1 a.l) (h2 : Rd w .u64 YtehfdfjpmmpndaaGreatDoor.W A2 n2 c2 b.l) : Calls Tryz.prog 16 #[.agg #[.bool a.s, .slice A1 n1 c1, .int .i64 a.e], .agg #[.bool b.s, .slice A2 n2 c2, .int .i64 b.e]] w (TellQ (mulO S a b) w) := tells_oc S mulR_only mulR_null (dmul_raw hT h1 h2)
theorem prec_cases (p : Int) (t : Bool) : ((1 ≤ p ∧ p ≤ 2000) ∧ t = true) ∨ (p < 1 ∨ 2000 < p ∨ t = false) := by
 cases t
 ·exact .inr (.inr (.inr rfl))
 by_cases h : 1 ≤ p ∧ p ≤ 2000
 ·exact .inl ⟨h, rfl⟩
 exact .inr (by omega)
theorem down_tell (S : Sc) (hT : Tab w) (h1 : Rd w .u64 YtehfdfjpmmpndaaGreatDoor.W A1 n1 c1 a.l) : Calls Tryz.prog 105 #[.agg #[.bool a.s, .slice A1 n1 c1, .int .i64 a.e], .int .i64 p] w (TellQ (rndO S a p false) w) := by
 refine tells_oc S rndR_only rndR_null ?_
 unfold rndR
 rcases prec_cases p a.may with h | h
 ·rw [if_pos h]
  obtain ⟨n, rfl⟩ := Int.eq_ofNat_of_zero_le (show 0 ≤ p by omega)
  obtain ⟨hN, hO, _⟩ := rd_okd h1 h.2
  exact rdown_ok hT hN hO (by omega) (by omega)
 rw [if_neg (by rintro ⟨h2, h3⟩; rw [h3] at h; rcases h with h | h | h; omega; omega; cases h)]
 exact rdown_no hT h1 h
theorem up_tell (S : Sc) (hT : Tab w) (h1 : Rd w .u64 YtehfdfjpmmpndaaGreatDoor.W A1 n1 c1 a.l) : Calls Tryz.prog 104 #[.agg #[.bool a.s, .slice A1 n1 c1, .int .i64 a.e], .int .i64 p] w (TellQ (rndO S a p true) w) := by
 refine tells_oc S rndR_only rndR_null ?_
 unfold rndR
 rcases prec_cases p a.may with h | h
 ·rw [if_pos h]
  obtain ⟨n, rfl⟩ := Int.eq_ofNat_of_zero_le (show 0 ≤ p by omega)
  obtain ⟨hN, hO, _⟩ := rd_okd h1 h.2
  exact rup_ok hT hN hO (by omega) (by omega)
 rw [if_neg (by rintro ⟨h2, h3⟩; rw [h3] at h; rcases h with h | h | h; omega; omega; cases h)]
 exact rup_no hT h1 h
theorem quot_tell (S : Sc) (hT : Tab w) (h1 : Rd w .u64 YtehfdfjpmmpndaaGreatDoor.W A1 n1 c1 a.l) (h2 : Rd w .u64 YtehfdfjpmmpndaaGreatDoor.W A2 n2 c2 b.l) : Calls Tryz.prog 147 #[.agg #[.bool a.s, .slice A1 n1 c1, .int .i64 a.e], .agg #[.bool b.s, .slice A2 n2 c2, .int .i64 b.e], .int .i64 p, .bool up] w (TellQ (quoO S p up a b) w) := tells_oc S quotR_only quotR_null (dquot_raw hT h1 h2)
theorem root_tell (S : Sc) (hT : Tab w) (h1 : Rd w .u64 YtehfdfjpmmpndaaGreatDoor.W A1 n1 c1 a.l) : Calls Tryz.prog 148 #[.agg #[.bool a.s, .slice A1 n1 c1, .int .i64 a.e], .int .i64 p, .bool up] w (TellQ (rooO S a p up) w) := tells_oc S (rootR_only a.lt) rootR_null (droot_raw hT h1)
theorem must_rd (h1 : Rd w .u64 YtehfdfjpmmpndaaGreatDoor.W A1 n1 c1 a.l) :
  Calls Tryz.prog 103 #[.agg #[.bool a.s, .slice A1 n1 c1, .int .i64 a.e], .int .i64 0] w (GivQ a w) := by
 have BB := two_below w (.cells #[.bool a.s, .slice A1 n1 c1, .int .i64 a.e] 28) (.cells #[.bool a.s, .slice A1 n1 c1, .int .i64 a.e] 28)
 have h2 := h1.below BB
 go_enter Tryz.func103, Tryz.ntmps103
 go_wp2_with fail
 refine check_ok.mono ?_
 rintro e' w' ⟨rfl, rfl⟩
 go_wp2
 exact bodyPost_ret (v := .agg #[.bool a.s, .slice A1 n1 c1, .int .i64 a.e]) (by simp [results, Tryz.results103, go_sem]) rfl ⟨_, _, _, rfl, h2, BB⟩
theorem must_run {o : Except Int Rw} (hc : Cod o) (h1 : Rd w .u64 YtehfdfjpmmpndaaGreatDoor.W A1 n1 c1 (orw o).l) :
  Calls Tryz.prog 103 #[.agg #[.bool (orw o).s, .slice A1 n1 c1, .int .i64 (orw o).e], .int .i64 (okc o)] w (RunQ o w) := by
 cases o with
 | ok v => exact (must_rd (a := v) h1).mono fun en w' h => .inl ⟨v, rfl, h⟩
 | error k => exact (must_bad (k := k) (hc k rfl)).mono fun en w' h => .inr ⟨k, rfl, hc k rfl, h⟩
theorem down_run (S : Sc) (hT : Tab w) (h1 : Rd w .u64 YtehfdfjpmmpndaaGreatDoor.W A1 n1 c1 a.l) :
  Calls Tryz.prog 140 #[.agg #[.bool a.s, .slice A1 n1 c1, .int .i64 a.e], .int .i64 p] w (RunQ (rndO S a p false) w) := by
 obtain ⟨q, hq⟩ : ∃ q : Except Int Rw, q = rndO S a p false := ⟨_, rfl⟩
 rw [← hq]
 have HQ := hyd hq
 clear hq
 have BB := two_below w (.cells #[.bool a.s, .slice A1 n1 c1, .int .i64 a.e] 28) (.cells #[.bool false, .slice none 0 0, .int .i64 0] 28)
 obtain ⟨a10, a11, a12⟩ := ((Box.new w a.s A1 n1 c1 a.e).alloc (.cells #[.bool false, .slice none 0 0, .int .i64 0] 28)).held
 have r := box_one w (.cells #[.bool a.s, .slice A1 n1 c1, .int .i64 a.e] 28) false none 0 0 0
 have G := mv BB rfl <| And.intro hT <| h1
 clear hT h1
 obtain ⟨hT, h1⟩ := G
 go_enter Tryz.func140, Tryz.ntmps140
 obtain ⟨o1, ho1⟩ : ∃ o, o = rndO S a p false := ⟨_, rfl⟩
 have HO1 := hyd ho1
 clear ho1
 have HC1 : Cod o1 := by rw [HO1.out]; exact rndO_cod
 go_wp2_with fail
 refine (tellq_to HO1.out (down_tell S hT h1)).mono ?_
 rintro en w1 ⟨A3, n3, c3, rfl, h3, b⟩
 replace BB := bnx BB b
 have G := mv b rfl (J3 hT h1 r)
 clear b hT h1 r
 obtain ⟨hT, h1, r⟩ := G
 go_wp2_with fail
 refine (must_run HC1 h3).mono ?_
 rintro en w2 (⟨v1, hv1, A5, n5, c5, rfl, h5, b⟩ | ⟨kk, hk, hk0, rfl, b⟩)
 rotate_left
 ·replace BB := bnx BB b
  clear b
  have HKK := hyd (And.intro hk hk0)
  clear hk hk0
  go_wp2
  exact ⟨rfl, .inr ⟨kk, (HQ.out.trans (by simp only [← HO1.out, HKK.out.1])), HKK.out.2, rfl, BB⟩⟩
 have HV1 := hyd hv1
 clear hv1
 clear h3
 replace BB := bnx BB b
 have G := mv b rfl (J3 hT h1 r)
 clear b hT h1 r
 obtain ⟨hT, h1, r⟩ := G
 have HL : q = .ok v1 := by rw [HQ.out, ← HO1.out, HV1.out]
 obtain ⟨f0, f1, f2⟩ := r.open
 obtain ⟨z0, z1, z2⟩ := r.held
 go_wp2
 exact ret3 rfl rfl rfl r BB (by omega) (h5.put3 r _ _ _) fun hN HB3 => (.inl ⟨v1, HL, _, _, _, rfl, hN, HB3⟩)
theorem up_run (S : Sc) (hT : Tab w) (h1 : Rd w .u64 YtehfdfjpmmpndaaGreatDoor.W A1 n1 c1 a.l) :
  Calls Tryz.prog 142 #[.agg #[.bool a.s, .slice A1 n1 c1, .int .i64 a.e], .int .i64 p] w (RunQ (rndO S a p true) w) := by
 obtain ⟨q, hq⟩ : ∃ q : Except Int Rw, q = rndO S a p true := ⟨_, rfl⟩
 rw [← hq]
 have HQ := hyd hq
 clear hq
 have BB := two_below w (.cells #[.bool a.s, .slice A1 n1 c1, .int .i64 a.e] 28) (.cells #[.bool false, .slice none 0 0, .int .i64 0] 28)
 obtain ⟨a10, a11, a12⟩ := ((Box.new w a.s A1 n1 c1 a.e).alloc (.cells #[.bool false, .slice none 0 0, .int .i64 0] 28)).held
 have r := box_one w (.cells #[.bool a.s, .slice A1 n1 c1, .int .i64 a.e] 28) false none 0 0 0
 have G := mv BB rfl <| And.intro hT <| h1
 clear hT h1
 obtain ⟨hT, h1⟩ := G
 go_enter Tryz.func142, Tryz.ntmps142
 obtain ⟨o1, ho1⟩ : ∃ o, o = rndO S a p true := ⟨_, rfl⟩
 have HO1 := hyd ho1
 clear ho1
 have HC1 : Cod o1 := by rw [HO1.out]; exact rndO_cod
 go_wp2_with fail
 refine (tellq_to HO1.out (up_tell S hT h1)).mono ?_
 rintro en w1 ⟨A3, n3, c3, rfl, h3, b⟩
 replace BB := bnx BB b
 have G := mv b rfl (J3 hT h1 r)
 clear b hT h1 r
 obtain ⟨hT, h1, r⟩ := G
 go_wp2_with fail
 refine (must_run HC1 h3).mono ?_
 rintro en w2 (⟨v1, hv1, A5, n5, c5, rfl, h5, b⟩ | ⟨kk, hk, hk0, rfl, b⟩)
 rotate_left
 ·replace BB := bnx BB b
  clear b
  have HKK := hyd (And.intro hk hk0)
  clear hk hk0
  go_wp2
  exact ⟨rfl, .inr ⟨kk, (HQ.out.trans (by simp only [← HO1.out, HKK.out.1])), HKK.out.2, rfl, BB⟩⟩
 have HV1 := hyd hv1
 clear hv1
 clear h3
 replace BB := bnx BB b
 have G := mv b rfl (J3 hT h1 r)
 clear b hT h1 r
 obtain ⟨hT, h1, r⟩ := G
 have HL : q = .ok v1 := by rw [HQ.out, ← HO1.out, HV1.out]
 obtain ⟨f0, f1, f2⟩ := r.open
 obtain ⟨z0, z1, z2⟩ := r.held
 go_wp2
 exact ret3 rfl rfl rfl r BB (by omega) (h5.put3 r _ _ _) fun hN HB3 => (.inl ⟨v1, HL, _, _, _, rfl, hN, HB3⟩)
theorem product_run (S : Sc) (hT : Tab w) (h1 : Rd w .u64 YtehfdfjpmmpndaaGreatDoor.W A1 n1 c1 a.l) (h2 : Rd w .u64 YtehfdfjpmmpndaaGreatDoor.W A2 n2 c2 b.l) :
  Calls Tryz.prog 113 #[.agg #[.bool a.s, .slice A1 n1 c1, .int .i64 a.e], .agg #[.bool b.s, .slice A2 n2 c2, .int .i64 b.e]] w (RunQ (mulO S a b) w) := by
 obtain ⟨q, hq⟩ : ∃ q : Except Int Rw, q = mulO S a b := ⟨_, rfl⟩
 rw [← hq]
 have HQ := hyd hq
 clear hq
 obtain ⟨BB, xa, xb, r⟩ := three_dbl w (s1 := a.s) (A1 := A1) (n1 := n1) (c1 := c1) (e1 := a.e) (s2 := b.s) (A2 := A2) (n2 := n2) (c2 := c2) (e2 := b.e)
 obtain ⟨a10, a11, a12⟩ := xa.held
 obtain ⟨a20, a21, a22⟩ := xb.held
 have G := mv BB rfl (J3 hT h1 h2)
 clear hT h1 h2
 obtain ⟨hT, h1, h2⟩ := G
 go_enter Tryz.func113, Tryz.ntmps113
 obtain ⟨o1, ho1⟩ : ∃ o, o = mulO S a b := ⟨_, rfl⟩
 have HO1 := hyd ho1
 clear ho1
 have HC1 : Cod o1 := by rw [HO1.out]; exact mulO_cod
 go_wp2_with fail
 refine (tellq_to HO1.out (dmul_tell S hT h1 h2)).mono ?_
 rintro en w1 ⟨A3, n3, c3, rfl, h3, b⟩
 replace BB := bnx BB b
 have G := mv b rfl (J4 hT h1 h2 r)
 clear b hT h1 h2 r
 obtain ⟨hT, h1, h2, r⟩ := G
 go_wp2_with fail
 refine (must_run HC1 h3).mono ?_
 rintro en w2 (⟨v1, hv1, A5, n5, c5, rfl, h5, b⟩ | ⟨kk, hk, hk0, rfl, b⟩)
 rotate_left
 ·replace BB := bnx BB b
  clear b
  have HKK := hyd (And.intro hk hk0)
  clear hk hk0
  go_wp2
  exact ⟨rfl, .inr ⟨kk, (HQ.out.trans (by simp only [← HO1.out, HKK.out.1])), HKK.out.2, rfl, BB⟩⟩
 have HV1 := hyd hv1
 clear hv1
 clear h3
 replace BB := bnx BB b
 have G := mv b rfl (J4 hT h1 h2 r)
 clear b hT h1 h2 r
 obtain ⟨hT, h1, h2, r⟩ := G
 have HL : q = .ok v1 := by rw [HQ.out, ← HO1.out, HV1.out]
 obtain ⟨f0, f1, f2⟩ := r.open
 obtain ⟨z0, z1, z2⟩ := r.held
 go_wp2
 exact ret3 rfl rfl rfl r BB (by omega) (h5.put3 r _ _ _) fun hN HB3 => (.inl ⟨v1, HL, _, _, _, rfl, hN, HB3⟩)
theorem quotient1_run (S : Sc) {g g2 : Nat} (hT : Tab w) (h1 : Rd w .u64 YtehfdfjpmmpndaaGreatDoor.W A1 n1 c1 a.l) (h2 : Rd w .u64 YtehfdfjpmmpndaaGreatDoor.W A2 n2 c2 b.l) (gp : Cel w g p) (gu : w.cell? ⟨g2, 0, none⟩ = some (.bool up)) :
  Calls Tryz.prog 146 #[.agg #[.bool a.s, .slice A1 n1 c1, .int .i64 a.e], .agg #[.bool b.s, .slice A2 n2 c2, .int .i64 b.e], .pointer (some ⟨g, 0, none⟩), .pointer (some ⟨g2, 0, none⟩)] w (RunQ (quoO S p up a b) w) := by
 obtain ⟨q, hq⟩ : ∃ q : Except Int Rw, q = quoO S p up a b := ⟨_, rfl⟩
 rw [← hq]
 have HQ := hyd hq
 clear hq
 obtain ⟨BB, xa, xb, r⟩ := three_dbl w (s1 := a.s) (A1 := A1) (n1 := n1) (c1 := c1) (e1 := a.e) (s2 := b.s) (A2 := A2) (n2 := n2) (c2 := c2) (e2 := b.e)
 obtain ⟨a10, a11, a12⟩ := xa.held
 obtain ⟨a20, a21, a22⟩ := xb.held
 have lp := gp.gl
 have lu := World.block_lt_of_cell? w _ gu
 have G := mv BB rfl (J5 hT h1 h2 gp gu)
 clear hT h1 h2 gp gu
 obtain ⟨hT, h1, h2, gp, gu⟩ := G
 have p0 := gp.c0
 go_enter Tryz.func146, Tryz.ntmps146
 obtain ⟨o1, ho1⟩ : ∃ o, o = quoO S p up a b := ⟨_, rfl⟩
 have HO1 := hyd ho1
 clear ho1
 have HC1 : Cod o1 := by rw [HO1.out]; exact quoO_cod
 go_wp2_with fail
 refine (tellq_to HO1.out (quot_tell S hT h1 h2)).mono ?_
 rintro en w1 ⟨A3, n3, c3, rfl, h3, b⟩
 replace BB := bnx BB b
 have G := mv b rfl (J6 hT h1 h2 gp gu r)
 clear b hT h1 h2 gp gu r
 obtain ⟨hT, h1, h2, gp, gu, r⟩ := G
 go_wp2_with fail
 refine (must_run HC1 h3).mono ?_
 rintro en w2 (⟨v1, hv1, A5, n5, c5, rfl, h5, b⟩ | ⟨kk, hk, hk0, rfl, b⟩)
 rotate_left
 ·replace BB := bnx BB b
  clear b
  have HKK := hyd (And.intro hk hk0)
  clear hk hk0
  go_wp2
  exact ⟨rfl, .inr ⟨kk, (HQ.out.trans (by simp only [← HO1.out, HKK.out.1])), HKK.out.2, rfl, BB⟩⟩
 have HV1 := hyd hv1
 clear hv1
 clear h3
 replace BB := bnx BB b
 have G := mv b rfl (J6 hT h1 h2 gp gu r)
 clear b hT h1 h2 gp gu r
 obtain ⟨hT, h1, h2, gp, gu, r⟩ := G
 have HL : q = .ok v1 := by rw [HQ.out, ← HO1.out, HV1.out]
 obtain ⟨f0, f1, f2⟩ := r.open
 obtain ⟨z0, z1, z2⟩ := r.held
 go_wp2
 exact ret3 rfl rfl rfl r BB (by omega) (h5.put3 r _ _ _) fun hN HB3 => (.inl ⟨v1, HL, _, _, _, rfl, hN, HB3⟩)
end Go.Proofs.YtehfdfjpmmpndaaGreatDoor
