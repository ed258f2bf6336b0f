/-
  Contracts of tape's own, Eval, at this translation.
-/
import Derived.Test.YtehfdfjpmmpndaaGreatDoorQTh
import Derived.Test.YtehfdfjpmmpndaaGreatDoorQTake
import Derived.Test.YtehfdfjpmmpndaaGreatDoorQLj
import Derived.Test.YtehfdfjpmmpndaaGreatDoorQIs
namespace Go.Proofs.YtehfdfjpmmpndaaGreatDoor
open Go.RowKit
variable {K i k m : Nat} {e : Int} {s up : Bool} {z : Iv}
section
variable {S : Sc} {a b : Rw} {x y : Iv} {p : Int}
theorem oc_may {P : Int → Bool → Nat → Int → Prop} (ho : Only P) (hs : Some P) (hk : ∀ s m e, P 0 s m e → OkD s m e) {c : Rw} (h : S.oc P = .ok c) : c.may = true := by
 obtain ⟨s, m, e, hp, rfl⟩ := S.of_ok ho hs h
 exact Rw.of_may (hk _ _ _ hp)
theorem nm_ok0 {s' : Bool} {m' : Nat} {e' : Int} (h : Nm s m e 0 s' m' e') : OkD s' m' e' := nm_okd h
theorem wrong_ok0 (h : Wrong 0 s m e) : OkD s m e := absurd h.1 (by decide)
theorem outside_ok0 (h : Outside 0 s m e) : OkD s m e := absurd h.1 (by decide)
theorem rndO_may {c : Rw} (h : rndO S a p up = .ok c) : c.may = true := (rnd_may h).2
theorem addO_may {c : Rw} (h : addO S a b = .ok c) : c.may = true := oc_may addR_only (addR_some S.big a.lt b.lt) (fun s m e hp => by
 unfold addR at hp
 split at hp
 ·obtain ⟨_, _, _, _, _, hp⟩ := hp; exact nm_ok0 hp
 exact wrong_ok0 hp) h
theorem quoO_may {c : Rw} (h : quoO S p up a b = .ok c) : c.may = true := oc_may quotR_only quotR_some (fun s m e hp => by
 unfold quotR at hp
 split at hp
 ·split at hp
  ·exact outside_ok0 hp
  exact nm_ok0 hp
 exact wrong_ok0 hp) h
theorem rooO_may {c : Rw} (h : rooO S a p up = .ok c) : c.may = true := oc_may (rootR_only a.lt) rootR_some (fun s m e hp => by
 unfold rootR at hp
 split at hp
 ·split at hp
  ·exact outside_ok0 hp
  obtain ⟨_, _, _, _, _, hp⟩ := hp; exact nm_ok0 hp
 exact wrong_ok0 hp) h
def Ends (x : Iv) : Prop := x.lo.may = true ∧ x.hi.may = true
theorem thn_fin {α β : Type} {o : Except Int α} {f : α → Except Int β} {c : β} (h : thn o f = .ok c) : ∃ v, o = .ok v ∧ f v = .ok c := by
 cases o with
 | ok v => exact ⟨v, rfl, h⟩
 | error k => cases h
theorem outO_ends (h : outO S a b p = .ok x) : Ends x := by
 obtain ⟨l, h1, h⟩ := thn_fin h
 obtain ⟨r, h2, h⟩ := thn_fin h
 injection h with h
 subst h
 exact ⟨rndO_may h1, rndO_may h2⟩
theorem sumO_ends (h : sumO S x y p = .ok z) : Ends z := by
 obtain ⟨_, _, h⟩ := thn_fin h
 obtain ⟨_, h1, h⟩ := thn_fin h
 obtain ⟨_, _, h⟩ := thn_fin h
 obtain ⟨_, h2, h⟩ := thn_fin h
 injection h with h
 subst h
 exact ⟨rndO_may h1, rndO_may h2⟩
theorem rooI_ends (h : rooI S x p = .ok z) : Ends z := by
 obtain ⟨_, h1, h⟩ := thn_fin h
 obtain ⟨_, h2, h⟩ := thn_fin h
 injection h with h
 subst h
 exact ⟨rooO_may h1, rooO_may h2⟩
theorem corO_all {F : Rw → Rw → Except Int Rw} {P : Rw → Prop} (hF : ∀ a b c, F a b = .ok c → P c) {L : List Rw} (h : corO F x y = .ok L) : ∃ a b c d, L = [a, b, c, d] ∧ P a ∧ P b ∧ P c ∧ P d := by
 obtain ⟨_, h1, h⟩ := thn_fin h
 obtain ⟨_, h2, h⟩ := thn_fin h
 obtain ⟨_, h3, h⟩ := thn_fin h
 obtain ⟨_, h4, h⟩ := thn_fin h
 injection h with h
 subst h
 exact ⟨_, _, _, _, rfl, hF _ _ _ h1, hF _ _ _ h2, hF _ _ _ h3, hF _ _ _ h4⟩
theorem leastQ_may (h1 : a.may = true) (h2 : b.may = true) : (leastQ K a b).may = true := by
 unfold leastQ
 split
 ·exact h2
 exact h1
theorem greatQ_may (h1 : a.may = true) (h2 : b.may = true) : (greatQ K a b).may = true := by
 unfold greatQ
 split
 ·exact h2
 exact h1
theorem divI_ends (h : divI S x y p = .ok z) : Ends z := by
 unfold divI at h
 split at h
 ·cases h
 obtain ⟨L, h1, h⟩ := thn_fin h
 obtain ⟨M, h2, h⟩ := thn_fin h
 injection h with h
 subst h
 obtain ⟨a, b, c, d, rfl, m1, m2, m3, m4⟩ := corO_all (P := fun c => c.may = true) (fun _ _ _ h => quoO_may h) h1
 obtain ⟨a', b', c', d', rfl, n1, n2, n3, n4⟩ := corO_all (P := fun c => c.may = true) (fun _ _ _ h => quoO_may h) h2
 exact ⟨leastQ_may (leastQ_may (leastQ_may m1 m2) m3) m4, greatQ_may (greatQ_may (greatQ_may n1 n2) n3) n4⟩
theorem one_may_q : oneQ.may = true := Rw.of_may (.inr ⟨by decide, Nat.one_lt_pow (by decide) W_two, by omega, by omega⟩)
theorem powF_may {up neg : Bool} (g : Nat) : ∀ (w : Nat) {c : Rw}, powF S m e k p up neg g w = .ok c → c.may = true := by
 induction g with
 | zero => exact fun w c h => by cases h
 | succ g ih =>
  intro w c h
  rw [powF_succ] at h
  obtain ⟨_, _, h⟩ := thn_fin h
  obtain ⟨lo, h1, h⟩ := thn_fin h
  obtain ⟨hi, h2, h⟩ := thn_fin h
  split at h
  ·exact ih _ h
  injection h with h
  subst h
  split
  ·obtain ⟨_, _, h2⟩ := thn_fin h2
   exact addO_may h2
  exact rndO_may h1
theorem powO_may {c : Rw} (h : powO S a p up = .ok c) : c.may = true := by
 unfold powO at h
 split at h
 ·injection h with h
  subst h
  exact one_may_q
 exact powF_may _ _ h
theorem ovrO_ends (h : ovrO S x p = .ok z) : Ends z := by
 unfold ovrO at h
 split at h
 ·obtain ⟨_, h1, h⟩ := thn_fin h
  obtain ⟨_, h2, h⟩ := thn_fin h
  injection h with h
  subst h
  exact ⟨powO_may h1, powO_may h2⟩
 cases h
theorem tface1_ok {o : Except Int Iv} (h : face1 S x p o = .ok z) : o = .ok z := by
 unfold face1 at h
 split at h
 ·exact h
 cases h
theorem tface2_ok {o : Except Int Iv} (h : face2 S x y p o = .ok z) : o = .ok z := by
 unfold face2 at h
 split at h
 ·exact h
 cases h
theorem mulI_ends (h : mulI S x y p = .ok z) : Ends z := by
 obtain ⟨_, _, h⟩ := thn_fin h
 exact outO_ends h
theorem sqrI_ends (h : sqrI S x p = .ok z) : Ends z := by
 obtain ⟨_, _, h⟩ := thn_fin h
 obtain ⟨_, _, h⟩ := thn_fin h
 exact outO_ends h
theorem sqtI_ends (h : sqtI S x p = .ok z) : Ends z := by
 unfold sqtI at h
 split at h
 ·cases h
 exact rooI_ends h
theorem ite_ok {c : Prop} [Decidable c] {a b : Except Int Iv} {P : Prop} (h : (if c then a else b) = .ok z) (h1 : a = .ok z → P) (h2 : b = .ok z → P) : P := by
 by_cases hc : c
 ·rw [if_pos hc] at h; exact h1 h
 rw [if_neg hc] at h; exact h2 h
theorem valO_ends {l : Ln} {V : Nat → Iv} {E : En} (h : valO S l V E p = .ok z) : Ends z := by
 exact ite_ok h (fun h => outO_ends h) fun h => ite_ok h (fun h => outO_ends h) fun h => ite_ok h (fun h => outO_ends h) fun h => ite_ok h (fun h => outO_ends h) fun h => ite_ok h (fun h => outO_ends h) fun h => ite_ok h (fun h => sumO_ends (tface2_ok h)) fun h => ite_ok h (fun h => sumO_ends (tface2_ok h)) fun h => ite_ok h (fun h => mulI_ends (tface2_ok h)) fun h => ite_ok h (fun h => divI_ends (tface2_ok h)) fun h => ite_ok h (fun h => outO_ends (tface1_ok h)) fun h => ite_ok h (fun h => sqrI_ends (tface1_ok h)) fun h => ite_ok h (fun h => sqtI_ends (tface1_ok h)) fun h => ite_ok h (fun h => ovrO_ends h) fun h => by cases h
theorem may_small {a : Rw} (h : a.may = true) : a.l.length ≤ 10000000000000 := by
 have hm := (mayD_of a.lt h).1
 unfold mayB at hm
 simp only [Bool.and_eq_true, decide_eq_true_eq] at hm
 omega
theorem lin_ends {L : Nat → Ln} {E : En} {n : Nat} {R : List Iv} (h : linO S L E p n = .ok R) (hi : i < n) : Ends (R.getD i Iv.zero) := valO_ends (lin_at h hi)
end
section
variable {w : World} {g : Nat} {s : Bool} {A : Option Addr} {n c : Nat} {e : Int} {t : Bool} {B : Option Addr} {m d : Nat} {f : Int}
theorem Ibx.set1 (h : Ibx w g s A n c e t B m d f) (A' : Option Addr) (n' c' : Nat) : Ibx (w.setCell ⟨g, 1, none⟩ (.slice A' n' c')) g s A' n' c' e t B m d f := by
 have := h.blk
 refine ⟨?_⟩
 simp [World.setCell, Array.getElem?_modify, this]
theorem Ibx.set4 (h : Ibx w g s A n c e t B m d f) (A' : Option Addr) (n' c' : Nat) : Ibx (w.setCell ⟨g, 4, none⟩ (.slice A' n' c')) g s A n c e t A' n' c' f := by
 have := h.blk
 refine ⟨?_⟩
 simp [World.setCell, Array.getElem?_modify, this]
end
theorem lines_ok {S : Sc} {T : Tp} {E : En} {p : Int} {R : List Iv} (h : linesO S T E p = .ok R) : (1 ≤ p ∧ p ≤ 300 ∧ mayT S.K T E.nx E.nu E.np = true ∧ mayE S.K E = true) ∧ linO S T.L E p T.n = .ok R := by
 unfold linesO at h
 split at h
 ·rename_i ha
  exact ⟨asksT_iff.1 ha, h⟩
 cases h
theorem tellr_to {f : FuncId} {args : Array Value} {w : World} {o o' : Except Int (List Iv)} (h : o = o') (hc : Calls Tryz.prog f args w (TellR o' w)) : Calls Tryz.prog f args w (TellR o w) := by subst h; exact hc
def pwQ (e : Int) : Rw := Rw.of false 1 e
def pwI (e : Int) : Iv := ⟨pwQ e, pwQ e⟩
section
variable (S : Sc)
def addF (x y : Iv) (p : Int) : Except Int Iv := face2 S x y p (sumO S x y p)
def subF (x y : Iv) (p : Int) : Except Int Iv := face2 S x y p (sumO S x (turnI y) p)
def mulF (x y : Iv) (p : Int) : Except Int Iv := face2 S x y p (mulI S x y p)
def divF (x y : Iv) (p : Int) : Except Int Iv := face2 S x y p (divI S x y p)
def negF (x : Iv) (p : Int) : Except Int Iv := face1 S x p (negI S x p)
def stepO (op : Int) (a b c da db : Iv) (p : Int) : Except Int Iv :=
 if op = 6 then addF S da db p
 else if op = 7 then subF S da db p
 else if op = 8 then thn (mulF S da b p) fun x => thn (mulF S a db p) fun y => addF S x y p
 else if op = 9 then thn (mulF S c db p) fun x => thn (subF S da x p) fun y => divF S y b p
 else if op = 10 then negF S da p
 else if op = 11 then thn (mulF S (pwI 1) a p) fun x => mulF S x da p
 else if op = 12 then thn (mulF S (pwI 1) c p) fun x => divF S da x p
 else if op = 13 then mulF S c da p
 else .error 1
def nextO (l : Ln) (V D : Nat → Iv) (c : Iv) (st p : Int) : Except Int Iv :=
 if l.op = 1 then .ok Iv.zero
 else if l.op = 2 then .ok Iv.zero
 else if l.op = 3 then (if l.a = st then .ok (pwI 0) else .ok Iv.zero)
 else if l.op = 4 then .ok Iv.zero
 else if l.op = 5 then .ok Iv.zero
 else stepO S l.op (V l.a.toNat) (V l.b.toNat) c (D l.a.toNat) (D l.b.toNat) p
def rowO (l : Ln) (V : Nat → Iv) (Q : Nat → List Iv) (c : Iv) (st : Nat → Int) (p : Int) : Nat → Except Int (List Iv)
 | 0 => .ok []
 | k + 1 => thn (rowO l V Q c st p k) fun R => thn (nextO S l V (fun j => (Q j).getD k Iv.zero) c (st k) p) fun d => .ok (R ++ [d])
def tabO (L : Nat → Ln) (V : Nat → Iv) (st : Nat → Int) (m : Nat) (p : Int) : Nat → Except Int (List (List Iv))
 | 0 => .ok []
 | i + 1 => thn (tabO L V st m p i) fun Q => thn (rowO S (L i) V (fun j => Q.getD j []) (V i) st p m) fun R => .ok (Q ++ [R])
end
def namB (L : Nat → Ln) (n : Nat) (j : Nat) : Bool := (List.range n).any fun i => decide ((L i).op = 3) && decide ((L i).a = (j : Int))
def askS (N : Nat → Bool) : Nat → List Int × List Int × Int
 | 0 => ([], [], -1)
 | j + 1 =>
  let r := askS N j
  if N j = true then (r.1 ++ [(j : Int)], r.2.1 ++ [(r.1.length : Int)], r.2.2)
  else if r.2.2 = -1 then (r.1 ++ [(j : Int)], r.2.1 ++ [(r.1.length : Int)], (r.1.length : Int))
  else (r.1, r.2.1 ++ [r.2.2], r.2.2)
theorem ask_len (N : Nat → Bool) : ∀ n, (askS N n).2.1.length = n ∧ (askS N n).1.length ≤ n ∧ ((askS N n).2.2 = -1 ∨ 0 ≤ (askS N n).2.2 ∧ (askS N n).2.2 < (askS N n).1.length) ∧ ∀ x ∈ (askS N n).2.1, 0 ≤ x ∧ x < (askS N n).1.length
 | 0 => ⟨rfl, Nat.le_refl 0, .inl rfl, fun x hx => by cases hx⟩
 | n + 1 => by
  obtain ⟨h1, h2, h3, h4⟩ := ask_len N n
  unfold askS
  dsimp only
  by_cases c1 : N n = true
  ·rw [if_pos c1]
   refine ⟨by simp [h1], by simpa using h2, ?_, fun x hx => ?_⟩
   ·rcases h3 with h3 | h3
    ·exact .inl h3
    exact .inr (by simp; omega)
   simp at hx ⊢
   rcases hx with hx | hx
   ·have := h4 x hx; omega
   omega
  rw [if_neg c1]
  by_cases c2 : (askS N n).2.2 = -1
  ·rw [if_pos c2]
   refine ⟨by simp [h1], by simpa using h2, .inr (by simp; omega), fun x hx => ?_⟩
   simp at hx ⊢
   rcases hx with hx | hx
   ·have := h4 x hx; omega
   omega
  rw [if_neg c2]
  refine ⟨by simp [h1], by show (askS N n).1.length ≤ n + 1; omega, h3, fun x hx => ?_⟩
  simp at hx
  rcases hx with hx | hx
  ·exact h4 x hx
  rcases h3 with h3 | h3
  ·exact absurd h3 c2
  rw [hx]; exact h3
section
variable (S : Sc)
def gradO (T : Tp) (E : En) (p : Int) : Except Int (List Iv × List (List Iv)) :=
 thn (linesO S T E p) fun V => thn (tabO S T.L (fun i => V.getD i Iv.zero) (fun k => (askS (namB T.L T.n) E.nx).1.getD k 0) (askS (namB T.L T.n) E.nx).1.length p T.n) fun Q =>
  .ok (outsL V T, (List.range T.m).map fun o => (askS (namB T.L T.n) E.nx).2.1.map fun k => (Q.getD (T.O o).toNat []).getD k.toNat Iv.zero)
end
section
variable {S : Sc} {x y : Iv} {p : Int}
theorem addF_cod : Cod (addF S x y p) := tface2_cod sumO_cod
theorem subF_cod : Cod (subF S x y p) := tface2_cod sumO_cod
theorem mulF_cod : Cod (mulF S x y p) := tface2_cod tmulI_cod
theorem divF_cod : Cod (divF S x y p) := tface2_cod tdivI_cod
theorem negF_cod : Cod (negF S x p) := tface1_cod outO_cod
theorem addF_ends (h : addF S x y p = .ok z) : Ends z := sumO_ends (tface2_ok h)
theorem subF_ends (h : subF S x y p = .ok z) : Ends z := sumO_ends (tface2_ok h)
theorem mulF_ends (h : mulF S x y p = .ok z) : Ends z := mulI_ends (tface2_ok h)
theorem divF_ends (h : divF S x y p = .ok z) : Ends z := divI_ends (tface2_ok h)
theorem negF_ends (h : negF S x p = .ok z) : Ends z := outO_ends (tface1_ok h)
theorem pwQ_small : (pwQ e).l.length ≤ 10000000000000 := by
 show (dig YtehfdfjpmmpndaaGreatDoor.W 1).length ≤ _
 rw [dig_one (by decide) (small_W (by decide))]
 decide
def Small (x : Iv) : Prop := x.lo.l.length ≤ 10000000000000 ∧ x.hi.l.length ≤ 10000000000000
theorem ends_small {x : Iv} (h : Ends x) : Small x := ⟨may_small h.1, may_small h.2⟩
theorem zero_small : Small Iv.zero := ⟨by show 0 ≤ _; omega, by show 0 ≤ _; omega⟩
theorem thn_small {o : Except Int Iv} {f : Iv → Except Int Iv} (h : thn o f = .ok z) (hf : ∀ x, f x = .ok z → Ends z) : Small z := by
 obtain ⟨x, _, h⟩ := thn_fin h
 exact ends_small (hf x h)
theorem step_small {op : Int} {a b c da db z : Iv} (h : stepO S op a b c da db p = .ok z) : Small z :=
 ite_ok h (fun h => ends_small (addF_ends h)) fun h => ite_ok h (fun h => ends_small (subF_ends h)) fun h =>
 ite_ok h (fun h => thn_small h fun _ h => by obtain ⟨_, _, h⟩ := thn_fin h; exact addF_ends h) fun h => ite_ok h (fun h => thn_small h fun _ h => by obtain ⟨_, _, h⟩ := thn_fin h; exact divF_ends h) fun h =>
 ite_ok h (fun h => ends_small (negF_ends h)) fun h => ite_ok h (fun h => thn_small h fun _ h => mulF_ends h) fun h => ite_ok h (fun h => thn_small h fun _ h => divF_ends h) fun h => ite_ok h (fun h => ends_small (mulF_ends h)) fun h => by cases h
theorem step_cod {op : Int} {a b c da db : Iv} : Cod (stepO S op a b c da db p) :=
 ite_cod (fun _ => addF_cod) fun _ => ite_cod (fun _ => subF_cod) fun _ => ite_cod (fun _ => thn_cod mulF_cod fun _ _ => thn_cod mulF_cod fun _ _ => addF_cod) fun _ => ite_cod (fun _ => thn_cod mulF_cod fun _ _ => thn_cod subF_cod fun _ _ => divF_cod) fun _ =>
 ite_cod (fun _ => negF_cod) fun _ => ite_cod (fun _ => thn_cod mulF_cod fun _ _ => mulF_cod) fun _ => ite_cod (fun _ => thn_cod mulF_cod fun _ _ => divF_cod) fun _ => ite_cod (fun _ => mulF_cod) fun _ => err_cod (by decide)
theorem next_small {l : Ln} {V D : Nat → Iv} {c z : Iv} {st : Int} (h : nextO S l V D c st p = .ok z) : Small z := by
 have hz : ∀ {w : Iv}, (Except.ok Iv.zero : Except Int Iv) = .ok w → Small w := fun h => by cases h; exact zero_small
 exact ite_ok h hz fun h => ite_ok h hz fun h => ite_ok h (fun h => ite_ok h (fun h => by cases h; exact ⟨pwQ_small, pwQ_small⟩) hz) fun h => ite_ok h hz fun h => ite_ok h hz fun h => step_small h
theorem next_cod {l : Ln} {V D : Nat → Iv} {c : Iv} {st : Int} : Cod (nextO S l V D c st p) :=
 ite_cod (fun _ => ok_cod) fun _ => ite_cod (fun _ => ok_cod) fun _ => ite_cod (fun _ => ite_cod (fun _ => ok_cod) fun _ => ok_cod) fun _ => ite_cod (fun _ => ok_cod) fun _ => ite_cod (fun _ => ok_cod) fun _ => step_cod
end
section
variable {S : Sc} {l : Ln} {L : Nat → Ln} {V : Nat → Iv} {Q : Nat → List Iv} {c : Iv} {st : Nat → Int} {p : Int} {m : Nat}
theorem row_ok {R : List Iv} {d : Iv} (h1 : rowO S l V Q c st p k = .ok R) (h2 : nextO S l V (fun j => (Q j).getD k Iv.zero) c (st k) p = .ok d) : rowO S l V Q c st p (k + 1) = .ok (R ++ [d]) := by
 rw [rowO, h1]
 simp only [thn, h2]
theorem row_bad {R : List Iv} (h1 : rowO S l V Q c st p k = .ok R) (h2 : nextO S l V (fun j => (Q j).getD k Iv.zero) c (st k) p = .error e) : rowO S l V Q c st p (k + 1) = .error e := by
 rw [rowO, h1]
 simp only [thn, h2]
theorem row_err {k d : Nat} (h : rowO S l V Q c st p k = .error e) : rowO S l V Q c st p (k + d) = .error e := by
 induction d with
 | zero => exact h
 | succ d ih =>
  show rowO S l V Q c st p (k + d + 1) = _
  rw [rowO, ih]
  rfl
theorem row_len : ∀ {k : Nat} {R : List Iv}, rowO S l V Q c st p k = .ok R → R.length = k
 | 0, R, h => by injection h with h; subst h; rfl
 | k + 1, R, h => by
  unfold rowO at h
  obtain ⟨R0, h1, h⟩ := thn_fin h
  obtain ⟨d, _, h⟩ := thn_fin h
  injection h with h
  subst h
  rw [List.length_append, row_len h1]
  rfl
theorem row_small : ∀ {k : Nat} {R : List Iv}, rowO S l V Q c st p k = .ok R → ∀ x ∈ R, Small x
 | 0, R, h => by injection h with h; subst h; exact fun x hx => by cases hx
 | k + 1, R, h => by
  unfold rowO at h
  obtain ⟨R0, h1, h⟩ := thn_fin h
  obtain ⟨d, h2, h⟩ := thn_fin h
  injection h with h
  subst h
  intro x hx
  rcases List.mem_append.1 hx with hx | hx
  ·exact row_small h1 x hx
  rw [List.mem_singleton.1 hx]; exact next_small h2
theorem tab_ok {Q : List (List Iv)} {R : List Iv} (h1 : tabO S L V st m p i = .ok Q) (h2 : rowO S (L i) V (fun j => Q.getD j []) (V i) st p m = .ok R) : tabO S L V st m p (i + 1) = .ok (Q ++ [R]) := by
 rw [tabO, h1]
 simp only [thn, h2]
theorem tab_bad {Q : List (List Iv)} (h1 : tabO S L V st m p i = .ok Q) (h2 : rowO S (L i) V (fun j => Q.getD j []) (V i) st p m = .error e) : tabO S L V st m p (i + 1) = .error e := by
 rw [tabO, h1]
 simp only [thn, h2]
theorem tab_err {i d : Nat} (h : tabO S L V st m p i = .error e) : tabO S L V st m p (i + d) = .error e := by
 induction d with
 | zero => exact h
 | succ d ih =>
  show tabO S L V st m p (i + d + 1) = _
  rw [tabO, ih]
  rfl
theorem tab_len : ∀ {i : Nat} {Q : List (List Iv)}, tabO S L V st m p i = .ok Q → Q.length = i ∧ ∀ R ∈ Q, R.length = m ∧ ∀ x ∈ R, Small x
 | 0, Q, h => by injection h with h; subst h; exact ⟨rfl, fun R hR => by cases hR⟩
 | i + 1, Q, h => by
  unfold tabO at h
  obtain ⟨Q0, h1, h⟩ := thn_fin h
  obtain ⟨R, h2, h⟩ := thn_fin h
  injection h with h
  subst h
  obtain ⟨i1, i2⟩ := tab_len h1
  refine ⟨by rw [List.length_append, i1]; rfl, fun R' hR => ?_⟩
  rcases List.mem_append.1 hR with hR | hR
  ·exact i2 R' hR
  rw [List.mem_singleton.1 hR]; exact ⟨row_len h2, row_small h2⟩
end
open Go.RowKit
section
variable {S : Sc} {a b c : Rw} {p : Int} {up : Bool}
theorem Rw.of_self (h : a.may = true) : Rw.of a.s (val W a.l) a.e = a := Rw.ext rfl (dig_may a.lt (mayD_of a.lt h).1) rfl
theorem rnd_fit (hp : 1 ≤ p ∧ p ≤ 2000) (ha : a.may = true) (hb : blen (val W a.l) ≤ p.toNat) : rndO S a p up = .ok a := by
 obtain ⟨k, s, m, e, h⟩ := rndR_some (a := a) (p := p) (up := up)
 have h2 := h
 unfold rndR at h2
 rw [if_pos ⟨hp, ha⟩] at h2
 obtain ⟨rfl, rfl, rfl, rfl⟩ := rd_fit (by omega) (mayD_of a.lt ha).2 hb h2
 exact ((S.is _ _ _ _ _ rndR_only h).1 rfl).trans (congrArg Except.ok (Rw.of_self ha))
theorem addO_is (ha : a.may = true) (hb : b.may = true) (hc : c.may = true) (hv : c.v S.K = a.v S.K + b.v S.K) : addO S a b = .ok c := by
 obtain ⟨k, s, m, e, h⟩ := addR_some (s := a.s) (t := b.s) (e := a.e) (f := b.e) S.big a.lt b.lt
 have h2 := h
 unfold addR at h2
 rw [if_pos ⟨ha, hb⟩] at h2
 obtain ⟨rfl, rfl, rfl, rfl⟩ := nmv_hit S.big h2 (mayD_of c.lt hc).2 hv
 exact ((S.is _ _ _ _ _ addR_only h).1 rfl).trans (congrArg Except.ok (Rw.of_self hc))
theorem mulO_is (ha : a.may = true) (hb : b.may = true) (hc : c.may = true) (hv : c.v S.K * ((2 ^ S.K : Nat) : Int) = a.v S.K * b.v S.K) : mulO S a b = .ok c := by
 obtain ⟨k, s, m, e, h⟩ := mulR_some (s := a.s) (l := a.l) (e := a.e) (t := b.s) (r := b.l) (f := b.e)
 have h2 := h
 unfold mulR at h2
 rw [if_pos ⟨ha, hb⟩] at h2
 have r1 := okd_ge S.big (mayD_of a.lt ha).2
 have r2 := okd_ge S.big (mayD_of b.lt hb).2
 have hk := S.big
 have hm := vz_mul (K := S.K) (s := a.s) (t := b.s) (m := val W a.l) (n := val W b.l) r1.2.2 r2.2.2 (by omega)
 have hv2 : c.v S.K = vz S.K (a.s != b.s) (val W a.l * val W b.l) (a.e + b.e) := Int.eq_of_mul_eq_mul_right (Int.ne_of_gt pos_of_pow) (hv.trans hm)
 obtain ⟨rfl, rfl, rfl, rfl⟩ := nmv_hit S.big ⟨_, _, _, by omega, rfl, h2⟩ (mayD_of c.lt hc).2 hv2
 exact ((S.is _ _ _ _ _ mulR_only h).1 rfl).trans (congrArg Except.ok (Rw.of_self hc))
end
def qm : Rw := Rw.of true 1 0
def q2 : Rw := Rw.of false 1 1
def q4 : Rw := Rw.of false 1 2
def At (S : Sc) (f : Nat) (z : Int) (a : Rw) : Prop := a.may = true ∧ a.v S.K * ((2 ^ f : Nat) : Int) = z * ((2 ^ S.K : Nat) : Int)
section
variable {S : Sc} {f g L : Nat} {x y z : Int} {a b c : Rw} {p : Int}
theorem two_pos (f : Nat) : (0 : Int) < ((2 ^ f : Nat) : Int) := Int.natCast_pos.2 (Nat.pow_pos (by decide))
theorem vz_at_neg {M : Nat} (hf : f ≤ K) : vz K s M (-(f : Int)) * ((2 ^ f : Nat) : Int) = sg s * (M : Int) * ((2 ^ K : Nat) : Int) := by
 unfold vz
 have e1 : (-(f : Int) + (K : Int)).toNat = K - f := by omega
 rw [e1, Int.mul_assoc, Int.mul_assoc, ← Int.natCast_mul, ← Int.natCast_mul, Nat.mul_assoc, ← Nat.pow_add, show K - f + f = K by omega]
theorem at_has (S : Sc) {f L : Nat} {z : Int} (hf : f ≤ 1000) (hL : L ≤ 600) (hz : z.natAbs < 2 ^ L) : ∃ a, At S f z a ∧ blen (val YtehfdfjpmmpndaaGreatDoor.W a.l) ≤ L := by
 have hK := S.big
 have hb : blen z.natAbs ≤ L := (blen_le _ _).2 hz
 obtain ⟨k, s', m', e', h⟩ := nm_total (decide (z < 0)) z.natAbs (-(f : Int))
 have hk := nm_good h (by omega) (by omega) (by omega)
 subst hk
 refine ⟨Rw.of s' m' e', ⟨Rw.of_may (nm_ok h), ?_⟩, ?_⟩
 ·rw [Rw.of_v, nm_value (by omega) h, vz_at_neg (by omega)]
  congr 1
  unfold sg
  by_cases h0 : z < 0
  ·rw [decide_eq_true h0]; simp; omega
  rw [decide_eq_false h0]; simp; omega
 have e1 : val YtehfdfjpmmpndaaGreatDoor.W (Rw.of s' m' e').l = m' := val_dig W_two m'
 rw [e1]
 rcases nm_small_e h (by omega) with h2 | ⟨h2, _⟩
 ·exact Nat.le_trans h2.1 hb
 rw [h2, blen_zero]; exact Nat.zero_le _
theorem at_fun (h : At S f z a) (h' : At S f z b) : a = b := one_of_v S.big h.1 h'.1 (Int.eq_of_mul_eq_mul_right (Int.ne_of_gt (two_pos f)) (h.2.trans h'.2.symm))
theorem at_blen (h : At S f z a) (hf : f ≤ 1000) (hL : L ≤ 600) (hz : z.natAbs < 2 ^ L) : blen (val YtehfdfjpmmpndaaGreatDoor.W a.l) ≤ L := by
 obtain ⟨b, hb, h2⟩ := at_has S hf hL hz
 rw [at_fun h hb]
 exact h2
theorem at_zero : At S f 0 Rw.zero := ⟨Rw.zero_may, by rw [show Rw.zero.v S.K = 0 from vz_zero _ _ _]; simp⟩
theorem at_of {m j : Nat} (h1 : m % 2 = 1) (h2 : m < 100) (hj : j ≤ 1000) : At S 0 ((m * 2 ^ j : Nat) : Int) (Rw.of false m (j : Int)) := ⟨Rw.of_may (okd_small h1 h2 (by omega) (by omega)), by rw [Rw.of_v, vz_2]; simp⟩
theorem at_add (ha : At S f x a) (hb : At S f y b) (hc : At S f (x + y) c) : addO S a b = .ok c := addO_is ha.1 hb.1 hc.1 (Int.eq_of_mul_eq_mul_right (Int.ne_of_gt (two_pos f)) (by rw [hc.2, Int.add_mul, Int.add_mul, ha.2, hb.2]))
theorem at_mul (ha : At S f x a) (hb : At S g y b) (hc : At S (f + g) (x * y) c) : mulO S a b = .ok c := by
 refine mulO_is ha.1 hb.1 hc.1 (Int.eq_of_mul_eq_mul_right (Int.ne_of_gt (two_pos (f + g))) ?_)
 have h3 := hc.2
 rw [Int.mul_right_comm, h3, Nat.pow_add, Int.natCast_mul]
 have e1 : a.v S.K * b.v S.K * (((2 ^ f : Nat) : Int) * ((2 ^ g : Nat) : Int)) = a.v S.K * ((2 ^ f : Nat) : Int) * (b.v S.K * ((2 ^ g : Nat) : Int)) := by
  rw [Int.mul_assoc, Int.mul_assoc, Int.mul_left_comm (b.v S.K)]
 rw [e1, ha.2, hb.2, Int.mul_assoc, Int.mul_assoc, Int.mul_assoc, Int.mul_left_comm y]
theorem out_pt (hp : 1 ≤ p ∧ p ≤ 2000) (hc : c.may = true) (hl : blen (val YtehfdfjpmmpndaaGreatDoor.W c.l) ≤ p.toNat) : outO S c c p = .ok ⟨c, c⟩ := by
 unfold outO
 rw [rnd_fit hp hc hl]
 show thn (rndO S c p true) _ = _
 rw [rnd_fit hp hc hl]
 rfl
theorem face2_pt {o : Except Int Iv} (hp : 1 ≤ p ∧ p ≤ 2000) (ha : a.may = true) (hb : b.may = true) : face2 S ⟨a, a⟩ ⟨b, b⟩ p o = o := by
 unfold face2 prec
 rw [mayI_point ha, mayI_point hb, decide_eq_true hp.1, decide_eq_true hp.2]
 rfl
theorem sum_pt (hp : 1 ≤ p ∧ p ≤ 2000) (h : addO S a b = .ok c) (hc : c.may = true) (hl : blen (val YtehfdfjpmmpndaaGreatDoor.W c.l) ≤ p.toNat) : sumO S ⟨a, a⟩ ⟨b, b⟩ p = .ok ⟨c, c⟩ := by
 unfold sumO
 show thn (addO S a b) _ = _
 rw [h]
 show thn (rndO S c p false) _ = _
 rw [rnd_fit hp hc hl]
 show thn (rndO S c p true) _ = _
 rw [rnd_fit hp hc hl]
 rfl
theorem addF_pt (hp : 1 ≤ p ∧ p ≤ 2000) (ha : At S f x a) (hb : At S f y b) (hc : At S f (x + y) c) (hl : blen (val YtehfdfjpmmpndaaGreatDoor.W c.l) ≤ p.toNat) : addF S ⟨a, a⟩ ⟨b, b⟩ p = .ok ⟨c, c⟩ := by
 unfold addF
 rw [face2_pt hp ha.1 hb.1]
 exact sum_pt hp (at_add ha hb hc) hc.1 hl
theorem mulF_pt (hp : 1 ≤ p ∧ p ≤ 2000) (ha : At S f x a) (hb : At S g y b) (hc : At S (f + g) (x * y) c) (hl : blen (val YtehfdfjpmmpndaaGreatDoor.W c.l) ≤ p.toNat) : mulF S ⟨a, a⟩ ⟨b, b⟩ p = .ok ⟨c, c⟩ := by
 unfold mulF
 rw [face2_pt hp ha.1 hb.1]
 have h := at_mul ha hb hc
 have hcor : corO (mulO S) ⟨a, a⟩ ⟨b, b⟩ = .ok [c, c, c, c] := by
  unfold corO
  show thn (mulO S a b) (fun x => thn (mulO S a b) fun y => thn (mulO S a b) fun z => thn (mulO S a b) fun u => .ok [x, y, z, u]) = _
  rw [h]
  rfl
 have hl2 : ∀ z ∈ [c, c, c, c], z.may = true := fun z hz => by
  have : z = c := by simpa using hz
  rw [this]; exact hc.1
 have e1 : leaL S [c, c, c, c] = c := by simpa using (lea_of (S := S) (L := [c, c, c, c]) (List.cons_ne_nil _ _) hl2).1
 have e2 : greL S [c, c, c, c] = c := by simpa using (gre_of (S := S) (L := [c, c, c, c]) (List.cons_ne_nil _ _) hl2).1
 unfold mulI
 rw [hcor]
 show outO S (leaL S [c, c, c, c]) (greL S [c, c, c, c]) p = _
 rw [e1, e2]
 exact out_pt hp hc.1 hl
end
end Go.Proofs.YtehfdfjpmmpndaaGreatDoor
