/-
 First derivatives, as plain terms: a line's next derivative as an outcome, rows of derivatives line by line, what Grad tells. No condition; nothing of the program is named here.
-/
import Derived.Test.YtlpjlmophlikeaaGreatDoorPTi
import Derived.Test.YtlpjlmophlikeaaGreatDoorPGc
namespace Go.Proofs.YtlpjlmophlikeaaGreatDoor

/-- 2^e as it is laid, and alone in an interval -/
def pwQ (e : Int) : Rw := Rw.of false 1 e
def pwI (e : Int) : Iv := ⟨pwQ e, pwQ e⟩
section
variable (S : Sc)
def addF (x y : Iv) (p : Int) : Except Int Iv := face2 S x y p (sumO S x y p)
def subF (x y : Iv) (p : Int) : Except Int Iv := face2 S x y p (sumO S x (turnI y) p)
def mulF (x y : Iv) (p : Int) : Except Int Iv := face2 S x y p (mulI S x y p)
def divF (x y : Iv) (p : Int) : Except Int Iv := face2 S x y p (divI S x y p)
def negF (x : Iv) (p : Int) : Except Int Iv := face1 S x p (negI S x p)
/-- a derivative of an operation: a, b the values it leans on, c its own value, da and db their derivatives -/
def stepO (op : Int) (a b c da db : Iv) (p : Int) : Except Int Iv :=
 if op = 6 then addF S da db p
 else if op = 7 then subF S da db p
 else if op = 8 then thn (mulF S da b p) fun x => thn (mulF S a db p) fun y => addF S x y p
 else if op = 9 then thn (mulF S c db p) fun x => thn (subF S da x p) fun y => divF S y b p
 else if op = 10 then negF S da p
 else if op = 11 then thn (mulF S (pwI 1) a p) fun x => mulF S x da p
 else if op = 12 then thn (mulF S (pwI 1) c p) fun x => divF S da x p
 else if op = 13 then mulF S c da p
 else .error 1
/-- a line's derivative by the state st: V the values, D the derivatives of the lines above it, c its own value -/
def nextO (l : Ln) (V D : Nat → Iv) (c : Iv) (st p : Int) : Except Int Iv :=
 if l.op = 1 then .ok Iv.zero
 else if l.op = 2 then .ok Iv.zero
 else if l.op = 3 then (if l.a = st then .ok (pwI 0) else .ok Iv.zero)
 else if l.op = 4 then .ok Iv.zero
 else if l.op = 5 then .ok Iv.zero
 else stepO S l.op (V l.a.toNat) (V l.b.toNat) c (D l.a.toNat) (D l.b.toNat) p
/-- a line's derivatives by the first so many of the states st -/
def rowO (l : Ln) (V : Nat → Iv) (Q : Nat → List Iv) (c : Iv) (st : Nat → Int) (p : Int) : Nat → Except Int (List Iv)
 | 0 => .ok []
 | k + 1 => thn (rowO l V Q c st p k) fun R => thn (nextO S l V (fun j => (Q j).getD k Iv.zero) c (st k) p) fun d => .ok (R ++ [d])
/-- the rows of the first so many lines -/
def tabO (L : Nat → Ln) (V : Nat → Iv) (st : Nat → Int) (m : Nat) (p : Int) : Nat → Except Int (List (List Iv))
 | 0 => .ok []
 | i + 1 => thn (tabO L V st m p i) fun Q => thn (rowO S (L i) V (fun j => Q.getD j []) (V i) st p m) fun R => .ok (Q ++ [R])
end
/-- is a state one that a line asks for? -/
def namB (L : Nat → Ln) (n : Nat) (j : Nat) : Bool := (List.range n).any fun i => decide ((L i).op = 3) && decide ((L i).a = (j : Int))
/-- the states that derivatives are reckoned by, which of them each is like, the first that no line asks for -/
def askS (N : Nat → Bool) : Nat → List Int × List Int × Int
 | 0 => ([], [], -1)
 | j + 1 =>
  let r := askS N j
  if N j = true then (r.1 ++ [(j : Int)], r.2.1 ++ [(r.1.length : Int)], r.2.2)
  else if r.2.2 = -1 then (r.1 ++ [(j : Int)], r.2.1 ++ [(r.1.length : Int)], (r.1.length : Int))
  else (r.1, r.2.1 ++ [r.2.2], r.2.2)
theorem ask_len (N : Nat → Bool) : ∀ n, (askS N n).2.1.length = n ∧ (askS N n).1.length ≤ n ∧ ((askS N n).2.2 = -1 ∨ 0 ≤ (askS N n).2.2 ∧ (askS N n).2.2 < (askS N n).1.length) ∧ ∀ x ∈ (askS N n).2.1, 0 ≤ x ∧ x < (askS N n).1.length
 | 0 => ⟨rfl, Nat.le_refl 0, .inl rfl, fun x hx => by cases hx⟩
 | n + 1 => by
  obtain ⟨h1, h2, h3, h4⟩ := ask_len N n
  unfold askS
  dsimp only
  by_cases c1 : N n = true
  ·rw [if_pos c1]
   refine ⟨by simp [h1], by simpa using h2, ?_, fun x hx => ?_⟩
   ·rcases h3 with h3 | h3
    ·exact .inl h3
    ·exact .inr (by simp; omega)
   ·simp at hx ⊢
    rcases hx with hx | hx
    ·have := h4 x hx; omega
    ·omega
  ·rw [if_neg c1]
   by_cases c2 : (askS N n).2.2 = -1
   ·rw [if_pos c2]
    refine ⟨by simp [h1], by simpa using h2, .inr (by simp; omega), fun x hx => ?_⟩
    simp at hx ⊢
    rcases hx with hx | hx
    ·have := h4 x hx; omega
    ·omega
   ·rw [if_neg c2]
    refine ⟨by simp [h1], by show (askS N n).1.length ≤ n + 1; omega, h3, fun x hx => ?_⟩
    simp at hx
    rcases hx with hx | hx
    ·exact h4 x hx
    ·rcases h3 with h3 | h3
     ·exact absurd h3 c2
     ·rw [hx]; exact h3
section
variable (S : Sc)
/-- what Grad tells -/
def gradO (T : Tp) (E : En) (p : Int) : Except Int (List Iv × List (List Iv)) :=
 thn (linesO S T E p) fun V => thn (tabO S T.L (fun i => V.getD i Iv.zero) (fun k => (askS (namB T.L T.n) E.nx).1.getD k 0) (askS (namB T.L T.n) E.nx).1.length p T.n) fun Q =>
  .ok (outsL V T, (List.range T.m).map fun o => (askS (namB T.L T.n) E.nx).2.1.map fun k => (Q.getD (T.O o).toNat []).getD k.toNat Iv.zero)
end
section
variable {S : Sc} {x y : Iv} {p : Int}
theorem addF_cod : Cod (addF S x y p) := tface2_cod sumO_cod
theorem subF_cod : Cod (subF S x y p) := tface2_cod sumO_cod
theorem mulF_cod : Cod (mulF S x y p) := tface2_cod tmulI_cod
theorem divF_cod : Cod (divF S x y p) := tface2_cod tdivI_cod
theorem negF_cod : Cod (negF S x p) := tface1_cod outO_cod
theorem addF_ends {z : Iv} (h : addF S x y p = .ok z) : Ends z := sumO_ends (tface2_ok h)
theorem subF_ends {z : Iv} (h : subF S x y p = .ok z) : Ends z := sumO_ends (tface2_ok h)
theorem mulF_ends {z : Iv} (h : mulF S x y p = .ok z) : Ends z := mulI_ends (tface2_ok h)
theorem divF_ends {z : Iv} (h : divF S x y p = .ok z) : Ends z := divI_ends (tface2_ok h)
theorem negF_ends {z : Iv} (h : negF S x p = .ok z) : Ends z := outO_ends (tface1_ok h)
theorem pwQ_small {e : Int} : (pwQ e).l.length ≤ 10000000000000 := by
 show (dig Go.Proofs.YtlpjlmophlikeaaGreatDoor.W 1).length ≤ _
 rw [dig_one (by decide) (small_W (by decide))]
 decide
/-- few enough limbs to be copied -/
def Small (x : Iv) : Prop := x.lo.l.length ≤ 10000000000000 ∧ x.hi.l.length ≤ 10000000000000
theorem ends_small {x : Iv} (h : Ends x) : Small x := ⟨may_small h.1, may_small h.2⟩
theorem zero_small : Small Iv.zero := ⟨by show 0 ≤ _; omega, by show 0 ≤ _; omega⟩
theorem thn_small {o : Except Int Iv} {f : Iv → Except Int Iv} {z : Iv} (h : thn o f = .ok z) (hf : ∀ x, f x = .ok z → Ends z) : Small z := by
 obtain ⟨x, _, h⟩ := thn_fin h
 exact ends_small (hf x h)
theorem step_small {op : Int} {a b c da db z : Iv} (h : stepO S op a b c da db p = .ok z) : Small z :=
 ite_ok h (fun h => ends_small (addF_ends h)) fun h => ite_ok h (fun h => ends_small (subF_ends h)) fun h =>
 ite_ok h (fun h => thn_small h fun _ h => by obtain ⟨_, _, h⟩ := thn_fin h; exact addF_ends h) fun h => ite_ok h (fun h => thn_small h fun _ h => by obtain ⟨_, _, h⟩ := thn_fin h; exact divF_ends h) fun h =>
 ite_ok h (fun h => ends_small (negF_ends h)) fun h => ite_ok h (fun h => thn_small h fun _ h => mulF_ends h) fun h => ite_ok h (fun h => thn_small h fun _ h => divF_ends h) fun h => ite_ok h (fun h => ends_small (mulF_ends h)) fun h => by cases h
theorem step_cod {op : Int} {a b c da db : Iv} : Cod (stepO S op a b c da db p) :=
 ite_cod (fun _ => addF_cod) fun _ => ite_cod (fun _ => subF_cod) fun _ => ite_cod (fun _ => thn_cod mulF_cod fun _ _ => thn_cod mulF_cod fun _ _ => addF_cod) fun _ => ite_cod (fun _ => thn_cod mulF_cod fun _ _ => thn_cod subF_cod fun _ _ => divF_cod) fun _ =>
 ite_cod (fun _ => negF_cod) fun _ => ite_cod (fun _ => thn_cod mulF_cod fun _ _ => mulF_cod) fun _ => ite_cod (fun _ => thn_cod mulF_cod fun _ _ => divF_cod) fun _ => ite_cod (fun _ => mulF_cod) fun _ => err_cod (by decide)
theorem next_small {l : Ln} {V D : Nat → Iv} {c z : Iv} {st : Int} (h : nextO S l V D c st p = .ok z) : Small z := by
 have hz : ∀ {w : Iv}, (Except.ok Iv.zero : Except Int Iv) = .ok w → Small w := fun h => by cases h; exact zero_small
 exact ite_ok h hz fun h => ite_ok h hz fun h => ite_ok h (fun h => ite_ok h (fun h => by cases h; exact ⟨pwQ_small, pwQ_small⟩) hz) fun h => ite_ok h hz fun h => ite_ok h hz fun h => step_small h
theorem next_cod {l : Ln} {V D : Nat → Iv} {c : Iv} {st : Int} : Cod (nextO S l V D c st p) :=
 ite_cod (fun _ => ok_cod) fun _ => ite_cod (fun _ => ok_cod) fun _ => ite_cod (fun _ => ite_cod (fun _ => ok_cod) fun _ => ok_cod) fun _ => ite_cod (fun _ => ok_cod) fun _ => ite_cod (fun _ => ok_cod) fun _ => step_cod
end
section
variable {S : Sc} {l : Ln} {L : Nat → Ln} {V : Nat → Iv} {Q : Nat → List Iv} {c : Iv} {st : Nat → Int} {p : Int} {m : Nat}
theorem row_ok {k : Nat} {R : List Iv} {d : Iv} (h1 : rowO S l V Q c st p k = .ok R) (h2 : nextO S l V (fun j => (Q j).getD k Iv.zero) c (st k) p = .ok d) : rowO S l V Q c st p (k + 1) = .ok (R ++ [d]) := by
 rw [rowO, h1]
 simp only [thn, h2]
theorem row_bad {k : Nat} {R : List Iv} {e : Int} (h1 : rowO S l V Q c st p k = .ok R) (h2 : nextO S l V (fun j => (Q j).getD k Iv.zero) c (st k) p = .error e) : rowO S l V Q c st p (k + 1) = .error e := by
 rw [rowO, h1]
 simp only [thn, h2]
theorem row_err {k d : Nat} {e : Int} (h : rowO S l V Q c st p k = .error e) : rowO S l V Q c st p (k + d) = .error e := by
 induction d with
 | zero => exact h
 | succ d ih =>
  show rowO S l V Q c st p (k + d + 1) = _
  rw [rowO, ih]
  rfl
theorem row_len : ∀ {k : Nat} {R : List Iv}, rowO S l V Q c st p k = .ok R → R.length = k
 | 0, R, h => by injection h with h; subst h; rfl
 | k + 1, R, h => by
  unfold rowO at h
  obtain ⟨R0, h1, h⟩ := thn_fin h
  obtain ⟨d, _, h⟩ := thn_fin h
  injection h with h
  subst h
  rw [List.length_append, row_len h1]
  rfl
theorem row_small : ∀ {k : Nat} {R : List Iv}, rowO S l V Q c st p k = .ok R → ∀ x ∈ R, Small x
 | 0, R, h => by injection h with h; subst h; exact fun x hx => by cases hx
 | k + 1, R, h => by
  unfold rowO at h
  obtain ⟨R0, h1, h⟩ := thn_fin h
  obtain ⟨d, h2, h⟩ := thn_fin h
  injection h with h
  subst h
  intro x hx
  rcases List.mem_append.1 hx with hx | hx
  ·exact row_small h1 x hx
  ·rw [List.mem_singleton.1 hx]; exact next_small h2
theorem tab_ok {i : Nat} {Q : List (List Iv)} {R : List Iv} (h1 : tabO S L V st m p i = .ok Q) (h2 : rowO S (L i) V (fun j => Q.getD j []) (V i) st p m = .ok R) : tabO S L V st m p (i + 1) = .ok (Q ++ [R]) := by
 rw [tabO, h1]
 simp only [thn, h2]
theorem tab_bad {i : Nat} {Q : List (List Iv)} {e : Int} (h1 : tabO S L V st m p i = .ok Q) (h2 : rowO S (L i) V (fun j => Q.getD j []) (V i) st p m = .error e) : tabO S L V st m p (i + 1) = .error e := by
 rw [tabO, h1]
 simp only [thn, h2]
theorem tab_err {i d : Nat} {e : Int} (h : tabO S L V st m p i = .error e) : tabO S L V st m p (i + d) = .error e := by
 induction d with
 | zero => exact h
 | succ d ih =>
  show tabO S L V st m p (i + d + 1) = _
  rw [tabO, ih]
  rfl
theorem tab_len : ∀ {i : Nat} {Q : List (List Iv)}, tabO S L V st m p i = .ok Q → Q.length = i ∧ ∀ R ∈ Q, R.length = m ∧ ∀ x ∈ R, Small x
 | 0, Q, h => by injection h with h; subst h; exact ⟨rfl, fun R hR => by cases hR⟩
 | i + 1, Q, h => by
  unfold tabO at h
  obtain ⟨Q0, h1, h⟩ := thn_fin h
  obtain ⟨R, h2, h⟩ := thn_fin h
  injection h with h
  subst h
  obtain ⟨i1, i2⟩ := tab_len h1
  refine ⟨by rw [List.length_append, i1]; rfl, fun R' hR => ?_⟩
  rcases List.mem_append.1 hR with hR | hR
  ·exact i2 R' hR
  ·rw [List.mem_singleton.1 hR]; exact ⟨row_len h2, row_small h2⟩
end
end Go.Proofs.YtlpjlmophlikeaaGreatDoor
set_option maxHeartbeats 8000000
set_option maxRecDepth 100000
namespace Go.Proofs.YtlpjlmophlikeaaGreatDoor
open Go.RowKit

theorem nam_zero {L : Nat → Ln} : namB L 0 = fun _ => false := by funext j; rfl
theorem nam_next {L : Nat → Ln} {i : Nat} (h : (L i).op = 3) {a : Nat} (ha : (L i).a = (a : Int)) : namB L (i + 1) = upd (namB L i) a true := by
 funext j
 unfold namB upd
 rw [List.range_succ, List.any_append]
 by_cases e : j = a
 ·subst e
  rw [if_pos rfl]
  simp [h, ha]
 ·rw [if_neg e]
  have e2 : ¬ (a : Int) = (j : Int) := by omega
  simp [ha, e2]
theorem nam_same {L : Nat → Ln} {i : Nat} (h : (L i).op ≠ 3) : namB L (i + 1) = namB L i := by
 funext j
 unfold namB
 rw [List.range_succ, List.any_append]
 simp [h]
theorem ask_yes {N : Nat → Bool} {j : Nat} (h : N j = true) : askS N (j + 1) = ((askS N j).1 ++ [(j : Int)], (askS N j).2.1 ++ [((askS N j).1.length : Int)], (askS N j).2.2) := by
 rw [askS, if_pos h]
theorem ask_first {N : Nat → Bool} {j : Nat} (h : N j = false) (h2 : (askS N j).2.2 = -1) : askS N (j + 1) = ((askS N j).1 ++ [(j : Int)], (askS N j).2.1 ++ [((askS N j).1.length : Int)], ((askS N j).1.length : Int)) := by
 rw [askS, if_neg (by rw [h]; decide), if_pos h2]
theorem ask_like {N : Nat → Bool} {j : Nat} (h : N j = false) (h2 : (askS N j).2.2 ≠ -1) : askS N (j + 1) = ((askS N j).1, (askS N j).2.1 ++ [(askS N j).2.2], (askS N j).2.2) := by
 rw [askS, if_neg (by rw [h]; decide), if_neg h2]
theorem ZRow.lower {w : World} {b0 base : Nat} {v : Value} {zs : List Int} (h : ZRow w base v zs) (hb : b0 ≤ base) : ZRow w b0 v zs := by
 obtain ⟨⟨h1, h2⟩, h3⟩ := h
 refine ⟨⟨h1, ?_⟩, h3⟩
 rcases h2 with h2 | ⟨g, cap, cur, hv, hb2, h5⟩
 ·exact .inl h2
 ·exact .inr ⟨g, cap, cur, hv, Nat.le_trans hb hb2, h5⟩
/-- what is known between two rounds: which states are named, two rows of the call's own -/
structure AskW (w w1 : World) (x : Nat) (N : Nat → Bool) (v4 v5 : Value) (s k : List Int) : Prop where
 below : Below w.heap.size w w1
 named : Blk w1 w.heap.size (tls x N) 4
 st : ZRow w1 (w.heap.size + 1) v4 s
 lk : ZRow w1 (w.heap.size + 1) v5 k
 far : ∀ q, v4.ownBlock = some q → v5.ownBlock ≠ some q
section
variable {w w1 w2 : World} {x : Nat} {N : Nat → Bool} {v4 v5 v' : Value} {s k : List Int} {z : Int}
theorem AskW.big (h : AskW w w1 x N v4 v5 s k) : w.heap.size + 1 ≤ w1.heap.size := h.named.gl
theorem AskW.alloc (h : AskW w w1 x N v4 v5 s k) (o : Obj) : AskW w (w1.alloc o) x N v4 v5 s k :=
 have b := below_alloc w1 o
 ⟨below_next h.below h.below.size b rfl rfl rfl rfl, h.named.next b rfl, h.st.next b rfl, h.lk.next b rfl, h.far⟩
theorem AskW.like (h : AskW w w1 x N v4 v5 s k) (h1 : ZRow w2 (w.heap.size + 1) v' (k ++ [z])) (hg : w1.grownBy w2 v5.ownBlock) (ho : v'.ownBlock = v5.ownBlock ∨ v'.ownBlock = some w1.heap.size) : AskW w w2 x N v4 v' s (k ++ [z]) := by
 refine ⟨grown_below hg h.below (fun q e => by have := (h.lk.lt q e).1; omega) h.below.size, ⟨(hg.block _ h.named.gl (fun e => by have := (h.lk.lt _ e.symm).1; omega)).trans h.named.blk⟩, h.st.grown hg (fun q e e2 => h.far q e e2), h1, fun q e e2 => ?_⟩
 rcases ho with ho | ho
 ·exact h.far q e (ho.symm.trans e2)
 ·have := (h.st.lt q e).2
  rw [ho] at e2
  injection e2 with e2
  omega
theorem AskW.state (h : AskW w w1 x N v4 v5 s k) (h1 : ZRow w2 (w.heap.size + 1) v' (s ++ [z])) (hg : w1.grownBy w2 v4.ownBlock) (ho : v'.ownBlock = v4.ownBlock ∨ v'.ownBlock = some w1.heap.size) : AskW w w2 x N v' v5 (s ++ [z]) k := by
 refine ⟨grown_below hg h.below (fun q e => by have := (h.st.lt q e).1; omega) h.below.size, ⟨(hg.block _ h.named.gl (fun e => by have := (h.st.lt _ e.symm).1; omega)).trans h.named.blk⟩, h1, h.lk.grown hg (fun q e e2 => h.far q e2 e), fun q e e2 => ?_⟩
 rcases ho with ho | ho
 ·exact h.far q (ho.symm.trans e) e2
 ·have := (h.lk.lt q e2).2
  rw [ho] at e
  injection e with e
  omega
end

theorem sasked_any {w : World} {AL : Option Addr} {nL cL : Nat} {L : Nat → Ln} {x : Nat} (hL : RdL w AL nL cL L) (hn : nL ≤ 200) (hx : x ≤ 900) (hop : ∀ i, i < nL → (L i).op = 3 → belowB (L i).a (x : Int) = true) :
  Calls Tryz.prog 36 #[.slice AL nL cL, .int .i64 (x : Int)] w (fun en w' => ∃ v1 v2, en = .returned (.tuple #[v1, v2]) ∧ ZRow w' w.heap.size v1 (askS (namB L nL) x).1 ∧ ZRow w' w.heap.size v2 (askS (namB L nL) x).2.1 ∧ Below w.heap.size w w') := by
 have HOP := Lib.hid hop
 clear hop
 have hnm : (nL : Int) ≤ 9223372036854775807 := by omega
 go_enter Tryz.func36, Tryz.ntmps36
 go_wp2_with (at_make; refine law_makeT rfl (.tmp 12) rfl _ x rfl (by omega) (by omega) ?_; intro w1 xb hg1)
 have BB := (Below.refl w.heap.size w).grown hg1 (Nat.le_refl _) (fun _ e => by cases e)
 rw [← nam_zero (L := L)] at xb
 clear hg1
 go_wp2
 go_loopg [16] nL (fun q v wr => ∃ i : Nat, i + q = nL ∧ v = .int .i64 i ∧ Blk wr w.heap.size (tls x (namB L i)) 4 ∧ Below w.heap.size w wr)
 case atStart => exact ⟨0, by omega, rfl, xb, BB⟩
 case round =>
  obtain ⟨i, hg, rfl, yb, hb⟩ := hrel
  have HG := Lib.hid hg
  clear hg xb BB
  by_cases hi : i < nL
  ·obtain ⟨g, off, hal, hc⟩ := (mv hb rfl hL).at_ (by omega)
   obtain ⟨A1, n1, c1, A2, n2, c2, ⟨r0, r1, r2, r3, r4, r5, r6, r7, r8⟩, _, _⟩ := hc i hi
   subst hal
   clear hc
   have HOI := HOP.out i hi
   obtain ⟨l, hl⟩ : ∃ l, l = L i := ⟨_, rfl⟩
   rw [← hl] at r0 r1 r2 r3 r5 r6 r8 HOI
   obtain ⟨op, a, b, kk⟩ := l
   dsimp only at r0 r1 r2 r3 r5 r6 r8 HOI
   have hop2 : (L i).op = op := by rw [← hl]
   have hop3 : (L i).a = a := by rw [← hl]
   have hp2 : (i : Int) < nL := by omega
   have hp3 : (0 : Int) ≤ i := by omega
   have b1 := below_alloc wr (.cells #[.int .i64 op, .int .i64 a, .int .i64 b, .bool kk.lo.s, .slice A1 n1 c1, .int .i64 kk.lo.e, .bool kk.hi.s, .slice A2 n2 c2, .int .i64 kk.hi.e] 31)
   have hb1 := below_next hb hb.size b1 rfl rfl rfl rfl
   have yb1 := mv b1 rfl yb
   by_cases h3 : op = 3
   ·obtain ⟨ja, rfl, hja⟩ := nat_below (HOI h3)
    have HN := Lib.hid (nam_next (hop2.trans h3) hop3)
    subst h3
    have xl := Blk.new wr #[.int .i64 3, .int .i64 (ja : Int), .int .i64 b, .bool kk.lo.s, .slice A1 n1 c1, .int .i64 kk.lo.e, .bool kk.hi.s, .slice A2 n2 c2, .int .i64 kk.hi.e] 31
    have m0 : World.cell? _ ⟨_, 0, none⟩ = some (.int .i64 3) := xl.at 0
    have m1 : World.cell? _ ⟨_, 1, none⟩ = some (.int .i64 (ja : Int)) := xl.at 1
    have z0 := yb1.at ja (rls_get hja)
    have f0 := yb1.frozen ja
    have yb2 := yb1.sett ja true
    have hb2 := hb1.setCell (p := ⟨w.heap.size, ja, none⟩) (Nat.le_refl _) (.bool true)
    have j0 : (0 : Int) ≤ (ja : Int) := by omega
    have j1 : (ja : Int) < (x : Int) := by omega
    clear hl hop2 hop3 yb1 b1 hb1 HOI xl
    go_wp2
    go_roundg (gk - 1)
    case measure => have := HG.out; omega
    case rel => exact ⟨i + 1, by have := HG.out; omega, by go_num, by rw [HN.out]; exact yb2, hb2⟩
   ·have HN := Lib.hid (nam_same (L := L) (i := i) (by rw [hop2]; exact h3))
    have hop9 : (op == 3) = false := beq_eq_false_iff_ne.2 h3
    have xl := Blk.new wr #[.int .i64 op, .int .i64 a, .int .i64 b, .bool kk.lo.s, .slice A1 n1 c1, .int .i64 kk.lo.e, .bool kk.hi.s, .slice A2 n2 c2, .int .i64 kk.hi.e] 31
    have m0 : World.cell? _ ⟨_, 0, none⟩ = some (.int .i64 op) := xl.at 0
    clear hl hop2 hop3 b1 HOI xl
    go_wp2
    go_roundg (gk - 1)
    case measure => have := HG.out; omega
    case rel => exact ⟨i + 1, by have := HG.out; omega, by go_num, by rw [HN.out]; exact yb1, hb1⟩
  ·have hn2 : i = nL := by have := HG.out; omega
   subst hn2
   obtain ⟨N, hNN⟩ : ∃ N, N = namB L i := ⟨_, rfl⟩
   rw [← hNN] at yb
   have HNN := Lib.hid hNN
   clear hNN
   clear HG hi hL HOP
   generalize wr = W1 at *
   generalize gk = gk1 at *
   go_wp2
   go_loopg [30, 4, 5, 9] x (fun q vj v4 v5 v9 wr => ∃ (j : Nat) (s k : List Int) (ot : Int), j + q = x ∧ vj = .int .i64 j ∧ askS N j = (s, k, ot) ∧ v9 = .int .i64 ot ∧ AskW w wr x N v4 v5 s k)
   case atStart => exact ⟨0, [], [], -1, by omega, rfl, rfl, rfl, hb, yb, zrow_nil _ _, zrow_nil _ _, fun q e => by cases e⟩
   case round =>
    obtain ⟨j, s, k, ot, hg, rfl, hst, rfl, HA⟩ := hrel
    have HG2 := Lib.hid hg
    have HST := Lib.hid hst
    have hln := ask_len N j
    rw [hst] at hln
    have hlk : k.length = j := hln.1
    have hls : s.length ≤ j := hln.2.1
    clear hg hst hb yb hln
    by_cases hj : j < x
    ·have hz := HA.named.at j (rls_get hj)
     obtain ⟨A4, c4, rfl, _⟩ := HA.st.form
     obtain ⟨A5, c5, e5, _⟩ := HA.lk.form
     rw [hlk] at e5
     subst e5
     have hp2 : (j : Int) < x := by omega
     have hp3 : (0 : Int) ≤ j := by omega
     cases hN : N j
     ·rw [hN] at hz
      by_cases ho : ot = -1
      ·have hoo : (ot != -1) = false := by simp [ho]
       generalize wr = wq at *
       generalize gk = gk2 at *
       have HA2 := HA.alloc (.cells #[.int .i64 (s.length : Int)] 3)
       have xz : World.cell? _ ⟨_, 0, none⟩ = some (.int .i64 (s.length : Int)) := (Blk.new wq #[.int .i64 (s.length : Int)] 3).at 0
       have hs0 : (s.length : Int) ≤ 9223372036854775807 := by omega
       go_wp2_with (at_builtin; refine wp_appz rfl _ _ rfl rfl rfl HA2.lk xz (by omega) HA2.big ?_)
       intro v8 w8 h8 hg8 ho8
       have HA3 := HA2.like h8 hg8 (by first | exact ho8 | simpa using ho8)
       clear h8 hg8 ho8 HA2 xz HA
       have HA4 := HA3.alloc (.cells #[.int .i64 (j : Int)] 3)
       have xz : World.cell? _ ⟨_, 0, none⟩ = some (.int .i64 (j : Int)) := (Blk.new w8 #[.int .i64 (j : Int)] 3).at 0
       go_wp2_with (at_builtin; refine wp_appz rfl _ _ rfl rfl rfl HA4.st xz (by omega) HA4.big ?_)
       intro v9 w9 h9 hg9 ho9
       have HA5 := HA4.state h9 hg9 (by first | exact ho9 | simpa using ho9)
       clear h9 hg9 ho9 HA4 xz HA3
       go_wp2
       go_roundg (gk2 - 1)
       case measure => have := HG2.out; omega
       case rel => exact ⟨j + 1, s ++ [(j : Int)], k ++ [(s.length : Int)], (s.length : Int), by have := HG2.out; omega, by go_num, by rw [ask_first hN (by rw [HST.out]; exact ho), HST.out], by first | rfl | go_num, HA5⟩
      ·have hoo : (ot != -1) = true := by simp [ho]
       have HA2 := HA.alloc (.cells #[.int .i64 ot] 3)
       have xz : World.cell? _ ⟨_, 0, none⟩ = some (.int .i64 ot) := (Blk.new wr #[.int .i64 ot] 3).at 0
       go_wp2_with (at_builtin; refine wp_appz rfl _ _ rfl rfl rfl HA2.lk xz (by omega) HA2.big ?_)
       intro v8 w8 h8 hg8 ho8
       have HA3 := HA2.like h8 hg8 (by first | exact ho8 | simpa using ho8)
       clear h8 hg8 ho8 HA2 xz HA
       go_wp2
       go_roundg (gk - 1)
       case measure => have := HG2.out; omega
       case rel => exact ⟨j + 1, s, k ++ [ot], ot, by have := HG2.out; omega, by go_num, by rw [ask_like hN (by rw [HST.out]; exact ho), HST.out], rfl, HA3⟩
     ·rw [hN] at hz
      generalize wr = wq at *
      generalize gk = gk2 at *
      have HA2 := HA.alloc (.cells #[.int .i64 (s.length : Int)] 3)
      have xz : World.cell? _ ⟨_, 0, none⟩ = some (.int .i64 (s.length : Int)) := (Blk.new wq #[.int .i64 (s.length : Int)] 3).at 0
      have hs0 : (s.length : Int) ≤ 9223372036854775807 := by omega
      go_wp2_with (at_builtin; refine wp_appz rfl _ _ rfl rfl rfl HA2.lk xz (by omega) HA2.big ?_)
      intro v8 w8 h8 hg8 ho8
      have HA3 := HA2.like h8 hg8 (by first | exact ho8 | simpa using ho8)
      clear h8 hg8 ho8 HA2 xz HA
      have HA4 := HA3.alloc (.cells #[.int .i64 (j : Int)] 3)
      have xz : World.cell? _ ⟨_, 0, none⟩ = some (.int .i64 (j : Int)) := (Blk.new w8 #[.int .i64 (j : Int)] 3).at 0
      go_wp2_with (at_builtin; refine wp_appz rfl _ _ rfl rfl rfl HA4.st xz (by omega) HA4.big ?_)
      intro v9 w9 h9 hg9 ho9
      have HA5 := HA4.state h9 hg9 (by first | exact ho9 | simpa using ho9)
      clear h9 hg9 ho9 HA4 xz HA3
      go_wp2
      go_roundg (gk2 - 1)
      case measure => have := HG2.out; omega
      case rel => exact ⟨j + 1, s ++ [(j : Int)], k ++ [(s.length : Int)], ot, by have := HG2.out; omega, by go_num, by rw [ask_yes hN, HST.out], by first | rfl | go_num, HA5⟩
    ·have hj2 : j = x := by have := HG2.out; omega
     subst hj2
     go_wp2
     exact bodyPost_ret (v := .tuple #[u4, u5]) (by simp [results, Tryz.results36, go_sem]) rfl ⟨_, _, rfl, by rw [← HNN.out, HST.out]; exact HA.st.lower (by omega), by rw [← HNN.out, HST.out]; exact HA.lk.lower (by omega), HA.below⟩

end Go.Proofs.YtlpjlmophlikeaaGreatDoor
