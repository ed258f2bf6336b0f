/-
  Plain facts on memory: a slice that reads as a list of naturals, a row of a block that is written in place. No condition; nothing of the program is named here.
-/
import Init
import Derived.WalkKit
import Derived.Deep.Draws
import Derived.Laws.OwnMore
import Derived.Laws.Rows
namespace Go.Proofs.YtkpcmgfpmekkjaaDoor

def W : Nat := 18446744073709551616
def H : Nat := 65536
theorem W_eq : W = 18446744073709551616 := rfl
theorem H_eq : H = 65536 := rfl
theorem W_two : 2 ≤ W := by rw [W_eq]; omega
theorem H_two : 2 ≤ H := by rw [H_eq]; omega
theorem W_pow : W = 2 ^ 64 := by rw [W_eq]
def val (B : Nat) : List Nat → Nat
  | [] => 0
  | x :: l => x + B * val B l

def dig (B : Nat) (n : Nat) : List Nat := if _h : n = 0 ∨ B < 2 then [] else n % B :: dig B (n / B)
  termination_by n
  decreasing_by exact Nat.div_lt_self (by omega) (by omega)

def Lt (B : Nat) (l : List Nat) : Prop := ∀ x ∈ l, x < B
def Can (B : Nat) (l : List Nat) : Prop := Lt B l ∧ (l.length ≠ 0 → l.getD (l.length - 1) 0 ≠ 0)

section
variable {B : Nat}

theorem dig_zero : dig B 0 = [] := by rw [dig]; simp
theorem dig_pos (hB : 2 ≤ B) {n : Nat} (hn : n ≠ 0) : dig B n = n % B :: dig B (n / B) := by
  rw [dig, dif_neg (by omega)]

theorem val_nil : val B [] = 0 := rfl
theorem val_cons (x : Nat) (l : List Nat) : val B (x :: l) = x + B * val B l := rfl
theorem val_append (l r : List Nat) : val B (l ++ r) = val B l + B ^ l.length * val B r := by
  induction l with
  | nil => simp [val]
  | cons x l ih => simp only [List.cons_append, val_cons, ih, List.length_cons, Nat.pow_succ]; rw [Nat.mul_add, Nat.mul_comm (B ^ l.length) B, Nat.mul_assoc]; omega
theorem val_take_drop (l : List Nat) (k : Nat) : val B l = val B (l.take k) + B ^ (l.take k).length * val B (l.drop k) := by
  rw [← val_append, List.take_append_drop]
theorem val_snoc (l : List Nat) (x : Nat) : val B (l ++ [x]) = val B l + B ^ l.length * x := by
  rw [val_append]; simp [val]
theorem Lt.nil : Lt B [] := by intro x hx; cases hx
theorem Lt.cons {x : Nat} {l : List Nat} (h : x < B) (hl : Lt B l) : Lt B (x :: l) := by
  intro y hy
  rcases List.mem_cons.1 hy with rfl | hy
  · exact h
  · exact hl _ hy
theorem Lt.tail {x : Nat} {l : List Nat} (h : Lt B (x :: l)) : Lt B l := fun y hy => h y (List.mem_cons_of_mem _ hy)
theorem Lt.head {x : Nat} {l : List Nat} (h : Lt B (x :: l)) : x < B := h x (List.mem_cons_self ..)
theorem Lt.append {l r : List Nat} (h : Lt B l) (h' : Lt B r) : Lt B (l ++ r) := by
  intro y hy
  rcases List.mem_append.1 hy with hy | hy
  · exact h _ hy
  · exact h' _ hy
theorem Lt.take {l : List Nat} (h : Lt B l) (k : Nat) : Lt B (l.take k) := fun y hy => h y (List.mem_of_mem_take hy)
theorem Lt.drop {l : List Nat} (h : Lt B l) (k : Nat) : Lt B (l.drop k) := fun y hy => h y (List.mem_of_mem_drop hy)
theorem Lt.getD {l : List Nat} (h : Lt B l) (hB : 0 < B) (j : Nat) : l.getD j 0 < B := by
  rw [List.getD_eq_getElem?_getD]
  by_cases hj : j < l.length
  · rw [List.getElem?_eq_getElem hj]; exact h _ (List.getElem_mem _)
  · rw [List.getElem?_eq_none (by omega)]; exact hB
theorem Lt.set {l : List Nat} (h : Lt B l) (i : Nat) {x : Nat} (hx : x < B) : Lt B (l.set i x) := by
  intro y hy
  rcases List.mem_or_eq_of_mem_set hy with hy | rfl
  · exact h _ hy
  · exact hx
theorem Lt.replicate (n : Nat) (hB : 0 < B) : Lt B (List.replicate n 0) := by
  intro y hy
  rw [(List.mem_replicate.1 hy).2]; exact hB

theorem val_lt {l : List Nat} (h : Lt B l) : val B l < B ^ l.length := by
  induction l with
  | nil => simp [val]
  | cons x l ih =>
    have h1 := ih h.tail
    have h2 := h.head
    rw [val_cons, List.length_cons, Nat.pow_succ]
    calc x + B * val B l < B + B * val B l := by omega
      _ = B * (val B l + 1) := by rw [Nat.mul_add]; omega
      _ ≤ B * B ^ l.length := Nat.mul_le_mul_left _ h1
      _ = B ^ l.length * B := Nat.mul_comm _ _
theorem val_replicate (n : Nat) : val B (List.replicate n 0) = 0 := by
  induction n with
  | zero => rfl
  | succ n ih => rw [List.replicate_succ, val_cons, ih]; simp
theorem val_zero_of {l : List Nat} (h : ∀ j, j < l.length → l.getD j 0 = 0) : val B l = 0 := by
  induction l with
  | nil => rfl
  | cons x l ih =>
    have h0 := h 0 (by simp)
    simp at h0
    rw [val_cons, h0, ih (fun j hj => by have := h (j + 1) (by simp; omega); simpa using this)]
    simp

theorem val_pos_of_last {l : List Nat} (h : l.length ≠ 0) (hl : l.getD (l.length - 1) 0 ≠ 0) : B ^ (l.length - 1) ≤ val B l := by
  have e : l = l.take (l.length - 1) ++ [l.getD (l.length - 1) 0] := by
    have h1 : l.length - 1 < l.length := by omega
    rw [List.getD_eq_getElem?_getD, List.getElem?_eq_getElem h1, Option.getD_some, List.take_append_getElem h1, Nat.sub_add_cancel (by omega), List.take_length]
  have e2 := congrArg (val B) e
  rw [val_snoc] at e2
  rw [e2]
  have h3 : (l.take (l.length - 1)).length = l.length - 1 := by simp
  rw [h3]
  have h4 : B ^ (l.length - 1) * 1 ≤ B ^ (l.length - 1) * l.getD (l.length - 1) 0 := Nat.mul_le_mul_left _ (by omega)
  omega

theorem Can.tail {x : Nat} {l : List Nat} (h : Can B (x :: l)) : Can B l := by
  refine ⟨h.1.tail, fun hl => ?_⟩
  have h2 := h.2 (by simp)
  rw [List.length_cons] at h2
  have e : l.length + 1 - 1 = (l.length - 1) + 1 := by omega
  rw [e, List.getD_cons_succ] at h2
  exact h2
theorem Can.nil : Can B [] := ⟨Lt.nil, fun h => absurd rfl h⟩

theorem dig_val (hB : 2 ≤ B) {l : List Nat} (h : Can B l) : dig B (val B l) = l := by
  induction l with
  | nil => rw [val_nil, dig_zero]
  | cons x l ih =>
    have hx := h.1.head
    have hv : val B (x :: l) ≠ 0 := by
      have := val_pos_of_last (B := B) (l := x :: l) (by simp) (h.2 (by simp))
      have := Nat.pow_pos (n := (x :: l).length - 1) (show 0 < B by omega)
      omega
    rw [dig_pos hB hv, val_cons, Nat.add_mul_mod_self_left, Nat.mod_eq_of_lt hx, Nat.add_mul_div_left _ _ (by omega), Nat.div_eq_of_lt hx, Nat.zero_add, ih h.tail]

theorem val_dig (hB : 2 ≤ B) (n : Nat) : val B (dig B n) = n := by
  induction n using Nat.strongRecOn with
  | ind n ih =>
    by_cases hn : n = 0
    · rw [hn, dig_zero]; rfl
    · rw [dig_pos hB hn, val_cons, ih _ (Nat.div_lt_self (by omega) (by omega))]
      exact Nat.mod_add_div n B

theorem lt_dig (hB : 2 ≤ B) (n : Nat) : Lt B (dig B n) := by
  induction n using Nat.strongRecOn with
  | ind n ih =>
    by_cases hn : n = 0
    · rw [hn, dig_zero]; exact Lt.nil
    · rw [dig_pos hB hn]; exact Lt.cons (Nat.mod_lt _ (by omega)) (ih _ (Nat.div_lt_self (by omega) (by omega)))

theorem can_dig (hB : 2 ≤ B) (n : Nat) : Can B (dig B n) := by
  refine ⟨lt_dig hB n, ?_⟩
  induction n using Nat.strongRecOn with
  | ind n ih =>
    by_cases hn : n = 0
    · rw [hn, dig_zero]; intro h; exact absurd rfl h
    · intro _
      rw [dig_pos hB hn]
      by_cases h0 : n / B = 0
      · rw [h0, dig_zero]
        have : n < B := by
          rcases Nat.lt_or_ge n B with h | h
          · exact h
          · have := Nat.div_pos h (by omega); omega
        simp [Nat.mod_eq_of_lt this]; exact hn
      · have h1 := ih (n / B) (Nat.div_lt_self (by omega) (by omega)) (by rw [dig_pos hB h0]; simp)
        have h2 : (dig B (n / B)).length ≠ 0 := by rw [dig_pos hB h0]; simp
        rw [List.length_cons]
        have e : (dig B (n / B)).length + 1 - 1 = ((dig B (n / B)).length - 1) + 1 := by omega
        rw [e, List.getD_cons_succ]
        exact h1

theorem len_dig (hB : 2 ≤ B) (n k : Nat) : (dig B n).length ≤ k ↔ n < B ^ k := by
  induction k generalizing n with
  | zero =>
    by_cases hn : n = 0
    · subst hn; simp [dig_zero]
    · rw [dig_pos hB hn]; simp; omega
  | succ k ih =>
    by_cases hn : n = 0
    · subst hn; simp [dig_zero]; exact Nat.pow_pos (show 0 < B by omega)
    · rw [dig_pos hB hn, List.length_cons, Nat.add_le_add_iff_right, ih, Nat.pow_succ]
      exact Nat.div_lt_iff_lt_mul (show 0 < B by omega)
theorem len_dig_pos (hB : 2 ≤ B) {n : Nat} (hn : n ≠ 0) : B ^ ((dig B n).length - 1) ≤ n := by
  have h : (dig B n).length ≠ 0 := by rw [dig_pos hB hn]; simp
  have := val_pos_of_last (B := B) h ((can_dig hB n).2 h)
  rwa [val_dig hB] at this
theorem dig_ne_nil (hB : 2 ≤ B) {n : Nat} (hn : n ≠ 0) : (dig B n).length ≠ 0 := by rw [dig_pos hB hn]; simp
theorem dig_len_zero (hB : 2 ≤ B) {n : Nat} : (dig B n).length = 0 ↔ n = 0 := by
  constructor
  · intro h
    rcases Nat.eq_zero_or_pos n with h0 | h0
    · exact h0
    · exact absurd h (dig_ne_nil hB (by omega))
  · rintro rfl; simp [dig_zero]
theorem len_dig_mono (hB : 2 ≤ B) {m n : Nat} (h : m ≤ n) : (dig B m).length ≤ (dig B n).length :=
  (len_dig hB _ _).2 (Nat.lt_of_le_of_lt h ((len_dig hB n _).1 (Nat.le_refl _)))

/-- what is left when the noughts at the end are cut -/
theorem trim_dig (hB : 2 ≤ B) {l : List Nat} (hl : Lt B l) {n : Nat} (hn : n ≤ l.length) (hz : ∀ j, n ≤ j → j < l.length → l.getD j 0 = 0)
    (ht : n = 0 ∨ l.getD (n - 1) 0 ≠ 0) : l.take n = dig B (val B l) := by
  have hlen : (l.take n).length = n := by simp; omega
  have hd : val B (l.drop n) = 0 := val_zero_of (fun j hj => by
    have hj' : j < l.length - n := by simpa using hj
    have := hz (n + j) (by omega) (by omega)
    rw [List.getD_eq_getElem?_getD] at this ⊢
    rw [List.getElem?_drop]; exact this)
  have hv : val B l = val B (l.take n) := by rw [val_take_drop l n, hd]; simp
  rw [hv, dig_val hB]
  refine ⟨hl.take n, fun h0 => ?_⟩
  rw [hlen] at h0 ⊢
  rcases ht with h | h
  · omega
  · rw [List.getD_eq_getElem?_getD] at h ⊢
    rw [List.getElem?_take, if_pos (by omega)]
    exact h
theorem trim_len (hB : 2 ≤ B) {l : List Nat} (hl : Lt B l) {n : Nat} (hn : n ≤ l.length) (hz : ∀ j, n ≤ j → j < l.length → l.getD j 0 = 0)
    (ht : n = 0 ∨ l.getD (n - 1) 0 ≠ 0) : (dig B (val B l)).length = n := by
  rw [← trim_dig hB hl hn hz ht]; simp; omega
theorem take_dig (hB : 2 ≤ B) {l : List Nat} (hl : Lt B l) : (dig B (val B l)).length ≤ l.length ∧ l.take (dig B (val B l)).length = dig B (val B l) := by
  -- the greatest place behind which all is nought
  have : ∃ n, n ≤ l.length ∧ (∀ j, n ≤ j → j < l.length → l.getD j 0 = 0) ∧ (n = 0 ∨ l.getD (n - 1) 0 ≠ 0) := by
    have : ∀ k, k ≤ l.length → (∀ j, k ≤ j → j < l.length → l.getD j 0 = 0) → ∃ n, n ≤ l.length ∧ (∀ j, n ≤ j → j < l.length → l.getD j 0 = 0) ∧ (n = 0 ∨ l.getD (n - 1) 0 ≠ 0) := by
      intro k
      induction k with
      | zero => intro h1 h2; exact ⟨0, h1, h2, .inl rfl⟩
      | succ k ih =>
        intro h1 h2
        by_cases hz : l.getD k 0 = 0
        · refine ih (by omega) (fun j hj hj' => ?_)
          rcases Nat.lt_or_ge k j with h | h
          · exact h2 j h hj'
          · have : j = k := by omega
            subst this; exact hz
        · exact ⟨k + 1, h1, h2, .inr hz⟩
    exact this l.length (Nat.le_refl _) (fun j h1 h2 => absurd h2 (by omega))
  obtain ⟨n, h1, h2, h3⟩ := this
  have e := trim_dig hB hl h1 h2 h3
  have e2 := trim_len hB hl h1 h2 h3
  rw [e2]
  exact ⟨h1, e⟩

/-- order, by the highest place that differs -/
theorem val_lt_at {l r : List Nat} (hl : Lt B l) {i : Nat} (hi : i < l.length) (hi' : i < r.length) (hd : l.drop (i + 1) = r.drop (i + 1)) (h : l.getD i 0 < r.getD i 0) : val B l < val B r := by
  have el : l = l.take i ++ l.getD i 0 :: l.drop (i + 1) := by
    rw [List.getD_eq_getElem?_getD, List.getElem?_eq_getElem hi, Option.getD_some, ← List.drop_eq_getElem_cons hi, List.take_append_drop]
  have er : r = r.take i ++ r.getD i 0 :: r.drop (i + 1) := by
    rw [List.getD_eq_getElem?_getD, List.getElem?_eq_getElem hi', Option.getD_some, ← List.drop_eq_getElem_cons hi', List.take_append_drop]
  have l1 : (l.take i).length = i := by simp; omega
  have r1 : (r.take i).length = i := by simp; omega
  have vl : val B l = val B (l.take i) + B ^ i * (l.getD i 0 + B * val B (l.drop (i + 1))) := by
    have := congrArg (val B) el
    rw [val_append, val_cons, l1] at this
    exact this
  have vr : val B r = val B (r.take i) + B ^ i * (r.getD i 0 + B * val B (r.drop (i + 1))) := by
    have := congrArg (val B) er
    rw [val_append, val_cons, r1] at this
    exact this
  have hlt := val_lt (hl.take i)
  rw [l1] at hlt
  rw [vl, vr, hd]
  have h2 : B ^ i * (l.getD i 0 + 1 + B * val B (r.drop (i + 1))) ≤ B ^ i * (r.getD i 0 + B * val B (r.drop (i + 1))) := Nat.mul_le_mul_left _ (by omega)
  have h3 : B ^ i * (l.getD i 0 + 1 + B * val B (r.drop (i + 1))) = B ^ i * (l.getD i 0 + B * val B (r.drop (i + 1))) + B ^ i := by
    rw [show l.getD i 0 + 1 + B * val B (r.drop (i + 1)) = (l.getD i 0 + B * val B (r.drop (i + 1))) + 1 by omega, Nat.mul_add, Nat.mul_one]
  omega
theorem val_lt_len (hB : 2 ≤ B) {l r : List Nat} (hl : Lt B l) (hr : Can B r) (h : l.length < r.length) : val B l < val B r := by
  have h1 := val_lt hl
  have h2 := val_pos_of_last (B := B) (l := r) (by omega) (hr.2 (by omega))
  have h3 : B ^ l.length ≤ B ^ (r.length - 1) := Nat.pow_le_pow_right (by omega) (by omega)
  omega
end

def cmpN (x y : Nat) : Int := if x < y then -1 else if x = y then 0 else 1
theorem cmpN_lt {x y : Nat} (h : x < y) : cmpN x y = -1 := by simp [cmpN, h]
theorem cmpN_gt {x y : Nat} (h : y < x) : cmpN x y = 1 := by
  unfold cmpN; rw [if_neg (by omega), if_neg (by omega)]
theorem cmpN_eq {x y : Nat} (h : x = y) : cmpN x y = 0 := by
  unfold cmpN; rw [if_neg (by omega), if_pos h]
end Go.Proofs.YtkpcmgfpmekkjaaDoor

namespace Go.Proofs.YtkpcmgfpmekkjaaDoor
open Go.RowKit

/-- Numbers as values. -/
def iv (k : IntKind) (l : List Nat) : List Value := l.map (fun x : Nat => Value.int k (x : Int))
theorem iv_length (k : IntKind) (l : List Nat) : (iv k l).length = l.length := by simp [iv]
theorem iv_append (k : IntKind) (l r : List Nat) : iv k (l ++ r) = iv k l ++ iv k r := by simp [iv]
theorem iv_get (k : IntKind) (l : List Nat) (i : Nat) (h : i < l.length) : (iv k l)[i]? = some (.int k ((l.getD i 0 : Nat) : Int)) := by
  simp [iv, h, List.getD_eq_getElem?_getD]
theorem iv_set (k : IntKind) (l : List Nat) (i y : Nat) : iv k (l.set i y) = (iv k l).set i (.int k (y : Int)) := by simp [iv, List.map_set]
theorem iv_replicate (k : IntKind) (n : Nat) : iv k (List.replicate n 0) = List.replicate n (.int k 0) := by simp [iv, List.map_replicate]

/-- A slice value that reads as a list of numbers below B. -/
structure Rd (w : World) (k : IntKind) (B : Nat) (A : Option Addr) (n c : Nat) (l : List Nat) : Prop where
  len : l.length = n
  cap : n ≤ c
  max : c ≤ 9223372036854775807
  lt : Lt B l
  at_ : n ≠ 0 → ∃ b o, A = some ⟨b, o, none⟩ ∧ b < w.heap.size ∧ ∀ j, j < n → w.cell? ⟨b, o + j, none⟩ = some (.int k ((l.getD j 0 : Nat) : Int))

/-- A part of a block that reads as a list of numbers, and is not frozen. -/
structure Row (w : World) (g : Nat) (T : TypeId) (k : IntKind) (off : Nat) (pre : List Value) (l : List Nat) (post : List Value) : Prop where
  blk : w.heap[g]? = some (.cells (pre ++ iv k l ++ post).toArray T (0, 0))
  off : pre.length = off

section
variable {w w' : World} {k : IntKind} {B : Nat} {A : Option Addr} {n c : Nat} {l : List Nat}

theorem Rd.keep (h : Rd w k B A n c l) (hs : w.heap.size ≤ w'.heap.size) (hk : ∀ p : Addr, p.block < w.heap.size → w'.cell? p = w.cell? p) : Rd w' k B A n c l :=
  ⟨h.len, h.cap, h.max, h.lt, fun hn => by
    obtain ⟨b, o, e, hb, hc⟩ := h.at_ hn
    exact ⟨b, o, e, by omega, fun j hj => (hk _ hb).trans (hc j hj)⟩⟩
theorem Rd.below (h : Rd w k B A n c l) (hb : Below w.heap.size w w') : Rd w' k B A n c l := h.keep hb.size fun _ hp => hb.cell hp
theorem Rd.drew (h : Rd w k B A n c l) : Rd w.drew k B A n c l := ⟨h.len, h.cap, h.max, h.lt, h.at_⟩
theorem Rd.drewN (h : Rd w k B A n c l) (m : Nat) : Rd (w.drewN m) k B A n c l := ⟨h.len, h.cap, h.max, h.lt, h.at_⟩
theorem Rd.alloc (h : Rd w k B A n c l) (o : Obj) : Rd (w.alloc o) k B A n c l := h.below ((Below.refl _ _).alloc (Nat.le_refl _) o)
theorem Rd.grownNone (h : Rd w k B A n c l) (hg : w.grownBy w' none) : Rd w' k B A n c l :=
  h.below ((Below.refl _ _).grown hg (Nat.le_refl _) (fun _ e => by cases e))
/-- A slice that lies in another block than the one that is written. -/
theorem Rd.grown {g : Nat} (h : Rd w k B A n c l) (hg : w.grownBy w' (some g)) (hne : n ≠ 0 → ∀ a, A = some a → a.block ≠ g) : Rd w' k B A n c l :=
  ⟨h.len, h.cap, h.max, h.lt, fun hn => by
    obtain ⟨b, o, e, hb, hc⟩ := h.at_ hn
    refine ⟨b, o, e, by have := hg.size; omega, fun j hj => ?_⟩
    exact hg.cell (hc j hj) (by intro e2; injection e2 with e2; exact hne hn _ e e2)⟩
theorem Rd.take (h : Rd w k B A n c l) {m : Nat} (hm : m ≤ n) : Rd w k B A m c (l.take m) :=
  ⟨by rw [List.length_take, h.len]; omega, by have := h.cap; omega, h.max, h.lt.take m, fun hn => by
    obtain ⟨b, o, e, hb, hc⟩ := h.at_ (by omega)
    refine ⟨b, o, e, hb, fun j hj => ?_⟩
    rw [hc j (by omega)]
    simp only [List.getD_eq_getElem?_getD, List.getElem?_take, if_pos hj]⟩
theorem Rd.nil (w : World) (k : IntKind) (B : Nat) (A : Option Addr) {c : Nat} (hc : c ≤ 9223372036854775807) : Rd w k B A 0 c [] :=
  ⟨rfl, Nat.zero_le _, hc, Lt.nil, fun h => absurd rfl h⟩
theorem Rd.empty (h : Rd w k B A n c l) (hn : n = 0) : l = [] := List.eq_nil_of_length_eq_zero (by rw [h.len, hn])
variable {g : Nat} {T : TypeId} {off : Nat} {pre post : List Value}

theorem Row.gl (h : Row w g T k off pre l post) : g < w.heap.size := by
  rcases Nat.lt_or_ge g w.heap.size with hlt | hge
  · exact hlt
  · have := h.blk; rw [Array.getElem?_eq_none hge] at this; cases this
theorem Row.cell (h : Row w g T k off pre l post) {i : Nat} (hi : i < l.length) : w.cell? ⟨g, off + i, none⟩ = some (.int k ((l.getD i 0 : Nat) : Int)) := by
  rw [cell_of_row w g (off + i) _ T (0, 0) h.blk, ← h.off]
  have e : ∀ r : List Value, (pre ++ (iv k l ++ r))[pre.length + i]? = some (.int k ((l.getD i 0 : Nat) : Int)) := fun r => by
    rw [List.getElem?_append_right (by omega), Nat.add_sub_cancel_left, List.getElem?_append_left (by rw [iv_length]; exact hi), iv_get k l i hi]
  rw [List.append_assoc]
  simpa using e post
theorem Row.frozen (h : Row w g T k off pre l post) (i : Nat) : w.frozen? ⟨g, i, none⟩ = false := by
  have := h.blk
  simp [World.frozen?, this]
theorem Row.drew (h : Row w g T k off pre l post) : Row w.drew g T k off pre l post := ⟨h.blk, h.off⟩
theorem Row.set (h : Row w g T k off pre l post) {i : Nat} (hi : i < l.length) (y : Nat) : Row (w.setCell ⟨g, off + i, none⟩ (.int k (y : Int))) g T k off pre (l.set i y) post := by
  refine ⟨?_, h.off⟩
  have hb := h.blk
  have e : (pre ++ iv k (l.set i y) ++ post) = (pre ++ iv k l ++ post).set (off + i) (.int k (y : Int)) := by
    rw [← h.off, List.append_assoc, List.append_assoc, List.set_append_right _ _ (by omega), Nat.add_sub_cancel_left, List.set_append_left _ _ (by rw [iv_length]; exact hi), iv_set]
  rw [e]
  simp [World.setCell, Array.getElem?_modify, hb]
theorem Row.cell0 (h : Row w g T k 0 [] l post) {i : Nat} (hi : i < l.length) : w.cell? ⟨g, i, none⟩ = some (.int k ((l.getD i 0 : Nat) : Int)) := by
  have := h.cell hi
  rwa [Nat.zero_add] at this
theorem Row.set0 (h : Row w g T k 0 [] l post) {i : Nat} (hi : i < l.length) (y : Nat) : Row (w.setCell ⟨g, i, none⟩ (.int k (y : Int))) g T k 0 [] (l.set i y) post := by
  have := h.set hi y
  rwa [Nat.zero_add] at this
theorem Row.grown {g' : Nat} (h : Row w g T k off pre l post) (hg : w.grownBy w' (some g')) (hne : g ≠ g') : Row w' g T k off pre l post :=
  ⟨(hg.block g h.gl (by intro e; injection e with e; exact hne e)).trans h.blk, h.off⟩
theorem Row.grownNone (h : Row w g T k off pre l post) (hg : w.grownBy w' none) : Row w' g T k off pre l post :=
  ⟨(hg.block g h.gl (by intro e; cases e)).trans h.blk, h.off⟩
theorem Row.below {b0 : Nat} (h : Row w g T k off pre l post) (hb : Below b0 w w') (hg : g < b0) : Row w' g T k off pre l post :=
  ⟨(hb.block g hg).trans h.blk, h.off⟩
theorem Row.alloc (h : Row w g T k off pre l post) (o : Obj) : Row (w.alloc o) g T k off pre l post := h.grownNone (World.grownBy_alloc w o none)
theorem Row.rd (h : Row w g T k off pre l post) (hl : Lt B l) {c : Nat} (hc : l.length ≤ c) (hc' : c ≤ 9223372036854775807) : Rd w k B (some ⟨g, off, none⟩) l.length c l :=
  ⟨rfl, hc, hc', hl, fun _ => ⟨g, off, rfl, h.gl, fun _ hj => h.cell hj⟩⟩
theorem Row.rd' (h : Row w g T k off pre l post) (hl : Lt B l) {n c : Nat} (hn : l.length = n) (hc : n ≤ c) (hc' : c ≤ 9223372036854775807) : Rd w k B (some ⟨g, off, none⟩) n c l := by
  subst hn; exact h.rd hl hc hc'
/-- A part of the row, as a row of its own. -/
theorem Row.part (h : Row w g T k off pre l post) {i m : Nat} (hi : i + m ≤ l.length) :
    Row w g T k (off + i) (pre ++ iv k (l.take i)) ((l.drop i).take m) (iv k (l.drop (i + m)) ++ post) := by
  refine ⟨?_, by rw [List.length_append, iv_length, List.length_take, h.off]; omega⟩
  rw [h.blk]
  have e : l = l.take i ++ ((l.drop i).take m ++ l.drop (i + m)) := by
    rw [← List.drop_drop, List.take_append_drop, List.take_append_drop]
  conv => lhs; rw [e]
  simp only [iv_append, List.append_assoc]
/-- .. and back. -/
theorem Row.whole {i m : Nat} {l1 l2 l3 : List Nat} (h : Row w g T k (off + i) (pre ++ iv k l1) l2 (iv k l3 ++ post)) (hoff : pre.length = off) (_hi : l1.length = i) (_hm : l2.length = m) :
    Row w g T k off pre (l1 ++ l2 ++ l3) post := by
  refine ⟨?_, hoff⟩
  rw [h.blk]
  simp only [iv_append, List.append_assoc]
theorem Row.tail (h : Row w g T k off pre l post) (i : Nat) (hi : i ≤ l.length) : Row w g T k (off + i) (pre ++ iv k (l.take i)) (l.drop i) post := by
  refine ⟨?_, by rw [List.length_append, iv_length, List.length_take, h.off]; omega⟩
  have e : iv k l = iv k (l.take i) ++ iv k (l.drop i) := by rw [← iv_append, List.take_append_drop]
  rw [h.blk, e]
  simp only [List.append_assoc]
theorem Row.of_made {base : Nat} {cap : Nat} (h : w.ownsRow base T 1 (.slice (some ⟨g, 0, none⟩) cap cap) cap (madeCells (Value.cells (.int k 0)) (cap * 1)).toList) : Row w g T k 0 [] (List.replicate cap 0) [] := by
  obtain ⟨hl, h⟩ := h
  rcases h with ⟨h, _⟩ | ⟨g', cap', cur, hv, _, hb, _, _, hs, ht⟩
  · cases h
  · injection hv with h1 _ h3
    injection h1 with h1
    injection h1 with h1
    subst h1 h3
    refine ⟨?_, rfl⟩
    rw [hb]
    have e : cur.toList = (madeCells (Value.cells (.int k 0)) (cap * 1)).toList := by
      rw [← ht, List.take_of_length_le (by simp; omega)]
    have e2 : (madeCells (Value.cells (.int k 0)) (cap * 1)).toList = List.replicate cap (Value.int k 0) := by
      have := toList_madeCells_one (Value.int k 0) (cap * 1)
      rw [Nat.mul_one] at this ⊢
      exact this
    have e3 : cur = (([] : List Value) ++ iv k (List.replicate cap 0) ++ []).toArray := by
      apply Array.toList_inj.1
      rw [e, e2, iv_replicate]
      simp
    rw [← e3]
theorem Row.of_own {base : Nat} {v : Value} (h : w.ownsRow base T 1 v n (iv k l)) (hn : n ≠ 0) : ∃ g cap post, v = .slice (some ⟨g, 0, none⟩) n cap ∧ base ≤ g ∧ n ≤ cap ∧ cap ≤ maxLen ∧ Row w g T k 0 [] l post := by
  obtain ⟨hl, h⟩ := h
  rcases h with ⟨_, h⟩ | ⟨g', cap', cur, hv, hb0, hb, hc, hm, hs, ht⟩
  · exact absurd h hn
  · refine ⟨g', cap', cur.toList.drop (n * 1), hv, hb0, hc, hm, ?_, rfl⟩
    rw [hb, ← ht, List.nil_append, List.take_append_drop]
end

theorem grownBy_trans {a b c : World} {row : Option Nat} (h : a.grownBy b row) (h' : b.grownBy c row) : a.grownBy c row :=
  ⟨h'.os.trans h.os, h'.tape.trans h.tape, h'.output.trans h.output, Nat.le_trans h.size h'.size, fun k hk hne => (h'.block k (Nat.lt_of_lt_of_le hk h.size) hne).trans (h.block k hk hne)⟩
theorem grownBy_set (w : World) (g i : Nat) (u : Value) : w.grownBy (w.setCell ⟨g, i, none⟩ u) (some g) :=
  ⟨rfl, rfl, rfl, by simp [World.setCell], fun k _ hne => Below.heap_setCell w _ u k (by intro e; exact hne (by rw [e]))⟩
theorem grownBy_drew {w w' : World} {row : Option Nat} (h : w.grownBy w' row) : w.grownBy w'.drew row := ⟨h.os, h.tape, h.output, h.size, h.block⟩
theorem grownBy_below {w w' : World} (h : Below w.heap.size w w') (row : Option Nat) : w.grownBy w' row := ⟨h.os, h.tape, h.output, h.size, fun k hk _ => h.block k hk⟩
theorem below_none {w w' : World} (h : w.grownBy w' none) : Below w.heap.size w w' := (Below.refl _ _).grown h (Nat.le_refl _) (fun _ e => by cases e)
theorem below_drewN {b : Nat} {w w' : World} (h : Below b w w') (m : Nat) : Below b w (w'.drewN m) := ⟨h.os, h.tape, h.output, h.size, h.block⟩

theorem ret_eq {v u : Value} (h : v = u) : Ending.returned v = .returned u := by rw [h]
end Go.Proofs.YtkpcmgfpmekkjaaDoor
