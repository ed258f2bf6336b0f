/-
 Plain facts on rows of groups of nineteen decimal digits: a row times a factor and more. No condition; nothing of the program is named here.
-/
import Derived.Test.YtdhdebapjlcjdaaGreatDoorQMem
import Derived.Test.YtdhdebapjlcjdaaGreatDoorQKl
namespace Go.Proofs.YtdhdebapjlcjdaaGreatDoor

/-- the size of a group -/
def D19 : Nat := 10000000000000000000
theorem D19_two : 2 ≤ D19 := by unfold D19; omega
theorem times_fit {x f m : Nat} (hx : x < D19) (hf : f < W) (hm : m < W) : x * f + m < D19 * W := by
 have h1 : x * f ≤ (D19 - 1) * f := Nat.mul_le_mul_right _ (by omega)
 have h2 : (D19 - 1) * f ≤ (D19 - 1) * (W - 1) := Nat.mul_le_mul_left _ (by omega)
 have h3 : (D19 - 1) * (W - 1) + (W - 1) = D19 * (W - 1) := by
  have : D19 = (D19 - 1) + 1 := by have := D19_two; omega
  calc (D19 - 1) * (W - 1) + (W - 1) = ((D19 - 1) + 1) * (W - 1) := by rw [Nat.add_mul, Nat.one_mul]
   _ = D19 * (W - 1) := by rw [← this]
 have h4 : D19 * (W - 1) < D19 * W := Nat.mul_lt_mul_of_pos_left (by have := W_two; omega) (by have := D19_two; omega)
 omega
theorem times_high {x f m hi s : Nat} (hx : x < D19) (hf : f < W) (hm : m < W) (e : s + W * hi = x * f + m) : hi < D19 ∧ (x * f + m) / D19 < W := by
 have h := times_fit hx hf hm
 refine ⟨?_, Nat.div_lt_of_lt_mul h⟩
 rw [← e] at h
 refine Nat.lt_of_mul_lt_mul_left (a := W) ?_
 rw [Nat.mul_comm W D19]
 omega
/-- what is known ahead of group i: r is written up to there, m is to be carried -/
structure TimesAt (l r : List Nat) (f m0 i m : Nat) : Prop where
 len : r.length = l.length
 lt : Lt D19 r
 rest : r.drop i = l.drop i
 sum : val D19 (r.take i) + D19 ^ i * m = val D19 (l.take i) * f + m0
 car : m < W
theorem times_start {l : List Nat} {f m0 : Nat} (hl : Lt D19 l) (hm : m0 < W) : TimesAt l l f m0 0 m0 :=
 ⟨rfl, hl, rfl, by simp [val_nil], hm⟩
theorem take_more {l : List Nat} {i : Nat} (hi : i < l.length) : l.take (i + 1) = l.take i ++ [l.getD i 0] := by
 rw [List.take_succ_eq_append_getElem hi, List.getD_eq_getElem?_getD, List.getElem?_eq_getElem hi]
 rfl
theorem times_next {l r : List Nat} {f m0 i m : Nat} (h : TimesAt l r f m0 i m) (hl : Lt D19 l) (hf : f < W) (hi : i < l.length) :
  TimesAt l (r.set i ((l.getD i 0 * f + m) % D19)) f m0 (i + 1) ((l.getD i 0 * f + m) / D19) := by
 have hx : l.getD i 0 < D19 := hl.getD (by have := D19_two; omega) i
 have hD : 0 < D19 := by have := D19_two; omega
 obtain ⟨x, hxe⟩ : ∃ x, x = l.getD i 0 := ⟨_, rfl⟩
 have hfit := times_fit hx hf h.car
 have hs := h.sum
 have hir : i < r.length := by rw [h.len]; exact hi
 refine ⟨by rw [List.length_set]; exact h.len, h.lt.set i (Nat.mod_lt _ hD), ?_, ?_, Nat.div_lt_of_lt_mul hfit⟩
 ·rw [List.drop_set_of_lt (by omega), ← List.drop_drop, ← List.drop_drop, h.rest]
 ·have h1 : (r.set i ((l.getD i 0 * f + m) % D19)).take (i + 1) = r.take i ++ [(l.getD i 0 * f + m) % D19] := by
   rw [take_more (by rw [List.length_set]; exact hir), List.take_set_of_le (Nat.le_refl _)]
   congr 2
   rw [List.getD_eq_getElem?_getD, List.getElem?_set_self hir]
   rfl
  rw [h1, take_more hi, val_snoc, val_snoc, List.length_take, List.length_take, Nat.min_eq_left (Nat.le_of_lt hi), Nat.min_eq_left (Nat.le_of_lt hir), ← hxe]
  have h2 := Nat.div_add_mod (x * f + m) D19
  generalize (x * f + m) / D19 = q at *
  generalize (x * f + m) % D19 = z at *
  generalize val D19 (r.take i) = a at *
  generalize val D19 (l.take i) = b at *
  rw [Nat.pow_succ, Nat.add_mul]
  have h3 : D19 ^ i * D19 * q = D19 ^ i * (D19 * q) := Nat.mul_assoc _ _ _
  have h4 : D19 ^ i * z + D19 ^ i * (D19 * q) = D19 ^ i * (x * f) + D19 ^ i * m := by rw [← Nat.mul_add, ← Nat.mul_add, Nat.add_comm z, h2]
  have h5 : D19 ^ i * (x * f) = D19 ^ i * x * f := (Nat.mul_assoc _ _ _).symm
  omega
theorem times_done {l r : List Nat} {f m0 m : Nat} (h : TimesAt l r f m0 l.length m) : val D19 r + D19 ^ r.length * m = val D19 l * f + m0 := by
 have := h.sum
 rw [List.take_length, ← h.len, List.take_length] at this
 exact this
/-- one group more behind the row -/
theorem times_more {r : List Nat} {m : Nat} (hl : Lt D19 r) : Lt D19 (r ++ [m % D19]) ∧ val D19 (r ++ [m % D19]) + D19 ^ (r ++ [m % D19]).length * (m / D19) = val D19 r + D19 ^ r.length * m := by
 refine ⟨hl.append (Lt.cons (Nat.mod_lt _ (by have := D19_two; omega)) Lt.nil), ?_⟩
 rw [val_snoc, List.length_append, List.length_singleton, Nat.pow_succ, Nat.mul_assoc, Nat.add_assoc, ← Nat.mul_add, Nat.add_comm (m % D19), Nat.div_add_mod]
end Go.Proofs.YtdhdebapjlcjdaaGreatDoor
namespace Go.Proofs.YtdhdebapjlcjdaaGreatDoor

/-- the decimal digits of V, the first one first, none of nought -/
def decD (V : Nat) : List Nat := (dig 10 V).reverse
/-- the last k digits of V, with noughts in front -/
def padD : Nat → Nat → List Nat
 | 0, _ => []
 | k + 1, V => padD k (V / 10) ++ [V % 10]
theorem decD_zero : decD 0 = [] := by unfold decD; rw [dig_zero]; rfl
theorem decD_pos {V : Nat} (h : V ≠ 0) : decD V = decD (V / 10) ++ [V % 10] := by
 unfold decD
 rw [dig_pos (by omega) h, List.reverse_cons]
theorem decD_len {V k : Nat} : (decD V).length ≤ k ↔ V < 10 ^ k := by
 unfold decD
 rw [List.length_reverse]
 exact len_dig (by omega) V k
/-- digits in front of others -/
theorem decD_join : ∀ (k a b : Nat), a < 10 ^ k → b ≠ 0 → decD (a + 10 ^ k * b) = decD b ++ padD k a
 | 0, a, b, ha, hb => by
  have : a = 0 := by rw [Nat.pow_zero] at ha; omega
  subst this
  show decD (0 + 10 ^ 0 * b) = decD b ++ []
  rw [Nat.pow_zero, Nat.zero_add, Nat.one_mul, List.append_nil]
 | k + 1, a, b, ha, hb => by
  have e1 : 10 ^ (k + 1) * b = 10 * (10 ^ k * b) := by rw [Nat.pow_succ]; ac_rfl
  have hp : 0 < 10 ^ k := Nat.pow_pos (by omega)
  have h1 : 0 < 10 ^ k * b := Nat.mul_pos hp (by omega)
  have e2 : (a + 10 ^ (k + 1) * b) / 10 = a / 10 + 10 ^ k * b := by rw [e1]; omega
  have e3 : (a + 10 ^ (k + 1) * b) % 10 = a % 10 := by rw [e1]; omega
  rw [decD_pos (by rw [e1]; omega), e2, e3, decD_join k (a / 10) b (by rw [Nat.pow_succ] at ha; omega) hb, List.append_assoc]
  rfl
theorem padD_zero : ∀ k : Nat, padD k 0 = List.replicate k 0
 | 0 => rfl
 | k + 1 => by
  show padD k (0 / 10) ++ [0 % 10] = _
  rw [Nat.zero_div, padD_zero k, List.replicate_succ']
/-- so many noughts, then the digits -/
theorem padD_fill : ∀ (k V : Nat), V < 10 ^ k → padD k V = List.replicate (k - (decD V).length) 0 ++ decD V
 | 0, V, h => by
  have : V = 0 := by rw [Nat.pow_zero] at h; omega
  subst this
  rw [decD_zero]
  rfl
 | k + 1, V, h => by
  by_cases h0 : V = 0
  ·subst h0
   rw [decD_zero, List.append_nil, padD_zero]
   rfl
  ·have h1 : V / 10 < 10 ^ k := by rw [Nat.pow_succ] at h; omega
   show padD k (V / 10) ++ [V % 10] = _
   rw [padD_fill k (V / 10) h1, decD_pos h0, List.append_assoc, List.length_append]
   congr 2
   show k - _ = k + 1 - (_ + 1)
   omega
theorem dropLast_decD {V : Nat} : (decD V).dropLast = decD (V / 10) := by
 by_cases h : V = 0
 ·subst h
  rw [Nat.zero_div, decD_zero]
  rfl
 ·rw [decD_pos h, List.dropLast_concat]
/-- without the last n digits -/
theorem take_decD : ∀ (n V : Nat), (decD V).take ((decD V).length - n) = decD (V / 10 ^ n)
 | 0, V => by rw [Nat.sub_zero, List.take_length, Nat.pow_zero, Nat.div_one]
 | n + 1, V => by
  have h := take_decD n (V / 10)
  rw [← dropLast_decD, Nat.div_div_eq_div_mul, ← Nat.pow_succ'] at h
  rw [← h, List.dropLast_eq_take, List.take_take, List.length_take]
  congr 1
  omega
theorem decD_lt (V : Nat) : ∀ x ∈ decD V, x < 10 := fun x hx => lt_dig (by omega) V x (by unfold decD at hx; exact List.mem_reverse.1 hx)
/-- all digits behind a place are noughts just if nothing is lost there -/
theorem drop_zeros : ∀ (n V : Nat), (∀ x ∈ (decD V).drop ((decD V).length - n), x = 0) ↔ V % 10 ^ n = 0
 | 0, V => by
  rw [Nat.sub_zero, List.drop_length, Nat.pow_zero, Nat.mod_one]
  exact ⟨fun _ => rfl, fun _ x hx => by simp at hx⟩
 | n + 1, V => by
  by_cases h : V = 0
  ·subst h
   rw [decD_zero, Nat.zero_mod]
   exact ⟨fun _ => rfl, fun _ x hx => by simp at hx⟩
  ·have ih := drop_zeros n (V / 10)
   have hl : (decD V).length - (n + 1) = (decD (V / 10)).length - n := by rw [decD_pos h, List.length_append]; show (_ + 1) - (n + 1) = _; omega
   have e1 : V % 10 ^ (n + 1) = 10 * (V / 10 % 10 ^ n) + V % 10 := by
    have h1 := Nat.div_add_mod V 10
    have h2 := Nat.div_add_mod (V / 10) (10 ^ n)
    have h3 := Nat.mod_lt (V / 10) (Nat.pow_pos (n := n) (show 0 < 10 by omega))
    have h4 := Nat.mod_lt V (show 0 < 10 by omega)
    have e2 : V = 10 ^ (n + 1) * (V / 10 / 10 ^ n) + (10 * (V / 10 % 10 ^ n) + V % 10) := by
     have e3 : 10 ^ (n + 1) * (V / 10 / 10 ^ n) = 10 * (10 ^ n * (V / 10 / 10 ^ n)) := by rw [Nat.pow_succ]; ac_rfl
     rw [e3]
     omega
    have h5 : 10 * (V / 10 % 10 ^ n) + V % 10 < 10 ^ (n + 1) := by rw [Nat.pow_succ]; omega
    rw [← Nat.mod_eq_of_lt h5]
    conv => lhs; rw [e2]
    rw [Nat.mul_add_mod]
   rw [hl, decD_pos h, List.drop_append_of_le_length (by omega)]
   constructor
   ·intro hx
    have h1 := ih.1 fun x hm => hx x (List.mem_append.2 (.inl hm))
    have h2 := hx (V % 10) (List.mem_append.2 (.inr (List.mem_singleton.2 rfl)))
    omega
   ·intro h0 x hm
    rcases List.mem_append.1 hm with hm | hm
    ·exact ih.2 (by omega) x hm
    ·rw [List.mem_singleton.1 hm]
     omega
/-- the groups of a row, from its end on -/
theorem decD_group {g b : Nat} (hg : g < D19) (hb : b ≠ 0) : decD (g + D19 * b) = decD b ++ padD 19 g := by
 have e : D19 = 10 ^ 19 := by decide
 rw [e] at hg ⊢
 exact decD_join 19 g b hg hb
end Go.Proofs.YtdhdebapjlcjdaaGreatDoor
