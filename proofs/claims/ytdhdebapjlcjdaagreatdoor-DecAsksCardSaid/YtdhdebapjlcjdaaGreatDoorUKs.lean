/-
 Plain facts on rows of groups of nineteen decimal digits: a row times a factor and more. No condition; nothing of the program is named here.
-/
import Derived.Test.YtdhdebapjlcjdaaGreatDoorUMem
import Derived.Test.YtdhdebapjlcjdaaGreatDoorUKc
namespace Go.Proofs.YtdhdebapjlcjdaaGreatDoor

/-- the size of a group -/
def D19 : Nat := 10000000000000000000
theorem D19_two : 2 ≤ D19 := by unfold D19; omega
theorem times_fit {x f m : Nat} (hx : x < D19) (hf : f < W) (hm : m < W) : x * f + m < D19 * W := by
 have h1 : x * f ≤ (D19 - 1) * f := Nat.mul_le_mul_right _ (by omega)
 have h2 : (D19 - 1) * f ≤ (D19 - 1) * (W - 1) := Nat.mul_le_mul_left _ (by omega)
 have h3 : (D19 - 1) * (W - 1) + (W - 1) = D19 * (W - 1) := by
  have : D19 = (D19 - 1) + 1 := by have := D19_two; omega
  calc (D19 - 1) * (W - 1) + (W - 1) = ((D19 - 1) + 1) * (W - 1) := by rw [Nat.add_mul, Nat.one_mul]
   _ = D19 * (W - 1) := by rw [← this]
 have h4 : D19 * (W - 1) < D19 * W := Nat.mul_lt_mul_of_pos_left (by have := W_two; omega) (by have := D19_two; omega)
 omega
theorem times_high {x f m hi s : Nat} (hx : x < D19) (hf : f < W) (hm : m < W) (e : s + W * hi = x * f + m) : hi < D19 ∧ (x * f + m) / D19 < W := by
 have h := times_fit hx hf hm
 refine ⟨?_, Nat.div_lt_of_lt_mul h⟩
 rw [← e] at h
 refine Nat.lt_of_mul_lt_mul_left (a := W) ?_
 rw [Nat.mul_comm W D19]
 omega
/-- what is known ahead of group i: r is written up to there, m is to be carried -/
structure TimesAt (l r : List Nat) (f m0 i m : Nat) : Prop where
 len : r.length = l.length
 lt : Lt D19 r
 rest : r.drop i = l.drop i
 sum : val D19 (r.take i) + D19 ^ i * m = val D19 (l.take i) * f + m0
 car : m < W
theorem times_start {l : List Nat} {f m0 : Nat} (hl : Lt D19 l) (hm : m0 < W) : TimesAt l l f m0 0 m0 :=
 ⟨rfl, hl, rfl, by simp [val_nil], hm⟩
theorem take_more {l : List Nat} {i : Nat} (hi : i < l.length) : l.take (i + 1) = l.take i ++ [l.getD i 0] := by
 rw [List.take_succ_eq_append_getElem hi, List.getD_eq_getElem?_getD, List.getElem?_eq_getElem hi]
 rfl
theorem times_next {l r : List Nat} {f m0 i m : Nat} (h : TimesAt l r f m0 i m) (hl : Lt D19 l) (hf : f < W) (hi : i < l.length) :
  TimesAt l (r.set i ((l.getD i 0 * f + m) % D19)) f m0 (i + 1) ((l.getD i 0 * f + m) / D19) := by
 have hx : l.getD i 0 < D19 := hl.getD (by have := D19_two; omega) i
 have hD : 0 < D19 := by have := D19_two; omega
 obtain ⟨x, hxe⟩ : ∃ x, x = l.getD i 0 := ⟨_, rfl⟩
 have hfit := times_fit hx hf h.car
 have hs := h.sum
 have hir : i < r.length := by rw [h.len]; exact hi
 refine ⟨by rw [List.length_set]; exact h.len, h.lt.set i (Nat.mod_lt _ hD), ?_, ?_, Nat.div_lt_of_lt_mul hfit⟩
 ·rw [List.drop_set_of_lt (by omega), ← List.drop_drop, ← List.drop_drop, h.rest]
 ·have h1 : (r.set i ((l.getD i 0 * f + m) % D19)).take (i + 1) = r.take i ++ [(l.getD i 0 * f + m) % D19] := by
   rw [take_more (by rw [List.length_set]; exact hir), List.take_set_of_le (Nat.le_refl _)]
   congr 2
   rw [List.getD_eq_getElem?_getD, List.getElem?_set_self hir]
   rfl
  rw [h1, take_more hi, val_snoc, val_snoc, List.length_take, List.length_take, Nat.min_eq_left (Nat.le_of_lt hi), Nat.min_eq_left (Nat.le_of_lt hir), ← hxe]
  have h2 := Nat.div_add_mod (x * f + m) D19
  generalize (x * f + m) / D19 = q at *
  generalize (x * f + m) % D19 = z at *
  generalize val D19 (r.take i) = a at *
  generalize val D19 (l.take i) = b at *
  rw [Nat.pow_succ, Nat.add_mul]
  have h3 : D19 ^ i * D19 * q = D19 ^ i * (D19 * q) := Nat.mul_assoc _ _ _
  have h4 : D19 ^ i * z + D19 ^ i * (D19 * q) = D19 ^ i * (x * f) + D19 ^ i * m := by rw [← Nat.mul_add, ← Nat.mul_add, Nat.add_comm z, h2]
  have h5 : D19 ^ i * (x * f) = D19 ^ i * x * f := (Nat.mul_assoc _ _ _).symm
  omega
theorem times_done {l r : List Nat} {f m0 m : Nat} (h : TimesAt l r f m0 l.length m) : val D19 r + D19 ^ r.length * m = val D19 l * f + m0 := by
 have := h.sum
 rw [List.take_length, ← h.len, List.take_length] at this
 exact this
/-- one group more behind the row -/
theorem times_more {r : List Nat} {m : Nat} (hl : Lt D19 r) : Lt D19 (r ++ [m % D19]) ∧ val D19 (r ++ [m % D19]) + D19 ^ (r ++ [m % D19]).length * (m / D19) = val D19 r + D19 ^ r.length * m := by
 refine ⟨hl.append (Lt.cons (Nat.mod_lt _ (by have := D19_two; omega)) Lt.nil), ?_⟩
 rw [val_snoc, List.length_append, List.length_singleton, Nat.pow_succ, Nat.mul_assoc, Nat.add_assoc, ← Nat.mul_add, Nat.add_comm (m % D19), Nat.div_add_mod]
end Go.Proofs.YtdhdebapjlcjdaaGreatDoor
namespace Go.Proofs.YtdhdebapjlcjdaaGreatDoor

/-- the decimal digits of V, the first one first, none of nought -/
def decD (V : Nat) : List Nat := (dig 10 V).reverse
/-- the last k digits of V, with noughts in front -/
def padD : Nat → Nat → List Nat
 | 0, _ => []
 | k + 1, V => padD k (V / 10) ++ [V % 10]
theorem decD_zero : decD 0 = [] := by unfold decD; rw [dig_zero]; rfl
theorem decD_pos {V : Nat} (h : V ≠ 0) : decD V = decD (V / 10) ++ [V % 10] := by
 unfold decD
 rw [dig_pos (by omega) h, List.reverse_cons]
theorem decD_len {V k : Nat} : (decD V).length ≤ k ↔ V < 10 ^ k := by
 unfold decD
 rw [List.length_reverse]
 exact len_dig (by omega) V k
/-- digits in front of others -/
theorem decD_join : ∀ (k a b : Nat), a < 10 ^ k → b ≠ 0 → decD (a + 10 ^ k * b) = decD b ++ padD k a
 | 0, a, b, ha, hb => by
  have : a = 0 := by rw [Nat.pow_zero] at ha; omega
  subst this
  show decD (0 + 10 ^ 0 * b) = decD b ++ []
  rw [Nat.pow_zero, Nat.zero_add, Nat.one_mul, List.append_nil]
 | k + 1, a, b, ha, hb => by
  have e1 : 10 ^ (k + 1) * b = 10 * (10 ^ k * b) := by rw [Nat.pow_succ]; ac_rfl
  have hp : 0 < 10 ^ k := Nat.pow_pos (by omega)
  have h1 : 0 < 10 ^ k * b := Nat.mul_pos hp (by omega)
  have e2 : (a + 10 ^ (k + 1) * b) / 10 = a / 10 + 10 ^ k * b := by rw [e1]; omega
  have e3 : (a + 10 ^ (k + 1) * b) % 10 = a % 10 := by rw [e1]; omega
  rw [decD_pos (by rw [e1]; omega), e2, e3, decD_join k (a / 10) b (by rw [Nat.pow_succ] at ha; omega) hb, List.append_assoc]
  rfl
theorem padD_zero : ∀ k : Nat, padD k 0 = List.replicate k 0
 | 0 => rfl
 | k + 1 => by
  show padD k (0 / 10) ++ [0 % 10] = _
  rw [Nat.zero_div, padD_zero k, List.replicate_succ']
/-- so many noughts, then the digits -/
theorem padD_fill : ∀ (k V : Nat), V < 10 ^ k → padD k V = List.replicate (k - (decD V).length) 0 ++ decD V
 | 0, V, h => by
  have : V = 0 := by rw [Nat.pow_zero] at h; omega
  subst this
  rw [decD_zero]
  rfl
 | k + 1, V, h => by
  by_cases h0 : V = 0
  ·subst h0
   rw [decD_zero, List.append_nil, padD_zero]
   rfl
  ·have h1 : V / 10 < 10 ^ k := by rw [Nat.pow_succ] at h; omega
   show padD k (V / 10) ++ [V % 10] = _
   rw [padD_fill k (V / 10) h1, decD_pos h0, List.append_assoc, List.length_append]
   congr 2
   show k - _ = k + 1 - (_ + 1)
   omega
theorem dropLast_decD {V : Nat} : (decD V).dropLast = decD (V / 10) := by
 by_cases h : V = 0
 ·subst h
  rw [Nat.zero_div, decD_zero]
  rfl
 ·rw [decD_pos h, List.dropLast_concat]
/-- without the last n digits -/
theorem take_decD : ∀ (n V : Nat), (decD V).take ((decD V).length - n) = decD (V / 10 ^ n)
 | 0, V => by rw [Nat.sub_zero, List.take_length, Nat.pow_zero, Nat.div_one]
 | n + 1, V => by
  have h := take_decD n (V / 10)
  rw [← dropLast_decD, Nat.div_div_eq_div_mul, ← Nat.pow_succ'] at h
  rw [← h, List.dropLast_eq_take, List.take_take, List.length_take]
  congr 1
  omega
theorem decD_lt (V : Nat) : ∀ x ∈ decD V, x < 10 := fun x hx => lt_dig (by omega) V x (by unfold decD at hx; exact List.mem_reverse.1 hx)
/-- all digits behind a place are noughts just if nothing is lost there -/
theorem drop_zeros : ∀ (n V : Nat), (∀ x ∈ (decD V).drop ((decD V).length - n), x = 0) ↔ V % 10 ^ n = 0
 | 0, V => by
  rw [Nat.sub_zero, List.drop_length, Nat.pow_zero, Nat.mod_one]
  exact ⟨fun _ => rfl, fun _ x hx => by simp at hx⟩
 | n + 1, V => by
  by_cases h : V = 0
  ·subst h
   rw [decD_zero, Nat.zero_mod]
   exact ⟨fun _ => rfl, fun _ x hx => by simp at hx⟩
  ·have ih := drop_zeros n (V / 10)
   have hl : (decD V).length - (n + 1) = (decD (V / 10)).length - n := by rw [decD_pos h, List.length_append]; show (_ + 1) - (n + 1) = _; omega
   have e1 : V % 10 ^ (n + 1) = 10 * (V / 10 % 10 ^ n) + V % 10 := by
    have h1 := Nat.div_add_mod V 10
    have h2 := Nat.div_add_mod (V / 10) (10 ^ n)
    have h3 := Nat.mod_lt (V / 10) (Nat.pow_pos (n := n) (show 0 < 10 by omega))
    have h4 := Nat.mod_lt V (show 0 < 10 by omega)
    have e2 : V = 10 ^ (n + 1) * (V / 10 / 10 ^ n) + (10 * (V / 10 % 10 ^ n) + V % 10) := by
     have e3 : 10 ^ (n + 1) * (V / 10 / 10 ^ n) = 10 * (10 ^ n * (V / 10 / 10 ^ n)) := by rw [Nat.pow_succ]; ac_rfl
     rw [e3]
     omega
    have h5 : 10 * (V / 10 % 10 ^ n) + V % 10 < 10 ^ (n + 1) := by rw [Nat.pow_succ]; omega
    rw [← Nat.mod_eq_of_lt h5]
    conv => lhs; rw [e2]
    rw [Nat.mul_add_mod]
   rw [hl, decD_pos h, List.drop_append_of_le_length (by omega)]
   constructor
   ·intro hx
    have h1 := ih.1 fun x hm => hx x (List.mem_append.2 (.inl hm))
    have h2 := hx (V % 10) (List.mem_append.2 (.inr (List.mem_singleton.2 rfl)))
    omega
   ·intro h0 x hm
    rcases List.mem_append.1 hm with hm | hm
    ·exact ih.2 (by omega) x hm
    ·rw [List.mem_singleton.1 hm]
     omega
/-- the groups of a row, from its end on -/
theorem decD_group {g b : Nat} (hg : g < D19) (hb : b ≠ 0) : decD (g + D19 * b) = decD b ++ padD 19 g := by
 have e : D19 = 10 ^ 19 := by decide
 rw [e] at hg ⊢
 exact decD_join 19 g b hg hb
end Go.Proofs.YtdhdebapjlcjdaaGreatDoor
namespace Go.Proofs.YtdhdebapjlcjdaaGreatDoor

/-- m 2^e times 10^n, rounded: down or up of a number with this sign -/
def textQ (s : Bool) (m : Nat) (e : Int) (n : Nat) (up : Bool) : Nat :=
 if 0 ≤ e then m * 2 ^ e.toNat * 10 ^ n
 else m * 10 ^ n / 2 ^ (-e).toNat + (if (up != s) = true ∧ m * 10 ^ n % 2 ^ (-e).toNat ≠ 0 then 1 else 0)
/-- the digits of Q, n + 1 at least -/
def padT (n Q : Nat) : List Nat := List.replicate (n + 1 - (decD Q).length) 0 ++ decD Q
/-- digits as bytes -/
def asc (l : List Nat) : List Nat := l.map (48 + ·)
/-- with a point ahead of the last n -/
def pointT (n : Nat) (l : List Nat) : List Nat := if n = 0 then l else l.take (l.length - n) ++ 46 :: l.drop (l.length - n)
def textT (s : Bool) (m : Nat) (e : Int) (n : Nat) (up : Bool) : List Nat :=
 (if s = true ∧ textQ s m e n up ≠ 0 then [45] else []) ++ pointT n (asc (padT n (textQ s m e n up)))
/-- bytes as a text -/
def txt (l : List Nat) : ByteArray := ⟨(l.map UInt8.ofNat).toArray⟩
/-- the digits of V without the last k, rounded; with noughts behind them, if k is below 0 -/
def shD (V : Nat) (k : Int) (away : Bool) : List Nat :=
 if k < 0 then decD V ++ List.replicate (-k).toNat 0
 else decD (V / 10 ^ k.toNat + (if away = true ∧ V % 10 ^ k.toNat ≠ 0 then 1 else 0))
theorem asc_append (l r : List Nat) : asc (l ++ r) = asc l ++ asc r := by unfold asc; rw [List.map_append]
theorem asc_len (l : List Nat) : (asc l).length = l.length := by unfold asc; rw [List.length_map]
theorem asc_zeros (k : Nat) : asc (List.replicate k 0) = List.replicate k 48 := by unfold asc; rw [List.map_replicate]
theorem asc_take (l : List Nat) (k : Nat) : asc (l.take k) = (asc l).take k := by unfold asc; rw [List.map_take]
theorem asc_drop (l : List Nat) (k : Nat) : asc (l.drop k) = (asc l).drop k := by unfold asc; rw [List.map_drop]
theorem txt_append (l r : List Nat) : txt l ++ txt r = txt (l ++ r) := by
 apply ByteArray.ext
 apply Array.toList_inj.1
 simp [txt, ByteArray.data_append]
theorem txt_size (l : List Nat) : (txt l).size = l.length := by
 show (l.map UInt8.ofNat).toArray.size = _
 simp
theorem txt_list (l : List Nat) : (txt l).data.toList = l.map UInt8.ofNat := rfl
theorem decD_times {V : Nat} (h : V ≠ 0) (j : Nat) : decD (V * 10 ^ j) = decD V ++ List.replicate j 0 := by
 have := decD_join j 0 V (Nat.pow_pos (by omega)) h
 rw [Nat.zero_add, Nat.mul_comm, padD_zero] at this
 exact this
theorem padT_zero (n : Nat) : padT n 0 = List.replicate (n + 1) 0 := by
 unfold padT
 rw [decD_zero, List.append_nil]
 rfl
theorem pad_times (V j n : Nat) (hj : j ≤ n) : List.replicate (n + 1 - (decD V ++ List.replicate j 0).length) 0 ++ (decD V ++ List.replicate j 0) = padT n (V * 10 ^ j) := by
 by_cases h : V = 0
 ·subst h
  rw [Nat.zero_mul, padT_zero, decD_zero, List.nil_append, List.length_replicate, List.replicate_append_replicate]
  congr 1
  omega
 ·unfold padT
  rw [decD_times h]
theorem zeros_times (V j : Nat) : (∀ x ∈ decD V ++ List.replicate j 0, x = 0) ↔ V * 10 ^ j = 0 := by
 have hp : 0 < 10 ^ j := Nat.pow_pos (by omega)
 have h0 := drop_zeros (decD V).length V
 rw [Nat.sub_self, List.drop_zero] at h0
 have hlt : V < 10 ^ (decD V).length := (decD_len (V := V)).1 (Nat.le_refl _)
 rw [Nat.mod_eq_of_lt hlt] at h0
 constructor
 ·intro h
  rw [h0.1 fun x hx => h x (List.mem_append.2 (.inl hx)), Nat.zero_mul]
 ·intro h x hx
  have hV : V = 0 := by
   rcases Nat.mul_eq_zero.1 h with h | h
   ·exact h
   ·omega
  rcases List.mem_append.1 hx with hx | hx
  ·exact h0.2 hV x hx
  ·exact (List.mem_replicate.1 hx).2
theorem zeros_dec (V : Nat) : (∀ x ∈ decD V, x = 0) ↔ V = 0 := by
 have := zeros_times V 0
 rw [List.replicate_zero, List.append_nil, Nat.pow_zero, Nat.mul_one] at this
 exact this
theorem ten_parts (b : Nat) : 10 ^ b = 2 ^ b * 5 ^ b := by rw [← Nat.mul_pow]
theorem text_above {m b n : Nat} (h : b ≤ n) : m * 10 ^ n / 2 ^ b = m * 5 ^ b * 10 ^ (n - b) ∧ m * 10 ^ n % 2 ^ b = 0 := by
 have e : m * 10 ^ n = 2 ^ b * (m * 5 ^ b * 10 ^ (n - b)) := by
  conv => lhs; rw [show n = b + (n - b) by omega, Nat.pow_add, ten_parts b]
  ac_rfl
 have hp : 0 < 2 ^ b := Nat.pow_pos (by omega)
 rw [e, Nat.mul_div_cancel_left _ hp, Nat.mul_mod_right]
 exact ⟨rfl, rfl⟩
theorem text_below {m b n : Nat} (h : n ≤ b) : m * 5 ^ b / 10 ^ (b - n) = m * 10 ^ n / 2 ^ b ∧ (m * 5 ^ b % 10 ^ (b - n) ≠ 0 ↔ m * 10 ^ n % 2 ^ b ≠ 0) := by
 obtain ⟨k, rfl⟩ : ∃ k, b = n + k := ⟨b - n, by omega⟩
 have e1 : m * 5 ^ (n + k) = m * 5 ^ n * 5 ^ k := by rw [Nat.pow_add]; ac_rfl
 have e2 : m * 10 ^ n = m * 5 ^ n * 2 ^ n := by rw [ten_parts]; ac_rfl
 have e3 : 2 ^ (n + k) = 2 ^ k * 2 ^ n := by rw [Nat.pow_add]; ac_rfl
 have p5 : 0 < 5 ^ k := Nat.pow_pos (by omega)
 have p2 : 0 < 2 ^ n := Nat.pow_pos (by omega)
 rw [Nat.add_sub_cancel_left, e1, e2, e3, ten_parts k, Nat.mul_div_mul_right _ _ p5, Nat.mul_div_mul_right _ _ p2, Nat.mul_mod_mul_right, Nat.mul_mod_mul_right]
 refine ⟨rfl, ?_⟩
 generalize m * 5 ^ n % 2 ^ k = r
 constructor
 ·intro h1 h2
  rcases Nat.mul_eq_zero.1 h2 with h2 | h2
  ·exact h1 (by rw [h2, Nat.zero_mul])
  ·omega
 ·intro h1 h2
  rcases Nat.mul_eq_zero.1 h2 with h2 | h2
  ·exact h1 (by rw [h2, Nat.zero_mul])
  ·omega
/-- all digits of m 2^e, and how many of them stand behind the point -/
def allV (m : Nat) (e : Int) : Nat := if 0 ≤ e then m * 2 ^ e.toNat else m * 5 ^ (-e).toNat
def allB (e : Int) : Int := if 0 ≤ e then 0 else -e
theorem sh_text (s : Bool) (m : Nat) (e : Int) (n : Nat) (up : Bool) : List.replicate (n + 1 - (shD (allV m e) (allB e - n) (up != s)).length) 0 ++ shD (allV m e) (allB e - n) (up != s) = padT n (textQ s m e n up) ∧ ((∀ x ∈ shD (allV m e) (allB e - n) (up != s), x = 0) ↔ textQ s m e n up = 0) := by
 unfold allV allB textQ
 by_cases he : 0 ≤ e
 ·rw [if_pos he, if_pos he, if_pos he]
  unfold shD
  by_cases hn : n = 0
  ·subst hn
   rw [if_neg (by omega), show ((0 : Int) - ((0 : Nat) : Int)).toNat = 0 from rfl, Nat.pow_zero, Nat.div_one, Nat.mod_one, Nat.mul_one, if_neg (fun h => h.2 rfl), Nat.add_zero]
   exact ⟨rfl, zeros_dec _⟩
  ·rw [if_pos (by omega), show (-((0 : Int) - (n : Int))).toNat = n by omega]
   exact ⟨pad_times _ _ _ (Nat.le_refl _), zeros_times _ _⟩
 ·obtain ⟨b, rfl⟩ : ∃ b : Nat, e = -(b : Int) := ⟨(-e).toNat, by omega⟩
  rw [if_neg he, if_neg he, if_neg he, show (- -(b : Int)).toNat = b by omega]
  unfold shD
  by_cases hn : b < n
  ·obtain ⟨h1, h2⟩ := text_above (m := m) (Nat.le_of_lt hn)
   rw [if_pos (by omega), show (-(- -(b : Int) - (n : Int))).toNat = n - b by omega, h1, h2, if_neg (fun h => h.2 rfl), Nat.add_zero]
   exact ⟨pad_times _ _ _ (by omega), zeros_times _ _⟩
  ·obtain ⟨h1, h2⟩ := text_below (m := m) (show n ≤ b by omega)
   rw [if_neg (by omega), show (- -(b : Int) - (n : Int)).toNat = b - n by omega, h1]
   have e2 : (if (up != s) = true ∧ m * 5 ^ b % 10 ^ (b - n) ≠ 0 then 1 else 0) = (if (up != s) = true ∧ m * 10 ^ n % 2 ^ b ≠ 0 then 1 else 0) := by
    by_cases h3 : m * 10 ^ n % 2 ^ b ≠ 0
    ·by_cases h4 : (up != s) = true
     ·rw [if_pos ⟨h4, h2.2 h3⟩, if_pos ⟨h4, h3⟩]
     ·rw [if_neg (fun h => h4 h.1), if_neg (fun h => h4 h.1)]
    ·rw [if_neg (fun h => h3 (h2.1 h.2)), if_neg (fun h => h3 h.2)]
   rw [e2]
   exact ⟨rfl, zeros_dec _⟩
/-- one more than X, where X ends in k nines and has a digit that is none ahead of them -/
theorem next_stop : ∀ (k X : Nat), k < (decD X).length → (∀ x ∈ (decD X).drop ((decD X).length - k), x = 9) → (decD X).getD ((decD X).length - 1 - k) 0 ≠ 9 →
  decD (X + 1) = (decD X).take ((decD X).length - 1 - k) ++ ((decD X).getD ((decD X).length - 1 - k) 0 + 1) :: List.replicate k 0
 | 0, X, hk, _, h9 => by
  have hX : X ≠ 0 := fun h => by rw [h, decD_zero] at hk; exact absurd hk (by simp)
  have e := decD_pos hX
  have hl : (decD X).length = (decD (X / 10)).length + 1 := by rw [e, List.length_append]; rfl
  rw [hl, show (decD (X / 10)).length + 1 - 1 - 0 = (decD (X / 10)).length by omega] at h9 ⊢
  rw [e, List.getD_eq_getElem?_getD, List.getElem?_append_right (Nat.le_refl _), Nat.sub_self] at h9 ⊢
  rw [List.take_append_of_le_length (Nat.le_refl _), List.take_length]
  have h9' : X % 10 ≠ 9 := h9
  rw [decD_pos (show X + 1 ≠ 0 by omega), show (X + 1) / 10 = X / 10 by omega, show (X + 1) % 10 = X % 10 + 1 by omega]
  rfl
 | k + 1, X, hk, hn, h9 => by
  have hX : X ≠ 0 := fun h => by rw [h, decD_zero] at hk; exact absurd hk (by simp)
  have e := decD_pos hX
  have hl : (decD X).length = (decD (X / 10)).length + 1 := by rw [e, List.length_append]; rfl
  rw [hl] at hk
  have i1 : (decD (X / 10)).length + 1 - (k + 1) = (decD (X / 10)).length - k := by omega
  have i2 : (decD (X / 10)).length + 1 - 1 - (k + 1) = (decD (X / 10)).length - 1 - k := by omega
  rw [hl, i1, e, List.drop_append_of_le_length (by omega)] at hn
  rw [hl, i2] at h9 ⊢
  have eg : (decD X).getD ((decD (X / 10)).length - 1 - k) 0 = (decD (X / 10)).getD ((decD (X / 10)).length - 1 - k) 0 := by
   rw [e, List.getD_eq_getElem?_getD, List.getElem?_append_left (by omega), ← List.getD_eq_getElem?_getD]
  have et : (decD X).take ((decD (X / 10)).length - 1 - k) = (decD (X / 10)).take ((decD (X / 10)).length - 1 - k) := by
   rw [e, List.take_append_of_le_length (by omega)]
  rw [eg] at h9 ⊢
  rw [et]
  have hm : X % 10 = 9 := hn _ (List.mem_append.2 (.inr (List.mem_singleton.2 rfl)))
  have ih := next_stop k (X / 10) (by omega) (fun x hx => hn x (List.mem_append.2 (.inl hx))) h9
  rw [decD_pos (show X + 1 ≠ 0 by omega), show (X + 1) / 10 = X / 10 + 1 by omega, show (X + 1) % 10 = 0 by omega, ih, List.append_assoc]
  congr 1
  rw [List.cons_append, ← List.replicate_succ']
theorem next_all (X : Nat) (h : ∀ x ∈ decD X, x = 9) : decD (X + 1) = 1 :: List.replicate (decD X).length 0 := by
 induction X using Nat.strongRecOn with
 | ind X ih =>
  by_cases hX : X = 0
  ·subst hX
   rw [decD_pos (by omega), decD_zero]
   rfl
  ·have e := decD_pos hX
   have hl : (decD X).length = (decD (X / 10)).length + 1 := by rw [e, List.length_append]; rfl
   have hm : X % 10 = 9 := h _ (by rw [e]; exact List.mem_append.2 (.inr (List.mem_singleton.2 rfl)))
   rw [decD_pos (show X + 1 ≠ 0 by omega), show (X + 1) / 10 = X / 10 + 1 by omega, show (X + 1) % 10 = 0 by omega, ih (X / 10) (by omega) (fun x hx => h x (by rw [e]; exact List.mem_append.2 (.inl hx))), hl, List.cons_append, ← List.replicate_succ']
theorem nines_next {l : List Nat} {k : Nat} (hk : k < l.length) (h : ∀ x ∈ l.drop (l.length - k), x = 9) (h9 : l.getD (l.length - 1 - k) 0 = 9) : ∀ x ∈ l.drop (l.length - (k + 1)), x = 9 := by
 intro x hx
 rw [show l.length - (k + 1) = l.length - 1 - k by omega, List.drop_eq_getElem_cons (by omega), show l.length - 1 - k + 1 = l.length - k by omega] at hx
 rcases List.mem_cons.1 hx with hx | hx
 ·rw [hx, ← h9, List.getD_eq_getElem?_getD, List.getElem?_eq_getElem (by omega)]
  rfl
 ·exact h x hx
end Go.Proofs.YtdhdebapjlcjdaaGreatDoor
