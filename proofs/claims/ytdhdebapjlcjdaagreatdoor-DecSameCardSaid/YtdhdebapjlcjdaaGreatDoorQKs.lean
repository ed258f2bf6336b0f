/-
 Plain facts on decimals that are rounded and written. No condition; nothing of the program is named here.
-/
import Derived.Test.YtdhdebapjlcjdaaGreatDoorQKq
namespace Go.Proofs.YtdhdebapjlcjdaaGreatDoor

/-- m 2^e times 10^n, rounded: down or up of a number with this sign -/
def textQ (s : Bool) (m : Nat) (e : Int) (n : Nat) (up : Bool) : Nat :=
 if 0 ≤ e then m * 2 ^ e.toNat * 10 ^ n
 else m * 10 ^ n / 2 ^ (-e).toNat + (if (up != s) = true ∧ m * 10 ^ n % 2 ^ (-e).toNat ≠ 0 then 1 else 0)
/-- the digits of Q, n + 1 at least -/
def padT (n Q : Nat) : List Nat := List.replicate (n + 1 - (decD Q).length) 0 ++ decD Q
/-- digits as bytes -/
def asc (l : List Nat) : List Nat := l.map (48 + ·)
/-- with a point ahead of the last n -/
def pointT (n : Nat) (l : List Nat) : List Nat := if n = 0 then l else l.take (l.length - n) ++ 46 :: l.drop (l.length - n)
def textT (s : Bool) (m : Nat) (e : Int) (n : Nat) (up : Bool) : List Nat :=
 (if s = true ∧ textQ s m e n up ≠ 0 then [45] else []) ++ pointT n (asc (padT n (textQ s m e n up)))
/-- bytes as a text -/
def txt (l : List Nat) : ByteArray := ⟨(l.map UInt8.ofNat).toArray⟩
/-- the digits of V without the last k, rounded; with noughts behind them, if k is below 0 -/
def shD (V : Nat) (k : Int) (away : Bool) : List Nat :=
 if k < 0 then decD V ++ List.replicate (-k).toNat 0
 else decD (V / 10 ^ k.toNat + (if away = true ∧ V % 10 ^ k.toNat ≠ 0 then 1 else 0))
theorem asc_append (l r : List Nat) : asc (l ++ r) = asc l ++ asc r := by unfold asc; rw [List.map_append]
theorem asc_len (l : List Nat) : (asc l).length = l.length := by unfold asc; rw [List.length_map]
theorem asc_zeros (k : Nat) : asc (List.replicate k 0) = List.replicate k 48 := by unfold asc; rw [List.map_replicate]
theorem asc_take (l : List Nat) (k : Nat) : asc (l.take k) = (asc l).take k := by unfold asc; rw [List.map_take]
theorem asc_drop (l : List Nat) (k : Nat) : asc (l.drop k) = (asc l).drop k := by unfold asc; rw [List.map_drop]
theorem txt_append (l r : List Nat) : txt l ++ txt r = txt (l ++ r) := by
 apply ByteArray.ext
 apply Array.toList_inj.1
 simp [txt, ByteArray.data_append]
theorem txt_size (l : List Nat) : (txt l).size = l.length := by
 show (l.map UInt8.ofNat).toArray.size = _
 simp
theorem txt_list (l : List Nat) : (txt l).data.toList = l.map UInt8.ofNat := rfl
theorem decD_times {V : Nat} (h : V ≠ 0) (j : Nat) : decD (V * 10 ^ j) = decD V ++ List.replicate j 0 := by
 have := decD_join j 0 V (Nat.pow_pos (by omega)) h
 rw [Nat.zero_add, Nat.mul_comm, padD_zero] at this
 exact this
theorem padT_zero (n : Nat) : padT n 0 = List.replicate (n + 1) 0 := by
 unfold padT
 rw [decD_zero, List.append_nil]
 rfl
theorem pad_times (V j n : Nat) (hj : j ≤ n) : List.replicate (n + 1 - (decD V ++ List.replicate j 0).length) 0 ++ (decD V ++ List.replicate j 0) = padT n (V * 10 ^ j) := by
 by_cases h : V = 0
 ·subst h
  rw [Nat.zero_mul, padT_zero, decD_zero, List.nil_append, List.length_replicate, List.replicate_append_replicate]
  congr 1
  omega
 ·unfold padT
  rw [decD_times h]
theorem zeros_times (V j : Nat) : (∀ x ∈ decD V ++ List.replicate j 0, x = 0) ↔ V * 10 ^ j = 0 := by
 have hp : 0 < 10 ^ j := Nat.pow_pos (by omega)
 have h0 := drop_zeros (decD V).length V
 rw [Nat.sub_self, List.drop_zero] at h0
 have hlt : V < 10 ^ (decD V).length := (decD_len (V := V)).1 (Nat.le_refl _)
 rw [Nat.mod_eq_of_lt hlt] at h0
 constructor
 ·intro h
  rw [h0.1 fun x hx => h x (List.mem_append.2 (.inl hx)), Nat.zero_mul]
 ·intro h x hx
  have hV : V = 0 := by
   rcases Nat.mul_eq_zero.1 h with h | h
   ·exact h
   ·omega
  rcases List.mem_append.1 hx with hx | hx
  ·exact h0.2 hV x hx
  ·exact (List.mem_replicate.1 hx).2
theorem zeros_dec (V : Nat) : (∀ x ∈ decD V, x = 0) ↔ V = 0 := by
 have := zeros_times V 0
 rw [List.replicate_zero, List.append_nil, Nat.pow_zero, Nat.mul_one] at this
 exact this
theorem ten_parts (b : Nat) : 10 ^ b = 2 ^ b * 5 ^ b := by rw [← Nat.mul_pow]
theorem text_above {m b n : Nat} (h : b ≤ n) : m * 10 ^ n / 2 ^ b = m * 5 ^ b * 10 ^ (n - b) ∧ m * 10 ^ n % 2 ^ b = 0 := by
 have e : m * 10 ^ n = 2 ^ b * (m * 5 ^ b * 10 ^ (n - b)) := by
  conv => lhs; rw [show n = b + (n - b) by omega, Nat.pow_add, ten_parts b]
  ac_rfl
 have hp : 0 < 2 ^ b := Nat.pow_pos (by omega)
 rw [e, Nat.mul_div_cancel_left _ hp, Nat.mul_mod_right]
 exact ⟨rfl, rfl⟩
theorem text_below {m b n : Nat} (h : n ≤ b) : m * 5 ^ b / 10 ^ (b - n) = m * 10 ^ n / 2 ^ b ∧ (m * 5 ^ b % 10 ^ (b - n) ≠ 0 ↔ m * 10 ^ n % 2 ^ b ≠ 0) := by
 obtain ⟨k, rfl⟩ : ∃ k, b = n + k := ⟨b - n, by omega⟩
 have e1 : m * 5 ^ (n + k) = m * 5 ^ n * 5 ^ k := by rw [Nat.pow_add]; ac_rfl
 have e2 : m * 10 ^ n = m * 5 ^ n * 2 ^ n := by rw [ten_parts]; ac_rfl
 have e3 : 2 ^ (n + k) = 2 ^ k * 2 ^ n := by rw [Nat.pow_add]; ac_rfl
 have p5 : 0 < 5 ^ k := Nat.pow_pos (by omega)
 have p2 : 0 < 2 ^ n := Nat.pow_pos (by omega)
 rw [Nat.add_sub_cancel_left, e1, e2, e3, ten_parts k, Nat.mul_div_mul_right _ _ p5, Nat.mul_div_mul_right _ _ p2, Nat.mul_mod_mul_right, Nat.mul_mod_mul_right]
 refine ⟨rfl, ?_⟩
 generalize m * 5 ^ n % 2 ^ k = r
 constructor
 ·intro h1 h2
  rcases Nat.mul_eq_zero.1 h2 with h2 | h2
  ·exact h1 (by rw [h2, Nat.zero_mul])
  ·omega
 ·intro h1 h2
  rcases Nat.mul_eq_zero.1 h2 with h2 | h2
  ·exact h1 (by rw [h2, Nat.zero_mul])
  ·omega
/-- all digits of m 2^e, and how many of them stand behind the point -/
def allV (m : Nat) (e : Int) : Nat := if 0 ≤ e then m * 2 ^ e.toNat else m * 5 ^ (-e).toNat
def allB (e : Int) : Int := if 0 ≤ e then 0 else -e
theorem sh_text (s : Bool) (m : Nat) (e : Int) (n : Nat) (up : Bool) : List.replicate (n + 1 - (shD (allV m e) (allB e - n) (up != s)).length) 0 ++ shD (allV m e) (allB e - n) (up != s) = padT n (textQ s m e n up) ∧ ((∀ x ∈ shD (allV m e) (allB e - n) (up != s), x = 0) ↔ textQ s m e n up = 0) := by
 unfold allV allB textQ
 by_cases he : 0 ≤ e
 ·rw [if_pos he, if_pos he, if_pos he]
  unfold shD
  by_cases hn : n = 0
  ·subst hn
   rw [if_neg (by omega), show ((0 : Int) - ((0 : Nat) : Int)).toNat = 0 from rfl, Nat.pow_zero, Nat.div_one, Nat.mod_one, Nat.mul_one, if_neg (fun h => h.2 rfl), Nat.add_zero]
   exact ⟨rfl, zeros_dec _⟩
  ·rw [if_pos (by omega), show (-((0 : Int) - (n : Int))).toNat = n by omega]
   exact ⟨pad_times _ _ _ (Nat.le_refl _), zeros_times _ _⟩
 ·obtain ⟨b, rfl⟩ : ∃ b : Nat, e = -(b : Int) := ⟨(-e).toNat, by omega⟩
  rw [if_neg he, if_neg he, if_neg he, show (- -(b : Int)).toNat = b by omega]
  unfold shD
  by_cases hn : b < n
  ·obtain ⟨h1, h2⟩ := text_above (m := m) (Nat.le_of_lt hn)
   rw [if_pos (by omega), show (-(- -(b : Int) - (n : Int))).toNat = n - b by omega, h1, h2, if_neg (fun h => h.2 rfl), Nat.add_zero]
   exact ⟨pad_times _ _ _ (by omega), zeros_times _ _⟩
  ·obtain ⟨h1, h2⟩ := text_below (m := m) (show n ≤ b by omega)
   rw [if_neg (by omega), show (- -(b : Int) - (n : Int)).toNat = b - n by omega, h1]
   have e2 : (if (up != s) = true ∧ m * 5 ^ b % 10 ^ (b - n) ≠ 0 then 1 else 0) = (if (up != s) = true ∧ m * 10 ^ n % 2 ^ b ≠ 0 then 1 else 0) := by
    by_cases h3 : m * 10 ^ n % 2 ^ b ≠ 0
    ·by_cases h4 : (up != s) = true
     ·rw [if_pos ⟨h4, h2.2 h3⟩, if_pos ⟨h4, h3⟩]
     ·rw [if_neg (fun h => h4 h.1), if_neg (fun h => h4 h.1)]
    ·rw [if_neg (fun h => h3 (h2.1 h.2)), if_neg (fun h => h3 h.2)]
   rw [e2]
   exact ⟨rfl, zeros_dec _⟩
/-- one more than X, where X ends in k nines and has a digit that is none ahead of them -/
theorem next_stop : ∀ (k X : Nat), k < (decD X).length → (∀ x ∈ (decD X).drop ((decD X).length - k), x = 9) → (decD X).getD ((decD X).length - 1 - k) 0 ≠ 9 →
  decD (X + 1) = (decD X).take ((decD X).length - 1 - k) ++ ((decD X).getD ((decD X).length - 1 - k) 0 + 1) :: List.replicate k 0
 | 0, X, hk, _, h9 => by
  have hX : X ≠ 0 := fun h => by rw [h, decD_zero] at hk; exact absurd hk (by simp)
  have e := decD_pos hX
  have hl : (decD X).length = (decD (X / 10)).length + 1 := by rw [e, List.length_append]; rfl
  rw [hl, show (decD (X / 10)).length + 1 - 1 - 0 = (decD (X / 10)).length by omega] at h9 ⊢
  rw [e, List.getD_eq_getElem?_getD, List.getElem?_append_right (Nat.le_refl _), Nat.sub_self] at h9 ⊢
  rw [List.take_append_of_le_length (Nat.le_refl _), List.take_length]
  have h9' : X % 10 ≠ 9 := h9
  rw [decD_pos (show X + 1 ≠ 0 by omega), show (X + 1) / 10 = X / 10 by omega, show (X + 1) % 10 = X % 10 + 1 by omega]
  rfl
 | k + 1, X, hk, hn, h9 => by
  have hX : X ≠ 0 := fun h => by rw [h, decD_zero] at hk; exact absurd hk (by simp)
  have e := decD_pos hX
  have hl : (decD X).length = (decD (X / 10)).length + 1 := by rw [e, List.length_append]; rfl
  rw [hl] at hk
  have i1 : (decD (X / 10)).length + 1 - (k + 1) = (decD (X / 10)).length - k := by omega
  have i2 : (decD (X / 10)).length + 1 - 1 - (k + 1) = (decD (X / 10)).length - 1 - k := by omega
  rw [hl, i1, e, List.drop_append_of_le_length (by omega)] at hn
  rw [hl, i2] at h9 ⊢
  have eg : (decD X).getD ((decD (X / 10)).length - 1 - k) 0 = (decD (X / 10)).getD ((decD (X / 10)).length - 1 - k) 0 := by
   rw [e, List.getD_eq_getElem?_getD, List.getElem?_append_left (by omega), ← List.getD_eq_getElem?_getD]
  have et : (decD X).take ((decD (X / 10)).length - 1 - k) = (decD (X / 10)).take ((decD (X / 10)).length - 1 - k) := by
   rw [e, List.take_append_of_le_length (by omega)]
  rw [eg] at h9 ⊢
  rw [et]
  have hm : X % 10 = 9 := hn _ (List.mem_append.2 (.inr (List.mem_singleton.2 rfl)))
  have ih := next_stop k (X / 10) (by omega) (fun x hx => hn x (List.mem_append.2 (.inl hx))) h9
  rw [decD_pos (show X + 1 ≠ 0 by omega), show (X + 1) / 10 = X / 10 + 1 by omega, show (X + 1) % 10 = 0 by omega, ih, List.append_assoc]
  congr 1
  rw [List.cons_append, ← List.replicate_succ']
theorem next_all (X : Nat) (h : ∀ x ∈ decD X, x = 9) : decD (X + 1) = 1 :: List.replicate (decD X).length 0 := by
 induction X using Nat.strongRecOn with
 | ind X ih =>
  by_cases hX : X = 0
  ·subst hX
   rw [decD_pos (by omega), decD_zero]
   rfl
  ·have e := decD_pos hX
   have hl : (decD X).length = (decD (X / 10)).length + 1 := by rw [e, List.length_append]; rfl
   have hm : X % 10 = 9 := h _ (by rw [e]; exact List.mem_append.2 (.inr (List.mem_singleton.2 rfl)))
   rw [decD_pos (show X + 1 ≠ 0 by omega), show (X + 1) / 10 = X / 10 + 1 by omega, show (X + 1) % 10 = 0 by omega, ih (X / 10) (by omega) (fun x hx => h x (by rw [e]; exact List.mem_append.2 (.inl hx))), hl, List.cons_append, ← List.replicate_succ']
theorem nines_next {l : List Nat} {k : Nat} (hk : k < l.length) (h : ∀ x ∈ l.drop (l.length - k), x = 9) (h9 : l.getD (l.length - 1 - k) 0 = 9) : ∀ x ∈ l.drop (l.length - (k + 1)), x = 9 := by
 intro x hx
 rw [show l.length - (k + 1) = l.length - 1 - k by omega, List.drop_eq_getElem_cons (by omega), show l.length - 1 - k + 1 = l.length - k by omega] at hx
 rcases List.mem_cons.1 hx with hx | hx
 ·rw [hx, ← h9, List.getD_eq_getElem?_getD, List.getElem?_eq_getElem (by omega)]
  rfl
 ·exact h x hx
end Go.Proofs.YtdhdebapjlcjdaaGreatDoor
