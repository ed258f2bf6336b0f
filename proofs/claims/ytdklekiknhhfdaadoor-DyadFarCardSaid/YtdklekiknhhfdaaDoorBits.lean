/-
  math/bits' Mul64, Add64, Sub64 at this translation, over naturals, and the arithmetic of one limb's step. Condition: the numbers are below 2^64.
-/
import Derived.Test.YtdklekiknhhfdaaDoorRows
import Derived.Test.YtdklekiknhhfdaaDoorShelf
import Derived.Test.YtdklekiknhhfdaaDoorMem
import Derived.Lib.Hide
namespace Go.Proofs.YtdklekiknhhfdaaDoor
open Go.RowKit

theorem mul64 (x y : Nat) (hx : x < 18446744073709551616) (hy : y < 18446744073709551616) (w : World) :
    Calls Tryd.prog 103 #[.int .u64 x, .int .u64 y] w fun e w' => ∃ hi lo : Nat, e = .returned (.tuple #[.int .u64 hi, .int .u64 lo]) ∧ Hid (lo + 18446744073709551616 * hi = x * y) ∧ lo < 18446744073709551616 ∧ hi < 18446744073709551615 ∧ w = w' :=
  (Tryd.bits_Mul64 x y hx hy w).mono fun e w' ⟨he, hw⟩ => by
    have hp : x * y ≤ 18446744073709551615 * 18446744073709551615 := Nat.mul_le_mul (by omega) (by omega)
    refine ⟨x * y / 18446744073709551616, x * y % 18446744073709551616, he, ?_, ?_, ?_, hw.symm⟩
    · exact Nat.mod_add_div _ _
    · omega
    · omega

theorem add64 (x y : Nat) (hx : x < 18446744073709551616) (hy : y < 18446744073709551616) : ∃ s c : Nat,
    (∀ w, (callFunc 104 #[.int .u64 (x : Int), .int .u64 (y : Int), .int .u64 0]).run Tryd.prog w = .ok (.value (.tuple #[.int .u64 (s : Int), .int .u64 (c : Int)])) w) ∧
      s + 18446744073709551616 * c = x + y ∧ s < 18446744073709551616 ∧ c ≤ 1 :=
  ⟨(x + y + 0) % 18446744073709551616, (x + y + 0) / 18446744073709551616, fun w => Tryd.bits_Add64 x y 0 (by omega) w, by omega, by omega, by omega⟩

theorem add64z (y : Nat) (hy : y < 18446744073709551616) : ∃ s c : Nat,
    (∀ w, (callFunc 104 #[.int .u64 0, .int .u64 (y : Int), .int .u64 0]).run Tryd.prog w = .ok (.value (.tuple #[.int .u64 (s : Int), .int .u64 (c : Int)])) w) ∧
      s + 18446744073709551616 * c = 0 + y ∧ s < 18446744073709551616 ∧ c ≤ 1 := add64 0 y (by omega) hy

theorem sub64 (x y : Nat) (hx : x < 18446744073709551616) (hy : y < 18446744073709551616) : ∃ s c : Nat,
    (∀ w, (callFunc 105 #[.int .u64 (x : Int), .int .u64 (y : Int), .int .u64 0]).run Tryd.prog w = .ok (.value (.tuple #[.int .u64 (s : Int), .int .u64 (c : Int)])) w) ∧
      s + y = x + 18446744073709551616 * c ∧ s < 18446744073709551616 ∧ c ≤ 1 :=
  ⟨(x + 18446744073709551616 - y - 0) % 18446744073709551616, (if x < y + 0 then 1 else 0), fun w => Tryd.bits_Sub64 x y 0 (by omega) w, by split <;> omega, by omega, by split <;> omega⟩

theorem pow_succ_W (i : Nat) : W ^ (i + 1) = W ^ i * W := Nat.pow_succ ..
theorem take_val (B : Nat) (l : List Nat) (i : Nat) : val B (l.take (i + 1)) = val B (l.take i) + B ^ i * l.getD i 0 := by
  by_cases h : i < l.length
  · rw [List.take_succ_eq_append_getElem h, val_snoc, List.length_take, Nat.min_eq_left (by omega), List.getD_eq_getElem?_getD, List.getElem?_eq_getElem h, Option.getD_some]
  · rw [List.take_of_length_le (by omega), List.take_of_length_le (by omega), List.getD_eq_getElem?_getD, List.getElem?_eq_none (by omega)]
    simp

/-- what has been added up to place i: the digits done, the carry -/
structure Added (x : Nat) (xs bs : List Nat) (i ca : Nat) (done : List Nat) : Prop where
  len : done.length = i
  lt : Lt W done
  eq : val W done + W ^ i * ca = val W (xs.take i) + x * val W (bs.take i)
theorem Added.zero (x : Nat) (xs bs : List Nat) : Added x xs bs 0 0 [] := ⟨rfl, Lt.nil, by simp [val]⟩
theorem Added.step {x : Nat} {xs bs : List Nat} {i ca : Nat} {done : List Nat} (h : Added x xs bs i ca done) {s ca' : Nat} (hs : s < W) (he : s + W * ca' = xs.getD i 0 + bs.getD i 0 * x + ca) : Added x xs bs (i + 1) ca' (done ++ [s]) := by
  refine ⟨by simp [h.len], h.lt.append (Lt.cons hs Lt.nil), ?_⟩
  have h1 := h.eq
  rw [val_snoc, h.len, take_val, take_val, pow_succ_W]
  have h2 : W ^ i * (s + W * ca') = W ^ i * (xs.getD i 0 + bs.getD i 0 * x + ca) := by rw [he]
  have h3 : W ^ i * W * ca' = W ^ i * (W * ca') := Nat.mul_assoc _ _ _
  have h4 : x * (val W (bs.take i) + W ^ i * bs.getD i 0) = x * val W (bs.take i) + W ^ i * (bs.getD i 0 * x) := by
    rw [Nat.mul_add, ← Nat.mul_assoc, Nat.mul_comm x (W ^ i), Nat.mul_assoc, Nat.mul_comm x (bs.getD i 0)]
  rw [Nat.mul_add, Nat.mul_add, Nat.mul_add] at h2
  rw [h3, h4]
  omega

/-- what has been taken away up to place i: the digits done, what is owed -/
structure Taken (x : Nat) (xs bs : List Nat) (i ow : Nat) (done : List Nat) : Prop where
  len : done.length = i
  lt : Lt W done
  eq : val W done + x * val W (bs.take i) = val W (xs.take i) + W ^ i * ow
theorem Taken.zero (x : Nat) (xs bs : List Nat) : Taken x xs bs 0 0 [] := ⟨rfl, Lt.nil, by simp [val]⟩
theorem Taken.step {x : Nat} {xs bs : List Nat} {i ow : Nat} {done : List Nat} (h : Taken x xs bs i ow done) {s ow' : Nat} (hs : s < W) (he : s + bs.getD i 0 * x + ow = xs.getD i 0 + W * ow') : Taken x xs bs (i + 1) ow' (done ++ [s]) := by
  refine ⟨by simp [h.len], h.lt.append (Lt.cons hs Lt.nil), ?_⟩
  have h1 := h.eq
  rw [val_snoc, h.len, take_val, take_val, pow_succ_W]
  have h2 : W ^ i * (s + bs.getD i 0 * x + ow) = W ^ i * (xs.getD i 0 + W * ow') := by rw [he]
  have h3 : W ^ i * W * ow' = W ^ i * (W * ow') := Nat.mul_assoc _ _ _
  have h4 : x * (val W (bs.take i) + W ^ i * bs.getD i 0) = x * val W (bs.take i) + W ^ i * (bs.getD i 0 * x) := by
    rw [Nat.mul_add, ← Nat.mul_assoc, Nat.mul_comm x (W ^ i), Nat.mul_assoc, Nat.mul_comm x (bs.getD i 0)]
  rw [Nat.mul_add, Nat.mul_add, Nat.mul_add] at h2
  rw [h3, h4]
  omega

/-- the row in the middle of such a walk -/
theorem set_mid {done xs : List Nat} {i s : Nat} (hd : done.length = i) (hi : i < xs.length) : (done ++ xs.drop i).set i s = (done ++ [s]) ++ xs.drop (i + 1) := by
  rw [List.set_append_right _ _ (by omega), hd, Nat.sub_self, List.drop_eq_getElem_cons hi, List.set_cons_zero, List.append_assoc]
  rfl
theorem get_mid {done xs : List Nat} {i : Nat} (hd : done.length = i) : (done ++ xs.drop i).getD i 0 = xs.getD i 0 := by
  simp only [List.getD_eq_getElem?_getD]
  rw [List.getElem?_append_right (by omega), hd, Nat.sub_self, List.getElem?_drop, Nat.add_zero]
theorem Added.all {x : Nat} {xs bs : List Nat} {i ca : Nat} {done : List Nat} (h : Added x xs bs i ca done) (hl : Lt W xs) (hi : i = xs.length) (hb : bs.length ≤ i) :
    (done ++ xs.drop i).length = xs.length ∧ Lt W (done ++ xs.drop i) ∧ val W (done ++ xs.drop i) + W ^ xs.length * ca = val W xs + x * val W bs := by
  subst hi
  refine ⟨by simp [h.len], h.lt.append (hl.drop _), ?_⟩
  have := h.eq
  rw [List.take_of_length_le hb, List.take_length] at this
  rw [List.drop_length, List.append_nil]
  exact this
theorem Added.early {x : Nat} {xs bs : List Nat} {i : Nat} {done : List Nat} (h : Added x xs bs i 0 done) (hl : Lt W xs) (hi : i ≤ xs.length) (hb : bs.length ≤ i) :
    (done ++ xs.drop i).length = xs.length ∧ Lt W (done ++ xs.drop i) ∧ val W (done ++ xs.drop i) + W ^ xs.length * 0 = val W xs + x * val W bs := by
  refine ⟨by simp [h.len]; omega, h.lt.append (hl.drop _), ?_⟩
  have := h.eq
  rw [List.take_of_length_le hb] at this
  rw [val_append, h.len]
  have h2 := val_take_drop (B := W) xs i
  rw [List.length_take, Nat.min_eq_left hi] at h2
  rw [h2]
  omega
theorem Taken.all {x : Nat} {xs bs : List Nat} {i ow : Nat} {done : List Nat} (h : Taken x xs bs i ow done) (hl : Lt W xs) (hi : i = xs.length) (hb : bs.length ≤ i) :
    (done ++ xs.drop i).length = xs.length ∧ Lt W (done ++ xs.drop i) ∧ val W (done ++ xs.drop i) + x * val W bs = val W xs + W ^ xs.length * ow := by
  subst hi
  refine ⟨by simp [h.len], h.lt.append (hl.drop _), ?_⟩
  have := h.eq
  rw [List.take_of_length_le hb, List.take_length] at this
  rw [List.drop_length, List.append_nil]
  exact this
theorem Taken.early {x : Nat} {xs bs : List Nat} {i : Nat} {done : List Nat} (h : Taken x xs bs i 0 done) (hl : Lt W xs) (hi : i ≤ xs.length) (hb : bs.length ≤ i) :
    (done ++ xs.drop i).length = xs.length ∧ Lt W (done ++ xs.drop i) ∧ val W (done ++ xs.drop i) + x * val W bs = val W xs + W ^ xs.length * 0 := by
  refine ⟨by simp [h.len]; omega, h.lt.append (hl.drop _), ?_⟩
  have := h.eq
  rw [List.take_of_length_le hb] at this
  rw [val_append, h.len]
  have h2 := val_take_drop (B := W) xs i
  rw [List.length_take, Nat.min_eq_left hi] at h2
  rw [h2]
  omega
end Go.Proofs.YtdklekiknhhfdaaDoor
