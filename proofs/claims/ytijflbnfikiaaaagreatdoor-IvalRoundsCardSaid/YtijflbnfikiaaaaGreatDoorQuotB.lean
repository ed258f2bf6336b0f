/-
  Contract of nat.quotient at this translation where the dividend is not less than the divisor. Condition: both are canonical limbs, of at most 100,000 each, the divisor is not 0.
-/
import Derived.Test.YtijflbnfikiaaaaGreatDoorLower
import Derived.Test.YtijflbnfikiaaaaGreatDoorGuess
import Derived.Test.YtijflbnfikiaaaaGreatDoorTake
import Derived.Deep.DeepFit
namespace Go.Proofs.YtijflbnfikiaaaaGreatDoor

/-- what holds of the dividend's and the quotient's digits where k digits of the quotient are still to come -/
structure QInv (B V U0 L nq k : Nat) (cur q : List Nat) : Prop where
  len : cur.length = L
  qlen : q.length = nq
  lt : Lt B cur
  qlt : Lt B q
  eq : val B cur + V * val B q = U0
  up : val B (cur.drop k) < V
  low : ∀ i, i < k → q.getD i 0 = 0

section
variable {B V U0 L nq j mv : Nat} {cur q : List Nat}

theorem q_window (hB : 2 ≤ B) (h : QInv B V U0 L nq (j + 1) cur q) (hV : V < B ^ mv) (hj : j + mv + 1 ≤ L) :
    val B (cur.drop j) = val B ((cur.drop j).take (mv + 1)) ∧ val B ((cur.drop j).take (mv + 1)) < B * V ∧ val B (((cur.drop j).take (mv + 1)).drop 1) < V ∧ val B (cur.drop (j + mv + 1)) = 0 ∧ ((cur.drop j).take (mv + 1)).length = mv + 1 := by
  have hlen : ((cur.drop j).take (mv + 1)).length = mv + 1 := by rw [List.length_take, List.length_drop, h.len]; omega
  have e1 : cur.drop j = cur.getD j 0 :: cur.drop (j + 1) := by
    have hj' : j < cur.length := by rw [h.len]; omega
    rw [List.drop_eq_getElem_cons hj', List.getD_eq_getElem?_getD, List.getElem?_eq_getElem hj', Option.getD_some]
  have e2 : val B (cur.drop j) = cur.getD j 0 + B * val B (cur.drop (j + 1)) := by rw [e1, val_cons]
  have hc : cur.getD j 0 < B := h.lt.getD (by omega) j
  have h1 : B * (val B (cur.drop (j + 1)) + 1) ≤ B * V := Nat.mul_le_mul_left _ h.up
  rw [Nat.mul_add, Nat.mul_one] at h1
  have h2 : val B (cur.drop j) < B * V := by omega
  have h3 : B * V < B ^ (mv + 1) := by rw [Nat.pow_succ, Nat.mul_comm]; exact Nat.mul_lt_mul_of_pos_right hV (by omega)
  have h4 := val_take_drop (B := B) (cur.drop j) (mv + 1)
  rw [hlen, List.drop_drop] at h4
  have e3 : val B (cur.drop (j + (mv + 1))) = 0 := by
    rcases Nat.eq_zero_or_pos (val B (cur.drop (j + (mv + 1)))) with h0 | h0
    · exact h0
    · exfalso
      have : B ^ (mv + 1) * 1 ≤ B ^ (mv + 1) * val B (cur.drop (j + (mv + 1))) := Nat.mul_le_mul_left _ h0
      omega
  rw [e3, Nat.mul_zero, Nat.add_zero] at h4
  refine ⟨h4, by rw [← h4]; exact h2, ?_, by rw [Nat.add_assoc]; exact e3, hlen⟩
  rw [e1, List.take_succ_cons, List.drop_succ_cons, List.drop_zero]
  refine Nat.lt_of_le_of_lt ?_ h.up
  rw [val_take_drop (cur.drop (j + 1)) mv]
  exact Nat.le_add_right _ _

theorem q_next (hB : 2 ≤ B) (h : QInv B V U0 L nq (j + 1) cur q) (hV : V < B ^ mv) (hj : j + mv + 1 ≤ L) (hjq : j < nq) {x' : List Nat} (hx : x'.length = mv + 1) (hxl : Lt B x')
    (he : val B x' + val B ((cur.drop j).take (mv + 1)) / V * V = val B ((cur.drop j).take (mv + 1))) (hd : val B ((cur.drop j).take (mv + 1)) / V < B) :
    QInv B V U0 L nq j (cur.take j ++ x' ++ cur.drop (j + mv + 1)) (q.set j (val B ((cur.drop j).take (mv + 1)) / V)) := by
  obtain ⟨w1, w2, w3, w4, w5⟩ := q_window hB h hV hj
  generalize hX : val B ((cur.drop j).take (mv + 1)) = X at *
  have hVp : 0 < V := by have := h.up; omega
  have hR : val B x' < V := by
    have := Nat.div_add_mod X V
    rw [Nat.mul_comm] at this
    have := Nat.mod_lt X hVp
    omega
  have htj : (cur.take j).length = j := by rw [List.length_take, h.len]; omega
  have hcur : val B cur = val B (cur.take j) + B ^ j * X := by
    have := val_take_drop (B := B) cur j
    rw [htj, w1] at this
    exact this
  have hnew : val B (cur.take j ++ x' ++ cur.drop (j + mv + 1)) = val B (cur.take j) + B ^ j * val B x' := by
    rw [val_append, val_append, w4, htj]; simp
  have hq := val_set (B := B) (l := q) (i := j) (by rw [h.qlen]; exact hjq) (X / V)
  rw [h.low j (by omega), Nat.mul_zero, Nat.add_zero] at hq
  refine ⟨?_, by rw [List.length_set, h.qlen], ((h.lt.take j).append hxl).append (h.lt.drop _), h.qlt.set _ hd, ?_, ?_, fun i hi => ?_⟩
  · rw [List.length_append, List.length_append, htj, hx, List.length_drop, h.len]; omega
  · rw [hnew, hq, Nat.mul_add]
    have e1 : V * (B ^ j * (X / V)) = B ^ j * (X / V * V) := by ac_rfl
    have e2 : B ^ j * X = B ^ j * val B x' + B ^ j * (X / V * V) := by rw [← Nat.mul_add, he]
    have := h.eq
    rw [e1]
    omega
  · have e3 : (cur.take j ++ x' ++ cur.drop (j + mv + 1)).drop j = x' ++ cur.drop (j + mv + 1) := by
      rw [List.append_assoc, List.drop_append_of_le_length (by omega), List.drop_of_length_le (by omega), List.nil_append]
    rw [e3, val_append, w4, Nat.mul_zero, Nat.add_zero]
    exact hR
  · rw [getD_set_other (by omega)]
    exact h.low i (by omega)

theorem take_exact {X d ow v n : Nat} (hVp : 0 < V) (hlo : X / V ≤ d) (hup : d ≤ X / V + 1) (he : v + d * V = X + B ^ n * ow) (h0 : ow = 0) : d = X / V ∧ v + X / V * V = X := by
  subst h0
  have h1 : d * V ≤ X := by omega
  have h2 : d ≤ X / V := by rw [Nat.le_div_iff_mul_le hVp]; exact h1
  have : d = X / V := by omega
  subst this
  exact ⟨rfl, by omega⟩
theorem take_over {X d ow v v2 ca n : Nat} (hVp : 0 < V) (hVn : V ≤ B ^ n) (hlo : X / V ≤ d) (hup : d ≤ X / V + 1) (he : v + d * V = X + B ^ n * ow) (h0 : ow ≠ 0) (hv : v < B ^ n) (hv2 : v2 < B ^ n) (he2 : v2 + B ^ n * ca = v + 1 * V) :
    d = X / V + 1 ∧ v2 + X / V * V = X := by
  have hm := Nat.div_add_mod X V
  rw [Nat.mul_comm] at hm
  have hr := Nat.mod_lt X hVp
  have hd : d = X / V + 1 := by
    rcases Nat.lt_or_ge d (X / V + 1) with h | h
    · exfalso
      have : d = X / V := by omega
      rw [this] at he
      have : B ^ n * 1 ≤ B ^ n * ow := Nat.mul_le_mul_left _ (by omega)
      omega
    · omega
  refine ⟨hd, ?_⟩
  rw [hd, Nat.add_mul, Nat.one_mul] at he
  rw [Nat.one_mul] at he2
  have h3 : v2 + B ^ n * ca = X % V + B ^ n * ow := by omega
  have h4 : v2 = X % V := by
    have h5 := congrArg (· % B ^ n) h3
    simp only [Nat.add_mul_mod_self_left] at h5
    rwa [Nat.mod_eq_of_lt hv2, Nat.mod_eq_of_lt (by omega)] at h5
  omega

/-- the loop's end -/
theorem q_end {x y s : Nat} (hy : 0 < y) (h : QInv B (y * 2 ^ s) (x * 2 ^ s) L nq 0 cur q) : val B q = x / y ∧ val B cur / 2 ^ s = x % y := by
  have hs : 0 < 2 ^ s := Nat.pow_pos (by omega)
  have hu := h.up
  rw [List.drop_zero] at hu
  have he := h.eq
  have hVp : 0 < y * 2 ^ s := Nat.mul_pos hy hs
  have e1 : val B q = x * 2 ^ s / (y * 2 ^ s) := by
    rw [← he, Nat.add_mul_div_left _ _ hVp, Nat.div_eq_of_lt hu, Nat.zero_add]
  have e2 : val B cur = x * 2 ^ s % (y * 2 ^ s) := by
    rw [← he, Nat.add_mul_mod_self_left, Nat.mod_eq_of_lt hu]
  rw [Nat.mul_div_mul_right _ _ hs] at e1
  rw [Nat.mul_mod_mul_right] at e2
  exact ⟨e1, by rw [e2, Nat.mul_div_cancel _ hs]⟩
end

/-- how far a divisor is raised, and what comes of it -/
theorem lead_top {y s : Nat} {n : Nat} (h1 : W ^ n ≤ y * 2 ^ s * 2) (h2 : y * 2 ^ s < W ^ n) (hn : 0 < n) : (dig W (y * 2 ^ s)).length = n ∧ 9223372036854775808 ≤ (dig W (y * 2 ^ s)).getD (n - 1) 0 := by
  generalize hV : y * 2 ^ s = V at *
  have hW0 : 0 < W := by rw [W_eq]; omega
  obtain ⟨k, rfl⟩ : ∃ k, n = k + 1 := ⟨n - 1, by omega⟩
  have hpk : 0 < W ^ k := Nat.pow_pos hW0
  have e0 : W ^ (k + 1) = W ^ k * W := Nat.pow_succ ..
  have hle : (dig W V).length ≤ k + 1 := (len_dig W_two _ _).2 h2
  have hgt : ¬ (dig W V).length ≤ k := by
    rw [len_dig W_two]
    have : W ^ k * 2 ≤ W ^ k * W := Nat.mul_le_mul_left _ W_two
    omega
  have hl : (dig W V).length = k + 1 := by omega
  refine ⟨hl, ?_⟩
  have hv := take_val' (B := W) (dig W V) k
  rw [List.take_of_length_le (by omega), val_dig W_two] at hv
  have ht := val_lt ((lt_dig W_two V).take k)
  rw [List.length_take, Nat.min_eq_left (by omega)] at ht
  rw [Nat.add_sub_cancel]
  generalize (dig W V).getD k 0 = t at *
  rcases Nat.lt_or_ge t 9223372036854775808 with h | h
  · exfalso
    have h3 : W ^ k * (t + 1) ≤ W ^ k * 9223372036854775808 := Nat.mul_le_mul_left _ h
    have h4 : W ^ k * 9223372036854775808 * 2 = W ^ k * W := by rw [Nat.mul_assoc, W_eq]
    rw [Nat.mul_add, Nat.mul_one] at h3
    omega
  · exact h
end Go.Proofs.YtijflbnfikiaaaaGreatDoor

namespace Go.Proofs.YtijflbnfikiaaaaGreatDoor
open Go.RowKit

/-- what a divisor's raising comes to: one limb more where it has but one -/
theorem lead_raise {l : List Nat} {n x z : Nat} (hl : Can W l) (hn : l.length = n) (hn0 : 0 < n) (h1 : 9223372036854775808 ≤ l.getD (n - 1) 0 * 2 ^ z) (h2 : (l.getD (n - 1) 0 + 1) * 2 ^ z ≤ 18446744073709551616) :
    W ^ (n + x) ≤ val W l * 2 ^ (z + 64 * x) * 2 ∧ val W l * 2 ^ (z + 64 * x) < W ^ (n + x) := by
  obtain ⟨k, rfl⟩ : ∃ k, n = k + 1 := ⟨n - 1, by omega⟩
  rw [Nat.add_sub_cancel] at h1 h2
  have hv := take_val' (B := W) l k
  rw [List.take_of_length_le (by omega)] at hv
  have ht := val_lt (hl.1.take k)
  rw [List.length_take, Nat.min_eq_left (by omega)] at ht
  generalize l.getD k 0 = t at *
  have hWx : 2 ^ (64 * x) = W ^ x := by rw [W_pow, Nat.pow_mul]
  rw [Nat.pow_add 2 z, hWx, Nat.pow_add W (k + 1) x, ← Nat.mul_assoc]
  have hx0 : 0 < W ^ x := Nat.pow_pos (by rw [W_eq]; omega)
  have hz0 : 0 < 2 ^ z := Nat.pow_pos (by omega)
  have e0 : W ^ (k + 1) = W ^ k * W := Nat.pow_succ ..
  constructor
  · have h3 : W ^ k * t * 2 ^ z ≤ val W l * 2 ^ z := Nat.mul_le_mul_right _ (by omega)
    have h4 : W ^ k * 9223372036854775808 ≤ W ^ k * (t * 2 ^ z) := Nat.mul_le_mul_left _ h1
    have h5 : W ^ k * 9223372036854775808 * 2 = W ^ k * W := by rw [Nat.mul_assoc, W_eq]
    rw [Nat.mul_assoc] at h3
    have h6 : W ^ (k + 1) ≤ val W l * 2 ^ z * 2 := by omega
    have h7 : W ^ (k + 1) * W ^ x ≤ val W l * 2 ^ z * 2 * W ^ x := Nat.mul_le_mul_right _ h6
    rw [Nat.mul_right_comm (val W l * 2 ^ z)]
    exact h7
  · refine Nat.mul_lt_mul_of_pos_right ?_ hx0
    have h3 : val W l + 1 ≤ W ^ k * (t + 1) := by rw [Nat.mul_add]; omega
    have h4 : (val W l + 1) * 2 ^ z ≤ W ^ k * (t + 1) * 2 ^ z := Nat.mul_le_mul_right _ h3
    have h5 : W ^ k * ((t + 1) * 2 ^ z) ≤ W ^ k * 18446744073709551616 := Nat.mul_le_mul_left _ h2
    rw [Nat.mul_assoc] at h4
    rw [← W_eq] at h5
    rw [Nat.add_mul, Nat.one_mul] at h4
    omega

/-- nat.quotient's end: quotient and rest. -/
def QuotDone (w : World) (x y : Nat) (e : Ending) (w' : World) : Prop :=
  ∃ A n c B m d, e = .returned (.tuple #[.slice A n c, .slice B m d]) ∧ Rd w' .u64 W A n c (dig W (x / y)) ∧ Rd w' .u64 W B m d (dig W (x % y)) ∧ Below w.heap.size w w'

end Go.Proofs.YtijflbnfikiaaaaGreatDoor

namespace Go.Proofs.YtijflbnfikiaaaaGreatDoor
open Go.RowKit

/-- what holds of memory ahead of a round -/
structure QRel (w : World) (gu gv gq L mv cv nq V U0 k : Nat) (cur q : List Nat) (wr : World) : Prop where
  inv : QInv W V U0 L nq k cur q
  ru : Row wr gu 43 .u64 0 [] cur []
  rq : Row wr gq 43 .u64 0 [] q []
  rv : Rd wr .u64 W (some ⟨gv, 0, none⟩) mv cv (dig W V)
  bel : Below w.heap.size w wr

theorem below_row {w a b : World} {g : Nat} (h : Below w.heap.size w a) (hg : a.grownBy b (some g)) (h0 : w.heap.size ≤ g) : Below w.heap.size w b :=
  h.grown hg h.size (fun k e => by injection e with e; omega)

end Go.Proofs.YtijflbnfikiaaaaGreatDoor
