/-
 Contract of nat.quotient at this translation where the dividend is not less than the divisor. Condition: both are canonical limbs, of at most 100,000 each, the divisor is not 0.
-/
import Derived.Test.YteagjlcmgiknmaaGreatDoorQLower
import Derived.Test.YteagjlcmgiknmaaGreatDoorQGuess
import Derived.Test.YteagjlcmgiknmaaGreatDoorQTake
import Derived.Deep.DeepFit
set_option maxHeartbeats 2000000
set_option maxRecDepth 100000
namespace Go.Proofs.YteagjlcmgiknmaaGreatDoor

/-- what holds of the dividend's and the quotient's digits where k digits of the quotient are still to come -/
structure QInv (B V U0 L nq k : Nat) (cur q : List Nat) : Prop where
 len : cur.length = L
 qlen : q.length = nq
 lt : Lt B cur
 qlt : Lt B q
 eq : val B cur + V * val B q = U0
 up : val B (cur.drop k) < V
 low : ∀ i, i < k → q.getD i 0 = 0

section
variable {B V U0 L nq j mv : Nat} {cur q : List Nat}

theorem q_window (hB : 2 ≤ B) (h : QInv B V U0 L nq (j + 1) cur q) (hV : V < B ^ mv) (hj : j + mv + 1 ≤ L) :
  val B (cur.drop j) = val B ((cur.drop j).take (mv + 1)) ∧ val B ((cur.drop j).take (mv + 1)) < B * V ∧ val B (((cur.drop j).take (mv + 1)).drop 1) < V ∧ val B (cur.drop (j + mv + 1)) = 0 ∧ ((cur.drop j).take (mv + 1)).length = mv + 1 := by
 have hlen : ((cur.drop j).take (mv + 1)).length = mv + 1 := by rw [List.length_take, List.length_drop, h.len]; omega
 have e1 : cur.drop j = cur.getD j 0 :: cur.drop (j + 1) := by
  have hj' : j < cur.length := by rw [h.len]; omega
  rw [List.drop_eq_getElem_cons hj', List.getD_eq_getElem?_getD, List.getElem?_eq_getElem hj', Option.getD_some]
 have e2 : val B (cur.drop j) = cur.getD j 0 + B * val B (cur.drop (j + 1)) := by rw [e1, val_cons]
 have hc : cur.getD j 0 < B := h.lt.getD (by omega) j
 have h1 : B * (val B (cur.drop (j + 1)) + 1) ≤ B * V := Nat.mul_le_mul_left _ h.up
 rw [Nat.mul_add, Nat.mul_one] at h1
 have h2 : val B (cur.drop j) < B * V := by omega
 have h3 : B * V < B ^ (mv + 1) := by rw [Nat.pow_succ, Nat.mul_comm]; exact Nat.mul_lt_mul_of_pos_right hV (by omega)
 have h4 := val_take_drop (B := B) (cur.drop j) (mv + 1)
 rw [hlen, List.drop_drop] at h4
 have e3 : val B (cur.drop (j + (mv + 1))) = 0 := by
  rcases Nat.eq_zero_or_pos (val B (cur.drop (j + (mv + 1)))) with h0 | h0
  ·exact h0
  ·exfalso
   have : B ^ (mv + 1) * 1 ≤ B ^ (mv + 1) * val B (cur.drop (j + (mv + 1))) := Nat.mul_le_mul_left _ h0
   omega
 rw [e3, Nat.mul_zero, Nat.add_zero] at h4
 refine ⟨h4, by rw [← h4]; exact h2, ?_, by rw [Nat.add_assoc]; exact e3, hlen⟩
 rw [e1, List.take_succ_cons, List.drop_succ_cons, List.drop_zero]
 refine Nat.lt_of_le_of_lt ?_ h.up
 rw [val_take_drop (cur.drop (j + 1)) mv]
 exact Nat.le_add_right _ _

theorem q_next (hB : 2 ≤ B) (h : QInv B V U0 L nq (j + 1) cur q) (hV : V < B ^ mv) (hj : j + mv + 1 ≤ L) (hjq : j < nq) {x' : List Nat} (hx : x'.length = mv + 1) (hxl : Lt B x')
  (he : val B x' + val B ((cur.drop j).take (mv + 1)) / V * V = val B ((cur.drop j).take (mv + 1))) (hd : val B ((cur.drop j).take (mv + 1)) / V < B) :
  QInv B V U0 L nq j (cur.take j ++ x' ++ cur.drop (j + mv + 1)) (q.set j (val B ((cur.drop j).take (mv + 1)) / V)) := by
 obtain ⟨w1, w2, w3, w4, w5⟩ := q_window hB h hV hj
 generalize hX : val B ((cur.drop j).take (mv + 1)) = X at *
 have hVp : 0 < V := by have := h.up; omega
 have hR : val B x' < V := by
  have := Nat.div_add_mod X V
  rw [Nat.mul_comm] at this
  have := Nat.mod_lt X hVp
  omega
 have htj : (cur.take j).length = j := by rw [List.length_take, h.len]; omega
 have hcur : val B cur = val B (cur.take j) + B ^ j * X := by
  have := val_take_drop (B := B) cur j
  rw [htj, w1] at this
  exact this
 have hnew : val B (cur.take j ++ x' ++ cur.drop (j + mv + 1)) = val B (cur.take j) + B ^ j * val B x' := by
  rw [val_append, val_append, w4, htj]; simp
 have hq := val_set (B := B) (l := q) (i := j) (by rw [h.qlen]; exact hjq) (X / V)
 rw [h.low j (by omega), Nat.mul_zero, Nat.add_zero] at hq
 refine ⟨?_, by rw [List.length_set, h.qlen], ((h.lt.take j).append hxl).append (h.lt.drop _), h.qlt.set _ hd, ?_, ?_, fun i hi => ?_⟩
 ·rw [List.length_append, List.length_append, htj, hx, List.length_drop, h.len]; omega
 ·rw [hnew, hq, Nat.mul_add]
  have e1 : V * (B ^ j * (X / V)) = B ^ j * (X / V * V) := by ac_rfl
  have e2 : B ^ j * X = B ^ j * val B x' + B ^ j * (X / V * V) := by rw [← Nat.mul_add, he]
  have := h.eq
  rw [e1]
  omega
 ·have e3 : (cur.take j ++ x' ++ cur.drop (j + mv + 1)).drop j = x' ++ cur.drop (j + mv + 1) := by
   rw [List.append_assoc, List.drop_append_of_le_length (by omega), List.drop_of_length_le (by omega), List.nil_append]
  rw [e3, val_append, w4, Nat.mul_zero, Nat.add_zero]
  exact hR
 ·rw [getD_set_other (by omega)]
  exact h.low i (by omega)

theorem take_exact {X d ow v n : Nat} (hVp : 0 < V) (hlo : X / V ≤ d) (hup : d ≤ X / V + 1) (he : v + d * V = X + B ^ n * ow) (h0 : ow = 0) : d = X / V ∧ v + X / V * V = X := by
 subst h0
 have h1 : d * V ≤ X := by omega
 have h2 : d ≤ X / V := by rw [Nat.le_div_iff_mul_le hVp]; exact h1
 have : d = X / V := by omega
 subst this
 exact ⟨rfl, by omega⟩
theorem take_over {X d ow v v2 ca n : Nat} (hVp : 0 < V) (hVn : V ≤ B ^ n) (hlo : X / V ≤ d) (hup : d ≤ X / V + 1) (he : v + d * V = X + B ^ n * ow) (h0 : ow ≠ 0) (hv : v < B ^ n) (hv2 : v2 < B ^ n) (he2 : v2 + B ^ n * ca = v + 1 * V) :
  d = X / V + 1 ∧ v2 + X / V * V = X := by
 have hm := Nat.div_add_mod X V
 rw [Nat.mul_comm] at hm
 have hr := Nat.mod_lt X hVp
 have hd : d = X / V + 1 := by
  rcases Nat.lt_or_ge d (X / V + 1) with h | h
  ·exfalso
   have : d = X / V := by omega
   rw [this] at he
   have : B ^ n * 1 ≤ B ^ n * ow := Nat.mul_le_mul_left _ (by omega)
   omega
  ·omega
 refine ⟨hd, ?_⟩
 rw [hd, Nat.add_mul, Nat.one_mul] at he
 rw [Nat.one_mul] at he2
 have h3 : v2 + B ^ n * ca = X % V + B ^ n * ow := by omega
 have h4 : v2 = X % V := by
  have h5 := congrArg (· % B ^ n) h3
  simp only [Nat.add_mul_mod_self_left] at h5
  rwa [Nat.mod_eq_of_lt hv2, Nat.mod_eq_of_lt (by omega)] at h5
 omega

/-- the loop's end -/
theorem q_end {x y s : Nat} (hy : 0 < y) (h : QInv B (y * 2 ^ s) (x * 2 ^ s) L nq 0 cur q) : val B q = x / y ∧ val B cur / 2 ^ s = x % y := by
 have hs : 0 < 2 ^ s := Nat.pow_pos (by omega)
 have hu := h.up
 rw [List.drop_zero] at hu
 have he := h.eq
 have hVp : 0 < y * 2 ^ s := Nat.mul_pos hy hs
 have e1 : val B q = x * 2 ^ s / (y * 2 ^ s) := by
  rw [← he, Nat.add_mul_div_left _ _ hVp, Nat.div_eq_of_lt hu, Nat.zero_add]
 have e2 : val B cur = x * 2 ^ s % (y * 2 ^ s) := by
  rw [← he, Nat.add_mul_mod_self_left, Nat.mod_eq_of_lt hu]
 rw [Nat.mul_div_mul_right _ _ hs] at e1
 rw [Nat.mul_mod_mul_right] at e2
 exact ⟨e1, by rw [e2, Nat.mul_div_cancel _ hs]⟩
end

/-- how far a divisor is raised, and what comes of it -/
theorem lead_top {y s : Nat} {n : Nat} (h1 : W ^ n ≤ y * 2 ^ s * 2) (h2 : y * 2 ^ s < W ^ n) (hn : 0 < n) : (dig W (y * 2 ^ s)).length = n ∧ 9223372036854775808 ≤ (dig W (y * 2 ^ s)).getD (n - 1) 0 := by
 generalize hV : y * 2 ^ s = V at *
 have hW0 : 0 < W := by rw [W_eq]; omega
 obtain ⟨k, rfl⟩ : ∃ k, n = k + 1 := ⟨n - 1, by omega⟩
 have hpk : 0 < W ^ k := Nat.pow_pos hW0
 have e0 : W ^ (k + 1) = W ^ k * W := Nat.pow_succ ..
 have hle : (dig W V).length ≤ k + 1 := (len_dig W_two _ _).2 h2
 have hgt : ¬ (dig W V).length ≤ k := by
  rw [len_dig W_two]
  have : W ^ k * 2 ≤ W ^ k * W := Nat.mul_le_mul_left _ W_two
  omega
 have hl : (dig W V).length = k + 1 := by omega
 refine ⟨hl, ?_⟩
 have hv := take_val' (B := W) (dig W V) k
 rw [List.take_of_length_le (by omega), val_dig W_two] at hv
 have ht := val_lt ((lt_dig W_two V).take k)
 rw [List.length_take, Nat.min_eq_left (by omega)] at ht
 rw [Nat.add_sub_cancel]
 generalize (dig W V).getD k 0 = t at *
 rcases Nat.lt_or_ge t 9223372036854775808 with h | h
 ·exfalso
  have h3 : W ^ k * (t + 1) ≤ W ^ k * 9223372036854775808 := Nat.mul_le_mul_left _ h
  have h4 : W ^ k * 9223372036854775808 * 2 = W ^ k * W := by rw [Nat.mul_assoc, W_eq]
  rw [Nat.mul_add, Nat.mul_one] at h3
  omega
 ·exact h
end Go.Proofs.YteagjlcmgiknmaaGreatDoor

namespace Go.Proofs.YteagjlcmgiknmaaGreatDoor
open Go.RowKit

theorem lz_any (y : Nat) (h1 : y ≠ 0) (h2 : y < 18446744073709551616) : ∃ z : Nat, z ≤ 63 ∧ 9223372036854775808 ≤ y * 2 ^ z ∧ (y + 1) * 2 ^ z ≤ 18446744073709551616 ∧
  ∀ w : World, Calls Tryz.prog 199 #[.int .u64 y] w fun e w' => e = .returned (.int .i64 (z : Int)) ∧ w = w' := by
 have hb := Lib.bitLenAux_bounds 64 y h2 h1
 have hL : Lib.bitLen y ≤ 64 := Lib.bitLen_le y 64 (by omega) h2
 have hd : Lib.bitLen y = Lib.bitLenAux 64 y := rfl
 rw [← hd] at hb
 generalize hl : Lib.bitLen y = b at *
 obtain ⟨b1, b2, b3⟩ := hb
 refine ⟨64 - b, by omega, ?_, ?_, fun w => (Tryz.bits_LeadingZeros64 y w (by omega) (by omega)).mono fun e w' ⟨he, hw⟩ => ⟨?_, hw.symm⟩⟩
 ·have h3 : 2 ^ (b - 1) * 2 ^ (64 - b) ≤ y * 2 ^ (64 - b) := Nat.mul_le_mul_right _ b2
  rw [← Nat.pow_add, show b - 1 + (64 - b) = 63 by omega] at h3
  exact h3
 ·have h3 : (y + 1) * 2 ^ (64 - b) ≤ 2 ^ b * 2 ^ (64 - b) := Nat.mul_le_mul_right _ b3
  rw [← Nat.pow_add, show b + (64 - b) = 64 by omega] at h3
  exact h3
 ·rw [he, Int.toNat_natCast, hl]
  congr 2
  omega

/-- what a divisor's raising comes to: one limb more where it has but one -/
theorem lead_raise {l : List Nat} {n x z : Nat} (hl : Can W l) (hn : l.length = n) (hn0 : 0 < n) (h1 : 9223372036854775808 ≤ l.getD (n - 1) 0 * 2 ^ z) (h2 : (l.getD (n - 1) 0 + 1) * 2 ^ z ≤ 18446744073709551616) :
  W ^ (n + x) ≤ val W l * 2 ^ (z + 64 * x) * 2 ∧ val W l * 2 ^ (z + 64 * x) < W ^ (n + x) := by
 obtain ⟨k, rfl⟩ : ∃ k, n = k + 1 := ⟨n - 1, by omega⟩
 rw [Nat.add_sub_cancel] at h1 h2
 have hv := take_val' (B := W) l k
 rw [List.take_of_length_le (by omega)] at hv
 have ht := val_lt (hl.1.take k)
 rw [List.length_take, Nat.min_eq_left (by omega)] at ht
 generalize l.getD k 0 = t at *
 have hWx : 2 ^ (64 * x) = W ^ x := by rw [W_pow, Nat.pow_mul]
 rw [Nat.pow_add 2 z, hWx, Nat.pow_add W (k + 1) x, ← Nat.mul_assoc]
 have hx0 : 0 < W ^ x := Nat.pow_pos (by rw [W_eq]; omega)
 have hz0 : 0 < 2 ^ z := Nat.pow_pos (by omega)
 have e0 : W ^ (k + 1) = W ^ k * W := Nat.pow_succ ..
 constructor
 ·have h3 : W ^ k * t * 2 ^ z ≤ val W l * 2 ^ z := Nat.mul_le_mul_right _ (by omega)
  have h4 : W ^ k * 9223372036854775808 ≤ W ^ k * (t * 2 ^ z) := Nat.mul_le_mul_left _ h1
  have h5 : W ^ k * 9223372036854775808 * 2 = W ^ k * W := by rw [Nat.mul_assoc, W_eq]
  rw [Nat.mul_assoc] at h3
  have h6 : W ^ (k + 1) ≤ val W l * 2 ^ z * 2 := by omega
  have h7 : W ^ (k + 1) * W ^ x ≤ val W l * 2 ^ z * 2 * W ^ x := Nat.mul_le_mul_right _ h6
  rw [Nat.mul_right_comm (val W l * 2 ^ z)]
  exact h7
 ·refine Nat.mul_lt_mul_of_pos_right ?_ hx0
  have h3 : val W l + 1 ≤ W ^ k * (t + 1) := by rw [Nat.mul_add]; omega
  have h4 : (val W l + 1) * 2 ^ z ≤ W ^ k * (t + 1) * 2 ^ z := Nat.mul_le_mul_right _ h3
  have h5 : W ^ k * ((t + 1) * 2 ^ z) ≤ W ^ k * 18446744073709551616 := Nat.mul_le_mul_left _ h2
  rw [Nat.mul_assoc] at h4
  rw [← W_eq] at h5
  rw [Nat.add_mul, Nat.one_mul] at h4
  omega

/-- nat.quotient's end: quotient and rest. -/
def QuotDone (w : World) (x y : Nat) (e : Ending) (w' : World) : Prop :=
 ∃ A n c B m d, e = .returned (.tuple #[.slice A n c, .slice B m d]) ∧ Rd w' .u64 W A n c (dig W (x / y)) ∧ Rd w' .u64 W B m d (dig W (x % y)) ∧ Below w.heap.size w w'

theorem quotient_less {w : World} {A B : Option Addr} {n c m d : Nat} {l r : List Nat} (h : Rd w .u64 W A n c l) (h' : Rd w .u64 W B m d r) (hl : Can W l) (hr : Can W r) (hn : n ≤ 100000) (hlt : val W l < val W r) :
  Calls Tryz.prog 193 #[.slice A n c, .slice B m d] w fun e w' => QuotDone w (val W l) (val W r) e w' := by
 have ho : ∀ wx, Below w.heap.size w wx → Calls Tryz.prog 103 #[.slice A n c, .slice B m d] wx fun e w' => e = .returned (.int .i64 (-1)) ∧ Below wx.heap.size wx w' := fun wx hb => by
  have := order_any (h.below hb) (h'.below hb) hl hr
  rwa [cmpN_lt hlt] at this
 have HO : Hid _ := ho
 clear ho
 go_enter Tryz.func193, Tryz.ntmps193
 go_wp2
 go_step3
 go_wp2_with fail
 refine (HO.out w (Below.refl _ _)).mono ?_
 rintro e w1 ⟨rfl, hb1⟩
 go_wp2_with fail
 refine (clone_any (h.below hb1) (by omega)).mono ?_
 rintro e w2 ⟨A', c', rfl, hrd, hb2, _⟩
 go_wp2
 rw [Exit.noGoto_ret]
 go_ret2
 refine ⟨none, 0, 0, A', n, c', rfl, ?_, ?_, hb1.trans (hb2.mono hb1.size)⟩
 ·rw [Nat.div_eq_of_lt hlt, dig_zero]; exact Rd.nil _ _ _ _ (by omega)
 ·rw [Nat.mod_eq_of_lt hlt, dig_val W_two hl]; exact hrd
end Go.Proofs.YteagjlcmgiknmaaGreatDoor

namespace Go.Proofs.YteagjlcmgiknmaaGreatDoor
open Go.RowKit

/-- what holds of memory ahead of a round -/
structure QRel (w : World) (gu gv gq L mv cv nq V U0 k : Nat) (cur q : List Nat) (wr : World) : Prop where
 inv : QInv W V U0 L nq k cur q
 ru : Row wr gu 46 .u64 0 [] cur []
 rq : Row wr gq 46 .u64 0 [] q []
 rv : Rd wr .u64 W (some ⟨gv, 0, none⟩) mv cv (dig W V)
 bel : Below w.heap.size w wr

theorem below_row {w a b : World} {g : Nat} (h : Below w.heap.size w a) (hg : a.grownBy b (some g)) (h0 : w.heap.size ≤ g) : Below w.heap.size w b :=
 h.grown hg h.size (fun k e => by injection e with e; omega)

theorem quotient_more {w : World} {A B : Option Addr} {n c nb d : Nat} {l r : List Nat} (h : Rd w .u64 W A n c l) (h' : Rd w .u64 W B nb d r) (hl : Can W l) (hr : Can W r) (hn : n ≤ 100000) (hnb : nb ≤ 100000) (h0 : nb ≠ 0) (hge : val W r ≤ val W l) :
  Calls Tryz.prog 193 #[.slice A n c, .slice B nb d] w fun e w' => QuotDone w (val W l) (val W r) e w' := by
 have hc0 : 0 ≤ cmpN (val W l) (val W r) := by
  rcases Nat.lt_or_ge (val W r) (val W l) with h1 | h1
  ·rw [cmpN_gt h1]; decide
  ·rw [cmpN_eq (by omega)]; decide
 have ho : ∀ wx, Below w.heap.size w wx → Calls Tryz.prog 103 #[.slice A n c, .slice B nb d] wx fun e w' => ∃ t : Int, 0 ≤ t ∧ e = .returned (.int .i64 t) ∧ Below wx.heap.size wx w' := fun wx hb =>
  (order_any (h.below hb) (h'.below hb) hl hr).mono fun e w' ⟨he, hw⟩ => ⟨_, hc0, he, hw⟩
 have HO : Hid (∀ wx, Below w.heap.size w wx → Calls Tryz.prog 103 #[.slice A n c, .slice B nb d] wx fun e w' => ∃ t : Int, 0 ≤ t ∧ e = .returned (.int .i64 t) ∧ Below wx.heap.size wx w') := ho
 clear ho hc0
 have hcapb := h'.cap
 obtain ⟨b, o, rfl, hb, hc⟩ := h'.at_ h0
 obtain ⟨top, htop⟩ : ∃ x, x = r.getD (nb - 1) 0 := ⟨_, rfl⟩
 have hW0 : 0 < W := by rw [W_eq]; omega
 have htB : top < 18446744073709551616 := by rw [htop, ← W_eq]; exact h'.lt.getD hW0 _
 have ht0 : top ≠ 0 := by rw [htop]; have := hr.2 (by rw [h'.len]; exact h0); rwa [h'.len] at this
 have hcell : w.cell? ⟨b, o + (nb - 1), none⟩ = some (.int .u64 (top : Int)) := by rw [htop]; exact hc _ (by omega)
 obtain ⟨z, hz63, hz1, hz2, hz⟩ := lz_any top ht0 htB
 obtain ⟨x, hx⟩ : ∃ x, x = if nb = 1 then 1 else 0 := ⟨_, rfl⟩
 obtain ⟨s, hs⟩ : ∃ s, s = z + 64 * x := ⟨_, rfl⟩
 have hlead := lead_raise (x := x) hr h'.len (by omega) (by rw [← htop]; exact hz1) (by rw [← htop]; exact hz2)
 rw [← hs] at hlead
 have hx1 : x ≤ 1 := by rw [hx]; split <;> omega
 have hxb : (nb = 1 ∧ x = 1) ∨ (nb ≠ 1 ∧ x = 0) := by rw [hx]; split <;> omega
 have hsx : s / 64 = x := by omega
 obtain ⟨V, hV⟩ : ∃ V, V = val W r * 2 ^ s := ⟨_, rfl⟩
 obtain ⟨U0, hU0⟩ : ∃ U, U = val W l * 2 ^ s := ⟨_, rfl⟩
 rw [← hV] at hlead
 have hlt := lead_top (y := val W r) (s := s) (n := nb + x) (by rw [← hV]; exact hlead.1) (by rw [← hV]; exact hlead.2) (by omega)
 rw [← hV] at hlt
 obtain ⟨m, hm⟩ : ∃ m, nb + x = m + 2 := ⟨nb + x - 2, by omega⟩
 rw [hm] at hlead hlt
 have hrpos : 0 < val W r := by
  have := val_pos_of_last (B := W) (l := r) (by rw [h'.len]; exact h0) (hr.2 (by rw [h'.len]; exact h0))
  have := Nat.pow_pos (n := r.length - 1) hW0
  omega
 -- the first digits
 have hUV : U0 < V * W ^ (n + x + 1 - (m + 2)) := by
  have h1 := val_lt hl.1
  rw [h.len] at h1
  have h2 := val_pos_of_last (B := W) (l := r) (by rw [h'.len]; exact h0) (hr.2 (by rw [h'.len]; exact h0))
  rw [h'.len] at h2
  have hnbn : nb ≤ n := by
   rcases Nat.lt_or_ge n nb with h5 | h5
   ·have := val_lt_len W_two hl.1 hr (by rw [h.len, h'.len]; exact h5)
    omega
   ·exact h5
  have h3 : n + x + 1 - (m + 2) = n + 1 - nb := by omega
  have h4 : W ^ (nb - 1) * W ^ (n + 1 - nb) = W ^ n := by rw [← Nat.pow_add]; congr 1; omega
  have h5 : W ^ (nb - 1) * W ^ (n + 1 - nb) ≤ val W r * W ^ (n + 1 - nb) := Nat.mul_le_mul_right _ h2
  rw [hU0, hV, h3, Nat.mul_right_comm]
  exact Nat.mul_lt_mul_of_pos_right (by omega) (Nat.pow_pos (by omega))
 have hnbn : nb ≤ n := by
  rcases Nat.lt_or_ge n nb with h5 | h5
  ·have := val_lt_len W_two hl.1 hr (by rw [h.len, h'.len]; exact h5)
   omega
  ·exact h5
 have hn6 : n ≤ 1000000 := by omega
 have hnb6 : nb ≤ 1000000 := by omega
 have hs6 : s ≤ 64000000 := by omega
 have HM := Lib.hid hm
 have HS := Lib.hid hs
 have HX : Hid ((nb = 1 ∧ x = 1) ∨ (nb ≠ 1 ∧ x = 0)) := hxb
 have HSX := Lib.hid hsx
 have HX1 := Lib.hid hx1
 have HV := Lib.hid hV
 have HU := Lib.hid hU0
 have HUV : Hid (U0 < V * W ^ (n + x + 1 - (m + 2))) := hUV
 have HLT : Hid ((dig W V).length = m + 2 ∧ 9223372036854775808 ≤ (dig W V).getD (m + 2 - 1) 0) := hlt
 have HVW : Hid (V < W ^ (m + 2)) := hlead.2
 have HZ : Hid (∀ w : World, Calls Tryz.prog 199 #[.int .u64 top] w fun e w' => e = .returned (.int .i64 (z : Int)) ∧ w = w') := hz
 have HC : Hid (∀ wx, Below w.heap.size w wx → wx.cell? ⟨b, o + (nb - 1), none⟩ = some (.int .u64 (top : Int))) := fun wx hbx => (hbx.cell (by exact hb)).trans hcell
 have HR : Hid (0 < val W r) := hrpos
 clear hm hs hxb hsx hV hU0 hUV hlt hlead hz hx htop hcell hc hz1 hz2 hrpos hge hx1
 go_enter Tryz.func193, Tryz.ntmps193
 go_wp2
 go_step3
 go_wp2_with fail
 refine (HO.out w (Below.refl _ _)).mono ?_
 rintro e w1 ⟨t, ht, rfl, hb1⟩
 have hcell1 := HC.out w1 hb1
 have hp : (0 : Int) ≤ (nb : Int) - 1 := by omega
 go_upto_if 27 with (go_at_call 199; refine (HZ.out _).mono ?_; rintro e w' ⟨rfl, rfl⟩)
 go_cut [6] (fun v6 wc => v6 = .int .i64 (s : Int) ∧ w1 = wc)
 case first =>
  rcases HX.out with ⟨e1, e2⟩ | ⟨e1, e2⟩
  ·have f1 : ((nb : Int) == 1) = true := by simp; omega
   have es : Hid ((s : Int) = (z : Int) + 64) := by have := HS.out; unfold Hid; omega
   clear e1 e2
   go_wp2
   go_meet
   case rel => exact ⟨by rw [es.out], rfl⟩
  ·have f1 : ((nb : Int) == 1) = false := by simp; omega
   have es : Hid ((s : Int) = (z : Int)) := by have := HS.out; unfold Hid; omega
   clear e1 e2
   go_wp2
   go_meet
   case rel => exact ⟨by rw [es.out], rfl⟩
 case rest =>
  obtain ⟨rfl, rfl⟩ := hcut
  clear hcell1 hp HZ
  have hsb1 := hb1.size
  go_wp2_with fail
  refine (spread_any (h.below hb1) hn6 hs6).mono ?_
  rintro e w2 ⟨gu, cu, rfl, hgu, hru, hlu, hltu, hvu, hb2⟩
  have hsb2 := hb2.size
  have hgu2 := hru.gl
  obtain ⟨L, hL⟩ : ∃ L, n + s / 64 + 1 = L := ⟨_, rfl⟩
  rw [hL] at hlu ⊢
  rw [HSX.out] at hL
  have HL := Lib.hid hL
  have HLU := Lib.hid hlu
  have HVU : Hid (val W cu = U0) := by unfold Hid; rw [hvu, HU.out]
  have hL6 : L ≤ 200000 := by have := HX1.out; omega
  have hmL : m + 3 ≤ L := by have := HM.out; omega
  clear hL hlu hvu
  go_wp2_with fail
  refine (raised_any ((h'.below hb1).below hb2) hnb6 hs6).mono ?_
  rintro e w3 ⟨gv, mv, cv, rfl, hgv, hrv, hb3⟩
  rw [← HV.out] at hrv
  have hsb3 := hb3.size
  have hmv : mv = m + 2 := by rw [← hrv.len]; exact HLT.out.1
  subst hmv
  obtain ⟨nq, hnq⟩ : ∃ nq, nq = L - (m + 2) := ⟨_, rfl⟩
  have hq1 : nq + (m + 2) ≤ L := by omega
  have hq2 : L ≤ nq + (m + 2) := by omega
  clear hnq
  go_wp2_with (at_make; refine law_make rfl (.tmp 40) rfl _ nq rfl (by omega) (by omega) ?_; intro w4 hrq hg4)
  have hsb4 := hg4.size
  have hgv3 : gv < w3.heap.size := by
   obtain ⟨b', o', e', hb', _⟩ := hrv.at_ (by omega)
   injection e' with e'
   injection e' with e'
   subst e'
   exact hb'
  obtain ⟨gq, hgq⟩ : ∃ gq, gq = w3.heap.size := ⟨_, rfl⟩
  rw [← hgq] at hrq ⊢
  have hne1 : gu < gv := by omega
  have hne2 : gv < gq := by omega
  have hb4 : Below w.heap.size w w4 := ((hb1.trans (hb2.mono hsb1)).trans (hb3.mono (by omega))).grown hg4 (by omega) (fun _ e => by cases e)
  have hR0 : QRel w gu gv gq L (m + 2) cv nq V U0 nq cu (List.replicate nq 0) w4 := by
   refine ⟨⟨HLU.out, by simp, hltu, Lt.replicate _ (by rw [W_eq]; omega), by rw [val_replicate, Nat.mul_zero, Nat.add_zero]; exact HVU.out, ?_, fun i _ => getD_replicate _ _⟩, (hru.below hb3 hgu2).grownNone hg4, hrq, hrv.grownNone hg4, hb4⟩
   rw [drop_val (by rw [W_eq]; omega) hltu (by rw [HLU.out]; omega), HVU.out, Nat.div_lt_iff_lt_mul (Nat.pow_pos (by rw [W_eq]; omega)), show nq = n + x + 1 - (m + 2) by have := HL.out; omega]
   exact HUV.out
  have HR0 := Lib.hid hR0
  have hgw1 : w.heap.size ≤ gu := by omega
  have hgw2 : w.heap.size ≤ gq := by omega
  clear hR0 hgq hru hrq hrv hb1 hb2 hb3 hg4 hltu hsb1 hsb2 hsb3 hsb4 hgu hgv hgu2 hgv3 hb4 h hl h' hr HC HO HUV
  go_step3
  go_wp2
  go_loopg [10] nq (fun g v wr => ∃ (k : Nat) (cur q : List Nat), k ≤ g ∧ k ≤ nq ∧ v = .int .i64 ((k : Int) - 1) ∧ QRel w gu gv gq L (m + 2) cv nq V U0 k cur q wr)
  case atStart => exact ⟨nq, cu, _, Nat.le_refl _, Nat.le_refl _, rfl, HR0.out⟩
  case round =>
   obtain ⟨k, cur, q, hg, hk, rfl, hQ⟩ := hrel
   rcases k with _ | j
   ·have hend := q_end (HR.out) (by have := hQ.inv; rwa [HV.out, HU.out] at this)
    have hrdq := hQ.rq.rd' hQ.inv.qlt hQ.inv.qlen (Nat.le_refl _) (by omega)
    have hrdu := hQ.ru.rd' hQ.inv.lt hQ.inv.len (Nat.le_refl _) (by omega)
    have hbel := hQ.bel
    have H1 : Hid (val W q = val W l / val W r) := hend.1
    have H2 : Hid (val W cur / 2 ^ s = val W l % val W r) := hend.2
    clear hend hQ
    go_wp2_with fail
    refine (trimmed_any hrdq).mono ?_
    rintro e w' ⟨rfl, rfl⟩
    go_wp2_with fail
    refine (trimmed_any hrdu).mono ?_
    rintro e w' ⟨rfl, rfl⟩
    have hrdt := rd_trimmed hrdu
    have hlen := take_dig W_two hrdu.lt
    go_wp2_with fail
    refine (lowered_any hrdt (by have := hlen.1; rw [hrdu.len] at this; omega) hs6).mono ?_
    rintro e w5 ⟨A5, n5, c5, rfl, hrd5, hb5⟩
    rw [val_dig W_two, H2.out] at hrd5
    have hrdq2 := (rd_trimmed hrdq).below hb5
    rw [H1.out] at hrdq2
    have H1' : Hid ((dig W (val W q)).length = (dig W (val W l / val W r)).length) := by unfold Hid; rw [H1.out]
    go_wp2
    rw [Exit.noGoto_ret]
    go_ret2
    refine ⟨_, _, _, _, _, _, rfl, ?_, hrd5, hbel.trans (hb5.mono hbel.size)⟩
    first | exact hrdq2 | (rw [← H1'.out] at hrdq2; exact hrdq2) | (rw [H1'.out]; exact hrdq2)
   ·have ej : (((j + 1 : Nat) : Int) - 1) = (j : Int) := by omega
    rw [ej]
    clear ej
    have hwin := q_window W_two hQ.inv HVW.out (show j + (m + 2) + 1 ≤ L by omega)
    have hmid := hQ.ru.mid0 j (m + 2 + 1) (by rw [hQ.inv.len]; omega)
    have hrdw := hmid.rd' ((hQ.inv.lt.drop j).take (m + 2 + 1)) hwin.2.2.2.2 (show m + 2 + 1 ≤ L - j by omega) (by omega)
    obtain ⟨X, hX⟩ : ∃ X, X = val W ((cur.drop j).take (m + 2 + 1)) := ⟨_, rfl⟩
    have hgs := guess_any hrdw hQ.rv (by omega) HLT.out.2 (by rw [val_dig W_two]; exact hwin.2.2.1)
    rw [← hX, val_dig W_two] at hgs
    have HGS := Lib.hid hgs
    have HXX := Lib.hid hX
    have HQ : Hid (QRel w gu gv gq L (m + 2) cv nq V U0 (j + 1) cur q wr) := hQ
    have HG : Hid (j + 1 ≤ gk) := hg
    clear hgs hX hwin hrdw hmid hQ hg
    go_wp2_with fail
    rw [show j + (m + 2) + 1 - j = m + 3 by omega]
    refine HGS.out.mono ?_
    rintro e wg ⟨dg, rfl, hdB, hlo, hup, hbg⟩
    have HD : Hid (X / V ≤ dg ∧ dg ≤ X / V + 1) := ⟨hlo, hup⟩
    have hrqg := HQ.out.rq.below hbg HQ.out.rq.gl
    have hrug := HQ.out.ru.below hbg HQ.out.ru.gl
    have hrvg := HQ.out.rv.below hbg
    have hbelg := HQ.out.bel.trans (hbg.mono HQ.out.bel.size)
    have hql : j < q.length := by rw [HQ.out.inv.qlen]; omega
    have hcq := hrqg.cell0 hql
    have hfq := hrqg.frozen j
    clear hlo hup hbg
    -- behind the store
    have hrqs := hrqg.set0 hql dg
    have hrus := hrug.grown (grownBy_set wg gq j (.int .u64 (dg : Int))) (by omega)
    have hrvs := hrvg.grown (grownBy_set wg gq j (.int .u64 (dg : Int))) (by intro _ a ha; injection ha with ha; subst ha; show gv ≠ gq; omega)
    have hbels := below_row hbelg (grownBy_set wg gq j (.int .u64 (dg : Int))) hgw2
    have hmid := hrus.mid0 j (m + 2 + 1) (by rw [HQ.out.inv.len]; omega)
    have hwin := q_window W_two HQ.out.inv HVW.out (show j + (m + 2) + 1 ≤ L by omega)
    have HWIN := Lib.hid hwin
    have HMID : Hid (Row (wg.setCell ⟨gq, j, none⟩ (.int .u64 (dg : Int))) gu 46 .u64 j (iv .u64 (cur.take j)) ((cur.drop j).take (m + 2 + 1)) (iv .u64 (cur.drop (j + (m + 2 + 1))))) := hmid
    have HRQ : Hid (Row (wg.setCell ⟨gq, j, none⟩ (.int .u64 (dg : Int))) gq 46 .u64 0 [] (q.set j dg) []) := hrqs
    have HRV : Hid (Rd (wg.setCell ⟨gq, j, none⟩ (.int .u64 (dg : Int))) .u64 W (some ⟨gv, 0, none⟩) (m + 2) cv (dig W V)) := hrvs
    have HB : Hid (Below w.heap.size w (wg.setCell ⟨gq, j, none⟩ (.int .u64 (dg : Int)))) := hbels
    clear hmid hwin hrqs hrus hrvs hbels hrqg hrug hrvg hbelg
    go_wp2_with fail
    refine (takeTimes_any (x := dg) HMID.out ((HQ.out.inv.lt.drop j).take (m + 2 + 1)) HWIN.out.2.2.2.2 (show m + 2 + 1 ≤ L - j by omega) (by omega) HRV.out (by omega) (by intro _ a ha; injection ha with ha; subst ha; show gv ≠ gu; omega) hdB).mono ?_
    rintro e wt ⟨xs', ow, rfl, how, hrow, hgrow, hlen, hlt, hval⟩
    rw [← HXX.out, val_dig W_two, HWIN.out.2.2.2.2] at hval
    have hVp : 0 < V := by have := HQ.out.inv.up; omega
    have hqW : X / V < W := by
     rw [Nat.div_lt_iff_lt_mul hVp, HXX.out]; exact HWIN.out.2.1
    have hlen' : xs'.length = m + 2 + 1 := hlen.trans HWIN.out.2.2.2.2
    have hrqt := HRQ.out.grown hgrow (show gq ≠ gu by omega)
    have hrvt := HRV.out.grown hgrow (by intro _ a ha; injection ha with ha; subst ha; show gv ≠ gu; omega)
    have hbelt := below_row HB.out hgrow hgw1
    by_cases h0w : ow = 0
    ·have hex := take_exact hVp HD.out.1 HD.out.2 hval h0w
     have hnx := q_next W_two HQ.out.inv HVW.out (show j + (m + 2) + 1 ≤ L by omega) (by omega) hlen' hlt (by rw [← HXX.out]; exact hex.2) (by rw [← HXX.out]; exact hqW)
     rw [← HXX.out, ← hex.1] at hnx
     have HNX : Hid (QRel w gu gv gq L (m + 2) cv nq V U0 j (cur.take j ++ xs' ++ cur.drop (j + (m + 2) + 1)) (q.set j dg) wt) := ⟨hnx, hrow.unmid0 hlen', hrqt, hrvt, hbelt⟩
     subst h0w
     clear hex hnx hval hrow hgrow hlen hlt hVp hqW hlen' hrqt hrvt hbelt how
     go_wp2
     go_roundg j
     case measure => have := HG.out; omega
     case rel => exact ⟨j, _, _, Nat.le_refl _, by omega, rfl, HNX.out⟩
    ·have f1 : ((ow : Int) == 0) = false := by simp; omega
     have hdq : dg = X / V + 1 ∧ 1 ≤ dg := by
      have hv1 := val_lt hlt
      rw [hlen'] at hv1
      rcases Nat.lt_or_ge dg (X / V + 1) with h5 | h5
      ·exfalso
       have e5 : dg = X / V := by have := HD.out.1; omega
       have e6 : X / V * V ≤ X := Nat.div_mul_le_self _ _
       rw [e5] at hval
       have e7 : W ^ (m + 2 + 1) * 1 ≤ W ^ (m + 2 + 1) * ow := Nat.mul_le_mul_left _ (by omega)
       omega
      ·have := HD.out.2
       generalize X / V = qq at *
       omega
     have hqlt : j < (q.set j dg).length := by rw [List.length_set]; exact hql
     have hcqt : wt.cell? ⟨gq, j, none⟩ = some (.int .u64 (dg : Int)) := by
      have := hrqt.cell0 hqlt
      rwa [getD_set_self hql] at this
     have hfqt := hrqt.frozen j
     have hd1 := hdq.2
     have hrqs := hrqt.set0 hqlt (dg - 1)
     rw [List.set_set] at hrqs
     have hrus := hrow.grown (grownBy_set wt gq j (.int .u64 ((dg - 1 : Nat) : Int))) (by omega)
     have hrvs := hrvt.grown (grownBy_set wt gq j (.int .u64 ((dg - 1 : Nat) : Int))) (by intro _ a ha; injection ha with ha; subst ha; show gv ≠ gq; omega)
     have hbels := below_row hbelt (grownBy_set wt gq j (.int .u64 ((dg - 1 : Nat) : Int))) hgw2
     have ed : ((dg - 1 : Nat) : Int) = (dg : Int) - 1 := by omega
     rw [ed] at hrqs hrus hrvs hbels
     have HVAL : Hid (val W xs' + dg * V = X + W ^ (m + 2 + 1) * ow) := hval
     have HOW : Hid (ow ≠ 0) := h0w
     have HDQ : Hid (dg = X / V + 1) := hdq.1
     have HRQ2 : Hid (Row (wt.setCell ⟨gq, j, none⟩ (.int .u64 ((dg : Int) - 1))) gq 46 .u64 0 [] (q.set j (dg - 1)) []) := hrqs
     have HRU2 : Hid (Row (wt.setCell ⟨gq, j, none⟩ (.int .u64 ((dg : Int) - 1))) gu 46 .u64 j (iv .u64 (cur.take j)) xs' (iv .u64 (cur.drop (j + (m + 2 + 1))))) := hrus
     have HRV2 : Hid (Rd (wt.setCell ⟨gq, j, none⟩ (.int .u64 ((dg : Int) - 1))) .u64 W (some ⟨gv, 0, none⟩) (m + 2) cv (dig W V)) := hrvs
     have HB2 : Hid (Below w.heap.size w (wt.setCell ⟨gq, j, none⟩ (.int .u64 ((dg : Int) - 1)))) := hbels
     have HLEN : Hid (xs'.length = m + 2 + 1) := hlen'
     clear hrqs hrus hrvs hbels ed hval h0w hdq hlen hlen' hrow hrvt hbelt hrqt hgrow hcq hfq
     go_wp2_with fail
     refine (addTimes_any (x := 1) HRU2.out hlt HLEN.out (show m + 2 + 1 ≤ L - j by omega) (by omega) HRV2.out (by omega) (by intro _ a ha; injection ha with ha; subst ha; show gv ≠ gu; omega) (by omega)).mono ?_
     rintro e wa ⟨rfl, xs2, ca, hrow2, hgrow2, hlen2, hlt2, hval2⟩
     rw [val_dig W_two, HLEN.out] at hval2
     have hlen2' : xs2.length = m + 2 + 1 := hlen2.trans HLEN.out
     have hv1 := val_lt hlt
     have hv2 := val_lt hlt2
     rw [HLEN.out] at hv1
     rw [hlen2'] at hv2
     have hVn : V ≤ W ^ (m + 2 + 1) := Nat.le_of_lt (Nat.lt_of_lt_of_le HVW.out (Nat.pow_le_pow_right (by rw [W_eq]; omega) (by omega)))
     have hex := take_over hVp hVn HD.out.1 HD.out.2 HVAL.out HOW.out hv1 hv2 hval2
     have hnx := q_next W_two HQ.out.inv HVW.out (show j + (m + 2) + 1 ≤ L by omega) (by omega) hlen2' hlt2 (by rw [← HXX.out]; exact hex.2) (by rw [← HXX.out]; exact hqW)
     rw [← HXX.out, show X / V = dg - 1 by rw [hex.1]; rfl] at hnx
     have HNX : Hid (QRel w gu gv gq L (m + 2) cv nq V U0 j (cur.take j ++ xs2 ++ cur.drop (j + (m + 2) + 1)) (q.set j (dg - 1)) wa) := ⟨hnx, hrow2.unmid0 hlen2', HRQ2.out.grown hgrow2 (show gq ≠ gu by omega), HRV2.out.grown hgrow2 (by intro _ a ha; injection ha with ha; subst ha; show gv ≠ gu; omega), below_row HB2.out hgrow2 hgw1⟩
     clear hnx hex hval2 hrow2 hgrow2 hlen2 hlt2 hlen2' hv1 hv2 hVn
     go_wp2
     go_roundg j
     case measure => have := HG.out; omega
     case rel => exact ⟨j, _, _, Nat.le_refl _, by omega, rfl, HNX.out⟩
end Go.Proofs.YteagjlcmgiknmaaGreatDoor
