/-
 Facts on what is written of a number and read again. No condition; nothing of the program is named here.
-/
import Derived.Test.YtefofejgogokpaaGreatDoorUVh
import Derived.Test.YtefofejgogokpaaGreatDoorUKs
namespace Go.Proofs.YtefofejgogokpaaGreatDoor

theorem valD_zeros (k : Nat) (l : List Nat) : valD (List.replicate k 0 ++ l) = valD l := by
 unfold valD
 rw [List.foldl_append]
 have h : (List.replicate k 0).foldl (fun a x => a * 10 + x) 0 = 0 := by
  induction k with
  | zero => rfl
  | succ k ih => rw [List.replicate_succ, List.foldl_cons]; exact ih
 rw [h]
theorem num_asc {l : List Nat} (h : ∀ x ∈ l, x < 10) : numV ((asc l).map UInt8.ofNat) = valD l ∧ Digs ((asc l).map UInt8.ofNat) := by
 have ht : ∀ x, x < 10 → (UInt8.ofNat (48 + x)).toNat = 48 + x := fun x hx => UInt8.toNat_ofNat_of_lt' (by show 48 + x < 256; omega)
 constructor
 ·unfold numV valD
  generalize 0 = a
  induction l generalizing a with
  | nil => rfl
  | cons x xs ih =>
   show (((asc xs).map UInt8.ofNat).foldl _ (a * 10 + ((UInt8.ofNat (48 + x)).toNat - 48))) = xs.foldl _ (a * 10 + x)
   rw [ht x (h x List.mem_cons_self), Nat.add_sub_cancel_left]
   exact ih (fun y hy => h y (List.mem_cons_of_mem _ hy)) _
 ·intro c hc
  obtain ⟨y, hy, rfl⟩ := List.mem_map.1 hc
  obtain ⟨x, hx, rfl⟩ := List.mem_map.1 hy
  have := h x hx
  refine isDig_iff.2 ?_
  rw [ht x this]
  omega
theorem padT_lt (n Q : Nat) : ∀ x ∈ padT n Q, x < 10 := fun x hx => (List.mem_append.1 hx).elim (fun hh => by rw [(List.mem_replicate.1 hh).2]; decide) (decD_lt Q x)
theorem padT_len (n Q : Nat) : n + 1 ≤ (padT n Q).length := by
 unfold padT
 rw [List.length_append, List.length_replicate]
 omega
/-- what is written reads as it was meant -/
theorem read_text {n Q : Nat} (hl : (pointT n (asc (padT n Q))).length ≤ 60) : ∃ D, readD ((pointT n (asc (padT n Q))).map UInt8.ofNat) = some (D, -(n : Int)) ∧ numV D = Q ∧ Digs D ∧ D.length ≤ 60 := by
 obtain ⟨h1, h2⟩ := num_asc (padT_lt n Q)
 have h3 : valD (padT n Q) = Q := by unfold padT; rw [valD_zeros, valD_dec]
 rw [h3] at h1
 have h4 := padT_len n Q
 have h5 : ((asc (padT n Q)).map UInt8.ofNat).length = (padT n Q).length := by rw [List.length_map, asc_len]
 have h6 : (asc (padT n Q)).length = (padT n Q).length := asc_len _
 by_cases h0 : n = 0
 ·have e : pointT n (asc (padT n Q)) = asc (padT n Q) := by unfold pointT; rw [if_pos h0]
  rw [e] at hl ⊢
  rw [h6, ← h5] at hl
  refine ⟨_, ?_, h1, h2, hl⟩
  rw [read_plain h2 (fun h => by rw [h] at h5; simp at h5; omega) hl, h0]
  rfl
 ·have e : pointT n (asc (padT n Q)) = (asc (padT n Q)).take ((asc (padT n Q)).length - n) ++ 46 :: (asc (padT n Q)).drop ((asc (padT n Q)).length - n) := by unfold pointT; rw [if_neg h0]
  rw [e] at hl ⊢
  rw [List.map_append, List.map_cons, List.map_take, List.map_drop, show UInt8.ofNat 46 = 46 from rfl]
  rw [List.length_append, List.length_cons, List.length_take, List.length_drop] at hl
  generalize hk : (asc (padT n Q)).length - n = k at *
  generalize (asc (padT n Q)).map UInt8.ofNat = D at *
  have l1 : (D.take k).length = k := by rw [List.length_take]; omega
  have l2 : (D.drop k).length = n := by rw [List.length_drop]; omega
  refine ⟨D, ?_, h1, h2, by omega⟩
  have := read_point (digs_take h2 k) (fun h => by rw [h] at l1; simp at l1; omega) (digs_drop h2 k) (fun h => by rw [h] at l2; simp at l2; omega) (by omega)
  rw [List.take_append_drop, l2] at this
  exact this
theorem vz_plain {K m : Nat} {e : Int} : vz K false m e = ((m * 2 ^ (e + K).toNat : Nat) : Int) := by
 unfold vz
 rw [show sg false = 1 from rfl, Int.one_mul]
/-- what is written, as value: down and up -/
theorem textQ_val {K m n : Nat} {e : Int} (hK : 4194304 ≤ K) (h1 : -60 ≤ e) :
  ((textQ false m e n false * 2 ^ K : Nat) : Int) ≤ vz K false m e * ((10 ^ n : Nat) : Int) ∧ vz K false m e * ((10 ^ n : Nat) : Int) ≤ ((textQ false m e n true * 2 ^ K : Nat) : Int) ∧ (textQ false m e n false = textQ false m e n true ↔ ((textQ false m e n false * 2 ^ K : Nat) : Int) = vz K false m e * ((10 ^ n : Nat) : Int)) := by
 rw [vz_plain, ← Int.natCast_mul, Int.ofNat_le, Int.ofNat_le, Int.ofNat_inj]
 unfold textQ
 by_cases he : 0 ≤ e
 ·rw [if_pos he, if_pos he]
  obtain ⟨j, rfl⟩ := Int.eq_ofNat_of_zero_le he
  have e1 : ((j : Int) + (K : Int)).toNat = j + K := by omega
  rw [e1, Int.toNat_natCast, Nat.pow_add]
  have e2 : m * (2 ^ j * 2 ^ K) * 10 ^ n = m * 2 ^ j * 10 ^ n * 2 ^ K := by ac_rfl
  rw [e2]
  exact ⟨Nat.le_refl _, Nat.le_refl _, ⟨fun _ => rfl, fun _ => rfl⟩⟩
 ·rw [if_neg he, if_neg he]
  obtain ⟨j, rfl⟩ : ∃ j : Nat, e = -(j : Int) := ⟨(-e).toNat, by omega⟩
  have e1 : (-(j : Int) + (K : Int)).toNat = K - j := by omega
  rw [e1, show (-(-(j : Int))).toNat = j by omega]
  have e3 : 2 ^ K = 2 ^ j * 2 ^ (K - j) := by rw [← Nat.pow_add]; congr 1; omega
  have e2 : m * 2 ^ (K - j) * 10 ^ n = m * 10 ^ n * 2 ^ (K - j) := by ac_rfl
  rw [e2, e3]
  have hp : 0 < 2 ^ (K - j) := Nat.pow_pos (by omega)
  have hj : 0 < 2 ^ j := Nat.pow_pos (by omega)
  have hd := Nat.div_add_mod (m * 10 ^ n) (2 ^ j)
  have hm := Nat.mod_lt (m * 10 ^ n) hj
  generalize m * 10 ^ n = X at *
  generalize 2 ^ (K - j) = Y at *
  generalize 2 ^ j = J at *
  rw [← Nat.mul_assoc, ← Nat.mul_assoc, Nat.mul_comm _ J, Nat.mul_comm _ J]
  generalize X / J = q at *
  generalize X % J = r at *
  rw [if_neg (fun hh => by cases hh.1), Nat.add_zero]
  subst hd
  refine ⟨Nat.mul_le_mul_right _ (by omega), Nat.mul_le_mul_right _ ?_, ?_⟩
  ·split
   ·rw [Nat.mul_add]; omega
   ·rename_i h
    have : r = 0 := by
     rcases Nat.eq_zero_or_pos r with h0 | h0
     ·exact h0
     ·exact absurd ⟨rfl, by omega⟩ h
    rw [Nat.add_zero]
    omega
  ·constructor
   ·intro h
    split at h
    ·omega
    ·rename_i h9
     have : r = 0 := by
      rcases Nat.eq_zero_or_pos r with h0 | h0
      ·exact h0
      ·exact absurd ⟨rfl, by omega⟩ h9
     rw [this, Nat.add_zero]
   ·intro h
    have h7 := Nat.eq_of_mul_eq_mul_right hp h
    have : r = 0 := by omega
    rw [if_neg (fun hh => hh.2 this), Nat.add_zero]
/-- what Exact tells of it is the number itself just if nothing was cut off -/
theorem exact_back {K m n Q : Nat} {e : Int} {D : List UInt8} (hK : 4194304 ≤ K) (hn : n ≤ 60) (hD : numV D = Q) (hd : OkD false m e) {k : Int} {s' : Bool} {m' : Nat} {e' : Int} (h : ExP (some (D, -(n : Int))) k s' m' e') :
  (k = 0 ∧ s' = false ∧ m' = m ∧ e' = e) ↔ ((Q * 2 ^ K : Nat) : Int) = vz K false m e * ((10 ^ n : Nat) : Int) := by
 unfold ExP at h
 dsimp only at h
 rw [hD, show (-(n : Int)).toNat = 0 by omega, show (-(-(n : Int))).toNat = n by omega, Nat.pow_zero, Nat.mul_one] at h
 have e3 : 2 ^ K = 2 ^ (K - n) * 2 ^ n := by rw [← Nat.pow_add]; congr 1; omega
 have e4 : 10 ^ n = 2 ^ n * 5 ^ n := by rw [← Nat.mul_pow]
 have h5 : 0 < 5 ^ n := Nat.pow_pos (by omega)
 have hz : vz K false (Q / 5 ^ n) (-(n : Int)) = ((Q / 5 ^ n * 2 ^ (K - n) : Nat) : Int) := by rw [vz_plain, show (-(n : Int) + (K : Int)).toNat = K - n by omega]
 constructor
 ·rintro ⟨rfl, rfl, rfl, rfl⟩
  split at h
  ·rename_i hr
   have h1 := nm_value (K := K) (by omega) h
   rw [h1, hz, ← Int.natCast_mul, Int.ofNat_inj, e3, e4]
   have h2 := Nat.div_add_mod Q (5 ^ n)
   rw [hr, Nat.add_zero] at h2
   generalize Q / 5 ^ n = q at *
   rw [← h2]
   ac_rfl
  ·cases h.1
 ·intro hv
  have hv2 := hv
  rw [vz_plain, ← Int.natCast_mul, Int.ofNat_inj, e4] at hv
  have hr : Q % 5 ^ n = 0 := by
   refine Nat.mod_eq_zero_of_dvd ?_
   have hc : Nat.Coprime (5 ^ n) (2 ^ K) := Nat.Coprime.pow_left n (Nat.Coprime.pow_right K (by decide))
   refine hc.dvd_of_dvd_mul_right ?_
   rw [hv, ← Nat.mul_assoc]
   exact Nat.dvd_mul_left _ _
  rw [if_pos hr] at h
  refine nmv_hit hK ⟨_, _, _, by omega, rfl, h⟩ hd ?_
  rw [hz]
  have h2 := Nat.div_add_mod Q (5 ^ n)
  rw [hr, Nat.add_zero] at h2
  have hP : (0 : Int) < ((10 ^ n : Nat) : Int) := by have : 0 < 10 ^ n := Nat.pow_pos (by omega); omega
  refine Int.eq_of_mul_eq_mul_right (Int.ne_of_gt hP) ?_
  rw [← hv2, ← Int.natCast_mul, Int.ofNat_inj, e3, e4]
  generalize Q / 5 ^ n = q at *
  rw [← h2]
  ac_rfl
end Go.Proofs.YtefofejgogokpaaGreatDoor
