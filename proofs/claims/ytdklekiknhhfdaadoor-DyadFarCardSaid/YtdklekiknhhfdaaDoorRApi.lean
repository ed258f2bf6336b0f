/-
  Contracts of nat.Len, Low, Shl, Shr where they tell of what may not be, of nought, or of a great shift, at this translation. Condition: the slice reads as limbs.
-/
import Derived.Test.YtdklekiknhhfdaaDoorRShl
namespace Go.Proofs.YtdklekiknhhfdaaDoor
open Go.RowKit

theorem len_bad {w : World} {A : Option Addr} {n c : Nat} {l : List Nat} (h : Rd w .u64 W A n c l) (hb : mayB l = false) : Calls Tryd.prog 39 #[.slice A n c] w fun e w' => e = .returned (.int .i64 0) ∧ w = w' := by
  go_enter Tryd.func39, Tryd.ntmps39
  go_wp2_with fail
  refine (may_no h hb).mono ?_
  rintro e w' ⟨rfl, rfl⟩
  go_wp2
  go_ret
  exact ⟨rfl, rfl⟩
theorem low_bad {w : World} {A : Option Addr} {n c : Nat} {l : List Nat} (h : Rd w .u64 W A n c l) (hb : mayB l = false) : Calls Tryd.prog 40 #[.slice A n c] w fun e w' => e = .returned (.int .i64 (-1)) ∧ w = w' := by
  go_enter Tryd.func40, Tryd.ntmps40
  go_wp2
  go_step3
  go_wp2_with fail
  refine (may_no h hb).mono ?_
  rintro e w' ⟨rfl, rfl⟩
  go_wp2
  rw [Exit.noGoto_ret]
  go_ret
  exact ⟨rfl, rfl⟩
theorem shr_bad {w : World} {A : Option Addr} {n c : Nat} {l : List Nat} {s : Int} (h : Rd w .u64 W A n c l) (hb : mayB l = false) :
    Calls Tryd.prog 35 #[.slice A n c, .int .i64 s] w fun e w' => e = .returned (.tuple #[.slice none 0 0, .int .i64 1]) ∧ w = w' := by
  go_enter Tryd.func35, Tryd.ntmps35
  go_wp2_with fail
  refine (may_no h hb).mono ?_
  rintro e w' ⟨rfl, rfl⟩
  go_wp2
  go_ret2
  exact ⟨rfl, rfl⟩
theorem shr_neg {w : World} {A : Option Addr} {n c x : Nat} {s : Int} (h : Nt w A n c x) (hs : s < 0) :
    Calls Tryd.prog 35 #[.slice A n c, .int .i64 s] w fun e w' => e = .returned (.tuple #[.slice none 0 0, .int .i64 1]) ∧ w = w' := by
  have d1 : decide (s < 0) = true := decide_eq_true hs
  go_enter Tryd.func35, Tryd.ntmps35
  go_wp2_with fail
  refine (may_nt h).mono ?_
  rintro e w' ⟨rfl, rfl⟩
  go_wp2
  go_ret2
  exact ⟨rfl, rfl⟩
theorem shl_neg {w : World} {A : Option Addr} {n c x : Nat} {s : Int} (h : Nt w A n c x) (hs : s < 0) :
    Calls Tryd.prog 34 #[.slice A n c, .int .i64 s] w fun e w' => e = .returned (.tuple #[.slice none 0 0, .int .i64 1]) ∧ w = w' := by
  have d1 : decide (s < 0) = true := decide_eq_true hs
  go_enter Tryd.func34, Tryd.ntmps34
  go_wp2_with fail
  refine (may_nt h).mono ?_
  rintro e w' ⟨rfl, rfl⟩
  go_wp2
  go_ret2
  exact ⟨rfl, rfl⟩
theorem shl_nought {w : World} {A : Option Addr} {c s : Nat} (h : Nt w A 0 c 0) :
    Calls Tryd.prog 34 #[.slice A 0 c, .int .i64 s] w fun e w' => e = .returned (.tuple #[.slice none 0 0, .int .i64 0]) ∧ w = w' := by
  go_enter Tryd.func34, Tryd.ntmps34
  go_wp2_with fail
  refine (may_nt h).mono ?_
  rintro e w' ⟨rfl, rfl⟩
  go_wp2
  go_ret2
  exact ⟨rfl, rfl⟩
theorem lowered_far {w : World} {A : Option Addr} {n c s : Nat} (hn : n ≤ s / 64) (hs : (s : Int) ≤ 9223372036854775807) :
    Calls Tryd.prog 81 #[.slice A n c, .int .i64 s] w fun e w' => e = .returned (.slice none 0 0) ∧ w = w' := by
  obtain ⟨q, hq⟩ : ∃ q, q = s / 64 := ⟨_, rfl⟩
  have e1 : (s : Int) / 64 = (q : Int) := by omega
  have hle : n ≤ q := by omega
  have d1 : decide (n ≤ q) = true := decide_eq_true hle
  have hqI : (q : Int) ≤ 9223372036854775807 := by omega
  clear hq hn
  go_enter Tryd.func81, Tryd.ntmps81
  go_wp2
  go_step3
  go_wp2
  rw [Exit.noGoto_ret]
  go_ret
  exact ⟨rfl, rfl⟩
theorem shr_far {w : World} {A : Option Addr} {n c x s : Nat} (h : Nt w A n c x) (hs : n ≤ s / 64) (hs63 : (s : Int) ≤ 9223372036854775807) :
    Calls Tryd.prog 35 #[.slice A n c, .int .i64 s] w fun e w' => e = .returned (.tuple #[.slice none 0 0, .int .i64 0]) ∧ w = w' := by
  go_enter Tryd.func35, Tryd.ntmps35
  go_wp2_with fail
  refine (may_nt h).mono ?_
  rintro e w' ⟨rfl, rfl⟩
  go_wp2_with fail
  refine (lowered_far hs hs63).mono ?_
  rintro e w' ⟨rfl, rfl⟩
  go_wp2
  go_ret2
  exact ⟨rfl, rfl⟩

theorem dg_small {w : World} {A : Option Addr} {n c x k : Nat} (h : Dg w A n c x) (hx : x < H ^ k) : n ≤ k := by
  rw [← h.len]; exact (len_dig H_two x k).2 hx
theorem from_small {w : World} {B : Option Addr} {m d : Nat} {l : List Nat} (hl : Lt W l) (hn : l.length ≤ 70) (h : Dg w B m d (val W l)) : m ≤ 280 := by
  obtain ⟨k, hk⟩ : ∃ k, k = 280 := ⟨_, rfl⟩
  rw [← hk]
  have hH : 0 < H := by rw [H_eq]; omega
  have h1 := val_lt hl
  rw [W_pow_H] at h1
  exact dg_small h (Nat.lt_of_lt_of_le h1 (Nat.pow_le_pow_right hH (by omega)))
end Go.Proofs.YtdklekiknhhfdaaDoor
