/-
 Contract of dec's timesPower, at this translation. Condition: the row is the caller's own and holds a natural's groups.
-/
import Derived.Test.YtefofejgogokpaaGreatDoorQKm
set_option maxHeartbeats 1000000
set_option maxRecDepth 100000
namespace Go.Proofs.YtefofejgogokpaaGreatDoor
open Go.RowKit

theorem timesPower_any {w : World} {b0 : Nat} {v : Value} {V base k n : Nat} (hown : Own b0 w 39 .u64 v (dig D19 V)) (hnl : (dig D19 V).length ≤ n) (hn : n ≤ 5000) (hb1 : 1 ≤ base) (hb2 : base ≤ 10) (hk : k ≤ 2000) (hb : b0 ≤ w.heap.size) :
  Calls Tryz.prog 99 #[v, .int .u64 (base : Int), .int .i64 (k : Int)] w (fun en w' => ∃ v', en = .returned v' ∧ Own b0 w' 39 .u64 v' (dig D19 (V * base ^ k)) ∧ (dig D19 (V * base ^ k)).length ≤ n + 2 * (k + 1) ∧ Below b0 w w') := by
 obtain ⟨d, hd⟩ : ∃ d, d = 18446744073709551615 / base := ⟨_, rfl⟩
 have r1 : (18446744073709551615 : Int) / (base : Int) = (d : Int) := by rw [hd]; exact (Int.natCast_ediv _ _).symm
 have hdb : d * base ≤ 18446744073709551615 := by rw [hd]; exact Nat.div_mul_le_self _ _
 have e0 : ((base : Int) == 0) = false := by simp; omega
 obtain ⟨Z, hZ⟩ : ∃ Z, Z = V * base ^ k := ⟨_, rfl⟩
 have BB := Below.refl b0 w
 have HNL := Lib.hid hnl
 have HDB := Lib.hid hdb
 clear hd hnl hdb
 rw [← hZ]
 have HZ := Lib.hid hZ
 clear hZ
 go_enter Tryz.func99, Tryz.ntmps99
 go_wp2
 go_loopg [0, 7, 9] k (fun gk v0 v7 v9 wr => ∃ (i U fac : Nat), i + gk = k ∧ v9 = .int .i64 i ∧ v7 = .int .u64 fac ∧ Own b0 wr 39 .u64 v0 (dig D19 U) ∧ Hid ((dig D19 U).length ≤ n + 2 * i) ∧ 1 ≤ fac ∧ fac < 18446744073709551616 ∧ Hid (U * fac = V * base ^ i) ∧ Below b0 w wr)
 case atStart => exact ⟨0, V, 1, by omega, rfl, rfl, hown, Lib.hid (by have := HNL.out; omega), by omega, by omega, Lib.hid (by rw [Nat.mul_one, Nat.pow_zero, Nat.mul_one]), BB⟩
 case round =>
  clear hown BB
  obtain ⟨i, U, fac, hg, rfl, rfl, hown, HLn, hf1, hf2, HU, BB⟩ := hrel
  have HG := Lib.hid hg
  clear hg
  by_cases hi : i < k
  ·by_cases hfd : d < fac
   ·have hbs : b0 ≤ wr.heap.size := Nat.le_trans hb BB.size
    go_wp2_with fail
    refine (times_any (m0 := 0) (n := (dig D19 U).length) hown (can_dig D19_two U) hf1 rfl (by have := HLn.out; omega) hf2 (by omega) hbs).mono ?_
    rw [val_dig D19_two, Nat.add_zero]
    rintro en w1 ⟨v1, rfl, hown1, hl1, b⟩
    have HL1 := Lib.hid hl1
    have BB1 := BB.trans b
    clear hown b hl1 BB
    go_wp2
    go_roundg (gk - 1)
    case measure => have := HG.out; omega
    case rel => exact ⟨i + 1, U * fac, base, by have := HG.out; omega, by go_num, by go_num, hown1, Lib.hid (by have := HL1.out; have := HLn.out; omega), hb1, by omega, Lib.hid (by rw [HU.out, Nat.pow_succ, Nat.mul_assoc]), BB1⟩
   ·obtain ⟨p, hp⟩ : ∃ p, p = fac * base := ⟨_, rfl⟩
    have hp1 : p ≤ 18446744073709551615 := by rw [hp]; exact Nat.le_trans (Nat.mul_le_mul_right _ (by omega)) HDB.out
    have hp2 : 1 ≤ p := by rw [hp]; exact Nat.mul_pos hf1 hb1
    have r2 : (fac : Int) * (base : Int) = (p : Int) := by rw [hp]; exact (Int.natCast_mul _ _).symm
    have HP := Lib.hid hp
    clear hp
    go_wp2
    go_roundg (gk - 1)
    case measure => have := HG.out; omega
    case rel => exact ⟨i + 1, U, p, by have := HG.out; omega, by go_num, by go_num, hown, Lib.hid (by have := HLn.out; omega), hp2, by omega, Lib.hid (by rw [HP.out, ← Nat.mul_assoc, HU.out, Nat.pow_succ, Nat.mul_assoc]), BB⟩
  obtain rfl : i = k := by have := HG.out; omega
  have hbs : b0 ≤ wr.heap.size := Nat.le_trans hb BB.size
  go_wp2_with fail
  refine (times_any (m0 := 0) (n := (dig D19 U).length) hown (can_dig D19_two U) hf1 rfl (by have := HLn.out; omega) hf2 (by omega) hbs).mono ?_
  rw [val_dig D19_two, Nat.add_zero]
  rintro en w1 ⟨v1, rfl, hown1, hl1, b⟩
  have HL1 := Lib.hid hl1
  have BB1 := BB.trans b
  have hU := HU.out.trans HZ.out.symm
  rw [hU] at hown1 HL1
  clear hown b hl1 BB hU
  go_wp2
  go_ret
  exact ⟨_, rfl, hown1, by have := HL1.out; have := HLn.out; omega, BB1⟩
end Go.Proofs.YtefofejgogokpaaGreatDoor
