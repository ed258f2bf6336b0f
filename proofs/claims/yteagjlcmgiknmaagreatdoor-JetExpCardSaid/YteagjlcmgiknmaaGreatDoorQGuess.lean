/-
 Contract of nat.guess at this translation. Condition: the dividend's part has one limb more than the divisor and is, without its lowest limb, less than it; the divisor has two limbs at least and its highest bit is 1.
-/
import Derived.Test.YteagjlcmgiknmaaGreatDoorQLower
import Derived.Test.YteagjlcmgiknmaaGreatDoorQGuessN
import Derived.BigGuardPart
import Derived.Lib.ItoaNum
import Derived.Deep.DeepCutAuto
import Derived.Deep.CutBlock
set_option maxHeartbeats 1000000
set_option maxRecDepth 100000
namespace Go.Proofs.YteagjlcmgiknmaaGreatDoor
open Go.RowKit

theorem bitLen_top {x : Nat} (h1 : 9223372036854775808 ≤ x) (h2 : x < 18446744073709551616) : Lib.bitLen x = 64 := by
 have h := Lib.bitLenAux_bounds 64 x h2 (by omega)
 have h3 : Lib.bitLen x = Lib.bitLenAux 64 x := rfl
 rw [h3]
 have h4 : Lib.bitLenAux 64 x ≤ 64 := Lib.bitLen_le x 64 (by omega) h2
 rcases Nat.lt_or_ge (Lib.bitLenAux 64 x) 64 with h5 | h5
 ·have := Nat.pow_le_pow_right (n := 2) (by omega) (show Lib.bitLenAux 64 x ≤ 63 by omega)
  omega
 ·omega

theorem lz_top (y : Nat) (h1 : 9223372036854775808 ≤ y) (h2 : y < 18446744073709551616) (w : World) :
  Calls Tryz.prog 199 #[.int .u64 y] w fun e w' => e = .returned (.int .i64 0) ∧ w = w' :=
 (Tryz.bits_LeadingZeros64 y w (by omega) (by omega)).mono fun e w' ⟨he, hw⟩ => ⟨by rw [he, Int.toNat_natCast, bitLen_top h1 h2]; rfl, hw.symm⟩

def Div64Done (w : World) (hi lo y : Nat) (e : Ending) (w' : World) : Prop :=
 ∃ q r : Nat, e = .returned (.tuple #[.int .u64 (q : Int), .int .u64 (r : Int)]) ∧ q * y + r = hi * 18446744073709551616 + lo ∧ r < y ∧ q < 18446744073709551616 ∧ ∃ k, w' = w.drewN k

theorem div64_any {w : World} {hi lo y : Nat} (h1 : 9223372036854775808 ≤ y) (h2 : y < 18446744073709551616) (hhi : hi < y) (hlo : lo < 18446744073709551616) :
  Calls Tryz.prog 201 #[.int .u64 hi, .int .u64 lo, .int .u64 y] w fun e w' => Div64Done w hi lo y e w' := by
 have b0 : ((y : Int) == 0) = false := by simp; omega
 have b1 : decide (y ≤ hi) = false := by simpa using hhi
 by_cases h0 : hi = 0
 ·subst h0
  obtain ⟨q, hq⟩ : ∃ q, q = lo / y := ⟨_, rfl⟩
  obtain ⟨r, hr⟩ : ∃ r, r = lo % y := ⟨_, rfl⟩
  have r1 : (lo : Int) / (y : Int) = (q : Int) := by rw [hq]; exact (Int.natCast_ediv _ _).symm
  have r2 : (lo : Int) % (y : Int) = (r : Int) := by rw [hr]; exact (Int.natCast_emod _ _).symm
  have hqB : q < 18446744073709551616 := by rw [hq]; exact Nat.lt_of_le_of_lt (Nat.div_le_self _ _) hlo
  have hD : q * y + r = 0 * 18446744073709551616 + lo := by rw [hq, hr, Nat.zero_mul, Nat.zero_add, Nat.mul_comm]; exact Nat.div_add_mod _ _
  have hry : r < y := by rw [hr]; exact Nat.mod_lt _ (by omega)
  have HD := Lib.hid hD
  clear hq hr hD
  go_enter Tryz.func201, Tryz.ntmps201
  go_wp2
  go_quiet (fail)
  go_wp2
  go_ret2
  exact ⟨q, r, by rw [← r2]; rfl, HD.out, hry, hqB, _, rfl⟩
 ·have b2 : ((hi : Int) == 0) = false := by simp [h0]
  obtain ⟨yn1, hyn1⟩ : ∃ yn1, yn1 = y / 4294967296 := ⟨_, rfl⟩
  obtain ⟨yn0, hyn0⟩ : ∃ yn0, yn0 = y % 4294967296 := ⟨_, rfl⟩
  obtain ⟨un1, hun1⟩ : ∃ un1, un1 = lo / 4294967296 := ⟨_, rfl⟩
  obtain ⟨un0, hun0⟩ : ∃ un0, un0 = lo % 4294967296 := ⟨_, rfl⟩
  have a1 : yn1 * 4294967296 + yn0 = y := by rw [hyn1, hyn0, Nat.mul_comm]; exact Nat.div_add_mod _ _
  have hL : un1 * 4294967296 + un0 = lo := by rw [hun1, hun0, Nat.mul_comm]; exact Nat.div_add_mod _ _
  have HL := Lib.hid hL
  clear hL
  have a2 : yn0 < 4294967296 := by omega
  have a4 : un1 < 4294967296 := by omega
  have a5 : un0 < 4294967296 := by omega
  have a6 : 4294967296 ≤ 2 * yn1 := by omega
  have a7 : yn1 < 4294967296 := by omega
  obtain ⟨HS, hm⟩ := half_start a1 a2 hhi a4 a6 a7
  obtain ⟨q1, hq1⟩ : ∃ q1, q1 = hi / yn1 := ⟨_, rfl⟩
  rw [← hq1] at HS hm
  obtain ⟨m1, hm1⟩ : ∃ m1, m1 = q1 * yn1 := ⟨_, rfl⟩
  rw [← hm1] at HS hm
  have r1 : (y : Int) / 4294967296 = (yn1 : Int) := by omega
  have r2 : bits BinOp.and .u64 (y : Int) 4294967295 = (yn0 : Int) := by
   have := bits_and_u64_nat y 4294967295 h2 (by omega)
   rw [Nat.and_two_pow_sub_one_eq_mod y 32] at this
   rw [hyn0]; exact this
  have r3 : (lo : Int) / 4294967296 = (un1 : Int) := by omega
  have r4 : bits BinOp.and .u64 (lo : Int) 4294967295 = (un0 : Int) := by
   have := bits_and_u64_nat lo 4294967295 hlo (by omega)
   rw [Nat.and_two_pow_sub_one_eq_mod lo 32] at this
   rw [hun0]; exact this
  have r5 : bits BinOp.or .u64 (hi : Int) ((lo : Int) / 18446744073709551616) = (hi : Int) := by
   have := bits_or_u64_nat hi 0 (by omega) (by omega)
   rw [Nat.or_zero] at this
   have e : (lo : Int) / 18446744073709551616 = ((0 : Nat) : Int) := by omega
   rw [e]; exact this
  have r6 : (hi : Int) / (yn1 : Int) = (q1 : Int) := by rw [hq1]; exact (Int.natCast_ediv _ _).symm
  have r7 : (q1 : Int) * (yn1 : Int) = (m1 : Int) := by rw [hm1]; exact (Int.natCast_mul _ _).symm
  have hy1 : 1 ≤ yn1 := by omega
  have HY := Lib.hid a1
  have HQ := Lib.hid hq1
  have hm1' : (m1 : Int) ≤ hi := by omega
  obtain ⟨rh, hrh⟩ : ∃ rh, rh = hi - m1 := ⟨_, rfl⟩
  have r8 : (hi : Int) - (m1 : Int) = (rh : Int) := by omega
  rw [← hrh] at HS
  have hq1b : q1 ≤ 4294967297 := HS.q_le
  have hrb := HS.rh_lt
  clear hyn1 hyn0 hun1 hun0 hq1 hm1 a1 hrh
  go_enter Tryz.func201, Tryz.ntmps201
  go_upto_block 0 with (go_at_call 199; refine (lz_top y h1 h2 _).mono ?_; rintro e w' ⟨rfl, rfl⟩)
  clear r1 r2 r3 r4 r5 r6 r7 r8 hm1'
  go_cut [15] (fun v wc => ∃ qa : Nat, v = .int .u64 qa ∧ qa ≤ 4294967295 ∧ Hid (qa = (hi * 4294967296 + un1) / y) ∧ w = wc)
  case first =>
   have HSS : Hid (HalfInv 4294967296 hi un1 y yn1 yn0 q1 rh) := HS
   have hQB : Hid ((hi * 4294967296 + un1) / y ≤ 4294967295) := by
    unfold Hid
    apply Nat.le_of_lt_succ
    rw [Nat.div_lt_iff_lt_mul (by omega)]
    omega
   have HQB : Hid ((hi * 4294967296 + un1) / y ≤ 4294967295) := by
    unfold Hid
    apply Nat.le_of_lt_succ
    rw [Nat.div_lt_iff_lt_mul (by omega)]
    show hi * 4294967296 + un1 < 4294967296 * y
    omega
   clear HS
   go_wp2
   go_loopg [15, 16] q1 (fun g v u wr => ∃ q rr : Nat, q ≤ g ∧ v = .int .u64 q ∧ u = .int .u64 rr ∧ HalfInv 4294967296 hi un1 y yn1 yn0 q rr ∧ w = wr)
   case atStart => exact ⟨q1, rh, Nat.le_refl _, rfl, rfl, HSS.out, rfl⟩
   case round =>
    obtain ⟨q, rr, hqg, rfl, rfl, hI, rfl⟩ := hrel
    have hq2 : q ≤ 4294967297 := hI.q_le
    have hr2 := hI.rh_lt
    have HI : Hid (HalfInv 4294967296 hi un1 y yn1 yn0 q rr) := hI
    clear hI
    have HG : Hid (q ≤ gk) := hqg
    clear hq1b hrb HL hhi hlo h1 h0 hm a6 hqg b0 b1 b2
    by_cases hc1 : 4294967296 ≤ q
    ·have i1 : (4294967296 : Int) ≤ q := by omega
     by_cases hc2 : 4294967296 ≤ rr + yn1
     ·have hbr := half_break HI.out (.inl hc1) hc2
      have HB := Lib.hid hbr
      have i2 : (4294967296 : Int) ≤ (rr : Int) + yn1 := by omega
      clear hbr hc1 hc2
      go_wp2
      go_meet
      case rel => exact ⟨q - 1, by go_num, by rw [HB.out]; exact HQB.out, HB, rfl⟩
     ·have hnx := half_next HI.out (.inl hc1) (by omega)
      have HB : Hid _ := hnx
      have i3 : Hid (0 < q) := show 0 < q by omega
      have i2 : (rr : Int) + yn1 < 4294967296 := by omega
      have d2 : decide ((4294967296 : Int) ≤ (rr : Int) + yn1) = false := decide_eq_false (by omega)
      clear hnx hc1 hc2
      go_wp2
      go_roundg (q - 1)
      case measure => have := i3.out; have := HG.out; omega
      case rel => exact ⟨q - 1, rr + yn1, Nat.le_refl _, by go_num, by go_num, HB.out, rfl⟩
    ·obtain ⟨p, hp⟩ : ∃ p, p = q * yn0 := ⟨_, rfl⟩
     have hpB : p ≤ 4294967295 * 4294967295 := by rw [hp]; exact Nat.mul_le_mul (by omega) (by omega)
     have hpB' : p ≤ 18446744065119617025 := hpB
     have rp : (q : Int) * (yn0 : Int) = (p : Int) := by rw [hp]; exact (Int.natCast_mul _ _).symm
     have d1 : decide ((4294967296 : Int) ≤ (q : Int)) = false := decide_eq_false (by omega)
     clear hpB
     by_cases hc3 : 4294967296 * rr + un1 < p
     ·have d3 : (4294967296 : Int) * (rr : Int) + (un1 : Int) < (p : Int) := by omega
      have hq0 : 0 < q := by
       rcases Nat.eq_zero_or_pos q with h | h
       ·rw [h, Nat.zero_mul] at hp; omega
       ·exact h
      have i1 : (1 : Int) ≤ q := by omega
      have i3 : Hid (0 < q) := hq0
      by_cases hc2 : 4294967296 ≤ rr + yn1
      ·have hbr := half_break HI.out (.inr (by rw [← hp]; exact hc3)) hc2
       have HB := Lib.hid hbr
       have i2 : (4294967296 : Int) ≤ (rr : Int) + yn1 := by omega
       clear hbr hp hc1 hc2 hc3
       go_wp2
       go_meet
       case rel => exact ⟨q - 1, by go_num, by rw [HB.out]; exact HQB.out, HB, rfl⟩
      ·have hnx := half_next HI.out (.inr (by rw [← hp]; exact hc3)) (by omega)
       have HB : Hid _ := hnx
       have i2 : (rr : Int) + yn1 < 4294967296 := by omega
       have d2 : decide ((4294967296 : Int) ≤ (rr : Int) + yn1) = false := decide_eq_false (by omega)
       clear hnx hp hc1 hc2 hc3
       go_wp2
       go_roundg (q - 1)
       case measure => have := i3.out; have := HG.out; omega
       case rel => exact ⟨q - 1, rr + yn1, Nat.le_refl _, by go_num, by go_num, HB.out, rfl⟩
     ·have hbr := half_exit HI.out (by rw [← hp]; omega)
      have HB := Lib.hid hbr
      have d3 : decide ((4294967296 : Int) * (rr : Int) + (un1 : Int) < (p : Int)) = false := decide_eq_false (by omega)
      clear hbr hp hc1 hc3
      go_wp2
      go_meet
      case rel => exact ⟨q, rfl, by rw [HB.out]; exact HQB.out, HB, rfl⟩
  case rest =>
   obtain ⟨qa, rfl, hqa, HQA, rfl⟩ := hcut
   obtain ⟨un21, hun21⟩ : ∃ un21, un21 = (hi * 4294967296 + un1) % y := ⟨_, rfl⟩
   have hyp : 0 < y := by omega
   have hun : un21 < y := by rw [hun21]; exact Nat.mod_lt _ hyp
   have hN1 : hi * 4294967296 + un1 = qa * y + un21 := by rw [hun21, HQA.out, Nat.mul_comm _ y]; exact (Nat.div_add_mod _ _).symm
   obtain ⟨P1, hP1⟩ : ∃ P1, P1 = qa * y := ⟨_, rfl⟩
   have s0 : (qa : Int) * (y : Int) = (P1 : Int) := by rw [hP1]; exact (Int.natCast_mul _ _).symm
   rw [← hP1] at hN1
   have s1 : IntKind.u64.wrap (IntKind.u64.wrap (IntKind.u64.wrap ((hi : Int) * 4294967296) + (un1 : Int)) - IntKind.u64.wrap (P1 : Int)) = (un21 : Int) := by
    simp only [IntKind.wrap_u64]
    omega
   obtain ⟨HS2, hm2⟩ := half_start (b := 4294967296) (un := un0) (y := y) HY.out a2 hun a5 a6 a7
   obtain ⟨q0, hq0⟩ : ∃ q0, q0 = un21 / yn1 := ⟨_, rfl⟩
   rw [← hq0] at HS2 hm2
   obtain ⟨m0, hm0⟩ : ∃ m0, m0 = q0 * yn1 := ⟨_, rfl⟩
   rw [← hm0] at HS2 hm2
   obtain ⟨rh0, hrh0⟩ : ∃ rh0, rh0 = un21 - m0 := ⟨_, rfl⟩
   have s2 : (un21 : Int) / (yn1 : Int) = (q0 : Int) := by rw [hq0]; exact (Int.natCast_ediv _ _).symm
   have s3 : (q0 : Int) * (yn1 : Int) = (m0 : Int) := by rw [hm0]; exact (Int.natCast_mul _ _).symm
   have s4 : (un21 : Int) - (m0 : Int) = (rh0 : Int) := by omega
   have s5 : (m0 : Int) ≤ un21 := by omega
   rw [← hrh0] at HS2
   have hq0b : q0 ≤ 4294967297 := HS2.q_le
   have hr0b := HS2.rh_lt
   have HSS : Hid (HalfInv 4294967296 un21 un0 y yn1 yn0 q0 rh0) := HS2
   have HU := Lib.hid hun21
   have HQB : Hid ((un21 * 4294967296 + un0) / y ≤ 4294967295) := by
    unfold Hid
    apply Nat.le_of_lt_succ
    rw [Nat.div_lt_iff_lt_mul hyp]
    show un21 * 4294967296 + un0 < 4294967296 * y
    omega
   clear hun21 hN1 hP1 hq0 hm0 hrh0 HS2 HS hm2 hq1b hrb
   go_upto_block 2 with fail
   clear s0 s1 s2 s3 s4 s5
   go_cut [18] (fun v wc => ∃ qb : Nat, v = .int .u64 qb ∧ qb ≤ 4294967295 ∧ Hid (qb = (un21 * 4294967296 + un0) / y) ∧ w = wc)
   case first =>
    go_wp2
    go_loopg [18, 16] q0 (fun g v u wr => ∃ q rr : Nat, q ≤ g ∧ v = .int .u64 q ∧ u = .int .u64 rr ∧ HalfInv 4294967296 un21 un0 y yn1 yn0 q rr ∧ w = wr)
    case atStart => exact ⟨q0, rh0, Nat.le_refl _, rfl, rfl, HSS.out, rfl⟩
    case round =>
     obtain ⟨q, rr, hqg, rfl, rfl, hI, rfl⟩ := hrel
     have hq2 : q ≤ 4294967297 := hI.q_le
     have hr2 := hI.rh_lt
     have HI : Hid (HalfInv 4294967296 un21 un0 y yn1 yn0 q rr) := hI
     clear hI
     have HG : Hid (q ≤ gk) := hqg
     clear hq0b hr0b HL hlo h1 h0 hm a6 hqg b0 b1 b2
     by_cases hc1 : 4294967296 ≤ q
     ·have i1 : (4294967296 : Int) ≤ q := by omega
      by_cases hc2 : 4294967296 ≤ rr + yn1
      ·have hbr := half_break HI.out (.inl hc1) hc2
       have HB := Lib.hid hbr
       have i2 : (4294967296 : Int) ≤ (rr : Int) + yn1 := by omega
       clear hbr hc1 hc2
       go_wp2
       go_meet
       case rel => exact ⟨q - 1, by go_num, by rw [HB.out]; exact HQB.out, HB, rfl⟩
      ·have hnx := half_next HI.out (.inl hc1) (by omega)
       have HB : Hid _ := hnx
       have i3 : Hid (0 < q) := show 0 < q by omega
       have i2 : (rr : Int) + yn1 < 4294967296 := by omega
       have d2 : decide ((4294967296 : Int) ≤ (rr : Int) + yn1) = false := decide_eq_false (by omega)
       clear hnx hc1 hc2
       go_wp2
       go_roundg (q - 1)
       case measure => have := i3.out; have := HG.out; omega
       case rel => exact ⟨q - 1, rr + yn1, Nat.le_refl _, by go_num, by go_num, HB.out, rfl⟩
     ·obtain ⟨p, hp⟩ : ∃ p, p = q * yn0 := ⟨_, rfl⟩
      have hpB : p ≤ 4294967295 * 4294967295 := by rw [hp]; exact Nat.mul_le_mul (by omega) (by omega)
      have hpB' : p ≤ 18446744065119617025 := hpB
      have rp : (q : Int) * (yn0 : Int) = (p : Int) := by rw [hp]; exact (Int.natCast_mul _ _).symm
      have d1 : decide ((4294967296 : Int) ≤ (q : Int)) = false := decide_eq_false (by omega)
      clear hpB
      by_cases hc3 : 4294967296 * rr + un0 < p
      ·have d3 : (4294967296 : Int) * (rr : Int) + (un0 : Int) < (p : Int) := by omega
       have hq0 : 0 < q := by
        rcases Nat.eq_zero_or_pos q with h | h
        ·rw [h, Nat.zero_mul] at hp; omega
        ·exact h
       have i1 : (1 : Int) ≤ q := by omega
       have i3 : Hid (0 < q) := hq0
       by_cases hc2 : 4294967296 ≤ rr + yn1
       ·have hbr := half_break HI.out (.inr (by rw [← hp]; exact hc3)) hc2
        have HB := Lib.hid hbr
        have i2 : (4294967296 : Int) ≤ (rr : Int) + yn1 := by omega
        clear hbr hp hc1 hc2 hc3
        go_wp2
        go_meet
        case rel => exact ⟨q - 1, by go_num, by rw [HB.out]; exact HQB.out, HB, rfl⟩
       ·have hnx := half_next HI.out (.inr (by rw [← hp]; exact hc3)) (by omega)
        have HB : Hid _ := hnx
        have i2 : (rr : Int) + yn1 < 4294967296 := by omega
        have d2 : decide ((4294967296 : Int) ≤ (rr : Int) + yn1) = false := decide_eq_false (by omega)
        clear hnx hp hc1 hc2 hc3
        go_wp2
        go_roundg (q - 1)
        case measure => have := i3.out; have := HG.out; omega
        case rel => exact ⟨q - 1, rr + yn1, Nat.le_refl _, by go_num, by go_num, HB.out, rfl⟩
      ·have hbr := half_exit HI.out (by rw [← hp]; omega)
       have HB := Lib.hid hbr
       have d3 : decide ((4294967296 : Int) * (rr : Int) + (un0 : Int) < (p : Int)) = false := decide_eq_false (by omega)
       clear hbr hp hc1 hc3
       go_wp2
       go_meet
       case rel => exact ⟨q, rfl, by rw [HB.out]; exact HQB.out, HB, rfl⟩
   case rest =>
    obtain ⟨qb, rfl, hqb, HQBB, rfl⟩ := hcut
    obtain ⟨r, hr⟩ : ∃ r, r = (un21 * 4294967296 + un0) % y := ⟨_, rfl⟩
    have hry : r < y := by rw [hr]; exact Nat.mod_lt _ hyp
    have hN2 : un21 * 4294967296 + un0 = qb * y + r := by rw [hr, HQBB.out, Nat.mul_comm _ y]; exact (Nat.div_add_mod _ _).symm
    obtain ⟨P2, hP2⟩ : ∃ P2, P2 = qb * y := ⟨_, rfl⟩
    have s0 : (qb : Int) * (y : Int) = (P2 : Int) := by rw [hP2]; exact (Int.natCast_mul _ _).symm
    rw [← hP2] at hN2
    have s1 : IntKind.u64.wrap (IntKind.u64.wrap (IntKind.u64.wrap ((un21 : Int) * 4294967296) + (un0 : Int)) - IntKind.u64.wrap (P2 : Int)) = (r : Int) := by
     simp only [IntKind.wrap_u64]
     omega
    have HD : Hid ((qa * 4294967296 + qb) * y + r = hi * 18446744073709551616 + lo) := by
     unfold Hid
     rw [hr, HQBB.out, HU.out, HQA.out, half_all, HL.out]
    have HR : Hid (r < y) := hry
    clear hr hN2 hP2 hry
    go_wp2
    go_ret2
    exact ⟨qa * 4294967296 + qb, r, rfl, HD.out, HR.out, by omega, 0, rfl⟩

/-- The same, where quotient and rest have names. -/
theorem div64_exact {w : World} {hi lo y q r : Nat} (h1 : 9223372036854775808 ≤ y) (h2 : y < 18446744073709551616) (hhi : hi < y) (hlo : lo < 18446744073709551616) (hq : q * y + r = hi * 18446744073709551616 + lo) (hr : r < y) :
  Calls Tryz.prog 201 #[.int .u64 hi, .int .u64 lo, .int .u64 y] w fun e w' => e = .returned (.tuple #[.int .u64 (q : Int), .int .u64 (r : Int)]) ∧ ∃ m, w' = w.drewN m :=
 (div64_any h1 h2 hhi hlo).mono fun e w' ⟨q', r', he, hd, hr', _, hw⟩ => by
  have hy : 0 < y := by omega
  have e1 : q = (hi * 18446744073709551616 + lo) / y := by rw [← hq, Nat.mul_comm, Nat.mul_add_div hy, Nat.div_eq_of_lt hr, Nat.add_zero]
  have e2 : q' = (hi * 18446744073709551616 + lo) / y := by rw [← hd, Nat.mul_comm, Nat.mul_add_div hy, Nat.div_eq_of_lt hr', Nat.add_zero]
  obtain rfl : q' = q := by rw [e1, e2]
  obtain rfl : r' = r := by omega
  exact ⟨he, hw⟩
end Go.Proofs.YteagjlcmgiknmaaGreatDoor

namespace Go.Proofs.YteagjlcmgiknmaaGreatDoor
open Go.RowKit

theorem top_two {B : Nat} {l : List Nat} {m : Nat} (hl : l.length = m + 2) : val B l = val B (l.take m) + B ^ m * (l.getD m 0 + B * l.getD (m + 1) 0) := by
 have h1 := take_val' (B := B) l m
 have h2 := take_val' (B := B) l (m + 1)
 rw [List.take_of_length_le (l := l) (i := m + 1 + 1) (by omega), h1, Nat.pow_succ] at h2
 rw [h2, Nat.mul_add, Nat.mul_assoc, Nat.add_assoc]
theorem top_three {B : Nat} {l : List Nat} {m : Nat} (hl : l.length = m + 3) : val B l = val B (l.take m) + B ^ m * (l.getD m 0 + B * (l.getD (m + 1) 0 + B * l.getD (m + 2) 0)) := by
 have h1 := take_val' (B := B) l m
 have h2 := take_val' (B := B) l (m + 1)
 have h3 := take_val' (B := B) l (m + 1 + 1)
 rw [List.take_of_length_le (l := l) (i := m + 1 + 1 + 1) (by omega), h2, h1] at h3
 rw [h3]
 simp only [Nat.mul_add, Nat.mul_assoc, Nat.add_assoc, Nat.pow_succ]

theorem top_le {B : Nat} (hB : 2 ≤ B) {l r : List Nat} {m : Nat} (hl : l.length = m + 1) (hr : r.length = m + 1) (hrt : Lt B r) (h : val B l < val B r) : l.getD m 0 ≤ r.getD m 0 := by
 have h1 := take_val' (B := B) l m
 have h2 := take_val' (B := B) r m
 rw [List.take_of_length_le (by omega)] at h1 h2
 have h3 := val_lt (hrt.take m)
 rw [List.length_take, Nat.min_eq_left (by omega)] at h3
 rcases Nat.lt_or_ge (r.getD m 0) (l.getD m 0) with h4 | h4
 ·exfalso
  have : B ^ m * (r.getD m 0 + 1) ≤ B ^ m * l.getD m 0 := Nat.mul_le_mul_left _ h4
  rw [Nat.mul_add, Nat.mul_one] at this
  have := hB
  omega
 ·exact h4

def GuessDone (w : World) (x y : Nat) (e : Ending) (w' : World) : Prop :=
 ∃ d : Nat, e = .returned (.int .u64 (d : Int)) ∧ d < 18446744073709551616 ∧ x / y ≤ d ∧ d ≤ x / y + 1 ∧ Below w.heap.size w w'

theorem guess_any {w : World} {A B : Option Addr} {m ck cm : Nat} {lw lv : List Nat} (h : Rd w .u64 W A (m + 3) ck lw) (h' : Rd w .u64 W B (m + 2) cm lv) (hm : m ≤ 1000000)
  (htop : 9223372036854775808 ≤ lv.getD (m + 1) 0) (hlt : val W (lw.drop 1) < val W lv) :
  Calls Tryz.prog 200 #[.slice A (m + 3 : Nat) ck, .slice B (m + 2 : Nat) cm] w fun e w' => GuessDone w (val W lw) (val W lv) e w' := by
 obtain ⟨a, o, rfl, ha, hca⟩ := h.at_ (by omega)
 obtain ⟨b, p, rfl, hb, hcb⟩ := h'.at_ (by omega)
 obtain ⟨w2, hw2⟩ : ∃ x, x = lw.getD (m + 2) 0 := ⟨_, rfl⟩
 obtain ⟨w1, hw1⟩ : ∃ x, x = lw.getD (m + 1) 0 := ⟨_, rfl⟩
 obtain ⟨w0, hw0⟩ : ∃ x, x = lw.getD m 0 := ⟨_, rfl⟩
 obtain ⟨top, htop'⟩ : ∃ x, x = lv.getD (m + 1) 0 := ⟨_, rfl⟩
 obtain ⟨next, hnext⟩ : ∃ x, x = lv.getD m 0 := ⟨_, rfl⟩
 have hW0 : 0 < W := by rw [W_eq]; omega
 have b2 : w2 < 18446744073709551616 := by rw [hw2, ← W_eq]; exact h.lt.getD hW0 _
 have b1 : w1 < 18446744073709551616 := by rw [hw1, ← W_eq]; exact h.lt.getD hW0 _
 have b0 : w0 < 18446744073709551616 := by rw [hw0, ← W_eq]; exact h.lt.getD hW0 _
 have bt : top < 18446744073709551616 := by rw [htop', ← W_eq]; exact h'.lt.getD hW0 _
 have bn : next < 18446744073709551616 := by rw [hnext, ← W_eq]; exact h'.lt.getD hW0 _
 rw [← htop'] at htop
 have hle : w2 ≤ top := by
  have := top_le W_two (l := lw.drop 1) (r := lv) (m := m + 1) (by rw [List.length_drop, h.len]; omega) h'.len h'.lt hlt
  rw [← htop'] at this
  have e : (lw.drop 1).getD (m + 1) 0 = lw.getD (m + 2) 0 := by
   simp only [List.getD_eq_getElem?_getD, List.getElem?_drop]
   congr 2
   omega
  rw [e, ← hw2] at this
  exact this
 have cw2 : w.cell? ⟨a, o + (m + 2), none⟩ = some (.int .u64 (w2 : Int)) := by rw [hw2]; exact hca _ (by omega)
 have cw1 : w.cell? ⟨a, o + (m + 1), none⟩ = some (.int .u64 (w1 : Int)) := by rw [hw1]; exact hca _ (by omega)
 have cw0 : w.cell? ⟨a, o + m, none⟩ = some (.int .u64 (w0 : Int)) := by rw [hw0]; exact hca _ (by omega)
 have ct : w.cell? ⟨b, p + (m + 1), none⟩ = some (.int .u64 (top : Int)) := by rw [htop']; exact hcb _ (by omega)
 have cn : w.cell? ⟨b, p + m, none⟩ = some (.int .u64 (next : Int)) := by rw [hnext]; exact hcb _ (by omega)
 -- the arithmetic, laid aside
 have HDone : Hid (∀ d r, GInv W top next w2 w1 w0 d r → d * next ≤ r * W + w0 → val W lw / val W lv ≤ d ∧ d ≤ val W lw / val W lv + 1) := by
  intro d r hI hc
  have e1 := top_three (B := W) h.len
  have e2 := top_two (B := W) h'.len
  rw [← hw2, ← hw1, ← hw0] at e1
  rw [← htop', ← hnext] at e2
  have l1 := val_lt (h.lt.take m)
  have l2 := val_lt (h'.lt.take m)
  rw [List.length_take, Nat.min_eq_left (by rw [h.len]; omega)] at l1
  rw [List.length_take, Nat.min_eq_left (by rw [h'.len]; omega)] at l2
  refine ginv_done W_two (by omega) hI hc l1 l2 e2 e1 ?_
  have e3 : val W lw = lw.getD 0 0 + W * val W (lw.drop 1) := by
   have := val_take_drop (B := W) lw 1
   have e4 : lw.take 1 = [lw.getD 0 0] := by
    have hh := h.len
    rcases lw with _ | ⟨x, t⟩
    ·simp at hh
    ·rfl
   rw [e4] at this
   simpa [val] using this
  have e5 : lw.getD 0 0 < W := h.lt.getD hW0 _
  have e6 : W * (val W (lw.drop 1) + 1) ≤ W * val W lv := Nat.mul_le_mul_left _ hlt
  rw [Nat.mul_add, Nat.mul_one] at e6
  omega
 clear hw2 hw1 hw0 htop' hnext hlt hca hcb h h'
 go_enter Tryz.func200, Tryz.ntmps200
 go_wp2
 go_step3
 go_wp2
 go_upto_region 2 with fail
 go_cut [6, 7] (fun v6 v7 wc => v6 = .int .u64 top ∧ v7 = .int .u64 next ∧ Below w.heap.size w wc)
 case first =>
  have k1 : IntKind.i64.wrap ((m : Int) + 2 - 1) = (m : Int) + 1 := by rw [IntKind.wrap_i64]; omega
  have k2 : IntKind.i64.wrap ((m : Int) + 2 - 2) = (m : Int) := by rw [IntKind.wrap_i64]; omega
  have k3 : ((m : Int) + 1).toNat = m + 1 := by omega
  go_quiet (fail)
  go_wp2
  go_meet
  case rel => exact ⟨rfl, rfl, below_drewN (Below.refl _ _) _⟩
 case rest =>
  obtain ⟨rfl, rfl, hbel⟩ := hcut
  have cw2' : wc.cell? ⟨a, o + (m + 2), none⟩ = some (.int .u64 (w2 : Int)) := (hbel.cell (by exact ha)).trans cw2
  have cw1' : wc.cell? ⟨a, o + (m + 1), none⟩ = some (.int .u64 (w1 : Int)) := (hbel.cell (by exact ha)).trans cw1
  have cw0' : wc.cell? ⟨a, o + m, none⟩ = some (.int .u64 (w0 : Int)) := (hbel.cell (by exact ha)).trans cw0
  clear cw2 cw1 ct cn
  go_upto_if 30 with fail
  go_cut [8, 9, 10] (fun v8 v9 v10 w2c => ∃ d rs ov : Nat, v8 = .int .u64 d ∧ v9 = .int .u64 rs ∧ v10 = .int .u64 ov ∧ rs < 18446744073709551616 ∧ ov ≤ 1 ∧ GInv W top next w2 w1 w0 d (rs + W * ov) ∧ Below w.heap.size w w2c)
  case first =>
   by_cases hw : w2 < top
   ·obtain ⟨q, hq⟩ : ∃ q, q = (w2 * 18446744073709551616 + w1) / top := ⟨_, rfl⟩
    obtain ⟨r, hr⟩ : ∃ r, r = (w2 * 18446744073709551616 + w1) % top := ⟨_, rfl⟩
    have hqr : q * top + r = w2 * 18446744073709551616 + w1 := by rw [hq, hr, Nat.mul_comm]; exact Nat.div_add_mod _ _
    have hrt : r < top := by rw [hr]; exact Nat.mod_lt _ (by omega)
    have HG : Hid (GInv W top next w2 w1 w0 q r) := ginv_start W_two (by rw [W_eq]; exact hqr) hrt hw (by rw [W_eq]; exact b1) (by rw [W_eq]; exact b0)
    have HQ := Lib.hid hqr
    clear hq hr hqr
    have k1 : IntKind.i64.wrap ((m : Int) + 2 - 1) = (m : Int) + 1 := by rw [IntKind.wrap_i64]; omega
    have k3 : ((m : Int) + 1).toNat = m + 1 := by omega
    have k4 : ((m : Int) + 2).toNat = m + 2 := by omega
    go_wp2
    go_quiet ((go_at_call 201; exact Calls.quiet_of (div64_exact htop bt hw b1 HQ.out hrt)))
    go_wp2
    go_meet
    case rel => exact ⟨q, r, 0, rfl, rfl, rfl, by omega, by omega, by rw [Nat.mul_zero, Nat.add_zero]; exact HG.out, below_drewN hbel _⟩
   ·have he : w2 = top := by omega
    obtain ⟨s, c, hrun, hs, hsB, hc⟩ := add64 w1 top b1 bt
    subst he
    have HG : Hid (GInv W w2 next w2 w1 w0 (W - 1) (s + W * c)) := by
     unfold Hid
     rw [W_eq, hs]
     exact ginv_start_top (by omega)
    clear hs hw
    go_wp2
    go_meet
    case rel => exact ⟨18446744073709551615, s, c, rfl, rfl, rfl, hsB, hc, HG.out, hbel⟩
  case rest =>
   obtain ⟨d, rs, ov, rfl, rfl, rfl, hrs, hov, hI, hbel2⟩ := hcut
   have HI0 : Hid (GInv W top next w2 w1 w0 d (rs + W * ov)) := hI
   clear hI cw2' cw1' cw0' hle
   have HC : Hid (∀ wx, Below w.heap.size w wx → wx.cell? ⟨a, o + m, none⟩ = some (.int .u64 (w0 : Int))) := fun wx hb => (hb.cell (by exact ha)).trans cw0
   go_wp2
   go_step3
   go_wp2
   go_loopg [8, 9, 10] d (fun g v8 v9 v10 wr => ∃ d rs ov : Nat, d ≤ g ∧ v8 = .int .u64 d ∧ v9 = .int .u64 rs ∧ v10 = .int .u64 ov ∧ rs < 18446744073709551616 ∧ ov ≤ 1 ∧ GInv W top next w2 w1 w0 d (rs + W * ov) ∧ Below w.heap.size w wr)
   case atStart => exact ⟨d, rs, ov, Nat.le_refl _, rfl, rfl, rfl, hrs, hov, HI0.out, hbel2⟩
   case round =>
    obtain ⟨d, rs, ov, hdg, rfl, rfl, rfl, hrs, hov, hI, hbel3⟩ := hrel
    have hdB : d < 18446744073709551616 := by have := hI.le; rw [W_eq] at this; omega
    have HI : Hid (GInv W top next w2 w1 w0 d (rs + W * ov)) := hI
    have HG : Hid (d ≤ gk) := hdg
    have HB0 : Hid (w0 < W) := by unfold Hid; rw [W_eq]; exact b0
    clear hI hdg
    by_cases h0 : ov = 0
    ·subst h0
     obtain ⟨hi, hhi⟩ : ∃ hi, hi = d * next / 18446744073709551616 := ⟨_, rfl⟩
     obtain ⟨lo, hlo⟩ : ∃ lo, lo = d * next % 18446744073709551616 := ⟨_, rfl⟩
     have hp : hi * W + lo = d * next := by rw [hhi, hlo, Nat.mul_comm, W_eq]; exact Nat.div_add_mod _ _
     have hloW : lo < W := by rw [hlo, W_eq]; exact Nat.mod_lt _ (by omega)
     have hcall : ∀ wx, Calls Tryz.prog 133 #[.int .u64 (d : Int), .int .u64 (next : Int)] wx fun e w' => e = .returned (.tuple #[.int .u64 (hi : Int), .int .u64 (lo : Int)]) ∧ wx = w' := fun wx =>
      (Tryz.bits_Mul64 d next hdB bn wx).mono fun e w' ⟨he, hw⟩ => ⟨by rw [he, hhi, hlo], hw.symm⟩
     have HCALL : Hid (∀ wx, Calls Tryz.prog 133 #[.int .u64 (d : Int), .int .u64 (next : Int)] wx fun e w' => e = .returned (.tuple #[.int .u64 (hi : Int), .int .u64 (lo : Int)]) ∧ wx = w') := hcall
     have HP := Lib.hid hp
     have HL : Hid (lo < W) := hloW
     have hcw0 := HC.out wr hbel3
     clear hhi hlo hp hloW hcall
     have HOUT : d * next ≤ rs * W + w0 → Hid (GuessDone w (val W lw) (val W lv) (.returned (.int .u64 (d : Int))) wr) := fun hc => by
      have := HDone.out d (rs + W * 0) HI.out (by rw [Nat.mul_zero, Nat.add_zero]; exact hc)
      exact ⟨d, rfl, hdB, this.1, this.2, hbel3⟩
     have HNEXT : rs * W + w0 < d * next → Hid (GInv W top next w2 w1 w0 (d - 1) (rs + top) ∧ 0 < d) := fun hc => by
      have := ginv_next (by rw [W_eq]; omega) HI.out (by rw [Nat.mul_zero, Nat.add_zero]; exact hc)
      rwa [Nat.mul_zero, Nat.add_zero] at this
     have HOUT' : Hid (d * next ≤ rs * W + w0 → Hid (GuessDone w (val W lw) (val W lv) (.returned (.int .u64 (d : Int))) wr)) := HOUT
     have HNEXT' : Hid (rs * W + w0 < d * next → Hid (GInv W top next w2 w1 w0 (d - 1) (rs + top) ∧ 0 < d)) := HNEXT
     clear HOUT HNEXT
     by_cases c1 : hi < rs
     ·have hout := HOUT'.out (by
       rw [← HP.out]
       have : (hi + 1) * W ≤ rs * W := Nat.mul_le_mul_right _ c1
       rw [Nat.add_mul, Nat.one_mul] at this
       have := HL.out
       omega)
      go_wp2_with (go_at_call 133; refine (HCALL.out _).mono ?_; rintro e w' ⟨rfl, rfl⟩)
      rw [Exit.noGoto_ret]
      go_ret
      exact hout
     ·by_cases c2 : hi = rs
      ·subst c2
       by_cases c3 : lo ≤ w0
       ·have hout := HOUT'.out (by rw [← HP.out]; omega)
        clear c1
        go_wp2_with (go_at_call 133; refine (HCALL.out _).mono ?_; rintro e w' ⟨rfl, rfl⟩)
        rw [Exit.noGoto_ret]
        go_ret
        exact hout
       ·have hnx := HNEXT'.out (by rw [← HP.out]; omega)
        have hd0 : 1 ≤ d := hnx.out.2
        obtain ⟨s, c, hrun, hs, hsB, hc⟩ := add64 hi top hrs bt
        have HS := Lib.hid hs
        clear hs c1
        go_wp2_with (go_at_call 133; refine (HCALL.out _).mono ?_; rintro e w' ⟨rfl, rfl⟩)
        go_roundg (d - 1)
        case measure => have := HG.out; omega
        case rel => exact ⟨d - 1, s, c, Nat.le_refl _, by go_num, rfl, rfl, hsB, hc, by rw [W_eq, HS.out, ← W_eq]; exact hnx.out.1, hbel3⟩
      ·have hnx := HNEXT'.out (by
        rw [← HP.out]
        have : (rs + 1) * W ≤ hi * W := Nat.mul_le_mul_right _ (by omega)
        rw [Nat.add_mul, Nat.one_mul] at this
        have := HB0.out
        omega)
       have hd0 : 1 ≤ d := hnx.out.2
       obtain ⟨s, c, hrun, hs, hsB, hc⟩ := add64 rs top hrs bt
       have HS := Lib.hid hs
       have f2 : ((hi : Int) == (rs : Int)) = false := by simp; omega
       clear hs c2
       go_wp2_with (go_at_call 133; refine (HCALL.out _).mono ?_; rintro e w' ⟨rfl, rfl⟩)
       go_roundg (d - 1)
       case measure => have := HG.out; omega
       case rel => exact ⟨d - 1, s, c, Nat.le_refl _, by go_num, rfl, rfl, hsB, hc, by rw [W_eq, HS.out, ← W_eq]; exact hnx.out.1, hbel3⟩
    ·obtain rfl : ov = 1 := by omega
     have hout : GuessDone w (val W lw) (val W lv) (.returned (.int .u64 (d : Int))) wr := by
      have := HDone.out d (rs + W * 1) HI.out (by
       have h1 : d * next ≤ (W - 1) * (W - 1) := Nat.mul_le_mul (by have := HI.out.le; exact this) (by rw [W_eq]; omega)
       have h2 : (W - 1) * (W - 1) ≤ W * 1 * W := by rw [W_eq]; omega
       rw [Nat.add_mul]
       omega)
      exact ⟨d, rfl, hdB, this.1, this.2, hbel3⟩
     have HOUT : Hid (GuessDone w (val W lw) (val W lv) (.returned (.int .u64 (d : Int))) wr) := hout
     clear hout
     go_wp2
     rw [Exit.noGoto_ret]
     go_ret
     exact HOUT.out
end Go.Proofs.YteagjlcmgiknmaaGreatDoor
