/-
  Contract of math/bits.Div64 at this translation, where the divisor's highest bit is 1. Condition: all three are below 2^64, the upper limb is below the divisor.
-/
import Derived.Test.YtdklekiknhhfdaaDoorLower
import Derived.Test.YtdklekiknhhfdaaDoorHalf
import Derived.BigGuardPart
import Derived.Lib.ItoaNum
import Derived.Deep.DeepCutAuto
import Derived.Deep.CutBlock
namespace Go.Proofs.YtdklekiknhhfdaaDoor
open Go.RowKit

theorem bitLen_top {x : Nat} (h1 : 9223372036854775808 ≤ x) (h2 : x < 18446744073709551616) : Lib.bitLen x = 64 := by
  have h := Lib.bitLenAux_bounds 64 x h2 (by omega)
  have h3 : Lib.bitLen x = Lib.bitLenAux 64 x := rfl
  rw [h3]
  have h4 : Lib.bitLenAux 64 x ≤ 64 := Lib.bitLen_le x 64 (by omega) h2
  rcases Nat.lt_or_ge (Lib.bitLenAux 64 x) 64 with h5 | h5
  · have := Nat.pow_le_pow_right (n := 2) (by omega) (show Lib.bitLenAux 64 x ≤ 63 by omega)
    omega
  · omega

theorem lz_top (y : Nat) (h1 : 9223372036854775808 ≤ y) (h2 : y < 18446744073709551616) (w : World) :
    Calls Tryd.prog 106 #[.int .u64 y] w fun e w' => e = .returned (.int .i64 0) ∧ w = w' :=
  (Tryd.bits_LeadingZeros64 y w (by omega) (by omega)).mono fun e w' ⟨he, hw⟩ => ⟨by rw [he, Int.toNat_natCast, bitLen_top h1 h2]; rfl, hw.symm⟩

def Div64Done (w : World) (hi lo y : Nat) (e : Ending) (w' : World) : Prop :=
  ∃ q r : Nat, e = .returned (.tuple #[.int .u64 (q : Int), .int .u64 (r : Int)]) ∧ q * y + r = hi * 18446744073709551616 + lo ∧ r < y ∧ q < 18446744073709551616 ∧ ∃ k, w' = w.drewN k

set_option maxRecDepth 100000 in
set_option maxHeartbeats 1000000 in
theorem div64_any {w : World} {hi lo y : Nat} (h1 : 9223372036854775808 ≤ y) (h2 : y < 18446744073709551616) (hhi : hi < y) (hlo : lo < 18446744073709551616) :
    Calls Tryd.prog 116 #[.int .u64 hi, .int .u64 lo, .int .u64 y] w fun e w' => Div64Done w hi lo y e w' := by
  have b0 : ((y : Int) == 0) = false := by simp; omega
  have b1 : decide (y ≤ hi) = false := by simpa using hhi
  by_cases h0 : hi = 0
  · subst h0
    obtain ⟨q, hq⟩ : ∃ q, q = lo / y := ⟨_, rfl⟩
    obtain ⟨r, hr⟩ : ∃ r, r = lo % y := ⟨_, rfl⟩
    have r1 : (lo : Int) / (y : Int) = (q : Int) := by rw [hq]; exact (Int.natCast_ediv _ _).symm
    have r2 : (lo : Int) % (y : Int) = (r : Int) := by rw [hr]; exact (Int.natCast_emod _ _).symm
    have hqB : q < 18446744073709551616 := by rw [hq]; exact Nat.lt_of_le_of_lt (Nat.div_le_self _ _) hlo
    have hD : q * y + r = 0 * 18446744073709551616 + lo := by rw [hq, hr, Nat.zero_mul, Nat.zero_add, Nat.mul_comm]; exact Nat.div_add_mod _ _
    have hry : r < y := by rw [hr]; exact Nat.mod_lt _ (by omega)
    have HD := Lib.hid hD
    clear hq hr hD
    go_enter Tryd.func116, Tryd.ntmps116
    go_wp2
    go_quiet (fail)
    go_wp2
    go_ret2
    exact ⟨q, r, by rw [← r2]; rfl, HD.out, hry, hqB, _, rfl⟩
  · have b2 : ((hi : Int) == 0) = false := by simp [h0]
    obtain ⟨yn1, hyn1⟩ : ∃ yn1, yn1 = y / 4294967296 := ⟨_, rfl⟩
    obtain ⟨yn0, hyn0⟩ : ∃ yn0, yn0 = y % 4294967296 := ⟨_, rfl⟩
    obtain ⟨un1, hun1⟩ : ∃ un1, un1 = lo / 4294967296 := ⟨_, rfl⟩
    obtain ⟨un0, hun0⟩ : ∃ un0, un0 = lo % 4294967296 := ⟨_, rfl⟩
    have a1 : yn1 * 4294967296 + yn0 = y := by rw [hyn1, hyn0, Nat.mul_comm]; exact Nat.div_add_mod _ _
    have hL : un1 * 4294967296 + un0 = lo := by rw [hun1, hun0, Nat.mul_comm]; exact Nat.div_add_mod _ _
    have HL := Lib.hid hL
    clear hL
    have a2 : yn0 < 4294967296 := by omega
    have a4 : un1 < 4294967296 := by omega
    have a5 : un0 < 4294967296 := by omega
    have a6 : 4294967296 ≤ 2 * yn1 := by omega
    have a7 : yn1 < 4294967296 := by omega
    obtain ⟨HS, hm⟩ := half_start a1 a2 hhi a4 a6 a7
    obtain ⟨q1, hq1⟩ : ∃ q1, q1 = hi / yn1 := ⟨_, rfl⟩
    rw [← hq1] at HS hm
    obtain ⟨m1, hm1⟩ : ∃ m1, m1 = q1 * yn1 := ⟨_, rfl⟩
    rw [← hm1] at HS hm
    have r1 : (y : Int) / 4294967296 = (yn1 : Int) := by omega
    have r2 : bits BinOp.and .u64 (y : Int) 4294967295 = (yn0 : Int) := by
      have := bits_and_u64_nat y 4294967295 h2 (by omega)
      rw [Nat.and_two_pow_sub_one_eq_mod y 32] at this
      rw [hyn0]; exact this
    have r3 : (lo : Int) / 4294967296 = (un1 : Int) := by omega
    have r4 : bits BinOp.and .u64 (lo : Int) 4294967295 = (un0 : Int) := by
      have := bits_and_u64_nat lo 4294967295 hlo (by omega)
      rw [Nat.and_two_pow_sub_one_eq_mod lo 32] at this
      rw [hun0]; exact this
    have r5 : bits BinOp.or .u64 (hi : Int) ((lo : Int) / 18446744073709551616) = (hi : Int) := by
      have := bits_or_u64_nat hi 0 (by omega) (by omega)
      rw [Nat.or_zero] at this
      have e : (lo : Int) / 18446744073709551616 = ((0 : Nat) : Int) := by omega
      rw [e]; exact this
    have r6 : (hi : Int) / (yn1 : Int) = (q1 : Int) := by rw [hq1]; exact (Int.natCast_ediv _ _).symm
    have r7 : (q1 : Int) * (yn1 : Int) = (m1 : Int) := by rw [hm1]; exact (Int.natCast_mul _ _).symm
    have hy1 : 1 ≤ yn1 := by omega
    have HY := Lib.hid a1
    have HQ := Lib.hid hq1
    have hm1' : (m1 : Int) ≤ hi := by omega
    obtain ⟨rh, hrh⟩ : ∃ rh, rh = hi - m1 := ⟨_, rfl⟩
    have r8 : (hi : Int) - (m1 : Int) = (rh : Int) := by omega
    rw [← hrh] at HS
    have hq1b : q1 ≤ 4294967297 := HS.q_le
    have hrb := HS.rh_lt
    clear hyn1 hyn0 hun1 hun0 hq1 hm1 a1 hrh
    go_enter Tryd.func116, Tryd.ntmps116
    go_upto_block 0 with (go_at_call 106; refine (lz_top y h1 h2 _).mono ?_; rintro e w' ⟨rfl, rfl⟩)
    clear r1 r2 r3 r4 r5 r6 r7 r8 hm1'
    go_cut [15] (fun v wc => ∃ qa : Nat, v = .int .u64 qa ∧ qa ≤ 4294967295 ∧ Hid (qa = (hi * 4294967296 + un1) / y) ∧ w = wc)
    case first =>
      have HSS : Hid (HalfInv 4294967296 hi un1 y yn1 yn0 q1 rh) := HS
      have hQB : Hid ((hi * 4294967296 + un1) / y ≤ 4294967295) := by
        unfold Hid
        apply Nat.le_of_lt_succ
        rw [Nat.div_lt_iff_lt_mul (by omega)]
        omega
      have HQB : Hid ((hi * 4294967296 + un1) / y ≤ 4294967295) := by
        unfold Hid
        apply Nat.le_of_lt_succ
        rw [Nat.div_lt_iff_lt_mul (by omega)]
        show hi * 4294967296 + un1 < 4294967296 * y
        omega
      clear HS
      go_wp2
      go_loopg [15, 16] q1 (fun g v u wr => ∃ q rr : Nat, q ≤ g ∧ v = .int .u64 q ∧ u = .int .u64 rr ∧ HalfInv 4294967296 hi un1 y yn1 yn0 q rr ∧ w = wr)
      case atStart => exact ⟨q1, rh, Nat.le_refl _, rfl, rfl, HSS.out, rfl⟩
      case round =>
        obtain ⟨q, rr, hqg, rfl, rfl, hI, rfl⟩ := hrel
        have hq2 : q ≤ 4294967297 := hI.q_le
        have hr2 := hI.rh_lt
        have HI : Hid (HalfInv 4294967296 hi un1 y yn1 yn0 q rr) := hI
        clear hI
        have HG : Hid (q ≤ gk) := hqg
        clear hq1b hrb HL hhi hlo h1 h0 hm a6 hqg b0 b1 b2
        by_cases hc1 : 4294967296 ≤ q
        · have i1 : (4294967296 : Int) ≤ q := by omega
          by_cases hc2 : 4294967296 ≤ rr + yn1
          · have hbr := half_break HI.out (.inl hc1) hc2
            have HB := Lib.hid hbr
            have i2 : (4294967296 : Int) ≤ (rr : Int) + yn1 := by omega
            clear hbr hc1 hc2
            go_wp2
            go_meet
            case rel => exact ⟨q - 1, by go_num, by rw [HB.out]; exact HQB.out, HB, rfl⟩
          · have hnx := half_next HI.out (.inl hc1) (by omega)
            have HB : Hid _ := hnx
            have i3 : Hid (0 < q) := show 0 < q by omega
            have i2 : (rr : Int) + yn1 < 4294967296 := by omega
            have d2 : decide ((4294967296 : Int) ≤ (rr : Int) + yn1) = false := decide_eq_false (by omega)
            clear hnx hc1 hc2
            go_wp2
            go_roundg (q - 1)
            case measure => have := i3.out; have := HG.out; omega
            case rel => exact ⟨q - 1, rr + yn1, Nat.le_refl _, by go_num, by go_num, HB.out, rfl⟩
        · obtain ⟨p, hp⟩ : ∃ p, p = q * yn0 := ⟨_, rfl⟩
          have hpB : p ≤ 4294967295 * 4294967295 := by rw [hp]; exact Nat.mul_le_mul (by omega) (by omega)
          have hpB' : p ≤ 18446744065119617025 := hpB
          have rp : (q : Int) * (yn0 : Int) = (p : Int) := by rw [hp]; exact (Int.natCast_mul _ _).symm
          have d1 : decide ((4294967296 : Int) ≤ (q : Int)) = false := decide_eq_false (by omega)
          clear hpB
          by_cases hc3 : 4294967296 * rr + un1 < p
          · have d3 : (4294967296 : Int) * (rr : Int) + (un1 : Int) < (p : Int) := by omega
            have hq0 : 0 < q := by
              rcases Nat.eq_zero_or_pos q with h | h
              · rw [h, Nat.zero_mul] at hp; omega
              · exact h
            have i1 : (1 : Int) ≤ q := by omega
            have i3 : Hid (0 < q) := hq0
            by_cases hc2 : 4294967296 ≤ rr + yn1
            · have hbr := half_break HI.out (.inr (by rw [← hp]; exact hc3)) hc2
              have HB := Lib.hid hbr
              have i2 : (4294967296 : Int) ≤ (rr : Int) + yn1 := by omega
              clear hbr hp hc1 hc2 hc3
              go_wp2
              go_meet
              case rel => exact ⟨q - 1, by go_num, by rw [HB.out]; exact HQB.out, HB, rfl⟩
            · have hnx := half_next HI.out (.inr (by rw [← hp]; exact hc3)) (by omega)
              have HB : Hid _ := hnx
              have i2 : (rr : Int) + yn1 < 4294967296 := by omega
              have d2 : decide ((4294967296 : Int) ≤ (rr : Int) + yn1) = false := decide_eq_false (by omega)
              clear hnx hp hc1 hc2 hc3
              go_wp2
              go_roundg (q - 1)
              case measure => have := i3.out; have := HG.out; omega
              case rel => exact ⟨q - 1, rr + yn1, Nat.le_refl _, by go_num, by go_num, HB.out, rfl⟩
          · have hbr := half_exit HI.out (by rw [← hp]; omega)
            have HB := Lib.hid hbr
            have d3 : decide ((4294967296 : Int) * (rr : Int) + (un1 : Int) < (p : Int)) = false := decide_eq_false (by omega)
            clear hbr hp hc1 hc3
            go_wp2
            go_meet
            case rel => exact ⟨q, rfl, by rw [HB.out]; exact HQB.out, HB, rfl⟩
    case rest =>
      obtain ⟨qa, rfl, hqa, HQA, rfl⟩ := hcut
      obtain ⟨un21, hun21⟩ : ∃ un21, un21 = (hi * 4294967296 + un1) % y := ⟨_, rfl⟩
      have hyp : 0 < y := by omega
      have hun : un21 < y := by rw [hun21]; exact Nat.mod_lt _ hyp
      have hN1 : hi * 4294967296 + un1 = qa * y + un21 := by rw [hun21, HQA.out, Nat.mul_comm _ y]; exact (Nat.div_add_mod _ _).symm
      obtain ⟨P1, hP1⟩ : ∃ P1, P1 = qa * y := ⟨_, rfl⟩
      have s0 : (qa : Int) * (y : Int) = (P1 : Int) := by rw [hP1]; exact (Int.natCast_mul _ _).symm
      rw [← hP1] at hN1
      have s1 : IntKind.u64.wrap (IntKind.u64.wrap (IntKind.u64.wrap ((hi : Int) * 4294967296) + (un1 : Int)) - IntKind.u64.wrap (P1 : Int)) = (un21 : Int) := by
        simp only [IntKind.wrap_u64]
        omega
      obtain ⟨HS2, hm2⟩ := half_start (b := 4294967296) (un := un0) (y := y) HY.out a2 hun a5 a6 a7
      obtain ⟨q0, hq0⟩ : ∃ q0, q0 = un21 / yn1 := ⟨_, rfl⟩
      rw [← hq0] at HS2 hm2
      obtain ⟨m0, hm0⟩ : ∃ m0, m0 = q0 * yn1 := ⟨_, rfl⟩
      rw [← hm0] at HS2 hm2
      obtain ⟨rh0, hrh0⟩ : ∃ rh0, rh0 = un21 - m0 := ⟨_, rfl⟩
      have s2 : (un21 : Int) / (yn1 : Int) = (q0 : Int) := by rw [hq0]; exact (Int.natCast_ediv _ _).symm
      have s3 : (q0 : Int) * (yn1 : Int) = (m0 : Int) := by rw [hm0]; exact (Int.natCast_mul _ _).symm
      have s4 : (un21 : Int) - (m0 : Int) = (rh0 : Int) := by omega
      have s5 : (m0 : Int) ≤ un21 := by omega
      rw [← hrh0] at HS2
      have hq0b : q0 ≤ 4294967297 := HS2.q_le
      have hr0b := HS2.rh_lt
      have HSS : Hid (HalfInv 4294967296 un21 un0 y yn1 yn0 q0 rh0) := HS2
      have HU := Lib.hid hun21
      have HQB : Hid ((un21 * 4294967296 + un0) / y ≤ 4294967295) := by
        unfold Hid
        apply Nat.le_of_lt_succ
        rw [Nat.div_lt_iff_lt_mul hyp]
        show un21 * 4294967296 + un0 < 4294967296 * y
        omega
      clear hun21 hN1 hP1 hq0 hm0 hrh0 HS2 HS hm2 hq1b hrb
      go_upto_block 2 with fail
      clear s0 s1 s2 s3 s4 s5
      go_cut [18] (fun v wc => ∃ qb : Nat, v = .int .u64 qb ∧ qb ≤ 4294967295 ∧ Hid (qb = (un21 * 4294967296 + un0) / y) ∧ w = wc)
      case first =>
        go_wp2
        go_loopg [18, 16] q0 (fun g v u wr => ∃ q rr : Nat, q ≤ g ∧ v = .int .u64 q ∧ u = .int .u64 rr ∧ HalfInv 4294967296 un21 un0 y yn1 yn0 q rr ∧ w = wr)
        case atStart => exact ⟨q0, rh0, Nat.le_refl _, rfl, rfl, HSS.out, rfl⟩
        case round =>
          obtain ⟨q, rr, hqg, rfl, rfl, hI, rfl⟩ := hrel
          have hq2 : q ≤ 4294967297 := hI.q_le
          have hr2 := hI.rh_lt
          have HI : Hid (HalfInv 4294967296 un21 un0 y yn1 yn0 q rr) := hI
          clear hI
          have HG : Hid (q ≤ gk) := hqg
          clear hq0b hr0b HL hlo h1 h0 hm a6 hqg b0 b1 b2
          by_cases hc1 : 4294967296 ≤ q
          · have i1 : (4294967296 : Int) ≤ q := by omega
            by_cases hc2 : 4294967296 ≤ rr + yn1
            · have hbr := half_break HI.out (.inl hc1) hc2
              have HB := Lib.hid hbr
              have i2 : (4294967296 : Int) ≤ (rr : Int) + yn1 := by omega
              clear hbr hc1 hc2
              go_wp2
              go_meet
              case rel => exact ⟨q - 1, by go_num, by rw [HB.out]; exact HQB.out, HB, rfl⟩
            · have hnx := half_next HI.out (.inl hc1) (by omega)
              have HB : Hid _ := hnx
              have i3 : Hid (0 < q) := show 0 < q by omega
              have i2 : (rr : Int) + yn1 < 4294967296 := by omega
              have d2 : decide ((4294967296 : Int) ≤ (rr : Int) + yn1) = false := decide_eq_false (by omega)
              clear hnx hc1 hc2
              go_wp2
              go_roundg (q - 1)
              case measure => have := i3.out; have := HG.out; omega
              case rel => exact ⟨q - 1, rr + yn1, Nat.le_refl _, by go_num, by go_num, HB.out, rfl⟩
          · obtain ⟨p, hp⟩ : ∃ p, p = q * yn0 := ⟨_, rfl⟩
            have hpB : p ≤ 4294967295 * 4294967295 := by rw [hp]; exact Nat.mul_le_mul (by omega) (by omega)
            have hpB' : p ≤ 18446744065119617025 := hpB
            have rp : (q : Int) * (yn0 : Int) = (p : Int) := by rw [hp]; exact (Int.natCast_mul _ _).symm
            have d1 : decide ((4294967296 : Int) ≤ (q : Int)) = false := decide_eq_false (by omega)
            clear hpB
            by_cases hc3 : 4294967296 * rr + un0 < p
            · have d3 : (4294967296 : Int) * (rr : Int) + (un0 : Int) < (p : Int) := by omega
              have hq0 : 0 < q := by
                rcases Nat.eq_zero_or_pos q with h | h
                · rw [h, Nat.zero_mul] at hp; omega
                · exact h
              have i1 : (1 : Int) ≤ q := by omega
              have i3 : Hid (0 < q) := hq0
              by_cases hc2 : 4294967296 ≤ rr + yn1
              · have hbr := half_break HI.out (.inr (by rw [← hp]; exact hc3)) hc2
                have HB := Lib.hid hbr
                have i2 : (4294967296 : Int) ≤ (rr : Int) + yn1 := by omega
                clear hbr hp hc1 hc2 hc3
                go_wp2
                go_meet
                case rel => exact ⟨q - 1, by go_num, by rw [HB.out]; exact HQB.out, HB, rfl⟩
              · have hnx := half_next HI.out (.inr (by rw [← hp]; exact hc3)) (by omega)
                have HB : Hid _ := hnx
                have i2 : (rr : Int) + yn1 < 4294967296 := by omega
                have d2 : decide ((4294967296 : Int) ≤ (rr : Int) + yn1) = false := decide_eq_false (by omega)
                clear hnx hp hc1 hc2 hc3
                go_wp2
                go_roundg (q - 1)
                case measure => have := i3.out; have := HG.out; omega
                case rel => exact ⟨q - 1, rr + yn1, Nat.le_refl _, by go_num, by go_num, HB.out, rfl⟩
            · have hbr := half_exit HI.out (by rw [← hp]; omega)
              have HB := Lib.hid hbr
              have d3 : decide ((4294967296 : Int) * (rr : Int) + (un0 : Int) < (p : Int)) = false := decide_eq_false (by omega)
              clear hbr hp hc1 hc3
              go_wp2
              go_meet
              case rel => exact ⟨q, rfl, by rw [HB.out]; exact HQB.out, HB, rfl⟩
      case rest =>
        obtain ⟨qb, rfl, hqb, HQBB, rfl⟩ := hcut
        obtain ⟨r, hr⟩ : ∃ r, r = (un21 * 4294967296 + un0) % y := ⟨_, rfl⟩
        have hry : r < y := by rw [hr]; exact Nat.mod_lt _ hyp
        have hN2 : un21 * 4294967296 + un0 = qb * y + r := by rw [hr, HQBB.out, Nat.mul_comm _ y]; exact (Nat.div_add_mod _ _).symm
        obtain ⟨P2, hP2⟩ : ∃ P2, P2 = qb * y := ⟨_, rfl⟩
        have s0 : (qb : Int) * (y : Int) = (P2 : Int) := by rw [hP2]; exact (Int.natCast_mul _ _).symm
        rw [← hP2] at hN2
        have s1 : IntKind.u64.wrap (IntKind.u64.wrap (IntKind.u64.wrap ((un21 : Int) * 4294967296) + (un0 : Int)) - IntKind.u64.wrap (P2 : Int)) = (r : Int) := by
          simp only [IntKind.wrap_u64]
          omega
        have HD : Hid ((qa * 4294967296 + qb) * y + r = hi * 18446744073709551616 + lo) := by
          unfold Hid
          rw [hr, HQBB.out, HU.out, HQA.out, half_all, HL.out]
        have HR : Hid (r < y) := hry
        clear hr hN2 hP2 hry
        go_wp2
        go_ret2
        exact ⟨qa * 4294967296 + qb, r, rfl, HD.out, HR.out, by omega, 0, rfl⟩

/-- The same, where quotient and rest have names. -/
theorem div64_exact {w : World} {hi lo y q r : Nat} (h1 : 9223372036854775808 ≤ y) (h2 : y < 18446744073709551616) (hhi : hi < y) (hlo : lo < 18446744073709551616) (hq : q * y + r = hi * 18446744073709551616 + lo) (hr : r < y) :
    Calls Tryd.prog 116 #[.int .u64 hi, .int .u64 lo, .int .u64 y] w fun e w' => e = .returned (.tuple #[.int .u64 (q : Int), .int .u64 (r : Int)]) ∧ ∃ m, w' = w.drewN m :=
  (div64_any h1 h2 hhi hlo).mono fun e w' ⟨q', r', he, hd, hr', _, hw⟩ => by
    have hy : 0 < y := by omega
    have e1 : q = (hi * 18446744073709551616 + lo) / y := by rw [← hq, Nat.mul_comm, Nat.mul_add_div hy, Nat.div_eq_of_lt hr, Nat.add_zero]
    have e2 : q' = (hi * 18446744073709551616 + lo) / y := by rw [← hd, Nat.mul_comm, Nat.mul_add_div hy, Nat.div_eq_of_lt hr', Nat.add_zero]
    obtain rfl : q' = q := by rw [e1, e2]
    obtain rfl : r' = r := by omega
    exact ⟨he, hw⟩
end Go.Proofs.YtdklekiknhhfdaaDoor
