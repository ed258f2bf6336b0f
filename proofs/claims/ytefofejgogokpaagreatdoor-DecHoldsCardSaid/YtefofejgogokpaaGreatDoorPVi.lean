/-
 Contract of the statement DecHolds' function at this translation: it returns true, whatever its arguments. Conditions: the two tables, and the two errors of strconv, lie as their texts lay them.
-/
import Derived.Test.YtefofejgogokpaaGreatDoorPKz
import Derived.Test.YtefofejgogokpaaGreatDoorPVh
import Derived.RegionTactic
import Derived.ChangeAlike
set_option maxHeartbeats 8000000
set_option maxRecDepth 100000
namespace Go.Proofs.YtefofejgogokpaaGreatDoor
open Go.RowKit

theorem digit_finH : ∀ d : Fin 10, (([48, 49, 50, 51, 52, 53, 54, 55, 56, 57] : List UInt8).drop d.val).take 1 = [UInt8.ofNat (48 + d.val)] := by decide
theorem digit_run64 {d : Nat} (hd : d < 10) (W : World) : (Instr.slice 9 (.string ⟨#[48, 49, 50, 51, 52, 53, 54, 55, 56, 57]⟩) (some (.int .u64 (d : Int))) (some (.int .u64 ((d : Int) + 1))) none).run Tryz.prog W = .ok (.string ⟨[UInt8.ofNat (48 + d)].toArray⟩) W := by
 rw [run_slice_string W 9 _ .u64 .u64 _ _ Tryz.underlying9 (by omega) (by omega) (by show (d : Int) + 1 ≤ 10; omega), Int.toNat_natCast, show ((d : Int) + 1).toNat = d + 1 by omega]
 congr 2
 apply ByteArray.ext
 apply Array.toList_inj.1
 rw [Lib.extract_data]
 have := digit_finH ⟨d, hd⟩
 show (([48, 49, 50, 51, 52, 53, 54, 55, 56, 57] : List UInt8).drop d).take (d + 1 - d) = [UInt8.ofNat (48 + d)]
 rw [Nat.add_sub_cancel_left]
 exact this
theorem front_runH (L : List UInt8) (n : Nat) (hn : n ≤ L.length) (W : World) : (Instr.slice 9 (.string ⟨L.toArray⟩) none (some (.int .i64 (n : Int))) none).run Tryz.prog W = .ok (.string ⟨(L.take n).toArray⟩) W := by
 rw [run_slice_string_h W 9 ⟨L.toArray⟩ Tryz.underlying9 .i64 (n : Int) (by omega) (by show (n : Int) ≤ ((L.toArray.size : Nat) : Int); simp; omega), Int.toNat_natCast]
 congr 2
 apply ByteArray.ext
 apply Array.toList_inj.1
 rw [Lib.extract_data]
 simp
theorem back_runH (L : List UInt8) (n : Nat) (hn : n ≤ L.length) (W : World) : (Instr.slice 9 (.string ⟨L.toArray⟩) (some (.int .i64 (n : Int))) none none).run Tryz.prog W = .ok (.string ⟨(L.drop n).toArray⟩) W := by
 rw [run_slice_string_l W 9 ⟨L.toArray⟩ Tryz.underlying9 .i64 (n : Int) (by omega) (by show (n : Int) ≤ ((L.toArray.size : Nat) : Int); simp; omega), Int.toNat_natCast]
 congr 2
 apply ByteArray.ext
 apply Array.toList_inj.1
 rw [Lib.extract_data, List.take_of_length_le (by show _ ≤ L.toArray.size - n; simp)]
theorem cat_text (l r : List UInt8) : ByteArray.mk l.toArray ++ ByteArray.mk r.toArray = ByteArray.mk (l ++ r).toArray := by
 apply ByteArray.ext
 apply Array.toList_inj.1
 simp
theorem digs_cons {d : Nat} {S : List UInt8} (hd : d < 10) (h : Digs S) : Digs (UInt8.ofNat (48 + d) :: S) := fun c hc => by
 rcases List.mem_cons.1 hc with rfl | hc
 ·refine isDig_iff.2 ?_
  rw [UInt8.toNat_ofNat_of_lt' (by show 48 + d < 256; omega)]
  omega
 ·exact h c hc
theorem num_step {S : List UInt8} {sa : ByteArray} {i : Nat} (hS : Digs S) (hl : S.length = 18) (hsa : sa = ⟨S.toArray⟩) (h : i < sa.size) : ∃ d : Nat, d ≤ 9 ∧ sa[i].toNat = 48 + d ∧ numV (S.take (i + 1)) = numV (S.take i) * 10 + d ∧ numV (S.take i) < 100000000000000000 := by
 subst hsa
 have h9 : i < S.toArray.size := h
 have hi : i < S.length := by simpa using h9
 have e : S.take (i + 1) = S.take i ++ [S[i]] := List.take_succ_eq_append_getElem hi
 have hd := isDig_iff.1 (hS _ (List.getElem_mem hi))
 refine ⟨S[i].toNat - 48, by omega, ?_, ?_, ?_⟩
 ·show S[i].toNat = _
  omega
 ·rw [e, numV_snoc]
 ·have h1 := numV_lt (digs_take hS i)
  have h2 : 10 ^ (S.take i).length ≤ 10 ^ 17 := Nat.pow_le_pow_right (by omega) (by rw [List.length_take]; omega)
  exact Nat.lt_of_lt_of_le h1 (Nat.le_trans h2 (by decide))
theorem holds_any {w : World} {a b c : Int} (hE : Errs w) (hT : Tab w) (hP : PowT w) :
  Calls Tryz.prog 5 #[.int .i64 a, .int .i64 b, .int .i64 c] w fun en w' => ToldEnd w en w' := by
 obtain ⟨ra, hra⟩ := Int.eq_ofNat_of_zero_le (show 0 ≤ IntKind.u64.wrap a by rw [IntKind.wrap_u64]; omega)
 have ra64 : ra < 18446744073709551616 := by have : IntKind.u64.wrap a < 18446744073709551616 := by rw [IntKind.wrap_u64]; omega
                                             omega
 obtain ⟨rk, hrk⟩ := Int.eq_ofNat_of_zero_le (show 0 ≤ IntKind.u64.wrap b by rw [IntKind.wrap_u64]; omega)
 obtain ⟨k, hk⟩ : ∃ q, q = rk % 18 := ⟨_, rfl⟩
 have uuk : (rk : Int) % 18 = (k : Int) := by omega
 have uwk : (0 : Int) ≤ (rk : Int) := by omega
 have uxk : k < 18 := by omega
 have uyk : (k : Int) < 18 := by omega
 clear hk
 obtain ⟨rb, hrb⟩ := Int.eq_ofNat_of_zero_le (show 0 ≤ IntKind.u64.wrap c by rw [IntKind.wrap_u64]; omega)
 obtain ⟨p, hp⟩ : ∃ q, q = rb % 100 := ⟨_, rfl⟩
 have uup : (rb : Int) % 100 = (p : Int) := by omega
 have uwp : (0 : Int) ≤ (rb : Int) := by omega
 have uxp : p < 100 := by omega
 have uyp : (p : Int) < 100 := by omega
 clear hp
 obtain ⟨q, hq⟩ : ∃ q, q = 1 + p := ⟨_, rfl⟩
 have uuq : 1 + (p : Int) = (q : Int) := by omega
 have uxq : 1 ≤ q := by omega
 have uyq : q ≤ 100 := by omega
 clear hq
 obtain ⟨u0, hu0⟩ : ∃ q, q = ra / 16 := ⟨_, rfl⟩
 have uua : (ra : Int) / 16 = (u0 : Int) := by omega
 have uxa : u0 < 18446744073709551616 := by omega
 clear hu0
 have BB := Below.refl w.heap.size w
 go_enter Tryz.func5, Tryz.ntmps5
 go_wp2_with fail
 go_loopg [7, 10, 11] 18 (fun gk v7 v10 v11 wr => ∃ (i u : Nat) (S : List UInt8), i + gk = 18 ∧ v11 = .int .i64 i ∧ v7 = .int .u64 u ∧ u < 18446744073709551616 ∧ v10 = .string ⟨S.toArray⟩ ∧ S.length = i ∧ Digs S ∧ wr = w)
 case atStart => exact ⟨0, u0, [], rfl, rfl, rfl, uxa, rfl, rfl, fun c hc => (by cases hc), rfl⟩
 case round =>
  obtain ⟨i, u, S, hi, rfl, rfl, hu, rfl, hl, hS, rfl⟩ := hrel
  by_cases hlt : i < 18
  ·obtain ⟨gq, rfl⟩ : ∃ q, gk = q + 1 := ⟨gk - 1, by omega⟩
   obtain ⟨d, hd⟩ : ∃ z, z = u % 10 := ⟨_, rfl⟩
   have hd1 : (u : Int) % 10 = (d : Int) := by omega
   have hd2 : d < 10 := by omega
   have hd3 : (0 : Int) ≤ (u : Int) := by omega
   have hd4 : IntKind.u64.wrap ((d : Int) + 1) = (d : Int) + 1 := by rw [IntKind.wrap_u64]; omega
   obtain ⟨v, hv⟩ : ∃ z, z = u / 10 := ⟨_, rfl⟩
   have hv1 : (u : Int) / 10 = (v : Int) := by omega
   have hv2 : v < 18446744073709551616 := by omega
   obtain ⟨ch, hch⟩ : ∃ z, z = UInt8.ofNat (48 + d) := ⟨_, rfl⟩
   have dr := digit_run64 hd2
   rw [← hch] at dr
   have hS2 : Digs (ch :: S) := by rw [hch]; exact digs_cons hd2 hS
   have hsz : (ByteArray.mk S.toArray).size = i := by show S.toArray.size = i; simp [hl]
   have ds2 : (ByteArray.mk [ch].toArray).size = 1 := rfl
   have hct := Lib.hid (cat_text [ch] S)
   clear hd hv hch
   go_wp2
   go_roundg gq
   case measure => omega
   case rel => exact ⟨i + 1, v, ch :: S, by omega, by go_num, rfl, hv2, congrArg Value.string hct.out, by rw [List.length_cons, hl], hS2, rfl⟩
  ·obtain rfl : i = 18 := by omega
   have hgk : gk = 0 := by omega
   subst hgk
   clear hlt hi hu ra64 hra uua uxa
   have q1 := front_runH S (18 - k) (by omega)
   have q2 := back_runH S (18 - k) (by omega)
   have uz : ((18 - k : Nat) : Int) = 18 - (k : Int) := by omega
   have l1 : (S.take (18 - k)).length = 18 - k := by rw [List.length_take]; omega
   have l2 : (S.drop (18 - k)).length = k := by rw [List.length_drop]; omega
   obtain ⟨S1, hS1⟩ : ∃ z, z = S.take (18 - k) := ⟨_, rfl⟩
   obtain ⟨S2, hS2⟩ : ∃ z, z = S.drop (18 - k) := ⟨_, rfl⟩
   have HT := Lib.hid (show holdT S k = if k = 0 then S1 else S1 ++ 46 :: S2 by rw [hS1, hS2]; rfl)
   have RD := Lib.hid (read_hold hS hl uxk)
   rw [← hS1] at q1 l1
   rw [← hS2] at q2 l2
   rw [uz] at q1 q2
   clear uz hS1 hS2
   obtain ⟨L, hL⟩ : ∃ L, L = holdT S k := ⟨_, rfl⟩
   rw [← hL] at HT RD
   clear hL
   have z1 : (ByteArray.mk S1.toArray).size = 18 - k := by show S1.toArray.size = _; simp [l1]
   have z2 : (ByteArray.mk S2.toArray).size = k := by show S2.toArray.size = _; simp [l2]
   have c1 := cat_text S1 [46]
   have c2 := cat_text (S1 ++ [46]) S2
   have z3 : (ByteArray.mk (S1 ++ [46]).toArray).size = 19 - k := by show (S1 ++ [46]).toArray.size = _; simp [l1]; omega
   have C1 := Lib.hid c1
   have C2 := Lib.hid c2
   clear c1 c2
   go_upto_if 58 with fail
   go_cut [12] (fun v12 wc => v12 = .string ⟨L.toArray⟩ ∧ wc = wr)
   case first =>
    by_cases h0 : k = 0
    ·have hL : S1 = L := by rw [HT.out, if_pos h0]
     subst h0
     go_wp2
     go_meet
     case rel => exact ⟨by first | rfl | rw [hL], rfl⟩
    ·have hL : S1 ++ 46 :: S2 = L := by rw [HT.out, if_neg h0]
     have hk0 : 0 < k := by omega
     go_wp2
     try any_goals (exfalso; omega)
     go_meet
     case rel => exact ⟨by rw [show (⟨#[46]⟩ : ByteArray) = ⟨([46] : List UInt8).toArray⟩ from rfl, C1.out, C2.out, ← hL, List.append_assoc]; rfl, rfl⟩
   case rest =>
    obtain ⟨rfl, rfl⟩ := hcut
    clear q1 q2 l1 l2 z1 z2 z3 C1 C2 HT hrk uuk hrb uup uwp uxp uyp
    obtain ⟨x, hx, hc⟩ := dlit_ok (s := ⟨L.toArray⟩) (p := q) hE hT RD.out (by omega) (by omega)
    obtain ⟨KS, hKS⟩ := scale_has
    obtain ⟨s3, v3, f3, s4, v4, f4, rfl, o3, o4, e3, e4⟩ := lit_ends hKS uxq (by omega) (k := k) (by omega) hS (by omega) hx
    have H3 := Lib.hid (And.intro o3 (And.intro o4 (And.intro e3 e4)))
    have b3 : blen v3 ≤ q := o3.2.1
    have b4 : blen v4 ≤ q := o4.2.1
    have HC := Lib.hid hc
    clear hc hx RD o3 o4 e3 e4
    go_wp2_with fail
    refine (HC.out).mono ?_
    rintro en w1 ⟨A3, n3, c3, A4, n4, c4, rfl, R3, R4, b⟩
    have N3 : Nt w1 A3 n3 c3 v3 := ⟨R3, okd_lt H3.out.1.1⟩
    have N4 : Nt w1 A4 n4 c4 v4 := ⟨R4, okd_lt H3.out.2.1.1⟩
    clear R3 R4 HC
    replace BB := bnx BB b
    have G := mv b rfl (J3 hE hT hP)
    clear b hE hT hP
    obtain ⟨hE, hT, hP⟩ := G
    obtain ⟨i0, i1, i2, i3, i4, i5⟩ := (Ibx.new w1 s3 A3 n3 c3 f3 s4 A4 n4 c4 f4).held
    have b := below_alloc w1 (.cells #[.bool s3, .slice A3 n3 c3, .int .i64 f3, .bool s4, .slice A4 n4 c4, .int .i64 f4] 27)
    replace BB := bnx BB b
    have G := mv b rfl (J5 hE hT hP N3 N4)
    clear b hE hT hP N3 N4
    obtain ⟨hE, hT, hP, N3, N4⟩ := G
    obtain ⟨M, hM⟩ : ∃ M, M = numV S := ⟨_, rfl⟩
    obtain ⟨sa, hsa⟩ : ∃ z, z = ByteArray.mk S.toArray := ⟨_, rfl⟩
    have hss : sa.size = 18 := by rw [hsa]; show S.toArray.size = 18; simp [hl]
    rw [← hsa]
    have HSA := Lib.hid hsa
    clear hsa
    have h10 : ∀ i, i < sa.size → ∃ d : Nat, d ≤ 9 ∧ ∀ h : i < sa.size, sa[i].toNat = 48 + d ∧ numV (S.take (i + 1)) = numV (S.take i) * 10 + d ∧ numV (S.take i) < 100000000000000000 := fun i h => by
     obtain ⟨d, h1, h2⟩ := num_step hS hl HSA.out h
     exact ⟨d, h1, fun _ => h2⟩
    have H10 := Lib.hid h10
    clear h10
    go_wp2
    go_loopg [15, 17] 18 (fun gk v15 v17 wr => ∃ i m : Nat, i + gk = 18 ∧ v17 = .int .i64 i ∧ v15 = .int .i64 (m : Int) ∧ Hid (m = numV (S.take i)) ∧ wr = (w1.alloc (.cells #[.bool s3, .slice A3 n3 c3, .int .i64 f3, .bool s4, .slice A4 n4 c4, .int .i64 f4] 27)))
    case atStart => exact ⟨0, 0, rfl, rfl, rfl, Lib.hid rfl, rfl⟩
    case round =>
     obtain ⟨i, m, hi, rfl, rfl, hm, rfl⟩ := hrel
     by_cases hlt : i < 18
     ·obtain ⟨gr, rfl⟩ : ∃ q, gk = q + 1 := ⟨gk - 1, by omega⟩
      have hlt2 : i < sa.size := by omega
      obtain ⟨d, hd9, hd⟩ := H10.out i hlt2
      obtain ⟨hd1, hd2, hd3⟩ := hd hlt2
      rw [← hm.out] at hd2 hd3
      have hd4 : ((sa[i].toNat : Nat) : Int) - 48 = (d : Int) := by omega
      have hd5 : IntKind.u8.wrap (d : Int) = (d : Int) := by rw [IntKind.wrap_u8]; omega
      have hd6 : IntKind.i64.wrap ((m : Int) * 10) = (m : Int) * 10 := IntWalk.i64_in _ (by omega)
      obtain ⟨m2, hm2⟩ : ∃ z, z = m * 10 + d := ⟨_, rfl⟩
      have hd7 : IntKind.i64.wrap ((m : Int) * 10 + (d : Int)) = (m2 : Int) := by rw [IntWalk.i64_in _ (by omega)]; omega
      have HM2 : Hid (m2 = numV (S.take (i + 1))) := Lib.hid (hm2.trans hd2.symm)
      clear hd hd1 hd2 hm hm2
      go_wp2
      go_roundg gr
      case measure => omega
      case rel => exact ⟨i + 1, m2, by omega, by go_num, rfl, HM2, rfl⟩
     obtain rfl : i = 18 := by omega
     have hM1 : m = numV S := by rw [hm.out, List.take_of_length_le (by omega)]
     have hM2 : m < 1000000000000000000 := by
      have h1 := numV_lt hS
      rw [hl] at h1
      exact Nat.lt_of_lt_of_le (by rw [hM1]; exact h1) (by decide)
     have HMV := Lib.hid hM1
     obtain rfl : gk = 0 := by omega
     clear hlt hm hi hM1 hM H10 HSA
     go_wp2
     go_loopg [16, 18] k (fun gk v16 v18 wr => ∃ i T : Nat, i + gk = k ∧ v18 = .int .i64 i ∧ v16 = .int .i64 (T : Int) ∧ Hid (T = 10 ^ i) ∧ wr = (w1.alloc (.cells #[.bool s3, .slice A3 n3 c3, .int .i64 f3, .bool s4, .slice A4 n4 c4, .int .i64 f4] 27)))
     case atStart => exact ⟨0, 1, by omega, rfl, rfl, Lib.hid rfl, rfl⟩
     case round =>
      obtain ⟨i, T, hi, rfl, rfl, hT0, rfl⟩ := hrel
      by_cases hlt : i < k
      ·obtain ⟨gr, rfl⟩ : ∃ q, gk = q + 1 := ⟨gk - 1, by omega⟩
       have hT1 : T ≤ 10000000000000000 := by rw [hT0.out]; exact Nat.le_trans (Nat.pow_le_pow_right (by omega) (show i ≤ 16 by omega)) (by decide)
       obtain ⟨T2, hT2⟩ : ∃ z, z = T * 10 := ⟨_, rfl⟩
       have hT3 : IntKind.i64.wrap ((T : Int) * 10) = (T2 : Int) := by rw [IntWalk.i64_in _ (by omega)]; omega
       have HT2 : Hid (T2 = 10 ^ (i + 1)) := Lib.hid (by rw [hT2, hT0.out, Nat.pow_succ])
       clear hT0 hT2
       go_wp2
       go_roundg gr
       case measure => omega
       case rel => exact ⟨i + 1, T2, by omega, by go_num, rfl, HT2, rfl⟩
      obtain rfl : i = k := by omega
      obtain rfl : gk = 0 := by omega
      have hT1 : T ≤ 100000000000000000 := by rw [hT0.out]; exact Nat.le_trans (Nat.pow_le_pow_right (by omega) (show i ≤ 17 by omega)) (by decide)
      have hTp : 0 < T := by rw [hT0.out]; exact Nat.pow_pos (by omega)
      have HTV := hT0
      clear hlt hT0 hi
      have E34 : Hid (vz KS s3 v3 f3 * (T : Int) ≤ ((m * 2 ^ KS : Nat) : Int) ∧ ((m * 2 ^ KS : Nat) : Int) ≤ vz KS s4 v4 f4 * (T : Int)) := Lib.hid (by rw [HTV.out, HMV.out]; exact H3.out.2.2)
      clear HTV HMV
      go_wp2_with fail
      refine (of_pos (a := m) (e := 0) hT (by omega)).mono ?_
      rintro en w2 ⟨k5, s5, A5, n5, c5, m5, g5, rfl, P5, N5, b⟩
      obtain ⟨rfl, rfl, o5, u5⟩ := of_val hKS (by omega) P5
      have U5 := Lib.hid u5
      clear P5 u5
      replace BB := bnx BB b
      have G := mv b rfl (J11 hE hT hP N3 N4 i0 i1 i2 i3 i4 i5)
      clear b hE hT hP N3 N4 i0 i1 i2 i3 i4 i5
      obtain ⟨hE, hT, hP, N3, N4, i0, i1, i2, i3, i4, i5⟩ := G
      obtain ⟨x50, x51, x52⟩ := (Box.new w2 false A5 n5 c5 g5).held
      have b := below_alloc w2 (.cells #[.bool false, .slice A5 n5 c5, .int .i64 g5] 25)
      replace BB := bnx BB b
      have G := mv b rfl (J12 hE hT hP N3 N4 i0 i1 i2 i3 i4 i5 N5)
      clear b hE hT hP N3 N4 i0 i1 i2 i3 i4 i5 N5
      obtain ⟨hE, hT, hP, N3, N4, i0, i1, i2, i3, i4, i5, N5⟩ := G
      go_wp2_with fail
      refine (of_pos (a := T) (e := 0) hT (by omega)).mono ?_
      rintro en w3 ⟨k6, s6, A6, n6, c6, m6, g6, rfl, P6, N6, b⟩
      obtain ⟨rfl, rfl, o6, u6⟩ := of_val hKS (by omega) P6
      have U6 := Lib.hid u6
      clear P6 u6
      replace BB := bnx BB b
      have G := mv b rfl (J15 hE hT hP N3 N4 i0 i1 i2 i3 i4 i5 N5 x50 x51 x52)
      clear b hE hT hP N3 N4 i0 i1 i2 i3 i4 i5 N5 x50 x51 x52
      obtain ⟨hE, hT, hP, N3, N4, i0, i1, i2, i3, i4, i5, N5, x50, x51, x52⟩ := G
      obtain ⟨x60, x61, x62⟩ := (Box.new w3 false A6 n6 c6 g6).held
      have b := below_alloc w3 (.cells #[.bool false, .slice A6 n6 c6, .int .i64 g6] 25)
      replace BB := bnx BB b
      have G := mv b rfl (J16 hE hT hP N3 N4 i0 i1 i2 i3 i4 i5 N5 x50 x51 x52 N6)
      clear b hE hT hP N3 N4 i0 i1 i2 i3 i4 i5 N5 x50 x51 x52 N6
      obtain ⟨hE, hT, hP, N3, N4, i0, i1, i2, i3, i4, i5, N5, x50, x51, x52, N6⟩ := G
      go_wp2_with fail
      refine (dmul_ok hT N3 N6 H3.out.1.1 o6.1).mono ?_
      rintro en w4 ⟨k7, s7, A7, n7, c7, m7, g7, rfl, P7, N7, b⟩
      obtain ⟨rfl, o7, u7⟩ := mul_val hKS ⟨H3.out.1.1, by omega, H3.out.1.2.2⟩ o6 U6.out P7
      have U7 := Lib.hid u7
      clear P7 u7
      replace BB := bnx BB b
      have G := mv b rfl (J19 hE hT hP N3 N4 i0 i1 i2 i3 i4 i5 N5 x50 x51 x52 N6 x60 x61 x62)
      clear b hE hT hP N3 N4 i0 i1 i2 i3 i4 i5 N5 x50 x51 x52 N6 x60 x61 x62
      obtain ⟨hE, hT, hP, N3, N4, i0, i1, i2, i3, i4, i5, N5, x50, x51, x52, N6, x60, x61, x62⟩ := G
      obtain ⟨x70, x71, x72⟩ := (Box.new w4 s7 A7 n7 c7 g7).held
      have b := below_alloc w4 (.cells #[.bool s7, .slice A7 n7 c7, .int .i64 g7] 25)
      replace BB := bnx BB b
      have G := mv b rfl (J20 hE hT hP N3 N4 i0 i1 i2 i3 i4 i5 N5 x50 x51 x52 N6 x60 x61 x62 N7)
      clear b hE hT hP N3 N4 i0 i1 i2 i3 i4 i5 N5 x50 x51 x52 N6 x60 x61 x62 N7
      obtain ⟨hE, hT, hP, N3, N4, i0, i1, i2, i3, i4, i5, N5, x50, x51, x52, N6, x60, x61, x62, N7⟩ := G
      go_wp2_with fail
      refine (dmul_ok hT N4 N6 H3.out.2.1.1 o6.1).mono ?_
      rintro en w5 ⟨k8, s8, A8, n8, c8, m8, g8, rfl, P8, N8, b⟩
      obtain ⟨rfl, o8, u8⟩ := mul_val hKS ⟨H3.out.2.1.1, by omega, H3.out.2.1.2.2⟩ o6 U6.out P8
      have U8 := Lib.hid u8
      clear P8 u8
      replace BB := bnx BB b
      have G := mv b rfl (J23 hE hT hP N3 N4 i0 i1 i2 i3 i4 i5 N5 x50 x51 x52 N6 x60 x61 x62 N7 x70 x71 x72)
      clear b hE hT hP N3 N4 i0 i1 i2 i3 i4 i5 N5 x50 x51 x52 N6 x60 x61 x62 N7 x70 x71 x72
      obtain ⟨hE, hT, hP, N3, N4, i0, i1, i2, i3, i4, i5, N5, x50, x51, x52, N6, x60, x61, x62, N7, x70, x71, x72⟩ := G
      obtain ⟨x80, x81, x82⟩ := (Box.new w5 s8 A8 n8 c8 g8).held
      have b := below_alloc w5 (.cells #[.bool s8, .slice A8 n8 c8, .int .i64 g8] 25)
      replace BB := bnx BB b
      have G := mv b rfl (J24 hE hT hP N3 N4 i0 i1 i2 i3 i4 i5 N5 x50 x51 x52 N6 x60 x61 x62 N7 x70 x71 x72 N8)
      clear b hE hT hP N3 N4 i0 i1 i2 i3 i4 i5 N5 x50 x51 x52 N6 x60 x61 x62 N7 x70 x71 x72 N8
      obtain ⟨hE, hT, hP, N3, N4, i0, i1, i2, i3, i4, i5, N5, x50, x51, x52, N6, x60, x61, x62, N7, x70, x71, x72, N8⟩ := G
      clear N6 x60 x61 x62
      obtain ⟨z1, z2, q1, q2, y1, y2, hsm⟩ := ends_same hKS hTp H3.out.1.1 H3.out.2.1.1 E34.out.1 E34.out.2
      have cc1 : Hid (cmpV (vz KS s7 m7 g7) (vz KS false m5 g5) = z1) := Lib.hid (by rw [U7.out, U5.out]; exact q1)
      have cc2 : Hid (cmpV (vz KS false m5 g5) (vz KS s8 m8 g8) = z2) := Lib.hid (by rw [U8.out, U5.out]; exact q2)
      have dz1 : decide (0 < z1) = false := decide_eq_false (by omega)
      have dz2 : decide (0 < z2) = false := decide_eq_false (by omega)
      have db3 : decide (q < blen v3) = false := decide_eq_false (by omega)
      have db4 : decide (q < blen v4) = false := decide_eq_false (by omega)
      have HSM := Lib.hid hsm
      clear q1 q2 hsm E34 U5 U6 U7 U8 o6 hTp hT1 b3 b4
      go_wp2_with fail
      refine (dcmp_is hKS hT N7 N5 o7 o5.1 cc1.out).mono ?_
      rintro en w6 ⟨rfl, b⟩
      replace BB := bnx BB b
      have G := mv b rfl (J23 hE hT hP N3 N4 i0 i1 i2 i3 i4 i5 N5 x50 x51 x52 N7 x70 x71 x72 N8 x80 x81 x82)
      clear b hE hT hP N3 N4 i0 i1 i2 i3 i4 i5 N5 x50 x51 x52 N7 x70 x71 x72 N8 x80 x81 x82
      obtain ⟨hE, hT, hP, N3, N4, i0, i1, i2, i3, i4, i5, N5, x50, x51, x52, N7, x70, x71, x72, N8, x80, x81, x82⟩ := G
      go_wp2_with fail
      refine (dcmp_is hKS hT N5 N8 o5.1 o8 cc2.out).mono ?_
      rintro en w7 ⟨rfl, b⟩
      replace BB := bnx BB b
      have G := mv b rfl (J23 hE hT hP N3 N4 i0 i1 i2 i3 i4 i5 N5 x50 x51 x52 N7 x70 x71 x72 N8 x80 x81 x82)
      clear b hE hT hP N3 N4 i0 i1 i2 i3 i4 i5 N5 x50 x51 x52 N7 x70 x71 x72 N8 x80 x81 x82
      obtain ⟨hE, hT, hP, N3, N4, i0, i1, i2, i3, i4, i5, N5, x50, x51, x52, N7, x70, x71, x72, N8, x80, x81, x82⟩ := G
      go_wp2_with fail
      refine (bits_ok hT N3 H3.out.1.1).mono ?_
      rintro en w8 ⟨rfl, b⟩
      replace BB := bnx BB b
      have G := mv b rfl (J23 hE hT hP N3 N4 i0 i1 i2 i3 i4 i5 N5 x50 x51 x52 N7 x70 x71 x72 N8 x80 x81 x82)
      clear b hE hT hP N3 N4 i0 i1 i2 i3 i4 i5 N5 x50 x51 x52 N7 x70 x71 x72 N8 x80 x81 x82
      obtain ⟨hE, hT, hP, N3, N4, i0, i1, i2, i3, i4, i5, N5, x50, x51, x52, N7, x70, x71, x72, N8, x80, x81, x82⟩ := G
      go_wp2_with fail
      refine (bits_ok hT N4 H3.out.2.1.1).mono ?_
      rintro en w9 ⟨rfl, b⟩
      replace BB := bnx BB b
      have G := mv b rfl (J23 hE hT hP N3 N4 i0 i1 i2 i3 i4 i5 N5 x50 x51 x52 N7 x70 x71 x72 N8 x80 x81 x82)
      clear b hE hT hP N3 N4 i0 i1 i2 i3 i4 i5 N5 x50 x51 x52 N7 x70 x71 x72 N8 x80 x81 x82
      obtain ⟨hE, hT, hP, N3, N4, i0, i1, i2, i3, i4, i5, N5, x50, x51, x52, N7, x70, x71, x72, N8, x80, x81, x82⟩ := G
      go_wp2_with fail
      have b : Below w9.heap.size w9 (World.drew w9) := below_drewN (Below.refl _ _) 1
      replace BB := bnx BB b
      have G := mv b rfl (J23 hE hT hP N3 N4 i0 i1 i2 i3 i4 i5 N5 x50 x51 x52 N7 x70 x71 x72 N8 x80 x81 x82)
      clear b hE hT hP N3 N4 i0 i1 i2 i3 i4 i5 N5 x50 x51 x52 N7 x70 x71 x72 N8 x80 x81 x82
      obtain ⟨hE, hT, hP, N3, N4, i0, i1, i2, i3, i4, i5, N5, x50, x51, x52, N7, x70, x71, x72, N8, x80, x81, x82⟩ := G
      rcases y1 with rfl | rfl
      ·rcases y2 with rfl | rfl
       ·replace HSM : Hid (decide (s3 = s4 ∧ v3 = v4 ∧ f3 = f4) = true) := Lib.hid HSM.out
        refine wp_region_held_drew (S := fun w' => w'.cell? ⟨w1.heap.size, 0, none⟩ = some (.bool s3) ∧ w'.cell? ⟨w1.heap.size, 1, none⟩ = some (.slice A3 n3 c3) ∧ w'.cell? ⟨w1.heap.size, 2, none⟩ = some (.int .i64 f3) ∧ w'.cell? ⟨w1.heap.size, 3, none⟩ = some (.bool s4) ∧ w'.cell? ⟨w1.heap.size, 4, none⟩ = some (.slice A4 n4 c4) ∧ w'.cell? ⟨w1.heap.size, 5, none⟩ = some (.int .i64 f4) ∧ w'.cell? ⟨w2.heap.size, 0, none⟩ = some (.bool false) ∧ w'.cell? ⟨w2.heap.size, 1, none⟩ = some (.slice A5 n5 c5) ∧ w'.cell? ⟨w2.heap.size, 2, none⟩ = some (.int .i64 g5) ∧ w'.cell? ⟨w4.heap.size, 0, none⟩ = some (.bool s7) ∧ w'.cell? ⟨w4.heap.size, 1, none⟩ = some (.slice A7 n7 c7) ∧ w'.cell? ⟨w4.heap.size, 2, none⟩ = some (.int .i64 g7) ∧ w'.cell? ⟨w5.heap.size, 0, none⟩ = some (.bool s8) ∧ w'.cell? ⟨w5.heap.size, 1, none⟩ = some (.slice A8 n8 c8) ∧ w'.cell? ⟨w5.heap.size, 2, none⟩ = some (.int .i64 g8)) (by kernel_rfl) (by exact ⟨i0, i1, i2, i3, i4, i5, x50, x51, x52, x70, x71, x72, x80, x81, x82⟩) (fun hHeldu0 => ?_)
        generalize World.drew w9 = wd at *
        refine rdy 0 fun K hK => ?_
        go_simp
        refine (told4_any hE hT hP).mono ?_
        rintro en w' ⟨rfl, b⟩
        clear hE hP
        replace BB := below_next BB BB.size b (by rfl) (by rfl) (by rfl) (by rfl)
        have G := mv b (by rfl) <| And.intro hT <| And.intro N3 <| And.intro N4 <| And.intro i0 <| And.intro i1 <| And.intro i2 <| And.intro i3 <| And.intro i4 <| And.intro i5 <| And.intro N5 <| And.intro x50 <| And.intro x51 <| And.intro x52 <| And.intro N7 <| And.intro x70 <| And.intro x71 <| And.intro x72 <| And.intro N8 <| And.intro x80 <| And.intro x81 <| x82
        clear b hT N3 N4 i0 i1 i2 i3 i4 i5 N5 x50 x51 x52 N7 x70 x71 x72 N8 x80 x81 x82
        obtain ⟨hT, N3, N4, i0, i1, i2, i3, i4, i5, N5, x50, x51, x52, N7, x70, x71, x72, N8, x80, x81, x82⟩ := G
        refine hK.out _ _ (by exact ⟨i0, i1, i2, i3, i4, i5, x50, x51, x52, x70, x71, x72, x80, x81, x82⟩) (fun hHeldu1 => ?_)
        clear hK K hHeldu0
        try simp only [Act.put]
        refine tl 1 ?_
        refine tl 2 ?_
        refine tl 3 ?_
        refine tl 4 ?_
        refine tl 5 ?_
        refine tl 7 ?_
        refine tl 8 ?_
        refine rdy 6 fun K hK => ?_
        go_simp
        have hsame := dsame_any (s := s3) (t := s4) (e := f3) (f := f4) N3 N4
        rw [HSM.out] at hsame
        clear HSM
        refine (hsame).mono ?_
        rintro en w' ⟨rfl, b⟩
        clear hsame
        clear N3 N4
        replace BB := below_next BB BB.size b (by rfl) (by rfl) (by rfl) (by rfl)
        have G := mv b (by rfl) <| And.intro hT <| And.intro i0 <| And.intro i1 <| And.intro i2 <| And.intro i3 <| And.intro i4 <| And.intro i5 <| And.intro N5 <| And.intro x50 <| And.intro x51 <| And.intro x52 <| And.intro N7 <| And.intro x70 <| And.intro x71 <| And.intro x72 <| And.intro N8 <| And.intro x80 <| And.intro x81 <| x82
        clear b hT i0 i1 i2 i3 i4 i5 N5 x50 x51 x52 N7 x70 x71 x72 N8 x80 x81 x82
        obtain ⟨hT, i0, i1, i2, i3, i4, i5, N5, x50, x51, x52, N7, x70, x71, x72, N8, x80, x81, x82⟩ := G
        refine hK.out _ _ (by exact ⟨i0, i1, i2, i3, i4, i5, x50, x51, x52, x70, x71, x72, x80, x81, x82⟩) (fun hHeldu2 => ?_)
        clear hK K hHeldu1
        try simp only [Act.put]
        refine rdy 9 fun K hK => ?_
        go_simp
        refine (dcmp_is hKS hT N7 N5 o7 o5.1 cc1.out).mono ?_
        rintro en w' ⟨rfl, b⟩
        clear N7
        replace BB := below_next BB BB.size b (by rfl) (by rfl) (by rfl) (by rfl)
        have G := mv b (by rfl) <| And.intro hT <| And.intro i0 <| And.intro i1 <| And.intro i2 <| And.intro i3 <| And.intro i4 <| And.intro i5 <| And.intro N5 <| And.intro x50 <| And.intro x51 <| And.intro x52 <| And.intro x70 <| And.intro x71 <| And.intro x72 <| And.intro N8 <| And.intro x80 <| And.intro x81 <| x82
        clear b hT i0 i1 i2 i3 i4 i5 N5 x50 x51 x52 x70 x71 x72 N8 x80 x81 x82
        obtain ⟨hT, i0, i1, i2, i3, i4, i5, N5, x50, x51, x52, x70, x71, x72, N8, x80, x81, x82⟩ := G
        refine hK.out _ _ (by exact ⟨i0, i1, i2, i3, i4, i5, x50, x51, x52, x70, x71, x72, x80, x81, x82⟩) (fun hHeldu3 => ?_)
        clear hK K hHeldu2
        try simp only [Act.put]
        refine tl 10 ?_
        refine tl 11 ?_
        refine tl 12 ?_
        refine tl 13 ?_
        refine rdy 14 fun K hK => ?_
        go_simp
        refine (dcmp_is hKS hT N5 N8 o5.1 o8 cc2.out).mono ?_
        rintro en w' ⟨rfl, b⟩
        clear N5 N8
        replace BB := below_next BB BB.size b (by rfl) (by rfl) (by rfl) (by rfl)
        have G := mv b (by rfl) <| And.intro hT <| And.intro i0 <| And.intro i1 <| And.intro i2 <| And.intro i3 <| And.intro i4 <| And.intro i5 <| And.intro x50 <| And.intro x51 <| And.intro x52 <| And.intro x70 <| And.intro x71 <| And.intro x72 <| And.intro x80 <| And.intro x81 <| x82
        clear b hT i0 i1 i2 i3 i4 i5 x50 x51 x52 x70 x71 x72 x80 x81 x82
        obtain ⟨hT, i0, i1, i2, i3, i4, i5, x50, x51, x52, x70, x71, x72, x80, x81, x82⟩ := G
        refine hK.out _ _ (by exact ⟨i0, i1, i2, i3, i4, i5, x50, x51, x52, x70, x71, x72, x80, x81, x82⟩) (fun hHeldu4 => ?_)
        clear hK K hHeldu3
        try simp only [Act.put]
        refine tl 15 ?_
        refine tl 16 ?_
        refine tl 17 ?_
        refine tl 18 ?_
        refine tl 19 ?_
        refine wpAnyH_done (by kernel_rfl) ?_ _
        go_wp2
        go_ret
        exact ⟨by first | rfl | simp, BB⟩
       ·replace HSM : Hid (decide (s3 = s4 ∧ v3 = v4 ∧ f3 = f4) = false) := Lib.hid HSM.out
        refine wp_region_held_drew (S := fun w' => w'.cell? ⟨w1.heap.size, 0, none⟩ = some (.bool s3) ∧ w'.cell? ⟨w1.heap.size, 1, none⟩ = some (.slice A3 n3 c3) ∧ w'.cell? ⟨w1.heap.size, 2, none⟩ = some (.int .i64 f3) ∧ w'.cell? ⟨w1.heap.size, 3, none⟩ = some (.bool s4) ∧ w'.cell? ⟨w1.heap.size, 4, none⟩ = some (.slice A4 n4 c4) ∧ w'.cell? ⟨w1.heap.size, 5, none⟩ = some (.int .i64 f4) ∧ w'.cell? ⟨w2.heap.size, 0, none⟩ = some (.bool false) ∧ w'.cell? ⟨w2.heap.size, 1, none⟩ = some (.slice A5 n5 c5) ∧ w'.cell? ⟨w2.heap.size, 2, none⟩ = some (.int .i64 g5) ∧ w'.cell? ⟨w4.heap.size, 0, none⟩ = some (.bool s7) ∧ w'.cell? ⟨w4.heap.size, 1, none⟩ = some (.slice A7 n7 c7) ∧ w'.cell? ⟨w4.heap.size, 2, none⟩ = some (.int .i64 g7) ∧ w'.cell? ⟨w5.heap.size, 0, none⟩ = some (.bool s8) ∧ w'.cell? ⟨w5.heap.size, 1, none⟩ = some (.slice A8 n8 c8) ∧ w'.cell? ⟨w5.heap.size, 2, none⟩ = some (.int .i64 g8)) (by kernel_rfl) (by exact ⟨i0, i1, i2, i3, i4, i5, x50, x51, x52, x70, x71, x72, x80, x81, x82⟩) (fun hHeldv0 => ?_)
        generalize World.drew w9 = wd at *
        refine rdy 0 fun K hK => ?_
        go_simp
        refine (told4_any hE hT hP).mono ?_
        rintro en w' ⟨rfl, b⟩
        clear hE hP
        replace BB := below_next BB BB.size b (by rfl) (by rfl) (by rfl) (by rfl)
        have G := mv b (by rfl) <| And.intro hT <| And.intro N3 <| And.intro N4 <| And.intro i0 <| And.intro i1 <| And.intro i2 <| And.intro i3 <| And.intro i4 <| And.intro i5 <| And.intro N5 <| And.intro x50 <| And.intro x51 <| And.intro x52 <| And.intro N7 <| And.intro x70 <| And.intro x71 <| And.intro x72 <| And.intro N8 <| And.intro x80 <| And.intro x81 <| x82
        clear b hT N3 N4 i0 i1 i2 i3 i4 i5 N5 x50 x51 x52 N7 x70 x71 x72 N8 x80 x81 x82
        obtain ⟨hT, N3, N4, i0, i1, i2, i3, i4, i5, N5, x50, x51, x52, N7, x70, x71, x72, N8, x80, x81, x82⟩ := G
        refine hK.out _ _ (by exact ⟨i0, i1, i2, i3, i4, i5, x50, x51, x52, x70, x71, x72, x80, x81, x82⟩) (fun hHeldv1 => ?_)
        clear hK K hHeldv0
        try simp only [Act.put]
        refine tl 1 ?_
        refine tl 2 ?_
        refine tl 3 ?_
        refine tl 4 ?_
        refine tl 5 ?_
        refine tl 7 ?_
        refine tl 8 ?_
        refine rdy 6 fun K hK => ?_
        go_simp
        have hsame := dsame_any (s := s3) (t := s4) (e := f3) (f := f4) N3 N4
        rw [HSM.out] at hsame
        clear HSM
        refine (hsame).mono ?_
        rintro en w' ⟨rfl, b⟩
        clear hsame
        clear N3 N4
        replace BB := below_next BB BB.size b (by rfl) (by rfl) (by rfl) (by rfl)
        have G := mv b (by rfl) <| And.intro hT <| And.intro i0 <| And.intro i1 <| And.intro i2 <| And.intro i3 <| And.intro i4 <| And.intro i5 <| And.intro N5 <| And.intro x50 <| And.intro x51 <| And.intro x52 <| And.intro N7 <| And.intro x70 <| And.intro x71 <| And.intro x72 <| And.intro N8 <| And.intro x80 <| And.intro x81 <| x82
        clear b hT i0 i1 i2 i3 i4 i5 N5 x50 x51 x52 N7 x70 x71 x72 N8 x80 x81 x82
        obtain ⟨hT, i0, i1, i2, i3, i4, i5, N5, x50, x51, x52, N7, x70, x71, x72, N8, x80, x81, x82⟩ := G
        refine hK.out _ _ (by exact ⟨i0, i1, i2, i3, i4, i5, x50, x51, x52, x70, x71, x72, x80, x81, x82⟩) (fun hHeldv2 => ?_)
        clear hK K hHeldv1
        try simp only [Act.put]
        refine rdy 9 fun K hK => ?_
        go_simp
        refine (dcmp_is hKS hT N7 N5 o7 o5.1 cc1.out).mono ?_
        rintro en w' ⟨rfl, b⟩
        clear N7
        replace BB := below_next BB BB.size b (by rfl) (by rfl) (by rfl) (by rfl)
        have G := mv b (by rfl) <| And.intro hT <| And.intro i0 <| And.intro i1 <| And.intro i2 <| And.intro i3 <| And.intro i4 <| And.intro i5 <| And.intro N5 <| And.intro x50 <| And.intro x51 <| And.intro x52 <| And.intro x70 <| And.intro x71 <| And.intro x72 <| And.intro N8 <| And.intro x80 <| And.intro x81 <| x82
        clear b hT i0 i1 i2 i3 i4 i5 N5 x50 x51 x52 x70 x71 x72 N8 x80 x81 x82
        obtain ⟨hT, i0, i1, i2, i3, i4, i5, N5, x50, x51, x52, x70, x71, x72, N8, x80, x81, x82⟩ := G
        refine hK.out _ _ (by exact ⟨i0, i1, i2, i3, i4, i5, x50, x51, x52, x70, x71, x72, x80, x81, x82⟩) (fun hHeldv3 => ?_)
        clear hK K hHeldv2
        try simp only [Act.put]
        refine tl 10 ?_
        refine tl 11 ?_
        refine tl 12 ?_
        refine tl 13 ?_
        refine rdy 14 fun K hK => ?_
        go_simp
        refine (dcmp_is hKS hT N5 N8 o5.1 o8 cc2.out).mono ?_
        rintro en w' ⟨rfl, b⟩
        clear N5 N8
        replace BB := below_next BB BB.size b (by rfl) (by rfl) (by rfl) (by rfl)
        have G := mv b (by rfl) <| And.intro hT <| And.intro i0 <| And.intro i1 <| And.intro i2 <| And.intro i3 <| And.intro i4 <| And.intro i5 <| And.intro x50 <| And.intro x51 <| And.intro x52 <| And.intro x70 <| And.intro x71 <| And.intro x72 <| And.intro x80 <| And.intro x81 <| x82
        clear b hT i0 i1 i2 i3 i4 i5 x50 x51 x52 x70 x71 x72 x80 x81 x82
        obtain ⟨hT, i0, i1, i2, i3, i4, i5, x50, x51, x52, x70, x71, x72, x80, x81, x82⟩ := G
        refine hK.out _ _ (by exact ⟨i0, i1, i2, i3, i4, i5, x50, x51, x52, x70, x71, x72, x80, x81, x82⟩) (fun hHeldv4 => ?_)
        clear hK K hHeldv3
        try simp only [Act.put]
        refine tl 15 ?_
        refine tl 16 ?_
        refine tl 17 ?_
        refine tl 18 ?_
        refine tl 19 ?_
        refine wpAnyH_done (by kernel_rfl) ?_ _
        go_wp2
        go_ret
        exact ⟨by first | rfl | simp, BB⟩
      ·replace HSM : Hid (decide (s3 = s4 ∧ v3 = v4 ∧ f3 = f4) = false) := Lib.hid HSM.out
       refine wp_region_held_drew (S := fun w' => w'.cell? ⟨w1.heap.size, 0, none⟩ = some (.bool s3) ∧ w'.cell? ⟨w1.heap.size, 1, none⟩ = some (.slice A3 n3 c3) ∧ w'.cell? ⟨w1.heap.size, 2, none⟩ = some (.int .i64 f3) ∧ w'.cell? ⟨w1.heap.size, 3, none⟩ = some (.bool s4) ∧ w'.cell? ⟨w1.heap.size, 4, none⟩ = some (.slice A4 n4 c4) ∧ w'.cell? ⟨w1.heap.size, 5, none⟩ = some (.int .i64 f4) ∧ w'.cell? ⟨w2.heap.size, 0, none⟩ = some (.bool false) ∧ w'.cell? ⟨w2.heap.size, 1, none⟩ = some (.slice A5 n5 c5) ∧ w'.cell? ⟨w2.heap.size, 2, none⟩ = some (.int .i64 g5) ∧ w'.cell? ⟨w4.heap.size, 0, none⟩ = some (.bool s7) ∧ w'.cell? ⟨w4.heap.size, 1, none⟩ = some (.slice A7 n7 c7) ∧ w'.cell? ⟨w4.heap.size, 2, none⟩ = some (.int .i64 g7) ∧ w'.cell? ⟨w5.heap.size, 0, none⟩ = some (.bool s8) ∧ w'.cell? ⟨w5.heap.size, 1, none⟩ = some (.slice A8 n8 c8) ∧ w'.cell? ⟨w5.heap.size, 2, none⟩ = some (.int .i64 g8)) (by kernel_rfl) (by exact ⟨i0, i1, i2, i3, i4, i5, x50, x51, x52, x70, x71, x72, x80, x81, x82⟩) (fun hHeldt0 => ?_)
       generalize World.drew w9 = wd at *
       refine rdy 0 fun K hK => ?_
       go_simp
       refine (told4_any hE hT hP).mono ?_
       rintro en w' ⟨rfl, b⟩
       clear hE hP
       replace BB := below_next BB BB.size b (by rfl) (by rfl) (by rfl) (by rfl)
       have G := mv b (by rfl) <| And.intro hT <| And.intro N3 <| And.intro N4 <| And.intro i0 <| And.intro i1 <| And.intro i2 <| And.intro i3 <| And.intro i4 <| And.intro i5 <| And.intro N5 <| And.intro x50 <| And.intro x51 <| And.intro x52 <| And.intro N7 <| And.intro x70 <| And.intro x71 <| And.intro x72 <| And.intro N8 <| And.intro x80 <| And.intro x81 <| x82
       clear b hT N3 N4 i0 i1 i2 i3 i4 i5 N5 x50 x51 x52 N7 x70 x71 x72 N8 x80 x81 x82
       obtain ⟨hT, N3, N4, i0, i1, i2, i3, i4, i5, N5, x50, x51, x52, N7, x70, x71, x72, N8, x80, x81, x82⟩ := G
       refine hK.out _ _ (by exact ⟨i0, i1, i2, i3, i4, i5, x50, x51, x52, x70, x71, x72, x80, x81, x82⟩) (fun hHeldt1 => ?_)
       clear hK K hHeldt0
       try simp only [Act.put]
       refine tl 1 ?_
       refine tl 2 ?_
       refine tl 3 ?_
       refine tl 4 ?_
       refine tl 5 ?_
       refine tl 7 ?_
       refine tl 8 ?_
       refine rdy 6 fun K hK => ?_
       go_simp
       have hsame := dsame_any (s := s3) (t := s4) (e := f3) (f := f4) N3 N4
       rw [HSM.out] at hsame
       clear HSM
       refine (hsame).mono ?_
       rintro en w' ⟨rfl, b⟩
       clear hsame
       clear N3 N4
       replace BB := below_next BB BB.size b (by rfl) (by rfl) (by rfl) (by rfl)
       have G := mv b (by rfl) <| And.intro hT <| And.intro i0 <| And.intro i1 <| And.intro i2 <| And.intro i3 <| And.intro i4 <| And.intro i5 <| And.intro N5 <| And.intro x50 <| And.intro x51 <| And.intro x52 <| And.intro N7 <| And.intro x70 <| And.intro x71 <| And.intro x72 <| And.intro N8 <| And.intro x80 <| And.intro x81 <| x82
       clear b hT i0 i1 i2 i3 i4 i5 N5 x50 x51 x52 N7 x70 x71 x72 N8 x80 x81 x82
       obtain ⟨hT, i0, i1, i2, i3, i4, i5, N5, x50, x51, x52, N7, x70, x71, x72, N8, x80, x81, x82⟩ := G
       refine hK.out _ _ (by exact ⟨i0, i1, i2, i3, i4, i5, x50, x51, x52, x70, x71, x72, x80, x81, x82⟩) (fun hHeldt2 => ?_)
       clear hK K hHeldt1
       try simp only [Act.put]
       refine rdy 9 fun K hK => ?_
       go_simp
       refine (dcmp_is hKS hT N7 N5 o7 o5.1 cc1.out).mono ?_
       rintro en w' ⟨rfl, b⟩
       clear N7 N5 N8
       replace BB := below_next BB BB.size b (by rfl) (by rfl) (by rfl) (by rfl)
       have G := mv b (by rfl) <| And.intro hT <| And.intro i0 <| And.intro i1 <| And.intro i2 <| And.intro i3 <| And.intro i4 <| And.intro i5 <| And.intro x50 <| And.intro x51 <| And.intro x52 <| And.intro x70 <| And.intro x71 <| And.intro x72 <| And.intro x80 <| And.intro x81 <| x82
       clear b hT i0 i1 i2 i3 i4 i5 x50 x51 x52 x70 x71 x72 x80 x81 x82
       obtain ⟨hT, i0, i1, i2, i3, i4, i5, x50, x51, x52, x70, x71, x72, x80, x81, x82⟩ := G
       refine hK.out _ _ (by exact ⟨i0, i1, i2, i3, i4, i5, x50, x51, x52, x70, x71, x72, x80, x81, x82⟩) (fun hHeldt3 => ?_)
       clear hK K hHeldt2
       try simp only [Act.put]
       refine tl 10 ?_
       refine tl 11 ?_
       refine wpAnyH_take (i := 12) (v := undef) rfl (by kernel_rfl) (by kernel_rfl) (by kernel_rfl) (fun _ _ _ h => panic_put (P := Tryz.prog) (fn := Tryz.f5) (R := (fun en w' => ToldEnd wc en w')) h) (Or.inr ⟨by rfl, rfl⟩) (by assumption) ?_
       change wpAnyH _ _ _ _ _ _ _ (Act.put _ (some 163) _) _
       simp only [Act.put, List.setIfInBounds_toArray, List.set_cons_zero, List.set_cons_succ]
       refine wpAnyH_take (i := 13) (v := undef) rfl (by kernel_rfl) (by kernel_rfl) (by kernel_rfl) (fun _ _ _ h => panic_put (P := Tryz.prog) (fn := Tryz.f5) (R := (fun en w' => ToldEnd wc en w')) h) (Or.inr ⟨by rfl, rfl⟩) (by assumption) ?_
       change wpAnyH _ _ _ _ _ _ _ (Act.put _ (some 164) _) _
       simp only [Act.put, List.setIfInBounds_toArray, List.set_cons_zero, List.set_cons_succ]
       refine wpAnyH_take (i := 14) (v := undef) rfl (by kernel_rfl) (by kernel_rfl) (by kernel_rfl) (fun _ _ _ h => panic_put (P := Tryz.prog) (fn := Tryz.f5) (R := (fun en w' => ToldEnd wc en w')) h) (Or.inr ⟨by rfl, rfl⟩) (by assumption) ?_
       change wpAnyH _ _ _ _ _ _ _ (Act.put _ (some 165) _) _
       simp only [Act.put, List.setIfInBounds_toArray, List.set_cons_zero, List.set_cons_succ]
       refine wpAnyH_take (i := 15) (v := undef) rfl (by kernel_rfl) (by kernel_rfl) (by kernel_rfl) (fun _ _ _ h => panic_put (P := Tryz.prog) (fn := Tryz.f5) (R := (fun en w' => ToldEnd wc en w')) h) (Or.inr ⟨by rfl, rfl⟩) (by assumption) ?_
       change wpAnyH _ _ _ _ _ _ _ (Act.put _ (some 166) _) _
       simp only [Act.put, List.setIfInBounds_toArray, List.set_cons_zero, List.set_cons_succ]
       refine tl 16 ?_
       refine tl 17 ?_
       refine tl 18 ?_
       refine tl 19 ?_
       refine wpAnyH_done (by kernel_rfl) ?_ _
       go_wp2
       go_ret
       exact ⟨by first | rfl | simp, BB⟩
end Go.Proofs.YtefofejgogokpaaGreatDoor
