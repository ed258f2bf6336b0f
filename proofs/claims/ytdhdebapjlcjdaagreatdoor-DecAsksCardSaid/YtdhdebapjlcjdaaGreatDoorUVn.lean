/-
 Contracts of the reference's digit and Literal (from a text's begin), at this translation. Condition: the text has at most 100 bytes.
-/
import Derived.Test.YtdhdebapjlcjdaaGreatDoorUVl
import Derived.Test.YtdhdebapjlcjdaaGreatDoorUVe
import Derived.Test.YtdhdebapjlcjdaaGreatDoorUKz
import Derived.Deep.CutBlock
set_option maxHeartbeats 8000000
set_option maxRecDepth 100000
namespace Go.Proofs.YtdhdebapjlcjdaaGreatDoor
open Go.RowKit

theorem rdigit_any {w : World} {c : UInt8} : Calls Tryz.prog 78 #[.int .u8 (c.toNat : Int)] w fun en w' => en = .returned (.bool (isDig c)) ∧ w' = w := by
 have h1 : isDig c = (decide ((48 : Int) ≤ (c.toNat : Int)) && decide ((c.toNat : Int) ≤ 57)) := by
  unfold isDig
  rw [Bool.eq_iff_iff]
  simp
  omega
 rw [h1]
 go_enter Tryz.func78, Tryz.ntmps78
 by_cases a : (48 : Int) ≤ (c.toNat : Int)
 ·have d1 : decide ((48 : Int) ≤ (c.toNat : Int)) = true := decide_eq_true a
  go_wp2
  go_ret
  exact ⟨by simp [d1], rfl⟩
 ·have d1 : decide ((48 : Int) ≤ (c.toNat : Int)) = false := decide_eq_false a
  go_wp2
  go_ret
  exact ⟨by simp, rfl⟩
/-- the byte at a place, as the head of what is left -/
theorem drop_at {s : ByteArray} {i : Nat} (h : i < s.size) : s.data.toList.drop i = s[i] :: s.data.toList.drop (i + 1) := by
 rw [List.drop_eq_getElem_cons (by rw [size_list]; exact h)]
 congr 1
theorem drop_end {s : ByteArray} {i : Nat} (h : s.size ≤ i) : s.data.toList.drop i = [] := List.drop_eq_nil_of_le (by rw [size_list]; exact h)
theorem byte_eq {c : UInt8} (b : UInt8) : ((c.toNat : Int) == (b.toNat : Int)) = (c == b) := by
 rw [Bool.eq_iff_iff, beq_iff_eq, beq_iff_eq]
 constructor
 ·intro h
  exact UInt8.toNat_inj.1 (by omega)
 ·intro h
  rw [h]
/-- how many digits stand at a place -/
def digN (s : ByteArray) (i : Nat) : Nat := (spanD (s.data.toList.drop i)).length
theorem digN_yes {s : ByteArray} {i : Nat} (h : i < s.size) (hd : isDig s[i] = true) : digN s i = digN s (i + 1) + 1 := by
 unfold digN
 rw [drop_at h]
 show (List.takeWhile isDig (s[i] :: _)).length = _
 rw [List.takeWhile_cons, hd, if_pos rfl]
 rfl
theorem digN_no {s : ByteArray} {i : Nat} (h : i < s.size) (hd : isDig s[i] = false) : digN s i = 0 := by
 unfold digN
 rw [drop_at h]
 show (List.takeWhile isDig (s[i] :: _)).length = _
 rw [List.takeWhile_cons, hd]
 rfl
theorem digN_end {s : ByteArray} {i : Nat} (h : s.size ≤ i) : digN s i = 0 := by
 unfold digN
 rw [drop_end h]
 rfl
theorem digN_le {s : ByteArray} {i : Nat} (h : i ≤ s.size) : i + digN s i ≤ s.size := by
 have h1 := span_len (s.data.toList.drop i)
 rw [List.length_drop, size_list] at h1
 unfold digN
 omega
theorem dig_is {s : ByteArray} {i k : Nat} (hi : i + digN s i = k) (h : i < s.size) : isDig s[i] = decide (i < k) := by
 cases hd : isDig s[i] with
 | true => have := digN_yes h hd; rw [decide_eq_true (by omega)]
 | false => have := digN_no h hd; rw [decide_eq_false (by omega)]
theorem span_step {s : ByteArray} {k i : Nat} (h : i < digN s k) : ∃ h2 : k + i < s.size, ∃ d : Nat, d ≤ 9 ∧ s[k + i].toNat = 48 + d ∧ isDig s[k + i] = true ∧ numV ((spanD (s.data.toList.drop k)).take (i + 1)) = numV ((spanD (s.data.toList.drop k)).take i) * 10 + d := by
 unfold digN at h
 have h1 := span_len (s.data.toList.drop k)
 rw [List.length_drop, size_list] at h1
 have h2 : k + i < s.size := by omega
 have e1 : (spanD (s.data.toList.drop k))[i] = s[k + i] := by
  have e2 : (spanD (s.data.toList.drop k))[i]? = some s[k + i] := by
   rw [span_take, List.getElem?_take, if_pos h, List.getElem?_drop, List.getElem?_eq_getElem (by rw [size_list]; exact h2), Array.getElem_toList]
   rfl
  rw [List.getElem?_eq_getElem h] at e2
  injection e2
 have hd := digs_span (s.data.toList.drop k) _ (List.getElem_mem h)
 rw [e1] at hd
 have hd2 := isDig_iff.1 hd
 refine ⟨h2, s[k + i].toNat - 48, by omega, by omega, hd, ?_⟩
 rw [List.take_succ_eq_append_getElem h, numV_snoc, e1]
theorem span_stop {s : ByteArray} {k : Nat} (h : k + digN s k < s.size) : isDig (s[k + digN s k]) = false := by
 have h1 := rest_drop (s.data.toList.drop k)
 rw [List.drop_drop] at h1
 have h2 : s.data.toList.drop (k + (spanD (s.data.toList.drop k)).length) = s[k + digN s k] :: s.data.toList.drop (k + digN s k + 1) := drop_at h
 rw [h2] at h1
 exact rest_head h1
/-- a head among given bytes -/
theorem head_at {s : ByteArray} {i : Nat} (h : i < s.size) : (s.data.toList.drop i).head? = some s[i] := by rw [drop_at h]; rfl
theorem litP_at {s : ByteArray} {i : Nat} (h : i + 1 < s.size) (hp : s[i]'(by omega) = 46) (hd : isDig s[i + 1] = true) : litP (s.data.toList.drop i) = 1 + digN s (i + 1) := by
 have h1 := digN_yes h hd
 unfold digN at h1 ⊢
 unfold litP
 rw [drop_at (show i < s.size by omega), if_pos (by rw [hp]; rfl), List.tail_cons, if_neg (fun h2 => by rw [h2] at h1; simp at h1)]
theorem litP_no {s : ByteArray} {i : Nat} (h : ∀ h : i + 1 < s.size, s[i]'(by omega) = 46 → isDig s[i + 1] = false) : litP (s.data.toList.drop i) = 0 := by
 unfold litP
 rcases Nat.lt_or_ge i s.size with h1 | h1
 ·rw [drop_at h1, List.tail_cons]
  by_cases hp : s[i] = 46
  ·rw [if_pos (by rw [hp]; rfl)]
   rcases Nat.lt_or_ge (i + 1) s.size with h2 | h2
   ·have h3 := digN_no h2 (h h2 hp)
    unfold digN at h3
    rw [if_pos (List.eq_nil_of_length_eq_zero h3)]
   ·rw [drop_end h2]
    rfl
  ·rw [if_neg (fun h2 => hp (by simpa using h2))]
 ·rw [drop_end h1]
  rfl
theorem rliteral_any {w : World} {s : ByteArray} (hs : s.size ≤ 100) : Calls Tryz.prog 37 #[.string s, .int .i64 0] w fun en w' => en = .returned (.int .i64 (litN s.data.toList : Int)) ∧ w' = w := by
 have hl : litN s.data.toList = if digN s 0 = 0 then 0 else digN s 0 + litP (s.data.toList.drop (digN s 0)) + litE (s.data.toList.drop (digN s 0 + litP (s.data.toList.drop (digN s 0)))) := by
  unfold litN
  rw [show digN s 0 = (spanD s.data.toList).length by unfold digN; rw [List.drop_zero], rest_drop, List.drop_drop]
  by_cases h0 : spanD s.data.toList = []
  ·rw [if_pos h0, h0]; rfl
  ·rw [if_neg h0, if_neg (fun h => h0 (List.eq_nil_of_length_eq_zero h))]
 obtain ⟨R, hR⟩ : ∃ R, R = litN s.data.toList := ⟨_, rfl⟩
 rw [← hR] at hl ⊢
 obtain ⟨k, hk⟩ : ∃ k, k = digN s 0 := ⟨_, rfl⟩
 rw [← hk] at hl
 have HL := Lib.hid hl
 have hks : k ≤ s.size := by
  have := span_len (s.data.toList.drop 0)
  rw [hk, ← size_list]
  unfold digN
  rw [List.drop_zero] at this ⊢
  exact this
 have HK : Hid (0 + digN s 0 = k) := Lib.hid (by omega)
 clear hl hR hk
 go_enter Tryz.func37, Tryz.ntmps37
 go_upto_block 0 with fail
 go_cut [5] (fun v5 wc => v5 = .int .i64 (k : Int) ∧ wc = w)
 case first =>
  go_wp2_with fail
  go_loopg [5] k (fun gk v wr => ∃ i : Nat, i + gk = k ∧ v = .int .i64 i ∧ Hid (i + digN s i = k) ∧ wr = w)
  case atStart => exact ⟨0, by omega, rfl, HK, rfl⟩
  case round =>
   obtain ⟨i, hg, rfl, hi, rfl⟩ := hrel
   have dg : ∀ h : i < s.size, isDig s[i] = decide (i < k) := fun h => by
    cases hd : isDig s[i] with
    | true => have := digN_yes h hd; have := hi.out; rw [decide_eq_true (by omega)]
    | false => have := digN_no h hd; have := hi.out; rw [decide_eq_false (by omega)]
   by_cases hlt : i < k
   ·obtain ⟨gq, rfl⟩ : ∃ q, gk = q + 1 := ⟨gk - 1, by omega⟩
    have hlt2 : i < s.size := by omega
    have hd := dg hlt2
    rw [decide_eq_true hlt] at hd
    have HI : Hid (i + 1 + digN s (i + 1) = k) := Lib.hid (by have := digN_yes hlt2 hd; have := hi.out; omega)
    clear dg hi
    go_wp2_with fail
    refine (rdigit_any (c := s[i])).mono ?_
    rintro en w1 ⟨rfl, rfl⟩
    rw [hd]
    clear hd
    go_wp2
    go_roundg gq
    case measure => omega
    case rel => exact ⟨i + 1, by omega, by go_num, HI, rfl⟩
   ·obtain rfl : i = k := by omega
    obtain rfl : gk = 0 := by omega
    by_cases hlt2 : i < s.size
    ·have hd := dg hlt2
     rw [decide_eq_false hlt] at hd
     clear dg hi
     go_wp2_with fail
     refine (rdigit_any (c := s[i])).mono ?_
     rintro en w1 ⟨rfl, rfl⟩
     rw [hd]
     clear hd
     go_wp2
     go_meet
     case rel => exact ⟨rfl, rfl⟩
    ·clear dg hi
     go_wp2
     go_meet
     case rel => exact ⟨rfl, rfl⟩
 case rest =>
  obtain ⟨rfl, rfl⟩ := hcut
  clear HK
  by_cases h0 : k = 0
  ·have HR0 : Hid (R = 0) := Lib.hid (by rw [HL.out, if_pos h0])
   subst h0
   clear HL
   go_wp2
   go_ret
   exact ⟨by rw [HR0.out]; rfl, rfl⟩
  have e0 : ((k : Int) == 0) = false := by simp; exact h0
  obtain ⟨pt, hpt⟩ : ∃ b : Bool, b = decide (∃ h : k + 1 < s.size, s[k]'(by omega) = 46 ∧ isDig s[k + 1] = true) := ⟨_, rfl⟩
  obtain ⟨k2, hk2⟩ : ∃ z, z = k + litP (s.data.toList.drop k) := ⟨_, rfl⟩
  have HL2 : Hid (R = k2 + litE (s.data.toList.drop k2)) := Lib.hid (by rw [HL.out, if_neg h0, hk2])
  have HKN : Hid (pt = false → k2 = k) := Lib.hid (fun h => by
   rw [hk2, litP_no (fun h1 h2 => by
    cases h3 : isDig s[k + 1] with
    | false => rfl
    | true => rw [h] at hpt; exact absurd ⟨h1, h2, h3⟩ (of_decide_eq_false hpt.symm))]
   rfl)
  have HKY : Hid (pt = true → k + 1 + digN s (k + 1) = k2 ∧ k + 1 < s.size) := Lib.hid (fun h => by
   rw [h] at hpt
   obtain ⟨h1, h2, h3⟩ := of_decide_eq_true hpt.symm
   rw [hk2, litP_at h1 h2 h3]
   exact ⟨by omega, h1⟩)
  have HPT := Lib.hid hpt
  have hk2s : k2 ≤ s.size := by
   cases hp : pt with
   | false => have := HKN.out hp; omega
   | true =>
    obtain ⟨a, b⟩ := HKY.out hp
    have := digN_le (s := s) (i := k + 1) (by omega)
    omega
  clear HL hk2 hpt
  go_upto_region 6 with fail
  go_cut [42] (fun v42 wd => v42 = .bool pt ∧ wd = wc)
  case first =>
   by_cases c1 : k + 1 < s.size
   ·have c1' : k < s.size := by omega
    have b1 := byte_eq (c := s[k]) 46
    rw [show ((46 : UInt8).toNat : Int) = 46 from rfl] at b1
    by_cases c2 : s[k] = 46
    ·rw [beq_iff_eq.2 c2] at b1
     cases c3 : isDig s[k + 1] with
     | true =>
      have hp : pt = true := by rw [HPT.out]; exact decide_eq_true ⟨c1, c2, c3⟩
      go_wp2_with fail
      any_goals (first | (exfalso; omega) | skip)
      refine (rdigit_any (c := s[k + 1])).mono ?_
      rintro en w1 ⟨rfl, rfl⟩
      rw [c3]
      clear c3
      go_wp2
      go_meet
      case rel => exact ⟨by rw [hp], rfl⟩
     | false =>
      have hp : pt = false := by rw [HPT.out]; exact decide_eq_false (fun ⟨_, _, h⟩ => by rw [c3] at h; cases h)
      go_wp2_with fail
      any_goals (first | (exfalso; omega) | skip)
      refine (rdigit_any (c := s[k + 1])).mono ?_
      rintro en w1 ⟨rfl, rfl⟩
      rw [c3]
      clear c3
      go_wp2
      go_meet
      case rel => exact ⟨by rw [hp], rfl⟩
    ·have b2 : (s[k] == 46) = false := by simp [c2]
     rw [b2] at b1
     have hp : pt = false := by rw [HPT.out]; exact decide_eq_false (fun ⟨_, h, _⟩ => c2 h)
     clear b2 c2
     go_wp2
     any_goals (first | (exfalso; omega) | skip)
     go_meet
     case rel => exact ⟨by rw [hp], rfl⟩
   ·have hp : pt = false := by rw [HPT.out]; exact decide_eq_false (fun ⟨h, _⟩ => c1 h)
    go_wp2
    any_goals (first | (exfalso; omega) | skip)
    go_meet
    case rel => exact ⟨by rw [hp], rfl⟩
  case rest =>
   obtain ⟨rfl, rfl⟩ := hcut
   clear HPT
   go_upto_if 42 with fail
   go_cut [5] (fun v5 wd => v5 = .int .i64 (k2 : Int) ∧ wd = wc)
   case first =>
    cases pt with
    | false =>
     have HP := Lib.hid (HKN.out rfl)
     clear HKN HKY HL2
     go_wp2
     go_meet
     case rel => exact ⟨by rw [HP.out], rfl⟩
    | true =>
     obtain ⟨h1, h2⟩ := HKY.out rfl
     have HD := Lib.hid h1
     clear HKN HKY HL2 h1
     go_wp2_with fail
     go_loopg [5] (k2 - (k + 1)) (fun gk v wr => ∃ i : Nat, i + gk = k2 ∧ v = .int .i64 i ∧ Hid (i + digN s i = k2) ∧ wr = wc)
     case atStart => exact ⟨k + 1, by have := HD.out; omega, rfl, HD, rfl⟩
     case round =>
      obtain ⟨i, hg, rfl, hi, rfl⟩ := hrel
      by_cases hlt : i < k2
      ·obtain ⟨gq, rfl⟩ : ∃ q, gk = q + 1 := ⟨gk - 1, by omega⟩
       have hlt2 : i < s.size := by omega
       have hd := dig_is hi.out hlt2
       rw [decide_eq_true hlt] at hd
       have HI : Hid (i + 1 + digN s (i + 1) = k2) := Lib.hid (by have := digN_yes hlt2 hd; have := hi.out; omega)
       clear hi HD
       go_wp2_with fail
       refine (rdigit_any (c := s[i])).mono ?_
       rintro en w1 ⟨rfl, rfl⟩
       rw [hd]
       clear hd
       go_wp2
       go_roundg gq
       case measure => omega
       case rel => exact ⟨i + 1, by omega, by go_num, HI, rfl⟩
      ·obtain rfl : i = k2 := by omega
       obtain rfl : gk = 0 := by omega
       by_cases hlt2 : i < s.size
       ·have hd := dig_is hi.out hlt2
        rw [decide_eq_false hlt] at hd
        clear hi HD
        go_wp2_with fail
        refine (rdigit_any (c := s[i])).mono ?_
        rintro en w1 ⟨rfl, rfl⟩
        rw [hd]
        clear hd
        go_wp2
        go_meet
        case rel => exact ⟨rfl, rfl⟩
       ·clear hi HD
        go_wp2
        go_meet
        case rel => exact ⟨rfl, rfl⟩
   case rest =>
    obtain ⟨rfl, rfl⟩ := hcut
    clear HKN HKY
    obtain ⟨pe, hpe⟩ : ∃ b : Bool, b = decide (∃ h : k2 < s.size, s[k2] = 101) := ⟨_, rfl⟩
    have HN : Hid (pe = false → R = k2) := Lib.hid (fun h => by
     rw [h] at hpe
     rw [HL2.out]
     unfold litE
     rw [if_neg, Nat.add_zero]
     intro h2
     rcases Nat.lt_or_ge k2 s.size with h3 | h3
     ·rw [head_at h3] at h2
      injection h2 with h2
      exact of_decide_eq_false hpe.symm ⟨h3, h2⟩
     ·rw [drop_end h3] at h2
      cases h2)
    have HPE := Lib.hid hpe
    clear hpe
    go_upto_region 11 with fail
    go_cut [67] (fun v67 wd => v67 = .bool pe ∧ wd = wc)
    case first =>
     by_cases c1 : k2 < s.size
     ·have b1 := byte_eq (c := s[k2]) 101
      rw [show ((101 : UInt8).toNat : Int) = 101 from rfl] at b1
      have b2 : (s[k2] == 101) = pe := by rw [HPE.out, Bool.eq_iff_iff, beq_iff_eq, decide_eq_true_iff]; exact ⟨fun h => ⟨c1, h⟩, fun ⟨_, h⟩ => h⟩
      rw [b2] at b1
      clear b2 HN HL2
      go_wp2
      any_goals (first | (exfalso; omega) | skip)
      go_meet
      case rel => exact ⟨rfl, rfl⟩
     ·have hp : pe = false := by rw [HPE.out]; exact decide_eq_false (fun ⟨h, _⟩ => c1 h)
      clear HN HL2
      go_wp2
      any_goals (first | (exfalso; omega) | skip)
      go_meet
      case rel => exact ⟨by rw [hp], rfl⟩
    case rest =>
     obtain ⟨rfl, rfl⟩ := hcut
     cases pe with
     | false =>
      have HR := Lib.hid (HN.out rfl)
      clear HN HL2 HPE
      go_wp2
      go_ret
      exact ⟨by rw [HR.out]; rfl, rfl⟩
     | true =>
      obtain ⟨h1, h2⟩ := of_decide_eq_true HPE.out.symm
      obtain ⟨g, hg⟩ : ∃ z, z = litG (s.data.toList.drop (k2 + 1)) := ⟨_, rfl⟩
      have hg1 : g ≤ 1 := by rw [hg]; unfold litG; split <;> omega
      obtain ⟨k3, hk3⟩ : ∃ z, z = k2 + 1 + g := ⟨_, rfl⟩
      obtain ⟨c, hc⟩ : ∃ z, z = min (digN s k3) 4 := ⟨_, rfl⟩
      obtain ⟨V, hV⟩ : ∃ z, z = numV ((spanD (s.data.toList.drop k3)).take 4) := ⟨_, rfl⟩
      have HR : Hid (R = if 0 < c ∧ c ≤ 3 ∧ V ≤ 100 then k3 + c else k2) := Lib.hid (by
       rw [HL2.out]
       unfold litE
       rw [if_pos (by rw [head_at h1, h2]), show (s.data.toList.drop k2).tail = s.data.toList.drop (k2 + 1) by rw [drop_at h1]; rfl, ← hg, List.drop_drop, ← hk3, hV, hc]
       unfold digN
       split
       ·omega
       ·rfl)
      have hgd : g = 1 ↔ ∃ h : k2 + 1 < s.size, s[k2 + 1] = 43 ∨ s[k2 + 1] = 45 := by
       rw [hg]
       unfold litG
       rcases Nat.lt_or_ge (k2 + 1) s.size with h3 | h3
       ·rw [head_at h3]
        constructor
        ·intro h4
         split at h4
         ·rename_i h5
          exact ⟨h3, h5.elim (fun h => .inl (by injection h)) (fun h => .inr (by injection h))⟩
         ·cases h4
        ·rintro ⟨_, h4⟩
         rw [if_pos (h4.elim (fun h => .inl (by rw [h])) (fun h => .inr (by rw [h])))]
       ·rw [drop_end h3]
        exact ⟨fun h => (by cases h), fun ⟨h, _⟩ => (by omega)⟩
      have HGD := Lib.hid hgd
      have HK3 := Lib.hid hk3
      clear HN HL2 HPE hg hgd hk3 h2
      go_upto_region 13 with fail
      go_cut [85] (fun v85 wd => v85 = .bool (decide (g = 1)) ∧ wd = wc)
      case first =>
       by_cases c1 : k2 + 1 < s.size
       ·have b1 := byte_eq (c := s[k2 + 1]) 43
        have b2 := byte_eq (c := s[k2 + 1]) 45
        rw [show ((43 : UInt8).toNat : Int) = 43 from rfl] at b1
        rw [show ((45 : UInt8).toNat : Int) = 45 from rfl] at b2
        have hgb : decide (g = 1) = ((s[k2 + 1] == 43) || (s[k2 + 1] == 45)) := by
         rw [Bool.eq_iff_iff, decide_eq_true_iff, Bool.or_eq_true, beq_iff_eq, beq_iff_eq]
         exact HGD.out.trans ⟨fun ⟨_, h⟩ => h, fun h => ⟨c1, h⟩⟩
        have HGB := Lib.hid hgb
        clear hgb HR HGD HK3
        cases e1 : s[k2 + 1] == 43
        all_goals cases e2 : s[k2 + 1] == 45
        all_goals rw [e1] at b1
        all_goals rw [e2] at b2
        all_goals rw [e1, e2] at HGB
        all_goals clear e1 e2
        all_goals go_wp2
        all_goals any_goals (first | (exfalso; omega) | skip)
        all_goals go_meet
        all_goals (case rel => exact ⟨by rw [HGB.out]; rfl, rfl⟩)
       ·have hg0 : decide (g = 1) = false := decide_eq_false (fun h => by obtain ⟨h, _⟩ := HGD.out.1 h; exact c1 h)
        clear HR HGD HK3
        go_wp2
        any_goals (first | (exfalso; omega) | skip)
        go_meet
        case rel => exact ⟨by rw [hg0], rfl⟩
      case rest =>
       obtain ⟨rfl, rfl⟩ := hcut
       clear HGD
       go_upto_if 85 with fail
       go_cut [6] (fun v6 wd => v6 = .int .i64 (k3 : Int) ∧ wd = wc)
       case first =>
        by_cases h : g = 1
        ·have hgd : decide (g = 1) = true := decide_eq_true h
         have hk : ((k3 : Nat) : Int) = (k2 : Int) + 1 + 1 := by have := HK3.out; omega
         have HK := Lib.hid hk
         rw [hgd]
         clear hk HK3 HR
         go_wp2
         go_meet
         case rel => exact ⟨by rw [HK.out], rfl⟩
        ·have hgd : decide (g = 1) = false := decide_eq_false h
         have hk : ((k3 : Nat) : Int) = (k2 : Int) + 1 := by have := HK3.out; omega
         have HK := Lib.hid hk
         rw [hgd]
         clear hk HK3 HR
         go_wp2
         go_meet
         case rel => exact ⟨by rw [HK.out], rfl⟩
       case rest =>
        obtain ⟨rfl, rfl⟩ := hcut
        have hk3s : k3 ≤ 102 := by have := HK3.out; omega
        have HC := Lib.hid hc
        have HV := Lib.hid hV
        have hc4 : c ≤ 4 := by omega
        clear hc hV HK3
        go_upto_block 4 with fail
        go_cut [6, 8] (fun v6 v8 wd => v6 = .int .i64 ((k3 + c : Nat) : Int) ∧ v8 = .int .i64 (V : Int) ∧ wd = wc)
        case first =>
         go_wp2_with fail
         go_loopg [6, 8] c (fun gk v6 v8 wr => ∃ i V2 : Nat, i + gk = c ∧ v6 = .int .i64 ((k3 + i : Nat) : Int) ∧ v8 = .int .i64 (V2 : Int) ∧ Hid (V2 = numV ((spanD (s.data.toList.drop k3)).take i)) ∧ V2 < 10 ^ i ∧ wr = wc)
         case atStart => exact ⟨0, 0, by omega, rfl, rfl, Lib.hid rfl, by decide, rfl⟩
         case round =>
          obtain ⟨i, V2, hg, rfl, rfl, hv, hb, rfl⟩ := hrel
          by_cases hlt : i < c
          ·obtain ⟨gq, rfl⟩ : ∃ q, gk = q + 1 := ⟨gk - 1, by omega⟩
           obtain ⟨h2, d, d9, hd, hdig, hn⟩ := span_step (s := s) (k := k3) (i := i) (by have := HC.out; omega)
           have hV9 : V2 < 1000 := Nat.lt_of_lt_of_le hb (Nat.le_trans (Nat.pow_le_pow_right (by omega) (show i ≤ 3 by omega)) (by decide))
           have d1 : ((s[k3 + i].toNat : Nat) : Int) - 48 = (d : Int) := by omega
           have d2 : IntKind.u8.wrap (d : Int) = (d : Int) := by rw [IntKind.wrap_u8]; omega
           obtain ⟨V3, hV3⟩ : ∃ z, z = V2 * 10 + d := ⟨_, rfl⟩
           have d3 : (V2 : Int) * 10 + (d : Int) = (V3 : Int) := by omega
           have HV3 : Hid (V3 = numV ((spanD (s.data.toList.drop k3)).take (i + 1)) ∧ V3 < 10 ^ (i + 1)) := Lib.hid ⟨by rw [hV3, hn, hv.out], by rw [hV3, Nat.pow_succ]; omega⟩
           have hj2 : ((k3 + (i + 1) : Nat) : Int) = ((k3 + i : Nat) : Int) + 1 := by omega
           have hj3 : k3 + i < k3 + 4 := by omega
           have hj4 : k3 + i ≤ 200 := by omega
           clear hn hb hv hV3 HC HV HR
           generalize k3 + i = j at h2 hd hdig d1 hj2 hj3 hj4 ⊢
           have HJ := Lib.hid hj2
           have HD2 := Lib.hid hdig
           clear hj2 hd hdig
           go_wp2_with fail
           any_goals (first | (exfalso; omega) | skip)
           refine (rdigit_any (c := s[j])).mono ?_
           rintro en w1 ⟨rfl, rfl⟩
           rw [HD2.out]
           go_wp2
           go_roundg gq
           case measure => omega
           case rel => exact ⟨i + 1, V3, by omega, by rw [HJ.out], rfl, Lib.hid HV3.out.1, HV3.out.2, rfl⟩
          ·obtain rfl : i = c := by omega
           obtain rfl : gk = 0 := by omega
           have hVV : V2 = V := by
            rw [hv.out, HV.out]
            have hc0 := HC.out
            unfold digN at hc0
            by_cases h4 : (spanD (s.data.toList.drop k3)).length ≤ 4
            ·rw [List.take_of_length_le (by omega), List.take_of_length_le (by omega)]
            ·rw [show i = 4 by omega]
           subst hVV
           by_cases h2 : k3 + i < s.size
           ·by_cases h4 : i = 4
            ·subst h4
             clear hv HC HV HR hb
             go_wp2
             any_goals (first | (exfalso; omega) | skip)
             go_meet
             case rel => exact ⟨by rw [Int.natCast_add]; rfl, rfl, rfl⟩
            ·have hi : i = digN s k3 := by have := HC.out; omega
             have hd := span_stop (s := s) (k := k3) (by omega)
             have hdig : isDig s[k3 + i] = false := by simp only [hi]; exact hd
             have hj3 : k3 + i < k3 + 4 := by omega
             have hj4 : k3 + i ≤ 200 := by omega
             clear hv HC HV HR hb hd hi
             generalize hje : k3 + i = j at h2 hdig hj3 hj4 ⊢
             have HJE := Lib.hid hje
             clear hje
             have HD2 := Lib.hid hdig
             clear hdig
             go_wp2_with fail
             any_goals (first | (exfalso; omega) | skip)
             refine (rdigit_any (c := s[j])).mono ?_
             rintro en w1 ⟨rfl, rfl⟩
             rw [HD2.out]
             go_wp2
             go_meet
             case rel => exact ⟨by rw [← HJE.out], rfl, rfl⟩
           ·clear hv HC HV HR hb
            go_wp2
            any_goals (first | (exfalso; omega) | skip)
            go_meet
            case rel => exact ⟨rfl, rfl, rfl⟩
        case rest =>
         obtain ⟨rfl, rfl, rfl⟩ := hcut
         have hV9 : V ≤ 1000000 := by
          rw [HV.out]
          have h1 := numV_lt (digs_take (digs_span (s.data.toList.drop k3)) 4)
          have h2 : 10 ^ ((spanD (s.data.toList.drop k3)).take 4).length ≤ 10 ^ 4 := Nat.pow_le_pow_right (by omega) (by rw [List.length_take]; omega)
          have h3 : (10 : Nat) ^ 4 = 10000 := by decide
          omega
         clear HC HV
         by_cases hcc : 0 < c ∧ c ≤ 3 ∧ V ≤ 100
         ·have HRR : Hid (R = k3 + c) := Lib.hid (by rw [HR.out, if_pos hcc])
          obtain ⟨p1, p2, p3⟩ := hcc
          clear HR
          generalize hj : k3 + c = j at HRR ⊢
          have q1 : k3 < j := by omega
          have q2 : j ≤ k3 + 3 := by omega
          have q3 : j ≤ 200 := by omega
          clear hj
          go_wp2
          any_goals (first | (exfalso; omega) | skip)
          go_ret
          exact ⟨by rw [HRR.out]; rfl, rfl⟩
         ·have HRR : Hid (R = k2) := Lib.hid (by rw [HR.out, if_neg hcc])
          clear HR
          generalize hj : k3 + c = j at ⊢
          have q3 : j ≤ 200 := by omega
          rcases (show j ≤ k3 ∨ (k3 < j ∧ k3 + 3 < j) ∨ (k3 < j ∧ j ≤ k3 + 3 ∧ 100 < V) by omega) with q | ⟨q, q'⟩ | ⟨q, q', q''⟩
          all_goals clear hj hcc
          all_goals go_wp2
          all_goals any_goals (first | (exfalso; omega) | skip)
          all_goals go_ret
          all_goals exact ⟨by rw [HRR.out]; rfl, rfl⟩
end Go.Proofs.YtdhdebapjlcjdaaGreatDoor
set_option maxHeartbeats 2000000
set_option maxRecDepth 100000
namespace Go.Proofs.YtdhdebapjlcjdaaGreatDoor
open Go.RowKit

theorem read_over60 {l : List UInt8} (h : 60 < l.length) : readD l = none := by
 unfold readD
 rw [if_pos (.inl h)]
theorem rform_any {w : World} {s : ByteArray} (hs : s.size ≤ 100) : Calls Tryz.prog 11 #[.string s] w fun en w' => en = .returned (.bool (readD s.data.toList).isSome) ∧ w' = w := by
 have hls := size_list s
 obtain ⟨b, hb⟩ : ∃ b, b = (readD s.data.toList).isSome := ⟨_, rfl⟩
 rw [← hb]
 by_cases h0 : s.size = 0
 ·have hnil : s.data.toList = [] := List.eq_nil_of_length_eq_zero (by omega)
  have hb0 : b = false := by rw [hb, hnil]; rfl
  have hse : s = ⟨#[]⟩ := by apply ByteArray.ext; apply Array.toList_inj.1; rw [hnil]
  subst hse
  subst hb0
  clear hb hnil hls
  go_enter Tryz.func11, Tryz.ntmps11
  go_wp2
  go_ret
  exact ⟨by first | rfl | simp, rfl⟩
 ·have hne : s.data.toList ≠ [] := fun h => by rw [h] at hls; simp at hls; omega
  have hse : s.toList.isEmpty = false := by rw [ByteArray.toList_eq]; cases h : s.data.toList with
   | nil => exact absurd h hne
   | cons _ _ => rfl
  by_cases h60 : s.size ≤ 60
  ·have hN := lit_all (l := s.data.toList) (by omega) hne
   have hd : decide ((s.size : Int) ≤ 60) = true := decide_eq_true (by omega)
   have hb1 : b = decide (litN s.data.toList = s.size) := by rw [hb, Bool.eq_iff_iff, ← hN, decide_eq_true_iff, hls]
   obtain ⟨L, hL⟩ : ∃ z, z = litN s.data.toList := ⟨_, rfl⟩
   have hlit := rliteral_any (w := w) hs
   rw [← hL] at hb1 hlit
   have HLIT := Lib.hid hlit
   clear hb hN hlit hL hls hne
   go_enter Tryz.func11, Tryz.ntmps11
   go_wp2_with fail
   refine HLIT.out.mono ?_
   rintro en w1 ⟨rfl, rfl⟩
   by_cases hq : L = s.size
   ·have hb2 : b = true := by rw [hb1]; exact decide_eq_true hq
    have HB := Lib.hid hb2
    subst hq
    clear hb1 hb2 HLIT
    go_wp2
    go_ret
    exact ⟨by rw [HB.out]; first | rfl | simp, rfl⟩
   ·have hb2 : b = false := by rw [hb1]; exact decide_eq_false hq
    have HB := Lib.hid hb2
    clear hb1 hb2 HLIT
    go_wp2
    go_ret
    exact ⟨by rw [HB.out]; simp; omega, rfl⟩
  ·have hd : decide ((s.size : Int) ≤ 60) = false := decide_eq_false (by omega)
   have hb0 : b = false := by rw [hb, read_over60 (by omega)]; rfl
   subst hb0
   clear hb hls hne
   go_enter Tryz.func11, Tryz.ntmps11
   go_wp2
   go_ret
   exact ⟨by first | rfl | simp, rfl⟩
end Go.Proofs.YtdhdebapjlcjdaaGreatDoor
