/-
 Contract of the reference's Text, at this translation. Condition: the slice reads as limbs, at most 20.
-/
import Derived.Test.YtefofejgogokpaaGreatDoorPVe
import Derived.Test.YtefofejgogokpaaGreatDoorPVa
set_option maxHeartbeats 8000000
set_option maxRecDepth 100000
namespace Go.Proofs.YtefofejgogokpaaGreatDoor
open Go.RowKit

theorem val_lim {l : List Nat} (hl : Lt W l) (hn : l.length ≤ 20) : ∃ a, a ≤ 1280 ∧ val W l < 2 ^ a := ⟨64 * l.length, by omega, by
 have h3 : W ^ l.length = 2 ^ (64 * l.length) := by rw [W_pow, ← Nat.pow_mul]
 rw [← h3]
 exact val_lt hl⟩
theorem dg_lt {w : World} {A : Option Addr} {n c x a k : Nat} (h : Dg w A n c x) (hx : x < 2 ^ a) (ha : a ≤ 16 * k) : n ≤ k :=
 dg_small2 h (Nat.lt_of_lt_of_le hx (Nat.pow_le_pow_right (by decide) ha))
theorem ten_small2 {i : Nat} (h : i ≤ 60) : 10 ^ i < 2 ^ 200 := Nat.lt_of_le_of_lt (Nat.pow_le_pow_right (by omega) h) (by decide)
theorem cmp_parts {m P : Nat} : cmpN (m / P * P) m = 0 ↔ m % P = 0 := by
 have h := Nat.div_add_mod m P
 rw [Nat.mul_comm] at h
 rcases cmpN_cases (m / P * P) m with ⟨h1, h2⟩ | ⟨h1, h2⟩ | ⟨h1, h2⟩
 ·rw [h1]
  constructor
  ·intro h3; cases h3
  ·intro h3; omega
 ·rw [h1]
  exact ⟨fun _ => by omega, fun _ => rfl⟩
 ·omega
theorem rtext_arg {w : World} {A : Option Addr} {n c : Nat} {l : List Nat} {s : Bool} {e N : Int} {up : Bool} (h : Rd w .u64 Go.Proofs.YtefofejgogokpaaGreatDoor.W A n c l) (hno : ¬ (mayD s l e = true ∧ 0 ≤ N ∧ N ≤ 60)) :
  Calls Tryz.prog 19 #[.agg #[.bool s, .slice A n c, .int .i64 e], .int .i64 N, .bool up] w fun en w' => en = .returned (.tuple #[.string ⟨#[]⟩, .int .i64 1]) ∧ Below w.heap.size w w' := by
 obtain ⟨b, hb⟩ : ∃ b, b = mayD s l e := ⟨_, rfl⟩
 have x := Box.new w s A n c e
 have BB := below_alloc w (.cells #[.bool s, .slice A n c, .int .i64 e] 25)
 have hm := rmayd_any (s := s) (e := e) (h.below BB)
 rw [← hb] at hm hno
 have HM := Lib.hid hm
 clear hm h hb
 obtain ⟨x0, x1, x2⟩ := x.held
 go_enter Tryz.func19, Tryz.ntmps19
 go_wp2_with fail
 refine HM.out.mono ?_
 rintro en w1 ⟨rfl, b1⟩
 have bb := BB.trans (b1.mono BB.size)
 clear x0 x1 x2 HM
 cases b with
 | false =>
  go_wp2
  go_ret2
  exact ⟨rfl, bb⟩
 | true =>
  by_cases h0 : N < 0
  ·have d0 : decide (N < 0) = true := decide_eq_true h0
   go_wp2
   go_ret2
   exact ⟨rfl, bb⟩
  ·have d0 : decide (N < 0) = false := decide_eq_false h0
   have d1 : decide ((60 : Int) < N) = true := decide_eq_true (by
    rcases Int.lt_or_le 60 N with h1 | h1
    ·exact h1
    ·exact absurd ⟨rfl, by omega, h1⟩ hno)
   clear hno h0
   go_wp2
   go_ret2
   exact ⟨rfl, bb⟩
theorem rtext_limb {w : World} {A : Option Addr} {n c : Nat} {l : List Nat} {s : Bool} {e N : Int} {up : Bool} (h : Rd w .u64 Go.Proofs.YtefofejgogokpaaGreatDoor.W A n c l) (hd : mayD s l e = true) (hN : 0 ≤ N) (hN2 : N ≤ 60) (hno : ¬ (-2000 ≤ e ∧ e ≤ 2000)) :
  Calls Tryz.prog 19 #[.agg #[.bool s, .slice A n c, .int .i64 e], .int .i64 N, .bool up] w fun en w' => en = .returned (.tuple #[.string ⟨#[]⟩, .int .i64 2]) ∧ Below w.heap.size w w' := by
 have x := Box.new w s A n c e
 have BB := below_alloc w (.cells #[.bool s, .slice A n c, .int .i64 e] 25)
 have hm := rmayd_any (s := s) (e := e) (h.below BB)
 rw [hd] at hm
 have HM := Lib.hid hm
 clear hm h hd
 obtain ⟨x0, x1, x2⟩ := x.held
 have d0 : decide (N < 0) = false := decide_eq_false (by omega)
 have d1 : decide ((60 : Int) < N) = false := decide_eq_false (by omega)
 go_enter Tryz.func19, Tryz.ntmps19
 go_wp2_with fail
 refine HM.out.mono ?_
 rintro en w1 ⟨rfl, b1⟩
 have bb := BB.trans (b1.mono BB.size)
 have y2 := (b1.cell (p := ⟨w.heap.size, 2, none⟩) (by simp)).trans x2
 clear x0 x1 x2 HM
 by_cases h0 : 2000 < e
 ·have d2 : decide ((2000 : Int) < e) = true := decide_eq_true h0
  go_wp2
  go_ret2
  exact ⟨rfl, bb⟩
 ·have d2 : decide ((2000 : Int) < e) = false := decide_eq_false h0
  have d3 : decide (e < -2000) = true := decide_eq_true (by omega)
  clear hno h0
  go_wp2
  go_ret2
  exact ⟨rfl, bb⟩
theorem rtext_ok {w : World} {A : Option Addr} {n c N : Nat} {l : List Nat} {s : Bool} {e : Int} {up : Bool} (h : Rd w .u64 Go.Proofs.YtefofejgogokpaaGreatDoor.W A n c l) (hd : mayD s l e = true) (hn : n ≤ 20) (hN2 : N ≤ 60) (h1 : -2000 ≤ e) (h2 : e ≤ 2000) :
  Calls Tryz.prog 19 #[.agg #[.bool s, .slice A n c, .int .i64 e], .int .i64 (N : Int), .bool up] w fun en w' => en = .returned (.tuple #[.string (txt (textT s (val Go.Proofs.YtefofejgogokpaaGreatDoor.W l) e N up)), .int .i64 0]) ∧ Below w.heap.size w w' := by
 have x := Box.new w s A n c e
 have BB := below_alloc w (.cells #[.bool s, .slice A n c, .int .i64 e] 25)
 have R1 := h.below BB
 have hm := rmayd_any (s := s) (e := e) R1
 rw [hd] at hm
 have HM := Lib.hid hm
 obtain ⟨M, hM⟩ : ∃ M, M = val Go.Proofs.YtefofejgogokpaaGreatDoor.W l := ⟨_, rfl⟩
 obtain ⟨a, ha, hM2⟩ : ∃ a, a ≤ 1280 ∧ M < 2 ^ a := by
  rw [hM]
  exact val_lim h.lt (by rw [h.len]; exact hn)
 obtain ⟨Q, hQ⟩ : ∃ Q, Q = textQ s M e N up := ⟨_, rfl⟩
 have htt : textT s M e N up = (if s = true ∧ Q ≠ 0 then [45] else []) ++ pointT N (asc (padT N Q)) := by
  unfold textT
  rw [← hQ]
 have hTl : (textT s M e N up).length ≤ 6400 := textT_len (a := a) hM2 (by omega) h1 h2 hN2
 have hQl : (decD Q).length ≤ 6400 := by
  rw [htt, List.length_append] at hTl
  have h6 : (decD Q).length ≤ (pointT N (asc (padT N Q))).length := by
   unfold pointT
   have h7 : (decD Q).length ≤ (asc (padT N Q)).length := by unfold padT; rw [asc_len, List.length_append]; omega
   split
   ·exact h7
   ·rw [List.length_append, List.length_cons, List.length_take, List.length_drop]
    omega
  omega
 rw [← hM, htt]
 obtain ⟨TX, hTX⟩ : ∃ TX, TX = txt ((if s = true ∧ Q ≠ 0 then [45] else []) ++ pointT N (asc (padT N Q))) := ⟨_, rfl⟩
 rw [← hTX]
 have HTX := Lib.hid hTX
 have HQ := Lib.hid hQ
 have HM2 := Lib.hid hM2
 have HMV := Lib.hid hM
 clear hm hd hTX hQ htt hTl hM2 hM h
 obtain ⟨x0, x1, x2⟩ := x.held
 have d0 : decide ((N : Int) < 0) = false := decide_eq_false (by omega)
 have d1 : decide ((60 : Int) < (N : Int)) = false := decide_eq_false (by omega)
 have d2 : decide (e < -2000) = false := decide_eq_false (by omega)
 have d3 : decide ((2000 : Int) < e) = false := decide_eq_false (by omega)
 go_enter Tryz.func19, Tryz.ntmps19
 go_wp2_with fail
 refine HM.out.mono ?_
 rintro en w1 ⟨rfl, b⟩
 replace BB := bnx BB b
 have G := mv b rfl <| And.intro x <| And.intro R1 <| And.intro x0 <| And.intro x1 x2
 clear b HM x R1 x0 x1 x2
 obtain ⟨x, R1, x0, x1, x2⟩ := G
 go_wp2_with fail
 refine (rfrom_any R1 (by omega)).mono ?_
 rintro en w2 ⟨A2, n2, c2, rfl, D2, b⟩
 rw [← HMV.out] at D2
 replace BB := bnx BB b
 have G := mv b rfl <| And.intro x <| And.intro x0 <| And.intro x1 x2
 clear b x R1 x0 x1 x2 HMV
 obtain ⟨x, x0, x1, x2⟩ := G
 have hn2 : n2 ≤ 80 := dg_lt D2 HM2.out (by omega)
 go_wp2_with fail
 refine (rten_any hN2).mono ?_
 rintro en w3 ⟨A3, n3, c3, rfl, D3, b⟩
 replace BB := bnx BB b
 have G := mv b rfl <| And.intro D2 <| And.intro x <| And.intro x0 <| And.intro x1 x2
 clear b x D2 x0 x1 x2
 obtain ⟨D2, x, x0, x1, x2⟩ := G
 have hn3 : n3 ≤ 13 := dg_lt D3 (ten_small2 hN2) (by omega)
 go_wp2_with fail
 refine (rmul_any D2 D3 (by omega) (by omega)).mono ?_
 rintro en w4 ⟨A4, n4, c4, rfl, D4, b⟩
 replace BB := bnx BB b
 have G := mv b rfl <| And.intro x <| And.intro x0 <| And.intro x1 x2
 clear b x D2 D3 x0 x1 x2 hn2 hn3
 obtain ⟨x, x0, x1, x2⟩ := G
 obtain ⟨P, hP⟩ : ∃ P, P = M * 10 ^ N := ⟨_, rfl⟩
 rw [← hP] at D4
 obtain ⟨b3, hb3, hP2⟩ : ∃ b, b ≤ 1480 ∧ P < 2 ^ b := ⟨a + 200, by omega, by rw [hP, Nat.pow_add]; exact Nat.mul_lt_mul_of_lt_of_lt HM2.out (ten_small2 hN2)⟩
 have HP := Lib.hid hP
 have HP2 := Lib.hid hP2
 have hn4 : n4 ≤ 93 := dg_lt D4 hP2 (by omega)
 clear hP hP2 HM2
 go_upto_if 38 with fail
 go_cut [8] (fun v8 wc => ∃ A5 n5 c5, v8 = .slice A5 n5 c5 ∧ Dg wc A5 n5 c5 Q ∧ n5 ≤ 1000 ∧ Below w4.heap.size w4 wc)
 case first =>
  by_cases he : 0 ≤ e
  ·obtain ⟨j, rfl⟩ := Int.eq_ofNat_of_zero_le he
   have hq : Q = P * 2 ^ j := by rw [HQ.out, HP.out]; unfold textQ; rw [if_pos he, Int.toNat_natCast]; ac_rfl
   have HQ2 := Lib.hid hq
   have hj : j ≤ 2000 := by omega
   clear he hq HQ
   go_wp2_with fail
   refine (rshl_any (s := j) D4 (by omega) (by omega)).mono ?_
   rintro en w5 ⟨A5, n5, c5, rfl, D5, b⟩
   have h8 : P * 2 ^ j < 2 ^ (b3 + j) := by rw [Nat.pow_add]; exact Nat.mul_lt_mul_of_pos_right HP2.out (Nat.pow_pos (by omega))
   have hn5 : n5 ≤ 1000 := dg_lt D5 h8 (by omega)
   clear h8
   rw [← HQ2.out] at D5
   clear HQ2
   go_wp2
   go_meet
   case rel => exact ⟨_, _, _, rfl, D5, hn5, b⟩
  ·obtain ⟨j, rfl⟩ : ∃ j : Nat, e = -(j : Int) := ⟨(-e).toNat, by omega⟩
   have hq : Q = P / 2 ^ j + (if (up != s) = true ∧ P % 2 ^ j ≠ 0 then 1 else 0) := by
    rw [HQ.out, HP.out]
    unfold textQ
    rw [if_neg he, show (-(-(j : Int))).toNat = j by omega]
   have HQ2 := Lib.hid hq
   have hj : j ≤ 2000 := by omega
   have hj0 : 0 < j := by omega
   have e1 : decide ((0 : Int) ≤ -(j : Int)) = false := decide_eq_false he
   have e2 : decide (j = 0) = false := decide_eq_false (by omega)
   have hng : IntKind.i64.wrap (- -(j : Int)) = (j : Int) := by rw [Int.neg_neg]; exact IntWalk.i64_in _ (by omega)
   clear he hq HQ
   go_wp2_with fail
   refine (rshr_any (s := j) D4 (by omega) (by omega)).mono ?_
   rintro en w5 ⟨A5, n5, c5, rfl, D5, b⟩
   have bb := b
   have hn5 : n5 ≤ 93 := dg_lt D5 (Nat.lt_of_le_of_lt (Nat.div_le_self _ _) HP2.out) (by omega)
   have G := mv b rfl <| And.intro D4 <| And.intro x0 <| And.intro x1 x2
   clear b D4 x0 x1 x2 x
   obtain ⟨D4, x0, x1, x2⟩ := G
   obtain ⟨aw, haw⟩ : ∃ aw, aw = (up != s) := ⟨_, rfl⟩
   rw [← haw] at HQ2
   have haw2 : (!(up == s)) = aw := by rw [haw]; rfl
   clear haw
   cases aw with
   | false =>
    have hq3 : Q = P / 2 ^ j := by rw [HQ2.out, if_neg (fun hh => by cases hh.1), Nat.add_zero]
    rw [← hq3] at D5
    clear HQ2 hq3
    go_wp2
    go_meet
    case rel => exact ⟨_, _, _, rfl, D5, by omega, bb⟩
   | true =>
    go_wp2_with fail
    refine (rshl_any (s := j) D5 (by omega) (by omega)).mono ?_
    rintro en w6 ⟨A6, n6, c6, rfl, D6, b⟩
    replace bb := bb.trans (b.mono bb.size)
    have G := mv b rfl <| And.intro D4 <| And.intro D5 <| And.intro x0 <| And.intro x1 x2
    clear b D4 D5 x0 x1 x2
    obtain ⟨D4, D5, x0, x1, x2⟩ := G
    go_wp2_with fail
    refine (rcmp_any D6 D4).mono ?_
    rintro en w7 ⟨rfl, b⟩
    replace bb := bb.trans (b.mono bb.size)
    have G := mv b rfl <| And.intro D5 <| And.intro x0 <| And.intro x1 x2
    clear b D4 D5 D6 x0 x1 x2
    obtain ⟨D5, x0, x1, x2⟩ := G
    have hcp := cmp_parts (m := P) (P := 2 ^ j)
    by_cases hr : P % 2 ^ j = 0
    ·have hc0 := hcp.2 hr
     have hq3 : Q = P / 2 ^ j := by rw [HQ2.out, if_neg (fun hh => hh.2 hr), Nat.add_zero]
     rw [← hq3] at D5
     rw [hc0]
     clear HQ2 hq3 hcp hr hc0
     go_wp2
     go_meet
     case rel => exact ⟨_, _, _, rfl, D5, by omega, bb⟩
    ·obtain ⟨z, hz⟩ : ∃ z, z = cmpN (P / 2 ^ j * 2 ^ j) P := ⟨_, rfl⟩
     rw [← hz] at hcp ⊢
     have hz0 : ¬ z = 0 := fun hh => hr (hcp.1 hh)
     have z1 : (z == 0) = false := by simp [hz0]
     have z2 : (z != 0) = true := by simp [hz0]
     have HQ3 : Hid (Q = P / 2 ^ j + 1) := by show _ = _; rw [HQ2.out, if_pos ⟨by trivial, hr⟩]
     clear hz hcp hz0 HQ2 hr
     have b := below_alloc w7 (.cells #[.int .u32 1] 67)
     have D1 := dg_one w7
     have D5' := D5.below b
     replace bb := bb.trans (b.mono bb.size)
     clear b D5
     go_wp2_with fail
     refine (radd_any D5' D1 (by omega) (by omega)).mono ?_
     rintro en w8 ⟨A8, n8, c8, rfl, D8, b⟩
     replace bb := bb.trans (b.mono bb.size)
     have h9 : P / 2 ^ j + 1 < 2 ^ (b3 + 1) := by
      have h10 := Nat.div_le_self P (2 ^ j)
      have h11 := HP2.out
      rw [Nat.pow_succ]
      omega
     have hn8 : n8 ≤ 1000 := dg_lt D8 h9 (by omega)
     clear h9
     rw [← HQ3.out] at D8
     clear D5' D1 HQ3 b
     go_wp2
     go_meet
     case rel => exact ⟨_, _, _, rfl, D8, hn8, bb⟩
 case rest =>
  obtain ⟨A5, n5, c5, rfl, D5, hn5, b⟩ := hcut
  replace BB := bnx BB b
  have G := mv b rfl <| And.intro x <| And.intro x0 <| And.intro x1 x2
  clear b x x0 x1 x2 D4 HP HP2 HQ
  obtain ⟨x, x0, x1, x2⟩ := G
  go_wp2_with fail
  refine (rdecimal_any D5 hn5 (by omega)).mono ?_
  rintro en w6 ⟨rfl, b⟩
  replace BB := bnx BB b
  have G := mv b rfl <| And.intro D5 <| And.intro x <| And.intro x0 <| And.intro x1 x2
  clear b x x0 x1 x2 D5
  obtain ⟨D5, x, x0, x1, x2⟩ := G
  have hn0 : n5 = 0 ↔ Q = 0 := by
   have h1 := len_dig H_two Q 0
   rw [Rd.len D5, Nat.pow_zero] at h1
   omega
  have hz : asc (padT N Q) = List.replicate (N + 1 - (decD Q).length) 48 ++ asc (decD Q) := by unfold padT; rw [asc_append, asc_zeros]
  have hlD : (asc (decD Q)).length = (decD Q).length := asc_len _
  generalize asc (decD Q) = D at *
  generalize (decD Q).length = L at *
  obtain ⟨R, hR⟩ : ∃ R, R = asc (padT N Q) := ⟨_, rfl⟩
  rw [← hR] at HTX hz
  have HZ := Lib.hid hz
  have HN0 := Lib.hid hn0
  have HLD := Lib.hid hlD
  clear hz hn0 hlD hR D5 hn5 hn4
  have hR60 : IntKind.i64.wrap ((N : Int) + 1) = (N : Int) + 1 := IntWalk.i64_in _ (by omega)
  go_wp2
  go_loopg [10] (N + 1 - L) (fun gk v10 wr => ∃ i : Nat, i + gk = N + 1 - L ∧ v10 = .string (txt (List.replicate i 48 ++ D)) ∧ wr = w6)
  case atStart => exact ⟨0, by omega, rfl, rfl⟩
  case round =>
   obtain ⟨i, hi, rfl, rfl⟩ := hrel
   have hsz : (txt (List.replicate i 48 ++ D)).size = i + L := by rw [txt_size, List.length_append, List.length_replicate, HLD.out]
   have hil : i + L ≤ 7000 := by omega
   by_cases h : i + L < N + 1
   ·have dl : decide (((i + L : Nat) : Int) < (N : Int) + 1) = true := decide_eq_true (by omega)
    have hap : (⟨#[48]⟩ : ByteArray) ++ txt (List.replicate i 48 ++ D) = txt (List.replicate (i + 1) 48 ++ D) := by
     rw [show (⟨#[48]⟩ : ByteArray) = txt [48] from rfl, txt_append, List.replicate_succ]; rfl
    obtain ⟨q, rfl⟩ : ∃ q, gk = q + 1 := ⟨gk - 1, by omega⟩
    go_wp2
    go_roundg q
    case measure => omega
    case rel => exact ⟨i + 1, by omega, rfl, rfl⟩
   ·have dl : decide (((i + L : Nat) : Int) < (N : Int) + 1) = false := decide_eq_false (by omega)
    have hiN : i = N + 1 - L := by omega
    have hXR : List.replicate i 48 ++ D = R := by rw [HZ.out, hiN]
    have hNR : N + 1 ≤ R.length := by rw [← hXR, List.length_append, List.length_replicate, HLD.out]; omega
    have hRl : R.length ≤ 7000 := by rw [← hXR, List.length_append, List.length_replicate, HLD.out]; omega
    rw [hXR] at hsz ⊢
    rw [← hsz] at dl
    rw [txt_size] at hsz
    clear hi hil hsz h hiN hXR HZ HLD
    go_upto_if 76 with fail
    go_cut [10] (fun v10 wc => v10 = .string (txt (pointT N R)) ∧ Below wr.heap.size wr wc)
    case first =>
     by_cases h0 : N = 0
     ·have HP : Hid (pointT N R = R) := by unfold pointT; rw [if_pos h0]; exact rfl
      subst h0
      go_wp2
      go_meet
      case rel => exact ⟨by rw [HP.out], Below.refl _ _⟩
     ·have dn : decide ((0 : Int) < (N : Int)) = true := decide_eq_true (by omega)
      have hp : pointT N R = R.take (R.length - N) ++ 46 :: R.drop (R.length - N) := by unfold pointT; rw [if_neg h0]
      have hsR : (txt R).size = R.length := txt_size R
      obtain ⟨k, hk⟩ : ∃ k, k = R.length - N := ⟨_, rfl⟩
      rw [← hk] at hp
      have HP := Lib.hid hp
      have hit : (R.take k).length = k := by rw [List.length_take]; omega
      have ht1 : (txt (R.take k)).size = k := by rw [txt_size]; exact hit
      have ht2 : (txt (R.take k ++ [46])).size = k + 1 := by rw [txt_size, List.length_append, hit]; rfl
      have ht3 : (txt (R.drop k)).size = N := by rw [txt_size, List.length_drop]; omega
      have hw1 : IntKind.i64.wrap ((R.length : Int) - (N : Int)) = (k : Int) := by rw [IntWalk.i64_in _ (by omega)]; omega
      have hw2 : IntKind.i64.wrap (k : Int) = (k : Int) := IntWalk.i64_in _ (by omega)
      have hN0 : 0 < N := by omega
      have q1 : ∀ W : World, (Instr.slice 9 (.string (txt R)) none (some (.int .i64 (k : Int))) none).run Tryz.prog W = .ok (.string (txt (R.take k))) W := fun W => by
       rw [run_slice_string_h W 9 (txt R) Tryz.underlying9 .i64 (k : Int) (by omega) (by rw [hsR]; omega), Int.toNat_natCast, txt_to]
      have q2 : ∀ W : World, (Instr.slice 9 (.string (txt R)) (some (.int .i64 (k : Int))) none none).run Tryz.prog W = .ok (.string (txt (R.drop k))) W := fun W => by
       rw [run_slice_string_l W 9 (txt R) Tryz.underlying9 .i64 (k : Int) (by omega) (by rw [hsR]; omega), Int.toNat_natCast, txt_from]
      have hk9 : k ≤ 7000 := by omega
      clear hp hk hit h0
      go_wp2_with fail
      any_goals (first | (exfalso; omega) | skip)
      refine wp_region_held_drew (S := fun w' => True) (by kernel_rfl) trivial (fun hHeldu0 => ?_)
      refine wpAnyH_take (i := 0) (v := ?uv0) rfl (by kernel_rfl) (by kernel_rfl) (by kernel_rfl) (fun _ _ _ h => panic_put (P := Tryz.prog) (fn := Tryz.f19) (R := fun en w' => en = .returned (.tuple #[.string TX, .int .i64 0]) ∧ Below w.heap.size w w') h) (Or.inl ⟨by rfl, ?uy0⟩) trivial ?_
      case uy0 => (intro w hSw; (try dsimp only at hSw); go_simp); try with_reducible rfl
      change wpAnyH _ _ _ _ _ _ _ (Act.put _ (some 77) _) _
      simp only [Act.put, List.setIfInBounds_toArray, List.set_cons_zero, List.set_cons_succ]
      refine wpAnyH_take (i := 1) (v := ?uv1) rfl (by kernel_rfl) (by kernel_rfl) (by kernel_rfl) (fun _ _ _ h => panic_put (P := Tryz.prog) (fn := Tryz.f19) (R := fun en w' => en = .returned (.tuple #[.string TX, .int .i64 0]) ∧ Below w.heap.size w w') h) (Or.inl ⟨by rfl, ?uy1⟩) trivial ?_
      case uy1 => (intro w hSw; (try dsimp only at hSw); go_simp); try with_reducible rfl
      change wpAnyH _ _ _ _ _ _ _ (Act.put _ (some 78) _) _
      simp only [Act.put, List.setIfInBounds_toArray, List.set_cons_zero, List.set_cons_succ]
      refine wpAnyH_take (i := 2) (v := ?uv2) rfl (by kernel_rfl) (by kernel_rfl) (by kernel_rfl) (fun _ _ _ h => panic_put (P := Tryz.prog) (fn := Tryz.f19) (R := fun en w' => en = .returned (.tuple #[.string TX, .int .i64 0]) ∧ Below w.heap.size w w') h) (Or.inl ⟨by rfl, ?uy2⟩) trivial ?_
      case uy2 => (intro w hSw; (try dsimp only at hSw); go_simp); try with_reducible rfl
      change wpAnyH _ _ _ _ _ _ _ (Act.put _ (some 79) _) _
      simp only [Act.put, List.setIfInBounds_toArray, List.set_cons_zero, List.set_cons_succ]
      refine wpAnyH_take (i := 3) (v := ?uv3) rfl (by kernel_rfl) (by kernel_rfl) (by kernel_rfl) (fun _ _ _ h => panic_put (P := Tryz.prog) (fn := Tryz.f19) (R := fun en w' => en = .returned (.tuple #[.string TX, .int .i64 0]) ∧ Below w.heap.size w w') h) (Or.inl ⟨by rfl, ?uy3⟩) trivial ?_
      case uy3 => (intro w hSw; (try dsimp only at hSw); go_simp); try with_reducible rfl
      change wpAnyH _ _ _ _ _ _ _ (Act.put _ (some 80) _) _
      simp only [Act.put, List.setIfInBounds_toArray, List.set_cons_zero, List.set_cons_succ]
      refine wpAnyH_take (i := 4) (v := ?uv4) rfl (by kernel_rfl) (by kernel_rfl) (by kernel_rfl) (fun _ _ _ h => panic_put (P := Tryz.prog) (fn := Tryz.f19) (R := fun en w' => en = .returned (.tuple #[.string TX, .int .i64 0]) ∧ Below w.heap.size w w') h) (Or.inl ⟨by rfl, ?uy4⟩) trivial ?_
      case uy4 => (intro w hSw; (try dsimp only at hSw); go_simp); try with_reducible rfl
      change wpAnyH _ _ _ _ _ _ _ (Act.put _ (some 81) _) _
      simp only [Act.put, List.setIfInBounds_toArray, List.set_cons_zero, List.set_cons_succ]
      refine wpAnyH_take (i := 5) (v := ?uv5) rfl (by kernel_rfl) (by kernel_rfl) (by kernel_rfl) (fun _ _ _ h => panic_put (P := Tryz.prog) (fn := Tryz.f19) (R := fun en w' => en = .returned (.tuple #[.string TX, .int .i64 0]) ∧ Below w.heap.size w w') h) (Or.inl ⟨by rfl, ?uy5⟩) trivial ?_
      case uy5 => (intro w hSw; (try dsimp only at hSw); go_simp); try with_reducible rfl
      change wpAnyH _ _ _ _ _ _ _ (Act.put _ (some 82) _) _
      simp only [Act.put, List.setIfInBounds_toArray, List.set_cons_zero, List.set_cons_succ]
      refine wpAnyH_take (i := 6) (v := ?uv6) rfl (by kernel_rfl) (by kernel_rfl) (by kernel_rfl) (fun _ _ _ h => panic_put (P := Tryz.prog) (fn := Tryz.f19) (R := fun en w' => en = .returned (.tuple #[.string TX, .int .i64 0]) ∧ Below w.heap.size w w') h) (Or.inl ⟨by rfl, ?uy6⟩) trivial ?_
      case uy6 => (intro w hSw; (try dsimp only at hSw); go_simp; rw [if_neg (by omega), show (⟨#[46]⟩ : ByteArray) = txt [46] from rfl, txt_append]); try with_reducible rfl
      change wpAnyH _ _ _ _ _ _ _ (Act.put _ (some 83) _) _
      simp only [Act.put, List.setIfInBounds_toArray, List.set_cons_zero, List.set_cons_succ]
      refine wpAnyH_take (i := 7) (v := ?uv7) rfl (by kernel_rfl) (by kernel_rfl) (by kernel_rfl) (fun _ _ _ h => panic_put (P := Tryz.prog) (fn := Tryz.f19) (R := fun en w' => en = .returned (.tuple #[.string TX, .int .i64 0]) ∧ Below w.heap.size w w') h) (Or.inl ⟨by rfl, ?uy7⟩) trivial ?_
      case uy7 => (intro w hSw; (try dsimp only at hSw); go_simp); try with_reducible rfl
      change wpAnyH _ _ _ _ _ _ _ (Act.put _ (some 84) _) _
      simp only [Act.put, List.setIfInBounds_toArray, List.set_cons_zero, List.set_cons_succ]
      refine wpAnyH_take (i := 8) (v := ?uv8) rfl (by kernel_rfl) (by kernel_rfl) (by kernel_rfl) (fun _ _ _ h => panic_put (P := Tryz.prog) (fn := Tryz.f19) (R := fun en w' => en = .returned (.tuple #[.string TX, .int .i64 0]) ∧ Below w.heap.size w w') h) (Or.inl ⟨by rfl, ?uy8⟩) trivial ?_
      case uy8 => (intro w hSw; (try dsimp only at hSw); go_simp); try with_reducible rfl
      change wpAnyH _ _ _ _ _ _ _ (Act.put _ (some 85) _) _
      simp only [Act.put, List.setIfInBounds_toArray, List.set_cons_zero, List.set_cons_succ]
      refine wpAnyH_take (i := 9) (v := ?uv9) rfl (by kernel_rfl) (by kernel_rfl) (by kernel_rfl) (fun _ _ _ h => panic_put (P := Tryz.prog) (fn := Tryz.f19) (R := fun en w' => en = .returned (.tuple #[.string TX, .int .i64 0]) ∧ Below w.heap.size w w') h) (Or.inl ⟨by rfl, ?uy9⟩) trivial ?_
      case uy9 => (intro w hSw; (try dsimp only at hSw); go_simp); try with_reducible rfl
      change wpAnyH _ _ _ _ _ _ _ (Act.put _ (some 86) _) _
      simp only [Act.put, List.setIfInBounds_toArray, List.set_cons_zero, List.set_cons_succ]
      refine wpAnyH_take (i := 10) (v := ?uv10) rfl (by kernel_rfl) (by kernel_rfl) (by kernel_rfl) (fun _ _ _ h => panic_put (P := Tryz.prog) (fn := Tryz.f19) (R := fun en w' => en = .returned (.tuple #[.string TX, .int .i64 0]) ∧ Below w.heap.size w w') h) (Or.inl ⟨by rfl, ?uy10⟩) trivial ?_
      case uy10 => (intro w hSw; (try dsimp only at hSw); go_simp); try with_reducible rfl
      change wpAnyH _ _ _ _ _ _ _ (Act.put _ (some 87) _) _
      simp only [Act.put, List.setIfInBounds_toArray, List.set_cons_zero, List.set_cons_succ]
      refine wpAnyH_take (i := 11) (v := ?uv11) rfl (by kernel_rfl) (by kernel_rfl) (by kernel_rfl) (fun _ _ _ h => panic_put (P := Tryz.prog) (fn := Tryz.f19) (R := fun en w' => en = .returned (.tuple #[.string TX, .int .i64 0]) ∧ Below w.heap.size w w') h) (Or.inl ⟨by rfl, ?uy11⟩) trivial ?_
      case uy11 => (intro w hSw; (try dsimp only at hSw); go_simp); try with_reducible rfl
      change wpAnyH _ _ _ _ _ _ _ (Act.put _ (some 88) _) _
      simp only [Act.put, List.setIfInBounds_toArray, List.set_cons_zero, List.set_cons_succ]
      refine wpAnyH_take (i := 12) (v := ?uv12) rfl (by kernel_rfl) (by kernel_rfl) (by kernel_rfl) (fun _ _ _ h => panic_put (P := Tryz.prog) (fn := Tryz.f19) (R := fun en w' => en = .returned (.tuple #[.string TX, .int .i64 0]) ∧ Below w.heap.size w w') h) (Or.inl ⟨by rfl, ?uy12⟩) trivial ?_
      case uy12 => (intro w hSw; (try dsimp only at hSw); go_simp); try with_reducible rfl
      change wpAnyH _ _ _ _ _ _ _ (Act.put _ (some 89) _) _
      simp only [Act.put, List.setIfInBounds_toArray, List.set_cons_zero, List.set_cons_succ]
      refine wpAnyH_take (i := 13) (v := ?uv13) rfl (by kernel_rfl) (by kernel_rfl) (by kernel_rfl) (fun _ _ _ h => panic_put (P := Tryz.prog) (fn := Tryz.f19) (R := fun en w' => en = .returned (.tuple #[.string TX, .int .i64 0]) ∧ Below w.heap.size w w') h) (Or.inl ⟨by rfl, ?uy13⟩) trivial ?_
      case uy13 => (intro w hSw; (try dsimp only at hSw); go_simp; rw [if_neg (by omega), txt_append, List.append_assoc, List.singleton_append]); try with_reducible rfl
      change wpAnyH _ _ _ _ _ _ _ (Act.put _ (some 90) _) _
      simp only [Act.put, List.setIfInBounds_toArray, List.set_cons_zero, List.set_cons_succ]
      refine wpAnyH_take (i := 14) (v := ?uv14) rfl (by kernel_rfl) (by kernel_rfl) (by kernel_rfl) (fun _ _ _ h => panic_put (P := Tryz.prog) (fn := Tryz.f19) (R := fun en w' => en = .returned (.tuple #[.string TX, .int .i64 0]) ∧ Below w.heap.size w w') h) (Or.inl ⟨by rfl, ?uy14⟩) trivial ?_
      case uy14 => (intro w hSw; (try dsimp only at hSw); go_simp); try with_reducible rfl
      change wpAnyH _ _ _ _ _ _ _ (Act.put _ (some 10) _) _
      simp only [Act.put, List.setIfInBounds_toArray, List.set_cons_zero, List.set_cons_succ]
      refine wpAnyH_done (by kernel_rfl) ?_ _
      go_wp2
      go_meet
      case rel => exact ⟨by rw [HP.out], below_drewN (Below.refl _ _) 1⟩
    case rest =>
     obtain ⟨rfl, b⟩ := hcut
     replace BB := bnx BB b
     have G := mv b rfl <| And.intro x0 <| And.intro x1 x2
     clear b x x0 x1 x2
     obtain ⟨x0, x1, x2⟩ := G
     obtain ⟨PT, hPT⟩ : ∃ PT, PT = pointT N R := ⟨_, rfl⟩
     have hPl : (txt PT).size ≤ 7001 := by
      rw [txt_size, hPT]
      unfold pointT
      split
      ·omega
      ·rw [List.length_append, List.length_cons, List.length_take, List.length_drop]
       omega
     rw [← hPT] at HTX ⊢
     clear hPT hNR hRl dl
     cases s with
     | false =>
      go_wp2
      go_ret2
      exact ⟨by rw [HTX.out]; rfl, BB⟩
     | true =>
      by_cases hq : Q = 0
      ·have hz := HN0.out.2 hq
       have HQ2 := Lib.hid hq
       subst hz
       clear hq HN0
       go_wp2
       go_ret2
       exact ⟨by rw [HTX.out, if_neg (fun hh => hh.2 HQ2.out)]; rfl, BB⟩
      ·have hz : 0 < n5 := by have h8 : ¬ n5 = 0 := fun h9 => hq (HN0.out.1 h9); omega
       have hcat : (⟨#[45]⟩ : ByteArray) ++ txt PT = txt ([45] ++ PT) := by
        rw [show (⟨#[45]⟩ : ByteArray) = txt [45] from rfl, txt_append]
       have HCAT := Lib.hid hcat
       have HQ2 := Lib.hid hq
       clear hq hcat HN0
       go_wp2
       try any_goals (exfalso; omega)
       go_ret2
       exact ⟨by rw [HTX.out, if_pos ⟨by trivial, HQ2.out⟩, ← HCAT.out]; rfl, BB⟩
theorem rtext_any {w : World} {A : Option Addr} {n c : Nat} {l : List Nat} {s : Bool} {e N : Int} {up : Bool} (hn : n ≤ 20) (h : Rd w .u64 Go.Proofs.YtefofejgogokpaaGreatDoor.W A n c l) :
  Calls Tryz.prog 19 #[.agg #[.bool s, .slice A n c, .int .i64 e], .int .i64 N, .bool up] w fun en w' => en = .returned (.tuple #[.string (txt (textS s l e N up)), .int .i64 (textK s l e N)]) ∧ Below w.heap.size w w' := by
 unfold textS textK
 by_cases h0 : mayD s l e = true ∧ 0 ≤ N ∧ N ≤ 60
 ·by_cases h1 : -2000 ≤ e ∧ e ≤ 2000
  ·rw [if_pos h0, if_pos h1, if_pos rfl]
   obtain ⟨N, rfl⟩ := Int.eq_ofNat_of_zero_le h0.2.1
   exact rtext_ok h h0.1 hn (by omega) h1.1 h1.2
  ·rw [if_pos h0, if_neg h1, if_neg (by decide)]
   exact rtext_limb h h0.1 h0.2.1 h0.2.2 h1
 ·rw [if_neg h0, if_neg (by decide)]
  exact rtext_arg h h0
end Go.Proofs.YtefofejgogokpaaGreatDoor
