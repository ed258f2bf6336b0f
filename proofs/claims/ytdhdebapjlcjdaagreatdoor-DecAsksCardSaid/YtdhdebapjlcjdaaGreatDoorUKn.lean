/-
 Contract of dec's times, at this translation. Condition: the row is the caller's own, its groups are below 10^19.
-/
import Derived.Test.YtdhdebapjlcjdaaGreatDoorUKs
import Derived.Test.YtdhdebapjlcjdaaGreatDoorUKc
import Derived.Test.YtdhdebapjlcjdaaGreatDoorURRoot
set_option maxHeartbeats 1000000
set_option maxRecDepth 100000
namespace Go.Proofs.YtdhdebapjlcjdaaGreatDoor
open Go.RowKit

/-- how times ends: with a row of the caller's own -/
def TimesEnd (b0 : Nat) (n V : Nat) (w : World) (en : Ending) (w' : World) : Prop := ∃ v, en = .returned v ∧ Own b0 w' 38 .u64 v (dig D19 V) ∧ (dig D19 V).length ≤ n + 2 ∧ Below b0 w w'
theorem can_snoc {r : List Nat} {y : Nat} (hr : Lt D19 r) (hy : y < D19) (h0 : y ≠ 0) : Can D19 (r ++ [y]) := by
 refine ⟨hr.append (Lt.cons hy Lt.nil), fun _ => ?_⟩
 rw [List.length_append, List.length_singleton, Nat.add_sub_cancel, List.getD_eq_getElem?_getD, List.getElem?_append_right (Nat.le_refl _), Nat.sub_self]
 exact h0
theorem can_top {l r : List Nat} (hl : Can D19 l) (hr : Lt D19 r) (hn : r.length = l.length) (hv : val D19 l ≤ val D19 r) : Can D19 r := by
 refine ⟨hr, fun h0 hz => ?_⟩
 have h1 := val_pos_of_last (B := D19) (l := l) (by omega) (hl.2 (by omega))
 have h2 := val_take_drop (B := D19) r (r.length - 1)
 have h3 : r.drop (r.length - 1) = [r.getD (r.length - 1) 0] := by
  rw [List.drop_eq_getElem_cons (by omega), List.drop_of_length_le (by omega), List.getD_eq_getElem?_getD, List.getElem?_eq_getElem (by omega)]
  rfl
 rw [h3, hz] at h2
 have h4 : val D19 [0] = 0 := by rw [val_cons, val_nil, Nat.mul_zero]
 rw [h4, Nat.mul_zero, Nat.add_zero] at h2
 have h5 := val_lt (hr.take (r.length - 1))
 rw [List.length_take, Nat.min_eq_left (by omega)] at h5
 rw [hn] at h5 h2
 omega
theorem D19_lit : D19 = 10000000000000000000 := rfl
theorem times_quot {x f m lo hi s c q z : Nat} (e1 : lo + 18446744073709551616 * hi = x * f) (e2 : s + 18446744073709551616 * c = lo + m) (e3 : q * 10000000000000000000 + z = (hi + c) * 18446744073709551616 + s) (hz : z < 10000000000000000000) : q = (x * f + m) / D19 ∧ z = (x * f + m) % D19 := by
 rw [D19_lit]
 generalize x * f = T at *
 omega
theorem getD_rest {r l : List Nat} {i : Nat} (h : r.drop i = l.drop i) : r.getD i 0 = l.getD i 0 := by
 have e : ∀ k : List Nat, k.getD i 0 = (k.drop i).getD 0 0 := fun k => by
  rw [List.getD_eq_getElem?_getD, List.getD_eq_getElem?_getD, List.getElem?_drop]
  rfl
 rw [e r, e l, h]
theorem times_any {w : World} {b0 : Nat} {v : Value} {l : List Nat} {f m0 n : Nat} (hown : Own b0 w 38 .u64 v l) (hcan : Can D19 l) (hf1 : 1 ≤ f) (hnl : l.length = n) (hn : n ≤ 10000) (hf : f < 18446744073709551616) (hm : m0 < 18446744073709551616) (hb : b0 ≤ w.heap.size) :
  Calls Tryz.prog 81 #[v, .int .u64 (f : Int), .int .u64 (m0 : Int)] w (TimesEnd b0 n (val D19 l * f + m0) w) := by
 have hfW : f < W := by rw [W_eq]; exact hf
 have hl := hcan.1
 have HCA := Lib.hid hcan
 obtain ⟨A, c, rfl, hrd⟩ := hown.rd hl
 have hcap := hrd.cap
 have hmax := hrd.max
 have T0 := times_start (f := f) hl (show m0 < W by rw [W_eq]; exact hm)
 have HL := Lib.hid hl
 have BB := Below.refl b0 w
 rw [hnl] at hcap hown ⊢
 have HN := Lib.hid hnl
 clear hrd hl hm hnl hcan
 go_enter Tryz.func81, Tryz.ntmps81
 go_wp2
 go_loopg [2, 14] n (fun gk v2 v14 wr => ∃ (i m : Nat) (r : List Nat), i + gk = n ∧ v14 = .int .i64 i ∧ v2 = .int .u64 m ∧ TimesAt l r f m0 i m ∧ Own b0 wr 38 .u64 (.slice A n c) r ∧ Below b0 w wr)
 case atStart => exact ⟨0, m0, l, by omega, rfl, rfl, T0, hown, BB⟩
 case round =>
  clear hown BB T0
  obtain ⟨i, m, r, hg, rfl, rfl, hT, hown, BB⟩ := hrel
  have HG := Lib.hid hg
  have HT := Lib.hid hT
  have hmW : m < 18446744073709551616 := by rw [← W_eq]; exact hT.car
  have hrl : r.length = n := hT.len.trans HN.out
  have HRL := Lib.hid hrl
  have hrest := hT.rest
  clear hg hT hrl
  by_cases hi : i < n
  ·obtain ⟨g, cap, hv, hbg, hgs, hc1, hc2, hce, hfz, _⟩ := hown.store (j := i) (by rw [HRL.out]; exact hi)
   injection hv with hA hn9 hcc
   subst hA
   clear hn9 hcc hc1 hc2
   obtain ⟨x, hx⟩ : ∃ x, x = l.getD i 0 := ⟨_, rfl⟩
   rw [getD_rest hrest, ← hx] at hce
   have hx19 : x < D19 := by rw [hx]; exact HL.out.getD (by have := D19_two; omega) i
   have hx64 : x < 18446744073709551616 := by rw [D19_lit] at hx19; omega
   have HX := Lib.hid hx
   clear hx hrest
   go_wp2_with fail
   refine (mul64 x f hx64 hf _).mono ?_
   rintro e w' ⟨hi1, lo, rfl, HP, hlo, hhi, rfl⟩
   obtain ⟨s1, c1, hr1, e1, hs1, hc1'⟩ := add64 lo m hlo hmW
   have hk1 : hi1 + c1 ≤ 18446744073709551615 := by omega
   have hh : hi1 + c1 < D19 := (times_high (s := s1) (hi := hi1 + c1) hx19 hfW (by rw [W_eq]; exact hmW) (by rw [W_eq]; have := HP.out; unfold Hid at HP; omega)).1
   have HE := Lib.hid e1
   clear e1
   go_wp2_with fail
   try rw [← Int.natCast_add]
   refine (div64_any (hi := hi1 + c1) (lo := s1) (y := 10000000000000000000) (by omega) (by omega) (by rw [D19_lit] at hh; exact hh) hs1).mono ?_
   rintro e w' ⟨q, z, rfl, hq, hz, hq64, k, rfl⟩
   have hQ := times_quot HP.out HE.out hq hz
   have HQ := Lib.hid hQ
   have hown2 := hown.below (below_drewN (Below.refl _ _) k)
   have BB2 := BB.trans (below_drewN (Below.refl _ _) k)
   clear hq hQ hce hfz hown
   obtain ⟨g', cap', hv', hbg', hgs', hc1', hc2', hce, hfz, hst⟩ := hown2.store (j := i) (by rw [HRL.out]; exact hi)
   injection hv' with hA' hn9 hcc'
   clear hn9 hcc' hc1' hc2'
   injection hA' with hA'
   injection hA' with hA'
   subst hA'
   go_wp2
   go_roundg (gk - 1)
   case measure => have := HG.out; omega
   case rel => exact ⟨i + 1, q, r.set i z, by have := HG.out; omega, by go_num, by go_num, by rw [HQ.out.1, HQ.out.2, HX.out]; exact times_next HT.out HL.out hfW (by rw [HN.out]; exact hi), hst z, BB2.setCell hbg _⟩
  obtain rfl : i = n := by have := HG.out; omega
  have hsum := times_done (by have h := HT.out; rw [← HN.out] at h; exact h)
  have hrlt := HT.out.lt
  have hC : m = 0 → Can D19 r := fun h => can_top HCA.out hrlt (HRL.out.trans HN.out.symm) (by rw [h, Nat.mul_zero, Nat.add_zero] at hsum; rw [hsum]; exact Nat.le_trans (Nat.le_mul_of_pos_right _ hf1) (Nat.le_add_right _ _))
  have HC := Lib.hid hC
  clear hC
  have hle : r.length ≤ i := by have := HRL.out; omega
  have hr0 : r.length ≤ 10000 := by have := HRL.out; omega
  clear HT HG hrest HRL
  obtain ⟨V, hV⟩ : ∃ V, V = val D19 l * f + m0 := ⟨_, rfl⟩
  rw [← hV] at hsum
  have HVV := Lib.hid hV
  clear hV
  have hbs0 := BB.size
  clear hbs0
  have HM := Lib.hid hsum
  clear hsum
  go_wp2
  go_loopg [0, 2] m (fun gk v0 v2 wr2 => ∃ (m : Nat) (r : List Nat), gk = m ∧ m < 18446744073709551616 ∧ v2 = .int .u64 m ∧ Own b0 wr2 38 .u64 v0 r ∧ Lt D19 r ∧ Hid (m = 0 → Can D19 r) ∧ r.length + min m 2 ≤ i + 2 ∧ val D19 r + D19 ^ r.length * m = V ∧ Below b0 w wr2)
  case atStart => exact ⟨m, r, rfl, hmW, rfl, hown, hrlt, HC, by omega, HM.out, BB⟩
  case round =>
   clear hown BB hrlt hle HM hr0 hmW HC
   obtain ⟨m, r, hgk, hmW, rfl, hown, hrlt, HC, hmin, hsum, BB⟩ := hrel
   have HG2 := Lib.hid hgk
   have HM := Lib.hid hsum
   clear hgk hsum
   by_cases h0 : m = 0
   ·subst h0
    have hV2 : val D19 r = V := by have := HM.out; rw [Nat.mul_zero, Nat.add_zero] at this; exact this
    have hr := dig_val D19_two (HC.out rfl)
    rw [hV2.trans HVV.out] at hr
    have hl2 : r.length ≤ i + 2 := by omega
    rw [← hr] at hown hl2
    have HL2 := Lib.hid hl2
    clear HM hmin hr hl2 hV2
    go_wp2
    go_ret
    exact ⟨_, rfl, hown, HL2.out, BB⟩
   ·have hp : 0 < m := by omega
    have d0 : decide (0 < m) = true := decide_eq_true hp
    have hN := times_more (m := m) hrlt
    obtain ⟨y, hy⟩ : ∃ y, y = m % D19 := ⟨_, rfl⟩
    obtain ⟨q, hq⟩ : ∃ q, q = m / D19 := ⟨_, rfl⟩
    rw [← hy, ← hq] at hN
    rw [D19_lit] at hy hq
    have r1 : (m : Int) / 10000000000000000000 = (q : Int) := by omega
    have r2 : (m : Int) % 10000000000000000000 = (y : Int) := by omega
    have hq2 : q < 18446744073709551616 := by omega
    have hqm : q < m := by omega
    have hmin2 : r.length + 1 + min q 2 ≤ i + 2 := by omega
    have hC2 : q = 0 → Can D19 (r ++ [y]) := fun h => can_snoc hrlt (by rw [D19_lit]; omega) (by omega)
    have HC2 := Lib.hid hC2
    have hl3 : r.length ≤ 1000000 := by omega
    have hbs : b0 ≤ wr.heap.size := Nat.le_trans hb BB.size
    have HN2 := Lib.hid hN
    have HQ2 := Lib.hid (And.intro hqm hmin2)
    clear hy hq hN hmin hqm hmin2 hrlt hC2 HC
    go_wp2_with (at_builtin; refine law_app (y := y) Tryz.underlying23 info64 (by decide) rfl _ _ rfl hown hl3 hbs rfl rfl ?_; intro v' w2 hown3 hb3)
    go_roundg q
    case measure => have := HG2.out; have := HQ2.out; omega
    case rel => exact ⟨q, r ++ [y], rfl, hq2, by go_num, hown3, HN2.out.1, HC2, by rw [List.length_append]; exact HQ2.out.2, by rw [HN2.out.2]; exact HM.out, BB.trans hb3⟩
end Go.Proofs.YtdhdebapjlcjdaaGreatDoor
set_option maxHeartbeats 1000000
set_option maxRecDepth 100000
namespace Go.Proofs.YtdhdebapjlcjdaaGreatDoor
open Go.RowKit

theorem timesPower_any {w : World} {b0 : Nat} {v : Value} {V base k n : Nat} (hown : Own b0 w 38 .u64 v (dig D19 V)) (hnl : (dig D19 V).length ≤ n) (hn : n ≤ 5000) (hb1 : 1 ≤ base) (hb2 : base ≤ 10) (hk : k ≤ 2000) (hb : b0 ≤ w.heap.size) :
  Calls Tryz.prog 83 #[v, .int .u64 (base : Int), .int .i64 (k : Int)] w (fun en w' => ∃ v', en = .returned v' ∧ Own b0 w' 38 .u64 v' (dig D19 (V * base ^ k)) ∧ (dig D19 (V * base ^ k)).length ≤ n + 2 * (k + 1) ∧ Below b0 w w') := by
 obtain ⟨d, hd⟩ : ∃ d, d = 18446744073709551615 / base := ⟨_, rfl⟩
 have r1 : (18446744073709551615 : Int) / (base : Int) = (d : Int) := by rw [hd]; exact (Int.natCast_ediv _ _).symm
 have hdb : d * base ≤ 18446744073709551615 := by rw [hd]; exact Nat.div_mul_le_self _ _
 have e0 : ((base : Int) == 0) = false := by simp; omega
 obtain ⟨Z, hZ⟩ : ∃ Z, Z = V * base ^ k := ⟨_, rfl⟩
 have BB := Below.refl b0 w
 have HNL := Lib.hid hnl
 have HDB := Lib.hid hdb
 clear hd hnl hdb
 rw [← hZ]
 have HZ := Lib.hid hZ
 clear hZ
 go_enter Tryz.func83, Tryz.ntmps83
 go_wp2
 go_loopg [0, 7, 9] k (fun gk v0 v7 v9 wr => ∃ (i U fac : Nat), i + gk = k ∧ v9 = .int .i64 i ∧ v7 = .int .u64 fac ∧ Own b0 wr 38 .u64 v0 (dig D19 U) ∧ Hid ((dig D19 U).length ≤ n + 2 * i) ∧ 1 ≤ fac ∧ fac < 18446744073709551616 ∧ Hid (U * fac = V * base ^ i) ∧ Below b0 w wr)
 case atStart => exact ⟨0, V, 1, by omega, rfl, rfl, hown, Lib.hid (by have := HNL.out; omega), by omega, by omega, Lib.hid (by rw [Nat.mul_one, Nat.pow_zero, Nat.mul_one]), BB⟩
 case round =>
  clear hown BB
  obtain ⟨i, U, fac, hg, rfl, rfl, hown, HLn, hf1, hf2, HU, BB⟩ := hrel
  have HG := Lib.hid hg
  clear hg
  by_cases hi : i < k
  ·by_cases hfd : d < fac
   ·have hbs : b0 ≤ wr.heap.size := Nat.le_trans hb BB.size
    go_wp2_with fail
    refine (times_any (m0 := 0) (n := (dig D19 U).length) hown (can_dig D19_two U) hf1 rfl (by have := HLn.out; omega) hf2 (by omega) hbs).mono ?_
    rw [val_dig D19_two, Nat.add_zero]
    rintro en w1 ⟨v1, rfl, hown1, hl1, b⟩
    have HL1 := Lib.hid hl1
    have BB1 := BB.trans b
    clear hown b hl1 BB
    go_wp2
    go_roundg (gk - 1)
    case measure => have := HG.out; omega
    case rel => exact ⟨i + 1, U * fac, base, by have := HG.out; omega, by go_num, by go_num, hown1, Lib.hid (by have := HL1.out; have := HLn.out; omega), hb1, by omega, Lib.hid (by rw [HU.out, Nat.pow_succ, Nat.mul_assoc]), BB1⟩
   ·obtain ⟨p, hp⟩ : ∃ p, p = fac * base := ⟨_, rfl⟩
    have hp1 : p ≤ 18446744073709551615 := by rw [hp]; exact Nat.le_trans (Nat.mul_le_mul_right _ (by omega)) HDB.out
    have hp2 : 1 ≤ p := by rw [hp]; exact Nat.mul_pos hf1 hb1
    have r2 : (fac : Int) * (base : Int) = (p : Int) := by rw [hp]; exact (Int.natCast_mul _ _).symm
    have HP := Lib.hid hp
    clear hp
    go_wp2
    go_roundg (gk - 1)
    case measure => have := HG.out; omega
    case rel => exact ⟨i + 1, U, p, by have := HG.out; omega, by go_num, by go_num, hown, Lib.hid (by have := HLn.out; omega), hp2, by omega, Lib.hid (by rw [HP.out, ← Nat.mul_assoc, HU.out, Nat.pow_succ, Nat.mul_assoc]), BB⟩
  obtain rfl : i = k := by have := HG.out; omega
  have hbs : b0 ≤ wr.heap.size := Nat.le_trans hb BB.size
  go_wp2_with fail
  refine (times_any (m0 := 0) (n := (dig D19 U).length) hown (can_dig D19_two U) hf1 rfl (by have := HLn.out; omega) hf2 (by omega) hbs).mono ?_
  rw [val_dig D19_two, Nat.add_zero]
  rintro en w1 ⟨v1, rfl, hown1, hl1, b⟩
  have HL1 := Lib.hid hl1
  have BB1 := BB.trans b
  have hU := HU.out.trans HZ.out.symm
  rw [hU] at hown1 HL1
  clear hown b hl1 BB hU
  go_wp2
  go_ret
  exact ⟨_, rfl, hown1, by have := HL1.out; have := HLn.out; omega, BB1⟩
end Go.Proofs.YtdhdebapjlcjdaaGreatDoor
