/-
 Contract of the statement NatAsks' function at this translation: it returns true, whatever its arguments. Condition: the slices read as limbs, the table of math/bits reads as its text lays it.
-/
import Derived.Test.YtdhdebapjlcjdaaGreatDoorURApi
import Derived.Test.YtdhdebapjlcjdaaGreatDoorURMul
namespace Go.Proofs.YtdhdebapjlcjdaaGreatDoor
open Go.RowKit

/-- what nat tells of a number that may have too many limbs -/
def Is (w : World) (A : Option Addr) (n c : Nat) (k : Int) (x : Nat) : Prop := (Nt w A n c x ∧ k = 0) ∨ (n = 0 ∧ k = 2 ∧ W ^ 64 ≤ x)
theorem Is.below {w w' : World} {A : Option Addr} {n c x : Nat} {k : Int} (h : Is w A n c k x) (hb : Below w.heap.size w w') : Is w' A n c k x := by
 rcases h with ⟨h1, h2⟩ | h2
 ·exact .inl ⟨h1.below hb, h2⟩
 ·exact .inr h2
theorem cmp_swap (x y : Nat) : cmpN y x = - cmpN x y ∧ -1 ≤ cmpN x y ∧ cmpN x y ≤ 1 ∧ (cmpN x y < 0 ↔ x < y) := by
 rcases Nat.lt_trichotomy x y with h | h | h
 ·rw [cmpN_lt h, cmpN_gt h]; omega
 ·rw [cmpN_eq h, cmpN_eq h.symm]; omega
 ·rw [cmpN_gt h, cmpN_lt h]; omega

end Go.Proofs.YtdhdebapjlcjdaaGreatDoor
set_option maxHeartbeats 4000000
set_option maxRecDepth 100000
namespace Go.Proofs.YtdhdebapjlcjdaaGreatDoor
open Go.RowKit

theorem digit_of {qs : List Nat} {i : Nat} (hlt : Lt H qs) (hi : i < qs.length) : qs.getD i 0 = val H qs / H ^ i % H := by
 have h1 := val_take_drop (B := H) qs i
 have h2 := val_lt (hlt.take i)
 rw [List.length_take, Nat.min_eq_left (by omega)] at h2
 have h3 : qs.drop i = qs.getD i 0 :: qs.drop (i + 1) := by
  rw [List.getD_eq_getElem?_getD, List.getElem?_eq_getElem hi, Option.getD_some, ← List.drop_eq_getElem_cons hi]
 have hH : 0 < H := by rw [H_eq]; omega
 rw [List.length_take, Nat.min_eq_left (by omega)] at h1
 rw [h1, Nat.add_comm, Nat.mul_add_div (Nat.pow_pos hH), Nat.div_eq_of_lt h2, Nat.add_zero, h3, val_cons, Nat.add_mul_mod_self_left, Nat.mod_eq_of_lt (hlt.getD hH i)]
theorem quot_bit {qs : List Nat} {k qi ri m z : Nat} (hk : k = 16 * qi + ri) (hr : ri < 16) (hv : val H qs = m * 2 ^ (k + 1)) (hlt : Lt H qs) (hqi : qi < qs.length) (hz : z = qs.getD qi 0 + 2 ^ ri) :
  qs.getD qi 0 % 2 ^ (ri + 1) = 0 ∧ z < H ∧ Lt H (qs.set qi z) ∧ val H (qs.set qi z) = (2 * m + 1) * 2 ^ k := by
 have hd := digit_of hlt hqi
 have e1 : H ^ qi = 2 ^ (16 * qi) := by rw [H_pow, ← Nat.pow_mul]
 have e2 : 2 ^ (k + 1) = 2 ^ (16 * qi) * 2 ^ (ri + 1) := by rw [hk, Nat.add_assoc, Nat.pow_add]
 have hP : 0 < 2 ^ (16 * qi) := Nat.pow_pos (by omega)
 have e3 : m * 2 ^ (k + 1) = 2 ^ (16 * qi) * (m * 2 ^ (ri + 1)) := by rw [e2]; ac_rfl
 rw [hv, e1, e3, Nat.mul_div_cancel_left _ hP] at hd
 obtain ⟨s, hs⟩ : ∃ s, 16 = (ri + 1) + s := ⟨16 - (ri + 1), by omega⟩
 have e4 : H = 2 ^ (ri + 1) * 2 ^ s := by rw [H_pow, ← Nat.pow_add, ← hs]
 have e5 : qs.getD qi 0 = m % 2 ^ s * 2 ^ (ri + 1) := by rw [hd, e4, Nat.mul_comm (2 ^ (ri + 1)) (2 ^ s), Nat.mul_mod_mul_right]
 have hR : 0 < 2 ^ ri := Nat.pow_pos (by omega)
 have e6 : 2 ^ (ri + 1) = 2 ^ ri * 2 := Nat.pow_succ ..
 have h7 : z < H := by
  have h8 : m % 2 ^ s + 1 ≤ 2 ^ s := Nat.mod_lt _ (Nat.pow_pos (by omega))
  have h9 : (m % 2 ^ s + 1) * 2 ^ (ri + 1) ≤ 2 ^ s * 2 ^ (ri + 1) := Nat.mul_le_mul_right _ h8
  rw [Nat.add_mul, Nat.one_mul] at h9
  rw [hz, e5, e4, Nat.mul_comm (2 ^ (ri + 1)) (2 ^ s)]
  omega
 refine ⟨by rw [e5, Nat.mul_mod_left], h7, hlt.set _ h7, ?_⟩
 have h8 := val_set (B := H) hqi z
 rw [hz, Nat.mul_add] at h8
 rw [hz]
 have h9 : H ^ qi * 2 ^ ri = 2 ^ k := by rw [e1, hk, Nat.pow_add]
 rw [h9, hv, Nat.pow_succ] at h8
 rw [Nat.add_mul, Nat.one_mul]
 have h10 : 2 * m * 2 ^ k = m * (2 ^ k * 2) := by ac_rfl
 omega
theorem or_new {d r : Nat} (hd : d % 2 ^ (r + 1) = 0) (hz : d + 2 ^ r < 65536) : bits .or .u32 (d : Int) (2 ^ r) = ((d + 2 ^ r : Nat) : Int) ∧ bits .or .u32 (d : Int) (2 ^ r % 4294967296) = ((d + 2 ^ r : Nat) : Int) := by
 have e1 : ((2 : Int) ^ r) = ((2 ^ r : Nat) : Int) := by rw [Int.natCast_pow]; rfl
 have e2 : ((2 ^ r : Nat) : Int) % 4294967296 = ((2 ^ r : Nat) : Int) := by omega
 have e3 : d ||| 2 ^ r = d + 2 ^ r := by
  have h1 : d = 2 ^ (r + 1) * (d / 2 ^ (r + 1)) := by have := Nat.div_add_mod d (2 ^ (r + 1)); omega
  rw [h1, Nat.two_pow_add_eq_or_of_lt (Nat.pow_lt_pow_right (by omega) (Nat.lt_succ_self r))]
 have e4 : bits .or .u32 (d : Int) ((2 ^ r : Nat) : Int) = ((d + 2 ^ r : Nat) : Int) := by
  rw [bits_or_u32_nat _ _ (by omega) (by omega), e3]
 rw [e1, e2]
 exact ⟨e4, e4⟩

theorem step_bits {x k : Nat} : x / 2 ^ k = 2 * (x / 2 ^ (k + 1)) + x / 2 ^ k % 2 := by
 rw [Nat.pow_succ, ← Nat.div_div_eq_div_mul]; omega
theorem step_div {X y b R2 : Nat} (hy : 0 < y) (hb : b < 2) (hR : R2 = 2 * (X % y) + b) : (R2 < y → (2 * X + b) / y = 2 * (X / y) ∧ (2 * X + b) % y = R2) ∧ (y ≤ R2 → (2 * X + b) / y = 2 * (X / y) + 1 ∧ (2 * X + b) % y = R2 - y) := by
 have h1 := Nat.div_add_mod X y
 have h2 := Nat.mod_lt X hy
 generalize X / y = Q at *
 generalize X % y = R at *
 subst h1
 have e : 2 * (y * Q + R) + b = R2 + y * (2 * Q) := by rw [hR, Nat.mul_add, Nat.mul_left_comm]; omega
 constructor
 ·intro h
  rw [e, Nat.add_mul_div_left _ _ hy, Nat.add_mul_mod_self_left, Nat.div_eq_of_lt h, Nat.mod_eq_of_lt h]
  omega
 ·intro h
  have e2 : R2 + y * (2 * Q) = (R2 - y) + y * (2 * Q + 1) := by rw [Nat.mul_add, Nat.mul_one]; omega
  rw [e, e2, Nat.add_mul_div_left _ _ hy, Nat.add_mul_mod_self_left, Nat.div_eq_of_lt (by omega), Nat.mod_eq_of_lt (by omega)]
  omega
theorem dig_oneH {v : Nat} (h0 : v ≠ 0) (hv : v < H) : dig H v = [v] := by
 rw [dig_pos H_two h0, Nat.mod_eq_of_lt hv, Nat.div_eq_of_lt hv, dig_zero]
theorem dg_one (w : World) : Dg (w.alloc (.cells #[.int .u32 1] 59)) (some ⟨w.heap.size, 0, none⟩) 1 1 1 := by
 have hrow : Row (w.alloc (.cells (iv .u32 [1]).toArray 59)) w.heap.size 59 .u32 0 [] [1] [] := ⟨by rw [List.nil_append, List.append_nil]; exact heap_alloc_new w _, rfl⟩
 unfold Dg
 rw [dig_oneH (by omega) (by rw [H_eq]; omega)]
 exact hrow.rd (Lt.cons (by rw [H_eq]; omega) Lt.nil) (by simp) (by omega)
theorem dg_nil (w : World) : Dg w none 0 0 0 := by
 unfold Dg
 rw [dig_zero]
 exact Rd.nil _ _ _ _ (by omega)
theorem dg_len {w : World} {A : Option Addr} {n c x m y : Nat} {A' : Option Addr} {c' : Nat} {w' : World} (h : Dg w A n c x) (h' : Dg w' A' m c' y) (hxy : x < 2 * y) : n ≤ m + 1 := by
 rw [← Rd.len h, len_dig H_two]
 have h1 := (len_dig H_two y m).1 (Nat.le_of_eq (Rd.len h'))
 rw [Nat.pow_succ]
 have : H ^ m * 2 ≤ H ^ m * H := Nat.mul_le_mul_left _ H_two
 omega
theorem dg_bits {w : World} {A : Option Addr} {n c x : Nat} (h : Dg w A n c x) : blen x ≤ 16 * n ∧ x < 2 ^ blen x := by
 refine ⟨?_, (blen_le x _).1 (Nat.le_refl _)⟩
 rw [blen_le]
 have h1 := (len_dig H_two x n).1 (Nat.le_of_eq (Rd.len h))
 rwa [H_pow, ← Nat.pow_mul] at h1

theorem Own.blk {base g N cap i : Nat} {w : World} {e : TypeId} {k : IntKind} {l : List Nat} (h : Own base w e k (.slice (some ⟨g, 0, none⟩) N cap) l) (hi : i < N) (hl : l.length = N) : g < w.heap.size := by
 obtain ⟨g', cap', post, hv, _, _, _, hrow⟩ := Row.of_own h (by omega)
 injection hv with hv1 _ _
 injection hv1 with hv1
 injection hv1 with hv1
 subst hv1
 exact hrow.gl

def DivGives (w : World) (x y : Nat) (e : Ending) (w' : World) : Prop :=
 ∃ A1 n1 c1 A2 n2 c2, e = .returned (.tuple #[.slice A1 n1 c1, .slice A2 n2 c2]) ∧ Dg w' A1 n1 c1 (x / y) ∧ Dg w' A2 n2 c2 (x % y) ∧ Below w.heap.size w w'

theorem rdiv_any {w : World} {A B : Option Addr} {n c m d0 x y : Nat} (h : Dg w A n c x) (h' : Dg w B m d0 y) (hn : n ≤ 9000) (hm : m ≤ 9000) (hy : 0 < y) :
  Calls Tryz.prog 34 #[.slice A n c, .slice B m d0] w fun e w' => DivGives w x y e w' := by
 obtain ⟨hL, hxL⟩ := dg_bits h
 have hcap := h.cap
 have hmax := h.max
 go_enter Tryz.func34, Tryz.ntmps34
 go_wp2_with fail
 refine (rbits_any h (by omega)).mono ?_
 rintro e w' ⟨rfl, rfl⟩
 generalize blen x = L at *
 have HXL := Lib.hid hxL
 clear hxL
 go_wp2_with (at_make; refine law_makeD rfl (.tmp 13) rfl _ n rfl (by omega) (by omega) ?_; intro w1 hown1 hgrow1)
 have hb1 := below_none hgrow1
 go_loopg [8, 9] L (fun g v8 v9 wr => ∃ j : Nat, ∃ qs : List Nat, ∃ A8 n8 c8, j = g ∧ j ≤ 16 * n ∧ v9 = .int .i64 ((j : Int) - 1) ∧ v8 = .slice A8 n8 c8 ∧ Dg wr A8 n8 c8 (x / 2 ^ j % y) ∧ Own w.heap.size wr 59 .u32 (.slice (some ⟨w.heap.size, 0, none⟩) n n) qs ∧ qs.length = n ∧ Lt H qs ∧ val H qs = x / 2 ^ j / y * 2 ^ j ∧ Below w.heap.size w wr)
 case atStart => exact ⟨L, _, none, 0, 0, rfl, hL, by first | rfl | go_num, rfl, by rw [Nat.div_eq_of_lt HXL.out, Nat.zero_mod]; exact dg_nil _, hown1, by simp, Lt.replicate _ (by rw [H_eq]; omega), by rw [Nat.div_eq_of_lt HXL.out, Nat.zero_div, Nat.zero_mul, val_replicate], hb1⟩
 case round =>
  obtain ⟨j, qs, A8, n8, c8, rfl, hj, hv9, rfl, hr, hown, hlen, hltq, hval, hbw⟩ := hrel
  have HL := Lib.hid hlen
  have HV := Lib.hid hval
  clear hlen hval
  by_cases h0 : j = 0
  ·subst h0
   obtain rfl : _ = Value.int .i64 (-1) := hv9
   obtain ⟨A2, c2, he, hrd⟩ := hown.rd hltq
   have hD := rd_rtrim hrd
   rw [HV.out, Nat.pow_zero, Nat.mul_one, Nat.div_one] at hD
   rw [Nat.pow_zero, Nat.div_one] at hr
   have HVV : Hid ((dig H (val H qs)).length = (dig H (x / y)).length) := by rw [HV.out, Nat.pow_zero, Nat.mul_one, Nat.div_one]; exact Lib.hid rfl
   injection he with he1 he2 he3
   subst he1 he3
   rw [HL.out] at hrd
   have HDD := Lib.hid hD
   clear hD hown he2 hj
   go_wp2_with fail
   refine (rtrim_any hrd).mono ?_
   rintro e w' ⟨rfl, rfl⟩
   rw [HVV.out]
   go_wp2
   go_ret2
   exact ⟨_, _, _, _, _, _, rfl, HDD.out, hr, hbw⟩
  ·obtain ⟨k, rfl⟩ : ∃ k, j = k + 1 := ⟨j - 1, by omega⟩
   obtain rfl : _ = Value.int .i64 (k : Int) := hv9.trans (by congr 1; omega)
   clear hv9 h0
   obtain ⟨qi, hqi⟩ : ∃ qi, qi = k / 16 := ⟨_, rfl⟩
   obtain ⟨ri, hri⟩ : ∃ ri, ri = k % 16 := ⟨_, rfl⟩
   have e1 : (k : Int) / 16 = (qi : Int) := by omega
   have e2 : (k : Int) % 16 = (ri : Int) := by omega
   have hk16 : k = 16 * qi + ri := by omega
   have hr16 : ri < 16 := by omega
   have hqn : qi < n := by omega
   have HK := Lib.hid hk16
   have hxw := h.below hbw
   have hyw := h'.below hbw
   have hn8 := dg_len hr hyw (by have := Nat.mod_lt (x / 2 ^ (k + 1)) hy; omega)
   obtain ⟨bt, hbt⟩ : ∃ bt, bt = x / 2 ^ k % 2 := ⟨_, rfl⟩
   have hb2 : bt < 2 := by omega
   have HB := Lib.hid hbt
   clear hqi hri hk16 hbt
   have hS := step_bits (x := x) (k := k)
   rw [← HB.out] at hS
   have HS := Lib.hid hS
   clear hS
   generalize hX : x / 2 ^ (k + 1) = X at *
   have HX := Lib.hid hX
   clear hX
   go_wp2_with fail
   refine (rshl_any hr (s := 1) (by omega) (by omega)).mono ?_
   rintro e w2 ⟨A2, n2, c2, rfl, hr2, b⟩
   replace hxw := hxw.below b
   replace hyw := hyw.below b
   replace hown := hown.below b
   replace hbw := hbw.trans (b.mono hbw.size)
   clear b hr
   have hn2 := dg_len hr2 hyw (by have := Nat.mod_lt X hy; omega)
   go_wp2_with fail
   refine (rbit_any (i := k) hxw (by omega)).mono ?_
   rintro e w' ⟨rfl, rfl⟩
   rw [← HB.out]
   by_cases h1 : bt = 1
   ·subst h1
    go_wp2_with fail
    have hb3 := below_alloc w2 (.cells #[.int .u32 1] 59)
    replace hr2 := Dg.below hr2 hb3
    replace hxw := Dg.below hxw hb3
    replace hyw := Dg.below hyw hb3
    replace hown := hown.below hb3
    replace hbw := hbw.trans (hb3.mono hbw.size)
    have h1g := dg_one w2
    clear hb3
    refine (radd_any hr2 h1g (by omega) (by omega)).mono ?_
    rintro e w3 ⟨A3, n3, c3, rfl, hr3, b⟩
    replace hxw := hxw.below b
    replace hyw := hyw.below b
    replace hown := hown.below b
    replace hbw := hbw.trans (b.mono hbw.size)
    clear b hr2 h1g
    obtain ⟨R2, hR2⟩ : ∃ R2, R2 = 2 * (X % y) + 1 := ⟨_, rfl⟩
    have hrr : Dg w3 A3 n3 c3 R2 := by rw [hR2]; rw [Nat.pow_one, Nat.mul_comm] at hr3; exact hr3
    have hS := step_div (X := X) hy (show 1 < 2 by omega) hR2
    have hR3 : R2 < 2 * y := by have := Nat.mod_lt X hy; omega
    have HSS := Lib.hid hS
    clear hS hr3 hR2
    have hn3 := dg_len hrr hyw hR3
    go_wp2_with fail
    refine (rcmp_any hrr hyw).mono ?_
    rintro e w4 ⟨rfl, b⟩
    replace hrr := hrr.below b
    replace hxw := hxw.below b
    replace hyw := hyw.below b
    replace hown := hown.below b
    replace hbw := hbw.trans (b.mono hbw.size)
    clear b
    obtain ⟨t, ht⟩ : ∃ t, t = cmpN R2 y := ⟨_, rfl⟩
    obtain ⟨_, s2, s3, s4⟩ := cmp_swap R2 y
    rw [← ht] at s2 s3 s4 ⊢
    clear ht
    by_cases hge : y ≤ R2
    ·have ht0 : 0 ≤ t := by omega
     have dt : decide (0 ≤ t) = true := decide_eq_true ht0
     have HR := Lib.hid (HSS.out.2 hge)
     clear s4
     go_wp2_with fail
     have hgs : w.heap.size < w4.heap.size := hown.blk hqn HL.out
     refine (rsub_fresh hrr hyw (by omega) hge).mono ?_
     rintro e w5 ⟨A5, n5, c5, rfl, _, hel, b⟩
     have HEL := Lib.hid (fun u => hel w.heap.size qi u hgs)
     clear hel hgs
     replace hown := hown.below b
     replace hbw := hbw.trans (b.mono hbw.size)
     clear b hge
     obtain ⟨z, hz⟩ : ∃ z, z = qs.getD qi 0 + 2 ^ ri := ⟨_, rfl⟩
     have hQ := quot_bit HK.out hr16 HV.out hltq (by rw [HL.out]; exact hqn) hz
     obtain ⟨hg1, hce, hfz, hst⟩ := hown.at0 (j := qi) (by rw [HL.out]; exact hqn)
     obtain ⟨hQ1, hQ2, hQ3, hQ4⟩ := hQ
     rw [H_eq] at hQ2
     generalize qs.getD qi 0 = d at *
     have hOr := or_new hQ1 (by omega)
     rw [← hz] at hOr
     obtain ⟨hO1, hO2⟩ := hOr
     have HSV := Lib.hid (hst z)
     have HQ3 := Lib.hid hQ3
     have HQ4 := Lib.hid hQ4
     have hdB : d < 65536 := by omega
     clear hz hst hQ1 hQ3 hQ4 hQ2 hltq hrr hxw hyw
     go_wp2
     go_roundg k
     case measure => omega
     case rel =>
      refine ⟨k, _, A5, n5, c5, rfl, by omega, by first | rfl | go_num, rfl, ?_, HSV.out, by rw [List.length_set]; exact HL.out, HQ3.out, ?_, hbw.setCell hg1 _⟩
      ·rw [HS.out, HR.out.2]; exact HEL.out _
      ·rw [HQ4.out, HS.out, HR.out.1]
    ·have ht0 : t < 0 := by omega
     have dt : decide (0 ≤ t) = false := decide_eq_false (by omega)
     have HR := Lib.hid (HSS.out.1 (by omega))
     clear s4 hge
     go_wp2
     go_roundg k
     case measure => omega
     case rel =>
      refine ⟨k, qs, A3, n3, c3, rfl, by omega, by first | rfl | go_num, rfl, ?_, hown, HL.out, hltq, ?_, hbw⟩
      ·rw [HS.out, HR.out.2]; exact hrr
      ·rw [HV.out, HS.out, HR.out.1, Nat.pow_succ]; ac_rfl
   ·obtain rfl : bt = 0 := by omega
    obtain ⟨w3, rfl⟩ : ∃ w3, w3 = w2 := ⟨_, rfl⟩
    obtain ⟨A3, rfl⟩ : ∃ A3, A3 = A2 := ⟨_, rfl⟩
    obtain ⟨n3, rfl⟩ : ∃ n3, n3 = n2 := ⟨_, rfl⟩
    obtain ⟨c3, rfl⟩ : ∃ c3, c3 = c2 := ⟨_, rfl⟩
    have hr3 := hr2
    clear hr2 h1
    obtain ⟨R2, hR2⟩ : ∃ R2, R2 = 2 * (X % y) + 0 := ⟨_, rfl⟩
    have hrr : Dg w3 A3 n3 c3 R2 := by rw [hR2]; rw [Nat.pow_one, Nat.mul_comm] at hr3; exact hr3
    have hS := step_div (X := X) hy (show 0 < 2 by omega) hR2
    have hR3 : R2 < 2 * y := by have := Nat.mod_lt X hy; omega
    have HSS := Lib.hid hS
    clear hS hr3 hR2
    have hn3 := dg_len hrr hyw hR3
    go_wp2_with fail
    refine (rcmp_any hrr hyw).mono ?_
    rintro e w4 ⟨rfl, b⟩
    replace hrr := hrr.below b
    replace hxw := hxw.below b
    replace hyw := hyw.below b
    replace hown := hown.below b
    replace hbw := hbw.trans (b.mono hbw.size)
    clear b
    obtain ⟨t, ht⟩ : ∃ t, t = cmpN R2 y := ⟨_, rfl⟩
    obtain ⟨_, s2, s3, s4⟩ := cmp_swap R2 y
    rw [← ht] at s2 s3 s4 ⊢
    clear ht
    by_cases hge : y ≤ R2
    ·have ht0 : 0 ≤ t := by omega
     have dt : decide (0 ≤ t) = true := decide_eq_true ht0
     have HR := Lib.hid (HSS.out.2 hge)
     clear s4
     go_wp2_with fail
     have hgs : w.heap.size < w4.heap.size := hown.blk hqn HL.out
     refine (rsub_fresh hrr hyw (by omega) hge).mono ?_
     rintro e w5 ⟨A5, n5, c5, rfl, _, hel, b⟩
     have HEL := Lib.hid (fun u => hel w.heap.size qi u hgs)
     clear hel hgs
     replace hown := hown.below b
     replace hbw := hbw.trans (b.mono hbw.size)
     clear b hge
     obtain ⟨z, hz⟩ : ∃ z, z = qs.getD qi 0 + 2 ^ ri := ⟨_, rfl⟩
     have hQ := quot_bit HK.out hr16 HV.out hltq (by rw [HL.out]; exact hqn) hz
     obtain ⟨hg1, hce, hfz, hst⟩ := hown.at0 (j := qi) (by rw [HL.out]; exact hqn)
     obtain ⟨hQ1, hQ2, hQ3, hQ4⟩ := hQ
     rw [H_eq] at hQ2
     generalize qs.getD qi 0 = d at *
     have hOr := or_new hQ1 (by omega)
     rw [← hz] at hOr
     obtain ⟨hO1, hO2⟩ := hOr
     have HSV := Lib.hid (hst z)
     have HQ3 := Lib.hid hQ3
     have HQ4 := Lib.hid hQ4
     have hdB : d < 65536 := by omega
     clear hz hst hQ1 hQ3 hQ4 hQ2 hltq hrr hxw hyw
     go_wp2
     go_roundg k
     case measure => omega
     case rel =>
      refine ⟨k, _, A5, n5, c5, rfl, by omega, by first | rfl | go_num, rfl, ?_, HSV.out, by rw [List.length_set]; exact HL.out, HQ3.out, ?_, hbw.setCell hg1 _⟩
      ·rw [HS.out, HR.out.2]; exact HEL.out _
      ·rw [HQ4.out, HS.out, HR.out.1]
    ·have ht0 : t < 0 := by omega
     have dt : decide (0 ≤ t) = false := decide_eq_false (by omega)
     have HR := Lib.hid (HSS.out.1 (by omega))
     clear s4 hge
     go_wp2
     go_roundg k
     case measure => omega
     case rel =>
      refine ⟨k, qs, A3, n3, c3, rfl, by omega, by first | rfl | go_num, rfl, ?_, hown, HL.out, hltq, ?_, hbw⟩
      ·rw [HS.out, HR.out.2]; exact hrr
      ·rw [HV.out, HS.out, HR.out.1, Nat.pow_succ]; ac_rfl
end Go.Proofs.YtdhdebapjlcjdaaGreatDoor

namespace Go.Proofs.YtdhdebapjlcjdaaGreatDoor
open Go.RowKit

end Go.Proofs.YtdhdebapjlcjdaaGreatDoor
