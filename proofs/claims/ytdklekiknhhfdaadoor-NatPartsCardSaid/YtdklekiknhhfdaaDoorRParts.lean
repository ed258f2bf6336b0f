/-
  Contract of the statement NatParts' function at this translation: it returns true, whatever its arguments. Condition: the slices read as limbs, the table of math/bits reads as its text lays it.
-/
import Derived.Test.YtdklekiknhhfdaaDoorRRoot
import Derived.Test.YtdklekiknhhfdaaDoorRoot
namespace Go.Proofs.YtdklekiknhhfdaaDoor
open Go.RowKit

theorem div_no1 {w : World} {A B : Option Addr} {n c m d : Nat} {l : List Nat} (h : Rd w .u64 W A n c l) (hb : mayB l = false) :
    Calls Tryd.prog 30 #[.slice A n c, .slice B m d] w fun e w' => e = .returned (.tuple #[.slice none 0 0, .slice none 0 0, .int .i64 1]) ∧ w = w' := by
  go_enter Tryd.func30, Tryd.ntmps30
  go_wp2_with fail
  refine (may_no h hb).mono ?_
  rintro e w' ⟨rfl, rfl⟩
  go_wp2
  go_ret3
  exact ⟨rfl, rfl⟩
theorem div_no2 {w : World} {A B : Option Addr} {n c m d : Nat} {l r : List Nat} (h : Rd w .u64 W A n c l) (hb : mayB l = true) (h' : Rd w .u64 W B m d r) (hb' : mayB r = false) :
    Calls Tryd.prog 30 #[.slice A n c, .slice B m d] w fun e w' => e = .returned (.tuple #[.slice none 0 0, .slice none 0 0, .int .i64 1]) ∧ w = w' := by
  go_enter Tryd.func30, Tryd.ntmps30
  go_wp2_with fail
  refine (may_yes h hb).mono ?_
  rintro e w' ⟨rfl, rfl⟩
  go_wp2_with fail
  refine (may_no h' hb').mono ?_
  rintro e w' ⟨rfl, rfl⟩
  go_wp2
  go_ret3
  exact ⟨rfl, rfl⟩
theorem root_no {w : World} {A : Option Addr} {n c : Nat} {l : List Nat} (h : Rd w .u64 W A n c l) (hb : mayB l = false) :
    Calls Tryd.prog 31 #[.slice A n c] w fun e w' => e = .returned (.tuple #[.slice none 0 0, .int .i64 1]) ∧ w = w' := by
  go_enter Tryd.func31, Tryd.ntmps31
  go_wp2_with fail
  refine (may_no h hb).mono ?_
  rintro e w' ⟨rfl, rfl⟩
  go_wp2
  go_ret2
  exact ⟨rfl, rfl⟩
theorem dg_div {w : World} {A : Option Addr} {n c x y m : Nat} (h : Dg w A n c y) (hxy : y ≤ x) (hx : x < H ^ m) : n ≤ m := dg_small h (Nat.lt_of_le_of_lt hxy hx)

set_option maxRecDepth 100000 in
set_option maxHeartbeats 4000000 in
theorem parts_out1 {w : World} {A B : Option Addr} {n c m d : Nat} {l r : List Nat} (hT : Tab w) (h : Rd w .u64 W A n c l) (_h' : Rd w .u64 W B m d r) (hn : 20 < n) :
    Calls Tryd.prog 4 #[.slice A n c, .slice B m d] w fun e w' => ToldEnd w e w' := by
  have hmax := h.max
  have hcap := h.cap
  have d1 : decide ((20 : Int) < (n : Int)) = true := decide_eq_true (by omega)
  go_enter Tryd.func4, Tryd.ntmps4
  go_wp2_with fail
  refine (told_any hT).mono ?_
  rintro e w1 ⟨rfl, b⟩
  have BB := b
  clear b
  go_wp2
  go_ret
  exact ⟨rfl, BB⟩

set_option maxRecDepth 100000 in
set_option maxHeartbeats 4000000 in
theorem parts_out2 {w : World} {A B : Option Addr} {n c m d : Nat} {l r : List Nat} (hT : Tab w) (h : Rd w .u64 W A n c l) (h' : Rd w .u64 W B m d r) (hn : n ≤ 20) (hm : 20 < m) :
    Calls Tryd.prog 4 #[.slice A n c, .slice B m d] w fun e w' => ToldEnd w e w' := by
  have hmax := h'.max
  have hcap := h'.cap
  have hmax1 := h.max
  have hcap1 := h.cap
  have d1 : decide ((20 : Int) < (n : Int)) = false := decide_eq_false (by omega)
  have d2 : decide ((20 : Int) < (m : Int)) = true := decide_eq_true (by omega)
  go_enter Tryd.func4, Tryd.ntmps4
  go_wp2_with fail
  refine (told_any hT).mono ?_
  rintro e w1 ⟨rfl, b⟩
  have BB := b
  clear b
  go_wp2
  go_ret
  exact ⟨rfl, BB⟩

set_option maxRecDepth 100000 in
set_option maxHeartbeats 4000000 in
theorem parts_bad1 {w : World} {A B : Option Addr} {n c m d : Nat} {l r : List Nat} (hT : Tab w) (h : Rd w .u64 W A n c l) (h' : Rd w .u64 W B m d r) (hn : n ≤ 20) (hm : m ≤ 20) (hl : mayB l = false) :
    Calls Tryd.prog 4 #[.slice A n c, .slice B m d] w fun e w' => ToldEnd w e w' := by
  have hmax := h.max
  have hcap := h.cap
  have hmax' := h'.max
  have hcap' := h'.cap
  have d1 : decide ((20 : Int) < (n : Int)) = false := decide_eq_false (by omega)
  have d2 : decide ((20 : Int) < (m : Int)) = false := decide_eq_false (by omega)
  go_enter Tryd.func4, Tryd.ntmps4
  go_wp2_with fail
  refine (div_no1 h hl).mono ?_
  rintro e w' ⟨rfl, rfl⟩
  go_wp2_with fail
  refine (root_no h hl).mono ?_
  rintro e w' ⟨rfl, rfl⟩
  go_wp2_with fail
  refine (rmay_any h).mono ?_
  rintro e w' ⟨rfl, rfl⟩
  rw [hl]
  go_wp2_with fail
  refine (told_any hT).mono ?_
  rintro e w1 ⟨rfl, b⟩
  replace h := h.below b
  replace h' := h'.below b
  replace hT := hT.below b
  have BB := b
  clear b
  go_wp2_with fail
  refine (rmay_any h).mono ?_
  rintro e w' ⟨rfl, rfl⟩
  rw [hl]
  go_wp2
  go_ret
  exact ⟨rfl, BB⟩

set_option maxRecDepth 100000 in
set_option maxHeartbeats 4000000 in
theorem parts_bad2 {w : World} {A B : Option Addr} {n c m d : Nat} {l r : List Nat} (hT : Tab w) (h : Rd w .u64 W A n c l) (h' : Rd w .u64 W B m d r) (hn : n ≤ 20) (hm : m ≤ 20) (hl : mayB l = true) (hr : mayB r = false) :
    Calls Tryd.prog 4 #[.slice A n c, .slice B m d] w fun e w' => ToldEnd w e w' := by
  have hmax := h.max
  have hcap := h.cap
  have hmax' := h'.max
  have hcap' := h'.cap
  have d1 : decide ((20 : Int) < (n : Int)) = false := decide_eq_false (by omega)
  have d2 : decide ((20 : Int) < (m : Int)) = false := decide_eq_false (by omega)
  have N := (nt_of h hl).1
  go_enter Tryd.func4, Tryd.ntmps4
  go_wp2_with fail
  refine (div_no2 h hl h' hr).mono ?_
  rintro e w' ⟨rfl, rfl⟩
  go_wp2_with fail
  refine (root_ok N).mono ?_
  rintro e w1 ⟨s, hs1, hs2, A1, n1, c1, rfl, _, b⟩
  replace h := h.below b
  replace h' := h'.below b
  replace hT := hT.below b
  have BB := b
  clear b
  clear hs1 hs2
  go_wp2_with fail
  refine (rmay_any h).mono ?_
  rintro e w' ⟨rfl, rfl⟩
  rw [hl]
  go_wp2_with fail
  refine (rmay_any h').mono ?_
  rintro e w' ⟨rfl, rfl⟩
  rw [hr]
  go_wp2_with fail
  refine (told_any hT).mono ?_
  rintro e w2 ⟨rfl, b⟩
  replace h := h.below b
  replace h' := h'.below b
  replace hT := hT.below b
  replace BB := BB.trans (b.mono BB.size)
  clear b
  go_wp2_with fail
  refine (rmay_any h).mono ?_
  rintro e w' ⟨rfl, rfl⟩
  rw [hl]
  go_wp2
  go_ret
  exact ⟨rfl, BB⟩

set_option maxRecDepth 100000 in
set_option maxHeartbeats 4000000 in
theorem parts_zero {w : World} {A B : Option Addr} {n c m d : Nat} {l r : List Nat} (hT : Tab w) (h : Rd w .u64 W A n c l) (h' : Rd w .u64 W B m d r) (hn : n ≤ 20) (hm : m ≤ 20) (hl : mayB l = true) (hr : mayB r = true) (h0 : m = 0) :
    Calls Tryd.prog 4 #[.slice A n c, .slice B m d] w fun e w' => ToldEnd w e w' := by
  have hmax := h.max
  have hcap := h.cap
  have hmax' := h'.max
  have hcap' := h'.cap
  have d1 : decide ((20 : Int) < (n : Int)) = false := decide_eq_false (by omega)
  have d2 : decide ((20 : Int) < (m : Int)) = false := decide_eq_false (by omega)
  have hln := h.len
  have hrn := h'.len
  have N := (nt_of h hl).1
  have N' := (nt_of h' hr).1
  have HY := Lib.hid (N'.zero.1 h0)
  have N0 : Nt w B 0 d 0 := by
    have := N'
    rw [HY.out] at this
    rwa [h0] at this
  have HM := Lib.hid h0
  clear h0
  go_enter Tryd.func4, Tryd.ntmps4
  go_wp2_with fail
  obtain rfl := HM.out
  refine (div_zero N N0).mono ?_
  rintro e w' ⟨rfl, rfl⟩
  go_wp2_with fail
  refine (root_ok N).mono ?_
  rintro e w1 ⟨s, hs1, hs2, A3, n3, c3, rfl, hs, b⟩
  replace h := h.below b
  replace h' := h'.below b
  replace N := N.below b
  replace hT := hT.below b
  have BB := b
  clear b
  have HS1 := Lib.hid hs1
  have HS2 := Lib.hid hs2
  clear hs1 hs2
  go_wp2_with fail
  refine (rmay_any h).mono ?_
  rintro e w' ⟨rfl, rfl⟩
  rw [hl]
  go_wp2_with fail
  refine (rmay_any h').mono ?_
  rintro e w' ⟨rfl, rfl⟩
  rw [hr]
  go_wp2_with fail
  refine (rfrom_any h (by omega)).mono ?_
  rintro e w2 ⟨A4, n4, c4, rfl, hx, b⟩
  replace h := h.below b
  replace h' := h'.below b
  replace N := N.below b
  replace hT := hT.below b
  replace hs := hs.below b
  replace BB := BB.trans (b.mono BB.size)
  clear b
  have hn4 := from_small h.lt (by omega) hx
  go_wp2_with fail
  refine (rfrom_any h' (by omega)).mono ?_
  rintro e w3 ⟨A5, n5, c5, rfl, hy, b⟩
  replace h := h.below b
  replace h' := h'.below b
  replace N := N.below b
  replace hT := hT.below b
  replace hs := hs.below b
  replace hx := hx.below b
  replace BB := BB.trans (b.mono BB.size)
  clear b
  have hn5 := from_small h'.lt (by omega) hy
  go_wp2_with fail
  refine (rroot_any hx (by omega) HS1.out HS2.out).mono ?_
  rintro e w4 ⟨A6, n6, c6, rfl, hz, b⟩
  replace h := h.below b
  replace h' := h'.below b
  replace N := N.below b
  replace hT := hT.below b
  replace hs := hs.below b
  replace hx := hx.below b
  replace hy := hy.below b
  replace BB := BB.trans (b.mono BB.size)
  clear b
  have hxn := (len_dig H_two (val W l) n4).1 (Nat.le_of_eq (Rd.len hx))
  have HXN := Lib.hid hxn
  clear hxn
  have hn6 := dg_small hz (root_size HXN.out HS1.out (i := 0) (by omega)).1
  have h5 : n5 = 0 := by rw [← Rd.len hy, HY.out, dig_zero]; rfl
  have d5 : ((n5 : Int) == 0) = true := by simp [h5]
  clear h5
  go_wp2_with fail
  refine (is_yes hs hz (by omega)).mono ?_
  rintro e w5 ⟨rfl, b⟩
  clear hs hz
  replace h := h.below b
  replace h' := h'.below b
  replace N := N.below b
  replace hT := hT.below b
  replace hx := hx.below b
  replace hy := hy.below b
  replace BB := BB.trans (b.mono BB.size)
  clear b
  go_wp2_with fail
  refine (told_any hT).mono ?_
  rintro e w6 ⟨rfl, b⟩
  replace h := h.below b
  replace h' := h'.below b
  replace N := N.below b
  replace hT := hT.below b
  replace hx := hx.below b
  replace hy := hy.below b
  replace BB := BB.trans (b.mono BB.size)
  clear b
  go_wp2
  go_ret
  exact ⟨rfl, BB⟩

set_option maxRecDepth 100000 in
set_option maxHeartbeats 4000000 in
theorem parts_more {w : World} {A B : Option Addr} {n c m d : Nat} {l r : List Nat} (hT : Tab w) (h : Rd w .u64 W A n c l) (h' : Rd w .u64 W B m d r) (hn : n ≤ 20) (hm : m ≤ 20) (hl : mayB l = true) (hr : mayB r = true) (h0 : m ≠ 0) :
    Calls Tryd.prog 4 #[.slice A n c, .slice B m d] w fun e w' => ToldEnd w e w' := by
  have hmax := h.max
  have hcap := h.cap
  have hmax' := h'.max
  have hcap' := h'.cap
  have d1 : decide ((20 : Int) < (n : Int)) = false := decide_eq_false (by omega)
  have d2 : decide ((20 : Int) < (m : Int)) = false := decide_eq_false (by omega)
  have hln := h.len
  have hrn := h'.len
  have N := (nt_of h hl).1
  have N' := (nt_of h' hr).1
  have HY := Lib.hid (show val W r ≠ 0 from fun e => h0 (N'.zero.2 e))
  clear h0
  go_enter Tryd.func4, Tryd.ntmps4
  go_wp2_with fail
  refine (div_ok N N' HY.out).mono ?_
  rintro e w1 ⟨A1, n1, c1, A2, n2, c2, rfl, hq, hr1, b⟩
  replace h := h.below b
  replace h' := h'.below b
  replace N := N.below b
  replace N' := N'.below b
  replace hT := hT.below b
  have BB := b
  clear b
  go_wp2_with fail
  refine (root_ok N).mono ?_
  rintro e w2 ⟨s, hs1, hs2, A3, n3, c3, rfl, hs, b⟩
  replace h := h.below b
  replace h' := h'.below b
  replace N := N.below b
  replace N' := N'.below b
  replace hT := hT.below b
  replace hq := hq.below b
  replace hr1 := hr1.below b
  replace BB := BB.trans (b.mono BB.size)
  clear b
  have HS1 := Lib.hid hs1
  have HS2 := Lib.hid hs2
  clear hs1 hs2
  go_wp2_with fail
  refine (rmay_any h).mono ?_
  rintro e w' ⟨rfl, rfl⟩
  rw [hl]
  go_wp2_with fail
  refine (rmay_any h').mono ?_
  rintro e w' ⟨rfl, rfl⟩
  rw [hr]
  go_wp2_with fail
  refine (rfrom_any h (by omega)).mono ?_
  rintro e w3 ⟨A4, n4, c4, rfl, hx, b⟩
  replace h := h.below b
  replace h' := h'.below b
  replace N := N.below b
  replace N' := N'.below b
  replace hT := hT.below b
  replace hq := hq.below b
  replace hr1 := hr1.below b
  replace hs := hs.below b
  replace BB := BB.trans (b.mono BB.size)
  clear b
  have hn4 := from_small h.lt (by omega) hx
  go_wp2_with fail
  refine (rfrom_any h' (by omega)).mono ?_
  rintro e w4 ⟨A5, n5, c5, rfl, hy, b⟩
  replace h := h.below b
  replace h' := h'.below b
  replace N := N.below b
  replace N' := N'.below b
  replace hT := hT.below b
  replace hq := hq.below b
  replace hr1 := hr1.below b
  replace hs := hs.below b
  replace hx := hx.below b
  replace BB := BB.trans (b.mono BB.size)
  clear b
  have hn5 := from_small h'.lt (by omega) hy
  go_wp2_with fail
  refine (rroot_any hx (by omega) HS1.out HS2.out).mono ?_
  rintro e w5 ⟨A6, n6, c6, rfl, hz, b⟩
  replace h := h.below b
  replace h' := h'.below b
  replace N := N.below b
  replace N' := N'.below b
  replace hT := hT.below b
  replace hq := hq.below b
  replace hr1 := hr1.below b
  replace hs := hs.below b
  replace hx := hx.below b
  replace hy := hy.below b
  replace BB := BB.trans (b.mono BB.size)
  clear b
  have hxn := (len_dig H_two (val W l) n4).1 (Nat.le_of_eq (Rd.len hx))
  have HXN := Lib.hid hxn
  clear hxn
  have hn6 := dg_small hz (root_size HXN.out HS1.out (i := 0) (by omega)).1
  have h5 : n5 ≠ 0 := by rw [← Rd.len hy, ne_eq, dig_len_zero H_two]; exact HY.out
  have d5 : ((n5 : Int) == 0) = false := by simp [h5]
  clear h5
  go_wp2_with fail
  refine (is_yes hs hz (by omega)).mono ?_
  rintro e w6 ⟨rfl, b⟩
  clear hs hz
  replace h := h.below b
  replace h' := h'.below b
  replace N := N.below b
  replace N' := N'.below b
  replace hT := hT.below b
  replace hq := hq.below b
  replace hr1 := hr1.below b
  replace hx := hx.below b
  replace hy := hy.below b
  replace BB := BB.trans (b.mono BB.size)
  clear b
  go_wp2_with fail
  refine (rdiv_any hx hy (by omega) (by omega) (Nat.pos_of_ne_zero HY.out)).mono ?_
  rintro e w7 ⟨A7, n7, c7, A8, n8, c8, rfl, hu, hv, b⟩
  replace h := h.below b
  replace h' := h'.below b
  replace N := N.below b
  replace N' := N'.below b
  replace hT := hT.below b
  replace hq := hq.below b
  replace hr1 := hr1.below b
  replace hx := hx.below b
  replace hy := hy.below b
  replace BB := BB.trans (b.mono BB.size)
  clear b
  have hn7 := dg_div hu (Nat.div_le_self _ _) HXN.out
  have hn8 := dg_div hv (Nat.mod_le _ _) HXN.out
  go_wp2_with fail
  refine (told_any hT).mono ?_
  rintro e w8 ⟨rfl, b⟩
  replace h := h.below b
  replace h' := h'.below b
  replace N := N.below b
  replace N' := N'.below b
  replace hT := hT.below b
  replace hq := hq.below b
  replace hr1 := hr1.below b
  replace hx := hx.below b
  replace hy := hy.below b
  replace hu := hu.below b
  replace hv := hv.below b
  replace BB := BB.trans (b.mono BB.size)
  clear b
  go_wp2_with fail
  refine (is_yes hq hu (by omega)).mono ?_
  rintro e w9 ⟨rfl, b⟩
  clear hq hu
  replace h := h.below b
  replace h' := h'.below b
  replace N := N.below b
  replace N' := N'.below b
  replace hT := hT.below b
  replace hr1 := hr1.below b
  replace hx := hx.below b
  replace hy := hy.below b
  replace hv := hv.below b
  replace BB := BB.trans (b.mono BB.size)
  clear b
  go_wp2_with fail
  refine (is_yes hr1 hv (by omega)).mono ?_
  rintro e w10 ⟨rfl, b⟩
  clear hr1 hv
  replace h := h.below b
  replace h' := h'.below b
  replace N := N.below b
  replace N' := N'.below b
  replace hT := hT.below b
  replace hx := hx.below b
  replace hy := hy.below b
  replace BB := BB.trans (b.mono BB.size)
  clear b
  go_wp2
  go_ret
  exact ⟨rfl, BB⟩

theorem parts_any {w : World} {A B : Option Addr} {n c m d : Nat} {l r : List Nat} (hT : Tab w) (h : Rd w .u64 W A n c l) (h' : Rd w .u64 W B m d r) :
    Calls Tryd.prog 4 #[.slice A n c, .slice B m d] w fun e w' => ToldEnd w e w' := by
  by_cases hn : n ≤ 20
  · by_cases hm : m ≤ 20
    · cases hl : mayB l
      · exact parts_bad1 hT h h' hn hm hl
      · cases hr : mayB r
        · exact parts_bad2 hT h h' hn hm hl hr
        · by_cases h0 : m = 0
          · exact parts_zero hT h h' hn hm hl hr h0
          · exact parts_more hT h h' hn hm hl hr h0
    · exact parts_out2 hT h h' hn (by omega)
  · exact parts_out1 hT h h' (by omega)
end Go.Proofs.YtdklekiknhhfdaaDoor
