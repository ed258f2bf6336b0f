/-
 Contract of the reference's Mul at this translation. Condition: the slices read as digits of sixteen bits, at most ten thousand.
-/
import Derived.Test.YtldbafifgkobcaaGreatDoorQRBits
import Derived.Test.YtldbafifgkobcaaGreatDoorQRApi
set_option maxHeartbeats 1000000
set_option maxRecDepth 512
namespace Go.Proofs.YtldbafifgkobcaaGreatDoor
open Go.RowKit

theorem rcmp_any {w : World} {A B : Option Addr} {n c m d x0 y0 : Nat} (h : Dg w A n c x0) (h' : Dg w B m d y0) :
  Calls Tryz.prog 106 #[.slice A n c, .slice B m d] w fun e w' => e = .returned (.int .i64 (cmpN x0 y0)) ∧ Below w.heap.size w w' := by
 have hcap := h.cap
 have hmax := h.max
 have hcap' := h'.cap
 have hmax' := h'.max
 obtain ⟨t, ht⟩ : ∃ t, t = cmpN x0 y0 := ⟨_, rfl⟩
 rw [← ht]
 have HT := Lib.hid ht
 obtain ⟨l, hl⟩ : ∃ l, l = dig H x0 := ⟨_, rfl⟩
 obtain ⟨r, hr⟩ : ∃ r, r = dig H y0 := ⟨_, rfl⟩
 have hlc : Can H l := by rw [hl]; exact can_dig H_two _
 have hrc : Can H r := by rw [hr]; exact can_dig H_two _
 have hvl : val H l = x0 := by rw [hl]; exact val_dig H_two _
 have hvr : val H r = y0 := by rw [hr]; exact val_dig H_two _
 have h : Rd w .u32 H A n c l := by rw [hl]; exact h
 have h' : Rd w .u32 H B m d r := by rw [hr]; exact h'
 rw [← hvl, ← hvr] at ht
 have HT := Lib.hid ht
 clear ht hl hr hvl hvr
 by_cases hnm : n = m
 ·subst hnm
  have b0 : ((n : Int) != n) = false := by simp
  go_enter Tryz.func106, Tryz.ntmps106
  go_wp2
  go_loopg [5] n (fun g v wr => ∃ k : Nat, k ≤ g ∧ k ≤ n ∧ v = .int .i64 ((k : Int) - 1) ∧ SameFrom l r k ∧ Below w.heap.size w wr)
  case atStart => exact ⟨n, Nat.le_refl _, Nat.le_refl _, rfl, by unfold SameFrom; rw [List.drop_of_length_le (by rw [h.len]; omega), List.drop_of_length_le (by rw [h'.len]; omega)], Below.refl _ _⟩
  case round =>
   obtain ⟨k, hg, hk, rfl, hs, hb⟩ := hrel
   by_cases h0 : k = 0
   ·subst h0
    have e : t = 0 := by
     rw [HT.out, cmpN_eq]
     unfold SameFrom at hs
     rw [List.drop_zero, List.drop_zero] at hs
     rw [hs]
    subst e
    go_wp2
    go_ret
    exact ⟨rfl, hb⟩
   ·obtain ⟨a, o, rfl, ha, hc⟩ := (h.below hb).at_ (by omega)
    obtain ⟨a', o', rfl, ha', hc'⟩ := (h'.below hb).at_ (by omega)
    obtain ⟨x, hx⟩ : ∃ x, x = l.getD (k - 1) 0 := ⟨_, rfl⟩
    obtain ⟨y, hy⟩ : ∃ y, y = r.getD (k - 1) 0 := ⟨_, rfl⟩
    have hcell : wr.cell? ⟨a, o + (k - 1), none⟩ = some (.int .u32 (x : Int)) := by rw [hx]; exact hc (k - 1) (by omega)
    have hcell' : wr.cell? ⟨a', o' + (k - 1), none⟩ = some (.int .u32 (y : Int)) := by rw [hy]; exact hc' (k - 1) (by omega)
    have hp : (0 : Int) ≤ (k : Int) - 1 := by omega
    have hp2 : (k : Int) - 1 < n := by omega
    have hp3 : ((k : Int) - 1).toNat = k - 1 := by omega
    have HX := Lib.hid hx
    have HY := Lib.hid hy
    clear hx hc hy hc'
    have HSS : Hid (SameFrom l r k) := hs
    rcases Nat.lt_trichotomy x y with hlt | hxy | hgt
    ·have e : t = -1 := by
      rw [HT.out, cmpN_lt]
      exact val_lt_at (i := k - 1) hlc.1 (by rw [h.len]; omega) (by rw [h'.len]; omega) (by rw [Nat.sub_add_cancel (by omega)]; exact HSS.out) (by rw [← HX.out, ← HY.out]; exact hlt)
     subst e
     have b2 : decide (x < y) = true := by simpa using hlt
     go_wp2
     go_quiet (fail)
     go_wp2
     go_ret
     exact ⟨rfl, below_drewN hb _⟩
    ·subst hxy
     have b2 : decide (x < x) = false := by simp
     go_wp2
     go_quiet (fail)
     go_wp2
     go_quiet (fail)
     go_wp2
     go_roundg (k - 1)
     case measure => omega
     case rel => exact ⟨k - 1, by omega, by omega, by rw [show ((k - 1 : Nat) : Int) = (k : Int) - 1 by omega], sameFrom_step h.len h'.len h0 hk HSS.out (by rw [← HX.out, ← HY.out]), below_drewN hb _⟩
    ·have e : t = 1 := by
      rw [HT.out, cmpN_gt]
      exact val_lt_at (i := k - 1) hrc.1 (by rw [h'.len]; omega) (by rw [h.len]; omega) (by rw [Nat.sub_add_cancel (by omega)]; exact HSS.out.symm) (by rw [← HX.out, ← HY.out]; omega)
     subst e
     have b2 : decide (x < y) = false := decide_eq_false (by omega)
     have b3 : decide (y < x) = true := by simpa using hgt
     go_wp2
     go_quiet (fail)
     go_wp2
     go_quiet (fail)
     go_wp2
     go_ret
     exact ⟨rfl, below_drewN (below_drewN hb _) _⟩
 ·have b1 : ((n : Int) != m) = true := by simp; omega
  rcases Nat.lt_or_ge n m with hlt | hge
  ·have e : t = -1 := by
    rw [HT.out, cmpN_lt]
    exact val_lt_len H_two hlc.1 hrc (by rw [h.len, h'.len]; exact hlt)
   subst e
   have b2 : decide (n < m) = true := decide_eq_true hlt
   clear hnm
   go_enter Tryz.func106, Tryz.ntmps106
   go_wp2
   go_ret
   exact ⟨rfl, Below.refl _ _⟩
  ·have e : t = 1 := by
    rw [HT.out, cmpN_gt]
    exact val_lt_len H_two hrc.1 hlc (by rw [h.len, h'.len]; omega)
   subst e
   have b2 : decide (n < m) = false := decide_eq_false (by omega)
   clear hnm
   go_enter Tryz.func106, Tryz.ntmps106
   go_wp2
   go_ret
   exact ⟨rfl, Below.refl _ _⟩
end Go.Proofs.YtldbafifgkobcaaGreatDoor

namespace Go.Proofs.YtldbafifgkobcaaGreatDoor
open Go.RowKit

end Go.Proofs.YtldbafifgkobcaaGreatDoor

namespace Go.Proofs.YtldbafifgkobcaaGreatDoor
open Go.RowKit

end Go.Proofs.YtldbafifgkobcaaGreatDoor

namespace Go.Proofs.YtldbafifgkobcaaGreatDoor
open Go.RowKit

end Go.Proofs.YtldbafifgkobcaaGreatDoor
