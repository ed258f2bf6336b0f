/-
  Contract of nat.order at this translation. Condition: both slices read as canonical limbs.
-/
import Derived.Test.YtdklekiknhhfdaaDoorLeaf
import Derived.Test.YtdklekiknhhfdaaDoorBits
namespace Go.Proofs.YtdklekiknhhfdaaDoor
open Go.RowKit

theorem compareInt_lt {a b : Int} (h : a < b) : Lib.compareInt a b = -1 := by unfold Lib.compareInt; rw [if_pos h]
theorem compareInt_gt {a b : Int} (h : b < a) : Lib.compareInt a b = 1 := by unfold Lib.compareInt; rw [if_neg (by omega), if_pos h]

/-- Those behind place m are the same. -/
def SameFrom (l r : List Nat) (m : Nat) : Prop := l.drop m = r.drop m

theorem sameFrom_step {l r : List Nat} {n k : Nat} (hl : l.length = n) (hr : r.length = n) (hk : k ≠ 0) (hkn : k ≤ n) (hs : SameFrom l r k) (hx : l.getD (k - 1) 0 = r.getD (k - 1) 0) : SameFrom l r (k - 1) := by
  unfold SameFrom at hs ⊢
  obtain ⟨j, rfl⟩ : ∃ j, k = j + 1 := ⟨k - 1, by omega⟩
  rw [Nat.add_sub_cancel] at hx ⊢
  have h1 : j < l.length := by omega
  have h2 : j < r.length := by omega
  rw [List.getD_eq_getElem?_getD, List.getD_eq_getElem?_getD, List.getElem?_eq_getElem h1, List.getElem?_eq_getElem h2, Option.getD_some, Option.getD_some] at hx
  rw [List.drop_eq_getElem_cons h1, List.drop_eq_getElem_cons h2, hs, hx]

theorem order_any {w : World} {A B : Option Addr} {n c m d : Nat} {l r : List Nat} (h : Rd w .u64 W A n c l) (h' : Rd w .u64 W B m d r) (hl : Can W l) (hr : Can W r) :
    Calls Tryd.prog 72 #[.slice A n c, .slice B m d] w fun e w' => e = .returned (.int .i64 (cmpN (val W l) (val W r))) ∧ Below w.heap.size w w' := by
  have hcap := h.cap
  have hmax := h.max
  have hcap' := h'.cap
  have hmax' := h'.max
  obtain ⟨t, ht⟩ : ∃ t, t = cmpN (val W l) (val W r) := ⟨_, rfl⟩
  rw [← ht]
  have HT := Lib.hid ht
  clear ht
  by_cases hnm : n = m
  · subst hnm
    go_enter Tryd.func72, Tryd.ntmps72
    go_wp2
    go_step3
    go_wp2
    go_step3
    go_wp2
    go_loopg [5] n (fun g v wr => ∃ k : Nat, k ≤ g ∧ k ≤ n ∧ v = .int .i64 ((k : Int) - 1) ∧ SameFrom l r k ∧ Below w.heap.size w wr)
    case atStart => exact ⟨n, Nat.le_refl _, Nat.le_refl _, rfl, by unfold SameFrom; rw [List.drop_of_length_le (by rw [h.len]; omega), List.drop_of_length_le (by rw [h'.len]; omega)], Below.refl _ _⟩
    case round =>
      obtain ⟨k, hg, hk, rfl, hs, hb⟩ := hrel
      by_cases h0 : k = 0
      · subst h0
        have e : t = 0 := by
          rw [HT.out, cmpN_eq]
          unfold SameFrom at hs
          rw [List.drop_zero, List.drop_zero] at hs
          rw [hs]
        subst e
        go_wp2
        rw [Exit.noGoto_ret]
        go_ret
        exact ⟨rfl, hb⟩
      · obtain ⟨a, o, rfl, ha, hc⟩ := (h.below hb).at_ (by omega)
        obtain ⟨a', o', rfl, ha', hc'⟩ := (h'.below hb).at_ (by omega)
        obtain ⟨x, hx⟩ : ∃ x, x = l.getD (k - 1) 0 := ⟨_, rfl⟩
        obtain ⟨y, hy⟩ : ∃ y, y = r.getD (k - 1) 0 := ⟨_, rfl⟩
        have hcell : wr.cell? ⟨a, o + (k - 1), none⟩ = some (.int .u64 (x : Int)) := by rw [hx]; exact hc (k - 1) (by omega)
        have hcell' : wr.cell? ⟨a', o' + (k - 1), none⟩ = some (.int .u64 (y : Int)) := by rw [hy]; exact hc' (k - 1) (by omega)
        have hp : (0 : Int) ≤ (k : Int) - 1 := by omega
        have hp2 : (k : Int) - 1 < n := by omega
        have hp3 : ((k : Int) - 1).toNat = k - 1 := by omega
        have HX := Lib.hid hx
        have HY := Lib.hid hy
        clear hx hc hy hc'
        have HSS : Hid (SameFrom l r k) := hs
        by_cases hxy : x = y
        · subst hxy
          go_wp2
          go_quiet (fail)
          go_wp2
          go_roundg (k - 1)
          case measure => omega
          case rel => exact ⟨k - 1, by omega, by omega, by rw [show ((k - 1 : Nat) : Int) = (k : Int) - 1 by omega], sameFrom_step h.len h'.len h0 hk HSS.out (by rw [← HX.out, ← HY.out]), below_drewN hb _⟩
        · have b1 : ((x : Int) == y) = false := by simp; omega
          by_cases hlt : x < y
          · have e : t = -1 := by
              rw [HT.out, cmpN_lt]
              exact val_lt_at (i := k - 1) hl.1 (by rw [h.len]; omega) (by rw [h'.len]; omega) (by rw [Nat.sub_add_cancel (by omega)]; exact HSS.out) (by rw [← HX.out, ← HY.out]; exact hlt)
            subst e
            have b2 : decide (x < y) = true := by simpa using hlt
            clear hxy
            go_wp2
            go_quiet (fail)
            go_wp2
            go_quiet (fail)
            go_wp2
            rw [Exit.noGoto_ret]
            go_ret
            exact ⟨rfl, below_drewN (below_drewN hb _) _⟩
          · have e : t = 1 := by
              rw [HT.out, cmpN_gt]
              exact val_lt_at (i := k - 1) hr.1 (by rw [h'.len]; omega) (by rw [h.len]; omega) (by rw [Nat.sub_add_cancel (by omega)]; exact HSS.out.symm) (by rw [← HX.out, ← HY.out]; omega)
            subst e
            have b2 : decide (x < y) = false := by simpa using hlt
            clear hxy hlt
            go_wp2
            go_quiet (fail)
            go_wp2
            go_quiet (fail)
            go_wp2
            rw [Exit.noGoto_ret]
            go_ret
            exact ⟨rfl, below_drewN (below_drewN hb _) _⟩
  · rcases Nat.lt_or_ge n m with hlt | hge
    · have e : t = -1 := by
        rw [HT.out, cmpN_lt]
        exact val_lt_len W_two hl.1 hr (by rw [h.len, h'.len]; exact hlt)
      subst e
      have b1 : ((n : Int) != m) = true := by simp; omega
      clear hnm
      have hcmp : Lib.compareInt (n : Int) (m : Int) = -1 := compareInt_lt (by omega)
      go_enter Tryd.func72, Tryd.ntmps72
      go_wp2
      go_step3
      go_wp2_with (go_at_call 93; refine (Tryd.cmp_Compare_int _ _ _).mono ?_; rintro e w' ⟨rfl, rfl⟩)
      rw [Exit.noGoto_ret]
      go_ret
      exact ⟨rfl, Below.refl _ _⟩
    · have e : t = 1 := by
        rw [HT.out, cmpN_gt]
        exact val_lt_len W_two hr.1 hl (by rw [h.len, h'.len]; omega)
      subst e
      have b1 : ((n : Int) != m) = true := by simp; omega
      have hcmp : Lib.compareInt (n : Int) (m : Int) = 1 := compareInt_gt (by omega)
      clear hnm
      go_enter Tryd.func72, Tryd.ntmps72
      go_wp2
      go_step3
      go_wp2_with (go_at_call 93; refine (Tryd.cmp_Compare_int _ _ _).mono ?_; rintro e w' ⟨rfl, rfl⟩)
      rw [Exit.noGoto_ret]
      go_ret
      exact ⟨rfl, Below.refl _ _⟩
end Go.Proofs.YtdklekiknhhfdaaDoor
