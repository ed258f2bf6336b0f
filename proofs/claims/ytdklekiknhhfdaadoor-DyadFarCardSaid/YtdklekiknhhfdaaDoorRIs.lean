/-
  Contracts of the reference's May and of the statements' helper is, at this translation. Condition: the slices read as limbs, or as digits of sixteen bits.
-/
import Derived.Test.YtdklekiknhhfdaaDoorRLimbs
namespace Go.Proofs.YtdklekiknhhfdaaDoor
open Go.RowKit

set_option maxHeartbeats 400000 in
theorem rmay_any {w : World} {A : Option Addr} {n c : Nat} {l : List Nat} (h : Rd w .u64 W A n c l) :
    Calls Tryd.prog 21 #[.slice A n c] w fun e w' => e = .returned (.bool (mayB l)) ∧ w = w' := by
  have hcap := h.cap
  have hmax := h.max
  by_cases h0 : n = 0
  · subst h0
    have e : mayB l = true := by simp [mayB, h.empty rfl]
    rw [e]
    go_enter Tryd.func21, Tryd.ntmps21
    go_wp2
    go_ret
    exact ⟨rfl, rfl⟩
  · obtain ⟨b, o, rfl, hb, hc⟩ := h.at_ h0
    have hl := h.len
    by_cases h1 : n ≤ 64
    · obtain ⟨x, hx⟩ : ∃ x, x = l.getD (n - 1) 0 := ⟨_, rfl⟩
      have hcell : w.cell? ⟨b, o + (n - 1), none⟩ = some (.int .u64 (x : Int)) := by rw [hx]; exact hc (n - 1) (by omega)
      have hp : (0 : Int) ≤ n - 1 := by omega
      have b0 : ((n : Int) == 0) = false := by simp [h0]
      have d1 : decide ((n : Int) ≤ 64) = true := decide_eq_true (by omega)
      have d2 : decide ((64 : Int) < (n : Int)) = false := decide_eq_false (by omega)
      have i1 : (n : Int) ≤ 64 := by omega
      by_cases h2 : x = 0
      · have e : mayB l = false := by unfold mayB; rw [hl, ← hx]; simp [h0, h2]
        rw [e]
        clear hc hl hx
        subst h2
        go_enter Tryd.func21, Tryd.ntmps21
        go_wp2
        go_ret
        exact ⟨rfl, rfl⟩
      · have e : mayB l = true := by unfold mayB; rw [hl, ← hx]; simp [h1, h2]
        rw [e]
        have b1 : ((x : Int) != 0) = true := by simp [h2]
        clear hc hl hx h2 h0
        go_enter Tryd.func21, Tryd.ntmps21
        go_wp2
        go_ret
        exact ⟨rfl, rfl⟩
    · have e : mayB l = false := by simp [mayB, hl]; omega
      rw [e]
      clear hc hl
      go_enter Tryd.func21, Tryd.ntmps21
      go_wp2
      go_ret
      exact ⟨rfl, rfl⟩


theorem can_of_len {B : Nat} {l : List Nat} {m : Nat} (hlt : Lt B l) (hm : l.length = m + 1) (hv : B ^ m ≤ val B l) : Can B l := by
  refine ⟨hlt, fun _ h0 => ?_⟩
  rw [hm, Nat.add_sub_cancel] at h0
  have h1 := take_val' (B := B) l m
  rw [List.take_of_length_le (by omega), h0, Nat.mul_zero, Nat.add_zero] at h1
  have h2 := val_lt (hlt.take m)
  rw [List.length_take, Nat.min_eq_left (by omega)] at h2
  omega
theorem limbs_dig {out : List Nat} {x : Nat} (hlt : Lt W out) (hv : val W out = x) (hl : out.length = ((dig H x).length + 3) / 4) : out = dig W x := by
  have : Can W out := by
    by_cases h0 : x = 0
    · subst h0
      rw [dig_zero] at hl
      have : out = [] := List.eq_nil_of_length_eq_zero (by rw [hl]; rfl)
      rw [this]; exact Can.nil
    · have hp := len_dig_pos H_two h0
      have hn := dig_ne_nil H_two h0
      obtain ⟨m, hm⟩ : ∃ m, ((dig H x).length + 3) / 4 = m + 1 := ⟨((dig H x).length + 3) / 4 - 1, by omega⟩
      rw [hm] at hl
      refine can_of_len hlt hl ?_
      rw [hv, W_pow_H]
      exact Nat.le_trans (Nat.pow_le_pow_right (by rw [H_eq]; omega) (by omega)) hp
  have e := dig_val W_two this
  rw [hv] at e
  exact e.symm

theorem rlimbs_dg {w : World} {A : Option Addr} {n c x : Nat} (h : Dg w A n c x) (hn : n ≤ 10000) :
    Calls Tryd.prog 38 #[.slice A n c] w fun e w' => ∃ A' c', e = .returned (.slice A' (dig W x).length c') ∧ Rd w' .u64 W A' (dig W x).length c' (dig W x) ∧ Below w.heap.size w w' := by
  refine (rlimbs_any h hn).mono ?_
  rintro e w' ⟨A', n', c', out, rfl, hrd, hv, hl, hb⟩
  rw [val_dig H_two] at hv
  have e := limbs_dig hrd.lt hv (by rw [h.len]; exact hl)
  subst e
  have := hrd.len
  subst this
  exact ⟨A', c', rfl, hrd, hb⟩

theorem is_yes {w : World} {A B : Option Addr} {n c m d x : Nat} (h : Nt w A n c x) (h' : Dg w B m d x) (hm : m ≤ 10000) :
    Calls Tryd.prog 26 #[.slice A n c, .int .i64 0, .slice B m d] w fun e w' => e = .returned (.bool true) ∧ Below w.heap.size w w' := by
  have hn := h.le
  have hnl := h.rd.len
  go_enter Tryd.func26, Tryd.ntmps26
  go_wp2_with fail
  refine (rlimbs_dg h' hm).mono ?_
  rintro e w1 ⟨A1, c1, rfl, hrd, hb⟩
  rw [hnl] at hrd ⊢
  have h1 := h.below hb
  have hcm := hrd.max
  have hcc := hrd.cap
  have d1 : decide ((64 : Int) < (n : Int)) = false := decide_eq_false (by omega)
  go_wp2_with fail
  refine (same_yes h1.rd hrd).mono ?_
  rintro e w2 ⟨rfl, hb2⟩
  have hB := hb.trans (hb2.mono hb.size)
  go_wp2
  go_ret
  exact ⟨rfl, hB⟩
theorem is_over {w : World} {A B : Option Addr} {c m d x : Nat} (h' : Dg w B m d x) (hm : m ≤ 10000) (hx : W ^ 64 ≤ x) :
    Calls Tryd.prog 26 #[.slice A 0 c, .int .i64 2, .slice B m d] w fun e w' => e = .returned (.bool true) ∧ Below w.heap.size w w' := by
  have hk : ¬ (dig W x).length ≤ 64 := by rw [len_dig W_two]; exact Nat.not_lt.2 hx
  go_enter Tryd.func26, Tryd.ntmps26
  go_wp2_with fail
  refine (rlimbs_dg h' hm).mono ?_
  rintro e w1 ⟨A1, c1, rfl, hrd, hb⟩
  have hcm := hrd.max
  have hcc := hrd.cap
  generalize (dig W x).length = k at *
  have d1 : decide ((64 : Int) < (k : Int)) = true := decide_eq_true (by omega)
  have f1 : (64 : Int) < k := by omega
  clear hrd
  go_wp2
  go_ret
  exact ⟨rfl, hb⟩
end Go.Proofs.YtdklekiknhhfdaaDoor
