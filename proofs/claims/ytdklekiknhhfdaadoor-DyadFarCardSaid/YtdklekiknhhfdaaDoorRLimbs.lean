/-
  Contract of the reference's Limbs at this translation. Condition: the slice reads as digits of sixteen bits, at most ten thousand.
-/
import Derived.Test.YtdklekiknhhfdaaDoorRFrom
namespace Go.Proofs.YtdklekiknhhfdaaDoor
open Go.RowKit

/-- the limbs that are made of the first 4 q + r digits -/
def LimbsRel (base : Nat) (l : List Nat) (q r : Nat) (v : Value) (w : World) : Prop :=
  ∃ out, Own base w 49 .u64 v out ∧ (r = 0 → out.length = q) ∧ (r ≠ 0 → out.length = q + 1 ∧ out.getD q 0 < H ^ r) ∧ Lt W out ∧ val W out = val H (l.take (4 * q + r))

theorem limb_digit {l out : List Nat} {q r y d : Nat} (hr : r < 4) (hd : d = l.getD (4 * q + r) 0) (hlt : Lt H l) (hl : out.length = q + 1) (hy : out.getD q 0 = y) (hyr : y < H ^ r) (ho : Lt W out) (hv : val W out = val H (l.take (4 * q + r))) :
    y + d * 2 ^ (16 * r) % 18446744073709551616 < H ^ (r + 1) ∧ Lt W (out.set q (y + d * 2 ^ (16 * r) % 18446744073709551616)) ∧ val W (out.set q (y + d * 2 ^ (16 * r) % 18446744073709551616)) = val H (l.take (4 * q + r + 1)) := by
  have hdH : d < H := by rw [hd]; exact hlt.getD (by rw [H_eq]; omega) _
  have h1 : y + d * H ^ r < H ^ (r + 1) := by
    have a1 : (d + 1) * H ^ r ≤ H * H ^ r := Nat.mul_le_mul_right _ hdH
    rw [Nat.add_mul, Nat.one_mul, Nat.mul_comm H] at a1
    rw [Nat.pow_succ]
    omega
  have h2 : H ^ (r + 1) ≤ W := by rw [W_H]; exact Nat.pow_le_pow_right (by rw [H_eq]; omega) (by omega)
  have h3 : d * 2 ^ (16 * r) % 18446744073709551616 = d * H ^ r := by
    rw [← W_eq, Nat.pow_mul, ← H_pow]
    exact Nat.mod_eq_of_lt (by omega)
  rw [h3]
  refine ⟨h1, ho.set _ (by omega), ?_⟩
  have h4 := val_set (B := W) (l := out) (i := q) (by omega) (y + d * H ^ r)
  rw [hy, Nat.mul_add, hv] at h4
  rw [take_val', ← hd, Nat.pow_add, ← W_pow_H, Nat.mul_assoc, Nat.mul_comm (H ^ r) d]
  omega
theorem limb_next {base : Nat} {l out : List Nat} {q r : Nat} {v : Value} {w : World} (hr : r < 4) (hown : Own base w 49 .u64 v out) (hl : out.length = q + 1) (hy : out.getD q 0 < H ^ (r + 1)) (ho : Lt W out) (hv : val W out = val H (l.take (4 * q + r + 1))) :
    ∃ q' r', 4 * q + r + 1 = 4 * q' + r' ∧ r' < 4 ∧ LimbsRel base l q' r' v w := by
  by_cases h3 : r = 3
  · exact ⟨q + 1, 0, by omega, by omega, out, hown, fun _ => hl, fun h => absurd rfl h, ho, by rw [hv]; congr 2; omega⟩
  · exact ⟨q, r + 1, by omega, by omega, out, hown, fun h => absurd h (by omega), fun _ => ⟨hl, hy⟩, ho, hv⟩

set_option maxHeartbeats 400000 in
theorem rlimbs_any {w : World} {A : Option Addr} {n c : Nat} {l : List Nat} (h : Rd w .u32 H A n c l) (hn : n ≤ 10000) :
    Calls Tryd.prog 38 #[.slice A n c] w fun e w' => ∃ A' n' c' out, e = .returned (.slice A' n' c') ∧ Rd w' .u64 W A' n' c' out ∧ val W out = val H l ∧ out.length = (n + 3) / 4 ∧ Below w.heap.size w w' := by
  have hcap := h.cap
  have hmax := h.max
  go_enter Tryd.func38, Tryd.ntmps38
  go_wp2
  go_loopg [3, 4] n (fun g v3 v4 wr => ∃ i q r : Nat, i + g = n ∧ i = 4 * q + r ∧ r < 4 ∧ v4 = .int .i64 i ∧ LimbsRel w.heap.size l q r v3 wr ∧ Below w.heap.size w wr)
  case atStart => exact ⟨0, 0, 0, by omega, rfl, by omega, rfl, ⟨[], Own.nil _ _ _ _, fun _ => rfl, fun h => absurd rfl h, Lt.nil, rfl⟩, Below.refl _ _⟩
  case round =>
    obtain ⟨i, q, r, hg, hi4, hr4, rfl, ⟨out, hown, hl0, hl1, hlt, hval⟩, hb⟩ := hrel
    have e1 : (i : Int) / 4 = (q : Int) := by omega
    have e2 : (i : Int) % 4 = (r : Int) := by omega
    have hgi : gk = n - i := by omega
    have HG := Lib.hid hgi
    have HI := Lib.hid hi4
    have HV := Lib.hid hval
    have hin : i ≤ n := by omega
    have hq : q ≤ i := by omega
    clear hg hval hi4 hgi
    by_cases hi : i < n
    · obtain ⟨d, hd⟩ : ∃ d, d = l.getD i 0 := ⟨_, rfl⟩
      obtain ⟨b, o, rfl, hbl, hc⟩ := h.at_ (by omega)
      have hcell0 : w.cell? ⟨b, o + i, none⟩ = some (.int .u32 (d : Int)) := by rw [hd]; exact hc i hi
      have hdB : d < 65536 := by rw [hd, ← H_eq]; exact h.lt.getD (by rw [H_eq]; omega) i
      have hcell := (hb.cell (p := ⟨b, o + i, none⟩) hbl).trans hcell0
      have hbs := hb.size
      rw [HI.out] at hd
      have HD := Lib.hid hd
      clear hd hc
      by_cases hr0 : r = 0
      · have f0 : ((r : Int) == 0) = true := by simp [hr0]
        have hll := hl0 hr0
        have HR := Lib.hid hr0
        have hl3 : out.length ≤ 1000000 := by omega
        clear hl0 hl1 hr0
        go_wp2_with (at_builtin; refine law_app (y := 0) Tryd.underlying22 info64 (by decide) rfl _ _ rfl hown hl3 hbs rfl rfl ?_; intro v' w1 hown3 hb3)
        have hlen3 : (out ++ [0]).length = q + 1 := by simp [hll]
        have hv3 : val W (out ++ [0]) = val H (l.take (4 * q + r)) := by rw [val_snoc, Nat.mul_zero, Nat.add_zero]; exact HV.out
        have hy3 : (out ++ [0]).getD q 0 < H ^ r := by
          have : (out ++ [0]).getD q 0 = 0 := by rw [← hll]; simp
          rw [this]; exact Nat.pow_pos (by rw [H_eq]; omega)
        have hlt3 : Lt W (out ++ [0]) := hlt.append (Lt.cons (by rw [W_eq]; omega) Lt.nil)
        have hbx := hb.trans hb3
        have hcell1 := (hbx.cell (p := ⟨b, o + i, none⟩) hbl).trans hcell0
        generalize out ++ [0] = out3 at *
        obtain ⟨y, hy⟩ : ∃ y, y = out3.getD q 0 := ⟨_, rfl⟩
        rw [← hy] at hy3
        have hS := limb_digit hr4 HD.out h.lt hlen3 hy.symm hy3 hlt3 hv3
        obtain ⟨g, cap, rfl, hg1, hg2, hcp, hcm, hce, hfz, hst⟩ := hown3.store (j := q) (by rw [hlen3]; omega)
        rw [← hy] at hce
        rw [hlen3] at hcp hst ⊢
        have hOr := or_shl (x := d) (y := y) (p := 16 * r) (by rw [Nat.pow_mul, ← H_pow]; exact hy3) (by omega)
        generalize y + d * 2 ^ (16 * r) % 18446744073709551616 = z at hS hOr
        have HSS := Lib.hid hS
        have hsv := hst z
        have HSV := Lib.hid hsv
        have HLN : Hid (out3.length = q + 1) := Lib.hid hlen3
        have HY := Lib.hid hy
        clear hS hst hsv hy3 hlen3 hv3 hy hcell0
        go_wp2
        go_region
        go_wp2
        go_roundg (n - (i + 1))
        case measure => have := HG.out; omega
        case rel =>
          obtain ⟨q', r', he, hr', hR⟩ := limb_next hr4 HSV.out.drew (by rw [List.length_set]; exact HLN.out) (by rw [getD_set_self (by rw [HLN.out]; omega)]; exact HSS.out.1) HSS.out.2.1 HSS.out.2.2
          refine ⟨i + 1, q', r', by omega, by have := HI.out; omega, hr', by go_num, hR, ?_⟩
          exact below_drewN (hbx.setCell hg1 _) 1
      · have f0 : ((r : Int) == 0) = false := by simp [hr0]
        obtain ⟨hlen3, hy3⟩ := hl1 hr0
        have hv3 : val W out = val H (l.take (4 * q + r)) := HV.out
        clear hl0 hl1 hr0
        have hlt3 := hlt
        have hbx := hb
        have hown3 := hown
        have hcell1 := hcell
        generalize out = out3 at *
        obtain ⟨y, hy⟩ : ∃ y, y = out3.getD q 0 := ⟨_, rfl⟩
        rw [← hy] at hy3
        have hS := limb_digit hr4 HD.out h.lt hlen3 hy.symm hy3 hlt3 hv3
        obtain ⟨g, cap, rfl, hg1, hg2, hcp, hcm, hce, hfz, hst⟩ := hown3.store (j := q) (by rw [hlen3]; omega)
        rw [← hy] at hce
        rw [hlen3] at hcp hst ⊢
        have hOr := or_shl (x := d) (y := y) (p := 16 * r) (by rw [Nat.pow_mul, ← H_pow]; exact hy3) (by omega)
        generalize y + d * 2 ^ (16 * r) % 18446744073709551616 = z at hS hOr
        have HSS := Lib.hid hS
        have hsv := hst z
        have HSV := Lib.hid hsv
        have HLN : Hid (out3.length = q + 1) := Lib.hid hlen3
        have HY := Lib.hid hy
        clear hS hst hsv hy3 hlen3 hv3 hy hcell0
        go_wp2
        go_region
        go_wp2
        go_roundg (n - (i + 1))
        case measure => have := HG.out; omega
        case rel =>
          obtain ⟨q', r', he, hr', hR⟩ := limb_next hr4 HSV.out.drew (by rw [List.length_set]; exact HLN.out) (by rw [getD_set_self (by rw [HLN.out]; omega)]; exact HSS.out.1) HSS.out.2.1 HSS.out.2.2
          refine ⟨i + 1, q', r', by omega, by have := HI.out; omega, hr', by go_num, hR, ?_⟩
          exact below_drewN (hbx.setCell hg1 _) 1
    · have hi' : i = n := by omega
      obtain ⟨A2, c2, rfl, hrd⟩ := hown.rd hlt
      have hv : val W out = val H l := by rw [HV.out, ← HI.out, hi', List.take_of_length_le (by rw [h.len]; omega)]
      have hlen : out.length = (n + 3) / 4 := by
        have := HI.out
        by_cases hr0 : r = 0
        · rw [hl0 hr0]; omega
        · rw [(hl1 hr0).1]; omega
      have HVV := Lib.hid hv
      have HLL := Lib.hid hlen
      clear hv hlen hown hl0 hl1
      go_wp2
      go_ret
      exact ⟨_, _, _, out, rfl, hrd, HVV.out, HLL.out, hb⟩
end Go.Proofs.YtdklekiknhhfdaaDoor
