/-
  Contracts of the statements' own helpers Same and Few, and of nat.Low, at this translation. Condition: the slices read as limbs; for Low the table of math/bits reads as its text lays it.
-/
import Derived.Test.YtdklekiknhhfdaaDoorApi2
namespace Go.Proofs.YtdklekiknhhfdaaDoor
open Go.RowKit

theorem same_yes {w : World} {A B : Option Addr} {n c d : Nat} {l : List Nat} (h : Rd w .u64 W A n c l) (h' : Rd w .u64 W B n d l) :
    Calls Tryd.prog 37 #[.slice A n c, .slice B n d] w fun e w' => e = .returned (.bool true) ∧ Below w.heap.size w w' := by
  have hc := h.cap
  have hm := h.max
  have hc' := h'.cap
  have hm' := h'.max
  go_enter Tryd.func37, Tryd.ntmps37
  go_wp2
  go_loopg [5] n (fun g v wr => ∃ i : Nat, i + g = n ∧ v = .int .i64 i ∧ Below w.heap.size w wr)
  case atStart => exact ⟨0, by omega, rfl, Below.refl _ _⟩
  case round =>
    obtain ⟨i, hg, rfl, hb⟩ := hrel
    have HG := Lib.hid hg
    clear hg
    by_cases hi : i < n
    · obtain ⟨a, o, rfl, ha, hca⟩ := (h.below hb).at_ (by omega)
      obtain ⟨a', o', rfl, ha', hca'⟩ := (h'.below hb).at_ (by omega)
      obtain ⟨x, hx⟩ : ∃ x, x = l.getD i 0 := ⟨_, rfl⟩
      have c1 : wr.cell? ⟨a, o + i, none⟩ = some (.int .u64 (x : Int)) := by rw [hx]; exact hca i hi
      have c2 : wr.cell? ⟨a', o' + i, none⟩ = some (.int .u64 (x : Int)) := by rw [hx]; exact hca' i hi
      have hp2 : (i : Int) < n := by omega
      have hp3 : (0 : Int) ≤ i := by omega
      clear hx hca hca'
      go_wp2
      go_quiet (fail)
      go_wp2
      go_roundg (gk - 1)
      case measure => have := HG.out; omega
      case rel => exact ⟨i + 1, by have := HG.out; omega, by go_num, below_drewN hb _⟩
    · have : i = n := by have := HG.out; omega
      subst this
      go_wp2
      go_ret
      exact ⟨rfl, hb⟩

theorem few_yes {w : World} {A : Option Addr} {n c : Nat} (h : n ≤ 70) : Calls Tryd.prog 16 #[.slice A n c] w fun e w' => e = .returned (.bool true) ∧ w = w' := by
  go_enter Tryd.func16, Tryd.ntmps16
  go_wp2
  go_ret
  exact ⟨congrArg (fun b => Ending.returned (.bool b)) (decide_eq_true (by omega)), rfl⟩
theorem few_no {w : World} {A : Option Addr} {n c : Nat} (h : 70 < n) (hn : n ≤ 9223372036854775807) : Calls Tryd.prog 16 #[.slice A n c] w fun e w' => e = .returned (.bool false) ∧ w = w' := by
  go_enter Tryd.func16, Tryd.ntmps16
  go_wp2
  go_ret
  exact ⟨congrArg (fun b => Ending.returned (.bool b)) (decide_eq_false (by omega)), rfl⟩

/-- k noughts at the end -/
def IsLow (x k : Nat) : Prop := ∃ m, x = 2 ^ k * (2 * m + 1)
theorem IsLow.unique {x a b : Nat} (h : IsLow x a) (h' : IsLow x b) : a = b := by
  have key : ∀ {x a b : Nat}, IsLow x a → IsLow x b → ¬ a < b := by
    rintro x a b ⟨m, rfl⟩ ⟨k, hk⟩ hlt
    obtain ⟨d, rfl⟩ : ∃ d, b = a + 1 + d := ⟨b - a - 1, by omega⟩
    have e : 2 ^ (a + 1 + d) * (2 * k + 1) = 2 ^ a * (2 * (2 ^ d * (2 * k + 1))) := by
      rw [Nat.pow_add, Nat.pow_succ]; ac_rfl
    rw [e] at hk
    have := Nat.eq_of_mul_eq_mul_left (Nat.pow_pos (by omega)) hk
    omega
  have := key h h'
  have := key h' h
  omega
theorem low_limb {l : List Nat} {i x k : Nat} (hz : ∀ j, j < i → l.getD j 0 = 0) (hi : i < l.length) (hx : x = l.getD i 0) (hk : IsLow x k) (hk64 : k < 64) : IsLow (val W l) (64 * i + k) := by
  obtain ⟨m, hm⟩ := hk
  have h1 := val_take_drop (B := W) l i
  have h2 : val W (l.take i) = 0 := val_zero_of (fun j hj => by
    have hj' : j < i := by rw [List.length_take] at hj; omega
    have := hz j hj'
    rw [List.getD_eq_getElem?_getD] at this ⊢
    rw [List.getElem?_take, if_pos hj']
    exact this)
  have h3 : l.drop i = x :: l.drop (i + 1) := by
    rw [List.drop_eq_getElem_cons hi, hx, List.getD_eq_getElem?_getD, List.getElem?_eq_getElem hi, Option.getD_some]
  have h4 : (l.take i).length = i := by rw [List.length_take]; omega
  rw [h2, h3, h4, val_cons, Nat.zero_add] at h1
  -- W = 2 ^ (k + 1) * 2 ^ (63 - k)
  have h5 : W = 2 ^ k * (2 * 2 ^ (63 - k)) := by
    rw [W_pow, ← Nat.pow_succ', ← Nat.pow_add]; congr 1; omega
  have h6 : W ^ i = 2 ^ (64 * i) := by rw [W_pow, ← Nat.pow_mul]
  refine ⟨m + 2 ^ (63 - k) * val W (l.drop (i + 1)), ?_⟩
  rw [h1, h6, Nat.pow_add, Nat.mul_assoc]
  congr 1
  have h7 : W * val W (l.drop (i + 1)) = 2 ^ k * (2 * (2 ^ (63 - k) * val W (l.drop (i + 1)))) := by
    generalize val W (l.drop (i + 1)) = r
    rw [h5]
    ac_rfl
  rw [h7, hm, ← Nat.mul_add]
  congr 1
  omega

def Tab (w : World) : Prop := TabAt 0 Lib.deBruijn64tab w
theorem Tab.below {w w' : World} (h : Tab w) (hb : Below w.heap.size w w') : Tab w' := fun j hj => by
  have hc := h j hj
  have hl : (⟨0, j, none⟩ : Addr).block < w.heap.size := World.block_lt_of_cell? w _ hc
  exact (hb.cell hl).trans hc

theorem tz_any {w : World} (hT : Tab w) {x : Nat} (h1 : x ≠ 0) (h2 : x < 18446744073709551616) : ∃ k : Nat, k < 64 ∧ IsLow x k ∧ Calls Tryd.prog 83 #[.int .u64 x] w fun e w' => e = .returned (.int .i64 (k : Int)) ∧ w = w' := by
  obtain ⟨m, hm, hk⟩ := Lib.ctzFrom_spec 64 x (by omega) h2
  have e : Lib.ctz 64 x = Lib.ctzFrom 64 x := by simp [Lib.ctz, h1]
  refine ⟨Lib.ctzFrom 64 x, hk, ⟨m, hm⟩, (Tryd.bits_TrailingZeros64 x h2 w (fun _ => hT)).mono fun e' w' ⟨he, hw⟩ => ⟨by rw [he, e], hw.symm⟩⟩

theorem low_nt {w : World} {A : Option Addr} {n c x : Nat} (hT : Tab w) (h : Nt w A n c x) (h0 : x ≠ 0) :
    Calls Tryd.prog 40 #[.slice A n c] w fun e w' => ∃ k : Nat, e = .returned (.int .i64 (k : Int)) ∧ IsLow x k ∧ w = w' := by
  have hn := h.le
  have hn0 : n ≠ 0 := by rw [ne_eq, h.zero]; exact h0
  obtain ⟨a, o, rfl, ha, hc⟩ := h.rd.at_ hn0
  have HC := Lib.hid hc
  clear hc
  go_enter Tryd.func40, Tryd.ntmps40
  go_wp2
  go_step3
  go_wp2_with fail
  refine (may_nt h).mono ?_
  rintro e w' ⟨rfl, rfl⟩
  go_wp2
  go_step3
  go_wp2
  go_loopg [3, 11] n (fun g v3 v wr => ∃ i : Nat, i + g = n ∧ v = .int .i64 i ∧ v3 = .int .i64 ((64 : Int) * i) ∧ (∀ j, j < i → (dig W x).getD j 0 = 0) ∧ w = wr)
  case atStart => exact ⟨0, by omega, rfl, rfl, fun j hj => absurd hj (by omega), rfl⟩
  case round =>
    obtain ⟨i, hg, rfl, rfl, hz, rfl⟩ := hrel
    have HG := Lib.hid hg
    have HZ : Hid (∀ j, j < i → (dig W x).getD j 0 = 0) := hz
    clear hg hz
    have hi : i < n := by
      rcases Nat.lt_or_ge i n with h1 | h1
      · exact h1
      · exfalso
        have hv := val_zero_of (B := W) (l := dig W x) (fun j hj => HZ.out j (by rw [h.rd.len] at hj; omega))
        rw [val_dig W_two] at hv
        exact h0 hv
    obtain ⟨y, hy⟩ : ∃ y, y = (dig W x).getD i 0 := ⟨_, rfl⟩
    have hyB : y < 18446744073709551616 := by rw [hy, ← W_eq]; exact h.rd.lt.getD (by rw [W_eq]; omega) _
    have hcell : w.cell? ⟨a, o + i, none⟩ = some (.int .u64 (y : Int)) := by rw [hy]; exact HC.out i hi
    have HY := Lib.hid hy
    clear hy
    by_cases hy0 : y = 0
    · subst hy0
      go_wp2
      go_roundg (gk - 1)
      case measure => have := HG.out; omega
      case rel => exact ⟨i + 1, by have := HG.out; omega, by go_num, by first | go_num | (congr 1; omega), fun j hj => by
        rcases Nat.lt_or_ge j i with h1 | h1
        · exact HZ.out j h1
        · obtain rfl : j = i := by omega
          exact HY.out.symm, rfl⟩
    · have f1 : ((y : Int) == 0) = false := by simp [hy0]
      obtain ⟨k, hk64, hlow, hcall⟩ := tz_any hT hy0 hyB
      have HCALL := Lib.hid hcall
      have hl := low_limb HZ.out (by rw [h.rd.len]; exact hi) HY.out hlow hk64
      rw [val_dig W_two] at hl
      have HL := Lib.hid hl
      clear hcall hlow hl hy0
      go_wp2_with fail
      refine HCALL.out.mono ?_
      rintro e w' ⟨rfl, rfl⟩
      go_wp2
      rw [Exit.noGoto_ret]
      go_ret
      exact ⟨64 * i + k, rfl, HL.out, rfl⟩
end Go.Proofs.YtdklekiknhhfdaaDoor
