/-
  Contract of the reference's From at this translation. Condition: the slice reads as limbs, of at most a thousand.
-/
import Derived.Test.YtdklekiknhhfdaaDoorRef
namespace Go.Proofs.YtdklekiknhhfdaaDoor
open Go.RowKit

theorem W_H : W = H ^ 4 := by rw [W_pow, H_pow, ← Nat.pow_mul]
theorem W_pow_H (i : Nat) : W ^ i = H ^ (4 * i) := by rw [W_H, ← Nat.pow_mul]

/-- the digits that are made of the first i limbs, and of k digits of the next one -/
def FromRel (base : Nat) (l : List Nat) (i k : Nat) (v : Value) (w : World) : Prop :=
  ∃ out, Own base w 77 .u32 v out ∧ out.length = 4 * i + k ∧ Lt H out ∧ val H out = val W (l.take i) + W ^ i * (l.getD i 0 % H ^ k)

theorem mask16 (q : Nat) : bits .and .u32 ((q : Int) % 4294967296) 65535 = ((q % H : Nat) : Int) := by
  have h := bits_mask .u32 32 (by decide) (fun n h0 h1 => by rw [IntKind.wrap_u32]; omega) 16 (by decide) ((q : Int) % 4294967296) (by omega) (by omega)
  have e : (2 : Int) ^ 16 - 1 = 65535 := by decide
  rw [e] at h
  rw [h, H_eq]
  omega
theorem from_mask (x k : Nat) : bits .and .u32 ((x : Int) / 2 ^ (16 * k) % 4294967296) 65535 = ((x / H ^ k % H : Nat) : Int) := by
  have e : ((2 : Int) ^ (16 * k)) = ((2 ^ (16 * k) : Nat) : Int) := by rw [Int.natCast_pow]; rfl
  rw [e, ← Int.natCast_ediv, mask16, Nat.pow_mul, ← H_pow]

theorem from_digit {l out : List Nat} {i k x y : Nat} (hx : x = l.getD i 0) (hy : y = x / H ^ k % H) (hl : out.length = 4 * i + k) (hlt : Lt H out) (hv : val H out = val W (l.take i) + W ^ i * (l.getD i 0 % H ^ k)) :
    (out ++ [y]).length = 4 * i + (k + 1) ∧ Lt H (out ++ [y]) ∧ val H (out ++ [y]) = val W (l.take i) + W ^ i * (l.getD i 0 % H ^ (k + 1)) := by
  refine ⟨by simp [hl]; omega, hlt.append (Lt.cons (by rw [hy]; exact Nat.mod_lt _ (by rw [H_eq]; omega)) Lt.nil), ?_⟩
  rw [val_snoc, hv, hl, hy, Nat.mod_pow_succ, ← hx, Nat.pow_add, ← W_pow_H, Nat.mul_add, Nat.mul_assoc, Nat.add_assoc]
theorem from_next {l out : List Nat} {i : Nat} (hlt : Lt W l) (hv : val H out = val W (l.take i) + W ^ i * (l.getD i 0 % H ^ 4)) : val H out = val W (l.take (i + 1)) + W ^ (i + 1) * (l.getD (i + 1) 0 % H ^ 0) := by
  rw [Nat.pow_zero, Nat.mod_one, Nat.mul_zero, Nat.add_zero, take_val', hv, ← W_H, Nat.mod_eq_of_lt (hlt.getD (by rw [W_eq]; omega) _)]

set_option maxHeartbeats 400000 in
theorem rfrom_any {w : World} {A : Option Addr} {n c : Nat} {l : List Nat} (h : Rd w .u64 W A n c l) (hn : n ≤ 1000) :
    Calls Tryd.prog 24 #[.slice A n c] w fun e w' => ∃ A' n' c', e = .returned (.slice A' n' c') ∧ Dg w' A' n' c' (val W l) ∧ Below w.heap.size w w' := by
  have hcap := h.cap
  have hmax := h.max
  go_enter Tryd.func24, Tryd.ntmps24
  go_wp2
  go_loopg [3, 4] n (fun g v3 v4 wr => ∃ i : Nat, i + g = n ∧ v4 = .int .i64 i ∧ FromRel w.heap.size l i 0 v3 wr ∧ Below w.heap.size w wr)
  case atStart => exact ⟨0, by omega, rfl, ⟨[], Own.nil _ _ _ _, rfl, Lt.nil, by simp [val, Nat.mod_one]⟩, Below.refl _ _⟩
  case round =>
    obtain ⟨i, hg, rfl, ⟨out, hown, hlen, hlt, hval⟩, hb⟩ := hrel
    have HG := Lib.hid hg
    have HL := Lib.hid hlen
    have HV := Lib.hid hval
    clear hg hlen hval
    by_cases hi : i < n
    · obtain ⟨x, hx⟩ : ∃ x, x = l.getD i 0 := ⟨_, rfl⟩
      obtain ⟨b, o, rfl, hbl, hc⟩ := h.at_ (by omega)
      have hcell0 : w.cell? ⟨b, o + i, none⟩ = some (.int .u64 (x : Int)) := by rw [hx]; exact hc i hi
      have hxB : x < 18446744073709551616 := by rw [hx, ← W_eq]; exact h.lt.getD (by rw [W_eq]; omega) i
      have HX := Lib.hid hx
      clear hx hc
      go_wp2
      go_loopg [3, 5] 4 (fun g v3 v5 wr => ∃ k : Nat, k + g = 4 ∧ v5 = .int .i64 k ∧ FromRel w.heap.size l i k v3 wr ∧ Below w.heap.size w wr)
      case atStart => exact ⟨0, by omega, rfl, ⟨out, hown, HL.out, hlt, HV.out⟩, hb⟩
      case round =>
        obtain ⟨k, hk, rfl, ⟨out2, hown2, hlen2, hlt2, hval2⟩, hb2⟩ := hrel
        have HK := Lib.hid hk
        have HL2 := Lib.hid hlen2
        have HV2 := Lib.hid hval2
        have hcell := (hb2.cell (p := ⟨b, o + i, none⟩) hbl).trans hcell0
        have hbs := hb2.size
        have hk4 : k ≤ 4 := by omega
        clear hk hlen2 hval2 HL HV hown hlt hb
        by_cases hlk : k < 4
        · obtain ⟨y, hy⟩ : ∃ y, y = x / H ^ k % H := ⟨_, rfl⟩
          have hD := from_digit HX.out hy HL2.out hlt2 HV2.out
          have hE : bits .and .u32 ((x : Int) / 2 ^ (16 * k) % 4294967296) 65535 = (y : Int) := by rw [hy]; exact from_mask x k
          have HD := Lib.hid hD
          have HY := Lib.hid hy
          have hl3 : out2.length ≤ 1000000 := by rw [HL2.out]; omega
          clear hD hy
          have p0 : (0 : Int) ≤ 16 * k := by omega
          go_wp2_with (at_builtin; refine law_app Tryd.underlying29 infoD (by decide) rfl _ _ rfl hown2 hl3 hbs rfl rfl ?_; intro v' w1 hown3 hb3)
          go_roundg (4 - (k + 1))
          case measure => have := HK.out; omega
          case rel => exact ⟨k + 1, by omega, by go_num, ⟨_, hown3, HD.out.1, HD.out.2.1, HD.out.2.2⟩, hb2.trans hb3⟩
        · obtain rfl : k = 4 := by omega
          have hN := from_next h.lt HV2.out
          have HN := Lib.hid hN
          clear hN
          go_wp2
          go_roundg (n - (i + 1))
          case measure => have := HG.out; omega
          case rel => exact ⟨i + 1, by have := HG.out; omega, by go_num, ⟨out2, hown2, by rw [HL2.out]; omega, hlt2, HN.out⟩, hb2⟩
    · have hi' : i = n := by have := HG.out; omega
      obtain ⟨A2, c2, rfl, hrd⟩ := hown.rd hlt
      have hv : val H out = val W l := by rw [HV.out, hi', List.take_of_length_le (by rw [h.len]; omega), Nat.pow_zero, Nat.mod_one, Nat.mul_zero, Nat.add_zero]
      have hD := rd_rtrim hrd
      rw [hv] at hD
      have HVV := Lib.hid hv
      have HDD := Lib.hid hD
      clear hv hD hown
      go_wp2_with fail
      refine (rtrim_any hrd).mono ?_
      rintro e w' ⟨rfl, rfl⟩
      rw [HVV.out]
      go_wp2
      go_ret
      exact ⟨_, _, _, rfl, HDD.out, hb⟩
end Go.Proofs.YtdklekiknhhfdaaDoor
