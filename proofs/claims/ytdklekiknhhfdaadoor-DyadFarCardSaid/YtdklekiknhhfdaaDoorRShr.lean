/-
  Contract of the reference's Shr at this translation. Condition: the slice reads as digits of sixteen bits, at most ten thousand; the shift is at most a million.
-/
import Derived.Test.YtdklekiknhhfdaaDoorRBits
namespace Go.Proofs.YtdklekiknhhfdaaDoor
open Go.RowKit

def DGives (w : World) (x : Nat) (e : Ending) (w' : World) : Prop :=
  ∃ A n c, e = .returned (.slice A n c) ∧ Dg w' A n c x ∧ Below w.heap.size w w'
theorem Dg.nil (w : World) (A : Option Addr) {c : Nat} (hc : c ≤ 9223372036854775807) : Dg w A 0 c 0 := by unfold Dg; rw [dig_zero]; exact Rd.nil _ _ _ _ hc

theorem bits_or_u32_nat (a b : Nat) (ha : a < 4294967296) (hb : b < 4294967296) : bits .or .u32 (a : Int) (b : Int) = ((a ||| b : Nat) : Int) := by
  have hlt : a ||| b < 4294967296 := Nat.or_lt_two_pow (n := 32) ha hb
  have cast : ∀ y : Nat, y < 4294967296 → (BitVec.ofInt 32 (y : Int)).toNat = y := fun y hy => by
    rw [BitVec.ofInt_natCast, BitVec.toNat_ofNat]; exact Nat.mod_eq_of_lt hy
  show IntKind.u32.wrap ((BitVec.ofInt 32 (a : Int) ||| BitVec.ofInt 32 (b : Int)).toNat : Int) = _
  rw [BitVec.toNat_or, cast a ha, cast b hb, IntKind.wrap_u32]
  omega
theorem or32 {d e : Nat} (hd : d < 65536) (he : e < 65536) : bits .or .u32 (d : Int) ((e : Int) * 65536 % 4294967296) = ((d + e * H : Nat) : Int) := by
  have e1 : (e : Int) * 65536 % 4294967296 = ((e * 65536 : Nat) : Int) := by omega
  rw [e1, bits_or_u32_nat _ _ (by omega) (by omega)]
  congr 1
  have e2 : e * 65536 = 2 ^ 16 * e := by omega
  rw [e2, Nat.or_comm, ← Nat.two_pow_add_eq_or_of_lt (show d < 2 ^ 16 by omega), H_eq]
  omega
theorem mask_shr {u r : Nat} (hu : u < 4294967296) : bits .and .u32 ((u : Int) / 2 ^ r) 65535 = ((u / 2 ^ r % H : Nat) : Int) := by
  have e : ((2 : Int) ^ r) = ((2 ^ r : Nat) : Int) := by rw [Int.natCast_pow]; rfl
  rw [e, ← Int.natCast_ediv]
  have hz : u / 2 ^ r < 4294967296 := Nat.lt_of_le_of_lt (Nat.div_le_self _ _) hu
  generalize u / 2 ^ r = z at *
  have h := mask16 z
  rwa [Int.emod_eq_of_lt (by omega) (by omega)] at h
theorem shr_step {y j z : Nat} {out : List Nat} (hz : z = y / H ^ j % H) (hl : out.length = j) (hlt : Lt H out) (hv : val H out = y % H ^ j) :
    (out ++ [z]).length = j + 1 ∧ Lt H (out ++ [z]) ∧ val H (out ++ [z]) = y % H ^ (j + 1) := by
  refine ⟨by simp [hl], hlt.append (Lt.cons (by rw [hz]; exact Nat.mod_lt _ (by rw [H_eq]; omega)) Lt.nil), ?_⟩
  rw [val_snoc, hv, hl, hz, Nat.mod_pow_succ]
theorem shr_digit {x i j q r s : Nat} (hs : s = 16 * q + r) (hr : r < 16) (hi : i = q + j) : ((dig H x).getD i 0 + (dig H x).getD (i + 1) 0 * H) / 2 ^ r % H = x / 2 ^ s / H ^ j % H := by
  rw [dig_getD H_two, dig_getD H_two, Nat.pow_succ, ← Nat.div_div_eq_div_mul]
  have e1 : x / 2 ^ s / H ^ j = x / H ^ i / 2 ^ r := by
    rw [Nat.div_div_eq_div_mul, Nat.div_div_eq_div_mul, hs, hi, Nat.pow_add, Nat.pow_add, H_pow, ← Nat.pow_mul, ← Nat.pow_mul]
    congr 1
    ac_rfl
  rw [e1]
  generalize x / H ^ i = z
  have e2 : z % H + z / H % H * H = z % (H * H) := by rw [Nat.mod_mul, Nat.mul_comm H]
  rw [e2]
  have hH : H = 2 ^ r * 2 ^ (16 - r) := by rw [H_pow, ← Nat.pow_add]; congr 1; omega
  have e3 : H * H = 2 ^ r * (H * 2 ^ (16 - r)) := by
    have : H * H = (2 ^ r * 2 ^ (16 - r)) * H := by rw [← hH]
    rw [this]; ac_rfl
  rw [e3, Nat.mod_mul_right_div_self, Nat.mod_mul_right_mod]

set_option maxRecDepth 100000 in
set_option maxHeartbeats 1000000 in
theorem rshr_any {w : World} {A : Option Addr} {n c x s : Nat} (h : Dg w A n c x) (hn : n ≤ 10000) (hs : s ≤ 1000000) :
    Calls Tryd.prog 44 #[.slice A n c, .int .i64 s] w fun e w' => DGives w (x / 2 ^ s) e w' := by
  have hcap := h.cap
  have hmax := h.max
  obtain ⟨q, hq⟩ : ∃ q, q = s / 16 := ⟨_, rfl⟩
  obtain ⟨r, hr⟩ : ∃ r, r = s % 16 := ⟨_, rfl⟩
  have e1 : (s : Int) / 16 = (q : Int) := by omega
  have e2 : (s : Int) % 16 = (r : Int) := by omega
  have hr4 : r < 16 := by omega
  have hs16 : s = 16 * q + r := by omega
  have hxn := h.lt
  by_cases hle : n ≤ q
  · have HZ : Hid (x / 2 ^ s = 0) := by
      have h2 : x < 2 ^ s := by
        rw [H_pow, ← Nat.pow_mul] at hxn
        exact Nat.lt_of_lt_of_le hxn (Nat.pow_le_pow_right (by omega) (by omega))
      exact Lib.hid (Nat.div_eq_of_lt h2)
    have d1 : decide (n ≤ q) = true := decide_eq_true hle
    clear hq hr hs16 hxn
    go_enter Tryd.func44, Tryd.ntmps44
    go_wp2
    go_ret
    rw [HZ.out]
    exact ⟨_, _, _, rfl, Dg.nil _ _ (by omega), Below.refl _ _⟩
  · obtain ⟨b, o, rfl, hb, hc⟩ := Rd.at_ h (by omega)
    have HE : Hid (x / 2 ^ s % H ^ (n - q) = x / 2 ^ s) := by
      have : x / 2 ^ s < H ^ (n - q) := by
        have e3 : 2 ^ s = H ^ q * 2 ^ r := by rw [hs16, Nat.pow_add, H_pow, ← Nat.pow_mul]
        rw [e3, ← Nat.div_div_eq_div_mul]
        refine Nat.lt_of_le_of_lt (Nat.div_le_self _ _) ?_
        rw [Nat.div_lt_iff_lt_mul (Nat.pow_pos (by rw [H_eq]; omega)), ← Nat.pow_add, Nat.sub_add_cancel (by omega)]
        exact hxn
      exact Lib.hid (Nat.mod_eq_of_lt this)
    have hlt : q < n := by omega
    have HS := Lib.hid hs16
    have d1 : decide (n ≤ q) = false := decide_eq_false hle
    have HC : Hid (∀ j, j < n → w.cell? ⟨b, o + j, none⟩ = some (.int .u32 (((dig H x).getD j 0 : Nat) : Int))) := hc
    have HLT := Lib.hid (lt_dig H_two x)
    clear hq hr hs16 hc hle
    go_enter Tryd.func44, Tryd.ntmps44
    go_wp2
    go_loopg [5, 6] (n - q) (fun g v5 v6 wr => ∃ i j : Nat, ∃ out : List Nat, i + g = n ∧ i = q + j ∧ v6 = .int .i64 i ∧ Own w.heap.size wr 77 .u32 v5 out ∧ out.length = j ∧ Lt H out ∧ val H out = x / 2 ^ s % H ^ j ∧ Below w.heap.size w wr)
    case atStart => exact ⟨q, 0, [], by omega, rfl, rfl, Own.nil _ _ _ _, rfl, Lt.nil, by rw [Nat.pow_zero, Nat.mod_one]; rfl, Below.refl _ _⟩
    case round =>
      obtain ⟨i, j, out, hg, hij, rfl, hown, hlen, hltO, hval, hbw⟩ := hrel
      have HG := Lib.hid hg
      have HV := Lib.hid hval
      have HIJ := Lib.hid hij
      have HL := Lib.hid hlen
      have hin : i ≤ n := by omega
      have hbs := hbw.size
      have hl3 : out.length ≤ 1000000 := by omega
      clear hg hval hij hlen
      by_cases hi : i < n
      · obtain ⟨d, hd⟩ : ∃ d, d = (dig H x).getD i 0 := ⟨_, rfl⟩
        have hcell : wr.cell? ⟨b, o + i, none⟩ = some (.int .u32 (d : Int)) := by rw [hd]; exact (hbw.cell (p := ⟨b, o + i, none⟩) hb).trans (HC.out i hi)
        have hdB : d < 65536 := by rw [hd, ← H_eq]; exact HLT.out.getD (by rw [H_eq]; omega) _
        have HD := Lib.hid hd
        by_cases hi2 : i + 1 < n
        · obtain ⟨e, he⟩ : ∃ e, e = (dig H x).getD (i + 1) 0 := ⟨_, rfl⟩
          have hcell2 : wr.cell? ⟨b, o + (i + 1), none⟩ = some (.int .u32 (e : Int)) := by rw [he]; exact (hbw.cell (p := ⟨b, o + (i + 1), none⟩) hb).trans (HC.out (i + 1) hi2)
          have heB : e < 65536 := by rw [he, ← H_eq]; exact HLT.out.getD (by rw [H_eq]; omega) _
          have hp : decide ((i : Int) + 1 < n) = true := decide_eq_true (by omega)
          have hOr := or32 hdB heB
          rw [Int.emod_eq_of_lt (by omega) (by omega)] at hOr
          obtain ⟨u, hu⟩ : ∃ u, u = d + e * H := ⟨_, rfl⟩
          have huB : u < 4294967296 := by rw [hu, H_eq]; omega
          rw [← hu] at hOr
          obtain ⟨z, hz⟩ : ∃ z, z = u / 2 ^ r % H := ⟨_, rfl⟩
          have hM := mask_shr (r := r) huB
          rw [← hz] at hM
          have hzz : z = x / 2 ^ s / H ^ j % H := by rw [hz, hu, hd, he]; exact shr_digit HS.out hr4 HIJ.out
          have hS := shr_step hzz HL.out hltO HV.out
          have HSS := Lib.hid hS
          clear hd he hu hz hzz hS huB
          go_wp2_with (at_builtin; refine law_app (y := z) Tryd.underlying29 infoD (by decide) rfl _ _ rfl hown hl3 hbs rfl rfl ?_; intro v' w1 hown3 hb3)
          go_roundg (n - (i + 1))
          case measure => have := HG.out; omega
          case rel => exact ⟨i + 1, j + 1, _, by omega, by have := HIJ.out; omega, by go_num, hown3, HSS.out.1, HSS.out.2.1, HSS.out.2.2, hbw.trans hb3⟩
        · have he : (dig H x).getD (i + 1) 0 = 0 := by
            rw [List.getD_eq_getElem?_getD, List.getElem?_eq_none (by rw [h.len]; omega)]; rfl
          obtain ⟨z, hz⟩ : ∃ z, z = d / 2 ^ r % H := ⟨_, rfl⟩
          have hM := mask_shr (u := d) (r := r) (by omega)
          rw [← hz] at hM
          have hzz : z = x / 2 ^ s / H ^ j % H := by
            rw [hz, hd]
            have := shr_digit (x := x) HS.out hr4 HIJ.out
            rwa [he, Nat.zero_mul, Nat.add_zero] at this
          have hS := shr_step hzz HL.out hltO HV.out
          have HSS := Lib.hid hS
          have hp : decide ((i : Int) + 1 < n) = false := decide_eq_false (by omega)
          clear hd he hz hzz hS
          go_wp2_with (at_builtin; refine law_app (y := z) Tryd.underlying29 infoD (by decide) rfl _ _ rfl hown hl3 hbs rfl rfl ?_; intro v' w1 hown3 hb3)
          go_roundg (n - (i + 1))
          case measure => have := HG.out; omega
          case rel => exact ⟨i + 1, j + 1, _, by omega, by have := HIJ.out; omega, by go_num, hown3, HSS.out.1, HSS.out.2.1, HSS.out.2.2, hbw.trans hb3⟩
      · have hi' : j = n - q := by have := HIJ.out; omega
        obtain ⟨A2, c2, rfl, hrd⟩ := hown.rd hltO
        have hv : val H out = x / 2 ^ s := by rw [HV.out, hi', HE.out]
        have hD := rd_rtrim hrd
        rw [hv] at hD
        have HVV := Lib.hid hv
        have HDD := Lib.hid hD
        clear hv hD hown
        go_wp2_with fail
        refine (rtrim_any hrd).mono ?_
        rintro e w' ⟨rfl, rfl⟩
        rw [HVV.out]
        go_wp2
        go_ret
        exact ⟨_, _, _, rfl, HDD.out, hbw⟩
end Go.Proofs.YtdklekiknhhfdaaDoor
