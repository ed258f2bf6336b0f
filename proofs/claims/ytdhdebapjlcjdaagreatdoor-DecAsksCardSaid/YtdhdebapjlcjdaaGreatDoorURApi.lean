/-
 Contracts of nat.Len, Low, Shl, Shr where they tell of what may not be, of nought, or of a great shift, at this translation. Condition: the slice reads as limbs.
-/
import Derived.Test.YtdhdebapjlcjdaaGreatDoorUDn
set_option maxHeartbeats 1000000
set_option maxRecDepth 100000
namespace Go.Proofs.YtdhdebapjlcjdaaGreatDoor
open Go.RowKit

def DGives (w : World) (x : Nat) (e : Ending) (w' : World) : Prop :=
 ∃ A n c, e = .returned (.slice A n c) ∧ Dg w' A n c x ∧ Below w.heap.size w w'
theorem Dg.nil (w : World) (A : Option Addr) {c : Nat} (hc : c ≤ 9223372036854775807) : Dg w A 0 c 0 := by unfold Dg; rw [dig_zero]; exact Rd.nil _ _ _ _ hc

theorem bits_or_u32_nat (a b : Nat) (ha : a < 4294967296) (hb : b < 4294967296) : bits .or .u32 (a : Int) (b : Int) = ((a ||| b : Nat) : Int) := by
 have hlt : a ||| b < 4294967296 := Nat.or_lt_two_pow (n := 32) ha hb
 have cast : ∀ y : Nat, y < 4294967296 → (BitVec.ofInt 32 (y : Int)).toNat = y := fun y hy => by
  rw [BitVec.ofInt_natCast, BitVec.toNat_ofNat]; exact Nat.mod_eq_of_lt hy
 show IntKind.u32.wrap ((BitVec.ofInt 32 (a : Int) ||| BitVec.ofInt 32 (b : Int)).toNat : Int) = _
 rw [BitVec.toNat_or, cast a ha, cast b hb, IntKind.wrap_u32]
 omega
theorem or32 {d e : Nat} (hd : d < 65536) (he : e < 65536) : bits .or .u32 (d : Int) ((e : Int) * 65536 % 4294967296) = ((d + e * H : Nat) : Int) := by
 have e1 : (e : Int) * 65536 % 4294967296 = ((e * 65536 : Nat) : Int) := by omega
 rw [e1, bits_or_u32_nat _ _ (by omega) (by omega)]
 congr 1
 have e2 : e * 65536 = 2 ^ 16 * e := by omega
 rw [e2, Nat.or_comm, ← Nat.two_pow_add_eq_or_of_lt (show d < 2 ^ 16 by omega), H_eq]
 omega
theorem mask_shr {u r : Nat} (hu : u < 4294967296) : bits .and .u32 ((u : Int) / 2 ^ r) 65535 = ((u / 2 ^ r % H : Nat) : Int) := by
 have e : ((2 : Int) ^ r) = ((2 ^ r : Nat) : Int) := by rw [Int.natCast_pow]; rfl
 rw [e, ← Int.natCast_ediv]
 have hz : u / 2 ^ r < 4294967296 := Nat.lt_of_le_of_lt (Nat.div_le_self _ _) hu
 generalize u / 2 ^ r = z at *
 have h := mask16 z
 rwa [Int.emod_eq_of_lt (by omega) (by omega)] at h
theorem shr_step {y j z : Nat} {out : List Nat} (hz : z = y / H ^ j % H) (hl : out.length = j) (hlt : Lt H out) (hv : val H out = y % H ^ j) :
  (out ++ [z]).length = j + 1 ∧ Lt H (out ++ [z]) ∧ val H (out ++ [z]) = y % H ^ (j + 1) := by
 refine ⟨by simp [hl], hlt.append (Lt.cons (by rw [hz]; exact Nat.mod_lt _ (by rw [H_eq]; omega)) Lt.nil), ?_⟩
 rw [val_snoc, hv, hl, hz, Nat.mod_pow_succ]
theorem shr_digit {x i j q r s : Nat} (hs : s = 16 * q + r) (hr : r < 16) (hi : i = q + j) : ((dig H x).getD i 0 + (dig H x).getD (i + 1) 0 * H) / 2 ^ r % H = x / 2 ^ s / H ^ j % H := by
 rw [dig_getD H_two, dig_getD H_two, Nat.pow_succ, ← Nat.div_div_eq_div_mul]
 have e1 : x / 2 ^ s / H ^ j = x / H ^ i / 2 ^ r := by
  rw [Nat.div_div_eq_div_mul, Nat.div_div_eq_div_mul, hs, hi, Nat.pow_add, Nat.pow_add, H_pow, ← Nat.pow_mul, ← Nat.pow_mul]
  congr 1
  ac_rfl
 rw [e1]
 generalize x / H ^ i = z
 have e2 : z % H + z / H % H * H = z % (H * H) := by rw [Nat.mod_mul, Nat.mul_comm H]
 rw [e2]
 have hH : H = 2 ^ r * 2 ^ (16 - r) := by rw [H_pow, ← Nat.pow_add]; congr 1; omega
 have e3 : H * H = 2 ^ r * (H * 2 ^ (16 - r)) := by
  have : H * H = (2 ^ r * 2 ^ (16 - r)) * H := by rw [← hH]
  rw [this]; ac_rfl
 rw [e3, Nat.mod_mul_right_div_self, Nat.mod_mul_right_mod]

theorem rshr_any {w : World} {A : Option Addr} {n c x s : Nat} (h : Dg w A n c x) (hn : n ≤ 10000) (hs : s ≤ 1000000) :
  Calls Tryz.prog 67 #[.slice A n c, .int .i64 s] w fun e w' => DGives w (x / 2 ^ s) e w' := by
 have hcap := h.cap
 have hmax := h.max
 obtain ⟨q, hq⟩ : ∃ q, q = s / 16 := ⟨_, rfl⟩
 obtain ⟨r, hr⟩ : ∃ r, r = s % 16 := ⟨_, rfl⟩
 have e1 : (s : Int) / 16 = (q : Int) := by omega
 have e2 : (s : Int) % 16 = (r : Int) := by omega
 have hr4 : r < 16 := by omega
 have hs16 : s = 16 * q + r := by omega
 have hxn := h.lt
 by_cases hle : n ≤ q
 ·have HZ : Hid (x / 2 ^ s = 0) := by
   have h2 : x < 2 ^ s := by
    rw [H_pow, ← Nat.pow_mul] at hxn
    exact Nat.lt_of_lt_of_le hxn (Nat.pow_le_pow_right (by omega) (by omega))
   exact Lib.hid (Nat.div_eq_of_lt h2)
  have d1 : decide (n ≤ q) = true := decide_eq_true hle
  clear hq hr hs16 hxn
  go_enter Tryz.func67, Tryz.ntmps67
  go_wp2
  go_ret
  rw [HZ.out]
  exact ⟨_, _, _, rfl, Dg.nil _ _ (by omega), Below.refl _ _⟩
 ·obtain ⟨b, o, rfl, hb, hc⟩ := Rd.at_ h (by omega)
  have HE : Hid (x / 2 ^ s % H ^ (n - q) = x / 2 ^ s) := by
   have : x / 2 ^ s < H ^ (n - q) := by
    have e3 : 2 ^ s = H ^ q * 2 ^ r := by rw [hs16, Nat.pow_add, H_pow, ← Nat.pow_mul]
    rw [e3, ← Nat.div_div_eq_div_mul]
    refine Nat.lt_of_le_of_lt (Nat.div_le_self _ _) ?_
    rw [Nat.div_lt_iff_lt_mul (Nat.pow_pos (by rw [H_eq]; omega)), ← Nat.pow_add, Nat.sub_add_cancel (by omega)]
    exact hxn
   exact Lib.hid (Nat.mod_eq_of_lt this)
  have hlt : q < n := by omega
  have HS := Lib.hid hs16
  have d1 : decide (n ≤ q) = false := decide_eq_false hle
  have HC : Hid (∀ j, j < n → w.cell? ⟨b, o + j, none⟩ = some (.int .u32 (((dig H x).getD j 0 : Nat) : Int))) := hc
  have HLT := Lib.hid (lt_dig H_two x)
  clear hq hr hs16 hc hle
  go_enter Tryz.func67, Tryz.ntmps67
  go_wp2
  go_loopg [5, 6] (n - q) (fun g v5 v6 wr => ∃ i j : Nat, ∃ out : List Nat, i + g = n ∧ i = q + j ∧ v6 = .int .i64 i ∧ Own w.heap.size wr 59 .u32 v5 out ∧ out.length = j ∧ Lt H out ∧ val H out = x / 2 ^ s % H ^ j ∧ Below w.heap.size w wr)
  case atStart => exact ⟨q, 0, [], by omega, rfl, rfl, Own.nil _ _ _ _, rfl, Lt.nil, by rw [Nat.pow_zero, Nat.mod_one]; rfl, Below.refl _ _⟩
  case round =>
   obtain ⟨i, j, out, hg, hij, rfl, hown, hlen, hltO, hval, hbw⟩ := hrel
   have HG := Lib.hid hg
   have HV := Lib.hid hval
   have HIJ := Lib.hid hij
   have HL := Lib.hid hlen
   have hin : i ≤ n := by omega
   have hbs := hbw.size
   have hl3 : out.length ≤ 1000000 := by omega
   clear hg hval hij hlen
   by_cases hi : i < n
   ·obtain ⟨d, hd⟩ : ∃ d, d = (dig H x).getD i 0 := ⟨_, rfl⟩
    have hcell : wr.cell? ⟨b, o + i, none⟩ = some (.int .u32 (d : Int)) := by rw [hd]; exact (hbw.cell (p := ⟨b, o + i, none⟩) hb).trans (HC.out i hi)
    have hdB : d < 65536 := by rw [hd, ← H_eq]; exact HLT.out.getD (by rw [H_eq]; omega) _
    have HD := Lib.hid hd
    by_cases hi2 : i + 1 < n
    ·obtain ⟨e, he⟩ : ∃ e, e = (dig H x).getD (i + 1) 0 := ⟨_, rfl⟩
     have hcell2 : wr.cell? ⟨b, o + (i + 1), none⟩ = some (.int .u32 (e : Int)) := by rw [he]; exact (hbw.cell (p := ⟨b, o + (i + 1), none⟩) hb).trans (HC.out (i + 1) hi2)
     have heB : e < 65536 := by rw [he, ← H_eq]; exact HLT.out.getD (by rw [H_eq]; omega) _
     have hp : decide ((i : Int) + 1 < n) = true := decide_eq_true (by omega)
     have hOr := or32 hdB heB
     rw [Int.emod_eq_of_lt (by omega) (by omega)] at hOr
     obtain ⟨u, hu⟩ : ∃ u, u = d + e * H := ⟨_, rfl⟩
     have huB : u < 4294967296 := by rw [hu, H_eq]; omega
     rw [← hu] at hOr
     obtain ⟨z, hz⟩ : ∃ z, z = u / 2 ^ r % H := ⟨_, rfl⟩
     have hM := mask_shr (r := r) huB
     rw [← hz] at hM
     have hzz : z = x / 2 ^ s / H ^ j % H := by rw [hz, hu, hd, he]; exact shr_digit HS.out hr4 HIJ.out
     have hS := shr_step hzz HL.out hltO HV.out
     have HSS := Lib.hid hS
     clear hd he hu hz hzz hS huB
     go_wp2_with (at_builtin; refine law_app (y := z) Tryz.underlying54 infoD (by decide) rfl _ _ rfl hown hl3 hbs rfl rfl ?_; intro v' w1 hown3 hb3)
     go_roundg (n - (i + 1))
     case measure => have := HG.out; omega
     case rel => exact ⟨i + 1, j + 1, _, by omega, by have := HIJ.out; omega, by go_num, hown3, HSS.out.1, HSS.out.2.1, HSS.out.2.2, hbw.trans hb3⟩
    ·have he : (dig H x).getD (i + 1) 0 = 0 := by
      rw [List.getD_eq_getElem?_getD, List.getElem?_eq_none (by rw [h.len]; omega)]; rfl
     obtain ⟨z, hz⟩ : ∃ z, z = d / 2 ^ r % H := ⟨_, rfl⟩
     have hM := mask_shr (u := d) (r := r) (by omega)
     rw [← hz] at hM
     have hzz : z = x / 2 ^ s / H ^ j % H := by
      rw [hz, hd]
      have := shr_digit (x := x) HS.out hr4 HIJ.out
      rwa [he, Nat.zero_mul, Nat.add_zero] at this
     have hS := shr_step hzz HL.out hltO HV.out
     have HSS := Lib.hid hS
     have hp : decide ((i : Int) + 1 < n) = false := decide_eq_false (by omega)
     clear hd he hz hzz hS
     go_wp2_with (at_builtin; refine law_app (y := z) Tryz.underlying54 infoD (by decide) rfl _ _ rfl hown hl3 hbs rfl rfl ?_; intro v' w1 hown3 hb3)
     go_roundg (n - (i + 1))
     case measure => have := HG.out; omega
     case rel => exact ⟨i + 1, j + 1, _, by omega, by have := HIJ.out; omega, by go_num, hown3, HSS.out.1, HSS.out.2.1, HSS.out.2.2, hbw.trans hb3⟩
   ·have hi' : j = n - q := by have := HIJ.out; omega
    obtain ⟨A2, c2, rfl, hrd⟩ := hown.rd hltO
    have hv : val H out = x / 2 ^ s := by rw [HV.out, hi', HE.out]
    have hD := rd_rtrim hrd
    rw [hv] at hD
    have HVV := Lib.hid hv
    have HDD := Lib.hid hD
    clear hv hD hown
    go_wp2_with fail
    refine (rtrim_any hrd).mono ?_
    rintro e w' ⟨rfl, rfl⟩
    rw [HVV.out]
    go_wp2
    go_ret
    exact ⟨_, _, _, rfl, HDD.out, hbw⟩
end Go.Proofs.YtdhdebapjlcjdaaGreatDoor

namespace Go.Proofs.YtdhdebapjlcjdaaGreatDoor
open Go.RowKit

theorem law_makeD {ops : Array Oper} {rest : List Oper} {o : Oper} {a : Act} {Q : Exit → Act → World → Prop} {w : World} (hg : o.guard = none) (x : Operand) (hop : o.op = Op.makeSlice 54 x x)
  (C : Int) (n : Nat) (hx : a.eval x = .int .i64 C) (hC : C = (n : Int)) (hn : n ≤ 17592186044416)
  (hK : ∀ w', Own w.heap.size w' 59 .u32 (.slice (some ⟨w.heap.size, 0, none⟩) n n) (List.replicate n 0) → w.grownBy w' none → wpList Tryz.prog ops Q rest (a.put o.dst (.slice (some ⟨w.heap.size, 0, none⟩) n n)) w') : wpList Tryz.prog ops Q (o :: rest) a w := by
 obtain ⟨i0, hi, hz0, hz1, hz2⟩ := info_parts infoD
 refine wpList_make_full w hg x x 54 hop w.heap.size 59 i0 (.int .u32 0) 1 Tryz.underlying54 hi hz0 hz1 .i64 .i64 C C n hx hx hC hC (by rw [hz2]; omega) (by unfold maxLen; omega) (Nat.le_refl _)
  (fun w' h1 h2 => hK w' ?_ h2)
 unfold Own
 rw [List.length_replicate, iv_replicate]
 have e : (madeCells (Value.cells (.int .u32 0)) (n * 1)).toList = List.replicate n (Value.int .u32 0) := by
  have := toList_madeCells_one (Value.int .u32 0) (n * 1)
  rw [Nat.mul_one] at this ⊢
  exact this
 rw [← e]
 exact h1

theorem mask32 {u : Nat} (hu : u < 4294967296) : bits .and .u32 (u : Int) 65535 = ((u % H : Nat) : Int) := by
 have h := mask16 u
 rwa [Int.emod_eq_of_lt (by omega) (by omega)] at h
theorem or32_up {d c r : Nat} (hd : d < 65536) (hr : r < 16) (hc : c < 2 ^ r) : bits .or .u32 ((d : Int) * 2 ^ r % 4294967296) (c : Int) = ((d * 2 ^ r + c : Nat) : Int) ∧ d * 2 ^ r + c < 4294967296 := by
 have hp : 2 ^ r ≤ 2 ^ 15 := Nat.pow_le_pow_right (by omega) (by omega)
 have h1 : d * 2 ^ r ≤ d * 2 ^ 15 := Nat.mul_le_mul_left _ hp
 have e1 : (d : Int) * 2 ^ r % 4294967296 = ((d * 2 ^ r : Nat) : Int) := by
  have e : ((2 : Int) ^ r) = ((2 ^ r : Nat) : Int) := by rw [Int.natCast_pow]; rfl
  rw [e, ← Int.natCast_mul]
  generalize d * 2 ^ r = z at *
  omega
 refine ⟨?_, by omega⟩
 rw [e1, bits_or_u32_nat _ _ (by omega) (by omega), Nat.mul_comm d, ← Nat.two_pow_add_eq_or_of_lt hc]
theorem shl_step {l out : List Nat} {i q r s d c u z c' : Nat} (hs : s = 16 * q + r) (hd : d = l.getD i 0) (hdB : d < H) (hu : u = d * 2 ^ r + c) (hz : z = u % H) (hc' : c' = u / H) (hc : c < 2 ^ r)
  (hl : out.length = q + i) (hlt : Lt H out) (hv : val H out + H ^ (q + i) * c = val H (l.take i) * 2 ^ s) :
  (out ++ [z]).length = q + (i + 1) ∧ Lt H (out ++ [z]) ∧ val H (out ++ [z]) + H ^ (q + (i + 1)) * c' = val H (l.take (i + 1)) * 2 ^ s ∧ c' < 2 ^ r := by
 refine ⟨by simp [hl]; omega, hlt.append (Lt.cons (by rw [hz]; exact Nat.mod_lt _ (by rw [H_eq]; omega)) Lt.nil), ?_, ?_⟩
 ·have e1 : z + H * c' = d * 2 ^ r + c := by rw [hz, hc', ← hu]; exact Nat.mod_add_div _ _
  have e2 : 2 ^ s = H ^ q * 2 ^ r := by rw [hs, Nat.pow_add, H_pow, ← Nat.pow_mul]
  have e3 : H ^ (q + i) * (z + H * c') = H ^ (q + i) * (d * 2 ^ r) + H ^ (q + i) * c := by rw [e1, Nat.mul_add]
  rw [val_snoc, hl, take_val', ← hd, ← Nat.add_assoc, Nat.pow_succ, Nat.mul_assoc, Nat.add_mul, ← hv]
  have e4 : H ^ i * d * 2 ^ s = H ^ (q + i) * (d * 2 ^ r) := by rw [e2, Nat.pow_add]; ac_rfl
  rw [e4]
  rw [Nat.mul_add] at e3
  omega
 ·rw [hc', Nat.div_lt_iff_lt_mul (by rw [H_eq]; omega), hu]
  have : (d + 1) * 2 ^ r ≤ H * 2 ^ r := Nat.mul_le_mul_right _ hdB
  rw [Nat.add_mul, Nat.one_mul] at this
  rw [Nat.mul_comm (2 ^ r) H]
  omega

theorem rshl_any {w : World} {A : Option Addr} {n c x s : Nat} (h : Dg w A n c x) (hn : n ≤ 10000) (hs : s ≤ 1000000) :
  Calls Tryz.prog 69 #[.slice A n c, .int .i64 s] w fun e w' => DGives w (x * 2 ^ s) e w' := by
 have hcap := h.cap
 have hmax := h.max
 by_cases h0 : n = 0
 ·have hx := h.zero.1 h0
  subst h0
  rw [hx] at h ⊢
  rw [Nat.zero_mul]
  go_enter Tryz.func69, Tryz.ntmps69
  go_wp2
  go_ret
  exact ⟨_, _, _, rfl, h, Below.refl _ _⟩
 ·obtain ⟨q, hq⟩ : ∃ q, q = s / 16 := ⟨_, rfl⟩
  obtain ⟨r, hr⟩ : ∃ r, r = s % 16 := ⟨_, rfl⟩
  have e1 : (s : Int) / 16 = (q : Int) := by omega
  have e2 : (s : Int) % 16 = (r : Int) := by omega
  have hr4 : r < 16 := by omega
  have hs16 : s = 16 * q + r := by omega
  have hq6 : q ≤ 62500 := by omega
  have HS := Lib.hid hs16
  obtain ⟨b, o, rfl, hb, hc⟩ := Rd.at_ h h0
  have f0 : ((n : Int) == 0) = false := by simp [h0]
  have HC : Hid (∀ j, j < n → w.cell? ⟨b, o + j, none⟩ = some (.int .u32 (((dig H x).getD j 0 : Nat) : Int))) := hc
  have HLT := Lib.hid (lt_dig H_two x)
  have HP : Hid (0 < 2 ^ r) := Lib.hid (Nat.pow_pos Nat.zero_lt_two)
  clear hq hr hs16 hc h0
  go_enter Tryz.func69, Tryz.ntmps69
  go_wp2_with (at_make; refine law_makeD rfl (.tmp 14) rfl _ q rfl (by omega) (by omega) ?_; intro w1 hown1 hgrow1)
  have hb1 := below_none hgrow1
  go_loopg [5, 6, 7] n (fun g v5 v6 v7 wr => ∃ i cc : Nat, ∃ out : List Nat, i + g = n ∧ v7 = .int .i64 i ∧ v6 = .int .u32 cc ∧ cc < 2 ^ r ∧ Own w.heap.size wr 59 .u32 v5 out ∧ out.length = q + i ∧ Lt H out ∧ val H out + H ^ (q + i) * cc = val H ((dig H x).take i) * 2 ^ s ∧ Below w.heap.size w wr)
  case atStart => exact ⟨0, 0, _, by omega, rfl, rfl, HP.out, hown1, by simp, Lt.replicate _ (by rw [H_eq]; omega), by rw [val_replicate]; simp [val], hb1⟩
  case round =>
   obtain ⟨i, cc, out, hg, rfl, rfl, hcc, hown, hlen, hltO, hval, hbw⟩ := hrel
   have HG := Lib.hid hg
   have HV := Lib.hid hval
   have HL := Lib.hid hlen
   have HCC := Lib.hid hcc
   have hin : i ≤ n := by omega
   have hbs := hbw.size
   have hl3 : out.length ≤ 1000000 := by have := hlen; omega
   clear hg hval hlen hcc
   by_cases hi : i < n
   ·obtain ⟨d, hd⟩ : ∃ d, d = (dig H x).getD i 0 := ⟨_, rfl⟩
    have hcell : wr.cell? ⟨b, o + i, none⟩ = some (.int .u32 (d : Int)) := by rw [hd]; exact (hbw.cell (p := ⟨b, o + i, none⟩) hb).trans (HC.out i hi)
    have hdB : d < H := by rw [hd]; exact HLT.out.getD (by rw [H_eq]; omega) _
    obtain ⟨hOr, huB⟩ := or32_up (by rw [← H_eq]; exact hdB) hr4 HCC.out
    obtain ⟨u, hu⟩ : ∃ u, u = d * 2 ^ r + cc := ⟨_, rfl⟩
    rw [← hu] at hOr huB
    obtain ⟨z, hz⟩ : ∃ z, z = u % H := ⟨_, rfl⟩
    obtain ⟨c', hc'⟩ : ∃ c', c' = u / H := ⟨_, rfl⟩
    have hM := mask32 huB
    rw [← hz] at hM
    have hD16 : (u : Int) / 65536 = (c' : Int) := by rw [hc', H_eq]; omega
    have hS := shl_step HS.out hd hdB hu hz hc' HCC.out HL.out hltO HV.out
    have HSS := Lib.hid hS
    clear hd hdB hu huB hz hc' hS
    go_wp2_with (at_builtin; refine law_app (y := z) Tryz.underlying54 infoD (by decide) rfl _ _ rfl hown hl3 hbs rfl rfl ?_; intro v' w2 hown3 hb3)
    go_roundg (n - (i + 1))
    case measure => have := HG.out; omega
    case rel => exact ⟨i + 1, c', _, by omega, by go_num, by go_num, HSS.out.2.2.2, hown3, HSS.out.1, HSS.out.2.1, HSS.out.2.2.1, hbw.trans hb3⟩
   ·have hi' : i = n := by omega
    have hccH : cc < H := by
     have : 2 ^ r ≤ 2 ^ 15 := Nat.pow_le_pow_right (by omega) (by omega)
     have := HCC.out
     rw [H_eq]; omega
    have hF : val H (out ++ [cc]) = x * 2 ^ s := by
     rw [val_snoc, HL.out, HV.out, List.take_of_length_le (by rw [h.len]; omega), val_dig H_two]
    have hlt3 : Lt H (out ++ [cc]) := hltO.append (Lt.cons hccH Lt.nil)
    have HF := Lib.hid hF
    clear hF hccH
    go_wp2_with (at_builtin; refine law_app (y := cc) Tryz.underlying54 infoD (by decide) rfl _ _ rfl hown hl3 hbs rfl rfl ?_; intro v' w2 hown3 hb3)
    have hbz := hbw.trans hb3
    obtain ⟨A2, c2, rfl, hrd⟩ := hown3.rd hlt3
    have hD := rd_rtrim hrd
    rw [HF.out] at hD
    have HDD := Lib.hid hD
    clear hD hown hown3 hbw hb3
    go_wp2_with fail
    refine (rtrim_any hrd).mono ?_
    rintro e w' ⟨rfl, rfl⟩
    rw [HF.out]
    go_wp2
    go_ret
    exact ⟨_, _, _, rfl, HDD.out, hbz⟩
end Go.Proofs.YtdhdebapjlcjdaaGreatDoor

namespace Go.Proofs.YtdhdebapjlcjdaaGreatDoor
open Go.RowKit

theorem low_bad {w : World} {A : Option Addr} {n c : Nat} {l : List Nat} (h : Rd w .u64 W A n c l) (hb : mayB l = false) : Calls Tryz.prog 79 #[.slice A n c] w fun e w' => e = .returned (.int .i64 (-1)) ∧ w = w' := by
 go_enter Tryz.func79, Tryz.ntmps79
 go_wp2
 go_step3
 go_wp2_with fail
 refine (may_no h hb).mono ?_
 rintro e w' ⟨rfl, rfl⟩
 go_wp2
 rw [Exit.noGoto_ret]
 go_ret
 exact ⟨rfl, rfl⟩
theorem shl_nought {w : World} {A : Option Addr} {c s : Nat} (h : Nt w A 0 c 0) :
  Calls Tryz.prog 136 #[.slice A 0 c, .int .i64 s] w fun e w' => e = .returned (.tuple #[.slice none 0 0, .int .i64 0]) ∧ w = w' := by
 go_enter Tryz.func136, Tryz.ntmps136
 go_wp2_with fail
 refine (may_nt h).mono ?_
 rintro e w' ⟨rfl, rfl⟩
 go_wp2
 go_ret2
 exact ⟨rfl, rfl⟩
theorem dg_small {w : World} {A : Option Addr} {n c x k : Nat} (h : Dg w A n c x) (hx : x < H ^ k) : n ≤ k := by
 rw [← h.len]; exact (len_dig H_two x k).2 hx
end Go.Proofs.YtdhdebapjlcjdaaGreatDoor
