/-
  Contracts of nat.lowered and nat.bitLen at this translation. Condition: the slice reads as limbs, of at most a million, the shift is at most a million times 64.
-/
import Derived.Test.YtkpcmgfpmekkjaaDoorQOps
import Derived.Test.YtkpcmgfpmekkjaaDoorQTake
import Derived.Test.YtkpcmgfpmekkjaaDoorQGuessN
import Derived.Deep.DeepFit
import Derived.BigRegion
namespace Go.Proofs.YtkpcmgfpmekkjaaDoor
open Go.RowKit

/-- the end of a call that hands back a natural in limbs -/
def Gives (w : World) (x : Nat) (e : Ending) (w' : World) : Prop :=
  ∃ A n c, e = .returned (.slice A n c) ∧ Rd w' .u64 W A n c (dig W x) ∧ Below w.heap.size w w'

theorem rd_trimmed {w : World} {A : Option Addr} {n c : Nat} {l : List Nat} (h : Rd w .u64 W A n c l) : Rd w .u64 W A (dig W (val W l)).length c (dig W (val W l)) := by
  obtain ⟨h1, h2⟩ := take_dig W_two h.lt
  have := h.take (m := (dig W (val W l)).length) (by rw [← h.len]; exact h1)
  rw [h2] at this
  exact this

set_option maxRecDepth 100000 in
set_option maxHeartbeats 400000 in
theorem sum_le {w : World} {A B : Option Addr} {n c m d : Nat} {l r : List Nat} (h : Rd w .u64 W A n c l) (h' : Rd w .u64 W B m d r) (hmn : m ≤ n) (hn : n ≤ 1000000) :
    Calls Tryd.prog 98 #[.slice A n c, .slice B m d] w fun e w' => Gives w (val W l + val W r) e w' := by
  have hlt : decide (n < m) = false := by simpa using hmn
  obtain ⟨L, hL⟩ : ∃ L, L = l ++ (List.replicate (n + 1) 0).drop n := ⟨_, rfl⟩
  have HL := Lib.hid hL
  have HLL : Hid (L.length = n + 1) := by unfold Hid; rw [hL]; simp [h.len]
  have HLT : Hid (Lt W L) := by unfold Hid; rw [hL]; exact h.lt.append ((Lt.replicate _ (by rw [W_eq]; omega)).drop _)
  clear hL
  go_enter Tryd.func98, Tryd.ntmps98
  go_wp2_with (first
    | (at_make; refine law_make rfl (.tmp 15) rfl _ (n + 1) rfl (by omega) (by omega) ?_; intro w1 hrow1 hgrow1)
    | ((with_reducible show wpList _ _ _ _ _ _); refine law_copy (o := ⟨some 19, _, _, _, _, _⟩) rfl (.tmp 17) (.tmp 18) rfl w.heap.size (n + 1) (n + 1) rfl A n c rfl (List.replicate (n + 1) 0) l hrow1 (by simp) (h.grownNone hgrow1) (by omega) ?_; intro w2 hrow2 hgrow2; rw [← HL.out] at hrow2))
  refine (addTimes_any (x := 1) hrow2 HLT.out HLL.out (Nat.le_refl _) (by omega) ((h'.grownNone hgrow1).grown hgrow2 ?hn) (by omega) ?hn (by omega)).mono ?_
  case hn =>
    intro h0 a ha
    obtain ⟨b, o, e, hb, _⟩ := h'.at_ h0
    rw [e] at ha
    injection ha with ha
    subst ha
    show b ≠ _
    omega
  rintro e w3 ⟨rfl, xs', ca, hrow3, hgrow3, hlen3, hlt3, hval3⟩
  have hv := sum_of W_two h.len h'.len hmn h.lt h'.lt HL.out hval3
  have hb3 : Below w.heap.size w w3 := (((Below.refl _ _).grown hgrow1 (Nat.le_refl _) (fun _ e => by cases e)).grown hgrow2 (by have := hgrow1.size; omega) (fun k e => by injection e with e; omega)).grown hgrow3 (by have := hgrow1.size; have := hgrow2.size; omega) (fun k e => by injection e with e; omega)
  have hrd3 := hrow3.rd' hlt3 (hlen3.trans HLL.out) (Nat.le_refl _) (by omega)
  have HV := Lib.hid hv
  clear hv hval3 hlen3
  go_wp2_with fail
  refine (trimmed_any hrd3).mono ?_
  rintro e w' ⟨rfl, rfl⟩
  rw [HV.out]
  have hrd4 := rd_trimmed hrd3
  rw [HV.out] at hrd4
  go_wp2
  go_ret
  exact ⟨_, _, _, rfl, hrd4, hb3⟩

set_option maxRecDepth 100000 in
set_option maxHeartbeats 400000 in
theorem sum_gt {w : World} {A B : Option Addr} {n c m d : Nat} {l r : List Nat} (h : Rd w .u64 W A n c l) (h' : Rd w .u64 W B m d r) (hmn : n < m) (hm : m ≤ 1000000) :
    Calls Tryd.prog 98 #[.slice A n c, .slice B m d] w fun e w' => Gives w (val W l + val W r) e w' := by
  have hlt : decide (n < m) = true := by simpa using hmn
  obtain ⟨L, hL⟩ : ∃ L, L = r ++ (List.replicate (m + 1) 0).drop m := ⟨_, rfl⟩
  have HL := Lib.hid hL
  have HLL : Hid (L.length = m + 1) := by unfold Hid; rw [hL]; simp [h'.len]
  have HLT : Hid (Lt W L) := by unfold Hid; rw [hL]; exact h'.lt.append ((Lt.replicate _ (by rw [W_eq]; omega)).drop _)
  clear hL
  go_enter Tryd.func98, Tryd.ntmps98
  go_wp2_with (first
    | (at_make; refine law_make rfl (.tmp 15) rfl _ (m + 1) rfl (by omega) (by omega) ?_; intro w1 hrow1 hgrow1)
    | ((with_reducible show wpList _ _ _ _ _ _); refine law_copy (o := ⟨some 19, _, _, _, _, _⟩) rfl (.tmp 17) (.tmp 18) rfl w.heap.size (m + 1) (m + 1) rfl B m d rfl (List.replicate (m + 1) 0) r hrow1 (by simp) (h'.grownNone hgrow1) (by omega) ?_; intro w2 hrow2 hgrow2; rw [← HL.out] at hrow2))
  refine (addTimes_any (x := 1) hrow2 HLT.out HLL.out (Nat.le_refl _) (by omega) ((h.grownNone hgrow1).grown hgrow2 ?hn) (by omega) ?hn (by omega)).mono ?_
  case hn =>
    intro h0 a ha
    obtain ⟨b, o, e, hb, _⟩ := h.at_ h0
    rw [e] at ha
    injection ha with ha
    subst ha
    show b ≠ _
    omega
  rintro e w3 ⟨rfl, xs', ca, hrow3, hgrow3, hlen3, hlt3, hval3⟩
  have hv := sum_of W_two h'.len h.len (Nat.le_of_lt hmn) h'.lt h.lt HL.out hval3
  have hb3 : Below w.heap.size w w3 := (((Below.refl _ _).grown hgrow1 (Nat.le_refl _) (fun _ e => by cases e)).grown hgrow2 (by have := hgrow1.size; omega) (fun k e => by injection e with e; omega)).grown hgrow3 (by have := hgrow1.size; have := hgrow2.size; omega) (fun k e => by injection e with e; omega)
  have hrd3 := hrow3.rd' hlt3 (hlen3.trans HLL.out) (Nat.le_refl _) (by omega)
  have HV := Lib.hid hv
  clear hv hval3 hlen3
  go_wp2_with fail
  refine (trimmed_any hrd3).mono ?_
  rintro e w' ⟨rfl, rfl⟩
  rw [HV.out, Nat.add_comm (val W r)]
  have hrd4 := rd_trimmed hrd3
  rw [HV.out, Nat.add_comm (val W r)] at hrd4
  go_wp2
  go_ret
  exact ⟨_, _, _, rfl, hrd4, hb3⟩

/-- nat.sum: what both are together. -/
theorem sum_any {w : World} {A B : Option Addr} {n c m d : Nat} {l r : List Nat} (h : Rd w .u64 W A n c l) (h' : Rd w .u64 W B m d r) (hn : n ≤ 1000000) (hm : m ≤ 1000000) :
    Calls Tryd.prog 98 #[.slice A n c, .slice B m d] w fun e w' => Gives w (val W l + val W r) e w' := by
  rcases Nat.lt_or_ge n m with hlt | hge
  · exact sum_gt h h' hlt hm
  · exact sum_le h h' hge hn
end Go.Proofs.YtkpcmgfpmekkjaaDoor

namespace Go.Proofs.YtkpcmgfpmekkjaaDoor
open Go.RowKit

theorem val_take_skip {l : List Nat} {i : Nat} (h : l.getD i 0 = 0) : val W (l.take (i + 1)) = val W (l.take i) := by
  rw [take_val, h, Nat.mul_zero, Nat.add_zero]

end Go.Proofs.YtkpcmgfpmekkjaaDoor

namespace Go.Proofs.YtkpcmgfpmekkjaaDoor
open Go.RowKit

/-- what holds of the raised limbs ahead of limb i -/
def SpreadRel (w1 : World) (g len : Nat) (l : List Nat) (wh P i : Nat) (wr : World) : Prop :=
  ∃ cur, Row wr g 52 .u64 0 [] cur [] ∧ cur.length = len ∧ Lt W cur ∧ val W cur = val W (l.take i) * P * W ^ wh ∧ (∀ j, wh + i + 1 ≤ j → cur.getD j 0 = 0) ∧ cur.getD (wh + i) 0 < P ∧ w1.grownBy wr (some g)

def SpreadDone (w : World) (n s : Nat) (l : List Nat) (e : Ending) (w' : World) : Prop :=
  ∃ g cur, e = .returned (.slice (some ⟨g, 0, none⟩) (n + s / 64 + 1) (n + s / 64 + 1)) ∧ w.heap.size ≤ g ∧ Row w' g 52 .u64 0 [] cur [] ∧ cur.length = n + s / 64 + 1 ∧ Lt W cur ∧ val W cur = val W l * 2 ^ s ∧ Below w.heap.size w w'

theorem getD_replicate (n j : Nat) : (List.replicate n 0).getD j 0 = 0 := by
  rw [List.getD_eq_getElem?_getD, List.getElem?_replicate]
  split <;> rfl

theorem spread_next {l cur : List Nat} {len wh pt i x : Nat} (hpt : pt < 64) (hx : x = l.getD i 0) (hxB : x < W) (hi : wh + i + 1 < len) (hlen : cur.length = len) (hlt : Lt W cur) (hv : val W cur = val W (l.take i) * 2 ^ pt * W ^ wh)
    (hz : ∀ j, wh + i + 1 ≤ j → cur.getD j 0 = 0) (hy : cur.getD (wh + i) 0 < 2 ^ pt) :
    (((cur.set (wh + i) (cur.getD (wh + i) 0 + x * 2 ^ pt % W)).set (wh + i + 1) (x / 2 ^ (64 - pt))).length = len ∧ Lt W ((cur.set (wh + i) (cur.getD (wh + i) 0 + x * 2 ^ pt % W)).set (wh + i + 1) (x / 2 ^ (64 - pt)))) ∧
    val W ((cur.set (wh + i) (cur.getD (wh + i) 0 + x * 2 ^ pt % W)).set (wh + i + 1) (x / 2 ^ (64 - pt))) = val W (l.take (i + 1)) * 2 ^ pt * W ^ wh ∧
    (∀ j, wh + (i + 1) + 1 ≤ j → ((cur.set (wh + i) (cur.getD (wh + i) 0 + x * 2 ^ pt % W)).set (wh + i + 1) (x / 2 ^ (64 - pt))).getD j 0 = 0) ∧
    ((cur.set (wh + i) (cur.getD (wh + i) 0 + x * 2 ^ pt % W)).set (wh + i + 1) (x / 2 ^ (64 - pt))).getD (wh + (i + 1)) 0 < 2 ^ pt := by
  have hP : 0 < 2 ^ pt := Nat.pow_pos (by omega)
  have hQ : 0 < 2 ^ (64 - pt) := Nat.pow_pos (by omega)
  have hB := two_pow_split (p := pt) (by omega)
  have ho := over_lt hB hQ hxB
  have hPW : 2 ^ pt ≤ W := by rw [← hB]; exact Nat.le_mul_of_pos_right _ hQ
  refine ⟨⟨by simp [hlen], (hlt.set _ (part_lt hB hQ hy)).set _ (Nat.lt_of_lt_of_le ho hPW)⟩, spread_step hB hP (by rw [hlen]; exact hi) hx rfl (hz _ (Nat.le_refl _)) hv, fun j hj => ?_, ?_⟩
  · rw [getD_set_other (by omega), getD_set_other (by omega)]
    exact hz j (by omega)
  · rw [← Nat.add_assoc, getD_set_self (by rw [List.length_set, hlen]; exact hi)]
    exact ho

set_option maxHeartbeats 400000 in
theorem spread_any {w : World} {A : Option Addr} {n c s : Nat} {l : List Nat} (h : Rd w .u64 W A n c l) (hn : n ≤ 1000000) (hs : s ≤ 64000000) :
    Calls Tryd.prog 89 #[.slice A n c, .int .i64 s] w fun e w' => SpreadDone w n s l e w' := by
  obtain ⟨wh, hwh⟩ : ∃ wh, wh = s / 64 := ⟨_, rfl⟩
  obtain ⟨pt, hpt⟩ : ∃ pt, pt = s % 64 := ⟨_, rfl⟩
  have hwh1 : wh ≤ 1000000 := by omega
  have hpt1 : pt < 64 := by omega
  have e1 : (s : Int) / 64 = (wh : Int) := by omega
  have e2 : (s : Int) % 64 = (pt : Int) := by omega
  have HW := Lib.hid hwh
  have HP := Lib.hid hpt
  have HPP : Hid (0 < 2 ^ pt) := Nat.pow_pos (by omega)
  clear hwh hpt
  go_enter Tryd.func89, Tryd.ntmps89
  go_wp2
  go_step3
  go_wp2_with (at_make; refine law_make rfl (.tmp 18) rfl _ (n + wh + 1) rfl (by omega) (by omega) ?_; intro w1 hrow1 hgrow1)
  go_step3
  go_wp2
  clear e1 e2
  have hs1 := hgrow1.size
  have NE : Hid (n ≠ 0 → ∀ a, A = some a → a.block ≠ w.heap.size) := by
    intro h0 a ha
    obtain ⟨b, o, e, hb, _⟩ := h.at_ h0
    rw [e] at ha
    injection ha with ha
    subst ha
    show b ≠ _
    omega
  go_loopg [22] n (fun g vi wr => ∃ i : Nat, i + g = n ∧ vi = .int .i64 i ∧ SpreadRel w1 w.heap.size (n + wh + 1) l wh (2 ^ pt) i wr)
  case atStart => exact ⟨0, by omega, rfl, _, hrow1, by simp, Lt.replicate _ (by rw [W_eq]; omega), by rw [val_replicate]; simp [val], fun j _ => getD_replicate _ _, by rw [getD_replicate]; exact HPP.out, World.grownBy.refl _ _⟩
  case round =>
    obtain ⟨i, hg, rfl, cur, hrow, hlen, hlt, hval, hz, hy, hgrow⟩ := hrel
    have HG := Lib.hid hg
    have HL := Lib.hid hlen
    have HV := Lib.hid hval
    have HZ : Hid (∀ j, wh + i + 1 ≤ j → cur.getD j 0 = 0) := hz
    have HY := Lib.hid hy
    have hwr := hgrow.size
    clear hg hlen hval hz hy
    by_cases hi : i < n
    · have hr1 := (h.grownNone hgrow1).grown hgrow NE.out
      obtain ⟨b, o, rfl, hb, hc⟩ := hr1.at_ (by omega)
      obtain ⟨x, hx⟩ : ∃ x, x = l.getD i 0 := ⟨_, rfl⟩
      have hxB : x < 18446744073709551616 := by rw [hx, ← W_eq]; exact h.lt.getD (by rw [W_eq]; omega) i
      have hcell : wr.cell? ⟨b, o + i, none⟩ = some (.int .u64 (x : Int)) := by rw [hx]; exact hc i hi
      have HX := Lib.hid hx
      clear hx hc
      by_cases h0 : x = 0
      · subst h0
        go_wp2
        go_roundg (gk - 1)
        case measure => have := HG.out; omega
        case rel => exact ⟨i + 1, by have := HG.out; omega, by go_num, cur, hrow, HL.out, hlt, by rw [val_take_skip HX.out.symm]; exact HV.out, fun j hj => HZ.out j (by omega), by rw [← Nat.add_assoc, HZ.out _ (Nat.le_refl _)]; exact HPP.out, hgrow⟩
      · have b1 : ((x : Int) == 0) = false := by simp [h0]
        obtain ⟨y, hy⟩ : ∃ y, y = cur.getD (wh + i) 0 := ⟨_, rfl⟩
        have hcell2 : wr.cell? ⟨w.heap.size, wh + i, none⟩ = some (.int .u64 (y : Int)) := by rw [hy]; exact hrow.cell0 (by rw [HL.out]; omega)
        have hcell3 : wr.cell? ⟨w.heap.size, wh + i + 1, none⟩ = some (.int .u64 ((0 : Nat) : Int)) := by
          rw [← HZ.out (wh + i + 1) (Nat.le_refl _)]; exact hrow.cell0 (by rw [HL.out]; omega)
        have hf := hrow.frozen (wh + i)
        have hf2 := hrow.frozen (wh + i + 1)
        have HYY := Lib.hid hy
        have hN := spread_next hpt1 HX.out (by rw [W_eq]; exact hxB) (show wh + i + 1 < n + wh + 1 by omega) HL.out hlt HV.out HZ.out HY.out
        rw [← HYY.out] at hN
        have HN : Hid _ := hN
        have hyP : Hid (y < 2 ^ pt) := by rw [hy]; exact HY.out
        clear h0 hy hN
        go_wp2
        go_region
        go_wp2
        go_roundg (gk - 1)
        case measure => have := HG.out; omega
        case rel =>
          refine ⟨i + 1, by have := HG.out; omega, by go_num, _, ?_, HN.out.1.1, HN.out.1.2, HN.out.2.1, HN.out.2.2.1, HN.out.2.2.2, ?_⟩
          · rw [or_shl hyP.out (by omega), shr_cast, W_eq]
            exact ((hrow.set0 (by rw [HL.out]; omega) _).set0 (by rw [List.length_set, HL.out]; omega) _).drew
          · exact grownBy_drew (grownBy_trans hgrow (grownBy_trans (grownBy_set _ _ _ _) (grownBy_set _ _ _ _)))
    · have hi' : Hid (i = n) := by have := HG.out; unfold Hid; omega
      have hb3 : Below w.heap.size w wr := ((Below.refl _ _).grown hgrow1 (Nat.le_refl _) (fun _ e => by cases e)).grown hgrow (by omega) (fun k e => by injection e with e; omega)
      have HVV : Hid (val W cur = val W l * 2 ^ s) := by
        have := HV.out
        rw [hi'.out, List.take_of_length_le (by rw [h.len]; omega), Nat.mul_assoc, HW.out, HP.out, pow_shift] at this
        exact this
      go_wp2
      rw [Exit.noGoto_ret]
      go_ret
      exact ⟨_, cur, by rw [← HW.out]; rfl, Nat.le_refl _, hrow, by rw [← HW.out]; exact HL.out, hlt, HVV.out, hb3⟩

/-- nat.raised: the limbs of what is shifted up. -/
theorem raised_any {w : World} {A : Option Addr} {n c s : Nat} {l : List Nat} (h : Rd w .u64 W A n c l) (hn : n ≤ 1000000) (hs : s ≤ 64000000) :
    Calls Tryd.prog 79 #[.slice A n c, .int .i64 s] w fun e w' => ∃ g n' c', e = .returned (.slice (some ⟨g, 0, none⟩) n' c') ∧ w.heap.size ≤ g ∧ Rd w' .u64 W (some ⟨g, 0, none⟩) n' c' (dig W (val W l * 2 ^ s)) ∧ Below w.heap.size w w' := by
  go_enter Tryd.func79, Tryd.ntmps79
  go_wp2_with fail
  refine (spread_any h hn hs).mono ?_
  rintro e w1 ⟨g, cur, rfl, hg, hrow, hlen, hlt, hval, hbel⟩
  have hrd := hrow.rd' hlt hlen (Nat.le_refl _) (by omega)
  have HV := Lib.hid hval
  clear hlen hval
  go_wp2_with fail
  refine (trimmed_any hrd).mono ?_
  rintro e w' ⟨rfl, rfl⟩
  have hrd4 := rd_trimmed hrd
  rw [HV.out] at hrd4
  rw [HV.out]
  go_wp2
  go_ret
  exact ⟨g, _, _, rfl, hg, hrd4, hbel⟩
end Go.Proofs.YtkpcmgfpmekkjaaDoor

namespace Go.Proofs.YtkpcmgfpmekkjaaDoor
open Go.RowKit

/-- what holds of the lowered limbs ahead of limb i -/
def LowRel (w1 : World) (g len : Nat) (l : List Nat) (pt i : Nat) (wr : World) : Prop :=
  ∃ cur, Row wr g 52 .u64 0 [] cur [] ∧ cur.length = len ∧ Lt W cur ∧ val W cur = val W (l.take i) / 2 ^ pt ∧ (∀ j, i ≤ j → cur.getD j 0 = 0) ∧ (∀ k, i = k + 1 → cur.getD k 0 < 2 ^ (64 - pt)) ∧ w1.grownBy wr (some g)

theorem low_first {l cur : List Nat} {len pt x : Nat} (hpt : pt < 64) (hx : x = l.getD 0 0) (hxB : x < W) (hi : 0 < len) (hlen : cur.length = len) (hlt : Lt W cur) (hv : val W cur = val W (l.take 0) / 2 ^ pt) (hz : ∀ j, 0 ≤ j → cur.getD j 0 = 0) :
    ((cur.set 0 (x / 2 ^ pt)).length = len ∧ Lt W (cur.set 0 (x / 2 ^ pt))) ∧ val W (cur.set 0 (x / 2 ^ pt)) = val W (l.take (0 + 1)) / 2 ^ pt ∧ (∀ j, 0 + 1 ≤ j → (cur.set 0 (x / 2 ^ pt)).getD j 0 = 0) ∧
    (∀ k, 0 + 1 = k + 1 → (cur.set 0 (x / 2 ^ pt)).getD k 0 < 2 ^ (64 - pt)) := by
  have hP : 0 < 2 ^ pt := Nat.pow_pos (by omega)
  have hB := two_pow_split (p := pt) (by omega)
  have ho : x / 2 ^ pt < 2 ^ (64 - pt) := over_lt (by rw [Nat.mul_comm]; exact hB) hP hxB
  have hQW : x / 2 ^ pt < W := Nat.lt_of_le_of_lt (Nat.div_le_self _ _) hxB
  refine ⟨⟨by simp [hlen], hlt.set _ hQW⟩, lower_first (by rw [hlen]; exact hi) hx (hz 0 (Nat.le_refl _)) (by rw [hv]; simp [val]), fun j hj => ?_, fun k hk => ?_⟩
  · rw [getD_set_other (by omega)]; exact hz j (by omega)
  · obtain rfl : k = 0 := by omega
    rw [getD_set_self (by rw [hlen]; exact hi)]
    exact ho
theorem low_next {l cur : List Nat} {len pt i x y : Nat} (hpt : pt < 64) (hx : x = l.getD (i + 1) 0) (hxB : x < W) (hi : i + 1 < len) (hlen : cur.length = len) (hlt : Lt W cur) (hv : val W cur = val W (l.take (i + 1)) / 2 ^ pt) (hz : ∀ j, i + 1 ≤ j → cur.getD j 0 = 0)
    (hy : cur.getD i 0 = y) (hyQ : y < 2 ^ (64 - pt)) :
    (((cur.set (i + 1) (x / 2 ^ pt)).set i (y + x * 2 ^ (64 - pt) % W)).length = len ∧ Lt W ((cur.set (i + 1) (x / 2 ^ pt)).set i (y + x * 2 ^ (64 - pt) % W))) ∧
    val W ((cur.set (i + 1) (x / 2 ^ pt)).set i (y + x * 2 ^ (64 - pt) % W)) = val W (l.take (i + 1 + 1)) / 2 ^ pt ∧
    (∀ j, i + 1 + 1 ≤ j → ((cur.set (i + 1) (x / 2 ^ pt)).set i (y + x * 2 ^ (64 - pt) % W)).getD j 0 = 0) ∧
    (∀ k, i + 1 + 1 = k + 1 → ((cur.set (i + 1) (x / 2 ^ pt)).set i (y + x * 2 ^ (64 - pt) % W)).getD k 0 < 2 ^ (64 - pt)) := by
  have hP : 0 < 2 ^ pt := Nat.pow_pos (by omega)
  have hQ : 0 < 2 ^ (64 - pt) := Nat.pow_pos (by omega)
  have hB := two_pow_split (p := pt) (by omega)
  have ho : x / 2 ^ pt < 2 ^ (64 - pt) := over_lt (by rw [Nat.mul_comm]; exact hB) hP hxB
  have hQW : x / 2 ^ pt < W := Nat.lt_of_le_of_lt (Nat.div_le_self _ _) hxB
  refine ⟨⟨by simp [hlen], (hlt.set _ hQW).set _ (part_lt (by rw [Nat.mul_comm]; exact hB) hP hyQ)⟩, lower_step hB hP hQ (by rw [hlen]; exact hi) hx hy (hz _ (Nat.le_refl _)) hv, fun j hj => ?_, fun k hk => ?_⟩
  · rw [getD_set_other (by omega), getD_set_other (by omega)]; exact hz j (by omega)
  · obtain rfl : k = i + 1 := by omega
    rw [getD_set_other (by omega), getD_set_self (by rw [hlen]; exact hi)]
    exact ho

theorem or_zero_shr0 {x p : Nat} (hx : x < 18446744073709551616) : bits .or .u64 0 ((x : Int) / 2 ^ p) = ((x / 2 ^ p : Nat) : Int) := or_zero_shr hx

theorem drop_val {B : Nat} (hB : 0 < B) {l : List Nat} (hl : Lt B l) {k : Nat} (hk : k ≤ l.length) : val B (l.drop k) = val B l / B ^ k := by
  have h1 := val_take_drop (B := B) l k
  have h2 := val_lt (hl.take k)
  rw [List.length_take, Nat.min_eq_left hk] at h1 h2
  rw [h1, Nat.add_mul_div_left _ _ (Nat.pow_pos hB), Nat.div_eq_of_lt h2, Nat.zero_add]
theorem div_pow_shift {l : List Nat} (hl : Lt W l) {s : Nat} (hk : s / 64 ≤ l.length) : val W (l.drop (s / 64)) / 2 ^ (s % 64) = val W l / 2 ^ s := by
  rw [← pow_shift s, Nat.mul_comm, ← Nat.div_div_eq_div_mul, drop_val (by rw [W_eq]; omega) hl hk]

set_option maxHeartbeats 400000 in
theorem lowered_any {w : World} {A : Option Addr} {n c s : Nat} {l : List Nat} (h : Rd w .u64 W A n c l) (hn : n ≤ 1000000) (hs : s ≤ 64000000) :
    Calls Tryd.prog 100 #[.slice A n c, .int .i64 s] w fun e w' => Gives w (val W l / 2 ^ s) e w' := by
  obtain ⟨wh, hwh⟩ : ∃ wh, wh = s / 64 := ⟨_, rfl⟩
  obtain ⟨pt, hpt⟩ : ∃ pt, pt = s % 64 := ⟨_, rfl⟩
  have hwh1 : wh ≤ 1000000 := by omega
  have hpt1 : pt < 64 := by omega
  have e1 : (s : Int) / 64 = (wh : Int) := by omega
  have e2 : (s : Int) % 64 = (pt : Int) := by omega
  have HW := Lib.hid hwh
  have HP := Lib.hid hpt
  clear hwh hpt
  have hcap := h.cap
  have hmax := h.max
  by_cases hle : n ≤ wh
  · have d1 : decide (n ≤ wh) = true := by simpa using hle
    have HZ : Hid (val W l / 2 ^ s = 0) := by
      unfold Hid
      apply Nat.div_eq_of_lt
      have h1 := val_lt h.lt
      rw [h.len, W_pow, ← Nat.pow_mul] at h1
      have h2 := HW.out
      exact Nat.lt_of_lt_of_le h1 (Nat.pow_le_pow_right (by omega) (by omega))
    go_enter Tryd.func100, Tryd.ntmps100
    go_wp2
    go_step3
    go_wp2
    rw [Exit.noGoto_ret]
    go_ret
    exact ⟨_, _, _, rfl, by rw [HZ.out, dig_zero]; exact Rd.nil _ _ _ _ (by omega), Below.refl _ _⟩
  · have hlt : wh < n := by omega
    obtain ⟨b, o, rfl, hb, hc⟩ := h.at_ (by omega)
    go_enter Tryd.func100, Tryd.ntmps100
    go_wp2
    go_step3
    go_wp2_with (at_make; refine law_make rfl (.tmp 21) rfl _ (n - wh) rfl (by omega) (by omega) ?_; intro w1 hrow1 hgrow1)
    go_step3
    go_wp2
    clear e1 e2
    have hs1 := hgrow1.size
    have hlen0 := h.len
    have HN := Lib.hid hlen0
    clear hlen0
    obtain ⟨l2, hl2⟩ : ∃ l2, l2 = l.drop wh := ⟨_, rfl⟩
    have HL2 := Lib.hid hl2
    have HLT2 : Hid (Lt W l2) := by unfold Hid; rw [hl2]; exact h.lt.drop _
    have HLEN2 : Hid (l2.length = n - wh) := by unfold Hid; rw [hl2, List.length_drop, h.len]
    have HC : Hid (∀ j, j < n - wh → w.cell? ⟨b, o + wh + j, none⟩ = some (.int .u64 ((l2.getD j 0 : Nat) : Int))) := by
      intro j hj
      rw [Nat.add_assoc, hc (wh + j) (by omega), hl2]
      simp only [List.getD_eq_getElem?_getD, List.getElem?_drop]
    clear hl2 hc
    go_loopg [27] (n - wh) (fun g vi wr => ∃ i : Nat, i + g = n - wh ∧ vi = .int .i64 i ∧ LowRel w1 w.heap.size (n - wh) l2 pt i wr)
    case atStart => exact ⟨0, by omega, rfl, _, hrow1, by simp, Lt.replicate _ (by rw [W_eq]; omega), by rw [val_replicate]; simp [val], fun j _ => getD_replicate _ _, fun k hk => absurd hk (by omega), World.grownBy.refl _ _⟩
    case round =>
      obtain ⟨i, hg, rfl, cur, hrow, hlen, hltc, hval, hz, hy, hgrow⟩ := hrel
      have HG := Lib.hid hg
      have HL := Lib.hid hlen
      have HV := Lib.hid hval
      have HZ : Hid (∀ j, i ≤ j → cur.getD j 0 = 0) := hz
      have HY : Hid (∀ k, i = k + 1 → cur.getD k 0 < 2 ^ (64 - pt)) := hy
      have hwr := hgrow.size
      clear hg hlen hval hz hy
      by_cases hi : i < n - wh
      · obtain ⟨x, hx⟩ : ∃ x, x = l2.getD i 0 := ⟨_, rfl⟩
        have hxB : x < 18446744073709551616 := by rw [hx, ← W_eq]; exact HLT2.out.getD (by rw [W_eq]; omega) i
        have hcell : wr.cell? ⟨b, o + wh + i, none⟩ = some (.int .u64 (x : Int)) := by
          rw [hx]
          refine hgrow.cell ?_ (by intro e; injection e with e; simp at e; omega)
          exact hgrow1.cell (HC.out i hi) (by intro e; cases e)
        have HX := Lib.hid hx
        have hf := hrow.frozen i
        have hcell2 : wr.cell? ⟨w.heap.size, i, none⟩ = some (.int .u64 0) := by
          have := hrow.cell0 (i := i) (by rw [HL.out]; exact hi)
          rw [HZ.out i (Nat.le_refl _)] at this
          exact this
        clear hx
        rcases i with _ | k
        · have hN := low_first hpt1 HX.out (by rw [W_eq]; exact hxB) (show 0 < n - wh by omega) HL.out hltc HV.out HZ.out
          have HNN : Hid _ := hN
          have hcell0 : wr.cell? ⟨b, o + wh, none⟩ = some (.int .u64 (x : Int)) := hcell
          clear hN hcell
          go_wp2
          go_region
          go_wp2
          go_roundg (gk - 1)
          case measure => have := HG.out; omega
          case rel =>
            refine ⟨0 + 1, by have := HG.out; omega, by go_num, _, ?_, HNN.out.1.1, HNN.out.1.2, HNN.out.2.1, HNN.out.2.2.1, HNN.out.2.2.2, ?_⟩
            · rw [or_zero_shr0 hxB]
              exact (hrow.set0 (by rw [HL.out]; omega) _).drew
            · exact grownBy_drew (grownBy_trans hgrow (grownBy_set _ _ _ _))
        · obtain ⟨y, hy⟩ : ∃ y, y = cur.getD k 0 := ⟨_, rfl⟩
          have hcell3 : wr.cell? ⟨w.heap.size, k, none⟩ = some (.int .u64 (y : Int)) := by rw [hy]; exact hrow.cell0 (by rw [HL.out]; omega)
          have hf3 := hrow.frozen k
          have hyQ : Hid (y < 2 ^ (64 - pt)) := by rw [hy]; exact HY.out k rfl
          have hN := low_next hpt1 HX.out (by rw [W_eq]; exact hxB) (show k + 1 < n - wh by omega) HL.out hltc HV.out HZ.out hy.symm hyQ.out
          have HNN : Hid _ := hN
          clear hN hy
          go_wp2
          go_region
          go_wp2
          go_region
          go_wp2
          go_roundg (gk - 1)
          case measure => have := HG.out; omega
          case rel =>
            refine ⟨k + 1 + 1, by have := HG.out; omega, by go_num, _, ?_, HNN.out.1.1, HNN.out.1.2, HNN.out.2.1, HNN.out.2.2.1, HNN.out.2.2.2, ?_⟩
            · rw [or_zero_shr0 hxB, or_shl hyQ.out (by omega), W_eq]
              exact ((hrow.set0 (by rw [HL.out]; omega) _).drew.set0 (by rw [List.length_set, HL.out]; omega) _).drew
            · exact grownBy_drew (grownBy_trans hgrow (grownBy_trans (grownBy_drew (grownBy_set _ _ _ _)) (grownBy_set _ _ _ _)))
      · have hi' : Hid (i = n - wh) := by have := HG.out; unfold Hid; omega
        have hb3 : Below w.heap.size w wr := ((Below.refl _ _).grown hgrow1 (Nat.le_refl _) (fun _ e => by cases e)).grown hgrow (by omega) (fun k e => by injection e with e; omega)
        have hrd := hrow.rd' hltc HL.out (Nat.le_refl _) (by omega)
        have HVV : Hid (val W cur = val W l / 2 ^ s) := by
          have := HV.out
          rw [hi'.out, List.take_of_length_le (by rw [HLEN2.out]; omega), HL2.out, HW.out, HP.out, div_pow_shift h.lt (by rw [← HW.out, h.len]; omega)] at this
          exact this
        go_wp2_with fail
        refine (trimmed_any hrd).mono ?_
        rintro e w' ⟨rfl, rfl⟩
        rw [HVV.out]
        have hrd4 := rd_trimmed hrd
        rw [HVV.out] at hrd4
        go_wp2
        rw [Exit.noGoto_ret]
        go_ret
        exact ⟨_, _, _, rfl, hrd4, hb3⟩
end Go.Proofs.YtkpcmgfpmekkjaaDoor
