/-
  Contracts of nat.spread, nat.raised and nat.bitLen at this translation. Condition: the slice reads as limbs, of at most a million, the shift is at most a million times 64.
-/
import Derived.Test.YtdklekiknhhfdaaDoorProd
import Derived.Test.YtdklekiknhhfdaaDoorShift
import Derived.BigRegion
namespace Go.Proofs.YtdklekiknhhfdaaDoor
open Go.RowKit

/-- what holds of the raised limbs ahead of limb i -/
def SpreadRel (w1 : World) (g len : Nat) (l : List Nat) (wh P i : Nat) (wr : World) : Prop :=
  ∃ cur, Row wr g 49 .u64 0 [] cur [] ∧ cur.length = len ∧ Lt W cur ∧ val W cur = val W (l.take i) * P * W ^ wh ∧ (∀ j, wh + i + 1 ≤ j → cur.getD j 0 = 0) ∧ cur.getD (wh + i) 0 < P ∧ w1.grownBy wr (some g)

def SpreadDone (w : World) (n s : Nat) (l : List Nat) (e : Ending) (w' : World) : Prop :=
  ∃ g cur, e = .returned (.slice (some ⟨g, 0, none⟩) (n + s / 64 + 1) (n + s / 64 + 1)) ∧ w.heap.size ≤ g ∧ Row w' g 49 .u64 0 [] cur [] ∧ cur.length = n + s / 64 + 1 ∧ Lt W cur ∧ val W cur = val W l * 2 ^ s ∧ Below w.heap.size w w'

theorem getD_replicate (n j : Nat) : (List.replicate n 0).getD j 0 = 0 := by
  rw [List.getD_eq_getElem?_getD, List.getElem?_replicate]
  split <;> rfl

theorem spread_next {l cur : List Nat} {len wh pt i x : Nat} (hpt : pt < 64) (hx : x = l.getD i 0) (hxB : x < W) (hi : wh + i + 1 < len) (hlen : cur.length = len) (hlt : Lt W cur) (hv : val W cur = val W (l.take i) * 2 ^ pt * W ^ wh)
    (hz : ∀ j, wh + i + 1 ≤ j → cur.getD j 0 = 0) (hy : cur.getD (wh + i) 0 < 2 ^ pt) :
    (((cur.set (wh + i) (cur.getD (wh + i) 0 + x * 2 ^ pt % W)).set (wh + i + 1) (x / 2 ^ (64 - pt))).length = len ∧ Lt W ((cur.set (wh + i) (cur.getD (wh + i) 0 + x * 2 ^ pt % W)).set (wh + i + 1) (x / 2 ^ (64 - pt)))) ∧
    val W ((cur.set (wh + i) (cur.getD (wh + i) 0 + x * 2 ^ pt % W)).set (wh + i + 1) (x / 2 ^ (64 - pt))) = val W (l.take (i + 1)) * 2 ^ pt * W ^ wh ∧
    (∀ j, wh + (i + 1) + 1 ≤ j → ((cur.set (wh + i) (cur.getD (wh + i) 0 + x * 2 ^ pt % W)).set (wh + i + 1) (x / 2 ^ (64 - pt))).getD j 0 = 0) ∧
    ((cur.set (wh + i) (cur.getD (wh + i) 0 + x * 2 ^ pt % W)).set (wh + i + 1) (x / 2 ^ (64 - pt))).getD (wh + (i + 1)) 0 < 2 ^ pt := by
  have hP : 0 < 2 ^ pt := Nat.pow_pos (by omega)
  have hQ : 0 < 2 ^ (64 - pt) := Nat.pow_pos (by omega)
  have hB := two_pow_split (p := pt) (by omega)
  have ho := over_lt hB hQ hxB
  have hPW : 2 ^ pt ≤ W := by rw [← hB]; exact Nat.le_mul_of_pos_right _ hQ
  refine ⟨⟨by simp [hlen], (hlt.set _ (part_lt hB hQ hy)).set _ (Nat.lt_of_lt_of_le ho hPW)⟩, spread_step hB hP (by rw [hlen]; exact hi) hx rfl (hz _ (Nat.le_refl _)) hv, fun j hj => ?_, ?_⟩
  · rw [getD_set_other (by omega), getD_set_other (by omega)]
    exact hz j (by omega)
  · rw [← Nat.add_assoc, getD_set_self (by rw [List.length_set, hlen]; exact hi)]
    exact ho

set_option maxHeartbeats 400000 in
theorem spread_any {w : World} {A : Option Addr} {n c s : Nat} {l : List Nat} (h : Rd w .u64 W A n c l) (hn : n ≤ 1000000) (hs : s ≤ 64000000) :
    Calls Tryd.prog 107 #[.slice A n c, .int .i64 s] w fun e w' => SpreadDone w n s l e w' := by
  obtain ⟨wh, hwh⟩ : ∃ wh, wh = s / 64 := ⟨_, rfl⟩
  obtain ⟨pt, hpt⟩ : ∃ pt, pt = s % 64 := ⟨_, rfl⟩
  have hwh1 : wh ≤ 1000000 := by omega
  have hpt1 : pt < 64 := by omega
  have e1 : (s : Int) / 64 = (wh : Int) := by omega
  have e2 : (s : Int) % 64 = (pt : Int) := by omega
  have HW := Lib.hid hwh
  have HP := Lib.hid hpt
  have HPP : Hid (0 < 2 ^ pt) := Nat.pow_pos (by omega)
  clear hwh hpt
  go_enter Tryd.func107, Tryd.ntmps107
  go_wp2
  go_step3
  go_wp2_with (at_make; refine law_make rfl (.tmp 18) rfl _ (n + wh + 1) rfl (by omega) (by omega) ?_; intro w1 hrow1 hgrow1)
  go_step3
  go_wp2
  clear e1 e2
  have hs1 := hgrow1.size
  have NE : Hid (n ≠ 0 → ∀ a, A = some a → a.block ≠ w.heap.size) := by
    intro h0 a ha
    obtain ⟨b, o, e, hb, _⟩ := h.at_ h0
    rw [e] at ha
    injection ha with ha
    subst ha
    show b ≠ _
    omega
  go_loopg [22] n (fun g vi wr => ∃ i : Nat, i + g = n ∧ vi = .int .i64 i ∧ SpreadRel w1 w.heap.size (n + wh + 1) l wh (2 ^ pt) i wr)
  case atStart => exact ⟨0, by omega, rfl, _, hrow1, by simp, Lt.replicate _ (by rw [W_eq]; omega), by rw [val_replicate]; simp [val], fun j _ => getD_replicate _ _, by rw [getD_replicate]; exact HPP.out, World.grownBy.refl _ _⟩
  case round =>
    obtain ⟨i, hg, rfl, cur, hrow, hlen, hlt, hval, hz, hy, hgrow⟩ := hrel
    have HG := Lib.hid hg
    have HL := Lib.hid hlen
    have HV := Lib.hid hval
    have HZ : Hid (∀ j, wh + i + 1 ≤ j → cur.getD j 0 = 0) := hz
    have HY := Lib.hid hy
    have hwr := hgrow.size
    clear hg hlen hval hz hy
    by_cases hi : i < n
    · have hr1 := (h.grownNone hgrow1).grown hgrow NE.out
      obtain ⟨b, o, rfl, hb, hc⟩ := hr1.at_ (by omega)
      obtain ⟨x, hx⟩ : ∃ x, x = l.getD i 0 := ⟨_, rfl⟩
      have hxB : x < 18446744073709551616 := by rw [hx, ← W_eq]; exact h.lt.getD (by rw [W_eq]; omega) i
      have hcell : wr.cell? ⟨b, o + i, none⟩ = some (.int .u64 (x : Int)) := by rw [hx]; exact hc i hi
      have HX := Lib.hid hx
      clear hx hc
      by_cases h0 : x = 0
      · subst h0
        go_wp2
        go_roundg (gk - 1)
        case measure => have := HG.out; omega
        case rel => exact ⟨i + 1, by have := HG.out; omega, by go_num, cur, hrow, HL.out, hlt, by rw [val_take_skip HX.out.symm]; exact HV.out, fun j hj => HZ.out j (by omega), by rw [← Nat.add_assoc, HZ.out _ (Nat.le_refl _)]; exact HPP.out, hgrow⟩
      · have b1 : ((x : Int) == 0) = false := by simp [h0]
        obtain ⟨y, hy⟩ : ∃ y, y = cur.getD (wh + i) 0 := ⟨_, rfl⟩
        have hcell2 : wr.cell? ⟨w.heap.size, wh + i, none⟩ = some (.int .u64 (y : Int)) := by rw [hy]; exact hrow.cell0 (by rw [HL.out]; omega)
        have hcell3 : wr.cell? ⟨w.heap.size, wh + i + 1, none⟩ = some (.int .u64 ((0 : Nat) : Int)) := by
          rw [← HZ.out (wh + i + 1) (Nat.le_refl _)]; exact hrow.cell0 (by rw [HL.out]; omega)
        have hf := hrow.frozen (wh + i)
        have hf2 := hrow.frozen (wh + i + 1)
        have HYY := Lib.hid hy
        have hN := spread_next hpt1 HX.out (by rw [W_eq]; exact hxB) (show wh + i + 1 < n + wh + 1 by omega) HL.out hlt HV.out HZ.out HY.out
        rw [← HYY.out] at hN
        have HN : Hid _ := hN
        have hyP : Hid (y < 2 ^ pt) := by rw [hy]; exact HY.out
        clear h0 hy hN
        go_wp2
        go_region
        go_wp2
        go_roundg (gk - 1)
        case measure => have := HG.out; omega
        case rel =>
          refine ⟨i + 1, by have := HG.out; omega, by go_num, _, ?_, HN.out.1.1, HN.out.1.2, HN.out.2.1, HN.out.2.2.1, HN.out.2.2.2, ?_⟩
          · rw [or_shl hyP.out (by omega), shr_cast, W_eq]
            exact ((hrow.set0 (by rw [HL.out]; omega) _).set0 (by rw [List.length_set, HL.out]; omega) _).drew
          · exact grownBy_drew (grownBy_trans hgrow (grownBy_trans (grownBy_set _ _ _ _) (grownBy_set _ _ _ _)))
    · have hi' : Hid (i = n) := by have := HG.out; unfold Hid; omega
      have hb3 : Below w.heap.size w wr := ((Below.refl _ _).grown hgrow1 (Nat.le_refl _) (fun _ e => by cases e)).grown hgrow (by omega) (fun k e => by injection e with e; omega)
      have HVV : Hid (val W cur = val W l * 2 ^ s) := by
        have := HV.out
        rw [hi'.out, List.take_of_length_le (by rw [h.len]; omega), Nat.mul_assoc, HW.out, HP.out, pow_shift] at this
        exact this
      go_wp2
      rw [Exit.noGoto_ret]
      go_ret
      exact ⟨_, cur, by rw [← HW.out]; rfl, Nat.le_refl _, hrow, by rw [← HW.out]; exact HL.out, hlt, HVV.out, hb3⟩

/-- nat.raised: the limbs of what is shifted up. -/
theorem raised_any {w : World} {A : Option Addr} {n c s : Nat} {l : List Nat} (h : Rd w .u64 W A n c l) (hn : n ≤ 1000000) (hs : s ≤ 64000000) :
    Calls Tryd.prog 79 #[.slice A n c, .int .i64 s] w fun e w' => ∃ g n' c', e = .returned (.slice (some ⟨g, 0, none⟩) n' c') ∧ w.heap.size ≤ g ∧ Rd w' .u64 W (some ⟨g, 0, none⟩) n' c' (dig W (val W l * 2 ^ s)) ∧ Below w.heap.size w w' := by
  go_enter Tryd.func79, Tryd.ntmps79
  go_wp2_with fail
  refine (spread_any h hn hs).mono ?_
  rintro e w1 ⟨g, cur, rfl, hg, hrow, hlen, hlt, hval, hbel⟩
  have hrd := hrow.rd' hlt hlen (Nat.le_refl _) (by omega)
  have HV := Lib.hid hval
  clear hlen hval
  go_wp2_with fail
  refine (trimmed_any hrd).mono ?_
  rintro e w' ⟨rfl, rfl⟩
  have hrd4 := rd_trimmed hrd
  rw [HV.out] at hrd4
  rw [HV.out]
  go_wp2
  go_ret
  exact ⟨g, _, _, rfl, hg, hrd4, hbel⟩
end Go.Proofs.YtdklekiknhhfdaaDoor
