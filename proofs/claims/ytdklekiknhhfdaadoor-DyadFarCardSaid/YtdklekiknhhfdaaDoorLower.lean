/-
  Contracts of nat.lowered and nat.bitLen at this translation. Condition: the slice reads as limbs, of at most a million, the shift is at most a million times 64.
-/
import Derived.Test.YtdklekiknhhfdaaDoorSpread
namespace Go.Proofs.YtdklekiknhhfdaaDoor
open Go.RowKit

/-- what holds of the lowered limbs ahead of limb i -/
def LowRel (w1 : World) (g len : Nat) (l : List Nat) (pt i : Nat) (wr : World) : Prop :=
  ∃ cur, Row wr g 49 .u64 0 [] cur [] ∧ cur.length = len ∧ Lt W cur ∧ val W cur = val W (l.take i) / 2 ^ pt ∧ (∀ j, i ≤ j → cur.getD j 0 = 0) ∧ (∀ k, i = k + 1 → cur.getD k 0 < 2 ^ (64 - pt)) ∧ w1.grownBy wr (some g)

theorem low_first {l cur : List Nat} {len pt x : Nat} (hpt : pt < 64) (hx : x = l.getD 0 0) (hxB : x < W) (hi : 0 < len) (hlen : cur.length = len) (hlt : Lt W cur) (hv : val W cur = val W (l.take 0) / 2 ^ pt) (hz : ∀ j, 0 ≤ j → cur.getD j 0 = 0) :
    ((cur.set 0 (x / 2 ^ pt)).length = len ∧ Lt W (cur.set 0 (x / 2 ^ pt))) ∧ val W (cur.set 0 (x / 2 ^ pt)) = val W (l.take (0 + 1)) / 2 ^ pt ∧ (∀ j, 0 + 1 ≤ j → (cur.set 0 (x / 2 ^ pt)).getD j 0 = 0) ∧
    (∀ k, 0 + 1 = k + 1 → (cur.set 0 (x / 2 ^ pt)).getD k 0 < 2 ^ (64 - pt)) := by
  have hP : 0 < 2 ^ pt := Nat.pow_pos (by omega)
  have hB := two_pow_split (p := pt) (by omega)
  have ho : x / 2 ^ pt < 2 ^ (64 - pt) := over_lt (by rw [Nat.mul_comm]; exact hB) hP hxB
  have hQW : x / 2 ^ pt < W := Nat.lt_of_le_of_lt (Nat.div_le_self _ _) hxB
  refine ⟨⟨by simp [hlen], hlt.set _ hQW⟩, lower_first (by rw [hlen]; exact hi) hx (hz 0 (Nat.le_refl _)) (by rw [hv]; simp [val]), fun j hj => ?_, fun k hk => ?_⟩
  · rw [getD_set_other (by omega)]; exact hz j (by omega)
  · obtain rfl : k = 0 := by omega
    rw [getD_set_self (by rw [hlen]; exact hi)]
    exact ho
theorem low_next {l cur : List Nat} {len pt i x y : Nat} (hpt : pt < 64) (hx : x = l.getD (i + 1) 0) (hxB : x < W) (hi : i + 1 < len) (hlen : cur.length = len) (hlt : Lt W cur) (hv : val W cur = val W (l.take (i + 1)) / 2 ^ pt) (hz : ∀ j, i + 1 ≤ j → cur.getD j 0 = 0)
    (hy : cur.getD i 0 = y) (hyQ : y < 2 ^ (64 - pt)) :
    (((cur.set (i + 1) (x / 2 ^ pt)).set i (y + x * 2 ^ (64 - pt) % W)).length = len ∧ Lt W ((cur.set (i + 1) (x / 2 ^ pt)).set i (y + x * 2 ^ (64 - pt) % W))) ∧
    val W ((cur.set (i + 1) (x / 2 ^ pt)).set i (y + x * 2 ^ (64 - pt) % W)) = val W (l.take (i + 1 + 1)) / 2 ^ pt ∧
    (∀ j, i + 1 + 1 ≤ j → ((cur.set (i + 1) (x / 2 ^ pt)).set i (y + x * 2 ^ (64 - pt) % W)).getD j 0 = 0) ∧
    (∀ k, i + 1 + 1 = k + 1 → ((cur.set (i + 1) (x / 2 ^ pt)).set i (y + x * 2 ^ (64 - pt) % W)).getD k 0 < 2 ^ (64 - pt)) := by
  have hP : 0 < 2 ^ pt := Nat.pow_pos (by omega)
  have hQ : 0 < 2 ^ (64 - pt) := Nat.pow_pos (by omega)
  have hB := two_pow_split (p := pt) (by omega)
  have ho : x / 2 ^ pt < 2 ^ (64 - pt) := over_lt (by rw [Nat.mul_comm]; exact hB) hP hxB
  have hQW : x / 2 ^ pt < W := Nat.lt_of_le_of_lt (Nat.div_le_self _ _) hxB
  refine ⟨⟨by simp [hlen], (hlt.set _ hQW).set _ (part_lt (by rw [Nat.mul_comm]; exact hB) hP hyQ)⟩, lower_step hB hP hQ (by rw [hlen]; exact hi) hx hy (hz _ (Nat.le_refl _)) hv, fun j hj => ?_, fun k hk => ?_⟩
  · rw [getD_set_other (by omega), getD_set_other (by omega)]; exact hz j (by omega)
  · obtain rfl : k = i + 1 := by omega
    rw [getD_set_other (by omega), getD_set_self (by rw [hlen]; exact hi)]
    exact ho

theorem or_zero_shr0 {x p : Nat} (hx : x < 18446744073709551616) : bits .or .u64 0 ((x : Int) / 2 ^ p) = ((x / 2 ^ p : Nat) : Int) := or_zero_shr hx

theorem drop_val {B : Nat} (hB : 0 < B) {l : List Nat} (hl : Lt B l) {k : Nat} (hk : k ≤ l.length) : val B (l.drop k) = val B l / B ^ k := by
  have h1 := val_take_drop (B := B) l k
  have h2 := val_lt (hl.take k)
  rw [List.length_take, Nat.min_eq_left hk] at h1 h2
  rw [h1, Nat.add_mul_div_left _ _ (Nat.pow_pos hB), Nat.div_eq_of_lt h2, Nat.zero_add]
theorem div_pow_shift {l : List Nat} (hl : Lt W l) {s : Nat} (hk : s / 64 ≤ l.length) : val W (l.drop (s / 64)) / 2 ^ (s % 64) = val W l / 2 ^ s := by
  rw [← pow_shift s, Nat.mul_comm, ← Nat.div_div_eq_div_mul, drop_val (by rw [W_eq]; omega) hl hk]

set_option maxHeartbeats 400000 in
theorem lowered_any {w : World} {A : Option Addr} {n c s : Nat} {l : List Nat} (h : Rd w .u64 W A n c l) (hn : n ≤ 1000000) (hs : s ≤ 64000000) :
    Calls Tryd.prog 81 #[.slice A n c, .int .i64 s] w fun e w' => Gives w (val W l / 2 ^ s) e w' := by
  obtain ⟨wh, hwh⟩ : ∃ wh, wh = s / 64 := ⟨_, rfl⟩
  obtain ⟨pt, hpt⟩ : ∃ pt, pt = s % 64 := ⟨_, rfl⟩
  have hwh1 : wh ≤ 1000000 := by omega
  have hpt1 : pt < 64 := by omega
  have e1 : (s : Int) / 64 = (wh : Int) := by omega
  have e2 : (s : Int) % 64 = (pt : Int) := by omega
  have HW := Lib.hid hwh
  have HP := Lib.hid hpt
  clear hwh hpt
  have hcap := h.cap
  have hmax := h.max
  by_cases hle : n ≤ wh
  · have d1 : decide (n ≤ wh) = true := by simpa using hle
    have HZ : Hid (val W l / 2 ^ s = 0) := by
      unfold Hid
      apply Nat.div_eq_of_lt
      have h1 := val_lt h.lt
      rw [h.len, W_pow, ← Nat.pow_mul] at h1
      have h2 := HW.out
      exact Nat.lt_of_lt_of_le h1 (Nat.pow_le_pow_right (by omega) (by omega))
    go_enter Tryd.func81, Tryd.ntmps81
    go_wp2
    go_step3
    go_wp2
    rw [Exit.noGoto_ret]
    go_ret
    exact ⟨_, _, _, rfl, by rw [HZ.out, dig_zero]; exact Rd.nil _ _ _ _ (by omega), Below.refl _ _⟩
  · have hlt : wh < n := by omega
    obtain ⟨b, o, rfl, hb, hc⟩ := h.at_ (by omega)
    go_enter Tryd.func81, Tryd.ntmps81
    go_wp2
    go_step3
    go_wp2_with (at_make; refine law_make rfl (.tmp 21) rfl _ (n - wh) rfl (by omega) (by omega) ?_; intro w1 hrow1 hgrow1)
    go_step3
    go_wp2
    clear e1 e2
    have hs1 := hgrow1.size
    have hlen0 := h.len
    have HN := Lib.hid hlen0
    clear hlen0
    obtain ⟨l2, hl2⟩ : ∃ l2, l2 = l.drop wh := ⟨_, rfl⟩
    have HL2 := Lib.hid hl2
    have HLT2 : Hid (Lt W l2) := by unfold Hid; rw [hl2]; exact h.lt.drop _
    have HLEN2 : Hid (l2.length = n - wh) := by unfold Hid; rw [hl2, List.length_drop, h.len]
    have HC : Hid (∀ j, j < n - wh → w.cell? ⟨b, o + wh + j, none⟩ = some (.int .u64 ((l2.getD j 0 : Nat) : Int))) := by
      intro j hj
      rw [Nat.add_assoc, hc (wh + j) (by omega), hl2]
      simp only [List.getD_eq_getElem?_getD, List.getElem?_drop]
    clear hl2 hc
    go_loopg [27] (n - wh) (fun g vi wr => ∃ i : Nat, i + g = n - wh ∧ vi = .int .i64 i ∧ LowRel w1 w.heap.size (n - wh) l2 pt i wr)
    case atStart => exact ⟨0, by omega, rfl, _, hrow1, by simp, Lt.replicate _ (by rw [W_eq]; omega), by rw [val_replicate]; simp [val], fun j _ => getD_replicate _ _, fun k hk => absurd hk (by omega), World.grownBy.refl _ _⟩
    case round =>
      obtain ⟨i, hg, rfl, cur, hrow, hlen, hltc, hval, hz, hy, hgrow⟩ := hrel
      have HG := Lib.hid hg
      have HL := Lib.hid hlen
      have HV := Lib.hid hval
      have HZ : Hid (∀ j, i ≤ j → cur.getD j 0 = 0) := hz
      have HY : Hid (∀ k, i = k + 1 → cur.getD k 0 < 2 ^ (64 - pt)) := hy
      have hwr := hgrow.size
      clear hg hlen hval hz hy
      by_cases hi : i < n - wh
      · obtain ⟨x, hx⟩ : ∃ x, x = l2.getD i 0 := ⟨_, rfl⟩
        have hxB : x < 18446744073709551616 := by rw [hx, ← W_eq]; exact HLT2.out.getD (by rw [W_eq]; omega) i
        have hcell : wr.cell? ⟨b, o + wh + i, none⟩ = some (.int .u64 (x : Int)) := by
          rw [hx]
          refine hgrow.cell ?_ (by intro e; injection e with e; simp at e; omega)
          exact hgrow1.cell (HC.out i hi) (by intro e; cases e)
        have HX := Lib.hid hx
        have hf := hrow.frozen i
        have hcell2 : wr.cell? ⟨w.heap.size, i, none⟩ = some (.int .u64 0) := by
          have := hrow.cell0 (i := i) (by rw [HL.out]; exact hi)
          rw [HZ.out i (Nat.le_refl _)] at this
          exact this
        clear hx
        rcases i with _ | k
        · have hN := low_first hpt1 HX.out (by rw [W_eq]; exact hxB) (show 0 < n - wh by omega) HL.out hltc HV.out HZ.out
          have HNN : Hid _ := hN
          have hcell0 : wr.cell? ⟨b, o + wh, none⟩ = some (.int .u64 (x : Int)) := hcell
          clear hN hcell
          go_wp2
          go_region
          go_wp2
          go_roundg (gk - 1)
          case measure => have := HG.out; omega
          case rel =>
            refine ⟨0 + 1, by have := HG.out; omega, by go_num, _, ?_, HNN.out.1.1, HNN.out.1.2, HNN.out.2.1, HNN.out.2.2.1, HNN.out.2.2.2, ?_⟩
            · rw [or_zero_shr0 hxB]
              exact (hrow.set0 (by rw [HL.out]; omega) _).drew
            · exact grownBy_drew (grownBy_trans hgrow (grownBy_set _ _ _ _))
        · obtain ⟨y, hy⟩ : ∃ y, y = cur.getD k 0 := ⟨_, rfl⟩
          have hcell3 : wr.cell? ⟨w.heap.size, k, none⟩ = some (.int .u64 (y : Int)) := by rw [hy]; exact hrow.cell0 (by rw [HL.out]; omega)
          have hf3 := hrow.frozen k
          have hyQ : Hid (y < 2 ^ (64 - pt)) := by rw [hy]; exact HY.out k rfl
          have hN := low_next hpt1 HX.out (by rw [W_eq]; exact hxB) (show k + 1 < n - wh by omega) HL.out hltc HV.out HZ.out hy.symm hyQ.out
          have HNN : Hid _ := hN
          clear hN hy
          go_wp2
          go_region
          go_wp2
          go_region
          go_wp2
          go_roundg (gk - 1)
          case measure => have := HG.out; omega
          case rel =>
            refine ⟨k + 1 + 1, by have := HG.out; omega, by go_num, _, ?_, HNN.out.1.1, HNN.out.1.2, HNN.out.2.1, HNN.out.2.2.1, HNN.out.2.2.2, ?_⟩
            · rw [or_zero_shr0 hxB, or_shl hyQ.out (by omega), W_eq]
              exact ((hrow.set0 (by rw [HL.out]; omega) _).drew.set0 (by rw [List.length_set, HL.out]; omega) _).drew
            · exact grownBy_drew (grownBy_trans hgrow (grownBy_trans (grownBy_drew (grownBy_set _ _ _ _)) (grownBy_set _ _ _ _)))
      · have hi' : Hid (i = n - wh) := by have := HG.out; unfold Hid; omega
        have hb3 : Below w.heap.size w wr := ((Below.refl _ _).grown hgrow1 (Nat.le_refl _) (fun _ e => by cases e)).grown hgrow (by omega) (fun k e => by injection e with e; omega)
        have hrd := hrow.rd' hltc HL.out (Nat.le_refl _) (by omega)
        have HVV : Hid (val W cur = val W l / 2 ^ s) := by
          have := HV.out
          rw [hi'.out, List.take_of_length_le (by rw [HLEN2.out]; omega), HL2.out, HW.out, HP.out, div_pow_shift h.lt (by rw [← HW.out, h.len]; omega)] at this
          exact this
        go_wp2_with fail
        refine (trimmed_any hrd).mono ?_
        rintro e w' ⟨rfl, rfl⟩
        rw [HVV.out]
        have hrd4 := rd_trimmed hrd
        rw [HVV.out] at hrd4
        go_wp2
        rw [Exit.noGoto_ret]
        go_ret
        exact ⟨_, _, _, rfl, hrd4, hb3⟩
end Go.Proofs.YtdklekiknhhfdaaDoor
