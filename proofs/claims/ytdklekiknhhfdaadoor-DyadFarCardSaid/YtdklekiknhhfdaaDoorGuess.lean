/-
  Contract of nat.guess at this translation. Condition: the dividend's part has one limb more than the divisor and is, without its lowest limb, less than it; the divisor has two limbs at least and its highest bit is 1.
-/
import Derived.Test.YtdklekiknhhfdaaDoorDiv64
import Derived.Test.YtdklekiknhhfdaaDoorGuessN
namespace Go.Proofs.YtdklekiknhhfdaaDoor
open Go.RowKit

theorem top_two {B : Nat} {l : List Nat} {m : Nat} (hl : l.length = m + 2) : val B l = val B (l.take m) + B ^ m * (l.getD m 0 + B * l.getD (m + 1) 0) := by
  have h1 := take_val' (B := B) l m
  have h2 := take_val' (B := B) l (m + 1)
  rw [List.take_of_length_le (l := l) (i := m + 1 + 1) (by omega), h1, Nat.pow_succ] at h2
  rw [h2, Nat.mul_add, Nat.mul_assoc, Nat.add_assoc]
theorem top_three {B : Nat} {l : List Nat} {m : Nat} (hl : l.length = m + 3) : val B l = val B (l.take m) + B ^ m * (l.getD m 0 + B * (l.getD (m + 1) 0 + B * l.getD (m + 2) 0)) := by
  have h1 := take_val' (B := B) l m
  have h2 := take_val' (B := B) l (m + 1)
  have h3 := take_val' (B := B) l (m + 1 + 1)
  rw [List.take_of_length_le (l := l) (i := m + 1 + 1 + 1) (by omega), h2, h1] at h3
  rw [h3]
  simp only [Nat.mul_add, Nat.mul_assoc, Nat.add_assoc, Nat.pow_succ]

theorem top_le {B : Nat} (hB : 2 ≤ B) {l r : List Nat} {m : Nat} (hl : l.length = m + 1) (hr : r.length = m + 1) (hrt : Lt B r) (h : val B l < val B r) : l.getD m 0 ≤ r.getD m 0 := by
  have h1 := take_val' (B := B) l m
  have h2 := take_val' (B := B) r m
  rw [List.take_of_length_le (by omega)] at h1 h2
  have h3 := val_lt (hrt.take m)
  rw [List.length_take, Nat.min_eq_left (by omega)] at h3
  rcases Nat.lt_or_ge (r.getD m 0) (l.getD m 0) with h4 | h4
  · exfalso
    have : B ^ m * (r.getD m 0 + 1) ≤ B ^ m * l.getD m 0 := Nat.mul_le_mul_left _ h4
    rw [Nat.mul_add, Nat.mul_one] at this
    have := hB
    omega
  · exact h4

def GuessDone (w : World) (x y : Nat) (e : Ending) (w' : World) : Prop :=
  ∃ d : Nat, e = .returned (.int .u64 (d : Int)) ∧ d < 18446744073709551616 ∧ x / y ≤ d ∧ d ≤ x / y + 1 ∧ Below w.heap.size w w'

set_option maxRecDepth 100000 in
set_option maxHeartbeats 1000000 in
theorem guess_any {w : World} {A B : Option Addr} {m ck cm : Nat} {lw lv : List Nat} (h : Rd w .u64 W A (m + 3) ck lw) (h' : Rd w .u64 W B (m + 2) cm lv) (hm : m ≤ 1000000)
    (htop : 9223372036854775808 ≤ lv.getD (m + 1) 0) (hlt : val W (lw.drop 1) < val W lv) :
    Calls Tryd.prog 108 #[.slice A (m + 3 : Nat) ck, .slice B (m + 2 : Nat) cm] w fun e w' => GuessDone w (val W lw) (val W lv) e w' := by
  obtain ⟨a, o, rfl, ha, hca⟩ := h.at_ (by omega)
  obtain ⟨b, p, rfl, hb, hcb⟩ := h'.at_ (by omega)
  obtain ⟨w2, hw2⟩ : ∃ x, x = lw.getD (m + 2) 0 := ⟨_, rfl⟩
  obtain ⟨w1, hw1⟩ : ∃ x, x = lw.getD (m + 1) 0 := ⟨_, rfl⟩
  obtain ⟨w0, hw0⟩ : ∃ x, x = lw.getD m 0 := ⟨_, rfl⟩
  obtain ⟨top, htop'⟩ : ∃ x, x = lv.getD (m + 1) 0 := ⟨_, rfl⟩
  obtain ⟨next, hnext⟩ : ∃ x, x = lv.getD m 0 := ⟨_, rfl⟩
  have hW0 : 0 < W := by rw [W_eq]; omega
  have b2 : w2 < 18446744073709551616 := by rw [hw2, ← W_eq]; exact h.lt.getD hW0 _
  have b1 : w1 < 18446744073709551616 := by rw [hw1, ← W_eq]; exact h.lt.getD hW0 _
  have b0 : w0 < 18446744073709551616 := by rw [hw0, ← W_eq]; exact h.lt.getD hW0 _
  have bt : top < 18446744073709551616 := by rw [htop', ← W_eq]; exact h'.lt.getD hW0 _
  have bn : next < 18446744073709551616 := by rw [hnext, ← W_eq]; exact h'.lt.getD hW0 _
  rw [← htop'] at htop
  have hle : w2 ≤ top := by
    have := top_le W_two (l := lw.drop 1) (r := lv) (m := m + 1) (by rw [List.length_drop, h.len]; omega) h'.len h'.lt hlt
    rw [← htop'] at this
    have e : (lw.drop 1).getD (m + 1) 0 = lw.getD (m + 2) 0 := by
      simp only [List.getD_eq_getElem?_getD, List.getElem?_drop]
      congr 2
      omega
    rw [e, ← hw2] at this
    exact this
  have cw2 : w.cell? ⟨a, o + (m + 2), none⟩ = some (.int .u64 (w2 : Int)) := by rw [hw2]; exact hca _ (by omega)
  have cw1 : w.cell? ⟨a, o + (m + 1), none⟩ = some (.int .u64 (w1 : Int)) := by rw [hw1]; exact hca _ (by omega)
  have cw0 : w.cell? ⟨a, o + m, none⟩ = some (.int .u64 (w0 : Int)) := by rw [hw0]; exact hca _ (by omega)
  have ct : w.cell? ⟨b, p + (m + 1), none⟩ = some (.int .u64 (top : Int)) := by rw [htop']; exact hcb _ (by omega)
  have cn : w.cell? ⟨b, p + m, none⟩ = some (.int .u64 (next : Int)) := by rw [hnext]; exact hcb _ (by omega)
  -- the arithmetic, laid aside
  have HDone : Hid (∀ d r, GInv W top next w2 w1 w0 d r → d * next ≤ r * W + w0 → val W lw / val W lv ≤ d ∧ d ≤ val W lw / val W lv + 1) := by
    intro d r hI hc
    have e1 := top_three (B := W) h.len
    have e2 := top_two (B := W) h'.len
    rw [← hw2, ← hw1, ← hw0] at e1
    rw [← htop', ← hnext] at e2
    have l1 := val_lt (h.lt.take m)
    have l2 := val_lt (h'.lt.take m)
    rw [List.length_take, Nat.min_eq_left (by rw [h.len]; omega)] at l1
    rw [List.length_take, Nat.min_eq_left (by rw [h'.len]; omega)] at l2
    refine ginv_done W_two (by omega) hI hc l1 l2 e2 e1 ?_
    have e3 : val W lw = lw.getD 0 0 + W * val W (lw.drop 1) := by
      have := val_take_drop (B := W) lw 1
      have e4 : lw.take 1 = [lw.getD 0 0] := by
        have hh := h.len
        rcases lw with _ | ⟨x, t⟩
        · simp at hh
        · rfl
      rw [e4] at this
      simpa [val] using this
    have e5 : lw.getD 0 0 < W := h.lt.getD hW0 _
    have e6 : W * (val W (lw.drop 1) + 1) ≤ W * val W lv := Nat.mul_le_mul_left _ hlt
    rw [Nat.mul_add, Nat.mul_one] at e6
    omega
  clear hw2 hw1 hw0 htop' hnext hlt hca hcb h h'
  go_enter Tryd.func108, Tryd.ntmps108
  go_wp2
  go_step3
  go_wp2
  go_upto_region 2 with fail
  go_cut [6, 7] (fun v6 v7 wc => v6 = .int .u64 top ∧ v7 = .int .u64 next ∧ Below w.heap.size w wc)
  case first =>
    have k1 : IntKind.i64.wrap ((m : Int) + 2 - 1) = (m : Int) + 1 := by rw [IntKind.wrap_i64]; omega
    have k2 : IntKind.i64.wrap ((m : Int) + 2 - 2) = (m : Int) := by rw [IntKind.wrap_i64]; omega
    have k3 : ((m : Int) + 1).toNat = m + 1 := by omega
    go_quiet (fail)
    go_wp2
    go_meet
    case rel => exact ⟨rfl, rfl, below_drewN (Below.refl _ _) _⟩
  case rest =>
    obtain ⟨rfl, rfl, hbel⟩ := hcut
    have cw2' : wc.cell? ⟨a, o + (m + 2), none⟩ = some (.int .u64 (w2 : Int)) := (hbel.cell (by exact ha)).trans cw2
    have cw1' : wc.cell? ⟨a, o + (m + 1), none⟩ = some (.int .u64 (w1 : Int)) := (hbel.cell (by exact ha)).trans cw1
    have cw0' : wc.cell? ⟨a, o + m, none⟩ = some (.int .u64 (w0 : Int)) := (hbel.cell (by exact ha)).trans cw0
    clear cw2 cw1 ct cn
    go_upto_if 30 with fail
    go_cut [8, 9, 10] (fun v8 v9 v10 w2c => ∃ d rs ov : Nat, v8 = .int .u64 d ∧ v9 = .int .u64 rs ∧ v10 = .int .u64 ov ∧ rs < 18446744073709551616 ∧ ov ≤ 1 ∧ GInv W top next w2 w1 w0 d (rs + W * ov) ∧ Below w.heap.size w w2c)
    case first =>
      by_cases hw : w2 < top
      · obtain ⟨q, hq⟩ : ∃ q, q = (w2 * 18446744073709551616 + w1) / top := ⟨_, rfl⟩
        obtain ⟨r, hr⟩ : ∃ r, r = (w2 * 18446744073709551616 + w1) % top := ⟨_, rfl⟩
        have hqr : q * top + r = w2 * 18446744073709551616 + w1 := by rw [hq, hr, Nat.mul_comm]; exact Nat.div_add_mod _ _
        have hrt : r < top := by rw [hr]; exact Nat.mod_lt _ (by omega)
        have HG : Hid (GInv W top next w2 w1 w0 q r) := ginv_start W_two (by rw [W_eq]; exact hqr) hrt hw (by rw [W_eq]; exact b1) (by rw [W_eq]; exact b0)
        have HQ := Lib.hid hqr
        clear hq hr hqr
        have k1 : IntKind.i64.wrap ((m : Int) + 2 - 1) = (m : Int) + 1 := by rw [IntKind.wrap_i64]; omega
        have k3 : ((m : Int) + 1).toNat = m + 1 := by omega
        have k4 : ((m : Int) + 2).toNat = m + 2 := by omega
        go_wp2
        go_quiet ((go_at_call 116; exact Calls.quiet_of (div64_exact htop bt hw b1 HQ.out hrt)))
        go_wp2
        go_meet
        case rel => exact ⟨q, r, 0, rfl, rfl, rfl, by omega, by omega, by rw [Nat.mul_zero, Nat.add_zero]; exact HG.out, below_drewN hbel _⟩
      · have he : w2 = top := by omega
        obtain ⟨s, c, hrun, hs, hsB, hc⟩ := add64 w1 top b1 bt
        subst he
        have HG : Hid (GInv W w2 next w2 w1 w0 (W - 1) (s + W * c)) := by
          unfold Hid
          rw [W_eq, hs]
          exact ginv_start_top (by omega)
        clear hs hw
        go_wp2
        go_meet
        case rel => exact ⟨18446744073709551615, s, c, rfl, rfl, rfl, hsB, hc, HG.out, hbel⟩
    case rest =>
      obtain ⟨d, rs, ov, rfl, rfl, rfl, hrs, hov, hI, hbel2⟩ := hcut
      have HI0 : Hid (GInv W top next w2 w1 w0 d (rs + W * ov)) := hI
      clear hI cw2' cw1' cw0' hle
      have HC : Hid (∀ wx, Below w.heap.size w wx → wx.cell? ⟨a, o + m, none⟩ = some (.int .u64 (w0 : Int))) := fun wx hb => (hb.cell (by exact ha)).trans cw0
      go_wp2
      go_step3
      go_wp2
      go_loopg [8, 9, 10] d (fun g v8 v9 v10 wr => ∃ d rs ov : Nat, d ≤ g ∧ v8 = .int .u64 d ∧ v9 = .int .u64 rs ∧ v10 = .int .u64 ov ∧ rs < 18446744073709551616 ∧ ov ≤ 1 ∧ GInv W top next w2 w1 w0 d (rs + W * ov) ∧ Below w.heap.size w wr)
      case atStart => exact ⟨d, rs, ov, Nat.le_refl _, rfl, rfl, rfl, hrs, hov, HI0.out, hbel2⟩
      case round =>
        obtain ⟨d, rs, ov, hdg, rfl, rfl, rfl, hrs, hov, hI, hbel3⟩ := hrel
        have hdB : d < 18446744073709551616 := by have := hI.le; rw [W_eq] at this; omega
        have HI : Hid (GInv W top next w2 w1 w0 d (rs + W * ov)) := hI
        have HG : Hid (d ≤ gk) := hdg
        have HB0 : Hid (w0 < W) := by unfold Hid; rw [W_eq]; exact b0
        clear hI hdg
        by_cases h0 : ov = 0
        · subst h0
          obtain ⟨hi, hhi⟩ : ∃ hi, hi = d * next / 18446744073709551616 := ⟨_, rfl⟩
          obtain ⟨lo, hlo⟩ : ∃ lo, lo = d * next % 18446744073709551616 := ⟨_, rfl⟩
          have hp : hi * W + lo = d * next := by rw [hhi, hlo, Nat.mul_comm, W_eq]; exact Nat.div_add_mod _ _
          have hloW : lo < W := by rw [hlo, W_eq]; exact Nat.mod_lt _ (by omega)
          have hcall : ∀ wx, Calls Tryd.prog 103 #[.int .u64 (d : Int), .int .u64 (next : Int)] wx fun e w' => e = .returned (.tuple #[.int .u64 (hi : Int), .int .u64 (lo : Int)]) ∧ wx = w' := fun wx =>
            (Tryd.bits_Mul64 d next hdB bn wx).mono fun e w' ⟨he, hw⟩ => ⟨by rw [he, hhi, hlo], hw.symm⟩
          have HCALL : Hid (∀ wx, Calls Tryd.prog 103 #[.int .u64 (d : Int), .int .u64 (next : Int)] wx fun e w' => e = .returned (.tuple #[.int .u64 (hi : Int), .int .u64 (lo : Int)]) ∧ wx = w') := hcall
          have HP := Lib.hid hp
          have HL : Hid (lo < W) := hloW
          have hcw0 := HC.out wr hbel3
          clear hhi hlo hp hloW hcall
          have HOUT : d * next ≤ rs * W + w0 → Hid (GuessDone w (val W lw) (val W lv) (.returned (.int .u64 (d : Int))) wr) := fun hc => by
            have := HDone.out d (rs + W * 0) HI.out (by rw [Nat.mul_zero, Nat.add_zero]; exact hc)
            exact ⟨d, rfl, hdB, this.1, this.2, hbel3⟩
          have HNEXT : rs * W + w0 < d * next → Hid (GInv W top next w2 w1 w0 (d - 1) (rs + top) ∧ 0 < d) := fun hc => by
            have := ginv_next (by rw [W_eq]; omega) HI.out (by rw [Nat.mul_zero, Nat.add_zero]; exact hc)
            rwa [Nat.mul_zero, Nat.add_zero] at this
          have HOUT' : Hid (d * next ≤ rs * W + w0 → Hid (GuessDone w (val W lw) (val W lv) (.returned (.int .u64 (d : Int))) wr)) := HOUT
          have HNEXT' : Hid (rs * W + w0 < d * next → Hid (GInv W top next w2 w1 w0 (d - 1) (rs + top) ∧ 0 < d)) := HNEXT
          clear HOUT HNEXT
          by_cases c1 : hi < rs
          · have hout := HOUT'.out (by
              rw [← HP.out]
              have : (hi + 1) * W ≤ rs * W := Nat.mul_le_mul_right _ c1
              rw [Nat.add_mul, Nat.one_mul] at this
              have := HL.out
              omega)
            go_wp2_with (go_at_call 103; refine (HCALL.out _).mono ?_; rintro e w' ⟨rfl, rfl⟩)
            rw [Exit.noGoto_ret]
            go_ret
            exact hout
          · by_cases c2 : hi = rs
            · subst c2
              by_cases c3 : lo ≤ w0
              · have hout := HOUT'.out (by rw [← HP.out]; omega)
                clear c1
                go_wp2_with (go_at_call 103; refine (HCALL.out _).mono ?_; rintro e w' ⟨rfl, rfl⟩)
                rw [Exit.noGoto_ret]
                go_ret
                exact hout
              · have hnx := HNEXT'.out (by rw [← HP.out]; omega)
                have hd0 : 1 ≤ d := hnx.out.2
                obtain ⟨s, c, hrun, hs, hsB, hc⟩ := add64 hi top hrs bt
                have HS := Lib.hid hs
                clear hs c1
                go_wp2_with (go_at_call 103; refine (HCALL.out _).mono ?_; rintro e w' ⟨rfl, rfl⟩)
                go_roundg (d - 1)
                case measure => have := HG.out; omega
                case rel => exact ⟨d - 1, s, c, Nat.le_refl _, by go_num, rfl, rfl, hsB, hc, by rw [W_eq, HS.out, ← W_eq]; exact hnx.out.1, hbel3⟩
            · have hnx := HNEXT'.out (by
                rw [← HP.out]
                have : (rs + 1) * W ≤ hi * W := Nat.mul_le_mul_right _ (by omega)
                rw [Nat.add_mul, Nat.one_mul] at this
                have := HB0.out
                omega)
              have hd0 : 1 ≤ d := hnx.out.2
              obtain ⟨s, c, hrun, hs, hsB, hc⟩ := add64 rs top hrs bt
              have HS := Lib.hid hs
              have f2 : ((hi : Int) == (rs : Int)) = false := by simp; omega
              clear hs c2
              go_wp2_with (go_at_call 103; refine (HCALL.out _).mono ?_; rintro e w' ⟨rfl, rfl⟩)
              go_roundg (d - 1)
              case measure => have := HG.out; omega
              case rel => exact ⟨d - 1, s, c, Nat.le_refl _, by go_num, rfl, rfl, hsB, hc, by rw [W_eq, HS.out, ← W_eq]; exact hnx.out.1, hbel3⟩
        · obtain rfl : ov = 1 := by omega
          have hout : GuessDone w (val W lw) (val W lv) (.returned (.int .u64 (d : Int))) wr := by
            have := HDone.out d (rs + W * 1) HI.out (by
              have h1 : d * next ≤ (W - 1) * (W - 1) := Nat.mul_le_mul (by have := HI.out.le; exact this) (by rw [W_eq]; omega)
              have h2 : (W - 1) * (W - 1) ≤ W * 1 * W := by rw [W_eq]; omega
              rw [Nat.add_mul]
              omega)
            exact ⟨d, rfl, hdB, this.1, this.2, hbel3⟩
          have HOUT : Hid (GuessDone w (val W lw) (val W lv) (.returned (.int .u64 (d : Int))) wr) := hout
          clear hout
          go_wp2
          rw [Exit.noGoto_ret]
          go_ret
          exact HOUT.out
end Go.Proofs.YtdklekiknhhfdaaDoor
