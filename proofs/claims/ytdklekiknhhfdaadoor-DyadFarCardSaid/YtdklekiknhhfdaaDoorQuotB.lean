/-
  Contract of nat.quotient at this translation where the dividend is not less than the divisor. Condition: both are canonical limbs, of at most 100,000 each, the divisor is not 0.
-/
import Derived.Test.YtdklekiknhhfdaaDoorQuot
import Derived.Deep.DeepFit
namespace Go.Proofs.YtdklekiknhhfdaaDoor
open Go.RowKit

/-- what holds of memory ahead of a round -/
structure QRel (w : World) (gu gv gq L mv cv nq V U0 k : Nat) (cur q : List Nat) (wr : World) : Prop where
  inv : QInv W V U0 L nq k cur q
  ru : Row wr gu 49 .u64 0 [] cur []
  rq : Row wr gq 49 .u64 0 [] q []
  rv : Rd wr .u64 W (some ⟨gv, 0, none⟩) mv cv (dig W V)
  bel : Below w.heap.size w wr

theorem below_row {w a b : World} {g : Nat} (h : Below w.heap.size w a) (hg : a.grownBy b (some g)) (h0 : w.heap.size ≤ g) : Below w.heap.size w b :=
  h.grown hg h.size (fun k e => by injection e with e; omega)

set_option maxRecDepth 100000 in
set_option maxHeartbeats 2000000 in
theorem quotient_more {w : World} {A B : Option Addr} {n c nb d : Nat} {l r : List Nat} (h : Rd w .u64 W A n c l) (h' : Rd w .u64 W B nb d r) (hl : Can W l) (hr : Can W r) (hn : n ≤ 100000) (hnb : nb ≤ 100000) (h0 : nb ≠ 0) (hge : val W r ≤ val W l) :
    Calls Tryd.prog 78 #[.slice A n c, .slice B nb d] w fun e w' => QuotDone w (val W l) (val W r) e w' := by
  have hc0 : 0 ≤ cmpN (val W l) (val W r) := by
    rcases Nat.lt_or_ge (val W r) (val W l) with h1 | h1
    · rw [cmpN_gt h1]; decide
    · rw [cmpN_eq (by omega)]; decide
  have ho : ∀ wx, Below w.heap.size w wx → Calls Tryd.prog 72 #[.slice A n c, .slice B nb d] wx fun e w' => ∃ t : Int, 0 ≤ t ∧ e = .returned (.int .i64 t) ∧ Below wx.heap.size wx w' := fun wx hb =>
    (order_any (h.below hb) (h'.below hb) hl hr).mono fun e w' ⟨he, hw⟩ => ⟨_, hc0, he, hw⟩
  have HO : Hid (∀ wx, Below w.heap.size w wx → Calls Tryd.prog 72 #[.slice A n c, .slice B nb d] wx fun e w' => ∃ t : Int, 0 ≤ t ∧ e = .returned (.int .i64 t) ∧ Below wx.heap.size wx w') := ho
  clear ho hc0
  have hcapb := h'.cap
  obtain ⟨b, o, rfl, hb, hc⟩ := h'.at_ h0
  obtain ⟨top, htop⟩ : ∃ x, x = r.getD (nb - 1) 0 := ⟨_, rfl⟩
  have hW0 : 0 < W := by rw [W_eq]; omega
  have htB : top < 18446744073709551616 := by rw [htop, ← W_eq]; exact h'.lt.getD hW0 _
  have ht0 : top ≠ 0 := by rw [htop]; have := hr.2 (by rw [h'.len]; exact h0); rwa [h'.len] at this
  have hcell : w.cell? ⟨b, o + (nb - 1), none⟩ = some (.int .u64 (top : Int)) := by rw [htop]; exact hc _ (by omega)
  obtain ⟨z, hz63, hz1, hz2, hz⟩ := lz_any top ht0 htB
  obtain ⟨x, hx⟩ : ∃ x, x = if nb = 1 then 1 else 0 := ⟨_, rfl⟩
  obtain ⟨s, hs⟩ : ∃ s, s = z + 64 * x := ⟨_, rfl⟩
  have hlead := lead_raise (x := x) hr h'.len (by omega) (by rw [← htop]; exact hz1) (by rw [← htop]; exact hz2)
  rw [← hs] at hlead
  have hx1 : x ≤ 1 := by rw [hx]; split <;> omega
  have hxb : (nb = 1 ∧ x = 1) ∨ (nb ≠ 1 ∧ x = 0) := by rw [hx]; split <;> omega
  have hsx : s / 64 = x := by omega
  obtain ⟨V, hV⟩ : ∃ V, V = val W r * 2 ^ s := ⟨_, rfl⟩
  obtain ⟨U0, hU0⟩ : ∃ U, U = val W l * 2 ^ s := ⟨_, rfl⟩
  rw [← hV] at hlead
  have hlt := lead_top (y := val W r) (s := s) (n := nb + x) (by rw [← hV]; exact hlead.1) (by rw [← hV]; exact hlead.2) (by omega)
  rw [← hV] at hlt
  obtain ⟨m, hm⟩ : ∃ m, nb + x = m + 2 := ⟨nb + x - 2, by omega⟩
  rw [hm] at hlead hlt
  have hrpos : 0 < val W r := by
    have := val_pos_of_last (B := W) (l := r) (by rw [h'.len]; exact h0) (hr.2 (by rw [h'.len]; exact h0))
    have := Nat.pow_pos (n := r.length - 1) hW0
    omega
  -- the first digits
  have hUV : U0 < V * W ^ (n + x + 1 - (m + 2)) := by
    have h1 := val_lt hl.1
    rw [h.len] at h1
    have h2 := val_pos_of_last (B := W) (l := r) (by rw [h'.len]; exact h0) (hr.2 (by rw [h'.len]; exact h0))
    rw [h'.len] at h2
    have hnbn : nb ≤ n := by
      rcases Nat.lt_or_ge n nb with h5 | h5
      · have := val_lt_len W_two hl.1 hr (by rw [h.len, h'.len]; exact h5)
        omega
      · exact h5
    have h3 : n + x + 1 - (m + 2) = n + 1 - nb := by omega
    have h4 : W ^ (nb - 1) * W ^ (n + 1 - nb) = W ^ n := by rw [← Nat.pow_add]; congr 1; omega
    have h5 : W ^ (nb - 1) * W ^ (n + 1 - nb) ≤ val W r * W ^ (n + 1 - nb) := Nat.mul_le_mul_right _ h2
    rw [hU0, hV, h3, Nat.mul_right_comm]
    exact Nat.mul_lt_mul_of_pos_right (by omega) (Nat.pow_pos (by omega))
  have hnbn : nb ≤ n := by
    rcases Nat.lt_or_ge n nb with h5 | h5
    · have := val_lt_len W_two hl.1 hr (by rw [h.len, h'.len]; exact h5)
      omega
    · exact h5
  have hn6 : n ≤ 1000000 := by omega
  have hnb6 : nb ≤ 1000000 := by omega
  have hs6 : s ≤ 64000000 := by omega
  have HM := Lib.hid hm
  have HS := Lib.hid hs
  have HX : Hid ((nb = 1 ∧ x = 1) ∨ (nb ≠ 1 ∧ x = 0)) := hxb
  have HSX := Lib.hid hsx
  have HX1 := Lib.hid hx1
  have HV := Lib.hid hV
  have HU := Lib.hid hU0
  have HUV : Hid (U0 < V * W ^ (n + x + 1 - (m + 2))) := hUV
  have HLT : Hid ((dig W V).length = m + 2 ∧ 9223372036854775808 ≤ (dig W V).getD (m + 2 - 1) 0) := hlt
  have HVW : Hid (V < W ^ (m + 2)) := hlead.2
  have HZ : Hid (∀ w : World, Calls Tryd.prog 106 #[.int .u64 top] w fun e w' => e = .returned (.int .i64 (z : Int)) ∧ w = w') := hz
  have HC : Hid (∀ wx, Below w.heap.size w wx → wx.cell? ⟨b, o + (nb - 1), none⟩ = some (.int .u64 (top : Int))) := fun wx hbx => (hbx.cell (by exact hb)).trans hcell
  have HR : Hid (0 < val W r) := hrpos
  clear hm hs hxb hsx hV hU0 hUV hlt hlead hz hx htop hcell hc hz1 hz2 hrpos hge hx1
  go_enter Tryd.func78, Tryd.ntmps78
  go_wp2
  go_step3
  go_wp2_with fail
  refine (HO.out w (Below.refl _ _)).mono ?_
  rintro e w1 ⟨t, ht, rfl, hb1⟩
  have hcell1 := HC.out w1 hb1
  have hp : (0 : Int) ≤ (nb : Int) - 1 := by omega
  go_upto_if 27 with (go_at_call 106; refine (HZ.out _).mono ?_; rintro e w' ⟨rfl, rfl⟩)
  go_cut [6] (fun v6 wc => v6 = .int .i64 (s : Int) ∧ w1 = wc)
  case first =>
    rcases HX.out with ⟨e1, e2⟩ | ⟨e1, e2⟩
    · have f1 : ((nb : Int) == 1) = true := by simp; omega
      have es : Hid ((s : Int) = (z : Int) + 64) := by have := HS.out; unfold Hid; omega
      clear e1 e2
      go_wp2
      go_meet
      case rel => exact ⟨by rw [es.out], rfl⟩
    · have f1 : ((nb : Int) == 1) = false := by simp; omega
      have es : Hid ((s : Int) = (z : Int)) := by have := HS.out; unfold Hid; omega
      clear e1 e2
      go_wp2
      go_meet
      case rel => exact ⟨by rw [es.out], rfl⟩
  case rest =>
    obtain ⟨rfl, rfl⟩ := hcut
    clear hcell1 hp HZ
    have hsb1 := hb1.size
    go_wp2_with fail
    refine (spread_any (h.below hb1) hn6 hs6).mono ?_
    rintro e w2 ⟨gu, cu, rfl, hgu, hru, hlu, hltu, hvu, hb2⟩
    have hsb2 := hb2.size
    have hgu2 := hru.gl
    obtain ⟨L, hL⟩ : ∃ L, n + s / 64 + 1 = L := ⟨_, rfl⟩
    rw [hL] at hlu ⊢
    rw [HSX.out] at hL
    have HL := Lib.hid hL
    have HLU := Lib.hid hlu
    have HVU : Hid (val W cu = U0) := by unfold Hid; rw [hvu, HU.out]
    have hL6 : L ≤ 200000 := by have := HX1.out; omega
    have hmL : m + 3 ≤ L := by have := HM.out; omega
    clear hL hlu hvu
    go_wp2_with fail
    refine (raised_any ((h'.below hb1).below hb2) hnb6 hs6).mono ?_
    rintro e w3 ⟨gv, mv, cv, rfl, hgv, hrv, hb3⟩
    rw [← HV.out] at hrv
    have hsb3 := hb3.size
    have hmv : mv = m + 2 := by rw [← hrv.len]; exact HLT.out.1
    subst hmv
    obtain ⟨nq, hnq⟩ : ∃ nq, nq = L - (m + 2) := ⟨_, rfl⟩
    have hq1 : nq + (m + 2) ≤ L := by omega
    have hq2 : L ≤ nq + (m + 2) := by omega
    clear hnq
    go_wp2_with (at_make; refine law_make rfl (.tmp 40) rfl _ nq rfl (by omega) (by omega) ?_; intro w4 hrq hg4)
    have hsb4 := hg4.size
    have hgv3 : gv < w3.heap.size := by
      obtain ⟨b', o', e', hb', _⟩ := hrv.at_ (by omega)
      injection e' with e'
      injection e' with e'
      subst e'
      exact hb'
    obtain ⟨gq, hgq⟩ : ∃ gq, gq = w3.heap.size := ⟨_, rfl⟩
    rw [← hgq] at hrq ⊢
    have hne1 : gu < gv := by omega
    have hne2 : gv < gq := by omega
    have hb4 : Below w.heap.size w w4 := ((hb1.trans (hb2.mono hsb1)).trans (hb3.mono (by omega))).grown hg4 (by omega) (fun _ e => by cases e)
    have hR0 : QRel w gu gv gq L (m + 2) cv nq V U0 nq cu (List.replicate nq 0) w4 := by
      refine ⟨⟨HLU.out, by simp, hltu, Lt.replicate _ (by rw [W_eq]; omega), by rw [val_replicate, Nat.mul_zero, Nat.add_zero]; exact HVU.out, ?_, fun i _ => getD_replicate _ _⟩, (hru.below hb3 hgu2).grownNone hg4, hrq, hrv.grownNone hg4, hb4⟩
      rw [drop_val (by rw [W_eq]; omega) hltu (by rw [HLU.out]; omega), HVU.out, Nat.div_lt_iff_lt_mul (Nat.pow_pos (by rw [W_eq]; omega)), show nq = n + x + 1 - (m + 2) by have := HL.out; omega]
      exact HUV.out
    have HR0 := Lib.hid hR0
    have hgw1 : w.heap.size ≤ gu := by omega
    have hgw2 : w.heap.size ≤ gq := by omega
    clear hR0 hgq hru hrq hrv hb1 hb2 hb3 hg4 hltu hsb1 hsb2 hsb3 hsb4 hgu hgv hgu2 hgv3 hb4 h hl h' hr HC HO HUV
    go_step3
    go_wp2
    go_loopg [10] nq (fun g v wr => ∃ (k : Nat) (cur q : List Nat), k ≤ g ∧ k ≤ nq ∧ v = .int .i64 ((k : Int) - 1) ∧ QRel w gu gv gq L (m + 2) cv nq V U0 k cur q wr)
    case atStart => exact ⟨nq, cu, _, Nat.le_refl _, Nat.le_refl _, rfl, HR0.out⟩
    case round =>
      obtain ⟨k, cur, q, hg, hk, rfl, hQ⟩ := hrel
      rcases k with _ | j
      · have hend := q_end (HR.out) (by have := hQ.inv; rwa [HV.out, HU.out] at this)
        have hrdq := hQ.rq.rd' hQ.inv.qlt hQ.inv.qlen (Nat.le_refl _) (by omega)
        have hrdu := hQ.ru.rd' hQ.inv.lt hQ.inv.len (Nat.le_refl _) (by omega)
        have hbel := hQ.bel
        have H1 : Hid (val W q = val W l / val W r) := hend.1
        have H2 : Hid (val W cur / 2 ^ s = val W l % val W r) := hend.2
        clear hend hQ
        go_wp2_with fail
        refine (trimmed_any hrdq).mono ?_
        rintro e w' ⟨rfl, rfl⟩
        go_wp2_with fail
        refine (trimmed_any hrdu).mono ?_
        rintro e w' ⟨rfl, rfl⟩
        have hrdt := rd_trimmed hrdu
        have hlen := take_dig W_two hrdu.lt
        go_wp2_with fail
        refine (lowered_any hrdt (by have := hlen.1; rw [hrdu.len] at this; omega) hs6).mono ?_
        rintro e w5 ⟨A5, n5, c5, rfl, hrd5, hb5⟩
        rw [val_dig W_two, H2.out] at hrd5
        have hrdq2 := (rd_trimmed hrdq).below hb5
        rw [H1.out] at hrdq2
        have H1' : Hid ((dig W (val W q)).length = (dig W (val W l / val W r)).length) := by unfold Hid; rw [H1.out]
        go_wp2
        rw [Exit.noGoto_ret]
        go_ret2
        refine ⟨_, _, _, _, _, _, rfl, ?_, hrd5, hbel.trans (hb5.mono hbel.size)⟩
        first | exact hrdq2 | (rw [← H1'.out] at hrdq2; exact hrdq2) | (rw [H1'.out]; exact hrdq2)
      · have ej : (((j + 1 : Nat) : Int) - 1) = (j : Int) := by omega
        rw [ej]
        clear ej
        have hwin := q_window W_two hQ.inv HVW.out (show j + (m + 2) + 1 ≤ L by omega)
        have hmid := hQ.ru.mid0 j (m + 2 + 1) (by rw [hQ.inv.len]; omega)
        have hrdw := hmid.rd' ((hQ.inv.lt.drop j).take (m + 2 + 1)) hwin.2.2.2.2 (show m + 2 + 1 ≤ L - j by omega) (by omega)
        obtain ⟨X, hX⟩ : ∃ X, X = val W ((cur.drop j).take (m + 2 + 1)) := ⟨_, rfl⟩
        have hgs := guess_any hrdw hQ.rv (by omega) HLT.out.2 (by rw [val_dig W_two]; exact hwin.2.2.1)
        rw [← hX, val_dig W_two] at hgs
        have HGS := Lib.hid hgs
        have HXX := Lib.hid hX
        have HQ : Hid (QRel w gu gv gq L (m + 2) cv nq V U0 (j + 1) cur q wr) := hQ
        have HG : Hid (j + 1 ≤ gk) := hg
        clear hgs hX hwin hrdw hmid hQ hg
        go_wp2_with fail
        rw [show j + (m + 2) + 1 - j = m + 3 by omega]
        refine HGS.out.mono ?_
        rintro e wg ⟨dg, rfl, hdB, hlo, hup, hbg⟩
        have HD : Hid (X / V ≤ dg ∧ dg ≤ X / V + 1) := ⟨hlo, hup⟩
        have hrqg := HQ.out.rq.below hbg HQ.out.rq.gl
        have hrug := HQ.out.ru.below hbg HQ.out.ru.gl
        have hrvg := HQ.out.rv.below hbg
        have hbelg := HQ.out.bel.trans (hbg.mono HQ.out.bel.size)
        have hql : j < q.length := by rw [HQ.out.inv.qlen]; omega
        have hcq := hrqg.cell0 hql
        have hfq := hrqg.frozen j
        clear hlo hup hbg
        -- behind the store
        have hrqs := hrqg.set0 hql dg
        have hrus := hrug.grown (grownBy_set wg gq j (.int .u64 (dg : Int))) (by omega)
        have hrvs := hrvg.grown (grownBy_set wg gq j (.int .u64 (dg : Int))) (by intro _ a ha; injection ha with ha; subst ha; show gv ≠ gq; omega)
        have hbels := below_row hbelg (grownBy_set wg gq j (.int .u64 (dg : Int))) hgw2
        have hmid := hrus.mid0 j (m + 2 + 1) (by rw [HQ.out.inv.len]; omega)
        have hwin := q_window W_two HQ.out.inv HVW.out (show j + (m + 2) + 1 ≤ L by omega)
        have HWIN := Lib.hid hwin
        have HMID : Hid (Row (wg.setCell ⟨gq, j, none⟩ (.int .u64 (dg : Int))) gu 49 .u64 j (iv .u64 (cur.take j)) ((cur.drop j).take (m + 2 + 1)) (iv .u64 (cur.drop (j + (m + 2 + 1))))) := hmid
        have HRQ : Hid (Row (wg.setCell ⟨gq, j, none⟩ (.int .u64 (dg : Int))) gq 49 .u64 0 [] (q.set j dg) []) := hrqs
        have HRV : Hid (Rd (wg.setCell ⟨gq, j, none⟩ (.int .u64 (dg : Int))) .u64 W (some ⟨gv, 0, none⟩) (m + 2) cv (dig W V)) := hrvs
        have HB : Hid (Below w.heap.size w (wg.setCell ⟨gq, j, none⟩ (.int .u64 (dg : Int)))) := hbels
        clear hmid hwin hrqs hrus hrvs hbels hrqg hrug hrvg hbelg
        go_wp2_with fail
        refine (takeTimes_any (x := dg) HMID.out ((HQ.out.inv.lt.drop j).take (m + 2 + 1)) HWIN.out.2.2.2.2 (show m + 2 + 1 ≤ L - j by omega) (by omega) HRV.out (by omega) (by intro _ a ha; injection ha with ha; subst ha; show gv ≠ gu; omega) hdB).mono ?_
        rintro e wt ⟨xs', ow, rfl, how, hrow, hgrow, hlen, hlt, hval⟩
        rw [← HXX.out, val_dig W_two, HWIN.out.2.2.2.2] at hval
        have hVp : 0 < V := by have := HQ.out.inv.up; omega
        have hqW : X / V < W := by
          rw [Nat.div_lt_iff_lt_mul hVp, HXX.out]; exact HWIN.out.2.1
        have hlen' : xs'.length = m + 2 + 1 := hlen.trans HWIN.out.2.2.2.2
        have hrqt := HRQ.out.grown hgrow (show gq ≠ gu by omega)
        have hrvt := HRV.out.grown hgrow (by intro _ a ha; injection ha with ha; subst ha; show gv ≠ gu; omega)
        have hbelt := below_row HB.out hgrow hgw1
        by_cases h0w : ow = 0
        · have hex := take_exact hVp HD.out.1 HD.out.2 hval h0w
          have hnx := q_next W_two HQ.out.inv HVW.out (show j + (m + 2) + 1 ≤ L by omega) (by omega) hlen' hlt (by rw [← HXX.out]; exact hex.2) (by rw [← HXX.out]; exact hqW)
          rw [← HXX.out, ← hex.1] at hnx
          have HNX : Hid (QRel w gu gv gq L (m + 2) cv nq V U0 j (cur.take j ++ xs' ++ cur.drop (j + (m + 2) + 1)) (q.set j dg) wt) := ⟨hnx, hrow.unmid0 hlen', hrqt, hrvt, hbelt⟩
          subst h0w
          clear hex hnx hval hrow hgrow hlen hlt hVp hqW hlen' hrqt hrvt hbelt how
          go_wp2
          go_roundg j
          case measure => have := HG.out; omega
          case rel => exact ⟨j, _, _, Nat.le_refl _, by omega, rfl, HNX.out⟩
        · have f1 : ((ow : Int) == 0) = false := by simp; omega
          have hdq : dg = X / V + 1 ∧ 1 ≤ dg := by
            have hv1 := val_lt hlt
            rw [hlen'] at hv1
            rcases Nat.lt_or_ge dg (X / V + 1) with h5 | h5
            · exfalso
              have e5 : dg = X / V := by have := HD.out.1; omega
              have e6 : X / V * V ≤ X := Nat.div_mul_le_self _ _
              rw [e5] at hval
              have e7 : W ^ (m + 2 + 1) * 1 ≤ W ^ (m + 2 + 1) * ow := Nat.mul_le_mul_left _ (by omega)
              omega
            · have := HD.out.2
              generalize X / V = qq at *
              omega
          have hqlt : j < (q.set j dg).length := by rw [List.length_set]; exact hql
          have hcqt : wt.cell? ⟨gq, j, none⟩ = some (.int .u64 (dg : Int)) := by
            have := hrqt.cell0 hqlt
            rwa [getD_set_self hql] at this
          have hfqt := hrqt.frozen j
          have hd1 := hdq.2
          have hrqs := hrqt.set0 hqlt (dg - 1)
          rw [List.set_set] at hrqs
          have hrus := hrow.grown (grownBy_set wt gq j (.int .u64 ((dg - 1 : Nat) : Int))) (by omega)
          have hrvs := hrvt.grown (grownBy_set wt gq j (.int .u64 ((dg - 1 : Nat) : Int))) (by intro _ a ha; injection ha with ha; subst ha; show gv ≠ gq; omega)
          have hbels := below_row hbelt (grownBy_set wt gq j (.int .u64 ((dg - 1 : Nat) : Int))) hgw2
          have ed : ((dg - 1 : Nat) : Int) = (dg : Int) - 1 := by omega
          rw [ed] at hrqs hrus hrvs hbels
          have HVAL : Hid (val W xs' + dg * V = X + W ^ (m + 2 + 1) * ow) := hval
          have HOW : Hid (ow ≠ 0) := h0w
          have HDQ : Hid (dg = X / V + 1) := hdq.1
          have HRQ2 : Hid (Row (wt.setCell ⟨gq, j, none⟩ (.int .u64 ((dg : Int) - 1))) gq 49 .u64 0 [] (q.set j (dg - 1)) []) := hrqs
          have HRU2 : Hid (Row (wt.setCell ⟨gq, j, none⟩ (.int .u64 ((dg : Int) - 1))) gu 49 .u64 j (iv .u64 (cur.take j)) xs' (iv .u64 (cur.drop (j + (m + 2 + 1))))) := hrus
          have HRV2 : Hid (Rd (wt.setCell ⟨gq, j, none⟩ (.int .u64 ((dg : Int) - 1))) .u64 W (some ⟨gv, 0, none⟩) (m + 2) cv (dig W V)) := hrvs
          have HB2 : Hid (Below w.heap.size w (wt.setCell ⟨gq, j, none⟩ (.int .u64 ((dg : Int) - 1)))) := hbels
          have HLEN : Hid (xs'.length = m + 2 + 1) := hlen'
          clear hrqs hrus hrvs hbels ed hval h0w hdq hlen hlen' hrow hrvt hbelt hrqt hgrow hcq hfq
          go_wp2_with fail
          refine (addTimes_any (x := 1) HRU2.out hlt HLEN.out (show m + 2 + 1 ≤ L - j by omega) (by omega) HRV2.out (by omega) (by intro _ a ha; injection ha with ha; subst ha; show gv ≠ gu; omega) (by omega)).mono ?_
          rintro e wa ⟨rfl, xs2, ca, hrow2, hgrow2, hlen2, hlt2, hval2⟩
          rw [val_dig W_two, HLEN.out] at hval2
          have hlen2' : xs2.length = m + 2 + 1 := hlen2.trans HLEN.out
          have hv1 := val_lt hlt
          have hv2 := val_lt hlt2
          rw [HLEN.out] at hv1
          rw [hlen2'] at hv2
          have hVn : V ≤ W ^ (m + 2 + 1) := Nat.le_of_lt (Nat.lt_of_lt_of_le HVW.out (Nat.pow_le_pow_right (by rw [W_eq]; omega) (by omega)))
          have hex := take_over hVp hVn HD.out.1 HD.out.2 HVAL.out HOW.out hv1 hv2 hval2
          have hnx := q_next W_two HQ.out.inv HVW.out (show j + (m + 2) + 1 ≤ L by omega) (by omega) hlen2' hlt2 (by rw [← HXX.out]; exact hex.2) (by rw [← HXX.out]; exact hqW)
          rw [← HXX.out, show X / V = dg - 1 by rw [hex.1]; rfl] at hnx
          have HNX : Hid (QRel w gu gv gq L (m + 2) cv nq V U0 j (cur.take j ++ xs2 ++ cur.drop (j + (m + 2) + 1)) (q.set j (dg - 1)) wa) := ⟨hnx, hrow2.unmid0 hlen2', HRQ2.out.grown hgrow2 (show gq ≠ gu by omega), HRV2.out.grown hgrow2 (by intro _ a ha; injection ha with ha; subst ha; show gv ≠ gu; omega), below_row HB2.out hgrow2 hgw1⟩
          clear hnx hex hval2 hrow2 hgrow2 hlen2 hlt2 hlen2' hv1 hv2 hVn
          go_wp2
          go_roundg j
          case measure => have := HG.out; omega
          case rel => exact ⟨j, _, _, Nat.le_refl _, by omega, rfl, HNX.out⟩
end Go.Proofs.YtdklekiknhhfdaaDoor
