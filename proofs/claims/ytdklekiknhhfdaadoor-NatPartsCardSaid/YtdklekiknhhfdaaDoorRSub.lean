/-
  Contract of the reference's Sub at this translation. Condition: the slices read as digits of sixteen bits, at most ten thousand; the second number is not greater.
-/
import Derived.Test.YtdklekiknhhfdaaDoorRAdd
import Derived.Test.YtdklekiknhhfdaaDoorRApi
namespace Go.Proofs.YtdklekiknhhfdaaDoor
open Go.RowKit

theorem sub_step2 {l r out : List Nat} {i cc d e z c' : Nat} (hd : d = l.getD i 0) (he : e = r.getD i 0) (hz : z + cc + e = d + H * c') (hzH : z < H) (hl : out.length = i) (hlt : Lt H out)
    (hv : val H out + val H (r.take i) = val H (l.take i) + H ^ i * cc) :
    (out ++ [z]).length = i + 1 ∧ Lt H (out ++ [z]) ∧ val H (out ++ [z]) + val H (r.take (i + 1)) = val H (l.take (i + 1)) + H ^ (i + 1) * c' := by
  refine ⟨by simp [hl], hlt.append (Lt.cons hzH Lt.nil), ?_⟩
  have e3 : H ^ i * (z + cc + e) = H ^ i * (d + H * c') := by rw [hz]
  rw [Nat.mul_add, Nat.mul_add, Nat.mul_add] at e3
  rw [val_snoc, hl, take_val', take_val', ← hd, ← he, Nat.pow_succ, Nat.mul_assoc]
  omega

/-- the same, with what the slice lies in: a block that the call made -/
def DFresh (w : World) (x : Nat) (e : Ending) (w' : World) : Prop :=
  ∃ A n c, e = .returned (.slice A n c) ∧ Dg w' A n c x ∧ (∀ g i u, g < w.heap.size → Dg (w'.setCell ⟨g, i, none⟩ u) A n c x) ∧ Below w.heap.size w w'
theorem Own.fresh {base : Nat} {w : World} {e : TypeId} {k : IntKind} {v : Value} {l : List Nat} (h : Own base w e k v l) : l.length ≠ 0 → ∃ g cap, v = .slice (some ⟨g, 0, none⟩) l.length cap ∧ base ≤ g := fun h0 => by
  obtain ⟨g, cap, _, e, hb, _⟩ := Row.of_own h h0
  exact ⟨g, cap, e, hb⟩
theorem rd_elsewhere {w : World} {k : IntKind} {B b0 : Nat} {A : Option Addr} {n c : Nat} {l : List Nat} (h : Rd w k B A n c l) (hf : n ≠ 0 → ∃ g, A = some ⟨g, 0, none⟩ ∧ b0 ≤ g) (g i : Nat) (u : Value) (hg : g < b0) : Rd (w.setCell ⟨g, i, none⟩ u) k B A n c l := by
  refine h.grown (grownBy_set w g i u) ?_
  intro hn a ha
  obtain ⟨g', e, hb⟩ := hf hn
  rw [e] at ha
  injection ha with ha
  subst ha
  show g' ≠ g
  omega

set_option maxRecDepth 100000 in
set_option maxHeartbeats 2000000 in
theorem rsub_fresh {w : World} {A B : Option Addr} {n c m d0 x y : Nat} (h : Dg w A n c x) (h' : Dg w B m d0 y) (hn : n ≤ 10000) (hyx : y ≤ x) :
    Calls Tryd.prog 29 #[.slice A n c, .slice B m d0] w fun e w' => DFresh w (x - y) e w' := by
  have hcap := h.cap
  have hmax := h.max
  have hcap' := h'.cap
  have hmax' := h'.max
  have hmn : m ≤ n := dg_small h' (Nat.lt_of_le_of_lt hyx h.lt)
  have HLT := Lib.hid (lt_dig H_two x)
  have HLT' := Lib.hid (lt_dig H_two y)
  have HYX := Lib.hid hyx
  have HXN := Lib.hid h.lt
  clear hyx
  go_enter Tryd.func29, Tryd.ntmps29
  go_wp2
  go_loopg [5, 6, 7] n (fun g v5 v6 v7 wr => ∃ i cc : Nat, ∃ out : List Nat, i + g = n ∧ v7 = .int .i64 i ∧ v6 = .int .i32 cc ∧ cc ≤ 1 ∧ Own w.heap.size wr 77 .u32 v5 out ∧ out.length = i ∧ Lt H out ∧ val H out + val H ((dig H y).take i) = val H ((dig H x).take i) + H ^ i * cc ∧ Below w.heap.size w wr)
  case atStart => exact ⟨0, 0, [], by omega, rfl, rfl, by omega, Own.nil _ _ _ _, rfl, Lt.nil, rfl, Below.refl _ _⟩
  case round =>
    obtain ⟨i, cc, out, hg, rfl, rfl, hcc, hown, hlen, hltO, hval, hbw⟩ := hrel
    have HG := Lib.hid hg
    have HV := Lib.hid hval
    have HL := Lib.hid hlen
    have hi6 : i ≤ 10000 := by omega
    have hbs := hbw.size
    have hl3 : out.length ≤ 1000000 := by omega
    by_cases h1 : i < n
    · obtain ⟨d, hd⟩ : ∃ d, d = (dig H x).getD i 0 := ⟨_, rfl⟩
      obtain ⟨e, he⟩ : ∃ e, e = (dig H y).getD i 0 := ⟨_, rfl⟩
      have hdB : d < H := by rw [hd]; exact HLT.out.getD (by rw [H_eq]; omega) _
      have heB : e < H := by rw [he]; exact HLT'.out.getD (by rw [H_eq]; omega) _
      rw [H_eq] at hdB heB
      obtain ⟨b, o, rfl, hb, hc⟩ := Rd.at_ h (by omega)
      have hcell : wr.cell? ⟨b, o + i, none⟩ = some (.int .u32 (d : Int)) := by rw [hd]; exact (hbw.cell (p := ⟨b, o + i, none⟩) hb).trans (hc i h1)
      have HD := Lib.hid hd
      have HE := Lib.hid he
      clear hc hd he hg hval hlen
      by_cases hneg : d < cc + e
      · obtain ⟨z, hz⟩ : ∃ z, z = d + 65536 - cc - e := ⟨_, rfl⟩
        have hzB : z < 65536 := by omega
        have hS := sub_step2 (z := z) (c' := 1) HD.out HE.out (by rw [H_eq, hz]; omega) (by rw [H_eq]; exact hzB) HL.out hltO HV.out
        have HSS := Lib.hid hS
        clear hS
        by_cases h2 : i < m
        · obtain ⟨b', o', rfl, hb', hc⟩ := Rd.at_ h' (by omega)
          have hcell' : wr.cell? ⟨b', o' + i, none⟩ = some (.int .u32 (e : Int)) := by rw [HE.out]; exact (hbw.cell (p := ⟨b', o' + i, none⟩) hb').trans (hc i h2)
          have hU : (d : Int) - cc - e + 65536 = (z : Int) := by omega
          have hN : (d : Int) - cc - e < 0 := by omega
          clear hc hz hneg
          go_wp2_with (at_builtin; refine law_app (y := z) Tryd.underlying29 infoD (by decide) rfl _ _ rfl hown hl3 hbs rfl rfl ?_; intro v' w2 hown3 hb3)
          go_roundg (n - (i + 1))
          case measure => have := HG.out; omega
          case rel => exact ⟨i + 1, 1, _, by omega, by go_num, by go_num, by omega, hown3, HSS.out.1, HSS.out.2.1, HSS.out.2.2, hbw.trans hb3⟩
        · have e0 : e = 0 := by rw [HE.out]; exact getD_past (by rw [h'.len]; omega)
          have hU : (d : Int) - cc + 65536 = (z : Int) := by omega
          have hN : (d : Int) - cc < 0 := by omega
          clear hz hneg e0
          go_wp2_with (at_builtin; refine law_app (y := z) Tryd.underlying29 infoD (by decide) rfl _ _ rfl hown hl3 hbs rfl rfl ?_; intro v' w2 hown3 hb3)
          go_roundg (n - (i + 1))
          case measure => have := HG.out; omega
          case rel => exact ⟨i + 1, 1, _, by omega, by go_num, by go_num, by omega, hown3, HSS.out.1, HSS.out.2.1, HSS.out.2.2, hbw.trans hb3⟩
      · obtain ⟨z, hz⟩ : ∃ z, z = d - cc - e := ⟨_, rfl⟩
        have hzB : z < 65536 := by omega
        have hS := sub_step2 (z := z) (c' := 0) HD.out HE.out (by rw [H_eq, hz]; omega) (by rw [H_eq]; exact hzB) HL.out hltO HV.out
        have HSS := Lib.hid hS
        clear hS
        by_cases h2 : i < m
        · obtain ⟨b', o', rfl, hb', hc⟩ := Rd.at_ h' (by omega)
          have hcell' : wr.cell? ⟨b', o' + i, none⟩ = some (.int .u32 (e : Int)) := by rw [HE.out]; exact (hbw.cell (p := ⟨b', o' + i, none⟩) hb').trans (hc i h2)
          have hU : (d : Int) - cc - e = (z : Int) := by omega
          clear hc hz hneg
          go_wp2_with (at_builtin; refine law_app (y := z) Tryd.underlying29 infoD (by decide) rfl _ _ rfl hown hl3 hbs rfl rfl ?_; intro v' w2 hown3 hb3)
          go_roundg (n - (i + 1))
          case measure => have := HG.out; omega
          case rel => exact ⟨i + 1, 0, _, by omega, by go_num, by go_num, by omega, hown3, HSS.out.1, HSS.out.2.1, HSS.out.2.2, hbw.trans hb3⟩
        · have e0 : e = 0 := by rw [HE.out]; exact getD_past (by rw [h'.len]; omega)
          have hU : (d : Int) - cc = (z : Int) := by omega
          clear hz hneg e0
          go_wp2_with (at_builtin; refine law_app (y := z) Tryd.underlying29 infoD (by decide) rfl _ _ rfl hown hl3 hbs rfl rfl ?_; intro v' w2 hown3 hb3)
          go_roundg (n - (i + 1))
          case measure => have := HG.out; omega
          case rel => exact ⟨i + 1, 0, _, by omega, by go_num, by go_num, by omega, hown3, HSS.out.1, HSS.out.2.1, HSS.out.2.2, hbw.trans hb3⟩
    · have hfr := hown.fresh
      obtain ⟨A2, c2, rfl, hrd⟩ := hown.rd hltO
      have hv : val H out = x - y := by
        have hi' : i = n := by omega
        have := HV.out
        rw [List.take_of_length_le (by rw [h'.len]; omega), List.take_of_length_le (by rw [h.len]; omega), val_dig H_two, val_dig H_two] at this
        have h9 := val_lt hltO
        rw [HL.out, hi'] at h9
        rw [hi'] at this
        have h8 := HYX.out
        have h7 : cc = 0 ∨ cc = 1 := by omega
        rcases h7 with h7 | h7
        · rw [h7, Nat.mul_zero] at this; omega
        · rw [h7, Nat.mul_one] at this; omega
      have hD := rd_rtrim hrd
      rw [hv] at hD
      have HVV := Lib.hid hv
      have hel : ∀ g i u, g < w.heap.size → Dg (wr.setCell ⟨g, i, none⟩ u) A2 (dig H (x - y)).length c2 (x - y) := fun g i u hg => by
        refine rd_elsewhere hD (fun h0 => ?_) g i u hg
        obtain ⟨g', cap', e, hb⟩ := hfr (by
          intro h1
          have h2 : out = [] := List.eq_nil_of_length_eq_zero h1
          rw [h2, val_nil] at hv
          rw [← hv, dig_zero] at h0
          exact h0 rfl)
        injection e with e1 _ _
        exact ⟨g', e1, hb⟩
      have HEL := Lib.hid hel
      have HDD := Lib.hid hD
      clear hv hD hown hg hval hlen hfr hel
      go_wp2_with fail
      refine (rtrim_any hrd).mono ?_
      rintro e w' ⟨rfl, rfl⟩
      rw [HVV.out]
      go_wp2
      go_ret
      exact ⟨_, _, _, rfl, HDD.out, HEL.out, hbw⟩
theorem rsub_any {w : World} {A B : Option Addr} {n c m d0 x y : Nat} (h : Dg w A n c x) (h' : Dg w B m d0 y) (hn : n ≤ 10000) (hyx : y ≤ x) :
    Calls Tryd.prog 29 #[.slice A n c, .slice B m d0] w fun e w' => DGives w (x - y) e w' :=
  (rsub_fresh h h' hn hyx).mono fun _ _ ⟨A2, n2, c2, h1, h2, _, h4⟩ => ⟨A2, n2, c2, h1, h2, h4⟩
end Go.Proofs.YtdklekiknhhfdaaDoor
