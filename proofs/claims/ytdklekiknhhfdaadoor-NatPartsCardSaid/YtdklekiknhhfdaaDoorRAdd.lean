/-
  Contract of the reference's Add at this translation. Condition: the slices read as digits of sixteen bits, at most ten thousand.
-/
import Derived.Test.YtdklekiknhhfdaaDoorRShl
namespace Go.Proofs.YtdklekiknhhfdaaDoor
open Go.RowKit

theorem add_step {l r out : List Nat} {i cc d e u z c' : Nat} (hd : d = l.getD i 0) (he : e = r.getD i 0) (hdB : d < H) (heB : e < H) (hu : u = cc + d + e) (hz : z = u % H) (hc' : c' = u / H) (hc : cc ≤ 1)
    (hl : out.length = i) (hlt : Lt H out) (hv : val H out + H ^ i * cc = val H (l.take i) + val H (r.take i)) :
    (out ++ [z]).length = i + 1 ∧ Lt H (out ++ [z]) ∧ val H (out ++ [z]) + H ^ (i + 1) * c' = val H (l.take (i + 1)) + val H (r.take (i + 1)) ∧ c' ≤ 1 := by
  refine ⟨by simp [hl], hlt.append (Lt.cons (by rw [hz]; exact Nat.mod_lt _ (by rw [H_eq]; omega)) Lt.nil), ?_, ?_⟩
  · have e1 : z + H * c' = cc + d + e := by rw [hz, hc', ← hu]; exact Nat.mod_add_div _ _
    have e3 : H ^ i * (z + H * c') = H ^ i * cc + H ^ i * d + H ^ i * e := by rw [e1, Nat.mul_add, Nat.mul_add]
    rw [val_snoc, hl, take_val', take_val', ← hd, ← he, Nat.pow_succ, Nat.mul_assoc]
    rw [Nat.mul_add] at e3
    omega
  · rw [hc', hu]
    rw [H_eq] at hdB heB ⊢
    omega
theorem getD_past {l : List Nat} {i : Nat} (h : l.length ≤ i) : l.getD i 0 = 0 := by
  rw [List.getD_eq_getElem?_getD, List.getElem?_eq_none h]; rfl

set_option maxRecDepth 100000 in
set_option maxHeartbeats 2000000 in
theorem radd_any {w : World} {A B : Option Addr} {n c m d0 x y : Nat} (h : Dg w A n c x) (h' : Dg w B m d0 y) (hn : n ≤ 10000) (hm : m ≤ 10000) :
    Calls Tryd.prog 27 #[.slice A n c, .slice B m d0] w fun e w' => DGives w (x + y) e w' := by
  have hcap := h.cap
  have hmax := h.max
  have hcap' := h'.cap
  have hmax' := h'.max
  have HLT := Lib.hid (lt_dig H_two x)
  have HLT' := Lib.hid (lt_dig H_two y)
  go_enter Tryd.func27, Tryd.ntmps27
  go_wp2
  go_loopg [5, 6, 7] (n + m + 2) (fun g v5 v6 v7 wr => ∃ i cc : Nat, ∃ out : List Nat, i + g = n + m + 2 ∧ v7 = .int .i64 i ∧ v6 = .int .u32 cc ∧ cc ≤ 1 ∧ (cc = 0 ∨ i ≤ n ∨ i ≤ m) ∧ (i ≤ n + m + 1) ∧ Own w.heap.size wr 77 .u32 v5 out ∧ out.length = i ∧ Lt H out ∧ val H out + H ^ i * cc = val H ((dig H x).take i) + val H ((dig H y).take i) ∧ Below w.heap.size w wr)
  case atStart => exact ⟨0, 0, [], by omega, rfl, rfl, by omega, .inl rfl, by omega, Own.nil _ _ _ _, rfl, Lt.nil, rfl, Below.refl _ _⟩
  case round =>
    obtain ⟨i, cc, out, hg, rfl, rfl, hcc, hor, hin, hown, hlen, hltO, hval, hbw⟩ := hrel
    have HG := Lib.hid hg
    have HV := Lib.hid hval
    have HL := Lib.hid hlen
    have HO : Hid (cc = 0 ∨ i ≤ n ∨ i ≤ m) := Lib.hid hor
    have hi6 : i ≤ 30000 := by omega
    have hbs := hbw.size
    have hl3 : out.length ≤ 1000000 := by omega
    obtain ⟨d, hd⟩ : ∃ d, d = (dig H x).getD i 0 := ⟨_, rfl⟩
    obtain ⟨e, he⟩ : ∃ e, e = (dig H y).getD i 0 := ⟨_, rfl⟩
    have hdB : d < H := by rw [hd]; exact HLT.out.getD (by rw [H_eq]; omega) _
    have heB : e < H := by rw [he]; exact HLT'.out.getD (by rw [H_eq]; omega) _
    obtain ⟨u, hu⟩ : ∃ u, u = cc + d + e := ⟨_, rfl⟩
    obtain ⟨z, hz⟩ : ∃ z, z = u % H := ⟨_, rfl⟩
    obtain ⟨c', hc'⟩ : ∃ c', c' = u / H := ⟨_, rfl⟩
    have hS := add_step hd he hdB heB hu hz hc' hcc HL.out hltO HV.out
    have HSS := Lib.hid hS
    rw [H_eq] at hdB heB
    have hM := mask32 (u := u) (by omega)
    rw [← hz] at hM
    have hD16 : (u : Int) / 65536 = (c' : Int) := by rw [hc', H_eq]; omega
    have HD := Lib.hid hd
    have HE := Lib.hid he
    clear hg hval hlen hor hz hc' hS hd he
    by_cases h1 : i < n
    · obtain ⟨b, o, rfl, hb, hc⟩ := Rd.at_ h (by omega)
      have hcell : wr.cell? ⟨b, o + i, none⟩ = some (.int .u32 (d : Int)) := by rw [HD.out]; exact (hbw.cell (p := ⟨b, o + i, none⟩) hb).trans (hc i h1)
      clear hc
      by_cases h2 : i < m
      · obtain ⟨b', o', rfl, hb', hc⟩ := Rd.at_ h' (by omega)
        have hcell' : wr.cell? ⟨b', o' + i, none⟩ = some (.int .u32 (e : Int)) := by rw [HE.out]; exact (hbw.cell (p := ⟨b', o' + i, none⟩) hb').trans (hc i h2)
        have hU : (cc : Int) + d + e = (u : Int) := by omega
        clear hc hu
        go_wp2_with (at_builtin; refine law_app (y := z) Tryd.underlying29 infoD (by decide) rfl _ _ rfl hown hl3 hbs rfl rfl ?_; intro v' w2 hown3 hb3)
        go_roundg (n + m + 2 - (i + 1))
        case measure => have := HG.out; omega
        case rel => exact ⟨i + 1, c', _, by omega, by go_num, by go_num, HSS.out.2.2.2, by omega, by omega, hown3, HSS.out.1, HSS.out.2.1, HSS.out.2.2.1, hbw.trans hb3⟩
      · have e0 : e = 0 := by rw [HE.out]; exact getD_past (by rw [h'.len]; omega)
        have hU : (cc : Int) + d = (u : Int) := by omega
        clear hu e0
        go_wp2_with (at_builtin; refine law_app (y := z) Tryd.underlying29 infoD (by decide) rfl _ _ rfl hown hl3 hbs rfl rfl ?_; intro v' w2 hown3 hb3)
        go_roundg (n + m + 2 - (i + 1))
        case measure => have := HG.out; omega
        case rel => exact ⟨i + 1, c', _, by omega, by go_num, by go_num, HSS.out.2.2.2, by omega, by omega, hown3, HSS.out.1, HSS.out.2.1, HSS.out.2.2.1, hbw.trans hb3⟩
    · have d0 : d = 0 := by rw [HD.out]; exact getD_past (by rw [h.len]; omega)
      by_cases h2 : i < m
      · obtain ⟨b', o', rfl, hb', hc⟩ := Rd.at_ h' (by omega)
        have hcell' : wr.cell? ⟨b', o' + i, none⟩ = some (.int .u32 (e : Int)) := by rw [HE.out]; exact (hbw.cell (p := ⟨b', o' + i, none⟩) hb').trans (hc i h2)
        have hU : (cc : Int) + e = (u : Int) := by omega
        clear hc hu d0
        go_wp2_with (at_builtin; refine law_app (y := z) Tryd.underlying29 infoD (by decide) rfl _ _ rfl hown hl3 hbs rfl rfl ?_; intro v' w2 hown3 hb3)
        go_roundg (n + m + 2 - (i + 1))
        case measure => have := HG.out; omega
        case rel => exact ⟨i + 1, c', _, by omega, by go_num, by go_num, HSS.out.2.2.2, by omega, by omega, hown3, HSS.out.1, HSS.out.2.1, HSS.out.2.2.1, hbw.trans hb3⟩
      · have e0 : e = 0 := by rw [HE.out]; exact getD_past (by rw [h'.len]; omega)
        by_cases hc0 : cc = 0
        · subst hc0
          obtain ⟨A2, c2, rfl, hrd⟩ := hown.rd hltO
          have hv : val H out = x + y := by
            have := HV.out
            rwa [Nat.mul_zero, Nat.add_zero, List.take_of_length_le (by rw [h.len]; omega), List.take_of_length_le (by rw [h'.len]; omega), val_dig H_two, val_dig H_two] at this
          have hD := rd_rtrim hrd
          rw [hv] at hD
          have HVV := Lib.hid hv
          have HDD := Lib.hid hD
          clear hv hD hown hu d0 e0
          go_wp2_with fail
          refine (rtrim_any hrd).mono ?_
          rintro e w' ⟨rfl, rfl⟩
          rw [HVV.out]
          go_wp2
          go_ret
          exact ⟨_, _, _, rfl, HDD.out, hbw⟩
        · have hU : (cc : Int) = (u : Int) := by omega
          have hcu : cc = u := by omega
          have hc1 : c' = 0 := by omega
          have hcp : 0 < cc := by omega
          have dc : decide (0 < cc) = true := decide_eq_true hcp
          subst hcu
          have HC1 := Lib.hid hc1
          clear hu d0 e0 hc1 hU
          go_wp2_with (at_builtin; refine law_app (y := z) Tryd.underlying29 infoD (by decide) rfl _ _ rfl hown hl3 hbs rfl rfl ?_; intro v' w2 hown3 hb3)
          go_roundg (n + m + 2 - (i + 1))
          case measure => have := HG.out; omega
          case rel => exact ⟨i + 1, c', _, by omega, by go_num, by go_num, HSS.out.2.2.2, .inl HC1.out, by have := HO.out; omega, hown3, HSS.out.1, HSS.out.2.1, HSS.out.2.2.1, hbw.trans hb3⟩
end Go.Proofs.YtdklekiknhhfdaaDoor
