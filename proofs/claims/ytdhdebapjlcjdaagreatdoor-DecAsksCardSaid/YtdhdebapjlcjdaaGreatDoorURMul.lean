/-
 Contract of the reference's Mul at this translation. Condition: the slices read as digits of sixteen bits, at most ten thousand.
-/
import Derived.Test.YtdhdebapjlcjdaaGreatDoorUDn
import Derived.Test.YtdhdebapjlcjdaaGreatDoorURApi
set_option maxHeartbeats 4000000
set_option maxRecDepth 100000
namespace Go.Proofs.YtdhdebapjlcjdaaGreatDoor
open Go.RowKit

theorem rcmp_any {w : World} {A B : Option Addr} {n c m d x0 y0 : Nat} (h : Dg w A n c x0) (h' : Dg w B m d y0) :
  Calls Tryz.prog 75 #[.slice A n c, .slice B m d] w fun e w' => e = .returned (.int .i64 (cmpN x0 y0)) ∧ Below w.heap.size w w' := by
 have hcap := h.cap
 have hmax := h.max
 have hcap' := h'.cap
 have hmax' := h'.max
 obtain ⟨t, ht⟩ : ∃ t, t = cmpN x0 y0 := ⟨_, rfl⟩
 rw [← ht]
 have HT := Lib.hid ht
 obtain ⟨l, hl⟩ : ∃ l, l = dig H x0 := ⟨_, rfl⟩
 obtain ⟨r, hr⟩ : ∃ r, r = dig H y0 := ⟨_, rfl⟩
 have hlc : Can H l := by rw [hl]; exact can_dig H_two _
 have hrc : Can H r := by rw [hr]; exact can_dig H_two _
 have hvl : val H l = x0 := by rw [hl]; exact val_dig H_two _
 have hvr : val H r = y0 := by rw [hr]; exact val_dig H_two _
 have h : Rd w .u32 H A n c l := by rw [hl]; exact h
 have h' : Rd w .u32 H B m d r := by rw [hr]; exact h'
 rw [← hvl, ← hvr] at ht
 have HT := Lib.hid ht
 clear ht hl hr hvl hvr
 by_cases hnm : n = m
 ·subst hnm
  have b0 : ((n : Int) != n) = false := by simp
  go_enter Tryz.func75, Tryz.ntmps75
  go_wp2
  go_loopg [5] n (fun g v wr => ∃ k : Nat, k ≤ g ∧ k ≤ n ∧ v = .int .i64 ((k : Int) - 1) ∧ SameFrom l r k ∧ Below w.heap.size w wr)
  case atStart => exact ⟨n, Nat.le_refl _, Nat.le_refl _, rfl, by unfold SameFrom; rw [List.drop_of_length_le (by rw [h.len]; omega), List.drop_of_length_le (by rw [h'.len]; omega)], Below.refl _ _⟩
  case round =>
   obtain ⟨k, hg, hk, rfl, hs, hb⟩ := hrel
   by_cases h0 : k = 0
   ·subst h0
    have e : t = 0 := by
     rw [HT.out, cmpN_eq]
     unfold SameFrom at hs
     rw [List.drop_zero, List.drop_zero] at hs
     rw [hs]
    subst e
    go_wp2
    go_ret
    exact ⟨rfl, hb⟩
   ·obtain ⟨a, o, rfl, ha, hc⟩ := (h.below hb).at_ (by omega)
    obtain ⟨a', o', rfl, ha', hc'⟩ := (h'.below hb).at_ (by omega)
    obtain ⟨x, hx⟩ : ∃ x, x = l.getD (k - 1) 0 := ⟨_, rfl⟩
    obtain ⟨y, hy⟩ : ∃ y, y = r.getD (k - 1) 0 := ⟨_, rfl⟩
    have hcell : wr.cell? ⟨a, o + (k - 1), none⟩ = some (.int .u32 (x : Int)) := by rw [hx]; exact hc (k - 1) (by omega)
    have hcell' : wr.cell? ⟨a', o' + (k - 1), none⟩ = some (.int .u32 (y : Int)) := by rw [hy]; exact hc' (k - 1) (by omega)
    have hp : (0 : Int) ≤ (k : Int) - 1 := by omega
    have hp2 : (k : Int) - 1 < n := by omega
    have hp3 : ((k : Int) - 1).toNat = k - 1 := by omega
    have HX := Lib.hid hx
    have HY := Lib.hid hy
    clear hx hc hy hc'
    have HSS : Hid (SameFrom l r k) := hs
    rcases Nat.lt_trichotomy x y with hlt | hxy | hgt
    ·have e : t = -1 := by
      rw [HT.out, cmpN_lt]
      exact val_lt_at (i := k - 1) hlc.1 (by rw [h.len]; omega) (by rw [h'.len]; omega) (by rw [Nat.sub_add_cancel (by omega)]; exact HSS.out) (by rw [← HX.out, ← HY.out]; exact hlt)
     subst e
     have b2 : decide (x < y) = true := by simpa using hlt
     go_wp2
     go_quiet (fail)
     go_wp2
     go_ret
     exact ⟨rfl, below_drewN hb _⟩
    ·subst hxy
     have b2 : decide (x < x) = false := by simp
     go_wp2
     go_quiet (fail)
     go_wp2
     go_quiet (fail)
     go_wp2
     go_roundg (k - 1)
     case measure => omega
     case rel => exact ⟨k - 1, by omega, by omega, by rw [show ((k - 1 : Nat) : Int) = (k : Int) - 1 by omega], sameFrom_step h.len h'.len h0 hk HSS.out (by rw [← HX.out, ← HY.out]), below_drewN hb _⟩
    ·have e : t = 1 := by
      rw [HT.out, cmpN_gt]
      exact val_lt_at (i := k - 1) hrc.1 (by rw [h'.len]; omega) (by rw [h.len]; omega) (by rw [Nat.sub_add_cancel (by omega)]; exact HSS.out.symm) (by rw [← HX.out, ← HY.out]; omega)
     subst e
     have b2 : decide (x < y) = false := decide_eq_false (by omega)
     have b3 : decide (y < x) = true := by simpa using hgt
     go_wp2
     go_quiet (fail)
     go_wp2
     go_quiet (fail)
     go_wp2
     go_ret
     exact ⟨rfl, below_drewN (below_drewN hb _) _⟩
 ·have b1 : ((n : Int) != m) = true := by simp; omega
  rcases Nat.lt_or_ge n m with hlt | hge
  ·have e : t = -1 := by
    rw [HT.out, cmpN_lt]
    exact val_lt_len H_two hlc.1 hrc (by rw [h.len, h'.len]; exact hlt)
   subst e
   have b2 : decide (n < m) = true := decide_eq_true hlt
   clear hnm
   go_enter Tryz.func75, Tryz.ntmps75
   go_wp2
   go_ret
   exact ⟨rfl, Below.refl _ _⟩
  ·have e : t = 1 := by
    rw [HT.out, cmpN_gt]
    exact val_lt_len H_two hrc.1 hlc (by rw [h.len, h'.len]; omega)
   subst e
   have b2 : decide (n < m) = false := decide_eq_false (by omega)
   clear hnm
   go_enter Tryz.func75, Tryz.ntmps75
   go_wp2
   go_ret
   exact ⟨rfl, Below.refl _ _⟩
end Go.Proofs.YtdhdebapjlcjdaaGreatDoor

namespace Go.Proofs.YtdhdebapjlcjdaaGreatDoor
open Go.RowKit

theorem add_step {l r out : List Nat} {i cc d e u z c' : Nat} (hd : d = l.getD i 0) (he : e = r.getD i 0) (hdB : d < H) (heB : e < H) (hu : u = cc + d + e) (hz : z = u % H) (hc' : c' = u / H) (hc : cc ≤ 1)
  (hl : out.length = i) (hlt : Lt H out) (hv : val H out + H ^ i * cc = val H (l.take i) + val H (r.take i)) :
  (out ++ [z]).length = i + 1 ∧ Lt H (out ++ [z]) ∧ val H (out ++ [z]) + H ^ (i + 1) * c' = val H (l.take (i + 1)) + val H (r.take (i + 1)) ∧ c' ≤ 1 := by
 refine ⟨by simp [hl], hlt.append (Lt.cons (by rw [hz]; exact Nat.mod_lt _ (by rw [H_eq]; omega)) Lt.nil), ?_, ?_⟩
 ·have e1 : z + H * c' = cc + d + e := by rw [hz, hc', ← hu]; exact Nat.mod_add_div _ _
  have e3 : H ^ i * (z + H * c') = H ^ i * cc + H ^ i * d + H ^ i * e := by rw [e1, Nat.mul_add, Nat.mul_add]
  rw [val_snoc, hl, take_val', take_val', ← hd, ← he, Nat.pow_succ, Nat.mul_assoc]
  rw [Nat.mul_add] at e3
  omega
 ·rw [hc', hu]
  rw [H_eq] at hdB heB ⊢
  omega
theorem getD_past {l : List Nat} {i : Nat} (h : l.length ≤ i) : l.getD i 0 = 0 := by
 rw [List.getD_eq_getElem?_getD, List.getElem?_eq_none h]; rfl

theorem radd_any {w : World} {A B : Option Addr} {n c m d0 x y : Nat} (h : Dg w A n c x) (h' : Dg w B m d0 y) (hn : n ≤ 10000) (hm : m ≤ 10000) :
  Calls Tryz.prog 62 #[.slice A n c, .slice B m d0] w fun e w' => DGives w (x + y) e w' := by
 have hcap := h.cap
 have hmax := h.max
 have hcap' := h'.cap
 have hmax' := h'.max
 have HLT := Lib.hid (lt_dig H_two x)
 have HLT' := Lib.hid (lt_dig H_two y)
 go_enter Tryz.func62, Tryz.ntmps62
 go_wp2
 go_loopg [5, 6, 7] (n + m + 2) (fun g v5 v6 v7 wr => ∃ i cc : Nat, ∃ out : List Nat, i + g = n + m + 2 ∧ v7 = .int .i64 i ∧ v6 = .int .u32 cc ∧ cc ≤ 1 ∧ (cc = 0 ∨ i ≤ n ∨ i ≤ m) ∧ (i ≤ n + m + 1) ∧ Own w.heap.size wr 59 .u32 v5 out ∧ out.length = i ∧ Lt H out ∧ val H out + H ^ i * cc = val H ((dig H x).take i) + val H ((dig H y).take i) ∧ Below w.heap.size w wr)
 case atStart => exact ⟨0, 0, [], by omega, rfl, rfl, by omega, .inl rfl, by omega, Own.nil _ _ _ _, rfl, Lt.nil, rfl, Below.refl _ _⟩
 case round =>
  obtain ⟨i, cc, out, hg, rfl, rfl, hcc, hor, hin, hown, hlen, hltO, hval, hbw⟩ := hrel
  have HG := Lib.hid hg
  have HV := Lib.hid hval
  have HL := Lib.hid hlen
  have HO : Hid (cc = 0 ∨ i ≤ n ∨ i ≤ m) := Lib.hid hor
  have hi6 : i ≤ 30000 := by omega
  have hbs := hbw.size
  have hl3 : out.length ≤ 1000000 := by omega
  obtain ⟨d, hd⟩ : ∃ d, d = (dig H x).getD i 0 := ⟨_, rfl⟩
  obtain ⟨e, he⟩ : ∃ e, e = (dig H y).getD i 0 := ⟨_, rfl⟩
  have hdB : d < H := by rw [hd]; exact HLT.out.getD (by rw [H_eq]; omega) _
  have heB : e < H := by rw [he]; exact HLT'.out.getD (by rw [H_eq]; omega) _
  obtain ⟨u, hu⟩ : ∃ u, u = cc + d + e := ⟨_, rfl⟩
  obtain ⟨z, hz⟩ : ∃ z, z = u % H := ⟨_, rfl⟩
  obtain ⟨c', hc'⟩ : ∃ c', c' = u / H := ⟨_, rfl⟩
  have hS := add_step hd he hdB heB hu hz hc' hcc HL.out hltO HV.out
  have HSS := Lib.hid hS
  rw [H_eq] at hdB heB
  have hM := mask32 (u := u) (by omega)
  rw [← hz] at hM
  have hD16 : (u : Int) / 65536 = (c' : Int) := by rw [hc', H_eq]; omega
  have HD := Lib.hid hd
  have HE := Lib.hid he
  clear hg hval hlen hor hz hc' hS hd he
  by_cases h1 : i < n
  ·obtain ⟨b, o, rfl, hb, hc⟩ := Rd.at_ h (by omega)
   have hcell : wr.cell? ⟨b, o + i, none⟩ = some (.int .u32 (d : Int)) := by rw [HD.out]; exact (hbw.cell (p := ⟨b, o + i, none⟩) hb).trans (hc i h1)
   clear hc
   by_cases h2 : i < m
   ·obtain ⟨b', o', rfl, hb', hc⟩ := Rd.at_ h' (by omega)
    have hcell' : wr.cell? ⟨b', o' + i, none⟩ = some (.int .u32 (e : Int)) := by rw [HE.out]; exact (hbw.cell (p := ⟨b', o' + i, none⟩) hb').trans (hc i h2)
    have hU : (cc : Int) + d + e = (u : Int) := by omega
    clear hc hu
    go_wp2_with (at_builtin; refine law_app (y := z) Tryz.underlying54 infoD (by decide) rfl _ _ rfl hown hl3 hbs rfl rfl ?_; intro v' w2 hown3 hb3)
    go_roundg (n + m + 2 - (i + 1))
    case measure => have := HG.out; omega
    case rel => exact ⟨i + 1, c', _, by omega, by go_num, by go_num, HSS.out.2.2.2, by omega, by omega, hown3, HSS.out.1, HSS.out.2.1, HSS.out.2.2.1, hbw.trans hb3⟩
   ·have e0 : e = 0 := by rw [HE.out]; exact getD_past (by rw [h'.len]; omega)
    have hU : (cc : Int) + d = (u : Int) := by omega
    clear hu e0
    go_wp2_with (at_builtin; refine law_app (y := z) Tryz.underlying54 infoD (by decide) rfl _ _ rfl hown hl3 hbs rfl rfl ?_; intro v' w2 hown3 hb3)
    go_roundg (n + m + 2 - (i + 1))
    case measure => have := HG.out; omega
    case rel => exact ⟨i + 1, c', _, by omega, by go_num, by go_num, HSS.out.2.2.2, by omega, by omega, hown3, HSS.out.1, HSS.out.2.1, HSS.out.2.2.1, hbw.trans hb3⟩
  ·have d0 : d = 0 := by rw [HD.out]; exact getD_past (by rw [h.len]; omega)
   by_cases h2 : i < m
   ·obtain ⟨b', o', rfl, hb', hc⟩ := Rd.at_ h' (by omega)
    have hcell' : wr.cell? ⟨b', o' + i, none⟩ = some (.int .u32 (e : Int)) := by rw [HE.out]; exact (hbw.cell (p := ⟨b', o' + i, none⟩) hb').trans (hc i h2)
    have hU : (cc : Int) + e = (u : Int) := by omega
    clear hc hu d0
    go_wp2_with (at_builtin; refine law_app (y := z) Tryz.underlying54 infoD (by decide) rfl _ _ rfl hown hl3 hbs rfl rfl ?_; intro v' w2 hown3 hb3)
    go_roundg (n + m + 2 - (i + 1))
    case measure => have := HG.out; omega
    case rel => exact ⟨i + 1, c', _, by omega, by go_num, by go_num, HSS.out.2.2.2, by omega, by omega, hown3, HSS.out.1, HSS.out.2.1, HSS.out.2.2.1, hbw.trans hb3⟩
   ·have e0 : e = 0 := by rw [HE.out]; exact getD_past (by rw [h'.len]; omega)
    by_cases hc0 : cc = 0
    ·subst hc0
     obtain ⟨A2, c2, rfl, hrd⟩ := hown.rd hltO
     have hv : val H out = x + y := by
      have := HV.out
      rwa [Nat.mul_zero, Nat.add_zero, List.take_of_length_le (by rw [h.len]; omega), List.take_of_length_le (by rw [h'.len]; omega), val_dig H_two, val_dig H_two] at this
     have hD := rd_rtrim hrd
     rw [hv] at hD
     have HVV := Lib.hid hv
     have HDD := Lib.hid hD
     clear hv hD hown hu d0 e0
     go_wp2_with fail
     refine (rtrim_any hrd).mono ?_
     rintro e w' ⟨rfl, rfl⟩
     rw [HVV.out]
     go_wp2
     go_ret
     exact ⟨_, _, _, rfl, HDD.out, hbw⟩
    ·have hU : (cc : Int) = (u : Int) := by omega
     have hcu : cc = u := by omega
     have hc1 : c' = 0 := by omega
     have hcp : 0 < cc := by omega
     have dc : decide (0 < cc) = true := decide_eq_true hcp
     subst hcu
     have HC1 := Lib.hid hc1
     clear hu d0 e0 hc1 hU
     go_wp2_with (at_builtin; refine law_app (y := z) Tryz.underlying54 infoD (by decide) rfl _ _ rfl hown hl3 hbs rfl rfl ?_; intro v' w2 hown3 hb3)
     go_roundg (n + m + 2 - (i + 1))
     case measure => have := HG.out; omega
     case rel => exact ⟨i + 1, c', _, by omega, by go_num, by go_num, HSS.out.2.2.2, .inl HC1.out, by have := HO.out; omega, hown3, HSS.out.1, HSS.out.2.1, HSS.out.2.2.1, hbw.trans hb3⟩
end Go.Proofs.YtdhdebapjlcjdaaGreatDoor

namespace Go.Proofs.YtdhdebapjlcjdaaGreatDoor
open Go.RowKit

theorem sub_step2 {l r out : List Nat} {i cc d e z c' : Nat} (hd : d = l.getD i 0) (he : e = r.getD i 0) (hz : z + cc + e = d + H * c') (hzH : z < H) (hl : out.length = i) (hlt : Lt H out)
  (hv : val H out + val H (r.take i) = val H (l.take i) + H ^ i * cc) :
  (out ++ [z]).length = i + 1 ∧ Lt H (out ++ [z]) ∧ val H (out ++ [z]) + val H (r.take (i + 1)) = val H (l.take (i + 1)) + H ^ (i + 1) * c' := by
 refine ⟨by simp [hl], hlt.append (Lt.cons hzH Lt.nil), ?_⟩
 have e3 : H ^ i * (z + cc + e) = H ^ i * (d + H * c') := by rw [hz]
 rw [Nat.mul_add, Nat.mul_add, Nat.mul_add] at e3
 rw [val_snoc, hl, take_val', take_val', ← hd, ← he, Nat.pow_succ, Nat.mul_assoc]
 omega

/-- the same, with what the slice lies in: a block that the call made -/
def DFresh (w : World) (x : Nat) (e : Ending) (w' : World) : Prop :=
 ∃ A n c, e = .returned (.slice A n c) ∧ Dg w' A n c x ∧ (∀ g i u, g < w.heap.size → Dg (w'.setCell ⟨g, i, none⟩ u) A n c x) ∧ Below w.heap.size w w'
theorem Own.fresh {base : Nat} {w : World} {e : TypeId} {k : IntKind} {v : Value} {l : List Nat} (h : Own base w e k v l) : l.length ≠ 0 → ∃ g cap, v = .slice (some ⟨g, 0, none⟩) l.length cap ∧ base ≤ g := fun h0 => by
 obtain ⟨g, cap, _, e, hb, _⟩ := Row.of_own h h0
 exact ⟨g, cap, e, hb⟩
theorem rd_elsewhere {w : World} {k : IntKind} {B b0 : Nat} {A : Option Addr} {n c : Nat} {l : List Nat} (h : Rd w k B A n c l) (hf : n ≠ 0 → ∃ g, A = some ⟨g, 0, none⟩ ∧ b0 ≤ g) (g i : Nat) (u : Value) (hg : g < b0) : Rd (w.setCell ⟨g, i, none⟩ u) k B A n c l := by
 refine h.grown (grownBy_set w g i u) ?_
 intro hn a ha
 obtain ⟨g', e, hb⟩ := hf hn
 rw [e] at ha
 injection ha with ha
 subst ha
 show g' ≠ g
 omega

theorem rsub_fresh {w : World} {A B : Option Addr} {n c m d0 x y : Nat} (h : Dg w A n c x) (h' : Dg w B m d0 y) (hn : n ≤ 10000) (hyx : y ≤ x) :
  Calls Tryz.prog 76 #[.slice A n c, .slice B m d0] w fun e w' => DFresh w (x - y) e w' := by
 have hcap := h.cap
 have hmax := h.max
 have hcap' := h'.cap
 have hmax' := h'.max
 have hmn : m ≤ n := dg_small h' (Nat.lt_of_le_of_lt hyx h.lt)
 have HLT := Lib.hid (lt_dig H_two x)
 have HLT' := Lib.hid (lt_dig H_two y)
 have HYX := Lib.hid hyx
 have HXN := Lib.hid h.lt
 clear hyx
 go_enter Tryz.func76, Tryz.ntmps76
 go_wp2
 go_loopg [5, 6, 7] n (fun g v5 v6 v7 wr => ∃ i cc : Nat, ∃ out : List Nat, i + g = n ∧ v7 = .int .i64 i ∧ v6 = .int .i32 cc ∧ cc ≤ 1 ∧ Own w.heap.size wr 59 .u32 v5 out ∧ out.length = i ∧ Lt H out ∧ val H out + val H ((dig H y).take i) = val H ((dig H x).take i) + H ^ i * cc ∧ Below w.heap.size w wr)
 case atStart => exact ⟨0, 0, [], by omega, rfl, rfl, by omega, Own.nil _ _ _ _, rfl, Lt.nil, rfl, Below.refl _ _⟩
 case round =>
  obtain ⟨i, cc, out, hg, rfl, rfl, hcc, hown, hlen, hltO, hval, hbw⟩ := hrel
  have HG := Lib.hid hg
  have HV := Lib.hid hval
  have HL := Lib.hid hlen
  have hi6 : i ≤ 10000 := by omega
  have hbs := hbw.size
  have hl3 : out.length ≤ 1000000 := by omega
  by_cases h1 : i < n
  ·obtain ⟨d, hd⟩ : ∃ d, d = (dig H x).getD i 0 := ⟨_, rfl⟩
   obtain ⟨e, he⟩ : ∃ e, e = (dig H y).getD i 0 := ⟨_, rfl⟩
   have hdB : d < H := by rw [hd]; exact HLT.out.getD (by rw [H_eq]; omega) _
   have heB : e < H := by rw [he]; exact HLT'.out.getD (by rw [H_eq]; omega) _
   rw [H_eq] at hdB heB
   obtain ⟨b, o, rfl, hb, hc⟩ := Rd.at_ h (by omega)
   have hcell : wr.cell? ⟨b, o + i, none⟩ = some (.int .u32 (d : Int)) := by rw [hd]; exact (hbw.cell (p := ⟨b, o + i, none⟩) hb).trans (hc i h1)
   have HD := Lib.hid hd
   have HE := Lib.hid he
   clear hc hd he hg hval hlen
   by_cases hneg : d < cc + e
   ·obtain ⟨z, hz⟩ : ∃ z, z = d + 65536 - cc - e := ⟨_, rfl⟩
    have hzB : z < 65536 := by omega
    have hS := sub_step2 (z := z) (c' := 1) HD.out HE.out (by rw [H_eq, hz]; omega) (by rw [H_eq]; exact hzB) HL.out hltO HV.out
    have HSS := Lib.hid hS
    clear hS
    by_cases h2 : i < m
    ·obtain ⟨b', o', rfl, hb', hc⟩ := Rd.at_ h' (by omega)
     have hcell' : wr.cell? ⟨b', o' + i, none⟩ = some (.int .u32 (e : Int)) := by rw [HE.out]; exact (hbw.cell (p := ⟨b', o' + i, none⟩) hb').trans (hc i h2)
     have hU : (d : Int) - cc - e + 65536 = (z : Int) := by omega
     have hN : (d : Int) - cc - e < 0 := by omega
     clear hc hz hneg
     go_wp2_with (at_builtin; refine law_app (y := z) Tryz.underlying54 infoD (by decide) rfl _ _ rfl hown hl3 hbs rfl rfl ?_; intro v' w2 hown3 hb3)
     go_roundg (n - (i + 1))
     case measure => have := HG.out; omega
     case rel => exact ⟨i + 1, 1, _, by omega, by go_num, by go_num, by omega, hown3, HSS.out.1, HSS.out.2.1, HSS.out.2.2, hbw.trans hb3⟩
    ·have e0 : e = 0 := by rw [HE.out]; exact getD_past (by rw [h'.len]; omega)
     have hU : (d : Int) - cc + 65536 = (z : Int) := by omega
     have hN : (d : Int) - cc < 0 := by omega
     clear hz hneg e0
     go_wp2_with (at_builtin; refine law_app (y := z) Tryz.underlying54 infoD (by decide) rfl _ _ rfl hown hl3 hbs rfl rfl ?_; intro v' w2 hown3 hb3)
     go_roundg (n - (i + 1))
     case measure => have := HG.out; omega
     case rel => exact ⟨i + 1, 1, _, by omega, by go_num, by go_num, by omega, hown3, HSS.out.1, HSS.out.2.1, HSS.out.2.2, hbw.trans hb3⟩
   ·obtain ⟨z, hz⟩ : ∃ z, z = d - cc - e := ⟨_, rfl⟩
    have hzB : z < 65536 := by omega
    have hS := sub_step2 (z := z) (c' := 0) HD.out HE.out (by rw [H_eq, hz]; omega) (by rw [H_eq]; exact hzB) HL.out hltO HV.out
    have HSS := Lib.hid hS
    clear hS
    by_cases h2 : i < m
    ·obtain ⟨b', o', rfl, hb', hc⟩ := Rd.at_ h' (by omega)
     have hcell' : wr.cell? ⟨b', o' + i, none⟩ = some (.int .u32 (e : Int)) := by rw [HE.out]; exact (hbw.cell (p := ⟨b', o' + i, none⟩) hb').trans (hc i h2)
     have hU : (d : Int) - cc - e = (z : Int) := by omega
     clear hc hz hneg
     go_wp2_with (at_builtin; refine law_app (y := z) Tryz.underlying54 infoD (by decide) rfl _ _ rfl hown hl3 hbs rfl rfl ?_; intro v' w2 hown3 hb3)
     go_roundg (n - (i + 1))
     case measure => have := HG.out; omega
     case rel => exact ⟨i + 1, 0, _, by omega, by go_num, by go_num, by omega, hown3, HSS.out.1, HSS.out.2.1, HSS.out.2.2, hbw.trans hb3⟩
    ·have e0 : e = 0 := by rw [HE.out]; exact getD_past (by rw [h'.len]; omega)
     have hU : (d : Int) - cc = (z : Int) := by omega
     clear hz hneg e0
     go_wp2_with (at_builtin; refine law_app (y := z) Tryz.underlying54 infoD (by decide) rfl _ _ rfl hown hl3 hbs rfl rfl ?_; intro v' w2 hown3 hb3)
     go_roundg (n - (i + 1))
     case measure => have := HG.out; omega
     case rel => exact ⟨i + 1, 0, _, by omega, by go_num, by go_num, by omega, hown3, HSS.out.1, HSS.out.2.1, HSS.out.2.2, hbw.trans hb3⟩
  ·have hfr := hown.fresh
   obtain ⟨A2, c2, rfl, hrd⟩ := hown.rd hltO
   have hv : val H out = x - y := by
    have hi' : i = n := by omega
    have := HV.out
    rw [List.take_of_length_le (by rw [h'.len]; omega), List.take_of_length_le (by rw [h.len]; omega), val_dig H_two, val_dig H_two] at this
    have h9 := val_lt hltO
    rw [HL.out, hi'] at h9
    rw [hi'] at this
    have h8 := HYX.out
    have h7 : cc = 0 ∨ cc = 1 := by omega
    rcases h7 with h7 | h7
    ·rw [h7, Nat.mul_zero] at this; omega
    ·rw [h7, Nat.mul_one] at this; omega
   have hD := rd_rtrim hrd
   rw [hv] at hD
   have HVV := Lib.hid hv
   have hel : ∀ g i u, g < w.heap.size → Dg (wr.setCell ⟨g, i, none⟩ u) A2 (dig H (x - y)).length c2 (x - y) := fun g i u hg => by
    refine rd_elsewhere hD (fun h0 => ?_) g i u hg
    obtain ⟨g', cap', e, hb⟩ := hfr (by
     intro h1
     have h2 : out = [] := List.eq_nil_of_length_eq_zero h1
     rw [h2, val_nil] at hv
     rw [← hv, dig_zero] at h0
     exact h0 rfl)
    injection e with e1 _ _
    exact ⟨g', e1, hb⟩
   have HEL := Lib.hid hel
   have HDD := Lib.hid hD
   clear hv hD hown hg hval hlen hfr hel
   go_wp2_with fail
   refine (rtrim_any hrd).mono ?_
   rintro e w' ⟨rfl, rfl⟩
   rw [HVV.out]
   go_wp2
   go_ret
   exact ⟨_, _, _, rfl, HDD.out, HEL.out, hbw⟩
end Go.Proofs.YtdhdebapjlcjdaaGreatDoor

namespace Go.Proofs.YtdhdebapjlcjdaaGreatDoor
open Go.RowKit

theorem Own.at0 {base g N cap : Nat} {w : World} {e : TypeId} {k : IntKind} {l : List Nat} (h : Own base w e k (.slice (some ⟨g, 0, none⟩) N cap) l) {j : Nat} (hj : j < l.length) :
  base ≤ g ∧ w.cell? ⟨g, j, none⟩ = some (.int k ((l.getD j 0 : Nat) : Int)) ∧ w.frozen? ⟨g, j, none⟩ = false ∧ ∀ y : Nat, Own base (w.setCell ⟨g, j, none⟩ (.int k (y : Int))) e k (.slice (some ⟨g, 0, none⟩) N cap) (l.set j y) := by
 obtain ⟨g', cap', hv, h1, _, _, _, h2, h3, h4⟩ := h.store hj
 injection hv with hv1 _ hv2
 injection hv1 with hv1
 injection hv1 with hv1
 subst hv1
 exact ⟨h1, h2, h3, h4⟩

theorem mul_step {r out : List Nat} {i k cc d e o u z c' V : Nat} (he : e = r.getD k 0) (ho : o = out.getD (i + k) 0) (hdB : d < H) (heB : e < H) (hoB : o < H) (hu : u = d * e + o + cc) (hz : z = u % H) (hc' : c' = u / H) (hc : cc < H)
  (hl : i + k < out.length) (hlt : Lt H out) (hv : val H out + H ^ (i + k) * cc = V + H ^ i * (d * val H (r.take k))) :
  Lt H (out.set (i + k) z) ∧ val H (out.set (i + k) z) + H ^ (i + (k + 1)) * c' = V + H ^ i * (d * val H (r.take (k + 1))) ∧ c' < H ∧ u < 4294967296 := by
 have h1 : d * e ≤ 65535 * 65535 := Nat.mul_le_mul (by rw [H_eq] at hdB; omega) (by rw [H_eq] at heB; omega)
 have h2 : u < 4294967296 := by rw [H_eq] at hoB hc; omega
 refine ⟨hlt.set _ (by rw [hz]; exact Nat.mod_lt _ (by rw [H_eq]; omega)), ?_, ?_, h2⟩
 ·have e1 : z + H * c' = d * e + o + cc := by rw [hz, hc', ← hu]; exact Nat.mod_add_div _ _
  have e3 : H ^ (i + k) * (z + H * c') = H ^ (i + k) * (d * e) + H ^ (i + k) * o + H ^ (i + k) * cc := by rw [e1, Nat.mul_add, Nat.mul_add]
  have e4 := val_set (B := H) hl z
  rw [← ho] at e4
  have e5 : H ^ i * (d * val H (r.take (k + 1))) = H ^ i * (d * val H (r.take k)) + H ^ (i + k) * (d * e) := by
   rw [take_val', ← he, Nat.mul_add, Nat.mul_add, Nat.pow_add]
   congr 1
   ac_rfl
  rw [e5, ← Nat.add_assoc i k 1, Nat.pow_succ, Nat.mul_assoc]
  rw [Nat.mul_add] at e3
  omega
 ·rw [hc']
  rw [H_eq]
  omega

theorem rmul_any {w : World} {A B : Option Addr} {n c m d0 x y : Nat} (h : Dg w A n c x) (h' : Dg w B m d0 y) (hn : n ≤ 10000) (hm : m ≤ 10000) :
  Calls Tryz.prog 26 #[.slice A n c, .slice B m d0] w fun e w' => DGives w (x * y) e w' := by
 have hcap := h.cap
 have hmax := h.max
 have hcap' := h'.cap
 have hmax' := h'.max
 have HLT := Lib.hid (lt_dig H_two x)
 have HLT' := Lib.hid (lt_dig H_two y)
 go_enter Tryz.func26, Tryz.ntmps26
 go_wp2_with (at_make; refine law_makeD rfl (.tmp 17) rfl _ (n + m) rfl (by omega) (by omega) ?_; intro w1 hown1 hgrow1)
 have hb1 := below_none hgrow1
 go_loopg [6] n (fun g v6 wr => ∃ i : Nat, ∃ out : List Nat, i + g = n ∧ v6 = .int .i64 i ∧ Own w.heap.size wr 59 .u32 (.slice (some ⟨w.heap.size, 0, none⟩) (n + m) (n + m)) out ∧ out.length = n + m ∧ Lt H out ∧ val H out = val H ((dig H x).take i) * y ∧ (∀ j, i + m ≤ j → out.getD j 0 = 0) ∧ Below w.heap.size w wr)
 case atStart => exact ⟨0, _, by omega, rfl, hown1, by simp, Lt.replicate _ (by rw [H_eq]; omega), by rw [val_replicate]; simp [val], fun j _ => getD_replicate _ _, hb1⟩
 case round =>
  obtain ⟨i, out, hg, rfl, hown, hlen, hltO, hval, hz, hbw⟩ := hrel
  have HG := Lib.hid hg
  have HV := Lib.hid hval
  have HL := Lib.hid hlen
  have HZ : Hid (∀ j, i + m ≤ j → out.getD j 0 = 0) := Lib.hid hz
  have hin : i ≤ n := by omega
  clear hg hval hlen hz
  by_cases h1 : i < n
  ·obtain ⟨d, hd⟩ : ∃ d, d = (dig H x).getD i 0 := ⟨_, rfl⟩
   have hdB : d < H := by rw [hd]; exact HLT.out.getD (by rw [H_eq]; omega) _
   obtain ⟨b, o, rfl, hb, hc⟩ := Rd.at_ h (by omega)
   have hcell0 : w.cell? ⟨b, o + i, none⟩ = some (.int .u32 (d : Int)) := by rw [hd]; exact hc i h1
   have HD := Lib.hid hd
   have HDB := Lib.hid hdB
   rw [H_eq] at hdB
   clear hc hd
   go_wp2
   go_loopg [7, 8] m (fun g v7 v8 wr => ∃ k cc : Nat, ∃ out : List Nat, k + g = m ∧ v8 = .int .i64 k ∧ v7 = .int .u32 cc ∧ cc < H ∧ Own w.heap.size wr 59 .u32 (.slice (some ⟨w.heap.size, 0, none⟩) (n + m) (n + m)) out ∧ out.length = n + m ∧ Lt H out ∧ val H out + H ^ (i + k) * cc = val H ((dig H x).take i) * y + H ^ i * (d * val H ((dig H y).take k)) ∧ (∀ j, i + m ≤ j → out.getD j 0 = 0) ∧ Below w.heap.size w wr)
   case atStart => exact ⟨0, 0, out, by omega, rfl, rfl, by rw [H_eq]; omega, hown, HL.out, hltO, by rw [HV.out]; simp [val], HZ.out, hbw⟩
   case round =>
    obtain ⟨k, cc, out2, hg2, rfl, rfl, hcc, hown2, hlen2, hltO2, hval2, hz2, hbw2⟩ := hrel
    have HG2 := Lib.hid hg2
    have HV2 := Lib.hid hval2
    have HL2 := Lib.hid hlen2
    have HCC := Lib.hid hcc
    have HZ2 : Hid (∀ j, i + m ≤ j → out2.getD j 0 = 0) := Lib.hid hz2
    have hkm : k ≤ m := by omega
    have hcell := (hbw2.cell (p := ⟨b, o + i, none⟩) hb).trans hcell0
    rw [H_eq] at hcc
    clear hg2 hval2 hlen2 hz2 HV HL HZ hown hltO hbw
    by_cases h2 : k < m
    ·obtain ⟨e, he⟩ : ∃ e, e = (dig H y).getD k 0 := ⟨_, rfl⟩
     obtain ⟨q, hq⟩ : ∃ q, q = out2.getD (i + k) 0 := ⟨_, rfl⟩
     have heB : e < H := by rw [he]; exact HLT'.out.getD (by rw [H_eq]; omega) _
     have hqB : q < H := by rw [hq]; exact hltO2.getD (by rw [H_eq]; omega) _
     obtain ⟨b', o', rfl, hb', hc⟩ := Rd.at_ h' (by omega)
     have hcell' : wr.cell? ⟨b', o' + k, none⟩ = some (.int .u32 (e : Int)) := by rw [he]; exact (hbw2.cell (p := ⟨b', o' + k, none⟩) hb').trans (hc k h2)
     obtain ⟨u, hu⟩ : ∃ u, u = d * e + q + cc := ⟨_, rfl⟩
     obtain ⟨v, hv⟩ : ∃ v, v = d * e + q := ⟨_, rfl⟩
     obtain ⟨p, hp⟩ : ∃ p, p = d * e := ⟨_, rfl⟩
     obtain ⟨z, hz⟩ : ∃ z, z = u % H := ⟨_, rfl⟩
     obtain ⟨c', hc'⟩ : ∃ c', c' = u / H := ⟨_, rfl⟩
     have hS := mul_step he hq HDB.out heB hqB hu hz hc' HCC.out (by rw [HL2.out]; omega) hltO2 HV2.out
     have HSS := Lib.hid hS
     have huB := hS.2.2.2
     obtain ⟨hg1, hce, hfz, hst⟩ := hown2.at0 (j := i + k) (by rw [HL2.out]; omega)
     rw [← hq] at hce
     have hM := mask32 huB
     rw [← hz] at hM
     have hD16 : (u : Int) / 65536 = (c' : Int) := by rw [hc', H_eq]; omega
     have hP : (d : Int) * e = (p : Int) := by rw [hp, Int.natCast_mul]
     have hPI : (p : Int) ≤ 4294967295 := by omega
     have hQ : (p : Int) + q = (v : Int) := by omega
     have hVI : (v : Int) ≤ 4294967295 := by omega
     have hU : (v : Int) + cc = (u : Int) := by omega
     have hUI : (u : Int) ≤ 4294967295 := by omega
     have dno : decide (u < v) = false := decide_eq_false (by omega)
     have hik : i + k < n + m := by omega
     have hiki : (i : Int) + (k : Int) < (n : Int) + (m : Int) := by omega
     have hsv := hst z
     have HSV := Lib.hid hsv
     rw [H_eq] at heB hqB
     clear hc he hq hu hv hp hz hc' hS hst hsv huB
     go_wp2
     go_quiet (fail)
     go_wp2
     go_roundg (m - (k + 1))
     case measure => have := HG2.out; omega
     case rel =>
      refine ⟨k + 1, c', _, by omega, by go_num, by go_num, HSS.out.2.2.1, HSV.out, by rw [List.length_set]; exact HL2.out, HSS.out.1, HSS.out.2.1, fun j hj => ?_, (below_drewN hbw2 _).setCell hg1 _⟩
      rw [getD_set_other (by omega)]
      exact HZ2.out j hj
    ·have hk : k = m := by omega
     have hT : val H out2 + H ^ (i + m) * cc = val H ((dig H x).take (i + 1)) * y := by
      have := HV2.out
      rw [hk, List.take_of_length_le (l := dig H y) (by rw [h'.len]; omega), val_dig H_two, HD.out] at this
      rw [this, take_val', Nat.add_mul, Nat.mul_assoc]
     have HTT := Lib.hid hT
     clear hT h2 HV2
     subst hk
     go_wp2
     go_loopg [7, 12] cc (fun g v7 v12 wr => ∃ cc kk : Nat, ∃ out : List Nat, cc ≤ g ∧ v12 = .int .i64 kk ∧ v7 = .int .u32 cc ∧ cc < H ∧ (cc = 0 ∨ (kk = i + k ∧ ∀ j, i + k ≤ j → out.getD j 0 = 0)) ∧ kk ≤ 30000 ∧ Own w.heap.size wr 59 .u32 (.slice (some ⟨w.heap.size, 0, none⟩) (n + k) (n + k)) out ∧ out.length = n + k ∧ Lt H out ∧ val H out + H ^ (i + k) * cc = val H ((dig H x).take (i + 1)) * y ∧ (∀ j, i + 1 + k ≤ j → out.getD j 0 = 0) ∧ Below w.heap.size w wr)
     case atStart => exact ⟨cc, i + k, out2, Nat.le_refl _, by go_num, rfl, HCC.out, .inr ⟨rfl, HZ2.out⟩, by omega, hown2, HL2.out, hltO2, HTT.out, fun j hj => HZ2.out j (by omega), hbw2⟩
     case round =>
      obtain ⟨c3, kk, out3, hg3, rfl, rfl, hc3, hor3, hkk, hown3, hlen3, hltO3, hval3, hz3, hbw3⟩ := hrel
      have HG3 := Lib.hid hg3
      have HV3 := Lib.hid hval3
      have HL3 := Lib.hid hlen3
      have HZ3 : Hid (∀ j, i + 1 + k ≤ j → out3.getD j 0 = 0) := Lib.hid hz3
      have HC3 := Lib.hid hc3
      rw [H_eq] at hc3
      clear hg3 hval3 hlen3 hz3 HZ2 HL2 HTT hown2 hltO2 hbw2
      by_cases h0 : c3 = 0
      ·subst h0
       clear hor3
       go_wp2
       go_roundg (n - (i + 1))
       case measure => have := HG.out; omega
       case rel => exact ⟨i + 1, out3, by omega, by go_num, hown3, HL3.out, hltO3, by have := HV3.out; rwa [Nat.mul_zero, Nat.add_zero] at this, HZ3.out, hbw3⟩
      ·obtain ⟨hki, hz4⟩ := hor3.resolve_left h0
       obtain ⟨hg1, hce, hfz, hst⟩ := hown3.at0 (j := kk) (by rw [HL3.out]; omega)
       have hq0 : out3.getD kk 0 = 0 := hz4 kk (by omega)
       rw [hq0] at hce
       have HSV := Lib.hid (hst c3)
       have hM := mask32 (u := c3) (by omega)
       rw [Nat.mod_eq_of_lt HC3.out] at hM
       have hD16 : (c3 : Int) / 65536 = 0 := by omega
       have hp : 0 < c3 := by omega
       have dp : decide (0 < c3) = true := decide_eq_true hp
       have HKI := Lib.hid hki
       have hlt3 : kk < n + k := by omega
       have hlt3i : (kk : Int) < (n : Int) + (k : Int) := by omega
       have hcell3 : wr.cell? ⟨w.heap.size, kk, none⟩ = some (.int .u32 0) := by rw [hce]; rfl
       have HQ0 := Lib.hid hq0
       have HKM := Lib.hid (show i + k ≤ 30000 from by omega)
       clear hst hz4 hor3 h0 hq0 hki hce hcell hcell0 HCC HD HDB hdB h h' HLT HLT' hcap hcap' hmax hmax' hb
       go_wp2
       go_roundg 0
       case measure => have := HG3.out; omega
       case rel =>
        refine ⟨0, kk + 1, _, by omega, by go_num, by first | rfl | go_num, by rw [H_eq]; omega, .inl rfl, by omega, HSV.out, by rw [List.length_set]; exact HL3.out, hltO3.set _ HC3.out, ?_, fun j hj => ?_, hbw3.setCell hg1 _⟩
        ·have e4 := val_set (B := H) (l := out3) (i := kk) (by have := HL3.out; omega) c3
         rw [HQ0.out] at e4
         have := HV3.out
         rw [← HKI.out] at this ⊢
         omega
        ·rw [getD_set_other (by have := HKI.out; omega)]
         exact HZ3.out j hj
  ·have hi' : i = n := by omega
   have hv : val H out = x * y := by rw [HV.out, hi', List.take_of_length_le (by rw [h.len]; omega), val_dig H_two]
   obtain ⟨A2, c2, he, hrd⟩ := hown.rd hltO
   have hD := rd_rtrim hrd
   rw [hv] at hD
   injection he with he1 he2 he3
   subst he1 he3
   rw [HL.out] at hrd
   have HVV := Lib.hid hv
   have HDD := Lib.hid hD
   clear hv hD hown he2
   go_wp2_with fail
   refine (rtrim_any hrd).mono ?_
   rintro e w' ⟨rfl, rfl⟩
   rw [HVV.out]
   go_wp2
   go_ret
   exact ⟨_, _, _, rfl, HDD.out, hbw⟩
end Go.Proofs.YtdhdebapjlcjdaaGreatDoor
