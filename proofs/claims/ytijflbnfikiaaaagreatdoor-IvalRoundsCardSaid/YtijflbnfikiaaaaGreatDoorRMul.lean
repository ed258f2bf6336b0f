/-
  Contract of the reference's Mul at this translation. Condition: the slices read as digits of sixteen bits, at most ten thousand.
-/
import Derived.Test.YtijflbnfikiaaaaGreatDoorRBits
import Derived.Test.YtijflbnfikiaaaaGreatDoorRApi
namespace Go.Proofs.YtijflbnfikiaaaaGreatDoor
open Go.RowKit

set_option maxHeartbeats 1000000 in
theorem rcmp_any {w : World} {A B : Option Addr} {n c m d x0 y0 : Nat} (h : Dg w A n c x0) (h' : Dg w B m d y0) :
    Calls Tryz.prog 93 #[.slice A n c, .slice B m d] w fun e w' => e = .returned (.int .i64 (cmpN x0 y0)) ∧ Below w.heap.size w w' := by
  have hcap := h.cap
  have hmax := h.max
  have hcap' := h'.cap
  have hmax' := h'.max
  obtain ⟨t, ht⟩ : ∃ t, t = cmpN x0 y0 := ⟨_, rfl⟩
  rw [← ht]
  have HT := Lib.hid ht
  obtain ⟨l, hl⟩ : ∃ l, l = dig H x0 := ⟨_, rfl⟩
  obtain ⟨r, hr⟩ : ∃ r, r = dig H y0 := ⟨_, rfl⟩
  have hlc : Can H l := by rw [hl]; exact can_dig H_two _
  have hrc : Can H r := by rw [hr]; exact can_dig H_two _
  have hvl : val H l = x0 := by rw [hl]; exact val_dig H_two _
  have hvr : val H r = y0 := by rw [hr]; exact val_dig H_two _
  have h : Rd w .u32 H A n c l := by rw [hl]; exact h
  have h' : Rd w .u32 H B m d r := by rw [hr]; exact h'
  rw [← hvl, ← hvr] at ht
  have HT := Lib.hid ht
  clear ht hl hr hvl hvr
  by_cases hnm : n = m
  · subst hnm
    have b0 : ((n : Int) != n) = false := by simp
    go_enter Tryz.func93, Tryz.ntmps93
    go_wp2
    go_loopg [5] n (fun g v wr => ∃ k : Nat, k ≤ g ∧ k ≤ n ∧ v = .int .i64 ((k : Int) - 1) ∧ SameFrom l r k ∧ Below w.heap.size w wr)
    case atStart => exact ⟨n, Nat.le_refl _, Nat.le_refl _, rfl, by unfold SameFrom; rw [List.drop_of_length_le (by rw [h.len]; omega), List.drop_of_length_le (by rw [h'.len]; omega)], Below.refl _ _⟩
    case round =>
      obtain ⟨k, hg, hk, rfl, hs, hb⟩ := hrel
      by_cases h0 : k = 0
      · subst h0
        have e : t = 0 := by
          rw [HT.out, cmpN_eq]
          unfold SameFrom at hs
          rw [List.drop_zero, List.drop_zero] at hs
          rw [hs]
        subst e
        go_wp2
        go_ret
        exact ⟨rfl, hb⟩
      · obtain ⟨a, o, rfl, ha, hc⟩ := (h.below hb).at_ (by omega)
        obtain ⟨a', o', rfl, ha', hc'⟩ := (h'.below hb).at_ (by omega)
        obtain ⟨x, hx⟩ : ∃ x, x = l.getD (k - 1) 0 := ⟨_, rfl⟩
        obtain ⟨y, hy⟩ : ∃ y, y = r.getD (k - 1) 0 := ⟨_, rfl⟩
        have hcell : wr.cell? ⟨a, o + (k - 1), none⟩ = some (.int .u32 (x : Int)) := by rw [hx]; exact hc (k - 1) (by omega)
        have hcell' : wr.cell? ⟨a', o' + (k - 1), none⟩ = some (.int .u32 (y : Int)) := by rw [hy]; exact hc' (k - 1) (by omega)
        have hp : (0 : Int) ≤ (k : Int) - 1 := by omega
        have hp2 : (k : Int) - 1 < n := by omega
        have hp3 : ((k : Int) - 1).toNat = k - 1 := by omega
        have HX := Lib.hid hx
        have HY := Lib.hid hy
        clear hx hc hy hc'
        have HSS : Hid (SameFrom l r k) := hs
        rcases Nat.lt_trichotomy x y with hlt | hxy | hgt
        · have e : t = -1 := by
            rw [HT.out, cmpN_lt]
            exact val_lt_at (i := k - 1) hlc.1 (by rw [h.len]; omega) (by rw [h'.len]; omega) (by rw [Nat.sub_add_cancel (by omega)]; exact HSS.out) (by rw [← HX.out, ← HY.out]; exact hlt)
          subst e
          have b2 : decide (x < y) = true := by simpa using hlt
          go_wp2
          go_quiet (fail)
          go_wp2
          go_ret
          exact ⟨rfl, below_drewN hb _⟩
        · subst hxy
          have b2 : decide (x < x) = false := by simp
          go_wp2
          go_quiet (fail)
          go_wp2
          go_quiet (fail)
          go_wp2
          go_roundg (k - 1)
          case measure => omega
          case rel => exact ⟨k - 1, by omega, by omega, by rw [show ((k - 1 : Nat) : Int) = (k : Int) - 1 by omega], sameFrom_step h.len h'.len h0 hk HSS.out (by rw [← HX.out, ← HY.out]), below_drewN hb _⟩
        · have e : t = 1 := by
            rw [HT.out, cmpN_gt]
            exact val_lt_at (i := k - 1) hrc.1 (by rw [h'.len]; omega) (by rw [h.len]; omega) (by rw [Nat.sub_add_cancel (by omega)]; exact HSS.out.symm) (by rw [← HX.out, ← HY.out]; omega)
          subst e
          have b2 : decide (x < y) = false := decide_eq_false (by omega)
          have b3 : decide (y < x) = true := by simpa using hgt
          go_wp2
          go_quiet (fail)
          go_wp2
          go_quiet (fail)
          go_wp2
          go_ret
          exact ⟨rfl, below_drewN (below_drewN hb _) _⟩
  · have b1 : ((n : Int) != m) = true := by simp; omega
    rcases Nat.lt_or_ge n m with hlt | hge
    · have e : t = -1 := by
        rw [HT.out, cmpN_lt]
        exact val_lt_len H_two hlc.1 hrc (by rw [h.len, h'.len]; exact hlt)
      subst e
      have b2 : decide (n < m) = true := decide_eq_true hlt
      clear hnm
      go_enter Tryz.func93, Tryz.ntmps93
      go_wp2
      go_ret
      exact ⟨rfl, Below.refl _ _⟩
    · have e : t = 1 := by
        rw [HT.out, cmpN_gt]
        exact val_lt_len H_two hrc.1 hlc (by rw [h.len, h'.len]; omega)
      subst e
      have b2 : decide (n < m) = false := decide_eq_false (by omega)
      clear hnm
      go_enter Tryz.func93, Tryz.ntmps93
      go_wp2
      go_ret
      exact ⟨rfl, Below.refl _ _⟩
end Go.Proofs.YtijflbnfikiaaaaGreatDoor

namespace Go.Proofs.YtijflbnfikiaaaaGreatDoor
open Go.RowKit

theorem add_step {l r out : List Nat} {i cc d e u z c' : Nat} (hd : d = l.getD i 0) (he : e = r.getD i 0) (hdB : d < H) (heB : e < H) (hu : u = cc + d + e) (hz : z = u % H) (hc' : c' = u / H) (hc : cc ≤ 1)
    (hl : out.length = i) (hlt : Lt H out) (hv : val H out + H ^ i * cc = val H (l.take i) + val H (r.take i)) :
    (out ++ [z]).length = i + 1 ∧ Lt H (out ++ [z]) ∧ val H (out ++ [z]) + H ^ (i + 1) * c' = val H (l.take (i + 1)) + val H (r.take (i + 1)) ∧ c' ≤ 1 := by
  refine ⟨by simp [hl], hlt.append (Lt.cons (by rw [hz]; exact Nat.mod_lt _ (by rw [H_eq]; omega)) Lt.nil), ?_, ?_⟩
  · have e1 : z + H * c' = cc + d + e := by rw [hz, hc', ← hu]; exact Nat.mod_add_div _ _
    have e3 : H ^ i * (z + H * c') = H ^ i * cc + H ^ i * d + H ^ i * e := by rw [e1, Nat.mul_add, Nat.mul_add]
    rw [val_snoc, hl, take_val', take_val', ← hd, ← he, Nat.pow_succ, Nat.mul_assoc]
    rw [Nat.mul_add] at e3
    omega
  · rw [hc', hu]
    rw [H_eq] at hdB heB ⊢
    omega
theorem getD_past {l : List Nat} {i : Nat} (h : l.length ≤ i) : l.getD i 0 = 0 := by
  rw [List.getD_eq_getElem?_getD, List.getElem?_eq_none h]; rfl

end Go.Proofs.YtijflbnfikiaaaaGreatDoor

namespace Go.Proofs.YtijflbnfikiaaaaGreatDoor
open Go.RowKit

theorem sub_step2 {l r out : List Nat} {i cc d e z c' : Nat} (hd : d = l.getD i 0) (he : e = r.getD i 0) (hz : z + cc + e = d + H * c') (hzH : z < H) (hl : out.length = i) (hlt : Lt H out)
    (hv : val H out + val H (r.take i) = val H (l.take i) + H ^ i * cc) :
    (out ++ [z]).length = i + 1 ∧ Lt H (out ++ [z]) ∧ val H (out ++ [z]) + val H (r.take (i + 1)) = val H (l.take (i + 1)) + H ^ (i + 1) * c' := by
  refine ⟨by simp [hl], hlt.append (Lt.cons hzH Lt.nil), ?_⟩
  have e3 : H ^ i * (z + cc + e) = H ^ i * (d + H * c') := by rw [hz]
  rw [Nat.mul_add, Nat.mul_add, Nat.mul_add] at e3
  rw [val_snoc, hl, take_val', take_val', ← hd, ← he, Nat.pow_succ, Nat.mul_assoc]
  omega

/-- the same, with what the slice lies in: a block that the call made -/
def DFresh (w : World) (x : Nat) (e : Ending) (w' : World) : Prop :=
  ∃ A n c, e = .returned (.slice A n c) ∧ Dg w' A n c x ∧ (∀ g i u, g < w.heap.size → Dg (w'.setCell ⟨g, i, none⟩ u) A n c x) ∧ Below w.heap.size w w'
theorem Own.fresh {base : Nat} {w : World} {e : TypeId} {k : IntKind} {v : Value} {l : List Nat} (h : Own base w e k v l) : l.length ≠ 0 → ∃ g cap, v = .slice (some ⟨g, 0, none⟩) l.length cap ∧ base ≤ g := fun h0 => by
  obtain ⟨g, cap, _, e, hb, _⟩ := Row.of_own h h0
  exact ⟨g, cap, e, hb⟩
theorem rd_elsewhere {w : World} {k : IntKind} {B b0 : Nat} {A : Option Addr} {n c : Nat} {l : List Nat} (h : Rd w k B A n c l) (hf : n ≠ 0 → ∃ g, A = some ⟨g, 0, none⟩ ∧ b0 ≤ g) (g i : Nat) (u : Value) (hg : g < b0) : Rd (w.setCell ⟨g, i, none⟩ u) k B A n c l := by
  refine h.grown (grownBy_set w g i u) ?_
  intro hn a ha
  obtain ⟨g', e, hb⟩ := hf hn
  rw [e] at ha
  injection ha with ha
  subst ha
  show g' ≠ g
  omega

end Go.Proofs.YtijflbnfikiaaaaGreatDoor

namespace Go.Proofs.YtijflbnfikiaaaaGreatDoor
open Go.RowKit

theorem Own.at0 {base g N cap : Nat} {w : World} {e : TypeId} {k : IntKind} {l : List Nat} (h : Own base w e k (.slice (some ⟨g, 0, none⟩) N cap) l) {j : Nat} (hj : j < l.length) :
    base ≤ g ∧ w.cell? ⟨g, j, none⟩ = some (.int k ((l.getD j 0 : Nat) : Int)) ∧ w.frozen? ⟨g, j, none⟩ = false ∧ ∀ y : Nat, Own base (w.setCell ⟨g, j, none⟩ (.int k (y : Int))) e k (.slice (some ⟨g, 0, none⟩) N cap) (l.set j y) := by
  obtain ⟨g', cap', hv, h1, _, _, _, h2, h3, h4⟩ := h.store hj
  injection hv with hv1 _ hv2
  injection hv1 with hv1
  injection hv1 with hv1
  subst hv1
  exact ⟨h1, h2, h3, h4⟩

theorem mul_step {r out : List Nat} {i k cc d e o u z c' V : Nat} (he : e = r.getD k 0) (ho : o = out.getD (i + k) 0) (hdB : d < H) (heB : e < H) (hoB : o < H) (hu : u = d * e + o + cc) (hz : z = u % H) (hc' : c' = u / H) (hc : cc < H)
    (hl : i + k < out.length) (hlt : Lt H out) (hv : val H out + H ^ (i + k) * cc = V + H ^ i * (d * val H (r.take k))) :
    Lt H (out.set (i + k) z) ∧ val H (out.set (i + k) z) + H ^ (i + (k + 1)) * c' = V + H ^ i * (d * val H (r.take (k + 1))) ∧ c' < H ∧ u < 4294967296 := by
  have h1 : d * e ≤ 65535 * 65535 := Nat.mul_le_mul (by rw [H_eq] at hdB; omega) (by rw [H_eq] at heB; omega)
  have h2 : u < 4294967296 := by rw [H_eq] at hoB hc; omega
  refine ⟨hlt.set _ (by rw [hz]; exact Nat.mod_lt _ (by rw [H_eq]; omega)), ?_, ?_, h2⟩
  · have e1 : z + H * c' = d * e + o + cc := by rw [hz, hc', ← hu]; exact Nat.mod_add_div _ _
    have e3 : H ^ (i + k) * (z + H * c') = H ^ (i + k) * (d * e) + H ^ (i + k) * o + H ^ (i + k) * cc := by rw [e1, Nat.mul_add, Nat.mul_add]
    have e4 := val_set (B := H) hl z
    rw [← ho] at e4
    have e5 : H ^ i * (d * val H (r.take (k + 1))) = H ^ i * (d * val H (r.take k)) + H ^ (i + k) * (d * e) := by
      rw [take_val', ← he, Nat.mul_add, Nat.mul_add, Nat.pow_add]
      congr 1
      ac_rfl
    rw [e5, ← Nat.add_assoc i k 1, Nat.pow_succ, Nat.mul_assoc]
    rw [Nat.mul_add] at e3
    omega
  · rw [hc']
    rw [H_eq]
    omega

end Go.Proofs.YtijflbnfikiaaaaGreatDoor
