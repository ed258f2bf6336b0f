/-
 What dyad's functions tell of any two Dyads, raw ones too; contracts of the reference's SameDyad, Sign, NegDyad, size, CmpDyad, at this translation. Condition: the slices read as limbs.
-/
import Derived.Test.YtdklnpaocaebkaaGreatDoorRu
import Derived.Test.YtdklnpaocaebkaaGreatDoorRb
set_option maxHeartbeats 8000000
set_option maxRecDepth 100000
namespace Go.Proofs.YtdklnpaocaebkaaGreatDoor
open Go.RowKit

theorem blen_WW (k : Nat) : blen (Go.Proofs.YtdklnpaocaebkaaGreatDoor.W ^ k) ≤ 64 * k + 1 := by
 rw [blen_le, W_pow, ← Nat.pow_mul]
 exact Nat.pow_lt_pow_right (by omega) (by omega)
theorem far_top {x i : Nat} (hx : x ≠ 0) (h : 4166 < blen x + i) : 2 * Go.Proofs.YtdklnpaocaebkaaGreatDoor.W ^ 64 < x * 2 ^ i := by
 obtain ⟨k, hk⟩ : ∃ k, k = 64 := ⟨_, rfl⟩
 rw [← hk]
 have h1 := blen_WW k
 have h2 := tops_lt (x := Go.Proofs.YtdklnpaocaebkaaGreatDoor.W ^ k) (i := 1) hx (show blen (Go.Proofs.YtdklnpaocaebkaaGreatDoor.W ^ k) + 1 < blen x + i by omega)
 rw [Nat.pow_one] at h2
 omega
/-- a sum of two far from each other is too long -/
theorem far_one {K x y i : Nat} {s t : Bool} {e f : Int} (hK : 4194304 ≤ K) (hy : y % 2 = 1) (hyB : y < Go.Proofs.YtdklnpaocaebkaaGreatDoor.W ^ 64) (hi : f + (i : Int) = e) (hf : -1048576 ≤ f) (hf' : f ≤ 1048576) (hi0 : i ≠ 0) (hbig : 2 * Go.Proofs.YtdklnpaocaebkaaGreatDoor.W ^ 64 < x * 2 ^ i) :
  NmV K (vz K s x e + vz K t y f) 2 false 0 0 := by
 have hp := (odd_pow (x := y) (y := x) hy hi0).2
 rw [Nat.pow_zero, Nat.mul_one] at hp
 have hv : vz K s x e = vz K s (x * 2 ^ i) f := by rw [← hi, vz_up (by omega)]
 rw [hv]
 generalize x * 2 ^ i = p at *
 by_cases hst : s = t
 ·subst hst
  refine (nmv_odd hK (s := s) (m := p + y) (e := f) vz_add hp hf hf').2 ?_
  generalize Go.Proofs.YtdklnpaocaebkaaGreatDoor.W ^ 64 = B at *
  omega
 ·obtain rfl : t = !s := by cases s <;> cases t <;> first | rfl | exact absurd rfl hst
  have hle : y ≤ p := by generalize Go.Proofs.YtdklnpaocaebkaaGreatDoor.W ^ 64 = B at *; omega
  refine (nmv_odd hK (s := s) (m := p - y) (e := f) (vz_sub hle) (by omega) hf hf').2 ?_
  generalize Go.Proofs.YtdklnpaocaebkaaGreatDoor.W ^ 64 = B at *
  omega
theorem okd_parts {s : Bool} {x : Nat} {e : Int} (hd : OkD s x e) (hx : x ≠ 0) : x % 2 = 1 ∧ x < Go.Proofs.YtdklnpaocaebkaaGreatDoor.W ^ 64 := by
 rcases hd with ⟨h, _⟩ | ⟨h1, h2, _⟩
 ·exact absurd h hx
 ·exact ⟨h1, h2⟩
theorem far_any {K x y i j : Nat} {s t : Bool} {e f lo : Int} (hK : 4194304 ≤ K) (hd : OkD s x e) (hd' : OkD t y f) (hx : x ≠ 0) (hy : y ≠ 0) (hlo : min e f = lo) (hi : lo + (i : Int) = e) (hj : lo + (j : Int) = f)
  (bx : blen x ≤ 4096) (hb : blen y ≤ 4096) (h : 4166 < blen x + i ∨ 4166 < blen y + j) : NmV K (vz K s x e + vz K t y f) 2 false 0 0 := by
 have r1 := okd_ge hK hd
 have r2 := okd_ge hK hd'
 obtain ⟨hx1, hx2⟩ := okd_parts hd hx
 obtain ⟨hy1, hy2⟩ := okd_parts hd' hy
 rcases h with h | h
 ·obtain rfl : f = lo := by omega
  exact far_one hK hy1 hy2 hi (by omega) (by omega) (by omega) (far_top hx h)
 ·obtain rfl : e = lo := by omega
  rw [Int.add_comm]
  exact far_one hK hx1 hx2 hj (by omega) (by omega) (by omega) (far_top hy h)
theorem near_add {K x y i j : Nat} {s : Bool} {e f lo k : Int} {s' : Bool} {m' : Nat} {e' : Int} (hlo : -(K : Int) ≤ lo) (hi : lo + (i : Int) = e) (hj : lo + (j : Int) = f) (h : Nm s (x * 2 ^ i + y * 2 ^ j) lo k s' m' e') : NmV K (vz K s x e + vz K s y f) k s' m' e' :=
 ⟨s, _, lo, hlo, by rw [vz_add, ← hi, ← hj, vz_up hlo, vz_up hlo], h⟩
theorem near_sub {K x y i j : Nat} {s t : Bool} {e f lo k : Int} {s' : Bool} {m' : Nat} {e' : Int} (hlo : -(K : Int) ≤ lo) (hi : lo + (i : Int) = e) (hj : lo + (j : Int) = f) (hst : s ≠ t) (hle : y * 2 ^ j ≤ x * 2 ^ i) (h : Nm s (x * 2 ^ i - y * 2 ^ j) lo k s' m' e') : NmV K (vz K s x e + vz K t y f) k s' m' e' := by
 obtain rfl : t = !s := by cases s <;> cases t <;> first | rfl | exact absurd rfl hst
 exact ⟨s, _, lo, hlo, by rw [vz_sub hle, ← hi, ← hj, vz_up hlo, vz_up hlo], h⟩

/-- what is told of any two, raw ones too -/
def sameB (s t : Bool) (l r : List Nat) (e f : Int) : Bool := decide (s = t ∧ e = f ∧ l = r)
def signR (s : Bool) (l : List Nat) (e : Int) : Int := if mayD s l e = true then signD s (val Go.Proofs.YtdklnpaocaebkaaGreatDoor.W l) else 0
def negR (s : Bool) (l : List Nat) (e : Int) : Bool := if mayD s l e = true ∧ val Go.Proofs.YtdklnpaocaebkaaGreatDoor.W l ≠ 0 then !s else s
def cmpR (K : Nat) (s : Bool) (l : List Nat) (e : Int) (t : Bool) (r : List Nat) (f : Int) : Int := if mayD s l e = true ∧ mayD t r f = true then cmpV (vz K s (val Go.Proofs.YtdklnpaocaebkaaGreatDoor.W l) e) (vz K t (val Go.Proofs.YtdklnpaocaebkaaGreatDoor.W r) f) else 0
def addR (K : Nat) (s : Bool) (l : List Nat) (e : Int) (t : Bool) (r : List Nat) (f : Int) : Int → Bool → Nat → Int → Prop := if mayD s l e = true ∧ mayD t r f = true then NmV K (vz K s (val Go.Proofs.YtdklnpaocaebkaaGreatDoor.W l) e + vz K t (val Go.Proofs.YtdklnpaocaebkaaGreatDoor.W r) f) else Wrong
def mulR (s : Bool) (l : List Nat) (e : Int) (t : Bool) (r : List Nat) (f : Int) : Int → Bool → Nat → Int → Prop := if mayD s l e = true ∧ mayD t r f = true then Nm (s != t) (val Go.Proofs.YtdklnpaocaebkaaGreatDoor.W l * val Go.Proofs.YtdklnpaocaebkaaGreatDoor.W r) (e + f) else Wrong
theorem wrong_fun {k k2 : Int} {s1 s2 : Bool} {m1 m2 : Nat} {e1 e2 : Int} (h : Wrong k s1 m1 e1) (h' : Wrong k2 s2 m2 e2) : k = k2 ∧ s1 = s2 ∧ m1 = m2 ∧ e1 = e2 := by
 obtain ⟨rfl, rfl, rfl, rfl⟩ := h
 obtain ⟨rfl, rfl, rfl, rfl⟩ := h'
 exact ⟨rfl, rfl, rfl, rfl⟩
theorem addR_fun {K : Nat} {s : Bool} {l : List Nat} {e : Int} {t : Bool} {r : List Nat} {f k k2 : Int} {s1 s2 : Bool} {m1 m2 : Nat} {e1 e2 : Int} (h : addR K s l e t r f k s1 m1 e1) (h' : addR K s l e t r f k2 s2 m2 e2) : k = k2 ∧ s1 = s2 ∧ m1 = m2 ∧ e1 = e2 := by
 unfold addR at h h'
 split at h
 ·rw [if_pos (by assumption)] at h'; exact nmv_fun h h'
 ·rw [if_neg (by assumption)] at h'; exact wrong_fun h h'
theorem mulR_fun {s : Bool} {l : List Nat} {e : Int} {t : Bool} {r : List Nat} {f k k2 : Int} {s1 s2 : Bool} {m1 m2 : Nat} {e1 e2 : Int} (h : mulR s l e t r f k s1 m1 e1) (h' : mulR s l e t r f k2 s2 m2 e2) : k = k2 ∧ s1 = s2 ∧ m1 = m2 ∧ e1 = e2 := by
 unfold mulR at h h'
 split at h
 ·rw [if_pos (by assumption)] at h'; exact nm_fun h h'
 ·rw [if_neg (by assumption)] at h'; exact wrong_fun h h'
/-- the reading of a slice whose Dyad may be -/
theorem rd_okd {w : World} {A1 : Option Addr} {n1 c1 : Nat} {l1 : List Nat} {s1 : Bool} {e1 : Int} (h1 : Rd w .u64 Go.Proofs.YtdklnpaocaebkaaGreatDoor.W A1 n1 c1 l1) (hd : mayD s1 l1 e1 = true) : Nt w A1 n1 c1 (val Go.Proofs.YtdklnpaocaebkaaGreatDoor.W l1) ∧ OkD s1 (val Go.Proofs.YtdklnpaocaebkaaGreatDoor.W l1) e1 ∧ dig Go.Proofs.YtdklnpaocaebkaaGreatDoor.W (val Go.Proofs.YtdklnpaocaebkaaGreatDoor.W l1) = l1 := by
 obtain ⟨hm, hok⟩ := mayD_of h1.lt hd
 obtain ⟨hN, hC, _⟩ := nt_of h1 hm
 refine ⟨hN, hok, ?_⟩
 have h2 := hN.rd
 have h3 : (dig Go.Proofs.YtdklnpaocaebkaaGreatDoor.W (val Go.Proofs.YtdklnpaocaebkaaGreatDoor.W l1)) = l1 := dig_val W_two hC
 exact h3
theorem rsame_eq {w : World} {A B : Option Addr} {n c m d : Nat} {l r : List Nat} {s : Bool} {e : Int} (h : Rd w .u64 Go.Proofs.YtdklnpaocaebkaaGreatDoor.W A n c l) (h' : Rd w .u64 Go.Proofs.YtdklnpaocaebkaaGreatDoor.W B m d r) :
  Calls Tryz.prog 90 #[.agg #[.bool s, .slice A n c, .int .i64 e], .agg #[.bool s, .slice B m d, .int .i64 e]] w fun en w' => en = .returned (.bool (decide (l = r))) ∧ Below w.heap.size w w' := by
 have BB := two_below w (.cells #[.bool s, .slice A n c, .int .i64 e] 24) (.cells #[.bool s, .slice B m d, .int .i64 e] 24)
 obtain ⟨a10, a11, a12, a20, a21, a22⟩ := (two_new w s s A B n c m d e e).held
 have h1 := h.next BB rfl
 have h2 := h'.next BB rfl
 have hc := h1.cap
 have hm := h1.max
 have hc' := h2.cap
 have hm' := h2.max
 have hl := h1.len
 have hl' := h2.len
 have fs : (s != s) = false := by simp
 have fe : (e != e) = false := by simp
 clear h h'
 by_cases hnm : n = m
 rotate_left
 ·have fz : ((n : Int) != (m : Int)) = true := by simp; omega
  have hlr : l ≠ r := fun h => hnm (by rw [← hl, ← hl', h])
  rw [decide_eq_false hlr]
  clear hlr hl hl' hnm
  go_enter Tryz.func90, Tryz.ntmps90
  go_wp2
  go_ret
  exact ⟨rfl, BB⟩
 subst hnm
 obtain ⟨D, hD⟩ : ∃ D, D = decide (l = r) := ⟨_, rfl⟩
 rw [← hD]
 have HD := Lib.hid hD
 have HL := Lib.hid hl
 have HL' := Lib.hid hl'
 clear hD hl hl'
 go_enter Tryz.func90, Tryz.ntmps90
 go_wp2
 go_loopg [5] n (fun g v wr => ∃ i : Nat, i + g = n ∧ v = .int .i64 i ∧ (∀ j, j < i → l.getD j 0 = r.getD j 0) ∧ Below w.heap.size w wr ∧ wr.cell? ⟨w.heap.size, 1, none⟩ = some (.slice A n c) ∧ wr.cell? ⟨w.heap.size + 1, 1, none⟩ = some (.slice B n d) ∧ Rd wr .u64 Go.Proofs.YtdklnpaocaebkaaGreatDoor.W A n c l ∧ Rd wr .u64 Go.Proofs.YtdklnpaocaebkaaGreatDoor.W B n d r)
 case atStart => exact ⟨0, by omega, rfl, fun j hj => absurd hj (by omega), BB, a11, a21, h1, h2⟩
 case round =>
  obtain ⟨i, hg, rfl, hall, hb, b1, b2, k1, k2⟩ := hrel
  clear BB a10 a11 a12 a20 a21 a22 h1 h2
  have HG := Lib.hid hg
  have HA := Lib.hid hall
  clear hg hall
  by_cases hi : i < n
  ·obtain ⟨a, o, rfl, ha, hca⟩ := k1.at_ (by omega)
   obtain ⟨a', o', rfl, ha', hca'⟩ := k2.at_ (by omega)
   obtain ⟨y, hy⟩ : ∃ y, y = l.getD i 0 := ⟨_, rfl⟩
   obtain ⟨z, hz⟩ : ∃ z, z = r.getD i 0 := ⟨_, rfl⟩
   have c1 : wr.cell? ⟨a, o + i, none⟩ = some (.int .u64 (y : Int)) := by rw [hy]; exact hca i hi
   have c2 : wr.cell? ⟨a', o' + i, none⟩ = some (.int .u64 (z : Int)) := by rw [hz]; exact hca' i hi
   have hp2 : (i : Int) < n := by omega
   have hp3 : (0 : Int) ≤ i := by omega
   have HY := Lib.hid hy
   have HZ := Lib.hid hz
   clear hy hz hca hca'
   by_cases hyz : y = z
   ·subst hyz
    have fy : ((y : Int) != (y : Int)) = false := by simp
    go_wp2
    go_quiet (fail)
    go_wp2
    go_roundg (gk - 1)
    case measure => have := HG.out; omega
    case rel =>
     refine ⟨i + 1, by have := HG.out; omega, by go_num, fun j hj => ?_, below_drewN hb _, b1, b2, k1.drewN _, k2.drewN _⟩
     by_cases hji : j = i
     ·rw [hji, ← HY.out, ← HZ.out]
     ·exact HA.out j (by omega)
   ·have fy : ((y : Int) != (z : Int)) = true := by simp; omega
    have HR : Hid (D = false) := Lib.hid (by
     rw [HD.out]
     refine decide_eq_false fun h => hyz ?_
     rw [HY.out, HZ.out, h])
    clear hyz
    go_wp2
    go_quiet (fail)
    go_wp2
    go_ret
    exact ⟨congrArg (fun b => Ending.returned (Value.bool b)) HR.out.symm, below_drewN hb _⟩
  ·have : i = n := by have := HG.out; omega
   subst this
   have HR : Hid (D = true) := Lib.hid (by
    rw [HD.out]
    refine decide_eq_true (List.ext_getElem (by rw [HL.out, HL'.out]) fun j hj hj' => ?_)
    have := HA.out j (by rw [← HL.out]; exact hj)
    simpa [List.getD_eq_getElem?_getD, List.getElem?_eq_getElem hj, List.getElem?_eq_getElem hj'] using this)
   go_wp2
   go_ret
   exact ⟨congrArg (fun b => Ending.returned (Value.bool b)) HR.out.symm, hb⟩

theorem rsame_no {w : World} {A B : Option Addr} {n c m d : Nat} {s t : Bool} {e f : Int} (hne : s ≠ t ∨ e ≠ f) :
  Calls Tryz.prog 90 #[.agg #[.bool s, .slice A n c, .int .i64 e], .agg #[.bool t, .slice B m d, .int .i64 f]] w fun en w' => en = .returned (.bool false) ∧ Below w.heap.size w w' := by
 have BB := two_below w (.cells #[.bool s, .slice A n c, .int .i64 e] 24) (.cells #[.bool t, .slice B m d, .int .i64 f] 24)
 obtain ⟨a10, a11, a12, a20, a21, a22⟩ := (two_new w s t A B n c m d e f).held
 by_cases hst : s = t
 ·subst hst
  have fs : (s != s) = false := by simp
  have fe : (e != f) = true := by simp; exact hne.resolve_left (fun h => h rfl)
  clear hne
  go_enter Tryz.func90, Tryz.ntmps90
  go_wp2
  all_goals (go_ret; exact ⟨rfl, BB⟩)
 ·clear hne
  cases s <;> cases t <;> first | exact absurd rfl hst | skip
  all_goals
   clear hst
   go_enter Tryz.func90, Tryz.ntmps90
   go_wp2
   all_goals (go_ret; exact ⟨rfl, BB⟩)

theorem rsame_raw {w : World} {A B : Option Addr} {n c m d : Nat} {l r : List Nat} {s t : Bool} {e f : Int} (h : Rd w .u64 Go.Proofs.YtdklnpaocaebkaaGreatDoor.W A n c l) (h' : Rd w .u64 Go.Proofs.YtdklnpaocaebkaaGreatDoor.W B m d r) :
  Calls Tryz.prog 90 #[.agg #[.bool s, .slice A n c, .int .i64 e], .agg #[.bool t, .slice B m d, .int .i64 f]] w fun en w' => en = .returned (.bool (sameB s t l r e f)) ∧ Below w.heap.size w w' := by
 by_cases h1 : s = t ∧ e = f
 ·obtain ⟨rfl, rfl⟩ := h1
  rw [show sameB s s l r e e = decide (l = r) from decide_eq_decide.2 ⟨fun h => h.2.2, fun h => ⟨rfl, rfl, h⟩⟩]
  exact rsame_eq h h'
 ·rw [show sameB s t l r e f = false from decide_eq_false fun h => h1 ⟨h.1, h.2.1⟩]
  refine rsame_no ?_
  by_cases h2 : s = t
  ·exact .inr fun h3 => h1 ⟨h2, h3⟩
  ·exact .inl h2
theorem dsame_raw {w : World} {A B : Option Addr} {n c m d : Nat} {l r : List Nat} {s t : Bool} {e f : Int} (h : Rd w .u64 Go.Proofs.YtdklnpaocaebkaaGreatDoor.W A n c l) (h' : Rd w .u64 Go.Proofs.YtdklnpaocaebkaaGreatDoor.W B m d r) :
  Calls Tryz.prog 24 #[.agg #[.bool s, .slice A n c, .int .i64 e], .agg #[.bool t, .slice B m d, .int .i64 f]] w fun en w' => en = .returned (.bool (sameB s t l r e f)) ∧ Below w.heap.size w w' := by
 by_cases h1 : s = t ∧ e = f
 ·obtain ⟨rfl, rfl⟩ := h1
  rw [show sameB s s l r e e = decide (l = r) from decide_eq_decide.2 ⟨fun h => h.2.2, fun h => ⟨rfl, rfl, h⟩⟩]
  exact dsame_eq h h'
 ·rw [show sameB s t l r e f = false from decide_eq_false fun h => h1 ⟨h.1, h.2.1⟩]
  refine dsame_no ?_
  by_cases h2 : s = t
  ·exact .inr fun h3 => h1 ⟨h2, h3⟩
  ·exact .inl h2
end Go.Proofs.YtdklnpaocaebkaaGreatDoor
set_option maxHeartbeats 8000000
set_option maxRecDepth 100000
namespace Go.Proofs.YtdklnpaocaebkaaGreatDoor
open Go.RowKit

theorem dsign_raw {w : World} {A1 : Option Addr} {n1 c1 : Nat} {l1 : List Nat} {s1 : Bool} {e1 : Int} (hT : Tab w) (h1 : Rd w .u64 Go.Proofs.YtdklnpaocaebkaaGreatDoor.W A1 n1 c1 l1) :
  Calls Tryz.prog 22 #[.agg #[.bool s1, .slice A1 n1 c1, .int .i64 e1]] w (Ints (signR s1 l1 e1) w) := by
 unfold signR
 by_cases hd : mayD s1 l1 e1 = true
 ·rw [if_pos hd]
  obtain ⟨hN, hok, _⟩ := rd_okd h1 hd
  exact sign_ok hT hN hok
 ·rw [if_neg hd]
  exact sign_no hT h1 (Bool.eq_false_iff.2 hd)
theorem dneg_raw {w : World} {A1 : Option Addr} {n1 c1 : Nat} {l1 : List Nat} {s1 : Bool} {e1 : Int} (hT : Tab w) (h1 : Rd w .u64 Go.Proofs.YtdklnpaocaebkaaGreatDoor.W A1 n1 c1 l1) (hn : n1 ≤ 10000000000000) :
  Calls Tryz.prog 81 #[.agg #[.bool s1, .slice A1 n1 c1, .int .i64 e1]] w fun en w' => ∃ A c, en = .returned (.agg #[.bool (negR s1 l1 e1), .slice A n1 c, .int .i64 e1]) ∧ Rd w' .u64 Go.Proofs.YtdklnpaocaebkaaGreatDoor.W A n1 c l1 ∧ Below w.heap.size w w' := by
 unfold negR
 by_cases hd : mayD s1 l1 e1 = true
 ·obtain ⟨hN, hok, hdig⟩ := rd_okd h1 hd
  have hg := dneg_any hT hN hok
  by_cases hz : val Go.Proofs.YtdklnpaocaebkaaGreatDoor.W l1 = 0
  ·rw [if_pos hz] at hg
   rw [if_neg (fun h => h.2 hz)]
   refine hg.mono ?_
   rintro en w' ⟨A, n, c, rfl, h2, h3⟩
   have h4 := h2.rd
   rw [hdig] at h4
   obtain rfl : n = n1 := h4.len.symm.trans h1.len
   exact ⟨A, c, rfl, h4, h3⟩
  ·rw [if_neg hz] at hg
   rw [if_pos ⟨hd, hz⟩]
   refine hg.mono ?_
   rintro en w' ⟨A, n, c, rfl, h2, h3⟩
   have h4 := h2.rd
   rw [hdig] at h4
   obtain rfl : n = n1 := h4.len.symm.trans h1.len
   exact ⟨A, c, rfl, h4, h3⟩
 ·rw [if_neg (fun h => hd h.1)]
  exact neg_keep h1 hn fun w2 b => sign_no (hT.below b) (h1.below b) (Bool.eq_false_iff.2 hd)
theorem dcmp_no {w : World} {A1 : Option Addr} {n1 c1 : Nat} {l1 : List Nat} {s1 : Bool} {e1 : Int} {A2 : Option Addr} {n2 c2 : Nat} {l2 : List Nat} {s2 : Bool} {e2 : Int} (hT : Tab w) (h1 : Rd w .u64 Go.Proofs.YtdklnpaocaebkaaGreatDoor.W A1 n1 c1 l1) (h2 : Rd w .u64 Go.Proofs.YtdklnpaocaebkaaGreatDoor.W A2 n2 c2 l2) (hd : ¬ (mayD s1 l1 e1 = true ∧ mayD s2 l2 e2 = true)) :
  Calls Tryz.prog 23 #[.agg #[.bool s1, .slice A1 n1 c1, .int .i64 e1], .agg #[.bool s2, .slice A2 n2 c2, .int .i64 e2]] w (Ints 0 w) := by
 have BB := two_below w (.cells #[.bool s1, .slice A1 n1 c1, .int .i64 e1] 24) (.cells #[.bool s2, .slice A2 n2 c2, .int .i64 e2] 24)
 obtain ⟨a10, a11, a12, a20, a21, a22⟩ := (two_new w s1 s2 A1 A2 n1 c1 n2 c2 e1 e2).held
 have G := mv BB rfl (J3 hT h1 h2)
 clear hT h1 h2
 obtain ⟨hT, h1, h2⟩ := G
 have HD := Lib.hid hd
 clear hd
 go_enter Tryz.func23, Tryz.ntmps23
 go_wp2_with fail
 refine (dmay_any (s := s1) (e := e1) hT h1).mono ?_
 rintro en w1 ⟨rfl, b⟩
 replace BB := bnx BB b
 have G := mv b rfl (J9 a10 a11 a12 a20 a21 a22 hT h1 h2)
 clear b a10 a11 a12 a20 a21 a22 hT h1 h2
 obtain ⟨a10, a11, a12, a20, a21, a22, hT, h1, h2⟩ := G
 cases q1 : mayD s1 l1 e1
 ·clear q1
  go_wp2
  go_ret
  exact ⟨rfl, BB⟩
 go_wp2_with fail
 refine (dmay_any (s := s2) (e := e2) hT h2).mono ?_
 rintro en w2 ⟨rfl, b⟩
 replace BB := bnx BB b
 have G := mv b rfl (J9 a10 a11 a12 a20 a21 a22 hT h1 h2)
 clear b a10 a11 a12 a20 a21 a22 hT h1 h2
 obtain ⟨a10, a11, a12, a20, a21, a22, hT, h1, h2⟩ := G
 have q2 : mayD s2 l2 e2 = false := by
  cases q : mayD s2 l2 e2
  ·rfl
  ·exact absurd ⟨q1, q⟩ HD.out
 rw [q2]
 clear q1 q2
 go_wp2
 go_ret
 exact ⟨rfl, BB⟩

theorem dcmp_raw {w : World} {K : Nat} {A1 : Option Addr} {n1 c1 : Nat} {l1 : List Nat} {s1 : Bool} {e1 : Int} {A2 : Option Addr} {n2 c2 : Nat} {l2 : List Nat} {s2 : Bool} {e2 : Int} (hK : 4194304 ≤ K) (hT : Tab w) (h1 : Rd w .u64 Go.Proofs.YtdklnpaocaebkaaGreatDoor.W A1 n1 c1 l1) (h2 : Rd w .u64 Go.Proofs.YtdklnpaocaebkaaGreatDoor.W A2 n2 c2 l2) :
  Calls Tryz.prog 23 #[.agg #[.bool s1, .slice A1 n1 c1, .int .i64 e1], .agg #[.bool s2, .slice A2 n2 c2, .int .i64 e2]] w (Ints (cmpR K s1 l1 e1 s2 l2 e2) w) := by
 unfold cmpR
 by_cases hd : mayD s1 l1 e1 = true ∧ mayD s2 l2 e2 = true
 ·rw [if_pos hd]
  obtain ⟨hN, hok, _⟩ := rd_okd h1 hd.1
  obtain ⟨hN', hok', _⟩ := rd_okd h2 hd.2
  exact dcmp_ok hK hT hN hN' hok hok'
 ·rw [if_neg hd]
  exact dcmp_no hT h1 h2 hd
theorem dadd_raw {w : World} {K : Nat} {A1 : Option Addr} {n1 c1 : Nat} {l1 : List Nat} {s1 : Bool} {e1 : Int} {A2 : Option Addr} {n2 c2 : Nat} {l2 : List Nat} {s2 : Bool} {e2 : Int} (hK : 4194304 ≤ K) (hT : Tab w) (h1 : Rd w .u64 Go.Proofs.YtdklnpaocaebkaaGreatDoor.W A1 n1 c1 l1) (h2 : Rd w .u64 Go.Proofs.YtdklnpaocaebkaaGreatDoor.W A2 n2 c2 l2) :
  Calls Tryz.prog 68 #[.agg #[.bool s1, .slice A1 n1 c1, .int .i64 e1], .agg #[.bool s2, .slice A2 n2 c2, .int .i64 e2]] w (Tells (addR K s1 l1 e1 s2 l2 e2) w) := by
 unfold addR
 by_cases hd : mayD s1 l1 e1 = true ∧ mayD s2 l2 e2 = true
 ·rw [if_pos hd]
  obtain ⟨hN, hok, _⟩ := rd_okd h1 hd.1
  obtain ⟨hN', hok', _⟩ := rd_okd h2 hd.2
  exact dadd_ok hK hT hN hN' hok hok'
 ·rw [if_neg hd]
  exact dadd_no hT h1 h2 (by cases q : mayD s1 l1 e1 <;> cases q' : mayD s2 l2 e2 <;> first | rfl | exact absurd ⟨q, q'⟩ hd)
theorem dmul_raw {w : World} {A1 : Option Addr} {n1 c1 : Nat} {l1 : List Nat} {s1 : Bool} {e1 : Int} {A2 : Option Addr} {n2 c2 : Nat} {l2 : List Nat} {s2 : Bool} {e2 : Int} (hT : Tab w) (h1 : Rd w .u64 Go.Proofs.YtdklnpaocaebkaaGreatDoor.W A1 n1 c1 l1) (h2 : Rd w .u64 Go.Proofs.YtdklnpaocaebkaaGreatDoor.W A2 n2 c2 l2) :
  Calls Tryz.prog 83 #[.agg #[.bool s1, .slice A1 n1 c1, .int .i64 e1], .agg #[.bool s2, .slice A2 n2 c2, .int .i64 e2]] w (Tells (mulR s1 l1 e1 s2 l2 e2) w) := by
 unfold mulR
 by_cases hd : mayD s1 l1 e1 = true ∧ mayD s2 l2 e2 = true
 ·rw [if_pos hd]
  obtain ⟨hN, hok, _⟩ := rd_okd h1 hd.1
  obtain ⟨hN', hok', _⟩ := rd_okd h2 hd.2
  exact dmul_ok hT hN hN' hok hok'
 ·rw [if_neg hd]
  exact dmul_no hT h1 h2 (by cases q : mayD s1 l1 e1 <;> cases q' : mayD s2 l2 e2 <;> first | rfl | exact absurd ⟨q, q'⟩ hd)
end Go.Proofs.YtdklnpaocaebkaaGreatDoor
