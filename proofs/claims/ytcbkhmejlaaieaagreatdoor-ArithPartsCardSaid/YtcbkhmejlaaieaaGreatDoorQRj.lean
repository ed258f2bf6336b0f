/-
 What dyad's functions tell of any two Dyads, raw ones too; contracts of the reference's SameDyad, Sign, NegDyad, size, CmpDyad, at this translation. Condition: the slices read as limbs.
-/
import Derived.Test.YtcbkhmejlaaieaaGreatDoorQRu
import Derived.Test.YtcbkhmejlaaieaaGreatDoorQRm
namespace Go.Proofs.YtcbkhmejlaaieaaGreatDoor
open Go.RowKit

/-- what is told of any two, raw ones too -/
def sameB (s t : Bool) (l r : List Nat) (e f : Int) : Bool := decide (s = t ∧ e = f ∧ l = r)
def signR (s : Bool) (l : List Nat) (e : Int) : Int := if mayD s l e = true then signD s (val Go.Proofs.YtcbkhmejlaaieaaGreatDoor.W l) else 0
def cmpR (K : Nat) (s : Bool) (l : List Nat) (e : Int) (t : Bool) (r : List Nat) (f : Int) : Int := if mayD s l e = true ∧ mayD t r f = true then cmpV (vz K s (val Go.Proofs.YtcbkhmejlaaieaaGreatDoor.W l) e) (vz K t (val Go.Proofs.YtcbkhmejlaaieaaGreatDoor.W r) f) else 0
def addR (K : Nat) (s : Bool) (l : List Nat) (e : Int) (t : Bool) (r : List Nat) (f : Int) : Int → Bool → Nat → Int → Prop := if mayD s l e = true ∧ mayD t r f = true then NmV K (vz K s (val Go.Proofs.YtcbkhmejlaaieaaGreatDoor.W l) e + vz K t (val Go.Proofs.YtcbkhmejlaaieaaGreatDoor.W r) f) else Wrong
def mulR (s : Bool) (l : List Nat) (e : Int) (t : Bool) (r : List Nat) (f : Int) : Int → Bool → Nat → Int → Prop := if mayD s l e = true ∧ mayD t r f = true then Nm (s != t) (val Go.Proofs.YtcbkhmejlaaieaaGreatDoor.W l * val Go.Proofs.YtcbkhmejlaaieaaGreatDoor.W r) (e + f) else Wrong
theorem wrong_fun {k k2 : Int} {s1 s2 : Bool} {m1 m2 : Nat} {e1 e2 : Int} (h : Wrong k s1 m1 e1) (h' : Wrong k2 s2 m2 e2) : k = k2 ∧ s1 = s2 ∧ m1 = m2 ∧ e1 = e2 := by
 obtain ⟨rfl, rfl, rfl, rfl⟩ := h
 obtain ⟨rfl, rfl, rfl, rfl⟩ := h'
 exact ⟨rfl, rfl, rfl, rfl⟩
theorem addR_fun {K : Nat} {s : Bool} {l : List Nat} {e : Int} {t : Bool} {r : List Nat} {f k k2 : Int} {s1 s2 : Bool} {m1 m2 : Nat} {e1 e2 : Int} (h : addR K s l e t r f k s1 m1 e1) (h' : addR K s l e t r f k2 s2 m2 e2) : k = k2 ∧ s1 = s2 ∧ m1 = m2 ∧ e1 = e2 := by
 unfold addR at h h'
 split at h
 ·rw [if_pos (by assumption)] at h'; exact nmv_fun h h'
 ·rw [if_neg (by assumption)] at h'; exact wrong_fun h h'
theorem mulR_fun {s : Bool} {l : List Nat} {e : Int} {t : Bool} {r : List Nat} {f k k2 : Int} {s1 s2 : Bool} {m1 m2 : Nat} {e1 e2 : Int} (h : mulR s l e t r f k s1 m1 e1) (h' : mulR s l e t r f k2 s2 m2 e2) : k = k2 ∧ s1 = s2 ∧ m1 = m2 ∧ e1 = e2 := by
 unfold mulR at h h'
 split at h
 ·rw [if_pos (by assumption)] at h'; exact nm_fun h h'
 ·rw [if_neg (by assumption)] at h'; exact wrong_fun h h'
/-- the reading of a slice whose Dyad may be -/
theorem rd_okd {w : World} {A1 : Option Addr} {n1 c1 : Nat} {l1 : List Nat} {s1 : Bool} {e1 : Int} (h1 : Rd w .u64 Go.Proofs.YtcbkhmejlaaieaaGreatDoor.W A1 n1 c1 l1) (hd : mayD s1 l1 e1 = true) : Nt w A1 n1 c1 (val Go.Proofs.YtcbkhmejlaaieaaGreatDoor.W l1) ∧ OkD s1 (val Go.Proofs.YtcbkhmejlaaieaaGreatDoor.W l1) e1 ∧ dig Go.Proofs.YtcbkhmejlaaieaaGreatDoor.W (val Go.Proofs.YtcbkhmejlaaieaaGreatDoor.W l1) = l1 := by
 obtain ⟨hm, hok⟩ := mayD_of h1.lt hd
 obtain ⟨hN, hC, _⟩ := nt_of h1 hm
 refine ⟨hN, hok, ?_⟩
 have h2 := hN.rd
 have h3 : (dig Go.Proofs.YtcbkhmejlaaieaaGreatDoor.W (val Go.Proofs.YtcbkhmejlaaieaaGreatDoor.W l1)) = l1 := dig_val W_two hC
 exact h3
set_option maxRecDepth 100000 in
set_option maxHeartbeats 8000000 in
theorem rsame_eq {w : World} {A B : Option Addr} {n c m d : Nat} {l r : List Nat} {s : Bool} {e : Int} (h : Rd w .u64 Go.Proofs.YtcbkhmejlaaieaaGreatDoor.W A n c l) (h' : Rd w .u64 Go.Proofs.YtcbkhmejlaaieaaGreatDoor.W B m d r) :
  Calls Tryz.prog 120 #[.agg #[.bool s, .slice A n c, .int .i64 e], .agg #[.bool s, .slice B m d, .int .i64 e]] w fun en w' => en = .returned (.bool (decide (l = r))) ∧ Below w.heap.size w w' := by
 have BB := two_below w (.cells #[.bool s, .slice A n c, .int .i64 e] 24) (.cells #[.bool s, .slice B m d, .int .i64 e] 24)
 obtain ⟨a10, a11, a12, a20, a21, a22⟩ := (two_new w s s A B n c m d e e).held
 have h1 := h.next BB rfl
 have h2 := h'.next BB rfl
 have hc := h1.cap
 have hm := h1.max
 have hc' := h2.cap
 have hm' := h2.max
 have hl := h1.len
 have hl' := h2.len
 have fs : (s != s) = false := by simp
 have fe : (e != e) = false := by simp
 clear h h'
 by_cases hnm : n = m
 rotate_left
 ·have fz : ((n : Int) != (m : Int)) = true := by simp; omega
  have hlr : l ≠ r := fun h => hnm (by rw [← hl, ← hl', h])
  rw [decide_eq_false hlr]
  clear hlr hl hl' hnm
  go_enter Tryz.func120, Tryz.ntmps120
  go_wp2
  go_ret
  exact ⟨rfl, BB⟩
 subst hnm
 obtain ⟨D, hD⟩ : ∃ D, D = decide (l = r) := ⟨_, rfl⟩
 rw [← hD]
 have HD := Lib.hid hD
 have HL := Lib.hid hl
 have HL' := Lib.hid hl'
 clear hD hl hl'
 go_enter Tryz.func120, Tryz.ntmps120
 go_wp2
 go_loopg [5] n (fun g v wr => ∃ i : Nat, i + g = n ∧ v = .int .i64 i ∧ (∀ j, j < i → l.getD j 0 = r.getD j 0) ∧ Below w.heap.size w wr ∧ wr.cell? ⟨w.heap.size, 1, none⟩ = some (.slice A n c) ∧ wr.cell? ⟨w.heap.size + 1, 1, none⟩ = some (.slice B n d) ∧ Rd wr .u64 Go.Proofs.YtcbkhmejlaaieaaGreatDoor.W A n c l ∧ Rd wr .u64 Go.Proofs.YtcbkhmejlaaieaaGreatDoor.W B n d r)
 case atStart => exact ⟨0, by omega, rfl, fun j hj => absurd hj (by omega), BB, a11, a21, h1, h2⟩
 case round =>
  obtain ⟨i, hg, rfl, hall, hb, b1, b2, k1, k2⟩ := hrel
  clear BB a10 a11 a12 a20 a21 a22 h1 h2
  have HG := Lib.hid hg
  have HA := Lib.hid hall
  clear hg hall
  by_cases hi : i < n
  ·obtain ⟨a, o, rfl, ha, hca⟩ := k1.at_ (by omega)
   obtain ⟨a', o', rfl, ha', hca'⟩ := k2.at_ (by omega)
   obtain ⟨y, hy⟩ : ∃ y, y = l.getD i 0 := ⟨_, rfl⟩
   obtain ⟨z, hz⟩ : ∃ z, z = r.getD i 0 := ⟨_, rfl⟩
   have c1 : wr.cell? ⟨a, o + i, none⟩ = some (.int .u64 (y : Int)) := by rw [hy]; exact hca i hi
   have c2 : wr.cell? ⟨a', o' + i, none⟩ = some (.int .u64 (z : Int)) := by rw [hz]; exact hca' i hi
   have hp2 : (i : Int) < n := by omega
   have hp3 : (0 : Int) ≤ i := by omega
   have HY := Lib.hid hy
   have HZ := Lib.hid hz
   clear hy hz hca hca'
   by_cases hyz : y = z
   ·subst hyz
    have fy : ((y : Int) != (y : Int)) = false := by simp
    go_wp2
    go_quiet (fail)
    go_wp2
    go_roundg (gk - 1)
    case measure => have := HG.out; omega
    case rel =>
     refine ⟨i + 1, by have := HG.out; omega, by go_num, fun j hj => ?_, below_drewN hb _, b1, b2, k1.drewN _, k2.drewN _⟩
     by_cases hji : j = i
     ·rw [hji, ← HY.out, ← HZ.out]
     ·exact HA.out j (by omega)
   ·have fy : ((y : Int) != (z : Int)) = true := by simp; omega
    have HR : Hid (D = false) := Lib.hid (by
     rw [HD.out]
     refine decide_eq_false fun h => hyz ?_
     rw [HY.out, HZ.out, h])
    clear hyz
    go_wp2
    go_quiet (fail)
    go_wp2
    go_ret
    exact ⟨congrArg (fun b => Ending.returned (Value.bool b)) HR.out.symm, below_drewN hb _⟩
  ·have : i = n := by have := HG.out; omega
   subst this
   have HR : Hid (D = true) := Lib.hid (by
    rw [HD.out]
    refine decide_eq_true (List.ext_getElem (by rw [HL.out, HL'.out]) fun j hj hj' => ?_)
    have := HA.out j (by rw [← HL.out]; exact hj)
    simpa [List.getD_eq_getElem?_getD, List.getElem?_eq_getElem hj, List.getElem?_eq_getElem hj'] using this)
   go_wp2
   go_ret
   exact ⟨congrArg (fun b => Ending.returned (Value.bool b)) HR.out.symm, hb⟩

set_option maxRecDepth 100000 in
set_option maxHeartbeats 8000000 in
theorem rsame_no {w : World} {A B : Option Addr} {n c m d : Nat} {s t : Bool} {e f : Int} (hne : s ≠ t ∨ e ≠ f) :
  Calls Tryz.prog 120 #[.agg #[.bool s, .slice A n c, .int .i64 e], .agg #[.bool t, .slice B m d, .int .i64 f]] w fun en w' => en = .returned (.bool false) ∧ Below w.heap.size w w' := by
 have BB := two_below w (.cells #[.bool s, .slice A n c, .int .i64 e] 24) (.cells #[.bool t, .slice B m d, .int .i64 f] 24)
 obtain ⟨a10, a11, a12, a20, a21, a22⟩ := (two_new w s t A B n c m d e f).held
 by_cases hst : s = t
 ·subst hst
  have fs : (s != s) = false := by simp
  have fe : (e != f) = true := by simp; exact hne.resolve_left (fun h => h rfl)
  clear hne
  go_enter Tryz.func120, Tryz.ntmps120
  go_wp2
  all_goals (go_ret; exact ⟨rfl, BB⟩)
 ·clear hne
  cases s <;> cases t <;> first | exact absurd rfl hst | skip
  all_goals
   clear hst
   go_enter Tryz.func120, Tryz.ntmps120
   go_wp2
   all_goals (go_ret; exact ⟨rfl, BB⟩)

theorem rsame_raw {w : World} {A B : Option Addr} {n c m d : Nat} {l r : List Nat} {s t : Bool} {e f : Int} (h : Rd w .u64 Go.Proofs.YtcbkhmejlaaieaaGreatDoor.W A n c l) (h' : Rd w .u64 Go.Proofs.YtcbkhmejlaaieaaGreatDoor.W B m d r) :
  Calls Tryz.prog 120 #[.agg #[.bool s, .slice A n c, .int .i64 e], .agg #[.bool t, .slice B m d, .int .i64 f]] w fun en w' => en = .returned (.bool (sameB s t l r e f)) ∧ Below w.heap.size w w' := by
 by_cases h1 : s = t ∧ e = f
 ·obtain ⟨rfl, rfl⟩ := h1
  rw [show sameB s s l r e e = decide (l = r) from decide_eq_decide.2 ⟨fun h => h.2.2, fun h => ⟨rfl, rfl, h⟩⟩]
  exact rsame_eq h h'
 ·rw [show sameB s t l r e f = false from decide_eq_false fun h => h1 ⟨h.1, h.2.1⟩]
  refine rsame_no ?_
  by_cases h2 : s = t
  ·exact .inr fun h3 => h1 ⟨h2, h3⟩
  ·exact .inl h2
theorem dsame_raw {w : World} {A B : Option Addr} {n c m d : Nat} {l r : List Nat} {s t : Bool} {e f : Int} (h : Rd w .u64 Go.Proofs.YtcbkhmejlaaieaaGreatDoor.W A n c l) (h' : Rd w .u64 Go.Proofs.YtcbkhmejlaaieaaGreatDoor.W B m d r) :
  Calls Tryz.prog 41 #[.agg #[.bool s, .slice A n c, .int .i64 e], .agg #[.bool t, .slice B m d, .int .i64 f]] w fun en w' => en = .returned (.bool (sameB s t l r e f)) ∧ Below w.heap.size w w' := by
 by_cases h1 : s = t ∧ e = f
 ·obtain ⟨rfl, rfl⟩ := h1
  rw [show sameB s s l r e e = decide (l = r) from decide_eq_decide.2 ⟨fun h => h.2.2, fun h => ⟨rfl, rfl, h⟩⟩]
  exact dsame_eq h h'
 ·rw [show sameB s t l r e f = false from decide_eq_false fun h => h1 ⟨h.1, h.2.1⟩]
  refine dsame_no ?_
  by_cases h2 : s = t
  ·exact .inr fun h3 => h1 ⟨h2, h3⟩
  ·exact .inl h2
end Go.Proofs.YtcbkhmejlaaieaaGreatDoor
namespace Go.Proofs.YtcbkhmejlaaieaaGreatDoor
open Go.RowKit

theorem dsign_raw {w : World} {A1 : Option Addr} {n1 c1 : Nat} {l1 : List Nat} {s1 : Bool} {e1 : Int} (hT : Tab w) (h1 : Rd w .u64 Go.Proofs.YtcbkhmejlaaieaaGreatDoor.W A1 n1 c1 l1) :
  Calls Tryz.prog 36 #[.agg #[.bool s1, .slice A1 n1 c1, .int .i64 e1]] w (Ints (signR s1 l1 e1) w) := by
 unfold signR
 by_cases hd : mayD s1 l1 e1 = true
 ·rw [if_pos hd]
  obtain ⟨hN, hok, _⟩ := rd_okd h1 hd
  exact sign_ok hT hN hok
 ·rw [if_neg hd]
  exact sign_no hT h1 (Bool.eq_false_iff.2 hd)
set_option maxRecDepth 100000 in
set_option maxHeartbeats 8000000 in
theorem dcmp_no {w : World} {A1 : Option Addr} {n1 c1 : Nat} {l1 : List Nat} {s1 : Bool} {e1 : Int} {A2 : Option Addr} {n2 c2 : Nat} {l2 : List Nat} {s2 : Bool} {e2 : Int} (hT : Tab w) (h1 : Rd w .u64 Go.Proofs.YtcbkhmejlaaieaaGreatDoor.W A1 n1 c1 l1) (h2 : Rd w .u64 Go.Proofs.YtcbkhmejlaaieaaGreatDoor.W A2 n2 c2 l2) (hd : ¬ (mayD s1 l1 e1 = true ∧ mayD s2 l2 e2 = true)) :
  Calls Tryz.prog 40 #[.agg #[.bool s1, .slice A1 n1 c1, .int .i64 e1], .agg #[.bool s2, .slice A2 n2 c2, .int .i64 e2]] w (Ints 0 w) := by
 have BB := two_below w (.cells #[.bool s1, .slice A1 n1 c1, .int .i64 e1] 24) (.cells #[.bool s2, .slice A2 n2 c2, .int .i64 e2] 24)
 obtain ⟨a10, a11, a12, a20, a21, a22⟩ := (two_new w s1 s2 A1 A2 n1 c1 n2 c2 e1 e2).held
 have G := mv BB rfl (J3 hT h1 h2)
 clear hT h1 h2
 obtain ⟨hT, h1, h2⟩ := G
 have HD := Lib.hid hd
 clear hd
 go_enter Tryz.func40, Tryz.ntmps40
 go_wp2_with fail
 refine (dmay_any (s := s1) (e := e1) hT h1).mono ?_
 rintro en w1 ⟨rfl, b⟩
 replace BB := bnx BB b rfl rfl rfl rfl
 have G := mv b rfl (J9 a10 a11 a12 a20 a21 a22 hT h1 h2)
 clear b a10 a11 a12 a20 a21 a22 hT h1 h2
 obtain ⟨a10, a11, a12, a20, a21, a22, hT, h1, h2⟩ := G
 cases q1 : mayD s1 l1 e1
 ·clear q1
  go_wp2
  go_ret
  exact ⟨rfl, BB⟩
 go_wp2_with fail
 refine (dmay_any (s := s2) (e := e2) hT h2).mono ?_
 rintro en w2 ⟨rfl, b⟩
 replace BB := bnx BB b rfl rfl rfl rfl
 have G := mv b rfl (J9 a10 a11 a12 a20 a21 a22 hT h1 h2)
 clear b a10 a11 a12 a20 a21 a22 hT h1 h2
 obtain ⟨a10, a11, a12, a20, a21, a22, hT, h1, h2⟩ := G
 have q2 : mayD s2 l2 e2 = false := by
  cases q : mayD s2 l2 e2
  ·rfl
  ·exact absurd ⟨q1, q⟩ HD.out
 rw [q2]
 clear q1 q2
 go_wp2
 go_ret
 exact ⟨rfl, BB⟩

theorem dcmp_raw {w : World} {K : Nat} {A1 : Option Addr} {n1 c1 : Nat} {l1 : List Nat} {s1 : Bool} {e1 : Int} {A2 : Option Addr} {n2 c2 : Nat} {l2 : List Nat} {s2 : Bool} {e2 : Int} (hK : 4194304 ≤ K) (hT : Tab w) (h1 : Rd w .u64 Go.Proofs.YtcbkhmejlaaieaaGreatDoor.W A1 n1 c1 l1) (h2 : Rd w .u64 Go.Proofs.YtcbkhmejlaaieaaGreatDoor.W A2 n2 c2 l2) :
  Calls Tryz.prog 40 #[.agg #[.bool s1, .slice A1 n1 c1, .int .i64 e1], .agg #[.bool s2, .slice A2 n2 c2, .int .i64 e2]] w (Ints (cmpR K s1 l1 e1 s2 l2 e2) w) := by
 unfold cmpR
 by_cases hd : mayD s1 l1 e1 = true ∧ mayD s2 l2 e2 = true
 ·rw [if_pos hd]
  obtain ⟨hN, hok, _⟩ := rd_okd h1 hd.1
  obtain ⟨hN', hok', _⟩ := rd_okd h2 hd.2
  exact dcmp_ok hK hT hN hN' hok hok'
 ·rw [if_neg hd]
  exact dcmp_no hT h1 h2 hd
theorem dadd_raw {w : World} {K : Nat} {A1 : Option Addr} {n1 c1 : Nat} {l1 : List Nat} {s1 : Bool} {e1 : Int} {A2 : Option Addr} {n2 c2 : Nat} {l2 : List Nat} {s2 : Bool} {e2 : Int} (hK : 4194304 ≤ K) (hT : Tab w) (h1 : Rd w .u64 Go.Proofs.YtcbkhmejlaaieaaGreatDoor.W A1 n1 c1 l1) (h2 : Rd w .u64 Go.Proofs.YtcbkhmejlaaieaaGreatDoor.W A2 n2 c2 l2) :
  Calls Tryz.prog 31 #[.agg #[.bool s1, .slice A1 n1 c1, .int .i64 e1], .agg #[.bool s2, .slice A2 n2 c2, .int .i64 e2]] w (Tells (addR K s1 l1 e1 s2 l2 e2) w) := by
 unfold addR
 by_cases hd : mayD s1 l1 e1 = true ∧ mayD s2 l2 e2 = true
 ·rw [if_pos hd]
  obtain ⟨hN, hok, _⟩ := rd_okd h1 hd.1
  obtain ⟨hN', hok', _⟩ := rd_okd h2 hd.2
  exact dadd_ok hK hT hN hN' hok hok'
 ·rw [if_neg hd]
  exact dadd_no hT h1 h2 (by cases q : mayD s1 l1 e1 <;> cases q' : mayD s2 l2 e2 <;> first | rfl | exact absurd ⟨q, q'⟩ hd)
theorem dmul_raw {w : World} {A1 : Option Addr} {n1 c1 : Nat} {l1 : List Nat} {s1 : Bool} {e1 : Int} {A2 : Option Addr} {n2 c2 : Nat} {l2 : List Nat} {s2 : Bool} {e2 : Int} (hT : Tab w) (h1 : Rd w .u64 Go.Proofs.YtcbkhmejlaaieaaGreatDoor.W A1 n1 c1 l1) (h2 : Rd w .u64 Go.Proofs.YtcbkhmejlaaieaaGreatDoor.W A2 n2 c2 l2) :
  Calls Tryz.prog 33 #[.agg #[.bool s1, .slice A1 n1 c1, .int .i64 e1], .agg #[.bool s2, .slice A2 n2 c2, .int .i64 e2]] w (Tells (mulR s1 l1 e1 s2 l2 e2) w) := by
 unfold mulR
 by_cases hd : mayD s1 l1 e1 = true ∧ mayD s2 l2 e2 = true
 ·rw [if_pos hd]
  obtain ⟨hN, hok, _⟩ := rd_okd h1 hd.1
  obtain ⟨hN', hok', _⟩ := rd_okd h2 hd.2
  exact dmul_ok hT hN hN' hok hok'
 ·rw [if_neg hd]
  exact dmul_no hT h1 h2 (by cases q : mayD s1 l1 e1 <;> cases q' : mayD s2 l2 e2 <;> first | rfl | exact absurd ⟨q, q'⟩ hd)
end Go.Proofs.YtcbkhmejlaaieaaGreatDoor
