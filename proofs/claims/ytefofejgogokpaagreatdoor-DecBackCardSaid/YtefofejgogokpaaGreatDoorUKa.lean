/-
 Plain facts on decimal digits in texts: what digits stand for, where they end, which texts are literals. No condition; nothing of the program is named here.
-/
import Derived.Test.YtefofejgogokpaaGreatDoorUMem
import Derived.Lib.PathFns
import Derived.Lib.Strings
import Derived.Lib.Atoi
namespace Go.Proofs.YtefofejgogokpaaGreatDoor

def isDig (c : UInt8) : Bool := decide (48 ≤ c.toNat) && decide (c.toNat ≤ 57)
/-- the digits that a text begins with, and what stands behind them -/
def spanD (l : List UInt8) : List UInt8 := l.takeWhile isDig
def restD (l : List UInt8) : List UInt8 := l.dropWhile isDig
def Digs (l : List UInt8) : Prop := ∀ c ∈ l, isDig c = true
/-- what digits stand for -/
def numV (l : List UInt8) : Nat := l.foldl (fun a c => a * 10 + (c.toNat - 48)) 0
theorem isDig_iff {c : UInt8} : isDig c = true ↔ 48 ≤ c.toNat ∧ c.toNat ≤ 57 := by
 unfold isDig
 simp only [Bool.and_eq_true, decide_eq_true_eq]
theorem span_rest (l : List UInt8) : spanD l ++ restD l = l := List.takeWhile_append_dropWhile
theorem digs_span (l : List UInt8) : Digs (spanD l) := by
 unfold spanD
 induction l with
 | nil => intro c hc; cases hc
 | cons x xs ih =>
  intro c hc
  rw [List.takeWhile_cons] at hc
  split at hc
  ·rcases List.mem_cons.1 hc with rfl | h
   ·assumption
   ·exact ih c h
  ·cases hc
theorem rest_head {l : List UInt8} {c : UInt8} {r : List UInt8} (h : restD l = c :: r) : isDig c = false := by
 unfold restD at h
 induction l with
 | nil => cases h
 | cons x xs ih =>
  rw [List.dropWhile_cons] at h
  split at h
  ·exact ih h
  ·rename_i hx
   injection h with h1 h2
   rw [← h1]
   exact Bool.eq_false_iff.2 hx
theorem span_len (l : List UInt8) : (spanD l).length ≤ l.length := by
 have := congrArg List.length (span_rest l)
 rw [List.length_append] at this
 omega
theorem span_take (l : List UInt8) : spanD l = l.take (spanD l).length := by
 have h := congrArg (List.take (spanD l).length) (span_rest l)
 rw [List.take_left] at h
 exact h
theorem rest_drop (l : List UInt8) : restD l = l.drop (spanD l).length := by
 have h := congrArg (List.drop (spanD l).length) (span_rest l)
 rw [List.drop_left] at h
 exact h
theorem numV_from (a : Nat) (l : List UInt8) : l.foldl (fun a c => a * 10 + (c.toNat - 48)) a = a * 10 ^ l.length + numV l := by
 unfold numV
 induction l generalizing a with
 | nil => simp
 | cons x xs ih =>
  rw [List.foldl_cons, List.foldl_cons, ih, ih (0 * 10 + (x.toNat - 48)), List.length_cons, Nat.pow_succ, Nat.zero_mul, Nat.zero_add, Nat.add_mul]
  have : a * 10 * 10 ^ xs.length = a * (10 ^ xs.length * 10) := by ac_rfl
  omega
theorem numV_append (l r : List UInt8) : numV (l ++ r) = numV l * 10 ^ r.length + numV r := by
 have h := numV_from (numV l) r
 rw [← h]
 unfold numV
 rw [List.foldl_append]
theorem numV_snoc (l : List UInt8) (c : UInt8) : numV (l ++ [c]) = numV l * 10 + (c.toNat - 48) := by
 unfold numV
 rw [List.foldl_append]
 rfl
theorem numV_lt {l : List UInt8} (h : Digs l) : numV l < 10 ^ l.length := by
 induction l with
 | nil => exact Nat.one_pos
 | cons x xs ih =>
  have h1 := ih fun c hc => h c (List.mem_cons_of_mem _ hc)
  have h2 := (isDig_iff.1 (h x List.mem_cons_self)).2
  have e := numV_append [x] xs
  have e1 : numV [x] = x.toNat - 48 := by unfold numV; simp
  rw [e1] at e
  rw [show x :: xs = [x] ++ xs from rfl, e, List.length_append, Nat.pow_add]
  have e2 : 10 ^ [x].length = 10 := by simp
  rw [e2]
  have h3 : (x.toNat - 48) * 10 ^ xs.length ≤ 9 * 10 ^ xs.length := Nat.mul_le_mul_right _ (by omega)
  omega
theorem decFrom_digs {l : List UInt8} (h : Digs l) (a : Nat) : Lib.decFrom a l = some (l.foldl (fun a c => a * 10 + (c.toNat - 48)) a) := by
 induction l generalizing a with
 | nil => rfl
 | cons x xs ih =>
  have h1 := isDig_iff.1 (h x List.mem_cons_self)
  have e : Lib.digitVal x = some (x.toNat - 48) := by unfold Lib.digitVal; rw [if_pos h1]
  unfold Lib.decFrom
  rw [e]
  exact ih (fun c hc => h c (List.mem_cons_of_mem _ hc)) _
theorem atoi_digs {l : List UInt8} (h : Digs l) (hn : l ≠ []) : Lib.atoi l = some (numV l : Int) := by
 cases l with
 | nil => exact absurd rfl hn
 | cons x xs =>
  have h1 := isDig_iff.1 (h x List.mem_cons_self)
  have e1 : (x == 45) = false := by
   rw [beq_eq_false_iff_ne]
   rintro rfl
   revert h1
   decide
  have e2 : (x == 43) = false := by
   rw [beq_eq_false_iff_ne]
   rintro rfl
   revert h1
   decide
  have e3 : Lib.atoi (x :: xs) = if (x == 45) = true then (Lib.decNat xs).map fun (m : Nat) => -(m : Int) else if (x == 43) = true then (Lib.decNat xs).map fun (m : Nat) => (m : Int) else (Lib.decNat (x :: xs)).map fun (m : Nat) => (m : Int) := rfl
  rw [e3, e1, e2, if_neg Bool.false_ne_true, if_neg Bool.false_ne_true]
  unfold Lib.decNat
  rw [if_neg (by simp), decFrom_digs h]
  rfl
/-- the power of ten that a text begins with, and what stands behind it -/
def powD (l : List UInt8) : Option (Int × List UInt8) :=
 let b := Lib.hasPrefix l [45]
 let r := if b = true then Lib.trimPrefix l [45] else Lib.trimPrefix l [43]
 if spanD r = [] ∨ 3 < (spanD r).length ∨ 100 < numV (spanD r) then none else some (if b = true then -(numV (spanD r) : Int) else (numV (spanD r) : Int), restD r)
/-- what stands behind a point -/
def partD (l : List UInt8) : Option (List UInt8 × List UInt8) :=
 if Lib.hasPrefix l [46] = true then (if spanD (Lib.trimPrefix l [46]) = [] then none else some (spanD (Lib.trimPrefix l [46]), restD (Lib.trimPrefix l [46]))) else some ([], l)
def tenD (l : List UInt8) : Option (Int × List UInt8) := if Lib.hasPrefix l [101] = true then powD (Lib.trimPrefix l [101]) else some (0, l)
/-- the digits and the power of ten that a literal stands for -/
def readD (l : List UInt8) : Option (List UInt8 × Int) :=
 if 60 < l.length ∨ spanD l = [] then none else
 match partD (restD l) with
 | none => none
 | some (p, r) => match tenD r with
  | none => none
  | some (t, r2) => if r2 = [] then some (spanD l ++ p, t - (p.length : Int)) else none
end Go.Proofs.YtefofejgogokpaaGreatDoor
