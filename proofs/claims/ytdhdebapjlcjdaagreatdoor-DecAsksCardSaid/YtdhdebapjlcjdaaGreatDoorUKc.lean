/-
 Plain facts on decimal digits in texts: what digits stand for, where they end, which texts are literals. No condition; nothing of the program is named here.
-/
import Derived.Test.YtdhdebapjlcjdaaGreatDoorUMem
import Derived.Lib.PathFns
import Derived.Lib.Strings
import Derived.Lib.Atoi
import Derived.Test.YtdhdebapjlcjdaaGreatDoorUDy3
import Derived.WalkSpells
import Derived.Test.YtdhdebapjlcjdaaGreatDoorShelfc
import Derived.Lib.AtoiTie
namespace Go.Proofs.YtdhdebapjlcjdaaGreatDoor

def isDig (c : UInt8) : Bool := decide (48 ≤ c.toNat) && decide (c.toNat ≤ 57)
/-- the digits that a text begins with, and what stands behind them -/
def spanD (l : List UInt8) : List UInt8 := l.takeWhile isDig
def restD (l : List UInt8) : List UInt8 := l.dropWhile isDig
def Digs (l : List UInt8) : Prop := ∀ c ∈ l, isDig c = true
/-- what digits stand for -/
def numV (l : List UInt8) : Nat := l.foldl (fun a c => a * 10 + (c.toNat - 48)) 0
theorem isDig_iff {c : UInt8} : isDig c = true ↔ 48 ≤ c.toNat ∧ c.toNat ≤ 57 := by
 unfold isDig
 simp only [Bool.and_eq_true, decide_eq_true_eq]
theorem span_rest (l : List UInt8) : spanD l ++ restD l = l := List.takeWhile_append_dropWhile
theorem digs_span (l : List UInt8) : Digs (spanD l) := by
 unfold spanD
 induction l with
 | nil => intro c hc; cases hc
 | cons x xs ih =>
  intro c hc
  rw [List.takeWhile_cons] at hc
  split at hc
  ·rcases List.mem_cons.1 hc with rfl | h
   ·assumption
   ·exact ih c h
  ·cases hc
theorem rest_head {l : List UInt8} {c : UInt8} {r : List UInt8} (h : restD l = c :: r) : isDig c = false := by
 unfold restD at h
 induction l with
 | nil => cases h
 | cons x xs ih =>
  rw [List.dropWhile_cons] at h
  split at h
  ·exact ih h
  ·rename_i hx
   injection h with h1 h2
   rw [← h1]
   exact Bool.eq_false_iff.2 hx
theorem span_len (l : List UInt8) : (spanD l).length ≤ l.length := by
 have := congrArg List.length (span_rest l)
 rw [List.length_append] at this
 omega
theorem span_take (l : List UInt8) : spanD l = l.take (spanD l).length := by
 have h := congrArg (List.take (spanD l).length) (span_rest l)
 rw [List.take_left] at h
 exact h
theorem rest_drop (l : List UInt8) : restD l = l.drop (spanD l).length := by
 have h := congrArg (List.drop (spanD l).length) (span_rest l)
 rw [List.drop_left] at h
 exact h
theorem numV_from (a : Nat) (l : List UInt8) : l.foldl (fun a c => a * 10 + (c.toNat - 48)) a = a * 10 ^ l.length + numV l := by
 unfold numV
 induction l generalizing a with
 | nil => simp
 | cons x xs ih =>
  rw [List.foldl_cons, List.foldl_cons, ih, ih (0 * 10 + (x.toNat - 48)), List.length_cons, Nat.pow_succ, Nat.zero_mul, Nat.zero_add, Nat.add_mul]
  have : a * 10 * 10 ^ xs.length = a * (10 ^ xs.length * 10) := by ac_rfl
  omega
theorem numV_append (l r : List UInt8) : numV (l ++ r) = numV l * 10 ^ r.length + numV r := by
 have h := numV_from (numV l) r
 rw [← h]
 unfold numV
 rw [List.foldl_append]
theorem numV_snoc (l : List UInt8) (c : UInt8) : numV (l ++ [c]) = numV l * 10 + (c.toNat - 48) := by
 unfold numV
 rw [List.foldl_append]
 rfl
theorem numV_lt {l : List UInt8} (h : Digs l) : numV l < 10 ^ l.length := by
 induction l with
 | nil => exact Nat.one_pos
 | cons x xs ih =>
  have h1 := ih fun c hc => h c (List.mem_cons_of_mem _ hc)
  have h2 := (isDig_iff.1 (h x List.mem_cons_self)).2
  have e := numV_append [x] xs
  have e1 : numV [x] = x.toNat - 48 := by unfold numV; simp
  rw [e1] at e
  rw [show x :: xs = [x] ++ xs from rfl, e, List.length_append, Nat.pow_add]
  have e2 : 10 ^ [x].length = 10 := by simp
  rw [e2]
  have h3 : (x.toNat - 48) * 10 ^ xs.length ≤ 9 * 10 ^ xs.length := Nat.mul_le_mul_right _ (by omega)
  omega
theorem decFrom_digs {l : List UInt8} (h : Digs l) (a : Nat) : Lib.decFrom a l = some (l.foldl (fun a c => a * 10 + (c.toNat - 48)) a) := by
 induction l generalizing a with
 | nil => rfl
 | cons x xs ih =>
  have h1 := isDig_iff.1 (h x List.mem_cons_self)
  have e : Lib.digitVal x = some (x.toNat - 48) := by unfold Lib.digitVal; rw [if_pos h1]
  unfold Lib.decFrom
  rw [e]
  exact ih (fun c hc => h c (List.mem_cons_of_mem _ hc)) _
theorem atoi_digs {l : List UInt8} (h : Digs l) (hn : l ≠ []) : Lib.atoi l = some (numV l : Int) := by
 cases l with
 | nil => exact absurd rfl hn
 | cons x xs =>
  have h1 := isDig_iff.1 (h x List.mem_cons_self)
  have e1 : (x == 45) = false := by
   rw [beq_eq_false_iff_ne]
   rintro rfl
   revert h1
   decide
  have e2 : (x == 43) = false := by
   rw [beq_eq_false_iff_ne]
   rintro rfl
   revert h1
   decide
  have e3 : Lib.atoi (x :: xs) = if (x == 45) = true then (Lib.decNat xs).map fun (m : Nat) => -(m : Int) else if (x == 43) = true then (Lib.decNat xs).map fun (m : Nat) => (m : Int) else (Lib.decNat (x :: xs)).map fun (m : Nat) => (m : Int) := rfl
  rw [e3, e1, e2, if_neg Bool.false_ne_true, if_neg Bool.false_ne_true]
  unfold Lib.decNat
  rw [if_neg (by simp), decFrom_digs h]
  rfl
/-- the power of ten that a text begins with, and what stands behind it -/
def powD (l : List UInt8) : Option (Int × List UInt8) :=
 let b := Lib.hasPrefix l [45]
 let r := if b = true then Lib.trimPrefix l [45] else Lib.trimPrefix l [43]
 if spanD r = [] ∨ 3 < (spanD r).length ∨ 100 < numV (spanD r) then none else some (if b = true then -(numV (spanD r) : Int) else (numV (spanD r) : Int), restD r)
/-- what stands behind a point -/
def partD (l : List UInt8) : Option (List UInt8 × List UInt8) :=
 if Lib.hasPrefix l [46] = true then (if spanD (Lib.trimPrefix l [46]) = [] then none else some (spanD (Lib.trimPrefix l [46]), restD (Lib.trimPrefix l [46]))) else some ([], l)
def tenD (l : List UInt8) : Option (Int × List UInt8) := if Lib.hasPrefix l [101] = true then powD (Lib.trimPrefix l [101]) else some (0, l)
/-- the digits and the power of ten that a literal stands for -/
def readD (l : List UInt8) : Option (List UInt8 × Int) :=
 if 60 < l.length ∨ spanD l = [] then none else
 match partD (restD l) with
 | none => none
 | some (p, r) => match tenD r with
  | none => none
  | some (t, r2) => if r2 = [] then some (spanD l ++ p, t - (p.length : Int)) else none
end Go.Proofs.YtdhdebapjlcjdaaGreatDoor
set_option maxHeartbeats 8000000
set_option maxRecDepth 100000
namespace Go.Proofs.YtdhdebapjlcjdaaGreatDoor
open Go.RowKit

theorem get_list {s : ByteArray} {i : Nat} (hi : i < s.size) : s.data.toList.getD i 0 = s[i] := by
 have h : i < s.data.toList.length := by rw [Array.length_toList]; exact hi
 rw [List.getD_eq_getElem?_getD, List.getElem?_eq_getElem h, Option.getD_some, Array.getElem_toList]
 rfl
theorem size_list (s : ByteArray) : s.data.toList.length = s.size := Array.length_toList
/-- at a place within the digits, or at their end -/
theorem run_digit {s : ByteArray} {k i : Nat} (hk : (spanD s.data.toList).length = k) (hi : i < s.size) (h : i < k) : (48 : Int) ≤ (s[i].toNat : Int) ∧ (s[i].toNat : Int) ≤ 57 := by
 have h1 : isDig (s.data.toList.getD i 0) = true := by
  have h2 := span_take s.data.toList
  rw [hk] at h2
  refine digs_span s.data.toList _ ?_
  have h3 : (spanD s.data.toList)[i]? = s.data.toList[i]? := by rw [h2, List.getElem?_take, if_pos h]
  have h4 : s.data.toList[i]? = some (s.data.toList.getD i 0) := by
   rw [List.getD_eq_getElem?_getD, List.getElem?_eq_getElem (by rw [size_list]; exact hi)]; rfl
  rw [h4] at h3
  exact List.mem_of_getElem? h3
 rw [get_list hi] at h1
 have := isDig_iff.1 h1
 omega
theorem run_end {s : ByteArray} {k : Nat} (hk : (spanD s.data.toList).length = k) (hi : k < s.size) : (s[k].toNat : Int) < 48 ∨ (57 : Int) < (s[k].toNat : Int) := by
 have h1 := rest_drop s.data.toList
 rw [hk, List.drop_eq_getElem_cons (by rw [size_list]; exact hi)] at h1
 have h2 := rest_head h1
 have h3 : s.data.toList[k]'(by rw [size_list]; exact hi) = s[k] := by rw [Array.getElem_toList]; rfl
 rw [h3] at h2
 have h4 : ¬ (48 ≤ s[k].toNat ∧ s[k].toNat ≤ 57) := fun h => by rw [isDig_iff.2 h] at h2; cases h2
 omega
theorem run_parts {s : ByteArray} {k : Nat} (hk : (spanD s.data.toList).length = k) : s.extract 0 k = ⟨(spanD s.data.toList).toArray⟩ ∧ s.extract k s.size = ⟨(restD s.data.toList).toArray⟩ := by
 rw [Go.Lib.Pa.extract_upto, Go.Lib.Pa.extract_from, span_take s.data.toList, rest_drop s.data.toList, hk]
 exact ⟨rfl, rfl⟩

theorem drun_ok {w : World} {s : ByteArray} {k : Nat} (hs : s.size ≤ 1000) (hk : (spanD s.data.toList).length = k) (h0 : k ≠ 0) :
  Calls Tryz.prog 49 #[.string s] w fun en w' => en = .returned (.tuple #[.string ⟨(spanD s.data.toList).toArray⟩, .string ⟨(restD s.data.toList).toArray⟩]) ∧ Below w.heap.size w w' := by
 have hks : k ≤ s.size := by rw [← hk, ← size_list]; exact span_len _
 have HK := Lib.hid hk
 clear hk
 go_enter Tryz.func49, Tryz.ntmps49
 go_wp2
 go_step3
 go_wp2
 go_step3
 go_wp2
 go_loopg [4] k (fun gk v wr => ∃ i : Nat, i + gk = k ∧ v = .int .i64 i ∧ wr = w)
 case atStart => exact ⟨0, by omega, rfl, rfl⟩
 case round =>
  obtain ⟨i, hg, rfl, rfl⟩ := hrel
  have HG := Lib.hid hg
  clear hg
  by_cases hlt : i < k
  ·have hi : i < s.size := by omega
   obtain ⟨a1, a2⟩ := run_digit HK.out hi hlt
   go_wp2
   go_roundg (gk - 1)
   case measure => have := HG.out; omega
   case rel => exact ⟨i + 1, by have := HG.out; omega, by go_num, rfl⟩
  obtain rfl : i = k := by have := HG.out; omega
  by_cases hi : i < s.size
  ·rcases run_end HK.out hi with a1 | a1
   ·have e0 : ((i : Int) == 0) = false := by simp; exact h0
    go_upto_region 8 with fail
    refine wp_region_held_drew (S := fun w' => True) (by kernel_rfl) (by trivial) (fun hHelda0 => ?_)
    refine tl 0 ?_
    refine tl 1 ?_
    refine tl 2 ?_
    refine tl 3 ?_
    refine tl 4 ?_
    refine tl 5 ?_
    refine tl 6 ?_
    refine tl 7 ?_
    refine wpAnyH_done (by kernel_rfl) ?_ _
    go_wp2
    first | rw [Exit.noGoto_ret] | skip
    exact bodyPost_ret (v := .tuple #[.string (s.extract 0 i), .string (s.extract i s.size)]) (by simp [results, Tryz.results49, go_sem]) rfl ⟨by rw [← (run_parts HK.out).1, ← (run_parts HK.out).2], below_drewN (Below.refl _ _) 1⟩
   have a2 : (48 : Int) ≤ (s[i].toNat : Int) := by omega
   have e0 : ((i : Int) == 0) = false := by simp; exact h0
   go_upto_region 8 with fail
   refine wp_region_held_drew (S := fun w' => True) (by kernel_rfl) (by trivial) (fun hHeldb0 => ?_)
   refine tl 0 ?_
   refine tl 1 ?_
   refine tl 2 ?_
   refine tl 3 ?_
   refine tl 4 ?_
   refine tl 5 ?_
   refine tl 6 ?_
   refine tl 7 ?_
   refine wpAnyH_done (by kernel_rfl) ?_ _
   go_wp2
   first | rw [Exit.noGoto_ret] | skip
   exact bodyPost_ret (v := .tuple #[.string (s.extract 0 i), .string (s.extract i s.size)]) (by simp [results, Tryz.results49, go_sem]) rfl ⟨by rw [← (run_parts HK.out).1, ← (run_parts HK.out).2], below_drewN (Below.refl _ _) 1⟩
  have e0 : ((i : Int) == 0) = false := by simp; exact h0
  go_upto_region 8 with fail
  refine wp_region_held_drew (S := fun w' => True) (by kernel_rfl) (by trivial) (fun hHeldc0 => ?_)
  refine tl 0 ?_
  refine tl 1 ?_
  refine tl 2 ?_
  refine tl 3 ?_
  refine tl 4 ?_
  refine tl 5 ?_
  refine tl 6 ?_
  refine tl 7 ?_
  refine wpAnyH_done (by kernel_rfl) ?_ _
  go_wp2
  first | rw [Exit.noGoto_ret] | skip
  exact bodyPost_ret (v := .tuple #[.string (s.extract 0 i), .string (s.extract i s.size)]) (by simp [results, Tryz.results49, go_sem]) rfl ⟨by rw [← (run_parts HK.out).1, ← (run_parts HK.out).2], below_drewN (Below.refl _ _) 1⟩
theorem drun_no {w : World} {s : ByteArray} (hk : (spanD s.data.toList).length = 0) :
  Calls Tryz.prog 49 #[.string s] w (Faults 6 w) := by
 have HK := Lib.hid hk
 clear hk
 go_enter Tryz.func49, Tryz.ntmps49
 go_wp2
 go_step3
 go_wp2
 go_step3
 go_wp2
 go_loopg [4] 0 (fun gk v wr => gk = 0 ∧ v = .int .i64 0 ∧ wr = w)
 case atStart => exact ⟨rfl, rfl, rfl⟩
 case round =>
  obtain ⟨rfl, rfl, rfl⟩ := hrel
  by_cases hi : 0 < s.size
  ·rcases run_end HK.out hi with a1 | a1
   ·go_wp2
    exact ⟨rfl, rfl, Below.refl _ _⟩
   have a2 : (48 : Int) ≤ (s[0].toNat : Int) := by omega
   go_wp2
   exact ⟨rfl, rfl, Below.refl _ _⟩
  have hi2 : s.size = 0 := by omega
  go_wp2
  exact ⟨rfl, rfl, Below.refl _ _⟩
end Go.Proofs.YtdhdebapjlcjdaaGreatDoor
set_option maxHeartbeats 400000
set_option maxRecDepth 100000
namespace Go.Proofs.YtdhdebapjlcjdaaGreatDoor
open Go.RowKit

theorem trim_len_le (l cs : List UInt8) : (Lib.trimS l cs).length ≤ (Lib.trimRightS l cs).length := by
 unfold Lib.trimS Lib.trimLeftS
 exact (List.dropWhile_sublist _).length_le
theorem zeros_any {w : World} {p : Option Addr} {n c : Nat} {xs : List Int} (hx : xs.length = n) (hnc : n ≤ c) (hbig : c ≤ 9223372036854775807) (h1 : Lib.BytesIn w p n xs) (hr : ∀ x ∈ xs, 0 ≤ x ∧ x < 256) :
  Calls Tryz.prog 42 #[.slice p n c] w fun e w' => e = .returned (.bool (decide ((Lib.trimS (Lib.bytesOf xs) [48]).length = 0))) ∧ Below w.heap.size w w' := by
 have hc := Any.bytes_Trim_laid Tryz.lays6t (by kernel_rfl) p n c xs ⟨#[48]⟩ w hx hnc hbig h1 hr (by decide) (fun j b h => by
  rcases j with _ | j
  ·have e : (48 : UInt8) = b := by injection h
   rw [← e]
   decide
  ·cases h)
 have HC := Lib.hid hc
 have hle := trim_len_le (Lib.bytesOf xs) [48]
 clear hc h1 hr hx
 rw [show (ByteArray.mk #[48]).data.toList = [48] from rfl] at HC
 generalize (Lib.trimS (Lib.bytesOf xs) [48]).length = j at *
 generalize (Lib.trimRightS (Lib.bytesOf xs) [48]).length = k at *
 obtain ⟨q, hq⟩ : ∃ q : Option Addr × Nat × Nat, Lib.leftV p k c (k - j) = .slice q.1 q.2.1 q.2.2 ∧ (q.2.1 = j) := by
  unfold Lib.leftV Lib.fromV
  split
  ·exact ⟨(none, 0, 0), rfl, by show 0 = j; omega⟩
  ·exact ⟨(_, _, _), rfl, by show k - (k - j) = j; omega⟩
 obtain ⟨a, m, d⟩ := q
 obtain ⟨hq, rfl⟩ := hq
 go_enter Tryz.func42, Tryz.ntmps42
 go_wp2_with fail
 refine HC.out.mono ?_
 rintro en w1 ⟨rfl, b⟩
 rw [hq]
 clear hq HC
 by_cases hm : m = 0
 ·subst hm
  go_wp2
  go_ret
  exact ⟨rfl, b⟩
 ·have hm1 : ((m : Int) == 0) = false := by simp [hm]
  go_wp2
  go_ret
  exact ⟨by simp [hm], b⟩
end Go.Proofs.YtdhdebapjlcjdaaGreatDoor
set_option maxHeartbeats 8000000
set_option maxRecDepth 100000
namespace Go.Proofs.YtdhdebapjlcjdaaGreatDoor
open Go.RowKit

/-- strconv's two errors are interfaces, or nil -/
def Errs (w : World) : Prop := (∃ ev, w.cell? ⟨3, 0, none⟩ = some ev ∧ (ev = .nilIface ∨ ∃ te pe, ev = .iface te pe)) ∧ ∃ ev, w.cell? ⟨4, 0, none⟩ = some ev ∧ (ev = .nilIface ∨ ∃ te pe, ev = .iface te pe)
theorem Errs.next {w X w2 : World} (h : Errs w) (b : Below X.heap.size X w2) (e : X.heap = w.heap) : Errs w2 := by
 have key : ∀ (p : Addr) (v : Value), w.cell? p = some v → w2.cell? p = some v := fun p v h => by
  have h1 : X.cell? p = some v := by rw [← h]; unfold World.cell?; rw [e]
  exact (b.cell (World.block_lt_of_cell? X _ h1)).trans h1
 obtain ⟨⟨v, h1, h2⟩, u, h3, h4⟩ := h
 exact ⟨⟨v, key _ _ h1, h2⟩, u, key _ _ h3, h4⟩
/-- what Atoi tells of digits -/
theorem datoi_any {w : World} {s : ByteArray} (hE : Errs w) (hd : Digs s.data.toList) (hn : s.data.toList ≠ []) (hs : s.size ≤ 1000) :
  Calls Tryz.prog 93 #[.string s] w fun en w' => (∃ v e, en = .returned (.tuple #[.int .i64 v, e]) ∧ ((e = .nilIface ∧ (s.size ≤ 3 → v = (numV s.data.toList : Int))) ∨ ((∃ t p, e = .iface t p) ∧ 3 < s.size))) ∧ Below w.heap.size w w' := by
 have short : s.size ≤ 3 → Lib.atoiAll s.data.toList = .ok (numV s.data.toList : Int) := fun h => by
  rw [Lib.atoiAll_short _ (by rw [size_list]; omega), atoi_digs hd hn]
  rfl
 obtain ⟨⟨v1, g1, g2⟩, v2, g3, g4⟩ := hE
 cases h : Lib.atoiAll s.data.toList
 case ok v =>
  refine (Tryz.strconv_Atoi_ok s (by omega) v h w).mono ?_
  rintro en w' ⟨rfl, hw⟩
  refine ⟨⟨v, .nilIface, rfl, .inl ⟨rfl, fun h3 => ?_⟩⟩, ?_⟩
  ·rw [short h3] at h
   injection h with h
   exact h.symm
  ·rcases hw with rfl | ⟨t, rfl⟩
   ·exact Below.refl _ _
   ·exact Lib.bytesWorld_below _ _ _
 case range =>
  refine (Tryz.strconv_Atoi_range s (by omega) h v2 w g3 g4).mono ?_
  rintro en w' ⟨N, rfl, _, _, b⟩
  exact ⟨⟨_, _, rfl, .inr ⟨⟨_, _, rfl⟩, Nat.lt_of_not_le fun h3 => by rw [short h3] at h; cases h⟩⟩, b⟩
 refine (Tryz.strconv_Atoi_syntax s (by omega) h v1 w g1 g2).mono ?_
 rintro en w' ⟨N, rfl, _, _, b⟩
 exact ⟨⟨_, _, rfl, .inr ⟨⟨_, _, rfl⟩, Nat.lt_of_not_le fun h3 => by rw [short h3] at h; cases h⟩⟩, b⟩
/-- how power ends -/
def PowEnd (o : Option (Int × List UInt8)) (w : World) (en : Ending) (w' : World) : Prop := match o with
 | none => Faults 6 w en w'
 | some (n, r) => en = .returned (.tuple #[.int .i64 n, .string ⟨r.toArray⟩]) ∧ Below w.heap.size w w'
theorem not_prefix {l p : List UInt8} (h : Lib.hasPrefix l p = false) : Lib.trimPrefix l p = l := by
 unfold Lib.trimPrefix
 rw [if_neg (by rw [h]; exact Bool.false_ne_true)]
theorem trim_le (l p : List UInt8) : (Lib.trimPrefix l p).length ≤ l.length := by
 unfold Lib.trimPrefix
 split
 ·rw [List.length_drop]; omega
 ·exact Nat.le_refl _
theorem dpower_neg {w : World} {s : ByteArray} (hE : Errs w) (hs : s.size ≤ 1000) (hb : Lib.hasPrefix s.data.toList [45] = true) :
  Calls Tryz.prog 51 #[.string s] w (PowEnd (powD s.data.toList) w) := by
 have BB := Below.refl w.heap.size w
 obtain ⟨r, hr⟩ : ∃ r, r = Lib.trimPrefix s.data.toList [45] := ⟨_, rfl⟩
 have hrl : r.length ≤ s.size := by rw [hr, ← size_list]; exact trim_le _ _
 have HP : Hid (powD s.data.toList = if spanD r = [] ∨ 3 < (spanD r).length ∨ 100 < numV (spanD r) then none else some (-(numV (spanD r) : Int), restD r)) := Lib.hid (by
  unfold powD
  simp only [hb]
  rw [hr]
  rfl)
 have HR := Lib.hid hr
 clear hr
 obtain ⟨o, ho⟩ : ∃ o, o = powD s.data.toList := ⟨_, rfl⟩
 rw [← ho]
 rw [← ho] at HP
 clear ho
 obtain ⟨k, hk⟩ : ∃ k, (spanD r).length = k := ⟨_, rfl⟩
 have hkr : k ≤ r.length := by rw [← hk]; exact span_len _
 go_enter Tryz.func51, Tryz.ntmps51
 go_wp2_with fail
 refine (Tryz.strings_CutPrefix s ⟨#[45]⟩ w).mono ?_
 rintro en w' ⟨rfl, rfl⟩
 rw [show Lib.hasPrefix s.data.toList (ByteArray.mk #[45]).data.toList = true from hb]
 rw [show Lib.trimPrefix s.data.toList (ByteArray.mk #[45]).data.toList = r from HR.out.symm]
 by_cases h0 : k = 0
 ·go_wp2_with fail
  refine (drun_no (s := ⟨r.toArray⟩) (hk.trans h0)).mono ?_
  rintro en w1 ⟨rfl, b⟩
  replace BB := bnx BB b
  clear b
  obtain rfl : o = none := HP.out.trans (if_pos (.inl (List.eq_nil_of_length_eq_zero (hk.trans h0))))
  go_wp2
  exact ⟨rfl, rfl, BB⟩
 go_wp2_with fail
 refine (drun_ok (s := ⟨r.toArray⟩) (by rw [← size_list]; exact Nat.le_trans hrl hs) hk h0).mono ?_
 rintro en w1 ⟨rfl, b⟩
 replace BB := bnx BB b
 replace hE := hE.next b rfl
 clear b
 rw [show (ByteArray.mk r.toArray).data.toList = r from rfl]
 obtain ⟨d, hd⟩ : ∃ d, d = spanD r := ⟨_, rfl⟩
 obtain ⟨t, ht⟩ : ∃ t, t = restD r := ⟨_, rfl⟩
 rw [← hd, ← ht]
 rw [← hd, ← ht] at HP
 rw [← hd] at hk
 have hdd : Digs d := by rw [hd]; exact digs_span r
 have hdn : d ≠ [] := fun h => h0 (by rw [← hk, h]; rfl)
 clear hd ht
 have hsz : (ByteArray.mk d.toArray).size = k := by rw [← size_list]; exact hk
 go_wp2_with fail
 refine (datoi_any (s := ⟨d.toArray⟩) hE hdd hdn (by rw [hsz]; omega)).mono ?_
 rintro en w2 ⟨⟨v, e, rfl, hv⟩, b⟩
 replace BB := bnx BB b
 clear b hE
 rw [hsz] at hv
 have HZ := Lib.hid hsz
 skip
 rcases hv with ⟨rfl, hv⟩ | ⟨⟨ty, pv, rfl⟩, h3⟩
 rotate_left
 ·clear HZ hsz
  obtain rfl : o = none := HP.out.trans (if_pos (.inr (.inl (by rw [hk]; exact h3))))
  go_wp2
  try any_goals (exfalso; omega)
  exact ⟨rfl, rfl, BB⟩
 by_cases h3 : 3 < k
 ·have g3 : (3 : Int) < ((ByteArray.mk d.toArray).size : Int) := by rw [hsz]; omega
  have g3k : (3 : Int) < (k : Int) := by omega
  obtain rfl : o = none := HP.out.trans (if_pos (.inr (.inl (by rw [hk]; exact h3))))
  go_wp2
  try any_goals (exfalso; omega)
  exact ⟨rfl, rfl, BB⟩
 have g3 : ¬ (3 : Int) < ((ByteArray.mk d.toArray).size : Int) := by rw [hsz]; omega
 have g3k : ¬ (3 : Int) < (k : Int) := by omega
 obtain rfl : v = (numV d : Int) := hv (by omega)
 by_cases h4 : 100 < numV d
 ·have g4 : (100 : Int) < (numV d : Int) := by omega
  obtain rfl : o = none := HP.out.trans (if_pos (.inr (.inr h4)))
  go_wp2
  try any_goals (exfalso; omega)
  exact ⟨rfl, rfl, BB⟩
 have g4 : ¬ (100 : Int) < (numV d : Int) := by omega
 obtain rfl : o = some (-(numV d : Int), t) := HP.out.trans (if_neg fun h => h.elim hdn fun h => h.elim (fun h => by omega) h4)
 have hw : IntKind.i64.wrap (-(numV d : Int)) = -(numV d : Int) := IntWalk.i64_in _ (by omega)
 go_wp2
 try any_goals (exfalso; omega)
 exact bodyPost_ret (v := .tuple #[.int .i64 (-(numV d : Int)), .string ⟨t.toArray⟩]) (by simp [results, Tryz.results51, go_sem]) rfl ⟨rfl, BB⟩
theorem dpower_pos {w : World} {s : ByteArray} (hE : Errs w) (hs : s.size ≤ 1000) (hb : Lib.hasPrefix s.data.toList [45] = false) :
  Calls Tryz.prog 51 #[.string s] w (PowEnd (powD s.data.toList) w) := by
 have BB := Below.refl w.heap.size w
 obtain ⟨r, hr⟩ : ∃ r, r = Lib.trimPrefix s.data.toList [43] := ⟨_, rfl⟩
 have hrl : r.length ≤ s.size := by rw [hr, ← size_list]; exact trim_le _ _
 have HP : Hid (powD s.data.toList = if spanD r = [] ∨ 3 < (spanD r).length ∨ 100 < numV (spanD r) then none else some ((numV (spanD r) : Int), restD r)) := Lib.hid (by
  unfold powD
  simp only [hb]
  rw [hr]
  rfl)
 have HR := Lib.hid hr
 clear hr
 obtain ⟨o, ho⟩ : ∃ o, o = powD s.data.toList := ⟨_, rfl⟩
 rw [← ho]
 rw [← ho] at HP
 clear ho
 obtain ⟨k, hk⟩ : ∃ k, (spanD r).length = k := ⟨_, rfl⟩
 have hkr : k ≤ r.length := by rw [← hk]; exact span_len _
 go_enter Tryz.func51, Tryz.ntmps51
 go_wp2_with fail
 refine (Tryz.strings_CutPrefix s ⟨#[45]⟩ w).mono ?_
 rintro en w' ⟨rfl, rfl⟩
 rw [show Lib.hasPrefix s.data.toList (ByteArray.mk #[45]).data.toList = false from hb]
 rw [show Lib.trimPrefix s.data.toList (ByteArray.mk #[45]).data.toList = s.data.toList from not_prefix hb]
 go_wp2_with fail
 refine (Tryz.strings_TrimPrefix ⟨s.data.toList.toArray⟩ ⟨#[43]⟩ w').mono ?_
 rintro en w9 ⟨rfl, rfl⟩
 rw [show Lib.trimPrefix (ByteArray.mk s.data.toList.toArray).data.toList (ByteArray.mk #[43]).data.toList = r from HR.out.symm]
 by_cases h0 : k = 0
 ·go_wp2_with fail
  refine (drun_no (s := ⟨r.toArray⟩) (hk.trans h0)).mono ?_
  rintro en w1 ⟨rfl, b⟩
  replace BB := bnx BB b
  clear b
  obtain rfl : o = none := HP.out.trans (if_pos (.inl (List.eq_nil_of_length_eq_zero (hk.trans h0))))
  go_wp2
  exact ⟨rfl, rfl, BB⟩
 go_wp2_with fail
 refine (drun_ok (s := ⟨r.toArray⟩) (by rw [← size_list]; exact Nat.le_trans hrl hs) hk h0).mono ?_
 rintro en w1 ⟨rfl, b⟩
 replace BB := bnx BB b
 replace hE := hE.next b rfl
 clear b
 rw [show (ByteArray.mk r.toArray).data.toList = r from rfl]
 obtain ⟨d, hd⟩ : ∃ d, d = spanD r := ⟨_, rfl⟩
 obtain ⟨t, ht⟩ : ∃ t, t = restD r := ⟨_, rfl⟩
 rw [← hd, ← ht]
 rw [← hd, ← ht] at HP
 rw [← hd] at hk
 have hdd : Digs d := by rw [hd]; exact digs_span r
 have hdn : d ≠ [] := fun h => h0 (by rw [← hk, h]; rfl)
 clear hd ht
 have hsz : (ByteArray.mk d.toArray).size = k := by rw [← size_list]; exact hk
 go_wp2_with fail
 refine (datoi_any (s := ⟨d.toArray⟩) hE hdd hdn (by rw [hsz]; omega)).mono ?_
 rintro en w2 ⟨⟨v, e, rfl, hv⟩, b⟩
 replace BB := bnx BB b
 clear b hE
 rw [hsz] at hv
 have HZ := Lib.hid hsz
 skip
 rcases hv with ⟨rfl, hv⟩ | ⟨⟨ty, pv, rfl⟩, h3⟩
 rotate_left
 ·clear HZ hsz
  obtain rfl : o = none := HP.out.trans (if_pos (.inr (.inl (by rw [hk]; exact h3))))
  go_wp2
  try any_goals (exfalso; omega)
  exact ⟨rfl, rfl, BB⟩
 by_cases h3 : 3 < k
 ·have g3 : (3 : Int) < ((ByteArray.mk d.toArray).size : Int) := by rw [hsz]; omega
  have g3k : (3 : Int) < (k : Int) := by omega
  obtain rfl : o = none := HP.out.trans (if_pos (.inr (.inl (by rw [hk]; exact h3))))
  go_wp2
  try any_goals (exfalso; omega)
  exact ⟨rfl, rfl, BB⟩
 have g3 : ¬ (3 : Int) < ((ByteArray.mk d.toArray).size : Int) := by rw [hsz]; omega
 have g3k : ¬ (3 : Int) < (k : Int) := by omega
 obtain rfl : v = (numV d : Int) := hv (by omega)
 by_cases h4 : 100 < numV d
 ·have g4 : (100 : Int) < (numV d : Int) := by omega
  obtain rfl : o = none := HP.out.trans (if_pos (.inr (.inr h4)))
  go_wp2
  try any_goals (exfalso; omega)
  exact ⟨rfl, rfl, BB⟩
 have g4 : ¬ (100 : Int) < (numV d : Int) := by omega
 obtain rfl : o = some ((numV d : Int), t) := HP.out.trans (if_neg fun h => h.elim hdn fun h => h.elim (fun h => by omega) h4)
 go_wp2
 try any_goals (exfalso; omega)
 exact bodyPost_ret (v := .tuple #[.int .i64 (numV d : Int), .string ⟨t.toArray⟩]) (by simp [results, Tryz.results51, go_sem]) rfl ⟨rfl, BB⟩
theorem dpower_any {w : World} {s : ByteArray} (hE : Errs w) (hs : s.size ≤ 1000) :
  Calls Tryz.prog 51 #[.string s] w (PowEnd (powD s.data.toList) w) := by
 cases hb : Lib.hasPrefix s.data.toList [45]
 ·exact dpower_pos hE hs hb
 ·exact dpower_neg hE hs hb
end Go.Proofs.YtdhdebapjlcjdaaGreatDoor
