/-
 Contract of dec's power, at this translation. Condition: the two errors of strconv are interfaces, or nil.
-/
import Derived.Test.YtdhdebapjlcjdaaGreatDoorQKl
import Derived.Lib.AtoiTie
set_option maxHeartbeats 8000000
set_option maxRecDepth 100000
namespace Go.Proofs.YtdhdebapjlcjdaaGreatDoor
open Go.RowKit

/-- strconv's two errors are interfaces, or nil -/
def Errs (w : World) : Prop := (∃ ev, w.cell? ⟨3, 0, none⟩ = some ev ∧ (ev = .nilIface ∨ ∃ te pe, ev = .iface te pe)) ∧ ∃ ev, w.cell? ⟨4, 0, none⟩ = some ev ∧ (ev = .nilIface ∨ ∃ te pe, ev = .iface te pe)
theorem Errs.next {w X w2 : World} (h : Errs w) (b : Below X.heap.size X w2) (e : X.heap = w.heap) : Errs w2 := by
 have key : ∀ (p : Addr) (v : Value), w.cell? p = some v → w2.cell? p = some v := fun p v h => by
  have h1 : X.cell? p = some v := by rw [← h]; unfold World.cell?; rw [e]
  exact (b.cell (World.block_lt_of_cell? X _ h1)).trans h1
 obtain ⟨⟨v, h1, h2⟩, u, h3, h4⟩ := h
 exact ⟨⟨v, key _ _ h1, h2⟩, u, key _ _ h3, h4⟩
/-- what Atoi tells of digits -/
theorem datoi_any {w : World} {s : ByteArray} (hE : Errs w) (hd : Digs s.data.toList) (hn : s.data.toList ≠ []) (hs : s.size ≤ 1000) :
  Calls Tryz.prog 93 #[.string s] w fun en w' => (∃ v e, en = .returned (.tuple #[.int .i64 v, e]) ∧ ((e = .nilIface ∧ (s.size ≤ 3 → v = (numV s.data.toList : Int))) ∨ ((∃ t p, e = .iface t p) ∧ 3 < s.size))) ∧ Below w.heap.size w w' := by
 have short : s.size ≤ 3 → Lib.atoiAll s.data.toList = .ok (numV s.data.toList : Int) := fun h => by
  rw [Lib.atoiAll_short _ (by rw [size_list]; omega), atoi_digs hd hn]
  rfl
 obtain ⟨⟨v1, g1, g2⟩, v2, g3, g4⟩ := hE
 cases h : Lib.atoiAll s.data.toList
 case ok v =>
  refine (Tryz.strconv_Atoi_ok s (by omega) v h w).mono ?_
  rintro en w' ⟨rfl, hw⟩
  refine ⟨⟨v, .nilIface, rfl, .inl ⟨rfl, fun h3 => ?_⟩⟩, ?_⟩
  ·rw [short h3] at h
   injection h with h
   exact h.symm
  ·rcases hw with rfl | ⟨t, rfl⟩
   ·exact Below.refl _ _
   ·exact Lib.bytesWorld_below _ _ _
 case range =>
  refine (Tryz.strconv_Atoi_range s (by omega) h v2 w g3 g4).mono ?_
  rintro en w' ⟨N, rfl, _, _, b⟩
  exact ⟨⟨_, _, rfl, .inr ⟨⟨_, _, rfl⟩, Nat.lt_of_not_le fun h3 => by rw [short h3] at h; cases h⟩⟩, b⟩
 refine (Tryz.strconv_Atoi_syntax s (by omega) h v1 w g1 g2).mono ?_
 rintro en w' ⟨N, rfl, _, _, b⟩
 exact ⟨⟨_, _, rfl, .inr ⟨⟨_, _, rfl⟩, Nat.lt_of_not_le fun h3 => by rw [short h3] at h; cases h⟩⟩, b⟩
/-- how power ends -/
def PowEnd (o : Option (Int × List UInt8)) (w : World) (en : Ending) (w' : World) : Prop := match o with
 | none => Faults 6 w en w'
 | some (n, r) => en = .returned (.tuple #[.int .i64 n, .string ⟨r.toArray⟩]) ∧ Below w.heap.size w w'
theorem not_prefix {l p : List UInt8} (h : Lib.hasPrefix l p = false) : Lib.trimPrefix l p = l := by
 unfold Lib.trimPrefix
 rw [if_neg (by rw [h]; exact Bool.false_ne_true)]
theorem trim_le (l p : List UInt8) : (Lib.trimPrefix l p).length ≤ l.length := by
 unfold Lib.trimPrefix
 split
 ·rw [List.length_drop]; omega
 ·exact Nat.le_refl _
theorem dpower_neg {w : World} {s : ByteArray} (hE : Errs w) (hs : s.size ≤ 1000) (hb : Lib.hasPrefix s.data.toList [45] = true) :
  Calls Tryz.prog 51 #[.string s] w (PowEnd (powD s.data.toList) w) := by
 have BB := Below.refl w.heap.size w
 obtain ⟨r, hr⟩ : ∃ r, r = Lib.trimPrefix s.data.toList [45] := ⟨_, rfl⟩
 have hrl : r.length ≤ s.size := by rw [hr, ← size_list]; exact trim_le _ _
 have HP : Hid (powD s.data.toList = if spanD r = [] ∨ 3 < (spanD r).length ∨ 100 < numV (spanD r) then none else some (-(numV (spanD r) : Int), restD r)) := Lib.hid (by
  unfold powD
  simp only [hb]
  rw [hr]
  rfl)
 have HR := Lib.hid hr
 clear hr
 obtain ⟨o, ho⟩ : ∃ o, o = powD s.data.toList := ⟨_, rfl⟩
 rw [← ho]
 rw [← ho] at HP
 clear ho
 obtain ⟨k, hk⟩ : ∃ k, (spanD r).length = k := ⟨_, rfl⟩
 have hkr : k ≤ r.length := by rw [← hk]; exact span_len _
 go_enter Tryz.func51, Tryz.ntmps51
 go_wp2_with fail
 refine (Tryz.strings_CutPrefix s ⟨#[45]⟩ w).mono ?_
 rintro en w' ⟨rfl, rfl⟩
 rw [show Lib.hasPrefix s.data.toList (ByteArray.mk #[45]).data.toList = true from hb]
 rw [show Lib.trimPrefix s.data.toList (ByteArray.mk #[45]).data.toList = r from HR.out.symm]
 by_cases h0 : k = 0
 ·go_wp2_with fail
  refine (drun_no (s := ⟨r.toArray⟩) (hk.trans h0)).mono ?_
  rintro en w1 ⟨rfl, b⟩
  replace BB := bnx BB b
  clear b
  obtain rfl : o = none := HP.out.trans (if_pos (.inl (List.eq_nil_of_length_eq_zero (hk.trans h0))))
  go_wp2
  exact ⟨rfl, rfl, BB⟩
 go_wp2_with fail
 refine (drun_ok (s := ⟨r.toArray⟩) (by rw [← size_list]; exact Nat.le_trans hrl hs) hk h0).mono ?_
 rintro en w1 ⟨rfl, b⟩
 replace BB := bnx BB b
 replace hE := hE.next b rfl
 clear b
 rw [show (ByteArray.mk r.toArray).data.toList = r from rfl]
 obtain ⟨d, hd⟩ : ∃ d, d = spanD r := ⟨_, rfl⟩
 obtain ⟨t, ht⟩ : ∃ t, t = restD r := ⟨_, rfl⟩
 rw [← hd, ← ht]
 rw [← hd, ← ht] at HP
 rw [← hd] at hk
 have hdd : Digs d := by rw [hd]; exact digs_span r
 have hdn : d ≠ [] := fun h => h0 (by rw [← hk, h]; rfl)
 clear hd ht
 have hsz : (ByteArray.mk d.toArray).size = k := by rw [← size_list]; exact hk
 go_wp2_with fail
 refine (datoi_any (s := ⟨d.toArray⟩) hE hdd hdn (by rw [hsz]; omega)).mono ?_
 rintro en w2 ⟨⟨v, e, rfl, hv⟩, b⟩
 replace BB := bnx BB b
 clear b hE
 rw [hsz] at hv
 have HZ := Lib.hid hsz
 skip
 rcases hv with ⟨rfl, hv⟩ | ⟨⟨ty, pv, rfl⟩, h3⟩
 rotate_left
 ·clear HZ hsz
  obtain rfl : o = none := HP.out.trans (if_pos (.inr (.inl (by rw [hk]; exact h3))))
  go_wp2
  try any_goals (exfalso; omega)
  exact ⟨rfl, rfl, BB⟩
 by_cases h3 : 3 < k
 ·have g3 : (3 : Int) < ((ByteArray.mk d.toArray).size : Int) := by rw [hsz]; omega
  have g3k : (3 : Int) < (k : Int) := by omega
  obtain rfl : o = none := HP.out.trans (if_pos (.inr (.inl (by rw [hk]; exact h3))))
  go_wp2
  try any_goals (exfalso; omega)
  exact ⟨rfl, rfl, BB⟩
 have g3 : ¬ (3 : Int) < ((ByteArray.mk d.toArray).size : Int) := by rw [hsz]; omega
 have g3k : ¬ (3 : Int) < (k : Int) := by omega
 obtain rfl : v = (numV d : Int) := hv (by omega)
 by_cases h4 : 100 < numV d
 ·have g4 : (100 : Int) < (numV d : Int) := by omega
  obtain rfl : o = none := HP.out.trans (if_pos (.inr (.inr h4)))
  go_wp2
  try any_goals (exfalso; omega)
  exact ⟨rfl, rfl, BB⟩
 have g4 : ¬ (100 : Int) < (numV d : Int) := by omega
 obtain rfl : o = some (-(numV d : Int), t) := HP.out.trans (if_neg fun h => h.elim hdn fun h => h.elim (fun h => by omega) h4)
 have hw : IntKind.i64.wrap (-(numV d : Int)) = -(numV d : Int) := IntWalk.i64_in _ (by omega)
 go_wp2
 try any_goals (exfalso; omega)
 exact bodyPost_ret (v := .tuple #[.int .i64 (-(numV d : Int)), .string ⟨t.toArray⟩]) (by simp [results, Tryz.results51, go_sem]) rfl ⟨rfl, BB⟩
theorem dpower_pos {w : World} {s : ByteArray} (hE : Errs w) (hs : s.size ≤ 1000) (hb : Lib.hasPrefix s.data.toList [45] = false) :
  Calls Tryz.prog 51 #[.string s] w (PowEnd (powD s.data.toList) w) := by
 have BB := Below.refl w.heap.size w
 obtain ⟨r, hr⟩ : ∃ r, r = Lib.trimPrefix s.data.toList [43] := ⟨_, rfl⟩
 have hrl : r.length ≤ s.size := by rw [hr, ← size_list]; exact trim_le _ _
 have HP : Hid (powD s.data.toList = if spanD r = [] ∨ 3 < (spanD r).length ∨ 100 < numV (spanD r) then none else some ((numV (spanD r) : Int), restD r)) := Lib.hid (by
  unfold powD
  simp only [hb]
  rw [hr]
  rfl)
 have HR := Lib.hid hr
 clear hr
 obtain ⟨o, ho⟩ : ∃ o, o = powD s.data.toList := ⟨_, rfl⟩
 rw [← ho]
 rw [← ho] at HP
 clear ho
 obtain ⟨k, hk⟩ : ∃ k, (spanD r).length = k := ⟨_, rfl⟩
 have hkr : k ≤ r.length := by rw [← hk]; exact span_len _
 go_enter Tryz.func51, Tryz.ntmps51
 go_wp2_with fail
 refine (Tryz.strings_CutPrefix s ⟨#[45]⟩ w).mono ?_
 rintro en w' ⟨rfl, rfl⟩
 rw [show Lib.hasPrefix s.data.toList (ByteArray.mk #[45]).data.toList = false from hb]
 rw [show Lib.trimPrefix s.data.toList (ByteArray.mk #[45]).data.toList = s.data.toList from not_prefix hb]
 go_wp2_with fail
 refine (Tryz.strings_TrimPrefix ⟨s.data.toList.toArray⟩ ⟨#[43]⟩ w').mono ?_
 rintro en w9 ⟨rfl, rfl⟩
 rw [show Lib.trimPrefix (ByteArray.mk s.data.toList.toArray).data.toList (ByteArray.mk #[43]).data.toList = r from HR.out.symm]
 by_cases h0 : k = 0
 ·go_wp2_with fail
  refine (drun_no (s := ⟨r.toArray⟩) (hk.trans h0)).mono ?_
  rintro en w1 ⟨rfl, b⟩
  replace BB := bnx BB b
  clear b
  obtain rfl : o = none := HP.out.trans (if_pos (.inl (List.eq_nil_of_length_eq_zero (hk.trans h0))))
  go_wp2
  exact ⟨rfl, rfl, BB⟩
 go_wp2_with fail
 refine (drun_ok (s := ⟨r.toArray⟩) (by rw [← size_list]; exact Nat.le_trans hrl hs) hk h0).mono ?_
 rintro en w1 ⟨rfl, b⟩
 replace BB := bnx BB b
 replace hE := hE.next b rfl
 clear b
 rw [show (ByteArray.mk r.toArray).data.toList = r from rfl]
 obtain ⟨d, hd⟩ : ∃ d, d = spanD r := ⟨_, rfl⟩
 obtain ⟨t, ht⟩ : ∃ t, t = restD r := ⟨_, rfl⟩
 rw [← hd, ← ht]
 rw [← hd, ← ht] at HP
 rw [← hd] at hk
 have hdd : Digs d := by rw [hd]; exact digs_span r
 have hdn : d ≠ [] := fun h => h0 (by rw [← hk, h]; rfl)
 clear hd ht
 have hsz : (ByteArray.mk d.toArray).size = k := by rw [← size_list]; exact hk
 go_wp2_with fail
 refine (datoi_any (s := ⟨d.toArray⟩) hE hdd hdn (by rw [hsz]; omega)).mono ?_
 rintro en w2 ⟨⟨v, e, rfl, hv⟩, b⟩
 replace BB := bnx BB b
 clear b hE
 rw [hsz] at hv
 have HZ := Lib.hid hsz
 skip
 rcases hv with ⟨rfl, hv⟩ | ⟨⟨ty, pv, rfl⟩, h3⟩
 rotate_left
 ·clear HZ hsz
  obtain rfl : o = none := HP.out.trans (if_pos (.inr (.inl (by rw [hk]; exact h3))))
  go_wp2
  try any_goals (exfalso; omega)
  exact ⟨rfl, rfl, BB⟩
 by_cases h3 : 3 < k
 ·have g3 : (3 : Int) < ((ByteArray.mk d.toArray).size : Int) := by rw [hsz]; omega
  have g3k : (3 : Int) < (k : Int) := by omega
  obtain rfl : o = none := HP.out.trans (if_pos (.inr (.inl (by rw [hk]; exact h3))))
  go_wp2
  try any_goals (exfalso; omega)
  exact ⟨rfl, rfl, BB⟩
 have g3 : ¬ (3 : Int) < ((ByteArray.mk d.toArray).size : Int) := by rw [hsz]; omega
 have g3k : ¬ (3 : Int) < (k : Int) := by omega
 obtain rfl : v = (numV d : Int) := hv (by omega)
 by_cases h4 : 100 < numV d
 ·have g4 : (100 : Int) < (numV d : Int) := by omega
  obtain rfl : o = none := HP.out.trans (if_pos (.inr (.inr h4)))
  go_wp2
  try any_goals (exfalso; omega)
  exact ⟨rfl, rfl, BB⟩
 have g4 : ¬ (100 : Int) < (numV d : Int) := by omega
 obtain rfl : o = some ((numV d : Int), t) := HP.out.trans (if_neg fun h => h.elim hdn fun h => h.elim (fun h => by omega) h4)
 go_wp2
 try any_goals (exfalso; omega)
 exact bodyPost_ret (v := .tuple #[.int .i64 (numV d : Int), .string ⟨t.toArray⟩]) (by simp [results, Tryz.results51, go_sem]) rfl ⟨rfl, BB⟩
theorem dpower_any {w : World} {s : ByteArray} (hE : Errs w) (hs : s.size ≤ 1000) :
  Calls Tryz.prog 51 #[.string s] w (PowEnd (powD s.data.toList) w) := by
 cases hb : Lib.hasPrefix s.data.toList [45]
 ·exact dpower_pos hE hs hb
 ·exact dpower_neg hE hs hb
end Go.Proofs.YtdhdebapjlcjdaaGreatDoor
