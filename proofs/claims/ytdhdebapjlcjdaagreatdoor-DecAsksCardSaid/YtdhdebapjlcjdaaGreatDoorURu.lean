/-
 Contracts of the reference's SameDyad (of two that are the same), Of, Cut and Round, and of layer 3's same, at this translation. Condition: the slices read as limbs, or as digits of sixteen bits.
-/
import Derived.Test.YtdhdebapjlcjdaaGreatDoorURe
import Derived.Test.YtdhdebapjlcjdaaGreatDoorURf
import Derived.Test.YtdhdebapjlcjdaaGreatDoorURRoot
set_option maxHeartbeats 8000000
set_option maxRecDepth 100000
namespace Go.Proofs.YtdhdebapjlcjdaaGreatDoor
open Go.RowKit

/-- a reference's number -/
def NumIs (s : Bool) (x : Nat) (e : Int) (w : World) (en : Ending) (w' : World) : Prop := ∃ A n c, en = .returned (.agg #[.bool s, .slice A n c, .int .i64 e]) ∧ Dg w' A n c x ∧ Below w.heap.size w w'

theorem rsame_self {w : World} {A B : Option Addr} {n c m d x : Nat} {s : Bool} {e : Int} (h : Nt w A n c x) (h' : Nt w B m d x) :
  Calls Tryz.prog 13 #[.agg #[.bool s, .slice A n c, .int .i64 e], .agg #[.bool s, .slice B m d, .int .i64 e]] w fun en w' => en = .returned (.bool true) ∧ Below w.heap.size w w' := by
 obtain rfl : n = m := h.rd.len.symm.trans h'.rd.len
 have BB := two_below w (.cells #[.bool s, .slice A n c, .int .i64 e] 25) (.cells #[.bool s, .slice B n d, .int .i64 e] 25)
 obtain ⟨a10, a11, a12, a20, a21, a22⟩ := (two_new w s s A B n c n d e e).held
 have h1 := h.rd.next BB rfl
 have h2 := h'.rd.next BB rfl
 have hc := h1.cap
 have hm := h1.max
 have hc' := h2.cap
 have hm' := h2.max
 have fs : (s != s) = false := by simp
 have fe : (e != e) = false := by simp
 clear h h'
 generalize dig Go.Proofs.YtdhdebapjlcjdaaGreatDoor.W x = l at *
 go_enter Tryz.func13, Tryz.ntmps13
 go_wp2
 go_loopg [5] n (fun g v wr => ∃ i : Nat, i + g = n ∧ v = .int .i64 i ∧ Below w.heap.size w wr ∧ wr.cell? ⟨w.heap.size, 1, none⟩ = some (.slice A n c) ∧ wr.cell? ⟨w.heap.size + 1, 1, none⟩ = some (.slice B n d) ∧ Rd wr .u64 Go.Proofs.YtdhdebapjlcjdaaGreatDoor.W A n c l ∧ Rd wr .u64 Go.Proofs.YtdhdebapjlcjdaaGreatDoor.W B n d l)
 case atStart => exact ⟨0, by omega, rfl, BB, a11, a21, h1, h2⟩
 case round =>
  obtain ⟨i, hg, rfl, hb, b1, b2, k1, k2⟩ := hrel
  clear BB a10 a11 a12 a20 a21 a22 h1 h2
  have HG := Lib.hid hg
  clear hg
  by_cases hi : i < n
  ·obtain ⟨a, o, rfl, ha, hca⟩ := k1.at_ (by omega)
   obtain ⟨a', o', rfl, ha', hca'⟩ := k2.at_ (by omega)
   obtain ⟨y, hy⟩ : ∃ y, y = l.getD i 0 := ⟨_, rfl⟩
   have c1 : wr.cell? ⟨a, o + i, none⟩ = some (.int .u64 (y : Int)) := by rw [hy]; exact hca i hi
   have c2 : wr.cell? ⟨a', o' + i, none⟩ = some (.int .u64 (y : Int)) := by rw [hy]; exact hca' i hi
   have hp2 : (i : Int) < n := by omega
   have hp3 : (0 : Int) ≤ i := by omega
   have fy : ((y : Int) != (y : Int)) = false := by simp
   clear hy hca hca'
   go_wp2
   go_quiet (fail)
   go_wp2
   go_roundg (gk - 1)
   case measure => have := HG.out; omega
   case rel => exact ⟨i + 1, by have := HG.out; omega, by go_num, below_drewN hb _, b1, b2, k1.drewN _, k2.drewN _⟩
  ·have : i = n := by have := HG.out; omega
   subst this
   go_wp2
   go_ret
   exact ⟨rfl, hb⟩

theorem digits_le {w : World} {A : Option Addr} {n c x : Nat} (h : Dg w A n c x) (hx : x < Go.Proofs.YtdhdebapjlcjdaaGreatDoor.H ^ 600) : n ≤ 600 := dg_small h hx

theorem rcut_any {w : World} {A : Option Addr} {n c x p : Nat} {s up : Bool} {e : Int} (h : Dg w A n c x) (hx : x < Go.Proofs.YtdhdebapjlcjdaaGreatDoor.H ^ 600) (hb : blen x ≤ 9600) (hp : p ≤ 2000) (he : -10000000 ≤ e ∧ e ≤ 10000000) :
  Calls Tryz.prog 70 #[.agg #[.bool s, .slice A n c, .int .i64 e], .int .i64 (p : Int), .bool up] w (NumIs s (cutN p x (up != s)) (e + ((blen x - p : Nat) : Int)) w) := by
 have HH := h
 have hn := digits_le h hx
 have he1 := he.1
 have he2 := he.2
 have HX := Lib.hid hx
 clear he hx
 have BB := two_below w (.cells #[.bool s, .slice A n c, .int .i64 e] 58) (.cells #[.bool false, .slice none 0 0, .int .i64 0] 58)
 obtain ⟨a0, a1, a2⟩ := ((Dbx.new w s A n c e).alloc (.cells #[.bool false, .slice none 0 0, .int .i64 0] 58)).held
 have r : Dbx ((w.alloc (.cells #[.bool s, .slice A n c, .int .i64 e] 58)).alloc (.cells #[.bool false, .slice none 0 0, .int .i64 0] 58)) (w.heap.size + 1) false none 0 0 0 := by
  have := Dbx.new (w.alloc (.cells #[.bool s, .slice A n c, .int .i64 e] 58)) false none 0 0 0
  simpa using this
 replace h := mv BB rfl h
 rcases Nat.lt_or_ge p (blen x) with hlt | hge
 rotate_left
 ·have e0 : blen x - p = 0 := by omega
  have ec : cutN p x (up != s) = x := by unfold cutN; rw [e0, Nat.pow_zero, Nat.div_one, Nat.mod_one]; simp
  have ee : e + ((blen x - p : Nat) : Int) = e := by omega
  rw [ec, ee]
  have d1 : decide ((blen x : Int) - (p : Int) ≤ 0) = true := decide_eq_true (by omega)
  have d2 : decide (blen x ≤ p) = true := decide_eq_true hge
  clear ec ee e0
  go_enter Tryz.func70, Tryz.ntmps70
  go_wp2_with fail
  refine (rbits_any h (by omega)).mono ?_
  rintro en w' ⟨rfl, rfl⟩
  obtain ⟨f0, f1, f2⟩ := r.open
  obtain ⟨z0, z1, z2⟩ := r.held
  go_wp2
  have BB2 := two_below w (.cells #[.bool s, .slice A n c, .int .i64 e] 58) (.cells #[.bool s, .slice A n c, .int .i64 e] 58)
  exact bodyPost_ret (v := .agg #[.bool s, .slice A n c, .int .i64 e]) (by simp [results, Tryz.results70, go_sem]) rfl ⟨_, _, _, rfl, Dg.below (Dg.below HH (below_alloc _ _)) (below_alloc _ _), BB2⟩
 obtain ⟨j, hj⟩ : ∃ j, blen x - p = j := ⟨_, rfl⟩
 have hji : (blen x : Int) - (p : Int) = (j : Int) := by omega
 have hj1 : 1 ≤ j := by omega
 have hj2 : j ≤ 9600 := by omega
 have d1 : decide ((j : Int) ≤ 0) = false := decide_eq_false (by omega)
 have d2 : decide (j ≤ 0) = false := decide_eq_false (by omega)
 have d3 : decide (j = 0) = false := decide_eq_false (by omega)
 have hcut : cutN p x (up != s) = x / 2 ^ j + if (up != s) = true ∧ x % 2 ^ j ≠ 0 then 1 else 0 := by unfold cutN; rw [hj]
 rw [hj]
 generalize cutN p x (up != s) = y at *
 have HC := Lib.hid hcut
 clear hcut hj hlt
 go_enter Tryz.func70, Tryz.ntmps70
 go_wp2_with fail
 refine (rbits_any h (by omega)).mono ?_
 rintro en w' ⟨rfl, rfl⟩
 go_wp2_with fail
 refine (rshr_any (s := j) h (by omega) (by omega)).mono ?_
 rintro en w2 ⟨A2, n2, c2, rfl, h2, b⟩
 replace BB := bnx BB b
 have G := mv b rfl (J5 a0 a1 a2 h r)
 clear b a0 a1 a2 h r
 obtain ⟨a0, a1, a2, h, r⟩ := G
 have hxl := HX.out
 have h2l : x / 2 ^ j < Go.Proofs.YtdhdebapjlcjdaaGreatDoor.H ^ 600 := Nat.lt_of_le_of_lt (Nat.div_le_self _ _) hxl
 have n2l := digits_le h2 h2l
 clear hxl h2l
 have ne1 : ¬ w.heap.size + 1 = w.heap.size := by omega
 have ne2 : ¬ w.heap.size = w.heap.size + 1 := by omega
 rcases Decidable.em (x % 2 ^ j = 0) with hr | hr
 ·have HR := Lib.hid hr
  have heq : x / 2 ^ j * 2 ^ j = x := by have := Nat.div_add_mod x (2 ^ j); rw [Nat.mul_comm] at this; omega
  have HEQ := Lib.hid heq
  clear heq
  clear hr
  cases up <;> cases s
  ·have hy : y = x / 2 ^ j := by have h1 := HC.out; have h2 := HR.out; simpa [h2] using h1
   go_wp2_with fail
   refine rgn (fun w' => w'.cell? ⟨w.heap.size, 0, none⟩ = some (.bool false) ∧ w'.cell? ⟨w.heap.size, 1, none⟩ = some (.slice A n c) ∧ w'.cell? ⟨w.heap.size, 2, none⟩ = some (.int .i64 e)) fun hHeldzff0 => ?_
   refine tl 0 ?_
   refine tl 1 ?_
   refine tl 2 ?_
   refine tl 3 ?_
   refine tl 4 ?_
   refine wpAnyH_take (i := 5) (v := undef) rfl (by kernel_rfl) (by kernel_rfl) (by kernel_rfl) (fun _ _ _ h => panic_put (P := Tryz.prog) (fn := Tryz.f70) (R := (NumIs false y (e + ((j : Nat) : Int)) w)) h) (Or.inr ⟨by rfl, rfl⟩) (by assumption) ?_
   change wpAnyH _ _ _ _ _ _ _ (Act.put _ (some 26) _) _
   simp only [Act.put, List.setIfInBounds_toArray, List.set_cons_zero, List.set_cons_succ]
   refine wpAnyH_take (i := 6) (v := undef) rfl (by kernel_rfl) (by kernel_rfl) (by kernel_rfl) (fun _ _ _ h => panic_put (P := Tryz.prog) (fn := Tryz.f70) (R := (NumIs false y (e + ((j : Nat) : Int)) w)) h) (Or.inr ⟨by rfl, rfl⟩) (by assumption) ?_
   change wpAnyH _ _ _ _ _ _ _ (Act.put _ (some 27) _) _
   simp only [Act.put, List.setIfInBounds_toArray, List.set_cons_zero, List.set_cons_succ]
   refine wpAnyH_take (i := 8) (v := undef) rfl (by kernel_rfl) (by kernel_rfl) (by kernel_rfl) (fun _ _ _ h => panic_put (P := Tryz.prog) (fn := Tryz.f70) (R := (NumIs false y (e + ((j : Nat) : Int)) w)) h) (Or.inr ⟨by rfl, rfl⟩) (by assumption) ?_
   change wpAnyH _ _ _ _ _ _ _ (Act.put _ (some 29) _) _
   simp only [Act.put, List.setIfInBounds_toArray, List.set_cons_zero, List.set_cons_succ]
   refine wpAnyH_take (i := 9) (v := undef) rfl (by kernel_rfl) (by kernel_rfl) (by kernel_rfl) (fun _ _ _ h => panic_put (P := Tryz.prog) (fn := Tryz.f70) (R := (NumIs false y (e + ((j : Nat) : Int)) w)) h) (Or.inr ⟨by rfl, rfl⟩) (by assumption) ?_
   change wpAnyH _ _ _ _ _ _ _ (Act.put _ (some 30) _) _
   simp only [Act.put, List.setIfInBounds_toArray, List.set_cons_zero, List.set_cons_succ]
   refine rdy 7 fun K hK => ?_
   go_simp
   refine bk hK fun hHeldzff1 => ?_
   clear hK K hHeldzff0
   try simp only [Act.put]
   refine rdy 10 fun K hK => ?_
   go_simp
   refine bk hK fun hHeldzff2 => ?_
   clear hK K hHeldzff1
   try simp only [Act.put]
   refine wpAnyH_take (i := 11) (v := undef) rfl (by kernel_rfl) (by kernel_rfl) (by kernel_rfl) (fun _ _ _ h => panic_put (P := Tryz.prog) (fn := Tryz.f70) (R := (NumIs false y (e + ((j : Nat) : Int)) w)) h) (Or.inr ⟨by rfl, rfl⟩) (by assumption) ?_
   change wpAnyH _ _ _ _ _ _ _ (Act.put _ (some 32) _) _
   simp only [Act.put, List.setIfInBounds_toArray, List.set_cons_zero, List.set_cons_succ]
   refine tl 12 ?_
   refine wpAnyH_done (by kernel_rfl) ?_ _
   rw [← hy] at h2
   obtain ⟨f0, f1, f2⟩ := r.open
   obtain ⟨z0, z1, z2⟩ := r.held
   go_wp2
   have qq := r.put false A2 n2 c2 (e + (j : Int))
   have hN := h2.put3 r (.bool false) (.slice A2 n2 c2) (.int .i64 (e + (j : Int)))
   have HB3 := below_put3 (g := w.heap.size + 1) BB (by omega) (.bool false) (.slice A2 n2 c2) (.int .i64 (e + (j : Int)))
   obtain ⟨z0, z1, z2⟩ := qq.held
   exact bodyPost_ret (v := .agg #[.bool false, .slice A2 n2 c2, .int .i64 (e + (j : Int))]) (by simp [results, Tryz.results70, go_sem, z0, z1, z2]) rfl ⟨_, _, _, rfl, Dg.heap32 hN rfl, HB3.drew⟩
  ·have hy : y = x / 2 ^ j := by have h1 := HC.out; have h2 := HR.out; simpa [h2] using h1
   go_wp2_with fail
   refine rgn (fun w' => w'.cell? ⟨w.heap.size, 0, none⟩ = some (.bool true) ∧ w'.cell? ⟨w.heap.size, 1, none⟩ = some (.slice A n c) ∧ w'.cell? ⟨w.heap.size, 2, none⟩ = some (.int .i64 e)) fun hHeldzft0 => ?_
   refine tl 0 ?_
   refine tl 1 ?_
   refine tl 2 ?_
   refine tl 3 ?_
   refine tl 4 ?_
   refine tl 5 ?_
   refine tl 6 ?_
   refine tl 8 ?_
   refine tl 9 ?_
   refine rdy 7 fun K hK => ?_
   go_simp
   refine (rshl_any (s := j) (h2.heap32 (by rfl)) (by omega) (by omega)).mono ?_
   rintro en w' ⟨A3, n3, c3, rfl, h3, b⟩
   replace BB := below_next BB BB.size b (by rfl) (by rfl) (by rfl) (by rfl)
   have G := mv b (by rfl) <| And.intro a0 <| And.intro a1 <| And.intro a2 <| And.intro h <| And.intro r <| h2
   clear b a0 a1 a2 h r h2
   obtain ⟨a0, a1, a2, h, r, h2⟩ := G
   refine bk hK fun hHeldzft1 => ?_
   clear hK K hHeldzft0
   try simp only [Act.put]
   refine rdy 10 fun K hK => ?_
   go_simp
   refine (rcmp_any (h3.heap32 (by rfl)) (h.heap32 (by rfl))).mono ?_
   rintro en w' ⟨rfl, b⟩
   rw [cmpN_eq HEQ.out]
   clear h3
   replace BB := below_next BB BB.size b (by rfl) (by rfl) (by rfl) (by rfl)
   have G := mv b (by rfl) <| And.intro a0 <| And.intro a1 <| And.intro a2 <| And.intro h <| And.intro r <| h2
   clear b a0 a1 a2 h r h2
   obtain ⟨a0, a1, a2, h, r, h2⟩ := G
   refine bk hK fun hHeldzft2 => ?_
   clear hK K hHeldzft1
   try simp only [Act.put]
   refine tl 11 ?_
   refine tl 12 ?_
   refine wpAnyH_done (by kernel_rfl) ?_ _
   rw [← hy] at h2
   obtain ⟨f0, f1, f2⟩ := r.open
   obtain ⟨z0, z1, z2⟩ := r.held
   go_wp2
   have qq := r.put true A2 n2 c2 (e + (j : Int))
   have hN := h2.put3 r (.bool true) (.slice A2 n2 c2) (.int .i64 (e + (j : Int)))
   have HB3 := below_put3 (g := w.heap.size + 1) BB (by omega) (.bool true) (.slice A2 n2 c2) (.int .i64 (e + (j : Int)))
   obtain ⟨z0, z1, z2⟩ := qq.held
   exact bodyPost_ret (v := .agg #[.bool true, .slice A2 n2 c2, .int .i64 (e + (j : Int))]) (by simp [results, Tryz.results70, go_sem, z0, z1, z2]) rfl ⟨_, _, _, rfl, hN, HB3⟩
  ·have hy : y = x / 2 ^ j := by have h1 := HC.out; have h2 := HR.out; simpa [h2] using h1
   go_wp2_with fail
   refine rgn (fun w' => w'.cell? ⟨w.heap.size, 0, none⟩ = some (.bool false) ∧ w'.cell? ⟨w.heap.size, 1, none⟩ = some (.slice A n c) ∧ w'.cell? ⟨w.heap.size, 2, none⟩ = some (.int .i64 e)) fun hHeldztf0 => ?_
   refine tl 0 ?_
   refine tl 1 ?_
   refine tl 2 ?_
   refine tl 3 ?_
   refine tl 4 ?_
   refine tl 5 ?_
   refine tl 6 ?_
   refine tl 8 ?_
   refine tl 9 ?_
   refine rdy 7 fun K hK => ?_
   go_simp
   refine (rshl_any (s := j) (h2.heap32 (by rfl)) (by omega) (by omega)).mono ?_
   rintro en w' ⟨A3, n3, c3, rfl, h3, b⟩
   replace BB := below_next BB BB.size b (by rfl) (by rfl) (by rfl) (by rfl)
   have G := mv b (by rfl) <| And.intro a0 <| And.intro a1 <| And.intro a2 <| And.intro h <| And.intro r <| h2
   clear b a0 a1 a2 h r h2
   obtain ⟨a0, a1, a2, h, r, h2⟩ := G
   refine bk hK fun hHeldztf1 => ?_
   clear hK K hHeldztf0
   try simp only [Act.put]
   refine rdy 10 fun K hK => ?_
   go_simp
   refine (rcmp_any (h3.heap32 (by rfl)) (h.heap32 (by rfl))).mono ?_
   rintro en w' ⟨rfl, b⟩
   rw [cmpN_eq HEQ.out]
   clear h3
   replace BB := below_next BB BB.size b (by rfl) (by rfl) (by rfl) (by rfl)
   have G := mv b (by rfl) <| And.intro a0 <| And.intro a1 <| And.intro a2 <| And.intro h <| And.intro r <| h2
   clear b a0 a1 a2 h r h2
   obtain ⟨a0, a1, a2, h, r, h2⟩ := G
   refine bk hK fun hHeldztf2 => ?_
   clear hK K hHeldztf1
   try simp only [Act.put]
   refine tl 11 ?_
   refine tl 12 ?_
   refine wpAnyH_done (by kernel_rfl) ?_ _
   rw [← hy] at h2
   obtain ⟨f0, f1, f2⟩ := r.open
   obtain ⟨z0, z1, z2⟩ := r.held
   go_wp2
   have qq := r.put false A2 n2 c2 (e + (j : Int))
   have hN := h2.put3 r (.bool false) (.slice A2 n2 c2) (.int .i64 (e + (j : Int)))
   have HB3 := below_put3 (g := w.heap.size + 1) BB (by omega) (.bool false) (.slice A2 n2 c2) (.int .i64 (e + (j : Int)))
   obtain ⟨z0, z1, z2⟩ := qq.held
   exact bodyPost_ret (v := .agg #[.bool false, .slice A2 n2 c2, .int .i64 (e + (j : Int))]) (by simp [results, Tryz.results70, go_sem, z0, z1, z2]) rfl ⟨_, _, _, rfl, hN, HB3⟩
  ·have hy : y = x / 2 ^ j := by have h1 := HC.out; have h2 := HR.out; simpa [h2] using h1
   go_wp2_with fail
   refine rgn (fun w' => w'.cell? ⟨w.heap.size, 0, none⟩ = some (.bool true) ∧ w'.cell? ⟨w.heap.size, 1, none⟩ = some (.slice A n c) ∧ w'.cell? ⟨w.heap.size, 2, none⟩ = some (.int .i64 e)) fun hHeldztt0 => ?_
   refine tl 0 ?_
   refine tl 1 ?_
   refine tl 2 ?_
   refine tl 3 ?_
   refine tl 4 ?_
   refine wpAnyH_take (i := 5) (v := undef) rfl (by kernel_rfl) (by kernel_rfl) (by kernel_rfl) (fun _ _ _ h => panic_put (P := Tryz.prog) (fn := Tryz.f70) (R := (NumIs true y (e + ((j : Nat) : Int)) w)) h) (Or.inr ⟨by rfl, rfl⟩) (by assumption) ?_
   change wpAnyH _ _ _ _ _ _ _ (Act.put _ (some 26) _) _
   simp only [Act.put, List.setIfInBounds_toArray, List.set_cons_zero, List.set_cons_succ]
   refine wpAnyH_take (i := 6) (v := undef) rfl (by kernel_rfl) (by kernel_rfl) (by kernel_rfl) (fun _ _ _ h => panic_put (P := Tryz.prog) (fn := Tryz.f70) (R := (NumIs true y (e + ((j : Nat) : Int)) w)) h) (Or.inr ⟨by rfl, rfl⟩) (by assumption) ?_
   change wpAnyH _ _ _ _ _ _ _ (Act.put _ (some 27) _) _
   simp only [Act.put, List.setIfInBounds_toArray, List.set_cons_zero, List.set_cons_succ]
   refine wpAnyH_take (i := 8) (v := undef) rfl (by kernel_rfl) (by kernel_rfl) (by kernel_rfl) (fun _ _ _ h => panic_put (P := Tryz.prog) (fn := Tryz.f70) (R := (NumIs true y (e + ((j : Nat) : Int)) w)) h) (Or.inr ⟨by rfl, rfl⟩) (by assumption) ?_
   change wpAnyH _ _ _ _ _ _ _ (Act.put _ (some 29) _) _
   simp only [Act.put, List.setIfInBounds_toArray, List.set_cons_zero, List.set_cons_succ]
   refine wpAnyH_take (i := 9) (v := undef) rfl (by kernel_rfl) (by kernel_rfl) (by kernel_rfl) (fun _ _ _ h => panic_put (P := Tryz.prog) (fn := Tryz.f70) (R := (NumIs true y (e + ((j : Nat) : Int)) w)) h) (Or.inr ⟨by rfl, rfl⟩) (by assumption) ?_
   change wpAnyH _ _ _ _ _ _ _ (Act.put _ (some 30) _) _
   simp only [Act.put, List.setIfInBounds_toArray, List.set_cons_zero, List.set_cons_succ]
   refine rdy 7 fun K hK => ?_
   go_simp
   refine bk hK fun hHeldztt1 => ?_
   clear hK K hHeldztt0
   try simp only [Act.put]
   refine rdy 10 fun K hK => ?_
   go_simp
   refine bk hK fun hHeldztt2 => ?_
   clear hK K hHeldztt1
   try simp only [Act.put]
   refine wpAnyH_take (i := 11) (v := undef) rfl (by kernel_rfl) (by kernel_rfl) (by kernel_rfl) (fun _ _ _ h => panic_put (P := Tryz.prog) (fn := Tryz.f70) (R := (NumIs true y (e + ((j : Nat) : Int)) w)) h) (Or.inr ⟨by rfl, rfl⟩) (by assumption) ?_
   change wpAnyH _ _ _ _ _ _ _ (Act.put _ (some 32) _) _
   simp only [Act.put, List.setIfInBounds_toArray, List.set_cons_zero, List.set_cons_succ]
   refine tl 12 ?_
   refine wpAnyH_done (by kernel_rfl) ?_ _
   rw [← hy] at h2
   obtain ⟨f0, f1, f2⟩ := r.open
   obtain ⟨z0, z1, z2⟩ := r.held
   go_wp2
   have qq := r.put true A2 n2 c2 (e + (j : Int))
   have hN := h2.put3 r (.bool true) (.slice A2 n2 c2) (.int .i64 (e + (j : Int)))
   have HB3 := below_put3 (g := w.heap.size + 1) BB (by omega) (.bool true) (.slice A2 n2 c2) (.int .i64 (e + (j : Int)))
   obtain ⟨z0, z1, z2⟩ := qq.held
   exact bodyPost_ret (v := .agg #[.bool true, .slice A2 n2 c2, .int .i64 (e + (j : Int))]) (by simp [results, Tryz.results70, go_sem, z0, z1, z2]) rfl ⟨_, _, _, rfl, Dg.heap32 hN rfl, HB3.drew⟩
 ·have HR := Lib.hid hr
  have hlt : x / 2 ^ j * 2 ^ j < x := by have := Nat.div_add_mod x (2 ^ j); rw [Nat.mul_comm] at this; omega
  have HLT := Lib.hid hlt
  clear hlt
  clear hr
  cases up <;> cases s
  ·have hy : y = x / 2 ^ j := by have h1 := HC.out; have h2 := HR.out; simpa [h2] using h1
   go_wp2_with fail
   refine rgn (fun w' => w'.cell? ⟨w.heap.size, 0, none⟩ = some (.bool false) ∧ w'.cell? ⟨w.heap.size, 1, none⟩ = some (.slice A n c) ∧ w'.cell? ⟨w.heap.size, 2, none⟩ = some (.int .i64 e)) fun hHeldnff0 => ?_
   refine tl 0 ?_
   refine tl 1 ?_
   refine tl 2 ?_
   refine tl 3 ?_
   refine tl 4 ?_
   refine wpAnyH_take (i := 5) (v := undef) rfl (by kernel_rfl) (by kernel_rfl) (by kernel_rfl) (fun _ _ _ h => panic_put (P := Tryz.prog) (fn := Tryz.f70) (R := (NumIs false y (e + ((j : Nat) : Int)) w)) h) (Or.inr ⟨by rfl, rfl⟩) (by assumption) ?_
   change wpAnyH _ _ _ _ _ _ _ (Act.put _ (some 26) _) _
   simp only [Act.put, List.setIfInBounds_toArray, List.set_cons_zero, List.set_cons_succ]
   refine wpAnyH_take (i := 6) (v := undef) rfl (by kernel_rfl) (by kernel_rfl) (by kernel_rfl) (fun _ _ _ h => panic_put (P := Tryz.prog) (fn := Tryz.f70) (R := (NumIs false y (e + ((j : Nat) : Int)) w)) h) (Or.inr ⟨by rfl, rfl⟩) (by assumption) ?_
   change wpAnyH _ _ _ _ _ _ _ (Act.put _ (some 27) _) _
   simp only [Act.put, List.setIfInBounds_toArray, List.set_cons_zero, List.set_cons_succ]
   refine wpAnyH_take (i := 8) (v := undef) rfl (by kernel_rfl) (by kernel_rfl) (by kernel_rfl) (fun _ _ _ h => panic_put (P := Tryz.prog) (fn := Tryz.f70) (R := (NumIs false y (e + ((j : Nat) : Int)) w)) h) (Or.inr ⟨by rfl, rfl⟩) (by assumption) ?_
   change wpAnyH _ _ _ _ _ _ _ (Act.put _ (some 29) _) _
   simp only [Act.put, List.setIfInBounds_toArray, List.set_cons_zero, List.set_cons_succ]
   refine wpAnyH_take (i := 9) (v := undef) rfl (by kernel_rfl) (by kernel_rfl) (by kernel_rfl) (fun _ _ _ h => panic_put (P := Tryz.prog) (fn := Tryz.f70) (R := (NumIs false y (e + ((j : Nat) : Int)) w)) h) (Or.inr ⟨by rfl, rfl⟩) (by assumption) ?_
   change wpAnyH _ _ _ _ _ _ _ (Act.put _ (some 30) _) _
   simp only [Act.put, List.setIfInBounds_toArray, List.set_cons_zero, List.set_cons_succ]
   refine rdy 7 fun K hK => ?_
   go_simp
   refine bk hK fun hHeldnff1 => ?_
   clear hK K hHeldnff0
   try simp only [Act.put]
   refine rdy 10 fun K hK => ?_
   go_simp
   refine bk hK fun hHeldnff2 => ?_
   clear hK K hHeldnff1
   try simp only [Act.put]
   refine wpAnyH_take (i := 11) (v := undef) rfl (by kernel_rfl) (by kernel_rfl) (by kernel_rfl) (fun _ _ _ h => panic_put (P := Tryz.prog) (fn := Tryz.f70) (R := (NumIs false y (e + ((j : Nat) : Int)) w)) h) (Or.inr ⟨by rfl, rfl⟩) (by assumption) ?_
   change wpAnyH _ _ _ _ _ _ _ (Act.put _ (some 32) _) _
   simp only [Act.put, List.setIfInBounds_toArray, List.set_cons_zero, List.set_cons_succ]
   refine tl 12 ?_
   refine wpAnyH_done (by kernel_rfl) ?_ _
   rw [← hy] at h2
   obtain ⟨f0, f1, f2⟩ := r.open
   obtain ⟨z0, z1, z2⟩ := r.held
   go_wp2
   have qq := r.put false A2 n2 c2 (e + (j : Int))
   have hN := h2.put3 r (.bool false) (.slice A2 n2 c2) (.int .i64 (e + (j : Int)))
   have HB3 := below_put3 (g := w.heap.size + 1) BB (by omega) (.bool false) (.slice A2 n2 c2) (.int .i64 (e + (j : Int)))
   obtain ⟨z0, z1, z2⟩ := qq.held
   exact bodyPost_ret (v := .agg #[.bool false, .slice A2 n2 c2, .int .i64 (e + (j : Int))]) (by simp [results, Tryz.results70, go_sem, z0, z1, z2]) rfl ⟨_, _, _, rfl, Dg.heap32 hN rfl, HB3.drew⟩
  ·have hy : y = x / 2 ^ j + 1 := by have h1 := HC.out; have h2 := HR.out; simpa [h2] using h1
   go_wp2_with fail
   refine rgn (fun w' => w'.cell? ⟨w.heap.size, 0, none⟩ = some (.bool true) ∧ w'.cell? ⟨w.heap.size, 1, none⟩ = some (.slice A n c) ∧ w'.cell? ⟨w.heap.size, 2, none⟩ = some (.int .i64 e)) fun hHeldnft0 => ?_
   refine tl 0 ?_
   refine tl 1 ?_
   refine tl 2 ?_
   refine tl 3 ?_
   refine tl 4 ?_
   refine tl 5 ?_
   refine tl 6 ?_
   refine tl 8 ?_
   refine tl 9 ?_
   refine rdy 7 fun K hK => ?_
   go_simp
   refine (rshl_any (s := j) (h2.heap32 (by rfl)) (by omega) (by omega)).mono ?_
   rintro en w' ⟨A3, n3, c3, rfl, h3, b⟩
   replace BB := below_next BB BB.size b (by rfl) (by rfl) (by rfl) (by rfl)
   have G := mv b (by rfl) <| And.intro a0 <| And.intro a1 <| And.intro a2 <| And.intro h <| And.intro r <| h2
   clear b a0 a1 a2 h r h2
   obtain ⟨a0, a1, a2, h, r, h2⟩ := G
   refine bk hK fun hHeldnft1 => ?_
   clear hK K hHeldnft0
   try simp only [Act.put]
   refine rdy 10 fun K hK => ?_
   go_simp
   refine (rcmp_any (h3.heap32 (by rfl)) (h.heap32 (by rfl))).mono ?_
   rintro en w' ⟨rfl, b⟩
   rw [cmpN_lt HLT.out]
   clear h3
   replace BB := below_next BB BB.size b (by rfl) (by rfl) (by rfl) (by rfl)
   have G := mv b (by rfl) <| And.intro a0 <| And.intro a1 <| And.intro a2 <| And.intro h <| And.intro r <| h2
   clear b a0 a1 a2 h r h2
   obtain ⟨a0, a1, a2, h, r, h2⟩ := G
   refine bk hK fun hHeldnft2 => ?_
   clear hK K hHeldnft1
   try simp only [Act.put]
   refine tl 11 ?_
   refine tl 12 ?_
   refine wpAnyH_done (by kernel_rfl) ?_ _
   go_wp2_with fail
   have hone := dg_one w'
   have b := below_alloc w' (.cells #[.int .u32 1] 59)
   replace BB := bnx BB b
   have G := mv b rfl (J6 a0 a1 a2 h r h2)
   clear b a0 a1 a2 h r h2
   obtain ⟨a0, a1, a2, h, r, h2⟩ := G
   refine (radd_any h2 hone (by omega) (by omega)).mono ?_
   rintro en w4 ⟨A4, n4, c4, rfl, h4, b⟩
   clear hone h2
   replace BB := bnx BB b
   have G := mv b rfl (J5 a0 a1 a2 h r)
   clear b a0 a1 a2 h r
   obtain ⟨a0, a1, a2, h, r⟩ := G
   rw [← hy] at h4
   obtain ⟨f0, f1, f2⟩ := r.open
   obtain ⟨z0, z1, z2⟩ := r.held
   go_wp2
   have qq := r.put true A4 n4 c4 (e + (j : Int))
   have hN := h4.put3 r (.bool true) (.slice A4 n4 c4) (.int .i64 (e + (j : Int)))
   have HB3 := below_put3 (g := w.heap.size + 1) BB (by omega) (.bool true) (.slice A4 n4 c4) (.int .i64 (e + (j : Int)))
   obtain ⟨z0, z1, z2⟩ := qq.held
   exact bodyPost_ret (v := .agg #[.bool true, .slice A4 n4 c4, .int .i64 (e + (j : Int))]) (by simp [results, Tryz.results70, go_sem, z0, z1, z2]) rfl ⟨_, _, _, rfl, hN, HB3⟩
  ·have hy : y = x / 2 ^ j + 1 := by have h1 := HC.out; have h2 := HR.out; simpa [h2] using h1
   go_wp2_with fail
   refine rgn (fun w' => w'.cell? ⟨w.heap.size, 0, none⟩ = some (.bool false) ∧ w'.cell? ⟨w.heap.size, 1, none⟩ = some (.slice A n c) ∧ w'.cell? ⟨w.heap.size, 2, none⟩ = some (.int .i64 e)) fun hHeldntf0 => ?_
   refine tl 0 ?_
   refine tl 1 ?_
   refine tl 2 ?_
   refine tl 3 ?_
   refine tl 4 ?_
   refine tl 5 ?_
   refine tl 6 ?_
   refine tl 8 ?_
   refine tl 9 ?_
   refine rdy 7 fun K hK => ?_
   go_simp
   refine (rshl_any (s := j) (h2.heap32 (by rfl)) (by omega) (by omega)).mono ?_
   rintro en w' ⟨A3, n3, c3, rfl, h3, b⟩
   replace BB := below_next BB BB.size b (by rfl) (by rfl) (by rfl) (by rfl)
   have G := mv b (by rfl) <| And.intro a0 <| And.intro a1 <| And.intro a2 <| And.intro h <| And.intro r <| h2
   clear b a0 a1 a2 h r h2
   obtain ⟨a0, a1, a2, h, r, h2⟩ := G
   refine bk hK fun hHeldntf1 => ?_
   clear hK K hHeldntf0
   try simp only [Act.put]
   refine rdy 10 fun K hK => ?_
   go_simp
   refine (rcmp_any (h3.heap32 (by rfl)) (h.heap32 (by rfl))).mono ?_
   rintro en w' ⟨rfl, b⟩
   rw [cmpN_lt HLT.out]
   clear h3
   replace BB := below_next BB BB.size b (by rfl) (by rfl) (by rfl) (by rfl)
   have G := mv b (by rfl) <| And.intro a0 <| And.intro a1 <| And.intro a2 <| And.intro h <| And.intro r <| h2
   clear b a0 a1 a2 h r h2
   obtain ⟨a0, a1, a2, h, r, h2⟩ := G
   refine bk hK fun hHeldntf2 => ?_
   clear hK K hHeldntf1
   try simp only [Act.put]
   refine tl 11 ?_
   refine tl 12 ?_
   refine wpAnyH_done (by kernel_rfl) ?_ _
   go_wp2_with fail
   have hone := dg_one w'
   have b := below_alloc w' (.cells #[.int .u32 1] 59)
   replace BB := bnx BB b
   have G := mv b rfl (J6 a0 a1 a2 h r h2)
   clear b a0 a1 a2 h r h2
   obtain ⟨a0, a1, a2, h, r, h2⟩ := G
   refine (radd_any h2 hone (by omega) (by omega)).mono ?_
   rintro en w4 ⟨A4, n4, c4, rfl, h4, b⟩
   clear hone h2
   replace BB := bnx BB b
   have G := mv b rfl (J5 a0 a1 a2 h r)
   clear b a0 a1 a2 h r
   obtain ⟨a0, a1, a2, h, r⟩ := G
   rw [← hy] at h4
   obtain ⟨f0, f1, f2⟩ := r.open
   obtain ⟨z0, z1, z2⟩ := r.held
   go_wp2
   have qq := r.put false A4 n4 c4 (e + (j : Int))
   have hN := h4.put3 r (.bool false) (.slice A4 n4 c4) (.int .i64 (e + (j : Int)))
   have HB3 := below_put3 (g := w.heap.size + 1) BB (by omega) (.bool false) (.slice A4 n4 c4) (.int .i64 (e + (j : Int)))
   obtain ⟨z0, z1, z2⟩ := qq.held
   exact bodyPost_ret (v := .agg #[.bool false, .slice A4 n4 c4, .int .i64 (e + (j : Int))]) (by simp [results, Tryz.results70, go_sem, z0, z1, z2]) rfl ⟨_, _, _, rfl, hN, HB3⟩
  ·have hy : y = x / 2 ^ j := by have h1 := HC.out; have h2 := HR.out; simpa [h2] using h1
   go_wp2_with fail
   refine rgn (fun w' => w'.cell? ⟨w.heap.size, 0, none⟩ = some (.bool true) ∧ w'.cell? ⟨w.heap.size, 1, none⟩ = some (.slice A n c) ∧ w'.cell? ⟨w.heap.size, 2, none⟩ = some (.int .i64 e)) fun hHeldntt0 => ?_
   refine tl 0 ?_
   refine tl 1 ?_
   refine tl 2 ?_
   refine tl 3 ?_
   refine tl 4 ?_
   refine wpAnyH_take (i := 5) (v := undef) rfl (by kernel_rfl) (by kernel_rfl) (by kernel_rfl) (fun _ _ _ h => panic_put (P := Tryz.prog) (fn := Tryz.f70) (R := (NumIs true y (e + ((j : Nat) : Int)) w)) h) (Or.inr ⟨by rfl, rfl⟩) (by assumption) ?_
   change wpAnyH _ _ _ _ _ _ _ (Act.put _ (some 26) _) _
   simp only [Act.put, List.setIfInBounds_toArray, List.set_cons_zero, List.set_cons_succ]
   refine wpAnyH_take (i := 6) (v := undef) rfl (by kernel_rfl) (by kernel_rfl) (by kernel_rfl) (fun _ _ _ h => panic_put (P := Tryz.prog) (fn := Tryz.f70) (R := (NumIs true y (e + ((j : Nat) : Int)) w)) h) (Or.inr ⟨by rfl, rfl⟩) (by assumption) ?_
   change wpAnyH _ _ _ _ _ _ _ (Act.put _ (some 27) _) _
   simp only [Act.put, List.setIfInBounds_toArray, List.set_cons_zero, List.set_cons_succ]
   refine wpAnyH_take (i := 8) (v := undef) rfl (by kernel_rfl) (by kernel_rfl) (by kernel_rfl) (fun _ _ _ h => panic_put (P := Tryz.prog) (fn := Tryz.f70) (R := (NumIs true y (e + ((j : Nat) : Int)) w)) h) (Or.inr ⟨by rfl, rfl⟩) (by assumption) ?_
   change wpAnyH _ _ _ _ _ _ _ (Act.put _ (some 29) _) _
   simp only [Act.put, List.setIfInBounds_toArray, List.set_cons_zero, List.set_cons_succ]
   refine wpAnyH_take (i := 9) (v := undef) rfl (by kernel_rfl) (by kernel_rfl) (by kernel_rfl) (fun _ _ _ h => panic_put (P := Tryz.prog) (fn := Tryz.f70) (R := (NumIs true y (e + ((j : Nat) : Int)) w)) h) (Or.inr ⟨by rfl, rfl⟩) (by assumption) ?_
   change wpAnyH _ _ _ _ _ _ _ (Act.put _ (some 30) _) _
   simp only [Act.put, List.setIfInBounds_toArray, List.set_cons_zero, List.set_cons_succ]
   refine rdy 7 fun K hK => ?_
   go_simp
   refine bk hK fun hHeldntt1 => ?_
   clear hK K hHeldntt0
   try simp only [Act.put]
   refine rdy 10 fun K hK => ?_
   go_simp
   refine bk hK fun hHeldntt2 => ?_
   clear hK K hHeldntt1
   try simp only [Act.put]
   refine wpAnyH_take (i := 11) (v := undef) rfl (by kernel_rfl) (by kernel_rfl) (by kernel_rfl) (fun _ _ _ h => panic_put (P := Tryz.prog) (fn := Tryz.f70) (R := (NumIs true y (e + ((j : Nat) : Int)) w)) h) (Or.inr ⟨by rfl, rfl⟩) (by assumption) ?_
   change wpAnyH _ _ _ _ _ _ _ (Act.put _ (some 32) _) _
   simp only [Act.put, List.setIfInBounds_toArray, List.set_cons_zero, List.set_cons_succ]
   refine tl 12 ?_
   refine wpAnyH_done (by kernel_rfl) ?_ _
   rw [← hy] at h2
   obtain ⟨f0, f1, f2⟩ := r.open
   obtain ⟨z0, z1, z2⟩ := r.held
   go_wp2
   have qq := r.put true A2 n2 c2 (e + (j : Int))
   have hN := h2.put3 r (.bool true) (.slice A2 n2 c2) (.int .i64 (e + (j : Int)))
   have HB3 := below_put3 (g := w.heap.size + 1) BB (by omega) (.bool true) (.slice A2 n2 c2) (.int .i64 (e + (j : Int)))
   obtain ⟨z0, z1, z2⟩ := qq.held
   exact bodyPost_ret (v := .agg #[.bool true, .slice A2 n2 c2, .int .i64 (e + (j : Int))]) (by simp [results, Tryz.results70, go_sem, z0, z1, z2]) rfl ⟨_, _, _, rfl, Dg.heap32 hN rfl, HB3.drew⟩

end Go.Proofs.YtdhdebapjlcjdaaGreatDoor
