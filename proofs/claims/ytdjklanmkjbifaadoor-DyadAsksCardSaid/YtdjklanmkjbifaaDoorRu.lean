/-
  Contracts of the reference's SameDyad (of two that are the same), Of, Cut and Round, and of layer 3's same, at this translation. Condition: the slices read as limbs, or as digits of sixteen bits.
-/
import Derived.Test.YtdjklanmkjbifaaDoorRe
import Derived.Test.YtdjklanmkjbifaaDoorRf
import Derived.Test.YtdjklanmkjbifaaDoorRRoot
namespace Go.Proofs.YtdjklanmkjbifaaDoor
open Go.RowKit

/-- a reference's number -/
def NumIs (s : Bool) (x : Nat) (e : Int) (w : World) (en : Ending) (w' : World) : Prop := ∃ A n c, en = .returned (.agg #[.bool s, .slice A n c, .int .i64 e]) ∧ Dg w' A n c x ∧ Below w.heap.size w w'

set_option maxRecDepth 100000 in
set_option maxHeartbeats 8000000 in
theorem rsame_self {w : World} {A B : Option Addr} {n c m d x : Nat} {s : Bool} {e : Int} (h : Nt w A n c x) (h' : Nt w B m d x) :
    Calls Tryd.prog 21 #[.agg #[.bool s, .slice A n c, .int .i64 e], .agg #[.bool s, .slice B m d, .int .i64 e]] w fun en w' => en = .returned (.bool true) ∧ Below w.heap.size w w' := by
  obtain rfl : n = m := h.rd.len.symm.trans h'.rd.len
  have BB := two_below w (.cells #[.bool s, .slice A n c, .int .i64 e] 24) (.cells #[.bool s, .slice B n d, .int .i64 e] 24)
  obtain ⟨a10, a11, a12, a20, a21, a22⟩ := (two_new w s s A B n c n d e e).held
  have h1 := h.rd.next BB rfl
  have h2 := h'.rd.next BB rfl
  have hc := h1.cap
  have hm := h1.max
  have hc' := h2.cap
  have hm' := h2.max
  have fs : (s != s) = false := by simp
  have fe : (e != e) = false := by simp
  clear h h'
  generalize dig Go.Proofs.YtdjklanmkjbifaaDoor.W x = l at *
  go_enter Tryd.func21, Tryd.ntmps21
  go_wp2
  go_loopg [5] n (fun g v wr => ∃ i : Nat, i + g = n ∧ v = .int .i64 i ∧ Below w.heap.size w wr ∧ wr.cell? ⟨w.heap.size, 1, none⟩ = some (.slice A n c) ∧ wr.cell? ⟨w.heap.size + 1, 1, none⟩ = some (.slice B n d) ∧ Rd wr .u64 Go.Proofs.YtdjklanmkjbifaaDoor.W A n c l ∧ Rd wr .u64 Go.Proofs.YtdjklanmkjbifaaDoor.W B n d l)
  case atStart => exact ⟨0, by omega, rfl, BB, a11, a21, h1, h2⟩
  case round =>
    obtain ⟨i, hg, rfl, hb, b1, b2, k1, k2⟩ := hrel
    clear BB a10 a11 a12 a20 a21 a22 h1 h2
    have HG := Lib.hid hg
    clear hg
    by_cases hi : i < n
    · obtain ⟨a, o, rfl, ha, hca⟩ := k1.at_ (by omega)
      obtain ⟨a', o', rfl, ha', hca'⟩ := k2.at_ (by omega)
      obtain ⟨y, hy⟩ : ∃ y, y = l.getD i 0 := ⟨_, rfl⟩
      have c1 : wr.cell? ⟨a, o + i, none⟩ = some (.int .u64 (y : Int)) := by rw [hy]; exact hca i hi
      have c2 : wr.cell? ⟨a', o' + i, none⟩ = some (.int .u64 (y : Int)) := by rw [hy]; exact hca' i hi
      have hp2 : (i : Int) < n := by omega
      have hp3 : (0 : Int) ≤ i := by omega
      have fy : ((y : Int) != (y : Int)) = false := by simp
      clear hy hca hca'
      go_wp2
      go_quiet (fail)
      go_wp2
      go_roundg (gk - 1)
      case measure => have := HG.out; omega
      case rel => exact ⟨i + 1, by have := HG.out; omega, by go_num, below_drewN hb _, b1, b2, k1.drewN _, k2.drewN _⟩
    · have : i = n := by have := HG.out; omega
      subst this
      go_wp2
      go_ret
      exact ⟨rfl, hb⟩

set_option maxRecDepth 100000 in
set_option maxHeartbeats 8000000 in
theorem rof_any {w : World} {A : Option Addr} {n c x : Nat} {s : Bool} {e : Int} (h : Nt w A n c x) :
    Calls Tryd.prog 36 #[.agg #[.bool s, .slice A n c, .int .i64 e]] w (NumIs s x e w) := by
  have hn := h.le
  have BB := two_below w (.cells #[.bool s, .slice A n c, .int .i64 e] 24) (.cells #[.bool false, .slice none 0 0, .int .i64 0] 46)
  obtain ⟨a0, a1, a2⟩ := ((Box.new w s A n c e).alloc (.cells #[.bool false, .slice none 0 0, .int .i64 0] 46)).held
  have r := dbx_one w (.cells #[.bool s, .slice A n c, .int .i64 e] 24) false none 0 0 0
  replace h := h.next BB rfl
  go_enter Tryd.func36, Tryd.ntmps36
  go_wp2_with fail
  have ne1 : ¬ w.heap.size + 1 = w.heap.size := by omega
  have ne2 : ¬ w.heap.size = w.heap.size + 1 := by omega
  refine wp_region_held_drew (S := fun w' => w'.cell? ⟨w.heap.size, 0, none⟩ = some (.bool s) ∧ w'.cell? ⟨w.heap.size, 1, none⟩ = some (.slice A n c) ∧ w'.cell? ⟨w.heap.size, 2, none⟩ = some (.int .i64 e)) (by kernel_rfl) (by first | (dsimp only; go_keep) | go_keep) (fun hHeld0 => ?_)
  refine wpAnyH_take (i := 0) (v := ?v0) rfl (by kernel_rfl) (by kernel_rfl) (by kernel_rfl) (fun _ _ _ h => panic_put (P := Tryd.prog) (fn := Tryd.f36) (R := (NumIs s x e w)) h) (Or.inl ⟨by rfl, ?y0⟩) (by assumption) ?_
  case y0 => (intro w hSw; (try dsimp only at hSw); go_simp); try with_reducible rfl
  change wpAnyH _ _ _ _ _ _ _ (Act.put _ (some 3) _) _
  simp only [Act.put, List.setIfInBounds_toArray, List.set_cons_zero, List.set_cons_succ]
  refine wpAnyH_take (i := 1) (v := ?v1) rfl (by kernel_rfl) (by kernel_rfl) (by kernel_rfl) (fun _ _ _ h => panic_put (P := Tryd.prog) (fn := Tryd.f36) (R := (NumIs s x e w)) h) (Or.inl ⟨by rfl, ?y1⟩) (by assumption) ?_
  case y1 => (intro w hSw; (try dsimp only at hSw); go_simp); try with_reducible rfl
  change wpAnyH _ _ _ _ _ _ _ (Act.put _ (some 4) _) _
  simp only [Act.put, List.setIfInBounds_toArray, List.set_cons_zero, List.set_cons_succ]
  refine wpAnyH_take (i := 2) (v := ?v2) rfl (by kernel_rfl) (by kernel_rfl) (by kernel_rfl) (fun _ _ _ h => panic_put (P := Tryd.prog) (fn := Tryd.f36) (R := (NumIs s x e w)) h) (Or.inl ⟨by rfl, ?y2⟩) (by assumption) ?_
  case y2 => (intro w hSw; (try dsimp only at hSw); go_simp); try with_reducible rfl
  change wpAnyH _ _ _ _ _ _ _ (Act.put _ (some 5) _) _
  simp only [Act.put, List.setIfInBounds_toArray, List.set_cons_zero, List.set_cons_succ]
  refine wpAnyH_take (i := 3) (v := ?v3) rfl (by kernel_rfl) (by kernel_rfl) (by kernel_rfl) (fun _ _ _ h => panic_put (P := Tryd.prog) (fn := Tryd.f36) (R := (NumIs s x e w)) h) (Or.inl ⟨by rfl, ?y3⟩) (by assumption) ?_
  case y3 => (intro w hSw; (try dsimp only at hSw); go_simp); try with_reducible rfl
  change wpAnyH _ _ _ _ _ _ _ (Act.put _ (some 6) _) _
  simp only [Act.put, List.setIfInBounds_toArray, List.set_cons_zero, List.set_cons_succ]
  refine wpAnyH_take (i := 5) (v := ?v5) rfl (by kernel_rfl) (by kernel_rfl) (by kernel_rfl) (fun _ _ _ h => panic_put (P := Tryd.prog) (fn := Tryd.f36) (R := (NumIs s x e w)) h) (Or.inl ⟨by rfl, ?y5⟩) (by assumption) ?_
  case y5 => (intro w hSw; (try dsimp only at hSw); go_simp); try with_reducible rfl
  change wpAnyH _ _ _ _ _ _ _ (Act.put _ (some 8) _) _
  simp only [Act.put, List.setIfInBounds_toArray, List.set_cons_zero, List.set_cons_succ]
  refine wpAnyH_take (i := 6) (v := ?v6) rfl (by kernel_rfl) (by kernel_rfl) (by kernel_rfl) (fun _ _ _ h => panic_put (P := Tryd.prog) (fn := Tryd.f36) (R := (NumIs s x e w)) h) (Or.inl ⟨by rfl, ?y6⟩) (by assumption) ?_
  case y6 => (intro w hSw; (try dsimp only at hSw); go_simp); try with_reducible rfl
  change wpAnyH _ _ _ _ _ _ _ (Act.put _ (some 9) _) _
  simp only [Act.put, List.setIfInBounds_toArray, List.set_cons_zero, List.set_cons_succ]
  refine wpAnyH_ready (rs := [4]) (by kernel_rfl) (by simp) ?_
  refine AllReadyH.cons (o := _) rfl (fun K hK => ?_) AllReadyH.nil
  go_simp
  refine (rfrom_any (h.rd.next' (by rfl)) (by omega)).mono ?_
  rintro en w' ⟨A4, n4, c4, rfl, h4, b⟩
  rw [val_dig W_two] at h4
  replace BB := below_next BB BB.size b (by rfl) (by rfl) (by rfl) (by rfl)
  have G := mv b (by rfl) <| And.intro a0 <| And.intro a1 <| And.intro a2 r
  clear b a0 a1 a2 h r
  obtain ⟨a0, a1, a2, r⟩ := G
  obtain ⟨f0, f1, f2⟩ := r.open
  obtain ⟨z0, z1, z2⟩ := r.held
  refine hK.out _ _ (by first | (dsimp only; go_keep) | go_keep) (fun hHeld1 => ?_)
  clear hK K hHeld0
  try simp only [Act.put]
  refine wpAnyH_take (i := 7) (v := ?v7) rfl (by kernel_rfl) (by kernel_rfl) (by kernel_rfl) (fun _ _ _ h => panic_put (P := Tryd.prog) (fn := Tryd.f36) (R := (NumIs s x e w)) h) (Or.inl ⟨by rfl, ?y7⟩) (by assumption) ?_
  case y7 => (intro w hSw; (try dsimp only at hSw); go_simp); try with_reducible rfl
  change wpAnyH _ _ _ _ _ _ _ (Act.put _ (some 10) _) _
  simp only [Act.put, List.setIfInBounds_toArray, List.set_cons_zero, List.set_cons_succ]
  refine wpAnyH_ready (rs := [8]) (by kernel_rfl) (by simp) ?_
  refine AllReadyH.cons (o := _) rfl (fun K hK => ?_) AllReadyH.nil
  go_simp
  refine hK.out _ _ (by first | (dsimp only; go_keep) | go_keep) (fun hHeld2 => ?_)
  clear hK K hHeld1
  try simp only [Act.put]
  refine wpAnyH_done (by kernel_rfl) ?_ _
  go_wp2
  have qq := r.put s A4 n4 c4 e
  have hN := h4.put3 r (.bool s) (.slice A4 n4 c4) (.int .i64 e)
  have HB3 := below_put3 (g := w.heap.size + 1) BB (by omega) (.bool s) (.slice A4 n4 c4) (.int .i64 e)
  obtain ⟨z0, z1, z2⟩ := qq.held
  exact bodyPost_ret (v := .agg #[.bool s, .slice A4 n4 c4, .int .i64 e]) (by simp [results, Tryd.results36, go_sem, z0, z1, z2]) rfl ⟨_, _, _, rfl, hN, HB3⟩

theorem digits_le {w : World} {A : Option Addr} {n c x : Nat} (h : Dg w A n c x) (hx : x < Go.Proofs.YtdjklanmkjbifaaDoor.H ^ 600) : n ≤ 600 := dg_small h hx

set_option maxRecDepth 100000 in
set_option maxHeartbeats 8000000 in
theorem rcut_any {w : World} {A : Option Addr} {n c x p : Nat} {s up : Bool} {e : Int} (h : Dg w A n c x) (hx : x < Go.Proofs.YtdjklanmkjbifaaDoor.H ^ 600) (hb : blen x ≤ 9600) (hp : p ≤ 2000) (he : -10000000 ≤ e ∧ e ≤ 10000000) :
    Calls Tryd.prog 69 #[.agg #[.bool s, .slice A n c, .int .i64 e], .int .i64 (p : Int), .bool up] w (NumIs s (cutN p x (up != s)) (e + ((blen x - p : Nat) : Int)) w) := by
  have HH := h
  have hn := digits_le h hx
  have he1 := he.1
  have he2 := he.2
  have HX := Lib.hid hx
  clear he hx
  have BB := two_below w (.cells #[.bool s, .slice A n c, .int .i64 e] 46) (.cells #[.bool false, .slice none 0 0, .int .i64 0] 46)
  obtain ⟨a0, a1, a2⟩ := ((Dbx.new w s A n c e).alloc (.cells #[.bool false, .slice none 0 0, .int .i64 0] 46)).held
  have r : Dbx ((w.alloc (.cells #[.bool s, .slice A n c, .int .i64 e] 46)).alloc (.cells #[.bool false, .slice none 0 0, .int .i64 0] 46)) (w.heap.size + 1) false none 0 0 0 := by
    have := Dbx.new (w.alloc (.cells #[.bool s, .slice A n c, .int .i64 e] 46)) false none 0 0 0
    simpa using this
  replace h := mv BB rfl h
  rcases Nat.lt_or_ge p (blen x) with hlt | hge
  rotate_left
  · have e0 : blen x - p = 0 := by omega
    have ec : cutN p x (up != s) = x := by unfold cutN; rw [e0, Nat.pow_zero, Nat.div_one, Nat.mod_one]; simp
    have ee : e + ((blen x - p : Nat) : Int) = e := by omega
    rw [ec, ee]
    have d1 : decide ((blen x : Int) - (p : Int) ≤ 0) = true := decide_eq_true (by omega)
    have d2 : decide (blen x ≤ p) = true := decide_eq_true hge
    clear ec ee e0
    go_enter Tryd.func69, Tryd.ntmps69
    go_wp2_with fail
    refine (rbits_any h (by omega)).mono ?_
    rintro en w' ⟨rfl, rfl⟩
    obtain ⟨f0, f1, f2⟩ := r.open
    obtain ⟨z0, z1, z2⟩ := r.held
    go_wp2
    have BB2 := two_below w (.cells #[.bool s, .slice A n c, .int .i64 e] 46) (.cells #[.bool s, .slice A n c, .int .i64 e] 46)
    exact bodyPost_ret (v := .agg #[.bool s, .slice A n c, .int .i64 e]) (by simp [results, Tryd.results69, go_sem]) rfl ⟨_, _, _, rfl, Dg.below (Dg.below HH (below_alloc _ _)) (below_alloc _ _), BB2⟩
  obtain ⟨j, hj⟩ : ∃ j, blen x - p = j := ⟨_, rfl⟩
  have hji : (blen x : Int) - (p : Int) = (j : Int) := by omega
  have hj1 : 1 ≤ j := by omega
  have hj2 : j ≤ 9600 := by omega
  have d1 : decide ((j : Int) ≤ 0) = false := decide_eq_false (by omega)
  have d2 : decide (j ≤ 0) = false := decide_eq_false (by omega)
  have d3 : decide (j = 0) = false := decide_eq_false (by omega)
  have hcut : cutN p x (up != s) = x / 2 ^ j + if (up != s) = true ∧ x % 2 ^ j ≠ 0 then 1 else 0 := by unfold cutN; rw [hj]
  rw [hj]
  generalize cutN p x (up != s) = y at *
  have HC := Lib.hid hcut
  clear hcut hj hlt
  go_enter Tryd.func69, Tryd.ntmps69
  go_wp2_with fail
  refine (rbits_any h (by omega)).mono ?_
  rintro en w' ⟨rfl, rfl⟩
  go_wp2_with fail
  refine (rshr_any (s := j) h (by omega) (by omega)).mono ?_
  rintro en w2 ⟨A2, n2, c2, rfl, h2, b⟩
  replace BB := below_next BB BB.size b rfl rfl rfl rfl
  have G := mv b rfl <| And.intro a0 <| And.intro a1 <| And.intro a2 <| And.intro h <| r
  clear b a0 a1 a2 h r
  obtain ⟨a0, a1, a2, h, r⟩ := G
  have hxl := HX.out
  have h2l : x / 2 ^ j < Go.Proofs.YtdjklanmkjbifaaDoor.H ^ 600 := Nat.lt_of_le_of_lt (Nat.div_le_self _ _) hxl
  have n2l := digits_le h2 h2l
  clear hxl h2l
  have ne1 : ¬ w.heap.size + 1 = w.heap.size := by omega
  have ne2 : ¬ w.heap.size = w.heap.size + 1 := by omega
  rcases Decidable.em (x % 2 ^ j = 0) with hr | hr
  · have HR := Lib.hid hr
    have heq : x / 2 ^ j * 2 ^ j = x := by have := Nat.div_add_mod x (2 ^ j); rw [Nat.mul_comm] at this; omega
    have HEQ := Lib.hid heq
    clear heq
    clear hr
    cases up <;> cases s
    · have hy : y = x / 2 ^ j := by have h1 := HC.out; have h2 := HR.out; simpa [h2] using h1
      go_wp2_with fail
      refine wp_region_held_drew (S := fun w' => w'.cell? ⟨w.heap.size, 0, none⟩ = some (.bool false) ∧ w'.cell? ⟨w.heap.size, 1, none⟩ = some (.slice A n c) ∧ w'.cell? ⟨w.heap.size, 2, none⟩ = some (.int .i64 e)) (by kernel_rfl) (by first | (dsimp only; go_keep) | go_keep) (fun hHeldzff0 => ?_)
      refine wpAnyH_take (i := 0) (v := ?zffv0) rfl (by kernel_rfl) (by kernel_rfl) (by kernel_rfl) (fun _ _ _ h => panic_put (P := Tryd.prog) (fn := Tryd.f69) (R := (NumIs false y (e + ((j : Nat) : Int)) w)) h) (Or.inl ⟨by rfl, ?zffy0⟩) (by assumption) ?_
      case zffy0 => (intro w hSw; (try dsimp only at hSw); go_simp); try with_reducible rfl
      change wpAnyH _ _ _ _ _ _ _ (Act.put _ (some 21) _) _
      simp only [Act.put, List.setIfInBounds_toArray, List.set_cons_zero, List.set_cons_succ]
      refine wpAnyH_take (i := 1) (v := ?zffv1) rfl (by kernel_rfl) (by kernel_rfl) (by kernel_rfl) (fun _ _ _ h => panic_put (P := Tryd.prog) (fn := Tryd.f69) (R := (NumIs false y (e + ((j : Nat) : Int)) w)) h) (Or.inl ⟨by rfl, ?zffy1⟩) (by assumption) ?_
      case zffy1 => (intro w hSw; (try dsimp only at hSw); go_simp); try with_reducible rfl
      change wpAnyH _ _ _ _ _ _ _ (Act.put _ (some 22) _) _
      simp only [Act.put, List.setIfInBounds_toArray, List.set_cons_zero, List.set_cons_succ]
      refine wpAnyH_take (i := 2) (v := ?zffv2) rfl (by kernel_rfl) (by kernel_rfl) (by kernel_rfl) (fun _ _ _ h => panic_put (P := Tryd.prog) (fn := Tryd.f69) (R := (NumIs false y (e + ((j : Nat) : Int)) w)) h) (Or.inl ⟨by rfl, ?zffy2⟩) (by assumption) ?_
      case zffy2 => (intro w hSw; (try dsimp only at hSw); go_simp); try with_reducible rfl
      change wpAnyH _ _ _ _ _ _ _ (Act.put _ (some 23) _) _
      simp only [Act.put, List.setIfInBounds_toArray, List.set_cons_zero, List.set_cons_succ]
      refine wpAnyH_take (i := 3) (v := ?zffv3) rfl (by kernel_rfl) (by kernel_rfl) (by kernel_rfl) (fun _ _ _ h => panic_put (P := Tryd.prog) (fn := Tryd.f69) (R := (NumIs false y (e + ((j : Nat) : Int)) w)) h) (Or.inl ⟨by rfl, ?zffy3⟩) (by assumption) ?_
      case zffy3 => (intro w hSw; (try dsimp only at hSw); go_simp); try with_reducible rfl
      change wpAnyH _ _ _ _ _ _ _ (Act.put _ (some 24) _) _
      simp only [Act.put, List.setIfInBounds_toArray, List.set_cons_zero, List.set_cons_succ]
      refine wpAnyH_take (i := 4) (v := ?zffv4) rfl (by kernel_rfl) (by kernel_rfl) (by kernel_rfl) (fun _ _ _ h => panic_put (P := Tryd.prog) (fn := Tryd.f69) (R := (NumIs false y (e + ((j : Nat) : Int)) w)) h) (Or.inl ⟨by rfl, ?zffy4⟩) (by assumption) ?_
      case zffy4 => (intro w hSw; (try dsimp only at hSw); go_simp); try with_reducible rfl
      change wpAnyH _ _ _ _ _ _ _ (Act.put _ (some 25) _) _
      simp only [Act.put, List.setIfInBounds_toArray, List.set_cons_zero, List.set_cons_succ]
      refine wpAnyH_take (i := 5) (v := undef) rfl (by kernel_rfl) (by kernel_rfl) (by kernel_rfl) (fun _ _ _ h => panic_put (P := Tryd.prog) (fn := Tryd.f69) (R := (NumIs false y (e + ((j : Nat) : Int)) w)) h) (Or.inr ⟨by rfl, rfl⟩) (by assumption) ?_
      change wpAnyH _ _ _ _ _ _ _ (Act.put _ (some 26) _) _
      simp only [Act.put, List.setIfInBounds_toArray, List.set_cons_zero, List.set_cons_succ]
      refine wpAnyH_take (i := 6) (v := undef) rfl (by kernel_rfl) (by kernel_rfl) (by kernel_rfl) (fun _ _ _ h => panic_put (P := Tryd.prog) (fn := Tryd.f69) (R := (NumIs false y (e + ((j : Nat) : Int)) w)) h) (Or.inr ⟨by rfl, rfl⟩) (by assumption) ?_
      change wpAnyH _ _ _ _ _ _ _ (Act.put _ (some 27) _) _
      simp only [Act.put, List.setIfInBounds_toArray, List.set_cons_zero, List.set_cons_succ]
      refine wpAnyH_take (i := 8) (v := undef) rfl (by kernel_rfl) (by kernel_rfl) (by kernel_rfl) (fun _ _ _ h => panic_put (P := Tryd.prog) (fn := Tryd.f69) (R := (NumIs false y (e + ((j : Nat) : Int)) w)) h) (Or.inr ⟨by rfl, rfl⟩) (by assumption) ?_
      change wpAnyH _ _ _ _ _ _ _ (Act.put _ (some 29) _) _
      simp only [Act.put, List.setIfInBounds_toArray, List.set_cons_zero, List.set_cons_succ]
      refine wpAnyH_take (i := 9) (v := undef) rfl (by kernel_rfl) (by kernel_rfl) (by kernel_rfl) (fun _ _ _ h => panic_put (P := Tryd.prog) (fn := Tryd.f69) (R := (NumIs false y (e + ((j : Nat) : Int)) w)) h) (Or.inr ⟨by rfl, rfl⟩) (by assumption) ?_
      change wpAnyH _ _ _ _ _ _ _ (Act.put _ (some 30) _) _
      simp only [Act.put, List.setIfInBounds_toArray, List.set_cons_zero, List.set_cons_succ]
      refine wpAnyH_ready (rs := [7]) (by kernel_rfl) (by simp) ?_
      refine AllReadyH.cons (o := _) rfl (fun K hK => ?_) AllReadyH.nil
      go_simp
      refine hK.out _ _ (by first | (dsimp only; go_keep) | go_keep) (fun hHeldzff1 => ?_)
      clear hK K hHeldzff0
      try simp only [Act.put]
      refine wpAnyH_ready (rs := [10]) (by kernel_rfl) (by simp) ?_
      refine AllReadyH.cons (o := _) rfl (fun K hK => ?_) AllReadyH.nil
      go_simp
      refine hK.out _ _ (by first | (dsimp only; go_keep) | go_keep) (fun hHeldzff2 => ?_)
      clear hK K hHeldzff1
      try simp only [Act.put]
      refine wpAnyH_take (i := 11) (v := undef) rfl (by kernel_rfl) (by kernel_rfl) (by kernel_rfl) (fun _ _ _ h => panic_put (P := Tryd.prog) (fn := Tryd.f69) (R := (NumIs false y (e + ((j : Nat) : Int)) w)) h) (Or.inr ⟨by rfl, rfl⟩) (by assumption) ?_
      change wpAnyH _ _ _ _ _ _ _ (Act.put _ (some 32) _) _
      simp only [Act.put, List.setIfInBounds_toArray, List.set_cons_zero, List.set_cons_succ]
      refine wpAnyH_take (i := 12) (v := ?zffv12) rfl (by kernel_rfl) (by kernel_rfl) (by kernel_rfl) (fun _ _ _ h => panic_put (P := Tryd.prog) (fn := Tryd.f69) (R := (NumIs false y (e + ((j : Nat) : Int)) w)) h) (Or.inl ⟨by rfl, ?zffy12⟩) (by assumption) ?_
      case zffy12 => (intro w hSw; (try dsimp only at hSw); go_simp); try with_reducible rfl
      change wpAnyH _ _ _ _ _ _ _ (Act.put _ (some 33) _) _
      simp only [Act.put, List.setIfInBounds_toArray, List.set_cons_zero, List.set_cons_succ]
      refine wpAnyH_done (by kernel_rfl) ?_ _
      rw [← hy] at h2
      obtain ⟨f0, f1, f2⟩ := r.open
      obtain ⟨z0, z1, z2⟩ := r.held
      go_wp2
      have qq := r.put false A2 n2 c2 (e + (j : Int))
      have hN := h2.put3 r (.bool false) (.slice A2 n2 c2) (.int .i64 (e + (j : Int)))
      have HB3 := below_put3 (g := w.heap.size + 1) BB (by omega) (.bool false) (.slice A2 n2 c2) (.int .i64 (e + (j : Int)))
      obtain ⟨z0, z1, z2⟩ := qq.held
      exact bodyPost_ret (v := .agg #[.bool false, .slice A2 n2 c2, .int .i64 (e + (j : Int))]) (by simp [results, Tryd.results69, go_sem, z0, z1, z2]) rfl ⟨_, _, _, rfl, Dg.heap32 hN rfl, HB3.drew⟩
    · have hy : y = x / 2 ^ j := by have h1 := HC.out; have h2 := HR.out; simpa [h2] using h1
      go_wp2_with fail
      refine wp_region_held_drew (S := fun w' => w'.cell? ⟨w.heap.size, 0, none⟩ = some (.bool true) ∧ w'.cell? ⟨w.heap.size, 1, none⟩ = some (.slice A n c) ∧ w'.cell? ⟨w.heap.size, 2, none⟩ = some (.int .i64 e)) (by kernel_rfl) (by first | (dsimp only; go_keep) | go_keep) (fun hHeldzft0 => ?_)
      refine wpAnyH_take (i := 0) (v := ?zftv0) rfl (by kernel_rfl) (by kernel_rfl) (by kernel_rfl) (fun _ _ _ h => panic_put (P := Tryd.prog) (fn := Tryd.f69) (R := (NumIs true y (e + ((j : Nat) : Int)) w)) h) (Or.inl ⟨by rfl, ?zfty0⟩) (by assumption) ?_
      case zfty0 => (intro w hSw; (try dsimp only at hSw); go_simp); try with_reducible rfl
      change wpAnyH _ _ _ _ _ _ _ (Act.put _ (some 21) _) _
      simp only [Act.put, List.setIfInBounds_toArray, List.set_cons_zero, List.set_cons_succ]
      refine wpAnyH_take (i := 1) (v := ?zftv1) rfl (by kernel_rfl) (by kernel_rfl) (by kernel_rfl) (fun _ _ _ h => panic_put (P := Tryd.prog) (fn := Tryd.f69) (R := (NumIs true y (e + ((j : Nat) : Int)) w)) h) (Or.inl ⟨by rfl, ?zfty1⟩) (by assumption) ?_
      case zfty1 => (intro w hSw; (try dsimp only at hSw); go_simp); try with_reducible rfl
      change wpAnyH _ _ _ _ _ _ _ (Act.put _ (some 22) _) _
      simp only [Act.put, List.setIfInBounds_toArray, List.set_cons_zero, List.set_cons_succ]
      refine wpAnyH_take (i := 2) (v := ?zftv2) rfl (by kernel_rfl) (by kernel_rfl) (by kernel_rfl) (fun _ _ _ h => panic_put (P := Tryd.prog) (fn := Tryd.f69) (R := (NumIs true y (e + ((j : Nat) : Int)) w)) h) (Or.inl ⟨by rfl, ?zfty2⟩) (by assumption) ?_
      case zfty2 => (intro w hSw; (try dsimp only at hSw); go_simp); try with_reducible rfl
      change wpAnyH _ _ _ _ _ _ _ (Act.put _ (some 23) _) _
      simp only [Act.put, List.setIfInBounds_toArray, List.set_cons_zero, List.set_cons_succ]
      refine wpAnyH_take (i := 3) (v := ?zftv3) rfl (by kernel_rfl) (by kernel_rfl) (by kernel_rfl) (fun _ _ _ h => panic_put (P := Tryd.prog) (fn := Tryd.f69) (R := (NumIs true y (e + ((j : Nat) : Int)) w)) h) (Or.inl ⟨by rfl, ?zfty3⟩) (by assumption) ?_
      case zfty3 => (intro w hSw; (try dsimp only at hSw); go_simp); try with_reducible rfl
      change wpAnyH _ _ _ _ _ _ _ (Act.put _ (some 24) _) _
      simp only [Act.put, List.setIfInBounds_toArray, List.set_cons_zero, List.set_cons_succ]
      refine wpAnyH_take (i := 4) (v := ?zftv4) rfl (by kernel_rfl) (by kernel_rfl) (by kernel_rfl) (fun _ _ _ h => panic_put (P := Tryd.prog) (fn := Tryd.f69) (R := (NumIs true y (e + ((j : Nat) : Int)) w)) h) (Or.inl ⟨by rfl, ?zfty4⟩) (by assumption) ?_
      case zfty4 => (intro w hSw; (try dsimp only at hSw); go_simp); try with_reducible rfl
      change wpAnyH _ _ _ _ _ _ _ (Act.put _ (some 25) _) _
      simp only [Act.put, List.setIfInBounds_toArray, List.set_cons_zero, List.set_cons_succ]
      refine wpAnyH_take (i := 5) (v := ?zftv5) rfl (by kernel_rfl) (by kernel_rfl) (by kernel_rfl) (fun _ _ _ h => panic_put (P := Tryd.prog) (fn := Tryd.f69) (R := (NumIs true y (e + ((j : Nat) : Int)) w)) h) (Or.inl ⟨by rfl, ?zfty5⟩) (by assumption) ?_
      case zfty5 => (intro w hSw; (try dsimp only at hSw); go_simp); try with_reducible rfl
      change wpAnyH _ _ _ _ _ _ _ (Act.put _ (some 26) _) _
      simp only [Act.put, List.setIfInBounds_toArray, List.set_cons_zero, List.set_cons_succ]
      refine wpAnyH_take (i := 6) (v := ?zftv6) rfl (by kernel_rfl) (by kernel_rfl) (by kernel_rfl) (fun _ _ _ h => panic_put (P := Tryd.prog) (fn := Tryd.f69) (R := (NumIs true y (e + ((j : Nat) : Int)) w)) h) (Or.inl ⟨by rfl, ?zfty6⟩) (by assumption) ?_
      case zfty6 => (intro w hSw; (try dsimp only at hSw); go_simp); try with_reducible rfl
      change wpAnyH _ _ _ _ _ _ _ (Act.put _ (some 27) _) _
      simp only [Act.put, List.setIfInBounds_toArray, List.set_cons_zero, List.set_cons_succ]
      refine wpAnyH_take (i := 8) (v := ?zftv8) rfl (by kernel_rfl) (by kernel_rfl) (by kernel_rfl) (fun _ _ _ h => panic_put (P := Tryd.prog) (fn := Tryd.f69) (R := (NumIs true y (e + ((j : Nat) : Int)) w)) h) (Or.inl ⟨by rfl, ?zfty8⟩) (by assumption) ?_
      case zfty8 => (intro w hSw; (try dsimp only at hSw); go_simp); try with_reducible rfl
      change wpAnyH _ _ _ _ _ _ _ (Act.put _ (some 29) _) _
      simp only [Act.put, List.setIfInBounds_toArray, List.set_cons_zero, List.set_cons_succ]
      refine wpAnyH_take (i := 9) (v := ?zftv9) rfl (by kernel_rfl) (by kernel_rfl) (by kernel_rfl) (fun _ _ _ h => panic_put (P := Tryd.prog) (fn := Tryd.f69) (R := (NumIs true y (e + ((j : Nat) : Int)) w)) h) (Or.inl ⟨by rfl, ?zfty9⟩) (by assumption) ?_
      case zfty9 => (intro w hSw; (try dsimp only at hSw); go_simp); try with_reducible rfl
      change wpAnyH _ _ _ _ _ _ _ (Act.put _ (some 30) _) _
      simp only [Act.put, List.setIfInBounds_toArray, List.set_cons_zero, List.set_cons_succ]
      refine wpAnyH_ready (rs := [7]) (by kernel_rfl) (by simp) ?_
      refine AllReadyH.cons (o := _) rfl (fun K hK => ?_) AllReadyH.nil
      go_simp
      refine (rshl_any (s := j) (h2.heap32 (by rfl)) (by omega) (by omega)).mono ?_
      rintro en w' ⟨A3, n3, c3, rfl, h3, b⟩
      replace BB := below_next BB BB.size b (by rfl) (by rfl) (by rfl) (by rfl)
      have G := mv b (by rfl) <| And.intro a0 <| And.intro a1 <| And.intro a2 <| And.intro h <| And.intro r <| h2
      clear b a0 a1 a2 h r h2
      obtain ⟨a0, a1, a2, h, r, h2⟩ := G
      refine hK.out _ _ (by first | (dsimp only; go_keep) | go_keep) (fun hHeldzft1 => ?_)
      clear hK K hHeldzft0
      try simp only [Act.put]
      refine wpAnyH_ready (rs := [10]) (by kernel_rfl) (by simp) ?_
      refine AllReadyH.cons (o := _) rfl (fun K hK => ?_) AllReadyH.nil
      go_simp
      refine (rcmp_any (h3.heap32 (by rfl)) (h.heap32 (by rfl))).mono ?_
      rintro en w' ⟨rfl, b⟩
      rw [cmpN_eq HEQ.out]
      clear h3
      replace BB := below_next BB BB.size b (by rfl) (by rfl) (by rfl) (by rfl)
      have G := mv b (by rfl) <| And.intro a0 <| And.intro a1 <| And.intro a2 <| And.intro h <| And.intro r <| h2
      clear b a0 a1 a2 h r h2
      obtain ⟨a0, a1, a2, h, r, h2⟩ := G
      refine hK.out _ _ (by first | (dsimp only; go_keep) | go_keep) (fun hHeldzft2 => ?_)
      clear hK K hHeldzft1
      try simp only [Act.put]
      refine wpAnyH_take (i := 11) (v := ?zftv11) rfl (by kernel_rfl) (by kernel_rfl) (by kernel_rfl) (fun _ _ _ h => panic_put (P := Tryd.prog) (fn := Tryd.f69) (R := (NumIs true y (e + ((j : Nat) : Int)) w)) h) (Or.inl ⟨by rfl, ?zfty11⟩) (by assumption) ?_
      case zfty11 => (intro w hSw; (try dsimp only at hSw); go_simp); try with_reducible rfl
      change wpAnyH _ _ _ _ _ _ _ (Act.put _ (some 32) _) _
      simp only [Act.put, List.setIfInBounds_toArray, List.set_cons_zero, List.set_cons_succ]
      refine wpAnyH_take (i := 12) (v := ?zftv12) rfl (by kernel_rfl) (by kernel_rfl) (by kernel_rfl) (fun _ _ _ h => panic_put (P := Tryd.prog) (fn := Tryd.f69) (R := (NumIs true y (e + ((j : Nat) : Int)) w)) h) (Or.inl ⟨by rfl, ?zfty12⟩) (by assumption) ?_
      case zfty12 => (intro w hSw; (try dsimp only at hSw); go_simp); try with_reducible rfl
      change wpAnyH _ _ _ _ _ _ _ (Act.put _ (some 33) _) _
      simp only [Act.put, List.setIfInBounds_toArray, List.set_cons_zero, List.set_cons_succ]
      refine wpAnyH_done (by kernel_rfl) ?_ _
      rw [← hy] at h2
      obtain ⟨f0, f1, f2⟩ := r.open
      obtain ⟨z0, z1, z2⟩ := r.held
      go_wp2
      have qq := r.put true A2 n2 c2 (e + (j : Int))
      have hN := h2.put3 r (.bool true) (.slice A2 n2 c2) (.int .i64 (e + (j : Int)))
      have HB3 := below_put3 (g := w.heap.size + 1) BB (by omega) (.bool true) (.slice A2 n2 c2) (.int .i64 (e + (j : Int)))
      obtain ⟨z0, z1, z2⟩ := qq.held
      exact bodyPost_ret (v := .agg #[.bool true, .slice A2 n2 c2, .int .i64 (e + (j : Int))]) (by simp [results, Tryd.results69, go_sem, z0, z1, z2]) rfl ⟨_, _, _, rfl, hN, HB3⟩
    · have hy : y = x / 2 ^ j := by have h1 := HC.out; have h2 := HR.out; simpa [h2] using h1
      go_wp2_with fail
      refine wp_region_held_drew (S := fun w' => w'.cell? ⟨w.heap.size, 0, none⟩ = some (.bool false) ∧ w'.cell? ⟨w.heap.size, 1, none⟩ = some (.slice A n c) ∧ w'.cell? ⟨w.heap.size, 2, none⟩ = some (.int .i64 e)) (by kernel_rfl) (by first | (dsimp only; go_keep) | go_keep) (fun hHeldztf0 => ?_)
      refine wpAnyH_take (i := 0) (v := ?ztfv0) rfl (by kernel_rfl) (by kernel_rfl) (by kernel_rfl) (fun _ _ _ h => panic_put (P := Tryd.prog) (fn := Tryd.f69) (R := (NumIs false y (e + ((j : Nat) : Int)) w)) h) (Or.inl ⟨by rfl, ?ztfy0⟩) (by assumption) ?_
      case ztfy0 => (intro w hSw; (try dsimp only at hSw); go_simp); try with_reducible rfl
      change wpAnyH _ _ _ _ _ _ _ (Act.put _ (some 21) _) _
      simp only [Act.put, List.setIfInBounds_toArray, List.set_cons_zero, List.set_cons_succ]
      refine wpAnyH_take (i := 1) (v := ?ztfv1) rfl (by kernel_rfl) (by kernel_rfl) (by kernel_rfl) (fun _ _ _ h => panic_put (P := Tryd.prog) (fn := Tryd.f69) (R := (NumIs false y (e + ((j : Nat) : Int)) w)) h) (Or.inl ⟨by rfl, ?ztfy1⟩) (by assumption) ?_
      case ztfy1 => (intro w hSw; (try dsimp only at hSw); go_simp); try with_reducible rfl
      change wpAnyH _ _ _ _ _ _ _ (Act.put _ (some 22) _) _
      simp only [Act.put, List.setIfInBounds_toArray, List.set_cons_zero, List.set_cons_succ]
      refine wpAnyH_take (i := 2) (v := ?ztfv2) rfl (by kernel_rfl) (by kernel_rfl) (by kernel_rfl) (fun _ _ _ h => panic_put (P := Tryd.prog) (fn := Tryd.f69) (R := (NumIs false y (e + ((j : Nat) : Int)) w)) h) (Or.inl ⟨by rfl, ?ztfy2⟩) (by assumption) ?_
      case ztfy2 => (intro w hSw; (try dsimp only at hSw); go_simp); try with_reducible rfl
      change wpAnyH _ _ _ _ _ _ _ (Act.put _ (some 23) _) _
      simp only [Act.put, List.setIfInBounds_toArray, List.set_cons_zero, List.set_cons_succ]
      refine wpAnyH_take (i := 3) (v := ?ztfv3) rfl (by kernel_rfl) (by kernel_rfl) (by kernel_rfl) (fun _ _ _ h => panic_put (P := Tryd.prog) (fn := Tryd.f69) (R := (NumIs false y (e + ((j : Nat) : Int)) w)) h) (Or.inl ⟨by rfl, ?ztfy3⟩) (by assumption) ?_
      case ztfy3 => (intro w hSw; (try dsimp only at hSw); go_simp); try with_reducible rfl
      change wpAnyH _ _ _ _ _ _ _ (Act.put _ (some 24) _) _
      simp only [Act.put, List.setIfInBounds_toArray, List.set_cons_zero, List.set_cons_succ]
      refine wpAnyH_take (i := 4) (v := ?ztfv4) rfl (by kernel_rfl) (by kernel_rfl) (by kernel_rfl) (fun _ _ _ h => panic_put (P := Tryd.prog) (fn := Tryd.f69) (R := (NumIs false y (e + ((j : Nat) : Int)) w)) h) (Or.inl ⟨by rfl, ?ztfy4⟩) (by assumption) ?_
      case ztfy4 => (intro w hSw; (try dsimp only at hSw); go_simp); try with_reducible rfl
      change wpAnyH _ _ _ _ _ _ _ (Act.put _ (some 25) _) _
      simp only [Act.put, List.setIfInBounds_toArray, List.set_cons_zero, List.set_cons_succ]
      refine wpAnyH_take (i := 5) (v := ?ztfv5) rfl (by kernel_rfl) (by kernel_rfl) (by kernel_rfl) (fun _ _ _ h => panic_put (P := Tryd.prog) (fn := Tryd.f69) (R := (NumIs false y (e + ((j : Nat) : Int)) w)) h) (Or.inl ⟨by rfl, ?ztfy5⟩) (by assumption) ?_
      case ztfy5 => (intro w hSw; (try dsimp only at hSw); go_simp); try with_reducible rfl
      change wpAnyH _ _ _ _ _ _ _ (Act.put _ (some 26) _) _
      simp only [Act.put, List.setIfInBounds_toArray, List.set_cons_zero, List.set_cons_succ]
      refine wpAnyH_take (i := 6) (v := ?ztfv6) rfl (by kernel_rfl) (by kernel_rfl) (by kernel_rfl) (fun _ _ _ h => panic_put (P := Tryd.prog) (fn := Tryd.f69) (R := (NumIs false y (e + ((j : Nat) : Int)) w)) h) (Or.inl ⟨by rfl, ?ztfy6⟩) (by assumption) ?_
      case ztfy6 => (intro w hSw; (try dsimp only at hSw); go_simp); try with_reducible rfl
      change wpAnyH _ _ _ _ _ _ _ (Act.put _ (some 27) _) _
      simp only [Act.put, List.setIfInBounds_toArray, List.set_cons_zero, List.set_cons_succ]
      refine wpAnyH_take (i := 8) (v := ?ztfv8) rfl (by kernel_rfl) (by kernel_rfl) (by kernel_rfl) (fun _ _ _ h => panic_put (P := Tryd.prog) (fn := Tryd.f69) (R := (NumIs false y (e + ((j : Nat) : Int)) w)) h) (Or.inl ⟨by rfl, ?ztfy8⟩) (by assumption) ?_
      case ztfy8 => (intro w hSw; (try dsimp only at hSw); go_simp); try with_reducible rfl
      change wpAnyH _ _ _ _ _ _ _ (Act.put _ (some 29) _) _
      simp only [Act.put, List.setIfInBounds_toArray, List.set_cons_zero, List.set_cons_succ]
      refine wpAnyH_take (i := 9) (v := ?ztfv9) rfl (by kernel_rfl) (by kernel_rfl) (by kernel_rfl) (fun _ _ _ h => panic_put (P := Tryd.prog) (fn := Tryd.f69) (R := (NumIs false y (e + ((j : Nat) : Int)) w)) h) (Or.inl ⟨by rfl, ?ztfy9⟩) (by assumption) ?_
      case ztfy9 => (intro w hSw; (try dsimp only at hSw); go_simp); try with_reducible rfl
      change wpAnyH _ _ _ _ _ _ _ (Act.put _ (some 30) _) _
      simp only [Act.put, List.setIfInBounds_toArray, List.set_cons_zero, List.set_cons_succ]
      refine wpAnyH_ready (rs := [7]) (by kernel_rfl) (by simp) ?_
      refine AllReadyH.cons (o := _) rfl (fun K hK => ?_) AllReadyH.nil
      go_simp
      refine (rshl_any (s := j) (h2.heap32 (by rfl)) (by omega) (by omega)).mono ?_
      rintro en w' ⟨A3, n3, c3, rfl, h3, b⟩
      replace BB := below_next BB BB.size b (by rfl) (by rfl) (by rfl) (by rfl)
      have G := mv b (by rfl) <| And.intro a0 <| And.intro a1 <| And.intro a2 <| And.intro h <| And.intro r <| h2
      clear b a0 a1 a2 h r h2
      obtain ⟨a0, a1, a2, h, r, h2⟩ := G
      refine hK.out _ _ (by first | (dsimp only; go_keep) | go_keep) (fun hHeldztf1 => ?_)
      clear hK K hHeldztf0
      try simp only [Act.put]
      refine wpAnyH_ready (rs := [10]) (by kernel_rfl) (by simp) ?_
      refine AllReadyH.cons (o := _) rfl (fun K hK => ?_) AllReadyH.nil
      go_simp
      refine (rcmp_any (h3.heap32 (by rfl)) (h.heap32 (by rfl))).mono ?_
      rintro en w' ⟨rfl, b⟩
      rw [cmpN_eq HEQ.out]
      clear h3
      replace BB := below_next BB BB.size b (by rfl) (by rfl) (by rfl) (by rfl)
      have G := mv b (by rfl) <| And.intro a0 <| And.intro a1 <| And.intro a2 <| And.intro h <| And.intro r <| h2
      clear b a0 a1 a2 h r h2
      obtain ⟨a0, a1, a2, h, r, h2⟩ := G
      refine hK.out _ _ (by first | (dsimp only; go_keep) | go_keep) (fun hHeldztf2 => ?_)
      clear hK K hHeldztf1
      try simp only [Act.put]
      refine wpAnyH_take (i := 11) (v := ?ztfv11) rfl (by kernel_rfl) (by kernel_rfl) (by kernel_rfl) (fun _ _ _ h => panic_put (P := Tryd.prog) (fn := Tryd.f69) (R := (NumIs false y (e + ((j : Nat) : Int)) w)) h) (Or.inl ⟨by rfl, ?ztfy11⟩) (by assumption) ?_
      case ztfy11 => (intro w hSw; (try dsimp only at hSw); go_simp); try with_reducible rfl
      change wpAnyH _ _ _ _ _ _ _ (Act.put _ (some 32) _) _
      simp only [Act.put, List.setIfInBounds_toArray, List.set_cons_zero, List.set_cons_succ]
      refine wpAnyH_take (i := 12) (v := ?ztfv12) rfl (by kernel_rfl) (by kernel_rfl) (by kernel_rfl) (fun _ _ _ h => panic_put (P := Tryd.prog) (fn := Tryd.f69) (R := (NumIs false y (e + ((j : Nat) : Int)) w)) h) (Or.inl ⟨by rfl, ?ztfy12⟩) (by assumption) ?_
      case ztfy12 => (intro w hSw; (try dsimp only at hSw); go_simp); try with_reducible rfl
      change wpAnyH _ _ _ _ _ _ _ (Act.put _ (some 33) _) _
      simp only [Act.put, List.setIfInBounds_toArray, List.set_cons_zero, List.set_cons_succ]
      refine wpAnyH_done (by kernel_rfl) ?_ _
      rw [← hy] at h2
      obtain ⟨f0, f1, f2⟩ := r.open
      obtain ⟨z0, z1, z2⟩ := r.held
      go_wp2
      have qq := r.put false A2 n2 c2 (e + (j : Int))
      have hN := h2.put3 r (.bool false) (.slice A2 n2 c2) (.int .i64 (e + (j : Int)))
      have HB3 := below_put3 (g := w.heap.size + 1) BB (by omega) (.bool false) (.slice A2 n2 c2) (.int .i64 (e + (j : Int)))
      obtain ⟨z0, z1, z2⟩ := qq.held
      exact bodyPost_ret (v := .agg #[.bool false, .slice A2 n2 c2, .int .i64 (e + (j : Int))]) (by simp [results, Tryd.results69, go_sem, z0, z1, z2]) rfl ⟨_, _, _, rfl, hN, HB3⟩
    · have hy : y = x / 2 ^ j := by have h1 := HC.out; have h2 := HR.out; simpa [h2] using h1
      go_wp2_with fail
      refine wp_region_held_drew (S := fun w' => w'.cell? ⟨w.heap.size, 0, none⟩ = some (.bool true) ∧ w'.cell? ⟨w.heap.size, 1, none⟩ = some (.slice A n c) ∧ w'.cell? ⟨w.heap.size, 2, none⟩ = some (.int .i64 e)) (by kernel_rfl) (by first | (dsimp only; go_keep) | go_keep) (fun hHeldztt0 => ?_)
      refine wpAnyH_take (i := 0) (v := ?zttv0) rfl (by kernel_rfl) (by kernel_rfl) (by kernel_rfl) (fun _ _ _ h => panic_put (P := Tryd.prog) (fn := Tryd.f69) (R := (NumIs true y (e + ((j : Nat) : Int)) w)) h) (Or.inl ⟨by rfl, ?ztty0⟩) (by assumption) ?_
      case ztty0 => (intro w hSw; (try dsimp only at hSw); go_simp); try with_reducible rfl
      change wpAnyH _ _ _ _ _ _ _ (Act.put _ (some 21) _) _
      simp only [Act.put, List.setIfInBounds_toArray, List.set_cons_zero, List.set_cons_succ]
      refine wpAnyH_take (i := 1) (v := ?zttv1) rfl (by kernel_rfl) (by kernel_rfl) (by kernel_rfl) (fun _ _ _ h => panic_put (P := Tryd.prog) (fn := Tryd.f69) (R := (NumIs true y (e + ((j : Nat) : Int)) w)) h) (Or.inl ⟨by rfl, ?ztty1⟩) (by assumption) ?_
      case ztty1 => (intro w hSw; (try dsimp only at hSw); go_simp); try with_reducible rfl
      change wpAnyH _ _ _ _ _ _ _ (Act.put _ (some 22) _) _
      simp only [Act.put, List.setIfInBounds_toArray, List.set_cons_zero, List.set_cons_succ]
      refine wpAnyH_take (i := 2) (v := ?zttv2) rfl (by kernel_rfl) (by kernel_rfl) (by kernel_rfl) (fun _ _ _ h => panic_put (P := Tryd.prog) (fn := Tryd.f69) (R := (NumIs true y (e + ((j : Nat) : Int)) w)) h) (Or.inl ⟨by rfl, ?ztty2⟩) (by assumption) ?_
      case ztty2 => (intro w hSw; (try dsimp only at hSw); go_simp); try with_reducible rfl
      change wpAnyH _ _ _ _ _ _ _ (Act.put _ (some 23) _) _
      simp only [Act.put, List.setIfInBounds_toArray, List.set_cons_zero, List.set_cons_succ]
      refine wpAnyH_take (i := 3) (v := ?zttv3) rfl (by kernel_rfl) (by kernel_rfl) (by kernel_rfl) (fun _ _ _ h => panic_put (P := Tryd.prog) (fn := Tryd.f69) (R := (NumIs true y (e + ((j : Nat) : Int)) w)) h) (Or.inl ⟨by rfl, ?ztty3⟩) (by assumption) ?_
      case ztty3 => (intro w hSw; (try dsimp only at hSw); go_simp); try with_reducible rfl
      change wpAnyH _ _ _ _ _ _ _ (Act.put _ (some 24) _) _
      simp only [Act.put, List.setIfInBounds_toArray, List.set_cons_zero, List.set_cons_succ]
      refine wpAnyH_take (i := 4) (v := ?zttv4) rfl (by kernel_rfl) (by kernel_rfl) (by kernel_rfl) (fun _ _ _ h => panic_put (P := Tryd.prog) (fn := Tryd.f69) (R := (NumIs true y (e + ((j : Nat) : Int)) w)) h) (Or.inl ⟨by rfl, ?ztty4⟩) (by assumption) ?_
      case ztty4 => (intro w hSw; (try dsimp only at hSw); go_simp); try with_reducible rfl
      change wpAnyH _ _ _ _ _ _ _ (Act.put _ (some 25) _) _
      simp only [Act.put, List.setIfInBounds_toArray, List.set_cons_zero, List.set_cons_succ]
      refine wpAnyH_take (i := 5) (v := undef) rfl (by kernel_rfl) (by kernel_rfl) (by kernel_rfl) (fun _ _ _ h => panic_put (P := Tryd.prog) (fn := Tryd.f69) (R := (NumIs true y (e + ((j : Nat) : Int)) w)) h) (Or.inr ⟨by rfl, rfl⟩) (by assumption) ?_
      change wpAnyH _ _ _ _ _ _ _ (Act.put _ (some 26) _) _
      simp only [Act.put, List.setIfInBounds_toArray, List.set_cons_zero, List.set_cons_succ]
      refine wpAnyH_take (i := 6) (v := undef) rfl (by kernel_rfl) (by kernel_rfl) (by kernel_rfl) (fun _ _ _ h => panic_put (P := Tryd.prog) (fn := Tryd.f69) (R := (NumIs true y (e + ((j : Nat) : Int)) w)) h) (Or.inr ⟨by rfl, rfl⟩) (by assumption) ?_
      change wpAnyH _ _ _ _ _ _ _ (Act.put _ (some 27) _) _
      simp only [Act.put, List.setIfInBounds_toArray, List.set_cons_zero, List.set_cons_succ]
      refine wpAnyH_take (i := 8) (v := undef) rfl (by kernel_rfl) (by kernel_rfl) (by kernel_rfl) (fun _ _ _ h => panic_put (P := Tryd.prog) (fn := Tryd.f69) (R := (NumIs true y (e + ((j : Nat) : Int)) w)) h) (Or.inr ⟨by rfl, rfl⟩) (by assumption) ?_
      change wpAnyH _ _ _ _ _ _ _ (Act.put _ (some 29) _) _
      simp only [Act.put, List.setIfInBounds_toArray, List.set_cons_zero, List.set_cons_succ]
      refine wpAnyH_take (i := 9) (v := undef) rfl (by kernel_rfl) (by kernel_rfl) (by kernel_rfl) (fun _ _ _ h => panic_put (P := Tryd.prog) (fn := Tryd.f69) (R := (NumIs true y (e + ((j : Nat) : Int)) w)) h) (Or.inr ⟨by rfl, rfl⟩) (by assumption) ?_
      change wpAnyH _ _ _ _ _ _ _ (Act.put _ (some 30) _) _
      simp only [Act.put, List.setIfInBounds_toArray, List.set_cons_zero, List.set_cons_succ]
      refine wpAnyH_ready (rs := [7]) (by kernel_rfl) (by simp) ?_
      refine AllReadyH.cons (o := _) rfl (fun K hK => ?_) AllReadyH.nil
      go_simp
      refine hK.out _ _ (by first | (dsimp only; go_keep) | go_keep) (fun hHeldztt1 => ?_)
      clear hK K hHeldztt0
      try simp only [Act.put]
      refine wpAnyH_ready (rs := [10]) (by kernel_rfl) (by simp) ?_
      refine AllReadyH.cons (o := _) rfl (fun K hK => ?_) AllReadyH.nil
      go_simp
      refine hK.out _ _ (by first | (dsimp only; go_keep) | go_keep) (fun hHeldztt2 => ?_)
      clear hK K hHeldztt1
      try simp only [Act.put]
      refine wpAnyH_take (i := 11) (v := undef) rfl (by kernel_rfl) (by kernel_rfl) (by kernel_rfl) (fun _ _ _ h => panic_put (P := Tryd.prog) (fn := Tryd.f69) (R := (NumIs true y (e + ((j : Nat) : Int)) w)) h) (Or.inr ⟨by rfl, rfl⟩) (by assumption) ?_
      change wpAnyH _ _ _ _ _ _ _ (Act.put _ (some 32) _) _
      simp only [Act.put, List.setIfInBounds_toArray, List.set_cons_zero, List.set_cons_succ]
      refine wpAnyH_take (i := 12) (v := ?zttv12) rfl (by kernel_rfl) (by kernel_rfl) (by kernel_rfl) (fun _ _ _ h => panic_put (P := Tryd.prog) (fn := Tryd.f69) (R := (NumIs true y (e + ((j : Nat) : Int)) w)) h) (Or.inl ⟨by rfl, ?ztty12⟩) (by assumption) ?_
      case ztty12 => (intro w hSw; (try dsimp only at hSw); go_simp); try with_reducible rfl
      change wpAnyH _ _ _ _ _ _ _ (Act.put _ (some 33) _) _
      simp only [Act.put, List.setIfInBounds_toArray, List.set_cons_zero, List.set_cons_succ]
      refine wpAnyH_done (by kernel_rfl) ?_ _
      rw [← hy] at h2
      obtain ⟨f0, f1, f2⟩ := r.open
      obtain ⟨z0, z1, z2⟩ := r.held
      go_wp2
      have qq := r.put true A2 n2 c2 (e + (j : Int))
      have hN := h2.put3 r (.bool true) (.slice A2 n2 c2) (.int .i64 (e + (j : Int)))
      have HB3 := below_put3 (g := w.heap.size + 1) BB (by omega) (.bool true) (.slice A2 n2 c2) (.int .i64 (e + (j : Int)))
      obtain ⟨z0, z1, z2⟩ := qq.held
      exact bodyPost_ret (v := .agg #[.bool true, .slice A2 n2 c2, .int .i64 (e + (j : Int))]) (by simp [results, Tryd.results69, go_sem, z0, z1, z2]) rfl ⟨_, _, _, rfl, Dg.heap32 hN rfl, HB3.drew⟩
  · have HR := Lib.hid hr
    have hlt : x / 2 ^ j * 2 ^ j < x := by have := Nat.div_add_mod x (2 ^ j); rw [Nat.mul_comm] at this; omega
    have HLT := Lib.hid hlt
    clear hlt
    clear hr
    cases up <;> cases s
    · have hy : y = x / 2 ^ j := by have h1 := HC.out; have h2 := HR.out; simpa [h2] using h1
      go_wp2_with fail
      refine wp_region_held_drew (S := fun w' => w'.cell? ⟨w.heap.size, 0, none⟩ = some (.bool false) ∧ w'.cell? ⟨w.heap.size, 1, none⟩ = some (.slice A n c) ∧ w'.cell? ⟨w.heap.size, 2, none⟩ = some (.int .i64 e)) (by kernel_rfl) (by first | (dsimp only; go_keep) | go_keep) (fun hHeldnff0 => ?_)
      refine wpAnyH_take (i := 0) (v := ?nffv0) rfl (by kernel_rfl) (by kernel_rfl) (by kernel_rfl) (fun _ _ _ h => panic_put (P := Tryd.prog) (fn := Tryd.f69) (R := (NumIs false y (e + ((j : Nat) : Int)) w)) h) (Or.inl ⟨by rfl, ?nffy0⟩) (by assumption) ?_
      case nffy0 => (intro w hSw; (try dsimp only at hSw); go_simp); try with_reducible rfl
      change wpAnyH _ _ _ _ _ _ _ (Act.put _ (some 21) _) _
      simp only [Act.put, List.setIfInBounds_toArray, List.set_cons_zero, List.set_cons_succ]
      refine wpAnyH_take (i := 1) (v := ?nffv1) rfl (by kernel_rfl) (by kernel_rfl) (by kernel_rfl) (fun _ _ _ h => panic_put (P := Tryd.prog) (fn := Tryd.f69) (R := (NumIs false y (e + ((j : Nat) : Int)) w)) h) (Or.inl ⟨by rfl, ?nffy1⟩) (by assumption) ?_
      case nffy1 => (intro w hSw; (try dsimp only at hSw); go_simp); try with_reducible rfl
      change wpAnyH _ _ _ _ _ _ _ (Act.put _ (some 22) _) _
      simp only [Act.put, List.setIfInBounds_toArray, List.set_cons_zero, List.set_cons_succ]
      refine wpAnyH_take (i := 2) (v := ?nffv2) rfl (by kernel_rfl) (by kernel_rfl) (by kernel_rfl) (fun _ _ _ h => panic_put (P := Tryd.prog) (fn := Tryd.f69) (R := (NumIs false y (e + ((j : Nat) : Int)) w)) h) (Or.inl ⟨by rfl, ?nffy2⟩) (by assumption) ?_
      case nffy2 => (intro w hSw; (try dsimp only at hSw); go_simp); try with_reducible rfl
      change wpAnyH _ _ _ _ _ _ _ (Act.put _ (some 23) _) _
      simp only [Act.put, List.setIfInBounds_toArray, List.set_cons_zero, List.set_cons_succ]
      refine wpAnyH_take (i := 3) (v := ?nffv3) rfl (by kernel_rfl) (by kernel_rfl) (by kernel_rfl) (fun _ _ _ h => panic_put (P := Tryd.prog) (fn := Tryd.f69) (R := (NumIs false y (e + ((j : Nat) : Int)) w)) h) (Or.inl ⟨by rfl, ?nffy3⟩) (by assumption) ?_
      case nffy3 => (intro w hSw; (try dsimp only at hSw); go_simp); try with_reducible rfl
      change wpAnyH _ _ _ _ _ _ _ (Act.put _ (some 24) _) _
      simp only [Act.put, List.setIfInBounds_toArray, List.set_cons_zero, List.set_cons_succ]
      refine wpAnyH_take (i := 4) (v := ?nffv4) rfl (by kernel_rfl) (by kernel_rfl) (by kernel_rfl) (fun _ _ _ h => panic_put (P := Tryd.prog) (fn := Tryd.f69) (R := (NumIs false y (e + ((j : Nat) : Int)) w)) h) (Or.inl ⟨by rfl, ?nffy4⟩) (by assumption) ?_
      case nffy4 => (intro w hSw; (try dsimp only at hSw); go_simp); try with_reducible rfl
      change wpAnyH _ _ _ _ _ _ _ (Act.put _ (some 25) _) _
      simp only [Act.put, List.setIfInBounds_toArray, List.set_cons_zero, List.set_cons_succ]
      refine wpAnyH_take (i := 5) (v := undef) rfl (by kernel_rfl) (by kernel_rfl) (by kernel_rfl) (fun _ _ _ h => panic_put (P := Tryd.prog) (fn := Tryd.f69) (R := (NumIs false y (e + ((j : Nat) : Int)) w)) h) (Or.inr ⟨by rfl, rfl⟩) (by assumption) ?_
      change wpAnyH _ _ _ _ _ _ _ (Act.put _ (some 26) _) _
      simp only [Act.put, List.setIfInBounds_toArray, List.set_cons_zero, List.set_cons_succ]
      refine wpAnyH_take (i := 6) (v := undef) rfl (by kernel_rfl) (by kernel_rfl) (by kernel_rfl) (fun _ _ _ h => panic_put (P := Tryd.prog) (fn := Tryd.f69) (R := (NumIs false y (e + ((j : Nat) : Int)) w)) h) (Or.inr ⟨by rfl, rfl⟩) (by assumption) ?_
      change wpAnyH _ _ _ _ _ _ _ (Act.put _ (some 27) _) _
      simp only [Act.put, List.setIfInBounds_toArray, List.set_cons_zero, List.set_cons_succ]
      refine wpAnyH_take (i := 8) (v := undef) rfl (by kernel_rfl) (by kernel_rfl) (by kernel_rfl) (fun _ _ _ h => panic_put (P := Tryd.prog) (fn := Tryd.f69) (R := (NumIs false y (e + ((j : Nat) : Int)) w)) h) (Or.inr ⟨by rfl, rfl⟩) (by assumption) ?_
      change wpAnyH _ _ _ _ _ _ _ (Act.put _ (some 29) _) _
      simp only [Act.put, List.setIfInBounds_toArray, List.set_cons_zero, List.set_cons_succ]
      refine wpAnyH_take (i := 9) (v := undef) rfl (by kernel_rfl) (by kernel_rfl) (by kernel_rfl) (fun _ _ _ h => panic_put (P := Tryd.prog) (fn := Tryd.f69) (R := (NumIs false y (e + ((j : Nat) : Int)) w)) h) (Or.inr ⟨by rfl, rfl⟩) (by assumption) ?_
      change wpAnyH _ _ _ _ _ _ _ (Act.put _ (some 30) _) _
      simp only [Act.put, List.setIfInBounds_toArray, List.set_cons_zero, List.set_cons_succ]
      refine wpAnyH_ready (rs := [7]) (by kernel_rfl) (by simp) ?_
      refine AllReadyH.cons (o := _) rfl (fun K hK => ?_) AllReadyH.nil
      go_simp
      refine hK.out _ _ (by first | (dsimp only; go_keep) | go_keep) (fun hHeldnff1 => ?_)
      clear hK K hHeldnff0
      try simp only [Act.put]
      refine wpAnyH_ready (rs := [10]) (by kernel_rfl) (by simp) ?_
      refine AllReadyH.cons (o := _) rfl (fun K hK => ?_) AllReadyH.nil
      go_simp
      refine hK.out _ _ (by first | (dsimp only; go_keep) | go_keep) (fun hHeldnff2 => ?_)
      clear hK K hHeldnff1
      try simp only [Act.put]
      refine wpAnyH_take (i := 11) (v := undef) rfl (by kernel_rfl) (by kernel_rfl) (by kernel_rfl) (fun _ _ _ h => panic_put (P := Tryd.prog) (fn := Tryd.f69) (R := (NumIs false y (e + ((j : Nat) : Int)) w)) h) (Or.inr ⟨by rfl, rfl⟩) (by assumption) ?_
      change wpAnyH _ _ _ _ _ _ _ (Act.put _ (some 32) _) _
      simp only [Act.put, List.setIfInBounds_toArray, List.set_cons_zero, List.set_cons_succ]
      refine wpAnyH_take (i := 12) (v := ?nffv12) rfl (by kernel_rfl) (by kernel_rfl) (by kernel_rfl) (fun _ _ _ h => panic_put (P := Tryd.prog) (fn := Tryd.f69) (R := (NumIs false y (e + ((j : Nat) : Int)) w)) h) (Or.inl ⟨by rfl, ?nffy12⟩) (by assumption) ?_
      case nffy12 => (intro w hSw; (try dsimp only at hSw); go_simp); try with_reducible rfl
      change wpAnyH _ _ _ _ _ _ _ (Act.put _ (some 33) _) _
      simp only [Act.put, List.setIfInBounds_toArray, List.set_cons_zero, List.set_cons_succ]
      refine wpAnyH_done (by kernel_rfl) ?_ _
      rw [← hy] at h2
      obtain ⟨f0, f1, f2⟩ := r.open
      obtain ⟨z0, z1, z2⟩ := r.held
      go_wp2
      have qq := r.put false A2 n2 c2 (e + (j : Int))
      have hN := h2.put3 r (.bool false) (.slice A2 n2 c2) (.int .i64 (e + (j : Int)))
      have HB3 := below_put3 (g := w.heap.size + 1) BB (by omega) (.bool false) (.slice A2 n2 c2) (.int .i64 (e + (j : Int)))
      obtain ⟨z0, z1, z2⟩ := qq.held
      exact bodyPost_ret (v := .agg #[.bool false, .slice A2 n2 c2, .int .i64 (e + (j : Int))]) (by simp [results, Tryd.results69, go_sem, z0, z1, z2]) rfl ⟨_, _, _, rfl, Dg.heap32 hN rfl, HB3.drew⟩
    · have hy : y = x / 2 ^ j + 1 := by have h1 := HC.out; have h2 := HR.out; simpa [h2] using h1
      go_wp2_with fail
      refine wp_region_held_drew (S := fun w' => w'.cell? ⟨w.heap.size, 0, none⟩ = some (.bool true) ∧ w'.cell? ⟨w.heap.size, 1, none⟩ = some (.slice A n c) ∧ w'.cell? ⟨w.heap.size, 2, none⟩ = some (.int .i64 e)) (by kernel_rfl) (by first | (dsimp only; go_keep) | go_keep) (fun hHeldnft0 => ?_)
      refine wpAnyH_take (i := 0) (v := ?nftv0) rfl (by kernel_rfl) (by kernel_rfl) (by kernel_rfl) (fun _ _ _ h => panic_put (P := Tryd.prog) (fn := Tryd.f69) (R := (NumIs true y (e + ((j : Nat) : Int)) w)) h) (Or.inl ⟨by rfl, ?nfty0⟩) (by assumption) ?_
      case nfty0 => (intro w hSw; (try dsimp only at hSw); go_simp); try with_reducible rfl
      change wpAnyH _ _ _ _ _ _ _ (Act.put _ (some 21) _) _
      simp only [Act.put, List.setIfInBounds_toArray, List.set_cons_zero, List.set_cons_succ]
      refine wpAnyH_take (i := 1) (v := ?nftv1) rfl (by kernel_rfl) (by kernel_rfl) (by kernel_rfl) (fun _ _ _ h => panic_put (P := Tryd.prog) (fn := Tryd.f69) (R := (NumIs true y (e + ((j : Nat) : Int)) w)) h) (Or.inl ⟨by rfl, ?nfty1⟩) (by assumption) ?_
      case nfty1 => (intro w hSw; (try dsimp only at hSw); go_simp); try with_reducible rfl
      change wpAnyH _ _ _ _ _ _ _ (Act.put _ (some 22) _) _
      simp only [Act.put, List.setIfInBounds_toArray, List.set_cons_zero, List.set_cons_succ]
      refine wpAnyH_take (i := 2) (v := ?nftv2) rfl (by kernel_rfl) (by kernel_rfl) (by kernel_rfl) (fun _ _ _ h => panic_put (P := Tryd.prog) (fn := Tryd.f69) (R := (NumIs true y (e + ((j : Nat) : Int)) w)) h) (Or.inl ⟨by rfl, ?nfty2⟩) (by assumption) ?_
      case nfty2 => (intro w hSw; (try dsimp only at hSw); go_simp); try with_reducible rfl
      change wpAnyH _ _ _ _ _ _ _ (Act.put _ (some 23) _) _
      simp only [Act.put, List.setIfInBounds_toArray, List.set_cons_zero, List.set_cons_succ]
      refine wpAnyH_take (i := 3) (v := ?nftv3) rfl (by kernel_rfl) (by kernel_rfl) (by kernel_rfl) (fun _ _ _ h => panic_put (P := Tryd.prog) (fn := Tryd.f69) (R := (NumIs true y (e + ((j : Nat) : Int)) w)) h) (Or.inl ⟨by rfl, ?nfty3⟩) (by assumption) ?_
      case nfty3 => (intro w hSw; (try dsimp only at hSw); go_simp); try with_reducible rfl
      change wpAnyH _ _ _ _ _ _ _ (Act.put _ (some 24) _) _
      simp only [Act.put, List.setIfInBounds_toArray, List.set_cons_zero, List.set_cons_succ]
      refine wpAnyH_take (i := 4) (v := ?nftv4) rfl (by kernel_rfl) (by kernel_rfl) (by kernel_rfl) (fun _ _ _ h => panic_put (P := Tryd.prog) (fn := Tryd.f69) (R := (NumIs true y (e + ((j : Nat) : Int)) w)) h) (Or.inl ⟨by rfl, ?nfty4⟩) (by assumption) ?_
      case nfty4 => (intro w hSw; (try dsimp only at hSw); go_simp); try with_reducible rfl
      change wpAnyH _ _ _ _ _ _ _ (Act.put _ (some 25) _) _
      simp only [Act.put, List.setIfInBounds_toArray, List.set_cons_zero, List.set_cons_succ]
      refine wpAnyH_take (i := 5) (v := ?nftv5) rfl (by kernel_rfl) (by kernel_rfl) (by kernel_rfl) (fun _ _ _ h => panic_put (P := Tryd.prog) (fn := Tryd.f69) (R := (NumIs true y (e + ((j : Nat) : Int)) w)) h) (Or.inl ⟨by rfl, ?nfty5⟩) (by assumption) ?_
      case nfty5 => (intro w hSw; (try dsimp only at hSw); go_simp); try with_reducible rfl
      change wpAnyH _ _ _ _ _ _ _ (Act.put _ (some 26) _) _
      simp only [Act.put, List.setIfInBounds_toArray, List.set_cons_zero, List.set_cons_succ]
      refine wpAnyH_take (i := 6) (v := ?nftv6) rfl (by kernel_rfl) (by kernel_rfl) (by kernel_rfl) (fun _ _ _ h => panic_put (P := Tryd.prog) (fn := Tryd.f69) (R := (NumIs true y (e + ((j : Nat) : Int)) w)) h) (Or.inl ⟨by rfl, ?nfty6⟩) (by assumption) ?_
      case nfty6 => (intro w hSw; (try dsimp only at hSw); go_simp); try with_reducible rfl
      change wpAnyH _ _ _ _ _ _ _ (Act.put _ (some 27) _) _
      simp only [Act.put, List.setIfInBounds_toArray, List.set_cons_zero, List.set_cons_succ]
      refine wpAnyH_take (i := 8) (v := ?nftv8) rfl (by kernel_rfl) (by kernel_rfl) (by kernel_rfl) (fun _ _ _ h => panic_put (P := Tryd.prog) (fn := Tryd.f69) (R := (NumIs true y (e + ((j : Nat) : Int)) w)) h) (Or.inl ⟨by rfl, ?nfty8⟩) (by assumption) ?_
      case nfty8 => (intro w hSw; (try dsimp only at hSw); go_simp); try with_reducible rfl
      change wpAnyH _ _ _ _ _ _ _ (Act.put _ (some 29) _) _
      simp only [Act.put, List.setIfInBounds_toArray, List.set_cons_zero, List.set_cons_succ]
      refine wpAnyH_take (i := 9) (v := ?nftv9) rfl (by kernel_rfl) (by kernel_rfl) (by kernel_rfl) (fun _ _ _ h => panic_put (P := Tryd.prog) (fn := Tryd.f69) (R := (NumIs true y (e + ((j : Nat) : Int)) w)) h) (Or.inl ⟨by rfl, ?nfty9⟩) (by assumption) ?_
      case nfty9 => (intro w hSw; (try dsimp only at hSw); go_simp); try with_reducible rfl
      change wpAnyH _ _ _ _ _ _ _ (Act.put _ (some 30) _) _
      simp only [Act.put, List.setIfInBounds_toArray, List.set_cons_zero, List.set_cons_succ]
      refine wpAnyH_ready (rs := [7]) (by kernel_rfl) (by simp) ?_
      refine AllReadyH.cons (o := _) rfl (fun K hK => ?_) AllReadyH.nil
      go_simp
      refine (rshl_any (s := j) (h2.heap32 (by rfl)) (by omega) (by omega)).mono ?_
      rintro en w' ⟨A3, n3, c3, rfl, h3, b⟩
      replace BB := below_next BB BB.size b (by rfl) (by rfl) (by rfl) (by rfl)
      have G := mv b (by rfl) <| And.intro a0 <| And.intro a1 <| And.intro a2 <| And.intro h <| And.intro r <| h2
      clear b a0 a1 a2 h r h2
      obtain ⟨a0, a1, a2, h, r, h2⟩ := G
      refine hK.out _ _ (by first | (dsimp only; go_keep) | go_keep) (fun hHeldnft1 => ?_)
      clear hK K hHeldnft0
      try simp only [Act.put]
      refine wpAnyH_ready (rs := [10]) (by kernel_rfl) (by simp) ?_
      refine AllReadyH.cons (o := _) rfl (fun K hK => ?_) AllReadyH.nil
      go_simp
      refine (rcmp_any (h3.heap32 (by rfl)) (h.heap32 (by rfl))).mono ?_
      rintro en w' ⟨rfl, b⟩
      rw [cmpN_lt HLT.out]
      clear h3
      replace BB := below_next BB BB.size b (by rfl) (by rfl) (by rfl) (by rfl)
      have G := mv b (by rfl) <| And.intro a0 <| And.intro a1 <| And.intro a2 <| And.intro h <| And.intro r <| h2
      clear b a0 a1 a2 h r h2
      obtain ⟨a0, a1, a2, h, r, h2⟩ := G
      refine hK.out _ _ (by first | (dsimp only; go_keep) | go_keep) (fun hHeldnft2 => ?_)
      clear hK K hHeldnft1
      try simp only [Act.put]
      refine wpAnyH_take (i := 11) (v := ?nftv11) rfl (by kernel_rfl) (by kernel_rfl) (by kernel_rfl) (fun _ _ _ h => panic_put (P := Tryd.prog) (fn := Tryd.f69) (R := (NumIs true y (e + ((j : Nat) : Int)) w)) h) (Or.inl ⟨by rfl, ?nfty11⟩) (by assumption) ?_
      case nfty11 => (intro w hSw; (try dsimp only at hSw); go_simp); try with_reducible rfl
      change wpAnyH _ _ _ _ _ _ _ (Act.put _ (some 32) _) _
      simp only [Act.put, List.setIfInBounds_toArray, List.set_cons_zero, List.set_cons_succ]
      refine wpAnyH_take (i := 12) (v := ?nftv12) rfl (by kernel_rfl) (by kernel_rfl) (by kernel_rfl) (fun _ _ _ h => panic_put (P := Tryd.prog) (fn := Tryd.f69) (R := (NumIs true y (e + ((j : Nat) : Int)) w)) h) (Or.inl ⟨by rfl, ?nfty12⟩) (by assumption) ?_
      case nfty12 => (intro w hSw; (try dsimp only at hSw); go_simp); try with_reducible rfl
      change wpAnyH _ _ _ _ _ _ _ (Act.put _ (some 33) _) _
      simp only [Act.put, List.setIfInBounds_toArray, List.set_cons_zero, List.set_cons_succ]
      refine wpAnyH_done (by kernel_rfl) ?_ _
      go_wp2_with fail
      have hone := dg_one w'
      have b := below_alloc w' (.cells #[.int .u32 1] 73)
      replace BB := below_next BB BB.size b rfl rfl rfl rfl
      have G := mv b rfl <| And.intro a0 <| And.intro a1 <| And.intro a2 <| And.intro h <| And.intro r <| h2
      clear b a0 a1 a2 h r h2
      obtain ⟨a0, a1, a2, h, r, h2⟩ := G
      refine (radd_any h2 hone (by omega) (by omega)).mono ?_
      rintro en w4 ⟨A4, n4, c4, rfl, h4, b⟩
      clear hone h2
      replace BB := below_next BB BB.size b rfl rfl rfl rfl
      have G := mv b rfl <| And.intro a0 <| And.intro a1 <| And.intro a2 <| And.intro h <| r
      clear b a0 a1 a2 h r
      obtain ⟨a0, a1, a2, h, r⟩ := G
      rw [← hy] at h4
      obtain ⟨f0, f1, f2⟩ := r.open
      obtain ⟨z0, z1, z2⟩ := r.held
      go_wp2
      have qq := r.put true A4 n4 c4 (e + (j : Int))
      have hN := h4.put3 r (.bool true) (.slice A4 n4 c4) (.int .i64 (e + (j : Int)))
      have HB3 := below_put3 (g := w.heap.size + 1) BB (by omega) (.bool true) (.slice A4 n4 c4) (.int .i64 (e + (j : Int)))
      obtain ⟨z0, z1, z2⟩ := qq.held
      exact bodyPost_ret (v := .agg #[.bool true, .slice A4 n4 c4, .int .i64 (e + (j : Int))]) (by simp [results, Tryd.results69, go_sem, z0, z1, z2]) rfl ⟨_, _, _, rfl, hN, HB3⟩
    · have hy : y = x / 2 ^ j + 1 := by have h1 := HC.out; have h2 := HR.out; simpa [h2] using h1
      go_wp2_with fail
      refine wp_region_held_drew (S := fun w' => w'.cell? ⟨w.heap.size, 0, none⟩ = some (.bool false) ∧ w'.cell? ⟨w.heap.size, 1, none⟩ = some (.slice A n c) ∧ w'.cell? ⟨w.heap.size, 2, none⟩ = some (.int .i64 e)) (by kernel_rfl) (by first | (dsimp only; go_keep) | go_keep) (fun hHeldntf0 => ?_)
      refine wpAnyH_take (i := 0) (v := ?ntfv0) rfl (by kernel_rfl) (by kernel_rfl) (by kernel_rfl) (fun _ _ _ h => panic_put (P := Tryd.prog) (fn := Tryd.f69) (R := (NumIs false y (e + ((j : Nat) : Int)) w)) h) (Or.inl ⟨by rfl, ?ntfy0⟩) (by assumption) ?_
      case ntfy0 => (intro w hSw; (try dsimp only at hSw); go_simp); try with_reducible rfl
      change wpAnyH _ _ _ _ _ _ _ (Act.put _ (some 21) _) _
      simp only [Act.put, List.setIfInBounds_toArray, List.set_cons_zero, List.set_cons_succ]
      refine wpAnyH_take (i := 1) (v := ?ntfv1) rfl (by kernel_rfl) (by kernel_rfl) (by kernel_rfl) (fun _ _ _ h => panic_put (P := Tryd.prog) (fn := Tryd.f69) (R := (NumIs false y (e + ((j : Nat) : Int)) w)) h) (Or.inl ⟨by rfl, ?ntfy1⟩) (by assumption) ?_
      case ntfy1 => (intro w hSw; (try dsimp only at hSw); go_simp); try with_reducible rfl
      change wpAnyH _ _ _ _ _ _ _ (Act.put _ (some 22) _) _
      simp only [Act.put, List.setIfInBounds_toArray, List.set_cons_zero, List.set_cons_succ]
      refine wpAnyH_take (i := 2) (v := ?ntfv2) rfl (by kernel_rfl) (by kernel_rfl) (by kernel_rfl) (fun _ _ _ h => panic_put (P := Tryd.prog) (fn := Tryd.f69) (R := (NumIs false y (e + ((j : Nat) : Int)) w)) h) (Or.inl ⟨by rfl, ?ntfy2⟩) (by assumption) ?_
      case ntfy2 => (intro w hSw; (try dsimp only at hSw); go_simp); try with_reducible rfl
      change wpAnyH _ _ _ _ _ _ _ (Act.put _ (some 23) _) _
      simp only [Act.put, List.setIfInBounds_toArray, List.set_cons_zero, List.set_cons_succ]
      refine wpAnyH_take (i := 3) (v := ?ntfv3) rfl (by kernel_rfl) (by kernel_rfl) (by kernel_rfl) (fun _ _ _ h => panic_put (P := Tryd.prog) (fn := Tryd.f69) (R := (NumIs false y (e + ((j : Nat) : Int)) w)) h) (Or.inl ⟨by rfl, ?ntfy3⟩) (by assumption) ?_
      case ntfy3 => (intro w hSw; (try dsimp only at hSw); go_simp); try with_reducible rfl
      change wpAnyH _ _ _ _ _ _ _ (Act.put _ (some 24) _) _
      simp only [Act.put, List.setIfInBounds_toArray, List.set_cons_zero, List.set_cons_succ]
      refine wpAnyH_take (i := 4) (v := ?ntfv4) rfl (by kernel_rfl) (by kernel_rfl) (by kernel_rfl) (fun _ _ _ h => panic_put (P := Tryd.prog) (fn := Tryd.f69) (R := (NumIs false y (e + ((j : Nat) : Int)) w)) h) (Or.inl ⟨by rfl, ?ntfy4⟩) (by assumption) ?_
      case ntfy4 => (intro w hSw; (try dsimp only at hSw); go_simp); try with_reducible rfl
      change wpAnyH _ _ _ _ _ _ _ (Act.put _ (some 25) _) _
      simp only [Act.put, List.setIfInBounds_toArray, List.set_cons_zero, List.set_cons_succ]
      refine wpAnyH_take (i := 5) (v := ?ntfv5) rfl (by kernel_rfl) (by kernel_rfl) (by kernel_rfl) (fun _ _ _ h => panic_put (P := Tryd.prog) (fn := Tryd.f69) (R := (NumIs false y (e + ((j : Nat) : Int)) w)) h) (Or.inl ⟨by rfl, ?ntfy5⟩) (by assumption) ?_
      case ntfy5 => (intro w hSw; (try dsimp only at hSw); go_simp); try with_reducible rfl
      change wpAnyH _ _ _ _ _ _ _ (Act.put _ (some 26) _) _
      simp only [Act.put, List.setIfInBounds_toArray, List.set_cons_zero, List.set_cons_succ]
      refine wpAnyH_take (i := 6) (v := ?ntfv6) rfl (by kernel_rfl) (by kernel_rfl) (by kernel_rfl) (fun _ _ _ h => panic_put (P := Tryd.prog) (fn := Tryd.f69) (R := (NumIs false y (e + ((j : Nat) : Int)) w)) h) (Or.inl ⟨by rfl, ?ntfy6⟩) (by assumption) ?_
      case ntfy6 => (intro w hSw; (try dsimp only at hSw); go_simp); try with_reducible rfl
      change wpAnyH _ _ _ _ _ _ _ (Act.put _ (some 27) _) _
      simp only [Act.put, List.setIfInBounds_toArray, List.set_cons_zero, List.set_cons_succ]
      refine wpAnyH_take (i := 8) (v := ?ntfv8) rfl (by kernel_rfl) (by kernel_rfl) (by kernel_rfl) (fun _ _ _ h => panic_put (P := Tryd.prog) (fn := Tryd.f69) (R := (NumIs false y (e + ((j : Nat) : Int)) w)) h) (Or.inl ⟨by rfl, ?ntfy8⟩) (by assumption) ?_
      case ntfy8 => (intro w hSw; (try dsimp only at hSw); go_simp); try with_reducible rfl
      change wpAnyH _ _ _ _ _ _ _ (Act.put _ (some 29) _) _
      simp only [Act.put, List.setIfInBounds_toArray, List.set_cons_zero, List.set_cons_succ]
      refine wpAnyH_take (i := 9) (v := ?ntfv9) rfl (by kernel_rfl) (by kernel_rfl) (by kernel_rfl) (fun _ _ _ h => panic_put (P := Tryd.prog) (fn := Tryd.f69) (R := (NumIs false y (e + ((j : Nat) : Int)) w)) h) (Or.inl ⟨by rfl, ?ntfy9⟩) (by assumption) ?_
      case ntfy9 => (intro w hSw; (try dsimp only at hSw); go_simp); try with_reducible rfl
      change wpAnyH _ _ _ _ _ _ _ (Act.put _ (some 30) _) _
      simp only [Act.put, List.setIfInBounds_toArray, List.set_cons_zero, List.set_cons_succ]
      refine wpAnyH_ready (rs := [7]) (by kernel_rfl) (by simp) ?_
      refine AllReadyH.cons (o := _) rfl (fun K hK => ?_) AllReadyH.nil
      go_simp
      refine (rshl_any (s := j) (h2.heap32 (by rfl)) (by omega) (by omega)).mono ?_
      rintro en w' ⟨A3, n3, c3, rfl, h3, b⟩
      replace BB := below_next BB BB.size b (by rfl) (by rfl) (by rfl) (by rfl)
      have G := mv b (by rfl) <| And.intro a0 <| And.intro a1 <| And.intro a2 <| And.intro h <| And.intro r <| h2
      clear b a0 a1 a2 h r h2
      obtain ⟨a0, a1, a2, h, r, h2⟩ := G
      refine hK.out _ _ (by first | (dsimp only; go_keep) | go_keep) (fun hHeldntf1 => ?_)
      clear hK K hHeldntf0
      try simp only [Act.put]
      refine wpAnyH_ready (rs := [10]) (by kernel_rfl) (by simp) ?_
      refine AllReadyH.cons (o := _) rfl (fun K hK => ?_) AllReadyH.nil
      go_simp
      refine (rcmp_any (h3.heap32 (by rfl)) (h.heap32 (by rfl))).mono ?_
      rintro en w' ⟨rfl, b⟩
      rw [cmpN_lt HLT.out]
      clear h3
      replace BB := below_next BB BB.size b (by rfl) (by rfl) (by rfl) (by rfl)
      have G := mv b (by rfl) <| And.intro a0 <| And.intro a1 <| And.intro a2 <| And.intro h <| And.intro r <| h2
      clear b a0 a1 a2 h r h2
      obtain ⟨a0, a1, a2, h, r, h2⟩ := G
      refine hK.out _ _ (by first | (dsimp only; go_keep) | go_keep) (fun hHeldntf2 => ?_)
      clear hK K hHeldntf1
      try simp only [Act.put]
      refine wpAnyH_take (i := 11) (v := ?ntfv11) rfl (by kernel_rfl) (by kernel_rfl) (by kernel_rfl) (fun _ _ _ h => panic_put (P := Tryd.prog) (fn := Tryd.f69) (R := (NumIs false y (e + ((j : Nat) : Int)) w)) h) (Or.inl ⟨by rfl, ?ntfy11⟩) (by assumption) ?_
      case ntfy11 => (intro w hSw; (try dsimp only at hSw); go_simp); try with_reducible rfl
      change wpAnyH _ _ _ _ _ _ _ (Act.put _ (some 32) _) _
      simp only [Act.put, List.setIfInBounds_toArray, List.set_cons_zero, List.set_cons_succ]
      refine wpAnyH_take (i := 12) (v := ?ntfv12) rfl (by kernel_rfl) (by kernel_rfl) (by kernel_rfl) (fun _ _ _ h => panic_put (P := Tryd.prog) (fn := Tryd.f69) (R := (NumIs false y (e + ((j : Nat) : Int)) w)) h) (Or.inl ⟨by rfl, ?ntfy12⟩) (by assumption) ?_
      case ntfy12 => (intro w hSw; (try dsimp only at hSw); go_simp); try with_reducible rfl
      change wpAnyH _ _ _ _ _ _ _ (Act.put _ (some 33) _) _
      simp only [Act.put, List.setIfInBounds_toArray, List.set_cons_zero, List.set_cons_succ]
      refine wpAnyH_done (by kernel_rfl) ?_ _
      go_wp2_with fail
      have hone := dg_one w'
      have b := below_alloc w' (.cells #[.int .u32 1] 73)
      replace BB := below_next BB BB.size b rfl rfl rfl rfl
      have G := mv b rfl <| And.intro a0 <| And.intro a1 <| And.intro a2 <| And.intro h <| And.intro r <| h2
      clear b a0 a1 a2 h r h2
      obtain ⟨a0, a1, a2, h, r, h2⟩ := G
      refine (radd_any h2 hone (by omega) (by omega)).mono ?_
      rintro en w4 ⟨A4, n4, c4, rfl, h4, b⟩
      clear hone h2
      replace BB := below_next BB BB.size b rfl rfl rfl rfl
      have G := mv b rfl <| And.intro a0 <| And.intro a1 <| And.intro a2 <| And.intro h <| r
      clear b a0 a1 a2 h r
      obtain ⟨a0, a1, a2, h, r⟩ := G
      rw [← hy] at h4
      obtain ⟨f0, f1, f2⟩ := r.open
      obtain ⟨z0, z1, z2⟩ := r.held
      go_wp2
      have qq := r.put false A4 n4 c4 (e + (j : Int))
      have hN := h4.put3 r (.bool false) (.slice A4 n4 c4) (.int .i64 (e + (j : Int)))
      have HB3 := below_put3 (g := w.heap.size + 1) BB (by omega) (.bool false) (.slice A4 n4 c4) (.int .i64 (e + (j : Int)))
      obtain ⟨z0, z1, z2⟩ := qq.held
      exact bodyPost_ret (v := .agg #[.bool false, .slice A4 n4 c4, .int .i64 (e + (j : Int))]) (by simp [results, Tryd.results69, go_sem, z0, z1, z2]) rfl ⟨_, _, _, rfl, hN, HB3⟩
    · have hy : y = x / 2 ^ j := by have h1 := HC.out; have h2 := HR.out; simpa [h2] using h1
      go_wp2_with fail
      refine wp_region_held_drew (S := fun w' => w'.cell? ⟨w.heap.size, 0, none⟩ = some (.bool true) ∧ w'.cell? ⟨w.heap.size, 1, none⟩ = some (.slice A n c) ∧ w'.cell? ⟨w.heap.size, 2, none⟩ = some (.int .i64 e)) (by kernel_rfl) (by first | (dsimp only; go_keep) | go_keep) (fun hHeldntt0 => ?_)
      refine wpAnyH_take (i := 0) (v := ?nttv0) rfl (by kernel_rfl) (by kernel_rfl) (by kernel_rfl) (fun _ _ _ h => panic_put (P := Tryd.prog) (fn := Tryd.f69) (R := (NumIs true y (e + ((j : Nat) : Int)) w)) h) (Or.inl ⟨by rfl, ?ntty0⟩) (by assumption) ?_
      case ntty0 => (intro w hSw; (try dsimp only at hSw); go_simp); try with_reducible rfl
      change wpAnyH _ _ _ _ _ _ _ (Act.put _ (some 21) _) _
      simp only [Act.put, List.setIfInBounds_toArray, List.set_cons_zero, List.set_cons_succ]
      refine wpAnyH_take (i := 1) (v := ?nttv1) rfl (by kernel_rfl) (by kernel_rfl) (by kernel_rfl) (fun _ _ _ h => panic_put (P := Tryd.prog) (fn := Tryd.f69) (R := (NumIs true y (e + ((j : Nat) : Int)) w)) h) (Or.inl ⟨by rfl, ?ntty1⟩) (by assumption) ?_
      case ntty1 => (intro w hSw; (try dsimp only at hSw); go_simp); try with_reducible rfl
      change wpAnyH _ _ _ _ _ _ _ (Act.put _ (some 22) _) _
      simp only [Act.put, List.setIfInBounds_toArray, List.set_cons_zero, List.set_cons_succ]
      refine wpAnyH_take (i := 2) (v := ?nttv2) rfl (by kernel_rfl) (by kernel_rfl) (by kernel_rfl) (fun _ _ _ h => panic_put (P := Tryd.prog) (fn := Tryd.f69) (R := (NumIs true y (e + ((j : Nat) : Int)) w)) h) (Or.inl ⟨by rfl, ?ntty2⟩) (by assumption) ?_
      case ntty2 => (intro w hSw; (try dsimp only at hSw); go_simp); try with_reducible rfl
      change wpAnyH _ _ _ _ _ _ _ (Act.put _ (some 23) _) _
      simp only [Act.put, List.setIfInBounds_toArray, List.set_cons_zero, List.set_cons_succ]
      refine wpAnyH_take (i := 3) (v := ?nttv3) rfl (by kernel_rfl) (by kernel_rfl) (by kernel_rfl) (fun _ _ _ h => panic_put (P := Tryd.prog) (fn := Tryd.f69) (R := (NumIs true y (e + ((j : Nat) : Int)) w)) h) (Or.inl ⟨by rfl, ?ntty3⟩) (by assumption) ?_
      case ntty3 => (intro w hSw; (try dsimp only at hSw); go_simp); try with_reducible rfl
      change wpAnyH _ _ _ _ _ _ _ (Act.put _ (some 24) _) _
      simp only [Act.put, List.setIfInBounds_toArray, List.set_cons_zero, List.set_cons_succ]
      refine wpAnyH_take (i := 4) (v := ?nttv4) rfl (by kernel_rfl) (by kernel_rfl) (by kernel_rfl) (fun _ _ _ h => panic_put (P := Tryd.prog) (fn := Tryd.f69) (R := (NumIs true y (e + ((j : Nat) : Int)) w)) h) (Or.inl ⟨by rfl, ?ntty4⟩) (by assumption) ?_
      case ntty4 => (intro w hSw; (try dsimp only at hSw); go_simp); try with_reducible rfl
      change wpAnyH _ _ _ _ _ _ _ (Act.put _ (some 25) _) _
      simp only [Act.put, List.setIfInBounds_toArray, List.set_cons_zero, List.set_cons_succ]
      refine wpAnyH_take (i := 5) (v := undef) rfl (by kernel_rfl) (by kernel_rfl) (by kernel_rfl) (fun _ _ _ h => panic_put (P := Tryd.prog) (fn := Tryd.f69) (R := (NumIs true y (e + ((j : Nat) : Int)) w)) h) (Or.inr ⟨by rfl, rfl⟩) (by assumption) ?_
      change wpAnyH _ _ _ _ _ _ _ (Act.put _ (some 26) _) _
      simp only [Act.put, List.setIfInBounds_toArray, List.set_cons_zero, List.set_cons_succ]
      refine wpAnyH_take (i := 6) (v := undef) rfl (by kernel_rfl) (by kernel_rfl) (by kernel_rfl) (fun _ _ _ h => panic_put (P := Tryd.prog) (fn := Tryd.f69) (R := (NumIs true y (e + ((j : Nat) : Int)) w)) h) (Or.inr ⟨by rfl, rfl⟩) (by assumption) ?_
      change wpAnyH _ _ _ _ _ _ _ (Act.put _ (some 27) _) _
      simp only [Act.put, List.setIfInBounds_toArray, List.set_cons_zero, List.set_cons_succ]
      refine wpAnyH_take (i := 8) (v := undef) rfl (by kernel_rfl) (by kernel_rfl) (by kernel_rfl) (fun _ _ _ h => panic_put (P := Tryd.prog) (fn := Tryd.f69) (R := (NumIs true y (e + ((j : Nat) : Int)) w)) h) (Or.inr ⟨by rfl, rfl⟩) (by assumption) ?_
      change wpAnyH _ _ _ _ _ _ _ (Act.put _ (some 29) _) _
      simp only [Act.put, List.setIfInBounds_toArray, List.set_cons_zero, List.set_cons_succ]
      refine wpAnyH_take (i := 9) (v := undef) rfl (by kernel_rfl) (by kernel_rfl) (by kernel_rfl) (fun _ _ _ h => panic_put (P := Tryd.prog) (fn := Tryd.f69) (R := (NumIs true y (e + ((j : Nat) : Int)) w)) h) (Or.inr ⟨by rfl, rfl⟩) (by assumption) ?_
      change wpAnyH _ _ _ _ _ _ _ (Act.put _ (some 30) _) _
      simp only [Act.put, List.setIfInBounds_toArray, List.set_cons_zero, List.set_cons_succ]
      refine wpAnyH_ready (rs := [7]) (by kernel_rfl) (by simp) ?_
      refine AllReadyH.cons (o := _) rfl (fun K hK => ?_) AllReadyH.nil
      go_simp
      refine hK.out _ _ (by first | (dsimp only; go_keep) | go_keep) (fun hHeldntt1 => ?_)
      clear hK K hHeldntt0
      try simp only [Act.put]
      refine wpAnyH_ready (rs := [10]) (by kernel_rfl) (by simp) ?_
      refine AllReadyH.cons (o := _) rfl (fun K hK => ?_) AllReadyH.nil
      go_simp
      refine hK.out _ _ (by first | (dsimp only; go_keep) | go_keep) (fun hHeldntt2 => ?_)
      clear hK K hHeldntt1
      try simp only [Act.put]
      refine wpAnyH_take (i := 11) (v := undef) rfl (by kernel_rfl) (by kernel_rfl) (by kernel_rfl) (fun _ _ _ h => panic_put (P := Tryd.prog) (fn := Tryd.f69) (R := (NumIs true y (e + ((j : Nat) : Int)) w)) h) (Or.inr ⟨by rfl, rfl⟩) (by assumption) ?_
      change wpAnyH _ _ _ _ _ _ _ (Act.put _ (some 32) _) _
      simp only [Act.put, List.setIfInBounds_toArray, List.set_cons_zero, List.set_cons_succ]
      refine wpAnyH_take (i := 12) (v := ?nttv12) rfl (by kernel_rfl) (by kernel_rfl) (by kernel_rfl) (fun _ _ _ h => panic_put (P := Tryd.prog) (fn := Tryd.f69) (R := (NumIs true y (e + ((j : Nat) : Int)) w)) h) (Or.inl ⟨by rfl, ?ntty12⟩) (by assumption) ?_
      case ntty12 => (intro w hSw; (try dsimp only at hSw); go_simp); try with_reducible rfl
      change wpAnyH _ _ _ _ _ _ _ (Act.put _ (some 33) _) _
      simp only [Act.put, List.setIfInBounds_toArray, List.set_cons_zero, List.set_cons_succ]
      refine wpAnyH_done (by kernel_rfl) ?_ _
      rw [← hy] at h2
      obtain ⟨f0, f1, f2⟩ := r.open
      obtain ⟨z0, z1, z2⟩ := r.held
      go_wp2
      have qq := r.put true A2 n2 c2 (e + (j : Int))
      have hN := h2.put3 r (.bool true) (.slice A2 n2 c2) (.int .i64 (e + (j : Int)))
      have HB3 := below_put3 (g := w.heap.size + 1) BB (by omega) (.bool true) (.slice A2 n2 c2) (.int .i64 (e + (j : Int)))
      obtain ⟨z0, z1, z2⟩ := qq.held
      exact bodyPost_ret (v := .agg #[.bool true, .slice A2 n2 c2, .int .i64 (e + (j : Int))]) (by simp [results, Tryd.results69, go_sem, z0, z1, z2]) rfl ⟨_, _, _, rfl, Dg.heap32 hN rfl, HB3.drew⟩

end Go.Proofs.YtdjklanmkjbifaaDoor
