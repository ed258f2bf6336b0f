/-
  Contracts of the reference's SameDyad (of two that are the same), Of, Cut and Round, and of layer 3's same, at this translation. Condition: the slices read as limbs, or as digits of sixteen bits.
-/
import Derived.Test.YtijflbnfikiaaaaGreatDoorRe
import Derived.Test.YtijflbnfikiaaaaGreatDoorRf
import Derived.Test.YtijflbnfikiaaaaGreatDoorRRoot
namespace Go.Proofs.YtijflbnfikiaaaaGreatDoor
open Go.RowKit

/-- a reference's number -/
def NumIs (s : Bool) (x : Nat) (e : Int) (w : World) (en : Ending) (w' : World) : Prop := ∃ A n c, en = .returned (.agg #[.bool s, .slice A n c, .int .i64 e]) ∧ Dg w' A n c x ∧ Below w.heap.size w w'

set_option maxRecDepth 100000 in
set_option maxHeartbeats 8000000 in
theorem rsame_self {w : World} {A B : Option Addr} {n c m d x : Nat} {s : Bool} {e : Int} (h : Nt w A n c x) (h' : Nt w B m d x) :
    Calls Tryz.prog 50 #[.agg #[.bool s, .slice A n c, .int .i64 e], .agg #[.bool s, .slice B m d, .int .i64 e]] w fun en w' => en = .returned (.bool true) ∧ Below w.heap.size w w' := by
  obtain rfl : n = m := h.rd.len.symm.trans h'.rd.len
  have BB := two_below w (.cells #[.bool s, .slice A n c, .int .i64 e] 24) (.cells #[.bool s, .slice B n d, .int .i64 e] 24)
  obtain ⟨a10, a11, a12, a20, a21, a22⟩ := (two_new w s s A B n c n d e e).held
  have h1 := h.rd.next BB rfl
  have h2 := h'.rd.next BB rfl
  have hc := h1.cap
  have hm := h1.max
  have hc' := h2.cap
  have hm' := h2.max
  have fs : (s != s) = false := by simp
  have fe : (e != e) = false := by simp
  clear h h'
  generalize dig Go.Proofs.YtijflbnfikiaaaaGreatDoor.W x = l at *
  go_enter Tryz.func50, Tryz.ntmps50
  go_wp2
  go_loopg [5] n (fun g v wr => ∃ i : Nat, i + g = n ∧ v = .int .i64 i ∧ Below w.heap.size w wr ∧ wr.cell? ⟨w.heap.size, 1, none⟩ = some (.slice A n c) ∧ wr.cell? ⟨w.heap.size + 1, 1, none⟩ = some (.slice B n d) ∧ Rd wr .u64 Go.Proofs.YtijflbnfikiaaaaGreatDoor.W A n c l ∧ Rd wr .u64 Go.Proofs.YtijflbnfikiaaaaGreatDoor.W B n d l)
  case atStart => exact ⟨0, by omega, rfl, BB, a11, a21, h1, h2⟩
  case round =>
    obtain ⟨i, hg, rfl, hb, b1, b2, k1, k2⟩ := hrel
    clear BB a10 a11 a12 a20 a21 a22 h1 h2
    have HG := Lib.hid hg
    clear hg
    by_cases hi : i < n
    · obtain ⟨a, o, rfl, ha, hca⟩ := k1.at_ (by omega)
      obtain ⟨a', o', rfl, ha', hca'⟩ := k2.at_ (by omega)
      obtain ⟨y, hy⟩ : ∃ y, y = l.getD i 0 := ⟨_, rfl⟩
      have c1 : wr.cell? ⟨a, o + i, none⟩ = some (.int .u64 (y : Int)) := by rw [hy]; exact hca i hi
      have c2 : wr.cell? ⟨a', o' + i, none⟩ = some (.int .u64 (y : Int)) := by rw [hy]; exact hca' i hi
      have hp2 : (i : Int) < n := by omega
      have hp3 : (0 : Int) ≤ i := by omega
      have fy : ((y : Int) != (y : Int)) = false := by simp
      clear hy hca hca'
      go_wp2
      go_quiet (fail)
      go_wp2
      go_roundg (gk - 1)
      case measure => have := HG.out; omega
      case rel => exact ⟨i + 1, by have := HG.out; omega, by go_num, below_drewN hb _, b1, b2, k1.drewN _, k2.drewN _⟩
    · have : i = n := by have := HG.out; omega
      subst this
      go_wp2
      go_ret
      exact ⟨rfl, hb⟩

set_option maxRecDepth 100000 in
set_option maxHeartbeats 8000000 in
theorem rof_any {w : World} {A : Option Addr} {n c x : Nat} {s : Bool} {e : Int} (h : Nt w A n c x) :
    Calls Tryz.prog 72 #[.agg #[.bool s, .slice A n c, .int .i64 e]] w (NumIs s x e w) := by
  have hn := h.le
  have BB := two_below w (.cells #[.bool s, .slice A n c, .int .i64 e] 24) (.cells #[.bool false, .slice none 0 0, .int .i64 0] 72)
  obtain ⟨a0, a1, a2⟩ := ((Box.new w s A n c e).alloc (.cells #[.bool false, .slice none 0 0, .int .i64 0] 72)).held
  have r := dbx_one w (.cells #[.bool s, .slice A n c, .int .i64 e] 24) false none 0 0 0
  replace h := h.next BB rfl
  go_enter Tryz.func72, Tryz.ntmps72
  go_wp2_with fail
  have ne1 : ¬ w.heap.size + 1 = w.heap.size := by omega
  have ne2 : ¬ w.heap.size = w.heap.size + 1 := by omega
  refine wp_region_held_drew (S := fun w' => w'.cell? ⟨w.heap.size, 0, none⟩ = some (.bool s) ∧ w'.cell? ⟨w.heap.size, 1, none⟩ = some (.slice A n c) ∧ w'.cell? ⟨w.heap.size, 2, none⟩ = some (.int .i64 e)) (by kernel_rfl) (by first | (dsimp only; go_keep) | go_keep) (fun hHeld0 => ?_)
  refine wpAnyH_take (i := 0) (v := ?v0) rfl (by kernel_rfl) (by kernel_rfl) (by kernel_rfl) (fun _ _ _ h => panic_put (P := Tryz.prog) (fn := Tryz.f72) (R := (NumIs s x e w)) h) (Or.inl ⟨by rfl, ?y0⟩) (by assumption) ?_
  case y0 => (intro w hSw; (try dsimp only at hSw); go_simp); try with_reducible rfl
  change wpAnyH _ _ _ _ _ _ _ (Act.put _ (some 3) _) _
  simp only [Act.put, List.setIfInBounds_toArray, List.set_cons_zero, List.set_cons_succ]
  refine wpAnyH_take (i := 1) (v := ?v1) rfl (by kernel_rfl) (by kernel_rfl) (by kernel_rfl) (fun _ _ _ h => panic_put (P := Tryz.prog) (fn := Tryz.f72) (R := (NumIs s x e w)) h) (Or.inl ⟨by rfl, ?y1⟩) (by assumption) ?_
  case y1 => (intro w hSw; (try dsimp only at hSw); go_simp); try with_reducible rfl
  change wpAnyH _ _ _ _ _ _ _ (Act.put _ (some 4) _) _
  simp only [Act.put, List.setIfInBounds_toArray, List.set_cons_zero, List.set_cons_succ]
  refine wpAnyH_take (i := 2) (v := ?v2) rfl (by kernel_rfl) (by kernel_rfl) (by kernel_rfl) (fun _ _ _ h => panic_put (P := Tryz.prog) (fn := Tryz.f72) (R := (NumIs s x e w)) h) (Or.inl ⟨by rfl, ?y2⟩) (by assumption) ?_
  case y2 => (intro w hSw; (try dsimp only at hSw); go_simp); try with_reducible rfl
  change wpAnyH _ _ _ _ _ _ _ (Act.put _ (some 5) _) _
  simp only [Act.put, List.setIfInBounds_toArray, List.set_cons_zero, List.set_cons_succ]
  refine wpAnyH_take (i := 3) (v := ?v3) rfl (by kernel_rfl) (by kernel_rfl) (by kernel_rfl) (fun _ _ _ h => panic_put (P := Tryz.prog) (fn := Tryz.f72) (R := (NumIs s x e w)) h) (Or.inl ⟨by rfl, ?y3⟩) (by assumption) ?_
  case y3 => (intro w hSw; (try dsimp only at hSw); go_simp); try with_reducible rfl
  change wpAnyH _ _ _ _ _ _ _ (Act.put _ (some 6) _) _
  simp only [Act.put, List.setIfInBounds_toArray, List.set_cons_zero, List.set_cons_succ]
  refine wpAnyH_take (i := 5) (v := ?v5) rfl (by kernel_rfl) (by kernel_rfl) (by kernel_rfl) (fun _ _ _ h => panic_put (P := Tryz.prog) (fn := Tryz.f72) (R := (NumIs s x e w)) h) (Or.inl ⟨by rfl, ?y5⟩) (by assumption) ?_
  case y5 => (intro w hSw; (try dsimp only at hSw); go_simp); try with_reducible rfl
  change wpAnyH _ _ _ _ _ _ _ (Act.put _ (some 8) _) _
  simp only [Act.put, List.setIfInBounds_toArray, List.set_cons_zero, List.set_cons_succ]
  refine wpAnyH_take (i := 6) (v := ?v6) rfl (by kernel_rfl) (by kernel_rfl) (by kernel_rfl) (fun _ _ _ h => panic_put (P := Tryz.prog) (fn := Tryz.f72) (R := (NumIs s x e w)) h) (Or.inl ⟨by rfl, ?y6⟩) (by assumption) ?_
  case y6 => (intro w hSw; (try dsimp only at hSw); go_simp); try with_reducible rfl
  change wpAnyH _ _ _ _ _ _ _ (Act.put _ (some 9) _) _
  simp only [Act.put, List.setIfInBounds_toArray, List.set_cons_zero, List.set_cons_succ]
  refine wpAnyH_ready (rs := [4]) (by kernel_rfl) (by simp) ?_
  refine AllReadyH.cons (o := _) rfl (fun K hK => ?_) AllReadyH.nil
  go_simp
  refine (rfrom_any (h.rd.next' (by rfl)) (by omega)).mono ?_
  rintro en w' ⟨A4, n4, c4, rfl, h4, b⟩
  rw [val_dig W_two] at h4
  replace BB := below_next BB BB.size b (by rfl) (by rfl) (by rfl) (by rfl)
  have G := mv b (by rfl) <| And.intro a0 <| And.intro a1 <| And.intro a2 r
  clear b a0 a1 a2 h r
  obtain ⟨a0, a1, a2, r⟩ := G
  obtain ⟨f0, f1, f2⟩ := r.open
  obtain ⟨z0, z1, z2⟩ := r.held
  refine hK.out _ _ (by first | (dsimp only; go_keep) | go_keep) (fun hHeld1 => ?_)
  clear hK K hHeld0
  try simp only [Act.put]
  refine wpAnyH_take (i := 7) (v := ?v7) rfl (by kernel_rfl) (by kernel_rfl) (by kernel_rfl) (fun _ _ _ h => panic_put (P := Tryz.prog) (fn := Tryz.f72) (R := (NumIs s x e w)) h) (Or.inl ⟨by rfl, ?y7⟩) (by assumption) ?_
  case y7 => (intro w hSw; (try dsimp only at hSw); go_simp); try with_reducible rfl
  change wpAnyH _ _ _ _ _ _ _ (Act.put _ (some 10) _) _
  simp only [Act.put, List.setIfInBounds_toArray, List.set_cons_zero, List.set_cons_succ]
  refine wpAnyH_ready (rs := [8]) (by kernel_rfl) (by simp) ?_
  refine AllReadyH.cons (o := _) rfl (fun K hK => ?_) AllReadyH.nil
  go_simp
  refine hK.out _ _ (by first | (dsimp only; go_keep) | go_keep) (fun hHeld2 => ?_)
  clear hK K hHeld1
  try simp only [Act.put]
  refine wpAnyH_done (by kernel_rfl) ?_ _
  go_wp2
  have qq := r.put s A4 n4 c4 e
  have hN := h4.put3 r (.bool s) (.slice A4 n4 c4) (.int .i64 e)
  have HB3 := below_put3 (g := w.heap.size + 1) BB (by omega) (.bool s) (.slice A4 n4 c4) (.int .i64 e)
  obtain ⟨z0, z1, z2⟩ := qq.held
  exact bodyPost_ret (v := .agg #[.bool s, .slice A4 n4 c4, .int .i64 e]) (by simp [results, Tryz.results72, go_sem, z0, z1, z2]) rfl ⟨_, _, _, rfl, hN, HB3⟩

theorem digits_le {w : World} {A : Option Addr} {n c x : Nat} (h : Dg w A n c x) (hx : x < Go.Proofs.YtijflbnfikiaaaaGreatDoor.H ^ 600) : n ≤ 600 := dg_small h hx

end Go.Proofs.YtijflbnfikiaaaaGreatDoor
