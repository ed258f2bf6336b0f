/-
 Contracts of the reference's CmpDyad, MulDyad, SubDyad, at this translation. Condition: the slices read as limbs.
-/
import Derived.Test.YtdklnpaocaebkaaGreatDoorRj
set_option maxHeartbeats 8000000
set_option maxRecDepth 100000
namespace Go.Proofs.YtdklnpaocaebkaaGreatDoor
open Go.RowKit

theorem rsign_no {w : World} {A1 : Option Addr} {n1 c1 : Nat} {l1 : List Nat} {s1 : Bool} {e1 : Int} (h1 : Rd w .u64 Go.Proofs.YtdklnpaocaebkaaGreatDoor.W A1 n1 c1 l1) (hd : mayD s1 l1 e1 = false) :
  Calls Tryz.prog 72 #[.agg #[.bool s1, .slice A1 n1 c1, .int .i64 e1]] w (Ints 0 w) := by
 have BB := below_alloc w (.cells #[.bool s1, .slice A1 n1 c1, .int .i64 e1] 24)
 obtain ⟨a10, a11, a12⟩ := (Box.new w s1 A1 n1 c1 e1).held
 replace h1 := mv BB rfl h1
 have HD := Lib.hid hd
 clear hd
 go_enter Tryz.func72, Tryz.ntmps72
 go_wp2_with fail
 refine (rmayd_any (s := s1) (e := e1) h1).mono ?_
 rintro en w1 ⟨rfl, b⟩
 rw [HD.out]
 replace BB := bnx BB b
 have G := mv b rfl (J4 a10 a11 a12 h1)
 clear b a10 a11 a12 h1
 obtain ⟨a10, a11, a12, h1⟩ := G
 go_wp2
 go_ret
 exact ⟨rfl, BB⟩

theorem rsign_ok {w : World} {A1 : Option Addr} {n1 c1 x1 : Nat} {s1 : Bool} {e1 : Int} (h1 : Nt w A1 n1 c1 x1) (d1 : OkD s1 x1 e1) :
  Calls Tryz.prog 72 #[.agg #[.bool s1, .slice A1 n1 c1, .int .i64 e1]] w (Ints (signD s1 x1) w) := by
 have hz : n1 = 0 ↔ x1 = 0 := h1.zero
 have BB := below_alloc w (.cells #[.bool s1, .slice A1 n1 c1, .int .i64 e1] 24)
 obtain ⟨a10, a11, a12⟩ := (Box.new w s1 A1 n1 c1 e1).held
 replace h1 := mv BB rfl h1
 have HD := Lib.hid (mayD_ok d1)
 clear d1
 obtain ⟨z, hS⟩ : ∃ z, z = signD s1 x1 := ⟨_, rfl⟩
 rw [← hS]
 unfold signD at hS
 have HS := Lib.hid hS
 clear hS
 go_enter Tryz.func72, Tryz.ntmps72
 go_wp2_with fail
 refine (rmayd_any (s := s1) (e := e1) h1.rd).mono ?_
 rintro en w1 ⟨rfl, b⟩
 rw [HD.out]
 replace BB := bnx BB b
 have G := mv b rfl (J4 a10 a11 a12 h1)
 clear b a10 a11 a12 h1
 obtain ⟨a10, a11, a12, h1⟩ := G
 by_cases h0 : n1 = 0
 ·have HR : Hid (z = 0) := Lib.hid (by rw [HS.out, if_pos (hz.1 h0)])
  have f00 : ((n1 : Int) == 0) = true := by simp [h0]
  clear hz h0 HS
  go_wp2
  go_ret
  exact ⟨congrArg (fun z => Ending.returned (Value.int .i64 z)) HR.out.symm, BB⟩
 have hx : x1 ≠ 0 := fun h => h0 (hz.2 h)
 have f00 : ((n1 : Int) == 0) = false := by simp [h0]
 cases s1
 ·have HR : Hid (z = 1) := Lib.hid (by rw [HS.out, if_neg hx]; rfl)
  clear hz h0 HS hx
  go_wp2
  go_ret
  exact ⟨congrArg (fun z => Ending.returned (Value.int .i64 z)) HR.out.symm, BB⟩
 ·have HR : Hid (z = -1) := Lib.hid (by rw [HS.out, if_neg hx]; rfl)
  clear hz h0 HS hx
  go_wp2
  go_ret
  exact ⟨congrArg (fun z => Ending.returned (Value.int .i64 z)) HR.out.symm, BB⟩

theorem rsign_raw {w : World} {A1 : Option Addr} {n1 c1 : Nat} {l1 : List Nat} {s1 : Bool} {e1 : Int} (h1 : Rd w .u64 Go.Proofs.YtdklnpaocaebkaaGreatDoor.W A1 n1 c1 l1) :
  Calls Tryz.prog 72 #[.agg #[.bool s1, .slice A1 n1 c1, .int .i64 e1]] w (Ints (signR s1 l1 e1) w) := by
 unfold signR
 by_cases hd : mayD s1 l1 e1 = true
 ·rw [if_pos hd]
  obtain ⟨hN, hok, _⟩ := rd_okd h1 hd
  exact rsign_ok hN hok
 ·rw [if_neg hd]
  exact rsign_no h1 (Bool.eq_false_iff.2 hd)
theorem signR_zero {s : Bool} {l : List Nat} {e : Int} : signR s l e = 0 ↔ ¬ (mayD s l e = true ∧ val Go.Proofs.YtdklnpaocaebkaaGreatDoor.W l ≠ 0) := by
 unfold signR
 by_cases hd : mayD s l e = true
 ·rw [if_pos hd]
  rcases signD_cases s (val Go.Proofs.YtdklnpaocaebkaaGreatDoor.W l) with ⟨h0, h1⟩ | ⟨h0, h2, h1⟩ | ⟨h0, h2, h1⟩
  ·exact ⟨fun _ h => h.2 h0, fun _ => h1⟩
  ·exact ⟨fun h => by omega, fun h => absurd ⟨hd, h0⟩ h⟩
  ·exact ⟨fun h => by omega, fun h => absurd ⟨hd, h0⟩ h⟩
 ·rw [if_neg hd]
  exact ⟨fun _ h => hd h.1, fun _ => rfl⟩
theorem rneg_raw {w : World} {A1 : Option Addr} {n1 c1 : Nat} {l1 : List Nat} {s1 : Bool} {e1 : Int} (h1 : Rd w .u64 Go.Proofs.YtdklnpaocaebkaaGreatDoor.W A1 n1 c1 l1) :
  Calls Tryz.prog 82 #[.agg #[.bool s1, .slice A1 n1 c1, .int .i64 e1]] w fun en w' => en = .returned (.agg #[.bool (negR s1 l1 e1), .slice A1 n1 c1, .int .i64 e1]) ∧ Rd w' .u64 Go.Proofs.YtdklnpaocaebkaaGreatDoor.W A1 n1 c1 l1 ∧ Below w.heap.size w w' := by
 have BB := two_below w (.cells #[.bool s1, .slice A1 n1 c1, .int .i64 e1] 24) (.cells #[.bool false, .slice none 0 0, .int .i64 0] 24)
 have xa := (Box.new w s1 A1 n1 c1 e1).alloc (.cells #[.bool false, .slice none 0 0, .int .i64 0] 24)
 obtain ⟨a10, a11, a12⟩ := xa.held
 have r := box_one' w (.cells #[.bool s1, .slice A1 n1 c1, .int .i64 e1] 24) false none 0 0 0
 have ne1 : ¬ w.heap.size + 1 = w.heap.size := by omega
 have ne2 : ¬ w.heap.size = w.heap.size + 1 := by omega
 replace h1 := mv BB rfl h1
 obtain ⟨sg1, hsg⟩ : ∃ t, t = negR s1 l1 e1 := ⟨_, rfl⟩
 rw [← hsg]
 have HSG := Lib.hid hsg
 clear hsg
 go_enter Tryz.func82, Tryz.ntmps82
 go_wp2_with fail
 refine (rsign_raw h1).mono ?_
 rintro en w1 ⟨rfl, b⟩
 replace BB := bnx BB b
 have G := mv b rfl (J6 a10 a11 a12 h1 r xa)
 clear b a10 a11 a12 h1 r xa
 obtain ⟨a10, a11, a12, h1, r, xa⟩ := G
 by_cases hz : signR s1 l1 e1 = 0
 ·have HR : Hid (sg1 = s1) := Lib.hid (by rw [HSG.out]; unfold negR; rw [if_neg (signR_zero.1 hz)])
  rw [hz]
  clear HSG
  obtain ⟨f0, f1, f2⟩ := r.open
  obtain ⟨z0, z1, z2⟩ := r.held
  clear hz
  go_wp2
  have q := r.put s1 A1 n1 c1 e1
  have hoff := h1.off r.no
  have hN := ((h1.set1 hoff 0 (.bool s1)).set1 hoff 1 (.slice A1 n1 c1)).set1 hoff 2 (.int .i64 e1)
  have HB3 := below_put3 (g := w.heap.size + 1) BB (by omega) (.bool s1) (.slice A1 n1 c1) (.int .i64 e1)
  obtain ⟨z0, z1, z2⟩ := q.held
  exact bodyPost_ret (v := .agg #[.bool s1, .slice A1 n1 c1, .int .i64 e1]) (by simp [results, Tryz.results82, go_sem, z0, z1, z2]) rfl ⟨congrArg (fun t => Ending.returned (Value.agg #[.bool t, .slice A1 n1 c1, .int .i64 e1])) HR.out.symm, hN, HB3⟩
 have HR : Hid (sg1 = !s1) := Lib.hid (by rw [HSG.out]; unfold negR; rw [if_pos (Classical.byContradiction fun h => hz (signR_zero.2 h))])
 clear HSG
 have fz : (signR s1 l1 e1 != 0) = true := by simp [hz]
 generalize signR s1 l1 e1 = z at *
 obtain ⟨f0, f1, f2⟩ := r.open
 obtain ⟨z0, z1, z2⟩ := r.held
 obtain ⟨y0, y1, y2⟩ := xa.open
 clear hz
 go_wp2
 have hoff := h1.off xa.no
 have r' := r.other (g' := w.heap.size) (by omega) 0 (.bool (!s1))
 have h1' : Rd (w1.setCell ⟨w.heap.size, 0, none⟩ (.bool (!s1))) .u64 Go.Proofs.YtdklnpaocaebkaaGreatDoor.W A1 n1 c1 l1 := h1.set1 hoff 0 _
 have BB' := BB.setCell (p := ⟨w.heap.size, 0, none⟩) (Nat.le_refl _) (.bool (!s1))
 have q := r'.put (!s1) A1 n1 c1 e1
 have hoff' := h1'.off r'.no
 have hN := ((h1'.set1 hoff' 0 (.bool (!s1))).set1 hoff' 1 (.slice A1 n1 c1)).set1 hoff' 2 (.int .i64 e1)
 have HB3 := below_put3 (g := w.heap.size + 1) BB' (by omega) (.bool (!s1)) (.slice A1 n1 c1) (.int .i64 e1)
 obtain ⟨z0, z1, z2⟩ := q.held
 exact bodyPost_ret (v := .agg #[.bool (!s1), .slice A1 n1 c1, .int .i64 e1]) (by simp [results, Tryz.results82, go_sem, z0, z1, z2]) rfl ⟨congrArg (fun t => Ending.returned (Value.agg #[.bool t, .slice A1 n1 c1, .int .i64 e1])) HR.out.symm, hN, HB3⟩

end Go.Proofs.YtdklnpaocaebkaaGreatDoor

namespace Go.Proofs.YtdklnpaocaebkaaGreatDoor
open Go.RowKit

theorem dbx_two (w : World) {A1 A2 : Option Addr} {n1 c1 n2 c2 : Nat} {s1 s2 : Bool} {e1 e2 : Int} : Dbx ((w.alloc (.cells #[.bool s1, .slice A1 n1 c1, .int .i64 e1] 73)).alloc (.cells #[.bool s2, .slice A2 n2 c2, .int .i64 e2] 73)) w.heap.size s1 A1 n1 c1 e1 ∧ Dbx ((w.alloc (.cells #[.bool s1, .slice A1 n1 c1, .int .i64 e1] 73)).alloc (.cells #[.bool s2, .slice A2 n2 c2, .int .i64 e2] 73)) (w.heap.size + 1) s2 A2 n2 c2 e2 :=
 ⟨(Dbx.new w s1 A1 n1 c1 e1).alloc _, by simpa using Dbx.new (w.alloc (.cells #[.bool s1, .slice A1 n1 c1, .int .i64 e1] 73)) s2 A2 n2 c2 e2⟩
theorem rsize_lt {w : World} {A1 A2 : Option Addr} {n1 c1 n2 c2 x y : Nat} {s1 s2 : Bool} {e1 e2 : Int} (h1 : Dg w A1 n1 c1 x) (h2 : Dg w A2 n2 c2 y) (bx : blen x ≤ 4096) (by_ : blen y ≤ 4096) (hn1 : n1 ≤ 600) (hn2 : n2 ≤ 600) (r1 : -1048576 ≤ e1) (r2 : e1 ≤ 1048576) (r3 : -1048576 ≤ e2) (r4 : e2 ≤ 1048576) (hr : (blen x : Int) + e1 < (blen y : Int) + e2) :
  Calls Tryz.prog 114 #[.agg #[.bool s1, .slice A1 n1 c1, .int .i64 e1], .agg #[.bool s2, .slice A2 n2 c2, .int .i64 e2]] w (Ints (-1) w) := by
 have BB := two_below w (.cells #[.bool s1, .slice A1 n1 c1, .int .i64 e1] 73) (.cells #[.bool s2, .slice A2 n2 c2, .int .i64 e2] 73)
 obtain ⟨xa, xb⟩ := dbx_two w (s1 := s1) (A1 := A1) (n1 := n1) (c1 := c1) (e1 := e1) (s2 := s2) (A2 := A2) (n2 := n2) (c2 := c2) (e2 := e2)
 obtain ⟨a10, a11, a12⟩ := xa.held
 obtain ⟨a20, a21, a22⟩ := xb.held
 clear xa xb
 have G := mv BB rfl <| And.intro h1 <| h2
 clear h1 h2
 obtain ⟨h1, h2⟩ := G
 have hw1 : IntKind.i64.wrap ((blen x : Int) + e1) = (blen x : Int) + e1 := IntWalk.i64_in _ (by omega)
 have hw2 : IntKind.i64.wrap ((blen y : Int) + e2) = (blen y : Int) + e2 := IntWalk.i64_in _ (by omega)
 go_enter Tryz.func114, Tryz.ntmps114
 go_wp2_with fail
 refine rgn (fun w' => w'.cell? ⟨w.heap.size, 0, none⟩ = some (.bool s1) ∧ w'.cell? ⟨w.heap.size, 1, none⟩ = some (.slice A1 n1 c1) ∧ w'.cell? ⟨w.heap.size, 2, none⟩ = some (.int .i64 e1) ∧ w'.cell? ⟨(w.heap.size + 1), 0, none⟩ = some (.bool s2) ∧ w'.cell? ⟨(w.heap.size + 1), 1, none⟩ = some (.slice A2 n2 c2) ∧ w'.cell? ⟨(w.heap.size + 1), 2, none⟩ = some (.int .i64 e2)) fun hHeldu0 => ?_
 refine tl 0 ?_
 refine tl 1 ?_
 refine tl 3 ?_
 refine tl 4 ?_
 refine tl 6 ?_
 refine tl 7 ?_
 refine tl 9 ?_
 refine tl 10 ?_
 refine rdy 2 fun K hK => ?_
 go_simp
 refine (rbits_any (h1.heap32 (by rfl)) (by omega)).mono ?_
 rintro en w' ⟨rfl, rfl⟩
 refine bk hK fun hHeldu1 => ?_
 clear hK K hHeldu0
 try simp only [Act.put]
 refine wpAnyH_take (i := 5) (v := ?uv5) rfl (by kernel_rfl) (by kernel_rfl) (by kernel_rfl) (fun _ _ _ h => panic_put (P := Tryz.prog) (fn := Tryz.f114) (R := (Ints (-1) w)) h) (Or.inl ⟨by rfl, ?uy5⟩) (by assumption) ?_
 case uy5 => (intro w hSw; (try dsimp only at hSw); go_simp; (try simp only [hw1, hw2])); try with_reducible rfl
 change wpAnyH _ _ _ _ _ _ _ (Act.put _ (some 13) _) _
 simp only [Act.put, List.setIfInBounds_toArray, List.set_cons_zero, List.set_cons_succ]
 refine rdy 8 fun K hK => ?_
 go_simp
 refine (rbits_any (h2.heap32 (by rfl)) (by omega)).mono ?_
 rintro en w' ⟨rfl, rfl⟩
 refine bk hK fun hHeldu2 => ?_
 clear hK K hHeldu1
 try simp only [Act.put]
 refine wpAnyH_take (i := 11) (v := ?uv11) rfl (by kernel_rfl) (by kernel_rfl) (by kernel_rfl) (fun _ _ _ h => panic_put (P := Tryz.prog) (fn := Tryz.f114) (R := (Ints (-1) w)) h) (Or.inl ⟨by rfl, ?uy11⟩) (by assumption) ?_
 case uy11 => (intro w hSw; (try dsimp only at hSw); go_simp; (try simp only [hw1, hw2])); try with_reducible rfl
 change wpAnyH _ _ _ _ _ _ _ (Act.put _ (some 19) _) _
 simp only [Act.put, List.setIfInBounds_toArray, List.set_cons_zero, List.set_cons_succ]
 refine tl 12 ?_
 refine tl 13 ?_
 refine wpAnyH_done (by kernel_rfl) ?_ _
 have q0 : ((blen x : Int) + e1 != (blen y : Int) + e2) = true := by simp; omega
 have q1 : decide ((blen x : Int) + e1 < (blen y : Int) + e2) = true := decide_eq_true (by omega)
 clear hr
 go_wp2
 go_ret
 exact ⟨rfl, below_drewN BB _⟩

theorem rsize_gt {w : World} {A1 A2 : Option Addr} {n1 c1 n2 c2 x y : Nat} {s1 s2 : Bool} {e1 e2 : Int} (h1 : Dg w A1 n1 c1 x) (h2 : Dg w A2 n2 c2 y) (bx : blen x ≤ 4096) (by_ : blen y ≤ 4096) (hn1 : n1 ≤ 600) (hn2 : n2 ≤ 600) (r1 : -1048576 ≤ e1) (r2 : e1 ≤ 1048576) (r3 : -1048576 ≤ e2) (r4 : e2 ≤ 1048576) (hr : (blen y : Int) + e2 < (blen x : Int) + e1) :
  Calls Tryz.prog 114 #[.agg #[.bool s1, .slice A1 n1 c1, .int .i64 e1], .agg #[.bool s2, .slice A2 n2 c2, .int .i64 e2]] w (Ints 1 w) := by
 have BB := two_below w (.cells #[.bool s1, .slice A1 n1 c1, .int .i64 e1] 73) (.cells #[.bool s2, .slice A2 n2 c2, .int .i64 e2] 73)
 obtain ⟨xa, xb⟩ := dbx_two w (s1 := s1) (A1 := A1) (n1 := n1) (c1 := c1) (e1 := e1) (s2 := s2) (A2 := A2) (n2 := n2) (c2 := c2) (e2 := e2)
 obtain ⟨a10, a11, a12⟩ := xa.held
 obtain ⟨a20, a21, a22⟩ := xb.held
 clear xa xb
 have G := mv BB rfl <| And.intro h1 <| h2
 clear h1 h2
 obtain ⟨h1, h2⟩ := G
 have hw1 : IntKind.i64.wrap ((blen x : Int) + e1) = (blen x : Int) + e1 := IntWalk.i64_in _ (by omega)
 have hw2 : IntKind.i64.wrap ((blen y : Int) + e2) = (blen y : Int) + e2 := IntWalk.i64_in _ (by omega)
 go_enter Tryz.func114, Tryz.ntmps114
 go_wp2_with fail
 refine rgn (fun w' => w'.cell? ⟨w.heap.size, 0, none⟩ = some (.bool s1) ∧ w'.cell? ⟨w.heap.size, 1, none⟩ = some (.slice A1 n1 c1) ∧ w'.cell? ⟨w.heap.size, 2, none⟩ = some (.int .i64 e1) ∧ w'.cell? ⟨(w.heap.size + 1), 0, none⟩ = some (.bool s2) ∧ w'.cell? ⟨(w.heap.size + 1), 1, none⟩ = some (.slice A2 n2 c2) ∧ w'.cell? ⟨(w.heap.size + 1), 2, none⟩ = some (.int .i64 e2)) fun hHeldu0 => ?_
 refine tl 0 ?_
 refine tl 1 ?_
 refine tl 3 ?_
 refine tl 4 ?_
 refine tl 6 ?_
 refine tl 7 ?_
 refine tl 9 ?_
 refine tl 10 ?_
 refine rdy 2 fun K hK => ?_
 go_simp
 refine (rbits_any (h1.heap32 (by rfl)) (by omega)).mono ?_
 rintro en w' ⟨rfl, rfl⟩
 refine bk hK fun hHeldu1 => ?_
 clear hK K hHeldu0
 try simp only [Act.put]
 refine wpAnyH_take (i := 5) (v := ?uv5) rfl (by kernel_rfl) (by kernel_rfl) (by kernel_rfl) (fun _ _ _ h => panic_put (P := Tryz.prog) (fn := Tryz.f114) (R := (Ints 1 w)) h) (Or.inl ⟨by rfl, ?uy5⟩) (by assumption) ?_
 case uy5 => (intro w hSw; (try dsimp only at hSw); go_simp; (try simp only [hw1, hw2])); try with_reducible rfl
 change wpAnyH _ _ _ _ _ _ _ (Act.put _ (some 13) _) _
 simp only [Act.put, List.setIfInBounds_toArray, List.set_cons_zero, List.set_cons_succ]
 refine rdy 8 fun K hK => ?_
 go_simp
 refine (rbits_any (h2.heap32 (by rfl)) (by omega)).mono ?_
 rintro en w' ⟨rfl, rfl⟩
 refine bk hK fun hHeldu2 => ?_
 clear hK K hHeldu1
 try simp only [Act.put]
 refine wpAnyH_take (i := 11) (v := ?uv11) rfl (by kernel_rfl) (by kernel_rfl) (by kernel_rfl) (fun _ _ _ h => panic_put (P := Tryz.prog) (fn := Tryz.f114) (R := (Ints 1 w)) h) (Or.inl ⟨by rfl, ?uy11⟩) (by assumption) ?_
 case uy11 => (intro w hSw; (try dsimp only at hSw); go_simp; (try simp only [hw1, hw2])); try with_reducible rfl
 change wpAnyH _ _ _ _ _ _ _ (Act.put _ (some 19) _) _
 simp only [Act.put, List.setIfInBounds_toArray, List.set_cons_zero, List.set_cons_succ]
 refine tl 12 ?_
 refine tl 13 ?_
 refine wpAnyH_done (by kernel_rfl) ?_ _
 have q0 : ((blen x : Int) + e1 != (blen y : Int) + e2) = true := by simp; omega
 have q1 : decide ((blen x : Int) + e1 < (blen y : Int) + e2) = false := decide_eq_false (by omega)
 clear hr
 go_wp2
 go_ret
 exact ⟨rfl, below_drewN BB _⟩

theorem rsize_eq {w : World} {A1 A2 : Option Addr} {n1 c1 n2 c2 x y i j : Nat} {s1 s2 : Bool} {e1 e2 lo : Int} (h1 : Dg w A1 n1 c1 x) (h2 : Dg w A2 n2 c2 y) (bx : blen x ≤ 4096) (by_ : blen y ≤ 4096) (hn1 : n1 ≤ 600) (hn2 : n2 ≤ 600) (r1 : -1048576 ≤ e1) (r2 : e1 ≤ 1048576) (r3 : -1048576 ≤ e2) (r4 : e2 ≤ 1048576) (hr : (blen x : Int) + e1 = (blen y : Int) + e2) (hlo : min e1 e2 = lo) (hi : e1 - lo = (i : Int)) (hj : e2 - lo = (j : Int)) :
  Calls Tryz.prog 114 #[.agg #[.bool s1, .slice A1 n1 c1, .int .i64 e1], .agg #[.bool s2, .slice A2 n2 c2, .int .i64 e2]] w (Ints (cmpN (x * 2 ^ i) (y * 2 ^ j)) w) := by
 have BB := two_below w (.cells #[.bool s1, .slice A1 n1 c1, .int .i64 e1] 73) (.cells #[.bool s2, .slice A2 n2 c2, .int .i64 e2] 73)
 obtain ⟨xa, xb⟩ := dbx_two w (s1 := s1) (A1 := A1) (n1 := n1) (c1 := c1) (e1 := e1) (s2 := s2) (A2 := A2) (n2 := n2) (c2 := c2) (e2 := e2)
 obtain ⟨a10, a11, a12⟩ := xa.held
 obtain ⟨a20, a21, a22⟩ := xb.held
 clear xa xb
 have G := mv BB rfl <| And.intro h1 <| h2
 clear h1 h2
 obtain ⟨h1, h2⟩ := G
 have hw1 : IntKind.i64.wrap ((blen x : Int) + e1) = (blen x : Int) + e1 := IntWalk.i64_in _ (by omega)
 have hw2 : IntKind.i64.wrap ((blen y : Int) + e2) = (blen y : Int) + e2 := IntWalk.i64_in _ (by omega)
 go_enter Tryz.func114, Tryz.ntmps114
 go_wp2_with fail
 refine rgn (fun w' => w'.cell? ⟨w.heap.size, 0, none⟩ = some (.bool s1) ∧ w'.cell? ⟨w.heap.size, 1, none⟩ = some (.slice A1 n1 c1) ∧ w'.cell? ⟨w.heap.size, 2, none⟩ = some (.int .i64 e1) ∧ w'.cell? ⟨(w.heap.size + 1), 0, none⟩ = some (.bool s2) ∧ w'.cell? ⟨(w.heap.size + 1), 1, none⟩ = some (.slice A2 n2 c2) ∧ w'.cell? ⟨(w.heap.size + 1), 2, none⟩ = some (.int .i64 e2)) fun hHeldu0 => ?_
 refine tl 0 ?_
 refine tl 1 ?_
 refine tl 3 ?_
 refine tl 4 ?_
 refine tl 6 ?_
 refine tl 7 ?_
 refine tl 9 ?_
 refine tl 10 ?_
 refine rdy 2 fun K hK => ?_
 go_simp
 refine (rbits_any (h1.heap32 (by rfl)) (by omega)).mono ?_
 rintro en w' ⟨rfl, rfl⟩
 refine bk hK fun hHeldu1 => ?_
 clear hK K hHeldu0
 try simp only [Act.put]
 refine wpAnyH_take (i := 5) (v := ?uv5) rfl (by kernel_rfl) (by kernel_rfl) (by kernel_rfl) (fun _ _ _ h => panic_put (P := Tryz.prog) (fn := Tryz.f114) (R := (Ints (cmpN (x * 2 ^ i) (y * 2 ^ j)) w)) h) (Or.inl ⟨by rfl, ?uy5⟩) (by assumption) ?_
 case uy5 => (intro w hSw; (try dsimp only at hSw); go_simp; (try simp only [hw1, hw2])); try with_reducible rfl
 change wpAnyH _ _ _ _ _ _ _ (Act.put _ (some 13) _) _
 simp only [Act.put, List.setIfInBounds_toArray, List.set_cons_zero, List.set_cons_succ]
 refine rdy 8 fun K hK => ?_
 go_simp
 refine (rbits_any (h2.heap32 (by rfl)) (by omega)).mono ?_
 rintro en w' ⟨rfl, rfl⟩
 refine bk hK fun hHeldu2 => ?_
 clear hK K hHeldu1
 try simp only [Act.put]
 refine wpAnyH_take (i := 11) (v := ?uv11) rfl (by kernel_rfl) (by kernel_rfl) (by kernel_rfl) (fun _ _ _ h => panic_put (P := Tryz.prog) (fn := Tryz.f114) (R := (Ints (cmpN (x * 2 ^ i) (y * 2 ^ j)) w)) h) (Or.inl ⟨by rfl, ?uy11⟩) (by assumption) ?_
 case uy11 => (intro w hSw; (try dsimp only at hSw); go_simp; (try simp only [hw1, hw2])); try with_reducible rfl
 change wpAnyH _ _ _ _ _ _ _ (Act.put _ (some 19) _) _
 simp only [Act.put, List.setIfInBounds_toArray, List.set_cons_zero, List.set_cons_succ]
 refine tl 12 ?_
 refine tl 13 ?_
 refine wpAnyH_done (by kernel_rfl) ?_ _
 have q0 : ((blen x : Int) + e1 != (blen y : Int) + e2) = false := by simp; omega
 have hi6 : i ≤ 10000 := by omega
 have hj6 : j ≤ 10000 := by omega
 have wi : IntKind.i64.wrap (i : Int) = (i : Int) := IntWalk.i64_in _ (by omega)
 have wj : IntKind.i64.wrap (j : Int) = (j : Int) := IntWalk.i64_in _ (by omega)
 clear hr
 replace h1 := Dg.heap32 (w2 := World.drew ((w.alloc (.cells #[.bool s1, .slice A1 n1 c1, .int .i64 e1] 73)).alloc (.cells #[.bool s2, .slice A2 n2 c2, .int .i64 e2] 73))) h1 rfl
 replace h2 := Dg.heap32 (w2 := World.drew ((w.alloc (.cells #[.bool s1, .slice A1 n1 c1, .int .i64 e1] 73)).alloc (.cells #[.bool s2, .slice A2 n2 c2, .int .i64 e2] 73))) h2 rfl
 have BD : Below w.heap.size w (World.drew ((w.alloc (.cells #[.bool s1, .slice A1 n1 c1, .int .i64 e1] 73)).alloc (.cells #[.bool s2, .slice A2 n2 c2, .int .i64 e2] 73))) := below_drewN BB 1
 clear a10 a11 a12 a20 a21 a22 BB hw1 hw2
 obtain ⟨a10, a11, a12, a20, a21, a22⟩ := hHeldu2
 generalize World.drew ((w.alloc (.cells #[.bool s1, .slice A1 n1 c1, .int .i64 e1] 73)).alloc (.cells #[.bool s2, .slice A2 n2 c2, .int .i64 e2] 73)) = wd at *
 have BB := BD
 clear BD
 go_wp2_with fail
 clear q0 hlo
 refine rgn (fun w' => w'.cell? ⟨w.heap.size, 0, none⟩ = some (.bool s1) ∧ w'.cell? ⟨w.heap.size, 1, none⟩ = some (.slice A1 n1 c1) ∧ w'.cell? ⟨w.heap.size, 2, none⟩ = some (.int .i64 e1) ∧ w'.cell? ⟨(w.heap.size + 1), 0, none⟩ = some (.bool s2) ∧ w'.cell? ⟨(w.heap.size + 1), 1, none⟩ = some (.slice A2 n2 c2) ∧ w'.cell? ⟨(w.heap.size + 1), 2, none⟩ = some (.int .i64 e2)) fun hHeldv0 => ?_
 refine tl 0 ?_
 refine tl 1 ?_
 refine tl 2 ?_
 refine tl 3 ?_
 refine tl 4 ?_
 refine wpAnyH_take (i := 5) (v := ?vv5) rfl (by kernel_rfl) (by kernel_rfl) (by kernel_rfl) (fun _ _ _ h => panic_put (P := Tryz.prog) (fn := Tryz.f114) (R := (Ints (cmpN (x * 2 ^ i) (y * 2 ^ j)) w)) h) (Or.inl ⟨by rfl, ?vy5⟩) (by assumption) ?_
 case vy5 => (intro w hSw; (try dsimp only at hSw); go_simp; (try simp only [wi, wj])); try with_reducible rfl
 change wpAnyH _ _ _ _ _ _ _ (Act.put _ (some 36) _) _
 simp only [Act.put, List.setIfInBounds_toArray, List.set_cons_zero, List.set_cons_succ]
 refine tl 7 ?_
 refine tl 8 ?_
 refine tl 9 ?_
 refine tl 10 ?_
 refine tl 11 ?_
 refine wpAnyH_take (i := 12) (v := ?vv12) rfl (by kernel_rfl) (by kernel_rfl) (by kernel_rfl) (fun _ _ _ h => panic_put (P := Tryz.prog) (fn := Tryz.f114) (R := (Ints (cmpN (x * 2 ^ i) (y * 2 ^ j)) w)) h) (Or.inl ⟨by rfl, ?vy12⟩) (by assumption) ?_
 case vy12 => (intro w hSw; (try dsimp only at hSw); go_simp; (try simp only [wi, wj])); try with_reducible rfl
 change wpAnyH _ _ _ _ _ _ _ (Act.put _ (some 43) _) _
 simp only [Act.put, List.setIfInBounds_toArray, List.set_cons_zero, List.set_cons_succ]
 refine rdy 6 fun K hK => ?_
 go_simp
 refine (rshl_any (s := i) (h1.heap32 (by rfl)) (by omega) (by omega)).mono ?_
 rintro en w' ⟨A3, n3, c3, rfl, h3, b⟩
 clear h1
 replace BB := below_next BB BB.size b (by rfl) (by rfl) (by rfl) (by rfl)
 have G := mv b (by rfl) <| And.intro a10 <| And.intro a11 <| And.intro a12 <| And.intro a20 <| And.intro a21 <| And.intro a22 <| h2
 clear b a10 a11 a12 a20 a21 a22 h2
 obtain ⟨a10, a11, a12, a20, a21, a22, h2⟩ := G
 replace h3 := Dg.heap32 h3 (by rfl)
 refine bk hK fun hHeldv1 => ?_
 clear hK K hHeldv0
 try simp only [Act.put]
 refine rdy 13 fun K hK => ?_
 go_simp
 refine (rshl_any (s := j) (h2.heap32 (by rfl)) (by omega) (by omega)).mono ?_
 rintro en w' ⟨A4, n4, c4, rfl, h4, b⟩
 clear h2
 replace BB := below_next BB BB.size b (by rfl) (by rfl) (by rfl) (by rfl)
 have G := mv b (by rfl) <| And.intro a10 <| And.intro a11 <| And.intro a12 <| And.intro a20 <| And.intro a21 <| And.intro a22 <| h3
 clear b a10 a11 a12 a20 a21 a22 h3
 obtain ⟨a10, a11, a12, a20, a21, a22, h3⟩ := G
 refine bk hK fun hHeldv2 => ?_
 clear hK K hHeldv1
 try simp only [Act.put]
 refine rdy 14 fun K hK => ?_
 go_simp
 refine (rcmp_any (h3.heap32 (by rfl)) (h4.heap32 (by rfl))).mono ?_
 rintro en w' ⟨rfl, b⟩
 clear h3 h4
 replace BB := below_next BB BB.size b (by rfl) (by rfl) (by rfl) (by rfl)
 have G := mv b (by rfl) <| And.intro a10 <| And.intro a11 <| And.intro a12 <| And.intro a20 <| And.intro a21 <| a22
 clear b a10 a11 a12 a20 a21 a22
 obtain ⟨a10, a11, a12, a20, a21, a22⟩ := G
 refine bk hK fun hHeldv3 => ?_
 clear hK K hHeldv2
 try simp only [Act.put]
 refine tl 15 ?_
 refine wpAnyH_done (by kernel_rfl) ?_ _
 go_wp2
 go_ret
 exact ⟨rfl, BB⟩

theorem rsize_any {w : World} {A1 A2 : Option Addr} {n1 c1 n2 c2 x y i j : Nat} {s1 s2 : Bool} {e1 e2 lo : Int} (h1 : Dg w A1 n1 c1 x) (h2 : Dg w A2 n2 c2 y) (bx : blen x ≤ 4096) (by_ : blen y ≤ 4096) (hn1 : n1 ≤ 600) (hn2 : n2 ≤ 600) (r1 : -1048576 ≤ e1) (r2 : e1 ≤ 1048576) (r3 : -1048576 ≤ e2) (r4 : e2 ≤ 1048576) (hx : x ≠ 0) (hy : y ≠ 0) (hlo : min e1 e2 = lo) (hi : e1 - lo = (i : Int)) (hj : e2 - lo = (j : Int)) :
  Calls Tryz.prog 114 #[.agg #[.bool s1, .slice A1 n1 c1, .int .i64 e1], .agg #[.bool s2, .slice A2 n2 c2, .int .i64 e2]] w (Ints (cmpN (x * 2 ^ i) (y * 2 ^ j)) w) := by
 rcases Int.lt_trichotomy ((blen x : Int) + e1) ((blen y : Int) + e2) with hr | hr | hr
 ·rw [cmpN_lt (tops_lt hy (by omega))]
  exact rsize_lt h1 h2 bx by_ hn1 hn2 r1 r2 r3 r4 hr
 ·exact rsize_eq h1 h2 bx by_ hn1 hn2 r1 r2 r3 r4 hr hlo hi hj
 ·rw [cmpN_gt (tops_lt hx (by omega))]
  exact rsize_gt h1 h2 bx by_ hn1 hn2 r1 r2 r3 r4 hr
end Go.Proofs.YtdklnpaocaebkaaGreatDoor

namespace Go.Proofs.YtdklnpaocaebkaaGreatDoor
open Go.RowKit

theorem two_dbl (w : World) {A1 A2 : Option Addr} {n1 c1 n2 c2 : Nat} {s1 s2 : Bool} {e1 e2 : Int} : Box ((w.alloc (.cells #[.bool s1, .slice A1 n1 c1, .int .i64 e1] 24)).alloc (.cells #[.bool s2, .slice A2 n2 c2, .int .i64 e2] 24)) w.heap.size s1 A1 n1 c1 e1 ∧ Box ((w.alloc (.cells #[.bool s1, .slice A1 n1 c1, .int .i64 e1] 24)).alloc (.cells #[.bool s2, .slice A2 n2 c2, .int .i64 e2] 24)) (w.heap.size + 1) s2 A2 n2 c2 e2 :=
 ⟨(two_new w s1 s2 A1 A2 n1 c1 n2 c2 e1 e2).a, (two_new w s1 s2 A1 A2 n1 c1 n2 c2 e1 e2).b⟩
theorem rcmpd_no {w : World} {A1 : Option Addr} {n1 c1 : Nat} {l1 : List Nat} {s1 : Bool} {e1 : Int} {A2 : Option Addr} {n2 c2 : Nat} {l2 : List Nat} {s2 : Bool} {e2 : Int} (h1 : Rd w .u64 Go.Proofs.YtdklnpaocaebkaaGreatDoor.W A1 n1 c1 l1) (h2 : Rd w .u64 Go.Proofs.YtdklnpaocaebkaaGreatDoor.W A2 n2 c2 l2) (hd : ¬ (mayD s1 l1 e1 = true ∧ mayD s2 l2 e2 = true)) :
  Calls Tryz.prog 71 #[.agg #[.bool s1, .slice A1 n1 c1, .int .i64 e1], .agg #[.bool s2, .slice A2 n2 c2, .int .i64 e2]] w (Ints 0 w) := by
 have BB := two_below w (.cells #[.bool s1, .slice A1 n1 c1, .int .i64 e1] 24) (.cells #[.bool s2, .slice A2 n2 c2, .int .i64 e2] 24)
 obtain ⟨a10, a11, a12, a20, a21, a22⟩ := (two_new w s1 s2 A1 A2 n1 c1 n2 c2 e1 e2).held
 have G := mv BB rfl <| And.intro h1 <| h2
 clear h1 h2
 obtain ⟨h1, h2⟩ := G
 have HD := Lib.hid hd
 clear hd
 go_enter Tryz.func71, Tryz.ntmps71
 go_wp2_with fail
 refine (rmayd_any (s := s1) (e := e1) h1).mono ?_
 rintro en w1 ⟨rfl, b⟩
 replace BB := bnx BB b
 have G := mv b rfl (J8 a10 a11 a12 a20 a21 a22 h1 h2)
 clear b a10 a11 a12 a20 a21 a22 h1 h2
 obtain ⟨a10, a11, a12, a20, a21, a22, h1, h2⟩ := G
 cases q1 : mayD s1 l1 e1
 ·clear q1
  go_wp2
  go_ret
  exact ⟨rfl, BB⟩
 go_wp2_with fail
 refine (rmayd_any (s := s2) (e := e2) h2).mono ?_
 rintro en w2 ⟨rfl, b⟩
 replace BB := bnx BB b
 have G := mv b rfl (J8 a10 a11 a12 a20 a21 a22 h1 h2)
 clear b a10 a11 a12 a20 a21 a22 h1 h2
 obtain ⟨a10, a11, a12, a20, a21, a22, h1, h2⟩ := G
 have q2 : mayD s2 l2 e2 = false := by
  cases q : mayD s2 l2 e2
  ·rfl
  ·exact absurd ⟨q1, q⟩ HD.out
 rw [q2]
 clear q1 q2
 go_wp2
 go_ret
 exact ⟨rfl, BB⟩

theorem rcmpd_lt {w : World} {A1 : Option Addr} {n1 c1 x1 : Nat} {s1 : Bool} {e1 : Int} {A2 : Option Addr} {n2 c2 x2 : Nat} {s2 : Bool} {e2 : Int} (h1 : Nt w A1 n1 c1 x1) (d1 : OkD s1 x1 e1) (h2 : Nt w A2 n2 c2 x2) (d2 : OkD s2 x2 e2) {p q : Int} (hp : signD s1 x1 = p) (hq : signD s2 x2 = q) (hr : p < q) :
  Calls Tryz.prog 71 #[.agg #[.bool s1, .slice A1 n1 c1, .int .i64 e1], .agg #[.bool s2, .slice A2 n2 c2, .int .i64 e2]] w (Ints (-1) w) := by
 have M1 := Lib.hid (mayD_ok d1)
 have M2 := Lib.hid (mayD_ok d2)
 have O1 := Lib.hid d1
 have O2 := Lib.hid d2
 have n1l := h1.le
 have n2l := h2.le
 have bx := blen_nt h1
 have by_ := blen_nt h2
 have g1 := okd_ge (K := 4194304) (Nat.le_refl _) d1
 have g2 := okd_ge (K := 4194304) (Nat.le_refl _) d2
 have r1 := g1.1
 have r2 := g1.2.1
 have r3 := g2.1
 have r4 := g2.2.1
 clear g1 g2 d1 d2
 have BB := two_below w (.cells #[.bool s1, .slice A1 n1 c1, .int .i64 e1] 24) (.cells #[.bool s2, .slice A2 n2 c2, .int .i64 e2] 24)
 obtain ⟨a10, a11, a12, a20, a21, a22⟩ := (two_new w s1 s2 A1 A2 n1 c1 n2 c2 e1 e2).held
 have G := mv BB rfl <| And.intro h1 <| h2
 clear h1 h2
 obtain ⟨h1, h2⟩ := G
 have HP := Lib.hid hp
 have HQ := Lib.hid hq
 have q0 : (p != q) = true := by simp; omega
 have q1 : decide (p < q) = true := decide_eq_true hr
 clear hp hq hr
 go_enter Tryz.func71, Tryz.ntmps71
 go_wp2_with fail
 refine (rmayd_any (s := s1) (e := e1) h1.rd).mono ?_
 rintro en w1 ⟨rfl, b⟩
 rw [M1.out]
 replace BB := bnx BB b
 have G := mv b rfl (J8 a10 a11 a12 a20 a21 a22 h1 h2)
 clear b a10 a11 a12 a20 a21 a22 h1 h2
 obtain ⟨a10, a11, a12, a20, a21, a22, h1, h2⟩ := G
 go_wp2_with fail
 refine (rmayd_any (s := s2) (e := e2) h2.rd).mono ?_
 rintro en w2 ⟨rfl, b⟩
 rw [M2.out]
 replace BB := bnx BB b
 have G := mv b rfl (J8 a10 a11 a12 a20 a21 a22 h1 h2)
 clear b a10 a11 a12 a20 a21 a22 h1 h2
 obtain ⟨a10, a11, a12, a20, a21, a22, h1, h2⟩ := G
 go_wp2_with fail
 refine rgn (fun w' => w'.cell? ⟨w.heap.size, 0, none⟩ = some (.bool s1) ∧ w'.cell? ⟨w.heap.size, 1, none⟩ = some (.slice A1 n1 c1) ∧ w'.cell? ⟨w.heap.size, 2, none⟩ = some (.int .i64 e1) ∧ w'.cell? ⟨(w.heap.size + 1), 0, none⟩ = some (.bool s2) ∧ w'.cell? ⟨(w.heap.size + 1), 1, none⟩ = some (.slice A2 n2 c2) ∧ w'.cell? ⟨(w.heap.size + 1), 2, none⟩ = some (.int .i64 e2)) fun hHeldu0 => ?_
 refine tl 0 ?_
 refine tl 2 ?_
 refine rdy 1 fun K hK => ?_
 go_simp
 refine (rsign_ok (h1.heap (by rfl)) O1.out).mono ?_
 rintro en w' ⟨rfl, b⟩
 rw [HP.out]
 replace BB := below_next BB BB.size b (by rfl) (by rfl) (by rfl) (by rfl)
 have G := mv b (by rfl) <| And.intro a10 <| And.intro a11 <| And.intro a12 <| And.intro a20 <| And.intro a21 <| And.intro a22 <| And.intro h1 <| h2
 clear b a10 a11 a12 a20 a21 a22 h1 h2
 obtain ⟨a10, a11, a12, a20, a21, a22, h1, h2⟩ := G
 refine bk hK fun hHeldu1 => ?_
 clear hK K hHeldu0
 try simp only [Act.put]
 refine rdy 3 fun K hK => ?_
 go_simp
 refine (rsign_ok (h2.heap (by rfl)) O2.out).mono ?_
 rintro en w' ⟨rfl, b⟩
 rw [HQ.out]
 replace BB := below_next BB BB.size b (by rfl) (by rfl) (by rfl) (by rfl)
 have G := mv b (by rfl) <| And.intro a10 <| And.intro a11 <| And.intro a12 <| And.intro a20 <| And.intro a21 <| And.intro a22 <| And.intro h1 <| h2
 clear b a10 a11 a12 a20 a21 a22 h1 h2
 obtain ⟨a10, a11, a12, a20, a21, a22, h1, h2⟩ := G
 refine bk hK fun hHeldu2 => ?_
 clear hK K hHeldu1
 try simp only [Act.put]
 refine tl 4 ?_
 refine tl 5 ?_
 refine wpAnyH_done (by kernel_rfl) ?_ _
 go_wp2
 go_ret
 exact ⟨rfl, BB⟩

theorem rcmpd_gt {w : World} {A1 : Option Addr} {n1 c1 x1 : Nat} {s1 : Bool} {e1 : Int} {A2 : Option Addr} {n2 c2 x2 : Nat} {s2 : Bool} {e2 : Int} (h1 : Nt w A1 n1 c1 x1) (d1 : OkD s1 x1 e1) (h2 : Nt w A2 n2 c2 x2) (d2 : OkD s2 x2 e2) {p q : Int} (hp : signD s1 x1 = p) (hq : signD s2 x2 = q) (hr : q < p) :
  Calls Tryz.prog 71 #[.agg #[.bool s1, .slice A1 n1 c1, .int .i64 e1], .agg #[.bool s2, .slice A2 n2 c2, .int .i64 e2]] w (Ints 1 w) := by
 have M1 := Lib.hid (mayD_ok d1)
 have M2 := Lib.hid (mayD_ok d2)
 have O1 := Lib.hid d1
 have O2 := Lib.hid d2
 have n1l := h1.le
 have n2l := h2.le
 have bx := blen_nt h1
 have by_ := blen_nt h2
 have g1 := okd_ge (K := 4194304) (Nat.le_refl _) d1
 have g2 := okd_ge (K := 4194304) (Nat.le_refl _) d2
 have r1 := g1.1
 have r2 := g1.2.1
 have r3 := g2.1
 have r4 := g2.2.1
 clear g1 g2 d1 d2
 have BB := two_below w (.cells #[.bool s1, .slice A1 n1 c1, .int .i64 e1] 24) (.cells #[.bool s2, .slice A2 n2 c2, .int .i64 e2] 24)
 obtain ⟨a10, a11, a12, a20, a21, a22⟩ := (two_new w s1 s2 A1 A2 n1 c1 n2 c2 e1 e2).held
 have G := mv BB rfl <| And.intro h1 <| h2
 clear h1 h2
 obtain ⟨h1, h2⟩ := G
 have HP := Lib.hid hp
 have HQ := Lib.hid hq
 have q0 : (p != q) = true := by simp; omega
 have q1 : decide (p < q) = false := decide_eq_false (by omega)
 have q2 : decide (q < p) = true := decide_eq_true hr
 clear hp hq hr
 go_enter Tryz.func71, Tryz.ntmps71
 go_wp2_with fail
 refine (rmayd_any (s := s1) (e := e1) h1.rd).mono ?_
 rintro en w1 ⟨rfl, b⟩
 rw [M1.out]
 replace BB := bnx BB b
 have G := mv b rfl (J8 a10 a11 a12 a20 a21 a22 h1 h2)
 clear b a10 a11 a12 a20 a21 a22 h1 h2
 obtain ⟨a10, a11, a12, a20, a21, a22, h1, h2⟩ := G
 go_wp2_with fail
 refine (rmayd_any (s := s2) (e := e2) h2.rd).mono ?_
 rintro en w2 ⟨rfl, b⟩
 rw [M2.out]
 replace BB := bnx BB b
 have G := mv b rfl (J8 a10 a11 a12 a20 a21 a22 h1 h2)
 clear b a10 a11 a12 a20 a21 a22 h1 h2
 obtain ⟨a10, a11, a12, a20, a21, a22, h1, h2⟩ := G
 go_wp2_with fail
 refine rgn (fun w' => w'.cell? ⟨w.heap.size, 0, none⟩ = some (.bool s1) ∧ w'.cell? ⟨w.heap.size, 1, none⟩ = some (.slice A1 n1 c1) ∧ w'.cell? ⟨w.heap.size, 2, none⟩ = some (.int .i64 e1) ∧ w'.cell? ⟨(w.heap.size + 1), 0, none⟩ = some (.bool s2) ∧ w'.cell? ⟨(w.heap.size + 1), 1, none⟩ = some (.slice A2 n2 c2) ∧ w'.cell? ⟨(w.heap.size + 1), 2, none⟩ = some (.int .i64 e2)) fun hHeldu0 => ?_
 refine tl 0 ?_
 refine tl 2 ?_
 refine rdy 1 fun K hK => ?_
 go_simp
 refine (rsign_ok (h1.heap (by rfl)) O1.out).mono ?_
 rintro en w' ⟨rfl, b⟩
 rw [HP.out]
 replace BB := below_next BB BB.size b (by rfl) (by rfl) (by rfl) (by rfl)
 have G := mv b (by rfl) <| And.intro a10 <| And.intro a11 <| And.intro a12 <| And.intro a20 <| And.intro a21 <| And.intro a22 <| And.intro h1 <| h2
 clear b a10 a11 a12 a20 a21 a22 h1 h2
 obtain ⟨a10, a11, a12, a20, a21, a22, h1, h2⟩ := G
 refine bk hK fun hHeldu1 => ?_
 clear hK K hHeldu0
 try simp only [Act.put]
 refine rdy 3 fun K hK => ?_
 go_simp
 refine (rsign_ok (h2.heap (by rfl)) O2.out).mono ?_
 rintro en w' ⟨rfl, b⟩
 rw [HQ.out]
 replace BB := below_next BB BB.size b (by rfl) (by rfl) (by rfl) (by rfl)
 have G := mv b (by rfl) <| And.intro a10 <| And.intro a11 <| And.intro a12 <| And.intro a20 <| And.intro a21 <| And.intro a22 <| And.intro h1 <| h2
 clear b a10 a11 a12 a20 a21 a22 h1 h2
 obtain ⟨a10, a11, a12, a20, a21, a22, h1, h2⟩ := G
 refine bk hK fun hHeldu2 => ?_
 clear hK K hHeldu1
 try simp only [Act.put]
 refine tl 4 ?_
 refine tl 5 ?_
 refine wpAnyH_done (by kernel_rfl) ?_ _
 go_wp2
 go_ret
 exact ⟨rfl, BB⟩

theorem rcmpd_nought {w : World} {A1 : Option Addr} {n1 c1 x1 : Nat} {s1 : Bool} {e1 : Int} {A2 : Option Addr} {n2 c2 x2 : Nat} {s2 : Bool} {e2 : Int} (h1 : Nt w A1 n1 c1 x1) (d1 : OkD s1 x1 e1) (h2 : Nt w A2 n2 c2 x2) (d2 : OkD s2 x2 e2) {p q : Int} (hp : signD s1 x1 = p) (hq : signD s2 x2 = q) (hr : p = q ∧ p = 0) :
  Calls Tryz.prog 71 #[.agg #[.bool s1, .slice A1 n1 c1, .int .i64 e1], .agg #[.bool s2, .slice A2 n2 c2, .int .i64 e2]] w (Ints 0 w) := by
 have M1 := Lib.hid (mayD_ok d1)
 have M2 := Lib.hid (mayD_ok d2)
 have O1 := Lib.hid d1
 have O2 := Lib.hid d2
 have n1l := h1.le
 have n2l := h2.le
 have bx := blen_nt h1
 have by_ := blen_nt h2
 have g1 := okd_ge (K := 4194304) (Nat.le_refl _) d1
 have g2 := okd_ge (K := 4194304) (Nat.le_refl _) d2
 have r1 := g1.1
 have r2 := g1.2.1
 have r3 := g2.1
 have r4 := g2.2.1
 clear g1 g2 d1 d2
 have BB := two_below w (.cells #[.bool s1, .slice A1 n1 c1, .int .i64 e1] 24) (.cells #[.bool s2, .slice A2 n2 c2, .int .i64 e2] 24)
 obtain ⟨a10, a11, a12, a20, a21, a22⟩ := (two_new w s1 s2 A1 A2 n1 c1 n2 c2 e1 e2).held
 have G := mv BB rfl <| And.intro h1 <| h2
 clear h1 h2
 obtain ⟨h1, h2⟩ := G
 have HP := Lib.hid hp
 have HQ := Lib.hid hq
 obtain ⟨rfl, rfl⟩ := hr
 clear hp hq
 go_enter Tryz.func71, Tryz.ntmps71
 go_wp2_with fail
 refine (rmayd_any (s := s1) (e := e1) h1.rd).mono ?_
 rintro en w1 ⟨rfl, b⟩
 rw [M1.out]
 replace BB := bnx BB b
 have G := mv b rfl (J8 a10 a11 a12 a20 a21 a22 h1 h2)
 clear b a10 a11 a12 a20 a21 a22 h1 h2
 obtain ⟨a10, a11, a12, a20, a21, a22, h1, h2⟩ := G
 go_wp2_with fail
 refine (rmayd_any (s := s2) (e := e2) h2.rd).mono ?_
 rintro en w2 ⟨rfl, b⟩
 rw [M2.out]
 replace BB := bnx BB b
 have G := mv b rfl (J8 a10 a11 a12 a20 a21 a22 h1 h2)
 clear b a10 a11 a12 a20 a21 a22 h1 h2
 obtain ⟨a10, a11, a12, a20, a21, a22, h1, h2⟩ := G
 go_wp2_with fail
 refine rgn (fun w' => w'.cell? ⟨w.heap.size, 0, none⟩ = some (.bool s1) ∧ w'.cell? ⟨w.heap.size, 1, none⟩ = some (.slice A1 n1 c1) ∧ w'.cell? ⟨w.heap.size, 2, none⟩ = some (.int .i64 e1) ∧ w'.cell? ⟨(w.heap.size + 1), 0, none⟩ = some (.bool s2) ∧ w'.cell? ⟨(w.heap.size + 1), 1, none⟩ = some (.slice A2 n2 c2) ∧ w'.cell? ⟨(w.heap.size + 1), 2, none⟩ = some (.int .i64 e2)) fun hHeldu0 => ?_
 refine tl 0 ?_
 refine tl 2 ?_
 refine rdy 1 fun K hK => ?_
 go_simp
 refine (rsign_ok (h1.heap (by rfl)) O1.out).mono ?_
 rintro en w' ⟨rfl, b⟩
 rw [HP.out]
 replace BB := below_next BB BB.size b (by rfl) (by rfl) (by rfl) (by rfl)
 have G := mv b (by rfl) <| And.intro a10 <| And.intro a11 <| And.intro a12 <| And.intro a20 <| And.intro a21 <| And.intro a22 <| And.intro h1 <| h2
 clear b a10 a11 a12 a20 a21 a22 h1 h2
 obtain ⟨a10, a11, a12, a20, a21, a22, h1, h2⟩ := G
 refine bk hK fun hHeldu1 => ?_
 clear hK K hHeldu0
 try simp only [Act.put]
 refine rdy 3 fun K hK => ?_
 go_simp
 refine (rsign_ok (h2.heap (by rfl)) O2.out).mono ?_
 rintro en w' ⟨rfl, b⟩
 rw [HQ.out]
 replace BB := below_next BB BB.size b (by rfl) (by rfl) (by rfl) (by rfl)
 have G := mv b (by rfl) <| And.intro a10 <| And.intro a11 <| And.intro a12 <| And.intro a20 <| And.intro a21 <| And.intro a22 <| And.intro h1 <| h2
 clear b a10 a11 a12 a20 a21 a22 h1 h2
 obtain ⟨a10, a11, a12, a20, a21, a22, h1, h2⟩ := G
 refine bk hK fun hHeldu2 => ?_
 clear hK K hHeldu1
 try simp only [Act.put]
 refine tl 4 ?_
 refine tl 5 ?_
 refine wpAnyH_done (by kernel_rfl) ?_ _
 go_wp2
 go_ret
 exact ⟨rfl, BB⟩

theorem rcmpd_sizes {w : World} {A1 : Option Addr} {n1 c1 x1 : Nat} {s1 : Bool} {e1 : Int} {A2 : Option Addr} {n2 c2 x2 : Nat} {s2 : Bool} {e2 : Int} (h1 : Nt w A1 n1 c1 x1) (d1 : OkD s1 x1 e1) (h2 : Nt w A2 n2 c2 x2) (d2 : OkD s2 x2 e2) {p z : Int} {i j : Nat} {lo : Int} (hp : signD s1 x1 = p) (hq : signD s2 x2 = p) (hp0 : p ≠ 0) (hb : -1 ≤ p ∧ p ≤ 1) (hx : x1 ≠ 0) (hy : x2 ≠ 0) (hlo : min e1 e2 = lo) (hi : e1 - lo = (i : Int)) (hj : e2 - lo = (j : Int)) (hz : cmpN (x1 * 2 ^ i) (x2 * 2 ^ j) = z) :
  Calls Tryz.prog 71 #[.agg #[.bool s1, .slice A1 n1 c1, .int .i64 e1], .agg #[.bool s2, .slice A2 n2 c2, .int .i64 e2]] w (Ints (p * z) w) := by
 have M1 := Lib.hid (mayD_ok d1)
 have M2 := Lib.hid (mayD_ok d2)
 have O1 := Lib.hid d1
 have O2 := Lib.hid d2
 have n1l := h1.le
 have n2l := h2.le
 have bx := blen_nt h1
 have by_ := blen_nt h2
 have g1 := okd_ge (K := 4194304) (Nat.le_refl _) d1
 have g2 := okd_ge (K := 4194304) (Nat.le_refl _) d2
 have r1 := g1.1
 have r2 := g1.2.1
 have r3 := g2.1
 have r4 := g2.2.1
 clear g1 g2 d1 d2
 have BB := two_below w (.cells #[.bool s1, .slice A1 n1 c1, .int .i64 e1] 24) (.cells #[.bool s2, .slice A2 n2 c2, .int .i64 e2] 24)
 obtain ⟨a10, a11, a12, a20, a21, a22⟩ := (two_new w s1 s2 A1 A2 n1 c1 n2 c2 e1 e2).held
 have G := mv BB rfl <| And.intro h1 <| h2
 clear h1 h2
 obtain ⟨h1, h2⟩ := G
 have HP := Lib.hid hp
 have HQ := Lib.hid hq
 have HZ := Lib.hid hz
 have HLO := Lib.hid (And.intro hlo (And.intro hi hj))
 have HX := Lib.hid (And.intro hx hy)
 have hzb : -1 ≤ z ∧ z ≤ 1 := by rcases cmpN_cases (x1 * 2 ^ i) (x2 * 2 ^ j) with ⟨h, _⟩ | ⟨h, _⟩ | ⟨h, _⟩ <;> rw [← hz, h] <;> omega
 have hw := wrap_sign hb hzb
 have q0 : (p != p) = false := by simp
 have q1 : (p == 0) = false := by simp [hp0]
 clear hp hq hz hlo hi hj hx hy hp0 hb hzb
 go_enter Tryz.func71, Tryz.ntmps71
 go_wp2_with fail
 refine (rmayd_any (s := s1) (e := e1) h1.rd).mono ?_
 rintro en w1 ⟨rfl, b⟩
 rw [M1.out]
 replace BB := bnx BB b
 have G := mv b rfl (J8 a10 a11 a12 a20 a21 a22 h1 h2)
 clear b a10 a11 a12 a20 a21 a22 h1 h2
 obtain ⟨a10, a11, a12, a20, a21, a22, h1, h2⟩ := G
 go_wp2_with fail
 refine (rmayd_any (s := s2) (e := e2) h2.rd).mono ?_
 rintro en w2 ⟨rfl, b⟩
 rw [M2.out]
 replace BB := bnx BB b
 have G := mv b rfl (J8 a10 a11 a12 a20 a21 a22 h1 h2)
 clear b a10 a11 a12 a20 a21 a22 h1 h2
 obtain ⟨a10, a11, a12, a20, a21, a22, h1, h2⟩ := G
 go_wp2_with fail
 refine rgn (fun w' => w'.cell? ⟨w.heap.size, 0, none⟩ = some (.bool s1) ∧ w'.cell? ⟨w.heap.size, 1, none⟩ = some (.slice A1 n1 c1) ∧ w'.cell? ⟨w.heap.size, 2, none⟩ = some (.int .i64 e1) ∧ w'.cell? ⟨(w.heap.size + 1), 0, none⟩ = some (.bool s2) ∧ w'.cell? ⟨(w.heap.size + 1), 1, none⟩ = some (.slice A2 n2 c2) ∧ w'.cell? ⟨(w.heap.size + 1), 2, none⟩ = some (.int .i64 e2)) fun hHeldu0 => ?_
 refine tl 0 ?_
 refine tl 2 ?_
 refine rdy 1 fun K hK => ?_
 go_simp
 refine (rsign_ok (h1.heap (by rfl)) O1.out).mono ?_
 rintro en w' ⟨rfl, b⟩
 rw [HP.out]
 replace BB := below_next BB BB.size b (by rfl) (by rfl) (by rfl) (by rfl)
 have G := mv b (by rfl) <| And.intro a10 <| And.intro a11 <| And.intro a12 <| And.intro a20 <| And.intro a21 <| And.intro a22 <| And.intro h1 <| h2
 clear b a10 a11 a12 a20 a21 a22 h1 h2
 obtain ⟨a10, a11, a12, a20, a21, a22, h1, h2⟩ := G
 refine bk hK fun hHeldu1 => ?_
 clear hK K hHeldu0
 try simp only [Act.put]
 refine rdy 3 fun K hK => ?_
 go_simp
 refine (rsign_ok (h2.heap (by rfl)) O2.out).mono ?_
 rintro en w' ⟨rfl, b⟩
 rw [HQ.out]
 replace BB := below_next BB BB.size b (by rfl) (by rfl) (by rfl) (by rfl)
 have G := mv b (by rfl) <| And.intro a10 <| And.intro a11 <| And.intro a12 <| And.intro a20 <| And.intro a21 <| And.intro a22 <| And.intro h1 <| h2
 clear b a10 a11 a12 a20 a21 a22 h1 h2
 obtain ⟨a10, a11, a12, a20, a21, a22, h1, h2⟩ := G
 refine bk hK fun hHeldu2 => ?_
 clear hK K hHeldu1
 try simp only [Act.put]
 refine tl 4 ?_
 refine tl 5 ?_
 refine wpAnyH_done (by kernel_rfl) ?_ _
 go_wp2_with fail
 refine rgn (fun w' => w'.cell? ⟨w.heap.size, 0, none⟩ = some (.bool s1) ∧ w'.cell? ⟨w.heap.size, 1, none⟩ = some (.slice A1 n1 c1) ∧ w'.cell? ⟨w.heap.size, 2, none⟩ = some (.int .i64 e1) ∧ w'.cell? ⟨(w.heap.size + 1), 0, none⟩ = some (.bool s2) ∧ w'.cell? ⟨(w.heap.size + 1), 1, none⟩ = some (.slice A2 n2 c2) ∧ w'.cell? ⟨(w.heap.size + 1), 2, none⟩ = some (.int .i64 e2)) fun hHeldv0 => ?_
 refine tl 0 ?_
 refine tl 1 ?_
 refine tl 3 ?_
 refine rdy 2 fun K hK => ?_
 go_simp
 refine (rof_any (s := s1) (e := e1) (h1.heap (by rfl))).mono ?_
 rintro en w' ⟨A3, n3, c3, rfl, h3, b⟩
 have n3l : n3 ≤ 256 := dg_small h3 (by rw [H256]; exact h1.lt)
 clear h1
 replace BB := below_next BB BB.size b (by rfl) (by rfl) (by rfl) (by rfl)
 have G := mv b (by rfl) <| And.intro a10 <| And.intro a11 <| And.intro a12 <| And.intro a20 <| And.intro a21 <| And.intro a22 <| h2
 clear b a10 a11 a12 a20 a21 a22 h2
 obtain ⟨a10, a11, a12, a20, a21, a22, h2⟩ := G
 replace h3 := Dg.heap32 h3 (by rfl)
 refine bk hK fun hHeldv1 => ?_
 clear hK K hHeldv0
 try simp only [Act.put]
 refine rdy 4 fun K hK => ?_
 go_simp
 refine (rof_any (s := s2) (e := e2) (h2.heap (by rfl))).mono ?_
 rintro en w' ⟨A4, n4, c4, rfl, h4, b⟩
 have n4l : n4 ≤ 256 := dg_small h4 (by rw [H256]; exact h2.lt)
 clear h2
 replace BB := below_next BB BB.size b (by rfl) (by rfl) (by rfl) (by rfl)
 have G := mv b (by rfl) <| And.intro a10 <| And.intro a11 <| And.intro a12 <| And.intro a20 <| And.intro a21 <| And.intro a22 <| h3
 clear b a10 a11 a12 a20 a21 a22 h3
 obtain ⟨a10, a11, a12, a20, a21, a22, h3⟩ := G
 refine bk hK fun hHeldv2 => ?_
 clear hK K hHeldv1
 try simp only [Act.put]
 refine rdy 5 fun K hK => ?_
 go_simp
 refine (rsize_any (s1 := s1) (s2 := s2) (h3.heap32 (by rfl)) (h4.heap32 (by rfl)) bx by_ (by omega) (by omega) r1 r2 r3 r4 HX.out.1 HX.out.2 HLO.out.1 HLO.out.2.1 HLO.out.2.2).mono ?_
 rintro en w' ⟨rfl, b⟩
 rw [HZ.out]
 clear h3 h4
 replace BB := below_next BB BB.size b (by rfl) (by rfl) (by rfl) (by rfl)
 have G := mv b (by rfl) <| And.intro a10 <| And.intro a11 <| And.intro a12 <| And.intro a20 <| And.intro a21 <| a22
 clear b a10 a11 a12 a20 a21 a22
 obtain ⟨a10, a11, a12, a20, a21, a22⟩ := G
 refine bk hK fun hHeldv3 => ?_
 clear hK K hHeldv2
 try simp only [Act.put]
 refine wpAnyH_take (i := 6) (v := ?vv6) rfl (by kernel_rfl) (by kernel_rfl) (by kernel_rfl) (fun _ _ _ h => panic_put (P := Tryz.prog) (fn := Tryz.f71) (R := (Ints (p * z) w)) h) (Or.inl ⟨by rfl, ?vy6⟩) (by assumption) ?_
 case vy6 => (intro w hSw; (try dsimp only at hSw); go_simp; (try simp only [hw])); try with_reducible rfl
 change wpAnyH _ _ _ _ _ _ _ (Act.put _ (some 38) _) _
 simp only [Act.put, List.setIfInBounds_toArray, List.set_cons_zero, List.set_cons_succ]
 refine tl 7 ?_
 refine wpAnyH_done (by kernel_rfl) ?_ _
 go_wp2
 go_ret
 exact ⟨by first | rfl | simp, BB⟩

theorem rcmpd_raw {w : World} {K : Nat} {A1 : Option Addr} {n1 c1 : Nat} {l1 : List Nat} {s1 : Bool} {e1 : Int} {A2 : Option Addr} {n2 c2 : Nat} {l2 : List Nat} {s2 : Bool} {e2 : Int} (hK : 4194304 ≤ K) (h1 : Rd w .u64 Go.Proofs.YtdklnpaocaebkaaGreatDoor.W A1 n1 c1 l1) (h2 : Rd w .u64 Go.Proofs.YtdklnpaocaebkaaGreatDoor.W A2 n2 c2 l2) :
  Calls Tryz.prog 71 #[.agg #[.bool s1, .slice A1 n1 c1, .int .i64 e1], .agg #[.bool s2, .slice A2 n2 c2, .int .i64 e2]] w (Ints (cmpR K s1 l1 e1 s2 l2 e2) w) := by
 unfold cmpR
 by_cases hd : mayD s1 l1 e1 = true ∧ mayD s2 l2 e2 = true
 rotate_left
 ·rw [if_neg hd]
  exact rcmpd_no h1 h2 hd
 rw [if_pos hd]
 obtain ⟨hN, hok, _⟩ := rd_okd h1 hd.1
 obtain ⟨hN', hok', _⟩ := rd_okd h2 hd.2
 generalize val Go.Proofs.YtdklnpaocaebkaaGreatDoor.W l1 = x at *
 generalize val Go.Proofs.YtdklnpaocaebkaaGreatDoor.W l2 = y at *
 have r1 := okd_ge hK hok
 have r2 := okd_ge hK hok'
 by_cases hc : Lib.compareInt (signD s1 x) (signD s2 y) = 0
 ·have hsg := signs_same hc
  by_cases hx : x = 0
  ·have hp0 : signD s1 x = 0 := by unfold signD; rw [if_pos hx]
   have hy : y = 0 := by
    rcases signD_cases s2 y with ⟨hy, _⟩ | ⟨hy, _, h2⟩ | ⟨hy, _, h2⟩
    ·exact hy
    ·omega
    ·omega
   have := rcmpd_nought hN hok hN' hok' rfl rfl ⟨hsg, hp0⟩
   rw [hx, hy, vz_zero, vz_zero, cmpV_eq rfl]
   exact this
  ·have hst : s1 = s2 ∧ y ≠ 0 := by
    rcases signD_cases s1 x with ⟨h1, h2⟩ | ⟨_, h1, h2⟩ | ⟨_, h1, h2⟩ <;> rcases signD_cases s2 y with ⟨h3, h4⟩ | ⟨h5, h3, h4⟩ | ⟨h5, h3, h4⟩ <;> rw [h2, h4] at hsg <;> first | exact absurd h1 hx | (exfalso; omega) | exact ⟨h1.trans h3.symm, h5⟩
   obtain ⟨rfl, hy⟩ := hst
   obtain ⟨lo, hlo⟩ : ∃ lo, min e1 e2 = lo := ⟨_, rfl⟩
   obtain ⟨i, hi⟩ := Int.eq_ofNat_of_zero_le (show 0 ≤ e1 - lo by omega)
   obtain ⟨j, hj⟩ := Int.eq_ofNat_of_zero_le (show 0 ≤ e2 - lo by omega)
   rw [cmp_sizes (K := K) (i := i) (j := j) (lo := lo) hx (by omega) (by omega) (by omega)]
   exact rcmpd_sizes hN hok hN' hok' rfl hsg.symm (by rcases signD_cases s1 x with ⟨h, _⟩ | ⟨_, _, h2⟩ | ⟨_, _, h2⟩ <;> first | exact absurd h hx | (rw [h2]; omega)) (by rcases signD_cases s1 x with ⟨_, h2⟩ | ⟨_, _, h2⟩ | ⟨_, _, h2⟩ <;> rw [h2] <;> omega) hx hy hlo hi hj rfl
 ·rw [cmp_signs hc]
  unfold Lib.compareInt at hc ⊢
  rcases Int.lt_trichotomy (signD s1 x) (signD s2 y) with h | h | h
  ·rw [if_pos h]
   exact rcmpd_lt hN hok hN' hok' rfl rfl h
  ·exfalso; rw [if_neg (by omega), if_neg (by omega)] at hc; exact hc rfl
  ·rw [if_neg (by omega), if_pos h]
   exact rcmpd_gt hN hok hN' hok' rfl rfl h
theorem rnorm_low {w : World} {A : Option Addr} {n c x : Nat} {s : Bool} {e : Int} (h : Dg w A n c x) (hb : ∀ k q : Nat, x = 2 ^ k * (2 * q + 1) → k ≤ 5000) (hn : n ≤ 10000) :
  Calls Tryz.prog 77 #[.agg #[.bool s, .slice A n c, .int .i64 e]] w (Tells (Nm s x e) w) := by
 have BB := two_below w (.cells #[.bool s, .slice A n c, .int .i64 e] 73) (.cells #[.bool false, .slice none 0 0, .int .i64 0] 24)
 obtain ⟨a0, a1, a2⟩ := ((Dbx.new w s A n c e).alloc (.cells #[.bool false, .slice none 0 0, .int .i64 0] 24)).held
 have r := box_one' w (.cells #[.bool s, .slice A n c, .int .i64 e] 73) false none 0 0 0
 replace h := mv BB rfl h
 have hlen := Rd.len h
 have hx0 : n = 0 ↔ x = 0 := by rw [← hlen]; exact dig_len_zero H_two
 have hcap := Rd.cap h
 have hmax := Rd.max h
 by_cases h0 : n = 0
 ·have hx := hx0.1 h0
  subst h0 hx
  clear hx0 hlen
  go_enter Tryz.func77, Tryz.ntmps77
  go_wp2
  exact bodyPost_ret (v := .tuple #[.agg #[.bool false, .slice none 0 0, .int .i64 0], .int .i64 0]) (by simp [results, Tryz.results77, go_sem]) rfl ⟨0, false, none, 0, 0, 0, 0, rfl, .inl ⟨rfl, rfl, rfl, rfl, rfl⟩, nt_nil _, BB⟩
 have hx : x ≠ 0 := fun h1 => h0 (hx0.2 h1)
 have f00 : ((n : Int) == 0) = false := by simp [h0]
 obtain ⟨k, q, hkq⟩ := low_has hx
 have hkb : k ≤ 5000 := hb _ _ hkq
 have hdiv : x / 2 ^ k = 2 * q + 1 := by rw [hkq, Nat.mul_div_cancel_left _ (pow_pos2 k)]
 have HKQ := Lib.hid hkq
 have HX := Lib.hid hx
 have HD := Lib.hid hdiv
 clear hx0 hlen h0 hkq hx hdiv
 go_enter Tryz.func77, Tryz.ntmps77
 go_wp2_with fail
 refine (rlow_any h hn ⟨q, HKQ.out⟩).mono ?_
 rintro en w' ⟨rfl, rfl⟩
 go_wp2_with fail
 refine (rshr_any (s := k) h hn (by omega)).mono ?_
 rintro en w2 ⟨A2, n2, c2, rfl, h2, b⟩
 rw [HD.out] at h2
 clear h
 replace BB := bnx BB b
 have G := mv b rfl (J4 a0 a1 a2 r)
 clear b a0 a1 a2 r
 obtain ⟨a0, a1, a2, r⟩ := G
 go_wp2_with fail
 refine (great_any h2).mono ?_
 rintro en w' ⟨rfl, rfl⟩
 rcases Nat.lt_or_ge (2 * q + 1) (W ^ 64) with hg | hg
 rotate_left
 ·rw [decide_eq_true hg]
  have HG := Lib.hid hg
  clear hg
  obtain ⟨f0, f1, f2⟩ := r.open
  obtain ⟨z0, z1, z2⟩ := r.held
  go_wp2
  have qq := r.put false none 0 0 0
  have HB3 := below_put3 (g := w.heap.size + 1) BB (by omega) (.bool false) (.slice none 0 0) (.int .i64 0)
  obtain ⟨z0, z1, z2⟩ := qq.held
  exact bodyPost_ret (v := .tuple #[.agg #[.bool false, .slice none 0 0, .int .i64 0], .int .i64 2]) (by simp [results, Tryz.results77, go_sem, z0, z1, z2]) rfl ⟨2, false, none, 0, 0, 0, 0, rfl, .inr ⟨k, q, HKQ.out, .inl ⟨HG.out, rfl, rfl, rfl, rfl⟩⟩, nt_nil _, HB3⟩
 rw [decide_eq_false (Nat.not_le.2 hg)]
 have HG := Lib.hid hg
 clear hg
 rcases Int.lt_or_le 1048576 e with g | g
 ·have d1 : decide (1048576 < e) = true := decide_eq_true g
  have HE := Lib.hid g
  clear g
  obtain ⟨f0, f1, f2⟩ := r.open
  obtain ⟨z0, z1, z2⟩ := r.held
  go_wp2
  have qq := r.put false none 0 0 0
  have HB3 := below_put3 (g := w.heap.size + 1) BB (by omega) (.bool false) (.slice none 0 0) (.int .i64 0)
  obtain ⟨z0, z1, z2⟩ := qq.held
  exact bodyPost_ret (v := .tuple #[.agg #[.bool false, .slice none 0 0, .int .i64 0], .int .i64 3]) (by simp [results, Tryz.results77, go_sem, z0, z1, z2]) rfl ⟨3, false, none, 0, 0, 0, 0, rfl, .inr ⟨k, q, HKQ.out, .inr (.inl ⟨HG.out, by have := HE.out; omega, rfl, rfl, rfl, rfl⟩)⟩, nt_nil _, HB3⟩
 have d1 : decide (1048576 < e) = false := decide_eq_false (by omega)
 rcases Int.lt_or_le e (-1053576) with g2 | g2
 ·have d2 : decide (e < -1053576) = true := decide_eq_true g2
  have HE := Lib.hid g2
  clear g g2
  obtain ⟨f0, f1, f2⟩ := r.open
  obtain ⟨z0, z1, z2⟩ := r.held
  go_wp2
  have qq := r.put false none 0 0 0
  have HB3 := below_put3 (g := w.heap.size + 1) BB (by omega) (.bool false) (.slice none 0 0) (.int .i64 0)
  obtain ⟨z0, z1, z2⟩ := qq.held
  exact bodyPost_ret (v := .tuple #[.agg #[.bool false, .slice none 0 0, .int .i64 0], .int .i64 3]) (by simp [results, Tryz.results77, go_sem, z0, z1, z2]) rfl ⟨3, false, none, 0, 0, 0, 0, rfl, .inr ⟨k, q, HKQ.out, .inr (.inl ⟨HG.out, by have := HE.out; omega, rfl, rfl, rfl, rfl⟩)⟩, nt_nil _, HB3⟩
 have d2 : decide (e < -1053576) = false := decide_eq_false (by omega)
 rcases Int.lt_or_le 1048576 (e + (k : Int)) with g3 | g3
 ·have d3 : decide (1048576 < e + (k : Int)) = true := decide_eq_true g3
  have HE := Lib.hid g3
  obtain ⟨f0, f1, f2⟩ := r.open
  obtain ⟨z0, z1, z2⟩ := r.held
  go_wp2
  have qq := r.put false none 0 0 0
  have HB3 := below_put3 (g := w.heap.size + 1) BB (by omega) (.bool false) (.slice none 0 0) (.int .i64 0)
  obtain ⟨z0, z1, z2⟩ := qq.held
  exact bodyPost_ret (v := .tuple #[.agg #[.bool false, .slice none 0 0, .int .i64 0], .int .i64 3]) (by simp [results, Tryz.results77, go_sem, z0, z1, z2]) rfl ⟨3, false, none, 0, 0, 0, 0, rfl, .inr ⟨k, q, HKQ.out, .inr (.inl ⟨HG.out, by have := HE.out; omega, rfl, rfl, rfl, rfl⟩)⟩, nt_nil _, HB3⟩
 have d3 : decide (1048576 < e + (k : Int)) = false := decide_eq_false (by omega)
 rcases Int.lt_or_le (e + (k : Int)) (-1048576) with g4 | g4
 ·have d4 : decide (e + (k : Int) < -1048576) = true := decide_eq_true g4
  have HE := Lib.hid g4
  obtain ⟨f0, f1, f2⟩ := r.open
  obtain ⟨z0, z1, z2⟩ := r.held
  go_wp2
  have qq := r.put false none 0 0 0
  have HB3 := below_put3 (g := w.heap.size + 1) BB (by omega) (.bool false) (.slice none 0 0) (.int .i64 0)
  obtain ⟨z0, z1, z2⟩ := qq.held
  exact bodyPost_ret (v := .tuple #[.agg #[.bool false, .slice none 0 0, .int .i64 0], .int .i64 3]) (by simp [results, Tryz.results77, go_sem, z0, z1, z2]) rfl ⟨3, false, none, 0, 0, 0, 0, rfl, .inr ⟨k, q, HKQ.out, .inr (.inl ⟨HG.out, by have := HE.out; omega, rfl, rfl, rfl, rfl⟩)⟩, nt_nil _, HB3⟩
 have d4 : decide (e + (k : Int) < -1048576) = false := decide_eq_false (by omega)
 have HE := Lib.hid (And.intro g4 g3)
 have hn2 : n2 ≤ 256 := dg_small h2 (by rw [H256]; exact HG.out)
 go_wp2_with fail
 have hw : IntKind.i64.wrap (e + (k : Int)) = e + (k : Int) := IntWalk.i64_in _ (by omega)
 have ne1 : ¬ w.heap.size + 1 = w.heap.size := by omega
 have ne2 : ¬ w.heap.size = w.heap.size + 1 := by omega
 refine rgn (fun w' => w'.cell? ⟨w.heap.size, 0, none⟩ = some (.bool s) ∧ w'.cell? ⟨w.heap.size, 2, none⟩ = some (.int .i64 e)) fun hHeld0 => ?_
 refine tl 0 ?_
 refine tl 1 ?_
 refine tl 2 ?_
 refine tl 4 ?_
 refine tl 5 ?_
 refine tl 6 ?_
 refine tl 7 ?_
 refine rdy 3 fun K hK => ?_
 go_simp
 refine (rlimbs_dg (h2.heap32 (by rfl)) (by omega)).mono ?_
 rintro en w' ⟨A5, c5, rfl, h5, b⟩
 have hN : Nt w' A5 (dig Go.Proofs.YtdklnpaocaebkaaGreatDoor.W (2 * q + 1)).length c5 (2 * q + 1) := ⟨h5, HG.out⟩
 generalize (dig Go.Proofs.YtdklnpaocaebkaaGreatDoor.W (2 * q + 1)).length = n5 at *
 clear h5
 replace BB := below_next BB BB.size b (by rfl) (by rfl) (by rfl) (by rfl)
 have G := mv b (by rfl) <| And.intro a0 <| And.intro a2 r
 clear b a0 a1 a2 h2 r
 obtain ⟨a0, a2, r⟩ := G
 obtain ⟨f0, f1, f2⟩ := r.open
 obtain ⟨z0, z1, z2⟩ := r.held
 refine bk hK fun hHeld1 => ?_
 clear hK K hHeld0
 try simp only [Act.put]
 refine tl 8 ?_
 refine rdy 9 fun K hK => ?_
 go_simp
 refine bk hK fun hHeld2 => ?_
 clear hK K hHeld1
 try simp only [Act.put]
 refine tl 10 ?_
 refine wpAnyH_done (by kernel_rfl) ?_ _
 go_wp2
 have qq := r.put s A5 n5 c5 (e + (k : Int))
 have hN5 := hN.put3 r (.bool s) (.slice A5 n5 c5) (.int .i64 (e + (k : Int)))
 have HB3 := below_put3 (g := w.heap.size + 1) BB (by omega) (.bool s) (.slice A5 n5 c5) (.int .i64 (e + (k : Int)))
 obtain ⟨z0, z1, z2⟩ := qq.held
 exact bodyPost_ret (v := .tuple #[.agg #[.bool s, .slice A5 n5 c5, .int .i64 (e + (k : Int))], .int .i64 0]) (by simp [results, Tryz.results77, go_sem, z0, z1, z2]) rfl ⟨0, s, A5, n5, c5, 2 * q + 1, e + (k : Int), rfl, .inr ⟨k, q, HKQ.out, .inr (.inr ⟨HG.out, HE.out, rfl, rfl, rfl, rfl⟩)⟩, hN5, HB3⟩

theorem odd_low {x k q : Nat} (hx : x % 2 = 1) (h : x = 2 ^ k * (2 * q + 1)) : k = 0 := by
 rcases k with _ | k
 ·rfl
 ·rw [Nat.pow_succ, Nat.mul_comm (2 ^ k) 2, Nat.mul_assoc] at h
  omega
theorem mul_low {s t : Bool} {x y k q : Nat} {e f : Int} (hd : OkD s x e) (hd' : OkD t y f) (h : x * y = 2 ^ k * (2 * q + 1)) : k ≤ 5000 := by
 have hne : x * y ≠ 0 := by rw [h]; exact Nat.mul_ne_zero (Nat.pos_iff_ne_zero.1 (pow_pos2 k)) (by omega)
 have hx : x ≠ 0 := fun h0 => hne (by rw [h0, Nat.zero_mul])
 have hy : y ≠ 0 := fun h0 => hne (by rw [h0, Nat.mul_zero])
 have := odd_low (odd_mul (okd_parts hd hx).1 (okd_parts hd' hy).1) h
 omega
theorem mul_fit {x y : Nat} (hx : x < Go.Proofs.YtdklnpaocaebkaaGreatDoor.W ^ 64) (hy : y < Go.Proofs.YtdklnpaocaebkaaGreatDoor.W ^ 64) : x * y < Go.Proofs.YtdklnpaocaebkaaGreatDoor.H ^ 512 := by
 have h := Nat.mul_lt_mul_of_lt_of_le hx (Nat.le_of_lt hy) (Nat.pow_pos (by rw [W_eq]; omega))
 obtain ⟨k, hk⟩ : ∃ k, k = 64 := ⟨_, rfl⟩
 rw [← hk, ← Nat.pow_add, ← HW_pow] at h
 have e : 4 * (k + k) = 512 := by omega
 rw [e] at h
 exact h
theorem three_dbl (w : World) {A1 A2 : Option Addr} {n1 c1 n2 c2 : Nat} {s1 s2 : Bool} {e1 e2 : Int} : Below w.heap.size w (((w.alloc (.cells #[.bool s1, .slice A1 n1 c1, .int .i64 e1] 24)).alloc (.cells #[.bool s2, .slice A2 n2 c2, .int .i64 e2] 24)).alloc (.cells #[.bool false, .slice none 0 0, .int .i64 0] 24)) ∧ Box (((w.alloc (.cells #[.bool s1, .slice A1 n1 c1, .int .i64 e1] 24)).alloc (.cells #[.bool s2, .slice A2 n2 c2, .int .i64 e2] 24)).alloc (.cells #[.bool false, .slice none 0 0, .int .i64 0] 24)) w.heap.size s1 A1 n1 c1 e1 ∧ Box (((w.alloc (.cells #[.bool s1, .slice A1 n1 c1, .int .i64 e1] 24)).alloc (.cells #[.bool s2, .slice A2 n2 c2, .int .i64 e2] 24)).alloc (.cells #[.bool false, .slice none 0 0, .int .i64 0] 24)) (w.heap.size + 1) s2 A2 n2 c2 e2 ∧ Box (((w.alloc (.cells #[.bool s1, .slice A1 n1 c1, .int .i64 e1] 24)).alloc (.cells #[.bool s2, .slice A2 n2 c2, .int .i64 e2] 24)).alloc (.cells #[.bool false, .slice none 0 0, .int .i64 0] 24)) (w.heap.size + 2) false none 0 0 0 := by
 obtain ⟨xa, xb⟩ := two_dbl w (s1 := s1) (A1 := A1) (n1 := n1) (c1 := c1) (e1 := e1) (s2 := s2) (A2 := A2) (n2 := n2) (c2 := c2) (e2 := e2)
 refine ⟨three_below w _ _ _, xa.alloc _, xb.alloc _, ?_⟩
 simpa using Box.new ((w.alloc (.cells #[.bool s1, .slice A1 n1 c1, .int .i64 e1] 24)).alloc (.cells #[.bool s2, .slice A2 n2 c2, .int .i64 e2] 24)) false none 0 0 0
theorem rmuld_no {w : World} {A1 : Option Addr} {n1 c1 : Nat} {l1 : List Nat} {s1 : Bool} {e1 : Int} {A2 : Option Addr} {n2 c2 : Nat} {l2 : List Nat} {s2 : Bool} {e2 : Int} (h1 : Rd w .u64 Go.Proofs.YtdklnpaocaebkaaGreatDoor.W A1 n1 c1 l1) (h2 : Rd w .u64 Go.Proofs.YtdklnpaocaebkaaGreatDoor.W A2 n2 c2 l2) (hd : ¬ (mayD s1 l1 e1 = true ∧ mayD s2 l2 e2 = true)) :
  Calls Tryz.prog 41 #[.agg #[.bool s1, .slice A1 n1 c1, .int .i64 e1], .agg #[.bool s2, .slice A2 n2 c2, .int .i64 e2]] w (Tells Wrong w) := by
 obtain ⟨BB, xa, xb, r⟩ := three_dbl w (s1 := s1) (A1 := A1) (n1 := n1) (c1 := c1) (e1 := e1) (s2 := s2) (A2 := A2) (n2 := n2) (c2 := c2) (e2 := e2)
 obtain ⟨a10, a11, a12⟩ := xa.held
 obtain ⟨a20, a21, a22⟩ := xb.held
 clear xa xb
 have ne1 : ¬ w.heap.size + 2 = w.heap.size := by omega
 have ne2 : ¬ w.heap.size = w.heap.size + 2 := by omega
 have ne3 : ¬ w.heap.size + 2 = w.heap.size + 1 := by omega
 have ne4 : ¬ w.heap.size + 1 = w.heap.size + 2 := by omega
 have G := mv BB rfl <| And.intro h1 <| h2
 clear h1 h2
 obtain ⟨h1, h2⟩ := G
 have HD := Lib.hid hd
 clear hd
 go_enter Tryz.func41, Tryz.ntmps41
 go_wp2_with fail
 refine (rmayd_any (s := s1) (e := e1) h1).mono ?_
 rintro en w1 ⟨rfl, b⟩
 replace BB := bnx BB b
 have G := mv b rfl (J9 a10 a11 a12 a20 a21 a22 h1 h2 r)
 clear b a10 a11 a12 a20 a21 a22 h1 h2 r
 obtain ⟨a10, a11, a12, a20, a21, a22, h1, h2, r⟩ := G
 cases q1 : mayD s1 l1 e1
 ·clear q1
  obtain ⟨f0, f1, f2⟩ := r.open
  obtain ⟨z0, z1, z2⟩ := r.held
  go_wp2
  have qq := r.put false none 0 0 0
  have HB3 := below_put3 (g := w.heap.size + 2) BB (by omega) (.bool false) (.slice none 0 0) (.int .i64 0)
  obtain ⟨z0, z1, z2⟩ := qq.held
  exact bodyPost_ret (v := .tuple #[.agg #[.bool false, .slice none 0 0, .int .i64 0], .int .i64 1]) (by simp [results, Tryz.results41, go_sem, z0, z1, z2]) rfl ⟨_, _, _, _, _, 0, _, rfl, ⟨rfl, rfl, rfl, rfl⟩, nt_nil _, HB3⟩
 go_wp2_with fail
 refine (rmayd_any (s := s2) (e := e2) h2).mono ?_
 rintro en w2 ⟨rfl, b⟩
 replace BB := bnx BB b
 have G := mv b rfl (J9 a10 a11 a12 a20 a21 a22 h1 h2 r)
 clear b a10 a11 a12 a20 a21 a22 h1 h2 r
 obtain ⟨a10, a11, a12, a20, a21, a22, h1, h2, r⟩ := G
 have q2 : mayD s2 l2 e2 = false := by
  cases q : mayD s2 l2 e2
  ·rfl
  ·exact absurd ⟨q1, q⟩ HD.out
 rw [q2]
 clear q1 q2
 obtain ⟨f0, f1, f2⟩ := r.open
 obtain ⟨z0, z1, z2⟩ := r.held
 go_wp2
 have qq := r.put false none 0 0 0
 have HB3 := below_put3 (g := w.heap.size + 2) BB (by omega) (.bool false) (.slice none 0 0) (.int .i64 0)
 obtain ⟨z0, z1, z2⟩ := qq.held
 exact bodyPost_ret (v := .tuple #[.agg #[.bool false, .slice none 0 0, .int .i64 0], .int .i64 1]) (by simp [results, Tryz.results41, go_sem, z0, z1, z2]) rfl ⟨_, _, _, _, _, 0, _, rfl, ⟨rfl, rfl, rfl, rfl⟩, nt_nil _, HB3⟩

theorem rmuld_ok {w : World} {A1 : Option Addr} {n1 c1 x1 : Nat} {s1 : Bool} {e1 : Int} {A2 : Option Addr} {n2 c2 x2 : Nat} {s2 : Bool} {e2 : Int} (h1 : Nt w A1 n1 c1 x1) (d1 : OkD s1 x1 e1) (h2 : Nt w A2 n2 c2 x2) (d2 : OkD s2 x2 e2)  :
  Calls Tryz.prog 41 #[.agg #[.bool s1, .slice A1 n1 c1, .int .i64 e1], .agg #[.bool s2, .slice A2 n2 c2, .int .i64 e2]] w (Tells (Nm (s1 != s2) (x1 * x2) (e1 + e2)) w) := by
 have M1 := Lib.hid (mayD_ok d1)
 have M2 := Lib.hid (mayD_ok d2)
 have n1l := h1.le
 have n2l := h2.le
 have bx := blen_nt h1
 have by_ := blen_nt h2
 have g1 := okd_ge (K := 4194304) (Nat.le_refl _) d1
 have g2 := okd_ge (K := 4194304) (Nat.le_refl _) d2
 have r1 := g1.1
 have r2 := g1.2.1
 have r3 := g2.1
 have r4 := g2.2.1
 have O1 := Lib.hid d1
 have O2 := Lib.hid d2
 clear g1 g2 d1 d2
 obtain ⟨BB, xa, xb, r⟩ := three_dbl w (s1 := s1) (A1 := A1) (n1 := n1) (c1 := c1) (e1 := e1) (s2 := s2) (A2 := A2) (n2 := n2) (c2 := c2) (e2 := e2)
 obtain ⟨a10, a11, a12⟩ := xa.held
 obtain ⟨a20, a21, a22⟩ := xb.held
 clear xa xb
 have ne1 : ¬ w.heap.size + 2 = w.heap.size := by omega
 have ne2 : ¬ w.heap.size = w.heap.size + 2 := by omega
 have ne3 : ¬ w.heap.size + 2 = w.heap.size + 1 := by omega
 have ne4 : ¬ w.heap.size + 1 = w.heap.size + 2 := by omega
 have G := mv BB rfl <| And.intro h1 <| h2
 clear h1 h2
 obtain ⟨h1, h2⟩ := G
 have hw : IntKind.i64.wrap (e1 + e2) = e1 + e2 := IntWalk.i64_in _ (by omega)
 have HF := Lib.hid (mul_fit h1.lt h2.lt)
 have HLW : Hid (∀ k q : Nat, x1 * x2 = 2 ^ k * (2 * q + 1) → k ≤ 5000) := Lib.hid fun k q h => mul_low O1.out O2.out h
 clear O1 O2
 go_enter Tryz.func41, Tryz.ntmps41
 go_wp2_with fail
 refine (rmayd_any (s := s1) (e := e1) h1.rd).mono ?_
 rintro en w1 ⟨rfl, b⟩
 rw [M1.out]
 replace BB := bnx BB b
 have G := mv b rfl (J9 a10 a11 a12 a20 a21 a22 h1 h2 r)
 clear b a10 a11 a12 a20 a21 a22 h1 h2 r
 obtain ⟨a10, a11, a12, a20, a21, a22, h1, h2, r⟩ := G
 go_wp2_with fail
 refine (rmayd_any (s := s2) (e := e2) h2.rd).mono ?_
 rintro en w2 ⟨rfl, b⟩
 rw [M2.out]
 replace BB := bnx BB b
 have G := mv b rfl (J9 a10 a11 a12 a20 a21 a22 h1 h2 r)
 clear b a10 a11 a12 a20 a21 a22 h1 h2 r
 obtain ⟨a10, a11, a12, a20, a21, a22, h1, h2, r⟩ := G
 go_wp2_with fail
 refine rgn (fun w' => w'.cell? ⟨w.heap.size, 0, none⟩ = some (.bool s1) ∧ w'.cell? ⟨w.heap.size, 1, none⟩ = some (.slice A1 n1 c1) ∧ w'.cell? ⟨w.heap.size, 2, none⟩ = some (.int .i64 e1) ∧ w'.cell? ⟨(w.heap.size + 1), 0, none⟩ = some (.bool s2) ∧ w'.cell? ⟨(w.heap.size + 1), 1, none⟩ = some (.slice A2 n2 c2) ∧ w'.cell? ⟨(w.heap.size + 1), 2, none⟩ = some (.int .i64 e2)) fun hHeldv0 => ?_
 refine tl 0 ?_
 refine tl 1 ?_
 refine tl 2 ?_
 refine tl 3 ?_
 refine wpAnyH_take (i := 4) (v := ?vv4) rfl (by kernel_rfl) (by kernel_rfl) (by kernel_rfl) (fun _ _ _ h => panic_put (P := Tryz.prog) (fn := Tryz.f41) (R := (Tells (Nm (s1 != s2) (x1 * x2) (e1 + e2)) w)) h) (Or.inl ⟨by rfl, ?vy4⟩) (by assumption) ?_
 case vy4 => (intro w hSw; (try dsimp only at hSw); go_simp; (try simp only [hw])); try with_reducible rfl
 change wpAnyH _ _ _ _ _ _ _ (Act.put _ (some 19) _) _
 simp only [Act.put, List.setIfInBounds_toArray, List.set_cons_zero, List.set_cons_succ]
 refine tl 5 ?_
 refine tl 6 ?_
 refine tl 8 ?_
 refine tl 9 ?_
 refine tl 12 ?_
 refine tl 13 ?_
 refine tl 14 ?_
 refine tl 15 ?_
 refine wpAnyH_take (i := 16) (v := ?vv16) rfl (by kernel_rfl) (by kernel_rfl) (by kernel_rfl) (fun _ _ _ h => panic_put (P := Tryz.prog) (fn := Tryz.f41) (R := (Tells (Nm (s1 != s2) (x1 * x2) (e1 + e2)) w)) h) (Or.inl ⟨by rfl, ?vy16⟩) (by assumption) ?_
 case vy16 => (intro w hSw; (try dsimp only at hSw); go_simp; (try simp only [hw])); try with_reducible rfl
 change wpAnyH _ _ _ _ _ _ _ (Act.put _ (some 31) _) _
 simp only [Act.put, List.setIfInBounds_toArray, List.set_cons_zero, List.set_cons_succ]
 refine rdy 7 fun K hK => ?_
 go_simp
 refine (rfrom_any (h1.rd.next' (by rfl)) (by omega)).mono ?_
 rintro en w' ⟨A3, n3, c3, rfl, h3, b⟩
 rw [val_dig W_two] at h3
 have n3l : n3 ≤ 256 := dg_small h3 (by rw [H256]; exact h1.lt)
 clear h1
 replace BB := below_next BB BB.size b (by rfl) (by rfl) (by rfl) (by rfl)
 have G := mv b (by rfl) <| And.intro a10 <| And.intro a11 <| And.intro a12 <| And.intro a20 <| And.intro a21 <| And.intro a22 <| And.intro r <| h2
 clear b a10 a11 a12 a20 a21 a22 r h2
 obtain ⟨a10, a11, a12, a20, a21, a22, r, h2⟩ := G
 replace h3 := Dg.heap32 h3 (by rfl)
 refine bk hK fun hHeldv1 => ?_
 clear hK K hHeldv0
 try simp only [Act.put]
 refine rdy 10 fun K hK => ?_
 go_simp
 refine (rfrom_any (h2.rd.next' (by rfl)) (by omega)).mono ?_
 rintro en w' ⟨A4, n4, c4, rfl, h4, b⟩
 rw [val_dig W_two] at h4
 have n4l : n4 ≤ 256 := dg_small h4 (by rw [H256]; exact h2.lt)
 clear h2
 replace BB := below_next BB BB.size b (by rfl) (by rfl) (by rfl) (by rfl)
 have G := mv b (by rfl) <| And.intro a10 <| And.intro a11 <| And.intro a12 <| And.intro a20 <| And.intro a21 <| And.intro a22 <| And.intro r <| h3
 clear b a10 a11 a12 a20 a21 a22 r h3
 obtain ⟨a10, a11, a12, a20, a21, a22, r, h3⟩ := G
 replace h4 := Dg.heap32 h4 (by rfl)
 refine bk hK fun hHeldv2 => ?_
 clear hK K hHeldv1
 try simp only [Act.put]
 refine rdy 11 fun K hK => ?_
 go_simp
 refine (rmul_any (h3.heap32 (by rfl)) (h4.heap32 (by rfl)) (by omega) (by omega)).mono ?_
 rintro en w' ⟨A5, n5, c5, rfl, h5, b⟩
 have n5l : n5 ≤ 512 := dg_small h5 HF.out
 clear h3 h4
 replace BB := below_next BB BB.size b (by rfl) (by rfl) (by rfl) (by rfl)
 have G := mv b (by rfl) <| And.intro a10 <| And.intro a11 <| And.intro a12 <| And.intro a20 <| And.intro a21 <| And.intro a22 <| r
 clear b a10 a11 a12 a20 a21 a22 r
 obtain ⟨a10, a11, a12, a20, a21, a22, r⟩ := G
 replace h5 := Dg.heap32 h5 (by rfl)
 refine bk hK fun hHeldv3 => ?_
 clear hK K hHeldv2
 try simp only [Act.put]
 refine tl 17 ?_
 refine rdy 18 fun K hK => ?_
 go_simp
 refine (rnorm_low (s := s1 != s2) (e := e1 + e2) (h5.heap32 (by rfl)) HLW.out (by omega)).mono ?_
 rintro en w' ⟨k6, s6, A6, n6, c6, m6, e6, rfl, hP, h6, b⟩
 have HP := Lib.hid hP
 clear hP h5
 replace BB := below_next BB BB.size b (by rfl) (by rfl) (by rfl) (by rfl)
 have G := mv b (by rfl) <| And.intro a10 <| And.intro a11 <| And.intro a12 <| And.intro a20 <| And.intro a21 <| And.intro a22 <| r
 clear b a10 a11 a12 a20 a21 a22 r
 obtain ⟨a10, a11, a12, a20, a21, a22, r⟩ := G
 replace h6 := h6.heap (by rfl)
 obtain ⟨f0, f1, f2⟩ := r.open
 obtain ⟨z0, z1, z2⟩ := r.held
 refine bk hK fun hHeldv4 => ?_
 clear hK K hHeldv3
 try simp only [Act.put]
 refine tl 19 ?_
 refine tl 20 ?_
 refine rdy 21 fun K hK => ?_
 go_simp
 refine bk hK fun hHeldv5 => ?_
 clear hK K hHeldv4
 try simp only [Act.put]
 refine tl 22 ?_
 refine wpAnyH_done (by kernel_rfl) ?_ _
 go_wp2
 have qq := r.put s6 A6 n6 c6 e6
 have hN := h6.put3 r (.bool s6) (.slice A6 n6 c6) (.int .i64 e6)
 have HB3 := below_put3 (g := w.heap.size + 2) BB (by omega) (.bool s6) (.slice A6 n6 c6) (.int .i64 e6)
 obtain ⟨z0, z1, z2⟩ := qq.held
 exact bodyPost_ret (v := .tuple #[.agg #[.bool s6, .slice A6 n6 c6, .int .i64 e6], .int .i64 k6]) (by simp [results, Tryz.results41, go_sem, z0, z1, z2]) rfl ⟨_, _, _, _, _, _, _, rfl, HP.out, hN, HB3⟩

theorem rmuld_raw {w : World} {A1 : Option Addr} {n1 c1 : Nat} {l1 : List Nat} {s1 : Bool} {e1 : Int} {A2 : Option Addr} {n2 c2 : Nat} {l2 : List Nat} {s2 : Bool} {e2 : Int} (h1 : Rd w .u64 Go.Proofs.YtdklnpaocaebkaaGreatDoor.W A1 n1 c1 l1) (h2 : Rd w .u64 Go.Proofs.YtdklnpaocaebkaaGreatDoor.W A2 n2 c2 l2) :
  Calls Tryz.prog 41 #[.agg #[.bool s1, .slice A1 n1 c1, .int .i64 e1], .agg #[.bool s2, .slice A2 n2 c2, .int .i64 e2]] w (Tells (mulR s1 l1 e1 s2 l2 e2) w) := by
 unfold mulR
 by_cases hd : mayD s1 l1 e1 = true ∧ mayD s2 l2 e2 = true
 ·rw [if_pos hd]
  obtain ⟨hN, hok, _⟩ := rd_okd h1 hd.1
  obtain ⟨hN', hok', _⟩ := rd_okd h2 hd.2
  exact rmuld_ok hN hok hN' hok'
 ·rw [if_neg hd]
  exact rmuld_no h1 h2 hd
end Go.Proofs.YtdklnpaocaebkaaGreatDoor
