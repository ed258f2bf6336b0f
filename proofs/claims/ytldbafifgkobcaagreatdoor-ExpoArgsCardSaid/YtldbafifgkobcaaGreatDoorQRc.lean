/-
 Contracts of the reference's CmpDyad, MulDyad, SubDyad, at this translation. Condition: the slices read as limbs.
-/
import Derived.Test.YtldbafifgkobcaaGreatDoorQRj
set_option maxHeartbeats 8000000
set_option maxRecDepth 100000
namespace Go.Proofs.YtldbafifgkobcaaGreatDoor
open Go.RowKit

theorem rsign_ok {w : World} {A1 : Option Addr} {n1 c1 x1 : Nat} {s1 : Bool} {e1 : Int} (h1 : Nt w A1 n1 c1 x1) (d1 : OkD s1 x1 e1) :
  Calls Tryz.prog 47 #[.agg #[.bool s1, .slice A1 n1 c1, .int .i64 e1]] w (Ints (signD s1 x1) w) := by
 have hz : n1 = 0 ↔ x1 = 0 := h1.zero
 have BB := below_alloc w (.cells #[.bool s1, .slice A1 n1 c1, .int .i64 e1] 24)
 obtain ⟨a10, a11, a12⟩ := (Box.new w s1 A1 n1 c1 e1).held
 replace h1 := mv BB rfl h1
 have HD := Lib.hid (mayD_ok d1)
 clear d1
 obtain ⟨z, hS⟩ : ∃ z, z = signD s1 x1 := ⟨_, rfl⟩
 rw [← hS]
 unfold signD at hS
 have HS := Lib.hid hS
 clear hS
 go_enter Tryz.func47, Tryz.ntmps47
 go_wp2_with fail
 refine (rmayd_any (s := s1) (e := e1) h1.rd).mono ?_
 rintro en w1 ⟨rfl, b⟩
 rw [HD.out]
 replace BB := bnx BB b
 have G := mv b rfl (J4 a10 a11 a12 h1)
 clear b a10 a11 a12 h1
 obtain ⟨a10, a11, a12, h1⟩ := G
 by_cases h0 : n1 = 0
 ·have HR : Hid (z = 0) := Lib.hid (by rw [HS.out, if_pos (hz.1 h0)])
  have f00 : ((n1 : Int) == 0) = true := by simp [h0]
  clear hz h0 HS
  go_wp2
  go_ret
  exact ⟨congrArg (fun z => Ending.returned (Value.int .i64 z)) HR.out.symm, BB⟩
 have hx : x1 ≠ 0 := fun h => h0 (hz.2 h)
 have f00 : ((n1 : Int) == 0) = false := by simp [h0]
 cases s1
 ·have HR : Hid (z = 1) := Lib.hid (by rw [HS.out, if_neg hx]; rfl)
  clear hz h0 HS hx
  go_wp2
  go_ret
  exact ⟨congrArg (fun z => Ending.returned (Value.int .i64 z)) HR.out.symm, BB⟩
 ·have HR : Hid (z = -1) := Lib.hid (by rw [HS.out, if_neg hx]; rfl)
  clear hz h0 HS hx
  go_wp2
  go_ret
  exact ⟨congrArg (fun z => Ending.returned (Value.int .i64 z)) HR.out.symm, BB⟩

end Go.Proofs.YtldbafifgkobcaaGreatDoor

namespace Go.Proofs.YtldbafifgkobcaaGreatDoor
open Go.RowKit

theorem dbx_two (w : World) {A1 A2 : Option Addr} {n1 c1 n2 c2 : Nat} {s1 s2 : Bool} {e1 e2 : Int} : Dbx ((w.alloc (.cells #[.bool s1, .slice A1 n1 c1, .int .i64 e1] 60)).alloc (.cells #[.bool s2, .slice A2 n2 c2, .int .i64 e2] 60)) w.heap.size s1 A1 n1 c1 e1 ∧ Dbx ((w.alloc (.cells #[.bool s1, .slice A1 n1 c1, .int .i64 e1] 60)).alloc (.cells #[.bool s2, .slice A2 n2 c2, .int .i64 e2] 60)) (w.heap.size + 1) s2 A2 n2 c2 e2 :=
 ⟨(Dbx.new w s1 A1 n1 c1 e1).alloc _, by simpa using Dbx.new (w.alloc (.cells #[.bool s1, .slice A1 n1 c1, .int .i64 e1] 60)) s2 A2 n2 c2 e2⟩
theorem rsize_lt {w : World} {A1 A2 : Option Addr} {n1 c1 n2 c2 x y : Nat} {s1 s2 : Bool} {e1 e2 : Int} (h1 : Dg w A1 n1 c1 x) (h2 : Dg w A2 n2 c2 y) (bx : blen x ≤ 4096) (by_ : blen y ≤ 4096) (hn1 : n1 ≤ 600) (hn2 : n2 ≤ 600) (r1 : -1048576 ≤ e1) (r2 : e1 ≤ 1048576) (r3 : -1048576 ≤ e2) (r4 : e2 ≤ 1048576) (hr : (blen x : Int) + e1 < (blen y : Int) + e2) :
  Calls Tryz.prog 48 #[.agg #[.bool s1, .slice A1 n1 c1, .int .i64 e1], .agg #[.bool s2, .slice A2 n2 c2, .int .i64 e2]] w (Ints (-1) w) := by
 have BB := two_below w (.cells #[.bool s1, .slice A1 n1 c1, .int .i64 e1] 60) (.cells #[.bool s2, .slice A2 n2 c2, .int .i64 e2] 60)
 obtain ⟨xa, xb⟩ := dbx_two w (s1 := s1) (A1 := A1) (n1 := n1) (c1 := c1) (e1 := e1) (s2 := s2) (A2 := A2) (n2 := n2) (c2 := c2) (e2 := e2)
 obtain ⟨a10, a11, a12⟩ := xa.held
 obtain ⟨a20, a21, a22⟩ := xb.held
 clear xa xb
 have G := mv BB rfl <| And.intro h1 <| h2
 clear h1 h2
 obtain ⟨h1, h2⟩ := G
 have hw1 : IntKind.i64.wrap ((blen x : Int) + e1) = (blen x : Int) + e1 := IntWalk.i64_in _ (by omega)
 have hw2 : IntKind.i64.wrap ((blen y : Int) + e2) = (blen y : Int) + e2 := IntWalk.i64_in _ (by omega)
 go_enter Tryz.func48, Tryz.ntmps48
 go_wp2_with fail
 refine rgn (fun w' => w'.cell? ⟨w.heap.size, 0, none⟩ = some (.bool s1) ∧ w'.cell? ⟨w.heap.size, 1, none⟩ = some (.slice A1 n1 c1) ∧ w'.cell? ⟨w.heap.size, 2, none⟩ = some (.int .i64 e1) ∧ w'.cell? ⟨(w.heap.size + 1), 0, none⟩ = some (.bool s2) ∧ w'.cell? ⟨(w.heap.size + 1), 1, none⟩ = some (.slice A2 n2 c2) ∧ w'.cell? ⟨(w.heap.size + 1), 2, none⟩ = some (.int .i64 e2)) fun hHeldu0 => ?_
 refine tl 0 ?_
 refine tl 1 ?_
 refine tl 3 ?_
 refine tl 4 ?_
 refine tl 6 ?_
 refine tl 7 ?_
 refine tl 9 ?_
 refine tl 10 ?_
 refine rdy 2 fun K hK => ?_
 go_simp
 refine (rbits_any (h1.heap32 (by rfl)) (by omega)).mono ?_
 rintro en w' ⟨rfl, rfl⟩
 refine bk hK fun hHeldu1 => ?_
 clear hK K hHeldu0
 try simp only [Act.put]
 refine wpAnyH_take (i := 5) (v := ?uv5) rfl (by kernel_rfl) (by kernel_rfl) (by kernel_rfl) (fun _ _ _ h => panic_put (P := Tryz.prog) (fn := Tryz.f48) (R := (Ints (-1) w)) h) (Or.inl ⟨by rfl, ?uy5⟩) (by assumption) ?_
 case uy5 => (intro w hSw; (try dsimp only at hSw); go_simp; (try simp only [hw1, hw2])); try with_reducible rfl
 change wpAnyH _ _ _ _ _ _ _ (Act.put _ (some 13) _) _
 simp only [Act.put, List.setIfInBounds_toArray, List.set_cons_zero, List.set_cons_succ]
 refine rdy 8 fun K hK => ?_
 go_simp
 refine (rbits_any (h2.heap32 (by rfl)) (by omega)).mono ?_
 rintro en w' ⟨rfl, rfl⟩
 refine bk hK fun hHeldu2 => ?_
 clear hK K hHeldu1
 try simp only [Act.put]
 refine wpAnyH_take (i := 11) (v := ?uv11) rfl (by kernel_rfl) (by kernel_rfl) (by kernel_rfl) (fun _ _ _ h => panic_put (P := Tryz.prog) (fn := Tryz.f48) (R := (Ints (-1) w)) h) (Or.inl ⟨by rfl, ?uy11⟩) (by assumption) ?_
 case uy11 => (intro w hSw; (try dsimp only at hSw); go_simp; (try simp only [hw1, hw2])); try with_reducible rfl
 change wpAnyH _ _ _ _ _ _ _ (Act.put _ (some 19) _) _
 simp only [Act.put, List.setIfInBounds_toArray, List.set_cons_zero, List.set_cons_succ]
 refine tl 12 ?_
 refine tl 13 ?_
 refine wpAnyH_done (by kernel_rfl) ?_ _
 have q0 : ((blen x : Int) + e1 != (blen y : Int) + e2) = true := by simp; omega
 have q1 : decide ((blen x : Int) + e1 < (blen y : Int) + e2) = true := decide_eq_true (by omega)
 clear hr
 go_wp2
 go_ret
 exact ⟨rfl, below_drewN BB _⟩

theorem rsize_gt {w : World} {A1 A2 : Option Addr} {n1 c1 n2 c2 x y : Nat} {s1 s2 : Bool} {e1 e2 : Int} (h1 : Dg w A1 n1 c1 x) (h2 : Dg w A2 n2 c2 y) (bx : blen x ≤ 4096) (by_ : blen y ≤ 4096) (hn1 : n1 ≤ 600) (hn2 : n2 ≤ 600) (r1 : -1048576 ≤ e1) (r2 : e1 ≤ 1048576) (r3 : -1048576 ≤ e2) (r4 : e2 ≤ 1048576) (hr : (blen y : Int) + e2 < (blen x : Int) + e1) :
  Calls Tryz.prog 48 #[.agg #[.bool s1, .slice A1 n1 c1, .int .i64 e1], .agg #[.bool s2, .slice A2 n2 c2, .int .i64 e2]] w (Ints 1 w) := by
 have BB := two_below w (.cells #[.bool s1, .slice A1 n1 c1, .int .i64 e1] 60) (.cells #[.bool s2, .slice A2 n2 c2, .int .i64 e2] 60)
 obtain ⟨xa, xb⟩ := dbx_two w (s1 := s1) (A1 := A1) (n1 := n1) (c1 := c1) (e1 := e1) (s2 := s2) (A2 := A2) (n2 := n2) (c2 := c2) (e2 := e2)
 obtain ⟨a10, a11, a12⟩ := xa.held
 obtain ⟨a20, a21, a22⟩ := xb.held
 clear xa xb
 have G := mv BB rfl <| And.intro h1 <| h2
 clear h1 h2
 obtain ⟨h1, h2⟩ := G
 have hw1 : IntKind.i64.wrap ((blen x : Int) + e1) = (blen x : Int) + e1 := IntWalk.i64_in _ (by omega)
 have hw2 : IntKind.i64.wrap ((blen y : Int) + e2) = (blen y : Int) + e2 := IntWalk.i64_in _ (by omega)
 go_enter Tryz.func48, Tryz.ntmps48
 go_wp2_with fail
 refine rgn (fun w' => w'.cell? ⟨w.heap.size, 0, none⟩ = some (.bool s1) ∧ w'.cell? ⟨w.heap.size, 1, none⟩ = some (.slice A1 n1 c1) ∧ w'.cell? ⟨w.heap.size, 2, none⟩ = some (.int .i64 e1) ∧ w'.cell? ⟨(w.heap.size + 1), 0, none⟩ = some (.bool s2) ∧ w'.cell? ⟨(w.heap.size + 1), 1, none⟩ = some (.slice A2 n2 c2) ∧ w'.cell? ⟨(w.heap.size + 1), 2, none⟩ = some (.int .i64 e2)) fun hHeldu0 => ?_
 refine tl 0 ?_
 refine tl 1 ?_
 refine tl 3 ?_
 refine tl 4 ?_
 refine tl 6 ?_
 refine tl 7 ?_
 refine tl 9 ?_
 refine tl 10 ?_
 refine rdy 2 fun K hK => ?_
 go_simp
 refine (rbits_any (h1.heap32 (by rfl)) (by omega)).mono ?_
 rintro en w' ⟨rfl, rfl⟩
 refine bk hK fun hHeldu1 => ?_
 clear hK K hHeldu0
 try simp only [Act.put]
 refine wpAnyH_take (i := 5) (v := ?uv5) rfl (by kernel_rfl) (by kernel_rfl) (by kernel_rfl) (fun _ _ _ h => panic_put (P := Tryz.prog) (fn := Tryz.f48) (R := (Ints 1 w)) h) (Or.inl ⟨by rfl, ?uy5⟩) (by assumption) ?_
 case uy5 => (intro w hSw; (try dsimp only at hSw); go_simp; (try simp only [hw1, hw2])); try with_reducible rfl
 change wpAnyH _ _ _ _ _ _ _ (Act.put _ (some 13) _) _
 simp only [Act.put, List.setIfInBounds_toArray, List.set_cons_zero, List.set_cons_succ]
 refine rdy 8 fun K hK => ?_
 go_simp
 refine (rbits_any (h2.heap32 (by rfl)) (by omega)).mono ?_
 rintro en w' ⟨rfl, rfl⟩
 refine bk hK fun hHeldu2 => ?_
 clear hK K hHeldu1
 try simp only [Act.put]
 refine wpAnyH_take (i := 11) (v := ?uv11) rfl (by kernel_rfl) (by kernel_rfl) (by kernel_rfl) (fun _ _ _ h => panic_put (P := Tryz.prog) (fn := Tryz.f48) (R := (Ints 1 w)) h) (Or.inl ⟨by rfl, ?uy11⟩) (by assumption) ?_
 case uy11 => (intro w hSw; (try dsimp only at hSw); go_simp; (try simp only [hw1, hw2])); try with_reducible rfl
 change wpAnyH _ _ _ _ _ _ _ (Act.put _ (some 19) _) _
 simp only [Act.put, List.setIfInBounds_toArray, List.set_cons_zero, List.set_cons_succ]
 refine tl 12 ?_
 refine tl 13 ?_
 refine wpAnyH_done (by kernel_rfl) ?_ _
 have q0 : ((blen x : Int) + e1 != (blen y : Int) + e2) = true := by simp; omega
 have q1 : decide ((blen x : Int) + e1 < (blen y : Int) + e2) = false := decide_eq_false (by omega)
 clear hr
 go_wp2
 go_ret
 exact ⟨rfl, below_drewN BB _⟩

theorem rsize_eq {w : World} {A1 A2 : Option Addr} {n1 c1 n2 c2 x y i j : Nat} {s1 s2 : Bool} {e1 e2 lo : Int} (h1 : Dg w A1 n1 c1 x) (h2 : Dg w A2 n2 c2 y) (bx : blen x ≤ 4096) (by_ : blen y ≤ 4096) (hn1 : n1 ≤ 600) (hn2 : n2 ≤ 600) (r1 : -1048576 ≤ e1) (r2 : e1 ≤ 1048576) (r3 : -1048576 ≤ e2) (r4 : e2 ≤ 1048576) (hr : (blen x : Int) + e1 = (blen y : Int) + e2) (hlo : min e1 e2 = lo) (hi : e1 - lo = (i : Int)) (hj : e2 - lo = (j : Int)) :
  Calls Tryz.prog 48 #[.agg #[.bool s1, .slice A1 n1 c1, .int .i64 e1], .agg #[.bool s2, .slice A2 n2 c2, .int .i64 e2]] w (Ints (cmpN (x * 2 ^ i) (y * 2 ^ j)) w) := by
 have BB := two_below w (.cells #[.bool s1, .slice A1 n1 c1, .int .i64 e1] 60) (.cells #[.bool s2, .slice A2 n2 c2, .int .i64 e2] 60)
 obtain ⟨xa, xb⟩ := dbx_two w (s1 := s1) (A1 := A1) (n1 := n1) (c1 := c1) (e1 := e1) (s2 := s2) (A2 := A2) (n2 := n2) (c2 := c2) (e2 := e2)
 obtain ⟨a10, a11, a12⟩ := xa.held
 obtain ⟨a20, a21, a22⟩ := xb.held
 clear xa xb
 have G := mv BB rfl <| And.intro h1 <| h2
 clear h1 h2
 obtain ⟨h1, h2⟩ := G
 have hw1 : IntKind.i64.wrap ((blen x : Int) + e1) = (blen x : Int) + e1 := IntWalk.i64_in _ (by omega)
 have hw2 : IntKind.i64.wrap ((blen y : Int) + e2) = (blen y : Int) + e2 := IntWalk.i64_in _ (by omega)
 go_enter Tryz.func48, Tryz.ntmps48
 go_wp2_with fail
 refine rgn (fun w' => w'.cell? ⟨w.heap.size, 0, none⟩ = some (.bool s1) ∧ w'.cell? ⟨w.heap.size, 1, none⟩ = some (.slice A1 n1 c1) ∧ w'.cell? ⟨w.heap.size, 2, none⟩ = some (.int .i64 e1) ∧ w'.cell? ⟨(w.heap.size + 1), 0, none⟩ = some (.bool s2) ∧ w'.cell? ⟨(w.heap.size + 1), 1, none⟩ = some (.slice A2 n2 c2) ∧ w'.cell? ⟨(w.heap.size + 1), 2, none⟩ = some (.int .i64 e2)) fun hHeldu0 => ?_
 refine tl 0 ?_
 refine tl 1 ?_
 refine tl 3 ?_
 refine tl 4 ?_
 refine tl 6 ?_
 refine tl 7 ?_
 refine tl 9 ?_
 refine tl 10 ?_
 refine rdy 2 fun K hK => ?_
 go_simp
 refine (rbits_any (h1.heap32 (by rfl)) (by omega)).mono ?_
 rintro en w' ⟨rfl, rfl⟩
 refine bk hK fun hHeldu1 => ?_
 clear hK K hHeldu0
 try simp only [Act.put]
 refine wpAnyH_take (i := 5) (v := ?uv5) rfl (by kernel_rfl) (by kernel_rfl) (by kernel_rfl) (fun _ _ _ h => panic_put (P := Tryz.prog) (fn := Tryz.f48) (R := (Ints (cmpN (x * 2 ^ i) (y * 2 ^ j)) w)) h) (Or.inl ⟨by rfl, ?uy5⟩) (by assumption) ?_
 case uy5 => (intro w hSw; (try dsimp only at hSw); go_simp; (try simp only [hw1, hw2])); try with_reducible rfl
 change wpAnyH _ _ _ _ _ _ _ (Act.put _ (some 13) _) _
 simp only [Act.put, List.setIfInBounds_toArray, List.set_cons_zero, List.set_cons_succ]
 refine rdy 8 fun K hK => ?_
 go_simp
 refine (rbits_any (h2.heap32 (by rfl)) (by omega)).mono ?_
 rintro en w' ⟨rfl, rfl⟩
 refine bk hK fun hHeldu2 => ?_
 clear hK K hHeldu1
 try simp only [Act.put]
 refine wpAnyH_take (i := 11) (v := ?uv11) rfl (by kernel_rfl) (by kernel_rfl) (by kernel_rfl) (fun _ _ _ h => panic_put (P := Tryz.prog) (fn := Tryz.f48) (R := (Ints (cmpN (x * 2 ^ i) (y * 2 ^ j)) w)) h) (Or.inl ⟨by rfl, ?uy11⟩) (by assumption) ?_
 case uy11 => (intro w hSw; (try dsimp only at hSw); go_simp; (try simp only [hw1, hw2])); try with_reducible rfl
 change wpAnyH _ _ _ _ _ _ _ (Act.put _ (some 19) _) _
 simp only [Act.put, List.setIfInBounds_toArray, List.set_cons_zero, List.set_cons_succ]
 refine tl 12 ?_
 refine tl 13 ?_
 refine wpAnyH_done (by kernel_rfl) ?_ _
 have q0 : ((blen x : Int) + e1 != (blen y : Int) + e2) = false := by simp; omega
 have hi6 : i ≤ 10000 := by omega
 have hj6 : j ≤ 10000 := by omega
 have wi : IntKind.i64.wrap (i : Int) = (i : Int) := IntWalk.i64_in _ (by omega)
 have wj : IntKind.i64.wrap (j : Int) = (j : Int) := IntWalk.i64_in _ (by omega)
 clear hr
 replace h1 := Dg.heap32 (w2 := World.drew ((w.alloc (.cells #[.bool s1, .slice A1 n1 c1, .int .i64 e1] 60)).alloc (.cells #[.bool s2, .slice A2 n2 c2, .int .i64 e2] 60))) h1 rfl
 replace h2 := Dg.heap32 (w2 := World.drew ((w.alloc (.cells #[.bool s1, .slice A1 n1 c1, .int .i64 e1] 60)).alloc (.cells #[.bool s2, .slice A2 n2 c2, .int .i64 e2] 60))) h2 rfl
 have BD : Below w.heap.size w (World.drew ((w.alloc (.cells #[.bool s1, .slice A1 n1 c1, .int .i64 e1] 60)).alloc (.cells #[.bool s2, .slice A2 n2 c2, .int .i64 e2] 60))) := below_drewN BB 1
 clear a10 a11 a12 a20 a21 a22 BB hw1 hw2
 obtain ⟨a10, a11, a12, a20, a21, a22⟩ := hHeldu2
 generalize World.drew ((w.alloc (.cells #[.bool s1, .slice A1 n1 c1, .int .i64 e1] 60)).alloc (.cells #[.bool s2, .slice A2 n2 c2, .int .i64 e2] 60)) = wd at *
 have BB := BD
 clear BD
 go_wp2_with fail
 clear q0 hlo
 refine rgn (fun w' => w'.cell? ⟨w.heap.size, 0, none⟩ = some (.bool s1) ∧ w'.cell? ⟨w.heap.size, 1, none⟩ = some (.slice A1 n1 c1) ∧ w'.cell? ⟨w.heap.size, 2, none⟩ = some (.int .i64 e1) ∧ w'.cell? ⟨(w.heap.size + 1), 0, none⟩ = some (.bool s2) ∧ w'.cell? ⟨(w.heap.size + 1), 1, none⟩ = some (.slice A2 n2 c2) ∧ w'.cell? ⟨(w.heap.size + 1), 2, none⟩ = some (.int .i64 e2)) fun hHeldv0 => ?_
 refine tl 0 ?_
 refine tl 1 ?_
 refine tl 2 ?_
 refine tl 3 ?_
 refine tl 4 ?_
 refine wpAnyH_take (i := 5) (v := ?vv5) rfl (by kernel_rfl) (by kernel_rfl) (by kernel_rfl) (fun _ _ _ h => panic_put (P := Tryz.prog) (fn := Tryz.f48) (R := (Ints (cmpN (x * 2 ^ i) (y * 2 ^ j)) w)) h) (Or.inl ⟨by rfl, ?vy5⟩) (by assumption) ?_
 case vy5 => (intro w hSw; (try dsimp only at hSw); go_simp; (try simp only [wi, wj])); try with_reducible rfl
 change wpAnyH _ _ _ _ _ _ _ (Act.put _ (some 36) _) _
 simp only [Act.put, List.setIfInBounds_toArray, List.set_cons_zero, List.set_cons_succ]
 refine tl 7 ?_
 refine tl 8 ?_
 refine tl 9 ?_
 refine tl 10 ?_
 refine tl 11 ?_
 refine wpAnyH_take (i := 12) (v := ?vv12) rfl (by kernel_rfl) (by kernel_rfl) (by kernel_rfl) (fun _ _ _ h => panic_put (P := Tryz.prog) (fn := Tryz.f48) (R := (Ints (cmpN (x * 2 ^ i) (y * 2 ^ j)) w)) h) (Or.inl ⟨by rfl, ?vy12⟩) (by assumption) ?_
 case vy12 => (intro w hSw; (try dsimp only at hSw); go_simp; (try simp only [wi, wj])); try with_reducible rfl
 change wpAnyH _ _ _ _ _ _ _ (Act.put _ (some 43) _) _
 simp only [Act.put, List.setIfInBounds_toArray, List.set_cons_zero, List.set_cons_succ]
 refine rdy 6 fun K hK => ?_
 go_simp
 refine (rshl_any (s := i) (h1.heap32 (by rfl)) (by omega) (by omega)).mono ?_
 rintro en w' ⟨A3, n3, c3, rfl, h3, b⟩
 clear h1
 replace BB := below_next BB BB.size b (by rfl) (by rfl) (by rfl) (by rfl)
 have G := mv b (by rfl) <| And.intro a10 <| And.intro a11 <| And.intro a12 <| And.intro a20 <| And.intro a21 <| And.intro a22 <| h2
 clear b a10 a11 a12 a20 a21 a22 h2
 obtain ⟨a10, a11, a12, a20, a21, a22, h2⟩ := G
 replace h3 := Dg.heap32 h3 (by rfl)
 refine bk hK fun hHeldv1 => ?_
 clear hK K hHeldv0
 try simp only [Act.put]
 refine rdy 13 fun K hK => ?_
 go_simp
 refine (rshl_any (s := j) (h2.heap32 (by rfl)) (by omega) (by omega)).mono ?_
 rintro en w' ⟨A4, n4, c4, rfl, h4, b⟩
 clear h2
 replace BB := below_next BB BB.size b (by rfl) (by rfl) (by rfl) (by rfl)
 have G := mv b (by rfl) <| And.intro a10 <| And.intro a11 <| And.intro a12 <| And.intro a20 <| And.intro a21 <| And.intro a22 <| h3
 clear b a10 a11 a12 a20 a21 a22 h3
 obtain ⟨a10, a11, a12, a20, a21, a22, h3⟩ := G
 refine bk hK fun hHeldv2 => ?_
 clear hK K hHeldv1
 try simp only [Act.put]
 refine rdy 14 fun K hK => ?_
 go_simp
 refine (rcmp_any (h3.heap32 (by rfl)) (h4.heap32 (by rfl))).mono ?_
 rintro en w' ⟨rfl, b⟩
 clear h3 h4
 replace BB := below_next BB BB.size b (by rfl) (by rfl) (by rfl) (by rfl)
 have G := mv b (by rfl) <| And.intro a10 <| And.intro a11 <| And.intro a12 <| And.intro a20 <| And.intro a21 <| a22
 clear b a10 a11 a12 a20 a21 a22
 obtain ⟨a10, a11, a12, a20, a21, a22⟩ := G
 refine bk hK fun hHeldv3 => ?_
 clear hK K hHeldv2
 try simp only [Act.put]
 refine tl 15 ?_
 refine wpAnyH_done (by kernel_rfl) ?_ _
 go_wp2
 go_ret
 exact ⟨rfl, BB⟩

theorem rsize_any {w : World} {A1 A2 : Option Addr} {n1 c1 n2 c2 x y i j : Nat} {s1 s2 : Bool} {e1 e2 lo : Int} (h1 : Dg w A1 n1 c1 x) (h2 : Dg w A2 n2 c2 y) (bx : blen x ≤ 4096) (by_ : blen y ≤ 4096) (hn1 : n1 ≤ 600) (hn2 : n2 ≤ 600) (r1 : -1048576 ≤ e1) (r2 : e1 ≤ 1048576) (r3 : -1048576 ≤ e2) (r4 : e2 ≤ 1048576) (hx : x ≠ 0) (hy : y ≠ 0) (hlo : min e1 e2 = lo) (hi : e1 - lo = (i : Int)) (hj : e2 - lo = (j : Int)) :
  Calls Tryz.prog 48 #[.agg #[.bool s1, .slice A1 n1 c1, .int .i64 e1], .agg #[.bool s2, .slice A2 n2 c2, .int .i64 e2]] w (Ints (cmpN (x * 2 ^ i) (y * 2 ^ j)) w) := by
 rcases Int.lt_trichotomy ((blen x : Int) + e1) ((blen y : Int) + e2) with hr | hr | hr
 ·rw [cmpN_lt (tops_lt hy (by omega))]
  exact rsize_lt h1 h2 bx by_ hn1 hn2 r1 r2 r3 r4 hr
 ·exact rsize_eq h1 h2 bx by_ hn1 hn2 r1 r2 r3 r4 hr hlo hi hj
 ·rw [cmpN_gt (tops_lt hx (by omega))]
  exact rsize_gt h1 h2 bx by_ hn1 hn2 r1 r2 r3 r4 hr
end Go.Proofs.YtldbafifgkobcaaGreatDoor

namespace Go.Proofs.YtldbafifgkobcaaGreatDoor
open Go.RowKit

theorem rcmpd_no {w : World} {A1 : Option Addr} {n1 c1 : Nat} {l1 : List Nat} {s1 : Bool} {e1 : Int} {A2 : Option Addr} {n2 c2 : Nat} {l2 : List Nat} {s2 : Bool} {e2 : Int} (h1 : Rd w .u64 Go.Proofs.YtldbafifgkobcaaGreatDoor.W A1 n1 c1 l1) (h2 : Rd w .u64 Go.Proofs.YtldbafifgkobcaaGreatDoor.W A2 n2 c2 l2) (hd : ¬ (mayD s1 l1 e1 = true ∧ mayD s2 l2 e2 = true)) :
  Calls Tryz.prog 16 #[.agg #[.bool s1, .slice A1 n1 c1, .int .i64 e1], .agg #[.bool s2, .slice A2 n2 c2, .int .i64 e2]] w (Ints 0 w) := by
 have BB := two_below w (.cells #[.bool s1, .slice A1 n1 c1, .int .i64 e1] 24) (.cells #[.bool s2, .slice A2 n2 c2, .int .i64 e2] 24)
 obtain ⟨a10, a11, a12, a20, a21, a22⟩ := (two_new w s1 s2 A1 A2 n1 c1 n2 c2 e1 e2).held
 have G := mv BB rfl <| And.intro h1 <| h2
 clear h1 h2
 obtain ⟨h1, h2⟩ := G
 have HD := Lib.hid hd
 clear hd
 go_enter Tryz.func16, Tryz.ntmps16
 go_wp2_with fail
 refine (rmayd_any (s := s1) (e := e1) h1).mono ?_
 rintro en w1 ⟨rfl, b⟩
 replace BB := bnx BB b
 have G := mv b rfl (J8 a10 a11 a12 a20 a21 a22 h1 h2)
 clear b a10 a11 a12 a20 a21 a22 h1 h2
 obtain ⟨a10, a11, a12, a20, a21, a22, h1, h2⟩ := G
 cases q1 : mayD s1 l1 e1
 ·clear q1
  go_wp2
  go_ret
  exact ⟨rfl, BB⟩
 go_wp2_with fail
 refine (rmayd_any (s := s2) (e := e2) h2).mono ?_
 rintro en w2 ⟨rfl, b⟩
 replace BB := bnx BB b
 have G := mv b rfl (J8 a10 a11 a12 a20 a21 a22 h1 h2)
 clear b a10 a11 a12 a20 a21 a22 h1 h2
 obtain ⟨a10, a11, a12, a20, a21, a22, h1, h2⟩ := G
 have q2 : mayD s2 l2 e2 = false := by
  cases q : mayD s2 l2 e2
  ·rfl
  ·exact absurd ⟨q1, q⟩ HD.out
 rw [q2]
 clear q1 q2
 go_wp2
 go_ret
 exact ⟨rfl, BB⟩

theorem rcmpd_lt {w : World} {A1 : Option Addr} {n1 c1 x1 : Nat} {s1 : Bool} {e1 : Int} {A2 : Option Addr} {n2 c2 x2 : Nat} {s2 : Bool} {e2 : Int} (h1 : Nt w A1 n1 c1 x1) (d1 : OkD s1 x1 e1) (h2 : Nt w A2 n2 c2 x2) (d2 : OkD s2 x2 e2) {p q : Int} (hp : signD s1 x1 = p) (hq : signD s2 x2 = q) (hr : p < q) :
  Calls Tryz.prog 16 #[.agg #[.bool s1, .slice A1 n1 c1, .int .i64 e1], .agg #[.bool s2, .slice A2 n2 c2, .int .i64 e2]] w (Ints (-1) w) := by
 have M1 := Lib.hid (mayD_ok d1)
 have M2 := Lib.hid (mayD_ok d2)
 have O1 := Lib.hid d1
 have O2 := Lib.hid d2
 have n1l := h1.le
 have n2l := h2.le
 have bx := blen_nt h1
 have by_ := blen_nt h2
 have g1 := okd_ge (K := 4194304) (Nat.le_refl _) d1
 have g2 := okd_ge (K := 4194304) (Nat.le_refl _) d2
 have r1 := g1.1
 have r2 := g1.2.1
 have r3 := g2.1
 have r4 := g2.2.1
 clear g1 g2 d1 d2
 have BB := two_below w (.cells #[.bool s1, .slice A1 n1 c1, .int .i64 e1] 24) (.cells #[.bool s2, .slice A2 n2 c2, .int .i64 e2] 24)
 obtain ⟨a10, a11, a12, a20, a21, a22⟩ := (two_new w s1 s2 A1 A2 n1 c1 n2 c2 e1 e2).held
 have G := mv BB rfl <| And.intro h1 <| h2
 clear h1 h2
 obtain ⟨h1, h2⟩ := G
 have HP := Lib.hid hp
 have HQ := Lib.hid hq
 have q0 : (p != q) = true := by simp; omega
 have q1 : decide (p < q) = true := decide_eq_true hr
 clear hp hq hr
 go_enter Tryz.func16, Tryz.ntmps16
 go_wp2_with fail
 refine (rmayd_any (s := s1) (e := e1) h1.rd).mono ?_
 rintro en w1 ⟨rfl, b⟩
 rw [M1.out]
 replace BB := bnx BB b
 have G := mv b rfl (J8 a10 a11 a12 a20 a21 a22 h1 h2)
 clear b a10 a11 a12 a20 a21 a22 h1 h2
 obtain ⟨a10, a11, a12, a20, a21, a22, h1, h2⟩ := G
 go_wp2_with fail
 refine (rmayd_any (s := s2) (e := e2) h2.rd).mono ?_
 rintro en w2 ⟨rfl, b⟩
 rw [M2.out]
 replace BB := bnx BB b
 have G := mv b rfl (J8 a10 a11 a12 a20 a21 a22 h1 h2)
 clear b a10 a11 a12 a20 a21 a22 h1 h2
 obtain ⟨a10, a11, a12, a20, a21, a22, h1, h2⟩ := G
 go_wp2_with fail
 refine rgn (fun w' => w'.cell? ⟨w.heap.size, 0, none⟩ = some (.bool s1) ∧ w'.cell? ⟨w.heap.size, 1, none⟩ = some (.slice A1 n1 c1) ∧ w'.cell? ⟨w.heap.size, 2, none⟩ = some (.int .i64 e1) ∧ w'.cell? ⟨(w.heap.size + 1), 0, none⟩ = some (.bool s2) ∧ w'.cell? ⟨(w.heap.size + 1), 1, none⟩ = some (.slice A2 n2 c2) ∧ w'.cell? ⟨(w.heap.size + 1), 2, none⟩ = some (.int .i64 e2)) fun hHeldu0 => ?_
 refine tl 0 ?_
 refine tl 2 ?_
 refine rdy 1 fun K hK => ?_
 go_simp
 refine (rsign_ok (h1.heap (by rfl)) O1.out).mono ?_
 rintro en w' ⟨rfl, b⟩
 rw [HP.out]
 replace BB := below_next BB BB.size b (by rfl) (by rfl) (by rfl) (by rfl)
 have G := mv b (by rfl) <| And.intro a10 <| And.intro a11 <| And.intro a12 <| And.intro a20 <| And.intro a21 <| And.intro a22 <| And.intro h1 <| h2
 clear b a10 a11 a12 a20 a21 a22 h1 h2
 obtain ⟨a10, a11, a12, a20, a21, a22, h1, h2⟩ := G
 refine bk hK fun hHeldu1 => ?_
 clear hK K hHeldu0
 try simp only [Act.put]
 refine rdy 3 fun K hK => ?_
 go_simp
 refine (rsign_ok (h2.heap (by rfl)) O2.out).mono ?_
 rintro en w' ⟨rfl, b⟩
 rw [HQ.out]
 replace BB := below_next BB BB.size b (by rfl) (by rfl) (by rfl) (by rfl)
 have G := mv b (by rfl) <| And.intro a10 <| And.intro a11 <| And.intro a12 <| And.intro a20 <| And.intro a21 <| And.intro a22 <| And.intro h1 <| h2
 clear b a10 a11 a12 a20 a21 a22 h1 h2
 obtain ⟨a10, a11, a12, a20, a21, a22, h1, h2⟩ := G
 refine bk hK fun hHeldu2 => ?_
 clear hK K hHeldu1
 try simp only [Act.put]
 refine tl 4 ?_
 refine tl 5 ?_
 refine wpAnyH_done (by kernel_rfl) ?_ _
 go_wp2
 go_ret
 exact ⟨rfl, BB⟩

theorem rcmpd_gt {w : World} {A1 : Option Addr} {n1 c1 x1 : Nat} {s1 : Bool} {e1 : Int} {A2 : Option Addr} {n2 c2 x2 : Nat} {s2 : Bool} {e2 : Int} (h1 : Nt w A1 n1 c1 x1) (d1 : OkD s1 x1 e1) (h2 : Nt w A2 n2 c2 x2) (d2 : OkD s2 x2 e2) {p q : Int} (hp : signD s1 x1 = p) (hq : signD s2 x2 = q) (hr : q < p) :
  Calls Tryz.prog 16 #[.agg #[.bool s1, .slice A1 n1 c1, .int .i64 e1], .agg #[.bool s2, .slice A2 n2 c2, .int .i64 e2]] w (Ints 1 w) := by
 have M1 := Lib.hid (mayD_ok d1)
 have M2 := Lib.hid (mayD_ok d2)
 have O1 := Lib.hid d1
 have O2 := Lib.hid d2
 have n1l := h1.le
 have n2l := h2.le
 have bx := blen_nt h1
 have by_ := blen_nt h2
 have g1 := okd_ge (K := 4194304) (Nat.le_refl _) d1
 have g2 := okd_ge (K := 4194304) (Nat.le_refl _) d2
 have r1 := g1.1
 have r2 := g1.2.1
 have r3 := g2.1
 have r4 := g2.2.1
 clear g1 g2 d1 d2
 have BB := two_below w (.cells #[.bool s1, .slice A1 n1 c1, .int .i64 e1] 24) (.cells #[.bool s2, .slice A2 n2 c2, .int .i64 e2] 24)
 obtain ⟨a10, a11, a12, a20, a21, a22⟩ := (two_new w s1 s2 A1 A2 n1 c1 n2 c2 e1 e2).held
 have G := mv BB rfl <| And.intro h1 <| h2
 clear h1 h2
 obtain ⟨h1, h2⟩ := G
 have HP := Lib.hid hp
 have HQ := Lib.hid hq
 have q0 : (p != q) = true := by simp; omega
 have q1 : decide (p < q) = false := decide_eq_false (by omega)
 have q2 : decide (q < p) = true := decide_eq_true hr
 clear hp hq hr
 go_enter Tryz.func16, Tryz.ntmps16
 go_wp2_with fail
 refine (rmayd_any (s := s1) (e := e1) h1.rd).mono ?_
 rintro en w1 ⟨rfl, b⟩
 rw [M1.out]
 replace BB := bnx BB b
 have G := mv b rfl (J8 a10 a11 a12 a20 a21 a22 h1 h2)
 clear b a10 a11 a12 a20 a21 a22 h1 h2
 obtain ⟨a10, a11, a12, a20, a21, a22, h1, h2⟩ := G
 go_wp2_with fail
 refine (rmayd_any (s := s2) (e := e2) h2.rd).mono ?_
 rintro en w2 ⟨rfl, b⟩
 rw [M2.out]
 replace BB := bnx BB b
 have G := mv b rfl (J8 a10 a11 a12 a20 a21 a22 h1 h2)
 clear b a10 a11 a12 a20 a21 a22 h1 h2
 obtain ⟨a10, a11, a12, a20, a21, a22, h1, h2⟩ := G
 go_wp2_with fail
 refine rgn (fun w' => w'.cell? ⟨w.heap.size, 0, none⟩ = some (.bool s1) ∧ w'.cell? ⟨w.heap.size, 1, none⟩ = some (.slice A1 n1 c1) ∧ w'.cell? ⟨w.heap.size, 2, none⟩ = some (.int .i64 e1) ∧ w'.cell? ⟨(w.heap.size + 1), 0, none⟩ = some (.bool s2) ∧ w'.cell? ⟨(w.heap.size + 1), 1, none⟩ = some (.slice A2 n2 c2) ∧ w'.cell? ⟨(w.heap.size + 1), 2, none⟩ = some (.int .i64 e2)) fun hHeldu0 => ?_
 refine tl 0 ?_
 refine tl 2 ?_
 refine rdy 1 fun K hK => ?_
 go_simp
 refine (rsign_ok (h1.heap (by rfl)) O1.out).mono ?_
 rintro en w' ⟨rfl, b⟩
 rw [HP.out]
 replace BB := below_next BB BB.size b (by rfl) (by rfl) (by rfl) (by rfl)
 have G := mv b (by rfl) <| And.intro a10 <| And.intro a11 <| And.intro a12 <| And.intro a20 <| And.intro a21 <| And.intro a22 <| And.intro h1 <| h2
 clear b a10 a11 a12 a20 a21 a22 h1 h2
 obtain ⟨a10, a11, a12, a20, a21, a22, h1, h2⟩ := G
 refine bk hK fun hHeldu1 => ?_
 clear hK K hHeldu0
 try simp only [Act.put]
 refine rdy 3 fun K hK => ?_
 go_simp
 refine (rsign_ok (h2.heap (by rfl)) O2.out).mono ?_
 rintro en w' ⟨rfl, b⟩
 rw [HQ.out]
 replace BB := below_next BB BB.size b (by rfl) (by rfl) (by rfl) (by rfl)
 have G := mv b (by rfl) <| And.intro a10 <| And.intro a11 <| And.intro a12 <| And.intro a20 <| And.intro a21 <| And.intro a22 <| And.intro h1 <| h2
 clear b a10 a11 a12 a20 a21 a22 h1 h2
 obtain ⟨a10, a11, a12, a20, a21, a22, h1, h2⟩ := G
 refine bk hK fun hHeldu2 => ?_
 clear hK K hHeldu1
 try simp only [Act.put]
 refine tl 4 ?_
 refine tl 5 ?_
 refine wpAnyH_done (by kernel_rfl) ?_ _
 go_wp2
 go_ret
 exact ⟨rfl, BB⟩

theorem rcmpd_nought {w : World} {A1 : Option Addr} {n1 c1 x1 : Nat} {s1 : Bool} {e1 : Int} {A2 : Option Addr} {n2 c2 x2 : Nat} {s2 : Bool} {e2 : Int} (h1 : Nt w A1 n1 c1 x1) (d1 : OkD s1 x1 e1) (h2 : Nt w A2 n2 c2 x2) (d2 : OkD s2 x2 e2) {p q : Int} (hp : signD s1 x1 = p) (hq : signD s2 x2 = q) (hr : p = q ∧ p = 0) :
  Calls Tryz.prog 16 #[.agg #[.bool s1, .slice A1 n1 c1, .int .i64 e1], .agg #[.bool s2, .slice A2 n2 c2, .int .i64 e2]] w (Ints 0 w) := by
 have M1 := Lib.hid (mayD_ok d1)
 have M2 := Lib.hid (mayD_ok d2)
 have O1 := Lib.hid d1
 have O2 := Lib.hid d2
 have n1l := h1.le
 have n2l := h2.le
 have bx := blen_nt h1
 have by_ := blen_nt h2
 have g1 := okd_ge (K := 4194304) (Nat.le_refl _) d1
 have g2 := okd_ge (K := 4194304) (Nat.le_refl _) d2
 have r1 := g1.1
 have r2 := g1.2.1
 have r3 := g2.1
 have r4 := g2.2.1
 clear g1 g2 d1 d2
 have BB := two_below w (.cells #[.bool s1, .slice A1 n1 c1, .int .i64 e1] 24) (.cells #[.bool s2, .slice A2 n2 c2, .int .i64 e2] 24)
 obtain ⟨a10, a11, a12, a20, a21, a22⟩ := (two_new w s1 s2 A1 A2 n1 c1 n2 c2 e1 e2).held
 have G := mv BB rfl <| And.intro h1 <| h2
 clear h1 h2
 obtain ⟨h1, h2⟩ := G
 have HP := Lib.hid hp
 have HQ := Lib.hid hq
 obtain ⟨rfl, rfl⟩ := hr
 clear hp hq
 go_enter Tryz.func16, Tryz.ntmps16
 go_wp2_with fail
 refine (rmayd_any (s := s1) (e := e1) h1.rd).mono ?_
 rintro en w1 ⟨rfl, b⟩
 rw [M1.out]
 replace BB := bnx BB b
 have G := mv b rfl (J8 a10 a11 a12 a20 a21 a22 h1 h2)
 clear b a10 a11 a12 a20 a21 a22 h1 h2
 obtain ⟨a10, a11, a12, a20, a21, a22, h1, h2⟩ := G
 go_wp2_with fail
 refine (rmayd_any (s := s2) (e := e2) h2.rd).mono ?_
 rintro en w2 ⟨rfl, b⟩
 rw [M2.out]
 replace BB := bnx BB b
 have G := mv b rfl (J8 a10 a11 a12 a20 a21 a22 h1 h2)
 clear b a10 a11 a12 a20 a21 a22 h1 h2
 obtain ⟨a10, a11, a12, a20, a21, a22, h1, h2⟩ := G
 go_wp2_with fail
 refine rgn (fun w' => w'.cell? ⟨w.heap.size, 0, none⟩ = some (.bool s1) ∧ w'.cell? ⟨w.heap.size, 1, none⟩ = some (.slice A1 n1 c1) ∧ w'.cell? ⟨w.heap.size, 2, none⟩ = some (.int .i64 e1) ∧ w'.cell? ⟨(w.heap.size + 1), 0, none⟩ = some (.bool s2) ∧ w'.cell? ⟨(w.heap.size + 1), 1, none⟩ = some (.slice A2 n2 c2) ∧ w'.cell? ⟨(w.heap.size + 1), 2, none⟩ = some (.int .i64 e2)) fun hHeldu0 => ?_
 refine tl 0 ?_
 refine tl 2 ?_
 refine rdy 1 fun K hK => ?_
 go_simp
 refine (rsign_ok (h1.heap (by rfl)) O1.out).mono ?_
 rintro en w' ⟨rfl, b⟩
 rw [HP.out]
 replace BB := below_next BB BB.size b (by rfl) (by rfl) (by rfl) (by rfl)
 have G := mv b (by rfl) <| And.intro a10 <| And.intro a11 <| And.intro a12 <| And.intro a20 <| And.intro a21 <| And.intro a22 <| And.intro h1 <| h2
 clear b a10 a11 a12 a20 a21 a22 h1 h2
 obtain ⟨a10, a11, a12, a20, a21, a22, h1, h2⟩ := G
 refine bk hK fun hHeldu1 => ?_
 clear hK K hHeldu0
 try simp only [Act.put]
 refine rdy 3 fun K hK => ?_
 go_simp
 refine (rsign_ok (h2.heap (by rfl)) O2.out).mono ?_
 rintro en w' ⟨rfl, b⟩
 rw [HQ.out]
 replace BB := below_next BB BB.size b (by rfl) (by rfl) (by rfl) (by rfl)
 have G := mv b (by rfl) <| And.intro a10 <| And.intro a11 <| And.intro a12 <| And.intro a20 <| And.intro a21 <| And.intro a22 <| And.intro h1 <| h2
 clear b a10 a11 a12 a20 a21 a22 h1 h2
 obtain ⟨a10, a11, a12, a20, a21, a22, h1, h2⟩ := G
 refine bk hK fun hHeldu2 => ?_
 clear hK K hHeldu1
 try simp only [Act.put]
 refine tl 4 ?_
 refine tl 5 ?_
 refine wpAnyH_done (by kernel_rfl) ?_ _
 go_wp2
 go_ret
 exact ⟨rfl, BB⟩

theorem rcmpd_sizes {w : World} {A1 : Option Addr} {n1 c1 x1 : Nat} {s1 : Bool} {e1 : Int} {A2 : Option Addr} {n2 c2 x2 : Nat} {s2 : Bool} {e2 : Int} (h1 : Nt w A1 n1 c1 x1) (d1 : OkD s1 x1 e1) (h2 : Nt w A2 n2 c2 x2) (d2 : OkD s2 x2 e2) {p z : Int} {i j : Nat} {lo : Int} (hp : signD s1 x1 = p) (hq : signD s2 x2 = p) (hp0 : p ≠ 0) (hb : -1 ≤ p ∧ p ≤ 1) (hx : x1 ≠ 0) (hy : x2 ≠ 0) (hlo : min e1 e2 = lo) (hi : e1 - lo = (i : Int)) (hj : e2 - lo = (j : Int)) (hz : cmpN (x1 * 2 ^ i) (x2 * 2 ^ j) = z) :
  Calls Tryz.prog 16 #[.agg #[.bool s1, .slice A1 n1 c1, .int .i64 e1], .agg #[.bool s2, .slice A2 n2 c2, .int .i64 e2]] w (Ints (p * z) w) := by
 have M1 := Lib.hid (mayD_ok d1)
 have M2 := Lib.hid (mayD_ok d2)
 have O1 := Lib.hid d1
 have O2 := Lib.hid d2
 have n1l := h1.le
 have n2l := h2.le
 have bx := blen_nt h1
 have by_ := blen_nt h2
 have g1 := okd_ge (K := 4194304) (Nat.le_refl _) d1
 have g2 := okd_ge (K := 4194304) (Nat.le_refl _) d2
 have r1 := g1.1
 have r2 := g1.2.1
 have r3 := g2.1
 have r4 := g2.2.1
 clear g1 g2 d1 d2
 have BB := two_below w (.cells #[.bool s1, .slice A1 n1 c1, .int .i64 e1] 24) (.cells #[.bool s2, .slice A2 n2 c2, .int .i64 e2] 24)
 obtain ⟨a10, a11, a12, a20, a21, a22⟩ := (two_new w s1 s2 A1 A2 n1 c1 n2 c2 e1 e2).held
 have G := mv BB rfl <| And.intro h1 <| h2
 clear h1 h2
 obtain ⟨h1, h2⟩ := G
 have HP := Lib.hid hp
 have HQ := Lib.hid hq
 have HZ := Lib.hid hz
 have HLO := Lib.hid (And.intro hlo (And.intro hi hj))
 have HX := Lib.hid (And.intro hx hy)
 have hzb : -1 ≤ z ∧ z ≤ 1 := by rcases cmpN_cases (x1 * 2 ^ i) (x2 * 2 ^ j) with ⟨h, _⟩ | ⟨h, _⟩ | ⟨h, _⟩ <;> rw [← hz, h] <;> omega
 have hw := wrap_sign hb hzb
 have q0 : (p != p) = false := by simp
 have q1 : (p == 0) = false := by simp [hp0]
 clear hp hq hz hlo hi hj hx hy hp0 hb hzb
 go_enter Tryz.func16, Tryz.ntmps16
 go_wp2_with fail
 refine (rmayd_any (s := s1) (e := e1) h1.rd).mono ?_
 rintro en w1 ⟨rfl, b⟩
 rw [M1.out]
 replace BB := bnx BB b
 have G := mv b rfl (J8 a10 a11 a12 a20 a21 a22 h1 h2)
 clear b a10 a11 a12 a20 a21 a22 h1 h2
 obtain ⟨a10, a11, a12, a20, a21, a22, h1, h2⟩ := G
 go_wp2_with fail
 refine (rmayd_any (s := s2) (e := e2) h2.rd).mono ?_
 rintro en w2 ⟨rfl, b⟩
 rw [M2.out]
 replace BB := bnx BB b
 have G := mv b rfl (J8 a10 a11 a12 a20 a21 a22 h1 h2)
 clear b a10 a11 a12 a20 a21 a22 h1 h2
 obtain ⟨a10, a11, a12, a20, a21, a22, h1, h2⟩ := G
 go_wp2_with fail
 refine rgn (fun w' => w'.cell? ⟨w.heap.size, 0, none⟩ = some (.bool s1) ∧ w'.cell? ⟨w.heap.size, 1, none⟩ = some (.slice A1 n1 c1) ∧ w'.cell? ⟨w.heap.size, 2, none⟩ = some (.int .i64 e1) ∧ w'.cell? ⟨(w.heap.size + 1), 0, none⟩ = some (.bool s2) ∧ w'.cell? ⟨(w.heap.size + 1), 1, none⟩ = some (.slice A2 n2 c2) ∧ w'.cell? ⟨(w.heap.size + 1), 2, none⟩ = some (.int .i64 e2)) fun hHeldu0 => ?_
 refine tl 0 ?_
 refine tl 2 ?_
 refine rdy 1 fun K hK => ?_
 go_simp
 refine (rsign_ok (h1.heap (by rfl)) O1.out).mono ?_
 rintro en w' ⟨rfl, b⟩
 rw [HP.out]
 replace BB := below_next BB BB.size b (by rfl) (by rfl) (by rfl) (by rfl)
 have G := mv b (by rfl) <| And.intro a10 <| And.intro a11 <| And.intro a12 <| And.intro a20 <| And.intro a21 <| And.intro a22 <| And.intro h1 <| h2
 clear b a10 a11 a12 a20 a21 a22 h1 h2
 obtain ⟨a10, a11, a12, a20, a21, a22, h1, h2⟩ := G
 refine bk hK fun hHeldu1 => ?_
 clear hK K hHeldu0
 try simp only [Act.put]
 refine rdy 3 fun K hK => ?_
 go_simp
 refine (rsign_ok (h2.heap (by rfl)) O2.out).mono ?_
 rintro en w' ⟨rfl, b⟩
 rw [HQ.out]
 replace BB := below_next BB BB.size b (by rfl) (by rfl) (by rfl) (by rfl)
 have G := mv b (by rfl) <| And.intro a10 <| And.intro a11 <| And.intro a12 <| And.intro a20 <| And.intro a21 <| And.intro a22 <| And.intro h1 <| h2
 clear b a10 a11 a12 a20 a21 a22 h1 h2
 obtain ⟨a10, a11, a12, a20, a21, a22, h1, h2⟩ := G
 refine bk hK fun hHeldu2 => ?_
 clear hK K hHeldu1
 try simp only [Act.put]
 refine tl 4 ?_
 refine tl 5 ?_
 refine wpAnyH_done (by kernel_rfl) ?_ _
 go_wp2_with fail
 refine rgn (fun w' => w'.cell? ⟨w.heap.size, 0, none⟩ = some (.bool s1) ∧ w'.cell? ⟨w.heap.size, 1, none⟩ = some (.slice A1 n1 c1) ∧ w'.cell? ⟨w.heap.size, 2, none⟩ = some (.int .i64 e1) ∧ w'.cell? ⟨(w.heap.size + 1), 0, none⟩ = some (.bool s2) ∧ w'.cell? ⟨(w.heap.size + 1), 1, none⟩ = some (.slice A2 n2 c2) ∧ w'.cell? ⟨(w.heap.size + 1), 2, none⟩ = some (.int .i64 e2)) fun hHeldv0 => ?_
 refine tl 0 ?_
 refine tl 1 ?_
 refine tl 3 ?_
 refine rdy 2 fun K hK => ?_
 go_simp
 refine (rof_any (s := s1) (e := e1) (h1.heap (by rfl))).mono ?_
 rintro en w' ⟨A3, n3, c3, rfl, h3, b⟩
 have n3l : n3 ≤ 256 := dg_small h3 (by rw [H256]; exact h1.lt)
 clear h1
 replace BB := below_next BB BB.size b (by rfl) (by rfl) (by rfl) (by rfl)
 have G := mv b (by rfl) <| And.intro a10 <| And.intro a11 <| And.intro a12 <| And.intro a20 <| And.intro a21 <| And.intro a22 <| h2
 clear b a10 a11 a12 a20 a21 a22 h2
 obtain ⟨a10, a11, a12, a20, a21, a22, h2⟩ := G
 replace h3 := Dg.heap32 h3 (by rfl)
 refine bk hK fun hHeldv1 => ?_
 clear hK K hHeldv0
 try simp only [Act.put]
 refine rdy 4 fun K hK => ?_
 go_simp
 refine (rof_any (s := s2) (e := e2) (h2.heap (by rfl))).mono ?_
 rintro en w' ⟨A4, n4, c4, rfl, h4, b⟩
 have n4l : n4 ≤ 256 := dg_small h4 (by rw [H256]; exact h2.lt)
 clear h2
 replace BB := below_next BB BB.size b (by rfl) (by rfl) (by rfl) (by rfl)
 have G := mv b (by rfl) <| And.intro a10 <| And.intro a11 <| And.intro a12 <| And.intro a20 <| And.intro a21 <| And.intro a22 <| h3
 clear b a10 a11 a12 a20 a21 a22 h3
 obtain ⟨a10, a11, a12, a20, a21, a22, h3⟩ := G
 refine bk hK fun hHeldv2 => ?_
 clear hK K hHeldv1
 try simp only [Act.put]
 refine rdy 5 fun K hK => ?_
 go_simp
 refine (rsize_any (s1 := s1) (s2 := s2) (h3.heap32 (by rfl)) (h4.heap32 (by rfl)) bx by_ (by omega) (by omega) r1 r2 r3 r4 HX.out.1 HX.out.2 HLO.out.1 HLO.out.2.1 HLO.out.2.2).mono ?_
 rintro en w' ⟨rfl, b⟩
 rw [HZ.out]
 clear h3 h4
 replace BB := below_next BB BB.size b (by rfl) (by rfl) (by rfl) (by rfl)
 have G := mv b (by rfl) <| And.intro a10 <| And.intro a11 <| And.intro a12 <| And.intro a20 <| And.intro a21 <| a22
 clear b a10 a11 a12 a20 a21 a22
 obtain ⟨a10, a11, a12, a20, a21, a22⟩ := G
 refine bk hK fun hHeldv3 => ?_
 clear hK K hHeldv2
 try simp only [Act.put]
 refine wpAnyH_take (i := 6) (v := ?vv6) rfl (by kernel_rfl) (by kernel_rfl) (by kernel_rfl) (fun _ _ _ h => panic_put (P := Tryz.prog) (fn := Tryz.f16) (R := (Ints (p * z) w)) h) (Or.inl ⟨by rfl, ?vy6⟩) (by assumption) ?_
 case vy6 => (intro w hSw; (try dsimp only at hSw); go_simp; (try simp only [hw])); try with_reducible rfl
 change wpAnyH _ _ _ _ _ _ _ (Act.put _ (some 38) _) _
 simp only [Act.put, List.setIfInBounds_toArray, List.set_cons_zero, List.set_cons_succ]
 refine tl 7 ?_
 refine wpAnyH_done (by kernel_rfl) ?_ _
 go_wp2
 go_ret
 exact ⟨by first | rfl | simp, BB⟩

theorem rcmpd_raw {w : World} {K : Nat} {A1 : Option Addr} {n1 c1 : Nat} {l1 : List Nat} {s1 : Bool} {e1 : Int} {A2 : Option Addr} {n2 c2 : Nat} {l2 : List Nat} {s2 : Bool} {e2 : Int} (hK : 4194304 ≤ K) (h1 : Rd w .u64 Go.Proofs.YtldbafifgkobcaaGreatDoor.W A1 n1 c1 l1) (h2 : Rd w .u64 Go.Proofs.YtldbafifgkobcaaGreatDoor.W A2 n2 c2 l2) :
  Calls Tryz.prog 16 #[.agg #[.bool s1, .slice A1 n1 c1, .int .i64 e1], .agg #[.bool s2, .slice A2 n2 c2, .int .i64 e2]] w (Ints (cmpR K s1 l1 e1 s2 l2 e2) w) := by
 unfold cmpR
 by_cases hd : mayD s1 l1 e1 = true ∧ mayD s2 l2 e2 = true
 rotate_left
 ·rw [if_neg hd]
  exact rcmpd_no h1 h2 hd
 rw [if_pos hd]
 obtain ⟨hN, hok, _⟩ := rd_okd h1 hd.1
 obtain ⟨hN', hok', _⟩ := rd_okd h2 hd.2
 generalize val Go.Proofs.YtldbafifgkobcaaGreatDoor.W l1 = x at *
 generalize val Go.Proofs.YtldbafifgkobcaaGreatDoor.W l2 = y at *
 have r1 := okd_ge hK hok
 have r2 := okd_ge hK hok'
 by_cases hc : Lib.compareInt (signD s1 x) (signD s2 y) = 0
 ·have hsg := signs_same hc
  by_cases hx : x = 0
  ·have hp0 : signD s1 x = 0 := by unfold signD; rw [if_pos hx]
   have hy : y = 0 := by
    rcases signD_cases s2 y with ⟨hy, _⟩ | ⟨hy, _, h2⟩ | ⟨hy, _, h2⟩
    ·exact hy
    ·omega
    ·omega
   have := rcmpd_nought hN hok hN' hok' rfl rfl ⟨hsg, hp0⟩
   rw [hx, hy, vz_zero, vz_zero, cmpV_eq rfl]
   exact this
  ·have hst : s1 = s2 ∧ y ≠ 0 := by
    rcases signD_cases s1 x with ⟨h1, h2⟩ | ⟨_, h1, h2⟩ | ⟨_, h1, h2⟩ <;> rcases signD_cases s2 y with ⟨h3, h4⟩ | ⟨h5, h3, h4⟩ | ⟨h5, h3, h4⟩ <;> rw [h2, h4] at hsg <;> first | exact absurd h1 hx | (exfalso; omega) | exact ⟨h1.trans h3.symm, h5⟩
   obtain ⟨rfl, hy⟩ := hst
   obtain ⟨lo, hlo⟩ : ∃ lo, min e1 e2 = lo := ⟨_, rfl⟩
   obtain ⟨i, hi⟩ := Int.eq_ofNat_of_zero_le (show 0 ≤ e1 - lo by omega)
   obtain ⟨j, hj⟩ := Int.eq_ofNat_of_zero_le (show 0 ≤ e2 - lo by omega)
   rw [cmp_sizes (K := K) (i := i) (j := j) (lo := lo) hx (by omega) (by omega) (by omega)]
   exact rcmpd_sizes hN hok hN' hok' rfl hsg.symm (by rcases signD_cases s1 x with ⟨h, _⟩ | ⟨_, _, h2⟩ | ⟨_, _, h2⟩ <;> first | exact absurd h hx | (rw [h2]; omega)) (by rcases signD_cases s1 x with ⟨_, h2⟩ | ⟨_, _, h2⟩ | ⟨_, _, h2⟩ <;> rw [h2] <;> omega) hx hy hlo hi hj rfl
 ·rw [cmp_signs hc]
  unfold Lib.compareInt at hc ⊢
  rcases Int.lt_trichotomy (signD s1 x) (signD s2 y) with h | h | h
  ·rw [if_pos h]
   exact rcmpd_lt hN hok hN' hok' rfl rfl h
  ·exfalso; rw [if_neg (by omega), if_neg (by omega)] at hc; exact hc rfl
  ·rw [if_neg (by omega), if_pos h]
   exact rcmpd_gt hN hok hN' hok' rfl rfl h
end Go.Proofs.YtldbafifgkobcaaGreatDoor
