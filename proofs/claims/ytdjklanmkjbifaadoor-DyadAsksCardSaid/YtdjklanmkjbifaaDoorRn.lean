/-
  Contract of the reference's size, at this translation. Condition: the slices read as limbs.
-/
import Derived.Test.YtdjklanmkjbifaaDoorRs
namespace Go.Proofs.YtdjklanmkjbifaaDoor
open Go.RowKit

theorem dbx_two (w : World) {A1 A2 : Option Addr} {n1 c1 n2 c2 : Nat} {s1 s2 : Bool} {e1 e2 : Int} : Dbx ((w.alloc (.cells #[.bool s1, .slice A1 n1 c1, .int .i64 e1] 46)).alloc (.cells #[.bool s2, .slice A2 n2 c2, .int .i64 e2] 46)) w.heap.size s1 A1 n1 c1 e1 ∧ Dbx ((w.alloc (.cells #[.bool s1, .slice A1 n1 c1, .int .i64 e1] 46)).alloc (.cells #[.bool s2, .slice A2 n2 c2, .int .i64 e2] 46)) (w.heap.size + 1) s2 A2 n2 c2 e2 :=
  ⟨(Dbx.new w s1 A1 n1 c1 e1).alloc _, by simpa using Dbx.new (w.alloc (.cells #[.bool s1, .slice A1 n1 c1, .int .i64 e1] 46)) s2 A2 n2 c2 e2⟩
set_option maxRecDepth 100000 in
set_option maxHeartbeats 8000000 in
theorem rsize_lt {w : World} {A1 A2 : Option Addr} {n1 c1 n2 c2 x y : Nat} {s1 s2 : Bool} {e1 e2 : Int} (h1 : Dg w A1 n1 c1 x) (h2 : Dg w A2 n2 c2 y) (bx : blen x ≤ 4096) (by_ : blen y ≤ 4096) (hn1 : n1 ≤ 600) (hn2 : n2 ≤ 600) (r1 : -1048576 ≤ e1) (r2 : e1 ≤ 1048576) (r3 : -1048576 ≤ e2) (r4 : e2 ≤ 1048576) (hr : (blen x : Int) + e1 < (blen y : Int) + e2) :
    Calls Tryd.prog 54 #[.agg #[.bool s1, .slice A1 n1 c1, .int .i64 e1], .agg #[.bool s2, .slice A2 n2 c2, .int .i64 e2]] w (Ints (-1) w) := by
  have BB := two_below w (.cells #[.bool s1, .slice A1 n1 c1, .int .i64 e1] 46) (.cells #[.bool s2, .slice A2 n2 c2, .int .i64 e2] 46)
  obtain ⟨xa, xb⟩ := dbx_two w (s1 := s1) (A1 := A1) (n1 := n1) (c1 := c1) (e1 := e1) (s2 := s2) (A2 := A2) (n2 := n2) (c2 := c2) (e2 := e2)
  obtain ⟨a10, a11, a12⟩ := xa.held
  obtain ⟨a20, a21, a22⟩ := xb.held
  clear xa xb
  have G := mv BB rfl <| And.intro h1 <| h2
  clear h1 h2
  obtain ⟨h1, h2⟩ := G
  have hw1 : IntKind.i64.wrap ((blen x : Int) + e1) = (blen x : Int) + e1 := IntWalk.i64_in _ (by omega)
  have hw2 : IntKind.i64.wrap ((blen y : Int) + e2) = (blen y : Int) + e2 := IntWalk.i64_in _ (by omega)
  go_enter Tryd.func54, Tryd.ntmps54
  go_wp2_with fail
  refine wp_region_held_drew (S := fun w' => w'.cell? ⟨w.heap.size, 0, none⟩ = some (.bool s1) ∧ w'.cell? ⟨w.heap.size, 1, none⟩ = some (.slice A1 n1 c1) ∧ w'.cell? ⟨w.heap.size, 2, none⟩ = some (.int .i64 e1) ∧ w'.cell? ⟨(w.heap.size + 1), 0, none⟩ = some (.bool s2) ∧ w'.cell? ⟨(w.heap.size + 1), 1, none⟩ = some (.slice A2 n2 c2) ∧ w'.cell? ⟨(w.heap.size + 1), 2, none⟩ = some (.int .i64 e2)) (by kernel_rfl) (by first | (dsimp only; go_keep) | go_keep) (fun hHeldu0 => ?_)
  refine wpAnyH_take (i := 0) (v := ?uv0) rfl (by kernel_rfl) (by kernel_rfl) (by kernel_rfl) (fun _ _ _ h => panic_put (P := Tryd.prog) (fn := Tryd.f54) (R := (Ints (-1) w)) h) (Or.inl ⟨by rfl, ?uy0⟩) (by assumption) ?_
  case uy0 => (intro w hSw; (try dsimp only at hSw); go_simp); try with_reducible rfl
  change wpAnyH _ _ _ _ _ _ _ (Act.put _ (some 8) _) _
  simp only [Act.put, List.setIfInBounds_toArray, List.set_cons_zero, List.set_cons_succ]
  refine wpAnyH_take (i := 1) (v := ?uv1) rfl (by kernel_rfl) (by kernel_rfl) (by kernel_rfl) (fun _ _ _ h => panic_put (P := Tryd.prog) (fn := Tryd.f54) (R := (Ints (-1) w)) h) (Or.inl ⟨by rfl, ?uy1⟩) (by assumption) ?_
  case uy1 => (intro w hSw; (try dsimp only at hSw); go_simp); try with_reducible rfl
  change wpAnyH _ _ _ _ _ _ _ (Act.put _ (some 9) _) _
  simp only [Act.put, List.setIfInBounds_toArray, List.set_cons_zero, List.set_cons_succ]
  refine wpAnyH_take (i := 3) (v := ?uv3) rfl (by kernel_rfl) (by kernel_rfl) (by kernel_rfl) (fun _ _ _ h => panic_put (P := Tryd.prog) (fn := Tryd.f54) (R := (Ints (-1) w)) h) (Or.inl ⟨by rfl, ?uy3⟩) (by assumption) ?_
  case uy3 => (intro w hSw; (try dsimp only at hSw); go_simp); try with_reducible rfl
  change wpAnyH _ _ _ _ _ _ _ (Act.put _ (some 11) _) _
  simp only [Act.put, List.setIfInBounds_toArray, List.set_cons_zero, List.set_cons_succ]
  refine wpAnyH_take (i := 4) (v := ?uv4) rfl (by kernel_rfl) (by kernel_rfl) (by kernel_rfl) (fun _ _ _ h => panic_put (P := Tryd.prog) (fn := Tryd.f54) (R := (Ints (-1) w)) h) (Or.inl ⟨by rfl, ?uy4⟩) (by assumption) ?_
  case uy4 => (intro w hSw; (try dsimp only at hSw); go_simp); try with_reducible rfl
  change wpAnyH _ _ _ _ _ _ _ (Act.put _ (some 12) _) _
  simp only [Act.put, List.setIfInBounds_toArray, List.set_cons_zero, List.set_cons_succ]
  refine wpAnyH_take (i := 6) (v := ?uv6) rfl (by kernel_rfl) (by kernel_rfl) (by kernel_rfl) (fun _ _ _ h => panic_put (P := Tryd.prog) (fn := Tryd.f54) (R := (Ints (-1) w)) h) (Or.inl ⟨by rfl, ?uy6⟩) (by assumption) ?_
  case uy6 => (intro w hSw; (try dsimp only at hSw); go_simp); try with_reducible rfl
  change wpAnyH _ _ _ _ _ _ _ (Act.put _ (some 14) _) _
  simp only [Act.put, List.setIfInBounds_toArray, List.set_cons_zero, List.set_cons_succ]
  refine wpAnyH_take (i := 7) (v := ?uv7) rfl (by kernel_rfl) (by kernel_rfl) (by kernel_rfl) (fun _ _ _ h => panic_put (P := Tryd.prog) (fn := Tryd.f54) (R := (Ints (-1) w)) h) (Or.inl ⟨by rfl, ?uy7⟩) (by assumption) ?_
  case uy7 => (intro w hSw; (try dsimp only at hSw); go_simp); try with_reducible rfl
  change wpAnyH _ _ _ _ _ _ _ (Act.put _ (some 15) _) _
  simp only [Act.put, List.setIfInBounds_toArray, List.set_cons_zero, List.set_cons_succ]
  refine wpAnyH_take (i := 9) (v := ?uv9) rfl (by kernel_rfl) (by kernel_rfl) (by kernel_rfl) (fun _ _ _ h => panic_put (P := Tryd.prog) (fn := Tryd.f54) (R := (Ints (-1) w)) h) (Or.inl ⟨by rfl, ?uy9⟩) (by assumption) ?_
  case uy9 => (intro w hSw; (try dsimp only at hSw); go_simp); try with_reducible rfl
  change wpAnyH _ _ _ _ _ _ _ (Act.put _ (some 17) _) _
  simp only [Act.put, List.setIfInBounds_toArray, List.set_cons_zero, List.set_cons_succ]
  refine wpAnyH_take (i := 10) (v := ?uv10) rfl (by kernel_rfl) (by kernel_rfl) (by kernel_rfl) (fun _ _ _ h => panic_put (P := Tryd.prog) (fn := Tryd.f54) (R := (Ints (-1) w)) h) (Or.inl ⟨by rfl, ?uy10⟩) (by assumption) ?_
  case uy10 => (intro w hSw; (try dsimp only at hSw); go_simp); try with_reducible rfl
  change wpAnyH _ _ _ _ _ _ _ (Act.put _ (some 18) _) _
  simp only [Act.put, List.setIfInBounds_toArray, List.set_cons_zero, List.set_cons_succ]
  refine wpAnyH_ready (rs := [2]) (by kernel_rfl) (by simp) ?_
  refine AllReadyH.cons (o := _) rfl (fun K hK => ?_) AllReadyH.nil
  go_simp
  refine (rbits_any (h1.heap32 (by rfl)) (by omega)).mono ?_
  rintro en w' ⟨rfl, rfl⟩
  refine hK.out _ _ (by first | (dsimp only; go_keep) | go_keep) (fun hHeldu1 => ?_)
  clear hK K hHeldu0
  try simp only [Act.put]
  refine wpAnyH_take (i := 5) (v := ?uv5) rfl (by kernel_rfl) (by kernel_rfl) (by kernel_rfl) (fun _ _ _ h => panic_put (P := Tryd.prog) (fn := Tryd.f54) (R := (Ints (-1) w)) h) (Or.inl ⟨by rfl, ?uy5⟩) (by assumption) ?_
  case uy5 => (intro w hSw; (try dsimp only at hSw); go_simp; (try simp only [hw1, hw2])); try with_reducible rfl
  change wpAnyH _ _ _ _ _ _ _ (Act.put _ (some 13) _) _
  simp only [Act.put, List.setIfInBounds_toArray, List.set_cons_zero, List.set_cons_succ]
  refine wpAnyH_ready (rs := [8]) (by kernel_rfl) (by simp) ?_
  refine AllReadyH.cons (o := _) rfl (fun K hK => ?_) AllReadyH.nil
  go_simp
  refine (rbits_any (h2.heap32 (by rfl)) (by omega)).mono ?_
  rintro en w' ⟨rfl, rfl⟩
  refine hK.out _ _ (by first | (dsimp only; go_keep) | go_keep) (fun hHeldu2 => ?_)
  clear hK K hHeldu1
  try simp only [Act.put]
  refine wpAnyH_take (i := 11) (v := ?uv11) rfl (by kernel_rfl) (by kernel_rfl) (by kernel_rfl) (fun _ _ _ h => panic_put (P := Tryd.prog) (fn := Tryd.f54) (R := (Ints (-1) w)) h) (Or.inl ⟨by rfl, ?uy11⟩) (by assumption) ?_
  case uy11 => (intro w hSw; (try dsimp only at hSw); go_simp; (try simp only [hw1, hw2])); try with_reducible rfl
  change wpAnyH _ _ _ _ _ _ _ (Act.put _ (some 19) _) _
  simp only [Act.put, List.setIfInBounds_toArray, List.set_cons_zero, List.set_cons_succ]
  refine wpAnyH_take (i := 12) (v := ?uv12) rfl (by kernel_rfl) (by kernel_rfl) (by kernel_rfl) (fun _ _ _ h => panic_put (P := Tryd.prog) (fn := Tryd.f54) (R := (Ints (-1) w)) h) (Or.inl ⟨by rfl, ?uy12⟩) (by assumption) ?_
  case uy12 => (intro w hSw; (try dsimp only at hSw); go_simp); try with_reducible rfl
  change wpAnyH _ _ _ _ _ _ _ (Act.put _ (some 5) _) _
  simp only [Act.put, List.setIfInBounds_toArray, List.set_cons_zero, List.set_cons_succ]
  refine wpAnyH_take (i := 13) (v := ?uv13) rfl (by kernel_rfl) (by kernel_rfl) (by kernel_rfl) (fun _ _ _ h => panic_put (P := Tryd.prog) (fn := Tryd.f54) (R := (Ints (-1) w)) h) (Or.inl ⟨by rfl, ?uy13⟩) (by assumption) ?_
  case uy13 => (intro w hSw; (try dsimp only at hSw); go_simp); try with_reducible rfl
  change wpAnyH _ _ _ _ _ _ _ (Act.put _ (some 6) _) _
  simp only [Act.put, List.setIfInBounds_toArray, List.set_cons_zero, List.set_cons_succ]
  refine wpAnyH_done (by kernel_rfl) ?_ _
  have q0 : ((blen x : Int) + e1 != (blen y : Int) + e2) = true := by simp; omega
  have q1 : decide ((blen x : Int) + e1 < (blen y : Int) + e2) = true := decide_eq_true (by omega)
  clear hr
  go_wp2
  go_ret
  exact ⟨rfl, below_drewN BB _⟩

set_option maxRecDepth 100000 in
set_option maxHeartbeats 8000000 in
theorem rsize_gt {w : World} {A1 A2 : Option Addr} {n1 c1 n2 c2 x y : Nat} {s1 s2 : Bool} {e1 e2 : Int} (h1 : Dg w A1 n1 c1 x) (h2 : Dg w A2 n2 c2 y) (bx : blen x ≤ 4096) (by_ : blen y ≤ 4096) (hn1 : n1 ≤ 600) (hn2 : n2 ≤ 600) (r1 : -1048576 ≤ e1) (r2 : e1 ≤ 1048576) (r3 : -1048576 ≤ e2) (r4 : e2 ≤ 1048576) (hr : (blen y : Int) + e2 < (blen x : Int) + e1) :
    Calls Tryd.prog 54 #[.agg #[.bool s1, .slice A1 n1 c1, .int .i64 e1], .agg #[.bool s2, .slice A2 n2 c2, .int .i64 e2]] w (Ints 1 w) := by
  have BB := two_below w (.cells #[.bool s1, .slice A1 n1 c1, .int .i64 e1] 46) (.cells #[.bool s2, .slice A2 n2 c2, .int .i64 e2] 46)
  obtain ⟨xa, xb⟩ := dbx_two w (s1 := s1) (A1 := A1) (n1 := n1) (c1 := c1) (e1 := e1) (s2 := s2) (A2 := A2) (n2 := n2) (c2 := c2) (e2 := e2)
  obtain ⟨a10, a11, a12⟩ := xa.held
  obtain ⟨a20, a21, a22⟩ := xb.held
  clear xa xb
  have G := mv BB rfl <| And.intro h1 <| h2
  clear h1 h2
  obtain ⟨h1, h2⟩ := G
  have hw1 : IntKind.i64.wrap ((blen x : Int) + e1) = (blen x : Int) + e1 := IntWalk.i64_in _ (by omega)
  have hw2 : IntKind.i64.wrap ((blen y : Int) + e2) = (blen y : Int) + e2 := IntWalk.i64_in _ (by omega)
  go_enter Tryd.func54, Tryd.ntmps54
  go_wp2_with fail
  refine wp_region_held_drew (S := fun w' => w'.cell? ⟨w.heap.size, 0, none⟩ = some (.bool s1) ∧ w'.cell? ⟨w.heap.size, 1, none⟩ = some (.slice A1 n1 c1) ∧ w'.cell? ⟨w.heap.size, 2, none⟩ = some (.int .i64 e1) ∧ w'.cell? ⟨(w.heap.size + 1), 0, none⟩ = some (.bool s2) ∧ w'.cell? ⟨(w.heap.size + 1), 1, none⟩ = some (.slice A2 n2 c2) ∧ w'.cell? ⟨(w.heap.size + 1), 2, none⟩ = some (.int .i64 e2)) (by kernel_rfl) (by first | (dsimp only; go_keep) | go_keep) (fun hHeldu0 => ?_)
  refine wpAnyH_take (i := 0) (v := ?uv0) rfl (by kernel_rfl) (by kernel_rfl) (by kernel_rfl) (fun _ _ _ h => panic_put (P := Tryd.prog) (fn := Tryd.f54) (R := (Ints 1 w)) h) (Or.inl ⟨by rfl, ?uy0⟩) (by assumption) ?_
  case uy0 => (intro w hSw; (try dsimp only at hSw); go_simp); try with_reducible rfl
  change wpAnyH _ _ _ _ _ _ _ (Act.put _ (some 8) _) _
  simp only [Act.put, List.setIfInBounds_toArray, List.set_cons_zero, List.set_cons_succ]
  refine wpAnyH_take (i := 1) (v := ?uv1) rfl (by kernel_rfl) (by kernel_rfl) (by kernel_rfl) (fun _ _ _ h => panic_put (P := Tryd.prog) (fn := Tryd.f54) (R := (Ints 1 w)) h) (Or.inl ⟨by rfl, ?uy1⟩) (by assumption) ?_
  case uy1 => (intro w hSw; (try dsimp only at hSw); go_simp); try with_reducible rfl
  change wpAnyH _ _ _ _ _ _ _ (Act.put _ (some 9) _) _
  simp only [Act.put, List.setIfInBounds_toArray, List.set_cons_zero, List.set_cons_succ]
  refine wpAnyH_take (i := 3) (v := ?uv3) rfl (by kernel_rfl) (by kernel_rfl) (by kernel_rfl) (fun _ _ _ h => panic_put (P := Tryd.prog) (fn := Tryd.f54) (R := (Ints 1 w)) h) (Or.inl ⟨by rfl, ?uy3⟩) (by assumption) ?_
  case uy3 => (intro w hSw; (try dsimp only at hSw); go_simp); try with_reducible rfl
  change wpAnyH _ _ _ _ _ _ _ (Act.put _ (some 11) _) _
  simp only [Act.put, List.setIfInBounds_toArray, List.set_cons_zero, List.set_cons_succ]
  refine wpAnyH_take (i := 4) (v := ?uv4) rfl (by kernel_rfl) (by kernel_rfl) (by kernel_rfl) (fun _ _ _ h => panic_put (P := Tryd.prog) (fn := Tryd.f54) (R := (Ints 1 w)) h) (Or.inl ⟨by rfl, ?uy4⟩) (by assumption) ?_
  case uy4 => (intro w hSw; (try dsimp only at hSw); go_simp); try with_reducible rfl
  change wpAnyH _ _ _ _ _ _ _ (Act.put _ (some 12) _) _
  simp only [Act.put, List.setIfInBounds_toArray, List.set_cons_zero, List.set_cons_succ]
  refine wpAnyH_take (i := 6) (v := ?uv6) rfl (by kernel_rfl) (by kernel_rfl) (by kernel_rfl) (fun _ _ _ h => panic_put (P := Tryd.prog) (fn := Tryd.f54) (R := (Ints 1 w)) h) (Or.inl ⟨by rfl, ?uy6⟩) (by assumption) ?_
  case uy6 => (intro w hSw; (try dsimp only at hSw); go_simp); try with_reducible rfl
  change wpAnyH _ _ _ _ _ _ _ (Act.put _ (some 14) _) _
  simp only [Act.put, List.setIfInBounds_toArray, List.set_cons_zero, List.set_cons_succ]
  refine wpAnyH_take (i := 7) (v := ?uv7) rfl (by kernel_rfl) (by kernel_rfl) (by kernel_rfl) (fun _ _ _ h => panic_put (P := Tryd.prog) (fn := Tryd.f54) (R := (Ints 1 w)) h) (Or.inl ⟨by rfl, ?uy7⟩) (by assumption) ?_
  case uy7 => (intro w hSw; (try dsimp only at hSw); go_simp); try with_reducible rfl
  change wpAnyH _ _ _ _ _ _ _ (Act.put _ (some 15) _) _
  simp only [Act.put, List.setIfInBounds_toArray, List.set_cons_zero, List.set_cons_succ]
  refine wpAnyH_take (i := 9) (v := ?uv9) rfl (by kernel_rfl) (by kernel_rfl) (by kernel_rfl) (fun _ _ _ h => panic_put (P := Tryd.prog) (fn := Tryd.f54) (R := (Ints 1 w)) h) (Or.inl ⟨by rfl, ?uy9⟩) (by assumption) ?_
  case uy9 => (intro w hSw; (try dsimp only at hSw); go_simp); try with_reducible rfl
  change wpAnyH _ _ _ _ _ _ _ (Act.put _ (some 17) _) _
  simp only [Act.put, List.setIfInBounds_toArray, List.set_cons_zero, List.set_cons_succ]
  refine wpAnyH_take (i := 10) (v := ?uv10) rfl (by kernel_rfl) (by kernel_rfl) (by kernel_rfl) (fun _ _ _ h => panic_put (P := Tryd.prog) (fn := Tryd.f54) (R := (Ints 1 w)) h) (Or.inl ⟨by rfl, ?uy10⟩) (by assumption) ?_
  case uy10 => (intro w hSw; (try dsimp only at hSw); go_simp); try with_reducible rfl
  change wpAnyH _ _ _ _ _ _ _ (Act.put _ (some 18) _) _
  simp only [Act.put, List.setIfInBounds_toArray, List.set_cons_zero, List.set_cons_succ]
  refine wpAnyH_ready (rs := [2]) (by kernel_rfl) (by simp) ?_
  refine AllReadyH.cons (o := _) rfl (fun K hK => ?_) AllReadyH.nil
  go_simp
  refine (rbits_any (h1.heap32 (by rfl)) (by omega)).mono ?_
  rintro en w' ⟨rfl, rfl⟩
  refine hK.out _ _ (by first | (dsimp only; go_keep) | go_keep) (fun hHeldu1 => ?_)
  clear hK K hHeldu0
  try simp only [Act.put]
  refine wpAnyH_take (i := 5) (v := ?uv5) rfl (by kernel_rfl) (by kernel_rfl) (by kernel_rfl) (fun _ _ _ h => panic_put (P := Tryd.prog) (fn := Tryd.f54) (R := (Ints 1 w)) h) (Or.inl ⟨by rfl, ?uy5⟩) (by assumption) ?_
  case uy5 => (intro w hSw; (try dsimp only at hSw); go_simp; (try simp only [hw1, hw2])); try with_reducible rfl
  change wpAnyH _ _ _ _ _ _ _ (Act.put _ (some 13) _) _
  simp only [Act.put, List.setIfInBounds_toArray, List.set_cons_zero, List.set_cons_succ]
  refine wpAnyH_ready (rs := [8]) (by kernel_rfl) (by simp) ?_
  refine AllReadyH.cons (o := _) rfl (fun K hK => ?_) AllReadyH.nil
  go_simp
  refine (rbits_any (h2.heap32 (by rfl)) (by omega)).mono ?_
  rintro en w' ⟨rfl, rfl⟩
  refine hK.out _ _ (by first | (dsimp only; go_keep) | go_keep) (fun hHeldu2 => ?_)
  clear hK K hHeldu1
  try simp only [Act.put]
  refine wpAnyH_take (i := 11) (v := ?uv11) rfl (by kernel_rfl) (by kernel_rfl) (by kernel_rfl) (fun _ _ _ h => panic_put (P := Tryd.prog) (fn := Tryd.f54) (R := (Ints 1 w)) h) (Or.inl ⟨by rfl, ?uy11⟩) (by assumption) ?_
  case uy11 => (intro w hSw; (try dsimp only at hSw); go_simp; (try simp only [hw1, hw2])); try with_reducible rfl
  change wpAnyH _ _ _ _ _ _ _ (Act.put _ (some 19) _) _
  simp only [Act.put, List.setIfInBounds_toArray, List.set_cons_zero, List.set_cons_succ]
  refine wpAnyH_take (i := 12) (v := ?uv12) rfl (by kernel_rfl) (by kernel_rfl) (by kernel_rfl) (fun _ _ _ h => panic_put (P := Tryd.prog) (fn := Tryd.f54) (R := (Ints 1 w)) h) (Or.inl ⟨by rfl, ?uy12⟩) (by assumption) ?_
  case uy12 => (intro w hSw; (try dsimp only at hSw); go_simp); try with_reducible rfl
  change wpAnyH _ _ _ _ _ _ _ (Act.put _ (some 5) _) _
  simp only [Act.put, List.setIfInBounds_toArray, List.set_cons_zero, List.set_cons_succ]
  refine wpAnyH_take (i := 13) (v := ?uv13) rfl (by kernel_rfl) (by kernel_rfl) (by kernel_rfl) (fun _ _ _ h => panic_put (P := Tryd.prog) (fn := Tryd.f54) (R := (Ints 1 w)) h) (Or.inl ⟨by rfl, ?uy13⟩) (by assumption) ?_
  case uy13 => (intro w hSw; (try dsimp only at hSw); go_simp); try with_reducible rfl
  change wpAnyH _ _ _ _ _ _ _ (Act.put _ (some 6) _) _
  simp only [Act.put, List.setIfInBounds_toArray, List.set_cons_zero, List.set_cons_succ]
  refine wpAnyH_done (by kernel_rfl) ?_ _
  have q0 : ((blen x : Int) + e1 != (blen y : Int) + e2) = true := by simp; omega
  have q1 : decide ((blen x : Int) + e1 < (blen y : Int) + e2) = false := decide_eq_false (by omega)
  clear hr
  go_wp2
  go_ret
  exact ⟨rfl, below_drewN BB _⟩

set_option maxRecDepth 100000 in
set_option maxHeartbeats 8000000 in
theorem rsize_eq {w : World} {A1 A2 : Option Addr} {n1 c1 n2 c2 x y i j : Nat} {s1 s2 : Bool} {e1 e2 lo : Int} (h1 : Dg w A1 n1 c1 x) (h2 : Dg w A2 n2 c2 y) (bx : blen x ≤ 4096) (by_ : blen y ≤ 4096) (hn1 : n1 ≤ 600) (hn2 : n2 ≤ 600) (r1 : -1048576 ≤ e1) (r2 : e1 ≤ 1048576) (r3 : -1048576 ≤ e2) (r4 : e2 ≤ 1048576) (hr : (blen x : Int) + e1 = (blen y : Int) + e2) (hlo : min e1 e2 = lo) (hi : e1 - lo = (i : Int)) (hj : e2 - lo = (j : Int)) :
    Calls Tryd.prog 54 #[.agg #[.bool s1, .slice A1 n1 c1, .int .i64 e1], .agg #[.bool s2, .slice A2 n2 c2, .int .i64 e2]] w (Ints (cmpN (x * 2 ^ i) (y * 2 ^ j)) w) := by
  have BB := two_below w (.cells #[.bool s1, .slice A1 n1 c1, .int .i64 e1] 46) (.cells #[.bool s2, .slice A2 n2 c2, .int .i64 e2] 46)
  obtain ⟨xa, xb⟩ := dbx_two w (s1 := s1) (A1 := A1) (n1 := n1) (c1 := c1) (e1 := e1) (s2 := s2) (A2 := A2) (n2 := n2) (c2 := c2) (e2 := e2)
  obtain ⟨a10, a11, a12⟩ := xa.held
  obtain ⟨a20, a21, a22⟩ := xb.held
  clear xa xb
  have G := mv BB rfl <| And.intro h1 <| h2
  clear h1 h2
  obtain ⟨h1, h2⟩ := G
  have hw1 : IntKind.i64.wrap ((blen x : Int) + e1) = (blen x : Int) + e1 := IntWalk.i64_in _ (by omega)
  have hw2 : IntKind.i64.wrap ((blen y : Int) + e2) = (blen y : Int) + e2 := IntWalk.i64_in _ (by omega)
  go_enter Tryd.func54, Tryd.ntmps54
  go_wp2_with fail
  refine wp_region_held_drew (S := fun w' => w'.cell? ⟨w.heap.size, 0, none⟩ = some (.bool s1) ∧ w'.cell? ⟨w.heap.size, 1, none⟩ = some (.slice A1 n1 c1) ∧ w'.cell? ⟨w.heap.size, 2, none⟩ = some (.int .i64 e1) ∧ w'.cell? ⟨(w.heap.size + 1), 0, none⟩ = some (.bool s2) ∧ w'.cell? ⟨(w.heap.size + 1), 1, none⟩ = some (.slice A2 n2 c2) ∧ w'.cell? ⟨(w.heap.size + 1), 2, none⟩ = some (.int .i64 e2)) (by kernel_rfl) (by first | (dsimp only; go_keep) | go_keep) (fun hHeldu0 => ?_)
  refine wpAnyH_take (i := 0) (v := ?uv0) rfl (by kernel_rfl) (by kernel_rfl) (by kernel_rfl) (fun _ _ _ h => panic_put (P := Tryd.prog) (fn := Tryd.f54) (R := (Ints (cmpN (x * 2 ^ i) (y * 2 ^ j)) w)) h) (Or.inl ⟨by rfl, ?uy0⟩) (by assumption) ?_
  case uy0 => (intro w hSw; (try dsimp only at hSw); go_simp); try with_reducible rfl
  change wpAnyH _ _ _ _ _ _ _ (Act.put _ (some 8) _) _
  simp only [Act.put, List.setIfInBounds_toArray, List.set_cons_zero, List.set_cons_succ]
  refine wpAnyH_take (i := 1) (v := ?uv1) rfl (by kernel_rfl) (by kernel_rfl) (by kernel_rfl) (fun _ _ _ h => panic_put (P := Tryd.prog) (fn := Tryd.f54) (R := (Ints (cmpN (x * 2 ^ i) (y * 2 ^ j)) w)) h) (Or.inl ⟨by rfl, ?uy1⟩) (by assumption) ?_
  case uy1 => (intro w hSw; (try dsimp only at hSw); go_simp); try with_reducible rfl
  change wpAnyH _ _ _ _ _ _ _ (Act.put _ (some 9) _) _
  simp only [Act.put, List.setIfInBounds_toArray, List.set_cons_zero, List.set_cons_succ]
  refine wpAnyH_take (i := 3) (v := ?uv3) rfl (by kernel_rfl) (by kernel_rfl) (by kernel_rfl) (fun _ _ _ h => panic_put (P := Tryd.prog) (fn := Tryd.f54) (R := (Ints (cmpN (x * 2 ^ i) (y * 2 ^ j)) w)) h) (Or.inl ⟨by rfl, ?uy3⟩) (by assumption) ?_
  case uy3 => (intro w hSw; (try dsimp only at hSw); go_simp); try with_reducible rfl
  change wpAnyH _ _ _ _ _ _ _ (Act.put _ (some 11) _) _
  simp only [Act.put, List.setIfInBounds_toArray, List.set_cons_zero, List.set_cons_succ]
  refine wpAnyH_take (i := 4) (v := ?uv4) rfl (by kernel_rfl) (by kernel_rfl) (by kernel_rfl) (fun _ _ _ h => panic_put (P := Tryd.prog) (fn := Tryd.f54) (R := (Ints (cmpN (x * 2 ^ i) (y * 2 ^ j)) w)) h) (Or.inl ⟨by rfl, ?uy4⟩) (by assumption) ?_
  case uy4 => (intro w hSw; (try dsimp only at hSw); go_simp); try with_reducible rfl
  change wpAnyH _ _ _ _ _ _ _ (Act.put _ (some 12) _) _
  simp only [Act.put, List.setIfInBounds_toArray, List.set_cons_zero, List.set_cons_succ]
  refine wpAnyH_take (i := 6) (v := ?uv6) rfl (by kernel_rfl) (by kernel_rfl) (by kernel_rfl) (fun _ _ _ h => panic_put (P := Tryd.prog) (fn := Tryd.f54) (R := (Ints (cmpN (x * 2 ^ i) (y * 2 ^ j)) w)) h) (Or.inl ⟨by rfl, ?uy6⟩) (by assumption) ?_
  case uy6 => (intro w hSw; (try dsimp only at hSw); go_simp); try with_reducible rfl
  change wpAnyH _ _ _ _ _ _ _ (Act.put _ (some 14) _) _
  simp only [Act.put, List.setIfInBounds_toArray, List.set_cons_zero, List.set_cons_succ]
  refine wpAnyH_take (i := 7) (v := ?uv7) rfl (by kernel_rfl) (by kernel_rfl) (by kernel_rfl) (fun _ _ _ h => panic_put (P := Tryd.prog) (fn := Tryd.f54) (R := (Ints (cmpN (x * 2 ^ i) (y * 2 ^ j)) w)) h) (Or.inl ⟨by rfl, ?uy7⟩) (by assumption) ?_
  case uy7 => (intro w hSw; (try dsimp only at hSw); go_simp); try with_reducible rfl
  change wpAnyH _ _ _ _ _ _ _ (Act.put _ (some 15) _) _
  simp only [Act.put, List.setIfInBounds_toArray, List.set_cons_zero, List.set_cons_succ]
  refine wpAnyH_take (i := 9) (v := ?uv9) rfl (by kernel_rfl) (by kernel_rfl) (by kernel_rfl) (fun _ _ _ h => panic_put (P := Tryd.prog) (fn := Tryd.f54) (R := (Ints (cmpN (x * 2 ^ i) (y * 2 ^ j)) w)) h) (Or.inl ⟨by rfl, ?uy9⟩) (by assumption) ?_
  case uy9 => (intro w hSw; (try dsimp only at hSw); go_simp); try with_reducible rfl
  change wpAnyH _ _ _ _ _ _ _ (Act.put _ (some 17) _) _
  simp only [Act.put, List.setIfInBounds_toArray, List.set_cons_zero, List.set_cons_succ]
  refine wpAnyH_take (i := 10) (v := ?uv10) rfl (by kernel_rfl) (by kernel_rfl) (by kernel_rfl) (fun _ _ _ h => panic_put (P := Tryd.prog) (fn := Tryd.f54) (R := (Ints (cmpN (x * 2 ^ i) (y * 2 ^ j)) w)) h) (Or.inl ⟨by rfl, ?uy10⟩) (by assumption) ?_
  case uy10 => (intro w hSw; (try dsimp only at hSw); go_simp); try with_reducible rfl
  change wpAnyH _ _ _ _ _ _ _ (Act.put _ (some 18) _) _
  simp only [Act.put, List.setIfInBounds_toArray, List.set_cons_zero, List.set_cons_succ]
  refine wpAnyH_ready (rs := [2]) (by kernel_rfl) (by simp) ?_
  refine AllReadyH.cons (o := _) rfl (fun K hK => ?_) AllReadyH.nil
  go_simp
  refine (rbits_any (h1.heap32 (by rfl)) (by omega)).mono ?_
  rintro en w' ⟨rfl, rfl⟩
  refine hK.out _ _ (by first | (dsimp only; go_keep) | go_keep) (fun hHeldu1 => ?_)
  clear hK K hHeldu0
  try simp only [Act.put]
  refine wpAnyH_take (i := 5) (v := ?uv5) rfl (by kernel_rfl) (by kernel_rfl) (by kernel_rfl) (fun _ _ _ h => panic_put (P := Tryd.prog) (fn := Tryd.f54) (R := (Ints (cmpN (x * 2 ^ i) (y * 2 ^ j)) w)) h) (Or.inl ⟨by rfl, ?uy5⟩) (by assumption) ?_
  case uy5 => (intro w hSw; (try dsimp only at hSw); go_simp; (try simp only [hw1, hw2])); try with_reducible rfl
  change wpAnyH _ _ _ _ _ _ _ (Act.put _ (some 13) _) _
  simp only [Act.put, List.setIfInBounds_toArray, List.set_cons_zero, List.set_cons_succ]
  refine wpAnyH_ready (rs := [8]) (by kernel_rfl) (by simp) ?_
  refine AllReadyH.cons (o := _) rfl (fun K hK => ?_) AllReadyH.nil
  go_simp
  refine (rbits_any (h2.heap32 (by rfl)) (by omega)).mono ?_
  rintro en w' ⟨rfl, rfl⟩
  refine hK.out _ _ (by first | (dsimp only; go_keep) | go_keep) (fun hHeldu2 => ?_)
  clear hK K hHeldu1
  try simp only [Act.put]
  refine wpAnyH_take (i := 11) (v := ?uv11) rfl (by kernel_rfl) (by kernel_rfl) (by kernel_rfl) (fun _ _ _ h => panic_put (P := Tryd.prog) (fn := Tryd.f54) (R := (Ints (cmpN (x * 2 ^ i) (y * 2 ^ j)) w)) h) (Or.inl ⟨by rfl, ?uy11⟩) (by assumption) ?_
  case uy11 => (intro w hSw; (try dsimp only at hSw); go_simp; (try simp only [hw1, hw2])); try with_reducible rfl
  change wpAnyH _ _ _ _ _ _ _ (Act.put _ (some 19) _) _
  simp only [Act.put, List.setIfInBounds_toArray, List.set_cons_zero, List.set_cons_succ]
  refine wpAnyH_take (i := 12) (v := ?uv12) rfl (by kernel_rfl) (by kernel_rfl) (by kernel_rfl) (fun _ _ _ h => panic_put (P := Tryd.prog) (fn := Tryd.f54) (R := (Ints (cmpN (x * 2 ^ i) (y * 2 ^ j)) w)) h) (Or.inl ⟨by rfl, ?uy12⟩) (by assumption) ?_
  case uy12 => (intro w hSw; (try dsimp only at hSw); go_simp); try with_reducible rfl
  change wpAnyH _ _ _ _ _ _ _ (Act.put _ (some 5) _) _
  simp only [Act.put, List.setIfInBounds_toArray, List.set_cons_zero, List.set_cons_succ]
  refine wpAnyH_take (i := 13) (v := ?uv13) rfl (by kernel_rfl) (by kernel_rfl) (by kernel_rfl) (fun _ _ _ h => panic_put (P := Tryd.prog) (fn := Tryd.f54) (R := (Ints (cmpN (x * 2 ^ i) (y * 2 ^ j)) w)) h) (Or.inl ⟨by rfl, ?uy13⟩) (by assumption) ?_
  case uy13 => (intro w hSw; (try dsimp only at hSw); go_simp); try with_reducible rfl
  change wpAnyH _ _ _ _ _ _ _ (Act.put _ (some 6) _) _
  simp only [Act.put, List.setIfInBounds_toArray, List.set_cons_zero, List.set_cons_succ]
  refine wpAnyH_done (by kernel_rfl) ?_ _
  have q0 : ((blen x : Int) + e1 != (blen y : Int) + e2) = false := by simp; omega
  have hi6 : i ≤ 10000 := by omega
  have hj6 : j ≤ 10000 := by omega
  have wi : IntKind.i64.wrap (i : Int) = (i : Int) := IntWalk.i64_in _ (by omega)
  have wj : IntKind.i64.wrap (j : Int) = (j : Int) := IntWalk.i64_in _ (by omega)
  clear hr
  replace h1 := Dg.heap32 (w2 := World.drew ((w.alloc (.cells #[.bool s1, .slice A1 n1 c1, .int .i64 e1] 46)).alloc (.cells #[.bool s2, .slice A2 n2 c2, .int .i64 e2] 46))) h1 rfl
  replace h2 := Dg.heap32 (w2 := World.drew ((w.alloc (.cells #[.bool s1, .slice A1 n1 c1, .int .i64 e1] 46)).alloc (.cells #[.bool s2, .slice A2 n2 c2, .int .i64 e2] 46))) h2 rfl
  have BD : Below w.heap.size w (World.drew ((w.alloc (.cells #[.bool s1, .slice A1 n1 c1, .int .i64 e1] 46)).alloc (.cells #[.bool s2, .slice A2 n2 c2, .int .i64 e2] 46))) := below_drewN BB 1
  clear a10 a11 a12 a20 a21 a22 BB hw1 hw2
  obtain ⟨a10, a11, a12, a20, a21, a22⟩ := hHeldu2
  generalize World.drew ((w.alloc (.cells #[.bool s1, .slice A1 n1 c1, .int .i64 e1] 46)).alloc (.cells #[.bool s2, .slice A2 n2 c2, .int .i64 e2] 46)) = wd at *
  have BB := BD
  clear BD
  go_wp2_with fail
  clear q0 hlo
  refine wp_region_held_drew (S := fun w' => w'.cell? ⟨w.heap.size, 0, none⟩ = some (.bool s1) ∧ w'.cell? ⟨w.heap.size, 1, none⟩ = some (.slice A1 n1 c1) ∧ w'.cell? ⟨w.heap.size, 2, none⟩ = some (.int .i64 e1) ∧ w'.cell? ⟨(w.heap.size + 1), 0, none⟩ = some (.bool s2) ∧ w'.cell? ⟨(w.heap.size + 1), 1, none⟩ = some (.slice A2 n2 c2) ∧ w'.cell? ⟨(w.heap.size + 1), 2, none⟩ = some (.int .i64 e2)) (by kernel_rfl) (by first | (dsimp only; go_keep) | go_keep) (fun hHeldv0 => ?_)
  refine wpAnyH_take (i := 0) (v := ?vv0) rfl (by kernel_rfl) (by kernel_rfl) (by kernel_rfl) (fun _ _ _ h => panic_put (P := Tryd.prog) (fn := Tryd.f54) (R := (Ints (cmpN (x * 2 ^ i) (y * 2 ^ j)) w)) h) (Or.inl ⟨by rfl, ?vy0⟩) (by assumption) ?_
  case vy0 => (intro w hSw; (try dsimp only at hSw); go_simp); try with_reducible rfl
  change wpAnyH _ _ _ _ _ _ _ (Act.put _ (some 31) _) _
  simp only [Act.put, List.setIfInBounds_toArray, List.set_cons_zero, List.set_cons_succ]
  refine wpAnyH_take (i := 1) (v := ?vv1) rfl (by kernel_rfl) (by kernel_rfl) (by kernel_rfl) (fun _ _ _ h => panic_put (P := Tryd.prog) (fn := Tryd.f54) (R := (Ints (cmpN (x * 2 ^ i) (y * 2 ^ j)) w)) h) (Or.inl ⟨by rfl, ?vy1⟩) (by assumption) ?_
  case vy1 => (intro w hSw; (try dsimp only at hSw); go_simp); try with_reducible rfl
  change wpAnyH _ _ _ _ _ _ _ (Act.put _ (some 32) _) _
  simp only [Act.put, List.setIfInBounds_toArray, List.set_cons_zero, List.set_cons_succ]
  refine wpAnyH_take (i := 2) (v := ?vv2) rfl (by kernel_rfl) (by kernel_rfl) (by kernel_rfl) (fun _ _ _ h => panic_put (P := Tryd.prog) (fn := Tryd.f54) (R := (Ints (cmpN (x * 2 ^ i) (y * 2 ^ j)) w)) h) (Or.inl ⟨by rfl, ?vy2⟩) (by assumption) ?_
  case vy2 => (intro w hSw; (try dsimp only at hSw); go_simp); try with_reducible rfl
  change wpAnyH _ _ _ _ _ _ _ (Act.put _ (some 33) _) _
  simp only [Act.put, List.setIfInBounds_toArray, List.set_cons_zero, List.set_cons_succ]
  refine wpAnyH_take (i := 3) (v := ?vv3) rfl (by kernel_rfl) (by kernel_rfl) (by kernel_rfl) (fun _ _ _ h => panic_put (P := Tryd.prog) (fn := Tryd.f54) (R := (Ints (cmpN (x * 2 ^ i) (y * 2 ^ j)) w)) h) (Or.inl ⟨by rfl, ?vy3⟩) (by assumption) ?_
  case vy3 => (intro w hSw; (try dsimp only at hSw); go_simp); try with_reducible rfl
  change wpAnyH _ _ _ _ _ _ _ (Act.put _ (some 34) _) _
  simp only [Act.put, List.setIfInBounds_toArray, List.set_cons_zero, List.set_cons_succ]
  refine wpAnyH_take (i := 4) (v := ?vv4) rfl (by kernel_rfl) (by kernel_rfl) (by kernel_rfl) (fun _ _ _ h => panic_put (P := Tryd.prog) (fn := Tryd.f54) (R := (Ints (cmpN (x * 2 ^ i) (y * 2 ^ j)) w)) h) (Or.inl ⟨by rfl, ?vy4⟩) (by assumption) ?_
  case vy4 => (intro w hSw; (try dsimp only at hSw); go_simp); try with_reducible rfl
  change wpAnyH _ _ _ _ _ _ _ (Act.put _ (some 35) _) _
  simp only [Act.put, List.setIfInBounds_toArray, List.set_cons_zero, List.set_cons_succ]
  refine wpAnyH_take (i := 5) (v := ?vv5) rfl (by kernel_rfl) (by kernel_rfl) (by kernel_rfl) (fun _ _ _ h => panic_put (P := Tryd.prog) (fn := Tryd.f54) (R := (Ints (cmpN (x * 2 ^ i) (y * 2 ^ j)) w)) h) (Or.inl ⟨by rfl, ?vy5⟩) (by assumption) ?_
  case vy5 => (intro w hSw; (try dsimp only at hSw); go_simp; (try simp only [wi, wj])); try with_reducible rfl
  change wpAnyH _ _ _ _ _ _ _ (Act.put _ (some 36) _) _
  simp only [Act.put, List.setIfInBounds_toArray, List.set_cons_zero, List.set_cons_succ]
  refine wpAnyH_take (i := 7) (v := ?vv7) rfl (by kernel_rfl) (by kernel_rfl) (by kernel_rfl) (fun _ _ _ h => panic_put (P := Tryd.prog) (fn := Tryd.f54) (R := (Ints (cmpN (x * 2 ^ i) (y * 2 ^ j)) w)) h) (Or.inl ⟨by rfl, ?vy7⟩) (by assumption) ?_
  case vy7 => (intro w hSw; (try dsimp only at hSw); go_simp); try with_reducible rfl
  change wpAnyH _ _ _ _ _ _ _ (Act.put _ (some 38) _) _
  simp only [Act.put, List.setIfInBounds_toArray, List.set_cons_zero, List.set_cons_succ]
  refine wpAnyH_take (i := 8) (v := ?vv8) rfl (by kernel_rfl) (by kernel_rfl) (by kernel_rfl) (fun _ _ _ h => panic_put (P := Tryd.prog) (fn := Tryd.f54) (R := (Ints (cmpN (x * 2 ^ i) (y * 2 ^ j)) w)) h) (Or.inl ⟨by rfl, ?vy8⟩) (by assumption) ?_
  case vy8 => (intro w hSw; (try dsimp only at hSw); go_simp); try with_reducible rfl
  change wpAnyH _ _ _ _ _ _ _ (Act.put _ (some 39) _) _
  simp only [Act.put, List.setIfInBounds_toArray, List.set_cons_zero, List.set_cons_succ]
  refine wpAnyH_take (i := 9) (v := ?vv9) rfl (by kernel_rfl) (by kernel_rfl) (by kernel_rfl) (fun _ _ _ h => panic_put (P := Tryd.prog) (fn := Tryd.f54) (R := (Ints (cmpN (x * 2 ^ i) (y * 2 ^ j)) w)) h) (Or.inl ⟨by rfl, ?vy9⟩) (by assumption) ?_
  case vy9 => (intro w hSw; (try dsimp only at hSw); go_simp); try with_reducible rfl
  change wpAnyH _ _ _ _ _ _ _ (Act.put _ (some 40) _) _
  simp only [Act.put, List.setIfInBounds_toArray, List.set_cons_zero, List.set_cons_succ]
  refine wpAnyH_take (i := 10) (v := ?vv10) rfl (by kernel_rfl) (by kernel_rfl) (by kernel_rfl) (fun _ _ _ h => panic_put (P := Tryd.prog) (fn := Tryd.f54) (R := (Ints (cmpN (x * 2 ^ i) (y * 2 ^ j)) w)) h) (Or.inl ⟨by rfl, ?vy10⟩) (by assumption) ?_
  case vy10 => (intro w hSw; (try dsimp only at hSw); go_simp); try with_reducible rfl
  change wpAnyH _ _ _ _ _ _ _ (Act.put _ (some 41) _) _
  simp only [Act.put, List.setIfInBounds_toArray, List.set_cons_zero, List.set_cons_succ]
  refine wpAnyH_take (i := 11) (v := ?vv11) rfl (by kernel_rfl) (by kernel_rfl) (by kernel_rfl) (fun _ _ _ h => panic_put (P := Tryd.prog) (fn := Tryd.f54) (R := (Ints (cmpN (x * 2 ^ i) (y * 2 ^ j)) w)) h) (Or.inl ⟨by rfl, ?vy11⟩) (by assumption) ?_
  case vy11 => (intro w hSw; (try dsimp only at hSw); go_simp); try with_reducible rfl
  change wpAnyH _ _ _ _ _ _ _ (Act.put _ (some 42) _) _
  simp only [Act.put, List.setIfInBounds_toArray, List.set_cons_zero, List.set_cons_succ]
  refine wpAnyH_take (i := 12) (v := ?vv12) rfl (by kernel_rfl) (by kernel_rfl) (by kernel_rfl) (fun _ _ _ h => panic_put (P := Tryd.prog) (fn := Tryd.f54) (R := (Ints (cmpN (x * 2 ^ i) (y * 2 ^ j)) w)) h) (Or.inl ⟨by rfl, ?vy12⟩) (by assumption) ?_
  case vy12 => (intro w hSw; (try dsimp only at hSw); go_simp; (try simp only [wi, wj])); try with_reducible rfl
  change wpAnyH _ _ _ _ _ _ _ (Act.put _ (some 43) _) _
  simp only [Act.put, List.setIfInBounds_toArray, List.set_cons_zero, List.set_cons_succ]
  refine wpAnyH_ready (rs := [6]) (by kernel_rfl) (by simp) ?_
  refine AllReadyH.cons (o := _) rfl (fun K hK => ?_) AllReadyH.nil
  go_simp
  refine (rshl_any (s := i) (h1.heap32 (by rfl)) (by omega) (by omega)).mono ?_
  rintro en w' ⟨A3, n3, c3, rfl, h3, b⟩
  clear h1
  replace BB := below_next BB BB.size b (by rfl) (by rfl) (by rfl) (by rfl)
  have G := mv b (by rfl) <| And.intro a10 <| And.intro a11 <| And.intro a12 <| And.intro a20 <| And.intro a21 <| And.intro a22 <| h2
  clear b a10 a11 a12 a20 a21 a22 h2
  obtain ⟨a10, a11, a12, a20, a21, a22, h2⟩ := G
  replace h3 := Dg.heap32 h3 (by rfl)
  refine hK.out _ _ (by first | (dsimp only; go_keep) | go_keep) (fun hHeldv1 => ?_)
  clear hK K hHeldv0
  try simp only [Act.put]
  refine wpAnyH_ready (rs := [13]) (by kernel_rfl) (by simp) ?_
  refine AllReadyH.cons (o := _) rfl (fun K hK => ?_) AllReadyH.nil
  go_simp
  refine (rshl_any (s := j) (h2.heap32 (by rfl)) (by omega) (by omega)).mono ?_
  rintro en w' ⟨A4, n4, c4, rfl, h4, b⟩
  clear h2
  replace BB := below_next BB BB.size b (by rfl) (by rfl) (by rfl) (by rfl)
  have G := mv b (by rfl) <| And.intro a10 <| And.intro a11 <| And.intro a12 <| And.intro a20 <| And.intro a21 <| And.intro a22 <| h3
  clear b a10 a11 a12 a20 a21 a22 h3
  obtain ⟨a10, a11, a12, a20, a21, a22, h3⟩ := G
  refine hK.out _ _ (by first | (dsimp only; go_keep) | go_keep) (fun hHeldv2 => ?_)
  clear hK K hHeldv1
  try simp only [Act.put]
  refine wpAnyH_ready (rs := [14]) (by kernel_rfl) (by simp) ?_
  refine AllReadyH.cons (o := _) rfl (fun K hK => ?_) AllReadyH.nil
  go_simp
  refine (rcmp_any (h3.heap32 (by rfl)) (h4.heap32 (by rfl))).mono ?_
  rintro en w' ⟨rfl, b⟩
  clear h3 h4
  replace BB := below_next BB BB.size b (by rfl) (by rfl) (by rfl) (by rfl)
  have G := mv b (by rfl) <| And.intro a10 <| And.intro a11 <| And.intro a12 <| And.intro a20 <| And.intro a21 <| a22
  clear b a10 a11 a12 a20 a21 a22
  obtain ⟨a10, a11, a12, a20, a21, a22⟩ := G
  refine hK.out _ _ (by first | (dsimp only; go_keep) | go_keep) (fun hHeldv3 => ?_)
  clear hK K hHeldv2
  try simp only [Act.put]
  refine wpAnyH_take (i := 15) (v := ?vv15) rfl (by kernel_rfl) (by kernel_rfl) (by kernel_rfl) (fun _ _ _ h => panic_put (P := Tryd.prog) (fn := Tryd.f54) (R := (Ints (cmpN (x * 2 ^ i) (y * 2 ^ j)) w)) h) (Or.inl ⟨by rfl, ?vy15⟩) (by assumption) ?_
  case vy15 => (intro w hSw; (try dsimp only at hSw); go_simp); try with_reducible rfl
  change wpAnyH _ _ _ _ _ _ _ (Act.put _ (some 4) _) _
  simp only [Act.put, List.setIfInBounds_toArray, List.set_cons_zero, List.set_cons_succ]
  refine wpAnyH_done (by kernel_rfl) ?_ _
  go_wp2
  go_ret
  exact ⟨rfl, BB⟩

theorem rsize_any {w : World} {A1 A2 : Option Addr} {n1 c1 n2 c2 x y i j : Nat} {s1 s2 : Bool} {e1 e2 lo : Int} (h1 : Dg w A1 n1 c1 x) (h2 : Dg w A2 n2 c2 y) (bx : blen x ≤ 4096) (by_ : blen y ≤ 4096) (hn1 : n1 ≤ 600) (hn2 : n2 ≤ 600) (r1 : -1048576 ≤ e1) (r2 : e1 ≤ 1048576) (r3 : -1048576 ≤ e2) (r4 : e2 ≤ 1048576) (hx : x ≠ 0) (hy : y ≠ 0) (hlo : min e1 e2 = lo) (hi : e1 - lo = (i : Int)) (hj : e2 - lo = (j : Int)) :
    Calls Tryd.prog 54 #[.agg #[.bool s1, .slice A1 n1 c1, .int .i64 e1], .agg #[.bool s2, .slice A2 n2 c2, .int .i64 e2]] w (Ints (cmpN (x * 2 ^ i) (y * 2 ^ j)) w) := by
  rcases Int.lt_trichotomy ((blen x : Int) + e1) ((blen y : Int) + e2) with hr | hr | hr
  · rw [cmpN_lt (tops_lt hy (by omega))]
    exact rsize_lt h1 h2 bx by_ hn1 hn2 r1 r2 r3 r4 hr
  · exact rsize_eq h1 h2 bx by_ hn1 hn2 r1 r2 r3 r4 hr hlo hi hj
  · rw [cmpN_gt (tops_lt hx (by omega))]
    exact rsize_gt h1 h2 bx by_ hn1 hn2 r1 r2 r3 r4 hr
end Go.Proofs.YtdjklanmkjbifaaDoor
