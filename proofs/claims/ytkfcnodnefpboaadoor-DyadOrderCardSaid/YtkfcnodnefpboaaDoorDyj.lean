/-
  Contract of the statement DyadOrder's function at this translation: it returns true, whatever its arguments. Condition: the slices read as limbs, the table of math/bits reads as its text lays it.
-/
import Derived.Test.YtkfcnodnefpboaaDoorMw
import Derived.Test.YtkfcnodnefpboaaDoorRo
namespace Go.Proofs.YtkfcnodnefpboaaDoor
open Go.RowKit

theorem shift_vz {K : Nat} {s : Bool} {x : Nat} {e p : Int} {s' : Bool} {m' : Nat} {e' : Int} (hK : 4194304 ≤ K) (hd : OkD s x e) (h : Shifted s x e p 0 s' m' e') :
    (0 ≤ p → vz K s' m' e' = vz K s x e * ((2 ^ p.toNat : Nat) : Int)) ∧ (p < 0 → vz K s x e = vz K s' m' e' * ((2 ^ (-p).toNat : Nat) : Int)) := by
  have re := okd_ge hK hd
  rcases h with ⟨h0, _, rfl, rfl, rfl⟩ | ⟨h0, hr, _, rfl, rfl, rfl⟩ | ⟨_, _, h1, _⟩
  · rw [h0, vz_zero, Int.zero_mul, Int.zero_mul]
    exact ⟨fun _ => rfl, fun _ => rfl⟩
  · constructor
    · intro hp
      have e1 : p + e = e + (p.toNat : Nat) := by omega
      rw [e1, vz_up re.2.2, vz_times]
    · intro hp
      have e1 : e = p + e + ((-p).toNat : Nat) := by omega
      have h2 := vz_up (K := K) (s := s') (m := m') (e := p + e) (by omega) (-p).toNat
      rw [← e1, vz_times] at h2
      exact h2
  · cases h1
theorem shift_cmp {K : Nat} {s t : Bool} {x y : Nat} {e f p z : Int} {s' t' : Bool} {x' y' : Nat} {e' f' : Int} (hK : 4194304 ≤ K) (hd : OkD s x e) (hd' : OkD t y f) (h : Shifted s x e p 0 s' x' e') (h' : Shifted t y f p 0 t' y' f') (hz : cmpV (vz K s x e) (vz K t y f) = z) :
    cmpV (vz K s' x' e') (vz K t' y' f') = z := by
  obtain ⟨a1, a2⟩ := shift_vz hK hd h
  obtain ⟨b1, b2⟩ := shift_vz hK hd' h'
  rw [← hz]
  by_cases hp : 0 ≤ p
  · rw [a1 hp, b1 hp]
    exact cmpV_mul (by have := pow_pos2 p.toNat; generalize 2 ^ p.toNat = P at *; omega)
  · rw [a2 (by omega), b2 (by omega)]
    exact (cmpV_mul (by have := pow_pos2 (-p).toNat; generalize 2 ^ (-p).toNat = P at *; omega)).symm
set_option maxRecDepth 100000 in
set_option maxHeartbeats 8000000 in
theorem dorder_any {w : World} {A1 : Option Addr} {n1 c1 : Nat} {l1 : List Nat} {s1 : Bool} {e1 : Int} {A2 : Option Addr} {n2 c2 : Nat} {l2 : List Nat} {s2 : Bool} {e2 : Int} {p : Int} (hT : Tab w) (h1 : Rd w .u64 W A1 n1 c1 l1) (h2 : Rd w .u64 W A2 n2 c2 l2) :
    Calls Tryd.prog 6 #[.agg #[.bool s1, .slice A1 n1 c1, .int .i64 e1], .agg #[.bool s2, .slice A2 n2 c2, .int .i64 e2], .int .i64 p] w fun en w' => ToldEnd w en w' := by
  have x1 : n1 ≤ 9223372036854775807 := Nat.le_trans h1.cap h1.max
  have x2 : n2 ≤ 9223372036854775807 := Nat.le_trans h2.cap h2.max
  obtain ⟨KK, hKK⟩ := scale_has
  have BB := two_below w (.cells #[.bool s1, .slice A1 n1 c1, .int .i64 e1] 24) (.cells #[.bool s2, .slice A2 n2 c2, .int .i64 e2] 24)
  obtain ⟨a10, a11, a12, a20, a21, a22⟩ := (two_new w s1 s2 A1 A2 n1 c1 n2 c2 e1 e2).held
  have G := mv BB rfl <| And.intro hT <| And.intro h1 <| h2
  clear hT h1 h2
  obtain ⟨hT, h1, h2⟩ := G
  go_enter Tryd.func6, Tryd.ntmps6
  go_wp2_with fail
  refine (dfew_any (s := s1) (e := e1) x1).mono ?_
  rintro en w1 ⟨rfl, b⟩
  replace BB := below_next BB BB.size b rfl rfl rfl rfl
  have G := mv b rfl <| And.intro a10 <| And.intro a11 <| And.intro a12 <| And.intro a20 <| And.intro a21 <| And.intro a22 <| And.intro hT <| And.intro h1 <| h2
  clear b a10 a11 a12 a20 a21 a22 hT h1 h2
  obtain ⟨a10, a11, a12, a20, a21, a22, hT, h1, h2⟩ := G
  by_cases q1 : n1 ≤ 70
  rotate_left
  · rw [decide_eq_false q1]
    go_wp2_with fail
    refine (dtold_any hT).mono ?_
    rintro en w99 ⟨rfl, b⟩
    replace BB := below_next BB BB.size b rfl rfl rfl rfl
    clear b
    go_wp2
    go_ret
    exact ⟨by first | rfl | simp, BB⟩
  rw [decide_eq_true q1]
  go_wp2_with fail
  refine (dfew_any (s := s2) (e := e2) x2).mono ?_
  rintro en w2 ⟨rfl, b⟩
  replace BB := below_next BB BB.size b rfl rfl rfl rfl
  have G := mv b rfl <| And.intro a10 <| And.intro a11 <| And.intro a12 <| And.intro a20 <| And.intro a21 <| And.intro a22 <| And.intro hT <| And.intro h1 <| h2
  clear b a10 a11 a12 a20 a21 a22 hT h1 h2
  obtain ⟨a10, a11, a12, a20, a21, a22, hT, h1, h2⟩ := G
  by_cases q2 : n2 ≤ 70
  rotate_left
  · rw [decide_eq_false q2]
    go_wp2_with fail
    refine (dtold_any hT).mono ?_
    rintro en w99 ⟨rfl, b⟩
    replace BB := below_next BB BB.size b rfl rfl rfl rfl
    clear b
    go_wp2
    go_ret
    exact ⟨by first | rfl | simp, BB⟩
  rw [decide_eq_true q2]
  clear x1 x2 q1 q2
  go_wp2_with fail
  refine (dmay_any (s := s1) (e := e1) hT h1).mono ?_
  rintro en w3 ⟨rfl, b⟩
  replace BB := below_next BB BB.size b rfl rfl rfl rfl
  have G := mv b rfl <| And.intro a10 <| And.intro a11 <| And.intro a12 <| And.intro a20 <| And.intro a21 <| And.intro a22 <| And.intro hT <| And.intro h1 <| h2
  clear b a10 a11 a12 a20 a21 a22 hT h1 h2
  obtain ⟨a10, a11, a12, a20, a21, a22, hT, h1, h2⟩ := G
  cases hd1 : mayD s1 l1 e1
  · clear hd1
    go_wp2_with fail
    refine (dtold_any hT).mono ?_
    rintro en w99 ⟨rfl, b⟩
    replace BB := below_next BB BB.size b rfl rfl rfl rfl
    clear b
    go_wp2
    go_ret
    exact ⟨by first | rfl | simp, BB⟩
  obtain ⟨hm, hok⟩ := mayD_of h1.lt hd1
  have N1 := (nt_of h1 hm).1
  generalize val W l1 = m1 at N1 hok
  have O1 := Lib.hid hok
  clear hm hok hd1
  clear h1
  go_wp2_with fail
  refine (dmay_any (s := s2) (e := e2) hT h2).mono ?_
  rintro en w4 ⟨rfl, b⟩
  replace BB := below_next BB BB.size b rfl rfl rfl rfl
  have G := mv b rfl <| And.intro a10 <| And.intro a11 <| And.intro a12 <| And.intro a20 <| And.intro a21 <| And.intro a22 <| And.intro hT <| And.intro h2 <| N1
  clear b a10 a11 a12 a20 a21 a22 hT h2 N1
  obtain ⟨a10, a11, a12, a20, a21, a22, hT, h2, N1⟩ := G
  cases hd2 : mayD s2 l2 e2
  · clear hd2
    go_wp2_with fail
    refine (dtold_any hT).mono ?_
    rintro en w99 ⟨rfl, b⟩
    replace BB := below_next BB BB.size b rfl rfl rfl rfl
    clear b
    go_wp2
    go_ret
    exact ⟨by first | rfl | simp, BB⟩
  obtain ⟨hm, hok⟩ := mayD_of h2.lt hd2
  have N2 := (nt_of h2 hm).1
  generalize val W l2 = m2 at N2 hok
  have O2 := Lib.hid hok
  clear hm hok hd2
  clear h2
  go_wp2_with fail
  refine (dcmp_ok hKK hT N1 N2 O1.out O2.out).mono ?_
  rintro en w5 ⟨rfl, b⟩
  replace BB := below_next BB BB.size b rfl rfl rfl rfl
  have G := mv b rfl <| And.intro a10 <| And.intro a11 <| And.intro a12 <| And.intro a20 <| And.intro a21 <| And.intro a22 <| And.intro hT <| And.intro N1 <| N2
  clear b a10 a11 a12 a20 a21 a22 hT N1 N2
  obtain ⟨a10, a11, a12, a20, a21, a22, hT, N1, N2⟩ := G
  rcases cmpV_cases (vz KK s1 m1 e1) (vz KK s2 m2 e2) with ⟨hz, hv⟩ | ⟨hz, hv⟩ | ⟨hz, hv⟩
  · rw [hz]
    have hne : ¬ (s1 = s2 ∧ m1 = m2 ∧ e1 = e2) := by rintro ⟨rfl, rfl, rfl⟩; omega
    have HZ2 : Hid (cmpV (vz KK s2 m2 e2) (vz KK s1 m1 e1) = 1) := Lib.hid (by rw [cmpV_swap, hz]; try rfl)
    have HZ := Lib.hid hz
    clear hz hv
    have HNE := Lib.hid hne
    clear hne
    go_wp2_with fail
    refine wp_region_held_drew (S := fun w' => w'.cell? ⟨w.heap.size, 0, none⟩ = some (.bool s1) ∧ w'.cell? ⟨w.heap.size, 1, none⟩ = some (.slice A1 n1 c1) ∧ w'.cell? ⟨w.heap.size, 2, none⟩ = some (.int .i64 e1) ∧ w'.cell? ⟨(w.heap.size + 1), 0, none⟩ = some (.bool s2) ∧ w'.cell? ⟨(w.heap.size + 1), 1, none⟩ = some (.slice A2 n2 c2) ∧ w'.cell? ⟨(w.heap.size + 1), 2, none⟩ = some (.int .i64 e2)) (by kernel_rfl) (by first | (dsimp only; go_keep) | go_keep) (fun hHeldm0 => ?_)
    refine wpAnyH_take (i := 0) (v := ?mv0) rfl (by kernel_rfl) (by kernel_rfl) (by kernel_rfl) (fun _ _ _ h => panic_put (P := Tryd.prog) (fn := Tryd.f6) (R := fun en w' => ToldEnd w en w') h) (Or.inl ⟨by rfl, ?my0⟩) (by assumption) ?_
    case my0 => (intro w hSw; (try dsimp only at hSw); go_simp); try with_reducible rfl
    change wpAnyH _ _ _ _ _ _ _ (Act.put _ (some 36) _) _
    simp only [Act.put, List.setIfInBounds_toArray, List.set_cons_zero, List.set_cons_succ]
    refine wpAnyH_take (i := 1) (v := ?mv1) rfl (by kernel_rfl) (by kernel_rfl) (by kernel_rfl) (fun _ _ _ h => panic_put (P := Tryd.prog) (fn := Tryd.f6) (R := fun en w' => ToldEnd w en w') h) (Or.inl ⟨by rfl, ?my1⟩) (by assumption) ?_
    case my1 => (intro w hSw; (try dsimp only at hSw); go_simp); try with_reducible rfl
    change wpAnyH _ _ _ _ _ _ _ (Act.put _ (some 37) _) _
    simp only [Act.put, List.setIfInBounds_toArray, List.set_cons_zero, List.set_cons_succ]
    refine wpAnyH_take (i := 3) (v := ?mv3) rfl (by kernel_rfl) (by kernel_rfl) (by kernel_rfl) (fun _ _ _ h => panic_put (P := Tryd.prog) (fn := Tryd.f6) (R := fun en w' => ToldEnd w en w') h) (Or.inl ⟨by rfl, ?my3⟩) (by assumption) ?_
    case my3 => (intro w hSw; (try dsimp only at hSw); go_simp); try with_reducible rfl
    change wpAnyH _ _ _ _ _ _ _ (Act.put _ (some 39) _) _
    simp only [Act.put, List.setIfInBounds_toArray, List.set_cons_zero, List.set_cons_succ]
    refine wpAnyH_take (i := 4) (v := ?mv4) rfl (by kernel_rfl) (by kernel_rfl) (by kernel_rfl) (fun _ _ _ h => panic_put (P := Tryd.prog) (fn := Tryd.f6) (R := fun en w' => ToldEnd w en w') h) (Or.inl ⟨by rfl, ?my4⟩) (by assumption) ?_
    case my4 => (intro w hSw; (try dsimp only at hSw); go_simp); try with_reducible rfl
    change wpAnyH _ _ _ _ _ _ _ (Act.put _ (some 40) _) _
    simp only [Act.put, List.setIfInBounds_toArray, List.set_cons_zero, List.set_cons_succ]
    refine wpAnyH_ready (rs := [2]) (by kernel_rfl) (by simp) ?_
    refine AllReadyH.cons (o := _) rfl (fun K hK => ?_) AllReadyH.nil
    go_simp
    refine (dcmp_is hKK (hT.heap (by rfl)) (N2.heap (by rfl)) (N1.heap (by rfl)) O2.out O1.out HZ2.out).mono ?_
    rintro en w' ⟨rfl, b⟩
    replace BB := below_next BB BB.size b (by rfl) (by rfl) (by rfl) (by rfl)
    have G := mv b (by rfl) <| And.intro a10 <| And.intro a11 <| And.intro a12 <| And.intro a20 <| And.intro a21 <| And.intro a22 <| And.intro hT <| And.intro N1 <| N2
    clear b a10 a11 a12 a20 a21 a22 hT N1 N2
    obtain ⟨a10, a11, a12, a20, a21, a22, hT, N1, N2⟩ := G
    refine hK.out _ _ (by first | (dsimp only; go_keep) | go_keep) (fun hHeldm1 => ?_)
    clear hK K hHeldm0
    try simp only [Act.put]
    refine wpAnyH_take (i := 5) (v := ?mv5) rfl (by kernel_rfl) (by kernel_rfl) (by kernel_rfl) (fun _ _ _ h => panic_put (P := Tryd.prog) (fn := Tryd.f6) (R := fun en w' => ToldEnd w en w') h) (Or.inl ⟨by rfl, ?my5⟩) (by assumption) ?_
    case my5 => (intro w hSw; (try dsimp only at hSw); go_simp); try with_reducible rfl
    change wpAnyH _ _ _ _ _ _ _ (Act.put _ (some 41) _) _
    simp only [Act.put, List.setIfInBounds_toArray, List.set_cons_zero, List.set_cons_succ]
    refine wpAnyH_take (i := 6) (v := ?mv6) rfl (by kernel_rfl) (by kernel_rfl) (by kernel_rfl) (fun _ _ _ h => panic_put (P := Tryd.prog) (fn := Tryd.f6) (R := fun en w' => ToldEnd w en w') h) (Or.inl ⟨by rfl, ?my6⟩) (by assumption) ?_
    case my6 => (intro w hSw; (try dsimp only at hSw); go_simp); try with_reducible rfl
    change wpAnyH _ _ _ _ _ _ _ (Act.put _ (some 42) _) _
    simp only [Act.put, List.setIfInBounds_toArray, List.set_cons_zero, List.set_cons_succ]
    refine wpAnyH_take (i := 7) (v := ?mv7) rfl (by kernel_rfl) (by kernel_rfl) (by kernel_rfl) (fun _ _ _ h => panic_put (P := Tryd.prog) (fn := Tryd.f6) (R := fun en w' => ToldEnd w en w') h) (Or.inl ⟨by rfl, ?my7⟩) (by assumption) ?_
    case my7 => (intro w hSw; (try dsimp only at hSw); go_simp); try with_reducible rfl
    change wpAnyH _ _ _ _ _ _ _ (Act.put _ (some 43) _) _
    simp only [Act.put, List.setIfInBounds_toArray, List.set_cons_zero, List.set_cons_succ]
    refine wpAnyH_take (i := 8) (v := ?mv8) rfl (by kernel_rfl) (by kernel_rfl) (by kernel_rfl) (fun _ _ _ h => panic_put (P := Tryd.prog) (fn := Tryd.f6) (R := fun en w' => ToldEnd w en w') h) (Or.inl ⟨by rfl, ?my8⟩) (by assumption) ?_
    case my8 => (intro w hSw; (try dsimp only at hSw); go_simp); try with_reducible rfl
    change wpAnyH _ _ _ _ _ _ _ (Act.put _ (some 44) _) _
    simp only [Act.put, List.setIfInBounds_toArray, List.set_cons_zero, List.set_cons_succ]
    refine wpAnyH_take (i := 9) (v := ?mv9) rfl (by kernel_rfl) (by kernel_rfl) (by kernel_rfl) (fun _ _ _ h => panic_put (P := Tryd.prog) (fn := Tryd.f6) (R := fun en w' => ToldEnd w en w') h) (Or.inl ⟨by rfl, ?my9⟩) (by assumption) ?_
    case my9 => (intro w hSw; (try dsimp only at hSw); go_simp); try with_reducible rfl
    change wpAnyH _ _ _ _ _ _ _ (Act.put _ (some 45) _) _
    simp only [Act.put, List.setIfInBounds_toArray, List.set_cons_zero, List.set_cons_succ]
    refine wpAnyH_take (i := 10) (v := ?mv10) rfl (by kernel_rfl) (by kernel_rfl) (by kernel_rfl) (fun _ _ _ h => panic_put (P := Tryd.prog) (fn := Tryd.f6) (R := fun en w' => ToldEnd w en w') h) (Or.inl ⟨by rfl, ?my10⟩) (by assumption) ?_
    case my10 => (intro w hSw; (try dsimp only at hSw); go_simp); try with_reducible rfl
    change wpAnyH _ _ _ _ _ _ _ (Act.put _ (some 46) _) _
    simp only [Act.put, List.setIfInBounds_toArray, List.set_cons_zero, List.set_cons_succ]
    refine wpAnyH_ready (rs := [11]) (by kernel_rfl) (by simp) ?_
    refine AllReadyH.cons (o := _) rfl (fun K hK => ?_) AllReadyH.nil
    go_simp
    refine (dsame_diff (N1.heap (by rfl)) (N2.heap (by rfl)) HNE.out).mono ?_
    rintro en w' ⟨rfl, b⟩
    replace BB := below_next BB BB.size b (by rfl) (by rfl) (by rfl) (by rfl)
    have G := mv b (by rfl) <| And.intro a10 <| And.intro a11 <| And.intro a12 <| And.intro a20 <| And.intro a21 <| And.intro a22 <| And.intro hT <| And.intro N1 <| N2
    clear b a10 a11 a12 a20 a21 a22 hT N1 N2
    obtain ⟨a10, a11, a12, a20, a21, a22, hT, N1, N2⟩ := G
    refine hK.out _ _ (by first | (dsimp only; go_keep) | go_keep) (fun hHeldm2 => ?_)
    clear hK K hHeldm1
    try simp only [Act.put]
    refine wpAnyH_take (i := 12) (v := ?mv12) rfl (by kernel_rfl) (by kernel_rfl) (by kernel_rfl) (fun _ _ _ h => panic_put (P := Tryd.prog) (fn := Tryd.f6) (R := fun en w' => ToldEnd w en w') h) (Or.inl ⟨by rfl, ?my12⟩) (by assumption) ?_
    case my12 => (intro w hSw; (try dsimp only at hSw); go_simp); try with_reducible rfl
    change wpAnyH _ _ _ _ _ _ _ (Act.put _ (some 48) _) _
    simp only [Act.put, List.setIfInBounds_toArray, List.set_cons_zero, List.set_cons_succ]
    refine wpAnyH_take (i := 13) (v := ?mv13) rfl (by kernel_rfl) (by kernel_rfl) (by kernel_rfl) (fun _ _ _ h => panic_put (P := Tryd.prog) (fn := Tryd.f6) (R := fun en w' => ToldEnd w en w') h) (Or.inl ⟨by rfl, ?my13⟩) (by assumption) ?_
    case my13 => (intro w hSw; (try dsimp only at hSw); go_simp); try with_reducible rfl
    change wpAnyH _ _ _ _ _ _ _ (Act.put _ (some 49) _) _
    simp only [Act.put, List.setIfInBounds_toArray, List.set_cons_zero, List.set_cons_succ]
    refine wpAnyH_take (i := 14) (v := ?mv14) rfl (by kernel_rfl) (by kernel_rfl) (by kernel_rfl) (fun _ _ _ h => panic_put (P := Tryd.prog) (fn := Tryd.f6) (R := fun en w' => ToldEnd w en w') h) (Or.inl ⟨by rfl, ?my14⟩) (by assumption) ?_
    case my14 => (intro w hSw; (try dsimp only at hSw); go_simp); try with_reducible rfl
    change wpAnyH _ _ _ _ _ _ _ (Act.put _ (some 50) _) _
    simp only [Act.put, List.setIfInBounds_toArray, List.set_cons_zero, List.set_cons_succ]
    refine wpAnyH_take (i := 15) (v := ?mv15) rfl (by kernel_rfl) (by kernel_rfl) (by kernel_rfl) (fun _ _ _ h => panic_put (P := Tryd.prog) (fn := Tryd.f6) (R := fun en w' => ToldEnd w en w') h) (Or.inl ⟨by rfl, ?my15⟩) (by assumption) ?_
    case my15 => (intro w hSw; (try dsimp only at hSw); go_simp); try with_reducible rfl
    change wpAnyH _ _ _ _ _ _ _ (Act.put _ (some 51) _) _
    simp only [Act.put, List.setIfInBounds_toArray, List.set_cons_zero, List.set_cons_succ]
    refine wpAnyH_take (i := 17) (v := ?mv17) rfl (by kernel_rfl) (by kernel_rfl) (by kernel_rfl) (fun _ _ _ h => panic_put (P := Tryd.prog) (fn := Tryd.f6) (R := fun en w' => ToldEnd w en w') h) (Or.inl ⟨by rfl, ?my17⟩) (by assumption) ?_
    case my17 => (intro w hSw; (try dsimp only at hSw); go_simp); try with_reducible rfl
    change wpAnyH _ _ _ _ _ _ _ (Act.put _ (some 53) _) _
    simp only [Act.put, List.setIfInBounds_toArray, List.set_cons_zero, List.set_cons_succ]
    refine wpAnyH_take (i := 20) (v := ?mv20) rfl (by kernel_rfl) (by kernel_rfl) (by kernel_rfl) (fun _ _ _ h => panic_put (P := Tryd.prog) (fn := Tryd.f6) (R := fun en w' => ToldEnd w en w') h) (Or.inl ⟨by rfl, ?my20⟩) (by assumption) ?_
    case my20 => (intro w hSw; (try dsimp only at hSw); go_simp); try with_reducible rfl
    change wpAnyH _ _ _ _ _ _ _ (Act.put _ (some 56) _) _
    simp only [Act.put, List.setIfInBounds_toArray, List.set_cons_zero, List.set_cons_succ]
    refine wpAnyH_ready (rs := [16]) (by kernel_rfl) (by simp) ?_
    refine AllReadyH.cons (o := _) rfl (fun K hK => ?_) AllReadyH.nil
    go_simp
    refine (dneg_is KK (hT.heap (by rfl)) (N2.heap (by rfl)) O2.out).mono ?_
    rintro en w' ⟨t3, A3, n3, c3, rfl, ho, N3, b⟩
    replace BB := below_next BB BB.size b (by rfl) (by rfl) (by rfl) (by rfl)
    have G := mv b (by rfl) <| And.intro a10 <| And.intro a11 <| And.intro a12 <| And.intro a20 <| And.intro a21 <| And.intro a22 <| And.intro hT <| And.intro N1 <| N2
    clear b a10 a11 a12 a20 a21 a22 hT N1 N2
    obtain ⟨a10, a11, a12, a20, a21, a22, hT, N1, N2⟩ := G
    have O3 := Lib.hid ho
    clear ho
    refine hK.out _ _ (by first | (dsimp only; go_keep) | go_keep) (fun hHeldm3 => ?_)
    clear hK K hHeldm2
    try simp only [Act.put]
    refine wpAnyH_ready (rs := [18]) (by kernel_rfl) (by simp) ?_
    refine AllReadyH.cons (o := _) rfl (fun K hK => ?_) AllReadyH.nil
    go_simp
    refine (dneg_is KK (hT.heap (by rfl)) (N1.heap (by rfl)) O1.out).mono ?_
    rintro en w' ⟨t4, A4, n4, c4, rfl, ho, N4, b⟩
    replace BB := below_next BB BB.size b (by rfl) (by rfl) (by rfl) (by rfl)
    have G := mv b (by rfl) <| And.intro a10 <| And.intro a11 <| And.intro a12 <| And.intro a20 <| And.intro a21 <| And.intro a22 <| And.intro hT <| And.intro N1 <| And.intro N2 <| N3
    clear b a10 a11 a12 a20 a21 a22 hT N1 N2 N3
    obtain ⟨a10, a11, a12, a20, a21, a22, hT, N1, N2, N3⟩ := G
    have O4 := Lib.hid ho
    clear ho
    refine hK.out _ _ (by first | (dsimp only; go_keep) | go_keep) (fun hHeldm4 => ?_)
    clear hK K hHeldm3
    try simp only [Act.put]
    refine wpAnyH_ready (rs := [19]) (by kernel_rfl) (by simp) ?_
    refine AllReadyH.cons (o := _) rfl (fun K hK => ?_) AllReadyH.nil
    go_simp
    refine (dcmp_is (z := -1) hKK (hT.heap (by rfl)) (N3.heap (by rfl)) (N4.heap (by rfl)) O3.out.1 O4.out.1 (by rw [O3.out.2, O4.out.2, cmpV_neg]; exact HZ.out)).mono ?_
    rintro en w' ⟨rfl, b⟩
    replace BB := below_next BB BB.size b (by rfl) (by rfl) (by rfl) (by rfl)
    have G := mv b (by rfl) <| And.intro a10 <| And.intro a11 <| And.intro a12 <| And.intro a20 <| And.intro a21 <| And.intro a22 <| And.intro hT <| And.intro N1 <| And.intro N2 <| And.intro N3 <| N4
    clear b a10 a11 a12 a20 a21 a22 hT N1 N2 N3 N4
    obtain ⟨a10, a11, a12, a20, a21, a22, hT, N1, N2, N3, N4⟩ := G
    refine hK.out _ _ (by first | (dsimp only; go_keep) | go_keep) (fun hHeldm5 => ?_)
    clear hK K hHeldm4
    try simp only [Act.put]
    refine wpAnyH_take (i := 21) (v := ?mv21) rfl (by kernel_rfl) (by kernel_rfl) (by kernel_rfl) (fun _ _ _ h => panic_put (P := Tryd.prog) (fn := Tryd.f6) (R := fun en w' => ToldEnd w en w') h) (Or.inl ⟨by rfl, ?my21⟩) (by assumption) ?_
    case my21 => (intro w hSw; (try dsimp only at hSw); go_simp); try with_reducible rfl
    change wpAnyH _ _ _ _ _ _ _ (Act.put _ (some 57) _) _
    simp only [Act.put, List.setIfInBounds_toArray, List.set_cons_zero, List.set_cons_succ]
    refine wpAnyH_take (i := 22) (v := ?mv22) rfl (by kernel_rfl) (by kernel_rfl) (by kernel_rfl) (fun _ _ _ h => panic_put (P := Tryd.prog) (fn := Tryd.f6) (R := fun en w' => ToldEnd w en w') h) (Or.inl ⟨by rfl, ?my22⟩) (by assumption) ?_
    case my22 => (intro w hSw; (try dsimp only at hSw); go_simp); try with_reducible rfl
    change wpAnyH _ _ _ _ _ _ _ (Act.put _ (some 58) _) _
    simp only [Act.put, List.setIfInBounds_toArray, List.set_cons_zero, List.set_cons_succ]
    refine wpAnyH_done (by kernel_rfl) ?_ _
    clear O3 O4
    clear N3 N4
    go_wp2_with fail
    refine (dsub_ok hKK hT N1 N2 O1.out O2.out).mono ?_
    rintro en v9 ⟨k9, s9, A9, n9, c9, m9, e9, rfl, hp, N9, b⟩
    have P9 := Lib.hid hp
    have O9 := Lib.hid (nmv_okd hp)
    clear hp
    replace BB := below_next BB BB.size b rfl rfl rfl rfl
    have G := mv b rfl <| And.intro a10 <| And.intro a11 <| And.intro a12 <| And.intro a20 <| And.intro a21 <| And.intro a22 <| And.intro hT <| And.intro N1 <| N2
    clear b a10 a11 a12 a20 a21 a22 hT N1 N2
    obtain ⟨a10, a11, a12, a20, a21, a22, hT, N1, N2⟩ := G
    obtain ⟨a90, a91, a92⟩ := (Box.new v9 s9 A9 n9 c9 e9).held
    have b := below_alloc v9 (.cells #[.bool s9, .slice A9 n9 c9, .int .i64 e9] 24)
    replace BB := below_next BB BB.size b rfl rfl rfl rfl
    have G := mv b rfl <| And.intro a10 <| And.intro a11 <| And.intro a12 <| And.intro a20 <| And.intro a21 <| And.intro a22 <| And.intro hT <| And.intro N1 <| And.intro N2 <| N9
    clear b a10 a11 a12 a20 a21 a22 hT N1 N2 N9
    obtain ⟨a10, a11, a12, a20, a21, a22, hT, N1, N2, N9⟩ := G
    by_cases z9 : k9 = 0
    · subst z9
      go_wp2_with fail
      refine (sign_is (z := -1) hT N9 O9.out ((sign_cmp (nmv_ok P9.out).2).trans HZ.out)).mono ?_
      rintro en w7 ⟨rfl, b⟩
      replace BB := below_next BB BB.size b rfl rfl rfl rfl
      have G := mv b rfl <| And.intro a10 <| And.intro a11 <| And.intro a12 <| And.intro a20 <| And.intro a21 <| And.intro a22 <| And.intro hT <| And.intro N1 <| And.intro N2 <| And.intro N9 <| And.intro a90 <| And.intro a91 <| a92
      clear b a10 a11 a12 a20 a21 a22 hT N1 N2 N9 a90 a91 a92
      obtain ⟨a10, a11, a12, a20, a21, a22, hT, N1, N2, N9, a90, a91, a92⟩ := G
      clear N9 a90 a91 a92
      go_wp2_with fail
      refine (dshift_ok (p := p) hT N1 O1.out).mono ?_
      rintro en v5 ⟨k5, s5, A5, n5, c5, m5, e5, rfl, hp, N5, b⟩
      have P5 := Lib.hid hp
      have O5 := Lib.hid (shifted_okd O1.out hp)
      clear hp
      replace BB := below_next BB BB.size b rfl rfl rfl rfl
      have G := mv b rfl <| And.intro a10 <| And.intro a11 <| And.intro a12 <| And.intro a20 <| And.intro a21 <| And.intro a22 <| And.intro hT <| And.intro N1 <| N2
      clear b a10 a11 a12 a20 a21 a22 hT N1 N2
      obtain ⟨a10, a11, a12, a20, a21, a22, hT, N1, N2⟩ := G
      obtain ⟨a50, a51, a52⟩ := (Box.new v5 s5 A5 n5 c5 e5).held
      have b := below_alloc v5 (.cells #[.bool s5, .slice A5 n5 c5, .int .i64 e5] 24)
      replace BB := below_next BB BB.size b rfl rfl rfl rfl
      have G := mv b rfl <| And.intro a10 <| And.intro a11 <| And.intro a12 <| And.intro a20 <| And.intro a21 <| And.intro a22 <| And.intro hT <| And.intro N1 <| And.intro N2 <| N5
      clear b a10 a11 a12 a20 a21 a22 hT N1 N2 N5
      obtain ⟨a10, a11, a12, a20, a21, a22, hT, N1, N2, N5⟩ := G
      go_wp2_with fail
      refine (dshift_ok (p := p) hT N2 O2.out).mono ?_
      rintro en v6 ⟨k6, s6, A6, n6, c6, m6, e6, rfl, hp, N6, b⟩
      have P6 := Lib.hid hp
      have O6 := Lib.hid (shifted_okd O2.out hp)
      clear hp
      replace BB := below_next BB BB.size b rfl rfl rfl rfl
      have G := mv b rfl <| And.intro a10 <| And.intro a11 <| And.intro a12 <| And.intro a20 <| And.intro a21 <| And.intro a22 <| And.intro hT <| And.intro N1 <| And.intro N2 <| And.intro N5 <| And.intro a50 <| And.intro a51 <| a52
      clear b a10 a11 a12 a20 a21 a22 hT N1 N2 N5 a50 a51 a52
      obtain ⟨a10, a11, a12, a20, a21, a22, hT, N1, N2, N5, a50, a51, a52⟩ := G
      obtain ⟨a60, a61, a62⟩ := (Box.new v6 s6 A6 n6 c6 e6).held
      have b := below_alloc v6 (.cells #[.bool s6, .slice A6 n6 c6, .int .i64 e6] 24)
      replace BB := below_next BB BB.size b rfl rfl rfl rfl
      have G := mv b rfl <| And.intro a10 <| And.intro a11 <| And.intro a12 <| And.intro a20 <| And.intro a21 <| And.intro a22 <| And.intro hT <| And.intro N1 <| And.intro N2 <| And.intro N5 <| And.intro a50 <| And.intro a51 <| And.intro a52 <| N6
      clear b a10 a11 a12 a20 a21 a22 hT N1 N2 N5 a50 a51 a52 N6
      obtain ⟨a10, a11, a12, a20, a21, a22, hT, N1, N2, N5, a50, a51, a52, N6⟩ := G
      go_wp2_with fail
      refine (dtold_any hT).mono ?_
      rintro en w10 ⟨rfl, b⟩
      replace BB := below_next BB BB.size b rfl rfl rfl rfl
      have G := mv b rfl <| And.intro a10 <| And.intro a11 <| And.intro a12 <| And.intro a20 <| And.intro a21 <| And.intro a22 <| And.intro hT <| And.intro N1 <| And.intro N2 <| And.intro N5 <| And.intro a50 <| And.intro a51 <| And.intro a52 <| And.intro N6 <| And.intro a60 <| And.intro a61 <| a62
      clear b a10 a11 a12 a20 a21 a22 hT N1 N2 N5 a50 a51 a52 N6 a60 a61 a62
      obtain ⟨a10, a11, a12, a20, a21, a22, hT, N1, N2, N5, a50, a51, a52, N6, a60, a61, a62⟩ := G
      by_cases z5 : k5 = 0
      rotate_left
      · have f5 : (k5 != 0) = true := by simp [z5]
        clear z5
        go_wp2
        go_ret
        exact ⟨by first | rfl | simp, BB⟩
      subst z5
      by_cases z6 : k6 = 0
      rotate_left
      · have f6 : (k6 != 0) = true := by simp [z6]
        clear z6
        go_wp2
        go_ret
        exact ⟨by first | rfl | simp, BB⟩
      subst z6
      go_wp2_with fail
      refine (dcmp_is (z := -1) hKK hT N5 N6 O5.out O6.out (shift_cmp hKK O1.out O2.out P5.out P6.out HZ.out)).mono ?_
      rintro en w11 ⟨rfl, b⟩
      replace BB := below_next BB BB.size b rfl rfl rfl rfl
      have G := mv b rfl <| And.intro a10 <| And.intro a11 <| And.intro a12 <| And.intro a20 <| And.intro a21 <| And.intro a22 <| And.intro hT <| And.intro N1 <| And.intro N2 <| And.intro N5 <| And.intro a50 <| And.intro a51 <| And.intro a52 <| And.intro N6 <| And.intro a60 <| And.intro a61 <| a62
      clear b a10 a11 a12 a20 a21 a22 hT N1 N2 N5 a50 a51 a52 N6 a60 a61 a62
      obtain ⟨a10, a11, a12, a20, a21, a22, hT, N1, N2, N5, a50, a51, a52, N6, a60, a61, a62⟩ := G
      go_wp2
      go_ret
      exact ⟨by first | rfl | simp, BB⟩
    · have f9 : (k9 == 0) = false := by simp [z9]
      clear z9
      clear N9 a90 a91 a92
      go_wp2_with fail
      refine (dshift_ok (p := p) hT N1 O1.out).mono ?_
      rintro en v5 ⟨k5, s5, A5, n5, c5, m5, e5, rfl, hp, N5, b⟩
      have P5 := Lib.hid hp
      have O5 := Lib.hid (shifted_okd O1.out hp)
      clear hp
      replace BB := below_next BB BB.size b rfl rfl rfl rfl
      have G := mv b rfl <| And.intro a10 <| And.intro a11 <| And.intro a12 <| And.intro a20 <| And.intro a21 <| And.intro a22 <| And.intro hT <| And.intro N1 <| N2
      clear b a10 a11 a12 a20 a21 a22 hT N1 N2
      obtain ⟨a10, a11, a12, a20, a21, a22, hT, N1, N2⟩ := G
      obtain ⟨a50, a51, a52⟩ := (Box.new v5 s5 A5 n5 c5 e5).held
      have b := below_alloc v5 (.cells #[.bool s5, .slice A5 n5 c5, .int .i64 e5] 24)
      replace BB := below_next BB BB.size b rfl rfl rfl rfl
      have G := mv b rfl <| And.intro a10 <| And.intro a11 <| And.intro a12 <| And.intro a20 <| And.intro a21 <| And.intro a22 <| And.intro hT <| And.intro N1 <| And.intro N2 <| N5
      clear b a10 a11 a12 a20 a21 a22 hT N1 N2 N5
      obtain ⟨a10, a11, a12, a20, a21, a22, hT, N1, N2, N5⟩ := G
      go_wp2_with fail
      refine (dshift_ok (p := p) hT N2 O2.out).mono ?_
      rintro en v6 ⟨k6, s6, A6, n6, c6, m6, e6, rfl, hp, N6, b⟩
      have P6 := Lib.hid hp
      have O6 := Lib.hid (shifted_okd O2.out hp)
      clear hp
      replace BB := below_next BB BB.size b rfl rfl rfl rfl
      have G := mv b rfl <| And.intro a10 <| And.intro a11 <| And.intro a12 <| And.intro a20 <| And.intro a21 <| And.intro a22 <| And.intro hT <| And.intro N1 <| And.intro N2 <| And.intro N5 <| And.intro a50 <| And.intro a51 <| a52
      clear b a10 a11 a12 a20 a21 a22 hT N1 N2 N5 a50 a51 a52
      obtain ⟨a10, a11, a12, a20, a21, a22, hT, N1, N2, N5, a50, a51, a52⟩ := G
      obtain ⟨a60, a61, a62⟩ := (Box.new v6 s6 A6 n6 c6 e6).held
      have b := below_alloc v6 (.cells #[.bool s6, .slice A6 n6 c6, .int .i64 e6] 24)
      replace BB := below_next BB BB.size b rfl rfl rfl rfl
      have G := mv b rfl <| And.intro a10 <| And.intro a11 <| And.intro a12 <| And.intro a20 <| And.intro a21 <| And.intro a22 <| And.intro hT <| And.intro N1 <| And.intro N2 <| And.intro N5 <| And.intro a50 <| And.intro a51 <| And.intro a52 <| N6
      clear b a10 a11 a12 a20 a21 a22 hT N1 N2 N5 a50 a51 a52 N6
      obtain ⟨a10, a11, a12, a20, a21, a22, hT, N1, N2, N5, a50, a51, a52, N6⟩ := G
      go_wp2_with fail
      refine (dtold_any hT).mono ?_
      rintro en w9 ⟨rfl, b⟩
      replace BB := below_next BB BB.size b rfl rfl rfl rfl
      have G := mv b rfl <| And.intro a10 <| And.intro a11 <| And.intro a12 <| And.intro a20 <| And.intro a21 <| And.intro a22 <| And.intro hT <| And.intro N1 <| And.intro N2 <| And.intro N5 <| And.intro a50 <| And.intro a51 <| And.intro a52 <| And.intro N6 <| And.intro a60 <| And.intro a61 <| a62
      clear b a10 a11 a12 a20 a21 a22 hT N1 N2 N5 a50 a51 a52 N6 a60 a61 a62
      obtain ⟨a10, a11, a12, a20, a21, a22, hT, N1, N2, N5, a50, a51, a52, N6, a60, a61, a62⟩ := G
      by_cases z5 : k5 = 0
      rotate_left
      · have f5 : (k5 != 0) = true := by simp [z5]
        clear z5
        go_wp2
        go_ret
        exact ⟨by first | rfl | simp, BB⟩
      subst z5
      by_cases z6 : k6 = 0
      rotate_left
      · have f6 : (k6 != 0) = true := by simp [z6]
        clear z6
        go_wp2
        go_ret
        exact ⟨by first | rfl | simp, BB⟩
      subst z6
      go_wp2_with fail
      refine (dcmp_is (z := -1) hKK hT N5 N6 O5.out O6.out (shift_cmp hKK O1.out O2.out P5.out P6.out HZ.out)).mono ?_
      rintro en w10 ⟨rfl, b⟩
      replace BB := below_next BB BB.size b rfl rfl rfl rfl
      have G := mv b rfl <| And.intro a10 <| And.intro a11 <| And.intro a12 <| And.intro a20 <| And.intro a21 <| And.intro a22 <| And.intro hT <| And.intro N1 <| And.intro N2 <| And.intro N5 <| And.intro a50 <| And.intro a51 <| And.intro a52 <| And.intro N6 <| And.intro a60 <| And.intro a61 <| a62
      clear b a10 a11 a12 a20 a21 a22 hT N1 N2 N5 a50 a51 a52 N6 a60 a61 a62
      obtain ⟨a10, a11, a12, a20, a21, a22, hT, N1, N2, N5, a50, a51, a52, N6, a60, a61, a62⟩ := G
      go_wp2
      go_ret
      exact ⟨by first | rfl | simp, BB⟩
  · rw [hz]
    obtain ⟨rfl, rfl, rfl⟩ := okd_one hKK O1.out O2.out hv
    have HZ2 : Hid (cmpV (vz KK s1 m1 e1) (vz KK s1 m1 e1) = 0) := Lib.hid (by rw [cmpV_swap, hz]; try rfl)
    have HZ := Lib.hid hz
    clear hz hv
    go_wp2_with fail
    refine wp_region_held_drew (S := fun w' => w'.cell? ⟨w.heap.size, 0, none⟩ = some (.bool s1) ∧ w'.cell? ⟨w.heap.size, 1, none⟩ = some (.slice A1 n1 c1) ∧ w'.cell? ⟨w.heap.size, 2, none⟩ = some (.int .i64 e1) ∧ w'.cell? ⟨(w.heap.size + 1), 0, none⟩ = some (.bool s1) ∧ w'.cell? ⟨(w.heap.size + 1), 1, none⟩ = some (.slice A2 n2 c2) ∧ w'.cell? ⟨(w.heap.size + 1), 2, none⟩ = some (.int .i64 e1)) (by kernel_rfl) (by first | (dsimp only; go_keep) | go_keep) (fun hHeldo0 => ?_)
    refine wpAnyH_take (i := 0) (v := ?ov0) rfl (by kernel_rfl) (by kernel_rfl) (by kernel_rfl) (fun _ _ _ h => panic_put (P := Tryd.prog) (fn := Tryd.f6) (R := fun en w' => ToldEnd w en w') h) (Or.inl ⟨by rfl, ?oy0⟩) (by assumption) ?_
    case oy0 => (intro w hSw; (try dsimp only at hSw); go_simp); try with_reducible rfl
    change wpAnyH _ _ _ _ _ _ _ (Act.put _ (some 36) _) _
    simp only [Act.put, List.setIfInBounds_toArray, List.set_cons_zero, List.set_cons_succ]
    refine wpAnyH_take (i := 1) (v := ?ov1) rfl (by kernel_rfl) (by kernel_rfl) (by kernel_rfl) (fun _ _ _ h => panic_put (P := Tryd.prog) (fn := Tryd.f6) (R := fun en w' => ToldEnd w en w') h) (Or.inl ⟨by rfl, ?oy1⟩) (by assumption) ?_
    case oy1 => (intro w hSw; (try dsimp only at hSw); go_simp); try with_reducible rfl
    change wpAnyH _ _ _ _ _ _ _ (Act.put _ (some 37) _) _
    simp only [Act.put, List.setIfInBounds_toArray, List.set_cons_zero, List.set_cons_succ]
    refine wpAnyH_take (i := 3) (v := ?ov3) rfl (by kernel_rfl) (by kernel_rfl) (by kernel_rfl) (fun _ _ _ h => panic_put (P := Tryd.prog) (fn := Tryd.f6) (R := fun en w' => ToldEnd w en w') h) (Or.inl ⟨by rfl, ?oy3⟩) (by assumption) ?_
    case oy3 => (intro w hSw; (try dsimp only at hSw); go_simp); try with_reducible rfl
    change wpAnyH _ _ _ _ _ _ _ (Act.put _ (some 39) _) _
    simp only [Act.put, List.setIfInBounds_toArray, List.set_cons_zero, List.set_cons_succ]
    refine wpAnyH_take (i := 4) (v := ?ov4) rfl (by kernel_rfl) (by kernel_rfl) (by kernel_rfl) (fun _ _ _ h => panic_put (P := Tryd.prog) (fn := Tryd.f6) (R := fun en w' => ToldEnd w en w') h) (Or.inl ⟨by rfl, ?oy4⟩) (by assumption) ?_
    case oy4 => (intro w hSw; (try dsimp only at hSw); go_simp); try with_reducible rfl
    change wpAnyH _ _ _ _ _ _ _ (Act.put _ (some 40) _) _
    simp only [Act.put, List.setIfInBounds_toArray, List.set_cons_zero, List.set_cons_succ]
    refine wpAnyH_ready (rs := [2]) (by kernel_rfl) (by simp) ?_
    refine AllReadyH.cons (o := _) rfl (fun K hK => ?_) AllReadyH.nil
    go_simp
    refine (dcmp_is hKK (hT.heap (by rfl)) (N2.heap (by rfl)) (N1.heap (by rfl)) O2.out O1.out HZ2.out).mono ?_
    rintro en w' ⟨rfl, b⟩
    replace BB := below_next BB BB.size b (by rfl) (by rfl) (by rfl) (by rfl)
    have G := mv b (by rfl) <| And.intro a10 <| And.intro a11 <| And.intro a12 <| And.intro a20 <| And.intro a21 <| And.intro a22 <| And.intro hT <| And.intro N1 <| N2
    clear b a10 a11 a12 a20 a21 a22 hT N1 N2
    obtain ⟨a10, a11, a12, a20, a21, a22, hT, N1, N2⟩ := G
    refine hK.out _ _ (by first | (dsimp only; go_keep) | go_keep) (fun hHeldo1 => ?_)
    clear hK K hHeldo0
    try simp only [Act.put]
    refine wpAnyH_take (i := 5) (v := ?ov5) rfl (by kernel_rfl) (by kernel_rfl) (by kernel_rfl) (fun _ _ _ h => panic_put (P := Tryd.prog) (fn := Tryd.f6) (R := fun en w' => ToldEnd w en w') h) (Or.inl ⟨by rfl, ?oy5⟩) (by assumption) ?_
    case oy5 => (intro w hSw; (try dsimp only at hSw); go_simp); try with_reducible rfl
    change wpAnyH _ _ _ _ _ _ _ (Act.put _ (some 41) _) _
    simp only [Act.put, List.setIfInBounds_toArray, List.set_cons_zero, List.set_cons_succ]
    refine wpAnyH_take (i := 6) (v := ?ov6) rfl (by kernel_rfl) (by kernel_rfl) (by kernel_rfl) (fun _ _ _ h => panic_put (P := Tryd.prog) (fn := Tryd.f6) (R := fun en w' => ToldEnd w en w') h) (Or.inl ⟨by rfl, ?oy6⟩) (by assumption) ?_
    case oy6 => (intro w hSw; (try dsimp only at hSw); go_simp); try with_reducible rfl
    change wpAnyH _ _ _ _ _ _ _ (Act.put _ (some 42) _) _
    simp only [Act.put, List.setIfInBounds_toArray, List.set_cons_zero, List.set_cons_succ]
    refine wpAnyH_take (i := 7) (v := ?ov7) rfl (by kernel_rfl) (by kernel_rfl) (by kernel_rfl) (fun _ _ _ h => panic_put (P := Tryd.prog) (fn := Tryd.f6) (R := fun en w' => ToldEnd w en w') h) (Or.inl ⟨by rfl, ?oy7⟩) (by assumption) ?_
    case oy7 => (intro w hSw; (try dsimp only at hSw); go_simp); try with_reducible rfl
    change wpAnyH _ _ _ _ _ _ _ (Act.put _ (some 43) _) _
    simp only [Act.put, List.setIfInBounds_toArray, List.set_cons_zero, List.set_cons_succ]
    refine wpAnyH_take (i := 8) (v := ?ov8) rfl (by kernel_rfl) (by kernel_rfl) (by kernel_rfl) (fun _ _ _ h => panic_put (P := Tryd.prog) (fn := Tryd.f6) (R := fun en w' => ToldEnd w en w') h) (Or.inl ⟨by rfl, ?oy8⟩) (by assumption) ?_
    case oy8 => (intro w hSw; (try dsimp only at hSw); go_simp); try with_reducible rfl
    change wpAnyH _ _ _ _ _ _ _ (Act.put _ (some 44) _) _
    simp only [Act.put, List.setIfInBounds_toArray, List.set_cons_zero, List.set_cons_succ]
    refine wpAnyH_take (i := 9) (v := ?ov9) rfl (by kernel_rfl) (by kernel_rfl) (by kernel_rfl) (fun _ _ _ h => panic_put (P := Tryd.prog) (fn := Tryd.f6) (R := fun en w' => ToldEnd w en w') h) (Or.inl ⟨by rfl, ?oy9⟩) (by assumption) ?_
    case oy9 => (intro w hSw; (try dsimp only at hSw); go_simp); try with_reducible rfl
    change wpAnyH _ _ _ _ _ _ _ (Act.put _ (some 45) _) _
    simp only [Act.put, List.setIfInBounds_toArray, List.set_cons_zero, List.set_cons_succ]
    refine wpAnyH_take (i := 10) (v := ?ov10) rfl (by kernel_rfl) (by kernel_rfl) (by kernel_rfl) (fun _ _ _ h => panic_put (P := Tryd.prog) (fn := Tryd.f6) (R := fun en w' => ToldEnd w en w') h) (Or.inl ⟨by rfl, ?oy10⟩) (by assumption) ?_
    case oy10 => (intro w hSw; (try dsimp only at hSw); go_simp); try with_reducible rfl
    change wpAnyH _ _ _ _ _ _ _ (Act.put _ (some 46) _) _
    simp only [Act.put, List.setIfInBounds_toArray, List.set_cons_zero, List.set_cons_succ]
    refine wpAnyH_ready (rs := [11]) (by kernel_rfl) (by simp) ?_
    refine AllReadyH.cons (o := _) rfl (fun K hK => ?_) AllReadyH.nil
    go_simp
    refine (dsame_self (s := s1) (e := e1) (N1.heap (by rfl)) (N2.heap (by rfl))).mono ?_
    rintro en w' ⟨rfl, b⟩
    replace BB := below_next BB BB.size b (by rfl) (by rfl) (by rfl) (by rfl)
    have G := mv b (by rfl) <| And.intro a10 <| And.intro a11 <| And.intro a12 <| And.intro a20 <| And.intro a21 <| And.intro a22 <| And.intro hT <| And.intro N1 <| N2
    clear b a10 a11 a12 a20 a21 a22 hT N1 N2
    obtain ⟨a10, a11, a12, a20, a21, a22, hT, N1, N2⟩ := G
    refine hK.out _ _ (by first | (dsimp only; go_keep) | go_keep) (fun hHeldo2 => ?_)
    clear hK K hHeldo1
    try simp only [Act.put]
    refine wpAnyH_take (i := 12) (v := ?ov12) rfl (by kernel_rfl) (by kernel_rfl) (by kernel_rfl) (fun _ _ _ h => panic_put (P := Tryd.prog) (fn := Tryd.f6) (R := fun en w' => ToldEnd w en w') h) (Or.inl ⟨by rfl, ?oy12⟩) (by assumption) ?_
    case oy12 => (intro w hSw; (try dsimp only at hSw); go_simp); try with_reducible rfl
    change wpAnyH _ _ _ _ _ _ _ (Act.put _ (some 48) _) _
    simp only [Act.put, List.setIfInBounds_toArray, List.set_cons_zero, List.set_cons_succ]
    refine wpAnyH_take (i := 13) (v := ?ov13) rfl (by kernel_rfl) (by kernel_rfl) (by kernel_rfl) (fun _ _ _ h => panic_put (P := Tryd.prog) (fn := Tryd.f6) (R := fun en w' => ToldEnd w en w') h) (Or.inl ⟨by rfl, ?oy13⟩) (by assumption) ?_
    case oy13 => (intro w hSw; (try dsimp only at hSw); go_simp); try with_reducible rfl
    change wpAnyH _ _ _ _ _ _ _ (Act.put _ (some 49) _) _
    simp only [Act.put, List.setIfInBounds_toArray, List.set_cons_zero, List.set_cons_succ]
    refine wpAnyH_take (i := 14) (v := ?ov14) rfl (by kernel_rfl) (by kernel_rfl) (by kernel_rfl) (fun _ _ _ h => panic_put (P := Tryd.prog) (fn := Tryd.f6) (R := fun en w' => ToldEnd w en w') h) (Or.inl ⟨by rfl, ?oy14⟩) (by assumption) ?_
    case oy14 => (intro w hSw; (try dsimp only at hSw); go_simp); try with_reducible rfl
    change wpAnyH _ _ _ _ _ _ _ (Act.put _ (some 50) _) _
    simp only [Act.put, List.setIfInBounds_toArray, List.set_cons_zero, List.set_cons_succ]
    refine wpAnyH_take (i := 15) (v := ?ov15) rfl (by kernel_rfl) (by kernel_rfl) (by kernel_rfl) (fun _ _ _ h => panic_put (P := Tryd.prog) (fn := Tryd.f6) (R := fun en w' => ToldEnd w en w') h) (Or.inl ⟨by rfl, ?oy15⟩) (by assumption) ?_
    case oy15 => (intro w hSw; (try dsimp only at hSw); go_simp); try with_reducible rfl
    change wpAnyH _ _ _ _ _ _ _ (Act.put _ (some 51) _) _
    simp only [Act.put, List.setIfInBounds_toArray, List.set_cons_zero, List.set_cons_succ]
    refine wpAnyH_take (i := 17) (v := ?ov17) rfl (by kernel_rfl) (by kernel_rfl) (by kernel_rfl) (fun _ _ _ h => panic_put (P := Tryd.prog) (fn := Tryd.f6) (R := fun en w' => ToldEnd w en w') h) (Or.inl ⟨by rfl, ?oy17⟩) (by assumption) ?_
    case oy17 => (intro w hSw; (try dsimp only at hSw); go_simp); try with_reducible rfl
    change wpAnyH _ _ _ _ _ _ _ (Act.put _ (some 53) _) _
    simp only [Act.put, List.setIfInBounds_toArray, List.set_cons_zero, List.set_cons_succ]
    refine wpAnyH_take (i := 20) (v := ?ov20) rfl (by kernel_rfl) (by kernel_rfl) (by kernel_rfl) (fun _ _ _ h => panic_put (P := Tryd.prog) (fn := Tryd.f6) (R := fun en w' => ToldEnd w en w') h) (Or.inl ⟨by rfl, ?oy20⟩) (by assumption) ?_
    case oy20 => (intro w hSw; (try dsimp only at hSw); go_simp); try with_reducible rfl
    change wpAnyH _ _ _ _ _ _ _ (Act.put _ (some 56) _) _
    simp only [Act.put, List.setIfInBounds_toArray, List.set_cons_zero, List.set_cons_succ]
    refine wpAnyH_ready (rs := [16]) (by kernel_rfl) (by simp) ?_
    refine AllReadyH.cons (o := _) rfl (fun K hK => ?_) AllReadyH.nil
    go_simp
    refine (dneg_is KK (hT.heap (by rfl)) (N2.heap (by rfl)) O2.out).mono ?_
    rintro en w' ⟨t3, A3, n3, c3, rfl, ho, N3, b⟩
    replace BB := below_next BB BB.size b (by rfl) (by rfl) (by rfl) (by rfl)
    have G := mv b (by rfl) <| And.intro a10 <| And.intro a11 <| And.intro a12 <| And.intro a20 <| And.intro a21 <| And.intro a22 <| And.intro hT <| And.intro N1 <| N2
    clear b a10 a11 a12 a20 a21 a22 hT N1 N2
    obtain ⟨a10, a11, a12, a20, a21, a22, hT, N1, N2⟩ := G
    have O3 := Lib.hid ho
    clear ho
    refine hK.out _ _ (by first | (dsimp only; go_keep) | go_keep) (fun hHeldo3 => ?_)
    clear hK K hHeldo2
    try simp only [Act.put]
    refine wpAnyH_ready (rs := [18]) (by kernel_rfl) (by simp) ?_
    refine AllReadyH.cons (o := _) rfl (fun K hK => ?_) AllReadyH.nil
    go_simp
    refine (dneg_is KK (hT.heap (by rfl)) (N1.heap (by rfl)) O1.out).mono ?_
    rintro en w' ⟨t4, A4, n4, c4, rfl, ho, N4, b⟩
    replace BB := below_next BB BB.size b (by rfl) (by rfl) (by rfl) (by rfl)
    have G := mv b (by rfl) <| And.intro a10 <| And.intro a11 <| And.intro a12 <| And.intro a20 <| And.intro a21 <| And.intro a22 <| And.intro hT <| And.intro N1 <| And.intro N2 <| N3
    clear b a10 a11 a12 a20 a21 a22 hT N1 N2 N3
    obtain ⟨a10, a11, a12, a20, a21, a22, hT, N1, N2, N3⟩ := G
    have O4 := Lib.hid ho
    clear ho
    refine hK.out _ _ (by first | (dsimp only; go_keep) | go_keep) (fun hHeldo4 => ?_)
    clear hK K hHeldo3
    try simp only [Act.put]
    refine wpAnyH_ready (rs := [19]) (by kernel_rfl) (by simp) ?_
    refine AllReadyH.cons (o := _) rfl (fun K hK => ?_) AllReadyH.nil
    go_simp
    refine (dcmp_is (z := 0) hKK (hT.heap (by rfl)) (N3.heap (by rfl)) (N4.heap (by rfl)) O3.out.1 O4.out.1 (by rw [O3.out.2, O4.out.2, cmpV_neg]; exact HZ.out)).mono ?_
    rintro en w' ⟨rfl, b⟩
    replace BB := below_next BB BB.size b (by rfl) (by rfl) (by rfl) (by rfl)
    have G := mv b (by rfl) <| And.intro a10 <| And.intro a11 <| And.intro a12 <| And.intro a20 <| And.intro a21 <| And.intro a22 <| And.intro hT <| And.intro N1 <| And.intro N2 <| And.intro N3 <| N4
    clear b a10 a11 a12 a20 a21 a22 hT N1 N2 N3 N4
    obtain ⟨a10, a11, a12, a20, a21, a22, hT, N1, N2, N3, N4⟩ := G
    refine hK.out _ _ (by first | (dsimp only; go_keep) | go_keep) (fun hHeldo5 => ?_)
    clear hK K hHeldo4
    try simp only [Act.put]
    refine wpAnyH_take (i := 21) (v := ?ov21) rfl (by kernel_rfl) (by kernel_rfl) (by kernel_rfl) (fun _ _ _ h => panic_put (P := Tryd.prog) (fn := Tryd.f6) (R := fun en w' => ToldEnd w en w') h) (Or.inl ⟨by rfl, ?oy21⟩) (by assumption) ?_
    case oy21 => (intro w hSw; (try dsimp only at hSw); go_simp); try with_reducible rfl
    change wpAnyH _ _ _ _ _ _ _ (Act.put _ (some 57) _) _
    simp only [Act.put, List.setIfInBounds_toArray, List.set_cons_zero, List.set_cons_succ]
    refine wpAnyH_take (i := 22) (v := ?ov22) rfl (by kernel_rfl) (by kernel_rfl) (by kernel_rfl) (fun _ _ _ h => panic_put (P := Tryd.prog) (fn := Tryd.f6) (R := fun en w' => ToldEnd w en w') h) (Or.inl ⟨by rfl, ?oy22⟩) (by assumption) ?_
    case oy22 => (intro w hSw; (try dsimp only at hSw); go_simp); try with_reducible rfl
    change wpAnyH _ _ _ _ _ _ _ (Act.put _ (some 58) _) _
    simp only [Act.put, List.setIfInBounds_toArray, List.set_cons_zero, List.set_cons_succ]
    refine wpAnyH_done (by kernel_rfl) ?_ _
    clear O3 O4
    clear N3 N4
    go_wp2_with fail
    refine (dsub_ok hKK hT N1 N2 O1.out O2.out).mono ?_
    rintro en v9 ⟨k9, s9, A9, n9, c9, m9, e9, rfl, hp, N9, b⟩
    have P9 := Lib.hid hp
    have O9 := Lib.hid (nmv_okd hp)
    clear hp
    replace BB := below_next BB BB.size b rfl rfl rfl rfl
    have G := mv b rfl <| And.intro a10 <| And.intro a11 <| And.intro a12 <| And.intro a20 <| And.intro a21 <| And.intro a22 <| And.intro hT <| And.intro N1 <| N2
    clear b a10 a11 a12 a20 a21 a22 hT N1 N2
    obtain ⟨a10, a11, a12, a20, a21, a22, hT, N1, N2⟩ := G
    obtain ⟨a90, a91, a92⟩ := (Box.new v9 s9 A9 n9 c9 e9).held
    have b := below_alloc v9 (.cells #[.bool s9, .slice A9 n9 c9, .int .i64 e9] 24)
    replace BB := below_next BB BB.size b rfl rfl rfl rfl
    have G := mv b rfl <| And.intro a10 <| And.intro a11 <| And.intro a12 <| And.intro a20 <| And.intro a21 <| And.intro a22 <| And.intro hT <| And.intro N1 <| And.intro N2 <| N9
    clear b a10 a11 a12 a20 a21 a22 hT N1 N2 N9
    obtain ⟨a10, a11, a12, a20, a21, a22, hT, N1, N2, N9⟩ := G
    by_cases z9 : k9 = 0
    · subst z9
      go_wp2_with fail
      refine (sign_is (z := 0) hT N9 O9.out ((sign_cmp (nmv_ok P9.out).2).trans HZ.out)).mono ?_
      rintro en w7 ⟨rfl, b⟩
      replace BB := below_next BB BB.size b rfl rfl rfl rfl
      have G := mv b rfl <| And.intro a10 <| And.intro a11 <| And.intro a12 <| And.intro a20 <| And.intro a21 <| And.intro a22 <| And.intro hT <| And.intro N1 <| And.intro N2 <| And.intro N9 <| And.intro a90 <| And.intro a91 <| a92
      clear b a10 a11 a12 a20 a21 a22 hT N1 N2 N9 a90 a91 a92
      obtain ⟨a10, a11, a12, a20, a21, a22, hT, N1, N2, N9, a90, a91, a92⟩ := G
      clear N9 a90 a91 a92
      go_wp2_with fail
      refine (dshift_ok (p := p) hT N1 O1.out).mono ?_
      rintro en v5 ⟨k5, s5, A5, n5, c5, m5, e5, rfl, hp, N5, b⟩
      have P5 := Lib.hid hp
      have O5 := Lib.hid (shifted_okd O1.out hp)
      clear hp
      replace BB := below_next BB BB.size b rfl rfl rfl rfl
      have G := mv b rfl <| And.intro a10 <| And.intro a11 <| And.intro a12 <| And.intro a20 <| And.intro a21 <| And.intro a22 <| And.intro hT <| And.intro N1 <| N2
      clear b a10 a11 a12 a20 a21 a22 hT N1 N2
      obtain ⟨a10, a11, a12, a20, a21, a22, hT, N1, N2⟩ := G
      obtain ⟨a50, a51, a52⟩ := (Box.new v5 s5 A5 n5 c5 e5).held
      have b := below_alloc v5 (.cells #[.bool s5, .slice A5 n5 c5, .int .i64 e5] 24)
      replace BB := below_next BB BB.size b rfl rfl rfl rfl
      have G := mv b rfl <| And.intro a10 <| And.intro a11 <| And.intro a12 <| And.intro a20 <| And.intro a21 <| And.intro a22 <| And.intro hT <| And.intro N1 <| And.intro N2 <| N5
      clear b a10 a11 a12 a20 a21 a22 hT N1 N2 N5
      obtain ⟨a10, a11, a12, a20, a21, a22, hT, N1, N2, N5⟩ := G
      go_wp2_with fail
      refine (dshift_ok (p := p) hT N2 O2.out).mono ?_
      rintro en v6 ⟨k6, s6, A6, n6, c6, m6, e6, rfl, hp, N6, b⟩
      have P6 := Lib.hid hp
      have O6 := Lib.hid (shifted_okd O2.out hp)
      clear hp
      replace BB := below_next BB BB.size b rfl rfl rfl rfl
      have G := mv b rfl <| And.intro a10 <| And.intro a11 <| And.intro a12 <| And.intro a20 <| And.intro a21 <| And.intro a22 <| And.intro hT <| And.intro N1 <| And.intro N2 <| And.intro N5 <| And.intro a50 <| And.intro a51 <| a52
      clear b a10 a11 a12 a20 a21 a22 hT N1 N2 N5 a50 a51 a52
      obtain ⟨a10, a11, a12, a20, a21, a22, hT, N1, N2, N5, a50, a51, a52⟩ := G
      obtain ⟨a60, a61, a62⟩ := (Box.new v6 s6 A6 n6 c6 e6).held
      have b := below_alloc v6 (.cells #[.bool s6, .slice A6 n6 c6, .int .i64 e6] 24)
      replace BB := below_next BB BB.size b rfl rfl rfl rfl
      have G := mv b rfl <| And.intro a10 <| And.intro a11 <| And.intro a12 <| And.intro a20 <| And.intro a21 <| And.intro a22 <| And.intro hT <| And.intro N1 <| And.intro N2 <| And.intro N5 <| And.intro a50 <| And.intro a51 <| And.intro a52 <| N6
      clear b a10 a11 a12 a20 a21 a22 hT N1 N2 N5 a50 a51 a52 N6
      obtain ⟨a10, a11, a12, a20, a21, a22, hT, N1, N2, N5, a50, a51, a52, N6⟩ := G
      go_wp2_with fail
      refine (dtold_any hT).mono ?_
      rintro en w10 ⟨rfl, b⟩
      replace BB := below_next BB BB.size b rfl rfl rfl rfl
      have G := mv b rfl <| And.intro a10 <| And.intro a11 <| And.intro a12 <| And.intro a20 <| And.intro a21 <| And.intro a22 <| And.intro hT <| And.intro N1 <| And.intro N2 <| And.intro N5 <| And.intro a50 <| And.intro a51 <| And.intro a52 <| And.intro N6 <| And.intro a60 <| And.intro a61 <| a62
      clear b a10 a11 a12 a20 a21 a22 hT N1 N2 N5 a50 a51 a52 N6 a60 a61 a62
      obtain ⟨a10, a11, a12, a20, a21, a22, hT, N1, N2, N5, a50, a51, a52, N6, a60, a61, a62⟩ := G
      by_cases z5 : k5 = 0
      rotate_left
      · have f5 : (k5 != 0) = true := by simp [z5]
        clear z5
        go_wp2
        go_ret
        exact ⟨by first | rfl | simp, BB⟩
      subst z5
      by_cases z6 : k6 = 0
      rotate_left
      · have f6 : (k6 != 0) = true := by simp [z6]
        clear z6
        go_wp2
        go_ret
        exact ⟨by first | rfl | simp, BB⟩
      subst z6
      go_wp2_with fail
      refine (dcmp_is (z := 0) hKK hT N5 N6 O5.out O6.out (shift_cmp hKK O1.out O2.out P5.out P6.out HZ.out)).mono ?_
      rintro en w11 ⟨rfl, b⟩
      replace BB := below_next BB BB.size b rfl rfl rfl rfl
      have G := mv b rfl <| And.intro a10 <| And.intro a11 <| And.intro a12 <| And.intro a20 <| And.intro a21 <| And.intro a22 <| And.intro hT <| And.intro N1 <| And.intro N2 <| And.intro N5 <| And.intro a50 <| And.intro a51 <| And.intro a52 <| And.intro N6 <| And.intro a60 <| And.intro a61 <| a62
      clear b a10 a11 a12 a20 a21 a22 hT N1 N2 N5 a50 a51 a52 N6 a60 a61 a62
      obtain ⟨a10, a11, a12, a20, a21, a22, hT, N1, N2, N5, a50, a51, a52, N6, a60, a61, a62⟩ := G
      go_wp2
      go_ret
      exact ⟨by first | rfl | simp, BB⟩
    · have f9 : (k9 == 0) = false := by simp [z9]
      clear z9
      clear N9 a90 a91 a92
      go_wp2_with fail
      refine (dshift_ok (p := p) hT N1 O1.out).mono ?_
      rintro en v5 ⟨k5, s5, A5, n5, c5, m5, e5, rfl, hp, N5, b⟩
      have P5 := Lib.hid hp
      have O5 := Lib.hid (shifted_okd O1.out hp)
      clear hp
      replace BB := below_next BB BB.size b rfl rfl rfl rfl
      have G := mv b rfl <| And.intro a10 <| And.intro a11 <| And.intro a12 <| And.intro a20 <| And.intro a21 <| And.intro a22 <| And.intro hT <| And.intro N1 <| N2
      clear b a10 a11 a12 a20 a21 a22 hT N1 N2
      obtain ⟨a10, a11, a12, a20, a21, a22, hT, N1, N2⟩ := G
      obtain ⟨a50, a51, a52⟩ := (Box.new v5 s5 A5 n5 c5 e5).held
      have b := below_alloc v5 (.cells #[.bool s5, .slice A5 n5 c5, .int .i64 e5] 24)
      replace BB := below_next BB BB.size b rfl rfl rfl rfl
      have G := mv b rfl <| And.intro a10 <| And.intro a11 <| And.intro a12 <| And.intro a20 <| And.intro a21 <| And.intro a22 <| And.intro hT <| And.intro N1 <| And.intro N2 <| N5
      clear b a10 a11 a12 a20 a21 a22 hT N1 N2 N5
      obtain ⟨a10, a11, a12, a20, a21, a22, hT, N1, N2, N5⟩ := G
      go_wp2_with fail
      refine (dshift_ok (p := p) hT N2 O2.out).mono ?_
      rintro en v6 ⟨k6, s6, A6, n6, c6, m6, e6, rfl, hp, N6, b⟩
      have P6 := Lib.hid hp
      have O6 := Lib.hid (shifted_okd O2.out hp)
      clear hp
      replace BB := below_next BB BB.size b rfl rfl rfl rfl
      have G := mv b rfl <| And.intro a10 <| And.intro a11 <| And.intro a12 <| And.intro a20 <| And.intro a21 <| And.intro a22 <| And.intro hT <| And.intro N1 <| And.intro N2 <| And.intro N5 <| And.intro a50 <| And.intro a51 <| a52
      clear b a10 a11 a12 a20 a21 a22 hT N1 N2 N5 a50 a51 a52
      obtain ⟨a10, a11, a12, a20, a21, a22, hT, N1, N2, N5, a50, a51, a52⟩ := G
      obtain ⟨a60, a61, a62⟩ := (Box.new v6 s6 A6 n6 c6 e6).held
      have b := below_alloc v6 (.cells #[.bool s6, .slice A6 n6 c6, .int .i64 e6] 24)
      replace BB := below_next BB BB.size b rfl rfl rfl rfl
      have G := mv b rfl <| And.intro a10 <| And.intro a11 <| And.intro a12 <| And.intro a20 <| And.intro a21 <| And.intro a22 <| And.intro hT <| And.intro N1 <| And.intro N2 <| And.intro N5 <| And.intro a50 <| And.intro a51 <| And.intro a52 <| N6
      clear b a10 a11 a12 a20 a21 a22 hT N1 N2 N5 a50 a51 a52 N6
      obtain ⟨a10, a11, a12, a20, a21, a22, hT, N1, N2, N5, a50, a51, a52, N6⟩ := G
      go_wp2_with fail
      refine (dtold_any hT).mono ?_
      rintro en w9 ⟨rfl, b⟩
      replace BB := below_next BB BB.size b rfl rfl rfl rfl
      have G := mv b rfl <| And.intro a10 <| And.intro a11 <| And.intro a12 <| And.intro a20 <| And.intro a21 <| And.intro a22 <| And.intro hT <| And.intro N1 <| And.intro N2 <| And.intro N5 <| And.intro a50 <| And.intro a51 <| And.intro a52 <| And.intro N6 <| And.intro a60 <| And.intro a61 <| a62
      clear b a10 a11 a12 a20 a21 a22 hT N1 N2 N5 a50 a51 a52 N6 a60 a61 a62
      obtain ⟨a10, a11, a12, a20, a21, a22, hT, N1, N2, N5, a50, a51, a52, N6, a60, a61, a62⟩ := G
      by_cases z5 : k5 = 0
      rotate_left
      · have f5 : (k5 != 0) = true := by simp [z5]
        clear z5
        go_wp2
        go_ret
        exact ⟨by first | rfl | simp, BB⟩
      subst z5
      by_cases z6 : k6 = 0
      rotate_left
      · have f6 : (k6 != 0) = true := by simp [z6]
        clear z6
        go_wp2
        go_ret
        exact ⟨by first | rfl | simp, BB⟩
      subst z6
      go_wp2_with fail
      refine (dcmp_is (z := 0) hKK hT N5 N6 O5.out O6.out (shift_cmp hKK O1.out O2.out P5.out P6.out HZ.out)).mono ?_
      rintro en w10 ⟨rfl, b⟩
      replace BB := below_next BB BB.size b rfl rfl rfl rfl
      have G := mv b rfl <| And.intro a10 <| And.intro a11 <| And.intro a12 <| And.intro a20 <| And.intro a21 <| And.intro a22 <| And.intro hT <| And.intro N1 <| And.intro N2 <| And.intro N5 <| And.intro a50 <| And.intro a51 <| And.intro a52 <| And.intro N6 <| And.intro a60 <| And.intro a61 <| a62
      clear b a10 a11 a12 a20 a21 a22 hT N1 N2 N5 a50 a51 a52 N6 a60 a61 a62
      obtain ⟨a10, a11, a12, a20, a21, a22, hT, N1, N2, N5, a50, a51, a52, N6, a60, a61, a62⟩ := G
      go_wp2
      go_ret
      exact ⟨by first | rfl | simp, BB⟩
  · rw [hz]
    have hne : ¬ (s1 = s2 ∧ m1 = m2 ∧ e1 = e2) := by rintro ⟨rfl, rfl, rfl⟩; omega
    have HZ2 : Hid (cmpV (vz KK s2 m2 e2) (vz KK s1 m1 e1) = -1) := Lib.hid (by rw [cmpV_swap, hz]; try rfl)
    have HZ := Lib.hid hz
    clear hz hv
    have HNE := Lib.hid hne
    clear hne
    go_wp2_with fail
    refine wp_region_held_drew (S := fun w' => w'.cell? ⟨w.heap.size, 0, none⟩ = some (.bool s1) ∧ w'.cell? ⟨w.heap.size, 1, none⟩ = some (.slice A1 n1 c1) ∧ w'.cell? ⟨w.heap.size, 2, none⟩ = some (.int .i64 e1) ∧ w'.cell? ⟨(w.heap.size + 1), 0, none⟩ = some (.bool s2) ∧ w'.cell? ⟨(w.heap.size + 1), 1, none⟩ = some (.slice A2 n2 c2) ∧ w'.cell? ⟨(w.heap.size + 1), 2, none⟩ = some (.int .i64 e2)) (by kernel_rfl) (by first | (dsimp only; go_keep) | go_keep) (fun hHeldp0 => ?_)
    refine wpAnyH_take (i := 0) (v := ?pv0) rfl (by kernel_rfl) (by kernel_rfl) (by kernel_rfl) (fun _ _ _ h => panic_put (P := Tryd.prog) (fn := Tryd.f6) (R := fun en w' => ToldEnd w en w') h) (Or.inl ⟨by rfl, ?py0⟩) (by assumption) ?_
    case py0 => (intro w hSw; (try dsimp only at hSw); go_simp); try with_reducible rfl
    change wpAnyH _ _ _ _ _ _ _ (Act.put _ (some 36) _) _
    simp only [Act.put, List.setIfInBounds_toArray, List.set_cons_zero, List.set_cons_succ]
    refine wpAnyH_take (i := 1) (v := ?pv1) rfl (by kernel_rfl) (by kernel_rfl) (by kernel_rfl) (fun _ _ _ h => panic_put (P := Tryd.prog) (fn := Tryd.f6) (R := fun en w' => ToldEnd w en w') h) (Or.inl ⟨by rfl, ?py1⟩) (by assumption) ?_
    case py1 => (intro w hSw; (try dsimp only at hSw); go_simp); try with_reducible rfl
    change wpAnyH _ _ _ _ _ _ _ (Act.put _ (some 37) _) _
    simp only [Act.put, List.setIfInBounds_toArray, List.set_cons_zero, List.set_cons_succ]
    refine wpAnyH_take (i := 3) (v := ?pv3) rfl (by kernel_rfl) (by kernel_rfl) (by kernel_rfl) (fun _ _ _ h => panic_put (P := Tryd.prog) (fn := Tryd.f6) (R := fun en w' => ToldEnd w en w') h) (Or.inl ⟨by rfl, ?py3⟩) (by assumption) ?_
    case py3 => (intro w hSw; (try dsimp only at hSw); go_simp); try with_reducible rfl
    change wpAnyH _ _ _ _ _ _ _ (Act.put _ (some 39) _) _
    simp only [Act.put, List.setIfInBounds_toArray, List.set_cons_zero, List.set_cons_succ]
    refine wpAnyH_take (i := 4) (v := ?pv4) rfl (by kernel_rfl) (by kernel_rfl) (by kernel_rfl) (fun _ _ _ h => panic_put (P := Tryd.prog) (fn := Tryd.f6) (R := fun en w' => ToldEnd w en w') h) (Or.inl ⟨by rfl, ?py4⟩) (by assumption) ?_
    case py4 => (intro w hSw; (try dsimp only at hSw); go_simp); try with_reducible rfl
    change wpAnyH _ _ _ _ _ _ _ (Act.put _ (some 40) _) _
    simp only [Act.put, List.setIfInBounds_toArray, List.set_cons_zero, List.set_cons_succ]
    refine wpAnyH_ready (rs := [2]) (by kernel_rfl) (by simp) ?_
    refine AllReadyH.cons (o := _) rfl (fun K hK => ?_) AllReadyH.nil
    go_simp
    refine (dcmp_is hKK (hT.heap (by rfl)) (N2.heap (by rfl)) (N1.heap (by rfl)) O2.out O1.out HZ2.out).mono ?_
    rintro en w' ⟨rfl, b⟩
    replace BB := below_next BB BB.size b (by rfl) (by rfl) (by rfl) (by rfl)
    have G := mv b (by rfl) <| And.intro a10 <| And.intro a11 <| And.intro a12 <| And.intro a20 <| And.intro a21 <| And.intro a22 <| And.intro hT <| And.intro N1 <| N2
    clear b a10 a11 a12 a20 a21 a22 hT N1 N2
    obtain ⟨a10, a11, a12, a20, a21, a22, hT, N1, N2⟩ := G
    refine hK.out _ _ (by first | (dsimp only; go_keep) | go_keep) (fun hHeldp1 => ?_)
    clear hK K hHeldp0
    try simp only [Act.put]
    refine wpAnyH_take (i := 5) (v := ?pv5) rfl (by kernel_rfl) (by kernel_rfl) (by kernel_rfl) (fun _ _ _ h => panic_put (P := Tryd.prog) (fn := Tryd.f6) (R := fun en w' => ToldEnd w en w') h) (Or.inl ⟨by rfl, ?py5⟩) (by assumption) ?_
    case py5 => (intro w hSw; (try dsimp only at hSw); go_simp); try with_reducible rfl
    change wpAnyH _ _ _ _ _ _ _ (Act.put _ (some 41) _) _
    simp only [Act.put, List.setIfInBounds_toArray, List.set_cons_zero, List.set_cons_succ]
    refine wpAnyH_take (i := 6) (v := ?pv6) rfl (by kernel_rfl) (by kernel_rfl) (by kernel_rfl) (fun _ _ _ h => panic_put (P := Tryd.prog) (fn := Tryd.f6) (R := fun en w' => ToldEnd w en w') h) (Or.inl ⟨by rfl, ?py6⟩) (by assumption) ?_
    case py6 => (intro w hSw; (try dsimp only at hSw); go_simp); try with_reducible rfl
    change wpAnyH _ _ _ _ _ _ _ (Act.put _ (some 42) _) _
    simp only [Act.put, List.setIfInBounds_toArray, List.set_cons_zero, List.set_cons_succ]
    refine wpAnyH_take (i := 7) (v := ?pv7) rfl (by kernel_rfl) (by kernel_rfl) (by kernel_rfl) (fun _ _ _ h => panic_put (P := Tryd.prog) (fn := Tryd.f6) (R := fun en w' => ToldEnd w en w') h) (Or.inl ⟨by rfl, ?py7⟩) (by assumption) ?_
    case py7 => (intro w hSw; (try dsimp only at hSw); go_simp); try with_reducible rfl
    change wpAnyH _ _ _ _ _ _ _ (Act.put _ (some 43) _) _
    simp only [Act.put, List.setIfInBounds_toArray, List.set_cons_zero, List.set_cons_succ]
    refine wpAnyH_take (i := 8) (v := ?pv8) rfl (by kernel_rfl) (by kernel_rfl) (by kernel_rfl) (fun _ _ _ h => panic_put (P := Tryd.prog) (fn := Tryd.f6) (R := fun en w' => ToldEnd w en w') h) (Or.inl ⟨by rfl, ?py8⟩) (by assumption) ?_
    case py8 => (intro w hSw; (try dsimp only at hSw); go_simp); try with_reducible rfl
    change wpAnyH _ _ _ _ _ _ _ (Act.put _ (some 44) _) _
    simp only [Act.put, List.setIfInBounds_toArray, List.set_cons_zero, List.set_cons_succ]
    refine wpAnyH_take (i := 9) (v := ?pv9) rfl (by kernel_rfl) (by kernel_rfl) (by kernel_rfl) (fun _ _ _ h => panic_put (P := Tryd.prog) (fn := Tryd.f6) (R := fun en w' => ToldEnd w en w') h) (Or.inl ⟨by rfl, ?py9⟩) (by assumption) ?_
    case py9 => (intro w hSw; (try dsimp only at hSw); go_simp); try with_reducible rfl
    change wpAnyH _ _ _ _ _ _ _ (Act.put _ (some 45) _) _
    simp only [Act.put, List.setIfInBounds_toArray, List.set_cons_zero, List.set_cons_succ]
    refine wpAnyH_take (i := 10) (v := ?pv10) rfl (by kernel_rfl) (by kernel_rfl) (by kernel_rfl) (fun _ _ _ h => panic_put (P := Tryd.prog) (fn := Tryd.f6) (R := fun en w' => ToldEnd w en w') h) (Or.inl ⟨by rfl, ?py10⟩) (by assumption) ?_
    case py10 => (intro w hSw; (try dsimp only at hSw); go_simp); try with_reducible rfl
    change wpAnyH _ _ _ _ _ _ _ (Act.put _ (some 46) _) _
    simp only [Act.put, List.setIfInBounds_toArray, List.set_cons_zero, List.set_cons_succ]
    refine wpAnyH_ready (rs := [11]) (by kernel_rfl) (by simp) ?_
    refine AllReadyH.cons (o := _) rfl (fun K hK => ?_) AllReadyH.nil
    go_simp
    refine (dsame_diff (N1.heap (by rfl)) (N2.heap (by rfl)) HNE.out).mono ?_
    rintro en w' ⟨rfl, b⟩
    replace BB := below_next BB BB.size b (by rfl) (by rfl) (by rfl) (by rfl)
    have G := mv b (by rfl) <| And.intro a10 <| And.intro a11 <| And.intro a12 <| And.intro a20 <| And.intro a21 <| And.intro a22 <| And.intro hT <| And.intro N1 <| N2
    clear b a10 a11 a12 a20 a21 a22 hT N1 N2
    obtain ⟨a10, a11, a12, a20, a21, a22, hT, N1, N2⟩ := G
    refine hK.out _ _ (by first | (dsimp only; go_keep) | go_keep) (fun hHeldp2 => ?_)
    clear hK K hHeldp1
    try simp only [Act.put]
    refine wpAnyH_take (i := 12) (v := ?pv12) rfl (by kernel_rfl) (by kernel_rfl) (by kernel_rfl) (fun _ _ _ h => panic_put (P := Tryd.prog) (fn := Tryd.f6) (R := fun en w' => ToldEnd w en w') h) (Or.inl ⟨by rfl, ?py12⟩) (by assumption) ?_
    case py12 => (intro w hSw; (try dsimp only at hSw); go_simp); try with_reducible rfl
    change wpAnyH _ _ _ _ _ _ _ (Act.put _ (some 48) _) _
    simp only [Act.put, List.setIfInBounds_toArray, List.set_cons_zero, List.set_cons_succ]
    refine wpAnyH_take (i := 13) (v := ?pv13) rfl (by kernel_rfl) (by kernel_rfl) (by kernel_rfl) (fun _ _ _ h => panic_put (P := Tryd.prog) (fn := Tryd.f6) (R := fun en w' => ToldEnd w en w') h) (Or.inl ⟨by rfl, ?py13⟩) (by assumption) ?_
    case py13 => (intro w hSw; (try dsimp only at hSw); go_simp); try with_reducible rfl
    change wpAnyH _ _ _ _ _ _ _ (Act.put _ (some 49) _) _
    simp only [Act.put, List.setIfInBounds_toArray, List.set_cons_zero, List.set_cons_succ]
    refine wpAnyH_take (i := 14) (v := ?pv14) rfl (by kernel_rfl) (by kernel_rfl) (by kernel_rfl) (fun _ _ _ h => panic_put (P := Tryd.prog) (fn := Tryd.f6) (R := fun en w' => ToldEnd w en w') h) (Or.inl ⟨by rfl, ?py14⟩) (by assumption) ?_
    case py14 => (intro w hSw; (try dsimp only at hSw); go_simp); try with_reducible rfl
    change wpAnyH _ _ _ _ _ _ _ (Act.put _ (some 50) _) _
    simp only [Act.put, List.setIfInBounds_toArray, List.set_cons_zero, List.set_cons_succ]
    refine wpAnyH_take (i := 15) (v := ?pv15) rfl (by kernel_rfl) (by kernel_rfl) (by kernel_rfl) (fun _ _ _ h => panic_put (P := Tryd.prog) (fn := Tryd.f6) (R := fun en w' => ToldEnd w en w') h) (Or.inl ⟨by rfl, ?py15⟩) (by assumption) ?_
    case py15 => (intro w hSw; (try dsimp only at hSw); go_simp); try with_reducible rfl
    change wpAnyH _ _ _ _ _ _ _ (Act.put _ (some 51) _) _
    simp only [Act.put, List.setIfInBounds_toArray, List.set_cons_zero, List.set_cons_succ]
    refine wpAnyH_take (i := 17) (v := ?pv17) rfl (by kernel_rfl) (by kernel_rfl) (by kernel_rfl) (fun _ _ _ h => panic_put (P := Tryd.prog) (fn := Tryd.f6) (R := fun en w' => ToldEnd w en w') h) (Or.inl ⟨by rfl, ?py17⟩) (by assumption) ?_
    case py17 => (intro w hSw; (try dsimp only at hSw); go_simp); try with_reducible rfl
    change wpAnyH _ _ _ _ _ _ _ (Act.put _ (some 53) _) _
    simp only [Act.put, List.setIfInBounds_toArray, List.set_cons_zero, List.set_cons_succ]
    refine wpAnyH_take (i := 20) (v := ?pv20) rfl (by kernel_rfl) (by kernel_rfl) (by kernel_rfl) (fun _ _ _ h => panic_put (P := Tryd.prog) (fn := Tryd.f6) (R := fun en w' => ToldEnd w en w') h) (Or.inl ⟨by rfl, ?py20⟩) (by assumption) ?_
    case py20 => (intro w hSw; (try dsimp only at hSw); go_simp); try with_reducible rfl
    change wpAnyH _ _ _ _ _ _ _ (Act.put _ (some 56) _) _
    simp only [Act.put, List.setIfInBounds_toArray, List.set_cons_zero, List.set_cons_succ]
    refine wpAnyH_ready (rs := [16]) (by kernel_rfl) (by simp) ?_
    refine AllReadyH.cons (o := _) rfl (fun K hK => ?_) AllReadyH.nil
    go_simp
    refine (dneg_is KK (hT.heap (by rfl)) (N2.heap (by rfl)) O2.out).mono ?_
    rintro en w' ⟨t3, A3, n3, c3, rfl, ho, N3, b⟩
    replace BB := below_next BB BB.size b (by rfl) (by rfl) (by rfl) (by rfl)
    have G := mv b (by rfl) <| And.intro a10 <| And.intro a11 <| And.intro a12 <| And.intro a20 <| And.intro a21 <| And.intro a22 <| And.intro hT <| And.intro N1 <| N2
    clear b a10 a11 a12 a20 a21 a22 hT N1 N2
    obtain ⟨a10, a11, a12, a20, a21, a22, hT, N1, N2⟩ := G
    have O3 := Lib.hid ho
    clear ho
    refine hK.out _ _ (by first | (dsimp only; go_keep) | go_keep) (fun hHeldp3 => ?_)
    clear hK K hHeldp2
    try simp only [Act.put]
    refine wpAnyH_ready (rs := [18]) (by kernel_rfl) (by simp) ?_
    refine AllReadyH.cons (o := _) rfl (fun K hK => ?_) AllReadyH.nil
    go_simp
    refine (dneg_is KK (hT.heap (by rfl)) (N1.heap (by rfl)) O1.out).mono ?_
    rintro en w' ⟨t4, A4, n4, c4, rfl, ho, N4, b⟩
    replace BB := below_next BB BB.size b (by rfl) (by rfl) (by rfl) (by rfl)
    have G := mv b (by rfl) <| And.intro a10 <| And.intro a11 <| And.intro a12 <| And.intro a20 <| And.intro a21 <| And.intro a22 <| And.intro hT <| And.intro N1 <| And.intro N2 <| N3
    clear b a10 a11 a12 a20 a21 a22 hT N1 N2 N3
    obtain ⟨a10, a11, a12, a20, a21, a22, hT, N1, N2, N3⟩ := G
    have O4 := Lib.hid ho
    clear ho
    refine hK.out _ _ (by first | (dsimp only; go_keep) | go_keep) (fun hHeldp4 => ?_)
    clear hK K hHeldp3
    try simp only [Act.put]
    refine wpAnyH_ready (rs := [19]) (by kernel_rfl) (by simp) ?_
    refine AllReadyH.cons (o := _) rfl (fun K hK => ?_) AllReadyH.nil
    go_simp
    refine (dcmp_is (z := 1) hKK (hT.heap (by rfl)) (N3.heap (by rfl)) (N4.heap (by rfl)) O3.out.1 O4.out.1 (by rw [O3.out.2, O4.out.2, cmpV_neg]; exact HZ.out)).mono ?_
    rintro en w' ⟨rfl, b⟩
    replace BB := below_next BB BB.size b (by rfl) (by rfl) (by rfl) (by rfl)
    have G := mv b (by rfl) <| And.intro a10 <| And.intro a11 <| And.intro a12 <| And.intro a20 <| And.intro a21 <| And.intro a22 <| And.intro hT <| And.intro N1 <| And.intro N2 <| And.intro N3 <| N4
    clear b a10 a11 a12 a20 a21 a22 hT N1 N2 N3 N4
    obtain ⟨a10, a11, a12, a20, a21, a22, hT, N1, N2, N3, N4⟩ := G
    refine hK.out _ _ (by first | (dsimp only; go_keep) | go_keep) (fun hHeldp5 => ?_)
    clear hK K hHeldp4
    try simp only [Act.put]
    refine wpAnyH_take (i := 21) (v := ?pv21) rfl (by kernel_rfl) (by kernel_rfl) (by kernel_rfl) (fun _ _ _ h => panic_put (P := Tryd.prog) (fn := Tryd.f6) (R := fun en w' => ToldEnd w en w') h) (Or.inl ⟨by rfl, ?py21⟩) (by assumption) ?_
    case py21 => (intro w hSw; (try dsimp only at hSw); go_simp); try with_reducible rfl
    change wpAnyH _ _ _ _ _ _ _ (Act.put _ (some 57) _) _
    simp only [Act.put, List.setIfInBounds_toArray, List.set_cons_zero, List.set_cons_succ]
    refine wpAnyH_take (i := 22) (v := ?pv22) rfl (by kernel_rfl) (by kernel_rfl) (by kernel_rfl) (fun _ _ _ h => panic_put (P := Tryd.prog) (fn := Tryd.f6) (R := fun en w' => ToldEnd w en w') h) (Or.inl ⟨by rfl, ?py22⟩) (by assumption) ?_
    case py22 => (intro w hSw; (try dsimp only at hSw); go_simp); try with_reducible rfl
    change wpAnyH _ _ _ _ _ _ _ (Act.put _ (some 58) _) _
    simp only [Act.put, List.setIfInBounds_toArray, List.set_cons_zero, List.set_cons_succ]
    refine wpAnyH_done (by kernel_rfl) ?_ _
    clear O3 O4
    clear N3 N4
    go_wp2_with fail
    refine (dsub_ok hKK hT N1 N2 O1.out O2.out).mono ?_
    rintro en v9 ⟨k9, s9, A9, n9, c9, m9, e9, rfl, hp, N9, b⟩
    have P9 := Lib.hid hp
    have O9 := Lib.hid (nmv_okd hp)
    clear hp
    replace BB := below_next BB BB.size b rfl rfl rfl rfl
    have G := mv b rfl <| And.intro a10 <| And.intro a11 <| And.intro a12 <| And.intro a20 <| And.intro a21 <| And.intro a22 <| And.intro hT <| And.intro N1 <| N2
    clear b a10 a11 a12 a20 a21 a22 hT N1 N2
    obtain ⟨a10, a11, a12, a20, a21, a22, hT, N1, N2⟩ := G
    obtain ⟨a90, a91, a92⟩ := (Box.new v9 s9 A9 n9 c9 e9).held
    have b := below_alloc v9 (.cells #[.bool s9, .slice A9 n9 c9, .int .i64 e9] 24)
    replace BB := below_next BB BB.size b rfl rfl rfl rfl
    have G := mv b rfl <| And.intro a10 <| And.intro a11 <| And.intro a12 <| And.intro a20 <| And.intro a21 <| And.intro a22 <| And.intro hT <| And.intro N1 <| And.intro N2 <| N9
    clear b a10 a11 a12 a20 a21 a22 hT N1 N2 N9
    obtain ⟨a10, a11, a12, a20, a21, a22, hT, N1, N2, N9⟩ := G
    by_cases z9 : k9 = 0
    · subst z9
      go_wp2_with fail
      refine (sign_is (z := 1) hT N9 O9.out ((sign_cmp (nmv_ok P9.out).2).trans HZ.out)).mono ?_
      rintro en w7 ⟨rfl, b⟩
      replace BB := below_next BB BB.size b rfl rfl rfl rfl
      have G := mv b rfl <| And.intro a10 <| And.intro a11 <| And.intro a12 <| And.intro a20 <| And.intro a21 <| And.intro a22 <| And.intro hT <| And.intro N1 <| And.intro N2 <| And.intro N9 <| And.intro a90 <| And.intro a91 <| a92
      clear b a10 a11 a12 a20 a21 a22 hT N1 N2 N9 a90 a91 a92
      obtain ⟨a10, a11, a12, a20, a21, a22, hT, N1, N2, N9, a90, a91, a92⟩ := G
      clear N9 a90 a91 a92
      go_wp2_with fail
      refine (dshift_ok (p := p) hT N1 O1.out).mono ?_
      rintro en v5 ⟨k5, s5, A5, n5, c5, m5, e5, rfl, hp, N5, b⟩
      have P5 := Lib.hid hp
      have O5 := Lib.hid (shifted_okd O1.out hp)
      clear hp
      replace BB := below_next BB BB.size b rfl rfl rfl rfl
      have G := mv b rfl <| And.intro a10 <| And.intro a11 <| And.intro a12 <| And.intro a20 <| And.intro a21 <| And.intro a22 <| And.intro hT <| And.intro N1 <| N2
      clear b a10 a11 a12 a20 a21 a22 hT N1 N2
      obtain ⟨a10, a11, a12, a20, a21, a22, hT, N1, N2⟩ := G
      obtain ⟨a50, a51, a52⟩ := (Box.new v5 s5 A5 n5 c5 e5).held
      have b := below_alloc v5 (.cells #[.bool s5, .slice A5 n5 c5, .int .i64 e5] 24)
      replace BB := below_next BB BB.size b rfl rfl rfl rfl
      have G := mv b rfl <| And.intro a10 <| And.intro a11 <| And.intro a12 <| And.intro a20 <| And.intro a21 <| And.intro a22 <| And.intro hT <| And.intro N1 <| And.intro N2 <| N5
      clear b a10 a11 a12 a20 a21 a22 hT N1 N2 N5
      obtain ⟨a10, a11, a12, a20, a21, a22, hT, N1, N2, N5⟩ := G
      go_wp2_with fail
      refine (dshift_ok (p := p) hT N2 O2.out).mono ?_
      rintro en v6 ⟨k6, s6, A6, n6, c6, m6, e6, rfl, hp, N6, b⟩
      have P6 := Lib.hid hp
      have O6 := Lib.hid (shifted_okd O2.out hp)
      clear hp
      replace BB := below_next BB BB.size b rfl rfl rfl rfl
      have G := mv b rfl <| And.intro a10 <| And.intro a11 <| And.intro a12 <| And.intro a20 <| And.intro a21 <| And.intro a22 <| And.intro hT <| And.intro N1 <| And.intro N2 <| And.intro N5 <| And.intro a50 <| And.intro a51 <| a52
      clear b a10 a11 a12 a20 a21 a22 hT N1 N2 N5 a50 a51 a52
      obtain ⟨a10, a11, a12, a20, a21, a22, hT, N1, N2, N5, a50, a51, a52⟩ := G
      obtain ⟨a60, a61, a62⟩ := (Box.new v6 s6 A6 n6 c6 e6).held
      have b := below_alloc v6 (.cells #[.bool s6, .slice A6 n6 c6, .int .i64 e6] 24)
      replace BB := below_next BB BB.size b rfl rfl rfl rfl
      have G := mv b rfl <| And.intro a10 <| And.intro a11 <| And.intro a12 <| And.intro a20 <| And.intro a21 <| And.intro a22 <| And.intro hT <| And.intro N1 <| And.intro N2 <| And.intro N5 <| And.intro a50 <| And.intro a51 <| And.intro a52 <| N6
      clear b a10 a11 a12 a20 a21 a22 hT N1 N2 N5 a50 a51 a52 N6
      obtain ⟨a10, a11, a12, a20, a21, a22, hT, N1, N2, N5, a50, a51, a52, N6⟩ := G
      go_wp2_with fail
      refine (dtold_any hT).mono ?_
      rintro en w10 ⟨rfl, b⟩
      replace BB := below_next BB BB.size b rfl rfl rfl rfl
      have G := mv b rfl <| And.intro a10 <| And.intro a11 <| And.intro a12 <| And.intro a20 <| And.intro a21 <| And.intro a22 <| And.intro hT <| And.intro N1 <| And.intro N2 <| And.intro N5 <| And.intro a50 <| And.intro a51 <| And.intro a52 <| And.intro N6 <| And.intro a60 <| And.intro a61 <| a62
      clear b a10 a11 a12 a20 a21 a22 hT N1 N2 N5 a50 a51 a52 N6 a60 a61 a62
      obtain ⟨a10, a11, a12, a20, a21, a22, hT, N1, N2, N5, a50, a51, a52, N6, a60, a61, a62⟩ := G
      by_cases z5 : k5 = 0
      rotate_left
      · have f5 : (k5 != 0) = true := by simp [z5]
        clear z5
        go_wp2
        go_ret
        exact ⟨by first | rfl | simp, BB⟩
      subst z5
      by_cases z6 : k6 = 0
      rotate_left
      · have f6 : (k6 != 0) = true := by simp [z6]
        clear z6
        go_wp2
        go_ret
        exact ⟨by first | rfl | simp, BB⟩
      subst z6
      go_wp2_with fail
      refine (dcmp_is (z := 1) hKK hT N5 N6 O5.out O6.out (shift_cmp hKK O1.out O2.out P5.out P6.out HZ.out)).mono ?_
      rintro en w11 ⟨rfl, b⟩
      replace BB := below_next BB BB.size b rfl rfl rfl rfl
      have G := mv b rfl <| And.intro a10 <| And.intro a11 <| And.intro a12 <| And.intro a20 <| And.intro a21 <| And.intro a22 <| And.intro hT <| And.intro N1 <| And.intro N2 <| And.intro N5 <| And.intro a50 <| And.intro a51 <| And.intro a52 <| And.intro N6 <| And.intro a60 <| And.intro a61 <| a62
      clear b a10 a11 a12 a20 a21 a22 hT N1 N2 N5 a50 a51 a52 N6 a60 a61 a62
      obtain ⟨a10, a11, a12, a20, a21, a22, hT, N1, N2, N5, a50, a51, a52, N6, a60, a61, a62⟩ := G
      go_wp2
      go_ret
      exact ⟨by first | rfl | simp, BB⟩
    · have f9 : (k9 == 0) = false := by simp [z9]
      clear z9
      clear N9 a90 a91 a92
      go_wp2_with fail
      refine (dshift_ok (p := p) hT N1 O1.out).mono ?_
      rintro en v5 ⟨k5, s5, A5, n5, c5, m5, e5, rfl, hp, N5, b⟩
      have P5 := Lib.hid hp
      have O5 := Lib.hid (shifted_okd O1.out hp)
      clear hp
      replace BB := below_next BB BB.size b rfl rfl rfl rfl
      have G := mv b rfl <| And.intro a10 <| And.intro a11 <| And.intro a12 <| And.intro a20 <| And.intro a21 <| And.intro a22 <| And.intro hT <| And.intro N1 <| N2
      clear b a10 a11 a12 a20 a21 a22 hT N1 N2
      obtain ⟨a10, a11, a12, a20, a21, a22, hT, N1, N2⟩ := G
      obtain ⟨a50, a51, a52⟩ := (Box.new v5 s5 A5 n5 c5 e5).held
      have b := below_alloc v5 (.cells #[.bool s5, .slice A5 n5 c5, .int .i64 e5] 24)
      replace BB := below_next BB BB.size b rfl rfl rfl rfl
      have G := mv b rfl <| And.intro a10 <| And.intro a11 <| And.intro a12 <| And.intro a20 <| And.intro a21 <| And.intro a22 <| And.intro hT <| And.intro N1 <| And.intro N2 <| N5
      clear b a10 a11 a12 a20 a21 a22 hT N1 N2 N5
      obtain ⟨a10, a11, a12, a20, a21, a22, hT, N1, N2, N5⟩ := G
      go_wp2_with fail
      refine (dshift_ok (p := p) hT N2 O2.out).mono ?_
      rintro en v6 ⟨k6, s6, A6, n6, c6, m6, e6, rfl, hp, N6, b⟩
      have P6 := Lib.hid hp
      have O6 := Lib.hid (shifted_okd O2.out hp)
      clear hp
      replace BB := below_next BB BB.size b rfl rfl rfl rfl
      have G := mv b rfl <| And.intro a10 <| And.intro a11 <| And.intro a12 <| And.intro a20 <| And.intro a21 <| And.intro a22 <| And.intro hT <| And.intro N1 <| And.intro N2 <| And.intro N5 <| And.intro a50 <| And.intro a51 <| a52
      clear b a10 a11 a12 a20 a21 a22 hT N1 N2 N5 a50 a51 a52
      obtain ⟨a10, a11, a12, a20, a21, a22, hT, N1, N2, N5, a50, a51, a52⟩ := G
      obtain ⟨a60, a61, a62⟩ := (Box.new v6 s6 A6 n6 c6 e6).held
      have b := below_alloc v6 (.cells #[.bool s6, .slice A6 n6 c6, .int .i64 e6] 24)
      replace BB := below_next BB BB.size b rfl rfl rfl rfl
      have G := mv b rfl <| And.intro a10 <| And.intro a11 <| And.intro a12 <| And.intro a20 <| And.intro a21 <| And.intro a22 <| And.intro hT <| And.intro N1 <| And.intro N2 <| And.intro N5 <| And.intro a50 <| And.intro a51 <| And.intro a52 <| N6
      clear b a10 a11 a12 a20 a21 a22 hT N1 N2 N5 a50 a51 a52 N6
      obtain ⟨a10, a11, a12, a20, a21, a22, hT, N1, N2, N5, a50, a51, a52, N6⟩ := G
      go_wp2_with fail
      refine (dtold_any hT).mono ?_
      rintro en w9 ⟨rfl, b⟩
      replace BB := below_next BB BB.size b rfl rfl rfl rfl
      have G := mv b rfl <| And.intro a10 <| And.intro a11 <| And.intro a12 <| And.intro a20 <| And.intro a21 <| And.intro a22 <| And.intro hT <| And.intro N1 <| And.intro N2 <| And.intro N5 <| And.intro a50 <| And.intro a51 <| And.intro a52 <| And.intro N6 <| And.intro a60 <| And.intro a61 <| a62
      clear b a10 a11 a12 a20 a21 a22 hT N1 N2 N5 a50 a51 a52 N6 a60 a61 a62
      obtain ⟨a10, a11, a12, a20, a21, a22, hT, N1, N2, N5, a50, a51, a52, N6, a60, a61, a62⟩ := G
      by_cases z5 : k5 = 0
      rotate_left
      · have f5 : (k5 != 0) = true := by simp [z5]
        clear z5
        go_wp2
        go_ret
        exact ⟨by first | rfl | simp, BB⟩
      subst z5
      by_cases z6 : k6 = 0
      rotate_left
      · have f6 : (k6 != 0) = true := by simp [z6]
        clear z6
        go_wp2
        go_ret
        exact ⟨by first | rfl | simp, BB⟩
      subst z6
      go_wp2_with fail
      refine (dcmp_is (z := 1) hKK hT N5 N6 O5.out O6.out (shift_cmp hKK O1.out O2.out P5.out P6.out HZ.out)).mono ?_
      rintro en w10 ⟨rfl, b⟩
      replace BB := below_next BB BB.size b rfl rfl rfl rfl
      have G := mv b rfl <| And.intro a10 <| And.intro a11 <| And.intro a12 <| And.intro a20 <| And.intro a21 <| And.intro a22 <| And.intro hT <| And.intro N1 <| And.intro N2 <| And.intro N5 <| And.intro a50 <| And.intro a51 <| And.intro a52 <| And.intro N6 <| And.intro a60 <| And.intro a61 <| a62
      clear b a10 a11 a12 a20 a21 a22 hT N1 N2 N5 a50 a51 a52 N6 a60 a61 a62
      obtain ⟨a10, a11, a12, a20, a21, a22, hT, N1, N2, N5, a50, a51, a52, N6, a60, a61, a62⟩ := G
      go_wp2
      go_ret
      exact ⟨by first | rfl | simp, BB⟩

end Go.Proofs.YtkfcnodnefpboaaDoor
