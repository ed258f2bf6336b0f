/-
  Contract of the statement DyadAsks's function at this translation: it returns true, whatever its arguments. Condition: the slices read as limbs, the table of math/bits reads as its text lays it.
-/
import Derived.Test.YtdjklanmkjbifaaDoorRp
import Derived.Test.YtdjklanmkjbifaaDoorRw
import Derived.Test.YtdjklanmkjbifaaDoorRc
namespace Go.Proofs.YtdjklanmkjbifaaDoor
open Go.RowKit

set_option maxRecDepth 100000 in
set_option maxHeartbeats 8000000 in
theorem raddd_no {w : World} {A1 : Option Addr} {n1 c1 : Nat} {l1 : List Nat} {s1 : Bool} {e1 : Int} {A2 : Option Addr} {n2 c2 : Nat} {l2 : List Nat} {s2 : Bool} {e2 : Int} (h1 : Rd w .u64 Go.Proofs.YtdjklanmkjbifaaDoor.W A1 n1 c1 l1) (h2 : Rd w .u64 Go.Proofs.YtdjklanmkjbifaaDoor.W A2 n2 c2 l2) (hd : ¬ (mayD s1 l1 e1 = true ∧ mayD s2 l2 e2 = true)) :
    Calls Tryd.prog 9 #[.agg #[.bool s1, .slice A1 n1 c1, .int .i64 e1], .agg #[.bool s2, .slice A2 n2 c2, .int .i64 e2]] w (Tells Wrong w) := by
  obtain ⟨BB, xa, xb, r⟩ := three_dbl w (s1 := s1) (A1 := A1) (n1 := n1) (c1 := c1) (e1 := e1) (s2 := s2) (A2 := A2) (n2 := n2) (c2 := c2) (e2 := e2)
  obtain ⟨a10, a11, a12⟩ := xa.held
  obtain ⟨a20, a21, a22⟩ := xb.held
  clear xa xb
  have ne1 : ¬ w.heap.size + 2 = w.heap.size := by omega
  have ne2 : ¬ w.heap.size = w.heap.size + 2 := by omega
  have ne3 : ¬ w.heap.size + 2 = w.heap.size + 1 := by omega
  have ne4 : ¬ w.heap.size + 1 = w.heap.size + 2 := by omega
  have G := mv BB rfl <| And.intro h1 <| h2
  clear h1 h2
  obtain ⟨h1, h2⟩ := G
  have HD := Lib.hid hd
  clear hd
  go_enter Tryd.func9, Tryd.ntmps9
  go_wp2_with fail
  refine (rmayd_any (s := s1) (e := e1) h1).mono ?_
  rintro en w1 ⟨rfl, b⟩
  replace BB := below_next BB BB.size b rfl rfl rfl rfl
  have G := mv b rfl <| And.intro a10 <| And.intro a11 <| And.intro a12 <| And.intro a20 <| And.intro a21 <| And.intro a22 <| And.intro h1 <| And.intro h2 <| r
  clear b a10 a11 a12 a20 a21 a22 h1 h2 r
  obtain ⟨a10, a11, a12, a20, a21, a22, h1, h2, r⟩ := G
  cases q1 : mayD s1 l1 e1
  · clear q1
    obtain ⟨f0, f1, f2⟩ := r.open
    obtain ⟨z0, z1, z2⟩ := r.held
    go_wp2
    have qq := r.put false none 0 0 0
    have HB3 := below_put3 (g := w.heap.size + 2) BB (by omega) (.bool false) (.slice none 0 0) (.int .i64 0)
    obtain ⟨z0, z1, z2⟩ := qq.held
    exact bodyPost_ret (v := .tuple #[.agg #[.bool false, .slice none 0 0, .int .i64 0], .int .i64 1]) (by simp [results, Tryd.results9, go_sem, z0, z1, z2]) rfl ⟨_, _, _, _, _, 0, _, rfl, ⟨rfl, rfl, rfl, rfl⟩, nt_nil _, HB3⟩
  go_wp2_with fail
  refine (rmayd_any (s := s2) (e := e2) h2).mono ?_
  rintro en w2 ⟨rfl, b⟩
  replace BB := below_next BB BB.size b rfl rfl rfl rfl
  have G := mv b rfl <| And.intro a10 <| And.intro a11 <| And.intro a12 <| And.intro a20 <| And.intro a21 <| And.intro a22 <| And.intro h1 <| And.intro h2 <| r
  clear b a10 a11 a12 a20 a21 a22 h1 h2 r
  obtain ⟨a10, a11, a12, a20, a21, a22, h1, h2, r⟩ := G
  have q2 : mayD s2 l2 e2 = false := by
    cases q : mayD s2 l2 e2
    · rfl
    · exact absurd ⟨q1, q⟩ HD.out
  rw [q2]
  clear q1 q2
  obtain ⟨f0, f1, f2⟩ := r.open
  obtain ⟨z0, z1, z2⟩ := r.held
  go_wp2
  have qq := r.put false none 0 0 0
  have HB3 := below_put3 (g := w.heap.size + 2) BB (by omega) (.bool false) (.slice none 0 0) (.int .i64 0)
  obtain ⟨z0, z1, z2⟩ := qq.held
  exact bodyPost_ret (v := .tuple #[.agg #[.bool false, .slice none 0 0, .int .i64 0], .int .i64 1]) (by simp [results, Tryd.results9, go_sem, z0, z1, z2]) rfl ⟨_, _, _, _, _, 0, _, rfl, ⟨rfl, rfl, rfl, rfl⟩, nt_nil _, HB3⟩

theorem raddd_ok {w : World} {K : Nat} {A1 : Option Addr} {n1 c1 x1 : Nat} {s1 : Bool} {e1 : Int} {A2 : Option Addr} {n2 c2 x2 : Nat} {s2 : Bool} {e2 : Int} (hK : 4194304 ≤ K) (h1 : Nt w A1 n1 c1 x1) (d1 : OkD s1 x1 e1) (h2 : Nt w A2 n2 c2 x2) (d2 : OkD s2 x2 e2) :
    Calls Tryd.prog 9 #[.agg #[.bool s1, .slice A1 n1 c1, .int .i64 e1], .agg #[.bool s2, .slice A2 n2 c2, .int .i64 e2]] w (Tells (NmV K (vz K s1 x1 e1 + vz K s2 x2 e2)) w) := by
  have r1 := okd_ge hK d1
  have r2 := okd_ge hK d2
  by_cases hx : x1 = 0
  · refine raddd_z1 h1 d1 h2 d2 hx ?_
    rw [hx, vz_zero, Int.zero_add]
    exact nmv_self hK d2
  by_cases hy : x2 = 0
  · refine raddd_z2 h1 d1 h2 d2 hx hy ?_
    rw [hy, vz_zero, Int.add_zero]
    exact nmv_self hK d1
  obtain ⟨lo, hlo⟩ : ∃ lo, min e1 e2 = lo := ⟨_, rfl⟩
  obtain ⟨i, hi⟩ := Int.eq_ofNat_of_zero_le (show 0 ≤ e1 - lo by omega)
  obtain ⟨j, hj⟩ := Int.eq_ofNat_of_zero_le (show 0 ≤ e2 - lo by omega)
  have hi' : lo + (i : Int) = e1 := by omega
  have hj' : lo + (j : Int) = e2 := by omega
  have hlK : -(K : Int) ≤ lo := by omega
  refine raddd_some h1 d1 h2 d2 hx hy hlo hi hj ?_ ?_ ?_ ?_
  · exact fun h => far_any hK d1 d2 hx hy hlo hi' hj' (blen_nt h1) (blen_nt h2) h
  · intro hst k s' m' e' hN
    subst hst
    exact near_add hlK hi' hj' hN
  · intro hst hle k s' m' e' hN
    exact near_sub hlK hi' hj' hst hle hN
  · intro hst hle k s' m' e' hN
    rw [Int.add_comm]
    exact near_sub hlK hj' hi' (fun h => hst h.symm) (Nat.le_of_lt hle) hN
theorem raddd_raw {w : World} {K : Nat} {A1 : Option Addr} {n1 c1 : Nat} {l1 : List Nat} {s1 : Bool} {e1 : Int} {A2 : Option Addr} {n2 c2 : Nat} {l2 : List Nat} {s2 : Bool} {e2 : Int} (hK : 4194304 ≤ K) (h1 : Rd w .u64 Go.Proofs.YtdjklanmkjbifaaDoor.W A1 n1 c1 l1) (h2 : Rd w .u64 Go.Proofs.YtdjklanmkjbifaaDoor.W A2 n2 c2 l2) :
    Calls Tryd.prog 9 #[.agg #[.bool s1, .slice A1 n1 c1, .int .i64 e1], .agg #[.bool s2, .slice A2 n2 c2, .int .i64 e2]] w (Tells (addR K s1 l1 e1 s2 l2 e2) w) := by
  unfold addR
  by_cases hd : mayD s1 l1 e1 = true ∧ mayD s2 l2 e2 = true
  · rw [if_pos hd]
    obtain ⟨hN, hok, _⟩ := rd_okd h1 hd.1
    obtain ⟨hN', hok', _⟩ := rd_okd h2 hd.2
    exact raddd_ok hK hN hok hN' hok'
  · rw [if_neg hd]
    exact raddd_no h1 h2 hd
theorem negR_may {s : Bool} {l : List Nat} {e : Int} : mayD (negR s l e) l e = mayD s l e ∧ ∀ K, mayD s l e = true → vz K (negR s l e) (val Go.Proofs.YtdjklanmkjbifaaDoor.W l) e = - vz K s (val Go.Proofs.YtdjklanmkjbifaaDoor.W l) e := by
  unfold negR
  by_cases h : mayD s l e = true ∧ val Go.Proofs.YtdjklanmkjbifaaDoor.W l ≠ 0
  · rw [if_pos h]
    have hne : l ≠ [] := fun h0 => h.2 (by rw [h0]; rfl)
    exact ⟨by unfold mayD; rw [if_neg hne, if_neg hne], fun K _ => vz_not K s _ e⟩
  · rw [if_neg h]
    refine ⟨rfl, fun K hm => ?_⟩
    have hz : val Go.Proofs.YtdjklanmkjbifaaDoor.W l = 0 := Classical.byContradiction fun h0 => h ⟨hm, h0⟩
    rw [hz, vz_zero]
    rfl
theorem addR_neg {K : Nat} {s : Bool} {l : List Nat} {e : Int} {t : Bool} {r : List Nat} {f : Int}   : addR K s l e (negR t r f) r f = subR K s l e t r f := by
  obtain ⟨h1, h2⟩ := negR_may (s := t) (l := r) (e := f)
  unfold addR subR
  rw [h1]
  by_cases hd : mayD s l e = true ∧ mayD t r f = true
  · rw [if_pos hd, if_pos hd, h2 K hd.2, Int.sub_eq_add_neg]
  · rw [if_neg hd, if_neg hd]

set_option maxRecDepth 100000 in
set_option maxHeartbeats 8000000 in
theorem rsubd_raw {w : World} {K : Nat} {A1 : Option Addr} {n1 c1 : Nat} {l1 : List Nat} {s1 : Bool} {e1 : Int} {A2 : Option Addr} {n2 c2 : Nat} {l2 : List Nat} {s2 : Bool} {e2 : Int} (hK : 4194304 ≤ K) (h1 : Rd w .u64 Go.Proofs.YtdjklanmkjbifaaDoor.W A1 n1 c1 l1) (h2 : Rd w .u64 Go.Proofs.YtdjklanmkjbifaaDoor.W A2 n2 c2 l2) :
    Calls Tryd.prog 11 #[.agg #[.bool s1, .slice A1 n1 c1, .int .i64 e1], .agg #[.bool s2, .slice A2 n2 c2, .int .i64 e2]] w (Tells (subR K s1 l1 e1 s2 l2 e2) w) := by
  have HKK := Lib.hid hK
  clear hK
  obtain ⟨BB, xa, xb, r⟩ := three_dbl w (s1 := s1) (A1 := A1) (n1 := n1) (c1 := c1) (e1 := e1) (s2 := s2) (A2 := A2) (n2 := n2) (c2 := c2) (e2 := e2)
  obtain ⟨a10, a11, a12⟩ := xa.held
  obtain ⟨a20, a21, a22⟩ := xb.held
  clear xa xb
  have ne1 : ¬ w.heap.size + 2 = w.heap.size := by omega
  have ne2 : ¬ w.heap.size = w.heap.size + 2 := by omega
  have ne3 : ¬ w.heap.size + 2 = w.heap.size + 1 := by omega
  have ne4 : ¬ w.heap.size + 1 = w.heap.size + 2 := by omega
  have G := mv BB rfl <| And.intro h1 <| h2
  clear h1 h2
  obtain ⟨h1, h2⟩ := G
  obtain ⟨P, hP⟩ : ∃ P, P = subR K s1 l1 e1 s2 l2 e2 := ⟨_, rfl⟩
  rw [← hP]
  have HPS := Lib.hid hP
  clear hP
  go_enter Tryd.func11, Tryd.ntmps11
  go_wp2_with fail
  refine (rmayd_any (s := s2) (e := e2) h2).mono ?_
  rintro en w1 ⟨rfl, b⟩
  replace BB := below_next BB BB.size b rfl rfl rfl rfl
  have G := mv b rfl <| And.intro a10 <| And.intro a11 <| And.intro a12 <| And.intro a20 <| And.intro a21 <| And.intro a22 <| And.intro h1 <| And.intro h2 <| r
  clear b a10 a11 a12 a20 a21 a22 h1 h2 r
  obtain ⟨a10, a11, a12, a20, a21, a22, h1, h2, r⟩ := G
  cases q1 : mayD s2 l2 e2
  · have hw : P 1 false 0 0 := by
        rw [HPS.out]
        unfold subR
        rw [if_neg (fun h => by rw [q1] at h; cases h.2)]
        exact ⟨rfl, rfl, rfl, rfl⟩
    clear q1
    obtain ⟨f0, f1, f2⟩ := r.open
    obtain ⟨z0, z1, z2⟩ := r.held
    go_wp2
    have qq := r.put false none 0 0 0
    have HB3 := below_put3 (g := w.heap.size + 2) BB (by omega) (.bool false) (.slice none 0 0) (.int .i64 0)
    obtain ⟨z0, z1, z2⟩ := qq.held
    exact bodyPost_ret (v := .tuple #[.agg #[.bool false, .slice none 0 0, .int .i64 0], .int .i64 1]) (by simp [results, Tryd.results11, go_sem, z0, z1, z2]) rfl ⟨_, _, _, _, _, 0, _, rfl, hw, nt_nil _, HB3⟩
  clear q1
  go_wp2_with fail
  refine wp_region_held_drew (S := fun w' => w'.cell? ⟨w.heap.size, 0, none⟩ = some (.bool s1) ∧ w'.cell? ⟨w.heap.size, 1, none⟩ = some (.slice A1 n1 c1) ∧ w'.cell? ⟨w.heap.size, 2, none⟩ = some (.int .i64 e1) ∧ w'.cell? ⟨(w.heap.size + 1), 0, none⟩ = some (.bool s2) ∧ w'.cell? ⟨(w.heap.size + 1), 1, none⟩ = some (.slice A2 n2 c2) ∧ w'.cell? ⟨(w.heap.size + 1), 2, none⟩ = some (.int .i64 e2)) (by kernel_rfl) (by first | (dsimp only; go_keep) | go_keep) (fun hHeldv0 => ?_)
  refine wpAnyH_take (i := 0) (v := ?vv0) rfl (by kernel_rfl) (by kernel_rfl) (by kernel_rfl) (fun _ _ _ h => panic_put (P := Tryd.prog) (fn := Tryd.f11) (R := (Tells P w)) h) (Or.inl ⟨by rfl, ?vy0⟩) (by assumption) ?_
  case vy0 => (intro w hSw; (try dsimp only at hSw); go_simp); try with_reducible rfl
  change wpAnyH _ _ _ _ _ _ _ (Act.put _ (some 10) _) _
  simp only [Act.put, List.setIfInBounds_toArray, List.set_cons_zero, List.set_cons_succ]
  refine wpAnyH_take (i := 1) (v := ?vv1) rfl (by kernel_rfl) (by kernel_rfl) (by kernel_rfl) (fun _ _ _ h => panic_put (P := Tryd.prog) (fn := Tryd.f11) (R := (Tells P w)) h) (Or.inl ⟨by rfl, ?vy1⟩) (by assumption) ?_
  case vy1 => (intro w hSw; (try dsimp only at hSw); go_simp); try with_reducible rfl
  change wpAnyH _ _ _ _ _ _ _ (Act.put _ (some 11) _) _
  simp only [Act.put, List.setIfInBounds_toArray, List.set_cons_zero, List.set_cons_succ]
  refine wpAnyH_ready (rs := [2]) (by kernel_rfl) (by simp) ?_
  refine AllReadyH.cons (o := _) rfl (fun K hK => ?_) AllReadyH.nil
  go_simp
  refine (rneg_raw (s1 := s2) (e1 := e2) (h2.next' (by rfl))).mono ?_
  rintro en w' ⟨rfl, h3, b⟩
  clear h2
  replace BB := below_next BB BB.size b (by rfl) (by rfl) (by rfl) (by rfl)
  have G := mv b (by rfl) <| And.intro a10 <| And.intro a11 <| And.intro a12 <| And.intro a20 <| And.intro a21 <| And.intro a22 <| And.intro r <| h1
  clear b a10 a11 a12 a20 a21 a22 r h1
  obtain ⟨a10, a11, a12, a20, a21, a22, r, h1⟩ := G
  replace h3 := Rd.next' h3 (w2 := w') rfl
  refine hK.out _ _ (by first | (dsimp only; go_keep) | go_keep) (fun hHeldv1 => ?_)
  clear hK K hHeldv0
  try simp only [Act.put]
  refine wpAnyH_ready (rs := [3]) (by kernel_rfl) (by simp) ?_
  refine AllReadyH.cons (o := _) rfl (fun K hK => ?_) AllReadyH.nil
  go_simp
  refine (raddd_raw HKK.out (h1.next' (by rfl)) (h3.next' (by rfl))).mono ?_
  rintro en w' ⟨k6, s6, A6, n6, c6, m6, e6, rfl, hP', h6, b⟩
  rw [addR_neg, ← HPS.out] at hP'
  have HP := Lib.hid hP'
  clear hP' h1 h3
  replace BB := below_next BB BB.size b (by rfl) (by rfl) (by rfl) (by rfl)
  have G := mv b (by rfl) <| And.intro a10 <| And.intro a11 <| And.intro a12 <| And.intro a20 <| And.intro a21 <| And.intro a22 <| r
  clear b a10 a11 a12 a20 a21 a22 r
  obtain ⟨a10, a11, a12, a20, a21, a22, r⟩ := G
  replace h6 := h6.heap (by rfl)
  obtain ⟨f0, f1, f2⟩ := r.open
  obtain ⟨z0, z1, z2⟩ := r.held
  refine hK.out _ _ (by first | (dsimp only; go_keep) | go_keep) (fun hHeldv2 => ?_)
  clear hK K hHeldv1
  try simp only [Act.put]
  refine wpAnyH_take (i := 4) (v := ?vv4) rfl (by kernel_rfl) (by kernel_rfl) (by kernel_rfl) (fun _ _ _ h => panic_put (P := Tryd.prog) (fn := Tryd.f11) (R := (Tells P w)) h) (Or.inl ⟨by rfl, ?vy4⟩) (by assumption) ?_
  case vy4 => (intro w hSw; (try dsimp only at hSw); go_simp); try with_reducible rfl
  change wpAnyH _ _ _ _ _ _ _ (Act.put _ (some 14) _) _
  simp only [Act.put, List.setIfInBounds_toArray, List.set_cons_zero, List.set_cons_succ]
  refine wpAnyH_take (i := 5) (v := ?vv5) rfl (by kernel_rfl) (by kernel_rfl) (by kernel_rfl) (fun _ _ _ h => panic_put (P := Tryd.prog) (fn := Tryd.f11) (R := (Tells P w)) h) (Or.inl ⟨by rfl, ?vy5⟩) (by assumption) ?_
  case vy5 => (intro w hSw; (try dsimp only at hSw); go_simp); try with_reducible rfl
  change wpAnyH _ _ _ _ _ _ _ (Act.put _ (some 15) _) _
  simp only [Act.put, List.setIfInBounds_toArray, List.set_cons_zero, List.set_cons_succ]
  refine wpAnyH_ready (rs := [6]) (by kernel_rfl) (by simp) ?_
  refine AllReadyH.cons (o := _) rfl (fun K hK => ?_) AllReadyH.nil
  go_simp
  refine hK.out _ _ (by first | (dsimp only; go_keep) | go_keep) (fun hHeldv3 => ?_)
  clear hK K hHeldv2
  try simp only [Act.put]
  refine wpAnyH_take (i := 7) (v := ?vv7) rfl (by kernel_rfl) (by kernel_rfl) (by kernel_rfl) (fun _ _ _ h => panic_put (P := Tryd.prog) (fn := Tryd.f11) (R := (Tells P w)) h) (Or.inl ⟨by rfl, ?vy7⟩) (by assumption) ?_
  case vy7 => (intro w hSw; (try dsimp only at hSw); go_simp); try with_reducible rfl
  change wpAnyH _ _ _ _ _ _ _ (Act.put _ (some 5) _) _
  simp only [Act.put, List.setIfInBounds_toArray, List.set_cons_zero, List.set_cons_succ]
  refine wpAnyH_done (by kernel_rfl) ?_ _
  go_wp2
  have qq := r.put s6 A6 n6 c6 e6
  have hN := h6.put3 r (.bool s6) (.slice A6 n6 c6) (.int .i64 e6)
  have HB3 := below_put3 (g := w.heap.size + 2) BB (by omega) (.bool s6) (.slice A6 n6 c6) (.int .i64 e6)
  obtain ⟨z0, z1, z2⟩ := qq.held
  exact bodyPost_ret (v := .tuple #[.agg #[.bool s6, .slice A6 n6 c6, .int .i64 e6], .int .i64 k6]) (by simp [results, Tryd.results11, go_sem, z0, z1, z2]) rfl ⟨_, _, _, _, _, _, _, rfl, HP.out, hN, HB3⟩

set_option maxRecDepth 100000 in
set_option maxHeartbeats 8000000 in
theorem dasks_few {w : World} {A1 : Option Addr} {n1 c1 : Nat} {l1 : List Nat} {s1 : Bool} {e1 : Int} {A2 : Option Addr} {n2 c2 : Nat} {l2 : List Nat} {s2 : Bool} {e2 : Int} (hT : Tab w) (h1 : Rd w .u64 Go.Proofs.YtdjklanmkjbifaaDoor.W A1 n1 c1 l1) (h2 : Rd w .u64 Go.Proofs.YtdjklanmkjbifaaDoor.W A2 n2 c2 l2) (hn : n1 ≤ 70) (hm : n2 ≤ 70) :
    Calls Tryd.prog 3 #[.agg #[.bool s1, .slice A1 n1 c1, .int .i64 e1], .agg #[.bool s2, .slice A2 n2 c2, .int .i64 e2]] w fun en w' => ToldEnd w en w' := by
  have x1 : n1 ≤ 9223372036854775807 := Nat.le_trans h1.cap h1.max
  have x2 : n2 ≤ 9223372036854775807 := Nat.le_trans h2.cap h2.max
  obtain ⟨K, hK⟩ := scale_has
  have BB := two_below w (.cells #[.bool s1, .slice A1 n1 c1, .int .i64 e1] 24) (.cells #[.bool s2, .slice A2 n2 c2, .int .i64 e2] 24)
  obtain ⟨a10, a11, a12, a20, a21, a22⟩ := (two_new w s1 s2 A1 A2 n1 c1 n2 c2 e1 e2).held
  have G := mv BB rfl <| And.intro hT <| And.intro h1 <| h2
  clear hT h1 h2
  obtain ⟨hT, h1, h2⟩ := G
  go_enter Tryd.func3, Tryd.ntmps3
  go_wp2_with fail
  refine (dfew_any (s := s1) (e := e1) x1).mono ?_
  rintro en w1 ⟨rfl, b⟩
  rw [decide_eq_true hn]
  replace BB := below_next BB BB.size b rfl rfl rfl rfl
  have G := mv b rfl <| And.intro a10 <| And.intro a11 <| And.intro a12 <| And.intro a20 <| And.intro a21 <| And.intro a22 <| And.intro hT <| And.intro h1 <| h2
  clear b a10 a11 a12 a20 a21 a22 hT h1 h2
  obtain ⟨a10, a11, a12, a20, a21, a22, hT, h1, h2⟩ := G
  go_wp2_with fail
  refine (dfew_any (s := s2) (e := e2) x2).mono ?_
  rintro en w2 ⟨rfl, b⟩
  rw [decide_eq_true hm]
  replace BB := below_next BB BB.size b rfl rfl rfl rfl
  have G := mv b rfl <| And.intro a10 <| And.intro a11 <| And.intro a12 <| And.intro a20 <| And.intro a21 <| And.intro a22 <| And.intro hT <| And.intro h1 <| h2
  clear b a10 a11 a12 a20 a21 a22 hT h1 h2
  obtain ⟨a10, a11, a12, a20, a21, a22, hT, h1, h2⟩ := G
  go_wp2_with fail
  refine (dadd_raw hK hT h1 h2).mono ?_
  rintro en v3 ⟨k3, s3, A3, n3, c3, m3, e3, rfl, hp, N3, b⟩
  have P3 := Lib.hid hp
  clear hp
  replace BB := below_next BB BB.size b rfl rfl rfl rfl
  have G := mv b rfl <| And.intro a10 <| And.intro a11 <| And.intro a12 <| And.intro a20 <| And.intro a21 <| And.intro a22 <| And.intro hT <| And.intro h1 <| h2
  clear b a10 a11 a12 a20 a21 a22 hT h1 h2
  obtain ⟨a10, a11, a12, a20, a21, a22, hT, h1, h2⟩ := G
  obtain ⟨a30, a31, a32⟩ := (Box.new v3 s3 A3 n3 c3 e3).held
  have b := below_alloc v3 (.cells #[.bool s3, .slice A3 n3 c3, .int .i64 e3] 24)
  replace BB := below_next BB BB.size b rfl rfl rfl rfl
  have G := mv b rfl <| And.intro a10 <| And.intro a11 <| And.intro a12 <| And.intro a20 <| And.intro a21 <| And.intro a22 <| And.intro hT <| And.intro h1 <| And.intro h2 <| N3
  clear b a10 a11 a12 a20 a21 a22 hT h1 h2 N3
  obtain ⟨a10, a11, a12, a20, a21, a22, hT, h1, h2, N3⟩ := G
  go_wp2_with fail
  refine (raddd_raw hK h1 h2).mono ?_
  rintro en v4 ⟨k4, s4, A4, n4, c4, m4, e4, rfl, hp', N4, b⟩
  obtain ⟨z0, z1, z2, z3⟩ := addR_fun P3.out hp'
  obtain rfl := z0
  obtain rfl := z1
  obtain rfl := z2
  obtain rfl := z3
  clear hp' P3
  replace BB := below_next BB BB.size b rfl rfl rfl rfl
  have G := mv b rfl <| And.intro a10 <| And.intro a11 <| And.intro a12 <| And.intro a20 <| And.intro a21 <| And.intro a22 <| And.intro hT <| And.intro h1 <| And.intro h2 <| And.intro N3 <| And.intro a30 <| And.intro a31 <| a32
  clear b a10 a11 a12 a20 a21 a22 hT h1 h2 N3 a30 a31 a32
  obtain ⟨a10, a11, a12, a20, a21, a22, hT, h1, h2, N3, a30, a31, a32⟩ := G
  obtain ⟨a40, a41, a42⟩ := (Box.new v4 s3 A4 n4 c4 e3).held
  have b := below_alloc v4 (.cells #[.bool s3, .slice A4 n4 c4, .int .i64 e3] 24)
  replace BB := below_next BB BB.size b rfl rfl rfl rfl
  have G := mv b rfl <| And.intro a10 <| And.intro a11 <| And.intro a12 <| And.intro a20 <| And.intro a21 <| And.intro a22 <| And.intro hT <| And.intro h1 <| And.intro h2 <| And.intro N3 <| And.intro a30 <| And.intro a31 <| And.intro a32 <| N4
  clear b a10 a11 a12 a20 a21 a22 hT h1 h2 N3 a30 a31 a32 N4
  obtain ⟨a10, a11, a12, a20, a21, a22, hT, h1, h2, N3, a30, a31, a32, N4⟩ := G
  go_wp2_with fail
  refine (dsub_raw hK hT h1 h2).mono ?_
  rintro en v5 ⟨k5, s5, A5, n5, c5, m5, e5, rfl, hp, N5, b⟩
  have P5 := Lib.hid hp
  clear hp
  replace BB := below_next BB BB.size b rfl rfl rfl rfl
  have G := mv b rfl <| And.intro a10 <| And.intro a11 <| And.intro a12 <| And.intro a20 <| And.intro a21 <| And.intro a22 <| And.intro hT <| And.intro h1 <| And.intro h2 <| And.intro N3 <| And.intro a30 <| And.intro a31 <| And.intro a32 <| And.intro N4 <| And.intro a40 <| And.intro a41 <| a42
  clear b a10 a11 a12 a20 a21 a22 hT h1 h2 N3 a30 a31 a32 N4 a40 a41 a42
  obtain ⟨a10, a11, a12, a20, a21, a22, hT, h1, h2, N3, a30, a31, a32, N4, a40, a41, a42⟩ := G
  obtain ⟨a50, a51, a52⟩ := (Box.new v5 s5 A5 n5 c5 e5).held
  have b := below_alloc v5 (.cells #[.bool s5, .slice A5 n5 c5, .int .i64 e5] 24)
  replace BB := below_next BB BB.size b rfl rfl rfl rfl
  have G := mv b rfl <| And.intro a10 <| And.intro a11 <| And.intro a12 <| And.intro a20 <| And.intro a21 <| And.intro a22 <| And.intro hT <| And.intro h1 <| And.intro h2 <| And.intro N3 <| And.intro a30 <| And.intro a31 <| And.intro a32 <| And.intro N4 <| And.intro a40 <| And.intro a41 <| And.intro a42 <| N5
  clear b a10 a11 a12 a20 a21 a22 hT h1 h2 N3 a30 a31 a32 N4 a40 a41 a42 N5
  obtain ⟨a10, a11, a12, a20, a21, a22, hT, h1, h2, N3, a30, a31, a32, N4, a40, a41, a42, N5⟩ := G
  go_wp2_with fail
  refine (rsubd_raw hK h1 h2).mono ?_
  rintro en v6 ⟨k6, s6, A6, n6, c6, m6, e6, rfl, hp', N6, b⟩
  obtain ⟨z0, z1, z2, z3⟩ := subR_fun P5.out hp'
  obtain rfl := z0
  obtain rfl := z1
  obtain rfl := z2
  obtain rfl := z3
  clear hp' P5
  replace BB := below_next BB BB.size b rfl rfl rfl rfl
  have G := mv b rfl <| And.intro a10 <| And.intro a11 <| And.intro a12 <| And.intro a20 <| And.intro a21 <| And.intro a22 <| And.intro hT <| And.intro h1 <| And.intro h2 <| And.intro N3 <| And.intro a30 <| And.intro a31 <| And.intro a32 <| And.intro N4 <| And.intro a40 <| And.intro a41 <| And.intro a42 <| And.intro N5 <| And.intro a50 <| And.intro a51 <| a52
  clear b a10 a11 a12 a20 a21 a22 hT h1 h2 N3 a30 a31 a32 N4 a40 a41 a42 N5 a50 a51 a52
  obtain ⟨a10, a11, a12, a20, a21, a22, hT, h1, h2, N3, a30, a31, a32, N4, a40, a41, a42, N5, a50, a51, a52⟩ := G
  obtain ⟨a60, a61, a62⟩ := (Box.new v6 s5 A6 n6 c6 e5).held
  have b := below_alloc v6 (.cells #[.bool s5, .slice A6 n6 c6, .int .i64 e5] 24)
  replace BB := below_next BB BB.size b rfl rfl rfl rfl
  have G := mv b rfl <| And.intro a10 <| And.intro a11 <| And.intro a12 <| And.intro a20 <| And.intro a21 <| And.intro a22 <| And.intro hT <| And.intro h1 <| And.intro h2 <| And.intro N3 <| And.intro a30 <| And.intro a31 <| And.intro a32 <| And.intro N4 <| And.intro a40 <| And.intro a41 <| And.intro a42 <| And.intro N5 <| And.intro a50 <| And.intro a51 <| And.intro a52 <| N6
  clear b a10 a11 a12 a20 a21 a22 hT h1 h2 N3 a30 a31 a32 N4 a40 a41 a42 N5 a50 a51 a52 N6
  obtain ⟨a10, a11, a12, a20, a21, a22, hT, h1, h2, N3, a30, a31, a32, N4, a40, a41, a42, N5, a50, a51, a52, N6⟩ := G
  go_wp2_with fail
  refine (dmul_raw hT h1 h2).mono ?_
  rintro en v7 ⟨k7, s7, A7, n7, c7, m7, e7, rfl, hp, N7, b⟩
  have P7 := Lib.hid hp
  clear hp
  replace BB := below_next BB BB.size b rfl rfl rfl rfl
  have G := mv b rfl <| And.intro a10 <| And.intro a11 <| And.intro a12 <| And.intro a20 <| And.intro a21 <| And.intro a22 <| And.intro hT <| And.intro h1 <| And.intro h2 <| And.intro N3 <| And.intro a30 <| And.intro a31 <| And.intro a32 <| And.intro N4 <| And.intro a40 <| And.intro a41 <| And.intro a42 <| And.intro N5 <| And.intro a50 <| And.intro a51 <| And.intro a52 <| And.intro N6 <| And.intro a60 <| And.intro a61 <| a62
  clear b a10 a11 a12 a20 a21 a22 hT h1 h2 N3 a30 a31 a32 N4 a40 a41 a42 N5 a50 a51 a52 N6 a60 a61 a62
  obtain ⟨a10, a11, a12, a20, a21, a22, hT, h1, h2, N3, a30, a31, a32, N4, a40, a41, a42, N5, a50, a51, a52, N6, a60, a61, a62⟩ := G
  obtain ⟨a70, a71, a72⟩ := (Box.new v7 s7 A7 n7 c7 e7).held
  have b := below_alloc v7 (.cells #[.bool s7, .slice A7 n7 c7, .int .i64 e7] 24)
  replace BB := below_next BB BB.size b rfl rfl rfl rfl
  have G := mv b rfl <| And.intro a10 <| And.intro a11 <| And.intro a12 <| And.intro a20 <| And.intro a21 <| And.intro a22 <| And.intro hT <| And.intro h1 <| And.intro h2 <| And.intro N3 <| And.intro a30 <| And.intro a31 <| And.intro a32 <| And.intro N4 <| And.intro a40 <| And.intro a41 <| And.intro a42 <| And.intro N5 <| And.intro a50 <| And.intro a51 <| And.intro a52 <| And.intro N6 <| And.intro a60 <| And.intro a61 <| And.intro a62 <| N7
  clear b a10 a11 a12 a20 a21 a22 hT h1 h2 N3 a30 a31 a32 N4 a40 a41 a42 N5 a50 a51 a52 N6 a60 a61 a62 N7
  obtain ⟨a10, a11, a12, a20, a21, a22, hT, h1, h2, N3, a30, a31, a32, N4, a40, a41, a42, N5, a50, a51, a52, N6, a60, a61, a62, N7⟩ := G
  go_wp2_with fail
  refine (rmuld_raw h1 h2).mono ?_
  rintro en v8 ⟨k8, s8, A8, n8, c8, m8, e8, rfl, hp', N8, b⟩
  obtain ⟨z0, z1, z2, z3⟩ := mulR_fun P7.out hp'
  obtain rfl := z0
  obtain rfl := z1
  obtain rfl := z2
  obtain rfl := z3
  clear hp' P7
  replace BB := below_next BB BB.size b rfl rfl rfl rfl
  have G := mv b rfl <| And.intro a10 <| And.intro a11 <| And.intro a12 <| And.intro a20 <| And.intro a21 <| And.intro a22 <| And.intro hT <| And.intro h1 <| And.intro h2 <| And.intro N3 <| And.intro a30 <| And.intro a31 <| And.intro a32 <| And.intro N4 <| And.intro a40 <| And.intro a41 <| And.intro a42 <| And.intro N5 <| And.intro a50 <| And.intro a51 <| And.intro a52 <| And.intro N6 <| And.intro a60 <| And.intro a61 <| And.intro a62 <| And.intro N7 <| And.intro a70 <| And.intro a71 <| a72
  clear b a10 a11 a12 a20 a21 a22 hT h1 h2 N3 a30 a31 a32 N4 a40 a41 a42 N5 a50 a51 a52 N6 a60 a61 a62 N7 a70 a71 a72
  obtain ⟨a10, a11, a12, a20, a21, a22, hT, h1, h2, N3, a30, a31, a32, N4, a40, a41, a42, N5, a50, a51, a52, N6, a60, a61, a62, N7, a70, a71, a72⟩ := G
  obtain ⟨a80, a81, a82⟩ := (Box.new v8 s7 A8 n8 c8 e7).held
  have b := below_alloc v8 (.cells #[.bool s7, .slice A8 n8 c8, .int .i64 e7] 24)
  replace BB := below_next BB BB.size b rfl rfl rfl rfl
  have G := mv b rfl <| And.intro a10 <| And.intro a11 <| And.intro a12 <| And.intro a20 <| And.intro a21 <| And.intro a22 <| And.intro hT <| And.intro h1 <| And.intro h2 <| And.intro N3 <| And.intro a30 <| And.intro a31 <| And.intro a32 <| And.intro N4 <| And.intro a40 <| And.intro a41 <| And.intro a42 <| And.intro N5 <| And.intro a50 <| And.intro a51 <| And.intro a52 <| And.intro N6 <| And.intro a60 <| And.intro a61 <| And.intro a62 <| And.intro N7 <| And.intro a70 <| And.intro a71 <| And.intro a72 <| N8
  clear b a10 a11 a12 a20 a21 a22 hT h1 h2 N3 a30 a31 a32 N4 a40 a41 a42 N5 a50 a51 a52 N6 a60 a61 a62 N7 a70 a71 a72 N8
  obtain ⟨a10, a11, a12, a20, a21, a22, hT, h1, h2, N3, a30, a31, a32, N4, a40, a41, a42, N5, a50, a51, a52, N6, a60, a61, a62, N7, a70, a71, a72, N8⟩ := G
  obtain ⟨z1, hz1⟩ : ∃ z, cmpR K s1 l1 e1 s2 l2 e2 = z := ⟨_, rfl⟩
  have Z1 := Lib.hid hz1
  have fz1 : (z1 == z1) = true := by simp
  obtain ⟨z2, hz2⟩ : ∃ z, signR s1 l1 e1 = z := ⟨_, rfl⟩
  have Z2 := Lib.hid hz2
  have fz2 : (z2 == z2) = true := by simp
  obtain ⟨z3, hz3⟩ : ∃ z, sameB s1 s2 l1 l2 e1 e2 = z := ⟨_, rfl⟩
  have Z3 := Lib.hid hz3
  have fz3 : (z3 == z3) = true := by simp
  obtain ⟨z4, hz4⟩ : ∃ z, mayD s1 l1 e1 = z := ⟨_, rfl⟩
  have Z4 := Lib.hid hz4
  have fz4 : (z4 == z4) = true := by simp
  have HKK := Lib.hid hK
  have HNN := Lib.hid (show n1 ≤ 10000000000000 by omega)
  clear hz1 hz2 hz3 hz4 hK hn hm x1 x2
  go_wp2_with fail
  have b : Below ((v8.alloc (.cells #[.bool s7, .slice A8 n8 c8, .int .i64 e7] 24))).heap.size (v8.alloc (.cells #[.bool s7, .slice A8 n8 c8, .int .i64 e7] 24)) (World.drew (v8.alloc (.cells #[.bool s7, .slice A8 n8 c8, .int .i64 e7] 24))) := below_drewN (Below.refl _ _) 1
  replace BB := below_next BB BB.size b rfl rfl rfl rfl
  have G := mv b rfl <| And.intro a10 <| And.intro a11 <| And.intro a12 <| And.intro a20 <| And.intro a21 <| And.intro a22 <| And.intro hT <| And.intro h1 <| And.intro h2 <| And.intro N3 <| And.intro a30 <| And.intro a31 <| And.intro a32 <| And.intro N4 <| And.intro a40 <| And.intro a41 <| And.intro a42 <| And.intro N5 <| And.intro a50 <| And.intro a51 <| And.intro a52 <| And.intro N6 <| And.intro a60 <| And.intro a61 <| And.intro a62 <| And.intro N7 <| And.intro a70 <| And.intro a71 <| And.intro a72 <| And.intro N8 <| And.intro a80 <| And.intro a81 <| a82
  clear b a10 a11 a12 a20 a21 a22 hT h1 h2 N3 a30 a31 a32 N4 a40 a41 a42 N5 a50 a51 a52 N6 a60 a61 a62 N7 a70 a71 a72 N8 a80 a81 a82
  obtain ⟨a10, a11, a12, a20, a21, a22, hT, h1, h2, N3, a30, a31, a32, N4, a40, a41, a42, N5, a50, a51, a52, N6, a60, a61, a62, N7, a70, a71, a72, N8, a80, a81, a82⟩ := G
  refine wp_region_held_drew (S := fun w' => w'.cell? ⟨w.heap.size, 0, none⟩ = some (.bool s1) ∧ w'.cell? ⟨w.heap.size, 1, none⟩ = some (.slice A1 n1 c1) ∧ w'.cell? ⟨w.heap.size, 2, none⟩ = some (.int .i64 e1) ∧ w'.cell? ⟨(w.heap.size + 1), 0, none⟩ = some (.bool s2) ∧ w'.cell? ⟨(w.heap.size + 1), 1, none⟩ = some (.slice A2 n2 c2) ∧ w'.cell? ⟨(w.heap.size + 1), 2, none⟩ = some (.int .i64 e2) ∧ w'.cell? ⟨v3.heap.size, 0, none⟩ = some (.bool s3) ∧ w'.cell? ⟨v3.heap.size, 1, none⟩ = some (.slice A3 n3 c3) ∧ w'.cell? ⟨v3.heap.size, 2, none⟩ = some (.int .i64 e3) ∧ w'.cell? ⟨v4.heap.size, 0, none⟩ = some (.bool s3) ∧ w'.cell? ⟨v4.heap.size, 1, none⟩ = some (.slice A4 n4 c4) ∧ w'.cell? ⟨v4.heap.size, 2, none⟩ = some (.int .i64 e3) ∧ w'.cell? ⟨v5.heap.size, 0, none⟩ = some (.bool s5) ∧ w'.cell? ⟨v5.heap.size, 1, none⟩ = some (.slice A5 n5 c5) ∧ w'.cell? ⟨v5.heap.size, 2, none⟩ = some (.int .i64 e5) ∧ w'.cell? ⟨v6.heap.size, 0, none⟩ = some (.bool s5) ∧ w'.cell? ⟨v6.heap.size, 1, none⟩ = some (.slice A6 n6 c6) ∧ w'.cell? ⟨v6.heap.size, 2, none⟩ = some (.int .i64 e5) ∧ w'.cell? ⟨v7.heap.size, 0, none⟩ = some (.bool s7) ∧ w'.cell? ⟨v7.heap.size, 1, none⟩ = some (.slice A7 n7 c7) ∧ w'.cell? ⟨v7.heap.size, 2, none⟩ = some (.int .i64 e7) ∧ w'.cell? ⟨v8.heap.size, 0, none⟩ = some (.bool s7) ∧ w'.cell? ⟨v8.heap.size, 1, none⟩ = some (.slice A8 n8 c8) ∧ w'.cell? ⟨v8.heap.size, 2, none⟩ = some (.int .i64 e7)) (by kernel_rfl) (by exact ⟨a10, a11, a12, a20, a21, a22, a30, a31, a32, a40, a41, a42, a50, a51, a52, a60, a61, a62, a70, a71, a72, a80, a81, a82⟩) (fun hHeldv0 => ?_)
  generalize World.drew (v8.alloc (.cells #[.bool s7, .slice A8 n8 c8, .int .i64 e7] 24)) = wd at *
  refine wpAnyH_ready (rs := [0]) (by kernel_rfl) (by simp) ?_
  refine AllReadyH.cons (o := _) rfl (fun K hK => ?_) AllReadyH.nil
  go_simp
  refine (dtold_any hT).mono ?_
  rintro en w' ⟨rfl, b⟩
  replace BB := below_next BB BB.size b (by rfl) (by rfl) (by rfl) (by rfl)
  have G := mv b (by rfl) <| And.intro a10 <| And.intro a11 <| And.intro a12 <| And.intro a20 <| And.intro a21 <| And.intro a22 <| And.intro hT <| And.intro h1 <| And.intro h2 <| And.intro N3 <| And.intro a30 <| And.intro a31 <| And.intro a32 <| And.intro N4 <| And.intro a40 <| And.intro a41 <| And.intro a42 <| And.intro N5 <| And.intro a50 <| And.intro a51 <| And.intro a52 <| And.intro N6 <| And.intro a60 <| And.intro a61 <| And.intro a62 <| And.intro N7 <| And.intro a70 <| And.intro a71 <| And.intro a72 <| And.intro N8 <| And.intro a80 <| And.intro a81 <| a82
  clear b a10 a11 a12 a20 a21 a22 hT h1 h2 N3 a30 a31 a32 N4 a40 a41 a42 N5 a50 a51 a52 N6 a60 a61 a62 N7 a70 a71 a72 N8 a80 a81 a82
  obtain ⟨a10, a11, a12, a20, a21, a22, hT, h1, h2, N3, a30, a31, a32, N4, a40, a41, a42, N5, a50, a51, a52, N6, a60, a61, a62, N7, a70, a71, a72, N8, a80, a81, a82⟩ := G
  refine hK.out _ _ (by exact ⟨a10, a11, a12, a20, a21, a22, a30, a31, a32, a40, a41, a42, a50, a51, a52, a60, a61, a62, a70, a71, a72, a80, a81, a82⟩) (fun hHeldv1 => ?_)
  clear hK K hHeldv0
  try simp only [Act.put]
  refine wpAnyH_take (i := 1) (v := ?vv1) rfl (by kernel_rfl) (by kernel_rfl) (by kernel_rfl) (fun _ _ _ h => panic_put (P := Tryd.prog) (fn := Tryd.f3) (R := (fun en w' => ToldEnd w en w')) h) (Or.inl ⟨by rfl, ?vy1⟩) (by assumption) ?_
  case vy1 => (intro w hSw; (try dsimp only at hSw); go_simp); try with_reducible rfl
  change wpAnyH _ _ _ _ _ _ _ (Act.put _ (some 63) _) _
  simp only [Act.put, List.setIfInBounds_toArray, List.set_cons_zero, List.set_cons_succ]
  refine wpAnyH_take (i := 2) (v := ?vv2) rfl (by kernel_rfl) (by kernel_rfl) (by kernel_rfl) (fun _ _ _ h => panic_put (P := Tryd.prog) (fn := Tryd.f3) (R := (fun en w' => ToldEnd w en w')) h) (Or.inl ⟨by rfl, ?vy2⟩) (by assumption) ?_
  case vy2 => (intro w hSw; (try dsimp only at hSw); go_simp); try with_reducible rfl
  change wpAnyH _ _ _ _ _ _ _ (Act.put _ (some 64) _) _
  simp only [Act.put, List.setIfInBounds_toArray, List.set_cons_zero, List.set_cons_succ]
  refine wpAnyH_take (i := 4) (v := ?vv4) rfl (by kernel_rfl) (by kernel_rfl) (by kernel_rfl) (fun _ _ _ h => panic_put (P := Tryd.prog) (fn := Tryd.f3) (R := (fun en w' => ToldEnd w en w')) h) (Or.inl ⟨by rfl, ?vy4⟩) (by assumption) ?_
  case vy4 => (intro w hSw; (try dsimp only at hSw); go_simp); try with_reducible rfl
  change wpAnyH _ _ _ _ _ _ _ (Act.put _ (some 66) _) _
  simp only [Act.put, List.setIfInBounds_toArray, List.set_cons_zero, List.set_cons_succ]
  refine wpAnyH_ready (rs := [3]) (by kernel_rfl) (by simp) ?_
  refine AllReadyH.cons (o := _) rfl (fun K hK => ?_) AllReadyH.nil
  go_simp
  refine (dmay_any (s := s1) (e := e1) hT h1).mono ?_
  rintro en w' ⟨rfl, b⟩
  rw [Z4.out]
  replace BB := below_next BB BB.size b (by rfl) (by rfl) (by rfl) (by rfl)
  have G := mv b (by rfl) <| And.intro a10 <| And.intro a11 <| And.intro a12 <| And.intro a20 <| And.intro a21 <| And.intro a22 <| And.intro hT <| And.intro h1 <| And.intro h2 <| And.intro N3 <| And.intro a30 <| And.intro a31 <| And.intro a32 <| And.intro N4 <| And.intro a40 <| And.intro a41 <| And.intro a42 <| And.intro N5 <| And.intro a50 <| And.intro a51 <| And.intro a52 <| And.intro N6 <| And.intro a60 <| And.intro a61 <| And.intro a62 <| And.intro N7 <| And.intro a70 <| And.intro a71 <| And.intro a72 <| And.intro N8 <| And.intro a80 <| And.intro a81 <| a82
  clear b a10 a11 a12 a20 a21 a22 hT h1 h2 N3 a30 a31 a32 N4 a40 a41 a42 N5 a50 a51 a52 N6 a60 a61 a62 N7 a70 a71 a72 N8 a80 a81 a82
  obtain ⟨a10, a11, a12, a20, a21, a22, hT, h1, h2, N3, a30, a31, a32, N4, a40, a41, a42, N5, a50, a51, a52, N6, a60, a61, a62, N7, a70, a71, a72, N8, a80, a81, a82⟩ := G
  refine hK.out _ _ (by exact ⟨a10, a11, a12, a20, a21, a22, a30, a31, a32, a40, a41, a42, a50, a51, a52, a60, a61, a62, a70, a71, a72, a80, a81, a82⟩) (fun hHeldv2 => ?_)
  clear hK K hHeldv1
  try simp only [Act.put]
  refine wpAnyH_ready (rs := [5]) (by kernel_rfl) (by simp) ?_
  refine AllReadyH.cons (o := _) rfl (fun K hK => ?_) AllReadyH.nil
  go_simp
  refine (rmayd_any (s := s1) (e := e1) h1).mono ?_
  rintro en w' ⟨rfl, b⟩
  rw [Z4.out]
  replace BB := below_next BB BB.size b (by rfl) (by rfl) (by rfl) (by rfl)
  have G := mv b (by rfl) <| And.intro a10 <| And.intro a11 <| And.intro a12 <| And.intro a20 <| And.intro a21 <| And.intro a22 <| And.intro hT <| And.intro h1 <| And.intro h2 <| And.intro N3 <| And.intro a30 <| And.intro a31 <| And.intro a32 <| And.intro N4 <| And.intro a40 <| And.intro a41 <| And.intro a42 <| And.intro N5 <| And.intro a50 <| And.intro a51 <| And.intro a52 <| And.intro N6 <| And.intro a60 <| And.intro a61 <| And.intro a62 <| And.intro N7 <| And.intro a70 <| And.intro a71 <| And.intro a72 <| And.intro N8 <| And.intro a80 <| And.intro a81 <| a82
  clear b a10 a11 a12 a20 a21 a22 hT h1 h2 N3 a30 a31 a32 N4 a40 a41 a42 N5 a50 a51 a52 N6 a60 a61 a62 N7 a70 a71 a72 N8 a80 a81 a82
  obtain ⟨a10, a11, a12, a20, a21, a22, hT, h1, h2, N3, a30, a31, a32, N4, a40, a41, a42, N5, a50, a51, a52, N6, a60, a61, a62, N7, a70, a71, a72, N8, a80, a81, a82⟩ := G
  refine hK.out _ _ (by exact ⟨a10, a11, a12, a20, a21, a22, a30, a31, a32, a40, a41, a42, a50, a51, a52, a60, a61, a62, a70, a71, a72, a80, a81, a82⟩) (fun hHeldv3 => ?_)
  clear hK K hHeldv2
  try simp only [Act.put]
  refine wpAnyH_take (i := 6) (v := ?vv6) rfl (by kernel_rfl) (by kernel_rfl) (by kernel_rfl) (fun _ _ _ h => panic_put (P := Tryd.prog) (fn := Tryd.f3) (R := (fun en w' => ToldEnd w en w')) h) (Or.inl ⟨by rfl, ?vy6⟩) (by assumption) ?_
  case vy6 => (intro w hSw; (try dsimp only at hSw); go_simp; (try simp only [fz1, fz2, fz3, fz4])); try with_reducible rfl
  change wpAnyH _ _ _ _ _ _ _ (Act.put _ (some 68) _) _
  simp only [Act.put, List.setIfInBounds_toArray, List.set_cons_zero, List.set_cons_succ]
  refine wpAnyH_take (i := 7) (v := ?vv7) rfl (by kernel_rfl) (by kernel_rfl) (by kernel_rfl) (fun _ _ _ h => panic_put (P := Tryd.prog) (fn := Tryd.f3) (R := (fun en w' => ToldEnd w en w')) h) (Or.inl ⟨by rfl, ?vy7⟩) (by assumption) ?_
  case vy7 => (intro w hSw; (try dsimp only at hSw); go_simp); try with_reducible rfl
  change wpAnyH _ _ _ _ _ _ _ (Act.put _ (some 69) _) _
  simp only [Act.put, List.setIfInBounds_toArray, List.set_cons_zero, List.set_cons_succ]
  refine wpAnyH_take (i := 8) (v := ?vv8) rfl (by kernel_rfl) (by kernel_rfl) (by kernel_rfl) (fun _ _ _ h => panic_put (P := Tryd.prog) (fn := Tryd.f3) (R := (fun en w' => ToldEnd w en w')) h) (Or.inl ⟨by rfl, ?vy8⟩) (by assumption) ?_
  case vy8 => (intro w hSw; (try dsimp only at hSw); go_simp); try with_reducible rfl
  change wpAnyH _ _ _ _ _ _ _ (Act.put _ (some 70) _) _
  simp only [Act.put, List.setIfInBounds_toArray, List.set_cons_zero, List.set_cons_succ]
  refine wpAnyH_take (i := 9) (v := ?vv9) rfl (by kernel_rfl) (by kernel_rfl) (by kernel_rfl) (fun _ _ _ h => panic_put (P := Tryd.prog) (fn := Tryd.f3) (R := (fun en w' => ToldEnd w en w')) h) (Or.inl ⟨by rfl, ?vy9⟩) (by assumption) ?_
  case vy9 => (intro w hSw; (try dsimp only at hSw); go_simp); try with_reducible rfl
  change wpAnyH _ _ _ _ _ _ _ (Act.put _ (some 71) _) _
  simp only [Act.put, List.setIfInBounds_toArray, List.set_cons_zero, List.set_cons_succ]
  refine wpAnyH_take (i := 10) (v := ?vv10) rfl (by kernel_rfl) (by kernel_rfl) (by kernel_rfl) (fun _ _ _ h => panic_put (P := Tryd.prog) (fn := Tryd.f3) (R := (fun en w' => ToldEnd w en w')) h) (Or.inl ⟨by rfl, ?vy10⟩) (by assumption) ?_
  case vy10 => (intro w hSw; (try dsimp only at hSw); go_simp); try with_reducible rfl
  change wpAnyH _ _ _ _ _ _ _ (Act.put _ (some 72) _) _
  simp only [Act.put, List.setIfInBounds_toArray, List.set_cons_zero, List.set_cons_succ]
  refine wpAnyH_take (i := 11) (v := ?vv11) rfl (by kernel_rfl) (by kernel_rfl) (by kernel_rfl) (fun _ _ _ h => panic_put (P := Tryd.prog) (fn := Tryd.f3) (R := (fun en w' => ToldEnd w en w')) h) (Or.inl ⟨by rfl, ?vy11⟩) (by assumption) ?_
  case vy11 => (intro w hSw; (try dsimp only at hSw); go_simp); try with_reducible rfl
  change wpAnyH _ _ _ _ _ _ _ (Act.put _ (some 73) _) _
  simp only [Act.put, List.setIfInBounds_toArray, List.set_cons_zero, List.set_cons_succ]
  refine wpAnyH_take (i := 12) (v := ?vv12) rfl (by kernel_rfl) (by kernel_rfl) (by kernel_rfl) (fun _ _ _ h => panic_put (P := Tryd.prog) (fn := Tryd.f3) (R := (fun en w' => ToldEnd w en w')) h) (Or.inl ⟨by rfl, ?vy12⟩) (by assumption) ?_
  case vy12 => (intro w hSw; (try dsimp only at hSw); go_simp); try with_reducible rfl
  change wpAnyH _ _ _ _ _ _ _ (Act.put _ (some 74) _) _
  simp only [Act.put, List.setIfInBounds_toArray, List.set_cons_zero, List.set_cons_succ]
  refine wpAnyH_ready (rs := [13]) (by kernel_rfl) (by simp) ?_
  refine AllReadyH.cons (o := _) rfl (fun K hK => ?_) AllReadyH.nil
  go_simp
  refine (same2_self (s := s3) (e := e3) (k := k3) N3 N4).mono ?_
  rintro en w' ⟨rfl, b⟩
  clear N3
  clear N4
  replace BB := below_next BB BB.size b (by rfl) (by rfl) (by rfl) (by rfl)
  have G := mv b (by rfl) <| And.intro a10 <| And.intro a11 <| And.intro a12 <| And.intro a20 <| And.intro a21 <| And.intro a22 <| And.intro hT <| And.intro h1 <| And.intro h2 <| And.intro a30 <| And.intro a31 <| And.intro a32 <| And.intro a40 <| And.intro a41 <| And.intro a42 <| And.intro N5 <| And.intro a50 <| And.intro a51 <| And.intro a52 <| And.intro N6 <| And.intro a60 <| And.intro a61 <| And.intro a62 <| And.intro N7 <| And.intro a70 <| And.intro a71 <| And.intro a72 <| And.intro N8 <| And.intro a80 <| And.intro a81 <| a82
  clear b a10 a11 a12 a20 a21 a22 hT h1 h2 a30 a31 a32 a40 a41 a42 N5 a50 a51 a52 N6 a60 a61 a62 N7 a70 a71 a72 N8 a80 a81 a82
  obtain ⟨a10, a11, a12, a20, a21, a22, hT, h1, h2, a30, a31, a32, a40, a41, a42, N5, a50, a51, a52, N6, a60, a61, a62, N7, a70, a71, a72, N8, a80, a81, a82⟩ := G
  refine hK.out _ _ (by exact ⟨a10, a11, a12, a20, a21, a22, a30, a31, a32, a40, a41, a42, a50, a51, a52, a60, a61, a62, a70, a71, a72, a80, a81, a82⟩) (fun hHeldv4 => ?_)
  clear hK K hHeldv3
  try simp only [Act.put]
  refine wpAnyH_take (i := 14) (v := ?vv14) rfl (by kernel_rfl) (by kernel_rfl) (by kernel_rfl) (fun _ _ _ h => panic_put (P := Tryd.prog) (fn := Tryd.f3) (R := (fun en w' => ToldEnd w en w')) h) (Or.inl ⟨by rfl, ?vy14⟩) (by assumption) ?_
  case vy14 => (intro w hSw; (try dsimp only at hSw); go_simp); try with_reducible rfl
  change wpAnyH _ _ _ _ _ _ _ (Act.put _ (some 76) _) _
  simp only [Act.put, List.setIfInBounds_toArray, List.set_cons_zero, List.set_cons_succ]
  refine wpAnyH_take (i := 15) (v := ?vv15) rfl (by kernel_rfl) (by kernel_rfl) (by kernel_rfl) (fun _ _ _ h => panic_put (P := Tryd.prog) (fn := Tryd.f3) (R := (fun en w' => ToldEnd w en w')) h) (Or.inl ⟨by rfl, ?vy15⟩) (by assumption) ?_
  case vy15 => (intro w hSw; (try dsimp only at hSw); go_simp); try with_reducible rfl
  change wpAnyH _ _ _ _ _ _ _ (Act.put _ (some 77) _) _
  simp only [Act.put, List.setIfInBounds_toArray, List.set_cons_zero, List.set_cons_succ]
  refine wpAnyH_take (i := 16) (v := ?vv16) rfl (by kernel_rfl) (by kernel_rfl) (by kernel_rfl) (fun _ _ _ h => panic_put (P := Tryd.prog) (fn := Tryd.f3) (R := (fun en w' => ToldEnd w en w')) h) (Or.inl ⟨by rfl, ?vy16⟩) (by assumption) ?_
  case vy16 => (intro w hSw; (try dsimp only at hSw); go_simp); try with_reducible rfl
  change wpAnyH _ _ _ _ _ _ _ (Act.put _ (some 78) _) _
  simp only [Act.put, List.setIfInBounds_toArray, List.set_cons_zero, List.set_cons_succ]
  refine wpAnyH_take (i := 17) (v := ?vv17) rfl (by kernel_rfl) (by kernel_rfl) (by kernel_rfl) (fun _ _ _ h => panic_put (P := Tryd.prog) (fn := Tryd.f3) (R := (fun en w' => ToldEnd w en w')) h) (Or.inl ⟨by rfl, ?vy17⟩) (by assumption) ?_
  case vy17 => (intro w hSw; (try dsimp only at hSw); go_simp); try with_reducible rfl
  change wpAnyH _ _ _ _ _ _ _ (Act.put _ (some 79) _) _
  simp only [Act.put, List.setIfInBounds_toArray, List.set_cons_zero, List.set_cons_succ]
  refine wpAnyH_take (i := 18) (v := ?vv18) rfl (by kernel_rfl) (by kernel_rfl) (by kernel_rfl) (fun _ _ _ h => panic_put (P := Tryd.prog) (fn := Tryd.f3) (R := (fun en w' => ToldEnd w en w')) h) (Or.inl ⟨by rfl, ?vy18⟩) (by assumption) ?_
  case vy18 => (intro w hSw; (try dsimp only at hSw); go_simp); try with_reducible rfl
  change wpAnyH _ _ _ _ _ _ _ (Act.put _ (some 80) _) _
  simp only [Act.put, List.setIfInBounds_toArray, List.set_cons_zero, List.set_cons_succ]
  refine wpAnyH_take (i := 19) (v := ?vv19) rfl (by kernel_rfl) (by kernel_rfl) (by kernel_rfl) (fun _ _ _ h => panic_put (P := Tryd.prog) (fn := Tryd.f3) (R := (fun en w' => ToldEnd w en w')) h) (Or.inl ⟨by rfl, ?vy19⟩) (by assumption) ?_
  case vy19 => (intro w hSw; (try dsimp only at hSw); go_simp); try with_reducible rfl
  change wpAnyH _ _ _ _ _ _ _ (Act.put _ (some 81) _) _
  simp only [Act.put, List.setIfInBounds_toArray, List.set_cons_zero, List.set_cons_succ]
  refine wpAnyH_ready (rs := [20]) (by kernel_rfl) (by simp) ?_
  refine AllReadyH.cons (o := _) rfl (fun K hK => ?_) AllReadyH.nil
  go_simp
  refine (same2_self (s := s5) (e := e5) (k := k5) N5 N6).mono ?_
  rintro en w' ⟨rfl, b⟩
  clear N5
  clear N6
  replace BB := below_next BB BB.size b (by rfl) (by rfl) (by rfl) (by rfl)
  have G := mv b (by rfl) <| And.intro a10 <| And.intro a11 <| And.intro a12 <| And.intro a20 <| And.intro a21 <| And.intro a22 <| And.intro hT <| And.intro h1 <| And.intro h2 <| And.intro a30 <| And.intro a31 <| And.intro a32 <| And.intro a40 <| And.intro a41 <| And.intro a42 <| And.intro a50 <| And.intro a51 <| And.intro a52 <| And.intro a60 <| And.intro a61 <| And.intro a62 <| And.intro N7 <| And.intro a70 <| And.intro a71 <| And.intro a72 <| And.intro N8 <| And.intro a80 <| And.intro a81 <| a82
  clear b a10 a11 a12 a20 a21 a22 hT h1 h2 a30 a31 a32 a40 a41 a42 a50 a51 a52 a60 a61 a62 N7 a70 a71 a72 N8 a80 a81 a82
  obtain ⟨a10, a11, a12, a20, a21, a22, hT, h1, h2, a30, a31, a32, a40, a41, a42, a50, a51, a52, a60, a61, a62, N7, a70, a71, a72, N8, a80, a81, a82⟩ := G
  refine hK.out _ _ (by exact ⟨a10, a11, a12, a20, a21, a22, a30, a31, a32, a40, a41, a42, a50, a51, a52, a60, a61, a62, a70, a71, a72, a80, a81, a82⟩) (fun hHeldv5 => ?_)
  clear hK K hHeldv4
  try simp only [Act.put]
  refine wpAnyH_take (i := 21) (v := ?vv21) rfl (by kernel_rfl) (by kernel_rfl) (by kernel_rfl) (fun _ _ _ h => panic_put (P := Tryd.prog) (fn := Tryd.f3) (R := (fun en w' => ToldEnd w en w')) h) (Or.inl ⟨by rfl, ?vy21⟩) (by assumption) ?_
  case vy21 => (intro w hSw; (try dsimp only at hSw); go_simp); try with_reducible rfl
  change wpAnyH _ _ _ _ _ _ _ (Act.put _ (some 83) _) _
  simp only [Act.put, List.setIfInBounds_toArray, List.set_cons_zero, List.set_cons_succ]
  refine wpAnyH_take (i := 22) (v := ?vv22) rfl (by kernel_rfl) (by kernel_rfl) (by kernel_rfl) (fun _ _ _ h => panic_put (P := Tryd.prog) (fn := Tryd.f3) (R := (fun en w' => ToldEnd w en w')) h) (Or.inl ⟨by rfl, ?vy22⟩) (by assumption) ?_
  case vy22 => (intro w hSw; (try dsimp only at hSw); go_simp); try with_reducible rfl
  change wpAnyH _ _ _ _ _ _ _ (Act.put _ (some 84) _) _
  simp only [Act.put, List.setIfInBounds_toArray, List.set_cons_zero, List.set_cons_succ]
  refine wpAnyH_take (i := 23) (v := ?vv23) rfl (by kernel_rfl) (by kernel_rfl) (by kernel_rfl) (fun _ _ _ h => panic_put (P := Tryd.prog) (fn := Tryd.f3) (R := (fun en w' => ToldEnd w en w')) h) (Or.inl ⟨by rfl, ?vy23⟩) (by assumption) ?_
  case vy23 => (intro w hSw; (try dsimp only at hSw); go_simp); try with_reducible rfl
  change wpAnyH _ _ _ _ _ _ _ (Act.put _ (some 85) _) _
  simp only [Act.put, List.setIfInBounds_toArray, List.set_cons_zero, List.set_cons_succ]
  refine wpAnyH_take (i := 24) (v := ?vv24) rfl (by kernel_rfl) (by kernel_rfl) (by kernel_rfl) (fun _ _ _ h => panic_put (P := Tryd.prog) (fn := Tryd.f3) (R := (fun en w' => ToldEnd w en w')) h) (Or.inl ⟨by rfl, ?vy24⟩) (by assumption) ?_
  case vy24 => (intro w hSw; (try dsimp only at hSw); go_simp); try with_reducible rfl
  change wpAnyH _ _ _ _ _ _ _ (Act.put _ (some 86) _) _
  simp only [Act.put, List.setIfInBounds_toArray, List.set_cons_zero, List.set_cons_succ]
  refine wpAnyH_take (i := 25) (v := ?vv25) rfl (by kernel_rfl) (by kernel_rfl) (by kernel_rfl) (fun _ _ _ h => panic_put (P := Tryd.prog) (fn := Tryd.f3) (R := (fun en w' => ToldEnd w en w')) h) (Or.inl ⟨by rfl, ?vy25⟩) (by assumption) ?_
  case vy25 => (intro w hSw; (try dsimp only at hSw); go_simp); try with_reducible rfl
  change wpAnyH _ _ _ _ _ _ _ (Act.put _ (some 87) _) _
  simp only [Act.put, List.setIfInBounds_toArray, List.set_cons_zero, List.set_cons_succ]
  refine wpAnyH_take (i := 26) (v := ?vv26) rfl (by kernel_rfl) (by kernel_rfl) (by kernel_rfl) (fun _ _ _ h => panic_put (P := Tryd.prog) (fn := Tryd.f3) (R := (fun en w' => ToldEnd w en w')) h) (Or.inl ⟨by rfl, ?vy26⟩) (by assumption) ?_
  case vy26 => (intro w hSw; (try dsimp only at hSw); go_simp); try with_reducible rfl
  change wpAnyH _ _ _ _ _ _ _ (Act.put _ (some 88) _) _
  simp only [Act.put, List.setIfInBounds_toArray, List.set_cons_zero, List.set_cons_succ]
  refine wpAnyH_ready (rs := [27]) (by kernel_rfl) (by simp) ?_
  refine AllReadyH.cons (o := _) rfl (fun K hK => ?_) AllReadyH.nil
  go_simp
  refine (same2_self (s := s7) (e := e7) (k := k7) N7 N8).mono ?_
  rintro en w' ⟨rfl, b⟩
  clear N7
  clear N8
  replace BB := below_next BB BB.size b (by rfl) (by rfl) (by rfl) (by rfl)
  have G := mv b (by rfl) <| And.intro a10 <| And.intro a11 <| And.intro a12 <| And.intro a20 <| And.intro a21 <| And.intro a22 <| And.intro hT <| And.intro h1 <| And.intro h2 <| And.intro a30 <| And.intro a31 <| And.intro a32 <| And.intro a40 <| And.intro a41 <| And.intro a42 <| And.intro a50 <| And.intro a51 <| And.intro a52 <| And.intro a60 <| And.intro a61 <| And.intro a62 <| And.intro a70 <| And.intro a71 <| And.intro a72 <| And.intro a80 <| And.intro a81 <| a82
  clear b a10 a11 a12 a20 a21 a22 hT h1 h2 a30 a31 a32 a40 a41 a42 a50 a51 a52 a60 a61 a62 a70 a71 a72 a80 a81 a82
  obtain ⟨a10, a11, a12, a20, a21, a22, hT, h1, h2, a30, a31, a32, a40, a41, a42, a50, a51, a52, a60, a61, a62, a70, a71, a72, a80, a81, a82⟩ := G
  refine hK.out _ _ (by exact ⟨a10, a11, a12, a20, a21, a22, a30, a31, a32, a40, a41, a42, a50, a51, a52, a60, a61, a62, a70, a71, a72, a80, a81, a82⟩) (fun hHeldv6 => ?_)
  clear hK K hHeldv5
  try simp only [Act.put]
  refine wpAnyH_take (i := 28) (v := ?vv28) rfl (by kernel_rfl) (by kernel_rfl) (by kernel_rfl) (fun _ _ _ h => panic_put (P := Tryd.prog) (fn := Tryd.f3) (R := (fun en w' => ToldEnd w en w')) h) (Or.inl ⟨by rfl, ?vy28⟩) (by assumption) ?_
  case vy28 => (intro w hSw; (try dsimp only at hSw); go_simp); try with_reducible rfl
  change wpAnyH _ _ _ _ _ _ _ (Act.put _ (some 90) _) _
  simp only [Act.put, List.setIfInBounds_toArray, List.set_cons_zero, List.set_cons_succ]
  refine wpAnyH_take (i := 29) (v := ?vv29) rfl (by kernel_rfl) (by kernel_rfl) (by kernel_rfl) (fun _ _ _ h => panic_put (P := Tryd.prog) (fn := Tryd.f3) (R := (fun en w' => ToldEnd w en w')) h) (Or.inl ⟨by rfl, ?vy29⟩) (by assumption) ?_
  case vy29 => (intro w hSw; (try dsimp only at hSw); go_simp); try with_reducible rfl
  change wpAnyH _ _ _ _ _ _ _ (Act.put _ (some 91) _) _
  simp only [Act.put, List.setIfInBounds_toArray, List.set_cons_zero, List.set_cons_succ]
  refine wpAnyH_take (i := 30) (v := ?vv30) rfl (by kernel_rfl) (by kernel_rfl) (by kernel_rfl) (fun _ _ _ h => panic_put (P := Tryd.prog) (fn := Tryd.f3) (R := (fun en w' => ToldEnd w en w')) h) (Or.inl ⟨by rfl, ?vy30⟩) (by assumption) ?_
  case vy30 => (intro w hSw; (try dsimp only at hSw); go_simp); try with_reducible rfl
  change wpAnyH _ _ _ _ _ _ _ (Act.put _ (some 92) _) _
  simp only [Act.put, List.setIfInBounds_toArray, List.set_cons_zero, List.set_cons_succ]
  refine wpAnyH_take (i := 31) (v := ?vv31) rfl (by kernel_rfl) (by kernel_rfl) (by kernel_rfl) (fun _ _ _ h => panic_put (P := Tryd.prog) (fn := Tryd.f3) (R := (fun en w' => ToldEnd w en w')) h) (Or.inl ⟨by rfl, ?vy31⟩) (by assumption) ?_
  case vy31 => (intro w hSw; (try dsimp only at hSw); go_simp); try with_reducible rfl
  change wpAnyH _ _ _ _ _ _ _ (Act.put _ (some 93) _) _
  simp only [Act.put, List.setIfInBounds_toArray, List.set_cons_zero, List.set_cons_succ]
  refine wpAnyH_take (i := 33) (v := ?vv33) rfl (by kernel_rfl) (by kernel_rfl) (by kernel_rfl) (fun _ _ _ h => panic_put (P := Tryd.prog) (fn := Tryd.f3) (R := (fun en w' => ToldEnd w en w')) h) (Or.inl ⟨by rfl, ?vy33⟩) (by assumption) ?_
  case vy33 => (intro w hSw; (try dsimp only at hSw); go_simp); try with_reducible rfl
  change wpAnyH _ _ _ _ _ _ _ (Act.put _ (some 95) _) _
  simp only [Act.put, List.setIfInBounds_toArray, List.set_cons_zero, List.set_cons_succ]
  refine wpAnyH_take (i := 34) (v := ?vv34) rfl (by kernel_rfl) (by kernel_rfl) (by kernel_rfl) (fun _ _ _ h => panic_put (P := Tryd.prog) (fn := Tryd.f3) (R := (fun en w' => ToldEnd w en w')) h) (Or.inl ⟨by rfl, ?vy34⟩) (by assumption) ?_
  case vy34 => (intro w hSw; (try dsimp only at hSw); go_simp); try with_reducible rfl
  change wpAnyH _ _ _ _ _ _ _ (Act.put _ (some 96) _) _
  simp only [Act.put, List.setIfInBounds_toArray, List.set_cons_zero, List.set_cons_succ]
  refine wpAnyH_ready (rs := [32]) (by kernel_rfl) (by simp) ?_
  refine AllReadyH.cons (o := _) rfl (fun K hK => ?_) AllReadyH.nil
  go_simp
  refine (dcmp_raw HKK.out hT h1 h2).mono ?_
  rintro en w' ⟨rfl, b⟩
  rw [Z1.out]
  replace BB := below_next BB BB.size b (by rfl) (by rfl) (by rfl) (by rfl)
  have G := mv b (by rfl) <| And.intro a10 <| And.intro a11 <| And.intro a12 <| And.intro a20 <| And.intro a21 <| And.intro a22 <| And.intro hT <| And.intro h1 <| And.intro h2 <| And.intro a30 <| And.intro a31 <| And.intro a32 <| And.intro a40 <| And.intro a41 <| And.intro a42 <| And.intro a50 <| And.intro a51 <| And.intro a52 <| And.intro a60 <| And.intro a61 <| And.intro a62 <| And.intro a70 <| And.intro a71 <| And.intro a72 <| And.intro a80 <| And.intro a81 <| a82
  clear b a10 a11 a12 a20 a21 a22 hT h1 h2 a30 a31 a32 a40 a41 a42 a50 a51 a52 a60 a61 a62 a70 a71 a72 a80 a81 a82
  obtain ⟨a10, a11, a12, a20, a21, a22, hT, h1, h2, a30, a31, a32, a40, a41, a42, a50, a51, a52, a60, a61, a62, a70, a71, a72, a80, a81, a82⟩ := G
  refine hK.out _ _ (by exact ⟨a10, a11, a12, a20, a21, a22, a30, a31, a32, a40, a41, a42, a50, a51, a52, a60, a61, a62, a70, a71, a72, a80, a81, a82⟩) (fun hHeldv7 => ?_)
  clear hK K hHeldv6
  try simp only [Act.put]
  refine wpAnyH_ready (rs := [35]) (by kernel_rfl) (by simp) ?_
  refine AllReadyH.cons (o := _) rfl (fun K hK => ?_) AllReadyH.nil
  go_simp
  refine (rcmpd_raw HKK.out h1 h2).mono ?_
  rintro en w' ⟨rfl, b⟩
  rw [Z1.out]
  replace BB := below_next BB BB.size b (by rfl) (by rfl) (by rfl) (by rfl)
  have G := mv b (by rfl) <| And.intro a10 <| And.intro a11 <| And.intro a12 <| And.intro a20 <| And.intro a21 <| And.intro a22 <| And.intro hT <| And.intro h1 <| And.intro h2 <| And.intro a30 <| And.intro a31 <| And.intro a32 <| And.intro a40 <| And.intro a41 <| And.intro a42 <| And.intro a50 <| And.intro a51 <| And.intro a52 <| And.intro a60 <| And.intro a61 <| And.intro a62 <| And.intro a70 <| And.intro a71 <| And.intro a72 <| And.intro a80 <| And.intro a81 <| a82
  clear b a10 a11 a12 a20 a21 a22 hT h1 h2 a30 a31 a32 a40 a41 a42 a50 a51 a52 a60 a61 a62 a70 a71 a72 a80 a81 a82
  obtain ⟨a10, a11, a12, a20, a21, a22, hT, h1, h2, a30, a31, a32, a40, a41, a42, a50, a51, a52, a60, a61, a62, a70, a71, a72, a80, a81, a82⟩ := G
  refine hK.out _ _ (by exact ⟨a10, a11, a12, a20, a21, a22, a30, a31, a32, a40, a41, a42, a50, a51, a52, a60, a61, a62, a70, a71, a72, a80, a81, a82⟩) (fun hHeldv8 => ?_)
  clear hK K hHeldv7
  try simp only [Act.put]
  refine wpAnyH_take (i := 36) (v := ?vv36) rfl (by kernel_rfl) (by kernel_rfl) (by kernel_rfl) (fun _ _ _ h => panic_put (P := Tryd.prog) (fn := Tryd.f3) (R := (fun en w' => ToldEnd w en w')) h) (Or.inl ⟨by rfl, ?vy36⟩) (by assumption) ?_
  case vy36 => (intro w hSw; (try dsimp only at hSw); go_simp; (try simp only [fz1, fz2, fz3, fz4])); try with_reducible rfl
  change wpAnyH _ _ _ _ _ _ _ (Act.put _ (some 98) _) _
  simp only [Act.put, List.setIfInBounds_toArray, List.set_cons_zero, List.set_cons_succ]
  refine wpAnyH_take (i := 37) (v := ?vv37) rfl (by kernel_rfl) (by kernel_rfl) (by kernel_rfl) (fun _ _ _ h => panic_put (P := Tryd.prog) (fn := Tryd.f3) (R := (fun en w' => ToldEnd w en w')) h) (Or.inl ⟨by rfl, ?vy37⟩) (by assumption) ?_
  case vy37 => (intro w hSw; (try dsimp only at hSw); go_simp); try with_reducible rfl
  change wpAnyH _ _ _ _ _ _ _ (Act.put _ (some 99) _) _
  simp only [Act.put, List.setIfInBounds_toArray, List.set_cons_zero, List.set_cons_succ]
  refine wpAnyH_take (i := 38) (v := ?vv38) rfl (by kernel_rfl) (by kernel_rfl) (by kernel_rfl) (fun _ _ _ h => panic_put (P := Tryd.prog) (fn := Tryd.f3) (R := (fun en w' => ToldEnd w en w')) h) (Or.inl ⟨by rfl, ?vy38⟩) (by assumption) ?_
  case vy38 => (intro w hSw; (try dsimp only at hSw); go_simp); try with_reducible rfl
  change wpAnyH _ _ _ _ _ _ _ (Act.put _ (some 100) _) _
  simp only [Act.put, List.setIfInBounds_toArray, List.set_cons_zero, List.set_cons_succ]
  refine wpAnyH_take (i := 39) (v := ?vv39) rfl (by kernel_rfl) (by kernel_rfl) (by kernel_rfl) (fun _ _ _ h => panic_put (P := Tryd.prog) (fn := Tryd.f3) (R := (fun en w' => ToldEnd w en w')) h) (Or.inl ⟨by rfl, ?vy39⟩) (by assumption) ?_
  case vy39 => (intro w hSw; (try dsimp only at hSw); go_simp); try with_reducible rfl
  change wpAnyH _ _ _ _ _ _ _ (Act.put _ (some 101) _) _
  simp only [Act.put, List.setIfInBounds_toArray, List.set_cons_zero, List.set_cons_succ]
  refine wpAnyH_take (i := 41) (v := ?vv41) rfl (by kernel_rfl) (by kernel_rfl) (by kernel_rfl) (fun _ _ _ h => panic_put (P := Tryd.prog) (fn := Tryd.f3) (R := (fun en w' => ToldEnd w en w')) h) (Or.inl ⟨by rfl, ?vy41⟩) (by assumption) ?_
  case vy41 => (intro w hSw; (try dsimp only at hSw); go_simp); try with_reducible rfl
  change wpAnyH _ _ _ _ _ _ _ (Act.put _ (some 103) _) _
  simp only [Act.put, List.setIfInBounds_toArray, List.set_cons_zero, List.set_cons_succ]
  refine wpAnyH_ready (rs := [40]) (by kernel_rfl) (by simp) ?_
  refine AllReadyH.cons (o := _) rfl (fun K hK => ?_) AllReadyH.nil
  go_simp
  refine (dsign_raw hT h1).mono ?_
  rintro en w' ⟨rfl, b⟩
  rw [Z2.out]
  replace BB := below_next BB BB.size b (by rfl) (by rfl) (by rfl) (by rfl)
  have G := mv b (by rfl) <| And.intro a10 <| And.intro a11 <| And.intro a12 <| And.intro a20 <| And.intro a21 <| And.intro a22 <| And.intro hT <| And.intro h1 <| And.intro h2 <| And.intro a30 <| And.intro a31 <| And.intro a32 <| And.intro a40 <| And.intro a41 <| And.intro a42 <| And.intro a50 <| And.intro a51 <| And.intro a52 <| And.intro a60 <| And.intro a61 <| And.intro a62 <| And.intro a70 <| And.intro a71 <| And.intro a72 <| And.intro a80 <| And.intro a81 <| a82
  clear b a10 a11 a12 a20 a21 a22 hT h1 h2 a30 a31 a32 a40 a41 a42 a50 a51 a52 a60 a61 a62 a70 a71 a72 a80 a81 a82
  obtain ⟨a10, a11, a12, a20, a21, a22, hT, h1, h2, a30, a31, a32, a40, a41, a42, a50, a51, a52, a60, a61, a62, a70, a71, a72, a80, a81, a82⟩ := G
  refine hK.out _ _ (by exact ⟨a10, a11, a12, a20, a21, a22, a30, a31, a32, a40, a41, a42, a50, a51, a52, a60, a61, a62, a70, a71, a72, a80, a81, a82⟩) (fun hHeldv9 => ?_)
  clear hK K hHeldv8
  try simp only [Act.put]
  refine wpAnyH_ready (rs := [42]) (by kernel_rfl) (by simp) ?_
  refine AllReadyH.cons (o := _) rfl (fun K hK => ?_) AllReadyH.nil
  go_simp
  refine (rsign_raw h1).mono ?_
  rintro en w' ⟨rfl, b⟩
  rw [Z2.out]
  replace BB := below_next BB BB.size b (by rfl) (by rfl) (by rfl) (by rfl)
  have G := mv b (by rfl) <| And.intro a10 <| And.intro a11 <| And.intro a12 <| And.intro a20 <| And.intro a21 <| And.intro a22 <| And.intro hT <| And.intro h1 <| And.intro h2 <| And.intro a30 <| And.intro a31 <| And.intro a32 <| And.intro a40 <| And.intro a41 <| And.intro a42 <| And.intro a50 <| And.intro a51 <| And.intro a52 <| And.intro a60 <| And.intro a61 <| And.intro a62 <| And.intro a70 <| And.intro a71 <| And.intro a72 <| And.intro a80 <| And.intro a81 <| a82
  clear b a10 a11 a12 a20 a21 a22 hT h1 h2 a30 a31 a32 a40 a41 a42 a50 a51 a52 a60 a61 a62 a70 a71 a72 a80 a81 a82
  obtain ⟨a10, a11, a12, a20, a21, a22, hT, h1, h2, a30, a31, a32, a40, a41, a42, a50, a51, a52, a60, a61, a62, a70, a71, a72, a80, a81, a82⟩ := G
  refine hK.out _ _ (by exact ⟨a10, a11, a12, a20, a21, a22, a30, a31, a32, a40, a41, a42, a50, a51, a52, a60, a61, a62, a70, a71, a72, a80, a81, a82⟩) (fun hHeldv10 => ?_)
  clear hK K hHeldv9
  try simp only [Act.put]
  refine wpAnyH_take (i := 43) (v := ?vv43) rfl (by kernel_rfl) (by kernel_rfl) (by kernel_rfl) (fun _ _ _ h => panic_put (P := Tryd.prog) (fn := Tryd.f3) (R := (fun en w' => ToldEnd w en w')) h) (Or.inl ⟨by rfl, ?vy43⟩) (by assumption) ?_
  case vy43 => (intro w hSw; (try dsimp only at hSw); go_simp; (try simp only [fz1, fz2, fz3, fz4])); try with_reducible rfl
  change wpAnyH _ _ _ _ _ _ _ (Act.put _ (some 105) _) _
  simp only [Act.put, List.setIfInBounds_toArray, List.set_cons_zero, List.set_cons_succ]
  refine wpAnyH_take (i := 44) (v := ?vv44) rfl (by kernel_rfl) (by kernel_rfl) (by kernel_rfl) (fun _ _ _ h => panic_put (P := Tryd.prog) (fn := Tryd.f3) (R := (fun en w' => ToldEnd w en w')) h) (Or.inl ⟨by rfl, ?vy44⟩) (by assumption) ?_
  case vy44 => (intro w hSw; (try dsimp only at hSw); go_simp); try with_reducible rfl
  change wpAnyH _ _ _ _ _ _ _ (Act.put _ (some 106) _) _
  simp only [Act.put, List.setIfInBounds_toArray, List.set_cons_zero, List.set_cons_succ]
  refine wpAnyH_take (i := 45) (v := ?vv45) rfl (by kernel_rfl) (by kernel_rfl) (by kernel_rfl) (fun _ _ _ h => panic_put (P := Tryd.prog) (fn := Tryd.f3) (R := (fun en w' => ToldEnd w en w')) h) (Or.inl ⟨by rfl, ?vy45⟩) (by assumption) ?_
  case vy45 => (intro w hSw; (try dsimp only at hSw); go_simp); try with_reducible rfl
  change wpAnyH _ _ _ _ _ _ _ (Act.put _ (some 107) _) _
  simp only [Act.put, List.setIfInBounds_toArray, List.set_cons_zero, List.set_cons_succ]
  refine wpAnyH_take (i := 46) (v := ?vv46) rfl (by kernel_rfl) (by kernel_rfl) (by kernel_rfl) (fun _ _ _ h => panic_put (P := Tryd.prog) (fn := Tryd.f3) (R := (fun en w' => ToldEnd w en w')) h) (Or.inl ⟨by rfl, ?vy46⟩) (by assumption) ?_
  case vy46 => (intro w hSw; (try dsimp only at hSw); go_simp); try with_reducible rfl
  change wpAnyH _ _ _ _ _ _ _ (Act.put _ (some 108) _) _
  simp only [Act.put, List.setIfInBounds_toArray, List.set_cons_zero, List.set_cons_succ]
  refine wpAnyH_take (i := 48) (v := ?vv48) rfl (by kernel_rfl) (by kernel_rfl) (by kernel_rfl) (fun _ _ _ h => panic_put (P := Tryd.prog) (fn := Tryd.f3) (R := (fun en w' => ToldEnd w en w')) h) (Or.inl ⟨by rfl, ?vy48⟩) (by assumption) ?_
  case vy48 => (intro w hSw; (try dsimp only at hSw); go_simp); try with_reducible rfl
  change wpAnyH _ _ _ _ _ _ _ (Act.put _ (some 110) _) _
  simp only [Act.put, List.setIfInBounds_toArray, List.set_cons_zero, List.set_cons_succ]
  refine wpAnyH_ready (rs := [47]) (by kernel_rfl) (by simp) ?_
  refine AllReadyH.cons (o := _) rfl (fun K hK => ?_) AllReadyH.nil
  go_simp
  refine (dneg_raw hT h1 HNN.out).mono ?_
  rintro en w' ⟨A9, c9, rfl, h9, b⟩
  replace BB := below_next BB BB.size b (by rfl) (by rfl) (by rfl) (by rfl)
  have G := mv b (by rfl) <| And.intro a10 <| And.intro a11 <| And.intro a12 <| And.intro a20 <| And.intro a21 <| And.intro a22 <| And.intro hT <| And.intro h1 <| And.intro h2 <| And.intro a30 <| And.intro a31 <| And.intro a32 <| And.intro a40 <| And.intro a41 <| And.intro a42 <| And.intro a50 <| And.intro a51 <| And.intro a52 <| And.intro a60 <| And.intro a61 <| And.intro a62 <| And.intro a70 <| And.intro a71 <| And.intro a72 <| And.intro a80 <| And.intro a81 <| a82
  clear b a10 a11 a12 a20 a21 a22 hT h1 h2 a30 a31 a32 a40 a41 a42 a50 a51 a52 a60 a61 a62 a70 a71 a72 a80 a81 a82
  obtain ⟨a10, a11, a12, a20, a21, a22, hT, h1, h2, a30, a31, a32, a40, a41, a42, a50, a51, a52, a60, a61, a62, a70, a71, a72, a80, a81, a82⟩ := G
  refine hK.out _ _ (by exact ⟨a10, a11, a12, a20, a21, a22, a30, a31, a32, a40, a41, a42, a50, a51, a52, a60, a61, a62, a70, a71, a72, a80, a81, a82⟩) (fun hHeldv11 => ?_)
  clear hK K hHeldv10
  try simp only [Act.put]
  refine wpAnyH_ready (rs := [49]) (by kernel_rfl) (by simp) ?_
  refine AllReadyH.cons (o := _) rfl (fun K hK => ?_) AllReadyH.nil
  go_simp
  refine (rneg_raw h1).mono ?_
  rintro en w' ⟨rfl, h8, b⟩
  replace BB := below_next BB BB.size b (by rfl) (by rfl) (by rfl) (by rfl)
  have G := mv b (by rfl) <| And.intro a10 <| And.intro a11 <| And.intro a12 <| And.intro a20 <| And.intro a21 <| And.intro a22 <| And.intro hT <| And.intro h1 <| And.intro h2 <| And.intro a30 <| And.intro a31 <| And.intro a32 <| And.intro a40 <| And.intro a41 <| And.intro a42 <| And.intro a50 <| And.intro a51 <| And.intro a52 <| And.intro a60 <| And.intro a61 <| And.intro a62 <| And.intro a70 <| And.intro a71 <| And.intro a72 <| And.intro a80 <| And.intro a81 <| And.intro a82 <| h9
  clear b a10 a11 a12 a20 a21 a22 hT h1 h2 a30 a31 a32 a40 a41 a42 a50 a51 a52 a60 a61 a62 a70 a71 a72 a80 a81 a82 h9
  obtain ⟨a10, a11, a12, a20, a21, a22, hT, h1, h2, a30, a31, a32, a40, a41, a42, a50, a51, a52, a60, a61, a62, a70, a71, a72, a80, a81, a82, h9⟩ := G
  refine hK.out _ _ (by exact ⟨a10, a11, a12, a20, a21, a22, a30, a31, a32, a40, a41, a42, a50, a51, a52, a60, a61, a62, a70, a71, a72, a80, a81, a82⟩) (fun hHeldv12 => ?_)
  clear hK K hHeldv11
  try simp only [Act.put]
  refine wpAnyH_ready (rs := [50]) (by kernel_rfl) (by simp) ?_
  refine AllReadyH.cons (o := _) rfl (fun K hK => ?_) AllReadyH.nil
  go_simp
  refine (rsame_eq (s := negR s1 l1 e1) (e := e1) h9 h8).mono ?_
  rintro en w' ⟨rfl, b⟩
  rw [decide_eq_true rfl]
  clear h9
  clear h8
  replace BB := below_next BB BB.size b (by rfl) (by rfl) (by rfl) (by rfl)
  have G := mv b (by rfl) <| And.intro a10 <| And.intro a11 <| And.intro a12 <| And.intro a20 <| And.intro a21 <| And.intro a22 <| And.intro hT <| And.intro h1 <| And.intro h2 <| And.intro a30 <| And.intro a31 <| And.intro a32 <| And.intro a40 <| And.intro a41 <| And.intro a42 <| And.intro a50 <| And.intro a51 <| And.intro a52 <| And.intro a60 <| And.intro a61 <| And.intro a62 <| And.intro a70 <| And.intro a71 <| And.intro a72 <| And.intro a80 <| And.intro a81 <| a82
  clear b a10 a11 a12 a20 a21 a22 hT h1 h2 a30 a31 a32 a40 a41 a42 a50 a51 a52 a60 a61 a62 a70 a71 a72 a80 a81 a82
  obtain ⟨a10, a11, a12, a20, a21, a22, hT, h1, h2, a30, a31, a32, a40, a41, a42, a50, a51, a52, a60, a61, a62, a70, a71, a72, a80, a81, a82⟩ := G
  refine hK.out _ _ (by exact ⟨a10, a11, a12, a20, a21, a22, a30, a31, a32, a40, a41, a42, a50, a51, a52, a60, a61, a62, a70, a71, a72, a80, a81, a82⟩) (fun hHeldv13 => ?_)
  clear hK K hHeldv12
  try simp only [Act.put]
  refine wpAnyH_take (i := 51) (v := ?vv51) rfl (by kernel_rfl) (by kernel_rfl) (by kernel_rfl) (fun _ _ _ h => panic_put (P := Tryd.prog) (fn := Tryd.f3) (R := (fun en w' => ToldEnd w en w')) h) (Or.inl ⟨by rfl, ?vy51⟩) (by assumption) ?_
  case vy51 => (intro w hSw; (try dsimp only at hSw); go_simp); try with_reducible rfl
  change wpAnyH _ _ _ _ _ _ _ (Act.put _ (some 113) _) _
  simp only [Act.put, List.setIfInBounds_toArray, List.set_cons_zero, List.set_cons_succ]
  refine wpAnyH_take (i := 52) (v := ?vv52) rfl (by kernel_rfl) (by kernel_rfl) (by kernel_rfl) (fun _ _ _ h => panic_put (P := Tryd.prog) (fn := Tryd.f3) (R := (fun en w' => ToldEnd w en w')) h) (Or.inl ⟨by rfl, ?vy52⟩) (by assumption) ?_
  case vy52 => (intro w hSw; (try dsimp only at hSw); go_simp); try with_reducible rfl
  change wpAnyH _ _ _ _ _ _ _ (Act.put _ (some 114) _) _
  simp only [Act.put, List.setIfInBounds_toArray, List.set_cons_zero, List.set_cons_succ]
  refine wpAnyH_take (i := 53) (v := ?vv53) rfl (by kernel_rfl) (by kernel_rfl) (by kernel_rfl) (fun _ _ _ h => panic_put (P := Tryd.prog) (fn := Tryd.f3) (R := (fun en w' => ToldEnd w en w')) h) (Or.inl ⟨by rfl, ?vy53⟩) (by assumption) ?_
  case vy53 => (intro w hSw; (try dsimp only at hSw); go_simp); try with_reducible rfl
  change wpAnyH _ _ _ _ _ _ _ (Act.put _ (some 115) _) _
  simp only [Act.put, List.setIfInBounds_toArray, List.set_cons_zero, List.set_cons_succ]
  refine wpAnyH_take (i := 54) (v := ?vv54) rfl (by kernel_rfl) (by kernel_rfl) (by kernel_rfl) (fun _ _ _ h => panic_put (P := Tryd.prog) (fn := Tryd.f3) (R := (fun en w' => ToldEnd w en w')) h) (Or.inl ⟨by rfl, ?vy54⟩) (by assumption) ?_
  case vy54 => (intro w hSw; (try dsimp only at hSw); go_simp); try with_reducible rfl
  change wpAnyH _ _ _ _ _ _ _ (Act.put _ (some 116) _) _
  simp only [Act.put, List.setIfInBounds_toArray, List.set_cons_zero, List.set_cons_succ]
  refine wpAnyH_take (i := 56) (v := ?vv56) rfl (by kernel_rfl) (by kernel_rfl) (by kernel_rfl) (fun _ _ _ h => panic_put (P := Tryd.prog) (fn := Tryd.f3) (R := (fun en w' => ToldEnd w en w')) h) (Or.inl ⟨by rfl, ?vy56⟩) (by assumption) ?_
  case vy56 => (intro w hSw; (try dsimp only at hSw); go_simp); try with_reducible rfl
  change wpAnyH _ _ _ _ _ _ _ (Act.put _ (some 118) _) _
  simp only [Act.put, List.setIfInBounds_toArray, List.set_cons_zero, List.set_cons_succ]
  refine wpAnyH_take (i := 57) (v := ?vv57) rfl (by kernel_rfl) (by kernel_rfl) (by kernel_rfl) (fun _ _ _ h => panic_put (P := Tryd.prog) (fn := Tryd.f3) (R := (fun en w' => ToldEnd w en w')) h) (Or.inl ⟨by rfl, ?vy57⟩) (by assumption) ?_
  case vy57 => (intro w hSw; (try dsimp only at hSw); go_simp); try with_reducible rfl
  change wpAnyH _ _ _ _ _ _ _ (Act.put _ (some 119) _) _
  simp only [Act.put, List.setIfInBounds_toArray, List.set_cons_zero, List.set_cons_succ]
  refine wpAnyH_ready (rs := [55]) (by kernel_rfl) (by simp) ?_
  refine AllReadyH.cons (o := _) rfl (fun K hK => ?_) AllReadyH.nil
  go_simp
  refine (dsame_raw (s := s1) (t := s2) (e := e1) (f := e2) h1 h2).mono ?_
  rintro en w' ⟨rfl, b⟩
  rw [Z3.out]
  replace BB := below_next BB BB.size b (by rfl) (by rfl) (by rfl) (by rfl)
  have G := mv b (by rfl) <| And.intro a10 <| And.intro a11 <| And.intro a12 <| And.intro a20 <| And.intro a21 <| And.intro a22 <| And.intro hT <| And.intro h1 <| And.intro h2 <| And.intro a30 <| And.intro a31 <| And.intro a32 <| And.intro a40 <| And.intro a41 <| And.intro a42 <| And.intro a50 <| And.intro a51 <| And.intro a52 <| And.intro a60 <| And.intro a61 <| And.intro a62 <| And.intro a70 <| And.intro a71 <| And.intro a72 <| And.intro a80 <| And.intro a81 <| a82
  clear b a10 a11 a12 a20 a21 a22 hT h1 h2 a30 a31 a32 a40 a41 a42 a50 a51 a52 a60 a61 a62 a70 a71 a72 a80 a81 a82
  obtain ⟨a10, a11, a12, a20, a21, a22, hT, h1, h2, a30, a31, a32, a40, a41, a42, a50, a51, a52, a60, a61, a62, a70, a71, a72, a80, a81, a82⟩ := G
  refine hK.out _ _ (by exact ⟨a10, a11, a12, a20, a21, a22, a30, a31, a32, a40, a41, a42, a50, a51, a52, a60, a61, a62, a70, a71, a72, a80, a81, a82⟩) (fun hHeldv14 => ?_)
  clear hK K hHeldv13
  try simp only [Act.put]
  refine wpAnyH_ready (rs := [58]) (by kernel_rfl) (by simp) ?_
  refine AllReadyH.cons (o := _) rfl (fun K hK => ?_) AllReadyH.nil
  go_simp
  refine (rsame_raw (s := s1) (t := s2) (e := e1) (f := e2) h1 h2).mono ?_
  rintro en w' ⟨rfl, b⟩
  rw [Z3.out]
  replace BB := below_next BB BB.size b (by rfl) (by rfl) (by rfl) (by rfl)
  have G := mv b (by rfl) <| And.intro a10 <| And.intro a11 <| And.intro a12 <| And.intro a20 <| And.intro a21 <| And.intro a22 <| And.intro hT <| And.intro h1 <| And.intro h2 <| And.intro a30 <| And.intro a31 <| And.intro a32 <| And.intro a40 <| And.intro a41 <| And.intro a42 <| And.intro a50 <| And.intro a51 <| And.intro a52 <| And.intro a60 <| And.intro a61 <| And.intro a62 <| And.intro a70 <| And.intro a71 <| And.intro a72 <| And.intro a80 <| And.intro a81 <| a82
  clear b a10 a11 a12 a20 a21 a22 hT h1 h2 a30 a31 a32 a40 a41 a42 a50 a51 a52 a60 a61 a62 a70 a71 a72 a80 a81 a82
  obtain ⟨a10, a11, a12, a20, a21, a22, hT, h1, h2, a30, a31, a32, a40, a41, a42, a50, a51, a52, a60, a61, a62, a70, a71, a72, a80, a81, a82⟩ := G
  refine hK.out _ _ (by exact ⟨a10, a11, a12, a20, a21, a22, a30, a31, a32, a40, a41, a42, a50, a51, a52, a60, a61, a62, a70, a71, a72, a80, a81, a82⟩) (fun hHeldv15 => ?_)
  clear hK K hHeldv14
  try simp only [Act.put]
  refine wpAnyH_take (i := 59) (v := ?vv59) rfl (by kernel_rfl) (by kernel_rfl) (by kernel_rfl) (fun _ _ _ h => panic_put (P := Tryd.prog) (fn := Tryd.f3) (R := (fun en w' => ToldEnd w en w')) h) (Or.inl ⟨by rfl, ?vy59⟩) (by assumption) ?_
  case vy59 => (intro w hSw; (try dsimp only at hSw); go_simp; (try simp only [fz1, fz2, fz3, fz4])); try with_reducible rfl
  change wpAnyH _ _ _ _ _ _ _ (Act.put _ (some 121) _) _
  simp only [Act.put, List.setIfInBounds_toArray, List.set_cons_zero, List.set_cons_succ]
  refine wpAnyH_take (i := 60) (v := ?vv60) rfl (by kernel_rfl) (by kernel_rfl) (by kernel_rfl) (fun _ _ _ h => panic_put (P := Tryd.prog) (fn := Tryd.f3) (R := (fun en w' => ToldEnd w en w')) h) (Or.inl ⟨by rfl, ?vy60⟩) (by assumption) ?_
  case vy60 => (intro w hSw; (try dsimp only at hSw); go_simp); try with_reducible rfl
  change wpAnyH _ _ _ _ _ _ _ (Act.put _ (some 122) _) _
  simp only [Act.put, List.setIfInBounds_toArray, List.set_cons_zero, List.set_cons_succ]
  refine wpAnyH_take (i := 61) (v := ?vv61) rfl (by kernel_rfl) (by kernel_rfl) (by kernel_rfl) (fun _ _ _ h => panic_put (P := Tryd.prog) (fn := Tryd.f3) (R := (fun en w' => ToldEnd w en w')) h) (Or.inl ⟨by rfl, ?vy61⟩) (by assumption) ?_
  case vy61 => (intro w hSw; (try dsimp only at hSw); go_simp); try with_reducible rfl
  change wpAnyH _ _ _ _ _ _ _ (Act.put _ (some 123) _) _
  simp only [Act.put, List.setIfInBounds_toArray, List.set_cons_zero, List.set_cons_succ]
  refine wpAnyH_take (i := 62) (v := ?vv62) rfl (by kernel_rfl) (by kernel_rfl) (by kernel_rfl) (fun _ _ _ h => panic_put (P := Tryd.prog) (fn := Tryd.f3) (R := (fun en w' => ToldEnd w en w')) h) (Or.inl ⟨by rfl, ?vy62⟩) (by assumption) ?_
  case vy62 => (intro w hSw; (try dsimp only at hSw); go_simp); try with_reducible rfl
  change wpAnyH _ _ _ _ _ _ _ (Act.put _ (some 124) _) _
  simp only [Act.put, List.setIfInBounds_toArray, List.set_cons_zero, List.set_cons_succ]
  refine wpAnyH_take (i := 63) (v := ?vv63) rfl (by kernel_rfl) (by kernel_rfl) (by kernel_rfl) (fun _ _ _ h => panic_put (P := Tryd.prog) (fn := Tryd.f3) (R := (fun en w' => ToldEnd w en w')) h) (Or.inl ⟨by rfl, ?vy63⟩) (by assumption) ?_
  case vy63 => (intro w hSw; (try dsimp only at hSw); go_simp); try with_reducible rfl
  change wpAnyH _ _ _ _ _ _ _ (Act.put _ (some 125) _) _
  simp only [Act.put, List.setIfInBounds_toArray, List.set_cons_zero, List.set_cons_succ]
  refine wpAnyH_ready (rs := [64]) (by kernel_rfl) (by simp) ?_
  refine AllReadyH.cons (o := _) rfl (fun K hK => ?_) AllReadyH.nil
  go_simp
  refine (dsame_eq (s := s1) (e := e1) h1 h1).mono ?_
  rintro en w' ⟨rfl, b⟩
  rw [decide_eq_true rfl]
  replace BB := below_next BB BB.size b (by rfl) (by rfl) (by rfl) (by rfl)
  have G := mv b (by rfl) <| And.intro a10 <| And.intro a11 <| And.intro a12 <| And.intro a20 <| And.intro a21 <| And.intro a22 <| And.intro hT <| And.intro h1 <| And.intro h2 <| And.intro a30 <| And.intro a31 <| And.intro a32 <| And.intro a40 <| And.intro a41 <| And.intro a42 <| And.intro a50 <| And.intro a51 <| And.intro a52 <| And.intro a60 <| And.intro a61 <| And.intro a62 <| And.intro a70 <| And.intro a71 <| And.intro a72 <| And.intro a80 <| And.intro a81 <| a82
  clear b a10 a11 a12 a20 a21 a22 hT h1 h2 a30 a31 a32 a40 a41 a42 a50 a51 a52 a60 a61 a62 a70 a71 a72 a80 a81 a82
  obtain ⟨a10, a11, a12, a20, a21, a22, hT, h1, h2, a30, a31, a32, a40, a41, a42, a50, a51, a52, a60, a61, a62, a70, a71, a72, a80, a81, a82⟩ := G
  refine hK.out _ _ (by exact ⟨a10, a11, a12, a20, a21, a22, a30, a31, a32, a40, a41, a42, a50, a51, a52, a60, a61, a62, a70, a71, a72, a80, a81, a82⟩) (fun hHeldv16 => ?_)
  clear hK K hHeldv15
  try simp only [Act.put]
  refine wpAnyH_take (i := 65) (v := ?vv65) rfl (by kernel_rfl) (by kernel_rfl) (by kernel_rfl) (fun _ _ _ h => panic_put (P := Tryd.prog) (fn := Tryd.f3) (R := (fun en w' => ToldEnd w en w')) h) (Or.inl ⟨by rfl, ?vy65⟩) (by assumption) ?_
  case vy65 => (intro w hSw; (try dsimp only at hSw); go_simp); try with_reducible rfl
  change wpAnyH _ _ _ _ _ _ _ (Act.put _ (some 127) _) _
  simp only [Act.put, List.setIfInBounds_toArray, List.set_cons_zero, List.set_cons_succ]
  refine wpAnyH_take (i := 66) (v := ?vv66) rfl (by kernel_rfl) (by kernel_rfl) (by kernel_rfl) (fun _ _ _ h => panic_put (P := Tryd.prog) (fn := Tryd.f3) (R := (fun en w' => ToldEnd w en w')) h) (Or.inl ⟨by rfl, ?vy66⟩) (by assumption) ?_
  case vy66 => (intro w hSw; (try dsimp only at hSw); go_simp); try with_reducible rfl
  change wpAnyH _ _ _ _ _ _ _ (Act.put _ (some 4) _) _
  simp only [Act.put, List.setIfInBounds_toArray, List.set_cons_zero, List.set_cons_succ]
  refine wpAnyH_done (by kernel_rfl) ?_ _
  go_wp2
  go_ret
  exact ⟨by first | rfl | simp, BB⟩

set_option maxRecDepth 100000 in
set_option maxHeartbeats 8000000 in
theorem dasks_any {w : World} {A1 : Option Addr} {n1 c1 : Nat} {l1 : List Nat} {s1 : Bool} {e1 : Int} {A2 : Option Addr} {n2 c2 : Nat} {l2 : List Nat} {s2 : Bool} {e2 : Int} (hT : Tab w) (h1 : Rd w .u64 Go.Proofs.YtdjklanmkjbifaaDoor.W A1 n1 c1 l1) (h2 : Rd w .u64 Go.Proofs.YtdjklanmkjbifaaDoor.W A2 n2 c2 l2) :
    Calls Tryd.prog 3 #[.agg #[.bool s1, .slice A1 n1 c1, .int .i64 e1], .agg #[.bool s2, .slice A2 n2 c2, .int .i64 e2]] w fun en w' => ToldEnd w en w' := by
  by_cases hn : n1 ≤ 70 ∧ n2 ≤ 70
  · exact dasks_few hT h1 h2 hn.1 hn.2
  have x1 : n1 ≤ 9223372036854775807 := Nat.le_trans h1.cap h1.max
  have x2 : n2 ≤ 9223372036854775807 := Nat.le_trans h2.cap h2.max
  have BB := two_below w (.cells #[.bool s1, .slice A1 n1 c1, .int .i64 e1] 24) (.cells #[.bool s2, .slice A2 n2 c2, .int .i64 e2] 24)
  obtain ⟨a10, a11, a12, a20, a21, a22⟩ := (two_new w s1 s2 A1 A2 n1 c1 n2 c2 e1 e2).held
  have G := mv BB rfl <| And.intro hT <| And.intro h1 <| h2
  clear hT h1 h2
  obtain ⟨hT, h1, h2⟩ := G
  have HN := Lib.hid hn
  clear hn
  go_enter Tryd.func3, Tryd.ntmps3
  go_wp2_with fail
  refine (dfew_any (s := s1) (e := e1) x1).mono ?_
  rintro en w1 ⟨rfl, b⟩
  replace BB := below_next BB BB.size b rfl rfl rfl rfl
  have G := mv b rfl <| And.intro a10 <| And.intro a11 <| And.intro a12 <| And.intro a20 <| And.intro a21 <| And.intro a22 <| And.intro hT <| And.intro h1 <| h2
  clear b a10 a11 a12 a20 a21 a22 hT h1 h2
  obtain ⟨a10, a11, a12, a20, a21, a22, hT, h1, h2⟩ := G
  by_cases q1 : n1 ≤ 70
  rotate_left
  · rw [decide_eq_false q1]
    clear q1
    go_wp2_with fail
    refine (dtold_any hT).mono ?_
    rintro en w99 ⟨rfl, b⟩
    replace BB := below_next BB BB.size b rfl rfl rfl rfl
    clear b
    go_wp2
    go_ret
    exact ⟨by first | rfl | simp, BB⟩
  rw [decide_eq_true q1]
  go_wp2_with fail
  refine (dfew_any (s := s2) (e := e2) x2).mono ?_
  rintro en w2 ⟨rfl, b⟩
  rw [decide_eq_false (fun h => HN.out ⟨q1, h⟩)]
  clear q1
  replace BB := below_next BB BB.size b rfl rfl rfl rfl
  have G := mv b rfl <| And.intro a10 <| And.intro a11 <| And.intro a12 <| And.intro a20 <| And.intro a21 <| And.intro a22 <| And.intro hT <| And.intro h1 <| h2
  clear b a10 a11 a12 a20 a21 a22 hT h1 h2
  obtain ⟨a10, a11, a12, a20, a21, a22, hT, h1, h2⟩ := G
  go_wp2_with fail
  refine (dtold_any hT).mono ?_
  rintro en w99 ⟨rfl, b⟩
  replace BB := below_next BB BB.size b rfl rfl rfl rfl
  clear b
  go_wp2
  go_ret
  exact ⟨by first | rfl | simp, BB⟩

end Go.Proofs.YtdjklanmkjbifaaDoor
