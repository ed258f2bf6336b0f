/-
  Contracts of the reference's Round and of layer 3's same, at this translation. Condition: the slices read as limbs, or as digits of sixteen bits.
-/
import Derived.Test.YtdjklanmkjbifaaDoorRu
import Derived.Test.YtdjklanmkjbifaaDoorRm
namespace Go.Proofs.YtdjklanmkjbifaaDoor
open Go.RowKit

theorem odd_digits {y : Nat} (h : blen y ≤ 2000) : y < Go.Proofs.YtdjklanmkjbifaaDoor.H ^ 256 := by
  have h1 := tops_fit (x := y) (i := 0) (T := blen y) (by omega) (by omega)
  rw [Nat.pow_zero, Nat.mul_one, ← H256] at h1
  exact h1
theorem wide_nm {s : Bool} {x k q : Nat} {e kk : Int} {s' : Bool} {m' : Nat} {e' : Int} (he : -10000000 ≤ e) (hx : x = 2 ^ k * (2 * q + 1)) (h : Nm s (2 * q + 1) (e + (k : Int)) kk s' m' e') : Nm s x e kk s' m' e' := by
  obtain ⟨K, hK⟩ : ∃ K : Nat, 20000000 ≤ K := ⟨_, Nat.le_refl _⟩
  refine nm_congr (K := K) (by omega) (by omega) ?_ h
  rw [vz_up (by omega), hx, Nat.mul_comm]

set_option maxRecDepth 100000 in
set_option maxHeartbeats 8000000 in
theorem rwide_any {w : World} {A : Option Addr} {n c x : Nat} {s : Bool} {e : Int} (h : Dg w A n c x) (hn : n ≤ 10000) (hf : Fits 2000 x) (he : -10000000 ≤ e ∧ e ≤ 10000000) :
    Calls Tryd.prog 64 #[.agg #[.bool s, .slice A n c, .int .i64 e]] w (Tells (Nm s x e) w) := by
  have BB := two_below w (.cells #[.bool s, .slice A n c, .int .i64 e] 46) (.cells #[.bool false, .slice none 0 0, .int .i64 0] 24)
  obtain ⟨a0, a1, a2⟩ := ((Dbx.new w s A n c e).alloc (.cells #[.bool false, .slice none 0 0, .int .i64 0] 24)).held
  have r := box_one' w (.cells #[.bool s, .slice A n c, .int .i64 e] 46) false none 0 0 0
  have he1 := he.1
  have he2 := he.2
  replace h := mv BB rfl h
  have hlen := Rd.len h
  have hx0 : n = 0 ↔ x = 0 := by rw [← hlen]; exact dig_len_zero H_two
  have hcap := Rd.cap h
  have hmax := Rd.max h
  by_cases h0 : n = 0
  · have hx := hx0.1 h0
    subst h0 hx
    clear hx0 hlen
    go_enter Tryd.func64, Tryd.ntmps64
    go_wp2
    exact bodyPost_ret (v := .tuple #[.agg #[.bool false, .slice none 0 0, .int .i64 0], .int .i64 0]) (by simp [results, Tryd.results64, go_sem]) rfl ⟨0, false, none, 0, 0, 0, 0, rfl, .inl ⟨rfl, rfl, rfl, rfl, rfl⟩, nt_nil _, BB⟩
  have hx : x ≠ 0 := fun h1 => h0 (hx0.2 h1)
  have f00 : ((n : Int) == 0) = false := by simp [h0]
  obtain ⟨k, q, hkq⟩ := low_has hx
  have hodd : blen (2 * q + 1) ≤ 2000 := by rw [hkq] at hf; exact fits_blen.1 hf
  have hkb : k ≤ 16 * n := by
    have h1 : x < Go.Proofs.YtdjklanmkjbifaaDoor.H ^ n := by have := (len_dig H_two x n).1 (by rw [hlen]; omega); exact this
    have h2 : blen x ≤ 16 * n := by rw [blen_le]; rw [H_pow, ← Nat.pow_mul] at h1; exact h1
    have h3 := blen_shift (x := 2 * q + 1) (k := k) (by omega)
    rw [Nat.mul_comm, ← hkq] at h3
    omega
  have hdiv : x / 2 ^ k = 2 * q + 1 := by rw [hkq, Nat.mul_div_cancel_left _ (pow_pos2 k)]
  have HKQ := Lib.hid hkq
  have HX := Lib.hid hx
  have HD := Lib.hid hdiv
  clear hx0 hlen h0 hkq hx hdiv hf
  have hw : IntKind.i64.wrap (e + (k : Int)) = e + (k : Int) := IntWalk.i64_in _ (by omega)
  have ne1 : ¬ w.heap.size + 1 = w.heap.size := by omega
  have ne2 : ¬ w.heap.size = w.heap.size + 1 := by omega
  go_enter Tryd.func64, Tryd.ntmps64
  go_wp2_with fail
  refine (rlow_any h hn ⟨q, HKQ.out⟩).mono ?_
  rintro en w' ⟨rfl, rfl⟩
  go_wp2_with fail
  refine wp_region_held_drew (S := fun w' => w'.cell? ⟨w.heap.size, 0, none⟩ = some (.bool s) ∧ w'.cell? ⟨w.heap.size, 1, none⟩ = some (.slice A n c) ∧ w'.cell? ⟨w.heap.size, 2, none⟩ = some (.int .i64 e)) (by kernel_rfl) (by first | (dsimp only; go_keep) | go_keep) (fun hHeld0 => ?_)
  refine wpAnyH_take (i := 0) (v := ?v0) rfl (by kernel_rfl) (by kernel_rfl) (by kernel_rfl) (fun _ _ _ h => panic_put (P := Tryd.prog) (fn := Tryd.f64) (R := (Tells (Nm s x e) w)) h) (Or.inl ⟨by rfl, ?y0⟩) (by assumption) ?_
  case y0 => (intro w hSw; (try dsimp only at hSw); go_simp); try with_reducible rfl
  change wpAnyH _ _ _ _ _ _ _ (Act.put _ (some 13) _) _
  simp only [Act.put, List.setIfInBounds_toArray, List.set_cons_zero, List.set_cons_succ]
  refine wpAnyH_take (i := 1) (v := ?v1) rfl (by kernel_rfl) (by kernel_rfl) (by kernel_rfl) (fun _ _ _ h => panic_put (P := Tryd.prog) (fn := Tryd.f64) (R := (Tells (Nm s x e) w)) h) (Or.inl ⟨by rfl, ?y1⟩) (by assumption) ?_
  case y1 => (intro w hSw; (try dsimp only at hSw); go_simp); try with_reducible rfl
  change wpAnyH _ _ _ _ _ _ _ (Act.put _ (some 14) _) _
  simp only [Act.put, List.setIfInBounds_toArray, List.set_cons_zero, List.set_cons_succ]
  refine wpAnyH_take (i := 2) (v := ?v2) rfl (by kernel_rfl) (by kernel_rfl) (by kernel_rfl) (fun _ _ _ h => panic_put (P := Tryd.prog) (fn := Tryd.f64) (R := (Tells (Nm s x e) w)) h) (Or.inl ⟨by rfl, ?y2⟩) (by assumption) ?_
  case y2 => (intro w hSw; (try dsimp only at hSw); go_simp); try with_reducible rfl
  change wpAnyH _ _ _ _ _ _ _ (Act.put _ (some 15) _) _
  simp only [Act.put, List.setIfInBounds_toArray, List.set_cons_zero, List.set_cons_succ]
  refine wpAnyH_take (i := 3) (v := ?v3) rfl (by kernel_rfl) (by kernel_rfl) (by kernel_rfl) (fun _ _ _ h => panic_put (P := Tryd.prog) (fn := Tryd.f64) (R := (Tells (Nm s x e) w)) h) (Or.inl ⟨by rfl, ?y3⟩) (by assumption) ?_
  case y3 => (intro w hSw; (try dsimp only at hSw); go_simp); try with_reducible rfl
  change wpAnyH _ _ _ _ _ _ _ (Act.put _ (some 16) _) _
  simp only [Act.put, List.setIfInBounds_toArray, List.set_cons_zero, List.set_cons_succ]
  refine wpAnyH_take (i := 4) (v := ?v4) rfl (by kernel_rfl) (by kernel_rfl) (by kernel_rfl) (fun _ _ _ h => panic_put (P := Tryd.prog) (fn := Tryd.f64) (R := (Tells (Nm s x e) w)) h) (Or.inl ⟨by rfl, ?y4⟩) (by assumption) ?_
  case y4 => (intro w hSw; (try dsimp only at hSw); go_simp); try with_reducible rfl
  change wpAnyH _ _ _ _ _ _ _ (Act.put _ (some 17) _) _
  simp only [Act.put, List.setIfInBounds_toArray, List.set_cons_zero, List.set_cons_succ]
  refine wpAnyH_take (i := 6) (v := ?v6) rfl (by kernel_rfl) (by kernel_rfl) (by kernel_rfl) (fun _ _ _ h => panic_put (P := Tryd.prog) (fn := Tryd.f64) (R := (Tells (Nm s x e) w)) h) (Or.inl ⟨by rfl, ?y6⟩) (by assumption) ?_
  case y6 => (intro w hSw; (try dsimp only at hSw); go_simp); try with_reducible rfl
  change wpAnyH _ _ _ _ _ _ _ (Act.put _ (some 19) _) _
  simp only [Act.put, List.setIfInBounds_toArray, List.set_cons_zero, List.set_cons_succ]
  refine wpAnyH_take (i := 7) (v := ?v7) rfl (by kernel_rfl) (by kernel_rfl) (by kernel_rfl) (fun _ _ _ h => panic_put (P := Tryd.prog) (fn := Tryd.f64) (R := (Tells (Nm s x e) w)) h) (Or.inl ⟨by rfl, ?y7⟩) (by assumption) ?_
  case y7 => (intro w hSw; (try dsimp only at hSw); go_simp); try with_reducible rfl
  change wpAnyH _ _ _ _ _ _ _ (Act.put _ (some 20) _) _
  simp only [Act.put, List.setIfInBounds_toArray, List.set_cons_zero, List.set_cons_succ]
  refine wpAnyH_take (i := 8) (v := ?v8) rfl (by kernel_rfl) (by kernel_rfl) (by kernel_rfl) (fun _ _ _ h => panic_put (P := Tryd.prog) (fn := Tryd.f64) (R := (Tells (Nm s x e) w)) h) (Or.inl ⟨by rfl, ?y8⟩) (by assumption) ?_
  case y8 => (intro w hSw; (try dsimp only at hSw); go_simp); try with_reducible rfl
  change wpAnyH _ _ _ _ _ _ _ (Act.put _ (some 21) _) _
  simp only [Act.put, List.setIfInBounds_toArray, List.set_cons_zero, List.set_cons_succ]
  refine wpAnyH_take (i := 9) (v := ?v9) rfl (by kernel_rfl) (by kernel_rfl) (by kernel_rfl) (fun _ _ _ h => panic_put (P := Tryd.prog) (fn := Tryd.f64) (R := (Tells (Nm s x e) w)) h) (Or.inl ⟨by rfl, ?y9⟩) (by assumption) ?_
  case y9 => (intro w hSw; (try dsimp only at hSw); go_simp); try with_reducible rfl
  change wpAnyH _ _ _ _ _ _ _ (Act.put _ (some 22) _) _
  simp only [Act.put, List.setIfInBounds_toArray, List.set_cons_zero, List.set_cons_succ]
  refine wpAnyH_ready (rs := [5]) (by kernel_rfl) (by simp) ?_
  refine AllReadyH.cons (o := _) rfl (fun K hK => ?_) AllReadyH.nil
  go_simp
  refine (rshr_any (s := k) (h.heap32 (by rfl)) hn (by omega)).mono ?_
  rintro en w' ⟨A2, n2, c2, rfl, h2, b⟩
  rw [HD.out] at h2
  clear h
  replace BB := below_next BB BB.size b (by rfl) (by rfl) (by rfl) (by rfl)
  have G := mv b (by rfl) <| And.intro a0 <| And.intro a1 <| And.intro a2 <| r
  clear b a0 a1 a2 r
  obtain ⟨a0, a1, a2, r⟩ := G
  refine hK.out _ _ (by first | (dsimp only; go_keep) | go_keep) (fun hHeld1 => ?_)
  clear hK K hHeld0
  try simp only [Act.put]
  refine wpAnyH_take (i := 10) (v := ?v10) rfl (by kernel_rfl) (by kernel_rfl) (by kernel_rfl) (fun _ _ _ h => panic_put (P := Tryd.prog) (fn := Tryd.f64) (R := (Tells (Nm s x e) w)) h) (Or.inl ⟨by rfl, ?y10⟩) (by assumption) ?_
  case y10 => (intro w hSw; (try dsimp only at hSw); go_simp); try with_reducible rfl
  change wpAnyH _ _ _ _ _ _ _ (Act.put _ (some 23) _) _
  simp only [Act.put, List.setIfInBounds_toArray, List.set_cons_zero, List.set_cons_succ]
  refine wpAnyH_ready (rs := [11]) (by kernel_rfl) (by simp) ?_
  refine AllReadyH.cons (o := _) rfl (fun K hK => ?_) AllReadyH.nil
  go_simp
  have n2l : n2 ≤ 256 := dg_small h2 (odd_digits hodd)
  refine (rnorm_any (s := s) (e := e + (k : Int)) (h2.heap32 (by rfl)) (by omega) (by omega)).mono ?_
  rintro en w' ⟨kk, s5, A5, n5, c5, m5, e5, rfl, hP, h5, b⟩
  have HP : Hid (Nm s x e kk s5 m5 e5) := Lib.hid (wide_nm he1 HKQ.out hP)
  clear hP h2
  replace BB := below_next BB BB.size b (by rfl) (by rfl) (by rfl) (by rfl)
  have G := mv b (by rfl) <| And.intro a0 <| And.intro a1 <| And.intro a2 <| r
  clear b a0 a1 a2 r
  obtain ⟨a0, a1, a2, r⟩ := G
  obtain ⟨f0, f1, f2⟩ := r.open
  obtain ⟨z0, z1, z2⟩ := r.held
  refine hK.out _ _ (by first | (dsimp only; go_keep) | go_keep) (fun hHeld2 => ?_)
  clear hK K hHeld1
  try simp only [Act.put]
  refine wpAnyH_take (i := 12) (v := ?v12) rfl (by kernel_rfl) (by kernel_rfl) (by kernel_rfl) (fun _ _ _ h => panic_put (P := Tryd.prog) (fn := Tryd.f64) (R := (Tells (Nm s x e) w)) h) (Or.inl ⟨by rfl, ?y12⟩) (by assumption) ?_
  case y12 => (intro w hSw; (try dsimp only at hSw); go_simp); try with_reducible rfl
  change wpAnyH _ _ _ _ _ _ _ (Act.put _ (some 25) _) _
  simp only [Act.put, List.setIfInBounds_toArray, List.set_cons_zero, List.set_cons_succ]
  refine wpAnyH_take (i := 13) (v := ?v13) rfl (by kernel_rfl) (by kernel_rfl) (by kernel_rfl) (fun _ _ _ h => panic_put (P := Tryd.prog) (fn := Tryd.f64) (R := (Tells (Nm s x e) w)) h) (Or.inl ⟨by rfl, ?y13⟩) (by assumption) ?_
  case y13 => (intro w hSw; (try dsimp only at hSw); go_simp); try with_reducible rfl
  change wpAnyH _ _ _ _ _ _ _ (Act.put _ (some 26) _) _
  simp only [Act.put, List.setIfInBounds_toArray, List.set_cons_zero, List.set_cons_succ]
  refine wpAnyH_ready (rs := [14]) (by kernel_rfl) (by simp) ?_
  refine AllReadyH.cons (o := _) rfl (fun K hK => ?_) AllReadyH.nil
  go_simp
  refine hK.out _ _ (by first | (dsimp only; go_keep) | go_keep) (fun hHeld3 => ?_)
  clear hK K hHeld2
  try simp only [Act.put]
  refine wpAnyH_take (i := 15) (v := ?v15) rfl (by kernel_rfl) (by kernel_rfl) (by kernel_rfl) (fun _ _ _ h => panic_put (P := Tryd.prog) (fn := Tryd.f64) (R := (Tells (Nm s x e) w)) h) (Or.inl ⟨by rfl, ?y15⟩) (by assumption) ?_
  case y15 => (intro w hSw; (try dsimp only at hSw); go_simp); try with_reducible rfl
  change wpAnyH _ _ _ _ _ _ _ (Act.put _ (some 3) _) _
  simp only [Act.put, List.setIfInBounds_toArray, List.set_cons_zero, List.set_cons_succ]
  refine wpAnyH_done (by kernel_rfl) ?_ _
  go_wp2
  have qq := r.put s5 A5 n5 c5 e5
  have hN5 := h5.put3 r (.bool s5) (.slice A5 n5 c5) (.int .i64 e5)
  have HB3 := below_put3 (g := w.heap.size + 1) BB (by omega) (.bool s5) (.slice A5 n5 c5) (.int .i64 e5)
  obtain ⟨z0, z1, z2⟩ := qq.held
  exact bodyPost_ret (v := .tuple #[.agg #[.bool s5, .slice A5 n5 c5, .int .i64 e5], .int .i64 kk]) (by simp [results, Tryd.results64, go_sem, z0, z1, z2]) rfl ⟨_, _, _, _, _, _, _, rfl, HP.out, hN5, HB3⟩
end Go.Proofs.YtdjklanmkjbifaaDoor

namespace Go.Proofs.YtdjklanmkjbifaaDoor
open Go.RowKit

theorem digits_up {x a b : Nat} (hx : x < Go.Proofs.YtdjklanmkjbifaaDoor.H ^ a) (h : a ≤ b) : x < Go.Proofs.YtdjklanmkjbifaaDoor.H ^ b := Nat.lt_of_lt_of_le hx (Nat.pow_le_pow_right (by rw [H_eq]; omega) h)
theorem digits_of {x : Nat} (hx : x < Go.Proofs.YtdjklanmkjbifaaDoor.W ^ 64) : x < Go.Proofs.YtdjklanmkjbifaaDoor.H ^ 600 := by
  obtain ⟨b, hb⟩ : ∃ b, b = 600 := ⟨_, rfl⟩
  rw [← H256] at hx
  have h1 := digits_up hx (show 256 ≤ b by omega)
  rw [hb] at h1
  exact h1
theorem cutN_lt {p x : Nat} {u : Bool} (hp : p ≤ 2000) : cutN p x u < Go.Proofs.YtdjklanmkjbifaaDoor.W ^ 64 := by
  have := (cutR_lt (x := x) (rest := false) (u := u) hp).2
  rwa [cutR_false] at this
theorem cutN_blen {p x : Nat} {u : Bool} (hp : p ≤ 2000) : blen (cutN p x u) ≤ 4096 := by
  have h := cutN_lt (x := x) (u := u) hp
  rw [W64_pow] at h
  have := (blen_le _ (64 * 64)).2 h
  omega
set_option maxRecDepth 100000 in
set_option maxHeartbeats 8000000 in
theorem same3_self {w : World} {A1 A2 : Option Addr} {n1 c1 n2 c2 x : Nat} {s : Bool} {e k : Int} (h1 : Nt w A1 n1 c1 x) (h2 : Nt w A2 n2 c2 x) :
    Calls Tryd.prog 28 #[.agg #[.bool s, .slice A1 n1 c1, .int .i64 e], .int .i64 k, .agg #[.bool s, .slice A2 n2 c2, .int .i64 e], .int .i64 k] w fun en w' => en = .returned (.bool true) ∧ Below w.heap.size w w' := by
  have BB := two_below w (.cells #[.bool s, .slice A1 n1 c1, .int .i64 e] 24) (.cells #[.bool s, .slice A2 n2 c2, .int .i64 e] 24)
  obtain ⟨a10, a11, a12, a20, a21, a22⟩ := (two_new w s s A1 A2 n1 c1 n2 c2 e e).held
  have fk : (k == k) = true := by simp
  have G := mv BB rfl <| And.intro h1 <| h2
  clear h1 h2
  obtain ⟨h1, h2⟩ := G
  go_enter Tryd.func28, Tryd.ntmps28
  go_wp2_with fail
  refine (rsame_self (s := s) (e := e) h1 h2).mono ?_
  rintro en w1 ⟨rfl, b⟩
  replace BB := below_next BB BB.size b rfl rfl rfl rfl
  clear b
  go_wp2
  go_ret
  exact ⟨rfl, BB⟩
end Go.Proofs.YtdjklanmkjbifaaDoor
