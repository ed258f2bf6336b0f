/-
  Contract of the statement DyadOnes' function at this translation: it returns true, whatever its arguments. Condition: the slice reads as limbs, the table of math/bits reads as its text lays it.
-/
import Derived.Test.YtkfcnodnefpboaaDoorDye
namespace Go.Proofs.YtkfcnodnefpboaaDoor
open Go.RowKit

theorem nm_shifted {s : Bool} {x k : Nat} {e : Int} (hd : OkD s x e) (he : -1048576 ≤ e - k) : Nm s (x * 2 ^ k) (e - k) 0 s x e := by
  obtain ⟨K, hK⟩ := scale_has
  have r := okd_ge hK hd
  refine nm_congr (K := K) r.2.2 (by omega) ?_ (nm_self hd)
  rw [← vz_up (by omega)]
  have : e - (k : Int) + k = e := by omega
  rw [this]
theorem nm_shifted0 {s : Bool} {k : Nat} {e : Int} : Nm s (0 * 2 ^ k) (e - k) 0 false 0 0 := .inl ⟨Nat.zero_mul _, rfl, rfl, rfl, rfl⟩
theorem norm_is {w : World} {A : Option Addr} {n c m : Nat} {s : Bool} {e : Int} {s' : Bool} {m' : Nat} {e' : Int} (hT : Tab w) (h : Nt w A n c m) (hN : Nm s m e 0 s' m' e') :
    Calls Tryd.prog 36 #[.bool s, .slice A n c, .int .i64 e] w (ToldIs s' m' e' 0 w) :=
  (dnorm_ok hT h).mono fun _ _ h => told_is h fun _ _ _ _ hp => nm_fun hp hN
theorem same_true {w : World} {A B : Option Addr} {n c m d x : Nat} {s : Bool} {e : Int} (h : Nt w A n c x) (h' : Nt w B m d x) :
    Calls Tryd.prog 35 #[.agg #[.bool s, .slice A n c, .int .i64 e], .agg #[.bool s, .slice B m d, .int .i64 e]] w fun en w' => en = .returned (.bool true) ∧ Below w.heap.size w w' := by
  have := dsame_eq (s := s) (e := e) h.rd h'.rd
  simpa using this
theorem shl_small {x k n : Nat} (hx : x < W ^ n) (hn : n ≤ 20) (hk : k ≤ 200) : x * 2 ^ k < W ^ 64 ∧ x * 2 ^ k < H ^ 600 := by
  have h20 : x < W ^ 20 := Nat.lt_of_lt_of_le hx (Nat.pow_le_pow_right (by rw [W_eq]; omega) hn)
  have h1 : x * 2 ^ k < W ^ 64 := shift_fits h20 (by omega)
  refine ⟨h1, ?_⟩
  have := shifted_small (p := 0) h1 (by omega)
  rwa [Nat.pow_zero, Nat.mul_one] at this

set_option maxRecDepth 100000 in
set_option maxHeartbeats 4000000 in
theorem ones_out {w : World} {A : Option Addr} {n c : Nat} {l : List Nat} {s : Bool} {e p : Int} (hT : Tab w) (h : Rd w .u64 W A n c l) (hn : 20 < n) :
    Calls Tryd.prog 7 #[.agg #[.bool s, .slice A n c, .int .i64 e], .int .i64 p] w fun en w' => ToldEnd w en w' := by
  have hmax := h.max
  have hcap := h.cap
  have BB := below_alloc w (.cells #[.bool s, .slice A n c, .int .i64 e] 24)
  have d1 : decide ((20 : Int) < (n : Int)) = true := decide_eq_true (by omega)
  replace hT := hT.next BB rfl
  go_enter Tryd.func7, Tryd.ntmps7
  go_wp2_with fail
  refine (dtold_any hT).mono ?_
  rintro en w9 ⟨rfl, b⟩
  replace BB := below_next BB BB.size b rfl rfl rfl rfl
  clear b
  go_wp2
  go_ret
  exact ⟨rfl, BB⟩

set_option maxRecDepth 100000 in
set_option maxHeartbeats 4000000 in
theorem ones_bad {w : World} {A : Option Addr} {n c : Nat} {l : List Nat} {s : Bool} {e p : Int} (hT : Tab w) (h : Rd w .u64 W A n c l) (hn : n ≤ 20) (hd : mayD s l e = false) :
    Calls Tryd.prog 7 #[.agg #[.bool s, .slice A n c, .int .i64 e], .int .i64 p] w fun en w' => ToldEnd w en w' := by
  have hmax := h.max
  have hcap := h.cap
  have BB := below_alloc w (.cells #[.bool s, .slice A n c, .int .i64 e] 24)
  have d1 : decide ((20 : Int) < (n : Int)) = false := decide_eq_false (by omega)
  have HD := Lib.hid hd
  replace hT := hT.next BB rfl
  replace h := h.next BB rfl
  clear hd
  go_enter Tryd.func7, Tryd.ntmps7
  go_wp2_with fail
  refine (dmay_any (s := s) (e := e) hT h).mono ?_
  rintro en w1 ⟨rfl, b⟩
  rw [HD.out]
  replace hT := hT.next b rfl
  replace BB := below_next BB BB.size b rfl rfl rfl rfl
  clear b
  go_wp2_with fail
  refine (dtold_any hT).mono ?_
  rintro en w9 ⟨rfl, b⟩
  replace BB := below_next BB BB.size b rfl rfl rfl rfl
  clear b
  go_wp2
  go_ret
  exact ⟨rfl, BB⟩

set_option maxRecDepth 100000 in
set_option maxHeartbeats 4000000 in
theorem ones_low {w : World} {A : Option Addr} {n c : Nat} {l : List Nat} {s : Bool} {e p : Int} (hT : Tab w) (h : Rd w .u64 W A n c l) (hn : n ≤ 20) (hd : mayD s l e = true) (hlo : e < -1048276) :
    Calls Tryd.prog 7 #[.agg #[.bool s, .slice A n c, .int .i64 e], .int .i64 p] w fun en w' => ToldEnd w en w' := by
  have hmax := h.max
  have hcap := h.cap
  have BB := below_alloc w (.cells #[.bool s, .slice A n c, .int .i64 e] 24)
  have g := Box.new w s A n c e
  have d1 : decide ((20 : Int) < (n : Int)) = false := decide_eq_false (by omega)
  have d2 : decide (e < -1048276) = true := decide_eq_true hlo
  have HD := Lib.hid hd
  replace hT := hT.next BB rfl
  replace h := h.next BB rfl
  clear hd
  go_enter Tryd.func7, Tryd.ntmps7
  go_wp2_with fail
  refine (dmay_any (s := s) (e := e) hT h).mono ?_
  rintro en w1 ⟨rfl, b⟩
  rw [HD.out]
  replace hT := hT.next b rfl
  replace g := g.next b rfl
  replace BB := below_next BB BB.size b rfl rfl rfl rfl
  clear b
  obtain ⟨p0, p1, p2⟩ := g.held
  go_wp2_with fail
  refine (dtold_any hT).mono ?_
  rintro en w9 ⟨rfl, b⟩
  replace BB := below_next BB BB.size b rfl rfl rfl rfl
  clear b
  go_wp2
  go_ret
  exact ⟨rfl, BB⟩

set_option maxRecDepth 100000 in
set_option maxHeartbeats 4000000 in
theorem ones_zero {w : World} {A : Option Addr} {n c : Nat} {l : List Nat} {s : Bool} {e p : Int} (hT : Tab w) (h : Rd w .u64 W A n c l) (hn : n ≤ 20) (hd : mayD s l e = true) (hlo : -1048276 ≤ e) (h0 : val W l = 0) :
    Calls Tryd.prog 7 #[.agg #[.bool s, .slice A n c, .int .i64 e], .int .i64 p] w fun en w' => ToldEnd w en w' := by
  have hmax := h.max
  have hcap := h.cap
  have BB := below_alloc w (.cells #[.bool s, .slice A n c, .int .i64 e] 24)
  have g := Box.new w s A n c e
  have d1 : decide ((20 : Int) < (n : Int)) = false := decide_eq_false (by omega)
  have d2 : decide (e < -1048276) = false := decide_eq_false (by omega)
  obtain ⟨hm, hok⟩ := mayD_of h.lt hd
  have N := (nt_of h hm).1
  have hln := h.len
  have rr := okd_ge (K := 4194304) (Nat.le_refl _) hok
  have re := rr.2.1
  obtain ⟨r, hr⟩ := Int.eq_ofNat_of_zero_le (show 0 ≤ IntKind.u64.wrap p by rw [IntKind.wrap_u64]; omega)
  obtain ⟨k, hk⟩ : ∃ k, k = r % 201 := ⟨_, rfl⟩
  have e1 : (r : Int) % 201 = (k : Int) := by omega
  have e0 : (0 : Int) ≤ (r : Int) := by omega
  have k2 : k ≤ 200 := by omega
  have k3 : (k : Int) ≤ 200 := by omega
  have k4 : (0 : Int) ≤ (k : Int) := by omega
  have hsm := shl_small (k := k) (by have := val_lt h.lt; rwa [h.len] at this) hn k2
  have HSM := Lib.hid hsm
  have HD := Lib.hid hd
  have HOK := Lib.hid hok
  have H0 := Lib.hid h0
  have HNM := Lib.hid (nm_shifted (k := k) hok (by omega))
  have hse : s = false ∧ e = 0 := by rcases hok with ⟨_, h1, h2⟩ | ⟨h1, _⟩ <;> first | exact ⟨h1, h2⟩ | omega
  have HNM2 : Hid (Nm (!s) (val W l * 2 ^ k) (e - k) 0 s (val W l) e) := Lib.hid (by rw [h0, hse.1, hse.2]; exact nm_shifted0)
  clear hse
  replace hT := hT.next BB rfl
  replace h := h.next BB rfl
  replace N := N.next BB rfl
  clear hd hm hok rr hk hsm h0
  go_enter Tryd.func7, Tryd.ntmps7
  go_wp2_with fail
  refine (dmay_any (s := s) (e := e) hT h).mono ?_
  rintro en w1 ⟨rfl, b⟩
  rw [HD.out]
  replace hT := hT.next b rfl
  replace N := N.next b rfl
  replace g := g.next b rfl
  replace h := h.next b rfl
  replace BB := below_next BB BB.size b rfl rfl rfl rfl
  clear b
  obtain ⟨p0, p1, p2⟩ := g.held
  go_wp2_with fail
  refine (rfrom_any h (by omega)).mono ?_
  rintro en w2 ⟨A2, n2, c2, rfl, hx, b⟩
  clear h
  clear p0 p1 p2
  replace hT := hT.next b rfl
  replace N := N.next b rfl
  replace g := g.next b rfl
  replace BB := below_next BB BB.size b rfl rfl rfl rfl
  clear b
  obtain ⟨p0, p1, p2⟩ := g.held
  have hn2 := from_small N.rd.lt (by rw [N.rd.len]; omega) (by rw [val_dig W_two]; exact hx)
  go_wp2_with fail
  refine (rshl_any (s := k) hx (by omega) (by omega)).mono ?_
  rintro en w3 ⟨A3, n3, c3, rfl, hy, b⟩
  clear hx
  clear p0 p1 p2
  replace hT := hT.next b rfl
  replace N := N.next b rfl
  replace g := g.next b rfl
  replace BB := below_next BB BB.size b rfl rfl rfl rfl
  clear b
  obtain ⟨p0, p1, p2⟩ := g.held
  have hn3 := dg_small hy HSM.out.2
  go_wp2_with fail
  refine (rlimbs_dg hy (by omega)).mono ?_
  rintro en w4 ⟨A4, c4, rfl, hz, b⟩
  clear hy
  clear p0 p1 p2
  replace hT := hT.next b rfl
  replace N := N.next b rfl
  replace g := g.next b rfl
  replace BB := below_next BB BB.size b rfl rfl rfl rfl
  clear b
  obtain ⟨p0, p1, p2⟩ := g.held
  have hZ : Nt w4 A4 (dig W (val W l * 2 ^ k)).length c4 (val W l * 2 ^ k) := ⟨hz, HSM.out.1⟩
  clear hz
  generalize (dig W (val W l * 2 ^ k)).length = n4 at *
  go_wp2_with fail
  refine (norm_is hT hZ HNM.out).mono ?_
  rintro en w5 ⟨A5, n5, c5, rfl, ha, b⟩
  clear p0 p1 p2
  replace hT := hT.next b rfl
  replace N := N.next b rfl
  replace g := g.next b rfl
  replace hZ := hZ.next b rfl
  replace BB := below_next BB BB.size b rfl rfl rfl rfl
  clear b
  obtain ⟨p0, p1, p2⟩ := g.held
  have xa := Box.new w5 s A5 n5 c5 e
  have b := below_alloc w5 (.cells #[.bool s, .slice A5 n5 c5, .int .i64 e] 24)
  clear p0 p1 p2
  replace hT := hT.next b rfl
  replace N := N.next b rfl
  replace g := g.next b rfl
  replace hZ := hZ.next b rfl
  replace ha := ha.next b rfl
  replace BB := below_next BB BB.size b rfl rfl rfl rfl
  clear b
  obtain ⟨p0, p1, p2⟩ := g.held
  go_wp2_with fail
  refine (norm_is hT hZ HNM2.out).mono ?_
  rintro en w6 ⟨A6, n6, c6, rfl, hb, b⟩
  clear hZ
  clear p0 p1 p2
  replace hT := hT.next b rfl
  replace N := N.next b rfl
  replace g := g.next b rfl
  replace ha := ha.next b rfl
  replace xa := xa.next b rfl
  replace BB := below_next BB BB.size b rfl rfl rfl rfl
  clear b
  obtain ⟨p0, p1, p2⟩ := g.held
  have xb := Box.new w6 s A6 n6 c6 e
  have b := below_alloc w6 (.cells #[.bool s, .slice A6 n6 c6, .int .i64 e] 24)
  clear p0 p1 p2
  replace hT := hT.next b rfl
  replace N := N.next b rfl
  replace g := g.next b rfl
  replace ha := ha.next b rfl
  replace xa := xa.next b rfl
  replace hb := hb.next b rfl
  replace BB := below_next BB BB.size b rfl rfl rfl rfl
  clear b
  obtain ⟨p0, p1, p2⟩ := g.held
  obtain ⟨p3, p4, p5⟩ := xa.held
  obtain ⟨p6, p7, p8⟩ := xb.held
  go_wp2_with fail
  refine wp_region_held_drew (S := fun w' => w'.cell? ⟨w.heap.size, 0, none⟩ = some (.bool s) ∧ w'.cell? ⟨w.heap.size, 1, none⟩ = some (.slice A n c) ∧ w'.cell? ⟨w.heap.size, 2, none⟩ = some (.int .i64 e) ∧ w'.cell? ⟨w5.heap.size, 0, none⟩ = some (.bool s) ∧ w'.cell? ⟨w5.heap.size, 1, none⟩ = some (.slice A5 n5 c5) ∧ w'.cell? ⟨w5.heap.size, 2, none⟩ = some (.int .i64 e) ∧ w'.cell? ⟨w6.heap.size, 0, none⟩ = some (.bool s) ∧ w'.cell? ⟨w6.heap.size, 1, none⟩ = some (.slice A6 n6 c6) ∧ w'.cell? ⟨w6.heap.size, 2, none⟩ = some (.int .i64 e)) (by kernel_rfl) (by first | (dsimp only; go_keep) | go_keep) (fun hHeld0 => ?_)
  clear p0 p1 p2 p3 p4 p5 p6 p7 p8 hr e0 e1 k4 k3 d1 d2 hln
  refine wpAnyH_ready (rs := [0]) (by kernel_rfl) (by simp) ?_
  refine AllReadyH.cons (o := _) rfl (fun K hK => ?_) AllReadyH.nil
  go_simp
  refine (dtold_any (hT.heap (by rfl))).mono ?_
  rintro en w' ⟨rfl, b⟩
  replace hT := hT.next b (by rfl)
  replace N := N.next b (by rfl)
  replace g := g.next b (by rfl)
  replace ha := ha.next b (by rfl)
  replace xa := xa.next b (by rfl)
  replace hb := hb.next b (by rfl)
  replace xb := xb.next b (by rfl)
  replace BB := below_next BB BB.size b (by rfl) (by rfl) (by rfl) (by rfl)
  clear b
  obtain ⟨q0, q1, q2⟩ := g.held
  obtain ⟨q3, q4, q5⟩ := xa.held
  obtain ⟨q6, q7, q8⟩ := xb.held
  refine hK.out _ _ (by first | (dsimp only; go_keep) | go_keep) (fun hHeld1 => ?_)
  clear hK K hHeld0
  clear q0 q1 q2 q3 q4 q5 q6 q7 q8
  try simp only [Act.put]
  refine wpAnyH_take (i := 1) (v := ?v1) rfl (by kernel_rfl) (by kernel_rfl) (by kernel_rfl) (fun _ _ _ h => panic_put (P := Tryd.prog) (fn := Tryd.f7) (R := fun en w' => ToldEnd w en w') h) (Or.inl ⟨by rfl, ?y1⟩) (by assumption) ?_
  case y1 => (intro w hSw; (try dsimp only at hSw); go_simp); try with_reducible rfl
  change wpAnyH _ _ _ _ _ _ _ (Act.put _ (some 60) _) _
  simp only [Act.put, List.setIfInBounds_toArray, List.set_cons_zero, List.set_cons_succ]
  refine wpAnyH_take (i := 2) (v := ?v2) rfl (by kernel_rfl) (by kernel_rfl) (by kernel_rfl) (fun _ _ _ h => panic_put (P := Tryd.prog) (fn := Tryd.f7) (R := fun en w' => ToldEnd w en w') h) (Or.inl ⟨by rfl, ?y2⟩) (by assumption) ?_
  case y2 => (intro w hSw; (try dsimp only at hSw); go_simp); try with_reducible rfl
  change wpAnyH _ _ _ _ _ _ _ (Act.put _ (some 61) _) _
  simp only [Act.put, List.setIfInBounds_toArray, List.set_cons_zero, List.set_cons_succ]
  refine wpAnyH_take (i := 3) (v := ?v3) rfl (by kernel_rfl) (by kernel_rfl) (by kernel_rfl) (fun _ _ _ h => panic_put (P := Tryd.prog) (fn := Tryd.f7) (R := fun en w' => ToldEnd w en w') h) (Or.inl ⟨by rfl, ?y3⟩) (by assumption) ?_
  case y3 => (intro w hSw; (try dsimp only at hSw); go_simp); try with_reducible rfl
  change wpAnyH _ _ _ _ _ _ _ (Act.put _ (some 62) _) _
  simp only [Act.put, List.setIfInBounds_toArray, List.set_cons_zero, List.set_cons_succ]
  refine wpAnyH_take (i := 4) (v := ?v4) rfl (by kernel_rfl) (by kernel_rfl) (by kernel_rfl) (fun _ _ _ h => panic_put (P := Tryd.prog) (fn := Tryd.f7) (R := fun en w' => ToldEnd w en w') h) (Or.inl ⟨by rfl, ?y4⟩) (by assumption) ?_
  case y4 => (intro w hSw; (try dsimp only at hSw); go_simp); try with_reducible rfl
  change wpAnyH _ _ _ _ _ _ _ (Act.put _ (some 63) _) _
  simp only [Act.put, List.setIfInBounds_toArray, List.set_cons_zero, List.set_cons_succ]
  refine wpAnyH_take (i := 5) (v := ?v5) rfl (by kernel_rfl) (by kernel_rfl) (by kernel_rfl) (fun _ _ _ h => panic_put (P := Tryd.prog) (fn := Tryd.f7) (R := fun en w' => ToldEnd w en w') h) (Or.inl ⟨by rfl, ?y5⟩) (by assumption) ?_
  case y5 => (intro w hSw; (try dsimp only at hSw); go_simp); try with_reducible rfl
  change wpAnyH _ _ _ _ _ _ _ (Act.put _ (some 64) _) _
  simp only [Act.put, List.setIfInBounds_toArray, List.set_cons_zero, List.set_cons_succ]
  refine wpAnyH_take (i := 6) (v := ?v6) rfl (by kernel_rfl) (by kernel_rfl) (by kernel_rfl) (fun _ _ _ h => panic_put (P := Tryd.prog) (fn := Tryd.f7) (R := fun en w' => ToldEnd w en w') h) (Or.inl ⟨by rfl, ?y6⟩) (by assumption) ?_
  case y6 => (intro w hSw; (try dsimp only at hSw); go_simp); try with_reducible rfl
  change wpAnyH _ _ _ _ _ _ _ (Act.put _ (some 65) _) _
  simp only [Act.put, List.setIfInBounds_toArray, List.set_cons_zero, List.set_cons_succ]
  refine wpAnyH_take (i := 7) (v := ?v7) rfl (by kernel_rfl) (by kernel_rfl) (by kernel_rfl) (fun _ _ _ h => panic_put (P := Tryd.prog) (fn := Tryd.f7) (R := fun en w' => ToldEnd w en w') h) (Or.inl ⟨by rfl, ?y7⟩) (by assumption) ?_
  case y7 => (intro w hSw; (try dsimp only at hSw); go_simp); try with_reducible rfl
  change wpAnyH _ _ _ _ _ _ _ (Act.put _ (some 66) _) _
  simp only [Act.put, List.setIfInBounds_toArray, List.set_cons_zero, List.set_cons_succ]
  refine wpAnyH_take (i := 8) (v := ?v8) rfl (by kernel_rfl) (by kernel_rfl) (by kernel_rfl) (fun _ _ _ h => panic_put (P := Tryd.prog) (fn := Tryd.f7) (R := fun en w' => ToldEnd w en w') h) (Or.inl ⟨by rfl, ?y8⟩) (by assumption) ?_
  case y8 => (intro w hSw; (try dsimp only at hSw); go_simp); try with_reducible rfl
  change wpAnyH _ _ _ _ _ _ _ (Act.put _ (some 67) _) _
  simp only [Act.put, List.setIfInBounds_toArray, List.set_cons_zero, List.set_cons_succ]
  refine wpAnyH_take (i := 9) (v := ?v9) rfl (by kernel_rfl) (by kernel_rfl) (by kernel_rfl) (fun _ _ _ h => panic_put (P := Tryd.prog) (fn := Tryd.f7) (R := fun en w' => ToldEnd w en w') h) (Or.inl ⟨by rfl, ?y9⟩) (by assumption) ?_
  case y9 => (intro w hSw; (try dsimp only at hSw); go_simp); try with_reducible rfl
  change wpAnyH _ _ _ _ _ _ _ (Act.put _ (some 68) _) _
  simp only [Act.put, List.setIfInBounds_toArray, List.set_cons_zero, List.set_cons_succ]
  refine wpAnyH_take (i := 10) (v := ?v10) rfl (by kernel_rfl) (by kernel_rfl) (by kernel_rfl) (fun _ _ _ h => panic_put (P := Tryd.prog) (fn := Tryd.f7) (R := fun en w' => ToldEnd w en w') h) (Or.inl ⟨by rfl, ?y10⟩) (by assumption) ?_
  case y10 => (intro w hSw; (try dsimp only at hSw); go_simp); try with_reducible rfl
  change wpAnyH _ _ _ _ _ _ _ (Act.put _ (some 69) _) _
  simp only [Act.put, List.setIfInBounds_toArray, List.set_cons_zero, List.set_cons_succ]
  refine wpAnyH_take (i := 11) (v := ?v11) rfl (by kernel_rfl) (by kernel_rfl) (by kernel_rfl) (fun _ _ _ h => panic_put (P := Tryd.prog) (fn := Tryd.f7) (R := fun en w' => ToldEnd w en w') h) (Or.inl ⟨by rfl, ?y11⟩) (by assumption) ?_
  case y11 => (intro w hSw; (try dsimp only at hSw); go_simp); try with_reducible rfl
  change wpAnyH _ _ _ _ _ _ _ (Act.put _ (some 70) _) _
  simp only [Act.put, List.setIfInBounds_toArray, List.set_cons_zero, List.set_cons_succ]
  refine wpAnyH_ready (rs := [12]) (by kernel_rfl) (by simp) ?_
  refine AllReadyH.cons (o := _) rfl (fun K hK => ?_) AllReadyH.nil
  go_simp
  refine (same_true (ha.heap (by rfl)) (N.heap (by rfl))).mono ?_
  rintro en w' ⟨rfl, b⟩
  replace hT := hT.next b (by rfl)
  replace N := N.next b (by rfl)
  replace g := g.next b (by rfl)
  replace ha := ha.next b (by rfl)
  replace xa := xa.next b (by rfl)
  replace hb := hb.next b (by rfl)
  replace xb := xb.next b (by rfl)
  replace BB := below_next BB BB.size b (by rfl) (by rfl) (by rfl) (by rfl)
  clear b
  obtain ⟨q0, q1, q2⟩ := g.held
  obtain ⟨q3, q4, q5⟩ := xa.held
  obtain ⟨q6, q7, q8⟩ := xb.held
  refine hK.out _ _ (by first | (dsimp only; go_keep) | go_keep) (fun hHeld2 => ?_)
  clear hK K hHeld1
  clear q0 q1 q2 q3 q4 q5 q6 q7 q8
  try simp only [Act.put]
  refine wpAnyH_take (i := 13) (v := ?v13) rfl (by kernel_rfl) (by kernel_rfl) (by kernel_rfl) (fun _ _ _ h => panic_put (P := Tryd.prog) (fn := Tryd.f7) (R := fun en w' => ToldEnd w en w') h) (Or.inl ⟨by rfl, ?y13⟩) (by assumption) ?_
  case y13 => (intro w hSw; (try dsimp only at hSw); go_simp); try with_reducible rfl
  change wpAnyH _ _ _ _ _ _ _ (Act.put _ (some 72) _) _
  simp only [Act.put, List.setIfInBounds_toArray, List.set_cons_zero, List.set_cons_succ]
  refine wpAnyH_take (i := 14) (v := ?v14) rfl (by kernel_rfl) (by kernel_rfl) (by kernel_rfl) (fun _ _ _ h => panic_put (P := Tryd.prog) (fn := Tryd.f7) (R := fun en w' => ToldEnd w en w') h) (Or.inl ⟨by rfl, ?y14⟩) (by assumption) ?_
  case y14 => (intro w hSw; (try dsimp only at hSw); go_simp); try with_reducible rfl
  change wpAnyH _ _ _ _ _ _ _ (Act.put _ (some 73) _) _
  simp only [Act.put, List.setIfInBounds_toArray, List.set_cons_zero, List.set_cons_succ]
  refine wpAnyH_take (i := 15) (v := ?v15) rfl (by kernel_rfl) (by kernel_rfl) (by kernel_rfl) (fun _ _ _ h => panic_put (P := Tryd.prog) (fn := Tryd.f7) (R := fun en w' => ToldEnd w en w') h) (Or.inl ⟨by rfl, ?y15⟩) (by assumption) ?_
  case y15 => (intro w hSw; (try dsimp only at hSw); go_simp); try with_reducible rfl
  change wpAnyH _ _ _ _ _ _ _ (Act.put _ (some 74) _) _
  simp only [Act.put, List.setIfInBounds_toArray, List.set_cons_zero, List.set_cons_succ]
  refine wpAnyH_take (i := 16) (v := ?v16) rfl (by kernel_rfl) (by kernel_rfl) (by kernel_rfl) (fun _ _ _ h => panic_put (P := Tryd.prog) (fn := Tryd.f7) (R := fun en w' => ToldEnd w en w') h) (Or.inl ⟨by rfl, ?y16⟩) (by assumption) ?_
  case y16 => (intro w hSw; (try dsimp only at hSw); go_simp); try with_reducible rfl
  change wpAnyH _ _ _ _ _ _ _ (Act.put _ (some 75) _) _
  simp only [Act.put, List.setIfInBounds_toArray, List.set_cons_zero, List.set_cons_succ]
  refine wpAnyH_ready (rs := [17]) (by kernel_rfl) (by simp) ?_
  refine AllReadyH.cons (o := _) rfl (fun K hK => ?_) AllReadyH.nil
  go_simp
  refine (neg_zero (hT.heap (by rfl)) (N.heap (by rfl)) HOK.out H0.out).mono ?_
  rintro en w' ⟨A7, n7, c7, rfl, hc, b⟩
  replace hT := hT.next b (by rfl)
  replace N := N.next b (by rfl)
  replace g := g.next b (by rfl)
  replace ha := ha.next b (by rfl)
  replace xa := xa.next b (by rfl)
  replace hb := hb.next b (by rfl)
  replace xb := xb.next b (by rfl)
  replace BB := below_next BB BB.size b (by rfl) (by rfl) (by rfl) (by rfl)
  clear b
  obtain ⟨q0, q1, q2⟩ := g.held
  obtain ⟨q3, q4, q5⟩ := xa.held
  obtain ⟨q6, q7, q8⟩ := xb.held
  refine hK.out _ _ (by first | (dsimp only; go_keep) | go_keep) (fun hHeld3 => ?_)
  clear hK K hHeld2
  clear q0 q1 q2 q3 q4 q5 q6 q7 q8
  try simp only [Act.put]
  refine wpAnyH_ready (rs := [18]) (by kernel_rfl) (by simp) ?_
  refine AllReadyH.cons (o := _) rfl (fun K hK => ?_) AllReadyH.nil
  go_simp
  refine (same_true (hb.heap (by rfl)) (hc.heap (by rfl))).mono ?_
  rintro en w' ⟨rfl, b⟩
  replace hT := hT.next b (by rfl)
  replace N := N.next b (by rfl)
  replace g := g.next b (by rfl)
  replace ha := ha.next b (by rfl)
  replace xa := xa.next b (by rfl)
  replace hb := hb.next b (by rfl)
  replace xb := xb.next b (by rfl)
  replace hc := hc.next b (by rfl)
  replace BB := below_next BB BB.size b (by rfl) (by rfl) (by rfl) (by rfl)
  clear b
  obtain ⟨q0, q1, q2⟩ := g.held
  obtain ⟨q3, q4, q5⟩ := xa.held
  obtain ⟨q6, q7, q8⟩ := xb.held
  refine hK.out _ _ (by first | (dsimp only; go_keep) | go_keep) (fun hHeld4 => ?_)
  clear hK K hHeld3
  clear q0 q1 q2 q3 q4 q5 q6 q7 q8
  try simp only [Act.put]
  refine wpAnyH_take (i := 19) (v := ?v19) rfl (by kernel_rfl) (by kernel_rfl) (by kernel_rfl) (fun _ _ _ h => panic_put (P := Tryd.prog) (fn := Tryd.f7) (R := fun en w' => ToldEnd w en w') h) (Or.inl ⟨by rfl, ?y19⟩) (by assumption) ?_
  case y19 => (intro w hSw; (try dsimp only at hSw); go_simp); try with_reducible rfl
  change wpAnyH _ _ _ _ _ _ _ (Act.put _ (some 78) _) _
  simp only [Act.put, List.setIfInBounds_toArray, List.set_cons_zero, List.set_cons_succ]
  refine wpAnyH_take (i := 20) (v := ?v20) rfl (by kernel_rfl) (by kernel_rfl) (by kernel_rfl) (fun _ _ _ h => panic_put (P := Tryd.prog) (fn := Tryd.f7) (R := fun en w' => ToldEnd w en w') h) (Or.inl ⟨by rfl, ?y20⟩) (by assumption) ?_
  case y20 => (intro w hSw; (try dsimp only at hSw); go_simp); try with_reducible rfl
  change wpAnyH _ _ _ _ _ _ _ (Act.put _ (some 4) _) _
  simp only [Act.put, List.setIfInBounds_toArray, List.set_cons_zero, List.set_cons_succ]
  refine wpAnyH_done (by kernel_rfl) ?_ _
  go_wp2
  go_ret
  exact ⟨by first | rfl | simp, BB⟩

set_option maxRecDepth 100000 in
set_option maxHeartbeats 4000000 in
theorem ones_some {w : World} {A : Option Addr} {n c : Nat} {l : List Nat} {s : Bool} {e p : Int} (hT : Tab w) (h : Rd w .u64 W A n c l) (hn : n ≤ 20) (hd : mayD s l e = true) (hlo : -1048276 ≤ e) (h0 : val W l ≠ 0) :
    Calls Tryd.prog 7 #[.agg #[.bool s, .slice A n c, .int .i64 e], .int .i64 p] w fun en w' => ToldEnd w en w' := by
  have hmax := h.max
  have hcap := h.cap
  have BB := below_alloc w (.cells #[.bool s, .slice A n c, .int .i64 e] 24)
  have g := Box.new w s A n c e
  have d1 : decide ((20 : Int) < (n : Int)) = false := decide_eq_false (by omega)
  have d2 : decide (e < -1048276) = false := decide_eq_false (by omega)
  obtain ⟨hm, hok⟩ := mayD_of h.lt hd
  have N := (nt_of h hm).1
  have hln := h.len
  have rr := okd_ge (K := 4194304) (Nat.le_refl _) hok
  have re := rr.2.1
  obtain ⟨r, hr⟩ := Int.eq_ofNat_of_zero_le (show 0 ≤ IntKind.u64.wrap p by rw [IntKind.wrap_u64]; omega)
  obtain ⟨k, hk⟩ : ∃ k, k = r % 201 := ⟨_, rfl⟩
  have e1 : (r : Int) % 201 = (k : Int) := by omega
  have e0 : (0 : Int) ≤ (r : Int) := by omega
  have k2 : k ≤ 200 := by omega
  have k3 : (k : Int) ≤ 200 := by omega
  have k4 : (0 : Int) ≤ (k : Int) := by omega
  have hsm := shl_small (k := k) (by have := val_lt h.lt; rwa [h.len] at this) hn k2
  have HSM := Lib.hid hsm
  have HD := Lib.hid hd
  have HOK := Lib.hid hok
  have H0 := Lib.hid h0
  have HNM := Lib.hid (nm_shifted (k := k) hok (by omega))
  have HNM2 := Lib.hid (nm_shifted (k := k) (hok.turn h0) (by omega))
  replace hT := hT.next BB rfl
  replace h := h.next BB rfl
  replace N := N.next BB rfl
  clear hd hm hok rr hk hsm h0
  go_enter Tryd.func7, Tryd.ntmps7
  go_wp2_with fail
  refine (dmay_any (s := s) (e := e) hT h).mono ?_
  rintro en w1 ⟨rfl, b⟩
  rw [HD.out]
  replace hT := hT.next b rfl
  replace N := N.next b rfl
  replace g := g.next b rfl
  replace h := h.next b rfl
  replace BB := below_next BB BB.size b rfl rfl rfl rfl
  clear b
  obtain ⟨p0, p1, p2⟩ := g.held
  go_wp2_with fail
  refine (rfrom_any h (by omega)).mono ?_
  rintro en w2 ⟨A2, n2, c2, rfl, hx, b⟩
  clear h
  clear p0 p1 p2
  replace hT := hT.next b rfl
  replace N := N.next b rfl
  replace g := g.next b rfl
  replace BB := below_next BB BB.size b rfl rfl rfl rfl
  clear b
  obtain ⟨p0, p1, p2⟩ := g.held
  have hn2 := from_small N.rd.lt (by rw [N.rd.len]; omega) (by rw [val_dig W_two]; exact hx)
  go_wp2_with fail
  refine (rshl_any (s := k) hx (by omega) (by omega)).mono ?_
  rintro en w3 ⟨A3, n3, c3, rfl, hy, b⟩
  clear hx
  clear p0 p1 p2
  replace hT := hT.next b rfl
  replace N := N.next b rfl
  replace g := g.next b rfl
  replace BB := below_next BB BB.size b rfl rfl rfl rfl
  clear b
  obtain ⟨p0, p1, p2⟩ := g.held
  have hn3 := dg_small hy HSM.out.2
  go_wp2_with fail
  refine (rlimbs_dg hy (by omega)).mono ?_
  rintro en w4 ⟨A4, c4, rfl, hz, b⟩
  clear hy
  clear p0 p1 p2
  replace hT := hT.next b rfl
  replace N := N.next b rfl
  replace g := g.next b rfl
  replace BB := below_next BB BB.size b rfl rfl rfl rfl
  clear b
  obtain ⟨p0, p1, p2⟩ := g.held
  have hZ : Nt w4 A4 (dig W (val W l * 2 ^ k)).length c4 (val W l * 2 ^ k) := ⟨hz, HSM.out.1⟩
  clear hz
  generalize (dig W (val W l * 2 ^ k)).length = n4 at *
  go_wp2_with fail
  refine (norm_is hT hZ HNM.out).mono ?_
  rintro en w5 ⟨A5, n5, c5, rfl, ha, b⟩
  clear p0 p1 p2
  replace hT := hT.next b rfl
  replace N := N.next b rfl
  replace g := g.next b rfl
  replace hZ := hZ.next b rfl
  replace BB := below_next BB BB.size b rfl rfl rfl rfl
  clear b
  obtain ⟨p0, p1, p2⟩ := g.held
  have xa := Box.new w5 s A5 n5 c5 e
  have b := below_alloc w5 (.cells #[.bool s, .slice A5 n5 c5, .int .i64 e] 24)
  clear p0 p1 p2
  replace hT := hT.next b rfl
  replace N := N.next b rfl
  replace g := g.next b rfl
  replace hZ := hZ.next b rfl
  replace ha := ha.next b rfl
  replace BB := below_next BB BB.size b rfl rfl rfl rfl
  clear b
  obtain ⟨p0, p1, p2⟩ := g.held
  go_wp2_with fail
  refine (norm_is hT hZ HNM2.out).mono ?_
  rintro en w6 ⟨A6, n6, c6, rfl, hb, b⟩
  clear hZ
  clear p0 p1 p2
  replace hT := hT.next b rfl
  replace N := N.next b rfl
  replace g := g.next b rfl
  replace ha := ha.next b rfl
  replace xa := xa.next b rfl
  replace BB := below_next BB BB.size b rfl rfl rfl rfl
  clear b
  obtain ⟨p0, p1, p2⟩ := g.held
  have xb := Box.new w6 (!s) A6 n6 c6 e
  have b := below_alloc w6 (.cells #[.bool (!s), .slice A6 n6 c6, .int .i64 e] 24)
  clear p0 p1 p2
  replace hT := hT.next b rfl
  replace N := N.next b rfl
  replace g := g.next b rfl
  replace ha := ha.next b rfl
  replace xa := xa.next b rfl
  replace hb := hb.next b rfl
  replace BB := below_next BB BB.size b rfl rfl rfl rfl
  clear b
  obtain ⟨p0, p1, p2⟩ := g.held
  obtain ⟨p3, p4, p5⟩ := xa.held
  obtain ⟨p6, p7, p8⟩ := xb.held
  go_wp2_with fail
  refine wp_region_held_drew (S := fun w' => w'.cell? ⟨w.heap.size, 0, none⟩ = some (.bool s) ∧ w'.cell? ⟨w.heap.size, 1, none⟩ = some (.slice A n c) ∧ w'.cell? ⟨w.heap.size, 2, none⟩ = some (.int .i64 e) ∧ w'.cell? ⟨w5.heap.size, 0, none⟩ = some (.bool s) ∧ w'.cell? ⟨w5.heap.size, 1, none⟩ = some (.slice A5 n5 c5) ∧ w'.cell? ⟨w5.heap.size, 2, none⟩ = some (.int .i64 e) ∧ w'.cell? ⟨w6.heap.size, 0, none⟩ = some (.bool (!s)) ∧ w'.cell? ⟨w6.heap.size, 1, none⟩ = some (.slice A6 n6 c6) ∧ w'.cell? ⟨w6.heap.size, 2, none⟩ = some (.int .i64 e)) (by kernel_rfl) (by first | (dsimp only; go_keep) | go_keep) (fun hHeld0 => ?_)
  clear p0 p1 p2 p3 p4 p5 p6 p7 p8 hr e0 e1 k4 k3 d1 d2 hln
  refine wpAnyH_ready (rs := [0]) (by kernel_rfl) (by simp) ?_
  refine AllReadyH.cons (o := _) rfl (fun K hK => ?_) AllReadyH.nil
  go_simp
  refine (dtold_any (hT.heap (by rfl))).mono ?_
  rintro en w' ⟨rfl, b⟩
  replace hT := hT.next b (by rfl)
  replace N := N.next b (by rfl)
  replace g := g.next b (by rfl)
  replace ha := ha.next b (by rfl)
  replace xa := xa.next b (by rfl)
  replace hb := hb.next b (by rfl)
  replace xb := xb.next b (by rfl)
  replace BB := below_next BB BB.size b (by rfl) (by rfl) (by rfl) (by rfl)
  clear b
  obtain ⟨q0, q1, q2⟩ := g.held
  obtain ⟨q3, q4, q5⟩ := xa.held
  obtain ⟨q6, q7, q8⟩ := xb.held
  refine hK.out _ _ (by first | (dsimp only; go_keep) | go_keep) (fun hHeld1 => ?_)
  clear hK K hHeld0
  clear q0 q1 q2 q3 q4 q5 q6 q7 q8
  try simp only [Act.put]
  refine wpAnyH_take (i := 1) (v := ?v1) rfl (by kernel_rfl) (by kernel_rfl) (by kernel_rfl) (fun _ _ _ h => panic_put (P := Tryd.prog) (fn := Tryd.f7) (R := fun en w' => ToldEnd w en w') h) (Or.inl ⟨by rfl, ?y1⟩) (by assumption) ?_
  case y1 => (intro w hSw; (try dsimp only at hSw); go_simp); try with_reducible rfl
  change wpAnyH _ _ _ _ _ _ _ (Act.put _ (some 60) _) _
  simp only [Act.put, List.setIfInBounds_toArray, List.set_cons_zero, List.set_cons_succ]
  refine wpAnyH_take (i := 2) (v := ?v2) rfl (by kernel_rfl) (by kernel_rfl) (by kernel_rfl) (fun _ _ _ h => panic_put (P := Tryd.prog) (fn := Tryd.f7) (R := fun en w' => ToldEnd w en w') h) (Or.inl ⟨by rfl, ?y2⟩) (by assumption) ?_
  case y2 => (intro w hSw; (try dsimp only at hSw); go_simp); try with_reducible rfl
  change wpAnyH _ _ _ _ _ _ _ (Act.put _ (some 61) _) _
  simp only [Act.put, List.setIfInBounds_toArray, List.set_cons_zero, List.set_cons_succ]
  refine wpAnyH_take (i := 3) (v := ?v3) rfl (by kernel_rfl) (by kernel_rfl) (by kernel_rfl) (fun _ _ _ h => panic_put (P := Tryd.prog) (fn := Tryd.f7) (R := fun en w' => ToldEnd w en w') h) (Or.inl ⟨by rfl, ?y3⟩) (by assumption) ?_
  case y3 => (intro w hSw; (try dsimp only at hSw); go_simp); try with_reducible rfl
  change wpAnyH _ _ _ _ _ _ _ (Act.put _ (some 62) _) _
  simp only [Act.put, List.setIfInBounds_toArray, List.set_cons_zero, List.set_cons_succ]
  refine wpAnyH_take (i := 4) (v := ?v4) rfl (by kernel_rfl) (by kernel_rfl) (by kernel_rfl) (fun _ _ _ h => panic_put (P := Tryd.prog) (fn := Tryd.f7) (R := fun en w' => ToldEnd w en w') h) (Or.inl ⟨by rfl, ?y4⟩) (by assumption) ?_
  case y4 => (intro w hSw; (try dsimp only at hSw); go_simp); try with_reducible rfl
  change wpAnyH _ _ _ _ _ _ _ (Act.put _ (some 63) _) _
  simp only [Act.put, List.setIfInBounds_toArray, List.set_cons_zero, List.set_cons_succ]
  refine wpAnyH_take (i := 5) (v := ?v5) rfl (by kernel_rfl) (by kernel_rfl) (by kernel_rfl) (fun _ _ _ h => panic_put (P := Tryd.prog) (fn := Tryd.f7) (R := fun en w' => ToldEnd w en w') h) (Or.inl ⟨by rfl, ?y5⟩) (by assumption) ?_
  case y5 => (intro w hSw; (try dsimp only at hSw); go_simp); try with_reducible rfl
  change wpAnyH _ _ _ _ _ _ _ (Act.put _ (some 64) _) _
  simp only [Act.put, List.setIfInBounds_toArray, List.set_cons_zero, List.set_cons_succ]
  refine wpAnyH_take (i := 6) (v := ?v6) rfl (by kernel_rfl) (by kernel_rfl) (by kernel_rfl) (fun _ _ _ h => panic_put (P := Tryd.prog) (fn := Tryd.f7) (R := fun en w' => ToldEnd w en w') h) (Or.inl ⟨by rfl, ?y6⟩) (by assumption) ?_
  case y6 => (intro w hSw; (try dsimp only at hSw); go_simp); try with_reducible rfl
  change wpAnyH _ _ _ _ _ _ _ (Act.put _ (some 65) _) _
  simp only [Act.put, List.setIfInBounds_toArray, List.set_cons_zero, List.set_cons_succ]
  refine wpAnyH_take (i := 7) (v := ?v7) rfl (by kernel_rfl) (by kernel_rfl) (by kernel_rfl) (fun _ _ _ h => panic_put (P := Tryd.prog) (fn := Tryd.f7) (R := fun en w' => ToldEnd w en w') h) (Or.inl ⟨by rfl, ?y7⟩) (by assumption) ?_
  case y7 => (intro w hSw; (try dsimp only at hSw); go_simp); try with_reducible rfl
  change wpAnyH _ _ _ _ _ _ _ (Act.put _ (some 66) _) _
  simp only [Act.put, List.setIfInBounds_toArray, List.set_cons_zero, List.set_cons_succ]
  refine wpAnyH_take (i := 8) (v := ?v8) rfl (by kernel_rfl) (by kernel_rfl) (by kernel_rfl) (fun _ _ _ h => panic_put (P := Tryd.prog) (fn := Tryd.f7) (R := fun en w' => ToldEnd w en w') h) (Or.inl ⟨by rfl, ?y8⟩) (by assumption) ?_
  case y8 => (intro w hSw; (try dsimp only at hSw); go_simp); try with_reducible rfl
  change wpAnyH _ _ _ _ _ _ _ (Act.put _ (some 67) _) _
  simp only [Act.put, List.setIfInBounds_toArray, List.set_cons_zero, List.set_cons_succ]
  refine wpAnyH_take (i := 9) (v := ?v9) rfl (by kernel_rfl) (by kernel_rfl) (by kernel_rfl) (fun _ _ _ h => panic_put (P := Tryd.prog) (fn := Tryd.f7) (R := fun en w' => ToldEnd w en w') h) (Or.inl ⟨by rfl, ?y9⟩) (by assumption) ?_
  case y9 => (intro w hSw; (try dsimp only at hSw); go_simp); try with_reducible rfl
  change wpAnyH _ _ _ _ _ _ _ (Act.put _ (some 68) _) _
  simp only [Act.put, List.setIfInBounds_toArray, List.set_cons_zero, List.set_cons_succ]
  refine wpAnyH_take (i := 10) (v := ?v10) rfl (by kernel_rfl) (by kernel_rfl) (by kernel_rfl) (fun _ _ _ h => panic_put (P := Tryd.prog) (fn := Tryd.f7) (R := fun en w' => ToldEnd w en w') h) (Or.inl ⟨by rfl, ?y10⟩) (by assumption) ?_
  case y10 => (intro w hSw; (try dsimp only at hSw); go_simp); try with_reducible rfl
  change wpAnyH _ _ _ _ _ _ _ (Act.put _ (some 69) _) _
  simp only [Act.put, List.setIfInBounds_toArray, List.set_cons_zero, List.set_cons_succ]
  refine wpAnyH_take (i := 11) (v := ?v11) rfl (by kernel_rfl) (by kernel_rfl) (by kernel_rfl) (fun _ _ _ h => panic_put (P := Tryd.prog) (fn := Tryd.f7) (R := fun en w' => ToldEnd w en w') h) (Or.inl ⟨by rfl, ?y11⟩) (by assumption) ?_
  case y11 => (intro w hSw; (try dsimp only at hSw); go_simp); try with_reducible rfl
  change wpAnyH _ _ _ _ _ _ _ (Act.put _ (some 70) _) _
  simp only [Act.put, List.setIfInBounds_toArray, List.set_cons_zero, List.set_cons_succ]
  refine wpAnyH_ready (rs := [12]) (by kernel_rfl) (by simp) ?_
  refine AllReadyH.cons (o := _) rfl (fun K hK => ?_) AllReadyH.nil
  go_simp
  refine (same_true (ha.heap (by rfl)) (N.heap (by rfl))).mono ?_
  rintro en w' ⟨rfl, b⟩
  replace hT := hT.next b (by rfl)
  replace N := N.next b (by rfl)
  replace g := g.next b (by rfl)
  replace ha := ha.next b (by rfl)
  replace xa := xa.next b (by rfl)
  replace hb := hb.next b (by rfl)
  replace xb := xb.next b (by rfl)
  replace BB := below_next BB BB.size b (by rfl) (by rfl) (by rfl) (by rfl)
  clear b
  obtain ⟨q0, q1, q2⟩ := g.held
  obtain ⟨q3, q4, q5⟩ := xa.held
  obtain ⟨q6, q7, q8⟩ := xb.held
  refine hK.out _ _ (by first | (dsimp only; go_keep) | go_keep) (fun hHeld2 => ?_)
  clear hK K hHeld1
  clear q0 q1 q2 q3 q4 q5 q6 q7 q8
  try simp only [Act.put]
  refine wpAnyH_take (i := 13) (v := ?v13) rfl (by kernel_rfl) (by kernel_rfl) (by kernel_rfl) (fun _ _ _ h => panic_put (P := Tryd.prog) (fn := Tryd.f7) (R := fun en w' => ToldEnd w en w') h) (Or.inl ⟨by rfl, ?y13⟩) (by assumption) ?_
  case y13 => (intro w hSw; (try dsimp only at hSw); go_simp); try with_reducible rfl
  change wpAnyH _ _ _ _ _ _ _ (Act.put _ (some 72) _) _
  simp only [Act.put, List.setIfInBounds_toArray, List.set_cons_zero, List.set_cons_succ]
  refine wpAnyH_take (i := 14) (v := ?v14) rfl (by kernel_rfl) (by kernel_rfl) (by kernel_rfl) (fun _ _ _ h => panic_put (P := Tryd.prog) (fn := Tryd.f7) (R := fun en w' => ToldEnd w en w') h) (Or.inl ⟨by rfl, ?y14⟩) (by assumption) ?_
  case y14 => (intro w hSw; (try dsimp only at hSw); go_simp); try with_reducible rfl
  change wpAnyH _ _ _ _ _ _ _ (Act.put _ (some 73) _) _
  simp only [Act.put, List.setIfInBounds_toArray, List.set_cons_zero, List.set_cons_succ]
  refine wpAnyH_take (i := 15) (v := ?v15) rfl (by kernel_rfl) (by kernel_rfl) (by kernel_rfl) (fun _ _ _ h => panic_put (P := Tryd.prog) (fn := Tryd.f7) (R := fun en w' => ToldEnd w en w') h) (Or.inl ⟨by rfl, ?y15⟩) (by assumption) ?_
  case y15 => (intro w hSw; (try dsimp only at hSw); go_simp); try with_reducible rfl
  change wpAnyH _ _ _ _ _ _ _ (Act.put _ (some 74) _) _
  simp only [Act.put, List.setIfInBounds_toArray, List.set_cons_zero, List.set_cons_succ]
  refine wpAnyH_take (i := 16) (v := ?v16) rfl (by kernel_rfl) (by kernel_rfl) (by kernel_rfl) (fun _ _ _ h => panic_put (P := Tryd.prog) (fn := Tryd.f7) (R := fun en w' => ToldEnd w en w') h) (Or.inl ⟨by rfl, ?y16⟩) (by assumption) ?_
  case y16 => (intro w hSw; (try dsimp only at hSw); go_simp); try with_reducible rfl
  change wpAnyH _ _ _ _ _ _ _ (Act.put _ (some 75) _) _
  simp only [Act.put, List.setIfInBounds_toArray, List.set_cons_zero, List.set_cons_succ]
  refine wpAnyH_ready (rs := [17]) (by kernel_rfl) (by simp) ?_
  refine AllReadyH.cons (o := _) rfl (fun K hK => ?_) AllReadyH.nil
  go_simp
  refine (neg_turn (hT.heap (by rfl)) (N.heap (by rfl)) HOK.out H0.out rfl).mono ?_
  rintro en w' ⟨A7, n7, c7, rfl, hc, b⟩
  replace hT := hT.next b (by rfl)
  replace N := N.next b (by rfl)
  replace g := g.next b (by rfl)
  replace ha := ha.next b (by rfl)
  replace xa := xa.next b (by rfl)
  replace hb := hb.next b (by rfl)
  replace xb := xb.next b (by rfl)
  replace BB := below_next BB BB.size b (by rfl) (by rfl) (by rfl) (by rfl)
  clear b
  obtain ⟨q0, q1, q2⟩ := g.held
  obtain ⟨q3, q4, q5⟩ := xa.held
  obtain ⟨q6, q7, q8⟩ := xb.held
  refine hK.out _ _ (by first | (dsimp only; go_keep) | go_keep) (fun hHeld3 => ?_)
  clear hK K hHeld2
  clear q0 q1 q2 q3 q4 q5 q6 q7 q8
  try simp only [Act.put]
  refine wpAnyH_ready (rs := [18]) (by kernel_rfl) (by simp) ?_
  refine AllReadyH.cons (o := _) rfl (fun K hK => ?_) AllReadyH.nil
  go_simp
  refine (same_true (hb.heap (by rfl)) (hc.heap (by rfl))).mono ?_
  rintro en w' ⟨rfl, b⟩
  replace hT := hT.next b (by rfl)
  replace N := N.next b (by rfl)
  replace g := g.next b (by rfl)
  replace ha := ha.next b (by rfl)
  replace xa := xa.next b (by rfl)
  replace hb := hb.next b (by rfl)
  replace xb := xb.next b (by rfl)
  replace hc := hc.next b (by rfl)
  replace BB := below_next BB BB.size b (by rfl) (by rfl) (by rfl) (by rfl)
  clear b
  obtain ⟨q0, q1, q2⟩ := g.held
  obtain ⟨q3, q4, q5⟩ := xa.held
  obtain ⟨q6, q7, q8⟩ := xb.held
  refine hK.out _ _ (by first | (dsimp only; go_keep) | go_keep) (fun hHeld4 => ?_)
  clear hK K hHeld3
  clear q0 q1 q2 q3 q4 q5 q6 q7 q8
  try simp only [Act.put]
  refine wpAnyH_take (i := 19) (v := ?v19) rfl (by kernel_rfl) (by kernel_rfl) (by kernel_rfl) (fun _ _ _ h => panic_put (P := Tryd.prog) (fn := Tryd.f7) (R := fun en w' => ToldEnd w en w') h) (Or.inl ⟨by rfl, ?y19⟩) (by assumption) ?_
  case y19 => (intro w hSw; (try dsimp only at hSw); go_simp); try with_reducible rfl
  change wpAnyH _ _ _ _ _ _ _ (Act.put _ (some 78) _) _
  simp only [Act.put, List.setIfInBounds_toArray, List.set_cons_zero, List.set_cons_succ]
  refine wpAnyH_take (i := 20) (v := ?v20) rfl (by kernel_rfl) (by kernel_rfl) (by kernel_rfl) (fun _ _ _ h => panic_put (P := Tryd.prog) (fn := Tryd.f7) (R := fun en w' => ToldEnd w en w') h) (Or.inl ⟨by rfl, ?y20⟩) (by assumption) ?_
  case y20 => (intro w hSw; (try dsimp only at hSw); go_simp); try with_reducible rfl
  change wpAnyH _ _ _ _ _ _ _ (Act.put _ (some 4) _) _
  simp only [Act.put, List.setIfInBounds_toArray, List.set_cons_zero, List.set_cons_succ]
  refine wpAnyH_done (by kernel_rfl) ?_ _
  go_wp2
  go_ret
  exact ⟨by first | rfl | simp, BB⟩

theorem ones_any {w : World} {A : Option Addr} {n c : Nat} {l : List Nat} {s : Bool} {e p : Int} (hT : Tab w) (h : Rd w .u64 W A n c l) :
    Calls Tryd.prog 7 #[.agg #[.bool s, .slice A n c, .int .i64 e], .int .i64 p] w fun en w' => ToldEnd w en w' := by
  by_cases hn : n ≤ 20
  · cases hd : mayD s l e
    · exact ones_bad hT h hn hd
    · by_cases hlo : e < -1048276
      · exact ones_low hT h hn hd hlo
      · by_cases h0 : val W l = 0
        · exact ones_zero hT h hn hd (by omega) h0
        · exact ones_some hT h hn hd (by omega) h0
  · exact ones_out hT h (by omega)
end Go.Proofs.YtkfcnodnefpboaaDoor
