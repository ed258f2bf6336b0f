/-
  Contract of the statement DyadFar's function at this translation: it returns true, whatever its arguments. Condition: the table of math/bits reads as its text lays it.
-/
import Derived.Test.YtkfcnodnefpboaaDoorDye
namespace Go.Proofs.YtkfcnodnefpboaaDoor
open Go.RowKit

theorem or_odd (a : Nat) (h : a < 18446744073709551616) : ∃ u : Nat, bits .or .u64 (a : Int) 1 = (u : Int) ∧ u % 2 = 1 ∧ u < 18446744073709551616 := by
  have h1 := bits_or_u64_nat a 1 h (by omega)
  refine ⟨a ||| 1, h1, ?_, Nat.or_lt_two_pow (n := 64) h (by omega)⟩
  rw [Nat.or_mod_two_eq_one]
  exact .inr rfl
theorem far_pow {m j : Nat} (hm : 0 < m) (hj : 4096 ≤ j) : W ^ 64 ≤ m * 2 ^ j := by
  obtain ⟨k, hk⟩ : ∃ k, k = 64 * 64 := ⟨_, rfl⟩
  rw [W64_pow, ← hk]
  have h2 : 2 ^ k ≤ 2 ^ j := Nat.pow_le_pow_right (by omega) (by omega)
  have h3 : 1 * 2 ^ j ≤ m * 2 ^ j := Nat.mul_le_mul_right _ hm
  omega
theorem okd_far {s : Bool} {u : Nat} {e : Int} (h1 : u % 2 = 1) (h2 : u < 18446744073709551616) (he : -1048576 ≤ e) (he' : e ≤ 1048576) : OkD s u e :=
  .inr ⟨h1, Nat.lt_of_lt_of_le (by rw [W_eq]; exact h2) (Nat.le_self_pow (by omega) W), he, he'⟩
/-- what is told of a sum that is too long -/
theorem far_sum {K u v k : Nat} (hK : 4194304 ≤ K) (hu : u % 2 = 1) (hv : v % 2 = 1) (hvB : v < 18446744073709551616) (hk : 5000 ≤ k) (hk' : k ≤ 600000) :
    NmV K (vz K false u (k : Int) + vz K false v (-(k : Int))) 2 false 0 0 ∧ NmV K (vz K false v (-(k : Int)) - vz K false u (k : Int)) 2 false 0 0 := by
  have e1 : (-(k : Int)) + ((2 * k : Nat) : Int) = (k : Int) := by omega
  have h1 := vz_up (K := K) (s := false) (m := u) (e := -(k : Int)) (by omega) (2 * k)
  rw [e1] at h1
  have hb := far_pow (m := u) (j := 2 * k) (by omega) (by omega)
  have hV : v < W := by rw [W_eq]; exact hvB
  obtain ⟨p, hp, hp0⟩ := W64_even
  have he : u * 2 ^ (2 * k) = 2 * (u * 2 ^ (2 * k - 1)) := by
    have : 2 ^ (2 * k) = 2 * 2 ^ (2 * k - 1) := by rw [← Nat.pow_succ']; congr 1; omega
    rw [this]; ac_rfl
  have hbig : W ^ 64 + v ≤ u * 2 ^ (2 * k) := by
    have hb2 := far_pow (m := u) (j := 2 * k - 1) (by omega) (by omega)
    have hW : W ≤ W ^ 64 := Nat.le_self_pow (by omega) W
    omega
  constructor
  · refine (nmv_odd hK (s := false) (m := u * 2 ^ (2 * k) + v) (e := -(k : Int)) ?_ (by omega) (by omega) (by omega)).2 (by omega)
    rw [vz_add, h1]
  · refine (nmv_odd hK (s := true) (m := u * 2 ^ (2 * k) - v) (e := -(k : Int)) ?_ (by omega) (by omega) (by omega)).2 (by omega)
    have h2 := vz_sub (K := K) (s := true) (m := u * 2 ^ (2 * k)) (n := v) (e := -(k : Int)) (by omega)
    rw [h2]
    have h3 : vz K true (u * 2 ^ (2 * k)) (-(k : Int)) = - vz K false (u * 2 ^ (2 * k)) (-(k : Int)) := vz_not K false _ _
    have h4 : vz K (!true) v (-(k : Int)) = vz K false v (-(k : Int)) := rfl
    rw [h3, h4, ← h1]
    omega
theorem add_far {w : World} {A B : Option Addr} {n c m d u v k : Nat} (hT : Tab w) (h : Nt w A n c u) (h' : Nt w B m d v) (hu : u % 2 = 1) (huB : u < 18446744073709551616) (hv : v % 2 = 1) (hvB : v < 18446744073709551616) (hk : 5000 ≤ k) (hk' : k ≤ 600000) :
    Calls Tryd.prog 19 #[.agg #[.bool false, .slice A n c, .int .i64 (k : Int)], .agg #[.bool false, .slice B m d, .int .i64 (-(k : Int))]] w (ToldIs false 0 0 2 w) := by
  obtain ⟨K, hK⟩ := scale_has
  exact (dadd_ok hK hT h h' (okd_far hu huB (by omega) (by omega)) (okd_far hv hvB (by omega) (by omega))).mono fun _ _ h => told_is h fun _ _ _ _ hp => nmv_fun hp (far_sum hK hu hv hvB hk hk').1
theorem sub_far {w : World} {A B : Option Addr} {n c m d u v k : Nat} (hT : Tab w) (h : Nt w A n c u) (h' : Nt w B m d v) (hu : u % 2 = 1) (huB : u < 18446744073709551616) (hv : v % 2 = 1) (hvB : v < 18446744073709551616) (hk : 5000 ≤ k) (hk' : k ≤ 600000) :
    Calls Tryd.prog 21 #[.agg #[.bool false, .slice B m d, .int .i64 (-(k : Int))], .agg #[.bool false, .slice A n c, .int .i64 (k : Int)]] w (ToldIs false 0 0 2 w) := by
  obtain ⟨K, hK⟩ := scale_has
  exact (dsub_ok hK hT h' h (okd_far hv hvB (by omega) (by omega)) (okd_far hu huB (by omega) (by omega))).mono fun _ _ h => told_is h fun _ _ _ _ hp => nmv_fun hp (far_sum hK hu hv hvB hk hk').2
theorem mul_far {w : World} {A B : Option Addr} {n c m d u v k : Nat} (hT : Tab w) (h : Nt w A n c u) (h' : Nt w B m d v) (hu : u % 2 = 1) (huB : u < 18446744073709551616) (hv : v % 2 = 1) (hvB : v < 18446744073709551616) (hk' : k ≤ 600000) :
    Calls Tryd.prog 23 #[.agg #[.bool false, .slice A n c, .int .i64 (k : Int)], .agg #[.bool false, .slice B m d, .int .i64 (-(k : Int))]] w (ToldIs false (u * v) 0 0 w) := by
  refine (dmul_ok hT h h' (okd_far hu huB (by omega) (by omega)) (okd_far hv hvB (by omega) (by omega))).mono fun _ _ h => told_is h fun _ _ _ _ hp => ?_
  have e0 : (k : Int) + (-(k : Int)) = 0 := by omega
  rw [e0] at hp
  have hlt : u * v < W ^ 64 := by
    have h1 : u * v < W * W := Nat.mul_lt_mul'' (by rw [W_eq]; exact huB) (by rw [W_eq]; exact hvB)
    have h2 : W * W ≤ W ^ 64 := by rw [← Nat.pow_two]; exact Nat.pow_le_pow_right (by rw [W_eq]; omega) (by omega)
    omega
  exact nm_fun hp (nm_self (.inr ⟨odd_mul hu hv, hlt, by decide, by decide⟩))
theorem vz_far {K u v k : Nat} (hu : u % 2 = 1) (hvB : v < 18446744073709551616) (hk : 5000 ≤ k) (hK : 4194304 ≤ K) (hk' : k ≤ 600000) : vz K false v (-(k : Int)) < vz K false u (k : Int) := by
  have e1 : (-(k : Int)) + ((2 * k : Nat) : Int) = (k : Int) := by omega
  have h1 := vz_up (K := K) (s := false) (m := u) (e := -(k : Int)) (by omega) (2 * k)
  rw [e1] at h1
  rw [h1]
  have hb := far_pow (m := u) (j := 2 * k) (by omega) (by omega)
  have hW : W ≤ W ^ 64 := Nat.le_self_pow (by omega) W
  rw [W_eq] at hW
  have hlt : v < u * 2 ^ (2 * k) := by rw [W_eq] at hb; omega
  unfold vz
  have := Nat.mul_lt_mul_of_pos_right hlt (show 0 < 2 ^ (-(k : Int) + K).toNat from Nat.pow_pos (by omega))
  simp only [sg, Bool.false_eq_true, if_false]
  generalize v * 2 ^ (-(k : Int) + K).toNat = X at *
  generalize u * 2 ^ (2 * k) * 2 ^ (-(k : Int) + K).toNat = Y at *
  omega
theorem cmp_far {w : World} {A B : Option Addr} {n c m d u v k : Nat} (hT : Tab w) (h : Nt w A n c u) (h' : Nt w B m d v) (hu : u % 2 = 1) (huB : u < 18446744073709551616) (hv : v % 2 = 1) (hvB : v < 18446744073709551616) (hk : 5000 ≤ k) (hk' : k ≤ 600000) :
    Calls Tryd.prog 28 #[.agg #[.bool false, .slice A n c, .int .i64 (k : Int)], .agg #[.bool false, .slice B m d, .int .i64 (-(k : Int))]] w (Ints 1 w) := by
  obtain ⟨K, hK⟩ := scale_has
  have := dcmp_ok hK hT h h' (okd_far (s := false) (e := (k : Int)) hu huB (by omega) (by omega)) (okd_far (s := false) (e := -(k : Int)) hv hvB (by omega) (by omega))
  rwa [cmpV_gt (vz_far hu hvB hk hK hk')] at this
theorem cmp_far2 {w : World} {A B : Option Addr} {n c m d u v k : Nat} (hT : Tab w) (h : Nt w A n c u) (h' : Nt w B m d v) (hu : u % 2 = 1) (huB : u < 18446744073709551616) (hv : v % 2 = 1) (hvB : v < 18446744073709551616) (hk' : k ≤ 600000) :
    Calls Tryd.prog 28 #[.agg #[.bool true, .slice A n c, .int .i64 (k : Int)], .agg #[.bool false, .slice B m d, .int .i64 (-(k : Int))]] w (Ints (-1) w) := by
  obtain ⟨K, hK⟩ := scale_has
  have := dcmp_ok hK hT h h' (okd_far (s := true) (e := (k : Int)) hu huB (by omega) (by omega)) (okd_far (s := false) (e := -(k : Int)) hv hvB (by omega) (by omega))
  rwa [cmpV_lt (by have h1 := (vz_pos (K := K) (s := true) (x := u) (e := (k : Int)) (by omega)).2 rfl; have h2 := (vz_pos (K := K) (s := false) (x := v) (e := -(k : Int)) (by omega)).1 rfl; omega)] at this
theorem neg_far {w : World} {A : Option Addr} {n c u k : Nat} (hT : Tab w) (h : Nt w A n c u) (hu : u % 2 = 1) (huB : u < 18446744073709551616) (hk' : k ≤ 600000) :
    Calls Tryd.prog 33 #[.agg #[.bool false, .slice A n c, .int .i64 (k : Int)]] w (Goods true u (k : Int) w) :=
  neg_turn hT h (okd_far hu huB (by omega) (by omega)) (by omega) rfl
theorem same_zero {w : World} {A : Option Addr} {n c : Nat} (h : Nt w A n c 0) :
    Calls Tryd.prog 35 #[.agg #[.bool false, .slice A n c, .int .i64 0], .agg #[.bool false, .slice none 0 0, .int .i64 0]] w fun en w' => en = .returned (.bool true) ∧ Below w.heap.size w w' := by
  have := dsame_eq (s := false) (e := 0) h.rd (nt_nil w).rd
  simpa using this

set_option maxRecDepth 100000 in
set_option maxHeartbeats 20000000 in
theorem far_any {w : World} {a b0 : Nat} {n : Int} (hT : Tab w) (ha : a < 18446744073709551616) (hb0 : b0 < 18446744073709551616) :
    Calls Tryd.prog 8 #[.int .u64 (a : Int), .int .u64 (b0 : Int), .int .i64 n] w fun en w' => ToldEnd w en w' := by
  obtain ⟨u, hou, hu, huB⟩ := or_odd a ha
  obtain ⟨v, hov, hv, hvB⟩ := or_odd b0 hb0
  obtain ⟨r, hr⟩ := Int.eq_ofNat_of_zero_le (show 0 ≤ IntKind.u64.wrap n by rw [IntKind.wrap_u64]; omega)
  obtain ⟨q, hq⟩ : ∃ q, q = r % 500000 := ⟨_, rfl⟩
  obtain ⟨k, hk⟩ : ∃ k, k = 5000 + q := ⟨_, rfl⟩
  have e1 : (r : Int) % 500000 = (q : Int) := by omega
  have e2 : (5000 : Int) + (q : Int) = (k : Int) := by omega
  have e0 : (0 : Int) ≤ (r : Int) := by omega
  have q1 : (q : Int) ≤ 500000 := by omega
  have k1 : 5000 ≤ k := by omega
  have k2 : k ≤ 600000 := by omega
  have k3 : (k : Int) ≤ 600000 := by omega
  have HU := Lib.hid hu
  have HV := Lib.hid hv
  have HUB := Lib.hid huB
  have HVB := Lib.hid hvB
  clear hq hk ha hb0 hu hv huB hvB
  have h1 : Nt ((w.alloc (.cells #[.int .u64 (u : Int)] 42)).alloc (.cells #[.int .u64 (v : Int)] 42)) (some ⟨w.heap.size, 0, none⟩) 1 1 u := (nt_one w (by have := HU.out; omega) (by rw [W_eq]; exact HUB.out)).alloc _
  have h2 : Nt ((w.alloc (.cells #[.int .u64 (u : Int)] 42)).alloc (.cells #[.int .u64 (v : Int)] 42)) (some ⟨w.heap.size + 1, 0, none⟩) 1 1 v := by
    have := nt_one (w.alloc (.cells #[.int .u64 (u : Int)] 42)) (v := v) (by have := HV.out; omega) (by rw [W_eq]; exact HVB.out)
    simpa using this
  have BB := two_below w (.cells #[.int .u64 (u : Int)] 42) (.cells #[.int .u64 (v : Int)] 42)
  have hT1 := hT.below BB
  have g := two_new ((w.alloc (.cells #[.int .u64 (u : Int)] 42)).alloc (.cells #[.int .u64 (v : Int)] 42)) false false (some ⟨w.heap.size, 0, none⟩) (some ⟨w.heap.size + 1, 0, none⟩) 1 1 1 1 (k : Int) (-(k : Int))
  have b := two_below ((w.alloc (.cells #[.int .u64 (u : Int)] 42)).alloc (.cells #[.int .u64 (v : Int)] 42)) (.cells #[.bool false, .slice (some ⟨w.heap.size, 0, none⟩) 1 1, .int .i64 (k : Int)] 24) (.cells #[.bool false, .slice (some ⟨w.heap.size + 1, 0, none⟩) 1 1, .int .i64 (-(k : Int))] 24)
  have e3 : ((w.alloc (.cells #[.int .u64 (u : Int)] 42)).alloc (.cells #[.int .u64 (v : Int)] 42)).heap.size = w.heap.size + 2 := by simp
  replace h1 := h1.next b rfl
  replace h2 := h2.next b rfl
  replace hT1 := hT1.next b rfl
  replace BB := below_next BB BB.size b rfl rfl rfl rfl
  rw [e3] at g
  clear b e3 hT
  go_enter Tryd.func8, Tryd.ntmps8
  obtain ⟨p0, p1, p2, p3, p4, p5⟩ := g.held
  go_wp2_with fail
  refine (add_far hT1 h1 h2 HU.out HUB.out HV.out HVB.out k1 k2).mono ?_
  rintro en w1 ⟨A3, n3, c3, rfl, h3, b⟩
  clear p0 p1 p2 p3 p4 p5
  replace h1 := h1.next b rfl
  replace h2 := h2.next b rfl
  replace hT1 := hT1.next b rfl
  replace g := g.next b rfl
  replace BB := below_next BB BB.size b rfl rfl rfl rfl
  clear b
  have x3 := Box.new w1 false A3 n3 c3 0
  have b := below_alloc w1 (.cells #[.bool false, .slice A3 n3 c3, .int .i64 0] 24)
  replace h1 := h1.next b rfl
  replace h2 := h2.next b rfl
  replace hT1 := hT1.next b rfl
  replace g := g.next b rfl
  replace h3 := h3.next b rfl
  replace BB := below_next BB BB.size b rfl rfl rfl rfl
  clear b
  obtain ⟨p0, p1, p2, p3, p4, p5⟩ := g.held
  go_wp2_with fail
  refine (sub_far hT1 h1 h2 HU.out HUB.out HV.out HVB.out k1 k2).mono ?_
  rintro en w2 ⟨A4, n4, c4, rfl, h4, b⟩
  clear p0 p1 p2 p3 p4 p5
  replace h1 := h1.next b rfl
  replace h2 := h2.next b rfl
  replace hT1 := hT1.next b rfl
  replace g := g.next b rfl
  replace h3 := h3.next b rfl
  replace x3 := x3.next b rfl
  replace BB := below_next BB BB.size b rfl rfl rfl rfl
  clear b
  have x4 := Box.new w2 false A4 n4 c4 0
  have b := below_alloc w2 (.cells #[.bool false, .slice A4 n4 c4, .int .i64 0] 24)
  replace h1 := h1.next b rfl
  replace h2 := h2.next b rfl
  replace hT1 := hT1.next b rfl
  replace g := g.next b rfl
  replace h3 := h3.next b rfl
  replace x3 := x3.next b rfl
  replace h4 := h4.next b rfl
  replace BB := below_next BB BB.size b rfl rfl rfl rfl
  clear b
  obtain ⟨p0, p1, p2, p3, p4, p5⟩ := g.held
  go_wp2_with fail
  refine (mul_far hT1 h1 h2 HU.out HUB.out HV.out HVB.out k2).mono ?_
  rintro en w3 ⟨A5, n5, c5, rfl, _, b⟩
  clear p0 p1 p2 p3 p4 p5
  replace h1 := h1.next b rfl
  replace h2 := h2.next b rfl
  replace hT1 := hT1.next b rfl
  replace g := g.next b rfl
  replace h3 := h3.next b rfl
  replace x3 := x3.next b rfl
  replace h4 := h4.next b rfl
  replace x4 := x4.next b rfl
  replace BB := below_next BB BB.size b rfl rfl rfl rfl
  clear b
  have x5 := Box.new w3 false A5 n5 c5 0
  have b := below_alloc w3 (.cells #[.bool false, .slice A5 n5 c5, .int .i64 0] 24)
  replace h1 := h1.next b rfl
  replace h2 := h2.next b rfl
  replace hT1 := hT1.next b rfl
  replace g := g.next b rfl
  replace h3 := h3.next b rfl
  replace x3 := x3.next b rfl
  replace h4 := h4.next b rfl
  replace x4 := x4.next b rfl
  replace BB := below_next BB BB.size b rfl rfl rfl rfl
  clear b
  obtain ⟨p0, p1, p2, p3, p4, p5⟩ := g.held
  obtain ⟨p6, p7, p8⟩ := x3.held
  obtain ⟨p9, p10, p11⟩ := x4.held
  obtain ⟨p12, p13, p14⟩ := x5.held
  go_wp2_with fail
  refine wp_region_held_drew (S := fun w' => w'.cell? ⟨w.heap.size + 2, 0, none⟩ = some (.bool false) ∧ w'.cell? ⟨w.heap.size + 2, 1, none⟩ = some (.slice (some ⟨w.heap.size, 0, none⟩) 1 1) ∧ w'.cell? ⟨w.heap.size + 2, 2, none⟩ = some (.int .i64 (k : Int)) ∧ w'.cell? ⟨w.heap.size + 2 + 1, 0, none⟩ = some (.bool false) ∧ w'.cell? ⟨w.heap.size + 2 + 1, 1, none⟩ = some (.slice (some ⟨w.heap.size + 1, 0, none⟩) 1 1) ∧ w'.cell? ⟨w.heap.size + 2 + 1, 2, none⟩ = some (.int .i64 (-(k : Int))) ∧ w'.cell? ⟨w1.heap.size, 0, none⟩ = some (.bool false) ∧ w'.cell? ⟨w1.heap.size, 1, none⟩ = some (.slice A3 n3 c3) ∧ w'.cell? ⟨w1.heap.size, 2, none⟩ = some (.int .i64 0) ∧ w'.cell? ⟨w2.heap.size, 0, none⟩ = some (.bool false) ∧ w'.cell? ⟨w2.heap.size, 1, none⟩ = some (.slice A4 n4 c4) ∧ w'.cell? ⟨w2.heap.size, 2, none⟩ = some (.int .i64 0) ∧ w'.cell? ⟨w3.heap.size, 0, none⟩ = some (.bool false) ∧ w'.cell? ⟨w3.heap.size, 1, none⟩ = some (.slice A5 n5 c5) ∧ w'.cell? ⟨w3.heap.size, 2, none⟩ = some (.int .i64 0)) (by kernel_rfl) (by first | (dsimp only; go_keep) | go_keep) (fun hHeld0 => ?_)
  clear p0 p1 p2 p3 p4 p5 p6 p7 p8 p9 p10 p11 p12 p13 p14 hou hov hr e0 e1 e2 q1 k3
  refine wpAnyH_ready (rs := [0]) (by kernel_rfl) (by simp) ?_
  refine AllReadyH.cons (o := _) rfl (fun K hK => ?_) AllReadyH.nil
  go_simp
  refine (dtold_any (hT1.heap (by rfl))).mono ?_
  rintro en w' ⟨rfl, b⟩
  replace h1 := h1.next b (by rfl)
  replace h2 := h2.next b (by rfl)
  replace h3 := h3.next b (by rfl)
  replace h4 := h4.next b (by rfl)
  replace hT1 := hT1.next b (by rfl)
  replace g := g.next b (by rfl)
  replace x3 := x3.next b (by rfl)
  replace x4 := x4.next b (by rfl)
  replace x5 := x5.next b (by rfl)
  replace BB := below_next BB BB.size b (by rfl) (by rfl) (by rfl) (by rfl)
  clear b
  obtain ⟨q0, q1, q2, q3, q4, q5⟩ := g.held
  obtain ⟨q6, q7, q8⟩ := x3.held
  obtain ⟨q9, q10, q11⟩ := x4.held
  obtain ⟨q12, q13, q14⟩ := x5.held
  refine hK.out _ _ (by first | (dsimp only; go_keep) | go_keep) (fun hHeld1 => ?_)
  clear hK K hHeld0
  clear q0 q1 q2 q3 q4 q5 q6 q7 q8 q9 q10 q11 q12 q13 q14
  try simp only [Act.put]
  refine wpAnyH_take (i := 1) (v := ?v1) rfl (by kernel_rfl) (by kernel_rfl) (by kernel_rfl) (fun _ _ _ h => panic_put (P := Tryd.prog) (fn := Tryd.f8) (R := fun en w' => ToldEnd w en w') h) (Or.inl ⟨by rfl, ?y1⟩) (by assumption) ?_
  case y1 => (intro w hSw; (try dsimp only at hSw); go_simp); try with_reducible rfl
  change wpAnyH _ _ _ _ _ _ _ (Act.put _ (some 51) _) _
  simp only [Act.put, List.setIfInBounds_toArray, List.set_cons_zero, List.set_cons_succ]
  refine wpAnyH_take (i := 2) (v := ?v2) rfl (by kernel_rfl) (by kernel_rfl) (by kernel_rfl) (fun _ _ _ h => panic_put (P := Tryd.prog) (fn := Tryd.f8) (R := fun en w' => ToldEnd w en w') h) (Or.inl ⟨by rfl, ?y2⟩) (by assumption) ?_
  case y2 => (intro w hSw; (try dsimp only at hSw); go_simp); try with_reducible rfl
  change wpAnyH _ _ _ _ _ _ _ (Act.put _ (some 52) _) _
  simp only [Act.put, List.setIfInBounds_toArray, List.set_cons_zero, List.set_cons_succ]
  refine wpAnyH_take (i := 3) (v := ?v3) rfl (by kernel_rfl) (by kernel_rfl) (by kernel_rfl) (fun _ _ _ h => panic_put (P := Tryd.prog) (fn := Tryd.f8) (R := fun en w' => ToldEnd w en w') h) (Or.inl ⟨by rfl, ?y3⟩) (by assumption) ?_
  case y3 => (intro w hSw; (try dsimp only at hSw); go_simp); try with_reducible rfl
  change wpAnyH _ _ _ _ _ _ _ (Act.put _ (some 53) _) _
  simp only [Act.put, List.setIfInBounds_toArray, List.set_cons_zero, List.set_cons_succ]
  refine wpAnyH_ready (rs := [4]) (by kernel_rfl) (by simp) ?_
  refine AllReadyH.cons (o := _) rfl (fun K hK => ?_) AllReadyH.nil
  go_simp
  refine (cmp_far (hT1.heap (by rfl)) (h1.heap (by rfl)) (h2.heap (by rfl)) HU.out HUB.out HV.out HVB.out k1 k2).mono ?_
  rintro en w' ⟨rfl, b⟩
  replace h1 := h1.next b (by rfl)
  replace h2 := h2.next b (by rfl)
  replace h3 := h3.next b (by rfl)
  replace h4 := h4.next b (by rfl)
  replace hT1 := hT1.next b (by rfl)
  replace g := g.next b (by rfl)
  replace x3 := x3.next b (by rfl)
  replace x4 := x4.next b (by rfl)
  replace x5 := x5.next b (by rfl)
  replace BB := below_next BB BB.size b (by rfl) (by rfl) (by rfl) (by rfl)
  clear b
  obtain ⟨q0, q1, q2, q3, q4, q5⟩ := g.held
  obtain ⟨q6, q7, q8⟩ := x3.held
  obtain ⟨q9, q10, q11⟩ := x4.held
  obtain ⟨q12, q13, q14⟩ := x5.held
  refine hK.out _ _ (by first | (dsimp only; go_keep) | go_keep) (fun hHeld2 => ?_)
  clear hK K hHeld1
  clear q0 q1 q2 q3 q4 q5 q6 q7 q8 q9 q10 q11 q12 q13 q14
  try simp only [Act.put]
  refine wpAnyH_take (i := 5) (v := ?v5) rfl (by kernel_rfl) (by kernel_rfl) (by kernel_rfl) (fun _ _ _ h => panic_put (P := Tryd.prog) (fn := Tryd.f8) (R := fun en w' => ToldEnd w en w') h) (Or.inl ⟨by rfl, ?y5⟩) (by assumption) ?_
  case y5 => (intro w hSw; (try dsimp only at hSw); go_simp); try with_reducible rfl
  change wpAnyH _ _ _ _ _ _ _ (Act.put _ (some 55) _) _
  simp only [Act.put, List.setIfInBounds_toArray, List.set_cons_zero, List.set_cons_succ]
  refine wpAnyH_take (i := 6) (v := ?v6) rfl (by kernel_rfl) (by kernel_rfl) (by kernel_rfl) (fun _ _ _ h => panic_put (P := Tryd.prog) (fn := Tryd.f8) (R := fun en w' => ToldEnd w en w') h) (Or.inl ⟨by rfl, ?y6⟩) (by assumption) ?_
  case y6 => (intro w hSw; (try dsimp only at hSw); go_simp); try with_reducible rfl
  change wpAnyH _ _ _ _ _ _ _ (Act.put _ (some 56) _) _
  simp only [Act.put, List.setIfInBounds_toArray, List.set_cons_zero, List.set_cons_succ]
  refine wpAnyH_take (i := 7) (v := ?v7) rfl (by kernel_rfl) (by kernel_rfl) (by kernel_rfl) (fun _ _ _ h => panic_put (P := Tryd.prog) (fn := Tryd.f8) (R := fun en w' => ToldEnd w en w') h) (Or.inl ⟨by rfl, ?y7⟩) (by assumption) ?_
  case y7 => (intro w hSw; (try dsimp only at hSw); go_simp); try with_reducible rfl
  change wpAnyH _ _ _ _ _ _ _ (Act.put _ (some 57) _) _
  simp only [Act.put, List.setIfInBounds_toArray, List.set_cons_zero, List.set_cons_succ]
  refine wpAnyH_take (i := 8) (v := ?v8) rfl (by kernel_rfl) (by kernel_rfl) (by kernel_rfl) (fun _ _ _ h => panic_put (P := Tryd.prog) (fn := Tryd.f8) (R := fun en w' => ToldEnd w en w') h) (Or.inl ⟨by rfl, ?y8⟩) (by assumption) ?_
  case y8 => (intro w hSw; (try dsimp only at hSw); go_simp); try with_reducible rfl
  change wpAnyH _ _ _ _ _ _ _ (Act.put _ (some 58) _) _
  simp only [Act.put, List.setIfInBounds_toArray, List.set_cons_zero, List.set_cons_succ]
  refine wpAnyH_take (i := 10) (v := ?v10) rfl (by kernel_rfl) (by kernel_rfl) (by kernel_rfl) (fun _ _ _ h => panic_put (P := Tryd.prog) (fn := Tryd.f8) (R := fun en w' => ToldEnd w en w') h) (Or.inl ⟨by rfl, ?y10⟩) (by assumption) ?_
  case y10 => (intro w hSw; (try dsimp only at hSw); go_simp); try with_reducible rfl
  change wpAnyH _ _ _ _ _ _ _ (Act.put _ (some 60) _) _
  simp only [Act.put, List.setIfInBounds_toArray, List.set_cons_zero, List.set_cons_succ]
  refine wpAnyH_ready (rs := [9]) (by kernel_rfl) (by simp) ?_
  refine AllReadyH.cons (o := _) rfl (fun K hK => ?_) AllReadyH.nil
  go_simp
  refine (neg_far (hT1.heap (by rfl)) (h1.heap (by rfl)) HU.out HUB.out k2).mono ?_
  rintro en w' ⟨A6, n6, c6, rfl, h6, b⟩
  replace h1 := h1.next b (by rfl)
  replace h2 := h2.next b (by rfl)
  replace h3 := h3.next b (by rfl)
  replace h4 := h4.next b (by rfl)
  replace hT1 := hT1.next b (by rfl)
  replace g := g.next b (by rfl)
  replace x3 := x3.next b (by rfl)
  replace x4 := x4.next b (by rfl)
  replace x5 := x5.next b (by rfl)
  replace BB := below_next BB BB.size b (by rfl) (by rfl) (by rfl) (by rfl)
  clear b
  obtain ⟨q0, q1, q2, q3, q4, q5⟩ := g.held
  obtain ⟨q6, q7, q8⟩ := x3.held
  obtain ⟨q9, q10, q11⟩ := x4.held
  obtain ⟨q12, q13, q14⟩ := x5.held
  refine hK.out _ _ (by first | (dsimp only; go_keep) | go_keep) (fun hHeld3 => ?_)
  clear hK K hHeld2
  clear q0 q1 q2 q3 q4 q5 q6 q7 q8 q9 q10 q11 q12 q13 q14
  try simp only [Act.put]
  refine wpAnyH_ready (rs := [11]) (by kernel_rfl) (by simp) ?_
  refine AllReadyH.cons (o := _) rfl (fun K hK => ?_) AllReadyH.nil
  go_simp
  refine (cmp_far2 (hT1.heap (by rfl)) (h6.heap (by rfl)) (h2.heap (by rfl)) HU.out HUB.out HV.out HVB.out k2).mono ?_
  rintro en w' ⟨rfl, b⟩
  replace h1 := h1.next b (by rfl)
  replace h2 := h2.next b (by rfl)
  replace h3 := h3.next b (by rfl)
  replace h4 := h4.next b (by rfl)
  replace hT1 := hT1.next b (by rfl)
  replace g := g.next b (by rfl)
  replace x3 := x3.next b (by rfl)
  replace x4 := x4.next b (by rfl)
  replace x5 := x5.next b (by rfl)
  replace h6 := h6.next b (by rfl)
  replace BB := below_next BB BB.size b (by rfl) (by rfl) (by rfl) (by rfl)
  clear b
  obtain ⟨q0, q1, q2, q3, q4, q5⟩ := g.held
  obtain ⟨q6, q7, q8⟩ := x3.held
  obtain ⟨q9, q10, q11⟩ := x4.held
  obtain ⟨q12, q13, q14⟩ := x5.held
  refine hK.out _ _ (by first | (dsimp only; go_keep) | go_keep) (fun hHeld4 => ?_)
  clear hK K hHeld3
  clear q0 q1 q2 q3 q4 q5 q6 q7 q8 q9 q10 q11 q12 q13 q14
  try simp only [Act.put]
  refine wpAnyH_take (i := 12) (v := ?v12) rfl (by kernel_rfl) (by kernel_rfl) (by kernel_rfl) (fun _ _ _ h => panic_put (P := Tryd.prog) (fn := Tryd.f8) (R := fun en w' => ToldEnd w en w') h) (Or.inl ⟨by rfl, ?y12⟩) (by assumption) ?_
  case y12 => (intro w hSw; (try dsimp only at hSw); go_simp); try with_reducible rfl
  change wpAnyH _ _ _ _ _ _ _ (Act.put _ (some 62) _) _
  simp only [Act.put, List.setIfInBounds_toArray, List.set_cons_zero, List.set_cons_succ]
  refine wpAnyH_take (i := 13) (v := ?v13) rfl (by kernel_rfl) (by kernel_rfl) (by kernel_rfl) (fun _ _ _ h => panic_put (P := Tryd.prog) (fn := Tryd.f8) (R := fun en w' => ToldEnd w en w') h) (Or.inl ⟨by rfl, ?y13⟩) (by assumption) ?_
  case y13 => (intro w hSw; (try dsimp only at hSw); go_simp); try with_reducible rfl
  change wpAnyH _ _ _ _ _ _ _ (Act.put _ (some 63) _) _
  simp only [Act.put, List.setIfInBounds_toArray, List.set_cons_zero, List.set_cons_succ]
  refine wpAnyH_take (i := 14) (v := ?v14) rfl (by kernel_rfl) (by kernel_rfl) (by kernel_rfl) (fun _ _ _ h => panic_put (P := Tryd.prog) (fn := Tryd.f8) (R := fun en w' => ToldEnd w en w') h) (Or.inl ⟨by rfl, ?y14⟩) (by assumption) ?_
  case y14 => (intro w hSw; (try dsimp only at hSw); go_simp); try with_reducible rfl
  change wpAnyH _ _ _ _ _ _ _ (Act.put _ (some 64) _) _
  simp only [Act.put, List.setIfInBounds_toArray, List.set_cons_zero, List.set_cons_succ]
  refine wpAnyH_take (i := 15) (v := ?v15) rfl (by kernel_rfl) (by kernel_rfl) (by kernel_rfl) (fun _ _ _ h => panic_put (P := Tryd.prog) (fn := Tryd.f8) (R := fun en w' => ToldEnd w en w') h) (Or.inl ⟨by rfl, ?y15⟩) (by assumption) ?_
  case y15 => (intro w hSw; (try dsimp only at hSw); go_simp); try with_reducible rfl
  change wpAnyH _ _ _ _ _ _ _ (Act.put _ (some 65) _) _
  simp only [Act.put, List.setIfInBounds_toArray, List.set_cons_zero, List.set_cons_succ]
  refine wpAnyH_take (i := 16) (v := ?v16) rfl (by kernel_rfl) (by kernel_rfl) (by kernel_rfl) (fun _ _ _ h => panic_put (P := Tryd.prog) (fn := Tryd.f8) (R := fun en w' => ToldEnd w en w') h) (Or.inl ⟨by rfl, ?y16⟩) (by assumption) ?_
  case y16 => (intro w hSw; (try dsimp only at hSw); go_simp); try with_reducible rfl
  change wpAnyH _ _ _ _ _ _ _ (Act.put _ (some 66) _) _
  simp only [Act.put, List.setIfInBounds_toArray, List.set_cons_zero, List.set_cons_succ]
  refine wpAnyH_take (i := 17) (v := ?v17) rfl (by kernel_rfl) (by kernel_rfl) (by kernel_rfl) (fun _ _ _ h => panic_put (P := Tryd.prog) (fn := Tryd.f8) (R := fun en w' => ToldEnd w en w') h) (Or.inl ⟨by rfl, ?y17⟩) (by assumption) ?_
  case y17 => (intro w hSw; (try dsimp only at hSw); go_simp); try with_reducible rfl
  change wpAnyH _ _ _ _ _ _ _ (Act.put _ (some 67) _) _
  simp only [Act.put, List.setIfInBounds_toArray, List.set_cons_zero, List.set_cons_succ]
  refine wpAnyH_take (i := 18) (v := ?v18) rfl (by kernel_rfl) (by kernel_rfl) (by kernel_rfl) (fun _ _ _ h => panic_put (P := Tryd.prog) (fn := Tryd.f8) (R := fun en w' => ToldEnd w en w') h) (Or.inl ⟨by rfl, ?y18⟩) (by assumption) ?_
  case y18 => (intro w hSw; (try dsimp only at hSw); go_simp); try with_reducible rfl
  change wpAnyH _ _ _ _ _ _ _ (Act.put _ (some 68) _) _
  simp only [Act.put, List.setIfInBounds_toArray, List.set_cons_zero, List.set_cons_succ]
  refine wpAnyH_take (i := 19) (v := ?v19) rfl (by kernel_rfl) (by kernel_rfl) (by kernel_rfl) (fun _ _ _ h => panic_put (P := Tryd.prog) (fn := Tryd.f8) (R := fun en w' => ToldEnd w en w') h) (Or.inl ⟨by rfl, ?y19⟩) (by assumption) ?_
  case y19 => (intro w hSw; (try dsimp only at hSw); go_simp); try with_reducible rfl
  change wpAnyH _ _ _ _ _ _ _ (Act.put _ (some 69) _) _
  simp only [Act.put, List.setIfInBounds_toArray, List.set_cons_zero, List.set_cons_succ]
  refine wpAnyH_take (i := 20) (v := ?v20) rfl (by kernel_rfl) (by kernel_rfl) (by kernel_rfl) (fun _ _ _ h => panic_put (P := Tryd.prog) (fn := Tryd.f8) (R := fun en w' => ToldEnd w en w') h) (Or.inl ⟨by rfl, ?y20⟩) (by assumption) ?_
  case y20 => (intro w hSw; (try dsimp only at hSw); go_simp); try with_reducible rfl
  change wpAnyH _ _ _ _ _ _ _ (Act.put _ (some 70) _) _
  simp only [Act.put, List.setIfInBounds_toArray, List.set_cons_zero, List.set_cons_succ]
  refine wpAnyH_take (i := 21) (v := ?v21) rfl (by kernel_rfl) (by kernel_rfl) (by kernel_rfl) (fun _ _ _ h => panic_put (P := Tryd.prog) (fn := Tryd.f8) (R := fun en w' => ToldEnd w en w') h) (Or.inl ⟨by rfl, ?y21⟩) (by assumption) ?_
  case y21 => (intro w hSw; (try dsimp only at hSw); go_simp); try with_reducible rfl
  change wpAnyH _ _ _ _ _ _ _ (Act.put _ (some 71) _) _
  simp only [Act.put, List.setIfInBounds_toArray, List.set_cons_zero, List.set_cons_succ]
  refine wpAnyH_take (i := 22) (v := ?v22) rfl (by kernel_rfl) (by kernel_rfl) (by kernel_rfl) (fun _ _ _ h => panic_put (P := Tryd.prog) (fn := Tryd.f8) (R := fun en w' => ToldEnd w en w') h) (Or.inl ⟨by rfl, ?y22⟩) (by assumption) ?_
  case y22 => (intro w hSw; (try dsimp only at hSw); go_simp); try with_reducible rfl
  change wpAnyH _ _ _ _ _ _ _ (Act.put _ (some 72) _) _
  simp only [Act.put, List.setIfInBounds_toArray, List.set_cons_zero, List.set_cons_succ]
  refine wpAnyH_take (i := 23) (v := ?v23) rfl (by kernel_rfl) (by kernel_rfl) (by kernel_rfl) (fun _ _ _ h => panic_put (P := Tryd.prog) (fn := Tryd.f8) (R := fun en w' => ToldEnd w en w') h) (Or.inl ⟨by rfl, ?y23⟩) (by assumption) ?_
  case y23 => (intro w hSw; (try dsimp only at hSw); go_simp); try with_reducible rfl
  change wpAnyH _ _ _ _ _ _ _ (Act.put _ (some 73) _) _
  simp only [Act.put, List.setIfInBounds_toArray, List.set_cons_zero, List.set_cons_succ]
  refine wpAnyH_take (i := 24) (v := ?v24) rfl (by kernel_rfl) (by kernel_rfl) (by kernel_rfl) (fun _ _ _ h => panic_put (P := Tryd.prog) (fn := Tryd.f8) (R := fun en w' => ToldEnd w en w') h) (Or.inl ⟨by rfl, ?y24⟩) (by assumption) ?_
  case y24 => (intro w hSw; (try dsimp only at hSw); go_simp); try with_reducible rfl
  change wpAnyH _ _ _ _ _ _ _ (Act.put _ (some 74) _) _
  simp only [Act.put, List.setIfInBounds_toArray, List.set_cons_zero, List.set_cons_succ]
  refine wpAnyH_ready (rs := [25]) (by kernel_rfl) (by simp) ?_
  refine AllReadyH.cons (o := _) rfl (fun K hK => ?_) AllReadyH.nil
  go_simp
  refine (same_zero (h3.heap (by rfl))).mono ?_
  rintro en w' ⟨rfl, b⟩
  replace h1 := h1.next b (by rfl)
  replace h2 := h2.next b (by rfl)
  replace h3 := h3.next b (by rfl)
  replace h4 := h4.next b (by rfl)
  replace hT1 := hT1.next b (by rfl)
  replace g := g.next b (by rfl)
  replace x3 := x3.next b (by rfl)
  replace x4 := x4.next b (by rfl)
  replace x5 := x5.next b (by rfl)
  replace h6 := h6.next b (by rfl)
  replace BB := below_next BB BB.size b (by rfl) (by rfl) (by rfl) (by rfl)
  clear b
  obtain ⟨q0, q1, q2, q3, q4, q5⟩ := g.held
  obtain ⟨q6, q7, q8⟩ := x3.held
  obtain ⟨q9, q10, q11⟩ := x4.held
  obtain ⟨q12, q13, q14⟩ := x5.held
  refine hK.out _ _ (by first | (dsimp only; go_keep) | go_keep) (fun hHeld5 => ?_)
  clear hK K hHeld4
  clear q0 q1 q2 q3 q4 q5 q6 q7 q8 q9 q10 q11 q12 q13 q14
  try simp only [Act.put]
  refine wpAnyH_take (i := 26) (v := ?v26) rfl (by kernel_rfl) (by kernel_rfl) (by kernel_rfl) (fun _ _ _ h => panic_put (P := Tryd.prog) (fn := Tryd.f8) (R := fun en w' => ToldEnd w en w') h) (Or.inl ⟨by rfl, ?y26⟩) (by assumption) ?_
  case y26 => (intro w hSw; (try dsimp only at hSw); go_simp); try with_reducible rfl
  change wpAnyH _ _ _ _ _ _ _ (Act.put _ (some 76) _) _
  simp only [Act.put, List.setIfInBounds_toArray, List.set_cons_zero, List.set_cons_succ]
  refine wpAnyH_take (i := 27) (v := ?v27) rfl (by kernel_rfl) (by kernel_rfl) (by kernel_rfl) (fun _ _ _ h => panic_put (P := Tryd.prog) (fn := Tryd.f8) (R := fun en w' => ToldEnd w en w') h) (Or.inl ⟨by rfl, ?y27⟩) (by assumption) ?_
  case y27 => (intro w hSw; (try dsimp only at hSw); go_simp); try with_reducible rfl
  change wpAnyH _ _ _ _ _ _ _ (Act.put _ (some 77) _) _
  simp only [Act.put, List.setIfInBounds_toArray, List.set_cons_zero, List.set_cons_succ]
  refine wpAnyH_take (i := 28) (v := ?v28) rfl (by kernel_rfl) (by kernel_rfl) (by kernel_rfl) (fun _ _ _ h => panic_put (P := Tryd.prog) (fn := Tryd.f8) (R := fun en w' => ToldEnd w en w') h) (Or.inl ⟨by rfl, ?y28⟩) (by assumption) ?_
  case y28 => (intro w hSw; (try dsimp only at hSw); go_simp); try with_reducible rfl
  change wpAnyH _ _ _ _ _ _ _ (Act.put _ (some 78) _) _
  simp only [Act.put, List.setIfInBounds_toArray, List.set_cons_zero, List.set_cons_succ]
  refine wpAnyH_take (i := 29) (v := ?v29) rfl (by kernel_rfl) (by kernel_rfl) (by kernel_rfl) (fun _ _ _ h => panic_put (P := Tryd.prog) (fn := Tryd.f8) (R := fun en w' => ToldEnd w en w') h) (Or.inl ⟨by rfl, ?y29⟩) (by assumption) ?_
  case y29 => (intro w hSw; (try dsimp only at hSw); go_simp); try with_reducible rfl
  change wpAnyH _ _ _ _ _ _ _ (Act.put _ (some 79) _) _
  simp only [Act.put, List.setIfInBounds_toArray, List.set_cons_zero, List.set_cons_succ]
  refine wpAnyH_ready (rs := [30]) (by kernel_rfl) (by simp) ?_
  refine AllReadyH.cons (o := _) rfl (fun K hK => ?_) AllReadyH.nil
  go_simp
  refine (same_zero (h4.heap (by rfl))).mono ?_
  rintro en w' ⟨rfl, b⟩
  replace h1 := h1.next b (by rfl)
  replace h2 := h2.next b (by rfl)
  replace h3 := h3.next b (by rfl)
  replace h4 := h4.next b (by rfl)
  replace hT1 := hT1.next b (by rfl)
  replace g := g.next b (by rfl)
  replace x3 := x3.next b (by rfl)
  replace x4 := x4.next b (by rfl)
  replace x5 := x5.next b (by rfl)
  replace h6 := h6.next b (by rfl)
  replace BB := below_next BB BB.size b (by rfl) (by rfl) (by rfl) (by rfl)
  clear b
  obtain ⟨q0, q1, q2, q3, q4, q5⟩ := g.held
  obtain ⟨q6, q7, q8⟩ := x3.held
  obtain ⟨q9, q10, q11⟩ := x4.held
  obtain ⟨q12, q13, q14⟩ := x5.held
  refine hK.out _ _ (by first | (dsimp only; go_keep) | go_keep) (fun hHeld6 => ?_)
  clear hK K hHeld5
  clear q0 q1 q2 q3 q4 q5 q6 q7 q8 q9 q10 q11 q12 q13 q14
  try simp only [Act.put]
  refine wpAnyH_take (i := 31) (v := ?v31) rfl (by kernel_rfl) (by kernel_rfl) (by kernel_rfl) (fun _ _ _ h => panic_put (P := Tryd.prog) (fn := Tryd.f8) (R := fun en w' => ToldEnd w en w') h) (Or.inl ⟨by rfl, ?y31⟩) (by assumption) ?_
  case y31 => (intro w hSw; (try dsimp only at hSw); go_simp); try with_reducible rfl
  change wpAnyH _ _ _ _ _ _ _ (Act.put _ (some 81) _) _
  simp only [Act.put, List.setIfInBounds_toArray, List.set_cons_zero, List.set_cons_succ]
  refine wpAnyH_take (i := 32) (v := ?v32) rfl (by kernel_rfl) (by kernel_rfl) (by kernel_rfl) (fun _ _ _ h => panic_put (P := Tryd.prog) (fn := Tryd.f8) (R := fun en w' => ToldEnd w en w') h) (Or.inl ⟨by rfl, ?y32⟩) (by assumption) ?_
  case y32 => (intro w hSw; (try dsimp only at hSw); go_simp); try with_reducible rfl
  change wpAnyH _ _ _ _ _ _ _ (Act.put _ (some 82) _) _
  simp only [Act.put, List.setIfInBounds_toArray, List.set_cons_zero, List.set_cons_succ]
  refine wpAnyH_take (i := 33) (v := ?v33) rfl (by kernel_rfl) (by kernel_rfl) (by kernel_rfl) (fun _ _ _ h => panic_put (P := Tryd.prog) (fn := Tryd.f8) (R := fun en w' => ToldEnd w en w') h) (Or.inl ⟨by rfl, ?y33⟩) (by assumption) ?_
  case y33 => (intro w hSw; (try dsimp only at hSw); go_simp); try with_reducible rfl
  change wpAnyH _ _ _ _ _ _ _ (Act.put _ (some 83) _) _
  simp only [Act.put, List.setIfInBounds_toArray, List.set_cons_zero, List.set_cons_succ]
  refine wpAnyH_take (i := 34) (v := ?v34) rfl (by kernel_rfl) (by kernel_rfl) (by kernel_rfl) (fun _ _ _ h => panic_put (P := Tryd.prog) (fn := Tryd.f8) (R := fun en w' => ToldEnd w en w') h) (Or.inl ⟨by rfl, ?y34⟩) (by assumption) ?_
  case y34 => (intro w hSw; (try dsimp only at hSw); go_simp); try with_reducible rfl
  change wpAnyH _ _ _ _ _ _ _ (Act.put _ (some 84) _) _
  simp only [Act.put, List.setIfInBounds_toArray, List.set_cons_zero, List.set_cons_succ]
  refine wpAnyH_take (i := 35) (v := ?v35) rfl (by kernel_rfl) (by kernel_rfl) (by kernel_rfl) (fun _ _ _ h => panic_put (P := Tryd.prog) (fn := Tryd.f8) (R := fun en w' => ToldEnd w en w') h) (Or.inl ⟨by rfl, ?y35⟩) (by assumption) ?_
  case y35 => (intro w hSw; (try dsimp only at hSw); go_simp); try with_reducible rfl
  change wpAnyH _ _ _ _ _ _ _ (Act.put _ (some 85) _) _
  simp only [Act.put, List.setIfInBounds_toArray, List.set_cons_zero, List.set_cons_succ]
  refine wpAnyH_take (i := 36) (v := ?v36) rfl (by kernel_rfl) (by kernel_rfl) (by kernel_rfl) (fun _ _ _ h => panic_put (P := Tryd.prog) (fn := Tryd.f8) (R := fun en w' => ToldEnd w en w') h) (Or.inl ⟨by rfl, ?y36⟩) (by assumption) ?_
  case y36 => (intro w hSw; (try dsimp only at hSw); go_simp); try with_reducible rfl
  change wpAnyH _ _ _ _ _ _ _ (Act.put _ (some 86) _) _
  simp only [Act.put, List.setIfInBounds_toArray, List.set_cons_zero, List.set_cons_succ]
  refine wpAnyH_take (i := 37) (v := ?v37) rfl (by kernel_rfl) (by kernel_rfl) (by kernel_rfl) (fun _ _ _ h => panic_put (P := Tryd.prog) (fn := Tryd.f8) (R := fun en w' => ToldEnd w en w') h) (Or.inl ⟨by rfl, ?y37⟩) (by assumption) ?_
  case y37 => (intro w hSw; (try dsimp only at hSw); go_simp); try with_reducible rfl
  change wpAnyH _ _ _ _ _ _ _ (Act.put _ (some 87) _) _
  simp only [Act.put, List.setIfInBounds_toArray, List.set_cons_zero, List.set_cons_succ]
  refine wpAnyH_take (i := 38) (v := ?v38) rfl (by kernel_rfl) (by kernel_rfl) (by kernel_rfl) (fun _ _ _ h => panic_put (P := Tryd.prog) (fn := Tryd.f8) (R := fun en w' => ToldEnd w en w') h) (Or.inl ⟨by rfl, ?y38⟩) (by assumption) ?_
  case y38 => (intro w hSw; (try dsimp only at hSw); go_simp); try with_reducible rfl
  change wpAnyH _ _ _ _ _ _ _ (Act.put _ (some 88) _) _
  simp only [Act.put, List.setIfInBounds_toArray, List.set_cons_zero, List.set_cons_succ]
  refine wpAnyH_take (i := 39) (v := ?v39) rfl (by kernel_rfl) (by kernel_rfl) (by kernel_rfl) (fun _ _ _ h => panic_put (P := Tryd.prog) (fn := Tryd.f8) (R := fun en w' => ToldEnd w en w') h) (Or.inl ⟨by rfl, ?y39⟩) (by assumption) ?_
  case y39 => (intro w hSw; (try dsimp only at hSw); go_simp); try with_reducible rfl
  change wpAnyH _ _ _ _ _ _ _ (Act.put _ (some 89) _) _
  simp only [Act.put, List.setIfInBounds_toArray, List.set_cons_zero, List.set_cons_succ]
  refine wpAnyH_take (i := 40) (v := ?v40) rfl (by kernel_rfl) (by kernel_rfl) (by kernel_rfl) (fun _ _ _ h => panic_put (P := Tryd.prog) (fn := Tryd.f8) (R := fun en w' => ToldEnd w en w') h) (Or.inl ⟨by rfl, ?y40⟩) (by assumption) ?_
  case y40 => (intro w hSw; (try dsimp only at hSw); go_simp); try with_reducible rfl
  change wpAnyH _ _ _ _ _ _ _ (Act.put _ (some 90) _) _
  simp only [Act.put, List.setIfInBounds_toArray, List.set_cons_zero, List.set_cons_succ]
  refine wpAnyH_take (i := 41) (v := ?v41) rfl (by kernel_rfl) (by kernel_rfl) (by kernel_rfl) (fun _ _ _ h => panic_put (P := Tryd.prog) (fn := Tryd.f8) (R := fun en w' => ToldEnd w en w') h) (Or.inl ⟨by rfl, ?y41⟩) (by assumption) ?_
  case y41 => (intro w hSw; (try dsimp only at hSw); go_simp); try with_reducible rfl
  change wpAnyH _ _ _ _ _ _ _ (Act.put _ (some 6) _) _
  simp only [Act.put, List.setIfInBounds_toArray, List.set_cons_zero, List.set_cons_succ]
  refine wpAnyH_done (by kernel_rfl) ?_ _
  go_wp2
  go_ret
  exact ⟨by first | rfl | simp, BB⟩
end Go.Proofs.YtkfcnodnefpboaaDoor
