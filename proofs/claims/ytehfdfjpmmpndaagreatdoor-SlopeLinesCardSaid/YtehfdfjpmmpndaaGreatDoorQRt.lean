/-
  Contract of the statements' own told of layer 3, at this translation: it returns true.
-/
import Derived.Test.YtehfdfjpmmpndaaGreatDoorQRj
set_option maxHeartbeats 8000000
set_option maxRecDepth 100000
namespace Go.Proofs.YtehfdfjpmmpndaaGreatDoor
open Go.RowKit
variable {A1 A2 : Option Addr} {c1 c2 g n1 n2 v : Nat} {e1 e2 p : Int} {l1 l2 : List Nat} {s1 s2 up : Bool} {w : World}
def QuTold (s1 : Bool) (x : Nat) (e1 : Int) (s2 : Bool) (y : Nat) (e2 : Int) (p : Nat) (up : Bool) : Int → Bool → Nat → Int → Prop :=
 Nm (s1 != s2) (cutR p (x * 2 ^ kUp p x y / (y * 2 ^ kDn p x y)) (!decide (x * 2 ^ kUp p x y % (y * 2 ^ kDn p x y) = 0)) (up != (s1 != s2))) (e1 - e2 - ((p : Int) + (blen y : Int) - (blen x : Int)) + ((blen (x * 2 ^ kUp p x y / (y * 2 ^ kDn p x y)) - p : Nat) : Int))
def RoTold (x : Nat) (e : Int) (p : Nat) (up : Bool) (k : Int) (s' : Bool) (m' : Nat) (e' : Int) : Prop :=
 ∃ (i j r : Nat) (f : Int), ((i = 0 ∨ j = 0) ∧ e - ((i : Int) - (j : Int)) = 2 * f ∧ blen x + i ≤ 2 * p + j ∧ 2 * p + j ≤ blen x + i + 1 ∧
  r * r ≤ x * 2 ^ i / 2 ^ j ∧ x * 2 ^ i / 2 ^ j < (r + 1) * (r + 1)) ∧ Nm false (cutR p r (!decide (r * r * 2 ^ j = x * 2 ^ i)) (up != false)) (f + ((blen r - p : Nat) : Int)) k s' m' e'
def Outside (k : Int) (s : Bool) (m : Nat) (e : Int) : Prop := k = 4 ∧ s = false ∧ m = 0 ∧ e = 0
theorem check_no2 (hT : Tab w)
  (h : Dys w g 2 (fun i => if i = 0 then s1 else s2) (fun i => if i = 0 then A1 else A2) (fun i => if i = 0 then n1 else n2) (fun i => if i = 0 then c1 else c2) (fun i => if i = 0 then e1 else e2) (fun i => if i = 0 then l1 else l2)) (hd : p < 1 ∨ 2000 < p ∨ (mayD s1 l1 e1 && mayD s2 l2 e2) = false) :
  Calls Tryz.prog 156 #[.int .i64 p, .slice (some ⟨g, 0, none⟩) 2 2] w (Faults 1 w) := by
 by_cases hp : p < 1 ∨ 2000 < p
 ·exact check_p (k := 2) hp
 obtain ⟨q, rfl⟩ := Int.eq_ofNat_of_zero_le (show 0 ≤ p by omega)
 have hm : (mayD s1 l1 e1 && mayD s2 l2 e2) = false := by rcases hd with h1 | h1 | h1 <;> first | exact h1 | (exfalso; omega)
 cases h1 : mayD s1 l1 e1
 ·exact check_some hT h (by omega) (by omega) (by omega) (j := 0) (by omega) (fun i hi => absurd hi (by omega)) h1
 refine check_some hT h (by omega) (by omega) (by omega) (j := 1) (by omega) (fun i hi => ?_) (by simpa [h1] using hm)
 obtain rfl : i = 0 := by omega
 exact h1
theorem dys_two_at (hg : w.heap.size = g) (h1 : Rd w .u64 W A1 n1 c1 l1) (h2 : Rd w .u64 W A2 n2 c2 l2) :
  Dys (w.alloc (.cells #[.bool s1, .slice A1 n1 c1, .int .i64 e1, .bool s2, .slice A2 n2 c2, .int .i64 e2] 28)) g 2 (fun i => if i = 0 then s1 else s2) (fun i => if i = 0 then A1 else A2) (fun i => if i = 0 then n1 else n2) (fun i => if i = 0 then c1 else c2) (fun i => if i = 0 then e1 else e2) (fun i => if i = 0 then l1 else l2) := by
 subst hg
 exact dys_two h1 h2
theorem size_one (w : World) (o : Obj) : (w.alloc o).heap.size = w.heap.size + 1 := by simp
theorem quot1_no (ga : w.cell? ⟨v, 0, none⟩ = some (.bool s1) ∧ w.cell? ⟨v, 1, none⟩ = some (.slice A1 n1 c1) ∧ w.cell? ⟨v, 2, none⟩ = some (.int .i64 e1)) (gb : w.cell? ⟨(v + 1), 0, none⟩ = some (.bool s2) ∧ w.cell? ⟨(v + 1), 1, none⟩ = some (.slice A2 n2 c2) ∧ w.cell? ⟨(v + 1), 2, none⟩ = some (.int .i64 e2)) (gp : w.cell? ⟨v + 2, 0, none⟩ = some (.int .i64 p)) (gu : w.cell? ⟨v + 3, 0, none⟩ = some (.bool up)) (hT : Tab w) (h1 : Rd w .u64 W A1 n1 c1 l1) (h2 : Rd w .u64 W A2 n2 c2 l2) (hd : p < 1 ∨ 2000 < p ∨ (mayD s1 l1 e1 && mayD s2 l2 e2) = false) :
  Calls Tryz.prog 161 #[.pointer (some ⟨v + 2, 0, none⟩), .pointer (some ⟨v, 0, none⟩), .pointer (some ⟨v + 1, 0, none⟩), .pointer (some ⟨v + 3, 0, none⟩)] w (Faults 1 w) := by
 obtain ⟨a10, a11, a12⟩ := ga
 obtain ⟨a20, a21, a22⟩ := gb
 have vl : v + 3 < w.heap.size := World.block_lt_of_cell? w _ gu
 have BB := below_alloc w (.cells #[.bool false, .slice none 0 0, .int .i64 0] 28)
 have G := mv BB rfl (J11 a10 a11 a12 a20 a21 a22 gp gu hT h1 h2)
 clear a10 a11 a12 a20 a21 a22 gp gu hT h1 h2
 obtain ⟨a10, a11, a12, a20, a21, a22, gp, gu, hT, h1, h2⟩ := G
 have r := Box.new w false none 0 0 0
 go_enter Tryz.func161, Tryz.ntmps161
 go_wp2_with fail
 have D := dys_two_at (s1 := s1) (s2 := s2) (e1 := e1) (e2 := e2) (size_one w (.cells #[.bool false, .slice none 0 0, .int .i64 0] 28)) h1 h2
 have b := below_alloc (w.alloc (.cells #[.bool false, .slice none 0 0, .int .i64 0] 28)) (.cells #[.bool s1, .slice A1 n1 c1, .int .i64 e1, .bool s2, .slice A2 n2 c2, .int .i64 e2] 28)
 replace BB := bnx BB b
 have G := mv b rfl (J12 a10 a11 a12 a20 a21 a22 gp gu hT h1 h2 r)
 clear b a10 a11 a12 a20 a21 a22 gp gu hT h1 h2 r
 obtain ⟨a10, a11, a12, a20, a21, a22, gp, gu, hT, h1, h2, r⟩ := G
 refine (check_no2 hT D hd).mono ?_
 rintro en w1 ⟨rfl, b⟩
 replace BB := bnx BB b
 clear b h1 h2 D hd
 go_wp2
 exact ⟨rfl, rfl, BB⟩
theorem quot1_zero {x y p : Nat} (ga : w.cell? ⟨v, 0, none⟩ = some (.bool s1) ∧ w.cell? ⟨v, 1, none⟩ = some (.slice A1 n1 c1) ∧ w.cell? ⟨v, 2, none⟩ = some (.int .i64 e1)) (gb : w.cell? ⟨(v + 1), 0, none⟩ = some (.bool s2) ∧ w.cell? ⟨(v + 1), 1, none⟩ = some (.slice A2 n2 c2) ∧ w.cell? ⟨(v + 1), 2, none⟩ = some (.int .i64 e2)) (gp : w.cell? ⟨v + 2, 0, none⟩ = some (.int .i64 (p : Int))) (gu : w.cell? ⟨v + 3, 0, none⟩ = some (.bool up)) (hT : Tab w) (h1 : Nt w A1 n1 c1 x) (h2 : Nt w A2 n2 c2 y) (hd1 : OkD s1 x e1) (hd2 : OkD s2 y e2) (hp1 : 1 ≤ p) (hp : p ≤ 2000) (hy : y = 0) :
  Calls Tryz.prog 161 #[.pointer (some ⟨v + 2, 0, none⟩), .pointer (some ⟨v, 0, none⟩), .pointer (some ⟨v + 1, 0, none⟩), .pointer (some ⟨v + 3, 0, none⟩)] w (Faults 4 w) := by
 have re := okd_ge (K := 4194304) (Nat.le_refl _) hd1
 have rf := okd_ge (K := 4194304) (Nat.le_refl _) hd2
 have r1 := re.1
 have r2 := re.2.1
 have r3 := rf.1
 have r4 := rf.2.1
 have O1 := hyd hd1
 have O2 := hyd hd2
 have HY := hyd hy
 have bx := blen_nt h1
 have hby := blen_nt h2
 clear re rf hd1 hd2 hy
 obtain ⟨a10, a11, a12⟩ := ga
 obtain ⟨a20, a21, a22⟩ := gb
 have vl : v + 3 < w.heap.size := World.block_lt_of_cell? w _ gu
 have BB := below_alloc w (.cells #[.bool false, .slice none 0 0, .int .i64 0] 28)
 have G := mv BB rfl (J11 a10 a11 a12 a20 a21 a22 gp gu hT h1 h2)
 clear a10 a11 a12 a20 a21 a22 gp gu hT h1 h2
 obtain ⟨a10, a11, a12, a20, a21, a22, gp, gu, hT, h1, h2⟩ := G
 have r := Box.new w false none 0 0 0
 go_enter Tryz.func161, Tryz.ntmps161
 go_wp2_with fail
 have D := dys_two_at (s1 := s1) (s2 := s2) (e1 := e1) (e2 := e2) (size_one w (.cells #[.bool false, .slice none 0 0, .int .i64 0] 28)) h1.rd h2.rd
 have b := below_alloc (w.alloc (.cells #[.bool false, .slice none 0 0, .int .i64 0] 28)) (.cells #[.bool s1, .slice A1 n1 c1, .int .i64 e1, .bool s2, .slice A2 n2 c2, .int .i64 e2] 28)
 replace BB := bnx BB b
 have G := mv b rfl (J12 a10 a11 a12 a20 a21 a22 gp gu hT h1 h2 r)
 clear b a10 a11 a12 a20 a21 a22 gp gu hT h1 h2 r
 obtain ⟨a10, a11, a12, a20, a21, a22, gp, gu, hT, h1, h2, r⟩ := G
 have hall : ∀ i, i < 2 → mayD ((fun i => if i = 0 then s1 else s2) i) ((fun i => if i = 0 then dig YtehfdfjpmmpndaaGreatDoor.W x else dig YtehfdfjpmmpndaaGreatDoor.W y) i) ((fun i => if i = 0 then e1 else e2) i) = true := by
  intro i hi
  rcases (show i = 0 ∨ i = 1 by omega) with rfl | rfl
  ·exact mayD_ok O1.out
  exact mayD_ok O2.out
 refine (check_all (k := 2) hT D (by omega) hp1 hp hall).mono ?_
 rintro en w1 ⟨rfl, b⟩
 clear hall D
 replace BB := bnx BB b
 have G := mv b rfl (J12 a10 a11 a12 a20 a21 a22 gp gu hT h1 h2 r)
 clear b a10 a11 a12 a20 a21 a22 gp gu hT h1 h2 r
 obtain ⟨a10, a11, a12, a20, a21, a22, gp, gu, hT, h1, h2, r⟩ := G
 have hs : signD s2 y = 0 := by unfold signD; rw [if_pos HY.out]
 go_wp2_with fail
 refine (sign_is hT h2 O2.out hs).mono ?_
 rintro en w2 ⟨rfl, b⟩
 replace BB := bnx BB b
 have G := mv b rfl (J12 a10 a11 a12 a20 a21 a22 gp gu hT h1 h2 r)
 clear b a10 a11 a12 a20 a21 a22 gp gu hT h1 h2 r
 obtain ⟨a10, a11, a12, a20, a21, a22, gp, gu, hT, h1, h2, r⟩ := G
 go_wp2
 exact ⟨rfl, rfl, BB⟩
theorem quot1_some {x y p : Nat} (ga : w.cell? ⟨v, 0, none⟩ = some (.bool s1) ∧ w.cell? ⟨v, 1, none⟩ = some (.slice A1 n1 c1) ∧ w.cell? ⟨v, 2, none⟩ = some (.int .i64 e1)) (gb : w.cell? ⟨(v + 1), 0, none⟩ = some (.bool s2) ∧ w.cell? ⟨(v + 1), 1, none⟩ = some (.slice A2 n2 c2) ∧ w.cell? ⟨(v + 1), 2, none⟩ = some (.int .i64 e2)) (gp : w.cell? ⟨v + 2, 0, none⟩ = some (.int .i64 (p : Int))) (gu : w.cell? ⟨v + 3, 0, none⟩ = some (.bool up)) (hT : Tab w) (h1 : Nt w A1 n1 c1 x) (h2 : Nt w A2 n2 c2 y) (hd1 : OkD s1 x e1) (hd2 : OkD s2 y e2) (hp1 : 1 ≤ p) (hp : p ≤ 2000) (hy : y ≠ 0) :
  Calls Tryz.prog 161 #[.pointer (some ⟨v + 2, 0, none⟩), .pointer (some ⟨v, 0, none⟩), .pointer (some ⟨v + 1, 0, none⟩), .pointer (some ⟨v + 3, 0, none⟩)] w (Ran (QuTold s1 x e1 s2 y e2 p up) w) := by
 have re := okd_ge (K := 4194304) (Nat.le_refl _) hd1
 have rf := okd_ge (K := 4194304) (Nat.le_refl _) hd2
 have r1 := re.1
 have r2 := re.2.1
 have r3 := rf.1
 have r4 := rf.2.1
 have O1 := hyd hd1
 have O2 := hyd hd2
 have HY := hyd hy
 have bx := blen_nt h1
 have hby := blen_nt h2
 clear re rf hd1 hd2 hy
 obtain ⟨a10, a11, a12⟩ := ga
 obtain ⟨a20, a21, a22⟩ := gb
 have vl : v + 3 < w.heap.size := World.block_lt_of_cell? w _ gu
 have BB := below_alloc w (.cells #[.bool false, .slice none 0 0, .int .i64 0] 28)
 have G := mv BB rfl (J11 a10 a11 a12 a20 a21 a22 gp gu hT h1 h2)
 clear a10 a11 a12 a20 a21 a22 gp gu hT h1 h2
 obtain ⟨a10, a11, a12, a20, a21, a22, gp, gu, hT, h1, h2⟩ := G
 have r := Box.new w false none 0 0 0
 go_enter Tryz.func161, Tryz.ntmps161
 go_wp2_with fail
 have D := dys_two_at (s1 := s1) (s2 := s2) (e1 := e1) (e2 := e2) (size_one w (.cells #[.bool false, .slice none 0 0, .int .i64 0] 28)) h1.rd h2.rd
 have b := below_alloc (w.alloc (.cells #[.bool false, .slice none 0 0, .int .i64 0] 28)) (.cells #[.bool s1, .slice A1 n1 c1, .int .i64 e1, .bool s2, .slice A2 n2 c2, .int .i64 e2] 28)
 replace BB := bnx BB b
 have G := mv b rfl (J12 a10 a11 a12 a20 a21 a22 gp gu hT h1 h2 r)
 clear b a10 a11 a12 a20 a21 a22 gp gu hT h1 h2 r
 obtain ⟨a10, a11, a12, a20, a21, a22, gp, gu, hT, h1, h2, r⟩ := G
 have hall : ∀ i, i < 2 → mayD ((fun i => if i = 0 then s1 else s2) i) ((fun i => if i = 0 then dig YtehfdfjpmmpndaaGreatDoor.W x else dig YtehfdfjpmmpndaaGreatDoor.W y) i) ((fun i => if i = 0 then e1 else e2) i) = true := by
  intro i hi
  rcases (show i = 0 ∨ i = 1 by omega) with rfl | rfl
  ·exact mayD_ok O1.out
  exact mayD_ok O2.out
 refine (check_all (k := 2) hT D (by omega) hp1 hp hall).mono ?_
 rintro en w1 ⟨rfl, b⟩
 clear hall D
 replace BB := bnx BB b
 have G := mv b rfl (J12 a10 a11 a12 a20 a21 a22 gp gu hT h1 h2 r)
 clear b a10 a11 a12 a20 a21 a22 gp gu hT h1 h2 r
 obtain ⟨a10, a11, a12, a20, a21, a22, gp, gu, hT, h1, h2, r⟩ := G
 obtain ⟨z, hz, hz0⟩ : ∃ z, signD s2 y = z ∧ z ≠ 0 := ⟨_, rfl, by unfold signD; rw [if_neg HY.out]; cases s2 <;> decide⟩
 have HZ := hyd hz
 have fz : (z == 0) = false := by simp [hz0]
 clear hz hz0
 go_wp2_with fail
 refine (sign_is hT h2 O2.out HZ.out).mono ?_
 rintro en w2 ⟨rfl, b⟩
 replace BB := bnx BB b
 have G := mv b rfl (J12 a10 a11 a12 a20 a21 a22 gp gu hT h1 h2 r)
 clear b a10 a11 a12 a20 a21 a22 gp gu hT h1 h2 r
 obtain ⟨a10, a11, a12, a20, a21, a22, gp, gu, hT, h1, h2, r⟩ := G
 clear HZ
 go_wp2_with fail
 refine rgn (fun w' => w'.cell? ⟨v, 0, none⟩ = some (.bool s1) ∧ w'.cell? ⟨v, 1, none⟩ = some (.slice A1 n1 c1) ∧ w'.cell? ⟨v, 2, none⟩ = some (.int .i64 e1) ∧ w'.cell? ⟨(v + 1), 0, none⟩ = some (.bool s2) ∧ w'.cell? ⟨(v + 1), 1, none⟩ = some (.slice A2 n2 c2) ∧ w'.cell? ⟨(v + 1), 2, none⟩ = some (.int .i64 e2) ∧ w'.cell? ⟨v + 2, 0, none⟩ = some (.int .i64 (p : Int)) ∧ w'.cell? ⟨v + 3, 0, none⟩ = some (.bool up)) fun hHeld0 => ?_
 refine tl 0 ?_
 refine tl 1 ?_
 refine tl 2 ?_
 refine tl 3 ?_
 refine tl 4 ?_
 refine tl 5 ?_
 refine tl 6 ?_
 refine tl 7 ?_
 refine tl 9 ?_
 refine tl 10 ?_
 refine rdy 8 fun K hK => ?_
 go_simp
 refine (quotient_round (hT.heap (by rfl)) (h1.heap (by rfl)) (h2.heap (by rfl)) HY.out hp r1 r2 r3 r4).mono ?_
 rintro en w' ⟨A4, n4, c4, rfl, h4, b⟩
 replace BB := bnx BB b
 have G := mv b (by rfl) (J12 a10 a11 a12 a20 a21 a22 gp gu hT h1 h2 r)
 clear b a10 a11 a12 a20 a21 a22 gp gu hT h1 h2 r
 obtain ⟨a10, a11, a12, a20, a21, a22, gp, gu, hT, h1, h2, r⟩ := G
 refine bk hK fun hHeld1 => ?_
 clear hK K hHeld0
 try simp only [Act.put]
 refine rdy 11 fun K hK => ?_
 go_simp
 refine (cut_any (p := p) (neg := s1 != s2) (up := up) (hT.heap (by rfl)) (h4.heap (by rfl)) hp (by omega) (by omega)).mono ?_
 rintro en w' (⟨s5, A5, n5, c5, m5, e5, rfl, hP, h5, b⟩ | ⟨k, rfl, hk, hP, b⟩)
 rotate_left
 ·exact ⟨rfl, .inr ⟨k, rfl, hk, hP, bnx BB b⟩⟩
 have HP := hyd hP
 clear hP h4
 replace BB := bnx BB b
 have G := mv b (by rfl) (J10 a10 a11 a12 a20 a21 a22 gp gu hT r)
 clear b a10 a11 a12 a20 a21 a22 gp gu hT r
 obtain ⟨a10, a11, a12, a20, a21, a22, gp, gu, hT, r⟩ := G
 obtain ⟨f0, f1, f2⟩ := r.open
 obtain ⟨z0, z1, z2⟩ := r.held
 have ne0 : ¬ w.heap.size = v := by omega
 have ne1 : ¬ w.heap.size = v + 1 := by omega
 have ne2 : ¬ w.heap.size = v + 2 := by omega
 have ne3 : ¬ w.heap.size = v + 3 := by omega
 have nf0 : ¬ v = w.heap.size := by omega
 have nf1 : ¬ v + 1 = w.heap.size := by omega
 have nf2 : ¬ v + 2 = w.heap.size := by omega
 have nf3 : ¬ v + 3 = w.heap.size := by omega
 refine bk hK fun hHeld2 => ?_
 clear hK K hHeld1
 try simp only [Act.put]
 refine rdy 12 fun K hK => ?_
 go_simp
 refine bk hK fun hHeld3 => ?_
 clear hK K hHeld2
 try simp only [Act.put]
 refine wpAnyH_done (by kernel_rfl) ?_ _
 go_wp2
 exact ret3 rfl rfl rfl r BB (Nat.le_refl _) (h5.put3 r _ _ _) fun hN HB3 => (.inl ⟨_, _, _, _, _, _, rfl, HP.out, hN, HB3⟩)
theorem root1_no (ga : w.cell? ⟨v, 0, none⟩ = some (.bool s1) ∧ w.cell? ⟨v, 1, none⟩ = some (.slice A1 n1 c1) ∧ w.cell? ⟨v, 2, none⟩ = some (.int .i64 e1)) (gp : w.cell? ⟨v + 1, 0, none⟩ = some (.int .i64 p)) (gu : w.cell? ⟨v + 2, 0, none⟩ = some (.bool up)) (hT : Tab w) (h1 : Rd w .u64 W A1 n1 c1 l1) (hd : p < 1 ∨ 2000 < p ∨ mayD s1 l1 e1 = false) :
  Calls Tryz.prog 163 #[.pointer (some ⟨v + 1, 0, none⟩), .pointer (some ⟨v, 0, none⟩), .pointer (some ⟨v + 2, 0, none⟩)] w (Faults 1 w) := by
 obtain ⟨a10, a11, a12⟩ := ga
 have vl : v + 2 < w.heap.size := World.block_lt_of_cell? w _ gu
 have BB := below_alloc w (.cells #[.bool false, .slice none 0 0, .int .i64 0] 28)
 have G := mv BB rfl (J7 a10 a11 a12 gp gu hT h1)
 clear a10 a11 a12 gp gu hT h1
 obtain ⟨a10, a11, a12, gp, gu, hT, h1⟩ := G
 have r := Box.new w false none 0 0 0
 go_enter Tryz.func163, Tryz.ntmps163
 go_wp2_with fail
 have xs := box_one w (.cells #[.bool false, .slice none 0 0, .int .i64 0] 28) s1 A1 n1 c1 e1
 have b := below_alloc (w.alloc (.cells #[.bool false, .slice none 0 0, .int .i64 0] 28)) (.cells #[.bool s1, .slice A1 n1 c1, .int .i64 e1] 28)
 replace BB := bnx BB b
 have G := mv b rfl (J8 a10 a11 a12 gp gu hT h1 r)
 clear b a10 a11 a12 gp gu hT h1 r
 obtain ⟨a10, a11, a12, gp, gu, hT, h1, r⟩ := G
 refine (check_no hT (dys_one xs h1) hd).mono ?_
 rintro en w1 ⟨rfl, b⟩
 replace BB := bnx BB b
 clear b h1 hd
 go_wp2
 exact ⟨rfl, rfl, BB⟩
theorem root1_neg {x p : Nat} (ga : w.cell? ⟨v, 0, none⟩ = some (.bool s1) ∧ w.cell? ⟨v, 1, none⟩ = some (.slice A1 n1 c1) ∧ w.cell? ⟨v, 2, none⟩ = some (.int .i64 e1)) (gp : w.cell? ⟨v + 1, 0, none⟩ = some (.int .i64 (p : Int))) (gu : w.cell? ⟨v + 2, 0, none⟩ = some (.bool up)) (hT : Tab w) (h1 : Nt w A1 n1 c1 x) (hd1 : OkD s1 x e1) (hp1 : 1 ≤ p) (hp : p ≤ 2000) (hs : s1 = true) :
  Calls Tryz.prog 163 #[.pointer (some ⟨v + 1, 0, none⟩), .pointer (some ⟨v, 0, none⟩), .pointer (some ⟨v + 2, 0, none⟩)] w (Faults 4 w) := by
 have re := okd_ge (K := 4194304) (Nat.le_refl _) hd1
 have r1 := re.1
 have r2 := re.2.1
 have O1 := hyd hd1
 have bx := blen_nt h1
 have HS := hyd hs
 clear re hd1 hs
 obtain ⟨a10, a11, a12⟩ := ga
 have vl : v + 2 < w.heap.size := World.block_lt_of_cell? w _ gu
 have BB := below_alloc w (.cells #[.bool false, .slice none 0 0, .int .i64 0] 28)
 have G := mv BB rfl (J7 a10 a11 a12 gp gu hT h1)
 clear a10 a11 a12 gp gu hT h1
 obtain ⟨a10, a11, a12, gp, gu, hT, h1⟩ := G
 have r := Box.new w false none 0 0 0
 go_enter Tryz.func163, Tryz.ntmps163
 go_wp2_with fail
 have xs := box_one w (.cells #[.bool false, .slice none 0 0, .int .i64 0] 28) s1 A1 n1 c1 e1
 have b := below_alloc (w.alloc (.cells #[.bool false, .slice none 0 0, .int .i64 0] 28)) (.cells #[.bool s1, .slice A1 n1 c1, .int .i64 e1] 28)
 replace BB := bnx BB b
 have G := mv b rfl (J8 a10 a11 a12 gp gu hT h1 r)
 clear b a10 a11 a12 gp gu hT h1 r
 obtain ⟨a10, a11, a12, gp, gu, hT, h1, r⟩ := G
 refine (check_all (k := 1) hT (dys_one xs h1.rd) (by omega) hp1 hp (fun _ _ => mayD_ok O1.out)).mono ?_
 rintro en w1 ⟨rfl, b⟩
 clear xs
 replace BB := bnx BB b
 have G := mv b rfl (J8 a10 a11 a12 gp gu hT h1 r)
 clear b a10 a11 a12 gp gu hT h1 r
 obtain ⟨a10, a11, a12, gp, gu, hT, h1, r⟩ := G
 have hz : signD s1 x = -1 := by
  have hx : x ≠ 0 := by intro h0; rcases O1.out with ⟨_, h2, _⟩ | ⟨h2, _⟩ <;> first | (rw [HS.out] at h2; cases h2) | omega
  unfold signD; rw [if_neg hx, HS.out]; rfl
 go_wp2_with fail
 refine (sign_is hT h1 O1.out hz).mono ?_
 rintro en w2 ⟨rfl, b⟩
 replace BB := bnx BB b
 have G := mv b rfl (J8 a10 a11 a12 gp gu hT h1 r)
 clear b a10 a11 a12 gp gu hT h1 r
 obtain ⟨a10, a11, a12, gp, gu, hT, h1, r⟩ := G
 clear hz
 go_wp2
 exact ⟨rfl, rfl, BB⟩
theorem root1_some {x p : Nat} (ga : w.cell? ⟨v, 0, none⟩ = some (.bool s1) ∧ w.cell? ⟨v, 1, none⟩ = some (.slice A1 n1 c1) ∧ w.cell? ⟨v, 2, none⟩ = some (.int .i64 e1)) (gp : w.cell? ⟨v + 1, 0, none⟩ = some (.int .i64 (p : Int))) (gu : w.cell? ⟨v + 2, 0, none⟩ = some (.bool up)) (hT : Tab w) (h1 : Nt w A1 n1 c1 x) (hd1 : OkD s1 x e1) (hp1 : 1 ≤ p) (hp : p ≤ 2000) (hs : s1 = false) :
  Calls Tryz.prog 163 #[.pointer (some ⟨v + 1, 0, none⟩), .pointer (some ⟨v, 0, none⟩), .pointer (some ⟨v + 2, 0, none⟩)] w (Ran (RoTold x e1 p up) w) := by
 have re := okd_ge (K := 4194304) (Nat.le_refl _) hd1
 have r1 := re.1
 have r2 := re.2.1
 have O1 := hyd hd1
 have bx := blen_nt h1
 have HS := hyd hs
 clear re hd1 hs
 obtain ⟨a10, a11, a12⟩ := ga
 have vl : v + 2 < w.heap.size := World.block_lt_of_cell? w _ gu
 have BB := below_alloc w (.cells #[.bool false, .slice none 0 0, .int .i64 0] 28)
 have G := mv BB rfl (J7 a10 a11 a12 gp gu hT h1)
 clear a10 a11 a12 gp gu hT h1
 obtain ⟨a10, a11, a12, gp, gu, hT, h1⟩ := G
 have r := Box.new w false none 0 0 0
 go_enter Tryz.func163, Tryz.ntmps163
 go_wp2_with fail
 have xs := box_one w (.cells #[.bool false, .slice none 0 0, .int .i64 0] 28) s1 A1 n1 c1 e1
 have b := below_alloc (w.alloc (.cells #[.bool false, .slice none 0 0, .int .i64 0] 28)) (.cells #[.bool s1, .slice A1 n1 c1, .int .i64 e1] 28)
 replace BB := bnx BB b
 have G := mv b rfl (J8 a10 a11 a12 gp gu hT h1 r)
 clear b a10 a11 a12 gp gu hT h1 r
 obtain ⟨a10, a11, a12, gp, gu, hT, h1, r⟩ := G
 refine (check_all (k := 1) hT (dys_one xs h1.rd) (by omega) hp1 hp (fun _ _ => mayD_ok O1.out)).mono ?_
 rintro en w1 ⟨rfl, b⟩
 clear xs
 replace BB := bnx BB b
 have G := mv b rfl (J8 a10 a11 a12 gp gu hT h1 r)
 clear b a10 a11 a12 gp gu hT h1 r
 obtain ⟨a10, a11, a12, gp, gu, hT, h1, r⟩ := G
 obtain ⟨z, hz, hz0⟩ : ∃ z, signD s1 x = z ∧ ¬ z < 0 := ⟨_, rfl, by unfold signD; rw [HS.out]; split <;> decide⟩
 have HZ := hyd hz
 have fz : decide (z < 0) = false := decide_eq_false hz0
 clear hz hz0
 go_wp2_with fail
 refine (sign_is hT h1 O1.out HZ.out).mono ?_
 rintro en w2 ⟨rfl, b⟩
 replace BB := bnx BB b
 have G := mv b rfl (J8 a10 a11 a12 gp gu hT h1 r)
 clear b a10 a11 a12 gp gu hT h1 r
 obtain ⟨a10, a11, a12, gp, gu, hT, h1, r⟩ := G
 clear HZ
 go_wp2_with fail
 refine rgn (fun w' => w'.cell? ⟨v, 0, none⟩ = some (.bool s1) ∧ w'.cell? ⟨v, 1, none⟩ = some (.slice A1 n1 c1) ∧ w'.cell? ⟨v, 2, none⟩ = some (.int .i64 e1) ∧ w'.cell? ⟨v + 1, 0, none⟩ = some (.int .i64 (p : Int)) ∧ w'.cell? ⟨v + 2, 0, none⟩ = some (.bool up)) fun hHeld0 => ?_
 refine tl 0 ?_
 refine tl 1 ?_
 refine tl 3 ?_
 refine tl 4 ?_
 refine rdy 2 fun K hK => ?_
 go_simp
 refine (root_round (hT.heap (by rfl)) (h1.heap (by rfl)) hp1 hp r1 r2).mono ?_
 rintro en w' ⟨i, j, q, f, g1, g2, g3, g4, g5, g6, A4, n4, c4, rfl, h4, b⟩
 have HG := hyd (And.intro g1 <| And.intro g2 <| And.intro g3 <| And.intro g4 <| And.intro g5 g6)
 have f1 : -2000000 ≤ f := by omega
 have f2 : f ≤ 2000000 := by omega
 clear g1 g2 g3 g4 g5 g6
 replace BB := bnx BB b
 have G := mv b (by rfl) (J8 a10 a11 a12 gp gu hT h1 r)
 clear b a10 a11 a12 gp gu hT h1 r
 obtain ⟨a10, a11, a12, gp, gu, hT, h1, r⟩ := G
 refine bk hK fun hHeld1 => ?_
 clear hK K hHeld0
 try simp only [Act.put]
 refine rdy 5 fun K hK => ?_
 go_simp
 refine (cut_any (p := p) (neg := false) (up := up) (hT.heap (by rfl)) (h4.heap (by rfl)) hp (by omega) (by omega)).mono ?_
 rintro en w' (⟨s5, A5, n5, c5, m5, e5, rfl, hP, h5, b⟩ | ⟨k, rfl, hk, hP, b⟩)
 rotate_left
 ·exact ⟨rfl, .inr ⟨k, rfl, hk, ⟨i, j, q, f, HG.out, hP⟩, bnx BB b⟩⟩
 have HP : Hid (RoTold x e1 p up 0 s5 m5 e5) := hyd ⟨i, j, q, f, HG.out, hP⟩
 clear hP h4
 replace BB := bnx BB b
 have G := mv b (by rfl) (J7 a10 a11 a12 gp gu hT r)
 clear b a10 a11 a12 gp gu hT r
 obtain ⟨a10, a11, a12, gp, gu, hT, r⟩ := G
 obtain ⟨f0, f1, f2⟩ := r.open
 obtain ⟨z0, z1, z2⟩ := r.held
 have ne0 : ¬ w.heap.size = v := by omega
 have ne1 : ¬ w.heap.size = v + 1 := by omega
 have ne2 : ¬ w.heap.size = v + 2 := by omega
 have nf0 : ¬ v = w.heap.size := by omega
 have nf1 : ¬ v + 1 = w.heap.size := by omega
 have nf2 : ¬ v + 2 = w.heap.size := by omega
 refine bk hK fun hHeld2 => ?_
 clear hK K hHeld1
 try simp only [Act.put]
 refine rdy 6 fun K hK => ?_
 go_simp
 refine bk hK fun hHeld3 => ?_
 clear hK K hHeld2
 try simp only [Act.put]
 refine wpAnyH_done (by kernel_rfl) ?_ _
 go_wp2
 exact ret3 rfl rfl rfl r BB (Nat.le_refl _) (h5.put3 r _ _ _) fun hN HB3 => (.inl ⟨_, _, _, _, _, _, rfl, HP.out, hN, HB3⟩)
theorem new_cell_at (hg : w.heap.size = g) (cs : Array Value) (t : TypeId) (i : Nat) : (w.alloc (.cells cs t)).cell? ⟨g, i, none⟩ = cs[i]? := by
 subst hg
 exact new_cell w cs t i
theorem box_at (hg : w.heap.size = g) (s : Bool) (A : Option Addr) (n c : Nat) (e : Int) : Box (w.alloc (.cells #[.bool s, .slice A n c, .int .i64 e] 28)) g s A n c e := by
 subst hg
 exact Box.new w s A n c e
theorem sizes_up {o : Obj} (h : w.heap.size = g) : (w.alloc o).heap.size = g + 1 := by rw [size_one, h]
theorem rquot_start (w : World) : Below w.heap.size w (((((w.alloc (.cells #[.bool s1, .slice A1 n1 c1, .int .i64 e1] 28)).alloc (.cells #[.bool s2, .slice A2 n2 c2, .int .i64 e2] 28)).alloc (.cells #[.int .i64 p] 3)).alloc (.cells #[.bool up] 4)).alloc (.cells #[.bool false, .slice none 0 0, .int .i64 0] 28)) ∧ ((((((w.alloc (.cells #[.bool s1, .slice A1 n1 c1, .int .i64 e1] 28)).alloc (.cells #[.bool s2, .slice A2 n2 c2, .int .i64 e2] 28)).alloc (.cells #[.int .i64 p] 3)).alloc (.cells #[.bool up] 4)).alloc (.cells #[.bool false, .slice none 0 0, .int .i64 0] 28)).cell? ⟨w.heap.size, 0, none⟩ = some (.bool s1) ∧ (((((w.alloc (.cells #[.bool s1, .slice A1 n1 c1, .int .i64 e1] 28)).alloc (.cells #[.bool s2, .slice A2 n2 c2, .int .i64 e2] 28)).alloc (.cells #[.int .i64 p] 3)).alloc (.cells #[.bool up] 4)).alloc (.cells #[.bool false, .slice none 0 0, .int .i64 0] 28)).cell? ⟨w.heap.size, 1, none⟩ = some (.slice A1 n1 c1) ∧ (((((w.alloc (.cells #[.bool s1, .slice A1 n1 c1, .int .i64 e1] 28)).alloc (.cells #[.bool s2, .slice A2 n2 c2, .int .i64 e2] 28)).alloc (.cells #[.int .i64 p] 3)).alloc (.cells #[.bool up] 4)).alloc (.cells #[.bool false, .slice none 0 0, .int .i64 0] 28)).cell? ⟨w.heap.size, 2, none⟩ = some (.int .i64 e1)) ∧ ((((((w.alloc (.cells #[.bool s1, .slice A1 n1 c1, .int .i64 e1] 28)).alloc (.cells #[.bool s2, .slice A2 n2 c2, .int .i64 e2] 28)).alloc (.cells #[.int .i64 p] 3)).alloc (.cells #[.bool up] 4)).alloc (.cells #[.bool false, .slice none 0 0, .int .i64 0] 28)).cell? ⟨(w.heap.size + 1), 0, none⟩ = some (.bool s2) ∧ (((((w.alloc (.cells #[.bool s1, .slice A1 n1 c1, .int .i64 e1] 28)).alloc (.cells #[.bool s2, .slice A2 n2 c2, .int .i64 e2] 28)).alloc (.cells #[.int .i64 p] 3)).alloc (.cells #[.bool up] 4)).alloc (.cells #[.bool false, .slice none 0 0, .int .i64 0] 28)).cell? ⟨(w.heap.size + 1), 1, none⟩ = some (.slice A2 n2 c2) ∧ (((((w.alloc (.cells #[.bool s1, .slice A1 n1 c1, .int .i64 e1] 28)).alloc (.cells #[.bool s2, .slice A2 n2 c2, .int .i64 e2] 28)).alloc (.cells #[.int .i64 p] 3)).alloc (.cells #[.bool up] 4)).alloc (.cells #[.bool false, .slice none 0 0, .int .i64 0] 28)).cell? ⟨(w.heap.size + 1), 2, none⟩ = some (.int .i64 e2)) ∧ ((((((w.alloc (.cells #[.bool s1, .slice A1 n1 c1, .int .i64 e1] 28)).alloc (.cells #[.bool s2, .slice A2 n2 c2, .int .i64 e2] 28)).alloc (.cells #[.int .i64 p] 3)).alloc (.cells #[.bool up] 4)).alloc (.cells #[.bool false, .slice none 0 0, .int .i64 0] 28)).cell? ⟨w.heap.size + 2, 0, none⟩ = some (.int .i64 p)) ∧ ((((((w.alloc (.cells #[.bool s1, .slice A1 n1 c1, .int .i64 e1] 28)).alloc (.cells #[.bool s2, .slice A2 n2 c2, .int .i64 e2] 28)).alloc (.cells #[.int .i64 p] 3)).alloc (.cells #[.bool up] 4)).alloc (.cells #[.bool false, .slice none 0 0, .int .i64 0] 28)).cell? ⟨w.heap.size + 3, 0, none⟩ = some (.bool up)) ∧ (Box (((((w.alloc (.cells #[.bool s1, .slice A1 n1 c1, .int .i64 e1] 28)).alloc (.cells #[.bool s2, .slice A2 n2 c2, .int .i64 e2] 28)).alloc (.cells #[.int .i64 p] 3)).alloc (.cells #[.bool up] 4)).alloc (.cells #[.bool false, .slice none 0 0, .int .i64 0] 28)) (w.heap.size + 4) false none 0 0 0) := by
 have z0 : w.heap.size = w.heap.size := rfl
 have b := below_alloc w (.cells #[.bool s1, .slice A1 n1 c1, .int .i64 e1] 28)
 have a10 : (w.alloc (.cells #[.bool s1, .slice A1 n1 c1, .int .i64 e1] 28)).cell? ⟨w.heap.size, 0, none⟩ = some (.bool s1) := new_cell_at z0 _ _ 0
 have a11 : (w.alloc (.cells #[.bool s1, .slice A1 n1 c1, .int .i64 e1] 28)).cell? ⟨w.heap.size, 1, none⟩ = some (.slice A1 n1 c1) := new_cell_at z0 _ _ 1
 have a12 : (w.alloc (.cells #[.bool s1, .slice A1 n1 c1, .int .i64 e1] 28)).cell? ⟨w.heap.size, 2, none⟩ = some (.int .i64 e1) := new_cell_at z0 _ _ 2
 have z1 := sizes_up (o := (.cells #[.bool s1, .slice A1 n1 c1, .int .i64 e1] 28)) z0
 have BB := b
 clear b
 have b := below_alloc (w.alloc (.cells #[.bool s1, .slice A1 n1 c1, .int .i64 e1] 28)) (.cells #[.bool s2, .slice A2 n2 c2, .int .i64 e2] 28)
 have a20 : ((w.alloc (.cells #[.bool s1, .slice A1 n1 c1, .int .i64 e1] 28)).alloc (.cells #[.bool s2, .slice A2 n2 c2, .int .i64 e2] 28)).cell? ⟨w.heap.size + 1, 0, none⟩ = some (.bool s2) := new_cell_at z1 _ _ 0
 have a21 : ((w.alloc (.cells #[.bool s1, .slice A1 n1 c1, .int .i64 e1] 28)).alloc (.cells #[.bool s2, .slice A2 n2 c2, .int .i64 e2] 28)).cell? ⟨w.heap.size + 1, 1, none⟩ = some (.slice A2 n2 c2) := new_cell_at z1 _ _ 1
 have a22 : ((w.alloc (.cells #[.bool s1, .slice A1 n1 c1, .int .i64 e1] 28)).alloc (.cells #[.bool s2, .slice A2 n2 c2, .int .i64 e2] 28)).cell? ⟨w.heap.size + 1, 2, none⟩ = some (.int .i64 e2) := new_cell_at z1 _ _ 2
 have z2 := sizes_up (o := (.cells #[.bool s2, .slice A2 n2 c2, .int .i64 e2] 28)) z1
 replace BB := BB.trans (b.mono (by omega))
 have G := mv b rfl (J3 a10 a11 a12)
 clear a10 a11 a12
 obtain ⟨a10, a11, a12⟩ := G
 clear b
 have b := below_alloc ((w.alloc (.cells #[.bool s1, .slice A1 n1 c1, .int .i64 e1] 28)).alloc (.cells #[.bool s2, .slice A2 n2 c2, .int .i64 e2] 28)) (.cells #[.int .i64 p] 3)
 have gp : (((w.alloc (.cells #[.bool s1, .slice A1 n1 c1, .int .i64 e1] 28)).alloc (.cells #[.bool s2, .slice A2 n2 c2, .int .i64 e2] 28)).alloc (.cells #[.int .i64 p] 3)).cell? ⟨w.heap.size + 2, 0, none⟩ = some (.int .i64 p) := new_cell_at z2 _ _ 0
 have z3 := sizes_up (o := (.cells #[.int .i64 p] 3)) z2
 replace BB := BB.trans (b.mono (by omega))
 have G := mv b rfl (J6 a10 a11 a12 a20 a21 a22)
 clear a10 a11 a12 a20 a21 a22
 obtain ⟨a10, a11, a12, a20, a21, a22⟩ := G
 clear b
 have b := below_alloc (((w.alloc (.cells #[.bool s1, .slice A1 n1 c1, .int .i64 e1] 28)).alloc (.cells #[.bool s2, .slice A2 n2 c2, .int .i64 e2] 28)).alloc (.cells #[.int .i64 p] 3)) (.cells #[.bool up] 4)
 have gu : ((((w.alloc (.cells #[.bool s1, .slice A1 n1 c1, .int .i64 e1] 28)).alloc (.cells #[.bool s2, .slice A2 n2 c2, .int .i64 e2] 28)).alloc (.cells #[.int .i64 p] 3)).alloc (.cells #[.bool up] 4)).cell? ⟨w.heap.size + 3, 0, none⟩ = some (.bool up) := new_cell_at z3 _ _ 0
 have z4 := sizes_up (o := (.cells #[.bool up] 4)) z3
 replace BB := BB.trans (b.mono (by omega))
 have G := mv b rfl (J7 a10 a11 a12 a20 a21 a22 gp)
 clear a10 a11 a12 a20 a21 a22 gp
 obtain ⟨a10, a11, a12, a20, a21, a22, gp⟩ := G
 clear b
 have b := below_alloc ((((w.alloc (.cells #[.bool s1, .slice A1 n1 c1, .int .i64 e1] 28)).alloc (.cells #[.bool s2, .slice A2 n2 c2, .int .i64 e2] 28)).alloc (.cells #[.int .i64 p] 3)).alloc (.cells #[.bool up] 4)) (.cells #[.bool false, .slice none 0 0, .int .i64 0] 28)
 have r := box_at z4 false none 0 0 0
 have z5 := sizes_up (o := (.cells #[.bool false, .slice none 0 0, .int .i64 0] 28)) z4
 replace BB := BB.trans (b.mono (by omega))
 have G := mv b rfl (J8 a10 a11 a12 a20 a21 a22 gp gu)
 clear a10 a11 a12 a20 a21 a22 gp gu
 obtain ⟨a10, a11, a12, a20, a21, a22, gp, gu⟩ := G
 clear b
 exact ⟨BB, ⟨a10, a11, a12⟩, ⟨a20, a21, a22⟩, gp, gu, r⟩
theorem rroot_start (w : World) : Below w.heap.size w ((((w.alloc (.cells #[.bool s1, .slice A1 n1 c1, .int .i64 e1] 28)).alloc (.cells #[.int .i64 p] 3)).alloc (.cells #[.bool up] 4)).alloc (.cells #[.bool false, .slice none 0 0, .int .i64 0] 28)) ∧ (((((w.alloc (.cells #[.bool s1, .slice A1 n1 c1, .int .i64 e1] 28)).alloc (.cells #[.int .i64 p] 3)).alloc (.cells #[.bool up] 4)).alloc (.cells #[.bool false, .slice none 0 0, .int .i64 0] 28)).cell? ⟨w.heap.size, 0, none⟩ = some (.bool s1) ∧ ((((w.alloc (.cells #[.bool s1, .slice A1 n1 c1, .int .i64 e1] 28)).alloc (.cells #[.int .i64 p] 3)).alloc (.cells #[.bool up] 4)).alloc (.cells #[.bool false, .slice none 0 0, .int .i64 0] 28)).cell? ⟨w.heap.size, 1, none⟩ = some (.slice A1 n1 c1) ∧ ((((w.alloc (.cells #[.bool s1, .slice A1 n1 c1, .int .i64 e1] 28)).alloc (.cells #[.int .i64 p] 3)).alloc (.cells #[.bool up] 4)).alloc (.cells #[.bool false, .slice none 0 0, .int .i64 0] 28)).cell? ⟨w.heap.size, 2, none⟩ = some (.int .i64 e1)) ∧ (((((w.alloc (.cells #[.bool s1, .slice A1 n1 c1, .int .i64 e1] 28)).alloc (.cells #[.int .i64 p] 3)).alloc (.cells #[.bool up] 4)).alloc (.cells #[.bool false, .slice none 0 0, .int .i64 0] 28)).cell? ⟨w.heap.size + 1, 0, none⟩ = some (.int .i64 p)) ∧ (((((w.alloc (.cells #[.bool s1, .slice A1 n1 c1, .int .i64 e1] 28)).alloc (.cells #[.int .i64 p] 3)).alloc (.cells #[.bool up] 4)).alloc (.cells #[.bool false, .slice none 0 0, .int .i64 0] 28)).cell? ⟨w.heap.size + 2, 0, none⟩ = some (.bool up)) ∧ (Box ((((w.alloc (.cells #[.bool s1, .slice A1 n1 c1, .int .i64 e1] 28)).alloc (.cells #[.int .i64 p] 3)).alloc (.cells #[.bool up] 4)).alloc (.cells #[.bool false, .slice none 0 0, .int .i64 0] 28)) (w.heap.size + 3) false none 0 0 0) := by
 have z0 : w.heap.size = w.heap.size := rfl
 have b := below_alloc w (.cells #[.bool s1, .slice A1 n1 c1, .int .i64 e1] 28)
 have a10 : (w.alloc (.cells #[.bool s1, .slice A1 n1 c1, .int .i64 e1] 28)).cell? ⟨w.heap.size, 0, none⟩ = some (.bool s1) := new_cell_at z0 _ _ 0
 have a11 : (w.alloc (.cells #[.bool s1, .slice A1 n1 c1, .int .i64 e1] 28)).cell? ⟨w.heap.size, 1, none⟩ = some (.slice A1 n1 c1) := new_cell_at z0 _ _ 1
 have a12 : (w.alloc (.cells #[.bool s1, .slice A1 n1 c1, .int .i64 e1] 28)).cell? ⟨w.heap.size, 2, none⟩ = some (.int .i64 e1) := new_cell_at z0 _ _ 2
 have z1 := sizes_up (o := (.cells #[.bool s1, .slice A1 n1 c1, .int .i64 e1] 28)) z0
 have BB := b
 clear b
 have b := below_alloc (w.alloc (.cells #[.bool s1, .slice A1 n1 c1, .int .i64 e1] 28)) (.cells #[.int .i64 p] 3)
 have gp : ((w.alloc (.cells #[.bool s1, .slice A1 n1 c1, .int .i64 e1] 28)).alloc (.cells #[.int .i64 p] 3)).cell? ⟨w.heap.size + 1, 0, none⟩ = some (.int .i64 p) := new_cell_at z1 _ _ 0
 have z2 := sizes_up (o := (.cells #[.int .i64 p] 3)) z1
 replace BB := BB.trans (b.mono (by omega))
 have G := mv b rfl (J3 a10 a11 a12)
 clear a10 a11 a12
 obtain ⟨a10, a11, a12⟩ := G
 clear b
 have b := below_alloc ((w.alloc (.cells #[.bool s1, .slice A1 n1 c1, .int .i64 e1] 28)).alloc (.cells #[.int .i64 p] 3)) (.cells #[.bool up] 4)
 have gu : (((w.alloc (.cells #[.bool s1, .slice A1 n1 c1, .int .i64 e1] 28)).alloc (.cells #[.int .i64 p] 3)).alloc (.cells #[.bool up] 4)).cell? ⟨w.heap.size + 2, 0, none⟩ = some (.bool up) := new_cell_at z2 _ _ 0
 have z3 := sizes_up (o := (.cells #[.bool up] 4)) z2
 replace BB := BB.trans (b.mono (by omega))
 have G := mv b rfl (J4 a10 a11 a12 gp)
 clear a10 a11 a12 gp
 obtain ⟨a10, a11, a12, gp⟩ := G
 clear b
 have b := below_alloc (((w.alloc (.cells #[.bool s1, .slice A1 n1 c1, .int .i64 e1] 28)).alloc (.cells #[.int .i64 p] 3)).alloc (.cells #[.bool up] 4)) (.cells #[.bool false, .slice none 0 0, .int .i64 0] 28)
 have r := box_at z3 false none 0 0 0
 have z4 := sizes_up (o := (.cells #[.bool false, .slice none 0 0, .int .i64 0] 28)) z3
 replace BB := BB.trans (b.mono (by omega))
 have G := mv b rfl (J5 a10 a11 a12 gp gu)
 clear a10 a11 a12 gp gu
 obtain ⟨a10, a11, a12, gp, gu⟩ := G
 clear b
 exact ⟨BB, ⟨a10, a11, a12⟩, gp, gu, r⟩
theorem face_quot {P : Int → Bool → Nat → Int → Prop}
  (hc : ∀ W2 : World, Below w.heap.size w W2 → (W2.cell? ⟨w.heap.size, 0, none⟩ = some (.bool s1) ∧ W2.cell? ⟨w.heap.size, 1, none⟩ = some (.slice A1 n1 c1) ∧ W2.cell? ⟨w.heap.size, 2, none⟩ = some (.int .i64 e1)) → (W2.cell? ⟨(w.heap.size + 1), 0, none⟩ = some (.bool s2) ∧ W2.cell? ⟨(w.heap.size + 1), 1, none⟩ = some (.slice A2 n2 c2) ∧ W2.cell? ⟨(w.heap.size + 1), 2, none⟩ = some (.int .i64 e2)) → W2.cell? ⟨w.heap.size + 2, 0, none⟩ = some (.int .i64 p) → W2.cell? ⟨w.heap.size + 3, 0, none⟩ = some (.bool up) → Calls Tryz.prog 161 #[.pointer (some ⟨w.heap.size + 2, 0, none⟩), .pointer (some ⟨w.heap.size, 0, none⟩), .pointer (some ⟨w.heap.size + 1, 0, none⟩), .pointer (some ⟨w.heap.size + 3, 0, none⟩)] W2 (Ran P W2)) :
  Calls Tryz.prog 147 #[.agg #[.bool s1, .slice A1 n1 c1, .int .i64 e1], .agg #[.bool s2, .slice A2 n2 c2, .int .i64 e2], .int .i64 p, .bool up] w (Tells P w) := by
 have HC := hyd hc
 clear hc
 have hmf := make_func
 obtain ⟨BB, ⟨a10, a11, a12⟩, ⟨a20, a21, a22⟩, gp, gu, r⟩ := rquot_start w (p := p) (up := up) (s1 := s1) (A1 := A1) (n1 := n1) (c1 := c1) (e1 := e1) (s2 := s2) (A2 := A2) (n2 := n2) (c2 := c2) (e2 := e2)
 go_enter Tryz.func147, Tryz.ntmps147
 go_wp2_with fail
 refine (told_face (P := P) (fun _ => by kernel_rfl) (fun W2 h2 => ?_)).mono ?_
 ·subst h2
  have b := two_below (((((w.alloc (.cells #[.bool s1, .slice A1 n1 c1, .int .i64 e1] 28)).alloc (.cells #[.bool s2, .slice A2 n2 c2, .int .i64 e2] 28)).alloc (.cells #[.int .i64 p] 3)).alloc (.cells #[.bool up] 4)).alloc (.cells #[.bool false, .slice none 0 0, .int .i64 0] 28)) (.cells #[.bool false, .slice none 0 0, .int .i64 0] 28) (.cells #[.int .i64 0] 3)
  have B2 := bnx BB b
  have G := mv b rfl (J9 a10 a11 a12 a20 a21 a22 gp gu r)
  clear a10 a11 a12 a20 a21 a22 gp gu r
  obtain ⟨a10, a11, a12, a20, a21, a22, gp, gu, r⟩ := G
  exact HC.out _ B2 ⟨a10, a11, a12⟩ ⟨a20, a21, a22⟩ gp gu
 rintro en w5 ⟨k, s', A5, n5, c5, m', e', rfl, hP, h5, b⟩
 have HP := hyd hP
 replace r := r.next b rfl
 replace BB := bnx BB b
 obtain ⟨f0, f1, f2⟩ := r.open
 obtain ⟨z0, z1, z2⟩ := r.held
 clear b hP HC a10 a11 a12 a20 a21 a22 gp gu
 go_wp2
 exact ret3t rfl rfl rfl rfl r BB (by omega) (h5.put3 r _ _ _) fun hN5 HB3 => ⟨_, _, _, _, _, _, _, rfl, HP.out, hN5, HB3⟩
theorem face_root {P : Int → Bool → Nat → Int → Prop}
  (hc : ∀ W2 : World, Below w.heap.size w W2 → (W2.cell? ⟨w.heap.size, 0, none⟩ = some (.bool s1) ∧ W2.cell? ⟨w.heap.size, 1, none⟩ = some (.slice A1 n1 c1) ∧ W2.cell? ⟨w.heap.size, 2, none⟩ = some (.int .i64 e1)) → W2.cell? ⟨w.heap.size + 1, 0, none⟩ = some (.int .i64 p) → W2.cell? ⟨w.heap.size + 2, 0, none⟩ = some (.bool up) → Calls Tryz.prog 163 #[.pointer (some ⟨w.heap.size + 1, 0, none⟩), .pointer (some ⟨w.heap.size, 0, none⟩), .pointer (some ⟨w.heap.size + 2, 0, none⟩)] W2 (Ran P W2)) :
  Calls Tryz.prog 148 #[.agg #[.bool s1, .slice A1 n1 c1, .int .i64 e1], .int .i64 p, .bool up] w (Tells P w) := by
 have HC := hyd hc
 clear hc
 have hmf := make_func
 obtain ⟨BB, ⟨a10, a11, a12⟩, gp, gu, r⟩ := rroot_start w (p := p) (up := up) (s1 := s1) (A1 := A1) (n1 := n1) (c1 := c1) (e1 := e1)
 go_enter Tryz.func148, Tryz.ntmps148
 go_wp2_with fail
 refine (told_face (P := P) (fun _ => by kernel_rfl) (fun W2 h2 => ?_)).mono ?_
 ·subst h2
  have b := two_below ((((w.alloc (.cells #[.bool s1, .slice A1 n1 c1, .int .i64 e1] 28)).alloc (.cells #[.int .i64 p] 3)).alloc (.cells #[.bool up] 4)).alloc (.cells #[.bool false, .slice none 0 0, .int .i64 0] 28)) (.cells #[.bool false, .slice none 0 0, .int .i64 0] 28) (.cells #[.int .i64 0] 3)
  have B2 := bnx BB b
  have G := mv b rfl (J6 a10 a11 a12 gp gu r)
  clear a10 a11 a12 gp gu r
  obtain ⟨a10, a11, a12, gp, gu, r⟩ := G
  exact HC.out _ B2 ⟨a10, a11, a12⟩ gp gu
 rintro en w5 ⟨k, s', A5, n5, c5, m', e', rfl, hP, h5, b⟩
 have HP := hyd hP
 replace r := r.next b rfl
 replace BB := bnx BB b
 obtain ⟨f0, f1, f2⟩ := r.open
 obtain ⟨z0, z1, z2⟩ := r.held
 clear b hP HC a10 a11 a12 gp gu
 go_wp2
 exact ret3t rfl rfl rfl rfl r BB (by omega) (h5.put3 r _ _ _) fun hN5 HB3 => ⟨_, _, _, _, _, _, _, rfl, HP.out, hN5, HB3⟩
theorem rquot_ok {x y p : Nat} (hT : Tab w) (h1 : Nt w A1 n1 c1 x) (h2 : Nt w A2 n2 c2 y) (hd1 : OkD s1 x e1) (hd2 : OkD s2 y e2) (hp1 : 1 ≤ p) (hp : p ≤ 2000) (hy : y ≠ 0) : Calls Tryz.prog 147 #[.agg #[.bool s1, .slice A1 n1 c1, .int .i64 e1], .agg #[.bool s2, .slice A2 n2 c2, .int .i64 e2], .int .i64 (p : Int), .bool up] w (Tells (QuTold s1 x e1 s2 y e2 p up) w) :=
 face_quot fun _ b ga gb gp gu => quot1_some ga gb gp gu (hT.below b) (h1.below b) (h2.below b) hd1 hd2 hp1 hp hy
theorem rquot_zero {x y p : Nat} (hT : Tab w) (h1 : Nt w A1 n1 c1 x) (h2 : Nt w A2 n2 c2 y) (hd1 : OkD s1 x e1) (hd2 : OkD s2 y e2) (hp1 : 1 ≤ p) (hp : p ≤ 2000) (hy : y = 0) : Calls Tryz.prog 147 #[.agg #[.bool s1, .slice A1 n1 c1, .int .i64 e1], .agg #[.bool s2, .slice A2 n2 c2, .int .i64 e2], .int .i64 (p : Int), .bool up] w (Tells Outside w) :=
 face_quot fun _ b ga gb gp gu => (quot1_zero ga gb gp gu (hT.below b) (h1.below b) (h2.below b) hd1 hd2 hp1 hp hy).mono fun _ _ hg => ran_fault hg (by decide) ⟨rfl, rfl, rfl, rfl⟩
theorem rquot_no (hT : Tab w) (h1 : Rd w .u64 W A1 n1 c1 l1) (h2 : Rd w .u64 W A2 n2 c2 l2) (hd : p < 1 ∨ 2000 < p ∨ (mayD s1 l1 e1 && mayD s2 l2 e2) = false) : Calls Tryz.prog 147 #[.agg #[.bool s1, .slice A1 n1 c1, .int .i64 e1], .agg #[.bool s2, .slice A2 n2 c2, .int .i64 e2], .int .i64 p, .bool up] w (Tells Wrong w) :=
 face_quot fun _ b ga gb gp gu => (quot1_no ga gb gp gu (hT.below b) (h1.below b) (h2.below b) hd).mono fun _ _ hg => ran_fault hg (by decide) ⟨rfl, rfl, rfl, rfl⟩
theorem rroot_ok {x p : Nat} (hT : Tab w) (h1 : Nt w A1 n1 c1 x) (hd1 : OkD s1 x e1) (hp1 : 1 ≤ p) (hp : p ≤ 2000) (hs : s1 = false) : Calls Tryz.prog 148 #[.agg #[.bool s1, .slice A1 n1 c1, .int .i64 e1], .int .i64 (p : Int), .bool up] w (Tells (RoTold x e1 p up) w) :=
 face_root fun _ b ga gp gu => root1_some ga gp gu (hT.below b) (h1.below b) hd1 hp1 hp hs
theorem rroot_neg {x p : Nat} (hT : Tab w) (h1 : Nt w A1 n1 c1 x) (hd1 : OkD s1 x e1) (hp1 : 1 ≤ p) (hp : p ≤ 2000) (hs : s1 = true) : Calls Tryz.prog 148 #[.agg #[.bool s1, .slice A1 n1 c1, .int .i64 e1], .int .i64 (p : Int), .bool up] w (Tells Outside w) :=
 face_root fun _ b ga gp gu => (root1_neg ga gp gu (hT.below b) (h1.below b) hd1 hp1 hp hs).mono fun _ _ hg => ran_fault hg (by decide) ⟨rfl, rfl, rfl, rfl⟩
theorem rroot_no (hT : Tab w) (h1 : Rd w .u64 W A1 n1 c1 l1) (hd : p < 1 ∨ 2000 < p ∨ mayD s1 l1 e1 = false) : Calls Tryz.prog 148 #[.agg #[.bool s1, .slice A1 n1 c1, .int .i64 e1], .int .i64 p, .bool up] w (Tells Wrong w) :=
 face_root fun _ b ga gp gu => (root1_no ga gp gu (hT.below b) (h1.below b) hd).mono fun _ _ hg => ran_fault hg (by decide) ⟨rfl, rfl, rfl, rfl⟩
theorem nt_one_at (hg : w.heap.size = g) (h0 : v ≠ 0) (hv : v < 100) : Nt (w.alloc (.cells #[.int .u64 (v : Int)] 58)) (some ⟨g, 0, none⟩) 1 1 v := by
 subst hg
 exact nt_one w h0 (small_W hv)
theorem okd_small {m : Nat} {e : Int} (h1 : m % 2 = 1) (h2 : m < 100) (h3 : -1048576 ≤ e) (h4 : e ≤ 1048576) : OkD false m e := .inr ⟨h1, small64 h2, h3, h4⟩
theorem nm_small {q k : Nat} {e f : Int} (hq : 2 * q + 1 < 100) (he : e + (k : Int) = f) (h3 : -1048576 ≤ f) (h4 : f ≤ 1048576) : Nm false (2 ^ k * (2 * q + 1)) e 0 false (2 * q + 1) f :=
 .inr ⟨k, q, rfl, .inr (.inr ⟨small64 hq, by omega, rfl, rfl, rfl, he.symm⟩)⟩
end Go.Proofs.YtehfdfjpmmpndaaGreatDoor
