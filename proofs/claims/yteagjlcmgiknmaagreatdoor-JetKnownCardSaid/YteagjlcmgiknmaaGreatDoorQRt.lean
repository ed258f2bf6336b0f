/-
 Contract of the statements' own told of layer 3, at this translation: it returns true. Condition: the table of math/bits reads as its text lays it.
-/
import Derived.Test.YteagjlcmgiknmaaGreatDoorQRj
set_option maxHeartbeats 8000000
set_option maxRecDepth 100000
namespace Go.Proofs.YteagjlcmgiknmaaGreatDoor
open Go.RowKit

/-- what is told of a quotient that is rounded to p bits -/
def QuTold (s1 : Bool) (x : Nat) (e1 : Int) (s2 : Bool) (y : Nat) (e2 : Int) (p : Nat) (up : Bool) : Int → Bool → Nat → Int → Prop :=
 Nm (s1 != s2) (cutR p (x * 2 ^ kUp p x y / (y * 2 ^ kDn p x y)) (!decide (x * 2 ^ kUp p x y % (y * 2 ^ kDn p x y) = 0)) (up != (s1 != s2))) (e1 - e2 - ((p : Int) + (blen y : Int) - (blen x : Int)) + ((blen (x * 2 ^ kUp p x y / (y * 2 ^ kDn p x y)) - p : Nat) : Int))
def Outside (k : Int) (s : Bool) (m : Nat) (e : Int) : Prop := k = 4 ∧ s = false ∧ m = 0 ∧ e = 0
theorem check_no2 {w : World} {g : Nat} {p : Int} {s1 s2 : Bool} {A1 A2 : Option Addr} {n1 c1 n2 c2 : Nat} {e1 e2 : Int} {l1 l2 : List Nat} (hT : Tab w)
  (h : Dys w g 2 (fun i => if i = 0 then s1 else s2) (fun i => if i = 0 then A1 else A2) (fun i => if i = 0 then n1 else n2) (fun i => if i = 0 then c1 else c2) (fun i => if i = 0 then e1 else e2) (fun i => if i = 0 then l1 else l2)) (hd : p < 1 ∨ 2000 < p ∨ (mayD s1 l1 e1 && mayD s2 l2 e2) = false) :
  Calls Tryz.prog 139 #[.int .i64 p, .slice (some ⟨g, 0, none⟩) 2 2] w (Faults 1 w) := by
 by_cases hp : p < 1 ∨ 2000 < p
 ·exact check_p (k := 2) hp
 ·obtain ⟨q, rfl⟩ := Int.eq_ofNat_of_zero_le (show 0 ≤ p by omega)
  have hm : (mayD s1 l1 e1 && mayD s2 l2 e2) = false := by rcases hd with h1 | h1 | h1 <;> first | exact h1 | (exfalso; omega)
  cases h1 : mayD s1 l1 e1
  ·exact check_some hT h (by omega) (by omega) (by omega) (j := 0) (by omega) (fun i hi => absurd hi (by omega)) h1
  ·refine check_some hT h (by omega) (by omega) (by omega) (j := 1) (by omega) (fun i hi => ?_) (by simpa [h1] using hm)
   obtain rfl : i = 0 := by omega
   exact h1
theorem dys_two_at {w : World} {g : Nat} {s1 s2 : Bool} {A1 A2 : Option Addr} {n1 c1 n2 c2 : Nat} {e1 e2 : Int} {l1 l2 : List Nat} (hg : w.heap.size = g) (h1 : Rd w .u64 W A1 n1 c1 l1) (h2 : Rd w .u64 W A2 n2 c2 l2) :
  Dys (w.alloc (.cells #[.bool s1, .slice A1 n1 c1, .int .i64 e1, .bool s2, .slice A2 n2 c2, .int .i64 e2] 25)) g 2 (fun i => if i = 0 then s1 else s2) (fun i => if i = 0 then A1 else A2) (fun i => if i = 0 then n1 else n2) (fun i => if i = 0 then c1 else c2) (fun i => if i = 0 then e1 else e2) (fun i => if i = 0 then l1 else l2) := by
 subst hg
 exact dys_two h1 h2
theorem size_one (w : World) (o : Obj) : (w.alloc o).heap.size = w.heap.size + 1 := by simp

theorem quot1_no {w : World} {v : Nat} {up : Bool} {p : Int} {l1 l2 : List Nat} {A1 : Option Addr} {n1 c1 : Nat} {s1 : Bool} {e1 : Int} {A2 : Option Addr} {n2 c2 : Nat} {s2 : Bool} {e2 : Int} (ga : w.cell? ⟨v, 0, none⟩ = some (.bool s1) ∧ w.cell? ⟨v, 1, none⟩ = some (.slice A1 n1 c1) ∧ w.cell? ⟨v, 2, none⟩ = some (.int .i64 e1)) (gb : w.cell? ⟨(v + 1), 0, none⟩ = some (.bool s2) ∧ w.cell? ⟨(v + 1), 1, none⟩ = some (.slice A2 n2 c2) ∧ w.cell? ⟨(v + 1), 2, none⟩ = some (.int .i64 e2)) (gp : w.cell? ⟨v + 2, 0, none⟩ = some (.int .i64 p)) (gu : w.cell? ⟨v + 3, 0, none⟩ = some (.bool up)) (hT : Tab w) (h1 : Rd w .u64 W A1 n1 c1 l1) (h2 : Rd w .u64 W A2 n2 c2 l2) (hd : p < 1 ∨ 2000 < p ∨ (mayD s1 l1 e1 && mayD s2 l2 e2) = false) :
  Calls Tryz.prog 155 #[.pointer (some ⟨v + 2, 0, none⟩), .pointer (some ⟨v, 0, none⟩), .pointer (some ⟨v + 1, 0, none⟩), .pointer (some ⟨v + 3, 0, none⟩)] w (Faults 1 w) := by
 obtain ⟨a10, a11, a12⟩ := ga
 obtain ⟨a20, a21, a22⟩ := gb
 have vl : v + 3 < w.heap.size := World.block_lt_of_cell? w _ gu
 have BB := below_alloc w (.cells #[.bool false, .slice none 0 0, .int .i64 0] 25)
 have G := mv BB rfl (J11 a10 a11 a12 a20 a21 a22 gp gu hT h1 h2)
 clear a10 a11 a12 a20 a21 a22 gp gu hT h1 h2
 obtain ⟨a10, a11, a12, a20, a21, a22, gp, gu, hT, h1, h2⟩ := G
 have r := Box.new w false none 0 0 0
 go_enter Tryz.func155, Tryz.ntmps155
 go_wp2_with fail
 have D := dys_two_at (s1 := s1) (s2 := s2) (e1 := e1) (e2 := e2) (size_one w (.cells #[.bool false, .slice none 0 0, .int .i64 0] 25)) h1 h2
 have b := below_alloc (w.alloc (.cells #[.bool false, .slice none 0 0, .int .i64 0] 25)) (.cells #[.bool s1, .slice A1 n1 c1, .int .i64 e1, .bool s2, .slice A2 n2 c2, .int .i64 e2] 25)
 replace BB := bnx BB b
 have G := mv b rfl (J12 a10 a11 a12 a20 a21 a22 gp gu hT h1 h2 r)
 clear b a10 a11 a12 a20 a21 a22 gp gu hT h1 h2 r
 obtain ⟨a10, a11, a12, a20, a21, a22, gp, gu, hT, h1, h2, r⟩ := G
 refine (check_no2 hT D hd).mono ?_
 rintro en w1 ⟨rfl, b⟩
 replace BB := bnx BB b
 clear b h1 h2 D hd
 go_wp2
 exact ⟨rfl, rfl, BB⟩

theorem quot1_zero {w : World} {v : Nat} {up : Bool} {x y p : Nat} {A1 : Option Addr} {n1 c1 : Nat} {s1 : Bool} {e1 : Int} {A2 : Option Addr} {n2 c2 : Nat} {s2 : Bool} {e2 : Int} (ga : w.cell? ⟨v, 0, none⟩ = some (.bool s1) ∧ w.cell? ⟨v, 1, none⟩ = some (.slice A1 n1 c1) ∧ w.cell? ⟨v, 2, none⟩ = some (.int .i64 e1)) (gb : w.cell? ⟨(v + 1), 0, none⟩ = some (.bool s2) ∧ w.cell? ⟨(v + 1), 1, none⟩ = some (.slice A2 n2 c2) ∧ w.cell? ⟨(v + 1), 2, none⟩ = some (.int .i64 e2)) (gp : w.cell? ⟨v + 2, 0, none⟩ = some (.int .i64 (p : Int))) (gu : w.cell? ⟨v + 3, 0, none⟩ = some (.bool up)) (hT : Tab w) (h1 : Nt w A1 n1 c1 x) (h2 : Nt w A2 n2 c2 y) (hd1 : OkD s1 x e1) (hd2 : OkD s2 y e2) (hp1 : 1 ≤ p) (hp : p ≤ 2000) (hy : y = 0) :
  Calls Tryz.prog 155 #[.pointer (some ⟨v + 2, 0, none⟩), .pointer (some ⟨v, 0, none⟩), .pointer (some ⟨v + 1, 0, none⟩), .pointer (some ⟨v + 3, 0, none⟩)] w (Faults 4 w) := by
 have re := okd_ge (K := 4194304) (Nat.le_refl _) hd1
 have rf := okd_ge (K := 4194304) (Nat.le_refl _) hd2
 have r1 := re.1
 have r2 := re.2.1
 have r3 := rf.1
 have r4 := rf.2.1
 have O1 := Lib.hid hd1
 have O2 := Lib.hid hd2
 have HY := Lib.hid hy
 have bx := blen_nt h1
 have hby := blen_nt h2
 clear re rf hd1 hd2 hy
 obtain ⟨a10, a11, a12⟩ := ga
 obtain ⟨a20, a21, a22⟩ := gb
 have vl : v + 3 < w.heap.size := World.block_lt_of_cell? w _ gu
 have BB := below_alloc w (.cells #[.bool false, .slice none 0 0, .int .i64 0] 25)
 have G := mv BB rfl (J11 a10 a11 a12 a20 a21 a22 gp gu hT h1 h2)
 clear a10 a11 a12 a20 a21 a22 gp gu hT h1 h2
 obtain ⟨a10, a11, a12, a20, a21, a22, gp, gu, hT, h1, h2⟩ := G
 have r := Box.new w false none 0 0 0
 go_enter Tryz.func155, Tryz.ntmps155
 go_wp2_with fail
 have D := dys_two_at (s1 := s1) (s2 := s2) (e1 := e1) (e2 := e2) (size_one w (.cells #[.bool false, .slice none 0 0, .int .i64 0] 25)) h1.rd h2.rd
 have b := below_alloc (w.alloc (.cells #[.bool false, .slice none 0 0, .int .i64 0] 25)) (.cells #[.bool s1, .slice A1 n1 c1, .int .i64 e1, .bool s2, .slice A2 n2 c2, .int .i64 e2] 25)
 replace BB := bnx BB b
 have G := mv b rfl (J12 a10 a11 a12 a20 a21 a22 gp gu hT h1 h2 r)
 clear b a10 a11 a12 a20 a21 a22 gp gu hT h1 h2 r
 obtain ⟨a10, a11, a12, a20, a21, a22, gp, gu, hT, h1, h2, r⟩ := G
 have hall : ∀ i, i < 2 → mayD ((fun i => if i = 0 then s1 else s2) i) ((fun i => if i = 0 then dig Go.Proofs.YteagjlcmgiknmaaGreatDoor.W x else dig Go.Proofs.YteagjlcmgiknmaaGreatDoor.W y) i) ((fun i => if i = 0 then e1 else e2) i) = true := by
  intro i hi
  rcases (show i = 0 ∨ i = 1 by omega) with rfl | rfl
  ·exact mayD_ok O1.out
  ·exact mayD_ok O2.out
 refine (check_all (k := 2) hT D (by omega) hp1 hp hall).mono ?_
 rintro en w1 ⟨rfl, b⟩
 clear hall D
 replace BB := bnx BB b
 have G := mv b rfl (J12 a10 a11 a12 a20 a21 a22 gp gu hT h1 h2 r)
 clear b a10 a11 a12 a20 a21 a22 gp gu hT h1 h2 r
 obtain ⟨a10, a11, a12, a20, a21, a22, gp, gu, hT, h1, h2, r⟩ := G
 have hs : signD s2 y = 0 := by unfold signD; rw [if_pos HY.out]
 go_wp2_with fail
 refine (sign_is hT h2 O2.out hs).mono ?_
 rintro en w2 ⟨rfl, b⟩
 replace BB := bnx BB b
 have G := mv b rfl (J12 a10 a11 a12 a20 a21 a22 gp gu hT h1 h2 r)
 clear b a10 a11 a12 a20 a21 a22 gp gu hT h1 h2 r
 obtain ⟨a10, a11, a12, a20, a21, a22, gp, gu, hT, h1, h2, r⟩ := G
 go_wp2
 exact ⟨rfl, rfl, BB⟩

theorem quot1_some {w : World} {v : Nat} {up : Bool} {x y p : Nat} {A1 : Option Addr} {n1 c1 : Nat} {s1 : Bool} {e1 : Int} {A2 : Option Addr} {n2 c2 : Nat} {s2 : Bool} {e2 : Int} (ga : w.cell? ⟨v, 0, none⟩ = some (.bool s1) ∧ w.cell? ⟨v, 1, none⟩ = some (.slice A1 n1 c1) ∧ w.cell? ⟨v, 2, none⟩ = some (.int .i64 e1)) (gb : w.cell? ⟨(v + 1), 0, none⟩ = some (.bool s2) ∧ w.cell? ⟨(v + 1), 1, none⟩ = some (.slice A2 n2 c2) ∧ w.cell? ⟨(v + 1), 2, none⟩ = some (.int .i64 e2)) (gp : w.cell? ⟨v + 2, 0, none⟩ = some (.int .i64 (p : Int))) (gu : w.cell? ⟨v + 3, 0, none⟩ = some (.bool up)) (hT : Tab w) (h1 : Nt w A1 n1 c1 x) (h2 : Nt w A2 n2 c2 y) (hd1 : OkD s1 x e1) (hd2 : OkD s2 y e2) (hp1 : 1 ≤ p) (hp : p ≤ 2000) (hy : y ≠ 0) :
  Calls Tryz.prog 155 #[.pointer (some ⟨v + 2, 0, none⟩), .pointer (some ⟨v, 0, none⟩), .pointer (some ⟨v + 1, 0, none⟩), .pointer (some ⟨v + 3, 0, none⟩)] w (Ran (QuTold s1 x e1 s2 y e2 p up) w) := by
 have re := okd_ge (K := 4194304) (Nat.le_refl _) hd1
 have rf := okd_ge (K := 4194304) (Nat.le_refl _) hd2
 have r1 := re.1
 have r2 := re.2.1
 have r3 := rf.1
 have r4 := rf.2.1
 have O1 := Lib.hid hd1
 have O2 := Lib.hid hd2
 have HY := Lib.hid hy
 have bx := blen_nt h1
 have hby := blen_nt h2
 clear re rf hd1 hd2 hy
 obtain ⟨a10, a11, a12⟩ := ga
 obtain ⟨a20, a21, a22⟩ := gb
 have vl : v + 3 < w.heap.size := World.block_lt_of_cell? w _ gu
 have BB := below_alloc w (.cells #[.bool false, .slice none 0 0, .int .i64 0] 25)
 have G := mv BB rfl (J11 a10 a11 a12 a20 a21 a22 gp gu hT h1 h2)
 clear a10 a11 a12 a20 a21 a22 gp gu hT h1 h2
 obtain ⟨a10, a11, a12, a20, a21, a22, gp, gu, hT, h1, h2⟩ := G
 have r := Box.new w false none 0 0 0
 go_enter Tryz.func155, Tryz.ntmps155
 go_wp2_with fail
 have D := dys_two_at (s1 := s1) (s2 := s2) (e1 := e1) (e2 := e2) (size_one w (.cells #[.bool false, .slice none 0 0, .int .i64 0] 25)) h1.rd h2.rd
 have b := below_alloc (w.alloc (.cells #[.bool false, .slice none 0 0, .int .i64 0] 25)) (.cells #[.bool s1, .slice A1 n1 c1, .int .i64 e1, .bool s2, .slice A2 n2 c2, .int .i64 e2] 25)
 replace BB := bnx BB b
 have G := mv b rfl (J12 a10 a11 a12 a20 a21 a22 gp gu hT h1 h2 r)
 clear b a10 a11 a12 a20 a21 a22 gp gu hT h1 h2 r
 obtain ⟨a10, a11, a12, a20, a21, a22, gp, gu, hT, h1, h2, r⟩ := G
 have hall : ∀ i, i < 2 → mayD ((fun i => if i = 0 then s1 else s2) i) ((fun i => if i = 0 then dig Go.Proofs.YteagjlcmgiknmaaGreatDoor.W x else dig Go.Proofs.YteagjlcmgiknmaaGreatDoor.W y) i) ((fun i => if i = 0 then e1 else e2) i) = true := by
  intro i hi
  rcases (show i = 0 ∨ i = 1 by omega) with rfl | rfl
  ·exact mayD_ok O1.out
  ·exact mayD_ok O2.out
 refine (check_all (k := 2) hT D (by omega) hp1 hp hall).mono ?_
 rintro en w1 ⟨rfl, b⟩
 clear hall D
 replace BB := bnx BB b
 have G := mv b rfl (J12 a10 a11 a12 a20 a21 a22 gp gu hT h1 h2 r)
 clear b a10 a11 a12 a20 a21 a22 gp gu hT h1 h2 r
 obtain ⟨a10, a11, a12, a20, a21, a22, gp, gu, hT, h1, h2, r⟩ := G
 obtain ⟨z, hz, hz0⟩ : ∃ z, signD s2 y = z ∧ z ≠ 0 := ⟨_, rfl, by unfold signD; rw [if_neg HY.out]; cases s2 <;> decide⟩
 have HZ := Lib.hid hz
 have fz : (z == 0) = false := by simp [hz0]
 clear hz hz0
 go_wp2_with fail
 refine (sign_is hT h2 O2.out HZ.out).mono ?_
 rintro en w2 ⟨rfl, b⟩
 replace BB := bnx BB b
 have G := mv b rfl (J12 a10 a11 a12 a20 a21 a22 gp gu hT h1 h2 r)
 clear b a10 a11 a12 a20 a21 a22 gp gu hT h1 h2 r
 obtain ⟨a10, a11, a12, a20, a21, a22, gp, gu, hT, h1, h2, r⟩ := G
 clear HZ
 go_wp2_with fail
 refine rgn (fun w' => w'.cell? ⟨v, 0, none⟩ = some (.bool s1) ∧ w'.cell? ⟨v, 1, none⟩ = some (.slice A1 n1 c1) ∧ w'.cell? ⟨v, 2, none⟩ = some (.int .i64 e1) ∧ w'.cell? ⟨(v + 1), 0, none⟩ = some (.bool s2) ∧ w'.cell? ⟨(v + 1), 1, none⟩ = some (.slice A2 n2 c2) ∧ w'.cell? ⟨(v + 1), 2, none⟩ = some (.int .i64 e2) ∧ w'.cell? ⟨v + 2, 0, none⟩ = some (.int .i64 (p : Int)) ∧ w'.cell? ⟨v + 3, 0, none⟩ = some (.bool up)) fun hHeld0 => ?_
 refine tl 0 ?_
 refine tl 1 ?_
 refine tl 2 ?_
 refine tl 3 ?_
 refine tl 4 ?_
 refine tl 5 ?_
 refine tl 6 ?_
 refine tl 7 ?_
 refine tl 9 ?_
 refine tl 10 ?_
 refine rdy 8 fun K hK => ?_
 go_simp
 refine (quotient_round (hT.heap (by rfl)) (h1.heap (by rfl)) (h2.heap (by rfl)) HY.out hp r1 r2 r3 r4).mono ?_
 rintro en w' ⟨A4, n4, c4, rfl, h4, b⟩
 replace BB := below_next BB BB.size b (by rfl) (by rfl) (by rfl) (by rfl)
 have G := mv b (by rfl) <| And.intro a10 <| And.intro a11 <| And.intro a12 <| And.intro a20 <| And.intro a21 <| And.intro a22 <| And.intro gp <| And.intro gu <| And.intro hT <| And.intro h1 <| And.intro h2 <| r
 clear b a10 a11 a12 a20 a21 a22 gp gu hT h1 h2 r
 obtain ⟨a10, a11, a12, a20, a21, a22, gp, gu, hT, h1, h2, r⟩ := G
 refine bk hK fun hHeld1 => ?_
 clear hK K hHeld0
 try simp only [Act.put]
 refine rdy 11 fun K hK => ?_
 go_simp
 refine (cut_any (p := p) (neg := s1 != s2) (up := up) (hT.heap (by rfl)) (h4.heap (by rfl)) hp (by omega) (by omega)).mono ?_
 rintro en w' (⟨s5, A5, n5, c5, m5, e5, rfl, hP, h5, b⟩ | ⟨k, rfl, hk, hP, b⟩)
 rotate_left
 ·exact ⟨rfl, .inr ⟨k, rfl, hk, hP, below_next BB BB.size b (by rfl) (by rfl) (by rfl) (by rfl)⟩⟩
 have HP := Lib.hid hP
 clear hP h4
 replace BB := below_next BB BB.size b (by rfl) (by rfl) (by rfl) (by rfl)
 have G := mv b (by rfl) <| And.intro a10 <| And.intro a11 <| And.intro a12 <| And.intro a20 <| And.intro a21 <| And.intro a22 <| And.intro gp <| And.intro gu <| And.intro hT <| r
 clear b a10 a11 a12 a20 a21 a22 gp gu hT r
 obtain ⟨a10, a11, a12, a20, a21, a22, gp, gu, hT, r⟩ := G
 obtain ⟨f0, f1, f2⟩ := r.open
 obtain ⟨z0, z1, z2⟩ := r.held
 have ne0 : ¬ w.heap.size = v := by omega
 have ne1 : ¬ w.heap.size = v + 1 := by omega
 have ne2 : ¬ w.heap.size = v + 2 := by omega
 have ne3 : ¬ w.heap.size = v + 3 := by omega
 have nf0 : ¬ v = w.heap.size := by omega
 have nf1 : ¬ v + 1 = w.heap.size := by omega
 have nf2 : ¬ v + 2 = w.heap.size := by omega
 have nf3 : ¬ v + 3 = w.heap.size := by omega
 refine bk hK fun hHeld2 => ?_
 clear hK K hHeld1
 try simp only [Act.put]
 refine rdy 12 fun K hK => ?_
 go_simp
 refine bk hK fun hHeld3 => ?_
 clear hK K hHeld2
 try simp only [Act.put]
 refine wpAnyH_done (by kernel_rfl) ?_ _
 go_wp2
 have q := r.put s5 A5 n5 c5 e5
 have hN := h5.put3 r (.bool s5) (.slice A5 n5 c5) (.int .i64 e5)
 have HB3 := below_put3 (g := w.heap.size) BB (Nat.le_refl _) (.bool s5) (.slice A5 n5 c5) (.int .i64 e5)
 obtain ⟨z0, z1, z2⟩ := q.held
 exact bodyPost_ret (v := .agg #[.bool s5, .slice A5 n5 c5, .int .i64 e5]) (by simp [results, Tryz.results155, go_sem, z0, z1, z2]) rfl (.inl ⟨_, _, _, _, _, _, rfl, HP.out, hN, HB3⟩)

end Go.Proofs.YteagjlcmgiknmaaGreatDoor

namespace Go.Proofs.YteagjlcmgiknmaaGreatDoor
open Go.RowKit

theorem new_cell_at {w : World} {g : Nat} (hg : w.heap.size = g) (cs : Array Value) (t : TypeId) (i : Nat) : (w.alloc (.cells cs t)).cell? ⟨g, i, none⟩ = cs[i]? := by
 subst hg
 exact new_cell w cs t i
theorem box_at {w : World} {g : Nat} (hg : w.heap.size = g) (s : Bool) (A : Option Addr) (n c : Nat) (e : Int) : Box (w.alloc (.cells #[.bool s, .slice A n c, .int .i64 e] 25)) g s A n c e := by
 subst hg
 exact Box.new w s A n c e
theorem sizes_up {w : World} {o : Obj} {g : Nat} (h : w.heap.size = g) : (w.alloc o).heap.size = g + 1 := by rw [size_one, h]
theorem rquot_start (w : World) {p : Int} {up : Bool} {A1 : Option Addr} {n1 c1 : Nat} {s1 : Bool} {e1 : Int} {A2 : Option Addr} {n2 c2 : Nat} {s2 : Bool} {e2 : Int} : Below w.heap.size w (((((w.alloc (.cells #[.bool s1, .slice A1 n1 c1, .int .i64 e1] 25)).alloc (.cells #[.bool s2, .slice A2 n2 c2, .int .i64 e2] 25)).alloc (.cells #[.int .i64 p] 3)).alloc (.cells #[.bool up] 4)).alloc (.cells #[.bool false, .slice none 0 0, .int .i64 0] 25)) ∧ ((((((w.alloc (.cells #[.bool s1, .slice A1 n1 c1, .int .i64 e1] 25)).alloc (.cells #[.bool s2, .slice A2 n2 c2, .int .i64 e2] 25)).alloc (.cells #[.int .i64 p] 3)).alloc (.cells #[.bool up] 4)).alloc (.cells #[.bool false, .slice none 0 0, .int .i64 0] 25)).cell? ⟨w.heap.size, 0, none⟩ = some (.bool s1) ∧ (((((w.alloc (.cells #[.bool s1, .slice A1 n1 c1, .int .i64 e1] 25)).alloc (.cells #[.bool s2, .slice A2 n2 c2, .int .i64 e2] 25)).alloc (.cells #[.int .i64 p] 3)).alloc (.cells #[.bool up] 4)).alloc (.cells #[.bool false, .slice none 0 0, .int .i64 0] 25)).cell? ⟨w.heap.size, 1, none⟩ = some (.slice A1 n1 c1) ∧ (((((w.alloc (.cells #[.bool s1, .slice A1 n1 c1, .int .i64 e1] 25)).alloc (.cells #[.bool s2, .slice A2 n2 c2, .int .i64 e2] 25)).alloc (.cells #[.int .i64 p] 3)).alloc (.cells #[.bool up] 4)).alloc (.cells #[.bool false, .slice none 0 0, .int .i64 0] 25)).cell? ⟨w.heap.size, 2, none⟩ = some (.int .i64 e1)) ∧ ((((((w.alloc (.cells #[.bool s1, .slice A1 n1 c1, .int .i64 e1] 25)).alloc (.cells #[.bool s2, .slice A2 n2 c2, .int .i64 e2] 25)).alloc (.cells #[.int .i64 p] 3)).alloc (.cells #[.bool up] 4)).alloc (.cells #[.bool false, .slice none 0 0, .int .i64 0] 25)).cell? ⟨(w.heap.size + 1), 0, none⟩ = some (.bool s2) ∧ (((((w.alloc (.cells #[.bool s1, .slice A1 n1 c1, .int .i64 e1] 25)).alloc (.cells #[.bool s2, .slice A2 n2 c2, .int .i64 e2] 25)).alloc (.cells #[.int .i64 p] 3)).alloc (.cells #[.bool up] 4)).alloc (.cells #[.bool false, .slice none 0 0, .int .i64 0] 25)).cell? ⟨(w.heap.size + 1), 1, none⟩ = some (.slice A2 n2 c2) ∧ (((((w.alloc (.cells #[.bool s1, .slice A1 n1 c1, .int .i64 e1] 25)).alloc (.cells #[.bool s2, .slice A2 n2 c2, .int .i64 e2] 25)).alloc (.cells #[.int .i64 p] 3)).alloc (.cells #[.bool up] 4)).alloc (.cells #[.bool false, .slice none 0 0, .int .i64 0] 25)).cell? ⟨(w.heap.size + 1), 2, none⟩ = some (.int .i64 e2)) ∧ ((((((w.alloc (.cells #[.bool s1, .slice A1 n1 c1, .int .i64 e1] 25)).alloc (.cells #[.bool s2, .slice A2 n2 c2, .int .i64 e2] 25)).alloc (.cells #[.int .i64 p] 3)).alloc (.cells #[.bool up] 4)).alloc (.cells #[.bool false, .slice none 0 0, .int .i64 0] 25)).cell? ⟨w.heap.size + 2, 0, none⟩ = some (.int .i64 p)) ∧ ((((((w.alloc (.cells #[.bool s1, .slice A1 n1 c1, .int .i64 e1] 25)).alloc (.cells #[.bool s2, .slice A2 n2 c2, .int .i64 e2] 25)).alloc (.cells #[.int .i64 p] 3)).alloc (.cells #[.bool up] 4)).alloc (.cells #[.bool false, .slice none 0 0, .int .i64 0] 25)).cell? ⟨w.heap.size + 3, 0, none⟩ = some (.bool up)) ∧ (Box (((((w.alloc (.cells #[.bool s1, .slice A1 n1 c1, .int .i64 e1] 25)).alloc (.cells #[.bool s2, .slice A2 n2 c2, .int .i64 e2] 25)).alloc (.cells #[.int .i64 p] 3)).alloc (.cells #[.bool up] 4)).alloc (.cells #[.bool false, .slice none 0 0, .int .i64 0] 25)) (w.heap.size + 4) false none 0 0 0) := by
 have z0 : w.heap.size = w.heap.size := rfl
 have b := below_alloc w (.cells #[.bool s1, .slice A1 n1 c1, .int .i64 e1] 25)
 have a10 : (w.alloc (.cells #[.bool s1, .slice A1 n1 c1, .int .i64 e1] 25)).cell? ⟨w.heap.size, 0, none⟩ = some (.bool s1) := new_cell_at z0 _ _ 0
 have a11 : (w.alloc (.cells #[.bool s1, .slice A1 n1 c1, .int .i64 e1] 25)).cell? ⟨w.heap.size, 1, none⟩ = some (.slice A1 n1 c1) := new_cell_at z0 _ _ 1
 have a12 : (w.alloc (.cells #[.bool s1, .slice A1 n1 c1, .int .i64 e1] 25)).cell? ⟨w.heap.size, 2, none⟩ = some (.int .i64 e1) := new_cell_at z0 _ _ 2
 have z1 := sizes_up (o := (.cells #[.bool s1, .slice A1 n1 c1, .int .i64 e1] 25)) z0
 have BB := b
 clear b
 have b := below_alloc (w.alloc (.cells #[.bool s1, .slice A1 n1 c1, .int .i64 e1] 25)) (.cells #[.bool s2, .slice A2 n2 c2, .int .i64 e2] 25)
 have a20 : ((w.alloc (.cells #[.bool s1, .slice A1 n1 c1, .int .i64 e1] 25)).alloc (.cells #[.bool s2, .slice A2 n2 c2, .int .i64 e2] 25)).cell? ⟨w.heap.size + 1, 0, none⟩ = some (.bool s2) := new_cell_at z1 _ _ 0
 have a21 : ((w.alloc (.cells #[.bool s1, .slice A1 n1 c1, .int .i64 e1] 25)).alloc (.cells #[.bool s2, .slice A2 n2 c2, .int .i64 e2] 25)).cell? ⟨w.heap.size + 1, 1, none⟩ = some (.slice A2 n2 c2) := new_cell_at z1 _ _ 1
 have a22 : ((w.alloc (.cells #[.bool s1, .slice A1 n1 c1, .int .i64 e1] 25)).alloc (.cells #[.bool s2, .slice A2 n2 c2, .int .i64 e2] 25)).cell? ⟨w.heap.size + 1, 2, none⟩ = some (.int .i64 e2) := new_cell_at z1 _ _ 2
 have z2 := sizes_up (o := (.cells #[.bool s2, .slice A2 n2 c2, .int .i64 e2] 25)) z1
 replace BB := BB.trans (b.mono (by omega))
 have G := mv b rfl (J3 a10 a11 a12)
 clear a10 a11 a12
 obtain ⟨a10, a11, a12⟩ := G
 clear b
 have b := below_alloc ((w.alloc (.cells #[.bool s1, .slice A1 n1 c1, .int .i64 e1] 25)).alloc (.cells #[.bool s2, .slice A2 n2 c2, .int .i64 e2] 25)) (.cells #[.int .i64 p] 3)
 have gp : (((w.alloc (.cells #[.bool s1, .slice A1 n1 c1, .int .i64 e1] 25)).alloc (.cells #[.bool s2, .slice A2 n2 c2, .int .i64 e2] 25)).alloc (.cells #[.int .i64 p] 3)).cell? ⟨w.heap.size + 2, 0, none⟩ = some (.int .i64 p) := new_cell_at z2 _ _ 0
 have z3 := sizes_up (o := (.cells #[.int .i64 p] 3)) z2
 replace BB := BB.trans (b.mono (by omega))
 have G := mv b rfl (J6 a10 a11 a12 a20 a21 a22)
 clear a10 a11 a12 a20 a21 a22
 obtain ⟨a10, a11, a12, a20, a21, a22⟩ := G
 clear b
 have b := below_alloc (((w.alloc (.cells #[.bool s1, .slice A1 n1 c1, .int .i64 e1] 25)).alloc (.cells #[.bool s2, .slice A2 n2 c2, .int .i64 e2] 25)).alloc (.cells #[.int .i64 p] 3)) (.cells #[.bool up] 4)
 have gu : ((((w.alloc (.cells #[.bool s1, .slice A1 n1 c1, .int .i64 e1] 25)).alloc (.cells #[.bool s2, .slice A2 n2 c2, .int .i64 e2] 25)).alloc (.cells #[.int .i64 p] 3)).alloc (.cells #[.bool up] 4)).cell? ⟨w.heap.size + 3, 0, none⟩ = some (.bool up) := new_cell_at z3 _ _ 0
 have z4 := sizes_up (o := (.cells #[.bool up] 4)) z3
 replace BB := BB.trans (b.mono (by omega))
 have G := mv b rfl (J7 a10 a11 a12 a20 a21 a22 gp)
 clear a10 a11 a12 a20 a21 a22 gp
 obtain ⟨a10, a11, a12, a20, a21, a22, gp⟩ := G
 clear b
 have b := below_alloc ((((w.alloc (.cells #[.bool s1, .slice A1 n1 c1, .int .i64 e1] 25)).alloc (.cells #[.bool s2, .slice A2 n2 c2, .int .i64 e2] 25)).alloc (.cells #[.int .i64 p] 3)).alloc (.cells #[.bool up] 4)) (.cells #[.bool false, .slice none 0 0, .int .i64 0] 25)
 have r := box_at z4 false none 0 0 0
 have z5 := sizes_up (o := (.cells #[.bool false, .slice none 0 0, .int .i64 0] 25)) z4
 replace BB := BB.trans (b.mono (by omega))
 have G := mv b rfl (J8 a10 a11 a12 a20 a21 a22 gp gu)
 clear a10 a11 a12 a20 a21 a22 gp gu
 obtain ⟨a10, a11, a12, a20, a21, a22, gp, gu⟩ := G
 clear b
 exact ⟨BB, ⟨a10, a11, a12⟩, ⟨a20, a21, a22⟩, gp, gu, r⟩
theorem face_quot {P : Int → Bool → Nat → Int → Prop} {w : World} {p : Int} {up : Bool} {A1 : Option Addr} {n1 c1 : Nat} {s1 : Bool} {e1 : Int} {A2 : Option Addr} {n2 c2 : Nat} {s2 : Bool} {e2 : Int}
  (hc : ∀ W2 : World, Below w.heap.size w W2 → (W2.cell? ⟨w.heap.size, 0, none⟩ = some (.bool s1) ∧ W2.cell? ⟨w.heap.size, 1, none⟩ = some (.slice A1 n1 c1) ∧ W2.cell? ⟨w.heap.size, 2, none⟩ = some (.int .i64 e1)) → (W2.cell? ⟨(w.heap.size + 1), 0, none⟩ = some (.bool s2) ∧ W2.cell? ⟨(w.heap.size + 1), 1, none⟩ = some (.slice A2 n2 c2) ∧ W2.cell? ⟨(w.heap.size + 1), 2, none⟩ = some (.int .i64 e2)) → W2.cell? ⟨w.heap.size + 2, 0, none⟩ = some (.int .i64 p) → W2.cell? ⟨w.heap.size + 3, 0, none⟩ = some (.bool up) → Calls Tryz.prog 155 #[.pointer (some ⟨w.heap.size + 2, 0, none⟩), .pointer (some ⟨w.heap.size, 0, none⟩), .pointer (some ⟨w.heap.size + 1, 0, none⟩), .pointer (some ⟨w.heap.size + 3, 0, none⟩)] W2 (Ran P W2)) :
  Calls Tryz.prog 130 #[.agg #[.bool s1, .slice A1 n1 c1, .int .i64 e1], .agg #[.bool s2, .slice A2 n2 c2, .int .i64 e2], .int .i64 p, .bool up] w (Tells P w) := by
 have HC := Lib.hid hc
 clear hc
 have hmf := make_func
 obtain ⟨BB, ⟨a10, a11, a12⟩, ⟨a20, a21, a22⟩, gp, gu, r⟩ := rquot_start w (p := p) (up := up) (s1 := s1) (A1 := A1) (n1 := n1) (c1 := c1) (e1 := e1) (s2 := s2) (A2 := A2) (n2 := n2) (c2 := c2) (e2 := e2)
 go_enter Tryz.func130, Tryz.ntmps130
 go_wp2_with fail
 refine (told_face (P := P) (fun _ => by kernel_rfl) (fun W2 h2 => ?_)).mono ?_
 ·subst h2
  have b := two_below (((((w.alloc (.cells #[.bool s1, .slice A1 n1 c1, .int .i64 e1] 25)).alloc (.cells #[.bool s2, .slice A2 n2 c2, .int .i64 e2] 25)).alloc (.cells #[.int .i64 p] 3)).alloc (.cells #[.bool up] 4)).alloc (.cells #[.bool false, .slice none 0 0, .int .i64 0] 25)) (.cells #[.bool false, .slice none 0 0, .int .i64 0] 25) (.cells #[.int .i64 0] 3)
  have B2 := bnx BB b
  have G := mv b rfl (J9 a10 a11 a12 a20 a21 a22 gp gu r)
  clear a10 a11 a12 a20 a21 a22 gp gu r
  obtain ⟨a10, a11, a12, a20, a21, a22, gp, gu, r⟩ := G
  exact HC.out _ B2 ⟨a10, a11, a12⟩ ⟨a20, a21, a22⟩ gp gu
 rintro en w5 ⟨k, s', A5, n5, c5, m', e', rfl, hP, h5, b⟩
 have HP := Lib.hid hP
 replace r := r.next b rfl
 replace BB := bnx BB b
 obtain ⟨f0, f1, f2⟩ := r.open
 obtain ⟨z0, z1, z2⟩ := r.held
 clear b hP HC a10 a11 a12 a20 a21 a22 gp gu
 go_wp2
 have q := r.put s' A5 n5 c5 e'
 have hN5 := h5.put3 r (.bool s') (.slice A5 n5 c5) (.int .i64 e')
 have HB3 := below_put3 (g := w.heap.size + 4) BB (by omega) (.bool s') (.slice A5 n5 c5) (.int .i64 e')
 obtain ⟨z0, z1, z2⟩ := q.held
 exact bodyPost_ret (v := .tuple #[.agg #[.bool s', .slice A5 n5 c5, .int .i64 e'], .int .i64 k]) (by simp [results, Tryz.results130, go_sem, z0, z1, z2]) rfl ⟨_, _, _, _, _, _, _, rfl, HP.out, hN5, HB3⟩

theorem rquot_ok {w : World} {x y p : Nat} {up : Bool} {A1 : Option Addr} {n1 c1 : Nat} {s1 : Bool} {e1 : Int} {A2 : Option Addr} {n2 c2 : Nat} {s2 : Bool} {e2 : Int} (hT : Tab w) (h1 : Nt w A1 n1 c1 x) (h2 : Nt w A2 n2 c2 y) (hd1 : OkD s1 x e1) (hd2 : OkD s2 y e2) (hp1 : 1 ≤ p) (hp : p ≤ 2000) (hy : y ≠ 0) : Calls Tryz.prog 130 #[.agg #[.bool s1, .slice A1 n1 c1, .int .i64 e1], .agg #[.bool s2, .slice A2 n2 c2, .int .i64 e2], .int .i64 (p : Int), .bool up] w (Tells (QuTold s1 x e1 s2 y e2 p up) w) :=
 face_quot fun _ b ga gb gp gu => quot1_some ga gb gp gu (hT.below b) (h1.below b) (h2.below b) hd1 hd2 hp1 hp hy
theorem rquot_zero {w : World} {x y p : Nat} {up : Bool} {A1 : Option Addr} {n1 c1 : Nat} {s1 : Bool} {e1 : Int} {A2 : Option Addr} {n2 c2 : Nat} {s2 : Bool} {e2 : Int} (hT : Tab w) (h1 : Nt w A1 n1 c1 x) (h2 : Nt w A2 n2 c2 y) (hd1 : OkD s1 x e1) (hd2 : OkD s2 y e2) (hp1 : 1 ≤ p) (hp : p ≤ 2000) (hy : y = 0) : Calls Tryz.prog 130 #[.agg #[.bool s1, .slice A1 n1 c1, .int .i64 e1], .agg #[.bool s2, .slice A2 n2 c2, .int .i64 e2], .int .i64 (p : Int), .bool up] w (Tells Outside w) :=
 face_quot fun _ b ga gb gp gu => (quot1_zero ga gb gp gu (hT.below b) (h1.below b) (h2.below b) hd1 hd2 hp1 hp hy).mono fun _ _ hg => ran_fault hg (by decide) ⟨rfl, rfl, rfl, rfl⟩
theorem rquot_no {w : World} {p : Int} {up : Bool} {l1 l2 : List Nat} {A1 : Option Addr} {n1 c1 : Nat} {s1 : Bool} {e1 : Int} {A2 : Option Addr} {n2 c2 : Nat} {s2 : Bool} {e2 : Int} (hT : Tab w) (h1 : Rd w .u64 W A1 n1 c1 l1) (h2 : Rd w .u64 W A2 n2 c2 l2) (hd : p < 1 ∨ 2000 < p ∨ (mayD s1 l1 e1 && mayD s2 l2 e2) = false) : Calls Tryz.prog 130 #[.agg #[.bool s1, .slice A1 n1 c1, .int .i64 e1], .agg #[.bool s2, .slice A2 n2 c2, .int .i64 e2], .int .i64 p, .bool up] w (Tells Wrong w) :=
 face_quot fun _ b ga gb gp gu => (quot1_no ga gb gp gu (hT.below b) (h1.below b) (h2.below b) hd).mono fun _ _ hg => ran_fault hg (by decide) ⟨rfl, rfl, rfl, rfl⟩
end Go.Proofs.YteagjlcmgiknmaaGreatDoor

namespace Go.Proofs.YteagjlcmgiknmaaGreatDoor
open Go.RowKit

theorem okd_small {m : Nat} {e : Int} (h1 : m % 2 = 1) (h2 : m < 100) (h3 : -1048576 ≤ e) (h4 : e ≤ 1048576) : OkD false m e := .inr ⟨h1, small64 h2, h3, h4⟩
theorem nm_small {q k : Nat} {e f : Int} (hq : 2 * q + 1 < 100) (he : e + (k : Int) = f) (h3 : -1048576 ≤ f) (h4 : f ≤ 1048576) : Nm false (2 ^ k * (2 * q + 1)) e 0 false (2 * q + 1) f :=
 .inr ⟨k, q, rfl, .inr (.inr ⟨small64 hq, by omega, rfl, rfl, rfl, he.symm⟩)⟩
end Go.Proofs.YteagjlcmgiknmaaGreatDoor
