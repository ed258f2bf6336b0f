/-
 Contracts of tape's below, bare, mayLine, at this translation. Condition: the slices read as limbs, the table of math/bits reads as its text lays it.
-/
import Derived.Test.YteagjlcmgiknmaaGreatDoorQTb
import Derived.Test.YteagjlcmgiknmaaGreatDoorQIc
set_option maxHeartbeats 8000000
set_option maxRecDepth 100000
namespace Go.Proofs.YteagjlcmgiknmaaGreatDoor
open Go.RowKit

theorem tbelow_at {w : World} {k n : Int} : Calls Tryz.prog 41 #[.int .i64 k, .int .i64 n] w (fun en w' => en = .returned (.bool (belowB k n)) ∧ w' = w) := by
 unfold belowB
 by_cases h1 : 0 ≤ k
 ·by_cases h2 : k < n
  ·rw [decide_eq_true h1, decide_eq_true h2]
   go_enter Tryz.func41, Tryz.ntmps41
   go_wp2
   go_ret
   exact ⟨by first | rfl | simp, rfl⟩
  ·rw [decide_eq_true h1, decide_eq_false h2]
   go_enter Tryz.func41, Tryz.ntmps41
   go_wp2
   go_ret
   exact ⟨by first | rfl | simp, rfl⟩
 ·rw [decide_eq_false h1]
  go_enter Tryz.func41, Tryz.ntmps41
  go_wp2
  go_ret
  exact ⟨by first | rfl | simp, rfl⟩
theorem tbelow_any {w : World} {k n : Int} : Calls Tryz.prog 41 #[.int .i64 k, .int .i64 n] w (Bools (belowB k n) w) := tbelow_at.mono fun _ _ ⟨h, e⟩ => ⟨h, e ▸ Below.refl _ _⟩

theorem tm_start {w : World} {op a b : Int} {k : Iv} {A1 : Option Addr} {n1 c1 : Nat} {A2 : Option Addr} {n2 c2 : Nat} (hT : Tab w) (h1 : Rd w .u64 Go.Proofs.YteagjlcmgiknmaaGreatDoor.W A1 n1 c1 k.lo.l) (h2 : Rd w .u64 Go.Proofs.YteagjlcmgiknmaaGreatDoor.W A2 n2 c2 k.hi.l) :
  (fun wx : World => Below w.heap.size w wx ∧ Tab wx ∧ Rd wx .u64 Go.Proofs.YteagjlcmgiknmaaGreatDoor.W A1 n1 c1 k.lo.l ∧ Rd wx .u64 Go.Proofs.YteagjlcmgiknmaaGreatDoor.W A2 n2 c2 k.hi.l ∧ wx.cell? ⟨w.heap.size, 0, none⟩ = some (.int .i64 op) ∧ wx.cell? ⟨w.heap.size, 1, none⟩ = some (.int .i64 a) ∧ wx.cell? ⟨w.heap.size, 2, none⟩ = some (.int .i64 b) ∧ wx.cell? ⟨w.heap.size, 3, none⟩ = some (.bool k.lo.s) ∧ wx.cell? ⟨w.heap.size, 4, none⟩ = some (.slice A1 n1 c1) ∧ wx.cell? ⟨w.heap.size, 5, none⟩ = some (.int .i64 k.lo.e) ∧ wx.cell? ⟨w.heap.size, 6, none⟩ = some (.bool k.hi.s) ∧ wx.cell? ⟨w.heap.size, 7, none⟩ = some (.slice A2 n2 c2) ∧ wx.cell? ⟨w.heap.size, 8, none⟩ = some (.int .i64 k.hi.e)) (w.alloc (.cells #[.int .i64 op, .int .i64 a, .int .i64 b, .bool k.lo.s, .slice A1 n1 c1, .int .i64 k.lo.e, .bool k.hi.s, .slice A2 n2 c2, .int .i64 k.hi.e] 31)) := by
 have BB := below_alloc w (.cells #[.int .i64 op, .int .i64 a, .int .i64 b, .bool k.lo.s, .slice A1 n1 c1, .int .i64 k.lo.e, .bool k.hi.s, .slice A2 n2 c2, .int .i64 k.hi.e] 31)
 have xl := Blk.new w #[.int .i64 op, .int .i64 a, .int .i64 b, .bool k.lo.s, .slice A1 n1 c1, .int .i64 k.lo.e, .bool k.hi.s, .slice A2 n2 c2, .int .i64 k.hi.e] 31
 have G := mv BB rfl (J3 hT h1 h2)
 clear hT h1 h2
 obtain ⟨hT, h1, h2⟩ := G
 exact ⟨BB, hT, h1, h2, xl.at 0, xl.at 1, xl.at 2, xl.at 3, xl.at 4, xl.at 5, xl.at 6, xl.at 7, xl.at 8⟩

theorem tbare_any {w : World} {op a b : Int} {k : Iv} {A1 : Option Addr} {n1 c1 : Nat} {A2 : Option Addr} {n2 c2 : Nat} (h1 : Rd w .u64 Go.Proofs.YteagjlcmgiknmaaGreatDoor.W A1 n1 c1 k.lo.l) (h2 : Rd w .u64 Go.Proofs.YteagjlcmgiknmaaGreatDoor.W A2 n2 c2 k.hi.l) :
  Calls Tryz.prog 70 #[.agg #[.int .i64 op, .int .i64 a, .int .i64 b, .bool k.lo.s, .slice A1 n1 c1, .int .i64 k.lo.e, .bool k.hi.s, .slice A2 n2 c2, .int .i64 k.hi.e]] w (Bools (bareB ⟨op, a, b, k⟩) w) := by
 have BB := below_alloc w (.cells #[.int .i64 op, .int .i64 a, .int .i64 b, .bool k.lo.s, .slice A1 n1 c1, .int .i64 k.lo.e, .bool k.hi.s, .slice A2 n2 c2, .int .i64 k.hi.e] 31)
 have xl := Blk.new w #[.int .i64 op, .int .i64 a, .int .i64 b, .bool k.lo.s, .slice A1 n1 c1, .int .i64 k.lo.e, .bool k.hi.s, .slice A2 n2 c2, .int .i64 k.hi.e] 31
 have m0 : World.cell? _ ⟨_, 0, none⟩ = some (.int .i64 op) := xl.at 0
 have m1 : World.cell? _ ⟨_, 1, none⟩ = some (.int .i64 a) := xl.at 1
 have m2 : World.cell? _ ⟨_, 2, none⟩ = some (.int .i64 b) := xl.at 2
 have m3 : World.cell? _ ⟨_, 3, none⟩ = some (.bool k.lo.s) := xl.at 3
 have m4 : World.cell? _ ⟨_, 4, none⟩ = some (.slice A1 n1 c1) := xl.at 4
 have m5 : World.cell? _ ⟨_, 5, none⟩ = some (.int .i64 k.lo.e) := xl.at 5
 have m6 : World.cell? _ ⟨_, 6, none⟩ = some (.bool k.hi.s) := xl.at 6
 have m7 : World.cell? _ ⟨_, 7, none⟩ = some (.slice A2 n2 c2) := xl.at 7
 have m8 : World.cell? _ ⟨_, 8, none⟩ = some (.int .i64 k.hi.e) := xl.at 8
 have G := mv BB rfl <| And.intro h1 <| h2
 clear h1 h2
 obtain ⟨h1, h2⟩ := G
 have z1 : Rd (w.alloc (.cells #[.int .i64 op, .int .i64 a, .int .i64 b, .bool k.lo.s, .slice A1 n1 c1, .int .i64 k.lo.e, .bool k.hi.s, .slice A2 n2 c2, .int .i64 k.hi.e] 31)) .u64 Go.Proofs.YteagjlcmgiknmaaGreatDoor.W none 0 0 Iv.zero.lo.l := Rd.nil _ _ _ _ (by decide)
 have z2 : Rd (w.alloc (.cells #[.int .i64 op, .int .i64 a, .int .i64 b, .bool k.lo.s, .slice A1 n1 c1, .int .i64 k.lo.e, .bool k.hi.s, .slice A2 n2 c2, .int .i64 k.hi.e] 31)) .u64 Go.Proofs.YteagjlcmgiknmaaGreatDoor.W none 0 0 Iv.zero.hi.l := Rd.nil _ _ _ _ (by decide)
 go_enter Tryz.func70, Tryz.ntmps70
 go_wp2_with fail
 refine (isame_any (x := k) (y := Iv.zero) h1 h2 z1 z2).mono ?_
 rintro en w2 ⟨rfl, b⟩
 replace BB := bnx BB b
 clear b
 go_wp2
 go_ret
 exact ⟨by first | rfl | simp, BB⟩

theorem tmay_1 {w : World} {K : Nat} {a b i x u p : Int} {k : Iv} {A1 : Option Addr} {n1 c1 : Nat} {A2 : Option Addr} {n2 c2 : Nat} (hK : 4194304 ≤ K) (hT : Tab w) (h1 : Rd w .u64 Go.Proofs.YteagjlcmgiknmaaGreatDoor.W A1 n1 c1 k.lo.l) (h2 : Rd w .u64 Go.Proofs.YteagjlcmgiknmaaGreatDoor.W A2 n2 c2 k.hi.l) :
  Calls Tryz.prog 40 #[.agg #[.int .i64 1, .int .i64 a, .int .i64 b, .bool k.lo.s, .slice A1 n1 c1, .int .i64 k.lo.e, .bool k.hi.s, .slice A2 n2 c2, .int .i64 k.hi.e], .int .i64 i, .int .i64 x, .int .i64 u, .int .i64 p] w (Bools (mayLn K ⟨1, a, b, k⟩ i x u p) w) := by
 have G := tm_start (op := 1) (a := a) (b := b) hT h1 h2
 clear hT h1 h2
 obtain ⟨BB, hT, h1, h2, m0, m1, m2, m3, m4, m5, m6, m7, m8⟩ := G
 obtain ⟨q, hq⟩ : ∃ q, q = mayLn K ⟨1, a, b, k⟩ i x u p := ⟨_, rfl⟩
 rw [← hq]
 have HQ := Lib.hid hq
 clear hq
 go_enter Tryz.func40, Tryz.ntmps40
 go_wp2_with fail
 refine (imay_any (x := k) hK hT h1 h2).mono ?_
 rintro en w1 ⟨rfl, b⟩
 replace BB := bnx BB b
 have G := mv b rfl (J12 hT h1 h2 m0 m1 m2 m3 m4 m5 m6 m7 m8)
 clear b hT h1 h2 m0 m1 m2 m3 m4 m5 m6 m7 m8
 obtain ⟨hT, h1, h2, m0, m1, m2, m3, m4, m5, m6, m7, m8⟩ := G
 cases hc0 : mayI K k
 ·skip
  go_wp2
  go_ret
  refine ⟨?_, BB⟩
  have hqq : q = false := by rw [HQ.out]; simp [mayLn, hc0]
  rw [hqq]; first | rfl | (simp; done) | (simp; assumption)
 ·skip
  by_cases ha0 : a = 0
  ·subst ha0
   by_cases hb0 : b = 0
   ·subst hb0
    go_wp2
    go_ret
    refine ⟨?_, BB⟩
    have hqq : q = true := by rw [HQ.out]; simp [mayLn, hc0]
    rw [hqq]; first | rfl | (simp; done) | (simp; assumption)
   ·skip
    go_wp2
    go_ret
    refine ⟨?_, BB⟩
    have hqq : q = false := by rw [HQ.out]; simp [mayLn, hc0, hb0]
    rw [hqq]; first | rfl | (simp; done) | (simp; assumption)
  ·skip
   go_wp2
   go_ret
   refine ⟨?_, BB⟩
   have hqq : q = false := by rw [HQ.out]; simp [mayLn, hc0, ha0]
   rw [hqq]; first | rfl | (simp; done) | (simp; assumption)

theorem tmay_2 {w : World} {K : Nat} {a b i x u p : Int} {k : Iv} {A1 : Option Addr} {n1 c1 : Nat} {A2 : Option Addr} {n2 c2 : Nat} (_hK : 4194304 ≤ K) (hT : Tab w) (h1 : Rd w .u64 Go.Proofs.YteagjlcmgiknmaaGreatDoor.W A1 n1 c1 k.lo.l) (h2 : Rd w .u64 Go.Proofs.YteagjlcmgiknmaaGreatDoor.W A2 n2 c2 k.hi.l) :
  Calls Tryz.prog 40 #[.agg #[.int .i64 2, .int .i64 a, .int .i64 b, .bool k.lo.s, .slice A1 n1 c1, .int .i64 k.lo.e, .bool k.hi.s, .slice A2 n2 c2, .int .i64 k.hi.e], .int .i64 i, .int .i64 x, .int .i64 u, .int .i64 p] w (Bools (mayLn K ⟨2, a, b, k⟩ i x u p) w) := by
 have G := tm_start (op := 2) (a := a) (b := b) hT h1 h2
 clear hT h1 h2
 obtain ⟨BB, hT, h1, h2, m0, m1, m2, m3, m4, m5, m6, m7, m8⟩ := G
 obtain ⟨q, hq⟩ : ∃ q, q = mayLn K ⟨2, a, b, k⟩ i x u p := ⟨_, rfl⟩
 rw [← hq]
 have HQ := Lib.hid hq
 clear hq
 go_enter Tryz.func40, Tryz.ntmps40
 by_cases ha0 : a = 0
 ·subst ha0
  by_cases hb0 : b = 0
  ·subst hb0
   go_wp2_with fail
   refine (tbare_any (op := 2) (a := 0) (b := 0) (k := k) h1 h2).mono ?_
   rintro en w1 ⟨rfl, b⟩
   replace BB := bnx BB b
   have G := mv b rfl (J12 hT h1 h2 m0 m1 m2 m3 m4 m5 m6 m7 m8)
   clear b hT h1 h2 m0 m1 m2 m3 m4 m5 m6 m7 m8
   obtain ⟨hT, h1, h2, m0, m1, m2, m3, m4, m5, m6, m7, m8⟩ := G
   cases hc0 : bareB ⟨2, 0, 0, k⟩
   ·skip
    go_wp2
    go_ret
    refine ⟨?_, BB⟩
    have hqq : q = false := by rw [HQ.out]; simp [mayLn, hc0]
    rw [hqq]; first | rfl | (simp; done) | (simp; assumption)
   ·skip
    go_wp2
    go_ret
    refine ⟨?_, BB⟩
    have hqq : q = true := by rw [HQ.out]; simp [mayLn, hc0]
    rw [hqq]; first | rfl | (simp; done) | (simp; assumption)
  ·skip
   go_wp2
   go_ret
   refine ⟨?_, BB⟩
   have hqq : q = false := by rw [HQ.out]; simp [mayLn, hb0]
   rw [hqq]; first | rfl | (simp; done) | (simp; assumption)
 ·skip
  go_wp2
  go_ret
  refine ⟨?_, BB⟩
  have hqq : q = false := by rw [HQ.out]; simp [mayLn, ha0]
  rw [hqq]; first | rfl | (simp; done) | (simp; assumption)

theorem tmay_3 {w : World} {K : Nat} {a b i x u p : Int} {k : Iv} {A1 : Option Addr} {n1 c1 : Nat} {A2 : Option Addr} {n2 c2 : Nat} (_hK : 4194304 ≤ K) (hT : Tab w) (h1 : Rd w .u64 Go.Proofs.YteagjlcmgiknmaaGreatDoor.W A1 n1 c1 k.lo.l) (h2 : Rd w .u64 Go.Proofs.YteagjlcmgiknmaaGreatDoor.W A2 n2 c2 k.hi.l) :
  Calls Tryz.prog 40 #[.agg #[.int .i64 3, .int .i64 a, .int .i64 b, .bool k.lo.s, .slice A1 n1 c1, .int .i64 k.lo.e, .bool k.hi.s, .slice A2 n2 c2, .int .i64 k.hi.e], .int .i64 i, .int .i64 x, .int .i64 u, .int .i64 p] w (Bools (mayLn K ⟨3, a, b, k⟩ i x u p) w) := by
 have G := tm_start (op := 3) (a := a) (b := b) hT h1 h2
 clear hT h1 h2
 obtain ⟨BB, hT, h1, h2, m0, m1, m2, m3, m4, m5, m6, m7, m8⟩ := G
 obtain ⟨q, hq⟩ : ∃ q, q = mayLn K ⟨3, a, b, k⟩ i x u p := ⟨_, rfl⟩
 rw [← hq]
 have HQ := Lib.hid hq
 clear hq
 go_enter Tryz.func40, Tryz.ntmps40
 go_wp2_with fail
 refine (tbelow_any (k := a) (n := x)).mono ?_
 rintro en w1 ⟨rfl, b⟩
 replace BB := bnx BB b
 have G := mv b rfl (J12 hT h1 h2 m0 m1 m2 m3 m4 m5 m6 m7 m8)
 clear b hT h1 h2 m0 m1 m2 m3 m4 m5 m6 m7 m8
 obtain ⟨hT, h1, h2, m0, m1, m2, m3, m4, m5, m6, m7, m8⟩ := G
 cases hc0 : belowB a x
 ·skip
  go_wp2
  go_ret
  refine ⟨?_, BB⟩
  have hqq : q = false := by rw [HQ.out]; simp [mayLn, hc0]
  rw [hqq]; first | rfl | (simp; done) | (simp; assumption)
 ·skip
  by_cases hb0 : b = 0
  ·subst hb0
   go_wp2_with fail
   refine (tbare_any (op := 3) (a := a) (b := 0) (k := k) h1 h2).mono ?_
   rintro en w2 ⟨rfl, b⟩
   replace BB := bnx BB b
   have G := mv b rfl (J12 hT h1 h2 m0 m1 m2 m3 m4 m5 m6 m7 m8)
   clear b hT h1 h2 m0 m1 m2 m3 m4 m5 m6 m7 m8
   obtain ⟨hT, h1, h2, m0, m1, m2, m3, m4, m5, m6, m7, m8⟩ := G
   cases hc1 : bareB ⟨3, a, 0, k⟩
   ·skip
    go_wp2
    go_ret
    refine ⟨?_, BB⟩
    have hqq : q = false := by rw [HQ.out]; simp [mayLn, hc0, hc1]
    rw [hqq]; first | rfl | (simp; done) | (simp; assumption)
   ·skip
    go_wp2
    go_ret
    refine ⟨?_, BB⟩
    have hqq : q = true := by rw [HQ.out]; simp [mayLn, hc0, hc1]
    rw [hqq]; first | rfl | (simp; done) | (simp; assumption)
  ·skip
   go_wp2
   go_ret
   refine ⟨?_, BB⟩
   have hqq : q = false := by rw [HQ.out]; simp [mayLn, hc0, hb0]
   rw [hqq]; first | rfl | (simp; done) | (simp; assumption)

theorem tmay_4 {w : World} {K : Nat} {a b i x u p : Int} {k : Iv} {A1 : Option Addr} {n1 c1 : Nat} {A2 : Option Addr} {n2 c2 : Nat} (_hK : 4194304 ≤ K) (hT : Tab w) (h1 : Rd w .u64 Go.Proofs.YteagjlcmgiknmaaGreatDoor.W A1 n1 c1 k.lo.l) (h2 : Rd w .u64 Go.Proofs.YteagjlcmgiknmaaGreatDoor.W A2 n2 c2 k.hi.l) :
  Calls Tryz.prog 40 #[.agg #[.int .i64 4, .int .i64 a, .int .i64 b, .bool k.lo.s, .slice A1 n1 c1, .int .i64 k.lo.e, .bool k.hi.s, .slice A2 n2 c2, .int .i64 k.hi.e], .int .i64 i, .int .i64 x, .int .i64 u, .int .i64 p] w (Bools (mayLn K ⟨4, a, b, k⟩ i x u p) w) := by
 have G := tm_start (op := 4) (a := a) (b := b) hT h1 h2
 clear hT h1 h2
 obtain ⟨BB, hT, h1, h2, m0, m1, m2, m3, m4, m5, m6, m7, m8⟩ := G
 obtain ⟨q, hq⟩ : ∃ q, q = mayLn K ⟨4, a, b, k⟩ i x u p := ⟨_, rfl⟩
 rw [← hq]
 have HQ := Lib.hid hq
 clear hq
 go_enter Tryz.func40, Tryz.ntmps40
 go_wp2_with fail
 refine (tbelow_any (k := a) (n := u)).mono ?_
 rintro en w1 ⟨rfl, b⟩
 replace BB := bnx BB b
 have G := mv b rfl (J12 hT h1 h2 m0 m1 m2 m3 m4 m5 m6 m7 m8)
 clear b hT h1 h2 m0 m1 m2 m3 m4 m5 m6 m7 m8
 obtain ⟨hT, h1, h2, m0, m1, m2, m3, m4, m5, m6, m7, m8⟩ := G
 cases hc0 : belowB a u
 ·skip
  go_wp2
  go_ret
  refine ⟨?_, BB⟩
  have hqq : q = false := by rw [HQ.out]; simp [mayLn, hc0]
  rw [hqq]; first | rfl | (simp; done) | (simp; assumption)
 ·skip
  by_cases hb0 : b = 0
  ·subst hb0
   go_wp2_with fail
   refine (tbare_any (op := 4) (a := a) (b := 0) (k := k) h1 h2).mono ?_
   rintro en w2 ⟨rfl, b⟩
   replace BB := bnx BB b
   have G := mv b rfl (J12 hT h1 h2 m0 m1 m2 m3 m4 m5 m6 m7 m8)
   clear b hT h1 h2 m0 m1 m2 m3 m4 m5 m6 m7 m8
   obtain ⟨hT, h1, h2, m0, m1, m2, m3, m4, m5, m6, m7, m8⟩ := G
   cases hc1 : bareB ⟨4, a, 0, k⟩
   ·skip
    go_wp2
    go_ret
    refine ⟨?_, BB⟩
    have hqq : q = false := by rw [HQ.out]; simp [mayLn, hc0, hc1]
    rw [hqq]; first | rfl | (simp; done) | (simp; assumption)
   ·skip
    go_wp2
    go_ret
    refine ⟨?_, BB⟩
    have hqq : q = true := by rw [HQ.out]; simp [mayLn, hc0, hc1]
    rw [hqq]; first | rfl | (simp; done) | (simp; assumption)
  ·skip
   go_wp2
   go_ret
   refine ⟨?_, BB⟩
   have hqq : q = false := by rw [HQ.out]; simp [mayLn, hc0, hb0]
   rw [hqq]; first | rfl | (simp; done) | (simp; assumption)

theorem tmay_5 {w : World} {K : Nat} {a b i x u p : Int} {k : Iv} {A1 : Option Addr} {n1 c1 : Nat} {A2 : Option Addr} {n2 c2 : Nat} (_hK : 4194304 ≤ K) (hT : Tab w) (h1 : Rd w .u64 Go.Proofs.YteagjlcmgiknmaaGreatDoor.W A1 n1 c1 k.lo.l) (h2 : Rd w .u64 Go.Proofs.YteagjlcmgiknmaaGreatDoor.W A2 n2 c2 k.hi.l) :
  Calls Tryz.prog 40 #[.agg #[.int .i64 5, .int .i64 a, .int .i64 b, .bool k.lo.s, .slice A1 n1 c1, .int .i64 k.lo.e, .bool k.hi.s, .slice A2 n2 c2, .int .i64 k.hi.e], .int .i64 i, .int .i64 x, .int .i64 u, .int .i64 p] w (Bools (mayLn K ⟨5, a, b, k⟩ i x u p) w) := by
 have G := tm_start (op := 5) (a := a) (b := b) hT h1 h2
 clear hT h1 h2
 obtain ⟨BB, hT, h1, h2, m0, m1, m2, m3, m4, m5, m6, m7, m8⟩ := G
 obtain ⟨q, hq⟩ : ∃ q, q = mayLn K ⟨5, a, b, k⟩ i x u p := ⟨_, rfl⟩
 rw [← hq]
 have HQ := Lib.hid hq
 clear hq
 go_enter Tryz.func40, Tryz.ntmps40
 go_wp2_with fail
 refine (tbelow_any (k := a) (n := p)).mono ?_
 rintro en w1 ⟨rfl, b⟩
 replace BB := bnx BB b
 have G := mv b rfl (J12 hT h1 h2 m0 m1 m2 m3 m4 m5 m6 m7 m8)
 clear b hT h1 h2 m0 m1 m2 m3 m4 m5 m6 m7 m8
 obtain ⟨hT, h1, h2, m0, m1, m2, m3, m4, m5, m6, m7, m8⟩ := G
 cases hc0 : belowB a p
 ·skip
  go_wp2
  go_ret
  refine ⟨?_, BB⟩
  have hqq : q = false := by rw [HQ.out]; simp [mayLn, hc0]
  rw [hqq]; first | rfl | (simp; done) | (simp; assumption)
 ·skip
  by_cases hb0 : b = 0
  ·subst hb0
   go_wp2_with fail
   refine (tbare_any (op := 5) (a := a) (b := 0) (k := k) h1 h2).mono ?_
   rintro en w2 ⟨rfl, b⟩
   replace BB := bnx BB b
   have G := mv b rfl (J12 hT h1 h2 m0 m1 m2 m3 m4 m5 m6 m7 m8)
   clear b hT h1 h2 m0 m1 m2 m3 m4 m5 m6 m7 m8
   obtain ⟨hT, h1, h2, m0, m1, m2, m3, m4, m5, m6, m7, m8⟩ := G
   cases hc1 : bareB ⟨5, a, 0, k⟩
   ·skip
    go_wp2
    go_ret
    refine ⟨?_, BB⟩
    have hqq : q = false := by rw [HQ.out]; simp [mayLn, hc0, hc1]
    rw [hqq]; first | rfl | (simp; done) | (simp; assumption)
   ·skip
    go_wp2
    go_ret
    refine ⟨?_, BB⟩
    have hqq : q = true := by rw [HQ.out]; simp [mayLn, hc0, hc1]
    rw [hqq]; first | rfl | (simp; done) | (simp; assumption)
  ·skip
   go_wp2
   go_ret
   refine ⟨?_, BB⟩
   have hqq : q = false := by rw [HQ.out]; simp [mayLn, hc0, hb0]
   rw [hqq]; first | rfl | (simp; done) | (simp; assumption)

theorem tmay_6 {w : World} {K : Nat} {a b i x u p : Int} {k : Iv} {A1 : Option Addr} {n1 c1 : Nat} {A2 : Option Addr} {n2 c2 : Nat} (_hK : 4194304 ≤ K) (hT : Tab w) (h1 : Rd w .u64 Go.Proofs.YteagjlcmgiknmaaGreatDoor.W A1 n1 c1 k.lo.l) (h2 : Rd w .u64 Go.Proofs.YteagjlcmgiknmaaGreatDoor.W A2 n2 c2 k.hi.l) :
  Calls Tryz.prog 40 #[.agg #[.int .i64 6, .int .i64 a, .int .i64 b, .bool k.lo.s, .slice A1 n1 c1, .int .i64 k.lo.e, .bool k.hi.s, .slice A2 n2 c2, .int .i64 k.hi.e], .int .i64 i, .int .i64 x, .int .i64 u, .int .i64 p] w (Bools (mayLn K ⟨6, a, b, k⟩ i x u p) w) := by
 have G := tm_start (op := 6) (a := a) (b := b) hT h1 h2
 clear hT h1 h2
 obtain ⟨BB, hT, h1, h2, m0, m1, m2, m3, m4, m5, m6, m7, m8⟩ := G
 obtain ⟨q, hq⟩ : ∃ q, q = mayLn K ⟨6, a, b, k⟩ i x u p := ⟨_, rfl⟩
 rw [← hq]
 have HQ := Lib.hid hq
 clear hq
 go_enter Tryz.func40, Tryz.ntmps40
 go_wp2_with fail
 refine (tbelow_any (k := a) (n := i)).mono ?_
 rintro en w1 ⟨rfl, b⟩
 replace BB := bnx BB b
 have G := mv b rfl (J12 hT h1 h2 m0 m1 m2 m3 m4 m5 m6 m7 m8)
 clear b hT h1 h2 m0 m1 m2 m3 m4 m5 m6 m7 m8
 obtain ⟨hT, h1, h2, m0, m1, m2, m3, m4, m5, m6, m7, m8⟩ := G
 cases hc0 : belowB a i
 ·skip
  go_wp2
  go_ret
  refine ⟨?_, BB⟩
  have hqq : q = false := by rw [HQ.out]; simp [mayLn, hc0]
  rw [hqq]; first | rfl | (simp; done) | (simp; assumption)
 ·skip
  go_wp2_with fail
  refine (tbelow_any (k := b) (n := i)).mono ?_
  rintro en w2 ⟨rfl, b⟩
  replace BB := bnx BB b
  have G := mv b rfl (J12 hT h1 h2 m0 m1 m2 m3 m4 m5 m6 m7 m8)
  clear b hT h1 h2 m0 m1 m2 m3 m4 m5 m6 m7 m8
  obtain ⟨hT, h1, h2, m0, m1, m2, m3, m4, m5, m6, m7, m8⟩ := G
  cases hc1 : belowB b i
  ·skip
   go_wp2
   go_ret
   refine ⟨?_, BB⟩
   have hqq : q = false := by rw [HQ.out]; simp [mayLn, hc0, hc1]
   rw [hqq]; first | rfl | (simp; done) | (simp; assumption)
  ·skip
   go_wp2_with fail
   refine (tbare_any (op := 6) (a := a) (b := b) (k := k) h1 h2).mono ?_
   rintro en w3 ⟨rfl, b⟩
   replace BB := bnx BB b
   have G := mv b rfl (J12 hT h1 h2 m0 m1 m2 m3 m4 m5 m6 m7 m8)
   clear b hT h1 h2 m0 m1 m2 m3 m4 m5 m6 m7 m8
   obtain ⟨hT, h1, h2, m0, m1, m2, m3, m4, m5, m6, m7, m8⟩ := G
   cases hc2 : bareB ⟨6, a, b, k⟩
   ·skip
    go_wp2
    go_ret
    refine ⟨?_, BB⟩
    have hqq : q = false := by rw [HQ.out]; simp [mayLn, hc0, hc1, hc2]
    rw [hqq]; first | rfl | (simp; done) | (simp; assumption)
   ·skip
    go_wp2
    go_ret
    refine ⟨?_, BB⟩
    have hqq : q = true := by rw [HQ.out]; simp [mayLn, hc0, hc1, hc2]
    rw [hqq]; first | rfl | (simp; done) | (simp; assumption)

theorem tmay_7 {w : World} {K : Nat} {a b i x u p : Int} {k : Iv} {A1 : Option Addr} {n1 c1 : Nat} {A2 : Option Addr} {n2 c2 : Nat} (_hK : 4194304 ≤ K) (hT : Tab w) (h1 : Rd w .u64 Go.Proofs.YteagjlcmgiknmaaGreatDoor.W A1 n1 c1 k.lo.l) (h2 : Rd w .u64 Go.Proofs.YteagjlcmgiknmaaGreatDoor.W A2 n2 c2 k.hi.l) :
  Calls Tryz.prog 40 #[.agg #[.int .i64 7, .int .i64 a, .int .i64 b, .bool k.lo.s, .slice A1 n1 c1, .int .i64 k.lo.e, .bool k.hi.s, .slice A2 n2 c2, .int .i64 k.hi.e], .int .i64 i, .int .i64 x, .int .i64 u, .int .i64 p] w (Bools (mayLn K ⟨7, a, b, k⟩ i x u p) w) := by
 have G := tm_start (op := 7) (a := a) (b := b) hT h1 h2
 clear hT h1 h2
 obtain ⟨BB, hT, h1, h2, m0, m1, m2, m3, m4, m5, m6, m7, m8⟩ := G
 obtain ⟨q, hq⟩ : ∃ q, q = mayLn K ⟨7, a, b, k⟩ i x u p := ⟨_, rfl⟩
 rw [← hq]
 have HQ := Lib.hid hq
 clear hq
 go_enter Tryz.func40, Tryz.ntmps40
 go_wp2_with fail
 refine (tbelow_any (k := a) (n := i)).mono ?_
 rintro en w1 ⟨rfl, b⟩
 replace BB := bnx BB b
 have G := mv b rfl (J12 hT h1 h2 m0 m1 m2 m3 m4 m5 m6 m7 m8)
 clear b hT h1 h2 m0 m1 m2 m3 m4 m5 m6 m7 m8
 obtain ⟨hT, h1, h2, m0, m1, m2, m3, m4, m5, m6, m7, m8⟩ := G
 cases hc0 : belowB a i
 ·skip
  go_wp2
  go_ret
  refine ⟨?_, BB⟩
  have hqq : q = false := by rw [HQ.out]; simp [mayLn, hc0]
  rw [hqq]; first | rfl | (simp; done) | (simp; assumption)
 ·skip
  go_wp2_with fail
  refine (tbelow_any (k := b) (n := i)).mono ?_
  rintro en w2 ⟨rfl, b⟩
  replace BB := bnx BB b
  have G := mv b rfl (J12 hT h1 h2 m0 m1 m2 m3 m4 m5 m6 m7 m8)
  clear b hT h1 h2 m0 m1 m2 m3 m4 m5 m6 m7 m8
  obtain ⟨hT, h1, h2, m0, m1, m2, m3, m4, m5, m6, m7, m8⟩ := G
  cases hc1 : belowB b i
  ·skip
   go_wp2
   go_ret
   refine ⟨?_, BB⟩
   have hqq : q = false := by rw [HQ.out]; simp [mayLn, hc0, hc1]
   rw [hqq]; first | rfl | (simp; done) | (simp; assumption)
  ·skip
   go_wp2_with fail
   refine (tbare_any (op := 7) (a := a) (b := b) (k := k) h1 h2).mono ?_
   rintro en w3 ⟨rfl, b⟩
   replace BB := bnx BB b
   have G := mv b rfl (J12 hT h1 h2 m0 m1 m2 m3 m4 m5 m6 m7 m8)
   clear b hT h1 h2 m0 m1 m2 m3 m4 m5 m6 m7 m8
   obtain ⟨hT, h1, h2, m0, m1, m2, m3, m4, m5, m6, m7, m8⟩ := G
   cases hc2 : bareB ⟨7, a, b, k⟩
   ·skip
    go_wp2
    go_ret
    refine ⟨?_, BB⟩
    have hqq : q = false := by rw [HQ.out]; simp [mayLn, hc0, hc1, hc2]
    rw [hqq]; first | rfl | (simp; done) | (simp; assumption)
   ·skip
    go_wp2
    go_ret
    refine ⟨?_, BB⟩
    have hqq : q = true := by rw [HQ.out]; simp [mayLn, hc0, hc1, hc2]
    rw [hqq]; first | rfl | (simp; done) | (simp; assumption)

theorem tmay_8 {w : World} {K : Nat} {a b i x u p : Int} {k : Iv} {A1 : Option Addr} {n1 c1 : Nat} {A2 : Option Addr} {n2 c2 : Nat} (_hK : 4194304 ≤ K) (hT : Tab w) (h1 : Rd w .u64 Go.Proofs.YteagjlcmgiknmaaGreatDoor.W A1 n1 c1 k.lo.l) (h2 : Rd w .u64 Go.Proofs.YteagjlcmgiknmaaGreatDoor.W A2 n2 c2 k.hi.l) :
  Calls Tryz.prog 40 #[.agg #[.int .i64 8, .int .i64 a, .int .i64 b, .bool k.lo.s, .slice A1 n1 c1, .int .i64 k.lo.e, .bool k.hi.s, .slice A2 n2 c2, .int .i64 k.hi.e], .int .i64 i, .int .i64 x, .int .i64 u, .int .i64 p] w (Bools (mayLn K ⟨8, a, b, k⟩ i x u p) w) := by
 have G := tm_start (op := 8) (a := a) (b := b) hT h1 h2
 clear hT h1 h2
 obtain ⟨BB, hT, h1, h2, m0, m1, m2, m3, m4, m5, m6, m7, m8⟩ := G
 obtain ⟨q, hq⟩ : ∃ q, q = mayLn K ⟨8, a, b, k⟩ i x u p := ⟨_, rfl⟩
 rw [← hq]
 have HQ := Lib.hid hq
 clear hq
 go_enter Tryz.func40, Tryz.ntmps40
 go_wp2_with fail
 refine (tbelow_any (k := a) (n := i)).mono ?_
 rintro en w1 ⟨rfl, b⟩
 replace BB := bnx BB b
 have G := mv b rfl (J12 hT h1 h2 m0 m1 m2 m3 m4 m5 m6 m7 m8)
 clear b hT h1 h2 m0 m1 m2 m3 m4 m5 m6 m7 m8
 obtain ⟨hT, h1, h2, m0, m1, m2, m3, m4, m5, m6, m7, m8⟩ := G
 cases hc0 : belowB a i
 ·skip
  go_wp2
  go_ret
  refine ⟨?_, BB⟩
  have hqq : q = false := by rw [HQ.out]; simp [mayLn, hc0]
  rw [hqq]; first | rfl | (simp; done) | (simp; assumption)
 ·skip
  go_wp2_with fail
  refine (tbelow_any (k := b) (n := i)).mono ?_
  rintro en w2 ⟨rfl, b⟩
  replace BB := bnx BB b
  have G := mv b rfl (J12 hT h1 h2 m0 m1 m2 m3 m4 m5 m6 m7 m8)
  clear b hT h1 h2 m0 m1 m2 m3 m4 m5 m6 m7 m8
  obtain ⟨hT, h1, h2, m0, m1, m2, m3, m4, m5, m6, m7, m8⟩ := G
  cases hc1 : belowB b i
  ·skip
   go_wp2
   go_ret
   refine ⟨?_, BB⟩
   have hqq : q = false := by rw [HQ.out]; simp [mayLn, hc0, hc1]
   rw [hqq]; first | rfl | (simp; done) | (simp; assumption)
  ·skip
   go_wp2_with fail
   refine (tbare_any (op := 8) (a := a) (b := b) (k := k) h1 h2).mono ?_
   rintro en w3 ⟨rfl, b⟩
   replace BB := bnx BB b
   have G := mv b rfl (J12 hT h1 h2 m0 m1 m2 m3 m4 m5 m6 m7 m8)
   clear b hT h1 h2 m0 m1 m2 m3 m4 m5 m6 m7 m8
   obtain ⟨hT, h1, h2, m0, m1, m2, m3, m4, m5, m6, m7, m8⟩ := G
   cases hc2 : bareB ⟨8, a, b, k⟩
   ·skip
    go_wp2
    go_ret
    refine ⟨?_, BB⟩
    have hqq : q = false := by rw [HQ.out]; simp [mayLn, hc0, hc1, hc2]
    rw [hqq]; first | rfl | (simp; done) | (simp; assumption)
   ·skip
    go_wp2
    go_ret
    refine ⟨?_, BB⟩
    have hqq : q = true := by rw [HQ.out]; simp [mayLn, hc0, hc1, hc2]
    rw [hqq]; first | rfl | (simp; done) | (simp; assumption)

theorem tmay_9 {w : World} {K : Nat} {a b i x u p : Int} {k : Iv} {A1 : Option Addr} {n1 c1 : Nat} {A2 : Option Addr} {n2 c2 : Nat} (_hK : 4194304 ≤ K) (hT : Tab w) (h1 : Rd w .u64 Go.Proofs.YteagjlcmgiknmaaGreatDoor.W A1 n1 c1 k.lo.l) (h2 : Rd w .u64 Go.Proofs.YteagjlcmgiknmaaGreatDoor.W A2 n2 c2 k.hi.l) :
  Calls Tryz.prog 40 #[.agg #[.int .i64 9, .int .i64 a, .int .i64 b, .bool k.lo.s, .slice A1 n1 c1, .int .i64 k.lo.e, .bool k.hi.s, .slice A2 n2 c2, .int .i64 k.hi.e], .int .i64 i, .int .i64 x, .int .i64 u, .int .i64 p] w (Bools (mayLn K ⟨9, a, b, k⟩ i x u p) w) := by
 have G := tm_start (op := 9) (a := a) (b := b) hT h1 h2
 clear hT h1 h2
 obtain ⟨BB, hT, h1, h2, m0, m1, m2, m3, m4, m5, m6, m7, m8⟩ := G
 obtain ⟨q, hq⟩ : ∃ q, q = mayLn K ⟨9, a, b, k⟩ i x u p := ⟨_, rfl⟩
 rw [← hq]
 have HQ := Lib.hid hq
 clear hq
 go_enter Tryz.func40, Tryz.ntmps40
 go_wp2_with fail
 refine (tbelow_any (k := a) (n := i)).mono ?_
 rintro en w1 ⟨rfl, b⟩
 replace BB := bnx BB b
 have G := mv b rfl (J12 hT h1 h2 m0 m1 m2 m3 m4 m5 m6 m7 m8)
 clear b hT h1 h2 m0 m1 m2 m3 m4 m5 m6 m7 m8
 obtain ⟨hT, h1, h2, m0, m1, m2, m3, m4, m5, m6, m7, m8⟩ := G
 cases hc0 : belowB a i
 ·skip
  go_wp2
  go_ret
  refine ⟨?_, BB⟩
  have hqq : q = false := by rw [HQ.out]; simp [mayLn, hc0]
  rw [hqq]; first | rfl | (simp; done) | (simp; assumption)
 ·skip
  go_wp2_with fail
  refine (tbelow_any (k := b) (n := i)).mono ?_
  rintro en w2 ⟨rfl, b⟩
  replace BB := bnx BB b
  have G := mv b rfl (J12 hT h1 h2 m0 m1 m2 m3 m4 m5 m6 m7 m8)
  clear b hT h1 h2 m0 m1 m2 m3 m4 m5 m6 m7 m8
  obtain ⟨hT, h1, h2, m0, m1, m2, m3, m4, m5, m6, m7, m8⟩ := G
  cases hc1 : belowB b i
  ·skip
   go_wp2
   go_ret
   refine ⟨?_, BB⟩
   have hqq : q = false := by rw [HQ.out]; simp [mayLn, hc0, hc1]
   rw [hqq]; first | rfl | (simp; done) | (simp; assumption)
  ·skip
   go_wp2_with fail
   refine (tbare_any (op := 9) (a := a) (b := b) (k := k) h1 h2).mono ?_
   rintro en w3 ⟨rfl, b⟩
   replace BB := bnx BB b
   have G := mv b rfl (J12 hT h1 h2 m0 m1 m2 m3 m4 m5 m6 m7 m8)
   clear b hT h1 h2 m0 m1 m2 m3 m4 m5 m6 m7 m8
   obtain ⟨hT, h1, h2, m0, m1, m2, m3, m4, m5, m6, m7, m8⟩ := G
   cases hc2 : bareB ⟨9, a, b, k⟩
   ·skip
    go_wp2
    go_ret
    refine ⟨?_, BB⟩
    have hqq : q = false := by rw [HQ.out]; simp [mayLn, hc0, hc1, hc2]
    rw [hqq]; first | rfl | (simp; done) | (simp; assumption)
   ·skip
    go_wp2
    go_ret
    refine ⟨?_, BB⟩
    have hqq : q = true := by rw [HQ.out]; simp [mayLn, hc0, hc1, hc2]
    rw [hqq]; first | rfl | (simp; done) | (simp; assumption)

theorem tmay_10 {w : World} {K : Nat} {a b i x u p : Int} {k : Iv} {A1 : Option Addr} {n1 c1 : Nat} {A2 : Option Addr} {n2 c2 : Nat} (_hK : 4194304 ≤ K) (hT : Tab w) (h1 : Rd w .u64 Go.Proofs.YteagjlcmgiknmaaGreatDoor.W A1 n1 c1 k.lo.l) (h2 : Rd w .u64 Go.Proofs.YteagjlcmgiknmaaGreatDoor.W A2 n2 c2 k.hi.l) :
  Calls Tryz.prog 40 #[.agg #[.int .i64 10, .int .i64 a, .int .i64 b, .bool k.lo.s, .slice A1 n1 c1, .int .i64 k.lo.e, .bool k.hi.s, .slice A2 n2 c2, .int .i64 k.hi.e], .int .i64 i, .int .i64 x, .int .i64 u, .int .i64 p] w (Bools (mayLn K ⟨10, a, b, k⟩ i x u p) w) := by
 have G := tm_start (op := 10) (a := a) (b := b) hT h1 h2
 clear hT h1 h2
 obtain ⟨BB, hT, h1, h2, m0, m1, m2, m3, m4, m5, m6, m7, m8⟩ := G
 obtain ⟨q, hq⟩ : ∃ q, q = mayLn K ⟨10, a, b, k⟩ i x u p := ⟨_, rfl⟩
 rw [← hq]
 have HQ := Lib.hid hq
 clear hq
 go_enter Tryz.func40, Tryz.ntmps40
 go_wp2_with fail
 refine (tbelow_any (k := a) (n := i)).mono ?_
 rintro en w1 ⟨rfl, b⟩
 replace BB := bnx BB b
 have G := mv b rfl (J12 hT h1 h2 m0 m1 m2 m3 m4 m5 m6 m7 m8)
 clear b hT h1 h2 m0 m1 m2 m3 m4 m5 m6 m7 m8
 obtain ⟨hT, h1, h2, m0, m1, m2, m3, m4, m5, m6, m7, m8⟩ := G
 cases hc0 : belowB a i
 ·skip
  go_wp2
  go_ret
  refine ⟨?_, BB⟩
  have hqq : q = false := by rw [HQ.out]; simp [mayLn, hc0]
  rw [hqq]; first | rfl | (simp; done) | (simp; assumption)
 ·skip
  by_cases hb0 : b = 0
  ·subst hb0
   go_wp2_with fail
   refine (tbare_any (op := 10) (a := a) (b := 0) (k := k) h1 h2).mono ?_
   rintro en w2 ⟨rfl, b⟩
   replace BB := bnx BB b
   have G := mv b rfl (J12 hT h1 h2 m0 m1 m2 m3 m4 m5 m6 m7 m8)
   clear b hT h1 h2 m0 m1 m2 m3 m4 m5 m6 m7 m8
   obtain ⟨hT, h1, h2, m0, m1, m2, m3, m4, m5, m6, m7, m8⟩ := G
   cases hc1 : bareB ⟨10, a, 0, k⟩
   ·skip
    go_wp2
    go_ret
    refine ⟨?_, BB⟩
    have hqq : q = false := by rw [HQ.out]; simp [mayLn, hc0, hc1]
    rw [hqq]; first | rfl | (simp; done) | (simp; assumption)
   ·skip
    go_wp2
    go_ret
    refine ⟨?_, BB⟩
    have hqq : q = true := by rw [HQ.out]; simp [mayLn, hc0, hc1]
    rw [hqq]; first | rfl | (simp; done) | (simp; assumption)
  ·skip
   go_wp2
   go_ret
   refine ⟨?_, BB⟩
   have hqq : q = false := by rw [HQ.out]; simp [mayLn, hc0, hb0]
   rw [hqq]; first | rfl | (simp; done) | (simp; assumption)

theorem tmay_11 {w : World} {K : Nat} {a b i x u p : Int} {k : Iv} {A1 : Option Addr} {n1 c1 : Nat} {A2 : Option Addr} {n2 c2 : Nat} (_hK : 4194304 ≤ K) (hT : Tab w) (h1 : Rd w .u64 Go.Proofs.YteagjlcmgiknmaaGreatDoor.W A1 n1 c1 k.lo.l) (h2 : Rd w .u64 Go.Proofs.YteagjlcmgiknmaaGreatDoor.W A2 n2 c2 k.hi.l) :
  Calls Tryz.prog 40 #[.agg #[.int .i64 11, .int .i64 a, .int .i64 b, .bool k.lo.s, .slice A1 n1 c1, .int .i64 k.lo.e, .bool k.hi.s, .slice A2 n2 c2, .int .i64 k.hi.e], .int .i64 i, .int .i64 x, .int .i64 u, .int .i64 p] w (Bools (mayLn K ⟨11, a, b, k⟩ i x u p) w) := by
 have G := tm_start (op := 11) (a := a) (b := b) hT h1 h2
 clear hT h1 h2
 obtain ⟨BB, hT, h1, h2, m0, m1, m2, m3, m4, m5, m6, m7, m8⟩ := G
 obtain ⟨q, hq⟩ : ∃ q, q = mayLn K ⟨11, a, b, k⟩ i x u p := ⟨_, rfl⟩
 rw [← hq]
 have HQ := Lib.hid hq
 clear hq
 go_enter Tryz.func40, Tryz.ntmps40
 go_wp2_with fail
 refine (tbelow_any (k := a) (n := i)).mono ?_
 rintro en w1 ⟨rfl, b⟩
 replace BB := bnx BB b
 have G := mv b rfl (J12 hT h1 h2 m0 m1 m2 m3 m4 m5 m6 m7 m8)
 clear b hT h1 h2 m0 m1 m2 m3 m4 m5 m6 m7 m8
 obtain ⟨hT, h1, h2, m0, m1, m2, m3, m4, m5, m6, m7, m8⟩ := G
 cases hc0 : belowB a i
 ·skip
  go_wp2
  go_ret
  refine ⟨?_, BB⟩
  have hqq : q = false := by rw [HQ.out]; simp [mayLn, hc0]
  rw [hqq]; first | rfl | (simp; done) | (simp; assumption)
 ·skip
  by_cases hb0 : b = 0
  ·subst hb0
   go_wp2_with fail
   refine (tbare_any (op := 11) (a := a) (b := 0) (k := k) h1 h2).mono ?_
   rintro en w2 ⟨rfl, b⟩
   replace BB := bnx BB b
   have G := mv b rfl (J12 hT h1 h2 m0 m1 m2 m3 m4 m5 m6 m7 m8)
   clear b hT h1 h2 m0 m1 m2 m3 m4 m5 m6 m7 m8
   obtain ⟨hT, h1, h2, m0, m1, m2, m3, m4, m5, m6, m7, m8⟩ := G
   cases hc1 : bareB ⟨11, a, 0, k⟩
   ·skip
    go_wp2
    go_ret
    refine ⟨?_, BB⟩
    have hqq : q = false := by rw [HQ.out]; simp [mayLn, hc0, hc1]
    rw [hqq]; first | rfl | (simp; done) | (simp; assumption)
   ·skip
    go_wp2
    go_ret
    refine ⟨?_, BB⟩
    have hqq : q = true := by rw [HQ.out]; simp [mayLn, hc0, hc1]
    rw [hqq]; first | rfl | (simp; done) | (simp; assumption)
  ·skip
   go_wp2
   go_ret
   refine ⟨?_, BB⟩
   have hqq : q = false := by rw [HQ.out]; simp [mayLn, hc0, hb0]
   rw [hqq]; first | rfl | (simp; done) | (simp; assumption)

theorem tmay_12 {w : World} {K : Nat} {a b i x u p : Int} {k : Iv} {A1 : Option Addr} {n1 c1 : Nat} {A2 : Option Addr} {n2 c2 : Nat} (_hK : 4194304 ≤ K) (hT : Tab w) (h1 : Rd w .u64 Go.Proofs.YteagjlcmgiknmaaGreatDoor.W A1 n1 c1 k.lo.l) (h2 : Rd w .u64 Go.Proofs.YteagjlcmgiknmaaGreatDoor.W A2 n2 c2 k.hi.l) :
  Calls Tryz.prog 40 #[.agg #[.int .i64 12, .int .i64 a, .int .i64 b, .bool k.lo.s, .slice A1 n1 c1, .int .i64 k.lo.e, .bool k.hi.s, .slice A2 n2 c2, .int .i64 k.hi.e], .int .i64 i, .int .i64 x, .int .i64 u, .int .i64 p] w (Bools (mayLn K ⟨12, a, b, k⟩ i x u p) w) := by
 have G := tm_start (op := 12) (a := a) (b := b) hT h1 h2
 clear hT h1 h2
 obtain ⟨BB, hT, h1, h2, m0, m1, m2, m3, m4, m5, m6, m7, m8⟩ := G
 obtain ⟨q, hq⟩ : ∃ q, q = mayLn K ⟨12, a, b, k⟩ i x u p := ⟨_, rfl⟩
 rw [← hq]
 have HQ := Lib.hid hq
 clear hq
 go_enter Tryz.func40, Tryz.ntmps40
 go_wp2_with fail
 refine (tbelow_any (k := a) (n := i)).mono ?_
 rintro en w1 ⟨rfl, b⟩
 replace BB := bnx BB b
 have G := mv b rfl (J12 hT h1 h2 m0 m1 m2 m3 m4 m5 m6 m7 m8)
 clear b hT h1 h2 m0 m1 m2 m3 m4 m5 m6 m7 m8
 obtain ⟨hT, h1, h2, m0, m1, m2, m3, m4, m5, m6, m7, m8⟩ := G
 cases hc0 : belowB a i
 ·skip
  go_wp2
  go_ret
  refine ⟨?_, BB⟩
  have hqq : q = false := by rw [HQ.out]; simp [mayLn, hc0]
  rw [hqq]; first | rfl | (simp; done) | (simp; assumption)
 ·skip
  by_cases hb0 : b = 0
  ·subst hb0
   go_wp2_with fail
   refine (tbare_any (op := 12) (a := a) (b := 0) (k := k) h1 h2).mono ?_
   rintro en w2 ⟨rfl, b⟩
   replace BB := bnx BB b
   have G := mv b rfl (J12 hT h1 h2 m0 m1 m2 m3 m4 m5 m6 m7 m8)
   clear b hT h1 h2 m0 m1 m2 m3 m4 m5 m6 m7 m8
   obtain ⟨hT, h1, h2, m0, m1, m2, m3, m4, m5, m6, m7, m8⟩ := G
   cases hc1 : bareB ⟨12, a, 0, k⟩
   ·skip
    go_wp2
    go_ret
    refine ⟨?_, BB⟩
    have hqq : q = false := by rw [HQ.out]; simp [mayLn, hc0, hc1]
    rw [hqq]; first | rfl | (simp; done) | (simp; assumption)
   ·skip
    go_wp2
    go_ret
    refine ⟨?_, BB⟩
    have hqq : q = true := by rw [HQ.out]; simp [mayLn, hc0, hc1]
    rw [hqq]; first | rfl | (simp; done) | (simp; assumption)
  ·skip
   go_wp2
   go_ret
   refine ⟨?_, BB⟩
   have hqq : q = false := by rw [HQ.out]; simp [mayLn, hc0, hb0]
   rw [hqq]; first | rfl | (simp; done) | (simp; assumption)

theorem tmay_13 {w : World} {K : Nat} {a b i x u p : Int} {k : Iv} {A1 : Option Addr} {n1 c1 : Nat} {A2 : Option Addr} {n2 c2 : Nat} (_hK : 4194304 ≤ K) (hT : Tab w) (h1 : Rd w .u64 Go.Proofs.YteagjlcmgiknmaaGreatDoor.W A1 n1 c1 k.lo.l) (h2 : Rd w .u64 Go.Proofs.YteagjlcmgiknmaaGreatDoor.W A2 n2 c2 k.hi.l) :
  Calls Tryz.prog 40 #[.agg #[.int .i64 13, .int .i64 a, .int .i64 b, .bool k.lo.s, .slice A1 n1 c1, .int .i64 k.lo.e, .bool k.hi.s, .slice A2 n2 c2, .int .i64 k.hi.e], .int .i64 i, .int .i64 x, .int .i64 u, .int .i64 p] w (Bools (mayLn K ⟨13, a, b, k⟩ i x u p) w) := by
 have G := tm_start (op := 13) (a := a) (b := b) hT h1 h2
 clear hT h1 h2
 obtain ⟨BB, hT, h1, h2, m0, m1, m2, m3, m4, m5, m6, m7, m8⟩ := G
 obtain ⟨q, hq⟩ : ∃ q, q = mayLn K ⟨13, a, b, k⟩ i x u p := ⟨_, rfl⟩
 rw [← hq]
 have HQ := Lib.hid hq
 clear hq
 go_enter Tryz.func40, Tryz.ntmps40
 go_wp2_with fail
 refine (tbelow_any (k := a) (n := i)).mono ?_
 rintro en w1 ⟨rfl, b⟩
 replace BB := bnx BB b
 have G := mv b rfl (J12 hT h1 h2 m0 m1 m2 m3 m4 m5 m6 m7 m8)
 clear b hT h1 h2 m0 m1 m2 m3 m4 m5 m6 m7 m8
 obtain ⟨hT, h1, h2, m0, m1, m2, m3, m4, m5, m6, m7, m8⟩ := G
 cases hc0 : belowB a i
 ·skip
  go_wp2
  go_ret
  refine ⟨?_, BB⟩
  have hqq : q = false := by rw [HQ.out]; simp [mayLn, hc0]
  rw [hqq]; first | rfl | (simp; done) | (simp; assumption)
 ·skip
  by_cases hb0 : b = 0
  ·subst hb0
   go_wp2_with fail
   refine (tbare_any (op := 13) (a := a) (b := 0) (k := k) h1 h2).mono ?_
   rintro en w2 ⟨rfl, b⟩
   replace BB := bnx BB b
   have G := mv b rfl (J12 hT h1 h2 m0 m1 m2 m3 m4 m5 m6 m7 m8)
   clear b hT h1 h2 m0 m1 m2 m3 m4 m5 m6 m7 m8
   obtain ⟨hT, h1, h2, m0, m1, m2, m3, m4, m5, m6, m7, m8⟩ := G
   cases hc1 : bareB ⟨13, a, 0, k⟩
   ·skip
    go_wp2
    go_ret
    refine ⟨?_, BB⟩
    have hqq : q = false := by rw [HQ.out]; simp [mayLn, hc0, hc1]
    rw [hqq]; first | rfl | (simp; done) | (simp; assumption)
   ·skip
    go_wp2
    go_ret
    refine ⟨?_, BB⟩
    have hqq : q = true := by rw [HQ.out]; simp [mayLn, hc0, hc1]
    rw [hqq]; first | rfl | (simp; done) | (simp; assumption)
  ·skip
   go_wp2
   go_ret
   refine ⟨?_, BB⟩
   have hqq : q = false := by rw [HQ.out]; simp [mayLn, hc0, hb0]
   rw [hqq]; first | rfl | (simp; done) | (simp; assumption)

theorem tmay_0 {w : World} {K : Nat} {op a b i x u p : Int} {k : Iv} {A1 : Option Addr} {n1 c1 : Nat} {A2 : Option Addr} {n2 c2 : Nat} (hT : Tab w) (h1 : Rd w .u64 Go.Proofs.YteagjlcmgiknmaaGreatDoor.W A1 n1 c1 k.lo.l) (h2 : Rd w .u64 Go.Proofs.YteagjlcmgiknmaaGreatDoor.W A2 n2 c2 k.hi.l) (d1 : ¬ op = 1) (d2 : ¬ op = 2) (d3 : ¬ op = 3) (d4 : ¬ op = 4) (d5 : ¬ op = 5) (d6 : ¬ op = 6) (d7 : ¬ op = 7) (d8 : ¬ op = 8) (d9 : ¬ op = 9) (d10 : ¬ op = 10) (d11 : ¬ op = 11) (d12 : ¬ op = 12) (d13 : ¬ op = 13) :
  Calls Tryz.prog 40 #[.agg #[.int .i64 op, .int .i64 a, .int .i64 b, .bool k.lo.s, .slice A1 n1 c1, .int .i64 k.lo.e, .bool k.hi.s, .slice A2 n2 c2, .int .i64 k.hi.e], .int .i64 i, .int .i64 x, .int .i64 u, .int .i64 p] w (Bools (mayLn K ⟨op, a, b, k⟩ i x u p) w) := by
 have G := tm_start (op := op) (a := a) (b := b) hT h1 h2
 clear hT h1 h2
 obtain ⟨BB, hT, h1, h2, m0, m1, m2, m3, m4, m5, m6, m7, m8⟩ := G
 have hqq : mayLn K ⟨op, a, b, k⟩ i x u p = false := by simp [mayLn, d1, d2, d3, d4, d5, d6, d7, d8, d9, d10, d11, d12, d13]
 rw [hqq]
 clear hqq
 go_enter Tryz.func40, Tryz.ntmps40
 go_wp2
 go_ret
 exact ⟨by first | rfl | simp, BB⟩

theorem tmayline_any {w : World} {K : Nat} {l : Ln} {i x u p : Int} {A1 : Option Addr} {n1 c1 : Nat} {A2 : Option Addr} {n2 c2 : Nat} (hK : 4194304 ≤ K) (hT : Tab w) (h1 : Rd w .u64 Go.Proofs.YteagjlcmgiknmaaGreatDoor.W A1 n1 c1 l.k.lo.l) (h2 : Rd w .u64 Go.Proofs.YteagjlcmgiknmaaGreatDoor.W A2 n2 c2 l.k.hi.l) :
  Calls Tryz.prog 40 #[.agg #[.int .i64 l.op, .int .i64 l.a, .int .i64 l.b, .bool l.k.lo.s, .slice A1 n1 c1, .int .i64 l.k.lo.e, .bool l.k.hi.s, .slice A2 n2 c2, .int .i64 l.k.hi.e], .int .i64 i, .int .i64 x, .int .i64 u, .int .i64 p] w (Bools (mayLn K l i x u p) w) := by
 obtain ⟨op, a, b, k⟩ := l
 by_cases d1 : op = 1
 ·subst d1; exact tmay_1 hK hT h1 h2
 by_cases d2 : op = 2
 ·subst d2; exact tmay_2 hK hT h1 h2
 by_cases d3 : op = 3
 ·subst d3; exact tmay_3 hK hT h1 h2
 by_cases d4 : op = 4
 ·subst d4; exact tmay_4 hK hT h1 h2
 by_cases d5 : op = 5
 ·subst d5; exact tmay_5 hK hT h1 h2
 by_cases d6 : op = 6
 ·subst d6; exact tmay_6 hK hT h1 h2
 by_cases d7 : op = 7
 ·subst d7; exact tmay_7 hK hT h1 h2
 by_cases d8 : op = 8
 ·subst d8; exact tmay_8 hK hT h1 h2
 by_cases d9 : op = 9
 ·subst d9; exact tmay_9 hK hT h1 h2
 by_cases d10 : op = 10
 ·subst d10; exact tmay_10 hK hT h1 h2
 by_cases d11 : op = 11
 ·subst d11; exact tmay_11 hK hT h1 h2
 by_cases d12 : op = 12
 ·subst d12; exact tmay_12 hK hT h1 h2
 by_cases d13 : op = 13
 ·subst d13; exact tmay_13 hK hT h1 h2
 exact tmay_0 hT h1 h2 d1 d2 d3 d4 d5 d6 d7 d8 d9 d10 d11 d12 d13

end Go.Proofs.YteagjlcmgiknmaaGreatDoor
