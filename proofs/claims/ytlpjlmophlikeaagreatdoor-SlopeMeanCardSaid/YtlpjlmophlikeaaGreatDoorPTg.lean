/-
 Contract of tape's mayEnv, at this translation. Condition: the slices read as limbs, the table of math/bits reads as its text lays it.
-/
import Derived.Test.YtlpjlmophlikeaaGreatDoorPTc
set_option maxHeartbeats 8000000
set_option maxRecDepth 100000
namespace Go.Proofs.YtlpjlmophlikeaaGreatDoor
open Go.RowKit

def rowN (E : En) : Nat → Nat
 | 0 => 1
 | 1 => E.nx
 | 2 => E.nu
 | _ => E.np
def rowX (E : En) : Nat → Nat → Iv
 | 0 => fun _ => E.t
 | 1 => E.X
 | 2 => E.U
 | _ => E.P
theorem mayE_rows {K : Nat} {E : En} : mayE K E = true ↔ ∀ i, i < 4 → ∀ j, j < rowN E i → mayI K (rowX E i j) = true := by
 rw [mayE_iff]
 constructor
 ·rintro ⟨h0, h1, h2, h3⟩ i hi j hj
  rcases (show i = 0 ∨ i = 1 ∨ i = 2 ∨ i = 3 by omega) with rfl | rfl | rfl | rfl
  ·exact h0
  ·exact h1 j hj
  ·exact h2 j hj
  ·exact h3 j hj
 ·intro h
  exact ⟨h 0 (by omega) 0 Nat.one_pos, h 1 (by omega), h 2 (by omega), h 3 (by omega)⟩
theorem mayE_no {K : Nat} {E : En} {i j : Nat} (hi : i < 4) (hj : j < rowN E i) (h : mayI K (rowX E i j) = false) : mayE K E = false := by
 cases q : mayE K E
 ·rfl
 ·have := mayE_rows.1 q i hi j hj
  rw [h] at this
  cases this
theorem rows_env {w : World} {E : En} {A3 : Option Addr} {n3 c3 : Nat} {A4 : Option Addr} {n4 c4 : Nat} {AX : Option Addr} {cX : Nat} {AU : Option Addr} {cU : Nat} {AP : Option Addr} {cP : Nat} {g : Nat} {A : Option Addr} (hA : A = some ⟨g, 0, none⟩) (hg : Ivs w g 0 1 (fun _ => E.t)) (hE : RdE w E A3 n3 c3 A4 n4 c4 AX cX AU cU AP cP) {R : Nat} (x : Blk w R #[.slice A 1 1, .slice AX E.nx cX, .slice AU E.nu cU, .slice AP E.np cP] 39) :
  ∀ i, i < 4 → ∃ B c, w.cell? ⟨R, i, none⟩ = some (.slice B (rowN E i) c) ∧ RdS w B (rowN E i) c (rowX E i) := by
 intro i hi
 rcases (show i = 0 ∨ i = 1 ∨ i = 2 ∨ i = 3 by omega) with rfl | rfl | rfl | rfl
 ·exact ⟨A, 1, x.at 0, ⟨Nat.le_refl 1, by decide, fun _ => ⟨g, 0, hA, hg⟩⟩⟩
 ·exact ⟨AX, cX, x.at 1, hE.X⟩
 ·exact ⟨AU, cU, x.at 2, hE.U⟩
 ·exact ⟨AP, cP, x.at 3, hE.P⟩
theorem up_next2 {P : Nat → Prop} {i : Nat} (h : ∀ j, j < i → P j) (h2 : P i) : ∀ j, j < i + 1 → P j := fun j hj => by
 rcases (show j < i ∨ j = i by omega) with h3 | rfl
 ·exact h j h3
 ·exact h2

theorem tmayenv_any {w : World} {K : Nat} {E : En} {A3 : Option Addr} {n3 c3 : Nat} {A4 : Option Addr} {n4 c4 : Nat} {AX : Option Addr} {cX : Nat} {AU : Option Addr} {cU : Nat} {AP : Option Addr} {cP : Nat} (hK : 4194304 ≤ K) (hT : Tab w) (hE : RdE w E A3 n3 c3 A4 n4 c4 AX cX AU cU AP cP) :
  Calls Tryz.prog 81 #[.agg #[.bool E.t.lo.s, .slice A3 n3 c3, .int .i64 E.t.lo.e, .bool E.t.hi.s, .slice A4 n4 c4, .int .i64 E.t.hi.e, .slice AX E.nx cX, .slice AU E.nu cU, .slice AP E.np cP]] w (Bools (mayE K E) w) := by
 have BB := three_below w (.cells #[.bool E.t.lo.s, .slice A3 n3 c3, .int .i64 E.t.lo.e, .bool E.t.hi.s, .slice A4 n4 c4, .int .i64 E.t.hi.e, .slice AX E.nx cX, .slice AU E.nu cU, .slice AP E.np cP] 44) (.cells #[.bool E.t.lo.s, .slice A3 n3 c3, .int .i64 E.t.lo.e, .bool E.t.hi.s, .slice A4 n4 c4, .int .i64 E.t.hi.e] 29) (.cells #[.slice (some ⟨w.heap.size + 1, 0, none⟩) 1 1, .slice AX E.nx cX, .slice AU E.nu cU, .slice AP E.np cP] 39)
 have xe := Blk.new w #[.bool E.t.lo.s, .slice A3 n3 c3, .int .i64 E.t.lo.e, .bool E.t.hi.s, .slice A4 n4 c4, .int .i64 E.t.hi.e, .slice AX E.nx cX, .slice AU E.nu cU, .slice AP E.np cP] 44
 have e0 : World.cell? _ ⟨_, 0, none⟩ = some (.bool E.t.lo.s) := xe.at 0
 have e1 : World.cell? _ ⟨_, 1, none⟩ = some (.slice A3 n3 c3) := xe.at 1
 have e2 : World.cell? _ ⟨_, 2, none⟩ = some (.int .i64 E.t.lo.e) := xe.at 2
 have e3 : World.cell? _ ⟨_, 3, none⟩ = some (.bool E.t.hi.s) := xe.at 3
 have e4 : World.cell? _ ⟨_, 4, none⟩ = some (.slice A4 n4 c4) := xe.at 4
 have e5 : World.cell? _ ⟨_, 5, none⟩ = some (.int .i64 E.t.hi.e) := xe.at 5
 have e6 : World.cell? _ ⟨_, 6, none⟩ = some (.slice AX E.nx cX) := xe.at 6
 have e7 : World.cell? _ ⟨_, 7, none⟩ = some (.slice AU E.nu cU) := xe.at 7
 have e8 : World.cell? _ ⟨_, 8, none⟩ = some (.slice AP E.np cP) := xe.at 8
 have lo1 := mv (below_alloc w (.cells #[.bool E.t.lo.s, .slice A3 n3 c3, .int .i64 E.t.lo.e, .bool E.t.hi.s, .slice A4 n4 c4, .int .i64 E.t.hi.e, .slice AX E.nx cX, .slice AU E.nu cU, .slice AP E.np cP] 44)) rfl hE.lo
 have hi1 := mv (below_alloc w (.cells #[.bool E.t.lo.s, .slice A3 n3 c3, .int .i64 E.t.lo.e, .bool E.t.hi.s, .slice A4 n4 c4, .int .i64 E.t.hi.e, .slice AX E.nx cX, .slice AU E.nu cU, .slice AP E.np cP] 44)) rfl hE.hi
 have hI : Ivs ((w.alloc (.cells #[.bool E.t.lo.s, .slice A3 n3 c3, .int .i64 E.t.lo.e, .bool E.t.hi.s, .slice A4 n4 c4, .int .i64 E.t.hi.e, .slice AX E.nx cX, .slice AU E.nu cU, .slice AP E.np cP] 44)).alloc (.cells #[.bool E.t.lo.s, .slice A3 n3 c3, .int .i64 E.t.lo.e, .bool E.t.hi.s, .slice A4 n4 c4, .int .i64 E.t.hi.e] 29)) (w.heap.size + 1) 0 1 (fun _ => E.t) := by have := ivs_one (w.alloc (.cells #[.bool E.t.lo.s, .slice A3 n3 c3, .int .i64 E.t.lo.e, .bool E.t.hi.s, .slice A4 n4 c4, .int .i64 E.t.hi.e, .slice AX E.nx cX, .slice AU E.nu cU, .slice AP E.np cP] 44)) lo1 hi1; simpa using this
 have xr : Blk (((w.alloc (.cells #[.bool E.t.lo.s, .slice A3 n3 c3, .int .i64 E.t.lo.e, .bool E.t.hi.s, .slice A4 n4 c4, .int .i64 E.t.hi.e, .slice AX E.nx cX, .slice AU E.nu cU, .slice AP E.np cP] 44)).alloc (.cells #[.bool E.t.lo.s, .slice A3 n3 c3, .int .i64 E.t.lo.e, .bool E.t.hi.s, .slice A4 n4 c4, .int .i64 E.t.hi.e] 29)).alloc (.cells #[.slice (some ⟨w.heap.size + 1, 0, none⟩) 1 1, .slice AX E.nx cX, .slice AU E.nu cU, .slice AP E.np cP] 39)) (w.heap.size + 2) #[.slice (some ⟨w.heap.size + 1, 0, none⟩) 1 1, .slice AX E.nx cX, .slice AU E.nu cU, .slice AP E.np cP] 39 := by have := Blk.new ((w.alloc (.cells #[.bool E.t.lo.s, .slice A3 n3 c3, .int .i64 E.t.lo.e, .bool E.t.hi.s, .slice A4 n4 c4, .int .i64 E.t.hi.e, .slice AX E.nx cX, .slice AU E.nu cU, .slice AP E.np cP] 44)).alloc (.cells #[.bool E.t.lo.s, .slice A3 n3 c3, .int .i64 E.t.lo.e, .bool E.t.hi.s, .slice A4 n4 c4, .int .i64 E.t.hi.e] 29)) #[.slice (some ⟨w.heap.size + 1, 0, none⟩) 1 1, .slice AX E.nx cX, .slice AU E.nu cU, .slice AP E.np cP] 39; simpa using this
 replace hI := mv (below_alloc ((w.alloc (.cells #[.bool E.t.lo.s, .slice A3 n3 c3, .int .i64 E.t.lo.e, .bool E.t.hi.s, .slice A4 n4 c4, .int .i64 E.t.hi.e, .slice AX E.nx cX, .slice AU E.nu cU, .slice AP E.np cP] 44)).alloc (.cells #[.bool E.t.lo.s, .slice A3 n3 c3, .int .i64 E.t.lo.e, .bool E.t.hi.s, .slice A4 n4 c4, .int .i64 E.t.hi.e] 29)) (.cells #[.slice (some ⟨w.heap.size + 1, 0, none⟩) 1 1, .slice AX E.nx cX, .slice AU E.nu cU, .slice AP E.np cP] 39)) rfl hI
 have G := mv BB rfl <| And.intro hT <| hE
 clear hT hE lo1 hi1
 obtain ⟨hT, hE⟩ := G
 have hrows := rows_env rfl hI hE xr
 clear hI xr
 obtain ⟨q, hq⟩ : ∃ q, q = mayE K E := ⟨_, rfl⟩
 rw [← hq]
 have HQ := Lib.hid hq
 clear hq
 go_enter Tryz.func81, Tryz.ntmps81
 go_wp2
 clear e0 e1 e2 e3 e4 e5 e6 e7 e8 xe
 go_loopg [18] 4 (fun q v wr => ∃ i : Nat, i + q = 4 ∧ v = .int .i64 i ∧ (∀ k, k < i → ∀ j, j < rowN E k → mayI K (rowX E k j) = true) ∧ Below w.heap.size w wr ∧ Below (((w.alloc (.cells #[.bool E.t.lo.s, .slice A3 n3 c3, .int .i64 E.t.lo.e, .bool E.t.hi.s, .slice A4 n4 c4, .int .i64 E.t.hi.e, .slice AX E.nx cX, .slice AU E.nu cU, .slice AP E.np cP] 44)).alloc (.cells #[.bool E.t.lo.s, .slice A3 n3 c3, .int .i64 E.t.lo.e, .bool E.t.hi.s, .slice A4 n4 c4, .int .i64 E.t.hi.e] 29)).alloc (.cells #[.slice (some ⟨w.heap.size + 1, 0, none⟩) 1 1, .slice AX E.nx cX, .slice AU E.nu cU, .slice AP E.np cP] 39)).heap.size (((w.alloc (.cells #[.bool E.t.lo.s, .slice A3 n3 c3, .int .i64 E.t.lo.e, .bool E.t.hi.s, .slice A4 n4 c4, .int .i64 E.t.hi.e, .slice AX E.nx cX, .slice AU E.nu cU, .slice AP E.np cP] 44)).alloc (.cells #[.bool E.t.lo.s, .slice A3 n3 c3, .int .i64 E.t.lo.e, .bool E.t.hi.s, .slice A4 n4 c4, .int .i64 E.t.hi.e] 29)).alloc (.cells #[.slice (some ⟨w.heap.size + 1, 0, none⟩) 1 1, .slice AX E.nx cX, .slice AU E.nu cU, .slice AP E.np cP] 39)) wr)
 case atStart => exact ⟨0, by omega, rfl, fun j hj => absurd hj (by omega), BB, Below.refl _ _⟩
 case round =>
  obtain ⟨i, hg, rfl, hall, hb, hb0⟩ := hrel
  have HG := Lib.hid hg
  clear hg
  have HA := Lib.hid hall
  clear hall
  by_cases hi : i < 4
  ·obtain ⟨B, c, r0, hR⟩ := hrows i hi
   replace r0 := mv hb0 rfl r0
   replace hR := mv hb0 rfl hR
   have hT1 := mv hb0 rfl hT
   obtain ⟨X, hX⟩ : ∃ X, X = rowX E i := ⟨_, rfl⟩
   obtain ⟨n, hn⟩ : ∃ n, n = rowN E i := ⟨_, rfl⟩
   rw [← hX, ← hn] at hR
   rw [← hn] at r0
   have HX := Lib.hid (And.intro hX hn)
   clear hX hn
   have hnm : (n : Int) ≤ 9223372036854775807 := by have := hR.cap; have := hR.max; omega
   generalize wr = Wa at *
   generalize gk = G1 at *
   have hp2 : (i : Int) < 4 := by omega
   have hp3 : (0 : Int) ≤ i := by omega
   go_wp2
   go_loopg [24] n (fun q v wr => ∃ j : Nat, j + q = n ∧ v = .int .i64 j ∧ (∀ k, k < j → mayI K (X k) = true) ∧ Below w.heap.size w wr ∧ Below (((w.alloc (.cells #[.bool E.t.lo.s, .slice A3 n3 c3, .int .i64 E.t.lo.e, .bool E.t.hi.s, .slice A4 n4 c4, .int .i64 E.t.hi.e, .slice AX E.nx cX, .slice AU E.nu cU, .slice AP E.np cP] 44)).alloc (.cells #[.bool E.t.lo.s, .slice A3 n3 c3, .int .i64 E.t.lo.e, .bool E.t.hi.s, .slice A4 n4 c4, .int .i64 E.t.hi.e] 29)).alloc (.cells #[.slice (some ⟨w.heap.size + 1, 0, none⟩) 1 1, .slice AX E.nx cX, .slice AU E.nu cU, .slice AP E.np cP] 39)).heap.size (((w.alloc (.cells #[.bool E.t.lo.s, .slice A3 n3 c3, .int .i64 E.t.lo.e, .bool E.t.hi.s, .slice A4 n4 c4, .int .i64 E.t.hi.e, .slice AX E.nx cX, .slice AU E.nu cU, .slice AP E.np cP] 44)).alloc (.cells #[.bool E.t.lo.s, .slice A3 n3 c3, .int .i64 E.t.lo.e, .bool E.t.hi.s, .slice A4 n4 c4, .int .i64 E.t.hi.e] 29)).alloc (.cells #[.slice (some ⟨w.heap.size + 1, 0, none⟩) 1 1, .slice AX E.nx cX, .slice AU E.nu cU, .slice AP E.np cP] 39)) wr ∧ Below Wa.heap.size Wa wr)
   case atStart => exact ⟨0, by omega, rfl, fun j hj => absurd hj (by omega), hb, hb0, Below.refl _ _⟩
   case round =>
    obtain ⟨j, hg, rfl, hall, hb2, hb3, hb4⟩ := hrel
    have HG2 := Lib.hid hg
    clear hg
    have HA2 := Lib.hid hall
    clear hall
    by_cases hj : j < n
    ·obtain ⟨gx, ox, hax, hI⟩ := hR.at_ (by omega)
     subst hax
     obtain ⟨A1, n1, c1, A2, n2, c2, ⟨r0, r1, r2, r3, r4, r5⟩, q1, q2⟩ := (hI.next hb4 rfl) j hj
     have hT2 := mv hb4 rfl hT1
     obtain ⟨x, hx⟩ : ∃ x, x = X j := ⟨_, rfl⟩
     rw [← hx] at r0 r2 r3 r5 q1 q2
     have HXJ := Lib.hid hx
     clear hx hI
     have hp4 : (j : Int) < n := by omega
     have hp5 : (0 : Int) ≤ j := by omega
     have b1 := below_alloc wr (.cells #[.bool x.lo.s, .slice A1 n1 c1, .int .i64 x.lo.e, .bool x.hi.s, .slice A2 n2 c2, .int .i64 x.hi.e] 29)
     obtain ⟨z0, z1, z2, z3, z4, z5⟩ := (Ibx.new wr x.lo.s A1 n1 c1 x.lo.e x.hi.s A2 n2 c2 x.hi.e).held
     replace q1 := q1.next b1 rfl
     replace q2 := q2.next b1 rfl
     replace hT2 := hT2.next b1 rfl
     replace hb2 := below_next hb2 hb2.size b1 rfl rfl rfl rfl
     replace hb3 := below_next hb3 hb3.size b1 rfl rfl rfl rfl
     replace hb4 := below_next hb4 hb4.size b1 rfl rfl rfl rfl
     go_wp2_with fail
     refine (imay_any (K := K) (x := x) hK hT2 q1 q2).mono ?_
     rintro en w2 ⟨rfl, b⟩
     replace hb2 := below_next hb2 hb2.size b rfl rfl rfl rfl
     replace hb3 := below_next hb3 hb3.size b rfl rfl rfl rfl
     replace hb4 := below_next hb4 hb4.size b rfl rfl rfl rfl
     clear b r0 r1 r2 r3 r4 r5 z0 z1 z2 z3 z4 z5 q1 q2 hT2 b1
     cases hml : mayI K x
     ·go_wp2
      go_ret
      refine ⟨?_, hb2⟩
      have hqq : q = false := by rw [HQ.out]; exact mayE_no hi (by rw [← HX.out.2]; exact hj) (by rw [← HX.out.1, ← HXJ.out]; exact hml)
      rw [hqq]; first | rfl | simp
     ·have HML := Lib.hid hml
      clear hml
      go_wp2
      go_roundg (gk - 1)
      case measure => have := HG2.out; omega
      case rel => exact ⟨j + 1, by have := HG2.out; omega, by go_num, up_next2 HA2.out (by rw [← HXJ.out]; exact HML.out), hb2, hb3, hb4⟩
    ·have hn : j = n := by have := HG2.out; omega
     subst hn
     have HROW := Lib.hid (show ∀ j', j' < rowN E i → mayI K (rowX E i j') = true from fun j' hj' => by have := HA2.out j' (by rw [HX.out.2]; exact hj'); rw [HX.out.1] at this; exact this)
     go_wp2
     go_roundg (G1 - 1)
     case measure => have := HG.out; omega
     case rel => exact ⟨i + 1, by have := HG.out; omega, by go_num, up_next2 HA.out HROW.out, hb2, hb3⟩
  ·have hn : i = 4 := by have := HG.out; omega
   subst hn
   go_wp2
   go_ret
   refine ⟨?_, hb⟩
   have hqq : q = true := by rw [HQ.out]; exact mayE_rows.2 HA.out
   rw [hqq]; first | rfl | simp

end Go.Proofs.YtlpjlmophlikeaaGreatDoor
