/-
  Contract of the statements' own told of layer 8: it returns true, at this translation.
-/
import Derived.Test.YtlpeheonbbaffaaGreatDoorQTr
set_option maxHeartbeats 8000000
set_option maxRecDepth 100000
namespace Go.Proofs.YtlpeheonbbaffaaGreatDoor
open Go.RowKit
variable {g : Nat} {w : World}
theorem uses_to {f : FuncId} {args : Array Value} {zs zs' : List Int} (h : zs = zs') (hc : Calls Tryz.prog f args w (UsesEnd zs' w)) : Calls Tryz.prog f args w (UsesEnd zs w) := by subst h; exact hc
theorem rd_none (w : World) : Rd w .u64 W none 0 0 Rw.zero.l := Rd.nil _ _ _ _ (by decide)
theorem rdl8 {A1 : Option Addr} {n1 c1 : Nat} {A2 : Option Addr} {n2 c2 : Nat} (x : Blk w g #[.int .i64 3, .int .i64 0, .int .i64 0, .bool false, .slice none 0 0, .int .i64 0, .bool false, .slice none 0 0, .int .i64 0, .int .i64 1, .int .i64 0, .int .i64 0, .bool q1.s, .slice A1 n1 c1, .int .i64 q1.e, .bool q1.s, .slice A2 n2 c2, .int .i64 q1.e, .int .i64 6, .int .i64 0, .int .i64 1, .bool false, .slice none 0 0, .int .i64 0, .bool false, .slice none 0 0, .int .i64 0, .int .i64 4, .int .i64 1, .int .i64 0, .bool false, .slice none 0 0, .int .i64 0, .bool false, .slice none 0 0, .int .i64 0] 31) (h1 : Rd w .u64 W A1 n1 c1 q1.l) (h2 : Rd w .u64 W A2 n2 c2 q1.l) : RdL w (some ⟨g, 0, none⟩) 4 4 L8 := ⟨Nat.le_refl 4, by decide, fun _ => ⟨g, 0, rfl, fun i hi => by
 rcases (show i = 0 ∨ i = 1 ∨ i = 2 ∨ i = 3 by omega) with rfl | rfl | rfl | rfl
 ·exact ⟨none, 0, 0, none, 0, 0, ⟨x.at 0, x.at 1, x.at 2, x.at 3, x.at 4, x.at 5, x.at 6, x.at 7, x.at 8⟩, rd_none w, rd_none w⟩
 ·exact ⟨A1, n1, c1, A2, n2, c2, ⟨x.at 9, x.at 10, x.at 11, x.at 12, x.at 13, x.at 14, x.at 15, x.at 16, x.at 17⟩, h1, h2⟩
 ·exact ⟨none, 0, 0, none, 0, 0, ⟨x.at 18, x.at 19, x.at 20, x.at 21, x.at 22, x.at 23, x.at 24, x.at 25, x.at 26⟩, rd_none w, rd_none w⟩
 exact ⟨none, 0, 0, none, 0, 0, ⟨x.at 27, x.at 28, x.at 29, x.at 30, x.at 31, x.at 32, x.at 33, x.at 34, x.at 35⟩, rd_none w, rd_none w⟩⟩⟩
theorem rdz8 (x : Blk w g #[.int .i64 2, .int .i64 3] 3) : RdZ w (some ⟨g, 0, none⟩) 2 2 O8 := ⟨Nat.le_refl 2, by decide, fun _ => ⟨g, 0, rfl, fun i hi => by
 rcases (show i = 0 ∨ i = 1 by omega) with rfl | rfl
 ·exact x.at 0
 exact x.at 1⟩⟩
theorem rde8 {g g' : Nat} {A1 : Option Addr} {n1 c1 : Nat} {A2 : Option Addr} {n2 c2 : Nat} (x : Blk w g #[.bool false, .slice none 0 0, .int .i64 0, .bool q1.s, .slice A2 n2 c2, .int .i64 q1.e] 29) (u : Blk w g' #[.bool q1.s, .slice A1 n1 c1, .int .i64 q1.e, .bool q1.s, .slice A2 n2 c2, .int .i64 q1.e, .bool q1.s, .slice A1 n1 c1, .int .i64 q1.e, .bool q1.s, .slice A2 n2 c2, .int .i64 q1.e] 29) (h1 : Rd w .u64 W A1 n1 c1 q1.l) (h2 : Rd w .u64 W A2 n2 c2 q1.l) : RdE w E8 none 0 0 none 0 0 (some ⟨g, 0, none⟩) 1 (some ⟨g', 0, none⟩) 2 none 0 :=
 ⟨rd_none w, rd_none w, ⟨Nat.le_refl 1, by decide, fun _ => ⟨g, 0, rfl, fun i hi => by
  obtain rfl : i = 0 := by have hi : i < 1 := hi; omega
  exact ⟨none, 0, 0, A2, n2, c2, ⟨x.at 0, x.at 1, x.at 2, x.at 3, x.at 4, x.at 5⟩, rd_none w, h2⟩⟩⟩, ⟨Nat.le_refl 2, by decide, fun _ => ⟨g', 0, rfl, fun i hi => by
  have hi : i < 2 := hi
  rcases (show i = 0 ∨ i = 1 by omega) with rfl | rfl
  ·exact ⟨A1, n1, c1, A2, n2, c2, ⟨u.at 0, u.at 1, u.at 2, u.at 3, u.at 4, u.at 5⟩, h1, h2⟩
  exact ⟨A1, n1, c1, A2, n2, c2, ⟨u.at 6, u.at 7, u.at 8, u.at 9, u.at 10, u.at 11⟩, h1, h2⟩⟩⟩, ⟨Nat.le_refl 0, by decide, fun h => absurd rfl h⟩⟩
theorem rde0 (w : World) : RdE w E0 none 0 0 none 0 0 none 0 none 0 none 0 := ⟨rd_none w, rd_none w, ⟨Nat.le_refl 0, by decide, fun h => absurd rfl h⟩, ⟨Nat.le_refl 0, by decide, fun h => absurd rfl h⟩, ⟨Nat.le_refl 0, by decide, fun h => absurd rfl h⟩⟩
theorem told8_any (hT : Tab w) :
  Calls Tryz.prog 27 #[] w (Bools true w) := by
 obtain ⟨S⟩ := sc_has
 have BB := below_alloc w (.cells #[.int .u64 1] 46)
 have N1 := nt_one_at (w := w) (v := 1) rfl (by omega) (by omega)
 replace hT := mv BB rfl hT
 go_enter Tryz.func27, Tryz.ntmps27
 go_wp2_with fail
 refine (iof_any (a := q1) N1.rd (by decide)).mono ?_
 rintro en v1 ⟨A1, n1, c1, A2, n2, c2, rfl, h1, h2, b⟩
 clear N1
 replace BB := bnx BB b
 replace hT := mv b rfl hT
 clear b
 have HX := Lib.hid (show ((⟨q1, q1⟩ : Iv).lo.s = q1.s ∧ (⟨q1, q1⟩ : Iv).lo.e = q1.e) ∧ (⟨q1, q1⟩ : Iv).hi.s = q1.s ∧ (⟨q1, q1⟩ : Iv).hi.e = q1.e from ⟨⟨rfl, rfl⟩, rfl, rfl⟩)
 replace h1 : Rd v1 .u64 W A1 n1 c1 q1.l := h1
 replace h2 : Rd v1 .u64 W A2 n2 c2 q1.l := h2
 dsimp only
 have b := below_alloc v1 (.cells #[.bool q1.s, .slice A1 n1 c1, .int .i64 q1.e, .bool q1.s, .slice A2 n2 c2, .int .i64 q1.e] 29)
 have xa := Blk.new v1 #[.bool q1.s, .slice A1 n1 c1, .int .i64 q1.e, .bool q1.s, .slice A2 n2 c2, .int .i64 q1.e] 29
 replace BB := bnx BB b
 have G := mv b rfl (J3 hT h1 h2)
 clear b hT h1 h2
 obtain ⟨hT, h1, h2⟩ := G
 have a0 : World.cell? _ ⟨_, 0, none⟩ = some (.bool q1.s) := xa.at 0
 have a1 : World.cell? _ ⟨_, 1, none⟩ = some (.slice A1 n1 c1) := xa.at 1
 have a2 : World.cell? _ ⟨_, 2, none⟩ = some (.int .i64 q1.e) := xa.at 2
 have a3 : World.cell? _ ⟨_, 3, none⟩ = some (.bool q1.s) := xa.at 3
 have a4 : World.cell? _ ⟨_, 4, none⟩ = some (.slice A2 n2 c2) := xa.at 4
 have a5 : World.cell? _ ⟨_, 5, none⟩ = some (.int .i64 q1.e) := xa.at 5
 go_upto_region 2 with fail
 generalize v1.alloc (.cells #[.bool q1.s, .slice A1 n1 c1, .int .i64 q1.e, .bool q1.s, .slice A2 n2 c2, .int .i64 q1.e] 29) = U0 at *
 generalize v1.heap.size = s0 at *
 have b := three_below U0 (.cells #[.int .i64 3, .int .i64 0, .int .i64 0, .bool false, .slice none 0 0, .int .i64 0, .bool false, .slice none 0 0, .int .i64 0, .int .i64 1, .int .i64 0, .int .i64 0, .bool q1.s, .slice A1 n1 c1, .int .i64 q1.e, .bool q1.s, .slice A2 n2 c2, .int .i64 q1.e, .int .i64 6, .int .i64 0, .int .i64 1, .bool false, .slice none 0 0, .int .i64 0, .bool false, .slice none 0 0, .int .i64 0, .int .i64 4, .int .i64 1, .int .i64 0, .bool false, .slice none 0 0, .int .i64 0, .bool false, .slice none 0 0, .int .i64 0] 31) (.cells #[.int .i64 2, .int .i64 3] 3) (.cells #[.slice (some ⟨U0.heap.size, 0, none⟩) 4 4, .slice (some ⟨U0.heap.size + 1, 0, none⟩) 2 2] 35)
 have xl := mv (two_below (U0.alloc (.cells #[.int .i64 3, .int .i64 0, .int .i64 0, .bool false, .slice none 0 0, .int .i64 0, .bool false, .slice none 0 0, .int .i64 0, .int .i64 1, .int .i64 0, .int .i64 0, .bool q1.s, .slice A1 n1 c1, .int .i64 q1.e, .bool q1.s, .slice A2 n2 c2, .int .i64 q1.e, .int .i64 6, .int .i64 0, .int .i64 1, .bool false, .slice none 0 0, .int .i64 0, .bool false, .slice none 0 0, .int .i64 0, .int .i64 4, .int .i64 1, .int .i64 0, .bool false, .slice none 0 0, .int .i64 0, .bool false, .slice none 0 0, .int .i64 0] 31)) (.cells #[.int .i64 2, .int .i64 3] 3) (.cells #[.slice (some ⟨U0.heap.size, 0, none⟩) 4 4, .slice (some ⟨U0.heap.size + 1, 0, none⟩) 2 2] 35)) rfl (Blk.new U0 #[.int .i64 3, .int .i64 0, .int .i64 0, .bool false, .slice none 0 0, .int .i64 0, .bool false, .slice none 0 0, .int .i64 0, .int .i64 1, .int .i64 0, .int .i64 0, .bool q1.s, .slice A1 n1 c1, .int .i64 q1.e, .bool q1.s, .slice A2 n2 c2, .int .i64 q1.e, .int .i64 6, .int .i64 0, .int .i64 1, .bool false, .slice none 0 0, .int .i64 0, .bool false, .slice none 0 0, .int .i64 0, .int .i64 4, .int .i64 1, .int .i64 0, .bool false, .slice none 0 0, .int .i64 0, .bool false, .slice none 0 0, .int .i64 0] 31)
 have xo : Blk ((U0.alloc (.cells #[.int .i64 3, .int .i64 0, .int .i64 0, .bool false, .slice none 0 0, .int .i64 0, .bool false, .slice none 0 0, .int .i64 0, .int .i64 1, .int .i64 0, .int .i64 0, .bool q1.s, .slice A1 n1 c1, .int .i64 q1.e, .bool q1.s, .slice A2 n2 c2, .int .i64 q1.e, .int .i64 6, .int .i64 0, .int .i64 1, .bool false, .slice none 0 0, .int .i64 0, .bool false, .slice none 0 0, .int .i64 0, .int .i64 4, .int .i64 1, .int .i64 0, .bool false, .slice none 0 0, .int .i64 0, .bool false, .slice none 0 0, .int .i64 0] 31)).alloc (.cells #[.int .i64 2, .int .i64 3] 3)) (U0.heap.size + 1) #[.int .i64 2, .int .i64 3] 3 := by have := Blk.new (U0.alloc (.cells #[.int .i64 3, .int .i64 0, .int .i64 0, .bool false, .slice none 0 0, .int .i64 0, .bool false, .slice none 0 0, .int .i64 0, .int .i64 1, .int .i64 0, .int .i64 0, .bool q1.s, .slice A1 n1 c1, .int .i64 q1.e, .bool q1.s, .slice A2 n2 c2, .int .i64 q1.e, .int .i64 6, .int .i64 0, .int .i64 1, .bool false, .slice none 0 0, .int .i64 0, .bool false, .slice none 0 0, .int .i64 0, .int .i64 4, .int .i64 1, .int .i64 0, .bool false, .slice none 0 0, .int .i64 0, .bool false, .slice none 0 0, .int .i64 0] 31)) #[.int .i64 2, .int .i64 3] 3; rwa [World.size_alloc] at this
 replace xo := mv (below_alloc ((U0.alloc (.cells #[.int .i64 3, .int .i64 0, .int .i64 0, .bool false, .slice none 0 0, .int .i64 0, .bool false, .slice none 0 0, .int .i64 0, .int .i64 1, .int .i64 0, .int .i64 0, .bool q1.s, .slice A1 n1 c1, .int .i64 q1.e, .bool q1.s, .slice A2 n2 c2, .int .i64 q1.e, .int .i64 6, .int .i64 0, .int .i64 1, .bool false, .slice none 0 0, .int .i64 0, .bool false, .slice none 0 0, .int .i64 0, .int .i64 4, .int .i64 1, .int .i64 0, .bool false, .slice none 0 0, .int .i64 0, .bool false, .slice none 0 0, .int .i64 0] 31)).alloc (.cells #[.int .i64 2, .int .i64 3] 3)) (.cells #[.slice (some ⟨U0.heap.size, 0, none⟩) 4 4, .slice (some ⟨U0.heap.size + 1, 0, none⟩) 2 2] 35)) rfl xo
 have xt : Blk (((U0.alloc (.cells #[.int .i64 3, .int .i64 0, .int .i64 0, .bool false, .slice none 0 0, .int .i64 0, .bool false, .slice none 0 0, .int .i64 0, .int .i64 1, .int .i64 0, .int .i64 0, .bool q1.s, .slice A1 n1 c1, .int .i64 q1.e, .bool q1.s, .slice A2 n2 c2, .int .i64 q1.e, .int .i64 6, .int .i64 0, .int .i64 1, .bool false, .slice none 0 0, .int .i64 0, .bool false, .slice none 0 0, .int .i64 0, .int .i64 4, .int .i64 1, .int .i64 0, .bool false, .slice none 0 0, .int .i64 0, .bool false, .slice none 0 0, .int .i64 0] 31)).alloc (.cells #[.int .i64 2, .int .i64 3] 3)).alloc (.cells #[.slice (some ⟨U0.heap.size, 0, none⟩) 4 4, .slice (some ⟨U0.heap.size + 1, 0, none⟩) 2 2] 35)) (U0.heap.size + 2) #[.slice (some ⟨U0.heap.size, 0, none⟩) 4 4, .slice (some ⟨U0.heap.size + 1, 0, none⟩) 2 2] 35 := by have := Blk.new ((U0.alloc (.cells #[.int .i64 3, .int .i64 0, .int .i64 0, .bool false, .slice none 0 0, .int .i64 0, .bool false, .slice none 0 0, .int .i64 0, .int .i64 1, .int .i64 0, .int .i64 0, .bool q1.s, .slice A1 n1 c1, .int .i64 q1.e, .bool q1.s, .slice A2 n2 c2, .int .i64 q1.e, .int .i64 6, .int .i64 0, .int .i64 1, .bool false, .slice none 0 0, .int .i64 0, .bool false, .slice none 0 0, .int .i64 0, .int .i64 4, .int .i64 1, .int .i64 0, .bool false, .slice none 0 0, .int .i64 0, .bool false, .slice none 0 0, .int .i64 0] 31)).alloc (.cells #[.int .i64 2, .int .i64 3] 3)) #[.slice (some ⟨U0.heap.size, 0, none⟩) 4 4, .slice (some ⟨U0.heap.size + 1, 0, none⟩) 2 2] 35; rwa [World.size_alloc, World.size_alloc] at this
 replace BB := bnx BB b
 have G := mv b rfl (J10 hT h1 h2 xa a0 a1 a2 a3 a4 a5)
 clear b hT h1 h2 xa
 obtain ⟨hT, h1, h2, xa, k0, k1, k2, k3, k4, k5⟩ := G
 go_upto_region 3 with fail
 clear a0 a1 a2 a3 a4 a5
 generalize ((U0.alloc (.cells #[.int .i64 3, .int .i64 0, .int .i64 0, .bool false, .slice none 0 0, .int .i64 0, .bool false, .slice none 0 0, .int .i64 0, .int .i64 1, .int .i64 0, .int .i64 0, .bool q1.s, .slice A1 n1 c1, .int .i64 q1.e, .bool q1.s, .slice A2 n2 c2, .int .i64 q1.e, .int .i64 6, .int .i64 0, .int .i64 1, .bool false, .slice none 0 0, .int .i64 0, .bool false, .slice none 0 0, .int .i64 0, .int .i64 4, .int .i64 1, .int .i64 0, .bool false, .slice none 0 0, .int .i64 0, .bool false, .slice none 0 0, .int .i64 0] 31)).alloc (.cells #[.int .i64 2, .int .i64 3] 3)).alloc (.cells #[.slice (some ⟨U0.heap.size, 0, none⟩) 4 4, .slice (some ⟨U0.heap.size + 1, 0, none⟩) 2 2] 35) = U3 at *
 generalize U0.heap.size = s1 at *
 have a0 := k0
 have a1 := k1
 have a2 := k2
 have a3 := k3
 have a4 := k4
 have a5 := k5
 clear k0 k1 k2 k3 k4 k5
 have b := three_below U3 (.cells #[.bool false, .slice none 0 0, .int .i64 0, .bool q1.s, .slice A2 n2 c2, .int .i64 q1.e] 29) (.cells #[.bool q1.s, .slice A1 n1 c1, .int .i64 q1.e, .bool q1.s, .slice A2 n2 c2, .int .i64 q1.e, .bool q1.s, .slice A1 n1 c1, .int .i64 q1.e, .bool q1.s, .slice A2 n2 c2, .int .i64 q1.e] 29) (.cells #[.bool false, .slice none 0 0, .int .i64 0, .bool false, .slice none 0 0, .int .i64 0, .slice (some ⟨U3.heap.size, 0, none⟩) 1 1, .slice (some ⟨U3.heap.size + 1, 0, none⟩) 2 2, .slice none 0 0] 55)
 have xx := mv (two_below (U3.alloc (.cells #[.bool false, .slice none 0 0, .int .i64 0, .bool q1.s, .slice A2 n2 c2, .int .i64 q1.e] 29)) (.cells #[.bool q1.s, .slice A1 n1 c1, .int .i64 q1.e, .bool q1.s, .slice A2 n2 c2, .int .i64 q1.e, .bool q1.s, .slice A1 n1 c1, .int .i64 q1.e, .bool q1.s, .slice A2 n2 c2, .int .i64 q1.e] 29) (.cells #[.bool false, .slice none 0 0, .int .i64 0, .bool false, .slice none 0 0, .int .i64 0, .slice (some ⟨U3.heap.size, 0, none⟩) 1 1, .slice (some ⟨U3.heap.size + 1, 0, none⟩) 2 2, .slice none 0 0] 55)) rfl (Blk.new U3 #[.bool false, .slice none 0 0, .int .i64 0, .bool q1.s, .slice A2 n2 c2, .int .i64 q1.e] 29)
 have xu : Blk ((U3.alloc (.cells #[.bool false, .slice none 0 0, .int .i64 0, .bool q1.s, .slice A2 n2 c2, .int .i64 q1.e] 29)).alloc (.cells #[.bool q1.s, .slice A1 n1 c1, .int .i64 q1.e, .bool q1.s, .slice A2 n2 c2, .int .i64 q1.e, .bool q1.s, .slice A1 n1 c1, .int .i64 q1.e, .bool q1.s, .slice A2 n2 c2, .int .i64 q1.e] 29)) (U3.heap.size + 1) #[.bool q1.s, .slice A1 n1 c1, .int .i64 q1.e, .bool q1.s, .slice A2 n2 c2, .int .i64 q1.e, .bool q1.s, .slice A1 n1 c1, .int .i64 q1.e, .bool q1.s, .slice A2 n2 c2, .int .i64 q1.e] 29 := by have := Blk.new (U3.alloc (.cells #[.bool false, .slice none 0 0, .int .i64 0, .bool q1.s, .slice A2 n2 c2, .int .i64 q1.e] 29)) #[.bool q1.s, .slice A1 n1 c1, .int .i64 q1.e, .bool q1.s, .slice A2 n2 c2, .int .i64 q1.e, .bool q1.s, .slice A1 n1 c1, .int .i64 q1.e, .bool q1.s, .slice A2 n2 c2, .int .i64 q1.e] 29; rwa [World.size_alloc] at this
 replace xu := mv (below_alloc ((U3.alloc (.cells #[.bool false, .slice none 0 0, .int .i64 0, .bool q1.s, .slice A2 n2 c2, .int .i64 q1.e] 29)).alloc (.cells #[.bool q1.s, .slice A1 n1 c1, .int .i64 q1.e, .bool q1.s, .slice A2 n2 c2, .int .i64 q1.e, .bool q1.s, .slice A1 n1 c1, .int .i64 q1.e, .bool q1.s, .slice A2 n2 c2, .int .i64 q1.e] 29)) (.cells #[.bool false, .slice none 0 0, .int .i64 0, .bool false, .slice none 0 0, .int .i64 0, .slice (some ⟨U3.heap.size, 0, none⟩) 1 1, .slice (some ⟨U3.heap.size + 1, 0, none⟩) 2 2, .slice none 0 0] 55)) rfl xu
 have xe : Blk (((U3.alloc (.cells #[.bool false, .slice none 0 0, .int .i64 0, .bool q1.s, .slice A2 n2 c2, .int .i64 q1.e] 29)).alloc (.cells #[.bool q1.s, .slice A1 n1 c1, .int .i64 q1.e, .bool q1.s, .slice A2 n2 c2, .int .i64 q1.e, .bool q1.s, .slice A1 n1 c1, .int .i64 q1.e, .bool q1.s, .slice A2 n2 c2, .int .i64 q1.e] 29)).alloc (.cells #[.bool false, .slice none 0 0, .int .i64 0, .bool false, .slice none 0 0, .int .i64 0, .slice (some ⟨U3.heap.size, 0, none⟩) 1 1, .slice (some ⟨U3.heap.size + 1, 0, none⟩) 2 2, .slice none 0 0] 55)) (U3.heap.size + 2) #[.bool false, .slice none 0 0, .int .i64 0, .bool false, .slice none 0 0, .int .i64 0, .slice (some ⟨U3.heap.size, 0, none⟩) 1 1, .slice (some ⟨U3.heap.size + 1, 0, none⟩) 2 2, .slice none 0 0] 55 := by have := Blk.new ((U3.alloc (.cells #[.bool false, .slice none 0 0, .int .i64 0, .bool q1.s, .slice A2 n2 c2, .int .i64 q1.e] 29)).alloc (.cells #[.bool q1.s, .slice A1 n1 c1, .int .i64 q1.e, .bool q1.s, .slice A2 n2 c2, .int .i64 q1.e, .bool q1.s, .slice A1 n1 c1, .int .i64 q1.e, .bool q1.s, .slice A2 n2 c2, .int .i64 q1.e] 29)) #[.bool false, .slice none 0 0, .int .i64 0, .bool false, .slice none 0 0, .int .i64 0, .slice (some ⟨U3.heap.size, 0, none⟩) 1 1, .slice (some ⟨U3.heap.size + 1, 0, none⟩) 2 2, .slice none 0 0] 55; rwa [World.size_alloc, World.size_alloc] at this
 replace BB := bnx BB b
 have G := mv b rfl (J13 hT h1 h2 xa xl xo xt a0 a1 a2 a3 a4 a5)
 clear b hT h1 h2 xa xl xo xt
 obtain ⟨hT, h1, h2, xa, xl, xo, xt, b0, b1, b2, b3, b4, b5⟩ := G
 have hL := rdl8 xl h1 h2
 have hO := rdz8 xo
 have hE := rde8 xx xu h1 h2
 clear xl xo xx xu
 have e0 : World.cell? _ ⟨_, 0, none⟩ = some (.bool false) := xe.at 0
 have e1 : World.cell? _ ⟨_, 1, none⟩ = some (.slice none 0 0) := xe.at 1
 have e2 : World.cell? _ ⟨_, 2, none⟩ = some (.int .i64 0) := xe.at 2
 have e3 : World.cell? _ ⟨_, 3, none⟩ = some (.bool false) := xe.at 3
 have e4 : World.cell? _ ⟨_, 4, none⟩ = some (.slice none 0 0) := xe.at 4
 have e5 : World.cell? _ ⟨_, 5, none⟩ = some (.int .i64 0) := xe.at 5
 have e6 : World.cell? _ ⟨_, 6, none⟩ = some (.slice (some ⟨U3.heap.size, 0, none⟩) 1 1) := xe.at 6
 have e7 : World.cell? _ ⟨_, 7, none⟩ = some (.slice (some ⟨U3.heap.size + 1, 0, none⟩) 2 2) := xe.at 7
 have e8 : World.cell? _ ⟨_, 8, none⟩ = some (.slice none 0 0) := xe.at 8
 have t0 : World.cell? _ ⟨_, 0, none⟩ = some (.slice (some ⟨s1, 0, none⟩) 4 4) := xt.at 0
 have t1 : World.cell? _ ⟨_, 1, none⟩ = some (.slice (some ⟨s1 + 1, 0, none⟩) 2 2) := xt.at 1
 clear xe
 have k0 := mv (below_alloc U3 (.cells #[.bool false, .slice none 0 0, .int .i64 0, .bool q1.s, .slice A2 n2 c2, .int .i64 q1.e] 29)) rfl a0
 have k1 := mv (below_alloc U3 (.cells #[.bool false, .slice none 0 0, .int .i64 0, .bool q1.s, .slice A2 n2 c2, .int .i64 q1.e] 29)) rfl a1
 have k2 := mv (below_alloc U3 (.cells #[.bool false, .slice none 0 0, .int .i64 0, .bool q1.s, .slice A2 n2 c2, .int .i64 q1.e] 29)) rfl a2
 have k3 := mv (below_alloc U3 (.cells #[.bool false, .slice none 0 0, .int .i64 0, .bool q1.s, .slice A2 n2 c2, .int .i64 q1.e] 29)) rfl a3
 have k4 := mv (below_alloc U3 (.cells #[.bool false, .slice none 0 0, .int .i64 0, .bool q1.s, .slice A2 n2 c2, .int .i64 q1.e] 29)) rfl a4
 have k5 := mv (below_alloc U3 (.cells #[.bool false, .slice none 0 0, .int .i64 0, .bool q1.s, .slice A2 n2 c2, .int .i64 q1.e] 29)) rfl a5
 go_wp2_with fail
 refine (tellr_to (eval8 S).symm (teval_any S (E := E8) (p := 20) hT hL hO hE)).mono ?_
 rintro en V2 ⟨va, rfl, hrow, b⟩
 clear hE a0 a1 a2 a3 a4 a5 b0 b1 b2 b3 b4 b5 k0 k1 k2 k3 k4 k5 e0 e1 e2 e3 e4 e5 e6 e7 e8
 replace BB := bnx BB b
 have G := mv b rfl (J8 hT h1 h2 xa hL hO t0 t1)
 clear b hT h1 h2 xa hL hO t0 t1
 obtain ⟨hT, h1, h2, xa, hL, hO, t0, t1⟩ := G
 simp only [okc]
 simp only [oli] at hrow
 obtain ⟨AV, cV, hva, hV, _⟩ := hrow.form
 clear hrow
 replace hva : va = .slice AV 2 cV := hva
 subst hva
 replace hV : RdS V2 AV 2 cV (fun i => ([⟨q1, q2⟩, ⟨q1, q1⟩] : List Iv).getD i Iv.zero) := hV
 obtain ⟨gv, ov, hav, hI⟩ := hV.at_ (by omega)
 subst hav
 have hI0 : IvAt V2 gv ov ⟨q1, q2⟩ := hI 0 (by omega)
 clear hI hV
 obtain ⟨A5, n5, c5, A6, n6, c6, ⟨r0, r1, r2, r3, r4, r5⟩, h5, _⟩ := hI0
 go_wp2_with fail
 refine (uses_to (uses8_1 S.K).symm (tuses_any S.big hT hL hO)).mono ?_
 rintro en V3 ⟨AU, cU, hen, hz, b⟩
 replace hen : en = .returned (.slice AU 1 cU) := hen
 subst hen
 replace BB := bnx BB b
 have G := mv b rfl (J13 hT h1 h2 xa hL hO t0 t1 r0 r1 r2 r5 h5)
 clear b hT h1 h2 xa hL hO t0 t1 r0 r1 r2 r5 h5
 obtain ⟨hT, h1, h2, xa, hL, hO, t0, t1, r0, r1, r2, r5, h5⟩ := G
 obtain ⟨gz, oz, haz, hc⟩ := hz.at_ (by decide)
 have z0 : V3.cell? ⟨gz, oz, none⟩ = some (.int .i64 1) := hc 0 (by decide)
 subst haz
 clear hc hz
 go_wp2_with fail
 refine (tellr_to (eval0 S).symm (teval_any S (E := E0) (p := 20) hT hL hO (rde0 _))).mono ?_
 rintro en V4 ⟨vb, rfl, _, b⟩
 replace BB := bnx BB b
 have G := mv b rfl (J14 hT h1 h2 xa hL hO t0 t1 r0 r1 r2 r5 h5 z0)
 clear b hT h1 h2 xa hL hO t0 t1 r0 r1 r2 r5 h5 z0
 obtain ⟨hT, h1, h2, xa, hL, hO, t0, t1, r0, r1, r2, r5, h5, z0⟩ := G
 simp only [okc]
 have a0 : World.cell? _ ⟨_, 0, none⟩ = some (.bool q1.s) := xa.at 0
 have a1 : World.cell? _ ⟨_, 1, none⟩ = some (.slice A1 n1 c1) := xa.at 1
 have a2 : World.cell? _ ⟨_, 2, none⟩ = some (.int .i64 q1.e) := xa.at 2
 have b : Below V4.heap.size V4 (World.drew V4) := below_drewN (Below.refl _ _) 1
 go_wp2_with fail
 replace BB := bnx BB b
 have G := mv b rfl (J16 hT h1 h2 hL hO t0 t1 r0 r1 r2 r5 h5 z0 a0 a1 a2)
 clear b hT h1 h2 hL hO t0 t1 r0 r1 r2 r5 h5 z0 a0 a1 a2
 obtain ⟨hT, h1, h2, hL, hO, t0, t1, r0, r1, r2, r5, h5, z0, a0, a1, a2⟩ := G
 refine wp_region_held_drew (S := fun w' => w'.cell? ⟨gv, ov, none⟩ = some (.bool q1.s) ∧ w'.cell? ⟨gv, ov + 1, none⟩ = some (.slice A5 n5 c5) ∧ w'.cell? ⟨gv, ov + 2, none⟩ = some (.int .i64 q1.e) ∧ w'.cell? ⟨gv, ov + 5, none⟩ = some (.int .i64 q2.e) ∧ w'.cell? ⟨s0, 0, none⟩ = some (.bool q1.s) ∧ w'.cell? ⟨s0, 1, none⟩ = some (.slice A1 n1 c1) ∧ w'.cell? ⟨s0, 2, none⟩ = some (.int .i64 q1.e) ∧ w'.cell? ⟨gz, oz, none⟩ = some (.int .i64 1) ∧ w'.cell? ⟨s1 + 2, 0, none⟩ = some (.slice (some ⟨s1, 0, none⟩) 4 4) ∧ w'.cell? ⟨s1 + 2, 1, none⟩ = some (.slice (some ⟨s1 + 1, 0, none⟩) 2 2)) (by kernel_rfl) (by exact ⟨r0, r1, r2, r5, a0, a1, a2, z0, t0, t1⟩) (fun hHeldv0 => ?_)
 generalize World.drew V4 = wd at *
 refine tl 0 ?_
 refine tl 1 ?_
 refine tl 2 ?_
 refine tl 3 ?_
 refine tl 4 ?_
 refine tl 5 ?_
 refine tl 6 ?_
 refine tl 7 ?_
 refine tl 8 ?_
 refine tl 9 ?_
 refine tl 10 ?_
 refine tl 11 ?_
 refine tl 12 ?_
 refine tl 13 ?_
 refine rdy 14 fun K hK => ?_
 go_simp
 refine (dsame_eq (s := q1.s) (e := q1.e) h5 h1).mono ?_
 rintro en y1 ⟨rfl, b⟩
 rw [decide_eq_true rfl]
 replace BB := bnx BB b
 have G := mv b (by rfl) (J16 hT h1 h2 hL hO t0 t1 r0 r1 r2 r5 h5 z0 a0 a1 a2)
 clear b hT h1 h2 hL hO t0 t1 r0 r1 r2 r5 h5 z0 a0 a1 a2
 obtain ⟨hT, h1, h2, hL, hO, t0, t1, r0, r1, r2, r5, h5, z0, a0, a1, a2⟩ := G
 refine hK.out _ _ (by exact ⟨r0, r1, r2, r5, a0, a1, a2, z0, t0, t1⟩) (fun hHeldv1 => ?_)
 clear hK K hHeldv0
 try simp only [Act.put]
 refine tl 15 ?_
 refine tl 16 ?_
 refine tl 17 ?_
 refine tl 18 ?_
 refine tl 19 ?_
 refine tl 20 ?_
 refine tl 21 ?_
 refine tl 22 ?_
 refine tl 23 ?_
 refine tl 24 ?_
 refine tl 25 ?_
 refine tl 26 ?_
 refine tl 27 ?_
 refine tl 28 ?_
 refine tl 29 ?_
 refine tl 30 ?_
 refine tl 31 ?_
 refine tl 32 ?_
 refine tl 33 ?_
 refine tl 34 ?_
 refine tl 35 ?_
 refine tl 36 ?_
 refine rdy 37 fun K hK => ?_
 go_simp
 refine (uses_to (uses8_0 S.K).symm (tuses_any S.big hT hL hO)).mono ?_
 rintro en y2 ⟨AW, cW, hen, _, b⟩
 replace hen : en = .returned (.slice AW 0 cW) := hen
 subst hen
 replace BB := bnx BB b
 have G := mv b (by rfl) (J16 hT h1 h2 hL hO t0 t1 r0 r1 r2 r5 h5 z0 a0 a1 a2)
 clear b hT h1 h2 hL hO t0 t1 r0 r1 r2 r5 h5 z0 a0 a1 a2
 obtain ⟨hT, h1, h2, hL, hO, t0, t1, r0, r1, r2, r5, h5, z0, a0, a1, a2⟩ := G
 refine hK.out _ _ (by exact ⟨r0, r1, r2, r5, a0, a1, a2, z0, t0, t1⟩) (fun hHeldv2 => ?_)
 clear hK K hHeldv1
 try simp only [Act.put]
 refine tl 38 ?_
 refine tl 39 ?_
 refine tl 40 ?_
 refine tl 41 ?_
 refine tl 42 ?_
 refine tl 43 ?_
 refine tl 44 ?_
 refine tl 45 ?_
 refine tl 46 ?_
 refine rdy 47 fun K hK => ?_
 go_simp
 refine (tmay_any (x := 1) (u := 2) (p := 0) S.big hT hL hO).mono ?_
 rintro en y3 ⟨rfl, b⟩
 rw [show mayT S.K ⟨4, L8, 2, O8⟩ 1 2 0 = true from may8 S.K (by omega) (by omega)]
 replace BB := bnx BB b
 have G := mv b (by rfl) (J16 hT h1 h2 hL hO t0 t1 r0 r1 r2 r5 h5 z0 a0 a1 a2)
 clear b hT h1 h2 hL hO t0 t1 r0 r1 r2 r5 h5 z0 a0 a1 a2
 obtain ⟨hT, h1, h2, hL, hO, t0, t1, r0, r1, r2, r5, h5, z0, a0, a1, a2⟩ := G
 refine hK.out _ _ (by exact ⟨r0, r1, r2, r5, a0, a1, a2, z0, t0, t1⟩) (fun hHeldv3 => ?_)
 clear hK K hHeldv2
 try simp only [Act.put]
 refine tl 48 ?_
 refine tl 49 ?_
 refine tl 50 ?_
 refine rdy 51 fun K hK => ?_
 go_simp
 refine (tmay_any (x := 1) (u := 1) (p := 0) S.big hT hL hO).mono ?_
 rintro en y4 ⟨rfl, b⟩
 rw [show mayT S.K ⟨4, L8, 2, O8⟩ 1 1 0 = false from may8_no S.K]
 replace BB := bnx BB b
 have G := mv b (by rfl) (J16 hT h1 h2 hL hO t0 t1 r0 r1 r2 r5 h5 z0 a0 a1 a2)
 clear b hT h1 h2 hL hO t0 t1 r0 r1 r2 r5 h5 z0 a0 a1 a2
 obtain ⟨hT, h1, h2, hL, hO, t0, t1, r0, r1, r2, r5, h5, z0, a0, a1, a2⟩ := G
 refine hK.out _ _ (by exact ⟨r0, r1, r2, r5, a0, a1, a2, z0, t0, t1⟩) (fun hHeldv4 => ?_)
 clear hK K hHeldv3
 try simp only [Act.put]
 refine tl 52 ?_
 refine tl 53 ?_
 refine tl 54 ?_
 refine rdy 55 fun K hK => ?_
 go_simp
 have b := below_alloc y4 (.cells #[.int .i64 0] 3)
 have xq := Blk.new y4 #[.int .i64 0] 3
 replace BB := bnx BB b
 have G := mv b (by rfl) (J16 hT h1 h2 hL hO t0 t1 r0 r1 r2 r5 h5 z0 a0 a1 a2)
 clear b hT h1 h2 hL hO t0 t1 r0 r1 r2 r5 h5 z0 a0 a1 a2
 obtain ⟨hT, h1, h2, hL, hO, t0, t1, r0, r1, r2, r5, h5, z0, a0, a1, a2⟩ := G
 refine hK.out _ _ (by exact ⟨r0, r1, r2, r5, a0, a1, a2, z0, t0, t1⟩) (fun hHeldv5 => ?_)
 clear hK K hHeldv4
 try simp only [Act.put]
 refine tl 56 ?_
 refine rdy 57 fun K hK => ?_
 go_simp
 refine (tmay_any (L := L8) (O := fun _ => 0) (x := 0) (u := 0) (p := 0) S.big hT ⟨Nat.le_refl 0, by decide, fun h => absurd rfl h⟩ ⟨Nat.le_refl 1, by decide, fun _ => ⟨y4.heap.size, 0, rfl, fun i hi => by obtain rfl : i = 0 := (by omega); exact xq.at 0⟩⟩).mono ?_
 rintro en y5 ⟨rfl, b⟩
 rw [show mayT S.K ⟨0, L8, 1, fun _ => 0⟩ 0 0 0 = false from may8_out S.K _ _ rfl]
 replace BB := bnx BB b
 have G := mv b (by rfl) (J16 hT h1 h2 hL hO t0 t1 r0 r1 r2 r5 h5 z0 a0 a1 a2)
 clear b hT h1 h2 hL hO t0 t1 r0 r1 r2 r5 h5 z0 a0 a1 a2
 obtain ⟨hT, h1, h2, hL, hO, t0, t1, r0, r1, r2, r5, h5, z0, a0, a1, a2⟩ := G
 refine hK.out _ _ (by exact ⟨r0, r1, r2, r5, a0, a1, a2, z0, t0, t1⟩) (fun hHeldv6 => ?_)
 clear hK K hHeldv5
 try simp only [Act.put]
 refine tl 58 ?_
 refine tl 59 ?_
 refine tl 60 ?_
 refine wpAnyH_done (by kernel_rfl) ?_ _
 go_wp2
 go_ret
 exact ⟨by first | rfl | simp, BB⟩
end Go.Proofs.YtlpeheonbbaffaaGreatDoor
