/-
 Contracts of jet's add, sub, mul and div, at this translation. Condition: the slices read as limbs, the table of math/bits reads as its text lays it.
-/
import Derived.Test.YteagjlcmgiknmaaGreatDoorQGj
import Derived.Test.YteagjlcmgiknmaaGreatDoorQJb
import Derived.Lib.TrailingZeros
import Derived.Test.YteagjlcmgiknmaaGreatDoorQJj
import Derived.StillTailTactics
import Derived.Deep.CutBlock
set_option maxHeartbeats 8000000
set_option maxRecDepth 100000
namespace Go.Proofs.YteagjlcmgiknmaaGreatDoor
open Go.RowKit

theorem jface_start {w : World} {x y : Iv} {p : Int} {gs : Nat} {A1 : Option Addr} {n1 c1 : Nat} {A2 : Option Addr} {n2 c2 : Nat} {A3 : Option Addr} {n3 c3 : Nat} {A4 : Option Addr} {n4 c4 : Nat} (hT : Tab w) (h1 : Rd w .u64 Go.Proofs.YteagjlcmgiknmaaGreatDoor.W A1 n1 c1 x.lo.l) (h2 : Rd w .u64 Go.Proofs.YteagjlcmgiknmaaGreatDoor.W A2 n2 c2 x.hi.l) (h3 : Rd w .u64 Go.Proofs.YteagjlcmgiknmaaGreatDoor.W A3 n3 c3 y.lo.l) (h4 : Rd w .u64 Go.Proofs.YteagjlcmgiknmaaGreatDoor.W A4 n4 c4 y.hi.l) (hs : w.cell? ⟨gs, 4, none⟩ = some (.int .i64 p)) :
  (fun wx : World => Below w.heap.size w wx ∧ Tab wx ∧ Rd wx .u64 Go.Proofs.YteagjlcmgiknmaaGreatDoor.W A1 n1 c1 x.lo.l ∧ Rd wx .u64 Go.Proofs.YteagjlcmgiknmaaGreatDoor.W A2 n2 c2 x.hi.l ∧ Rd wx .u64 Go.Proofs.YteagjlcmgiknmaaGreatDoor.W A3 n3 c3 y.lo.l ∧ Rd wx .u64 Go.Proofs.YteagjlcmgiknmaaGreatDoor.W A4 n4 c4 y.hi.l ∧ wx.cell? ⟨gs, 4, none⟩ = some (.int .i64 p) ∧ Ibx wx (w.heap.size + 2) false none 0 0 0 false none 0 0 0 ∧ wx.cell? ⟨w.heap.size, 0, none⟩ = some (.bool x.lo.s) ∧ wx.cell? ⟨w.heap.size, 1, none⟩ = some (.slice A1 n1 c1) ∧ wx.cell? ⟨w.heap.size, 2, none⟩ = some (.int .i64 x.lo.e) ∧ wx.cell? ⟨w.heap.size, 3, none⟩ = some (.bool x.hi.s) ∧ wx.cell? ⟨w.heap.size, 4, none⟩ = some (.slice A2 n2 c2) ∧ wx.cell? ⟨w.heap.size, 5, none⟩ = some (.int .i64 x.hi.e) ∧ wx.cell? ⟨w.heap.size + 1, 0, none⟩ = some (.bool y.lo.s) ∧ wx.cell? ⟨w.heap.size + 1, 1, none⟩ = some (.slice A3 n3 c3) ∧ wx.cell? ⟨w.heap.size + 1, 2, none⟩ = some (.int .i64 y.lo.e) ∧ wx.cell? ⟨w.heap.size + 1, 3, none⟩ = some (.bool y.hi.s) ∧ wx.cell? ⟨w.heap.size + 1, 4, none⟩ = some (.slice A4 n4 c4) ∧ wx.cell? ⟨w.heap.size + 1, 5, none⟩ = some (.int .i64 y.hi.e)) (((w.alloc (.cells #[.bool x.lo.s, .slice A1 n1 c1, .int .i64 x.lo.e, .bool x.hi.s, .slice A2 n2 c2, .int .i64 x.hi.e] 29)).alloc (.cells #[.bool y.lo.s, .slice A3 n3 c3, .int .i64 y.lo.e, .bool y.hi.s, .slice A4 n4 c4, .int .i64 y.hi.e] 29)).alloc (.cells #[.bool false, .slice none 0 0, .int .i64 0, .bool false, .slice none 0 0, .int .i64 0] 29)) := by
 have BB := three_below w (.cells #[.bool x.lo.s, .slice A1 n1 c1, .int .i64 x.lo.e, .bool x.hi.s, .slice A2 n2 c2, .int .i64 x.hi.e] 29) (.cells #[.bool y.lo.s, .slice A3 n3 c3, .int .i64 y.lo.e, .bool y.hi.s, .slice A4 n4 c4, .int .i64 y.hi.e] 29) (.cells #[.bool false, .slice none 0 0, .int .i64 0, .bool false, .slice none 0 0, .int .i64 0] 29)
 have xa := ((Ibx.new w x.lo.s A1 n1 c1 x.lo.e x.hi.s A2 n2 c2 x.hi.e).alloc (.cells #[.bool y.lo.s, .slice A3 n3 c3, .int .i64 y.lo.e, .bool y.hi.s, .slice A4 n4 c4, .int .i64 y.hi.e] 29)).alloc (.cells #[.bool false, .slice none 0 0, .int .i64 0, .bool false, .slice none 0 0, .int .i64 0] 29)
 have xb := (ibx_one w (.cells #[.bool x.lo.s, .slice A1 n1 c1, .int .i64 x.lo.e, .bool x.hi.s, .slice A2 n2 c2, .int .i64 x.hi.e] 29) y.lo.s A3 n3 c3 y.lo.e y.hi.s A4 n4 c4 y.hi.e).alloc (.cells #[.bool false, .slice none 0 0, .int .i64 0, .bool false, .slice none 0 0, .int .i64 0] 29)
 have r := ibx_two w (.cells #[.bool x.lo.s, .slice A1 n1 c1, .int .i64 x.lo.e, .bool x.hi.s, .slice A2 n2 c2, .int .i64 x.hi.e] 29) (.cells #[.bool y.lo.s, .slice A3 n3 c3, .int .i64 y.lo.e, .bool y.hi.s, .slice A4 n4 c4, .int .i64 y.hi.e] 29) false none 0 0 0 false none 0 0 0
 have G := mv BB rfl (J6 hT h1 h2 h3 h4 hs)
 clear hT h1 h2 h3 h4 hs
 obtain ⟨hT, h1, h2, h3, h4, hs⟩ := G
 obtain ⟨a0, a1, a2, a3, a4, a5⟩ := xa.held
 obtain ⟨e0, e1, e2, e3, e4, e5⟩ := xb.held
 exact ⟨BB, hT, h1, h2, h3, h4, hs, r, a0, a1, a2, a3, a4, a5, e0, e1, e2, e3, e4, e5⟩

theorem jadd_run (S : Sc) {w : World} {x y : Iv} {p : Int} {gs : Nat} {A1 : Option Addr} {n1 c1 : Nat} {A2 : Option Addr} {n2 c2 : Nat} {A3 : Option Addr} {n3 c3 : Nat} {A4 : Option Addr} {n4 c4 : Nat} (hT : Tab w) (h1 : Rd w .u64 Go.Proofs.YteagjlcmgiknmaaGreatDoor.W A1 n1 c1 x.lo.l) (h2 : Rd w .u64 Go.Proofs.YteagjlcmgiknmaaGreatDoor.W A2 n2 c2 x.hi.l) (h3 : Rd w .u64 Go.Proofs.YteagjlcmgiknmaaGreatDoor.W A3 n3 c3 y.lo.l) (h4 : Rd w .u64 Go.Proofs.YteagjlcmgiknmaaGreatDoor.W A4 n4 c4 y.hi.l) (hs : w.cell? ⟨gs, 4, none⟩ = some (.int .i64 p)) :
  Calls Tryz.prog 81 #[.pointer (some ⟨gs, 0, none⟩), .agg #[.bool x.lo.s, .slice A1 n1 c1, .int .i64 x.lo.e, .bool x.hi.s, .slice A2 n2 c2, .int .i64 x.hi.e], .agg #[.bool y.lo.s, .slice A3 n3 c3, .int .i64 y.lo.e, .bool y.hi.s, .slice A4 n4 c4, .int .i64 y.hi.e]] w (RunI (addF S x y p) w) := by
 have lg := World.block_lt_of_cell? _ _ hs
 have G := jface_start hT h1 h2 h3 h4 hs
 clear hT h1 h2 h3 h4 hs
 obtain ⟨BB, hT, h1, h2, h3, h4, hs, r, a0, a1, a2, a3, a4, a5, e0, e1, e2, e3, e4, e5⟩ := G
 obtain ⟨q, hq⟩ : ∃ q : Except Int Iv, q = addF S x y p := ⟨_, rfl⟩
 rw [← hq]
 have HQ := Lib.hid hq
 clear hq
 obtain ⟨o1, ho1⟩ : ∃ o, o = addF S x y p := ⟨_, rfl⟩
 have HO1 := Lib.hid ho1
 clear ho1
 have HC1 : Cod o1 := by rw [HO1.out]; exact addF_cod
 go_enter Tryz.func81, Tryz.ntmps81
 go_wp2_with fail
 generalize (((w.alloc _).alloc _).alloc _) = wx at *
 have b : Below wx.heap.size wx (World.drew wx) := below_drewN (Below.refl _ _) 1
 replace BB := bnx BB b
 have G := mv b rfl (J19 hT h1 h2 h3 h4 hs r a0 a1 a2 a3 a4 a5 e0 e1 e2 e3 e4 e5)
 clear b hT h1 h2 h3 h4 hs r a0 a1 a2 a3 a4 a5 e0 e1 e2 e3 e4 e5
 obtain ⟨hT, h1, h2, h3, h4, hs, r, a0, a1, a2, a3, a4, a5, e0, e1, e2, e3, e4, e5⟩ := G
 refine wp_region_held_drew (S := fun w' => w'.cell? ⟨w.heap.size, 0, none⟩ = some (.bool x.lo.s) ∧ w'.cell? ⟨w.heap.size, 1, none⟩ = some (.slice A1 n1 c1) ∧ w'.cell? ⟨w.heap.size, 2, none⟩ = some (.int .i64 x.lo.e) ∧ w'.cell? ⟨w.heap.size, 3, none⟩ = some (.bool x.hi.s) ∧ w'.cell? ⟨w.heap.size, 4, none⟩ = some (.slice A2 n2 c2) ∧ w'.cell? ⟨w.heap.size, 5, none⟩ = some (.int .i64 x.hi.e) ∧ w'.cell? ⟨w.heap.size + 1, 0, none⟩ = some (.bool y.lo.s) ∧ w'.cell? ⟨w.heap.size + 1, 1, none⟩ = some (.slice A3 n3 c3) ∧ w'.cell? ⟨w.heap.size + 1, 2, none⟩ = some (.int .i64 y.lo.e) ∧ w'.cell? ⟨w.heap.size + 1, 3, none⟩ = some (.bool y.hi.s) ∧ w'.cell? ⟨w.heap.size + 1, 4, none⟩ = some (.slice A4 n4 c4) ∧ w'.cell? ⟨w.heap.size + 1, 5, none⟩ = some (.int .i64 y.hi.e) ∧ w'.cell? ⟨gs, 4, none⟩ = some (.int .i64 p)) (by kernel_rfl) (by exact ⟨a0, a1, a2, a3, a4, a5, e0, e1, e2, e3, e4, e5, hs⟩) (fun hHeldv0 => ?_)
 generalize World.drew wx = wd at *
 refine tl 0 ?_
 refine tl 1 ?_
 refine tl 2 ?_
 refine tl 3 ?_
 refine tl 4 ?_
 refine tl 5 ?_
 refine rdy 6 fun K hK => ?_
 go_simp
 refine (tello_to HO1.out (show Calls _ _ _ _ (TellO (face2 S x y p _) _) from aadd_any S hT h1 h2 h3 h4)).mono ?_
 rintro en w' ⟨A5, n5, c5, A6, n6, c6, rfl, h5, h6, b⟩
 clear h1 h2 h3 h4
 replace BB := below_next BB BB.size b (by rfl) (by rfl) (by rfl) (by rfl)
 have G := mv b (by rfl) <| And.intro hT <| And.intro hs <| And.intro r <| And.intro a0 <| And.intro a1 <| And.intro a2 <| And.intro a3 <| And.intro a4 <| And.intro a5 <| And.intro e0 <| And.intro e1 <| And.intro e2 <| And.intro e3 <| And.intro e4 <| e5
 clear b hT hs r a0 a1 a2 a3 a4 a5 e0 e1 e2 e3 e4 e5
 obtain ⟨hT, hs, r, a0, a1, a2, a3, a4, a5, e0, e1, e2, e3, e4, e5⟩ := G
 refine hK.out _ _ (by exact ⟨a0, a1, a2, a3, a4, a5, e0, e1, e2, e3, e4, e5, hs⟩) (fun hHeldv1 => ?_)
 clear hK K hHeldv0
 try simp only [Act.put]
 refine tl 7 ?_
 refine tl 8 ?_
 refine rdy 9 fun K hK => ?_
 go_simp
 refine (mustI_run HC1 h5 h6).mono ?_
 rintro en w' (⟨v1, hv1, A7, n7, c7, A8, n8, c8, rfl, h7, h8, b⟩ | ⟨kk, hk, hk0, rfl, b⟩)
 rotate_left
 ·exact ⟨rfl, .inr ⟨kk, (HQ.out.trans (by simp only [← HO1.out, hk])), hk0, rfl, below_next BB BB.size b (by rfl) (by rfl) (by rfl) (by rfl)⟩⟩
 have HV1 := Lib.hid hv1
 clear hv1 h5 h6 hT
 replace BB := below_next BB BB.size b (by rfl) (by rfl) (by rfl) (by rfl)
 have G := mv b (by rfl) <| And.intro hs <| And.intro r <| And.intro a0 <| And.intro a1 <| And.intro a2 <| And.intro a3 <| And.intro a4 <| And.intro a5 <| And.intro e0 <| And.intro e1 <| And.intro e2 <| And.intro e3 <| And.intro e4 <| e5
 clear b hs r a0 a1 a2 a3 a4 a5 e0 e1 e2 e3 e4 e5
 obtain ⟨hs, r, a0, a1, a2, a3, a4, a5, e0, e1, e2, e3, e4, e5⟩ := G
 obtain ⟨f0, f1, f2, f3, f4, f5⟩ := r.open
 obtain ⟨z0, z1, z2, z3, z4, z5⟩ := r.held
 refine hK.out _ _ (by exact ⟨a0, a1, a2, a3, a4, a5, e0, e1, e2, e3, e4, e5, hs⟩) (fun hHeldv2 => ?_)
 clear hK K hHeldv1
 try simp only [Act.put]
 refine rdy 10 fun K hK => ?_
 go_simp
 refine hK.out _ _ (by exact ⟨cell_oth6 a0 (by omega), cell_oth6 a1 (by omega), cell_oth6 a2 (by omega), cell_oth6 a3 (by omega), cell_oth6 a4 (by omega), cell_oth6 a5 (by omega), cell_oth6 e0 (by omega), cell_oth6 e1 (by omega), cell_oth6 e2 (by omega), cell_oth6 e3 (by omega), cell_oth6 e4 (by omega), cell_oth6 e5 (by omega), cell_oth6 hs (by omega)⟩) (fun hHeldv3 => ?_)
 clear hK K hHeldv2
 try simp only [Act.put]
 refine wpAnyH_done (by kernel_rfl) ?_ _
 go_wp2
 exact ret6 rfl rfl rfl r h7 h8 BB (by omega) fun _ hN hM HB3 => .inl ⟨v1, (HQ.out.trans (by simp only [← HO1.out, HV1.out])), _, _, _, _, _, _, rfl, hN, hM, HB3⟩

theorem jmul_run (S : Sc) {w : World} {x y : Iv} {p : Int} {gs : Nat} {A1 : Option Addr} {n1 c1 : Nat} {A2 : Option Addr} {n2 c2 : Nat} {A3 : Option Addr} {n3 c3 : Nat} {A4 : Option Addr} {n4 c4 : Nat} (hT : Tab w) (h1 : Rd w .u64 Go.Proofs.YteagjlcmgiknmaaGreatDoor.W A1 n1 c1 x.lo.l) (h2 : Rd w .u64 Go.Proofs.YteagjlcmgiknmaaGreatDoor.W A2 n2 c2 x.hi.l) (h3 : Rd w .u64 Go.Proofs.YteagjlcmgiknmaaGreatDoor.W A3 n3 c3 y.lo.l) (h4 : Rd w .u64 Go.Proofs.YteagjlcmgiknmaaGreatDoor.W A4 n4 c4 y.hi.l) (hs : w.cell? ⟨gs, 4, none⟩ = some (.int .i64 p)) :
  Calls Tryz.prog 115 #[.pointer (some ⟨gs, 0, none⟩), .agg #[.bool x.lo.s, .slice A1 n1 c1, .int .i64 x.lo.e, .bool x.hi.s, .slice A2 n2 c2, .int .i64 x.hi.e], .agg #[.bool y.lo.s, .slice A3 n3 c3, .int .i64 y.lo.e, .bool y.hi.s, .slice A4 n4 c4, .int .i64 y.hi.e]] w (RunI (mulF S x y p) w) := by
 have lg := World.block_lt_of_cell? _ _ hs
 have G := jface_start hT h1 h2 h3 h4 hs
 clear hT h1 h2 h3 h4 hs
 obtain ⟨BB, hT, h1, h2, h3, h4, hs, r, a0, a1, a2, a3, a4, a5, e0, e1, e2, e3, e4, e5⟩ := G
 obtain ⟨q, hq⟩ : ∃ q : Except Int Iv, q = mulF S x y p := ⟨_, rfl⟩
 rw [← hq]
 have HQ := Lib.hid hq
 clear hq
 obtain ⟨o1, ho1⟩ : ∃ o, o = mulF S x y p := ⟨_, rfl⟩
 have HO1 := Lib.hid ho1
 clear ho1
 have HC1 : Cod o1 := by rw [HO1.out]; exact mulF_cod
 go_enter Tryz.func115, Tryz.ntmps115
 go_wp2_with fail
 generalize (((w.alloc _).alloc _).alloc _) = wx at *
 have b : Below wx.heap.size wx (World.drew wx) := below_drewN (Below.refl _ _) 1
 replace BB := bnx BB b
 have G := mv b rfl (J19 hT h1 h2 h3 h4 hs r a0 a1 a2 a3 a4 a5 e0 e1 e2 e3 e4 e5)
 clear b hT h1 h2 h3 h4 hs r a0 a1 a2 a3 a4 a5 e0 e1 e2 e3 e4 e5
 obtain ⟨hT, h1, h2, h3, h4, hs, r, a0, a1, a2, a3, a4, a5, e0, e1, e2, e3, e4, e5⟩ := G
 refine wp_region_held_drew (S := fun w' => w'.cell? ⟨w.heap.size, 0, none⟩ = some (.bool x.lo.s) ∧ w'.cell? ⟨w.heap.size, 1, none⟩ = some (.slice A1 n1 c1) ∧ w'.cell? ⟨w.heap.size, 2, none⟩ = some (.int .i64 x.lo.e) ∧ w'.cell? ⟨w.heap.size, 3, none⟩ = some (.bool x.hi.s) ∧ w'.cell? ⟨w.heap.size, 4, none⟩ = some (.slice A2 n2 c2) ∧ w'.cell? ⟨w.heap.size, 5, none⟩ = some (.int .i64 x.hi.e) ∧ w'.cell? ⟨w.heap.size + 1, 0, none⟩ = some (.bool y.lo.s) ∧ w'.cell? ⟨w.heap.size + 1, 1, none⟩ = some (.slice A3 n3 c3) ∧ w'.cell? ⟨w.heap.size + 1, 2, none⟩ = some (.int .i64 y.lo.e) ∧ w'.cell? ⟨w.heap.size + 1, 3, none⟩ = some (.bool y.hi.s) ∧ w'.cell? ⟨w.heap.size + 1, 4, none⟩ = some (.slice A4 n4 c4) ∧ w'.cell? ⟨w.heap.size + 1, 5, none⟩ = some (.int .i64 y.hi.e) ∧ w'.cell? ⟨gs, 4, none⟩ = some (.int .i64 p)) (by kernel_rfl) (by exact ⟨a0, a1, a2, a3, a4, a5, e0, e1, e2, e3, e4, e5, hs⟩) (fun hHeldv0 => ?_)
 generalize World.drew wx = wd at *
 refine tl 0 ?_
 refine tl 1 ?_
 refine tl 2 ?_
 refine tl 3 ?_
 refine tl 4 ?_
 refine tl 5 ?_
 refine rdy 6 fun K hK => ?_
 go_simp
 refine (tello_to HO1.out (show Calls _ _ _ _ (TellO (face2 S x y p _) _) from amul_any S hT h1 h2 h3 h4)).mono ?_
 rintro en w' ⟨A5, n5, c5, A6, n6, c6, rfl, h5, h6, b⟩
 clear h1 h2 h3 h4
 replace BB := below_next BB BB.size b (by rfl) (by rfl) (by rfl) (by rfl)
 have G := mv b (by rfl) <| And.intro hT <| And.intro hs <| And.intro r <| And.intro a0 <| And.intro a1 <| And.intro a2 <| And.intro a3 <| And.intro a4 <| And.intro a5 <| And.intro e0 <| And.intro e1 <| And.intro e2 <| And.intro e3 <| And.intro e4 <| e5
 clear b hT hs r a0 a1 a2 a3 a4 a5 e0 e1 e2 e3 e4 e5
 obtain ⟨hT, hs, r, a0, a1, a2, a3, a4, a5, e0, e1, e2, e3, e4, e5⟩ := G
 refine hK.out _ _ (by exact ⟨a0, a1, a2, a3, a4, a5, e0, e1, e2, e3, e4, e5, hs⟩) (fun hHeldv1 => ?_)
 clear hK K hHeldv0
 try simp only [Act.put]
 refine tl 7 ?_
 refine tl 8 ?_
 refine rdy 9 fun K hK => ?_
 go_simp
 refine (mustI_run HC1 h5 h6).mono ?_
 rintro en w' (⟨v1, hv1, A7, n7, c7, A8, n8, c8, rfl, h7, h8, b⟩ | ⟨kk, hk, hk0, rfl, b⟩)
 rotate_left
 ·exact ⟨rfl, .inr ⟨kk, (HQ.out.trans (by simp only [← HO1.out, hk])), hk0, rfl, below_next BB BB.size b (by rfl) (by rfl) (by rfl) (by rfl)⟩⟩
 have HV1 := Lib.hid hv1
 clear hv1 h5 h6 hT
 replace BB := below_next BB BB.size b (by rfl) (by rfl) (by rfl) (by rfl)
 have G := mv b (by rfl) <| And.intro hs <| And.intro r <| And.intro a0 <| And.intro a1 <| And.intro a2 <| And.intro a3 <| And.intro a4 <| And.intro a5 <| And.intro e0 <| And.intro e1 <| And.intro e2 <| And.intro e3 <| And.intro e4 <| e5
 clear b hs r a0 a1 a2 a3 a4 a5 e0 e1 e2 e3 e4 e5
 obtain ⟨hs, r, a0, a1, a2, a3, a4, a5, e0, e1, e2, e3, e4, e5⟩ := G
 obtain ⟨f0, f1, f2, f3, f4, f5⟩ := r.open
 obtain ⟨z0, z1, z2, z3, z4, z5⟩ := r.held
 refine hK.out _ _ (by exact ⟨a0, a1, a2, a3, a4, a5, e0, e1, e2, e3, e4, e5, hs⟩) (fun hHeldv2 => ?_)
 clear hK K hHeldv1
 try simp only [Act.put]
 refine rdy 10 fun K hK => ?_
 go_simp
 refine hK.out _ _ (by exact ⟨cell_oth6 a0 (by omega), cell_oth6 a1 (by omega), cell_oth6 a2 (by omega), cell_oth6 a3 (by omega), cell_oth6 a4 (by omega), cell_oth6 a5 (by omega), cell_oth6 e0 (by omega), cell_oth6 e1 (by omega), cell_oth6 e2 (by omega), cell_oth6 e3 (by omega), cell_oth6 e4 (by omega), cell_oth6 e5 (by omega), cell_oth6 hs (by omega)⟩) (fun hHeldv3 => ?_)
 clear hK K hHeldv2
 try simp only [Act.put]
 refine wpAnyH_done (by kernel_rfl) ?_ _
 go_wp2
 exact ret6 rfl rfl rfl r h7 h8 BB (by omega) fun _ hN hM HB3 => .inl ⟨v1, (HQ.out.trans (by simp only [← HO1.out, HV1.out])), _, _, _, _, _, _, rfl, hN, hM, HB3⟩

end Go.Proofs.YteagjlcmgiknmaaGreatDoor
namespace Go.Proofs.YteagjlcmgiknmaaGreatDoor

/-- n as an odd number times a power of two -/
def wQ (n : Nat) : Rw := Rw.of false (n / 2 ^ Lib.ctz 64 n) (Lib.ctz 64 n : Nat)
theorem w_parts {n : Nat} (h1 : 1 ≤ n) (h2 : n ≤ 13) : (n / 2 ^ Lib.ctz 64 n) % 2 = 1 ∧ n / 2 ^ Lib.ctz 64 n * 2 ^ Lib.ctz 64 n = n ∧ Lib.ctz 64 n ≤ 3 ∧ n / 2 ^ Lib.ctz 64 n < 2 ^ 4 := by
 rcases (show n = 1 ∨ n = 2 ∨ n = 3 ∨ n = 4 ∨ n = 5 ∨ n = 6 ∨ n = 7 ∨ n = 8 ∨ n = 9 ∨ n = 10 ∨ n = 11 ∨ n = 12 ∨ n = 13 by omega) with rfl | rfl | rfl | rfl | rfl | rfl | rfl | rfl | rfl | rfl | rfl | rfl | rfl <;> decide
theorem who_small (S : Sc) {n : Nat} (h1 : 1 ≤ n) (h2 : n ≤ 13) : Who S n (wQ n) := by
 obtain ⟨g1, g2, g3, g4⟩ := w_parts h1 h2
 have ha := at_of (S := S) (j := Lib.ctz 64 n) g1 (by omega) (by omega)
 rw [g2] at ha
 have e : val Go.Proofs.YteagjlcmgiknmaaGreatDoor.W (wQ n).l = n / 2 ^ Lib.ctz 64 n := val_dig W_two _
 exact ⟨ha.1, by have := ha.2; rwa [Nat.pow_zero, show ((1 : Nat) : Int) = 1 from rfl, Int.mul_one] at this, h1, ⟨by show (0 : Int) ≤ ((Lib.ctz 64 n : Nat) : Int); omega, by show ((Lib.ctz 64 n : Nat) : Int) ≤ 3; omega⟩, by rw [e]; exact (blen_le _ _).2 g4⟩
end Go.Proofs.YteagjlcmgiknmaaGreatDoor
set_option maxHeartbeats 8000000
set_option maxRecDepth 100000
namespace Go.Proofs.YteagjlcmgiknmaaGreatDoor
open Go.RowKit


theorem tzs_any {w : World} {x : Nat} (hT : Tab w) (h0 : 0 < x) (hx : x < 100) : Calls Tryz.prog 46 #[.int .u64 x] w fun en w' => en = .returned (.int .i64 (Lib.ctz 64 x : Nat)) ∧ w' = w := by
 go_enter Tryz.func46, Tryz.ntmps46
 go_wp2_with fail
 refine (Tryz.bits_TrailingZeros64 x (by omega) w (fun _ => hT)).mono ?_
 rintro en w' ⟨rfl, rfl⟩
 go_wp2
 exact bodyPost_ret (v := .int .i64 (Lib.ctz 64 x : Nat)) (by simp [results, Tryz.results46, go_sem]) rfl ⟨rfl, rfl⟩

theorem rd_wl {w : World} {v : Nat} (hv : v < 100) : Rd (w.alloc (.cells #[.int .u64 (v : Int)] 46)) .u64 Go.Proofs.YteagjlcmgiknmaaGreatDoor.W (some ⟨w.heap.size, 0, none⟩) 1 1 [v] :=
 (row_lit w [v]).rd' (Lt.cons (small_W hv) Lt.nil) rfl (Nat.le_refl _) (by omega)
theorem jwhole_ok {w : World} {n : Nat} (hT : Tab w) (h1 : 1 ≤ n) (h2 : n ≤ 13) : Calls Tryz.prog 19 #[.int .i64 n] w (GivI ⟨wQ n, wQ n⟩ w) := by
 have b := below_alloc w (.cells #[.bool false, .slice none 0 0, .int .i64 0, .bool false, .slice none 0 0, .int .i64 0] 29)
 have BB := b
 have r := Ibx.new w false none 0 0 0 false none 0 0 0
 have hT1 := mv b rfl hT
 clear b
 obtain ⟨g1, g2, g3, g4⟩ := w_parts h1 h2
 obtain ⟨q, hq⟩ : ∃ q, q = wQ n := ⟨_, rfl⟩
 rw [← hq]
 obtain ⟨X, hX⟩ : ∃ X : Iv, X = ⟨q, q⟩ := ⟨_, rfl⟩
 rw [← hX]
 unfold wQ at hq
 have hn1 : (n : Int) < 100 := by omega
 have hn0 : (0 : Int) ≤ n := by omega
 go_enter Tryz.func19, Tryz.ntmps19
 go_upto_region 1 with fail
 generalize w.alloc (.cells #[.bool false, .slice none 0 0, .int .i64 0, .bool false, .slice none 0 0, .int .i64 0] 29) = W1 at *
 go_wp2_with fail
 skip
 refine (tzs_any (x := n) hT1 (by omega) (by omega)).mono ?_
 rintro en w2 ⟨rfl, rfl⟩
 generalize hz : Lib.ctz 64 n = z at *
 skip
 go_wp2_with fail
 have hv : ((n / 2 ^ z : Nat) : Int) = (n : Int) / 2 ^ z := by push_cast; rfl
 rw [← hv]
 have h5 := rd_wl (w := w2) (v := n / 2 ^ z) (by omega)
 have b := below_alloc w2 (.cells #[.int .u64 ((n / 2 ^ z : Nat) : Int)] 46)
 replace BB := below_next BB BB.size b (by rfl) (by rfl) (by rfl) (by rfl)
 have r := mv b rfl r
 generalize w2.alloc (.cells #[.int .u64 ((n / 2 ^ z : Nat) : Int)] 46) = w3 at *
 clear b
 have hl : q.l = [n / 2 ^ z] := by rw [hq]; exact dig_one (by omega) (small_W (by omega))
 have hqs : q.s = false := by rw [hq]; rfl
 have hqe : q.e = z := by rw [hq]; rfl
 refine (show Calls _ _ _ _ (GivI X _) from by have h := iof_any (a := q) (w := w3) (by rw [hl]; exact h5) (by omega); rw [hqs, hqe, ← hX] at h; exact h).mono ?_
 rintro en w4 ⟨A7, n7, c7, A8, n8, c8, rfl, h7, h8, b⟩
 replace BB := below_next BB BB.size b (by rfl) (by rfl) (by rfl) (by rfl)
 replace r := mv b rfl r
 clear b hX hq hl hqs hqe hv h5
 obtain ⟨f0, f1, f2, f3, f4, f5⟩ := r.open
 obtain ⟨z0, z1, z2, z3, z4, z5⟩ := r.held
 go_wp2
 have qq := r.put X.lo.s A7 n7 c7 X.lo.e X.hi.s A8 n8 c8 X.hi.e
 have hN := h7.put6 r (.bool X.lo.s) (.slice A7 n7 c7) (.int .i64 X.lo.e) (.bool X.hi.s) (.slice A8 n8 c8) (.int .i64 X.hi.e)
 have hM := h8.put6 r (.bool X.lo.s) (.slice A7 n7 c7) (.int .i64 X.lo.e) (.bool X.hi.s) (.slice A8 n8 c8) (.int .i64 X.hi.e)
 have HB3 := below_put6 (g := w.heap.size) BB (by omega) (.bool X.lo.s) (.slice A7 n7 c7) (.int .i64 X.lo.e) (.bool X.hi.s) (.slice A8 n8 c8) (.int .i64 X.hi.e)
 obtain ⟨z0, z1, z2, z3, z4, z5⟩ := qq.held
 exact bodyPost_ret (v := .agg #[.bool X.lo.s, .slice A7 n7 c7, .int .i64 X.lo.e, .bool X.hi.s, .slice A8 n8 c8, .int .i64 X.hi.e]) (by simp [results, Tryz.results19, go_sem, z0, z1, z2, z3, z4, z5]) rfl ⟨_, _, _, _, _, _, rfl, hN, hM, HB3⟩

theorem jround_ok (S : Sc) {w : World} {x R : Iv} {p : Int} {gs : Nat} {A1 : Option Addr} {n1 c1 : Nat} {A2 : Option Addr} {n2 c2 : Nat} (hT : Tab w) (h1 : Rd w .u64 Go.Proofs.YteagjlcmgiknmaaGreatDoor.W A1 n1 c1 x.lo.l) (h2 : Rd w .u64 Go.Proofs.YteagjlcmgiknmaaGreatDoor.W A2 n2 c2 x.hi.l) (hm : mayI S.K x = true) (hp : 1 ≤ p ∧ p ≤ 2000) (t4 : w.cell? ⟨gs, 4, none⟩ = some (.int .i64 p)) (hR : rouI S x p = .ok R) :
  Calls Tryz.prog 80 #[.pointer (some ⟨gs, 0, none⟩), .agg #[.bool x.lo.s, .slice A1 n1 c1, .int .i64 x.lo.e, .bool x.hi.s, .slice A2 n2 c2, .int .i64 x.hi.e]] w (GivI R w) := by
 have HR := Lib.hid hR
 clear hR
 have lg : gs < w.heap.size := World.block_lt_of_cell? w _ t4
 have BB := two_below w (.cells #[.bool x.lo.s, .slice A1 n1 c1, .int .i64 x.lo.e, .bool x.hi.s, .slice A2 n2 c2, .int .i64 x.hi.e] 29) (.cells #[.bool false, .slice none 0 0, .int .i64 0, .bool false, .slice none 0 0, .int .i64 0] 29)
 have r := ibx_one w (.cells #[.bool x.lo.s, .slice A1 n1 c1, .int .i64 x.lo.e, .bool x.hi.s, .slice A2 n2 c2, .int .i64 x.hi.e] 29) false none 0 0 0 false none 0 0 0
 obtain ⟨a0, a1, a2, a3, a4, a5⟩ := ((Ibx.new w x.lo.s A1 n1 c1 x.lo.e x.hi.s A2 n2 c2 x.hi.e).alloc (.cells #[.bool false, .slice none 0 0, .int .i64 0, .bool false, .slice none 0 0, .int .i64 0] 29)).held
 have G := mv BB rfl (J4 hT h1 h2 t4)
 clear hT h1 h2 t4
 obtain ⟨hT, h1, h2, t4⟩ := G
 have ne4 : gs ≠ w.heap.size + 1 := by omega
 have neg : w.heap.size ≠ w.heap.size + 1 := by omega
 go_enter Tryz.func80, Tryz.ntmps80
 go_upto_region 1 with fail
 generalize (w.alloc (.cells #[.bool x.lo.s, .slice A1 n1 c1, .int .i64 x.lo.e, .bool x.hi.s, .slice A2 n2 c2, .int .i64 x.hi.e] 29)).alloc (.cells #[.bool false, .slice none 0 0, .int .i64 0, .bool false, .slice none 0 0, .int .i64 0] 29) = W1 at *
 have b : Below W1.heap.size W1 (World.drew W1) := below_drewN (Below.refl _ _) 1
 replace BB := bnx BB b
 have G := mv b rfl (J11 hT h1 h2 r t4 a0 a1 a2 a3 a4 a5)
 clear hT h1 h2 r t4 a0 a1 a2 a3 a4 a5
 obtain ⟨hT, h1, h2, r, t4, a0, a1, a2, a3, a4, a5⟩ := G
 clear b
 go_wp2_with fail
 refine wp_region_held_drew (S := fun w' => w'.cell? ⟨gs, 4, none⟩ = some (.int .i64 p) ∧ w'.cell? ⟨w.heap.size, 0, none⟩ = some (.bool x.lo.s) ∧ w'.cell? ⟨w.heap.size, 1, none⟩ = some (.slice A1 n1 c1) ∧ w'.cell? ⟨w.heap.size, 2, none⟩ = some (.int .i64 x.lo.e) ∧ w'.cell? ⟨w.heap.size, 3, none⟩ = some (.bool x.hi.s) ∧ w'.cell? ⟨w.heap.size, 4, none⟩ = some (.slice A2 n2 c2) ∧ w'.cell? ⟨w.heap.size, 5, none⟩ = some (.int .i64 x.hi.e)) (by kernel_rfl) (by exact ⟨t4, a0, a1, a2, a3, a4, a5⟩) (fun hHeldz0 => ?_)
 generalize World.drew W1 = wd at *
 refine tl 0 ?_
 refine tl 1 ?_
 refine tl 2 ?_
 refine tl 3 ?_
 refine tl 4 ?_
 refine rdy 5 fun K hK => ?_
 go_simp
 refine (show Calls _ _ _ _ (TellI 0 R _) from by have h := iround_tell S hT h1 h2 hm hp.1 hp.2; rw [HR.out] at h; exact h).mono ?_
 rintro en w2 ⟨A5, n5, c5, A6, n6, c6, rfl, h5, h6, b⟩
 replace BB := below_next BB BB.size b (by rfl) (by rfl) (by rfl) (by rfl)
 have G := mv b (by rfl) <| And.intro t4 <| And.intro a0 <| And.intro a1 <| And.intro a2 <| And.intro a3 <| And.intro a4 <| And.intro a5 <| r
 clear t4 a0 a1 a2 a3 a4 a5 r
 obtain ⟨t4, a0, a1, a2, a3, a4, a5, r⟩ := G
 clear b hT h1 h2
 refine hK.out _ _ (by exact ⟨t4, a0, a1, a2, a3, a4, a5⟩) (fun hHeldz1 => ?_)
 clear hK K hHeldz0
 try simp only [Act.put]
 refine tl 6 ?_
 refine tl 7 ?_
 refine rdy 8 fun K hK => ?_
 go_simp
 refine (mustI_ok (x := R) h5 h6).mono ?_
 rintro en w3 ⟨A7, n7, c7, A8, n8, c8, rfl, h7, h8, b⟩
 replace BB := below_next BB BB.size b (by rfl) (by rfl) (by rfl) (by rfl)
 have G := mv b (by rfl) <| And.intro t4 <| And.intro a0 <| And.intro a1 <| And.intro a2 <| And.intro a3 <| And.intro a4 <| And.intro a5 <| r
 clear t4 a0 a1 a2 a3 a4 a5 r
 obtain ⟨t4, a0, a1, a2, a3, a4, a5, r⟩ := G
 clear b h5 h6
 obtain ⟨f0, f1, f2, f3, f4, f5⟩ := r.open
 obtain ⟨z0, z1, z2, z3, z4, z5⟩ := r.held
 refine hK.out _ _ (by exact ⟨t4, a0, a1, a2, a3, a4, a5⟩) (fun hHeldz2 => ?_)
 clear hK K hHeldz1
 try simp only [Act.put]
 refine rdy 9 fun K hK => ?_
 go_simp
 refine hK.out _ _ (by exact ⟨cell_oth6 t4 ne4, cell_oth6 a0 neg, cell_oth6 a1 neg, cell_oth6 a2 neg, cell_oth6 a3 neg, cell_oth6 a4 neg, cell_oth6 a5 neg⟩) (fun hHeldz3 => ?_)
 clear hK K hHeldz2
 try simp only [Act.put]
 refine wpAnyH_done (by kernel_rfl) ?_ _
 go_wp2
 have qq := r.put R.lo.s A7 n7 c7 R.lo.e R.hi.s A8 n8 c8 R.hi.e
 have hN := h7.put6 r (.bool R.lo.s) (.slice A7 n7 c7) (.int .i64 R.lo.e) (.bool R.hi.s) (.slice A8 n8 c8) (.int .i64 R.hi.e)
 have hM := h8.put6 r (.bool R.lo.s) (.slice A7 n7 c7) (.int .i64 R.lo.e) (.bool R.hi.s) (.slice A8 n8 c8) (.int .i64 R.hi.e)
 have HB3 := below_put6 (g := w.heap.size + 1) BB (by omega) (.bool R.lo.s) (.slice A7 n7 c7) (.int .i64 R.lo.e) (.bool R.hi.s) (.slice A8 n8 c8) (.int .i64 R.hi.e)
 obtain ⟨z0, z1, z2, z3, z4, z5⟩ := qq.held
 exact bodyPost_ret (v := .agg #[.bool R.lo.s, .slice A7 n7 c7, .int .i64 R.lo.e, .bool R.hi.s, .slice A8 n8 c8, .int .i64 R.hi.e]) (by simp [results, Tryz.results80, go_sem, z0, z1, z2, z3, z4, z5]) rfl ⟨_, _, _, _, _, _, rfl, hN, hM, HB3⟩

end Go.Proofs.YteagjlcmgiknmaaGreatDoor
set_option maxHeartbeats 8000000
set_option maxRecDepth 100000
namespace Go.Proofs.YteagjlcmgiknmaaGreatDoor
open Go.RowKit


/-- the terms and the partial sums of a product's coefficient that is told -/
theorem prod_parts {S : Sc} {X Y : List Iv} {n : Nat} {p : Int} : ∀ {j : Nat} {R : Iv}, prodO S X Y n p j = .ok R → ∃ F T : Nat → Iv, (∀ i, i ≤ j → mulF S (X.getD i Iv.zero) (Y.getD (n - i) Iv.zero) p = .ok (T i)) ∧ F 0 = T 0 ∧ (∀ i, i < j → addF S (F i) (T (i + 1)) p = .ok (F (i + 1))) ∧ F j = R
 | 0, R, h => ⟨fun _ => R, fun _ => R, fun i hi => (by rw [Nat.le_zero.mp hi]; exact h), rfl, fun i hi => absurd hi (Nat.not_lt_zero i), rfl⟩
 | j + 1, R, h => by
  obtain ⟨A, hA, h⟩ := thn_ok h
  obtain ⟨B, hB, h⟩ := thn_ok h
  obtain ⟨F, T, h1, h2, h3, h4⟩ := prod_parts hA
  refine ⟨fun i => if i = j + 1 then R else F i, fun i => if i = j + 1 then B else T i, fun i hi => ?_, ?_, fun i hi => ?_, if_pos rfl⟩
  ·show mulF S (X.getD i Iv.zero) (Y.getD (n - i) Iv.zero) p = .ok (if i = j + 1 then B else T i)
   by_cases e : i = j + 1
   ·rw [if_pos e, e]; exact hB
   ·rw [if_neg e]; exact h1 i (by omega)
  ·show (if 0 = j + 1 then R else F 0) = (if 0 = j + 1 then B else T 0)
   rw [if_neg (by omega), if_neg (by omega)]; exact h2
  ·show addF S (if i = j + 1 then R else F i) (if i + 1 = j + 1 then B else T (i + 1)) p = .ok (if i + 1 = j + 1 then R else F (i + 1))
   rw [if_neg (show ¬ i = j + 1 by omega)]
   by_cases e : i = j
   ·rw [if_pos (show i + 1 = j + 1 by omega), if_pos (show i + 1 = j + 1 by omega), e, h4]; exact h
   ·rw [if_neg (show ¬ i + 1 = j + 1 by omega), if_neg (show ¬ i + 1 = j + 1 by omega)]; exact h3 i (by omega)
theorem run_ok {q : Except Int Iv} {R : Iv} {w w' : World} {en : Ending} (h : RunI q w en w') (hq : q = .ok R) : GivI R w en w' := by
 rcases h with ⟨v, hv, h⟩ | ⟨k, hk, _⟩
 ·rw [hq] at hv; injection hv with hv; rw [hv]; exact h
 ·rw [hq] at hk; cases hk

theorem jprod1_ok (S : Sc) {w : World} {b1 b2 b3 b4 gs j n na ca nb cb : Nat} {A B : Option Addr} {X Y : Nat → Iv} {R : Iv} {p : Int} (hT : Tab w) (t1 : w.cell? ⟨b1, 0, none⟩ = some (.pointer (some ⟨gs, 0, none⟩))) (t2 : w.cell? ⟨b2, 0, none⟩ = some (.slice A na ca)) (t3 : w.cell? ⟨b3, 0, none⟩ = some (.slice B nb cb)) (t4 : w.cell? ⟨b4, 0, none⟩ = some (.int .i64 (n : Int))) (t5 : w.cell? ⟨gs, 4, none⟩ = some (.int .i64 p)) (hX : RdS w A na ca X) (hY : RdS w B nb cb Y) (hj : j < na) (hjn : j ≤ n) (hm : n - j < nb) (hn : n ≤ 1000) (hR : mulF S (X j) (Y (n - j)) p = .ok R) :
  Calls Tryz.prog 114 #[.int .i64 j, .pointer (some ⟨b1, 0, none⟩), .pointer (some ⟨b2, 0, none⟩), .pointer (some ⟨b3, 0, none⟩), .pointer (some ⟨b4, 0, none⟩)] w (GivI R w) := by
 obtain ⟨m, hmn⟩ : ∃ m, m = n - j := ⟨_, rfl⟩
 rw [← hmn] at hm hR
 obtain ⟨g1, o1, rfl, hc⟩ := hX.at_ (by omega)
 obtain ⟨g2, o2, rfl, hd⟩ := hY.at_ (by omega)
 obtain ⟨A1, n1, c1, A2, n2, c2, ⟨r0, r1, r2, r3, r4, r5⟩, q1, q2⟩ := hc j hj
 obtain ⟨A3, n3, c3, A4, n4, c4, ⟨s0, s1, s2, s3, s4, s5⟩, q3, q4⟩ := hd m hm
 clear hc hd hX hY
 generalize X j = x at *
 generalize Y m = y at *
 have HR := Lib.hid hR
 clear hR
 have hp2 : (j : Int) < na := by omega
 have hp3 : (0 : Int) ≤ j := by omega
 have hp4 : (m : Int) < nb := by omega
 have hp5 : (0 : Int) ≤ m := by omega
 have hsub : IntKind.i64.wrap ((n : Int) - (j : Int)) = (m : Int) := by rw [IntWalk.i64_in _ (by omega)]; omega
 clear hmn
 have e1 := Nat.ne_of_lt (World.block_lt_of_cell? w _ t1)
 have e2 := Nat.ne_of_lt (World.block_lt_of_cell? w _ t2)
 have e3 := Nat.ne_of_lt (World.block_lt_of_cell? w _ t3)
 have e4 := Nat.ne_of_lt (World.block_lt_of_cell? w _ t4)
 have e5 := Nat.ne_of_lt (World.block_lt_of_cell? w _ t5)
 have eg1 := Nat.ne_of_lt (World.block_lt_of_cell? w _ r0)
 have eg2 := Nat.ne_of_lt (World.block_lt_of_cell? w _ s0)
 have b := below_alloc w (.cells #[.bool false, .slice none 0 0, .int .i64 0, .bool false, .slice none 0 0, .int .i64 0] 29)
 have BB := b
 have hT1 := mv b rfl hT
 have r := Ibx.new w false none 0 0 0 false none 0 0 0
 have G := mv b rfl (J21 t1 t2 t3 t4 t5 r0 r1 r2 r3 r4 r5 s0 s1 s2 s3 s4 s5 q1 q2 q3 q4)
 clear t1 t2 t3 t4 t5 r0 r1 r2 r3 r4 r5 s0 s1 s2 s3 s4 s5 q1 q2 q3 q4
 obtain ⟨t1, t2, t3, t4, t5, r0, r1, r2, r3, r4, r5, s0, s1, s2, s3, s4, s5, q1, q2, q3, q4⟩ := G
 clear b hT
 go_enter Tryz.func114, Tryz.ntmps114
 go_upto_region 1 with fail
 generalize w.alloc (.cells #[.bool false, .slice none 0 0, .int .i64 0, .bool false, .slice none 0 0, .int .i64 0] 29) = W1 at *
 have b : Below W1.heap.size W1 (World.drew W1) := below_drewN (Below.refl _ _) 1
 replace BB := bnx BB b
 have G := mv b rfl (J23 hT1 r t1 t2 t3 t4 t5 r0 r1 r2 r3 r4 r5 s0 s1 s2 s3 s4 s5 q1 q2 q3 q4)
 clear hT1 r t1 t2 t3 t4 t5 r0 r1 r2 r3 r4 r5 s0 s1 s2 s3 s4 s5 q1 q2 q3 q4
 obtain ⟨hT1, r, t1, t2, t3, t4, t5, r0, r1, r2, r3, r4, r5, s0, s1, s2, s3, s4, s5, q1, q2, q3, q4⟩ := G
 clear b
 go_wp2_with fail
 refine wp_region_held_drew (S := fun w' => w'.cell? ⟨b1, 0, none⟩ = some (.pointer (some ⟨gs, 0, none⟩)) ∧ w'.cell? ⟨b2, 0, none⟩ = some (.slice (some ⟨g1, o1, none⟩) na ca) ∧ w'.cell? ⟨b3, 0, none⟩ = some (.slice (some ⟨g2, o2, none⟩) nb cb) ∧ w'.cell? ⟨b4, 0, none⟩ = some (.int .i64 (n : Int)) ∧ w'.cell? ⟨gs, 4, none⟩ = some (.int .i64 p) ∧ w'.cell? ⟨g1, o1 + j * 6, none⟩ = some (.bool x.lo.s) ∧ w'.cell? ⟨g1, o1 + j * 6 + 1, none⟩ = some (.slice A1 n1 c1) ∧ w'.cell? ⟨g1, o1 + j * 6 + 2, none⟩ = some (.int .i64 x.lo.e) ∧ w'.cell? ⟨g1, o1 + j * 6 + 3, none⟩ = some (.bool x.hi.s) ∧ w'.cell? ⟨g1, o1 + j * 6 + 4, none⟩ = some (.slice A2 n2 c2) ∧ w'.cell? ⟨g1, o1 + j * 6 + 5, none⟩ = some (.int .i64 x.hi.e) ∧ w'.cell? ⟨g2, o2 + m * 6, none⟩ = some (.bool y.lo.s) ∧ w'.cell? ⟨g2, o2 + m * 6 + 1, none⟩ = some (.slice A3 n3 c3) ∧ w'.cell? ⟨g2, o2 + m * 6 + 2, none⟩ = some (.int .i64 y.lo.e) ∧ w'.cell? ⟨g2, o2 + m * 6 + 3, none⟩ = some (.bool y.hi.s) ∧ w'.cell? ⟨g2, o2 + m * 6 + 4, none⟩ = some (.slice A4 n4 c4) ∧ w'.cell? ⟨g2, o2 + m * 6 + 5, none⟩ = some (.int .i64 y.hi.e)) (by kernel_rfl) (by exact ⟨t1, t2, t3, t4, t5, r0, r1, r2, r3, r4, r5, s0, s1, s2, s3, s4, s5⟩) (fun hHeldz0 => ?_)
 generalize World.drew W1 = wd at *
 refine tl 0 ?_
 refine tl 1 ?_
 refine tl 2 ?_
 refine tl 3 ?_
 refine tl 4 ?_
 refine tl 5 ?_
 refine tl 6 ?_
 refine tl 7 ?_
 refine wpAnyH_take (i := 8) (v := ?zv8) rfl (by kernel_rfl) (by kernel_rfl) (by kernel_rfl) (fun _ _ _ h => panic_put (P := Tryz.prog) (fn := Tryz.f114) (R := (GivI R w)) h) (Or.inl ⟨by rfl, ?zy8⟩) (by assumption) ?_
 case zy8 => (intro w hSw; (try dsimp only at hSw); go_simp; (try simp only [hsub])); try with_reducible rfl
 change wpAnyH _ _ _ _ _ _ _ (Act.put _ (some 15) _) _
 simp only [Act.put, List.setIfInBounds_toArray, List.set_cons_zero, List.set_cons_succ]
 refine tl 9 ?_
 refine tl 10 ?_
 refine rdy 11 fun K hK => ?_
 go_simp
 refine (jmul_run S hT1 q1 q2 q3 q4 t5).mono ?_
 intro en w2 hh
 obtain ⟨A5, n5, c5, A6, n6, c6, rfl, h5, h6, b⟩ := run_ok hh HR.out
 replace BB := below_next BB BB.size b (by rfl) (by rfl) (by rfl) (by rfl)
 have G := mv b (by rfl) <| And.intro t1 <| And.intro t2 <| And.intro t3 <| And.intro t4 <| And.intro t5 <| And.intro r0 <| And.intro r1 <| And.intro r2 <| And.intro r3 <| And.intro r4 <| And.intro r5 <| And.intro s0 <| And.intro s1 <| And.intro s2 <| And.intro s3 <| And.intro s4 <| And.intro s5 <| r
 clear t1 t2 t3 t4 t5 r0 r1 r2 r3 r4 r5 s0 s1 s2 s3 s4 s5 r
 obtain ⟨t1, t2, t3, t4, t5, r0, r1, r2, r3, r4, r5, s0, s1, s2, s3, s4, s5, r⟩ := G
 clear b hh hT1 q1 q2 q3 q4
 obtain ⟨f0, f1, f2, f3, f4, f5⟩ := r.open
 obtain ⟨z0, z1, z2, z3, z4, z5⟩ := r.held
 refine hK.out _ _ (by exact ⟨t1, t2, t3, t4, t5, r0, r1, r2, r3, r4, r5, s0, s1, s2, s3, s4, s5⟩) (fun hHeldz1 => ?_)
 clear hK K hHeldz0
 try simp only [Act.put]
 refine rdy 12 fun K hK => ?_
 go_simp
 refine hK.out _ _ (by exact ⟨cell_oth6 t1 e1, cell_oth6 t2 e2, cell_oth6 t3 e3, cell_oth6 t4 e4, cell_oth6 t5 e5, cell_oth6 r0 eg1, cell_oth6 r1 eg1, cell_oth6 r2 eg1, cell_oth6 r3 eg1, cell_oth6 r4 eg1, cell_oth6 r5 eg1, cell_oth6 s0 eg2, cell_oth6 s1 eg2, cell_oth6 s2 eg2, cell_oth6 s3 eg2, cell_oth6 s4 eg2, cell_oth6 s5 eg2⟩) (fun hHeldz2 => ?_)
 clear hK K hHeldz1
 try simp only [Act.put]
 refine wpAnyH_done (by kernel_rfl) ?_ _
 go_wp2
 have qq := r.put R.lo.s A5 n5 c5 R.lo.e R.hi.s A6 n6 c6 R.hi.e
 have hN := h5.put6 r (.bool R.lo.s) (.slice A5 n5 c5) (.int .i64 R.lo.e) (.bool R.hi.s) (.slice A6 n6 c6) (.int .i64 R.hi.e)
 have hM := h6.put6 r (.bool R.lo.s) (.slice A5 n5 c5) (.int .i64 R.lo.e) (.bool R.hi.s) (.slice A6 n6 c6) (.int .i64 R.hi.e)
 have HB3 := below_put6 (g := w.heap.size) BB (by omega) (.bool R.lo.s) (.slice A5 n5 c5) (.int .i64 R.lo.e) (.bool R.hi.s) (.slice A6 n6 c6) (.int .i64 R.hi.e)
 obtain ⟨z0, z1, z2, z3, z4, z5⟩ := qq.held
 exact bodyPost_ret (v := .agg #[.bool R.lo.s, .slice A5 n5 c5, .int .i64 R.lo.e, .bool R.hi.s, .slice A6 n6 c6, .int .i64 R.hi.e]) (by simp [results, Tryz.results114, go_sem, z0, z1, z2, z3, z4, z5]) rfl ⟨_, _, _, _, _, _, rfl, hN, hM, HB3⟩

end Go.Proofs.YteagjlcmgiknmaaGreatDoor
