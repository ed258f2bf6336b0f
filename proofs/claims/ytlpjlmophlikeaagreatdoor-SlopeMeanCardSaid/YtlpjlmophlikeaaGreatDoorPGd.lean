/-
 Contracts of slope's add, sub, mul, div, power and own, and of fault.Must of an interval, at this translation. Condition: the slices read as limbs, the table of math/bits reads as its text lays it.
-/
import Derived.Test.YtlpjlmophlikeaaGreatDoorPGg
import Derived.Test.YtlpjlmophlikeaaGreatDoorPGc
set_option maxHeartbeats 8000000
set_option maxRecDepth 100000
namespace Go.Proofs.YtlpjlmophlikeaaGreatDoor
open Go.RowKit

/-- what a call ends with: an interval or a code that panics -/
theorem mustI_ok {A1 : Option Addr} {n1 c1 : Nat} {A2 : Option Addr} {n2 c2 : Nat} {x : Iv} {w : World} (h1 : Rd w .u64 Go.Proofs.YtlpjlmophlikeaaGreatDoor.W A1 n1 c1 x.lo.l) (h2 : Rd w .u64 Go.Proofs.YtlpjlmophlikeaaGreatDoor.W A2 n2 c2 x.hi.l) :
  Calls Tryz.prog 128 #[.agg #[.bool x.lo.s, .slice A1 n1 c1, .int .i64 x.lo.e, .bool x.hi.s, .slice A2 n2 c2, .int .i64 x.hi.e], .int .i64 0] w (GivI x w) := by
 have BB := two_below w (.cells #[.bool x.lo.s, .slice A1 n1 c1, .int .i64 x.lo.e, .bool x.hi.s, .slice A2 n2 c2, .int .i64 x.hi.e] 29) (.cells #[.bool x.lo.s, .slice A1 n1 c1, .int .i64 x.lo.e, .bool x.hi.s, .slice A2 n2 c2, .int .i64 x.hi.e] 29)
 have r := ibx_one w (.cells #[.bool x.lo.s, .slice A1 n1 c1, .int .i64 x.lo.e, .bool x.hi.s, .slice A2 n2 c2, .int .i64 x.hi.e] 29) false none 0 0 0 false none 0 0 0
 have xa := (Ibx.new w x.lo.s A1 n1 c1 x.lo.e x.hi.s A2 n2 c2 x.hi.e).alloc (.cells #[.bool false, .slice none 0 0, .int .i64 0, .bool false, .slice none 0 0, .int .i64 0] 29)
 have G := mv BB rfl <| And.intro h1 <| h2
 clear h1 h2
 obtain ⟨h1, h2⟩ := G
 obtain ⟨a0, a1, a2, a3, a4, a5⟩ := xa.held
 go_enter Tryz.func128, Tryz.ntmps128
 go_wp2_with fail
 refine check_ok.mono ?_
 rintro e' w' ⟨rfl, rfl⟩
 go_wp2
 exact bodyPost_ret (v := .agg #[.bool x.lo.s, .slice A1 n1 c1, .int .i64 x.lo.e, .bool x.hi.s, .slice A2 n2 c2, .int .i64 x.hi.e]) (by simp [results, Tryz.results128, go_sem]) rfl ⟨_, _, _, _, _, _, rfl, h1, h2, BB⟩
theorem mustI_bad {A1 : Option Addr} {n1 c1 : Nat} {A2 : Option Addr} {n2 c2 : Nat} {x : Iv} {w : World} {k : Int} (hk : k ≠ 0) :
  Calls Tryz.prog 128 #[.agg #[.bool x.lo.s, .slice A1 n1 c1, .int .i64 x.lo.e, .bool x.hi.s, .slice A2 n2 c2, .int .i64 x.hi.e], .int .i64 k] w (Faults k w) := by
 have BB := two_below w (.cells #[.bool x.lo.s, .slice A1 n1 c1, .int .i64 x.lo.e, .bool x.hi.s, .slice A2 n2 c2, .int .i64 x.hi.e] 29) (.cells #[.bool false, .slice none 0 0, .int .i64 0, .bool false, .slice none 0 0, .int .i64 0] 29)
 have HK := Lib.hid hk
 clear hk
 go_enter Tryz.func128, Tryz.ntmps128
 go_wp2_with fail
 refine (check_bad HK.out).mono ?_
 rintro e' w' ⟨rfl, rfl⟩
 go_wp2
 exact ⟨rfl, rfl, BB⟩
theorem mustI_run {o : Except Int Iv} {w : World} {A1 : Option Addr} {n1 c1 : Nat} {A2 : Option Addr} {n2 c2 : Nat} (hc : Cod o) (h1 : Rd w .u64 Go.Proofs.YtlpjlmophlikeaaGreatDoor.W A1 n1 c1 (oiv o).lo.l) (h2 : Rd w .u64 Go.Proofs.YtlpjlmophlikeaaGreatDoor.W A2 n2 c2 (oiv o).hi.l) :
  Calls Tryz.prog 128 #[.agg #[.bool (oiv o).lo.s, .slice A1 n1 c1, .int .i64 (oiv o).lo.e, .bool (oiv o).hi.s, .slice A2 n2 c2, .int .i64 (oiv o).hi.e], .int .i64 (okc o)] w (RunI o w) := by
 cases o with
 | ok v => exact (mustI_ok (x := v) h1 h2).mono fun en w' h => .inl ⟨v, rfl, h⟩
 | error k => exact (mustI_bad (x := Iv.zero) (k := k) (hc k rfl)).mono fun en w' h => .inr ⟨k, rfl, hc k rfl, h⟩

theorem sface_start {w : World} {x y : Iv} {p : Int} {gs : Nat} {A1 : Option Addr} {n1 c1 : Nat} {A2 : Option Addr} {n2 c2 : Nat} {A3 : Option Addr} {n3 c3 : Nat} {A4 : Option Addr} {n4 c4 : Nat} (hT : Tab w) (h1 : Rd w .u64 Go.Proofs.YtlpjlmophlikeaaGreatDoor.W A1 n1 c1 x.lo.l) (h2 : Rd w .u64 Go.Proofs.YtlpjlmophlikeaaGreatDoor.W A2 n2 c2 x.hi.l) (h3 : Rd w .u64 Go.Proofs.YtlpjlmophlikeaaGreatDoor.W A3 n3 c3 y.lo.l) (h4 : Rd w .u64 Go.Proofs.YtlpjlmophlikeaaGreatDoor.W A4 n4 c4 y.hi.l) (hs : w.cell? ⟨gs, 2, none⟩ = some (.int .i64 p)) :
  (fun wx : World => Below w.heap.size w wx ∧ Tab wx ∧ Rd wx .u64 Go.Proofs.YtlpjlmophlikeaaGreatDoor.W A1 n1 c1 x.lo.l ∧ Rd wx .u64 Go.Proofs.YtlpjlmophlikeaaGreatDoor.W A2 n2 c2 x.hi.l ∧ Rd wx .u64 Go.Proofs.YtlpjlmophlikeaaGreatDoor.W A3 n3 c3 y.lo.l ∧ Rd wx .u64 Go.Proofs.YtlpjlmophlikeaaGreatDoor.W A4 n4 c4 y.hi.l ∧ wx.cell? ⟨gs, 2, none⟩ = some (.int .i64 p) ∧ Ibx wx (w.heap.size + 2) false none 0 0 0 false none 0 0 0 ∧ wx.cell? ⟨w.heap.size, 0, none⟩ = some (.bool x.lo.s) ∧ wx.cell? ⟨w.heap.size, 1, none⟩ = some (.slice A1 n1 c1) ∧ wx.cell? ⟨w.heap.size, 2, none⟩ = some (.int .i64 x.lo.e) ∧ wx.cell? ⟨w.heap.size, 3, none⟩ = some (.bool x.hi.s) ∧ wx.cell? ⟨w.heap.size, 4, none⟩ = some (.slice A2 n2 c2) ∧ wx.cell? ⟨w.heap.size, 5, none⟩ = some (.int .i64 x.hi.e) ∧ wx.cell? ⟨w.heap.size + 1, 0, none⟩ = some (.bool y.lo.s) ∧ wx.cell? ⟨w.heap.size + 1, 1, none⟩ = some (.slice A3 n3 c3) ∧ wx.cell? ⟨w.heap.size + 1, 2, none⟩ = some (.int .i64 y.lo.e) ∧ wx.cell? ⟨w.heap.size + 1, 3, none⟩ = some (.bool y.hi.s) ∧ wx.cell? ⟨w.heap.size + 1, 4, none⟩ = some (.slice A4 n4 c4) ∧ wx.cell? ⟨w.heap.size + 1, 5, none⟩ = some (.int .i64 y.hi.e)) (((w.alloc (.cells #[.bool x.lo.s, .slice A1 n1 c1, .int .i64 x.lo.e, .bool x.hi.s, .slice A2 n2 c2, .int .i64 x.hi.e] 29)).alloc (.cells #[.bool y.lo.s, .slice A3 n3 c3, .int .i64 y.lo.e, .bool y.hi.s, .slice A4 n4 c4, .int .i64 y.hi.e] 29)).alloc (.cells #[.bool false, .slice none 0 0, .int .i64 0, .bool false, .slice none 0 0, .int .i64 0] 29)) := by
 have BB := three_below w (.cells #[.bool x.lo.s, .slice A1 n1 c1, .int .i64 x.lo.e, .bool x.hi.s, .slice A2 n2 c2, .int .i64 x.hi.e] 29) (.cells #[.bool y.lo.s, .slice A3 n3 c3, .int .i64 y.lo.e, .bool y.hi.s, .slice A4 n4 c4, .int .i64 y.hi.e] 29) (.cells #[.bool false, .slice none 0 0, .int .i64 0, .bool false, .slice none 0 0, .int .i64 0] 29)
 have xa := ((Ibx.new w x.lo.s A1 n1 c1 x.lo.e x.hi.s A2 n2 c2 x.hi.e).alloc (.cells #[.bool y.lo.s, .slice A3 n3 c3, .int .i64 y.lo.e, .bool y.hi.s, .slice A4 n4 c4, .int .i64 y.hi.e] 29)).alloc (.cells #[.bool false, .slice none 0 0, .int .i64 0, .bool false, .slice none 0 0, .int .i64 0] 29)
 have xb := (ibx_one w (.cells #[.bool x.lo.s, .slice A1 n1 c1, .int .i64 x.lo.e, .bool x.hi.s, .slice A2 n2 c2, .int .i64 x.hi.e] 29) y.lo.s A3 n3 c3 y.lo.e y.hi.s A4 n4 c4 y.hi.e).alloc (.cells #[.bool false, .slice none 0 0, .int .i64 0, .bool false, .slice none 0 0, .int .i64 0] 29)
 have r := ibx_two w (.cells #[.bool x.lo.s, .slice A1 n1 c1, .int .i64 x.lo.e, .bool x.hi.s, .slice A2 n2 c2, .int .i64 x.hi.e] 29) (.cells #[.bool y.lo.s, .slice A3 n3 c3, .int .i64 y.lo.e, .bool y.hi.s, .slice A4 n4 c4, .int .i64 y.hi.e] 29) false none 0 0 0 false none 0 0 0
 have G := mv BB rfl (J6 hT h1 h2 h3 h4 hs)
 clear hT h1 h2 h3 h4 hs
 obtain ⟨hT, h1, h2, h3, h4, hs⟩ := G
 obtain ⟨a0, a1, a2, a3, a4, a5⟩ := xa.held
 obtain ⟨e0, e1, e2, e3, e4, e5⟩ := xb.held
 exact ⟨BB, hT, h1, h2, h3, h4, hs, r, a0, a1, a2, a3, a4, a5, e0, e1, e2, e3, e4, e5⟩

theorem sadd_run (S : Sc) {w : World} {x y : Iv} {p : Int} {gs : Nat} {A1 : Option Addr} {n1 c1 : Nat} {A2 : Option Addr} {n2 c2 : Nat} {A3 : Option Addr} {n3 c3 : Nat} {A4 : Option Addr} {n4 c4 : Nat} (hT : Tab w) (h1 : Rd w .u64 Go.Proofs.YtlpjlmophlikeaaGreatDoor.W A1 n1 c1 x.lo.l) (h2 : Rd w .u64 Go.Proofs.YtlpjlmophlikeaaGreatDoor.W A2 n2 c2 x.hi.l) (h3 : Rd w .u64 Go.Proofs.YtlpjlmophlikeaaGreatDoor.W A3 n3 c3 y.lo.l) (h4 : Rd w .u64 Go.Proofs.YtlpjlmophlikeaaGreatDoor.W A4 n4 c4 y.hi.l) (hs : w.cell? ⟨gs, 2, none⟩ = some (.int .i64 p)) :
  Calls Tryz.prog 124 #[.pointer (some ⟨gs, 0, none⟩), .agg #[.bool x.lo.s, .slice A1 n1 c1, .int .i64 x.lo.e, .bool x.hi.s, .slice A2 n2 c2, .int .i64 x.hi.e], .agg #[.bool y.lo.s, .slice A3 n3 c3, .int .i64 y.lo.e, .bool y.hi.s, .slice A4 n4 c4, .int .i64 y.hi.e]] w (RunI (addF S x y p) w) := by
 have lg := World.block_lt_of_cell? _ _ hs
 have G := sface_start hT h1 h2 h3 h4 hs
 clear hT h1 h2 h3 h4 hs
 obtain ⟨BB, hT, h1, h2, h3, h4, hs, r, a0, a1, a2, a3, a4, a5, e0, e1, e2, e3, e4, e5⟩ := G
 obtain ⟨q, hq⟩ : ∃ q : Except Int Iv, q = addF S x y p := ⟨_, rfl⟩
 rw [← hq]
 have HQ := Lib.hid hq
 clear hq
 obtain ⟨o1, ho1⟩ : ∃ o, o = addF S x y p := ⟨_, rfl⟩
 have HO1 := Lib.hid ho1
 clear ho1
 have HC1 : Cod o1 := by rw [HO1.out]; exact addF_cod
 go_enter Tryz.func124, Tryz.ntmps124
 go_wp2_with fail
 generalize (((w.alloc _).alloc _).alloc _) = wx at *
 have b : Below wx.heap.size wx (World.drew wx) := below_drewN (Below.refl _ _) 1
 replace BB := bnx BB b
 have G := mv b rfl (J19 hT h1 h2 h3 h4 hs r a0 a1 a2 a3 a4 a5 e0 e1 e2 e3 e4 e5)
 clear b hT h1 h2 h3 h4 hs r a0 a1 a2 a3 a4 a5 e0 e1 e2 e3 e4 e5
 obtain ⟨hT, h1, h2, h3, h4, hs, r, a0, a1, a2, a3, a4, a5, e0, e1, e2, e3, e4, e5⟩ := G
 refine wp_region_held_drew (S := fun w' => w'.cell? ⟨w.heap.size, 0, none⟩ = some (.bool x.lo.s) ∧ w'.cell? ⟨w.heap.size, 1, none⟩ = some (.slice A1 n1 c1) ∧ w'.cell? ⟨w.heap.size, 2, none⟩ = some (.int .i64 x.lo.e) ∧ w'.cell? ⟨w.heap.size, 3, none⟩ = some (.bool x.hi.s) ∧ w'.cell? ⟨w.heap.size, 4, none⟩ = some (.slice A2 n2 c2) ∧ w'.cell? ⟨w.heap.size, 5, none⟩ = some (.int .i64 x.hi.e) ∧ w'.cell? ⟨w.heap.size + 1, 0, none⟩ = some (.bool y.lo.s) ∧ w'.cell? ⟨w.heap.size + 1, 1, none⟩ = some (.slice A3 n3 c3) ∧ w'.cell? ⟨w.heap.size + 1, 2, none⟩ = some (.int .i64 y.lo.e) ∧ w'.cell? ⟨w.heap.size + 1, 3, none⟩ = some (.bool y.hi.s) ∧ w'.cell? ⟨w.heap.size + 1, 4, none⟩ = some (.slice A4 n4 c4) ∧ w'.cell? ⟨w.heap.size + 1, 5, none⟩ = some (.int .i64 y.hi.e) ∧ w'.cell? ⟨gs, 2, none⟩ = some (.int .i64 p)) (by kernel_rfl) (by exact ⟨a0, a1, a2, a3, a4, a5, e0, e1, e2, e3, e4, e5, hs⟩) (fun hHeldv0 => ?_)
 generalize World.drew wx = wd at *
 refine tl 0 ?_
 refine tl 1 ?_
 refine tl 2 ?_
 refine tl 3 ?_
 refine tl 4 ?_
 refine tl 5 ?_
 refine rdy 6 fun K hK => ?_
 go_simp
 refine (tello_to HO1.out (show Calls _ _ _ _ (TellO (face2 S x y p _) _) from aadd_any S hT h1 h2 h3 h4)).mono ?_
 rintro en w' ⟨A5, n5, c5, A6, n6, c6, rfl, h5, h6, b⟩
 clear h1 h2 h3 h4
 replace BB := below_next BB BB.size b (by rfl) (by rfl) (by rfl) (by rfl)
 have G := mv b (by rfl) <| And.intro hT <| And.intro hs <| And.intro r <| And.intro a0 <| And.intro a1 <| And.intro a2 <| And.intro a3 <| And.intro a4 <| And.intro a5 <| And.intro e0 <| And.intro e1 <| And.intro e2 <| And.intro e3 <| And.intro e4 <| e5
 clear b hT hs r a0 a1 a2 a3 a4 a5 e0 e1 e2 e3 e4 e5
 obtain ⟨hT, hs, r, a0, a1, a2, a3, a4, a5, e0, e1, e2, e3, e4, e5⟩ := G
 refine hK.out _ _ (by exact ⟨a0, a1, a2, a3, a4, a5, e0, e1, e2, e3, e4, e5, hs⟩) (fun hHeldv1 => ?_)
 clear hK K hHeldv0
 try simp only [Act.put]
 refine tl 7 ?_
 refine tl 8 ?_
 refine rdy 9 fun K hK => ?_
 go_simp
 refine (mustI_run HC1 h5 h6).mono ?_
 rintro en w' (⟨v1, hv1, A7, n7, c7, A8, n8, c8, rfl, h7, h8, b⟩ | ⟨kk, hk, hk0, rfl, b⟩)
 rotate_left
 ·exact ⟨rfl, .inr ⟨kk, (HQ.out.trans (by simp only [← HO1.out, hk])), hk0, rfl, below_next BB BB.size b (by rfl) (by rfl) (by rfl) (by rfl)⟩⟩
 have HV1 := Lib.hid hv1
 clear hv1 h5 h6 hT
 replace BB := below_next BB BB.size b (by rfl) (by rfl) (by rfl) (by rfl)
 have G := mv b (by rfl) <| And.intro hs <| And.intro r <| And.intro a0 <| And.intro a1 <| And.intro a2 <| And.intro a3 <| And.intro a4 <| And.intro a5 <| And.intro e0 <| And.intro e1 <| And.intro e2 <| And.intro e3 <| And.intro e4 <| e5
 clear b hs r a0 a1 a2 a3 a4 a5 e0 e1 e2 e3 e4 e5
 obtain ⟨hs, r, a0, a1, a2, a3, a4, a5, e0, e1, e2, e3, e4, e5⟩ := G
 obtain ⟨f0, f1, f2, f3, f4, f5⟩ := r.open
 obtain ⟨z0, z1, z2, z3, z4, z5⟩ := r.held
 refine hK.out _ _ (by exact ⟨a0, a1, a2, a3, a4, a5, e0, e1, e2, e3, e4, e5, hs⟩) (fun hHeldv2 => ?_)
 clear hK K hHeldv1
 try simp only [Act.put]
 refine rdy 10 fun K hK => ?_
 go_simp
 refine hK.out _ _ (by exact ⟨cell_oth6 a0 (by omega), cell_oth6 a1 (by omega), cell_oth6 a2 (by omega), cell_oth6 a3 (by omega), cell_oth6 a4 (by omega), cell_oth6 a5 (by omega), cell_oth6 e0 (by omega), cell_oth6 e1 (by omega), cell_oth6 e2 (by omega), cell_oth6 e3 (by omega), cell_oth6 e4 (by omega), cell_oth6 e5 (by omega), cell_oth6 hs (by omega)⟩) (fun hHeldv3 => ?_)
 clear hK K hHeldv2
 try simp only [Act.put]
 refine wpAnyH_done (by kernel_rfl) ?_ _
 go_wp2
 exact ret6 rfl rfl rfl r h7 h8 BB (by omega) fun _ hN hM HB3 => .inl ⟨v1, (HQ.out.trans (by simp only [← HO1.out, HV1.out])), _, _, _, _, _, _, rfl, hN, hM, HB3⟩

theorem ssub_run (S : Sc) {w : World} {x y : Iv} {p : Int} {gs : Nat} {A1 : Option Addr} {n1 c1 : Nat} {A2 : Option Addr} {n2 c2 : Nat} {A3 : Option Addr} {n3 c3 : Nat} {A4 : Option Addr} {n4 c4 : Nat} (hT : Tab w) (h1 : Rd w .u64 Go.Proofs.YtlpjlmophlikeaaGreatDoor.W A1 n1 c1 x.lo.l) (h2 : Rd w .u64 Go.Proofs.YtlpjlmophlikeaaGreatDoor.W A2 n2 c2 x.hi.l) (h3 : Rd w .u64 Go.Proofs.YtlpjlmophlikeaaGreatDoor.W A3 n3 c3 y.lo.l) (h4 : Rd w .u64 Go.Proofs.YtlpjlmophlikeaaGreatDoor.W A4 n4 c4 y.hi.l) (hs : w.cell? ⟨gs, 2, none⟩ = some (.int .i64 p)) :
  Calls Tryz.prog 125 #[.pointer (some ⟨gs, 0, none⟩), .agg #[.bool x.lo.s, .slice A1 n1 c1, .int .i64 x.lo.e, .bool x.hi.s, .slice A2 n2 c2, .int .i64 x.hi.e], .agg #[.bool y.lo.s, .slice A3 n3 c3, .int .i64 y.lo.e, .bool y.hi.s, .slice A4 n4 c4, .int .i64 y.hi.e]] w (RunI (subF S x y p) w) := by
 have lg := World.block_lt_of_cell? _ _ hs
 have G := sface_start hT h1 h2 h3 h4 hs
 clear hT h1 h2 h3 h4 hs
 obtain ⟨BB, hT, h1, h2, h3, h4, hs, r, a0, a1, a2, a3, a4, a5, e0, e1, e2, e3, e4, e5⟩ := G
 obtain ⟨q, hq⟩ : ∃ q : Except Int Iv, q = subF S x y p := ⟨_, rfl⟩
 rw [← hq]
 have HQ := Lib.hid hq
 clear hq
 obtain ⟨o1, ho1⟩ : ∃ o, o = subF S x y p := ⟨_, rfl⟩
 have HO1 := Lib.hid ho1
 clear ho1
 have HC1 : Cod o1 := by rw [HO1.out]; exact subF_cod
 go_enter Tryz.func125, Tryz.ntmps125
 go_wp2_with fail
 generalize (((w.alloc _).alloc _).alloc _) = wx at *
 have b : Below wx.heap.size wx (World.drew wx) := below_drewN (Below.refl _ _) 1
 replace BB := bnx BB b
 have G := mv b rfl (J19 hT h1 h2 h3 h4 hs r a0 a1 a2 a3 a4 a5 e0 e1 e2 e3 e4 e5)
 clear b hT h1 h2 h3 h4 hs r a0 a1 a2 a3 a4 a5 e0 e1 e2 e3 e4 e5
 obtain ⟨hT, h1, h2, h3, h4, hs, r, a0, a1, a2, a3, a4, a5, e0, e1, e2, e3, e4, e5⟩ := G
 refine wp_region_held_drew (S := fun w' => w'.cell? ⟨w.heap.size, 0, none⟩ = some (.bool x.lo.s) ∧ w'.cell? ⟨w.heap.size, 1, none⟩ = some (.slice A1 n1 c1) ∧ w'.cell? ⟨w.heap.size, 2, none⟩ = some (.int .i64 x.lo.e) ∧ w'.cell? ⟨w.heap.size, 3, none⟩ = some (.bool x.hi.s) ∧ w'.cell? ⟨w.heap.size, 4, none⟩ = some (.slice A2 n2 c2) ∧ w'.cell? ⟨w.heap.size, 5, none⟩ = some (.int .i64 x.hi.e) ∧ w'.cell? ⟨w.heap.size + 1, 0, none⟩ = some (.bool y.lo.s) ∧ w'.cell? ⟨w.heap.size + 1, 1, none⟩ = some (.slice A3 n3 c3) ∧ w'.cell? ⟨w.heap.size + 1, 2, none⟩ = some (.int .i64 y.lo.e) ∧ w'.cell? ⟨w.heap.size + 1, 3, none⟩ = some (.bool y.hi.s) ∧ w'.cell? ⟨w.heap.size + 1, 4, none⟩ = some (.slice A4 n4 c4) ∧ w'.cell? ⟨w.heap.size + 1, 5, none⟩ = some (.int .i64 y.hi.e) ∧ w'.cell? ⟨gs, 2, none⟩ = some (.int .i64 p)) (by kernel_rfl) (by exact ⟨a0, a1, a2, a3, a4, a5, e0, e1, e2, e3, e4, e5, hs⟩) (fun hHeldv0 => ?_)
 generalize World.drew wx = wd at *
 refine tl 0 ?_
 refine tl 1 ?_
 refine tl 2 ?_
 refine tl 3 ?_
 refine tl 4 ?_
 refine tl 5 ?_
 refine rdy 6 fun K hK => ?_
 go_simp
 refine (tello_to HO1.out (show Calls _ _ _ _ (TellO (face2 S x y p _) _) from asub_any S hT h1 h2 h3 h4)).mono ?_
 rintro en w' ⟨A5, n5, c5, A6, n6, c6, rfl, h5, h6, b⟩
 clear h1 h2 h3 h4
 replace BB := below_next BB BB.size b (by rfl) (by rfl) (by rfl) (by rfl)
 have G := mv b (by rfl) <| And.intro hT <| And.intro hs <| And.intro r <| And.intro a0 <| And.intro a1 <| And.intro a2 <| And.intro a3 <| And.intro a4 <| And.intro a5 <| And.intro e0 <| And.intro e1 <| And.intro e2 <| And.intro e3 <| And.intro e4 <| e5
 clear b hT hs r a0 a1 a2 a3 a4 a5 e0 e1 e2 e3 e4 e5
 obtain ⟨hT, hs, r, a0, a1, a2, a3, a4, a5, e0, e1, e2, e3, e4, e5⟩ := G
 refine hK.out _ _ (by exact ⟨a0, a1, a2, a3, a4, a5, e0, e1, e2, e3, e4, e5, hs⟩) (fun hHeldv1 => ?_)
 clear hK K hHeldv0
 try simp only [Act.put]
 refine tl 7 ?_
 refine tl 8 ?_
 refine rdy 9 fun K hK => ?_
 go_simp
 refine (mustI_run HC1 h5 h6).mono ?_
 rintro en w' (⟨v1, hv1, A7, n7, c7, A8, n8, c8, rfl, h7, h8, b⟩ | ⟨kk, hk, hk0, rfl, b⟩)
 rotate_left
 ·exact ⟨rfl, .inr ⟨kk, (HQ.out.trans (by simp only [← HO1.out, hk])), hk0, rfl, below_next BB BB.size b (by rfl) (by rfl) (by rfl) (by rfl)⟩⟩
 have HV1 := Lib.hid hv1
 clear hv1 h5 h6 hT
 replace BB := below_next BB BB.size b (by rfl) (by rfl) (by rfl) (by rfl)
 have G := mv b (by rfl) <| And.intro hs <| And.intro r <| And.intro a0 <| And.intro a1 <| And.intro a2 <| And.intro a3 <| And.intro a4 <| And.intro a5 <| And.intro e0 <| And.intro e1 <| And.intro e2 <| And.intro e3 <| And.intro e4 <| e5
 clear b hs r a0 a1 a2 a3 a4 a5 e0 e1 e2 e3 e4 e5
 obtain ⟨hs, r, a0, a1, a2, a3, a4, a5, e0, e1, e2, e3, e4, e5⟩ := G
 obtain ⟨f0, f1, f2, f3, f4, f5⟩ := r.open
 obtain ⟨z0, z1, z2, z3, z4, z5⟩ := r.held
 refine hK.out _ _ (by exact ⟨a0, a1, a2, a3, a4, a5, e0, e1, e2, e3, e4, e5, hs⟩) (fun hHeldv2 => ?_)
 clear hK K hHeldv1
 try simp only [Act.put]
 refine rdy 10 fun K hK => ?_
 go_simp
 refine hK.out _ _ (by exact ⟨cell_oth6 a0 (by omega), cell_oth6 a1 (by omega), cell_oth6 a2 (by omega), cell_oth6 a3 (by omega), cell_oth6 a4 (by omega), cell_oth6 a5 (by omega), cell_oth6 e0 (by omega), cell_oth6 e1 (by omega), cell_oth6 e2 (by omega), cell_oth6 e3 (by omega), cell_oth6 e4 (by omega), cell_oth6 e5 (by omega), cell_oth6 hs (by omega)⟩) (fun hHeldv3 => ?_)
 clear hK K hHeldv2
 try simp only [Act.put]
 refine wpAnyH_done (by kernel_rfl) ?_ _
 go_wp2
 exact ret6 rfl rfl rfl r h7 h8 BB (by omega) fun _ hN hM HB3 => .inl ⟨v1, (HQ.out.trans (by simp only [← HO1.out, HV1.out])), _, _, _, _, _, _, rfl, hN, hM, HB3⟩

theorem smul_run (S : Sc) {w : World} {x y : Iv} {p : Int} {gs : Nat} {A1 : Option Addr} {n1 c1 : Nat} {A2 : Option Addr} {n2 c2 : Nat} {A3 : Option Addr} {n3 c3 : Nat} {A4 : Option Addr} {n4 c4 : Nat} (hT : Tab w) (h1 : Rd w .u64 Go.Proofs.YtlpjlmophlikeaaGreatDoor.W A1 n1 c1 x.lo.l) (h2 : Rd w .u64 Go.Proofs.YtlpjlmophlikeaaGreatDoor.W A2 n2 c2 x.hi.l) (h3 : Rd w .u64 Go.Proofs.YtlpjlmophlikeaaGreatDoor.W A3 n3 c3 y.lo.l) (h4 : Rd w .u64 Go.Proofs.YtlpjlmophlikeaaGreatDoor.W A4 n4 c4 y.hi.l) (hs : w.cell? ⟨gs, 2, none⟩ = some (.int .i64 p)) :
  Calls Tryz.prog 126 #[.pointer (some ⟨gs, 0, none⟩), .agg #[.bool x.lo.s, .slice A1 n1 c1, .int .i64 x.lo.e, .bool x.hi.s, .slice A2 n2 c2, .int .i64 x.hi.e], .agg #[.bool y.lo.s, .slice A3 n3 c3, .int .i64 y.lo.e, .bool y.hi.s, .slice A4 n4 c4, .int .i64 y.hi.e]] w (RunI (mulF S x y p) w) := by
 have lg := World.block_lt_of_cell? _ _ hs
 have G := sface_start hT h1 h2 h3 h4 hs
 clear hT h1 h2 h3 h4 hs
 obtain ⟨BB, hT, h1, h2, h3, h4, hs, r, a0, a1, a2, a3, a4, a5, e0, e1, e2, e3, e4, e5⟩ := G
 obtain ⟨q, hq⟩ : ∃ q : Except Int Iv, q = mulF S x y p := ⟨_, rfl⟩
 rw [← hq]
 have HQ := Lib.hid hq
 clear hq
 obtain ⟨o1, ho1⟩ : ∃ o, o = mulF S x y p := ⟨_, rfl⟩
 have HO1 := Lib.hid ho1
 clear ho1
 have HC1 : Cod o1 := by rw [HO1.out]; exact mulF_cod
 go_enter Tryz.func126, Tryz.ntmps126
 go_wp2_with fail
 generalize (((w.alloc _).alloc _).alloc _) = wx at *
 have b : Below wx.heap.size wx (World.drew wx) := below_drewN (Below.refl _ _) 1
 replace BB := bnx BB b
 have G := mv b rfl (J19 hT h1 h2 h3 h4 hs r a0 a1 a2 a3 a4 a5 e0 e1 e2 e3 e4 e5)
 clear b hT h1 h2 h3 h4 hs r a0 a1 a2 a3 a4 a5 e0 e1 e2 e3 e4 e5
 obtain ⟨hT, h1, h2, h3, h4, hs, r, a0, a1, a2, a3, a4, a5, e0, e1, e2, e3, e4, e5⟩ := G
 refine wp_region_held_drew (S := fun w' => w'.cell? ⟨w.heap.size, 0, none⟩ = some (.bool x.lo.s) ∧ w'.cell? ⟨w.heap.size, 1, none⟩ = some (.slice A1 n1 c1) ∧ w'.cell? ⟨w.heap.size, 2, none⟩ = some (.int .i64 x.lo.e) ∧ w'.cell? ⟨w.heap.size, 3, none⟩ = some (.bool x.hi.s) ∧ w'.cell? ⟨w.heap.size, 4, none⟩ = some (.slice A2 n2 c2) ∧ w'.cell? ⟨w.heap.size, 5, none⟩ = some (.int .i64 x.hi.e) ∧ w'.cell? ⟨w.heap.size + 1, 0, none⟩ = some (.bool y.lo.s) ∧ w'.cell? ⟨w.heap.size + 1, 1, none⟩ = some (.slice A3 n3 c3) ∧ w'.cell? ⟨w.heap.size + 1, 2, none⟩ = some (.int .i64 y.lo.e) ∧ w'.cell? ⟨w.heap.size + 1, 3, none⟩ = some (.bool y.hi.s) ∧ w'.cell? ⟨w.heap.size + 1, 4, none⟩ = some (.slice A4 n4 c4) ∧ w'.cell? ⟨w.heap.size + 1, 5, none⟩ = some (.int .i64 y.hi.e) ∧ w'.cell? ⟨gs, 2, none⟩ = some (.int .i64 p)) (by kernel_rfl) (by exact ⟨a0, a1, a2, a3, a4, a5, e0, e1, e2, e3, e4, e5, hs⟩) (fun hHeldv0 => ?_)
 generalize World.drew wx = wd at *
 refine tl 0 ?_
 refine tl 1 ?_
 refine tl 2 ?_
 refine tl 3 ?_
 refine tl 4 ?_
 refine tl 5 ?_
 refine rdy 6 fun K hK => ?_
 go_simp
 refine (tello_to HO1.out (show Calls _ _ _ _ (TellO (face2 S x y p _) _) from amul_any S hT h1 h2 h3 h4)).mono ?_
 rintro en w' ⟨A5, n5, c5, A6, n6, c6, rfl, h5, h6, b⟩
 clear h1 h2 h3 h4
 replace BB := below_next BB BB.size b (by rfl) (by rfl) (by rfl) (by rfl)
 have G := mv b (by rfl) <| And.intro hT <| And.intro hs <| And.intro r <| And.intro a0 <| And.intro a1 <| And.intro a2 <| And.intro a3 <| And.intro a4 <| And.intro a5 <| And.intro e0 <| And.intro e1 <| And.intro e2 <| And.intro e3 <| And.intro e4 <| e5
 clear b hT hs r a0 a1 a2 a3 a4 a5 e0 e1 e2 e3 e4 e5
 obtain ⟨hT, hs, r, a0, a1, a2, a3, a4, a5, e0, e1, e2, e3, e4, e5⟩ := G
 refine hK.out _ _ (by exact ⟨a0, a1, a2, a3, a4, a5, e0, e1, e2, e3, e4, e5, hs⟩) (fun hHeldv1 => ?_)
 clear hK K hHeldv0
 try simp only [Act.put]
 refine tl 7 ?_
 refine tl 8 ?_
 refine rdy 9 fun K hK => ?_
 go_simp
 refine (mustI_run HC1 h5 h6).mono ?_
 rintro en w' (⟨v1, hv1, A7, n7, c7, A8, n8, c8, rfl, h7, h8, b⟩ | ⟨kk, hk, hk0, rfl, b⟩)
 rotate_left
 ·exact ⟨rfl, .inr ⟨kk, (HQ.out.trans (by simp only [← HO1.out, hk])), hk0, rfl, below_next BB BB.size b (by rfl) (by rfl) (by rfl) (by rfl)⟩⟩
 have HV1 := Lib.hid hv1
 clear hv1 h5 h6 hT
 replace BB := below_next BB BB.size b (by rfl) (by rfl) (by rfl) (by rfl)
 have G := mv b (by rfl) <| And.intro hs <| And.intro r <| And.intro a0 <| And.intro a1 <| And.intro a2 <| And.intro a3 <| And.intro a4 <| And.intro a5 <| And.intro e0 <| And.intro e1 <| And.intro e2 <| And.intro e3 <| And.intro e4 <| e5
 clear b hs r a0 a1 a2 a3 a4 a5 e0 e1 e2 e3 e4 e5
 obtain ⟨hs, r, a0, a1, a2, a3, a4, a5, e0, e1, e2, e3, e4, e5⟩ := G
 obtain ⟨f0, f1, f2, f3, f4, f5⟩ := r.open
 obtain ⟨z0, z1, z2, z3, z4, z5⟩ := r.held
 refine hK.out _ _ (by exact ⟨a0, a1, a2, a3, a4, a5, e0, e1, e2, e3, e4, e5, hs⟩) (fun hHeldv2 => ?_)
 clear hK K hHeldv1
 try simp only [Act.put]
 refine rdy 10 fun K hK => ?_
 go_simp
 refine hK.out _ _ (by exact ⟨cell_oth6 a0 (by omega), cell_oth6 a1 (by omega), cell_oth6 a2 (by omega), cell_oth6 a3 (by omega), cell_oth6 a4 (by omega), cell_oth6 a5 (by omega), cell_oth6 e0 (by omega), cell_oth6 e1 (by omega), cell_oth6 e2 (by omega), cell_oth6 e3 (by omega), cell_oth6 e4 (by omega), cell_oth6 e5 (by omega), cell_oth6 hs (by omega)⟩) (fun hHeldv3 => ?_)
 clear hK K hHeldv2
 try simp only [Act.put]
 refine wpAnyH_done (by kernel_rfl) ?_ _
 go_wp2
 exact ret6 rfl rfl rfl r h7 h8 BB (by omega) fun _ hN hM HB3 => .inl ⟨v1, (HQ.out.trans (by simp only [← HO1.out, HV1.out])), _, _, _, _, _, _, rfl, hN, hM, HB3⟩

theorem spower_any {w : World} {e : Int} :
  Calls Tryz.prog 123 #[.int .i64 e] w (GivI (pwI e) w) := by
 obtain ⟨a, ha⟩ : ∃ a, a = pwQ e := ⟨_, rfl⟩
 rw [show pwI e = ⟨a, a⟩ by rw [ha]; rfl]
 have HA := Lib.hid ha
 clear ha
 have BB := two_below w (.cells #[.bool false, .slice none 0 0, .int .i64 0, .bool false, .slice none 0 0, .int .i64 0] 29) (.cells #[.int .u64 1] 60)
 have r := (Ibx.new w false none 0 0 0 false none 0 0 0).alloc (.cells #[.int .u64 1] 60)
 have N1 := (nt_one_at (w := w.alloc (.cells #[.bool false, .slice none 0 0, .int .i64 0, .bool false, .slice none 0 0, .int .i64 0] 29)) (g := w.heap.size + 1) (v := 1) (by simp) (by omega) (by omega)).rd
 go_enter Tryz.func123, Tryz.ntmps123
 go_wp2_with fail
 refine (show Calls _ _ _ _ (GivI ⟨a, a⟩ _) from by rw [HA.out]; exact iof_any (a := pwQ e) N1 (by decide)).mono ?_
 rintro en w5 ⟨A5, n5, c5, A6, n6, c6, rfl, h5, h6, b⟩
 clear N1
 replace BB := bnx BB b
 replace r := mv b rfl r
 clear b
 obtain ⟨f0, f1, f2, f3, f4, f5⟩ := r.open
 obtain ⟨z0, z1, z2, z3, z4, z5⟩ := r.held
 go_wp2
 exact ret6 rfl rfl rfl r h5 h6 BB (by omega) fun _ hN hM HB3 => ⟨_, _, _, _, _, _, rfl, hN, hM, HB3⟩

theorem sown_any {w : World} {x : Iv} {A1 : Option Addr} {n1 c1 : Nat} {A2 : Option Addr} {n2 c2 : Nat} (h1 : Rd w .u64 Go.Proofs.YtlpjlmophlikeaaGreatDoor.W A1 n1 c1 x.lo.l) (h2 : Rd w .u64 Go.Proofs.YtlpjlmophlikeaaGreatDoor.W A2 n2 c2 x.hi.l) (hn1 : n1 ≤ 10000000000000) (hn2 : n2 ≤ 10000000000000) :
  Calls Tryz.prog 85 #[.agg #[.bool x.lo.s, .slice A1 n1 c1, .int .i64 x.lo.e, .bool x.hi.s, .slice A2 n2 c2, .int .i64 x.hi.e]] w (GivI x w) := by
 have BB := two_below w (.cells #[.bool x.lo.s, .slice A1 n1 c1, .int .i64 x.lo.e, .bool x.hi.s, .slice A2 n2 c2, .int .i64 x.hi.e] 29) (.cells #[.bool false, .slice none 0 0, .int .i64 0, .bool false, .slice none 0 0, .int .i64 0] 29)
 have xa := (Ibx.new w x.lo.s A1 n1 c1 x.lo.e x.hi.s A2 n2 c2 x.hi.e).alloc (.cells #[.bool false, .slice none 0 0, .int .i64 0, .bool false, .slice none 0 0, .int .i64 0] 29)
 have r : Ibx ((w.alloc (.cells #[.bool x.lo.s, .slice A1 n1 c1, .int .i64 x.lo.e, .bool x.hi.s, .slice A2 n2 c2, .int .i64 x.hi.e] 29)).alloc (.cells #[.bool false, .slice none 0 0, .int .i64 0, .bool false, .slice none 0 0, .int .i64 0] 29)) (w.heap.size + 1) false none 0 0 0 false none 0 0 0 := by have := Ibx.new (w.alloc (.cells #[.bool x.lo.s, .slice A1 n1 c1, .int .i64 x.lo.e, .bool x.hi.s, .slice A2 n2 c2, .int .i64 x.hi.e] 29)) false none 0 0 0 false none 0 0 0; simpa using this
 have G := mv BB rfl <| And.intro h1 <| h2
 clear h1 h2
 obtain ⟨h1, h2⟩ := G
 obtain ⟨a0, a1, a2, a3, a4, a5⟩ := xa.held
 go_enter Tryz.func85, Tryz.ntmps85
 go_wp2_with fail
 refine (clone_any h1 hn1).mono ?_
 rintro en w2 ⟨A3, c3, rfl, h3, b, _⟩
 clear h1 a0 a1 a2 a3 a4 a5
 replace BB := bnx BB b
 have G := mv b rfl (J3 h2 xa r)
 clear b h2 xa r
 obtain ⟨h2, xa, r⟩ := G
 obtain ⟨f0, f1, f2, f3, f4, f5⟩ := xa.open
 obtain ⟨a0, a1, a2, a3, a4, a5⟩ := xa.held
 have xb := xa.set1 A3 n1 c3
 have h2' := h2.set1 (h2.off xa.no) 1 (.slice A3 n1 c3)
 have h3' := h3.set1 (h3.off xa.no) 1 (.slice A3 n1 c3)
 have rb := r.other (g' := w.heap.size) (by omega) 1 (.slice A3 n1 c3)
 have hbb := BB.setCell (p := ⟨w.heap.size, 1, none⟩) (Nat.le_refl _) (.slice A3 n1 c3)
 obtain ⟨b0, b1, b2, b3, b4, b5⟩ := xb.held
 go_upto_region 2 with fail
 generalize w2.setCell ⟨w.heap.size, 1, none⟩ (.slice A3 n1 c3) = w3 at *
 clear f0 f1 f2 f3 f4 f5 a0 a1 a2 a3 a4 a5 xa r h2 h3 BB
 go_wp2_with fail
 refine (clone_any h2' hn2).mono ?_
 rintro en w4 ⟨A4, c4, rfl, h4, b, _⟩
 have BB := hbb
 clear h2' hbb b0 b1 b2 b3 b4 b5
 replace BB := bnx BB b
 have G := mv b rfl (J3 h3' xb rb)
 clear b h3' xb rb
 obtain ⟨h3', xb, rb⟩ := G
 obtain ⟨f0, f1, f2, f3, f4, f5⟩ := xb.open
 obtain ⟨a0, a1, a2, a3, a4, a5⟩ := xb.held
 have xc := xb.set4 A4 n2 c4
 have h3c := h3'.set1 (h3'.off xb.no) 4 (.slice A4 n2 c4)
 have h4c := h4.set1 (h4.off xb.no) 4 (.slice A4 n2 c4)
 have rc := rb.other (g' := w.heap.size) (by omega) 4 (.slice A4 n2 c4)
 have hbc := BB.setCell (p := ⟨w.heap.size, 4, none⟩) (Nat.le_refl _) (.slice A4 n2 c4)
 go_upto_region 3 with fail
 generalize w4.setCell ⟨w.heap.size, 4, none⟩ (.slice A4 n2 c4) = w5 at *
 clear f0 f1 f2 f3 f4 f5 a0 a1 a2 a3 a4 a5 xb rb h3' h4 BB
 have BB := hbc
 have r := rc
 obtain ⟨b0, b1, b2, b3, b4, b5⟩ := xc.held
 obtain ⟨f0, f1, f2, f3, f4, f5⟩ := r.open
 obtain ⟨z0, z1, z2, z3, z4, z5⟩ := r.held
 go_wp2
 have qq := r.put x.lo.s A3 n1 c3 x.lo.e x.hi.s A4 n2 c4 x.hi.e
 have hN := h3c.put6 r (.bool x.lo.s) (.slice A3 n1 c3) (.int .i64 x.lo.e) (.bool x.hi.s) (.slice A4 n2 c4) (.int .i64 x.hi.e)
 have hM := h4c.put6 r (.bool x.lo.s) (.slice A3 n1 c3) (.int .i64 x.lo.e) (.bool x.hi.s) (.slice A4 n2 c4) (.int .i64 x.hi.e)
 have HB3 := below_put6 (g := w.heap.size + 1) BB (by omega) (.bool x.lo.s) (.slice A3 n1 c3) (.int .i64 x.lo.e) (.bool x.hi.s) (.slice A4 n2 c4) (.int .i64 x.hi.e)
 obtain ⟨z0, z1, z2, z3, z4, z5⟩ := qq.held
 exact bodyPost_ret (v := .agg #[.bool x.lo.s, .slice A3 n1 c3, .int .i64 x.lo.e, .bool x.hi.s, .slice A4 n2 c4, .int .i64 x.hi.e]) (by simp [results, Tryz.results85, go_sem, z0, z1, z2, z3, z4, z5]) rfl ⟨_, _, _, _, _, _, rfl, hN, hM, HB3⟩


/-- a sheet as it lies: the values, the rows of derivatives, the bits -/
structure Sheet (w : World) (b0 gs gr n : Nat) (vs : Nat → Value) (Q : Nat → List Iv) (AV : Option Addr) (cV : Nat) (V : Nat → Iv) (p : Int) : Prop where
 box : Blk w gs #[.slice AV n cV, .slice (some ⟨gr, 0, none⟩) n n, .int .i64 p] 71
 rows : Rws w b0 gr n vs Q
 lo : b0 ≤ gr
 vals : RdS w AV n cV V
instance {w w2 : World} {b0 gs gr n : Nat} {vs : Nat → Value} {Q : Nat → List Iv} {AV : Option Addr} {cV : Nat} {V : Nat → Iv} {p : Int} : Moves w w2 (Sheet w b0 gs gr n vs Q AV cV V p) (Sheet w2 b0 gs gr n vs Q AV cV V p) := ⟨fun _ b e h => ⟨h.box.next b e, h.rows.next b e, h.lo, h.vals.next b e⟩⟩

end Go.Proofs.YtlpjlmophlikeaaGreatDoor
