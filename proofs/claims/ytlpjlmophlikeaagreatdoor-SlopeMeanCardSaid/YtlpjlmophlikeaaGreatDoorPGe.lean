/-
 Contract of slope's next, at this translation. Condition: the slices read as limbs, the table of math/bits reads as its text lays it.
-/
import Derived.Test.YtlpjlmophlikeaaGreatDoorPGd
import Derived.Test.YtlpjlmophlikeaaGreatDoorPGc
set_option maxHeartbeats 8000000
set_option maxRecDepth 100000
namespace Go.Proofs.YtlpjlmophlikeaaGreatDoor
open Go.RowKit

theorem box_new (w : World) : Ibx (w.alloc (.cells #[.bool false, .slice none 0 0, .int .i64 0, .bool false, .slice none 0 0, .int .i64 0] 29)) w.heap.size false none 0 0 0 false none 0 0 0 ∧ Below w.heap.size w (w.alloc (.cells #[.bool false, .slice none 0 0, .int .i64 0, .bool false, .slice none 0 0, .int .i64 0] 29)) := ⟨Ibx.new .., below_alloc _ _⟩
theorem rg {P : Program} {ops : Array Oper} {Q : Exit → Act → World → Prop} {id : Nat} {a : Act} {w wd : World} {S : World → Prop} (hw : w.drew = wd) (h : S wd → wpAnyH P .any ops Q S ops.size (Array.replicate ops.size false) a wd) (hm : P.follows .mixedOrders = true := by kernel_rfl) : S wd → (Code.region id ops true).wp P Q a w := by
 subst hw
 exact fun hS => wp_region_held_drew hm hS h

theorem snext_zero {w : World} {op la lb st : Int} {kk : Iv} {A1 : Option Addr} {n1 c1 : Nat} {A2 : Option Addr} {n2 c2 : Nat} {gs i : Nat} (hop : op = 1 ∨ op = 2 ∨ op = 4 ∨ op = 5) :
  Calls Tryz.prog 84 #[.pointer (some ⟨gs, 0, none⟩), .int .i64 (i : Int), .agg #[.int .i64 op, .int .i64 la, .int .i64 lb, .bool kk.lo.s, .slice A1 n1 c1, .int .i64 kk.lo.e, .bool kk.hi.s, .slice A2 n2 c2, .int .i64 kk.hi.e], .int .i64 st] w (GivI Iv.zero w) := by
 have BB := two_below w (.cells #[.int .i64 op, .int .i64 la, .int .i64 lb, .bool kk.lo.s, .slice A1 n1 c1, .int .i64 kk.lo.e, .bool kk.hi.s, .slice A2 n2 c2, .int .i64 kk.hi.e] 31) (.cells #[.bool false, .slice none 0 0, .int .i64 0, .bool false, .slice none 0 0, .int .i64 0] 29)
 have xl := mv (below_alloc (w.alloc (.cells #[.int .i64 op, .int .i64 la, .int .i64 lb, .bool kk.lo.s, .slice A1 n1 c1, .int .i64 kk.lo.e, .bool kk.hi.s, .slice A2 n2 c2, .int .i64 kk.hi.e] 31)) (.cells #[.bool false, .slice none 0 0, .int .i64 0, .bool false, .slice none 0 0, .int .i64 0] 29)) rfl (Blk.new w #[.int .i64 op, .int .i64 la, .int .i64 lb, .bool kk.lo.s, .slice A1 n1 c1, .int .i64 kk.lo.e, .bool kk.hi.s, .slice A2 n2 c2, .int .i64 kk.hi.e] 31)
 have m0 : World.cell? _ ⟨_, 0, none⟩ = some (.int .i64 op) := xl.at 0
 have h5 := rd_nil0 ((w.alloc (.cells #[.int .i64 op, .int .i64 la, .int .i64 lb, .bool kk.lo.s, .slice A1 n1 c1, .int .i64 kk.lo.e, .bool kk.hi.s, .slice A2 n2 c2, .int .i64 kk.hi.e] 31)).alloc (.cells #[.bool false, .slice none 0 0, .int .i64 0, .bool false, .slice none 0 0, .int .i64 0] 29))
 clear xl
 rcases hop with rfl | rfl | rfl | rfl
 all_goals
  go_enter Tryz.func84, Tryz.ntmps84
  go_wp2
  exact bodyPost_ret (v := .agg #[.bool false, .slice none 0 0, .int .i64 0, .bool false, .slice none 0 0, .int .i64 0]) (by simp [results, Tryz.results84, go_sem]) rfl ⟨_, _, _, _, _, _, rfl, h5, h5, BB⟩

theorem snext_state {w : World} {la lb st : Int} {kk : Iv} {A1 : Option Addr} {n1 c1 : Nat} {A2 : Option Addr} {n2 c2 : Nat} {gs i : Nat} :
  Calls Tryz.prog 84 #[.pointer (some ⟨gs, 0, none⟩), .int .i64 (i : Int), .agg #[.int .i64 3, .int .i64 la, .int .i64 lb, .bool kk.lo.s, .slice A1 n1 c1, .int .i64 kk.lo.e, .bool kk.hi.s, .slice A2 n2 c2, .int .i64 kk.hi.e], .int .i64 st] w (GivI (if la = st then pwI 0 else Iv.zero) w) := by
 have BB := two_below w (.cells #[.int .i64 3, .int .i64 la, .int .i64 lb, .bool kk.lo.s, .slice A1 n1 c1, .int .i64 kk.lo.e, .bool kk.hi.s, .slice A2 n2 c2, .int .i64 kk.hi.e] 31) (.cells #[.bool false, .slice none 0 0, .int .i64 0, .bool false, .slice none 0 0, .int .i64 0] 29)
 have xl := mv (below_alloc (w.alloc (.cells #[.int .i64 3, .int .i64 la, .int .i64 lb, .bool kk.lo.s, .slice A1 n1 c1, .int .i64 kk.lo.e, .bool kk.hi.s, .slice A2 n2 c2, .int .i64 kk.hi.e] 31)) (.cells #[.bool false, .slice none 0 0, .int .i64 0, .bool false, .slice none 0 0, .int .i64 0] 29)) rfl (Blk.new w #[.int .i64 3, .int .i64 la, .int .i64 lb, .bool kk.lo.s, .slice A1 n1 c1, .int .i64 kk.lo.e, .bool kk.hi.s, .slice A2 n2 c2, .int .i64 kk.hi.e] 31)
 have r := ibx_one w (.cells #[.int .i64 3, .int .i64 la, .int .i64 lb, .bool kk.lo.s, .slice A1 n1 c1, .int .i64 kk.lo.e, .bool kk.hi.s, .slice A2 n2 c2, .int .i64 kk.hi.e] 31) false none 0 0 0 false none 0 0 0
 have m0 : World.cell? _ ⟨_, 0, none⟩ = some (.int .i64 3) := xl.at 0
 have m1 : World.cell? _ ⟨_, 1, none⟩ = some (.int .i64 la) := xl.at 1
 clear xl
 by_cases h : la = st
 ·have hb : (la == st) = true := by simp [h]
  rw [if_pos h]
  clear h
  have HX := Lib.hid (show ((pwI 0).lo.s = (pwI 0).lo.s) from rfl)
  obtain ⟨x, hx⟩ : ∃ x, x = pwI 0 := ⟨_, rfl⟩
  rw [← hx]
  have HXX := Lib.hid hx
  clear hx HX
  go_enter Tryz.func84, Tryz.ntmps84
  go_wp2_with fail
  refine (show Calls _ _ _ _ (GivI x _) from by rw [HXX.out]; exact spower_any).mono ?_
  rintro en w5 ⟨A5, n5, c5, A6, n6, c6, rfl, h5, h6, b⟩
  clear m0 m1 hb
  replace BB := bnx BB b
  replace r := mv b rfl r
  clear b
  obtain ⟨f0, f1, f2, f3, f4, f5⟩ := r.open
  obtain ⟨z0, z1, z2, z3, z4, z5⟩ := r.held
  go_wp2
  exact ret6 rfl rfl rfl r h5 h6 BB (by omega) fun _ hN hM HB3 => ⟨_, _, _, _, _, _, rfl, hN, hM, HB3⟩
 ·have hb : (la == st) = false := by simp [h]
  rw [if_neg h]
  have h5 := rd_nil0 ((w.alloc (.cells #[.int .i64 3, .int .i64 la, .int .i64 lb, .bool kk.lo.s, .slice A1 n1 c1, .int .i64 kk.lo.e, .bool kk.hi.s, .slice A2 n2 c2, .int .i64 kk.hi.e] 31)).alloc (.cells #[.bool false, .slice none 0 0, .int .i64 0, .bool false, .slice none 0 0, .int .i64 0] 29))
  go_enter Tryz.func84, Tryz.ntmps84
  go_wp2
  exact bodyPost_ret (v := .agg #[.bool false, .slice none 0 0, .int .i64 0, .bool false, .slice none 0 0, .int .i64 0]) (by simp [results, Tryz.results84, go_sem]) rfl ⟨_, _, _, _, _, _, rfl, h5, h5, BB⟩

theorem snext_high (S : Sc) {w : World} {op st p : Int} {kk a b c da db : Iv} {A1 : Option Addr} {n1 c1 : Nat} {A2 : Option Addr} {n2 c2 : Nat} {i ja jb k nV cV gs gr gx ox g1 o1 m1 e1 g2 o2 m2 e2 cI : Nat} {AI : Option Addr} (hop : 6 ≤ op ∧ op ≤ 8) (hT : Tab w)
  (s0 : w.cell? ⟨gs, 0, none⟩ = some (.slice (some ⟨gx, ox, none⟩) nV cV)) (s1 : w.cell? ⟨gs, 1, none⟩ = some (.slice (some ⟨gr, 0, none⟩) nV nV)) (s2 : w.cell? ⟨gs, 2, none⟩ = some (.int .i64 p))
  (xa : IvAt w gx (ox + ja * 6) a) (xb : IvAt w gx (ox + jb * 6) b) (xc : IvAt w gx (ox + i * 6) c) (ra : w.cell? ⟨gr, ja, none⟩ = some (.slice (some ⟨g1, o1, none⟩) m1 e1)) (rb : w.cell? ⟨gr, jb, none⟩ = some (.slice (some ⟨g2, o2, none⟩) m2 e2)) (rc : w.cell? ⟨gr, i, none⟩ = some (.slice AI k cI))
  (xda : IvAt w g1 (o1 + k * 6) da) (xdb : IvAt w g2 (o2 + k * 6) db) (hja : ja < nV) (hjb : jb < nV) (hi : i < nV) (hk1 : k < m1) (hk2 : k < m2) :
  Calls Tryz.prog 84 #[.pointer (some ⟨gs, 0, none⟩), .int .i64 (i : Int), .agg #[.int .i64 op, .int .i64 (ja : Int), .int .i64 (jb : Int), .bool kk.lo.s, .slice A1 n1 c1, .int .i64 kk.lo.e, .bool kk.hi.s, .slice A2 n2 c2, .int .i64 kk.hi.e], .int .i64 st] w (RunI (stepO S op a b c da db p) w) := by
 have lgs := World.block_lt_of_cell? _ _ s0
 have BB := two_below w (.cells #[.int .i64 op, .int .i64 (ja : Int), .int .i64 (jb : Int), .bool kk.lo.s, .slice A1 n1 c1, .int .i64 kk.lo.e, .bool kk.hi.s, .slice A2 n2 c2, .int .i64 kk.hi.e] 31) (.cells #[.bool false, .slice none 0 0, .int .i64 0, .bool false, .slice none 0 0, .int .i64 0] 29)
 have xl := mv (below_alloc (w.alloc (.cells #[.int .i64 op, .int .i64 (ja : Int), .int .i64 (jb : Int), .bool kk.lo.s, .slice A1 n1 c1, .int .i64 kk.lo.e, .bool kk.hi.s, .slice A2 n2 c2, .int .i64 kk.hi.e] 31)) (.cells #[.bool false, .slice none 0 0, .int .i64 0, .bool false, .slice none 0 0, .int .i64 0] 29)) rfl (Blk.new w #[.int .i64 op, .int .i64 (ja : Int), .int .i64 (jb : Int), .bool kk.lo.s, .slice A1 n1 c1, .int .i64 kk.lo.e, .bool kk.hi.s, .slice A2 n2 c2, .int .i64 kk.hi.e] 31)
 have r := ibx_one w (.cells #[.int .i64 op, .int .i64 (ja : Int), .int .i64 (jb : Int), .bool kk.lo.s, .slice A1 n1 c1, .int .i64 kk.lo.e, .bool kk.hi.s, .slice A2 n2 c2, .int .i64 kk.hi.e] 31) false none 0 0 0 false none 0 0 0
 have m0 : World.cell? _ ⟨_, 0, none⟩ = some (.int .i64 op) := xl.at 0
 have m1' : World.cell? _ ⟨_, 1, none⟩ = some (.int .i64 (ja : Int)) := xl.at 1
 have m2' : World.cell? _ ⟨_, 2, none⟩ = some (.int .i64 (jb : Int)) := xl.at 2
 clear xl
 have G := mv BB rfl (J12 hT s0 s1 s2 xa xb xc ra rb rc xda xdb)
 clear hT s0 s1 s2 xa xb xc ra rb rc xda xdb
 obtain ⟨hT, s0, s1, s2, xa, xb, xc, ra, rb, rc, xda, xdb⟩ := G
 obtain ⟨q, hq⟩ : ∃ q, q = stepO S op a b c da db p := ⟨_, rfl⟩
 rw [← hq]
 have HQ := Lib.hid hq
 clear hq
 have b1 : (op == 1) = false := beq_eq_false_iff_ne.2 (by omega)
 have b2 : (op == 2) = false := beq_eq_false_iff_ne.2 (by omega)
 have b3 : (op == 3) = false := beq_eq_false_iff_ne.2 (by omega)
 have b4 : (op == 4) = false := beq_eq_false_iff_ne.2 (by omega)
 have b5 : (op == 5) = false := beq_eq_false_iff_ne.2 (by omega)
 have i0 : (0 : Int) ≤ (ja : Int) := by omega
 have i1 : (ja : Int) < (nV : Int) := by omega
 have i2 : (0 : Int) ≤ (jb : Int) := by omega
 have i3 : (jb : Int) < (nV : Int) := by omega
 have i4 : (0 : Int) ≤ (i : Int) := by omega
 have i5 : (i : Int) < (nV : Int) := by omega
 have i6 : (0 : Int) ≤ (k : Int) := by omega
 have i7 : (k : Int) < (m1 : Int) := by omega
 have i8 : (k : Int) < (m2 : Int) := by omega
 have HOP := Lib.hid hop
 clear hop hja hjb hi hk1 hk2
 have lr := r.gl
 go_enter Tryz.func84, Tryz.ntmps84
 go_upto_region 12 with fail
 clear b1 b2 b3 b4 b5 rc
 generalize ((w.alloc _).alloc _) = W1 at *
 obtain ⟨A7, n7, c7, A8, n8, c8, ⟨r_0, r_1, r_2, r_3, r_4, r_5⟩, h7, h8⟩ := xa
 obtain ⟨A9, n9, c9, A10, n10, c10, ⟨y_0, y_1, y_2, y_3, y_4, y_5⟩, h9, h10⟩ := xb
 obtain ⟨A11, n11, c11, A12, n12, c12, ⟨z_0, z_1, z_2, z_3, z_4, z_5⟩, h11, h12⟩ := xc
 go_cut [10, 11, 12] (fun v10 v11 v12 wx => ∃ ga gb gc : Nat, v10 = .pointer (some ⟨ga, 0, none⟩) ∧ v11 = .pointer (some ⟨gb, 0, none⟩) ∧ v12 = .pointer (some ⟨gc, 0, none⟩) ∧ W1.heap.size ≤ ga ∧ W1.heap.size ≤ gb ∧ W1.heap.size ≤ gc ∧ Ibx wx ga a.lo.s A7 n7 c7 a.lo.e a.hi.s A8 n8 c8 a.hi.e ∧ Ibx wx gb b.lo.s A9 n9 c9 b.lo.e b.hi.s A10 n10 c10 b.hi.e ∧ Ibx wx gc c.lo.s A11 n11 c11 c.lo.e c.hi.s A12 n12 c12 c.hi.e ∧ Below W1.heap.size W1 wx)
 case first =>
  have HS := And.intro s0 <| And.intro m1' <| And.intro m2' <| And.intro r_0 <| And.intro r_1 <| And.intro r_2 <| And.intro r_3 <| And.intro r_4 <| And.intro r_5 <| And.intro y_0 <| And.intro y_1 <| And.intro y_2 <| And.intro y_3 <| And.intro y_4 <| And.intro y_5 <| And.intro z_0 <| And.intro z_1 <| And.intro z_2 <| And.intro z_3 <| And.intro z_4 <| z_5
  clear BB
  have BB : Below W1.heap.size W1 (World.drew W1) := below_drewN (Below.refl _ _) 1
  generalize hwd : World.drew W1 = wd at *
  have HS2 := mv BB rfl HS
  revert HS2
  apply rg hwd
  intro hHeld
  clear hwd
  refine tl 0 ?_
  refine tl 1 ?_
  refine tl 2 ?_
  refine tl 3 ?_
  refine tl 4 ?_
  refine tl 5 ?_
  refine tl 6 ?_
  refine tl 7 ?_
  refine tl 8 ?_
  refine tl 9 ?_
  refine tl 10 ?_
  refine tl 11 ?_
  refine tl 12 ?_
  refine tl 13 ?_
  refine tl 14 ?_
  refine tl 15 ?_
  refine tl 16 ?_
  refine tl 17 ?_
  refine tl 18 ?_
  refine tl 19 ?_
  refine tl 20 ?_
  refine tl 21 ?_
  refine tl 22 ?_
  refine wpAnyH_ready (rs := [23, 24, 25]) (by kernel_rfl) (by simp) ?_
  refine AllReadyH.cons (o := _) rfl (fun K hK => ?_) (AllReadyH.cons (o := _) rfl (fun K hK => ?_) (AllReadyH.cons (o := _) rfl (fun K hK => ?_) (AllReadyH.nil)))
  go_simp
  have l_a : W1.heap.size ≤ wd.heap.size := BB.size
  obtain ⟨p_a, b⟩ := box_new wd
  replace BB := bnx BB b
  clear b
  generalize wd.alloc _ = u_1 at *
  generalize wd.heap.size = ga at *
  refine hK.out _ _ (by exact mv BB rfl HS) (fun _ => ?_)
  clear hK K
  try simp only [Act.put]
  refine wpAnyH_ready (rs := [24, 25]) (by kernel_rfl) (by simp) ?_
  refine AllReadyH.cons (o := _) rfl (fun K hK => ?_) (AllReadyH.cons (o := _) rfl (fun K hK => ?_) (AllReadyH.nil))
  go_simp
  have l_b : W1.heap.size ≤ u_1.heap.size := BB.size
  have d_b_a := p_a.gl
  obtain ⟨p_b, b⟩ := box_new u_1
  replace BB := bnx BB b
  replace p_a := mv b rfl p_a
  clear b
  generalize u_1.alloc _ = u_2 at *
  generalize u_1.heap.size = gb at *
  refine hK.out _ _ (by exact mv BB rfl HS) (fun _ => ?_)
  clear hK K
  try simp only [Act.put]
  refine rdy 25 fun K hK => ?_
  go_simp
  have l_c : W1.heap.size ≤ u_2.heap.size := BB.size
  have d_c_a := p_a.gl
  have d_c_b := p_b.gl
  obtain ⟨p_c, b⟩ := box_new u_2
  replace BB := bnx BB b
  replace p_a := mv b rfl p_a
  replace p_b := mv b rfl p_b
  clear b
  generalize u_2.alloc _ = u_3 at *
  generalize u_2.heap.size = gc at *
  refine hK.out _ _ (by exact mv BB rfl HS) (fun _ => ?_)
  clear hK K
  try simp only [Act.put]
  rotate_left
  go_simp
  have l_c : W1.heap.size ≤ u_1.heap.size := BB.size
  have d_c_a := p_a.gl
  obtain ⟨p_c, b⟩ := box_new u_1
  replace BB := bnx BB b
  replace p_a := mv b rfl p_a
  clear b
  generalize u_1.alloc _ = u_2 at *
  generalize u_1.heap.size = gc at *
  refine hK.out _ _ (by exact mv BB rfl HS) (fun _ => ?_)
  clear hK K
  try simp only [Act.put]
  refine rdy 24 fun K hK => ?_
  go_simp
  have l_b : W1.heap.size ≤ u_2.heap.size := BB.size
  have d_b_a := p_a.gl
  have d_b_c := p_c.gl
  obtain ⟨p_b, b⟩ := box_new u_2
  replace BB := bnx BB b
  replace p_a := mv b rfl p_a
  replace p_c := mv b rfl p_c
  clear b
  generalize u_2.alloc _ = u_3 at *
  generalize u_2.heap.size = gb at *
  refine hK.out _ _ (by exact mv BB rfl HS) (fun _ => ?_)
  clear hK K
  try simp only [Act.put]
  rotate_left
  go_simp
  have l_b : W1.heap.size ≤ wd.heap.size := BB.size
  obtain ⟨p_b, b⟩ := box_new wd
  replace BB := bnx BB b
  clear b
  generalize wd.alloc _ = u_1 at *
  generalize wd.heap.size = gb at *
  refine hK.out _ _ (by exact mv BB rfl HS) (fun _ => ?_)
  clear hK K
  try simp only [Act.put]
  refine wpAnyH_ready (rs := [23, 25]) (by kernel_rfl) (by simp) ?_
  refine AllReadyH.cons (o := _) rfl (fun K hK => ?_) (AllReadyH.cons (o := _) rfl (fun K hK => ?_) (AllReadyH.nil))
  go_simp
  have l_a : W1.heap.size ≤ u_1.heap.size := BB.size
  have d_a_b := p_b.gl
  obtain ⟨p_a, b⟩ := box_new u_1
  replace BB := bnx BB b
  replace p_b := mv b rfl p_b
  clear b
  generalize u_1.alloc _ = u_2 at *
  generalize u_1.heap.size = ga at *
  refine hK.out _ _ (by exact mv BB rfl HS) (fun _ => ?_)
  clear hK K
  try simp only [Act.put]
  refine rdy 25 fun K hK => ?_
  go_simp
  have l_c : W1.heap.size ≤ u_2.heap.size := BB.size
  have d_c_b := p_b.gl
  have d_c_a := p_a.gl
  obtain ⟨p_c, b⟩ := box_new u_2
  replace BB := bnx BB b
  replace p_b := mv b rfl p_b
  replace p_a := mv b rfl p_a
  clear b
  generalize u_2.alloc _ = u_3 at *
  generalize u_2.heap.size = gc at *
  refine hK.out _ _ (by exact mv BB rfl HS) (fun _ => ?_)
  clear hK K
  try simp only [Act.put]
  rotate_left
  go_simp
  have l_c : W1.heap.size ≤ u_1.heap.size := BB.size
  have d_c_b := p_b.gl
  obtain ⟨p_c, b⟩ := box_new u_1
  replace BB := bnx BB b
  replace p_b := mv b rfl p_b
  clear b
  generalize u_1.alloc _ = u_2 at *
  generalize u_1.heap.size = gc at *
  refine hK.out _ _ (by exact mv BB rfl HS) (fun _ => ?_)
  clear hK K
  try simp only [Act.put]
  refine rdy 23 fun K hK => ?_
  go_simp
  have l_a : W1.heap.size ≤ u_2.heap.size := BB.size
  have d_a_b := p_b.gl
  have d_a_c := p_c.gl
  obtain ⟨p_a, b⟩ := box_new u_2
  replace BB := bnx BB b
  replace p_b := mv b rfl p_b
  replace p_c := mv b rfl p_c
  clear b
  generalize u_2.alloc _ = u_3 at *
  generalize u_2.heap.size = ga at *
  refine hK.out _ _ (by exact mv BB rfl HS) (fun _ => ?_)
  clear hK K
  try simp only [Act.put]
  rotate_left
  go_simp
  have l_c : W1.heap.size ≤ wd.heap.size := BB.size
  obtain ⟨p_c, b⟩ := box_new wd
  replace BB := bnx BB b
  clear b
  generalize wd.alloc _ = u_1 at *
  generalize wd.heap.size = gc at *
  refine hK.out _ _ (by exact mv BB rfl HS) (fun _ => ?_)
  clear hK K
  try simp only [Act.put]
  refine wpAnyH_ready (rs := [23, 24]) (by kernel_rfl) (by simp) ?_
  refine AllReadyH.cons (o := _) rfl (fun K hK => ?_) (AllReadyH.cons (o := _) rfl (fun K hK => ?_) (AllReadyH.nil))
  go_simp
  have l_a : W1.heap.size ≤ u_1.heap.size := BB.size
  have d_a_c := p_c.gl
  obtain ⟨p_a, b⟩ := box_new u_1
  replace BB := bnx BB b
  replace p_c := mv b rfl p_c
  clear b
  generalize u_1.alloc _ = u_2 at *
  generalize u_1.heap.size = ga at *
  refine hK.out _ _ (by exact mv BB rfl HS) (fun _ => ?_)
  clear hK K
  try simp only [Act.put]
  refine rdy 24 fun K hK => ?_
  go_simp
  have l_b : W1.heap.size ≤ u_2.heap.size := BB.size
  have d_b_c := p_c.gl
  have d_b_a := p_a.gl
  obtain ⟨p_b, b⟩ := box_new u_2
  replace BB := bnx BB b
  replace p_c := mv b rfl p_c
  replace p_a := mv b rfl p_a
  clear b
  generalize u_2.alloc _ = u_3 at *
  generalize u_2.heap.size = gb at *
  refine hK.out _ _ (by exact mv BB rfl HS) (fun _ => ?_)
  clear hK K
  try simp only [Act.put]
  rotate_left
  go_simp
  have l_b : W1.heap.size ≤ u_1.heap.size := BB.size
  have d_b_c := p_c.gl
  obtain ⟨p_b, b⟩ := box_new u_1
  replace BB := bnx BB b
  replace p_c := mv b rfl p_c
  clear b
  generalize u_1.alloc _ = u_2 at *
  generalize u_1.heap.size = gb at *
  refine hK.out _ _ (by exact mv BB rfl HS) (fun _ => ?_)
  clear hK K
  try simp only [Act.put]
  refine rdy 23 fun K hK => ?_
  go_simp
  have l_a : W1.heap.size ≤ u_2.heap.size := BB.size
  have d_a_c := p_c.gl
  have d_a_b := p_b.gl
  obtain ⟨p_a, b⟩ := box_new u_2
  replace BB := bnx BB b
  replace p_c := mv b rfl p_c
  replace p_b := mv b rfl p_b
  clear b
  generalize u_2.alloc _ = u_3 at *
  generalize u_2.heap.size = ga at *
  refine hK.out _ _ (by exact mv BB rfl HS) (fun _ => ?_)
  clear hK K
  try simp only [Act.put]
  rotate_left
  all_goals
   refine rdy 26 fun K hK => ?_
   obtain ⟨f0_, f1_, f2_, f3_, f4_, f5_⟩ := p_a.open
   obtain ⟨z0, z1, z2, z3, z4, z5⟩ := p_a.held
   go_simp
   replace BB := below_put6 (g := ga) BB l_a (.bool a.lo.s) (.slice A7 n7 c7) (.int .i64 a.lo.e) (.bool a.hi.s) (.slice A8 n8 c8) (.int .i64 a.hi.e)
   replace p_b := p_b.oth6 (g := ga) (by omega) (.bool a.lo.s) (.slice A7 n7 c7) (.int .i64 a.lo.e) (.bool a.hi.s) (.slice A8 n8 c8) (.int .i64 a.hi.e)
   replace p_c := p_c.oth6 (g := ga) (by omega) (.bool a.lo.s) (.slice A7 n7 c7) (.int .i64 a.lo.e) (.bool a.hi.s) (.slice A8 n8 c8) (.int .i64 a.hi.e)
   replace p_a := p_a.put a.lo.s A7 n7 c7 a.lo.e a.hi.s A8 n8 c8 a.hi.e
   clear f0_ f1_ f2_ f3_ f4_ f5_ z0 z1 z2 z3 z4 z5
   generalize (((((u_3.setCell _ _).setCell _ _).setCell _ _).setCell _ _).setCell _ _).setCell _ _ = u_4 at *
   refine hK.out _ _ (by exact mv BB rfl HS) (fun _ => ?_)
   clear hK K
   try simp only [Act.put]
   refine rdy 27 fun K hK => ?_
   obtain ⟨f0_, f1_, f2_, f3_, f4_, f5_⟩ := p_b.open
   obtain ⟨z0, z1, z2, z3, z4, z5⟩ := p_b.held
   go_simp
   replace BB := below_put6 (g := gb) BB l_b (.bool b.lo.s) (.slice A9 n9 c9) (.int .i64 b.lo.e) (.bool b.hi.s) (.slice A10 n10 c10) (.int .i64 b.hi.e)
   replace p_a := p_a.oth6 (g := gb) (by omega) (.bool b.lo.s) (.slice A9 n9 c9) (.int .i64 b.lo.e) (.bool b.hi.s) (.slice A10 n10 c10) (.int .i64 b.hi.e)
   replace p_c := p_c.oth6 (g := gb) (by omega) (.bool b.lo.s) (.slice A9 n9 c9) (.int .i64 b.lo.e) (.bool b.hi.s) (.slice A10 n10 c10) (.int .i64 b.hi.e)
   replace p_b := p_b.put b.lo.s A9 n9 c9 b.lo.e b.hi.s A10 n10 c10 b.hi.e
   clear f0_ f1_ f2_ f3_ f4_ f5_ z0 z1 z2 z3 z4 z5
   generalize (((((u_4.setCell _ _).setCell _ _).setCell _ _).setCell _ _).setCell _ _).setCell _ _ = u_5 at *
   refine hK.out _ _ (by exact mv BB rfl HS) (fun _ => ?_)
   clear hK K
   try simp only [Act.put]
   refine rdy 28 fun K hK => ?_
   obtain ⟨f0_, f1_, f2_, f3_, f4_, f5_⟩ := p_c.open
   obtain ⟨z0, z1, z2, z3, z4, z5⟩ := p_c.held
   go_simp
   replace BB := below_put6 (g := gc) BB l_c (.bool c.lo.s) (.slice A11 n11 c11) (.int .i64 c.lo.e) (.bool c.hi.s) (.slice A12 n12 c12) (.int .i64 c.hi.e)
   replace p_a := p_a.oth6 (g := gc) (by omega) (.bool c.lo.s) (.slice A11 n11 c11) (.int .i64 c.lo.e) (.bool c.hi.s) (.slice A12 n12 c12) (.int .i64 c.hi.e)
   replace p_b := p_b.oth6 (g := gc) (by omega) (.bool c.lo.s) (.slice A11 n11 c11) (.int .i64 c.lo.e) (.bool c.hi.s) (.slice A12 n12 c12) (.int .i64 c.hi.e)
   replace p_c := p_c.put c.lo.s A11 n11 c11 c.lo.e c.hi.s A12 n12 c12 c.hi.e
   clear f0_ f1_ f2_ f3_ f4_ f5_ z0 z1 z2 z3 z4 z5
   generalize (((((u_5.setCell _ _).setCell _ _).setCell _ _).setCell _ _).setCell _ _).setCell _ _ = u_6 at *
   refine hK.out _ _ (by exact mv BB rfl HS) (fun _ => ?_)
   clear hK K
   try simp only [Act.put]
   refine wpAnyH_done (by kernel_rfl) ?_ _
   go_wp2_with fail
   go_meet
   case rel => exact ⟨ga, gb, gc, rfl, rfl, rfl, l_a, l_b, l_c, p_a, p_b, p_c, BB⟩
 case rest =>
  obtain ⟨ga, gb, gc, rfl, rfl, rfl, l_a, l_b, l_c, p_a, p_b, p_c, b⟩ := hcut
  clear r_0 r_1 r_2 r_3 r_4 r_5 y_0 y_1 y_2 y_3 y_4 y_5 z_0 z_1 z_2 z_3 z_4 z_5 s0
  replace BB := bnx BB b
  have G := mv b rfl (J17 hT s1 s2 ra rb xda xdb m0 m1' m2' r h7 h8 h9 h10 h11 h12)
  clear b hT s1 s2 ra rb xda xdb m0 m1' m2' r h7 h8 h9 h10 h11 h12
  obtain ⟨hT, s1, s2, ra, rb, xda, xdb, m0, m1', m2', r, h7, h8, h9, h10, h11, h12⟩ := G
  generalize wc = W2 at *
  go_upto_region 13 with fail
  obtain ⟨A13, n13, c13, A14, n14, c14, ⟨r_0, r_1, r_2, r_3, r_4, r_5⟩, h13, h14⟩ := xda
  obtain ⟨A15, n15, c15, A16, n16, c16, ⟨y_0, y_1, y_2, y_3, y_4, y_5⟩, h15, h16⟩ := xdb
  go_cut [13, 14] (fun v13 v14 wx => ∃ gda gdb : Nat, v13 = .pointer (some ⟨gda, 0, none⟩) ∧ v14 = .pointer (some ⟨gdb, 0, none⟩) ∧ W2.heap.size ≤ gda ∧ W2.heap.size ≤ gdb ∧ Ibx wx gda da.lo.s A13 n13 c13 da.lo.e da.hi.s A14 n14 c14 da.hi.e ∧ Ibx wx gdb db.lo.s A15 n15 c15 db.lo.e db.hi.s A16 n16 c16 db.hi.e ∧ Below W2.heap.size W2 wx)
  case first =>
   have HS := And.intro s1 <| And.intro m1' <| And.intro m2' <| And.intro ra <| And.intro rb <| And.intro r_0 <| And.intro r_1 <| And.intro r_2 <| And.intro r_3 <| And.intro r_4 <| And.intro r_5 <| And.intro y_0 <| And.intro y_1 <| And.intro y_2 <| And.intro y_3 <| And.intro y_4 <| y_5
   clear BB
   have BB : Below W2.heap.size W2 (World.drew W2) := below_drewN (Below.refl _ _) 1
   generalize hwd : World.drew W2 = wd at *
   have HS2 := mv BB rfl HS
   revert HS2
   apply rg hwd
   intro hHeld
   clear hwd
   refine tl 0 ?_
   refine tl 1 ?_
   refine tl 2 ?_
   refine tl 3 ?_
   refine tl 4 ?_
   refine tl 5 ?_
   refine tl 6 ?_
   refine tl 7 ?_
   refine tl 8 ?_
   refine tl 9 ?_
   refine tl 10 ?_
   refine tl 11 ?_
   refine tl 12 ?_
   refine tl 13 ?_
   refine tl 14 ?_
   refine tl 15 ?_
   refine tl 16 ?_
   refine tl 17 ?_
   refine tl 18 ?_
   refine tl 19 ?_
   refine tl 20 ?_
   refine tl 21 ?_
   refine wpAnyH_ready (rs := [22, 23]) (by kernel_rfl) (by simp) ?_
   refine AllReadyH.cons (o := _) rfl (fun K hK => ?_) (AllReadyH.cons (o := _) rfl (fun K hK => ?_) (AllReadyH.nil))
   go_simp
   have l_da : W2.heap.size ≤ wd.heap.size := BB.size
   obtain ⟨p_da, b⟩ := box_new wd
   replace BB := bnx BB b
   clear b
   generalize wd.alloc _ = u_1 at *
   generalize wd.heap.size = gda at *
   refine hK.out _ _ (by exact mv BB rfl HS) (fun _ => ?_)
   clear hK K
   try simp only [Act.put]
   refine rdy 23 fun K hK => ?_
   go_simp
   have l_db : W2.heap.size ≤ u_1.heap.size := BB.size
   have d_db_da := p_da.gl
   obtain ⟨p_db, b⟩ := box_new u_1
   replace BB := bnx BB b
   replace p_da := mv b rfl p_da
   clear b
   generalize u_1.alloc _ = u_2 at *
   generalize u_1.heap.size = gdb at *
   refine hK.out _ _ (by exact mv BB rfl HS) (fun _ => ?_)
   clear hK K
   try simp only [Act.put]
   rotate_left
   go_simp
   have l_db : W2.heap.size ≤ wd.heap.size := BB.size
   obtain ⟨p_db, b⟩ := box_new wd
   replace BB := bnx BB b
   clear b
   generalize wd.alloc _ = u_1 at *
   generalize wd.heap.size = gdb at *
   refine hK.out _ _ (by exact mv BB rfl HS) (fun _ => ?_)
   clear hK K
   try simp only [Act.put]
   refine rdy 22 fun K hK => ?_
   go_simp
   have l_da : W2.heap.size ≤ u_1.heap.size := BB.size
   have d_da_db := p_db.gl
   obtain ⟨p_da, b⟩ := box_new u_1
   replace BB := bnx BB b
   replace p_db := mv b rfl p_db
   clear b
   generalize u_1.alloc _ = u_2 at *
   generalize u_1.heap.size = gda at *
   refine hK.out _ _ (by exact mv BB rfl HS) (fun _ => ?_)
   clear hK K
   try simp only [Act.put]
   rotate_left
   all_goals
    refine rdy 24 fun K hK => ?_
    obtain ⟨f0_, f1_, f2_, f3_, f4_, f5_⟩ := p_da.open
    obtain ⟨z0, z1, z2, z3, z4, z5⟩ := p_da.held
    go_simp
    replace BB := below_put6 (g := gda) BB l_da (.bool da.lo.s) (.slice A13 n13 c13) (.int .i64 da.lo.e) (.bool da.hi.s) (.slice A14 n14 c14) (.int .i64 da.hi.e)
    replace p_db := p_db.oth6 (g := gda) (by omega) (.bool da.lo.s) (.slice A13 n13 c13) (.int .i64 da.lo.e) (.bool da.hi.s) (.slice A14 n14 c14) (.int .i64 da.hi.e)
    replace p_da := p_da.put da.lo.s A13 n13 c13 da.lo.e da.hi.s A14 n14 c14 da.hi.e
    clear f0_ f1_ f2_ f3_ f4_ f5_ z0 z1 z2 z3 z4 z5
    generalize (((((u_2.setCell _ _).setCell _ _).setCell _ _).setCell _ _).setCell _ _).setCell _ _ = u_3 at *
    refine hK.out _ _ (by exact mv BB rfl HS) (fun _ => ?_)
    clear hK K
    try simp only [Act.put]
    refine rdy 25 fun K hK => ?_
    obtain ⟨f0_, f1_, f2_, f3_, f4_, f5_⟩ := p_db.open
    obtain ⟨z0, z1, z2, z3, z4, z5⟩ := p_db.held
    go_simp
    replace BB := below_put6 (g := gdb) BB l_db (.bool db.lo.s) (.slice A15 n15 c15) (.int .i64 db.lo.e) (.bool db.hi.s) (.slice A16 n16 c16) (.int .i64 db.hi.e)
    replace p_da := p_da.oth6 (g := gdb) (by omega) (.bool db.lo.s) (.slice A15 n15 c15) (.int .i64 db.lo.e) (.bool db.hi.s) (.slice A16 n16 c16) (.int .i64 db.hi.e)
    replace p_db := p_db.put db.lo.s A15 n15 c15 db.lo.e db.hi.s A16 n16 c16 db.hi.e
    clear f0_ f1_ f2_ f3_ f4_ f5_ z0 z1 z2 z3 z4 z5
    generalize (((((u_3.setCell _ _).setCell _ _).setCell _ _).setCell _ _).setCell _ _).setCell _ _ = u_4 at *
    refine hK.out _ _ (by exact mv BB rfl HS) (fun _ => ?_)
    clear hK K
    try simp only [Act.put]
    refine wpAnyH_done (by kernel_rfl) ?_ _
    go_wp2_with fail
    go_meet
    case rel => exact ⟨gda, gdb, rfl, rfl, l_da, l_db, p_da, p_db, BB⟩
  case rest =>
   obtain ⟨gda, gdb, rfl, rfl, l_da, l_db, p_da, p_db, b⟩ := hcut
   clear r_0 r_1 r_2 r_3 r_4 r_5 y_0 y_1 y_2 y_3 y_4 y_5 s1 m1' m2' ra rb
   have l12 : W1.heap.size ≤ W2.heap.size := by have := p_a.gl; omega
   replace BB := bnx BB b
   have G := mv b rfl (J17 hT s2 m0 r h7 h8 h9 h10 h11 h12 p_a p_b p_c h13 h14 h15 h16)
   clear b hT s2 m0 r h7 h8 h9 h10 h11 h12 p_a p_b p_c h13 h14 h15 h16
   obtain ⟨hT, s2, m0, r, h7, h8, h9, h10, h11, h12, p_a, p_b, p_c, h13, h14, h15, h16⟩ := G
   generalize wc = W3 at *
   go_upto_region 14 with fail
   have hop := HOP.out
   obtain rfl | rfl | rfl : op = 6 ∨ op = 7 ∨ op = 8 := by omega
   ·replace HQ := Lib.hid (show q = addF S da db p from HQ.out.trans rfl)
    clear h7 h8 h9 h10 h11 h12
    obtain ⟨k_da0, k_da1, k_da2, k_da3, k_da4, k_da5⟩ := p_da.held
    obtain ⟨k_db0, k_db1, k_db2, k_db3, k_db4, k_db5⟩ := p_db.held
    clear p_a p_b p_c p_da p_db
    obtain ⟨o1, ho1⟩ : ∃ o, o = addF S da db p := ⟨_, rfl⟩
    have HO1 := Lib.hid ho1
    clear ho1
    go_wp2_with fail
    refine (runi_to HO1.out (sadd_run S hT h13 h14 h15 h16 s2)).mono ?_
    rintro en w1 (⟨v1, hv1, A21, n21, c21, A22, n22, c22, rfl, h21, h22, b⟩ | ⟨kk, hk, hk0, rfl, b⟩)
    rotate_left
    ·replace BB := bnx BB b
     clear b
     have HKK := Lib.hid (And.intro hk hk0)
     clear hk hk0
     go_wp2
     exact ⟨rfl, .inr ⟨kk, (HQ.out.trans (by simp only [← HO1.out, HKK.out.1])), HKK.out.2, rfl, BB⟩⟩
    have HV1 := Lib.hid hv1
    clear hv1
    clear hT s2 m0 h13 h14 h15 h16 k_da0 k_da1 k_da2 k_da3 k_da4 k_da5 k_db0 k_db1 k_db2 k_db3 k_db4 k_db5
    replace BB := bnx BB b
    replace r := mv b rfl r
    clear b
    obtain ⟨f0, f1, f2, f3, f4, f5⟩ := r.open
    obtain ⟨z0, z1, z2, z3, z4, z5⟩ := r.held
    go_wp2
    exact ret6 rfl rfl rfl r h21 h22 BB (by omega) fun _ hN hM HB3 => .inl ⟨v1, (HQ.out.trans (by simp only [← HO1.out, HV1.out])), _, _, _, _, _, _, rfl, hN, hM, HB3⟩
   ·replace HQ := Lib.hid (show q = subF S da db p from HQ.out.trans rfl)
    clear h7 h8 h9 h10 h11 h12
    obtain ⟨k_da0, k_da1, k_da2, k_da3, k_da4, k_da5⟩ := p_da.held
    obtain ⟨k_db0, k_db1, k_db2, k_db3, k_db4, k_db5⟩ := p_db.held
    clear p_a p_b p_c p_da p_db
    obtain ⟨o1, ho1⟩ : ∃ o, o = subF S da db p := ⟨_, rfl⟩
    have HO1 := Lib.hid ho1
    clear ho1
    go_wp2_with fail
    refine (runi_to HO1.out (ssub_run S hT h13 h14 h15 h16 s2)).mono ?_
    rintro en w1 (⟨v1, hv1, A21, n21, c21, A22, n22, c22, rfl, h21, h22, b⟩ | ⟨kk, hk, hk0, rfl, b⟩)
    rotate_left
    ·replace BB := bnx BB b
     clear b
     have HKK := Lib.hid (And.intro hk hk0)
     clear hk hk0
     go_wp2
     exact ⟨rfl, .inr ⟨kk, (HQ.out.trans (by simp only [← HO1.out, HKK.out.1])), HKK.out.2, rfl, BB⟩⟩
    have HV1 := Lib.hid hv1
    clear hv1
    clear hT s2 m0 h13 h14 h15 h16 k_da0 k_da1 k_da2 k_da3 k_da4 k_da5 k_db0 k_db1 k_db2 k_db3 k_db4 k_db5
    replace BB := bnx BB b
    replace r := mv b rfl r
    clear b
    obtain ⟨f0, f1, f2, f3, f4, f5⟩ := r.open
    obtain ⟨z0, z1, z2, z3, z4, z5⟩ := r.held
    go_wp2
    exact ret6 rfl rfl rfl r h21 h22 BB (by omega) fun _ hN hM HB3 => .inl ⟨v1, (HQ.out.trans (by simp only [← HO1.out, HV1.out])), _, _, _, _, _, _, rfl, hN, hM, HB3⟩
   ·replace HQ := Lib.hid (show q = thn (mulF S da b p) fun x => thn (mulF S a db p) fun y => addF S x y p from HQ.out.trans rfl)
    clear h11 h12
    obtain ⟨k_da0, k_da1, k_da2, k_da3, k_da4, k_da5⟩ := p_da.held
    obtain ⟨k_b0, k_b1, k_b2, k_b3, k_b4, k_b5⟩ := p_b.held
    obtain ⟨k_a0, k_a1, k_a2, k_a3, k_a4, k_a5⟩ := p_a.held
    obtain ⟨k_db0, k_db1, k_db2, k_db3, k_db4, k_db5⟩ := p_db.held
    clear p_a p_b p_c p_da p_db
    go_upto_region 20 with fail
    clear m0
    go_wp2_with fail
    have b : Below W3.heap.size W3 (World.drew W3) := below_drewN (Below.refl _ _) 1
    replace BB := bnx BB b
    have G := mv b rfl (J35 hT s2 r h7 h8 h9 h10 h13 h14 h15 h16 k_da0 k_da1 k_da2 k_da3 k_da4 k_da5 k_b0 k_b1 k_b2 k_b3 k_b4 k_b5 k_a0 k_a1 k_a2 k_a3 k_a4 k_a5 k_db0 k_db1 k_db2 k_db3 k_db4 k_db5)
    clear b hT s2 r h7 h8 h9 h10 h13 h14 h15 h16 k_da0 k_da1 k_da2 k_da3 k_da4 k_da5 k_b0 k_b1 k_b2 k_b3 k_b4 k_b5 k_a0 k_a1 k_a2 k_a3 k_a4 k_a5 k_db0 k_db1 k_db2 k_db3 k_db4 k_db5
    obtain ⟨hT, s2, r, h7, h8, h9, h10, h13, h14, h15, h16, k_da0, k_da1, k_da2, k_da3, k_da4, k_da5, k_b0, k_b1, k_b2, k_b3, k_b4, k_b5, k_a0, k_a1, k_a2, k_a3, k_a4, k_a5, k_db0, k_db1, k_db2, k_db3, k_db4, k_db5⟩ := G
    refine wp_region_held_drew (S := fun w' => w'.cell? ⟨gda, 0, none⟩ = some (.bool da.lo.s) ∧ w'.cell? ⟨gda, 1, none⟩ = some (.slice A13 n13 c13) ∧ w'.cell? ⟨gda, 2, none⟩ = some (.int .i64 da.lo.e) ∧ w'.cell? ⟨gda, 3, none⟩ = some (.bool da.hi.s) ∧ w'.cell? ⟨gda, 4, none⟩ = some (.slice A14 n14 c14) ∧ w'.cell? ⟨gda, 5, none⟩ = some (.int .i64 da.hi.e) ∧ w'.cell? ⟨gb, 0, none⟩ = some (.bool b.lo.s) ∧ w'.cell? ⟨gb, 1, none⟩ = some (.slice A9 n9 c9) ∧ w'.cell? ⟨gb, 2, none⟩ = some (.int .i64 b.lo.e) ∧ w'.cell? ⟨gb, 3, none⟩ = some (.bool b.hi.s) ∧ w'.cell? ⟨gb, 4, none⟩ = some (.slice A10 n10 c10) ∧ w'.cell? ⟨gb, 5, none⟩ = some (.int .i64 b.hi.e) ∧ w'.cell? ⟨ga, 0, none⟩ = some (.bool a.lo.s) ∧ w'.cell? ⟨ga, 1, none⟩ = some (.slice A7 n7 c7) ∧ w'.cell? ⟨ga, 2, none⟩ = some (.int .i64 a.lo.e) ∧ w'.cell? ⟨ga, 3, none⟩ = some (.bool a.hi.s) ∧ w'.cell? ⟨ga, 4, none⟩ = some (.slice A8 n8 c8) ∧ w'.cell? ⟨ga, 5, none⟩ = some (.int .i64 a.hi.e) ∧ w'.cell? ⟨gdb, 0, none⟩ = some (.bool db.lo.s) ∧ w'.cell? ⟨gdb, 1, none⟩ = some (.slice A15 n15 c15) ∧ w'.cell? ⟨gdb, 2, none⟩ = some (.int .i64 db.lo.e) ∧ w'.cell? ⟨gdb, 3, none⟩ = some (.bool db.hi.s) ∧ w'.cell? ⟨gdb, 4, none⟩ = some (.slice A16 n16 c16) ∧ w'.cell? ⟨gdb, 5, none⟩ = some (.int .i64 db.hi.e)) (by kernel_rfl) (by exact ⟨k_da0, k_da1, k_da2, k_da3, k_da4, k_da5, k_b0, k_b1, k_b2, k_b3, k_b4, k_b5, k_a0, k_a1, k_a2, k_a3, k_a4, k_a5, k_db0, k_db1, k_db2, k_db3, k_db4, k_db5⟩) (fun hHeldk80 => ?_)
    generalize World.drew W3 = wd at *
    refine tl 0 ?_
    refine tl 1 ?_
    refine tl 2 ?_
    refine tl 3 ?_
    refine tl 5 ?_
    refine tl 6 ?_
    refine tl 7 ?_
    refine rdy 4 fun K hK => ?_
    go_simp
    obtain ⟨o1, ho1⟩ : ∃ o, o = mulF S da b p := ⟨_, rfl⟩
    have HO1 := Lib.hid ho1
    clear ho1
    refine (runi_to HO1.out (smul_run S hT h13 h14 h9 h10 s2)).mono ?_
    rintro en w' (⟨v1, hv1, A21, n21, c21, A22, n22, c22, rfl, h21, h22, b⟩ | ⟨kk_, hk, hk0, rfl, b⟩)
    rotate_left
    ·exact ⟨rfl, .inr ⟨kk_, (HQ.out.trans (by simp only [thn, ← HO1.out, hk])), hk0, rfl, below_next BB BB.size b (by rfl) (by rfl) (by rfl) (by rfl)⟩⟩
    have HV1 := Lib.hid hv1
    clear hv1
    replace BB := below_next BB BB.size b (by rfl) (by rfl) (by rfl) (by rfl)
    have G := mv b (by rfl) <| And.intro hT <| And.intro s2 <| And.intro r <| And.intro h7 <| And.intro h8 <| And.intro h9 <| And.intro h10 <| And.intro h13 <| And.intro h14 <| And.intro h15 <| And.intro h16 <| And.intro k_da0 <| And.intro k_da1 <| And.intro k_da2 <| And.intro k_da3 <| And.intro k_da4 <| And.intro k_da5 <| And.intro k_b0 <| And.intro k_b1 <| And.intro k_b2 <| And.intro k_b3 <| And.intro k_b4 <| And.intro k_b5 <| And.intro k_a0 <| And.intro k_a1 <| And.intro k_a2 <| And.intro k_a3 <| And.intro k_a4 <| And.intro k_a5 <| And.intro k_db0 <| And.intro k_db1 <| And.intro k_db2 <| And.intro k_db3 <| And.intro k_db4 <| k_db5
    clear b hT s2 r h7 h8 h9 h10 h13 h14 h15 h16 k_da0 k_da1 k_da2 k_da3 k_da4 k_da5 k_b0 k_b1 k_b2 k_b3 k_b4 k_b5 k_a0 k_a1 k_a2 k_a3 k_a4 k_a5 k_db0 k_db1 k_db2 k_db3 k_db4 k_db5
    obtain ⟨hT, s2, r, h7, h8, h9, h10, h13, h14, h15, h16, k_da0, k_da1, k_da2, k_da3, k_da4, k_da5, k_b0, k_b1, k_b2, k_b3, k_b4, k_b5, k_a0, k_a1, k_a2, k_a3, k_a4, k_a5, k_db0, k_db1, k_db2, k_db3, k_db4, k_db5⟩ := G
    refine hK.out _ _ (by exact ⟨k_da0, k_da1, k_da2, k_da3, k_da4, k_da5, k_b0, k_b1, k_b2, k_b3, k_b4, k_b5, k_a0, k_a1, k_a2, k_a3, k_a4, k_a5, k_db0, k_db1, k_db2, k_db3, k_db4, k_db5⟩) (fun hHeldk81 => ?_)
    clear hK K hHeldk80
    try simp only [Act.put]
    refine rdy 8 fun K hK => ?_
    go_simp
    obtain ⟨o2, ho2⟩ : ∃ o, o = mulF S a db p := ⟨_, rfl⟩
    have HO2 := Lib.hid ho2
    clear ho2
    refine (runi_to HO2.out (smul_run S hT h7 h8 h15 h16 s2)).mono ?_
    rintro en w' (⟨v2, hv2, A23, n23, c23, A24, n24, c24, rfl, h23, h24, b⟩ | ⟨kk_, hk, hk0, rfl, b⟩)
    rotate_left
    ·exact ⟨rfl, .inr ⟨kk_, (HQ.out.trans (by simp only [thn, ← HO1.out, HV1.out, ← HO2.out, hk])), hk0, rfl, below_next BB BB.size b (by rfl) (by rfl) (by rfl) (by rfl)⟩⟩
    have HV2 := Lib.hid hv2
    clear hv2
    replace BB := below_next BB BB.size b (by rfl) (by rfl) (by rfl) (by rfl)
    have G := mv b (by rfl) <| And.intro hT <| And.intro s2 <| And.intro r <| And.intro h7 <| And.intro h8 <| And.intro h9 <| And.intro h10 <| And.intro h13 <| And.intro h14 <| And.intro h15 <| And.intro h16 <| And.intro k_da0 <| And.intro k_da1 <| And.intro k_da2 <| And.intro k_da3 <| And.intro k_da4 <| And.intro k_da5 <| And.intro k_b0 <| And.intro k_b1 <| And.intro k_b2 <| And.intro k_b3 <| And.intro k_b4 <| And.intro k_b5 <| And.intro k_a0 <| And.intro k_a1 <| And.intro k_a2 <| And.intro k_a3 <| And.intro k_a4 <| And.intro k_a5 <| And.intro k_db0 <| And.intro k_db1 <| And.intro k_db2 <| And.intro k_db3 <| And.intro k_db4 <| And.intro k_db5 <| And.intro h21 <| h22
    clear b hT s2 r h7 h8 h9 h10 h13 h14 h15 h16 k_da0 k_da1 k_da2 k_da3 k_da4 k_da5 k_b0 k_b1 k_b2 k_b3 k_b4 k_b5 k_a0 k_a1 k_a2 k_a3 k_a4 k_a5 k_db0 k_db1 k_db2 k_db3 k_db4 k_db5 h21 h22
    obtain ⟨hT, s2, r, h7, h8, h9, h10, h13, h14, h15, h16, k_da0, k_da1, k_da2, k_da3, k_da4, k_da5, k_b0, k_b1, k_b2, k_b3, k_b4, k_b5, k_a0, k_a1, k_a2, k_a3, k_a4, k_a5, k_db0, k_db1, k_db2, k_db3, k_db4, k_db5, h21, h22⟩ := G
    refine hK.out _ _ (by exact ⟨k_da0, k_da1, k_da2, k_da3, k_da4, k_da5, k_b0, k_b1, k_b2, k_b3, k_b4, k_b5, k_a0, k_a1, k_a2, k_a3, k_a4, k_a5, k_db0, k_db1, k_db2, k_db3, k_db4, k_db5⟩) (fun hHeldk82 => ?_)
    clear hK K hHeldk81
    try simp only [Act.put]
    refine rdy 9 fun K hK => ?_
    go_simp
    obtain ⟨o3, ho3⟩ : ∃ o, o = addF S v1 v2 p := ⟨_, rfl⟩
    have HO3 := Lib.hid ho3
    clear ho3
    refine (runi_to HO3.out (sadd_run S hT h21 h22 h23 h24 s2)).mono ?_
    rintro en w' (⟨v3, hv3, A25, n25, c25, A26, n26, c26, rfl, h25, h26, b⟩ | ⟨kk_, hk, hk0, rfl, b⟩)
    rotate_left
    ·exact ⟨rfl, .inr ⟨kk_, (HQ.out.trans (by simp only [thn, ← HO1.out, HV1.out, ← HO2.out, HV2.out, ← HO3.out, hk])), hk0, rfl, below_next BB BB.size b (by rfl) (by rfl) (by rfl) (by rfl)⟩⟩
    have HV3 := Lib.hid hv3
    clear hv3
    replace BB := below_next BB BB.size b (by rfl) (by rfl) (by rfl) (by rfl)
    have G := mv b (by rfl) <| And.intro hT <| And.intro s2 <| And.intro r <| And.intro h7 <| And.intro h8 <| And.intro h9 <| And.intro h10 <| And.intro h13 <| And.intro h14 <| And.intro h15 <| And.intro h16 <| And.intro k_da0 <| And.intro k_da1 <| And.intro k_da2 <| And.intro k_da3 <| And.intro k_da4 <| And.intro k_da5 <| And.intro k_b0 <| And.intro k_b1 <| And.intro k_b2 <| And.intro k_b3 <| And.intro k_b4 <| And.intro k_b5 <| And.intro k_a0 <| And.intro k_a1 <| And.intro k_a2 <| And.intro k_a3 <| And.intro k_a4 <| And.intro k_a5 <| And.intro k_db0 <| And.intro k_db1 <| And.intro k_db2 <| And.intro k_db3 <| And.intro k_db4 <| And.intro k_db5 <| And.intro h21 <| And.intro h22 <| And.intro h23 <| h24
    clear b hT s2 r h7 h8 h9 h10 h13 h14 h15 h16 k_da0 k_da1 k_da2 k_da3 k_da4 k_da5 k_b0 k_b1 k_b2 k_b3 k_b4 k_b5 k_a0 k_a1 k_a2 k_a3 k_a4 k_a5 k_db0 k_db1 k_db2 k_db3 k_db4 k_db5 h21 h22 h23 h24
    obtain ⟨hT, s2, r, h7, h8, h9, h10, h13, h14, h15, h16, k_da0, k_da1, k_da2, k_da3, k_da4, k_da5, k_b0, k_b1, k_b2, k_b3, k_b4, k_b5, k_a0, k_a1, k_a2, k_a3, k_a4, k_a5, k_db0, k_db1, k_db2, k_db3, k_db4, k_db5, h21, h22, h23, h24⟩ := G
    obtain ⟨f0, f1, f2, f3, f4, f5⟩ := r.open
    obtain ⟨z0, z1, z2, z3, z4, z5⟩ := r.held
    refine hK.out _ _ (by exact ⟨k_da0, k_da1, k_da2, k_da3, k_da4, k_da5, k_b0, k_b1, k_b2, k_b3, k_b4, k_b5, k_a0, k_a1, k_a2, k_a3, k_a4, k_a5, k_db0, k_db1, k_db2, k_db3, k_db4, k_db5⟩) (fun hHeldk83 => ?_)
    clear hK K hHeldk82
    try simp only [Act.put]
    refine rdy 10 fun K hK => ?_
    go_simp
    refine hK.out _ _ (by exact ⟨cell_oth6 k_da0 (by omega), cell_oth6 k_da1 (by omega), cell_oth6 k_da2 (by omega), cell_oth6 k_da3 (by omega), cell_oth6 k_da4 (by omega), cell_oth6 k_da5 (by omega), cell_oth6 k_b0 (by omega), cell_oth6 k_b1 (by omega), cell_oth6 k_b2 (by omega), cell_oth6 k_b3 (by omega), cell_oth6 k_b4 (by omega), cell_oth6 k_b5 (by omega), cell_oth6 k_a0 (by omega), cell_oth6 k_a1 (by omega), cell_oth6 k_a2 (by omega), cell_oth6 k_a3 (by omega), cell_oth6 k_a4 (by omega), cell_oth6 k_a5 (by omega), cell_oth6 k_db0 (by omega), cell_oth6 k_db1 (by omega), cell_oth6 k_db2 (by omega), cell_oth6 k_db3 (by omega), cell_oth6 k_db4 (by omega), cell_oth6 k_db5 (by omega)⟩) (fun hHeldk84 => ?_)
    clear hK K hHeldk83
    try simp only [Act.put]
    refine wpAnyH_done (by kernel_rfl) ?_ _
    go_wp2
    exact ret6 rfl rfl rfl r h25 h26 BB (by omega) fun _ hN hM HB3 => .inl ⟨v3, (HQ.out.trans (by simp only [thn, ← HO1.out, HV1.out, ← HO2.out, HV2.out, ← HO3.out, HV3.out])), _, _, _, _, _, _, rfl, hN, hM, HB3⟩
end Go.Proofs.YtlpjlmophlikeaaGreatDoor
