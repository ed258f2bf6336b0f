/-
 Contract of the reference's Quot, and what round.Quot tells of any two, raw ones too, at this translation. Condition: the slices read as limbs; at most 1000 bits, or more than may be.
-/
import Derived.Test.YtcbkhmejlaaieaaGreatDoorQRc
import Derived.Test.YtcbkhmejlaaieaaGreatDoorQRi
import Derived.Test.YtcbkhmejlaaieaaGreatDoorQRv
import Derived.Test.YtcbkhmejlaaieaaGreatDoorQRj
import Derived.Test.YtcbkhmejlaaieaaGreatDoorQRt
namespace Go.Proofs.YtcbkhmejlaaieaaGreatDoor
open Go.RowKit
theorem tlRr {P : Program} {Q : Exit → Act → World → Prop} {ops : Array Oper} {S : World → Prop} {md : Region.Mode} {oi : Oper} {v : Value} {fuel d : Nat} {listed l2 : Array Bool} {a a2 : Act} {w : World} (i : Nat)
    (h : wpAnyH P md ops Q S fuel l2 a2 w) (hi : ops[i]? = some oi := by rfl)
    (hs : Region.noSelect ops = true := by kernel_rfl) (hf : Region.free md ops listed i = true := by kernel_rfl) (hr : (Region.ready md ops listed).contains i = true := by kernel_rfl) (hQ : PanQ Q := by repeat first | with_reducible exact pan_body | with_reducible apply pan_then)
    (hd : oi.dst = some d := by rfl) (hy : YieldsIf P ops S oi v a := by exact Or.inl ⟨by rfl, by (intro w hSw; (try dsimp only at hSw); go_simp); try with_reducible rfl⟩)
    (hl : listed.setIfInBounds i true = l2 := by first | (simp only [List.setIfInBounds_toArray, List.set_cons_zero, List.set_cons_succ]; rfl) | rfl)
    (ha : a.put (some d) v = a2 := by (simp only [Act.put, List.setIfInBounds_toArray, List.set_cons_zero, List.set_cons_succ]; rfl)) (hS : S w := by assumption) : wpAnyH P md ops Q S (fuel + 1) listed a w :=
  wpAnyH_take hi hs hf hr (fun c a w h => hQ c a oi.dst v w h) hy hS (by rw [hd, hl, ha]; exact h)

theorem dbx_start (w : World) {A1 : Option Addr} {n1 c1 : Nat} {s1 : Bool} {e1 : Int} {A2 : Option Addr} {n2 c2 : Nat} {s2 : Bool} {e2 : Int} : Dbx (((w.alloc (.cells #[.bool s1, .slice A1 n1 c1, .int .i64 e1] 90)).alloc (.cells #[.bool s2, .slice A2 n2 c2, .int .i64 e2] 90)).alloc (.cells #[.bool false, .slice none 0 0, .int .i64 0] 90)) w.heap.size s1 A1 n1 c1 e1 ∧ Dbx (((w.alloc (.cells #[.bool s1, .slice A1 n1 c1, .int .i64 e1] 90)).alloc (.cells #[.bool s2, .slice A2 n2 c2, .int .i64 e2] 90)).alloc (.cells #[.bool false, .slice none 0 0, .int .i64 0] 90)) (w.heap.size + 1) s2 A2 n2 c2 e2 ∧ Dbx (((w.alloc (.cells #[.bool s1, .slice A1 n1 c1, .int .i64 e1] 90)).alloc (.cells #[.bool s2, .slice A2 n2 c2, .int .i64 e2] 90)).alloc (.cells #[.bool false, .slice none 0 0, .int .i64 0] 90)) (w.heap.size + 2) false none 0 0 0 := by
 refine ⟨((Dbx.new w s1 A1 n1 c1 e1).alloc _).alloc _, ?_, ?_⟩
 ·have := (Dbx.new (w.alloc (.cells #[.bool s1, .slice A1 n1 c1, .int .i64 e1] 90)) s2 A2 n2 c2 e2).alloc (.cells #[.bool false, .slice none 0 0, .int .i64 0] 90)
  simpa using this
 ·have := Dbx.new ((w.alloc (.cells #[.bool s1, .slice A1 n1 c1, .int .i64 e1] 90)).alloc (.cells #[.bool s2, .slice A2 n2 c2, .int .i64 e2] 90)) false none 0 0 0
  simpa using this
theorem Dg.drew {w : World} {A : Option Addr} {n c x : Nat} (h : Dg w A n c x) : Dg w.drew A n c x := Dg.heap32 h rfl
theorem Dbx.drew' {w : World} {g : Nat} {s : Bool} {A : Option Addr} {n c : Nat} {e : Int} (h : Dbx w g s A n c e) : Dbx w.drew g s A n c e := ⟨h.blk⟩
/-- the longer quotient's size -/
theorem sticky_fit {p x y : Nat} (bx : blen x ≤ 4096) (hb : blen y ≤ 4096) (hp : p ≤ 1000) : x * 2 ^ moreBits p x y < Go.Proofs.YtcbkhmejlaaieaaGreatDoor.H ^ 600 ∧ blen (stickyQ (moreBits p x y) x y) ≤ 9600 ∧ stickyQ (moreBits p x y) x y < Go.Proofs.YtcbkhmejlaaieaaGreatDoor.H ^ 600 ∧ x * 2 ^ moreBits p x y / y < Go.Proofs.YtcbkhmejlaaieaaGreatDoor.H ^ 599 := by
 have hx2 := (blen_le x (blen x)).1 (Nat.le_refl _)
 have h1 : x * 2 ^ moreBits p x y < 2 ^ (blen x + moreBits p x y) := by rw [Nat.pow_add]; exact Nat.mul_lt_mul_of_pos_right hx2 (pow_pos2 _)
 have hm : blen x + moreBits p x y ≤ 9300 := by unfold moreBits; omega
 have hq := Nat.div_le_self (x * 2 ^ moreBits p x y) y
 have hQ : stickyQ (moreBits p x y) x y ≤ 2 * (x * 2 ^ moreBits p x y) + 1 := by unfold stickyQ; split <;> omega
 generalize x * 2 ^ moreBits p x y = X at *
 generalize moreBits p x y = S at *
 obtain ⟨k, hk⟩ : ∃ k, k = blen x + S := ⟨_, rfl⟩
 rw [← hk] at h1 hm
 have hQ2 : stickyQ S x y < 2 ^ (k + 1) := by rw [Nat.pow_succ]; omega
 have up : ∀ {z j m : Nat}, z < 2 ^ j → j ≤ 16 * m → z < Go.Proofs.YtcbkhmejlaaieaaGreatDoor.H ^ m := fun {z j m} h hj => by
  rw [H_pow, ← Nat.pow_mul]
  exact Nat.lt_of_lt_of_le h (Nat.pow_le_pow_right (by omega) hj)
 obtain ⟨m, hm6⟩ : ∃ m : Nat, m = 600 := ⟨_, rfl⟩
 obtain ⟨m', hm5⟩ : ∃ m : Nat, m = 599 := ⟨_, rfl⟩
 rw [← hm6, ← hm5]
 refine ⟨up h1 (by omega), Nat.le_trans ((blen_le _ (k + 1)).2 hQ2) (by omega), up hQ2 (by omega), up (Nat.lt_of_le_of_lt hq h1) (by omega)⟩

set_option maxRecDepth 100000 in
set_option maxHeartbeats 8000000 in
theorem rparted_even {w : World} {x y p : Nat} {up : Bool} {A1 : Option Addr} {n1 c1 : Nat} {s1 : Bool} {e1 : Int} {A2 : Option Addr} {n2 c2 : Nat} {s2 : Bool} {e2 : Int} (h1 : Dg w A1 n1 c1 x) (h2 : Dg w A2 n2 c2 y) (hx : x ≠ 0) (hy : y ≠ 0) (bx : blen x ≤ 4096) (hby : blen y ≤ 4096) (hn1 : n1 ≤ 600) (hn2 : n2 ≤ 600) (hp : p ≤ 1000) (r1 : -1048576 ≤ e1) (r2 : e1 ≤ 1048576) (r3 : -1048576 ≤ e2) (r4 : e2 ≤ 1048576) (hr : x * 2 ^ moreBits p x y % y = 0) :
  Calls Tryz.prog 124 #[.agg #[.bool s1, .slice A1 n1 c1, .int .i64 e1], .agg #[.bool s2, .slice A2 n2 c2, .int .i64 e2], .int .i64 (p : Int), .bool up] w (NumIs (s1 != s2) (cutN p (stickyQ (moreBits p x y) x y) (up != (s1 != s2))) (e1 - e2 - ((moreBits p x y : Nat) : Int) - 1 + ((blen (stickyQ (moreBits p x y) x y) - p : Nat) : Int)) w) := by
 have hlen := Rd.len h1
 have hz : n1 ≠ 0 := fun h => hx ((dig_len_zero H_two).1 (by rw [hlen]; exact h))
 have f00 : ((n1 : Int) == 0) = false := by simp [hz]
 have hcap := Rd.cap h1
 have hmax := Rd.max h1
 obtain ⟨hS, hQb, hQ, hF⟩ := sticky_fit bx hby hp
 have hs : max (0 : Int) ((p : Int) + 3 + (blen y : Int) - (blen x : Int)) = ((moreBits p x y : Nat) : Int) := by unfold moreBits; omega
 have hs6 : moreBits p x y ≤ 7000 := by unfold moreBits; omega
 generalize moreBits p x y = s at *
 obtain ⟨Q, hQd⟩ : ∃ Q, stickyQ s x y = Q := ⟨_, rfl⟩
 rw [hQd] at hQ hQb ⊢
 unfold stickyQ at hQd
 have HQD : Hid (x * 2 ^ s / y * 2 ^ 1 = Q) := Lib.hid (by rw [← hQd, if_pos hr, Nat.pow_one]; omega)
 have HQ := Lib.hid hQ
 have HSM := Lib.hid hS
 have HF := Lib.hid hF
 have HY := Lib.hid hy
 have HR := Lib.hid hr
 clear hlen hz hx hy hQ hS hQd hF hr
 obtain ⟨sg1, hsg⟩ : ∃ t, (s1 != s2) = t := ⟨_, rfl⟩
 rw [hsg]
 have hsg2 : (!(s1 == s2)) = sg1 := hsg
 clear hsg
 have w1 : IntKind.i64.wrap ((p : Int) + 3) = (p : Int) + 3 := IntWalk.i64_in _ (by omega)
 have w2 : IntKind.i64.wrap ((p : Int) + 3 + (blen y : Int)) = (p : Int) + 3 + (blen y : Int) := IntWalk.i64_in _ (by omega)
 have w3 : IntKind.i64.wrap ((p : Int) + 3 + (blen y : Int) - (blen x : Int)) = (p : Int) + 3 + (blen y : Int) - (blen x : Int) := IntWalk.i64_in _ (by omega)
 have BB := three_below w (.cells #[.bool s1, .slice A1 n1 c1, .int .i64 e1] 90) (.cells #[.bool s2, .slice A2 n2 c2, .int .i64 e2] 90) (.cells #[.bool false, .slice none 0 0, .int .i64 0] 90)
 obtain ⟨xa, xb, r⟩ := dbx_start w (s1 := s1) (A1 := A1) (n1 := n1) (c1 := c1) (e1 := e1) (s2 := s2) (A2 := A2) (n2 := n2) (c2 := c2) (e2 := e2)
 obtain ⟨a10, a11, a12⟩ := xa.held
 obtain ⟨a20, a21, a22⟩ := xb.held
 clear xa xb
 have G := mv BB rfl <| And.intro h1 <| h2
 clear h1 h2
 obtain ⟨h1, h2⟩ := G
 have ne1 : ¬ w.heap.size + 2 = w.heap.size := by omega
 have ne2 : ¬ w.heap.size = w.heap.size + 2 := by omega
 have ne3 : ¬ w.heap.size + 2 = w.heap.size + 1 := by omega
 have ne4 : ¬ w.heap.size + 1 = w.heap.size + 2 := by omega
 go_enter Tryz.func124, Tryz.ntmps124
 go_wp2_with fail
 refine wp_region_held_drew (S := fun w' => w'.cell? ⟨w.heap.size, 0, none⟩ = some (.bool s1) ∧ w'.cell? ⟨w.heap.size, 1, none⟩ = some (.slice A1 n1 c1) ∧ w'.cell? ⟨w.heap.size, 2, none⟩ = some (.int .i64 e1) ∧ w'.cell? ⟨(w.heap.size + 1), 0, none⟩ = some (.bool s2) ∧ w'.cell? ⟨(w.heap.size + 1), 1, none⟩ = some (.slice A2 n2 c2) ∧ w'.cell? ⟨(w.heap.size + 1), 2, none⟩ = some (.int .i64 e2)) (by kernel_rfl) (by first | (dsimp only; go_keep) | go_keep) (fun hHeldu0 => ?_)
 refine tlRr 0 ?_
 refine wpAnyH_take (i := 1) (v := ?uv1) rfl (by kernel_rfl) (by kernel_rfl) (by kernel_rfl) (fun _ _ _ h => panic_put (P := Tryz.prog) (fn := Tryz.f124) (R := (NumIs sg1 (cutN p Q (up != sg1)) (e1 - e2 - ((s : Nat) : Int) - 1 + ((blen Q - p : Nat) : Int)) w)) h) (Or.inl ⟨by rfl, ?uy1⟩) (by assumption) ?_
 case uy1 => (intro w hSw; (try dsimp only at hSw); go_simp; (try simp only [w1, w2, w3])); try with_reducible rfl
 change wpAnyH _ _ _ _ _ _ _ (Act.put _ (some 18) _) _
 simp only [Act.put, List.setIfInBounds_toArray, List.set_cons_zero, List.set_cons_succ]
 refine tlRr 2 ?_
 refine tlRr 3 ?_
 refine tlRr 6 ?_
 refine tlRr 7 ?_
 refine rdy 4 fun K hK => ?_
 go_simp
 refine (rbits_any (h2.heap32 (by rfl)) (by omega)).mono ?_
 rintro en w' ⟨rfl, rfl⟩
 refine hK.out _ _ (by first | (dsimp only; go_keep) | go_keep) (fun hHeldu1 => ?_)
 clear hK K hHeldu0
 try simp only [Act.put]
 refine wpAnyH_take (i := 5) (v := ?uv5) rfl (by kernel_rfl) (by kernel_rfl) (by kernel_rfl) (fun _ _ _ h => panic_put (P := Tryz.prog) (fn := Tryz.f124) (R := (NumIs sg1 (cutN p Q (up != sg1)) (e1 - e2 - ((s : Nat) : Int) - 1 + ((blen Q - p : Nat) : Int)) w)) h) (Or.inl ⟨by rfl, ?uy5⟩) (by assumption) ?_
 case uy5 => (intro w hSw; (try dsimp only at hSw); go_simp; (try simp only [w1, w2, w3])); try with_reducible rfl
 change wpAnyH _ _ _ _ _ _ _ (Act.put _ (some 22) _) _
 simp only [Act.put, List.setIfInBounds_toArray, List.set_cons_zero, List.set_cons_succ]
 refine rdy 8 fun K hK => ?_
 go_simp
 refine (rbits_any (h1.heap32 (by rfl)) (by omega)).mono ?_
 rintro en w' ⟨rfl, rfl⟩
 refine hK.out _ _ (by first | (dsimp only; go_keep) | go_keep) (fun hHeldu2 => ?_)
 clear hK K hHeldu1
 try simp only [Act.put]
 refine wpAnyH_take (i := 9) (v := ?uv9) rfl (by kernel_rfl) (by kernel_rfl) (by kernel_rfl) (fun _ _ _ h => panic_put (P := Tryz.prog) (fn := Tryz.f124) (R := (NumIs sg1 (cutN p Q (up != sg1)) (e1 - e2 - ((s : Nat) : Int) - 1 + ((blen Q - p : Nat) : Int)) w)) h) (Or.inl ⟨by rfl, ?uy9⟩) (by assumption) ?_
 case uy9 => (intro w hSw; (try dsimp only at hSw); go_simp; (try simp only [w1, w2, w3])); try with_reducible rfl
 change wpAnyH _ _ _ _ _ _ _ (Act.put _ (some 26) _) _
 simp only [Act.put, List.setIfInBounds_toArray, List.set_cons_zero, List.set_cons_succ]
 refine tlRr 10 ?_
 refine tlRr 11 ?_
 refine wpAnyH_done (by kernel_rfl) ?_ _
 replace h1 := h1.drew
 replace h2 := h2.drew
 replace r := r.drew'
 have BD : Below w.heap.size w (World.drew (((w.alloc (.cells #[.bool s1, .slice A1 n1 c1, .int .i64 e1] 90)).alloc (.cells #[.bool s2, .slice A2 n2 c2, .int .i64 e2] 90)).alloc (.cells #[.bool false, .slice none 0 0, .int .i64 0] 90))) := below_drewN BB 1
 clear a10 a11 a12 a20 a21 a22 BB w1 w2 w3
 obtain ⟨a10, a11, a12, a20, a21, a22⟩ := hHeldu2
 generalize World.drew (((w.alloc (.cells #[.bool s1, .slice A1 n1 c1, .int .i64 e1] 90)).alloc (.cells #[.bool s2, .slice A2 n2 c2, .int .i64 e2] 90)).alloc (.cells #[.bool false, .slice none 0 0, .int .i64 0] 90)) = wd at *
 have BB := BD
 clear BD
 go_wp2_with fail
 clear hs f00
 refine wp_region_held_drew (S := fun w' => w'.cell? ⟨w.heap.size, 0, none⟩ = some (.bool s1) ∧ w'.cell? ⟨w.heap.size, 1, none⟩ = some (.slice A1 n1 c1) ∧ w'.cell? ⟨w.heap.size, 2, none⟩ = some (.int .i64 e1) ∧ w'.cell? ⟨(w.heap.size + 1), 0, none⟩ = some (.bool s2) ∧ w'.cell? ⟨(w.heap.size + 1), 1, none⟩ = some (.slice A2 n2 c2) ∧ w'.cell? ⟨(w.heap.size + 1), 2, none⟩ = some (.int .i64 e2)) (by kernel_rfl) (by first | (dsimp only; go_keep) | go_keep) (fun hHeldv0 => ?_)
 refine tlRr 0 ?_
 refine tlRr 1 ?_
 refine tlRr 2 ?_
 refine tlRr 4 ?_
 refine tlRr 5 ?_
 refine rdy 3 fun K hK => ?_
 go_simp
 refine (rshl_any (s := s) (h1.heap32 (by rfl)) (by omega) (by omega)).mono ?_
 rintro en w' ⟨A3, n3, c3, rfl, h3, b⟩
 have n3l : n3 ≤ 600 := dg_small h3 HSM.out
 clear h1
 replace BB := below_next BB BB.size b (by rfl) (by rfl) (by rfl) (by rfl)
 have G := mv b (by rfl) <| And.intro a10 <| And.intro a11 <| And.intro a12 <| And.intro a20 <| And.intro a21 <| And.intro a22 <| And.intro h2 <| r
 clear b a10 a11 a12 a20 a21 a22 h2 r
 obtain ⟨a10, a11, a12, a20, a21, a22, h2, r⟩ := G
 replace h3 := Dg.heap32 h3 (by rfl)
 refine hK.out _ _ (by first | (dsimp only; go_keep) | go_keep) (fun hHeldv1 => ?_)
 clear hK K hHeldv0
 try simp only [Act.put]
 refine rdy 6 fun K hK => ?_
 go_simp
 refine (rdiv_any (h3.heap32 (by rfl)) (h2.heap32 (by rfl)) (by omega) (by omega) (Nat.pos_of_ne_zero HY.out)).mono ?_
 rintro en w' ⟨A4, n4, c4, A5, n5, c5, rfl, h4, h5, b⟩
 have n4l : n4 ≤ 599 := dg_small h4 HF.out
 clear h3 h2
 replace BB := below_next BB BB.size b (by rfl) (by rfl) (by rfl) (by rfl)
 have G := mv b (by rfl) <| And.intro a10 <| And.intro a11 <| And.intro a12 <| And.intro a20 <| And.intro a21 <| And.intro a22 <| r
 clear b a10 a11 a12 a20 a21 a22 r
 obtain ⟨a10, a11, a12, a20, a21, a22, r⟩ := G
 refine hK.out _ _ (by first | (dsimp only; go_keep) | go_keep) (fun hHeldv2 => ?_)
 clear hK K hHeldv1
 try simp only [Act.put]
 refine tlRr 7 ?_
 refine tlRr 8 ?_
 refine tlRr 9 ?_
 refine tlRr 10 ?_
 refine tlRr 11 ?_
 refine wpAnyH_done (by kernel_rfl) ?_ _
 have hl5 := Rd.len h5
 have hz5 : n5 = 0 ↔ x * 2 ^ s % y = 0 := by rw [← hl5]; exact dig_len_zero H_two
 have d5 : decide (0 < n5) = false := decide_eq_false (by have h := hz5.2 HR.out; omega)
 have cap5 := Rd.cap h5
 have max5 := Rd.max h5
 clear hl5 hz5 HR
 clear h5
 try clear hHeldv2
 go_wp2_with fail
 refine (rshl_any (s := 1) (h4.heap32 (by rfl)) (by omega) (by omega)).mono ?_
 rintro en w6 ⟨A6, n6, c6, rfl, h6, b⟩
 clear h4
 replace BB := below_next BB BB.size b (by rfl) (by rfl) (by rfl) (by rfl)
 have G := mv b (by rfl) <| And.intro a10 <| And.intro a11 <| And.intro a12 <| And.intro a20 <| And.intro a21 <| And.intro a22 <| r
 clear b a10 a11 a12 a20 a21 a22 r
 obtain ⟨a10, a11, a12, a20, a21, a22, r⟩ := G
 rw [HQD.out] at h6
 have w4 : IntKind.i64.wrap (e1 - e2) = e1 - e2 := IntWalk.i64_in _ (by omega)
 have w5 : IntKind.i64.wrap (e1 - e2 - (s : Int)) = e1 - e2 - (s : Int) := IntWalk.i64_in _ (by omega)
 have w6' : IntKind.i64.wrap (e1 - e2 - (s : Int) - 1) = e1 - e2 - (s : Int) - 1 := IntWalk.i64_in _ (by omega)
 go_wp2_with fail
 try rw [hsg2]
 refine (rcut_any (p := p) (s := sg1) (e := e1 - e2 - (s : Int) - 1) h6 HQ.out hQb (by omega) (by omega)).mono ?_
 rintro en w8 ⟨A8, n8, c8, rfl, h8, b⟩
 clear h6
 replace BB := bnx BB b rfl rfl rfl rfl
 have G := mv b rfl (J7 a10 a11 a12 a20 a21 a22 r)
 clear b a10 a11 a12 a20 a21 a22 r
 obtain ⟨a10, a11, a12, a20, a21, a22, r⟩ := G
 generalize cutN p Q (up != sg1) = y8 at *
 generalize e1 - e2 - (s : Int) - 1 + ((blen Q - p : Nat) : Int) = e8 at *
 obtain ⟨f0, f1, f2⟩ := r.open
 obtain ⟨z0, z1, z2⟩ := r.held
 go_wp2
 have qq := r.put sg1 A8 n8 c8 e8
 have hN := h8.put3 r (.bool sg1) (.slice A8 n8 c8) (.int .i64 e8)
 have HB3 := below_put3 (g := w.heap.size + 2) BB (by omega) (.bool sg1) (.slice A8 n8 c8) (.int .i64 e8)
 obtain ⟨z0, z1, z2⟩ := qq.held
 exact bodyPost_ret (v := .agg #[.bool sg1, .slice A8 n8 c8, .int .i64 e8]) (by simp [results, Tryz.results124, go_sem, z0, z1, z2]) rfl ⟨_, _, _, rfl, hN, HB3⟩

set_option maxRecDepth 100000 in
set_option maxHeartbeats 8000000 in
theorem rparted_left {w : World} {x y p : Nat} {up : Bool} {A1 : Option Addr} {n1 c1 : Nat} {s1 : Bool} {e1 : Int} {A2 : Option Addr} {n2 c2 : Nat} {s2 : Bool} {e2 : Int} (h1 : Dg w A1 n1 c1 x) (h2 : Dg w A2 n2 c2 y) (hx : x ≠ 0) (hy : y ≠ 0) (bx : blen x ≤ 4096) (hby : blen y ≤ 4096) (hn1 : n1 ≤ 600) (hn2 : n2 ≤ 600) (hp : p ≤ 1000) (r1 : -1048576 ≤ e1) (r2 : e1 ≤ 1048576) (r3 : -1048576 ≤ e2) (r4 : e2 ≤ 1048576) (hr : ¬ x * 2 ^ moreBits p x y % y = 0) :
  Calls Tryz.prog 124 #[.agg #[.bool s1, .slice A1 n1 c1, .int .i64 e1], .agg #[.bool s2, .slice A2 n2 c2, .int .i64 e2], .int .i64 (p : Int), .bool up] w (NumIs (s1 != s2) (cutN p (stickyQ (moreBits p x y) x y) (up != (s1 != s2))) (e1 - e2 - ((moreBits p x y : Nat) : Int) - 1 + ((blen (stickyQ (moreBits p x y) x y) - p : Nat) : Int)) w) := by
 have hlen := Rd.len h1
 have hz : n1 ≠ 0 := fun h => hx ((dig_len_zero H_two).1 (by rw [hlen]; exact h))
 have f00 : ((n1 : Int) == 0) = false := by simp [hz]
 have hcap := Rd.cap h1
 have hmax := Rd.max h1
 obtain ⟨hS, hQb, hQ, hF⟩ := sticky_fit bx hby hp
 have hs : max (0 : Int) ((p : Int) + 3 + (blen y : Int) - (blen x : Int)) = ((moreBits p x y : Nat) : Int) := by unfold moreBits; omega
 have hs6 : moreBits p x y ≤ 7000 := by unfold moreBits; omega
 generalize moreBits p x y = s at *
 obtain ⟨Q, hQd⟩ : ∃ Q, stickyQ s x y = Q := ⟨_, rfl⟩
 rw [hQd] at hQ hQb ⊢
 unfold stickyQ at hQd
 have HQD : Hid (x * 2 ^ s / y * 2 ^ 1 + 1 = Q) := Lib.hid (by rw [← hQd, if_neg hr, Nat.pow_one]; omega)
 have HQ := Lib.hid hQ
 have HSM := Lib.hid hS
 have HF := Lib.hid hF
 have HY := Lib.hid hy
 have HR := Lib.hid hr
 clear hlen hz hx hy hQ hS hQd hF hr
 obtain ⟨sg1, hsg⟩ : ∃ t, (s1 != s2) = t := ⟨_, rfl⟩
 rw [hsg]
 have hsg2 : (!(s1 == s2)) = sg1 := hsg
 clear hsg
 have w1 : IntKind.i64.wrap ((p : Int) + 3) = (p : Int) + 3 := IntWalk.i64_in _ (by omega)
 have w2 : IntKind.i64.wrap ((p : Int) + 3 + (blen y : Int)) = (p : Int) + 3 + (blen y : Int) := IntWalk.i64_in _ (by omega)
 have w3 : IntKind.i64.wrap ((p : Int) + 3 + (blen y : Int) - (blen x : Int)) = (p : Int) + 3 + (blen y : Int) - (blen x : Int) := IntWalk.i64_in _ (by omega)
 have BB := three_below w (.cells #[.bool s1, .slice A1 n1 c1, .int .i64 e1] 90) (.cells #[.bool s2, .slice A2 n2 c2, .int .i64 e2] 90) (.cells #[.bool false, .slice none 0 0, .int .i64 0] 90)
 obtain ⟨xa, xb, r⟩ := dbx_start w (s1 := s1) (A1 := A1) (n1 := n1) (c1 := c1) (e1 := e1) (s2 := s2) (A2 := A2) (n2 := n2) (c2 := c2) (e2 := e2)
 obtain ⟨a10, a11, a12⟩ := xa.held
 obtain ⟨a20, a21, a22⟩ := xb.held
 clear xa xb
 have G := mv BB rfl <| And.intro h1 <| h2
 clear h1 h2
 obtain ⟨h1, h2⟩ := G
 have ne1 : ¬ w.heap.size + 2 = w.heap.size := by omega
 have ne2 : ¬ w.heap.size = w.heap.size + 2 := by omega
 have ne3 : ¬ w.heap.size + 2 = w.heap.size + 1 := by omega
 have ne4 : ¬ w.heap.size + 1 = w.heap.size + 2 := by omega
 go_enter Tryz.func124, Tryz.ntmps124
 go_wp2_with fail
 refine wp_region_held_drew (S := fun w' => w'.cell? ⟨w.heap.size, 0, none⟩ = some (.bool s1) ∧ w'.cell? ⟨w.heap.size, 1, none⟩ = some (.slice A1 n1 c1) ∧ w'.cell? ⟨w.heap.size, 2, none⟩ = some (.int .i64 e1) ∧ w'.cell? ⟨(w.heap.size + 1), 0, none⟩ = some (.bool s2) ∧ w'.cell? ⟨(w.heap.size + 1), 1, none⟩ = some (.slice A2 n2 c2) ∧ w'.cell? ⟨(w.heap.size + 1), 2, none⟩ = some (.int .i64 e2)) (by kernel_rfl) (by first | (dsimp only; go_keep) | go_keep) (fun hHeldu0 => ?_)
 refine tlRr 0 ?_
 refine wpAnyH_take (i := 1) (v := ?uv1) rfl (by kernel_rfl) (by kernel_rfl) (by kernel_rfl) (fun _ _ _ h => panic_put (P := Tryz.prog) (fn := Tryz.f124) (R := (NumIs sg1 (cutN p Q (up != sg1)) (e1 - e2 - ((s : Nat) : Int) - 1 + ((blen Q - p : Nat) : Int)) w)) h) (Or.inl ⟨by rfl, ?uy1⟩) (by assumption) ?_
 case uy1 => (intro w hSw; (try dsimp only at hSw); go_simp; (try simp only [w1, w2, w3])); try with_reducible rfl
 change wpAnyH _ _ _ _ _ _ _ (Act.put _ (some 18) _) _
 simp only [Act.put, List.setIfInBounds_toArray, List.set_cons_zero, List.set_cons_succ]
 refine tlRr 2 ?_
 refine tlRr 3 ?_
 refine tlRr 6 ?_
 refine tlRr 7 ?_
 refine rdy 4 fun K hK => ?_
 go_simp
 refine (rbits_any (h2.heap32 (by rfl)) (by omega)).mono ?_
 rintro en w' ⟨rfl, rfl⟩
 refine hK.out _ _ (by first | (dsimp only; go_keep) | go_keep) (fun hHeldu1 => ?_)
 clear hK K hHeldu0
 try simp only [Act.put]
 refine wpAnyH_take (i := 5) (v := ?uv5) rfl (by kernel_rfl) (by kernel_rfl) (by kernel_rfl) (fun _ _ _ h => panic_put (P := Tryz.prog) (fn := Tryz.f124) (R := (NumIs sg1 (cutN p Q (up != sg1)) (e1 - e2 - ((s : Nat) : Int) - 1 + ((blen Q - p : Nat) : Int)) w)) h) (Or.inl ⟨by rfl, ?uy5⟩) (by assumption) ?_
 case uy5 => (intro w hSw; (try dsimp only at hSw); go_simp; (try simp only [w1, w2, w3])); try with_reducible rfl
 change wpAnyH _ _ _ _ _ _ _ (Act.put _ (some 22) _) _
 simp only [Act.put, List.setIfInBounds_toArray, List.set_cons_zero, List.set_cons_succ]
 refine rdy 8 fun K hK => ?_
 go_simp
 refine (rbits_any (h1.heap32 (by rfl)) (by omega)).mono ?_
 rintro en w' ⟨rfl, rfl⟩
 refine hK.out _ _ (by first | (dsimp only; go_keep) | go_keep) (fun hHeldu2 => ?_)
 clear hK K hHeldu1
 try simp only [Act.put]
 refine wpAnyH_take (i := 9) (v := ?uv9) rfl (by kernel_rfl) (by kernel_rfl) (by kernel_rfl) (fun _ _ _ h => panic_put (P := Tryz.prog) (fn := Tryz.f124) (R := (NumIs sg1 (cutN p Q (up != sg1)) (e1 - e2 - ((s : Nat) : Int) - 1 + ((blen Q - p : Nat) : Int)) w)) h) (Or.inl ⟨by rfl, ?uy9⟩) (by assumption) ?_
 case uy9 => (intro w hSw; (try dsimp only at hSw); go_simp; (try simp only [w1, w2, w3])); try with_reducible rfl
 change wpAnyH _ _ _ _ _ _ _ (Act.put _ (some 26) _) _
 simp only [Act.put, List.setIfInBounds_toArray, List.set_cons_zero, List.set_cons_succ]
 refine tlRr 10 ?_
 refine tlRr 11 ?_
 refine wpAnyH_done (by kernel_rfl) ?_ _
 replace h1 := h1.drew
 replace h2 := h2.drew
 replace r := r.drew'
 have BD : Below w.heap.size w (World.drew (((w.alloc (.cells #[.bool s1, .slice A1 n1 c1, .int .i64 e1] 90)).alloc (.cells #[.bool s2, .slice A2 n2 c2, .int .i64 e2] 90)).alloc (.cells #[.bool false, .slice none 0 0, .int .i64 0] 90))) := below_drewN BB 1
 clear a10 a11 a12 a20 a21 a22 BB w1 w2 w3
 obtain ⟨a10, a11, a12, a20, a21, a22⟩ := hHeldu2
 generalize World.drew (((w.alloc (.cells #[.bool s1, .slice A1 n1 c1, .int .i64 e1] 90)).alloc (.cells #[.bool s2, .slice A2 n2 c2, .int .i64 e2] 90)).alloc (.cells #[.bool false, .slice none 0 0, .int .i64 0] 90)) = wd at *
 have BB := BD
 clear BD
 go_wp2_with fail
 clear hs f00
 refine wp_region_held_drew (S := fun w' => w'.cell? ⟨w.heap.size, 0, none⟩ = some (.bool s1) ∧ w'.cell? ⟨w.heap.size, 1, none⟩ = some (.slice A1 n1 c1) ∧ w'.cell? ⟨w.heap.size, 2, none⟩ = some (.int .i64 e1) ∧ w'.cell? ⟨(w.heap.size + 1), 0, none⟩ = some (.bool s2) ∧ w'.cell? ⟨(w.heap.size + 1), 1, none⟩ = some (.slice A2 n2 c2) ∧ w'.cell? ⟨(w.heap.size + 1), 2, none⟩ = some (.int .i64 e2)) (by kernel_rfl) (by first | (dsimp only; go_keep) | go_keep) (fun hHeldv0 => ?_)
 refine tlRr 0 ?_
 refine tlRr 1 ?_
 refine tlRr 2 ?_
 refine tlRr 4 ?_
 refine tlRr 5 ?_
 refine rdy 3 fun K hK => ?_
 go_simp
 refine (rshl_any (s := s) (h1.heap32 (by rfl)) (by omega) (by omega)).mono ?_
 rintro en w' ⟨A3, n3, c3, rfl, h3, b⟩
 have n3l : n3 ≤ 600 := dg_small h3 HSM.out
 clear h1
 replace BB := below_next BB BB.size b (by rfl) (by rfl) (by rfl) (by rfl)
 have G := mv b (by rfl) <| And.intro a10 <| And.intro a11 <| And.intro a12 <| And.intro a20 <| And.intro a21 <| And.intro a22 <| And.intro h2 <| r
 clear b a10 a11 a12 a20 a21 a22 h2 r
 obtain ⟨a10, a11, a12, a20, a21, a22, h2, r⟩ := G
 replace h3 := Dg.heap32 h3 (by rfl)
 refine hK.out _ _ (by first | (dsimp only; go_keep) | go_keep) (fun hHeldv1 => ?_)
 clear hK K hHeldv0
 try simp only [Act.put]
 refine rdy 6 fun K hK => ?_
 go_simp
 refine (rdiv_any (h3.heap32 (by rfl)) (h2.heap32 (by rfl)) (by omega) (by omega) (Nat.pos_of_ne_zero HY.out)).mono ?_
 rintro en w' ⟨A4, n4, c4, A5, n5, c5, rfl, h4, h5, b⟩
 have n4l : n4 ≤ 599 := dg_small h4 HF.out
 clear h3 h2
 replace BB := below_next BB BB.size b (by rfl) (by rfl) (by rfl) (by rfl)
 have G := mv b (by rfl) <| And.intro a10 <| And.intro a11 <| And.intro a12 <| And.intro a20 <| And.intro a21 <| And.intro a22 <| r
 clear b a10 a11 a12 a20 a21 a22 r
 obtain ⟨a10, a11, a12, a20, a21, a22, r⟩ := G
 refine hK.out _ _ (by first | (dsimp only; go_keep) | go_keep) (fun hHeldv2 => ?_)
 clear hK K hHeldv1
 try simp only [Act.put]
 refine tlRr 7 ?_
 refine tlRr 8 ?_
 refine tlRr 9 ?_
 refine tlRr 10 ?_
 refine tlRr 11 ?_
 refine wpAnyH_done (by kernel_rfl) ?_ _
 have hl5 := Rd.len h5
 have hz5 : n5 = 0 ↔ x * 2 ^ s % y = 0 := by rw [← hl5]; exact dig_len_zero H_two
 have d5 : decide (0 < n5) = true := decide_eq_true (by have h := mt hz5.1 HR.out; omega)
 have cap5 := Rd.cap h5
 have max5 := Rd.max h5
 clear hl5 hz5 HR
 clear h5
 try clear hHeldv2
 go_wp2_with fail
 refine (rshl_any (s := 1) (h4.heap32 (by rfl)) (by omega) (by omega)).mono ?_
 rintro en w6 ⟨A6, n6, c6, rfl, h6, b⟩
 clear h4
 replace BB := below_next BB BB.size b (by rfl) (by rfl) (by rfl) (by rfl)
 have G := mv b (by rfl) <| And.intro a10 <| And.intro a11 <| And.intro a12 <| And.intro a20 <| And.intro a21 <| And.intro a22 <| r
 clear b a10 a11 a12 a20 a21 a22 r
 obtain ⟨a10, a11, a12, a20, a21, a22, r⟩ := G
 have n6l : n6 ≤ 10000 := by
  have e1 := Rd.len h6
  have := dg_small h6 (show x * 2 ^ s / y * 2 ^ 1 < Go.Proofs.YtcbkhmejlaaieaaGreatDoor.H ^ 600 by have := HQ.out; rw [← HQD.out] at this; omega)
  omega
 go_wp2_with fail
 have hone := dg_one w6
 have b := below_alloc w6 (.cells #[.int .u32 1] 102)
 replace BB := bnx BB b rfl rfl rfl rfl
 have G := mv b rfl (J8 a10 a11 a12 a20 a21 a22 r h6)
 clear b a10 a11 a12 a20 a21 a22 r h6
 obtain ⟨a10, a11, a12, a20, a21, a22, r, h6⟩ := G
 refine (radd_any h6 hone (by omega) (by omega)).mono ?_
 rintro en w7 ⟨A7, n7, c7, rfl, h7, b⟩
 clear hone h6
 replace BB := bnx BB b rfl rfl rfl rfl
 have G := mv b rfl (J7 a10 a11 a12 a20 a21 a22 r)
 clear b a10 a11 a12 a20 a21 a22 r
 obtain ⟨a10, a11, a12, a20, a21, a22, r⟩ := G
 rw [HQD.out] at h7
 have w4 : IntKind.i64.wrap (e1 - e2) = e1 - e2 := IntWalk.i64_in _ (by omega)
 have w5 : IntKind.i64.wrap (e1 - e2 - (s : Int)) = e1 - e2 - (s : Int) := IntWalk.i64_in _ (by omega)
 have w6' : IntKind.i64.wrap (e1 - e2 - (s : Int) - 1) = e1 - e2 - (s : Int) - 1 := IntWalk.i64_in _ (by omega)
 go_wp2_with fail
 try rw [hsg2]
 refine (rcut_any (p := p) (s := sg1) (e := e1 - e2 - (s : Int) - 1) h7 HQ.out hQb (by omega) (by omega)).mono ?_
 rintro en w8 ⟨A8, n8, c8, rfl, h8, b⟩
 clear h7
 replace BB := bnx BB b rfl rfl rfl rfl
 have G := mv b rfl (J7 a10 a11 a12 a20 a21 a22 r)
 clear b a10 a11 a12 a20 a21 a22 r
 obtain ⟨a10, a11, a12, a20, a21, a22, r⟩ := G
 generalize cutN p Q (up != sg1) = y8 at *
 generalize e1 - e2 - (s : Int) - 1 + ((blen Q - p : Nat) : Int) = e8 at *
 obtain ⟨f0, f1, f2⟩ := r.open
 obtain ⟨z0, z1, z2⟩ := r.held
 go_wp2
 have qq := r.put sg1 A8 n8 c8 e8
 have hN := h8.put3 r (.bool sg1) (.slice A8 n8 c8) (.int .i64 e8)
 have HB3 := below_put3 (g := w.heap.size + 2) BB (by omega) (.bool sg1) (.slice A8 n8 c8) (.int .i64 e8)
 obtain ⟨z0, z1, z2⟩ := qq.held
 exact bodyPost_ret (v := .agg #[.bool sg1, .slice A8 n8 c8, .int .i64 e8]) (by simp [results, Tryz.results124, go_sem, z0, z1, z2]) rfl ⟨_, _, _, rfl, hN, HB3⟩

end Go.Proofs.YtcbkhmejlaaieaaGreatDoor

namespace Go.Proofs.YtcbkhmejlaaieaaGreatDoor
open Go.RowKit

theorem cutN_fits {p x : Nat} {u : Bool} (hp : 1 ≤ p) : Fits p (cutN p x u) := unfits (j := blen x - p) (rd_fits hp x u)
theorem quot_zero_told {p y : Nat} {s1 s2 up : Bool} {e1 e2 k : Int} {s s' : Bool} {e : Int} {m' : Nat} {e' : Int} (h : Nm s 0 e k s' m' e') : QuTold s1 0 e1 s2 y e2 p up k s' m' e' := by
 obtain ⟨rfl, rfl, rfl, rfl⟩ := nm_fun h (.inl ⟨rfl, rfl, rfl, rfl, rfl⟩)
 unfold QuTold
 have e : cutR p (0 * 2 ^ kUp p 0 y / (y * 2 ^ kDn p 0 y)) (!decide (0 * 2 ^ kUp p 0 y % (y * 2 ^ kDn p 0 y) = 0)) (up != (s1 != s2)) = 0 := by
  unfold cutR
  simp
 rw [e]
 exact .inl ⟨rfl, rfl, rfl, rfl, rfl⟩
def quotR (s : Bool) (l : List Nat) (e : Int) (t : Bool) (r : List Nat) (f : Int) (p : Int) (up : Bool) : Int → Bool → Nat → Int → Prop :=
 if (1 ≤ p ∧ p ≤ 2000) ∧ mayD s l e = true ∧ mayD t r f = true then (if val Go.Proofs.YtcbkhmejlaaieaaGreatDoor.W r = 0 then Outside else QuTold s (val Go.Proofs.YtcbkhmejlaaieaaGreatDoor.W l) e t (val Go.Proofs.YtcbkhmejlaaieaaGreatDoor.W r) f p.toNat up) else Wrong
theorem outside_fun {k k2 : Int} {s1 s2 : Bool} {m1 m2 : Nat} {e1 e2 : Int} (h : Outside k s1 m1 e1) (h' : Outside k2 s2 m2 e2) : k = k2 ∧ s1 = s2 ∧ m1 = m2 ∧ e1 = e2 := by
 obtain ⟨rfl, rfl, rfl, rfl⟩ := h
 obtain ⟨rfl, rfl, rfl, rfl⟩ := h'
 exact ⟨rfl, rfl, rfl, rfl⟩
theorem quotR_fun {s : Bool} {l : List Nat} {e : Int} {t : Bool} {r : List Nat} {f p : Int} {up : Bool} {k k2 : Int} {s1 s2 : Bool} {m1 m2 : Nat} {e1 e2 : Int} (h : quotR s l e t r f p up k s1 m1 e1) (h' : quotR s l e t r f p up k2 s2 m2 e2) : k = k2 ∧ s1 = s2 ∧ m1 = m2 ∧ e1 = e2 := by
 unfold quotR at h h'
 split at h
 ·rw [if_pos (by assumption)] at h'
  split at h
  ·rw [if_pos (by assumption)] at h'; exact outside_fun h h'
  ·rw [if_neg (by assumption)] at h'; exact nm_fun h h'
 ·rw [if_neg (by assumption)] at h'; exact wrong_fun h h'
theorem dquot_raw {w : World} {A1 : Option Addr} {n1 c1 : Nat} {l1 : List Nat} {s1 : Bool} {e1 : Int} {A2 : Option Addr} {n2 c2 : Nat} {l2 : List Nat} {s2 : Bool} {e2 : Int} {p : Int} {up : Bool} (hT : Tab w) (h1 : Rd w .u64 Go.Proofs.YtcbkhmejlaaieaaGreatDoor.W A1 n1 c1 l1) (h2 : Rd w .u64 Go.Proofs.YtcbkhmejlaaieaaGreatDoor.W A2 n2 c2 l2) :
  Calls Tryz.prog 122 #[.agg #[.bool s1, .slice A1 n1 c1, .int .i64 e1], .agg #[.bool s2, .slice A2 n2 c2, .int .i64 e2], .int .i64 p, .bool up] w (Tells (quotR s1 l1 e1 s2 l2 e2 p up) w) := by
 unfold quotR
 by_cases hd : (1 ≤ p ∧ p ≤ 2000) ∧ mayD s1 l1 e1 = true ∧ mayD s2 l2 e2 = true
 ·rw [if_pos hd]
  obtain ⟨q, rfl⟩ := Int.eq_ofNat_of_zero_le (show 0 ≤ p by omega)
  obtain ⟨hN, hok, _⟩ := rd_okd h1 hd.2.1
  obtain ⟨hN', hok', _⟩ := rd_okd h2 hd.2.2
  by_cases hy : val Go.Proofs.YtcbkhmejlaaieaaGreatDoor.W l2 = 0
  ·rw [if_pos hy]
   exact rquot_zero hT hN hN' hok hok' (by omega) (by omega) hy
  ·rw [if_neg hy]
   exact rquot_ok hT hN hN' hok hok' (by omega) (by omega) hy
 ·rw [if_neg hd]
  refine rquot_no hT h1 h2 ?_
  by_cases hp : 1 ≤ p ∧ p ≤ 2000
  ·refine .inr (.inr ?_)
   cases q : mayD s1 l1 e1 <;> cases q' : mayD s2 l2 e2 <;> first | rfl | exact absurd ⟨hp, q, q'⟩ hd
  ·omega

theorem dg_nil0 (w : World) : Dg w none 0 0 0 := by unfold Dg; rw [dig_zero]; exact Rd.nil _ _ _ _ (by omega)
set_option maxRecDepth 100000 in
set_option maxHeartbeats 8000000 in
theorem rparted_nil {w : World} {p : Nat} {up : Bool} {A1 A2 : Option Addr} {n2 c1 c2 : Nat} {s1 s2 : Bool} {e1 e2 : Int} :
  Calls Tryz.prog 124 #[.agg #[.bool s1, .slice A1 0 c1, .int .i64 e1], .agg #[.bool s2, .slice A2 n2 c2, .int .i64 e2], .int .i64 (p : Int), .bool up] w (NumIs false 0 0 w) := by
 have BB := three_below w (.cells #[.bool s1, .slice A1 0 c1, .int .i64 e1] 90) (.cells #[.bool s2, .slice A2 n2 c2, .int .i64 e2] 90) (.cells #[.bool false, .slice none 0 0, .int .i64 0] 90)
 obtain ⟨xa, xb, r⟩ := dbx_start w (s1 := s1) (A1 := A1) (n1 := 0) (c1 := c1) (e1 := e1) (s2 := s2) (A2 := A2) (n2 := n2) (c2 := c2) (e2 := e2)
 obtain ⟨a10, a11, a12⟩ := xa.held
 clear xa xb
 go_enter Tryz.func124, Tryz.ntmps124
 obtain ⟨f0, f1, f2⟩ := r.open
 obtain ⟨z0, z1, z2⟩ := r.held
 go_wp2
 exact bodyPost_ret (v := .agg #[.bool false, .slice none 0 0, .int .i64 0]) (by simp [results, Tryz.results124, go_sem]) rfl ⟨_, _, _, rfl, dg_nil0 _, BB⟩

def PartOf (s1 : Bool) (x : Nat) (e1 : Int) (s2 : Bool) (y : Nat) (e2 : Int) (p : Nat) (up : Bool) (s5 : Bool) (y5 : Nat) (e5 : Int) : Prop :=
 (Fits 2000 y5 ∧ y5 < Go.Proofs.YtcbkhmejlaaieaaGreatDoor.W ^ 64 ∧ -10000000 ≤ e5 ∧ e5 ≤ 10000000) ∧ ∀ k s m e, Nm s5 y5 e5 k s m e → QuTold s1 x e1 s2 y e2 p up k s m e
theorem rparted_any {w : World} {x y p : Nat} {up : Bool} {A1 : Option Addr} {n1 c1 : Nat} {s1 : Bool} {e1 : Int} {A2 : Option Addr} {n2 c2 : Nat} {s2 : Bool} {e2 : Int} (h1 : Dg w A1 n1 c1 x) (h2 : Dg w A2 n2 c2 y) (hy : y ≠ 0) (bx : blen x ≤ 4096) (hby : blen y ≤ 4096) (hn1 : n1 ≤ 600) (hn2 : n2 ≤ 600) (hp1 : 1 ≤ p) (hp : p ≤ 1000) (r1 : -1048576 ≤ e1) (r2 : e1 ≤ 1048576) (r3 : -1048576 ≤ e2) (r4 : e2 ≤ 1048576) :
  Calls Tryz.prog 124 #[.agg #[.bool s1, .slice A1 n1 c1, .int .i64 e1], .agg #[.bool s2, .slice A2 n2 c2, .int .i64 e2], .int .i64 (p : Int), .bool up] w fun en w' => ∃ s5 y5 e5, NumIs s5 y5 e5 w en w' ∧ PartOf s1 x e1 s2 y e2 p up s5 y5 e5 := by
 by_cases hx : x = 0
 ·subst hx
  have hl := Rd.len h1
  obtain rfl : n1 = 0 := by rw [← hl]; exact (dig_len_zero H_two).2 rfl
  exact rparted_nil.mono fun _ _ h => ⟨_, _, _, h, ⟨fits_zero 2000, Nat.pow_pos (by rw [W_eq]; omega), by omega, by omega⟩, fun _ _ _ _ h => quot_zero_told h⟩
 ·have hP : PartOf s1 x e1 s2 y e2 p up (s1 != s2) (cutN p (stickyQ (moreBits p x y) x y) (up != (s1 != s2))) (e1 - e2 - ((moreBits p x y : Nat) : Int) - 1 + ((blen (stickyQ (moreBits p x y) x y) - p : Nat) : Int)) := by
   have hb := (sticky_fit (p := p) (x := x) (y := y) bx hby hp).2.1
   have hm : moreBits p x y ≤ 7000 := by unfold moreBits; omega
   exact ⟨⟨fits_mono (cutN_fits hp1) (by omega), cutN_lt (by omega), by omega, by omega⟩, fun _ _ _ _ h => quot_same hx hy hp1 (by omega) bx hby r1 r2 r3 r4 h⟩
  by_cases hr : x * 2 ^ moreBits p x y % y = 0
  ·exact (rparted_even h1 h2 hx hy bx hby hn1 hn2 hp r1 r2 r3 r4 hr).mono fun _ _ h => ⟨_, _, _, h, hP⟩
  ·exact (rparted_left h1 h2 hx hy bx hby hn1 hn2 hp r1 r2 r3 r4 hr).mono fun _ _ h => ⟨_, _, _, h, hP⟩

set_option maxRecDepth 100000 in
set_option maxHeartbeats 8000000 in
theorem rquotd_no {w : World} {A1 : Option Addr} {n1 c1 : Nat} {l1 : List Nat} {s1 : Bool} {e1 : Int} {A2 : Option Addr} {n2 c2 : Nat} {l2 : List Nat} {s2 : Bool} {e2 : Int} {p : Int} {up : Bool} (h1 : Rd w .u64 Go.Proofs.YtcbkhmejlaaieaaGreatDoor.W A1 n1 c1 l1) (h2 : Rd w .u64 Go.Proofs.YtcbkhmejlaaieaaGreatDoor.W A2 n2 c2 l2) (hd : ¬ ((1 ≤ p ∧ p ≤ 2000) ∧ mayD s1 l1 e1 = true ∧ mayD s2 l2 e2 = true)) :
  Calls Tryz.prog 69 #[.agg #[.bool s1, .slice A1 n1 c1, .int .i64 e1], .agg #[.bool s2, .slice A2 n2 c2, .int .i64 e2], .int .i64 p, .bool up] w (Tells Wrong w) := by
 obtain ⟨BB, xa, xb, r⟩ := three_dbl w (s1 := s1) (A1 := A1) (n1 := n1) (c1 := c1) (e1 := e1) (s2 := s2) (A2 := A2) (n2 := n2) (c2 := c2) (e2 := e2)
 obtain ⟨a10, a11, a12⟩ := xa.held
 obtain ⟨a20, a21, a22⟩ := xb.held
 clear xa xb
 have ne1 : ¬ w.heap.size + 2 = w.heap.size := by omega
 have ne2 : ¬ w.heap.size = w.heap.size + 2 := by omega
 have ne3 : ¬ w.heap.size + 2 = w.heap.size + 1 := by omega
 have ne4 : ¬ w.heap.size + 1 = w.heap.size + 2 := by omega
 have G := mv BB rfl <| And.intro h1 <| h2
 clear h1 h2
 obtain ⟨h1, h2⟩ := G
 have HD := Lib.hid hd
 clear hd
 go_enter Tryz.func69, Tryz.ntmps69
 go_wp2_with fail
 refine (rmayd_any (s := s1) (e := e1) h1).mono ?_
 rintro en w1 ⟨rfl, b⟩
 replace BB := bnx BB b rfl rfl rfl rfl
 have G := mv b rfl (J9 a10 a11 a12 a20 a21 a22 h1 h2 r)
 clear b a10 a11 a12 a20 a21 a22 h1 h2 r
 obtain ⟨a10, a11, a12, a20, a21, a22, h1, h2, r⟩ := G
 cases q1 : mayD s1 l1 e1
 ·clear q1
  obtain ⟨f0, f1, f2⟩ := r.open
  obtain ⟨z0, z1, z2⟩ := r.held
  go_wp2
  have qq := r.put false none 0 0 0
  have HB3 := below_put3 (g := w.heap.size + 2) BB (by omega) (.bool false) (.slice none 0 0) (.int .i64 0)
  obtain ⟨z0, z1, z2⟩ := qq.held
  exact bodyPost_ret (v := .tuple #[.agg #[.bool false, .slice none 0 0, .int .i64 0], .int .i64 1]) (by simp [results, Tryz.results69, go_sem, z0, z1, z2]) rfl ⟨_, _, _, _, _, 0, _, rfl, ⟨rfl, rfl, rfl, rfl⟩, nt_nil _, HB3⟩
 go_wp2_with fail
 refine (rmayd_any (s := s2) (e := e2) h2).mono ?_
 rintro en w2 ⟨rfl, b⟩
 replace BB := bnx BB b rfl rfl rfl rfl
 have G := mv b rfl (J9 a10 a11 a12 a20 a21 a22 h1 h2 r)
 clear b a10 a11 a12 a20 a21 a22 h1 h2 r
 obtain ⟨a10, a11, a12, a20, a21, a22, h1, h2, r⟩ := G
 cases q2 : mayD s2 l2 e2
 ·clear q1 q2
  obtain ⟨f0, f1, f2⟩ := r.open
  obtain ⟨z0, z1, z2⟩ := r.held
  go_wp2
  have qq := r.put false none 0 0 0
  have HB3 := below_put3 (g := w.heap.size + 2) BB (by omega) (.bool false) (.slice none 0 0) (.int .i64 0)
  obtain ⟨z0, z1, z2⟩ := qq.held
  exact bodyPost_ret (v := .tuple #[.agg #[.bool false, .slice none 0 0, .int .i64 0], .int .i64 1]) (by simp [results, Tryz.results69, go_sem, z0, z1, z2]) rfl ⟨_, _, _, _, _, 0, _, rfl, ⟨rfl, rfl, rfl, rfl⟩, nt_nil _, HB3⟩
 have hp : ¬ (1 ≤ p ∧ p ≤ 2000) := fun h => HD.out ⟨h, q1, q2⟩
 clear q1 q2
 rcases Int.lt_or_le p 1 with g | g
 ·have d1 : decide (p < 1) = true := decide_eq_true g
  clear hp g
  obtain ⟨f0, f1, f2⟩ := r.open
  obtain ⟨z0, z1, z2⟩ := r.held
  go_wp2
  have qq := r.put false none 0 0 0
  have HB3 := below_put3 (g := w.heap.size + 2) BB (by omega) (.bool false) (.slice none 0 0) (.int .i64 0)
  obtain ⟨z0, z1, z2⟩ := qq.held
  exact bodyPost_ret (v := .tuple #[.agg #[.bool false, .slice none 0 0, .int .i64 0], .int .i64 1]) (by simp [results, Tryz.results69, go_sem, z0, z1, z2]) rfl ⟨_, _, _, _, _, 0, _, rfl, ⟨rfl, rfl, rfl, rfl⟩, nt_nil _, HB3⟩
 have g2 : 2000 < p := by omega
 have d1 : decide (p < 1) = false := decide_eq_false (by omega)
 have d2 : decide ((2000 : Int) < p) = true := decide_eq_true g2
 clear hp g g2
 obtain ⟨f0, f1, f2⟩ := r.open
 obtain ⟨z0, z1, z2⟩ := r.held
 go_wp2
 have qq := r.put false none 0 0 0
 have HB3 := below_put3 (g := w.heap.size + 2) BB (by omega) (.bool false) (.slice none 0 0) (.int .i64 0)
 obtain ⟨z0, z1, z2⟩ := qq.held
 exact bodyPost_ret (v := .tuple #[.agg #[.bool false, .slice none 0 0, .int .i64 0], .int .i64 1]) (by simp [results, Tryz.results69, go_sem, z0, z1, z2]) rfl ⟨_, _, _, _, _, 0, _, rfl, ⟨rfl, rfl, rfl, rfl⟩, nt_nil _, HB3⟩

set_option maxRecDepth 100000 in
set_option maxHeartbeats 8000000 in
theorem rquotd_dom {w : World} {p : Nat} {up : Bool} {A1 : Option Addr} {n1 c1 x1 : Nat} {s1 : Bool} {e1 : Int} {A2 : Option Addr} {n2 c2 x2 : Nat} {s2 : Bool} {e2 : Int} (h1 : Nt w A1 n1 c1 x1) (d1 : OkD s1 x1 e1) (h2 : Nt w A2 n2 c2 x2) (d2 : OkD s2 x2 e2) (hp1 : 1 ≤ p) (hp : p ≤ 2000) (hy : x2 = 0) :
  Calls Tryz.prog 69 #[.agg #[.bool s1, .slice A1 n1 c1, .int .i64 e1], .agg #[.bool s2, .slice A2 n2 c2, .int .i64 e2], .int .i64 (p : Int), .bool up] w (Tells Outside w) := by
 have M1 := Lib.hid (mayD_ok d1)
 have M2 := Lib.hid (mayD_ok d2)
 have n1l := h1.le
 have n2l := h2.le
 have bx := blen_nt h1
 have by_ := blen_nt h2
 have g1 := okd_ge (K := 4194304) (Nat.le_refl _) d1
 have g2 := okd_ge (K := 4194304) (Nat.le_refl _) d2
 have r1 := g1.1
 have r2 := g1.2.1
 have r3 := g2.1
 have r4 := g2.2.1
 have hz2 : n2 = 0 ↔ x2 = 0 := h2.zero
 clear g1 g2 d1 d2
 have e1' : decide ((p : Int) < 1) = false := decide_eq_false (by omega)
 have e2' : decide ((2000 : Int) < (p : Int)) = false := decide_eq_false (by omega)
 obtain ⟨BB, xa, xb, r⟩ := three_dbl w (s1 := s1) (A1 := A1) (n1 := n1) (c1 := c1) (e1 := e1) (s2 := s2) (A2 := A2) (n2 := n2) (c2 := c2) (e2 := e2)
 obtain ⟨a10, a11, a12⟩ := xa.held
 obtain ⟨a20, a21, a22⟩ := xb.held
 clear xa xb
 have ne1 : ¬ w.heap.size + 2 = w.heap.size := by omega
 have ne2 : ¬ w.heap.size = w.heap.size + 2 := by omega
 have ne3 : ¬ w.heap.size + 2 = w.heap.size + 1 := by omega
 have ne4 : ¬ w.heap.size + 1 = w.heap.size + 2 := by omega
 have G := mv BB rfl <| And.intro h1 <| h2
 clear h1 h2
 obtain ⟨h1, h2⟩ := G
 have q2 : ((n2 : Int) == 0) = true := by simp [hz2.2 hy]
 clear hz2 hy
 go_enter Tryz.func69, Tryz.ntmps69
 go_wp2_with fail
 refine (rmayd_any (s := s1) (e := e1) h1.rd).mono ?_
 rintro en w1 ⟨rfl, b⟩
 rw [M1.out]
 replace BB := bnx BB b rfl rfl rfl rfl
 have G := mv b rfl (J9 a10 a11 a12 a20 a21 a22 h1 h2 r)
 clear b a10 a11 a12 a20 a21 a22 h1 h2 r
 obtain ⟨a10, a11, a12, a20, a21, a22, h1, h2, r⟩ := G
 go_wp2_with fail
 refine (rmayd_any (s := s2) (e := e2) h2.rd).mono ?_
 rintro en w2 ⟨rfl, b⟩
 rw [M2.out]
 replace BB := bnx BB b rfl rfl rfl rfl
 have G := mv b rfl (J9 a10 a11 a12 a20 a21 a22 h1 h2 r)
 clear b a10 a11 a12 a20 a21 a22 h1 h2 r
 obtain ⟨a10, a11, a12, a20, a21, a22, h1, h2, r⟩ := G
 obtain ⟨f0, f1, f2⟩ := r.open
 obtain ⟨z0, z1, z2⟩ := r.held
 go_wp2
 have qq := r.put false none 0 0 0
 have HB3 := below_put3 (g := w.heap.size + 2) BB (by omega) (.bool false) (.slice none 0 0) (.int .i64 0)
 obtain ⟨z0, z1, z2⟩ := qq.held
 exact bodyPost_ret (v := .tuple #[.agg #[.bool false, .slice none 0 0, .int .i64 0], .int .i64 4]) (by simp [results, Tryz.results69, go_sem, z0, z1, z2]) rfl ⟨_, _, _, _, _, 0, _, rfl, ⟨rfl, rfl, rfl, rfl⟩, nt_nil _, HB3⟩

set_option maxRecDepth 100000 in
set_option maxHeartbeats 8000000 in
theorem rquotd_some {w : World} {p : Nat} {up : Bool} {A1 : Option Addr} {n1 c1 x1 : Nat} {s1 : Bool} {e1 : Int} {A2 : Option Addr} {n2 c2 x2 : Nat} {s2 : Bool} {e2 : Int} (h1 : Nt w A1 n1 c1 x1) (d1 : OkD s1 x1 e1) (h2 : Nt w A2 n2 c2 x2) (d2 : OkD s2 x2 e2) (hp1 : 1 ≤ p) (hp : p ≤ 1000) (hy : x2 ≠ 0) :
  Calls Tryz.prog 69 #[.agg #[.bool s1, .slice A1 n1 c1, .int .i64 e1], .agg #[.bool s2, .slice A2 n2 c2, .int .i64 e2], .int .i64 (p : Int), .bool up] w (Tells (QuTold s1 x1 e1 s2 x2 e2 p up) w) := by
 have M1 := Lib.hid (mayD_ok d1)
 have M2 := Lib.hid (mayD_ok d2)
 have n1l := h1.le
 have n2l := h2.le
 have bx := blen_nt h1
 have by_ := blen_nt h2
 have g1 := okd_ge (K := 4194304) (Nat.le_refl _) d1
 have g2 := okd_ge (K := 4194304) (Nat.le_refl _) d2
 have r1 := g1.1
 have r2 := g1.2.1
 have r3 := g2.1
 have r4 := g2.2.1
 have hz2 : n2 = 0 ↔ x2 = 0 := h2.zero
 clear g1 g2 d1 d2
 have e1' : decide ((p : Int) < 1) = false := decide_eq_false (by omega)
 have e2' : decide ((2000 : Int) < (p : Int)) = false := decide_eq_false (by omega)
 obtain ⟨BB, xa, xb, r⟩ := three_dbl w (s1 := s1) (A1 := A1) (n1 := n1) (c1 := c1) (e1 := e1) (s2 := s2) (A2 := A2) (n2 := n2) (c2 := c2) (e2 := e2)
 obtain ⟨a10, a11, a12⟩ := xa.held
 obtain ⟨a20, a21, a22⟩ := xb.held
 clear xa xb
 have ne1 : ¬ w.heap.size + 2 = w.heap.size := by omega
 have ne2 : ¬ w.heap.size = w.heap.size + 2 := by omega
 have ne3 : ¬ w.heap.size + 2 = w.heap.size + 1 := by omega
 have ne4 : ¬ w.heap.size + 1 = w.heap.size + 2 := by omega
 have G := mv BB rfl <| And.intro h1 <| h2
 clear h1 h2
 obtain ⟨h1, h2⟩ := G
 have q2 : ((n2 : Int) == 0) = false := by have := mt hz2.1 hy; simp [this]
 have HY := Lib.hid hy
 clear hz2 hy
 go_enter Tryz.func69, Tryz.ntmps69
 go_wp2_with fail
 refine (rmayd_any (s := s1) (e := e1) h1.rd).mono ?_
 rintro en w1 ⟨rfl, b⟩
 rw [M1.out]
 replace BB := bnx BB b rfl rfl rfl rfl
 have G := mv b rfl (J9 a10 a11 a12 a20 a21 a22 h1 h2 r)
 clear b a10 a11 a12 a20 a21 a22 h1 h2 r
 obtain ⟨a10, a11, a12, a20, a21, a22, h1, h2, r⟩ := G
 go_wp2_with fail
 refine (rmayd_any (s := s2) (e := e2) h2.rd).mono ?_
 rintro en w2 ⟨rfl, b⟩
 rw [M2.out]
 replace BB := bnx BB b rfl rfl rfl rfl
 have G := mv b rfl (J9 a10 a11 a12 a20 a21 a22 h1 h2 r)
 clear b a10 a11 a12 a20 a21 a22 h1 h2 r
 obtain ⟨a10, a11, a12, a20, a21, a22, h1, h2, r⟩ := G
 go_wp2_with fail
 refine wp_region_held_drew (S := fun w' => w'.cell? ⟨w.heap.size, 0, none⟩ = some (.bool s1) ∧ w'.cell? ⟨w.heap.size, 1, none⟩ = some (.slice A1 n1 c1) ∧ w'.cell? ⟨w.heap.size, 2, none⟩ = some (.int .i64 e1) ∧ w'.cell? ⟨(w.heap.size + 1), 0, none⟩ = some (.bool s2) ∧ w'.cell? ⟨(w.heap.size + 1), 1, none⟩ = some (.slice A2 n2 c2) ∧ w'.cell? ⟨(w.heap.size + 1), 2, none⟩ = some (.int .i64 e2)) (by kernel_rfl) (by first | (dsimp only; go_keep) | go_keep) (fun hHeldv0 => ?_)
 refine tlRr 0 ?_
 refine tlRr 2 ?_
 refine tlRr 4 ?_
 refine tlRr 5 ?_
 refine rdy 1 fun K hK => ?_
 go_simp
 refine (rof_any (s := s1) (e := e1) (h1.heap (by rfl))).mono ?_
 rintro en w' ⟨A3, n3, c3, rfl, h3, b⟩
 have n3l : n3 ≤ 256 := dg_small h3 (by rw [H256]; exact h1.lt)
 clear h1
 replace BB := below_next BB BB.size b (by rfl) (by rfl) (by rfl) (by rfl)
 have G := mv b (by rfl) <| And.intro a10 <| And.intro a11 <| And.intro a12 <| And.intro a20 <| And.intro a21 <| And.intro a22 <| And.intro r <| h2
 clear b a10 a11 a12 a20 a21 a22 r h2
 obtain ⟨a10, a11, a12, a20, a21, a22, r, h2⟩ := G
 replace h3 := Dg.heap32 h3 (by rfl)
 refine hK.out _ _ (by first | (dsimp only; go_keep) | go_keep) (fun hHeldv1 => ?_)
 clear hK K hHeldv0
 try simp only [Act.put]
 refine rdy 3 fun K hK => ?_
 go_simp
 refine (rof_any (s := s2) (e := e2) (h2.heap (by rfl))).mono ?_
 rintro en w' ⟨A4, n4, c4, rfl, h4, b⟩
 have n4l : n4 ≤ 256 := dg_small h4 (by rw [H256]; exact h2.lt)
 clear h2
 replace BB := below_next BB BB.size b (by rfl) (by rfl) (by rfl) (by rfl)
 have G := mv b (by rfl) <| And.intro a10 <| And.intro a11 <| And.intro a12 <| And.intro a20 <| And.intro a21 <| And.intro a22 <| And.intro r <| h3
 clear b a10 a11 a12 a20 a21 a22 r h3
 obtain ⟨a10, a11, a12, a20, a21, a22, r, h3⟩ := G
 replace h4 := Dg.heap32 h4 (by rfl)
 refine hK.out _ _ (by first | (dsimp only; go_keep) | go_keep) (fun hHeldv2 => ?_)
 clear hK K hHeldv1
 try simp only [Act.put]
 refine rdy 6 fun K hK => ?_
 go_simp
 refine (rparted_any (s1 := s1) (s2 := s2) (h3.heap32 (by rfl)) (h4.heap32 (by rfl)) HY.out bx by_ (by omega) (by omega) hp1 hp r1 r2 r3 r4).mono ?_
 rintro en w' ⟨s5, y5, e5, ⟨A5, n5, c5, rfl, h5, b⟩, hQ⟩
 have HQ := Lib.hid hQ
 have n5l : n5 ≤ 256 := dg_small h5 (by rw [H256]; exact hQ.1.2.1)
 clear h3 h4 hQ
 replace BB := below_next BB BB.size b (by rfl) (by rfl) (by rfl) (by rfl)
 have G := mv b (by rfl) <| And.intro a10 <| And.intro a11 <| And.intro a12 <| And.intro a20 <| And.intro a21 <| And.intro a22 <| r
 clear b a10 a11 a12 a20 a21 a22 r
 obtain ⟨a10, a11, a12, a20, a21, a22, r⟩ := G
 replace h5 := Dg.heap32 h5 (by rfl)
 refine hK.out _ _ (by first | (dsimp only; go_keep) | go_keep) (fun hHeldv3 => ?_)
 clear hK K hHeldv2
 try simp only [Act.put]
 refine rdy 7 fun K hK => ?_
 go_simp
 refine (rwide_any (s := s5) (e := e5) (h5.heap32 (by rfl)) (by omega) HQ.out.1.1 HQ.out.1.2.2).mono ?_
 rintro en w' ⟨k6, s6, A6, n6, c6, m6, e6, rfl, hP, h6, b⟩
 have HP := Lib.hid (HQ.out.2 _ _ _ _ hP)
 clear hP h5
 replace BB := below_next BB BB.size b (by rfl) (by rfl) (by rfl) (by rfl)
 have G := mv b (by rfl) <| And.intro a10 <| And.intro a11 <| And.intro a12 <| And.intro a20 <| And.intro a21 <| And.intro a22 <| r
 clear b a10 a11 a12 a20 a21 a22 r
 obtain ⟨a10, a11, a12, a20, a21, a22, r⟩ := G
 replace h6 := h6.heap (by rfl)
 obtain ⟨f0, f1, f2⟩ := r.open
 obtain ⟨z0, z1, z2⟩ := r.held
 refine hK.out _ _ (by first | (dsimp only; go_keep) | go_keep) (fun hHeldv4 => ?_)
 clear hK K hHeldv3
 try simp only [Act.put]
 refine tlRr 8 ?_
 refine tlRr 9 ?_
 refine rdy 10 fun K hK => ?_
 go_simp
 refine hK.out _ _ (by first | (dsimp only; go_keep) | go_keep) (fun hHeldv5 => ?_)
 clear hK K hHeldv4
 try simp only [Act.put]
 refine tlRr 11 ?_
 refine wpAnyH_done (by kernel_rfl) ?_ _
 go_wp2
 have qq := r.put s6 A6 n6 c6 e6
 have hN := h6.put3 r (.bool s6) (.slice A6 n6 c6) (.int .i64 e6)
 have HB3 := below_put3 (g := w.heap.size + 2) BB (by omega) (.bool s6) (.slice A6 n6 c6) (.int .i64 e6)
 obtain ⟨z0, z1, z2⟩ := qq.held
 exact bodyPost_ret (v := .tuple #[.agg #[.bool s6, .slice A6 n6 c6, .int .i64 e6], .int .i64 k6]) (by simp [results, Tryz.results69, go_sem, z0, z1, z2]) rfl ⟨_, _, _, _, _, _, _, rfl, HP.out, hN, HB3⟩

theorem rquotd_raw {w : World} {A1 : Option Addr} {n1 c1 : Nat} {l1 : List Nat} {s1 : Bool} {e1 : Int} {A2 : Option Addr} {n2 c2 : Nat} {l2 : List Nat} {s2 : Bool} {e2 : Int} {p : Int} {up : Bool} (h1 : Rd w .u64 Go.Proofs.YtcbkhmejlaaieaaGreatDoor.W A1 n1 c1 l1) (h2 : Rd w .u64 Go.Proofs.YtcbkhmejlaaieaaGreatDoor.W A2 n2 c2 l2) (hpp : p ≤ 1000 ∨ 2000 < p) :
  Calls Tryz.prog 69 #[.agg #[.bool s1, .slice A1 n1 c1, .int .i64 e1], .agg #[.bool s2, .slice A2 n2 c2, .int .i64 e2], .int .i64 p, .bool up] w (Tells (quotR s1 l1 e1 s2 l2 e2 p up) w) := by
 unfold quotR
 by_cases hd : (1 ≤ p ∧ p ≤ 2000) ∧ mayD s1 l1 e1 = true ∧ mayD s2 l2 e2 = true
 ·rw [if_pos hd]
  obtain ⟨q, rfl⟩ := Int.eq_ofNat_of_zero_le (show 0 ≤ p by omega)
  obtain ⟨hN, hok, _⟩ := rd_okd h1 hd.2.1
  obtain ⟨hN', hok', _⟩ := rd_okd h2 hd.2.2
  by_cases hy : val Go.Proofs.YtcbkhmejlaaieaaGreatDoor.W l2 = 0
  ·rw [if_pos hy]
   exact rquotd_dom hN hok hN' hok' (by omega) (by omega) hy
  ·rw [if_neg hy]
   exact rquotd_some hN hok hN' hok' (by omega) (by omega) hy
 ·rw [if_neg hd]
  exact rquotd_no h1 h2 hd
end Go.Proofs.YtcbkhmejlaaieaaGreatDoor
