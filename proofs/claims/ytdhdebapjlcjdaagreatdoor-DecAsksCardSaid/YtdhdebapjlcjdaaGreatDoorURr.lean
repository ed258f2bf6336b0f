/-
 Contract of the reference's Quot, and what round.Quot tells of any two, raw ones too, at this translation. Condition: the slices read as limbs; at most 1000 bits, or more than may be.
-/
import Derived.Test.YtdhdebapjlcjdaaGreatDoorUIc
import Derived.Test.YtdhdebapjlcjdaaGreatDoorURa
import Derived.Test.YtdhdebapjlcjdaaGreatDoorUQn
import Derived.Test.YtdhdebapjlcjdaaGreatDoorURv
import Derived.Test.YtdhdebapjlcjdaaGreatDoorURt
set_option maxHeartbeats 8000000
set_option maxRecDepth 100000
namespace Go.Proofs.YtdhdebapjlcjdaaGreatDoor
open Go.RowKit

theorem dbx_start (w : World) {A1 : Option Addr} {n1 c1 : Nat} {s1 : Bool} {e1 : Int} {A2 : Option Addr} {n2 c2 : Nat} {s2 : Bool} {e2 : Int} : Dbx (((w.alloc (.cells #[.bool s1, .slice A1 n1 c1, .int .i64 e1] 58)).alloc (.cells #[.bool s2, .slice A2 n2 c2, .int .i64 e2] 58)).alloc (.cells #[.bool false, .slice none 0 0, .int .i64 0] 58)) w.heap.size s1 A1 n1 c1 e1 ∧ Dbx (((w.alloc (.cells #[.bool s1, .slice A1 n1 c1, .int .i64 e1] 58)).alloc (.cells #[.bool s2, .slice A2 n2 c2, .int .i64 e2] 58)).alloc (.cells #[.bool false, .slice none 0 0, .int .i64 0] 58)) (w.heap.size + 1) s2 A2 n2 c2 e2 ∧ Dbx (((w.alloc (.cells #[.bool s1, .slice A1 n1 c1, .int .i64 e1] 58)).alloc (.cells #[.bool s2, .slice A2 n2 c2, .int .i64 e2] 58)).alloc (.cells #[.bool false, .slice none 0 0, .int .i64 0] 58)) (w.heap.size + 2) false none 0 0 0 := by
 refine ⟨((Dbx.new w s1 A1 n1 c1 e1).alloc _).alloc _, ?_, ?_⟩
 ·have := (Dbx.new (w.alloc (.cells #[.bool s1, .slice A1 n1 c1, .int .i64 e1] 58)) s2 A2 n2 c2 e2).alloc (.cells #[.bool false, .slice none 0 0, .int .i64 0] 58)
  simpa using this
 ·have := Dbx.new ((w.alloc (.cells #[.bool s1, .slice A1 n1 c1, .int .i64 e1] 58)).alloc (.cells #[.bool s2, .slice A2 n2 c2, .int .i64 e2] 58)) false none 0 0 0
  simpa using this
theorem Dg.drew {w : World} {A : Option Addr} {n c x : Nat} (h : Dg w A n c x) : Dg w.drew A n c x := Dg.heap32 h rfl
theorem Dbx.drew' {w : World} {g : Nat} {s : Bool} {A : Option Addr} {n c : Nat} {e : Int} (h : Dbx w g s A n c e) : Dbx w.drew g s A n c e := ⟨h.blk⟩
/-- the longer quotient's size -/
theorem sticky_fit {p x y : Nat} (bx : blen x ≤ 4096) (hb : blen y ≤ 4096) (hp : p ≤ 1000) : x * 2 ^ moreBits p x y < Go.Proofs.YtdhdebapjlcjdaaGreatDoor.H ^ 600 ∧ blen (stickyQ (moreBits p x y) x y) ≤ 9600 ∧ stickyQ (moreBits p x y) x y < Go.Proofs.YtdhdebapjlcjdaaGreatDoor.H ^ 600 ∧ x * 2 ^ moreBits p x y / y < Go.Proofs.YtdhdebapjlcjdaaGreatDoor.H ^ 599 := by
 have hx2 := (blen_le x (blen x)).1 (Nat.le_refl _)
 have h1 : x * 2 ^ moreBits p x y < 2 ^ (blen x + moreBits p x y) := by rw [Nat.pow_add]; exact Nat.mul_lt_mul_of_pos_right hx2 (pow_pos2 _)
 have hm : blen x + moreBits p x y ≤ 9300 := by unfold moreBits; omega
 have hq := Nat.div_le_self (x * 2 ^ moreBits p x y) y
 have hQ : stickyQ (moreBits p x y) x y ≤ 2 * (x * 2 ^ moreBits p x y) + 1 := by unfold stickyQ; split <;> omega
 generalize x * 2 ^ moreBits p x y = X at *
 generalize moreBits p x y = S at *
 obtain ⟨k, hk⟩ : ∃ k, k = blen x + S := ⟨_, rfl⟩
 rw [← hk] at h1 hm
 have hQ2 : stickyQ S x y < 2 ^ (k + 1) := by rw [Nat.pow_succ]; omega
 have up : ∀ {z j m : Nat}, z < 2 ^ j → j ≤ 16 * m → z < Go.Proofs.YtdhdebapjlcjdaaGreatDoor.H ^ m := fun {z j m} h hj => by
  rw [H_pow, ← Nat.pow_mul]
  exact Nat.lt_of_lt_of_le h (Nat.pow_le_pow_right (by omega) hj)
 obtain ⟨m, hm6⟩ : ∃ m : Nat, m = 600 := ⟨_, rfl⟩
 obtain ⟨m', hm5⟩ : ∃ m : Nat, m = 599 := ⟨_, rfl⟩
 rw [← hm6, ← hm5]
 refine ⟨up h1 (by omega), Nat.le_trans ((blen_le _ (k + 1)).2 hQ2) (by omega), up hQ2 (by omega), up (Nat.lt_of_le_of_lt hq h1) (by omega)⟩

theorem rparted_even {w : World} {x y p : Nat} {up : Bool} {A1 : Option Addr} {n1 c1 : Nat} {s1 : Bool} {e1 : Int} {A2 : Option Addr} {n2 c2 : Nat} {s2 : Bool} {e2 : Int} (h1 : Dg w A1 n1 c1 x) (h2 : Dg w A2 n2 c2 y) (hx : x ≠ 0) (hy : y ≠ 0) (bx : blen x ≤ 4096) (hby : blen y ≤ 4096) (hn1 : n1 ≤ 600) (hn2 : n2 ≤ 600) (hp : p ≤ 1000) (r1 : -1048576 ≤ e1) (r2 : e1 ≤ 1048576) (r3 : -1048576 ≤ e2) (r4 : e2 ≤ 1048576) (hr : x * 2 ^ moreBits p x y % y = 0) :
  Calls Tryz.prog 29 #[.agg #[.bool s1, .slice A1 n1 c1, .int .i64 e1], .agg #[.bool s2, .slice A2 n2 c2, .int .i64 e2], .int .i64 (p : Int), .bool up] w (NumIs (s1 != s2) (cutN p (stickyQ (moreBits p x y) x y) (up != (s1 != s2))) (e1 - e2 - ((moreBits p x y : Nat) : Int) - 1 + ((blen (stickyQ (moreBits p x y) x y) - p : Nat) : Int)) w) := by
 have hlen := Rd.len h1
 have hz : n1 ≠ 0 := fun h => hx ((dig_len_zero H_two).1 (by rw [hlen]; exact h))
 have f00 : ((n1 : Int) == 0) = false := by simp [hz]
 have hcap := Rd.cap h1
 have hmax := Rd.max h1
 obtain ⟨hS, hQb, hQ, hF⟩ := sticky_fit bx hby hp
 have hs : max (0 : Int) ((p : Int) + 3 + (blen y : Int) - (blen x : Int)) = ((moreBits p x y : Nat) : Int) := by unfold moreBits; omega
 have hs6 : moreBits p x y ≤ 7000 := by unfold moreBits; omega
 generalize moreBits p x y = s at *
 obtain ⟨Q, hQd⟩ : ∃ Q, stickyQ s x y = Q := ⟨_, rfl⟩
 rw [hQd] at hQ hQb ⊢
 unfold stickyQ at hQd
 have HQD : Hid (x * 2 ^ s / y * 2 ^ 1 = Q) := Lib.hid (by rw [← hQd, if_pos hr, Nat.pow_one]; omega)
 have HQ := Lib.hid hQ
 have HSM := Lib.hid hS
 have HF := Lib.hid hF
 have HY := Lib.hid hy
 have HR := Lib.hid hr
 clear hlen hz hx hy hQ hS hQd hF hr
 obtain ⟨sg1, hsg⟩ : ∃ t, (s1 != s2) = t := ⟨_, rfl⟩
 rw [hsg]
 have hsg2 : (!(s1 == s2)) = sg1 := hsg
 clear hsg
 have w1 : IntKind.i64.wrap ((p : Int) + 3) = (p : Int) + 3 := IntWalk.i64_in _ (by omega)
 have w2 : IntKind.i64.wrap ((p : Int) + 3 + (blen y : Int)) = (p : Int) + 3 + (blen y : Int) := IntWalk.i64_in _ (by omega)
 have w3 : IntKind.i64.wrap ((p : Int) + 3 + (blen y : Int) - (blen x : Int)) = (p : Int) + 3 + (blen y : Int) - (blen x : Int) := IntWalk.i64_in _ (by omega)
 have BB := three_below w (.cells #[.bool s1, .slice A1 n1 c1, .int .i64 e1] 58) (.cells #[.bool s2, .slice A2 n2 c2, .int .i64 e2] 58) (.cells #[.bool false, .slice none 0 0, .int .i64 0] 58)
 obtain ⟨xa, xb, r⟩ := dbx_start w (s1 := s1) (A1 := A1) (n1 := n1) (c1 := c1) (e1 := e1) (s2 := s2) (A2 := A2) (n2 := n2) (c2 := c2) (e2 := e2)
 obtain ⟨a10, a11, a12⟩ := xa.held
 obtain ⟨a20, a21, a22⟩ := xb.held
 clear xa xb
 have G := mv BB rfl <| And.intro h1 <| h2
 clear h1 h2
 obtain ⟨h1, h2⟩ := G
 have ne1 : ¬ w.heap.size + 2 = w.heap.size := by omega
 have ne2 : ¬ w.heap.size = w.heap.size + 2 := by omega
 have ne3 : ¬ w.heap.size + 2 = w.heap.size + 1 := by omega
 have ne4 : ¬ w.heap.size + 1 = w.heap.size + 2 := by omega
 go_enter Tryz.func29, Tryz.ntmps29
 go_wp2_with fail
 refine rgn (fun w' => w'.cell? ⟨w.heap.size, 0, none⟩ = some (.bool s1) ∧ w'.cell? ⟨w.heap.size, 1, none⟩ = some (.slice A1 n1 c1) ∧ w'.cell? ⟨w.heap.size, 2, none⟩ = some (.int .i64 e1) ∧ w'.cell? ⟨(w.heap.size + 1), 0, none⟩ = some (.bool s2) ∧ w'.cell? ⟨(w.heap.size + 1), 1, none⟩ = some (.slice A2 n2 c2) ∧ w'.cell? ⟨(w.heap.size + 1), 2, none⟩ = some (.int .i64 e2)) fun hHeldu0 => ?_
 refine tl 0 ?_
 refine wpAnyH_take (i := 1) (v := ?uv1) rfl (by kernel_rfl) (by kernel_rfl) (by kernel_rfl) (fun _ _ _ h => panic_put (P := Tryz.prog) (fn := Tryz.f29) (R := (NumIs sg1 (cutN p Q (up != sg1)) (e1 - e2 - ((s : Nat) : Int) - 1 + ((blen Q - p : Nat) : Int)) w)) h) (Or.inl ⟨by rfl, ?uy1⟩) (by assumption) ?_
 case uy1 => (intro w hSw; (try dsimp only at hSw); go_simp; (try simp only [w1, w2, w3])); try with_reducible rfl
 change wpAnyH _ _ _ _ _ _ _ (Act.put _ (some 18) _) _
 simp only [Act.put, List.setIfInBounds_toArray, List.set_cons_zero, List.set_cons_succ]
 refine tl 2 ?_
 refine tl 3 ?_
 refine tl 6 ?_
 refine tl 7 ?_
 refine rdy 4 fun K hK => ?_
 go_simp
 refine (rbits_any (h2.heap32 (by rfl)) (by omega)).mono ?_
 rintro en w' ⟨rfl, rfl⟩
 refine bk hK fun hHeldu1 => ?_
 clear hK K hHeldu0
 try simp only [Act.put]
 refine wpAnyH_take (i := 5) (v := ?uv5) rfl (by kernel_rfl) (by kernel_rfl) (by kernel_rfl) (fun _ _ _ h => panic_put (P := Tryz.prog) (fn := Tryz.f29) (R := (NumIs sg1 (cutN p Q (up != sg1)) (e1 - e2 - ((s : Nat) : Int) - 1 + ((blen Q - p : Nat) : Int)) w)) h) (Or.inl ⟨by rfl, ?uy5⟩) (by assumption) ?_
 case uy5 => (intro w hSw; (try dsimp only at hSw); go_simp; (try simp only [w1, w2, w3])); try with_reducible rfl
 change wpAnyH _ _ _ _ _ _ _ (Act.put _ (some 22) _) _
 simp only [Act.put, List.setIfInBounds_toArray, List.set_cons_zero, List.set_cons_succ]
 refine rdy 8 fun K hK => ?_
 go_simp
 refine (rbits_any (h1.heap32 (by rfl)) (by omega)).mono ?_
 rintro en w' ⟨rfl, rfl⟩
 refine bk hK fun hHeldu2 => ?_
 clear hK K hHeldu1
 try simp only [Act.put]
 refine wpAnyH_take (i := 9) (v := ?uv9) rfl (by kernel_rfl) (by kernel_rfl) (by kernel_rfl) (fun _ _ _ h => panic_put (P := Tryz.prog) (fn := Tryz.f29) (R := (NumIs sg1 (cutN p Q (up != sg1)) (e1 - e2 - ((s : Nat) : Int) - 1 + ((blen Q - p : Nat) : Int)) w)) h) (Or.inl ⟨by rfl, ?uy9⟩) (by assumption) ?_
 case uy9 => (intro w hSw; (try dsimp only at hSw); go_simp; (try simp only [w1, w2, w3])); try with_reducible rfl
 change wpAnyH _ _ _ _ _ _ _ (Act.put _ (some 26) _) _
 simp only [Act.put, List.setIfInBounds_toArray, List.set_cons_zero, List.set_cons_succ]
 refine tl 10 ?_
 refine tl 11 ?_
 refine wpAnyH_done (by kernel_rfl) ?_ _
 replace h1 := h1.drew
 replace h2 := h2.drew
 replace r := r.drew'
 have BD : Below w.heap.size w (World.drew (((w.alloc (.cells #[.bool s1, .slice A1 n1 c1, .int .i64 e1] 58)).alloc (.cells #[.bool s2, .slice A2 n2 c2, .int .i64 e2] 58)).alloc (.cells #[.bool false, .slice none 0 0, .int .i64 0] 58))) := below_drewN BB 1
 clear a10 a11 a12 a20 a21 a22 BB w1 w2 w3
 obtain ⟨a10, a11, a12, a20, a21, a22⟩ := hHeldu2
 generalize World.drew (((w.alloc (.cells #[.bool s1, .slice A1 n1 c1, .int .i64 e1] 58)).alloc (.cells #[.bool s2, .slice A2 n2 c2, .int .i64 e2] 58)).alloc (.cells #[.bool false, .slice none 0 0, .int .i64 0] 58)) = wd at *
 have BB := BD
 clear BD
 go_wp2_with fail
 clear hs f00
 refine rgn (fun w' => w'.cell? ⟨w.heap.size, 0, none⟩ = some (.bool s1) ∧ w'.cell? ⟨w.heap.size, 1, none⟩ = some (.slice A1 n1 c1) ∧ w'.cell? ⟨w.heap.size, 2, none⟩ = some (.int .i64 e1) ∧ w'.cell? ⟨(w.heap.size + 1), 0, none⟩ = some (.bool s2) ∧ w'.cell? ⟨(w.heap.size + 1), 1, none⟩ = some (.slice A2 n2 c2) ∧ w'.cell? ⟨(w.heap.size + 1), 2, none⟩ = some (.int .i64 e2)) fun hHeldv0 => ?_
 refine tl 0 ?_
 refine tl 1 ?_
 refine tl 2 ?_
 refine tl 4 ?_
 refine tl 5 ?_
 refine rdy 3 fun K hK => ?_
 go_simp
 refine (rshl_any (s := s) (h1.heap32 (by rfl)) (by omega) (by omega)).mono ?_
 rintro en w' ⟨A3, n3, c3, rfl, h3, b⟩
 have n3l : n3 ≤ 600 := dg_small h3 HSM.out
 clear h1
 replace BB := below_next BB BB.size b (by rfl) (by rfl) (by rfl) (by rfl)
 have G := mv b (by rfl) <| And.intro a10 <| And.intro a11 <| And.intro a12 <| And.intro a20 <| And.intro a21 <| And.intro a22 <| And.intro h2 <| r
 clear b a10 a11 a12 a20 a21 a22 h2 r
 obtain ⟨a10, a11, a12, a20, a21, a22, h2, r⟩ := G
 replace h3 := Dg.heap32 h3 (by rfl)
 refine bk hK fun hHeldv1 => ?_
 clear hK K hHeldv0
 try simp only [Act.put]
 refine rdy 6 fun K hK => ?_
 go_simp
 refine (rdiv_any (h3.heap32 (by rfl)) (h2.heap32 (by rfl)) (by omega) (by omega) (Nat.pos_of_ne_zero HY.out)).mono ?_
 rintro en w' ⟨A4, n4, c4, A5, n5, c5, rfl, h4, h5, b⟩
 have n4l : n4 ≤ 599 := dg_small h4 HF.out
 clear h3 h2
 replace BB := below_next BB BB.size b (by rfl) (by rfl) (by rfl) (by rfl)
 have G := mv b (by rfl) <| And.intro a10 <| And.intro a11 <| And.intro a12 <| And.intro a20 <| And.intro a21 <| And.intro a22 <| r
 clear b a10 a11 a12 a20 a21 a22 r
 obtain ⟨a10, a11, a12, a20, a21, a22, r⟩ := G
 refine bk hK fun hHeldv2 => ?_
 clear hK K hHeldv1
 try simp only [Act.put]
 refine tl 7 ?_
 refine tl 8 ?_
 refine tl 9 ?_
 refine tl 10 ?_
 refine tl 11 ?_
 refine wpAnyH_done (by kernel_rfl) ?_ _
 have hl5 := Rd.len h5
 have hz5 : n5 = 0 ↔ x * 2 ^ s % y = 0 := by rw [← hl5]; exact dig_len_zero H_two
 have d5 : decide (0 < n5) = false := decide_eq_false (by have h := hz5.2 HR.out; omega)
 have cap5 := Rd.cap h5
 have max5 := Rd.max h5
 clear hl5 hz5 HR
 clear h5
 try clear hHeldv2
 go_wp2_with fail
 refine (rshl_any (s := 1) (h4.heap32 (by rfl)) (by omega) (by omega)).mono ?_
 rintro en w6 ⟨A6, n6, c6, rfl, h6, b⟩
 clear h4
 replace BB := below_next BB BB.size b (by rfl) (by rfl) (by rfl) (by rfl)
 have G := mv b (by rfl) <| And.intro a10 <| And.intro a11 <| And.intro a12 <| And.intro a20 <| And.intro a21 <| And.intro a22 <| r
 clear b a10 a11 a12 a20 a21 a22 r
 obtain ⟨a10, a11, a12, a20, a21, a22, r⟩ := G
 rw [HQD.out] at h6
 have w4 : IntKind.i64.wrap (e1 - e2) = e1 - e2 := IntWalk.i64_in _ (by omega)
 have w5 : IntKind.i64.wrap (e1 - e2 - (s : Int)) = e1 - e2 - (s : Int) := IntWalk.i64_in _ (by omega)
 have w6' : IntKind.i64.wrap (e1 - e2 - (s : Int) - 1) = e1 - e2 - (s : Int) - 1 := IntWalk.i64_in _ (by omega)
 go_wp2_with fail
 try rw [hsg2]
 refine (rcut_any (p := p) (s := sg1) (e := e1 - e2 - (s : Int) - 1) h6 HQ.out hQb (by omega) (by omega)).mono ?_
 rintro en w8 ⟨A8, n8, c8, rfl, h8, b⟩
 clear h6
 replace BB := bnx BB b
 have G := mv b rfl (J7 a10 a11 a12 a20 a21 a22 r)
 clear b a10 a11 a12 a20 a21 a22 r
 obtain ⟨a10, a11, a12, a20, a21, a22, r⟩ := G
 generalize cutN p Q (up != sg1) = y8 at *
 generalize e1 - e2 - (s : Int) - 1 + ((blen Q - p : Nat) : Int) = e8 at *
 obtain ⟨f0, f1, f2⟩ := r.open
 obtain ⟨z0, z1, z2⟩ := r.held
 go_wp2
 have qq := r.put sg1 A8 n8 c8 e8
 have hN := h8.put3 r (.bool sg1) (.slice A8 n8 c8) (.int .i64 e8)
 have HB3 := below_put3 (g := w.heap.size + 2) BB (by omega) (.bool sg1) (.slice A8 n8 c8) (.int .i64 e8)
 obtain ⟨z0, z1, z2⟩ := qq.held
 exact bodyPost_ret (v := .agg #[.bool sg1, .slice A8 n8 c8, .int .i64 e8]) (by simp [results, Tryz.results29, go_sem, z0, z1, z2]) rfl ⟨_, _, _, rfl, hN, HB3⟩

theorem rparted_left {w : World} {x y p : Nat} {up : Bool} {A1 : Option Addr} {n1 c1 : Nat} {s1 : Bool} {e1 : Int} {A2 : Option Addr} {n2 c2 : Nat} {s2 : Bool} {e2 : Int} (h1 : Dg w A1 n1 c1 x) (h2 : Dg w A2 n2 c2 y) (hx : x ≠ 0) (hy : y ≠ 0) (bx : blen x ≤ 4096) (hby : blen y ≤ 4096) (hn1 : n1 ≤ 600) (hn2 : n2 ≤ 600) (hp : p ≤ 1000) (r1 : -1048576 ≤ e1) (r2 : e1 ≤ 1048576) (r3 : -1048576 ≤ e2) (r4 : e2 ≤ 1048576) (hr : ¬ x * 2 ^ moreBits p x y % y = 0) :
  Calls Tryz.prog 29 #[.agg #[.bool s1, .slice A1 n1 c1, .int .i64 e1], .agg #[.bool s2, .slice A2 n2 c2, .int .i64 e2], .int .i64 (p : Int), .bool up] w (NumIs (s1 != s2) (cutN p (stickyQ (moreBits p x y) x y) (up != (s1 != s2))) (e1 - e2 - ((moreBits p x y : Nat) : Int) - 1 + ((blen (stickyQ (moreBits p x y) x y) - p : Nat) : Int)) w) := by
 have hlen := Rd.len h1
 have hz : n1 ≠ 0 := fun h => hx ((dig_len_zero H_two).1 (by rw [hlen]; exact h))
 have f00 : ((n1 : Int) == 0) = false := by simp [hz]
 have hcap := Rd.cap h1
 have hmax := Rd.max h1
 obtain ⟨hS, hQb, hQ, hF⟩ := sticky_fit bx hby hp
 have hs : max (0 : Int) ((p : Int) + 3 + (blen y : Int) - (blen x : Int)) = ((moreBits p x y : Nat) : Int) := by unfold moreBits; omega
 have hs6 : moreBits p x y ≤ 7000 := by unfold moreBits; omega
 generalize moreBits p x y = s at *
 obtain ⟨Q, hQd⟩ : ∃ Q, stickyQ s x y = Q := ⟨_, rfl⟩
 rw [hQd] at hQ hQb ⊢
 unfold stickyQ at hQd
 have HQD : Hid (x * 2 ^ s / y * 2 ^ 1 + 1 = Q) := Lib.hid (by rw [← hQd, if_neg hr, Nat.pow_one]; omega)
 have HQ := Lib.hid hQ
 have HSM := Lib.hid hS
 have HF := Lib.hid hF
 have HY := Lib.hid hy
 have HR := Lib.hid hr
 clear hlen hz hx hy hQ hS hQd hF hr
 obtain ⟨sg1, hsg⟩ : ∃ t, (s1 != s2) = t := ⟨_, rfl⟩
 rw [hsg]
 have hsg2 : (!(s1 == s2)) = sg1 := hsg
 clear hsg
 have w1 : IntKind.i64.wrap ((p : Int) + 3) = (p : Int) + 3 := IntWalk.i64_in _ (by omega)
 have w2 : IntKind.i64.wrap ((p : Int) + 3 + (blen y : Int)) = (p : Int) + 3 + (blen y : Int) := IntWalk.i64_in _ (by omega)
 have w3 : IntKind.i64.wrap ((p : Int) + 3 + (blen y : Int) - (blen x : Int)) = (p : Int) + 3 + (blen y : Int) - (blen x : Int) := IntWalk.i64_in _ (by omega)
 have BB := three_below w (.cells #[.bool s1, .slice A1 n1 c1, .int .i64 e1] 58) (.cells #[.bool s2, .slice A2 n2 c2, .int .i64 e2] 58) (.cells #[.bool false, .slice none 0 0, .int .i64 0] 58)
 obtain ⟨xa, xb, r⟩ := dbx_start w (s1 := s1) (A1 := A1) (n1 := n1) (c1 := c1) (e1 := e1) (s2 := s2) (A2 := A2) (n2 := n2) (c2 := c2) (e2 := e2)
 obtain ⟨a10, a11, a12⟩ := xa.held
 obtain ⟨a20, a21, a22⟩ := xb.held
 clear xa xb
 have G := mv BB rfl <| And.intro h1 <| h2
 clear h1 h2
 obtain ⟨h1, h2⟩ := G
 have ne1 : ¬ w.heap.size + 2 = w.heap.size := by omega
 have ne2 : ¬ w.heap.size = w.heap.size + 2 := by omega
 have ne3 : ¬ w.heap.size + 2 = w.heap.size + 1 := by omega
 have ne4 : ¬ w.heap.size + 1 = w.heap.size + 2 := by omega
 go_enter Tryz.func29, Tryz.ntmps29
 go_wp2_with fail
 refine rgn (fun w' => w'.cell? ⟨w.heap.size, 0, none⟩ = some (.bool s1) ∧ w'.cell? ⟨w.heap.size, 1, none⟩ = some (.slice A1 n1 c1) ∧ w'.cell? ⟨w.heap.size, 2, none⟩ = some (.int .i64 e1) ∧ w'.cell? ⟨(w.heap.size + 1), 0, none⟩ = some (.bool s2) ∧ w'.cell? ⟨(w.heap.size + 1), 1, none⟩ = some (.slice A2 n2 c2) ∧ w'.cell? ⟨(w.heap.size + 1), 2, none⟩ = some (.int .i64 e2)) fun hHeldu0 => ?_
 refine tl 0 ?_
 refine wpAnyH_take (i := 1) (v := ?uv1) rfl (by kernel_rfl) (by kernel_rfl) (by kernel_rfl) (fun _ _ _ h => panic_put (P := Tryz.prog) (fn := Tryz.f29) (R := (NumIs sg1 (cutN p Q (up != sg1)) (e1 - e2 - ((s : Nat) : Int) - 1 + ((blen Q - p : Nat) : Int)) w)) h) (Or.inl ⟨by rfl, ?uy1⟩) (by assumption) ?_
 case uy1 => (intro w hSw; (try dsimp only at hSw); go_simp; (try simp only [w1, w2, w3])); try with_reducible rfl
 change wpAnyH _ _ _ _ _ _ _ (Act.put _ (some 18) _) _
 simp only [Act.put, List.setIfInBounds_toArray, List.set_cons_zero, List.set_cons_succ]
 refine tl 2 ?_
 refine tl 3 ?_
 refine tl 6 ?_
 refine tl 7 ?_
 refine rdy 4 fun K hK => ?_
 go_simp
 refine (rbits_any (h2.heap32 (by rfl)) (by omega)).mono ?_
 rintro en w' ⟨rfl, rfl⟩
 refine bk hK fun hHeldu1 => ?_
 clear hK K hHeldu0
 try simp only [Act.put]
 refine wpAnyH_take (i := 5) (v := ?uv5) rfl (by kernel_rfl) (by kernel_rfl) (by kernel_rfl) (fun _ _ _ h => panic_put (P := Tryz.prog) (fn := Tryz.f29) (R := (NumIs sg1 (cutN p Q (up != sg1)) (e1 - e2 - ((s : Nat) : Int) - 1 + ((blen Q - p : Nat) : Int)) w)) h) (Or.inl ⟨by rfl, ?uy5⟩) (by assumption) ?_
 case uy5 => (intro w hSw; (try dsimp only at hSw); go_simp; (try simp only [w1, w2, w3])); try with_reducible rfl
 change wpAnyH _ _ _ _ _ _ _ (Act.put _ (some 22) _) _
 simp only [Act.put, List.setIfInBounds_toArray, List.set_cons_zero, List.set_cons_succ]
 refine rdy 8 fun K hK => ?_
 go_simp
 refine (rbits_any (h1.heap32 (by rfl)) (by omega)).mono ?_
 rintro en w' ⟨rfl, rfl⟩
 refine bk hK fun hHeldu2 => ?_
 clear hK K hHeldu1
 try simp only [Act.put]
 refine wpAnyH_take (i := 9) (v := ?uv9) rfl (by kernel_rfl) (by kernel_rfl) (by kernel_rfl) (fun _ _ _ h => panic_put (P := Tryz.prog) (fn := Tryz.f29) (R := (NumIs sg1 (cutN p Q (up != sg1)) (e1 - e2 - ((s : Nat) : Int) - 1 + ((blen Q - p : Nat) : Int)) w)) h) (Or.inl ⟨by rfl, ?uy9⟩) (by assumption) ?_
 case uy9 => (intro w hSw; (try dsimp only at hSw); go_simp; (try simp only [w1, w2, w3])); try with_reducible rfl
 change wpAnyH _ _ _ _ _ _ _ (Act.put _ (some 26) _) _
 simp only [Act.put, List.setIfInBounds_toArray, List.set_cons_zero, List.set_cons_succ]
 refine tl 10 ?_
 refine tl 11 ?_
 refine wpAnyH_done (by kernel_rfl) ?_ _
 replace h1 := h1.drew
 replace h2 := h2.drew
 replace r := r.drew'
 have BD : Below w.heap.size w (World.drew (((w.alloc (.cells #[.bool s1, .slice A1 n1 c1, .int .i64 e1] 58)).alloc (.cells #[.bool s2, .slice A2 n2 c2, .int .i64 e2] 58)).alloc (.cells #[.bool false, .slice none 0 0, .int .i64 0] 58))) := below_drewN BB 1
 clear a10 a11 a12 a20 a21 a22 BB w1 w2 w3
 obtain ⟨a10, a11, a12, a20, a21, a22⟩ := hHeldu2
 generalize World.drew (((w.alloc (.cells #[.bool s1, .slice A1 n1 c1, .int .i64 e1] 58)).alloc (.cells #[.bool s2, .slice A2 n2 c2, .int .i64 e2] 58)).alloc (.cells #[.bool false, .slice none 0 0, .int .i64 0] 58)) = wd at *
 have BB := BD
 clear BD
 go_wp2_with fail
 clear hs f00
 refine rgn (fun w' => w'.cell? ⟨w.heap.size, 0, none⟩ = some (.bool s1) ∧ w'.cell? ⟨w.heap.size, 1, none⟩ = some (.slice A1 n1 c1) ∧ w'.cell? ⟨w.heap.size, 2, none⟩ = some (.int .i64 e1) ∧ w'.cell? ⟨(w.heap.size + 1), 0, none⟩ = some (.bool s2) ∧ w'.cell? ⟨(w.heap.size + 1), 1, none⟩ = some (.slice A2 n2 c2) ∧ w'.cell? ⟨(w.heap.size + 1), 2, none⟩ = some (.int .i64 e2)) fun hHeldv0 => ?_
 refine tl 0 ?_
 refine tl 1 ?_
 refine tl 2 ?_
 refine tl 4 ?_
 refine tl 5 ?_
 refine rdy 3 fun K hK => ?_
 go_simp
 refine (rshl_any (s := s) (h1.heap32 (by rfl)) (by omega) (by omega)).mono ?_
 rintro en w' ⟨A3, n3, c3, rfl, h3, b⟩
 have n3l : n3 ≤ 600 := dg_small h3 HSM.out
 clear h1
 replace BB := below_next BB BB.size b (by rfl) (by rfl) (by rfl) (by rfl)
 have G := mv b (by rfl) <| And.intro a10 <| And.intro a11 <| And.intro a12 <| And.intro a20 <| And.intro a21 <| And.intro a22 <| And.intro h2 <| r
 clear b a10 a11 a12 a20 a21 a22 h2 r
 obtain ⟨a10, a11, a12, a20, a21, a22, h2, r⟩ := G
 replace h3 := Dg.heap32 h3 (by rfl)
 refine bk hK fun hHeldv1 => ?_
 clear hK K hHeldv0
 try simp only [Act.put]
 refine rdy 6 fun K hK => ?_
 go_simp
 refine (rdiv_any (h3.heap32 (by rfl)) (h2.heap32 (by rfl)) (by omega) (by omega) (Nat.pos_of_ne_zero HY.out)).mono ?_
 rintro en w' ⟨A4, n4, c4, A5, n5, c5, rfl, h4, h5, b⟩
 have n4l : n4 ≤ 599 := dg_small h4 HF.out
 clear h3 h2
 replace BB := below_next BB BB.size b (by rfl) (by rfl) (by rfl) (by rfl)
 have G := mv b (by rfl) <| And.intro a10 <| And.intro a11 <| And.intro a12 <| And.intro a20 <| And.intro a21 <| And.intro a22 <| r
 clear b a10 a11 a12 a20 a21 a22 r
 obtain ⟨a10, a11, a12, a20, a21, a22, r⟩ := G
 refine bk hK fun hHeldv2 => ?_
 clear hK K hHeldv1
 try simp only [Act.put]
 refine tl 7 ?_
 refine tl 8 ?_
 refine tl 9 ?_
 refine tl 10 ?_
 refine tl 11 ?_
 refine wpAnyH_done (by kernel_rfl) ?_ _
 have hl5 := Rd.len h5
 have hz5 : n5 = 0 ↔ x * 2 ^ s % y = 0 := by rw [← hl5]; exact dig_len_zero H_two
 have d5 : decide (0 < n5) = true := decide_eq_true (by have h := mt hz5.1 HR.out; omega)
 have cap5 := Rd.cap h5
 have max5 := Rd.max h5
 clear hl5 hz5 HR
 clear h5
 try clear hHeldv2
 go_wp2_with fail
 refine (rshl_any (s := 1) (h4.heap32 (by rfl)) (by omega) (by omega)).mono ?_
 rintro en w6 ⟨A6, n6, c6, rfl, h6, b⟩
 clear h4
 replace BB := below_next BB BB.size b (by rfl) (by rfl) (by rfl) (by rfl)
 have G := mv b (by rfl) <| And.intro a10 <| And.intro a11 <| And.intro a12 <| And.intro a20 <| And.intro a21 <| And.intro a22 <| r
 clear b a10 a11 a12 a20 a21 a22 r
 obtain ⟨a10, a11, a12, a20, a21, a22, r⟩ := G
 have n6l : n6 ≤ 10000 := by
  have e1 := Rd.len h6
  have := dg_small h6 (show x * 2 ^ s / y * 2 ^ 1 < Go.Proofs.YtdhdebapjlcjdaaGreatDoor.H ^ 600 by have := HQ.out; rw [← HQD.out] at this; omega)
  omega
 go_wp2_with fail
 have hone := dg_one w6
 have b := below_alloc w6 (.cells #[.int .u32 1] 59)
 replace BB := bnx BB b
 have G := mv b rfl (J8 a10 a11 a12 a20 a21 a22 r h6)
 clear b a10 a11 a12 a20 a21 a22 r h6
 obtain ⟨a10, a11, a12, a20, a21, a22, r, h6⟩ := G
 refine (radd_any h6 hone (by omega) (by omega)).mono ?_
 rintro en w7 ⟨A7, n7, c7, rfl, h7, b⟩
 clear hone h6
 replace BB := bnx BB b
 have G := mv b rfl (J7 a10 a11 a12 a20 a21 a22 r)
 clear b a10 a11 a12 a20 a21 a22 r
 obtain ⟨a10, a11, a12, a20, a21, a22, r⟩ := G
 rw [HQD.out] at h7
 have w4 : IntKind.i64.wrap (e1 - e2) = e1 - e2 := IntWalk.i64_in _ (by omega)
 have w5 : IntKind.i64.wrap (e1 - e2 - (s : Int)) = e1 - e2 - (s : Int) := IntWalk.i64_in _ (by omega)
 have w6' : IntKind.i64.wrap (e1 - e2 - (s : Int) - 1) = e1 - e2 - (s : Int) - 1 := IntWalk.i64_in _ (by omega)
 go_wp2_with fail
 try rw [hsg2]
 refine (rcut_any (p := p) (s := sg1) (e := e1 - e2 - (s : Int) - 1) h7 HQ.out hQb (by omega) (by omega)).mono ?_
 rintro en w8 ⟨A8, n8, c8, rfl, h8, b⟩
 clear h7
 replace BB := bnx BB b
 have G := mv b rfl (J7 a10 a11 a12 a20 a21 a22 r)
 clear b a10 a11 a12 a20 a21 a22 r
 obtain ⟨a10, a11, a12, a20, a21, a22, r⟩ := G
 generalize cutN p Q (up != sg1) = y8 at *
 generalize e1 - e2 - (s : Int) - 1 + ((blen Q - p : Nat) : Int) = e8 at *
 obtain ⟨f0, f1, f2⟩ := r.open
 obtain ⟨z0, z1, z2⟩ := r.held
 go_wp2
 have qq := r.put sg1 A8 n8 c8 e8
 have hN := h8.put3 r (.bool sg1) (.slice A8 n8 c8) (.int .i64 e8)
 have HB3 := below_put3 (g := w.heap.size + 2) BB (by omega) (.bool sg1) (.slice A8 n8 c8) (.int .i64 e8)
 obtain ⟨z0, z1, z2⟩ := qq.held
 exact bodyPost_ret (v := .agg #[.bool sg1, .slice A8 n8 c8, .int .i64 e8]) (by simp [results, Tryz.results29, go_sem, z0, z1, z2]) rfl ⟨_, _, _, rfl, hN, HB3⟩

end Go.Proofs.YtdhdebapjlcjdaaGreatDoor

namespace Go.Proofs.YtdhdebapjlcjdaaGreatDoor
open Go.RowKit

theorem cutN_fits {p x : Nat} {u : Bool} (hp : 1 ≤ p) : Fits p (cutN p x u) := unfits (j := blen x - p) (rd_fits hp x u)
theorem quot_zero_told {p y : Nat} {s1 s2 up : Bool} {e1 e2 k : Int} {s s' : Bool} {e : Int} {m' : Nat} {e' : Int} (h : Nm s 0 e k s' m' e') : QuTold s1 0 e1 s2 y e2 p up k s' m' e' := by
 obtain ⟨rfl, rfl, rfl, rfl⟩ := nm_fun h (.inl ⟨rfl, rfl, rfl, rfl, rfl⟩)
 unfold QuTold
 have e : cutR p (0 * 2 ^ kUp p 0 y / (y * 2 ^ kDn p 0 y)) (!decide (0 * 2 ^ kUp p 0 y % (y * 2 ^ kDn p 0 y) = 0)) (up != (s1 != s2)) = 0 := by
  unfold cutR
  simp
 rw [e]
 exact .inl ⟨rfl, rfl, rfl, rfl, rfl⟩
theorem dg_nil0 (w : World) : Dg w none 0 0 0 := by unfold Dg; rw [dig_zero]; exact Rd.nil _ _ _ _ (by omega)
theorem rparted_nil {w : World} {p : Nat} {up : Bool} {A1 A2 : Option Addr} {n2 c1 c2 : Nat} {s1 s2 : Bool} {e1 e2 : Int} :
  Calls Tryz.prog 29 #[.agg #[.bool s1, .slice A1 0 c1, .int .i64 e1], .agg #[.bool s2, .slice A2 n2 c2, .int .i64 e2], .int .i64 (p : Int), .bool up] w (NumIs false 0 0 w) := by
 have BB := three_below w (.cells #[.bool s1, .slice A1 0 c1, .int .i64 e1] 58) (.cells #[.bool s2, .slice A2 n2 c2, .int .i64 e2] 58) (.cells #[.bool false, .slice none 0 0, .int .i64 0] 58)
 obtain ⟨xa, xb, r⟩ := dbx_start w (s1 := s1) (A1 := A1) (n1 := 0) (c1 := c1) (e1 := e1) (s2 := s2) (A2 := A2) (n2 := n2) (c2 := c2) (e2 := e2)
 obtain ⟨a10, a11, a12⟩ := xa.held
 clear xa xb
 go_enter Tryz.func29, Tryz.ntmps29
 obtain ⟨f0, f1, f2⟩ := r.open
 obtain ⟨z0, z1, z2⟩ := r.held
 go_wp2
 exact bodyPost_ret (v := .agg #[.bool false, .slice none 0 0, .int .i64 0]) (by simp [results, Tryz.results29, go_sem]) rfl ⟨_, _, _, rfl, dg_nil0 _, BB⟩

def PartOf (s1 : Bool) (x : Nat) (e1 : Int) (s2 : Bool) (y : Nat) (e2 : Int) (p : Nat) (up : Bool) (s5 : Bool) (y5 : Nat) (e5 : Int) : Prop :=
 (Fits 2000 y5 ∧ y5 < Go.Proofs.YtdhdebapjlcjdaaGreatDoor.W ^ 64 ∧ -10000000 ≤ e5 ∧ e5 ≤ 10000000) ∧ ∀ k s m e, Nm s5 y5 e5 k s m e → QuTold s1 x e1 s2 y e2 p up k s m e
theorem rparted_any {w : World} {x y p : Nat} {up : Bool} {A1 : Option Addr} {n1 c1 : Nat} {s1 : Bool} {e1 : Int} {A2 : Option Addr} {n2 c2 : Nat} {s2 : Bool} {e2 : Int} (h1 : Dg w A1 n1 c1 x) (h2 : Dg w A2 n2 c2 y) (hy : y ≠ 0) (bx : blen x ≤ 4096) (hby : blen y ≤ 4096) (hn1 : n1 ≤ 600) (hn2 : n2 ≤ 600) (hp1 : 1 ≤ p) (hp : p ≤ 1000) (r1 : -1048576 ≤ e1) (r2 : e1 ≤ 1048576) (r3 : -1048576 ≤ e2) (r4 : e2 ≤ 1048576) :
  Calls Tryz.prog 29 #[.agg #[.bool s1, .slice A1 n1 c1, .int .i64 e1], .agg #[.bool s2, .slice A2 n2 c2, .int .i64 e2], .int .i64 (p : Int), .bool up] w fun en w' => ∃ s5 y5 e5, NumIs s5 y5 e5 w en w' ∧ PartOf s1 x e1 s2 y e2 p up s5 y5 e5 := by
 by_cases hx : x = 0
 ·subst hx
  have hl := Rd.len h1
  obtain rfl : n1 = 0 := by rw [← hl]; exact (dig_len_zero H_two).2 rfl
  exact rparted_nil.mono fun _ _ h => ⟨_, _, _, h, ⟨fits_zero 2000, Nat.pow_pos (by rw [W_eq]; omega), by omega, by omega⟩, fun _ _ _ _ h => quot_zero_told h⟩
 ·have hP : PartOf s1 x e1 s2 y e2 p up (s1 != s2) (cutN p (stickyQ (moreBits p x y) x y) (up != (s1 != s2))) (e1 - e2 - ((moreBits p x y : Nat) : Int) - 1 + ((blen (stickyQ (moreBits p x y) x y) - p : Nat) : Int)) := by
   have hb := (sticky_fit (p := p) (x := x) (y := y) bx hby hp).2.1
   have hm : moreBits p x y ≤ 7000 := by unfold moreBits; omega
   exact ⟨⟨fits_mono (cutN_fits hp1) (by omega), cutN_lt (by omega), by omega, by omega⟩, fun _ _ _ _ h => quot_same hx hy hp1 (by omega) bx hby r1 r2 r3 r4 h⟩
  by_cases hr : x * 2 ^ moreBits p x y % y = 0
  ·exact (rparted_even h1 h2 hx hy bx hby hn1 hn2 hp r1 r2 r3 r4 hr).mono fun _ _ h => ⟨_, _, _, h, hP⟩
  ·exact (rparted_left h1 h2 hx hy bx hby hn1 hn2 hp r1 r2 r3 r4 hr).mono fun _ _ h => ⟨_, _, _, h, hP⟩

end Go.Proofs.YtdhdebapjlcjdaaGreatDoor
