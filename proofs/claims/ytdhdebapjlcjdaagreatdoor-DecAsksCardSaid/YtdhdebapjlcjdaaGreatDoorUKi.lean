/-
 Contract of dec's Lit, at this translation. Condition: the two errors of strconv are interfaces, or nil; the table of math/bits reads as its text lays it.
-/
import Derived.Test.YtdhdebapjlcjdaaGreatDoorUVl
import Derived.Test.YtdhdebapjlcjdaaGreatDoorURt
import Derived.Test.YtdhdebapjlcjdaaGreatDoorUIm
set_option maxHeartbeats 8000000
set_option maxRecDepth 100000
namespace Go.Proofs.YtdhdebapjlcjdaaGreatDoor
open Go.RowKit

/-- a Dyad's parts as they are read -/
def rwOf (s : Bool) (m : Nat) (e : Int) : Rw := ⟨s, dig W m, e, (can_dig W_two m).1⟩
theorem blen_up (x k : Nat) : blen (x * 2 ^ k) ≤ blen x + k := by
 refine (blen_le _ _).2 ?_
 rw [Nat.pow_add]
 exact Nat.mul_lt_mul_of_pos_right ((blen_le x _).1 (Nat.le_refl _)) (Nat.pow_pos (by omega))
theorem blen_mono {x y : Nat} (h : x ≤ y) : blen x ≤ blen y := (blen_le _ _).2 (Nat.lt_of_le_of_lt h ((blen_le y _).1 (Nat.le_refl _)))
theorem quot_good {s1 : Bool} {x : Nat} {e1 : Int} {s2 : Bool} {y : Nat} {e2 : Int} {p : Nat} {up : Bool} {k : Int} {s : Bool} {m : Nat} {e : Int} (h : QuTold s1 x e1 s2 y e2 p up k s m e) (hp : p ≤ 2000) (bx : blen x ≤ 4096) (hb : blen y ≤ 4096) (h1 : -10000 ≤ e1) (h2 : e1 ≤ 10000) (h3 : -10000 ≤ e2) (h4 : e2 ≤ 10000) : k = 0 := by
 unfold QuTold at h
 have hq : blen (x * 2 ^ kUp p x y / (y * 2 ^ kDn p x y)) ≤ 20000 := by
  refine Nat.le_trans (blen_mono (Nat.div_le_self _ _)) (Nat.le_trans (blen_up _ _) ?_)
  unfold kUp
  omega
 refine nm_good h ?_ (by omega) (by omega)
 refine Nat.le_trans ((blen_le _ (64 * 64)).2 ?_) (by decide : 64 * 64 ≤ 4096)
 have := (cutR_lt (p := p) (x := x * 2 ^ kUp p x y / (y * 2 ^ kDn p x y)) (rest := !decide (x * 2 ^ kUp p x y % (y * 2 ^ kDn p x y) = 0)) (u := up != (s1 != s2)) hp).2
 rw [W64_pow] at this
 exact this
/-- the exponent of the one form -/
theorem nm_exp {s : Bool} {m : Nat} {e : Int} {s' : Bool} {m' : Nat} {e' : Int} (h : Nm s m e 0 s' m' e') : (m = 0 ∧ m' = 0 ∧ e' = 0) ∨ (m ≠ 0 ∧ m' ≠ 0 ∧ e ≤ e' ∧ e' ≤ e + blen m) := by
 rcases h with ⟨h1, _, _, h2, h3⟩ | ⟨k, q, hm, h⟩
 ·exact .inl ⟨h1, h2, h3⟩
 ·have hm0 : m ≠ 0 := by
   rw [hm]
   exact Nat.mul_ne_zero (Nat.pos_iff_ne_zero.1 (Nat.pow_pos (by omega))) (by omega)
  have hk : k ≤ blen m := by
   rcases Nat.lt_or_ge (blen m) k with hlt | hge
   ·exfalso
    have h1 := (blen_le m _).1 (Nat.le_refl _)
    have h2 : 2 ^ blen m ≤ 2 ^ k := Nat.pow_le_pow_right (by omega) (Nat.le_of_lt hlt)
    have h3 : 2 ^ k * 1 ≤ 2 ^ k * (2 * q + 1) := Nat.mul_le_mul_left _ (by omega)
    omega
   ·exact hge
  rcases h with ⟨_, h, _⟩ | ⟨_, _, h, _⟩ | ⟨_, _, _, _, h1, h2⟩
  ·omega
  ·omega
  ·exact .inr ⟨hm0, by omega, by omega, by omega⟩
theorem lit1_text {w : World} {s : ByteArray} {g g2 : Nat} {p : Int} (hE : Errs w) (hT : Tab w) (hs : w.cell? ⟨g, 0, none⟩ = some (.string s)) (hp : Cel w g2 p) (ho : readD s.data.toList = none) :
  Calls Tryz.prog 19 #[.pointer (some ⟨g, 0, none⟩), .pointer (some ⟨g2, 0, none⟩)] w (Faults 6 w) := by
 have BB := below_alloc w (.cells #[.bool false, .slice none 0 0, .int .i64 0, .bool false, .slice none 0 0, .int .i64 0] 27)
 have r := Ibx.new w false none 0 0 0 false none 0 0 0
 have b := BB
 have G := mv b rfl (J4 hE hT hs hp)
 clear b hE hT hs hp
 obtain ⟨hE, hT, hs, hp⟩ := G
 go_enter Tryz.func19, Tryz.ntmps19
 have HO := Lib.hid ho
 clear ho
 go_wp2_with fail
 refine (show Calls Tryz.prog 20 #[.string s] _ (NumEnd none _) from by rw [← HO.out]; exact dread_any hE).mono ?_
 clear hE hs
 rintro en w1 ⟨rfl, b⟩
 replace BB := bnx BB b
 clear b
 go_wp2
 exact ⟨rfl, rfl, BB⟩
theorem lit1_prec {w : World} {s : ByteArray} {g g2 : Nat} {p : Int} (hE : Errs w) (hT : Tab w) (hs : w.cell? ⟨g, 0, none⟩ = some (.string s)) (hp : Cel w g2 p) {d : List UInt8} {t : Int} {s1 : Bool} {v1 : Nat} {f1 : Int} {s2 : Bool} {v2 : Nat} {f2 : Int} (ho : readD s.data.toList = some (d, t)) (k1 : Nm false (numV d * 5 ^ t.toNat) t 0 s1 v1 f1) (k2 : Nm false (5 ^ (-t).toNat) 0 0 s2 v2 f2) (hn : p < 1 ∨ 2000 < p) :
  Calls Tryz.prog 19 #[.pointer (some ⟨g, 0, none⟩), .pointer (some ⟨g2, 0, none⟩)] w (Faults 1 w) := by
 have hg2 := hp.gl
 have ne2 : g2 ≠ w.heap.size := by omega
 have BB := below_alloc w (.cells #[.bool false, .slice none 0 0, .int .i64 0, .bool false, .slice none 0 0, .int .i64 0] 27)
 have r := Ibx.new w false none 0 0 0 false none 0 0 0
 have b := BB
 have G := mv b rfl (J4 hE hT hs hp)
 clear b hE hT hs hp
 obtain ⟨hE, hT, hs, hp⟩ := G
 go_enter Tryz.func19, Tryz.ntmps19
 have HO := Lib.hid ho
 clear ho
 go_wp2_with fail
 refine (show Calls Tryz.prog 20 #[.string s] _ (NumEnd (some (d, t)) _) from by rw [← HO.out]; exact dread_any hE).mono ?_
 clear hE hs
 obtain ⟨hd, hl, t1, t2⟩ := read_some HO.out
 clear HO
 rintro en w1 ⟨rfl, b⟩
 replace BB := bnx BB b
 have G := mv b rfl (J3 hT hp r)
 clear b hT hp r
 obtain ⟨hT, hp, r⟩ := G
 have xn := Nbx.new w1 ⟨d.toArray⟩ t
 have b := below_alloc w1 (.cells #[.string ⟨d.toArray⟩, .int .i64 t] 45)
 replace BB := bnx BB b
 have G := mv b rfl (J3 hT hp r)
 clear b hT hp r
 obtain ⟨hT, hp, r⟩ := G
 obtain ⟨m0, m1⟩ := xn.held
 clear xn
 obtain ⟨X, hX⟩ : ∃ X, X = numV d * 5 ^ t.toNat := ⟨_, rfl⟩
 obtain ⟨Y, hY⟩ : ∃ Y, Y = 5 ^ (-t).toNat := ⟨_, rfl⟩
 rw [← hX] at k1
 rw [← hY] at k2
 have K1 := Lib.hid k1
 have K2 := Lib.hid k2
 clear k1 k2
 have HC : Hid (∀ W2 : World, Calls Tryz.prog 21 #[.agg #[.string ⟨d.toArray⟩, .int .i64 t]] W2 fun en w' => ∃ A n c B m e, en = .returned (.tuple #[.slice A n c, .slice B m e]) ∧ Nt w' A n c X ∧ Nt w' B m e Y ∧ Below W2.heap.size W2 w') := Lib.hid (by rw [hX, hY]; exact fun _ => dratio_any hd hl t1 t2)
 clear hX hY hd hl t1 t2
 go_wp2_with fail
 refine (HC.out _).mono ?_
 rintro en w2 ⟨A1, n1, c1, A2, n2, c2, rfl, N1, N2, b⟩
 clear HC
 replace BB := bnx BB b
 have G := mv b rfl (J5 hT hp r m0 m1)
 clear b hT hp r m0 m1
 obtain ⟨hT, hp, r, m0, m1⟩ := G
 go_wp2_with fail
 refine (dnorm_ok (s := false) (e := t) hT N1).mono ?_
 rintro en w3 ⟨k, s', A3, n3, c3, m', e', rfl, hP, N3, b⟩
 obtain ⟨rfl, rfl, rfl, rfl⟩ := nm_fun K1.out hP
 clear hP
 clear N1
 replace BB := bnx BB b
 have G := mv b rfl (J6 hT hp r m0 m1 N2)
 clear b hT hp r m0 m1 N2
 obtain ⟨hT, hp, r, m0, m1, N2⟩ := G
 go_wp2_with fail
 refine (must_ok N3).mono ?_
 rintro en w4 ⟨A4, n4, c4, rfl, N4, b⟩
 clear N3
 replace BB := bnx BB b
 have G := mv b rfl (J6 hT hp r m0 m1 N2)
 clear b hT hp r m0 m1 N2
 obtain ⟨hT, hp, r, m0, m1, N2⟩ := G
 go_wp2_with fail
 refine (dnorm_ok (s := false) (e := 0) hT N2).mono ?_
 rintro en w5 ⟨k, s2', A5, n5, c5, m2', e2', rfl, hP, N5, b⟩
 obtain ⟨rfl, rfl, rfl, rfl⟩ := nm_fun K2.out hP
 clear hP
 clear N2
 replace BB := bnx BB b
 have G := mv b rfl (J6 hT hp r m0 m1 N4)
 clear b hT hp r m0 m1 N4
 obtain ⟨hT, hp, r, m0, m1, N4⟩ := G
 go_wp2_with fail
 refine (must_ok N5).mono ?_
 rintro en w6 ⟨A6, n6, c6, rfl, N6, b⟩
 clear N5
 replace BB := bnx BB b
 have G := mv b rfl (J6 hT hp r m0 m1 N4)
 clear b hT hp r m0 m1 N4
 obtain ⟨hT, hp, r, m0, m1, N4⟩ := G
 go_wp2_with fail
 have xa := (Box.new w6 s1 A4 n4 c4 f1).alloc (.cells #[.bool s2, .slice A6 n6 c6, .int .i64 f2] 25)
 have xb := box_one w6 (.cells #[.bool s1, .slice A4 n4 c4, .int .i64 f1] 25) s2 A6 n6 c6 f2
 have b := two_below w6 (.cells #[.bool s1, .slice A4 n4 c4, .int .i64 f1] 25) (.cells #[.bool s2, .slice A6 n6 c6, .int .i64 f2] 25)
 clear m0 m1
 replace BB := bnx BB b
 have G := mv b rfl (J5 hT hp r N4 N6)
 clear b hT hp r N4 N6
 obtain ⟨hT, hp, r, N4, N6⟩ := G
 have b : Below ((w6.alloc (.cells #[.bool s1, .slice A4 n4 c4, .int .i64 f1] 25)).alloc (.cells #[.bool s2, .slice A6 n6 c6, .int .i64 f2] 25)).heap.size ((w6.alloc (.cells #[.bool s1, .slice A4 n4 c4, .int .i64 f1] 25)).alloc (.cells #[.bool s2, .slice A6 n6 c6, .int .i64 f2] 25)) (World.drew ((w6.alloc (.cells #[.bool s1, .slice A4 n4 c4, .int .i64 f1] 25)).alloc (.cells #[.bool s2, .slice A6 n6 c6, .int .i64 f2] 25))) := below_drewN (Below.refl _ _) 1
 replace BB := bnx BB b
 have G := mv b rfl (J7 hT hp r N4 N6 xa xb)
 clear b hT hp r N4 N6 xa xb
 obtain ⟨hT, hp, r, N4, N6, xa, xb⟩ := G
 skip
 refine wp_region_held_drew (S := fun w' => w'.cell? ⟨w6.heap.size, 0, none⟩ = some (.bool s1) ∧ w'.cell? ⟨w6.heap.size, 1, none⟩ = some (.slice A4 n4 c4) ∧ w'.cell? ⟨w6.heap.size, 2, none⟩ = some (.int .i64 f1) ∧ w'.cell? ⟨w6.heap.size + 1, 0, none⟩ = some (.bool s2) ∧ w'.cell? ⟨w6.heap.size + 1, 1, none⟩ = some (.slice A6 n6 c6) ∧ w'.cell? ⟨w6.heap.size + 1, 2, none⟩ = some (.int .i64 f2) ∧ w'.cell? ⟨g2, 0, none⟩ = some (.int .i64 p)) (by kernel_rfl) (by have ka := xa.held; have kb := xb.held; exact ⟨ka.1, ka.2.1, ka.2.2, kb.1, kb.2.1, kb.2.2, hp.c0⟩) (fun hHeldv0 => ?_)
 generalize World.drew ((w6.alloc (.cells #[.bool s1, .slice A4 n4 c4, .int .i64 f1] 25)).alloc (.cells #[.bool s2, .slice A6 n6 c6, .int .i64 f2] 25)) = wd at *
 refine tl 0 ?_
 refine tl 1 ?_
 refine tl 2 ?_
 refine tl 7 ?_
 refine tl 8 ?_
 refine tl 9 ?_
 refine rdy 3 fun K hK => ?_
 go_simp
 refine (rquot_no (up := false) hT N4.rd N6.rd (hn.elim .inl fun h => .inr (.inl h))).mono ?_
 rintro en w' ⟨k, s', A7, n7, c7, m', e', rfl, ⟨rfl, rfl, rfl, rfl⟩, N7, b⟩
 replace BB := below_next BB BB.size b (by rfl) (by rfl) (by rfl) (by rfl)
 have G := mv b (by rfl) <| And.intro hT <| And.intro hp <| And.intro r <| And.intro N4 <| And.intro N6 <| And.intro xa <| xb
 clear b hT hp r N4 N6 xa xb
 obtain ⟨hT, hp, r, N4, N6, xa, xb⟩ := G
 refine hK.out _ _ (by have ka := xa.held; have kb := xb.held; exact ⟨ka.1, ka.2.1, ka.2.2, kb.1, kb.2.1, kb.2.2, hp.c0⟩) (fun hHeldv1 => ?_)
 clear hK K hHeldv0
 try simp only [Act.put]
 refine tl 4 ?_
 refine tl 5 ?_
 refine rdy 6 fun K hK => ?_
 go_simp
 refine (must_bad (by decide)).mono ?_
 rintro en w9 ⟨rfl, b⟩
 exact ⟨rfl, rfl, below_next BB BB.size b (by rfl) (by rfl) (by rfl) (by rfl)⟩
theorem lit1_ok {w : World} {s : ByteArray} {g g2 : Nat} {p : Int} (hE : Errs w) (hT : Tab w) (hs : w.cell? ⟨g, 0, none⟩ = some (.string s)) (hp : Cel w g2 p) {d : List UInt8} {t : Int} {s1 : Bool} {v1 : Nat} {f1 : Int} {s2 : Bool} {v2 : Nat} {f2 : Int} {s3 : Bool} {v3 : Nat} {f3 : Int} {s4 : Bool} {v4 : Nat} {f4 : Int} {n : Nat} (ho : readD s.data.toList = some (d, t)) (k1 : Nm false (numV d * 5 ^ t.toNat) t 0 s1 v1 f1) (k2 : Nm false (5 ^ (-t).toNat) 0 0 s2 v2 f2) (hpn : p = (n : Int)) (hn1 : 1 ≤ n) (hn2 : n ≤ 2000) (hy : v2 ≠ 0) (q1 : QuTold s1 v1 f1 s2 v2 f2 n false 0 s3 v3 f3) (q2 : QuTold s1 v1 f1 s2 v2 f2 n true 0 s4 v4 f4) :
  Calls Tryz.prog 19 #[.pointer (some ⟨g, 0, none⟩), .pointer (some ⟨g2, 0, none⟩)] w (GivI ⟨rwOf s3 v3 f3, rwOf s4 v4 f4⟩ w) := by
 subst hpn
 have O1 := nm_okd k1
 have O2 := nm_okd k2
 have Q1 := Lib.hid q1
 have Q2 := Lib.hid q2
 clear q1 q2
 have hg2 := hp.gl
 have ne2 : g2 ≠ w.heap.size := by omega
 have BB := below_alloc w (.cells #[.bool false, .slice none 0 0, .int .i64 0, .bool false, .slice none 0 0, .int .i64 0] 27)
 have r := Ibx.new w false none 0 0 0 false none 0 0 0
 have b := BB
 have G := mv b rfl (J4 hE hT hs hp)
 clear b hE hT hs hp
 obtain ⟨hE, hT, hs, hp⟩ := G
 go_enter Tryz.func19, Tryz.ntmps19
 have HO := Lib.hid ho
 clear ho
 go_wp2_with fail
 refine (show Calls Tryz.prog 20 #[.string s] _ (NumEnd (some (d, t)) _) from by rw [← HO.out]; exact dread_any hE).mono ?_
 clear hE hs
 obtain ⟨hd, hl, t1, t2⟩ := read_some HO.out
 clear HO
 rintro en w1 ⟨rfl, b⟩
 replace BB := bnx BB b
 have G := mv b rfl (J3 hT hp r)
 clear b hT hp r
 obtain ⟨hT, hp, r⟩ := G
 have xn := Nbx.new w1 ⟨d.toArray⟩ t
 have b := below_alloc w1 (.cells #[.string ⟨d.toArray⟩, .int .i64 t] 45)
 replace BB := bnx BB b
 have G := mv b rfl (J3 hT hp r)
 clear b hT hp r
 obtain ⟨hT, hp, r⟩ := G
 obtain ⟨m0, m1⟩ := xn.held
 clear xn
 obtain ⟨X, hX⟩ : ∃ X, X = numV d * 5 ^ t.toNat := ⟨_, rfl⟩
 obtain ⟨Y, hY⟩ : ∃ Y, Y = 5 ^ (-t).toNat := ⟨_, rfl⟩
 rw [← hX] at k1
 rw [← hY] at k2
 have K1 := Lib.hid k1
 have K2 := Lib.hid k2
 clear k1 k2
 have HC : Hid (∀ W2 : World, Calls Tryz.prog 21 #[.agg #[.string ⟨d.toArray⟩, .int .i64 t]] W2 fun en w' => ∃ A n c B m e, en = .returned (.tuple #[.slice A n c, .slice B m e]) ∧ Nt w' A n c X ∧ Nt w' B m e Y ∧ Below W2.heap.size W2 w') := Lib.hid (by rw [hX, hY]; exact fun _ => dratio_any hd hl t1 t2)
 clear hX hY hd hl t1 t2
 go_wp2_with fail
 refine (HC.out _).mono ?_
 rintro en w2 ⟨A1, n1, c1, A2, n2, c2, rfl, N1, N2, b⟩
 clear HC
 replace BB := bnx BB b
 have G := mv b rfl (J5 hT hp r m0 m1)
 clear b hT hp r m0 m1
 obtain ⟨hT, hp, r, m0, m1⟩ := G
 go_wp2_with fail
 refine (dnorm_ok (s := false) (e := t) hT N1).mono ?_
 rintro en w3 ⟨k, s', A3, n3, c3, m', e', rfl, hP, N3, b⟩
 obtain ⟨rfl, rfl, rfl, rfl⟩ := nm_fun K1.out hP
 clear hP
 clear N1
 replace BB := bnx BB b
 have G := mv b rfl (J6 hT hp r m0 m1 N2)
 clear b hT hp r m0 m1 N2
 obtain ⟨hT, hp, r, m0, m1, N2⟩ := G
 go_wp2_with fail
 refine (must_ok N3).mono ?_
 rintro en w4 ⟨A4, n4, c4, rfl, N4, b⟩
 clear N3
 replace BB := bnx BB b
 have G := mv b rfl (J6 hT hp r m0 m1 N2)
 clear b hT hp r m0 m1 N2
 obtain ⟨hT, hp, r, m0, m1, N2⟩ := G
 go_wp2_with fail
 refine (dnorm_ok (s := false) (e := 0) hT N2).mono ?_
 rintro en w5 ⟨k, s2', A5, n5, c5, m2', e2', rfl, hP, N5, b⟩
 obtain ⟨rfl, rfl, rfl, rfl⟩ := nm_fun K2.out hP
 clear hP
 clear N2
 replace BB := bnx BB b
 have G := mv b rfl (J6 hT hp r m0 m1 N4)
 clear b hT hp r m0 m1 N4
 obtain ⟨hT, hp, r, m0, m1, N4⟩ := G
 go_wp2_with fail
 refine (must_ok N5).mono ?_
 rintro en w6 ⟨A6, n6, c6, rfl, N6, b⟩
 clear N5
 replace BB := bnx BB b
 have G := mv b rfl (J6 hT hp r m0 m1 N4)
 clear b hT hp r m0 m1 N4
 obtain ⟨hT, hp, r, m0, m1, N4⟩ := G
 have hw60 : w.heap.size < w6.heap.size := r.gl
 go_wp2_with fail
 have xa := (Box.new w6 s1 A4 n4 c4 f1).alloc (.cells #[.bool s2, .slice A6 n6 c6, .int .i64 f2] 25)
 have xb := box_one w6 (.cells #[.bool s1, .slice A4 n4 c4, .int .i64 f1] 25) s2 A6 n6 c6 f2
 have b := two_below w6 (.cells #[.bool s1, .slice A4 n4 c4, .int .i64 f1] 25) (.cells #[.bool s2, .slice A6 n6 c6, .int .i64 f2] 25)
 clear m0 m1
 replace BB := bnx BB b
 have G := mv b rfl (J5 hT hp r N4 N6)
 clear b hT hp r N4 N6
 obtain ⟨hT, hp, r, N4, N6⟩ := G
 have b : Below ((w6.alloc (.cells #[.bool s1, .slice A4 n4 c4, .int .i64 f1] 25)).alloc (.cells #[.bool s2, .slice A6 n6 c6, .int .i64 f2] 25)).heap.size ((w6.alloc (.cells #[.bool s1, .slice A4 n4 c4, .int .i64 f1] 25)).alloc (.cells #[.bool s2, .slice A6 n6 c6, .int .i64 f2] 25)) (World.drew ((w6.alloc (.cells #[.bool s1, .slice A4 n4 c4, .int .i64 f1] 25)).alloc (.cells #[.bool s2, .slice A6 n6 c6, .int .i64 f2] 25))) := below_drewN (Below.refl _ _) 1
 replace BB := bnx BB b
 have G := mv b rfl (J7 hT hp r N4 N6 xa xb)
 clear b hT hp r N4 N6 xa xb
 obtain ⟨hT, hp, r, N4, N6, xa, xb⟩ := G
 skip
 have hw6 : w.heap.size < w6.heap.size := hw60
 have nea : w6.heap.size ≠ w.heap.size := by omega
 have neb : w6.heap.size + 1 ≠ w.heap.size := by omega
 refine wp_region_held_drew (S := fun w' => w'.cell? ⟨w6.heap.size, 0, none⟩ = some (.bool s1) ∧ w'.cell? ⟨w6.heap.size, 1, none⟩ = some (.slice A4 n4 c4) ∧ w'.cell? ⟨w6.heap.size, 2, none⟩ = some (.int .i64 f1) ∧ w'.cell? ⟨w6.heap.size + 1, 0, none⟩ = some (.bool s2) ∧ w'.cell? ⟨w6.heap.size + 1, 1, none⟩ = some (.slice A6 n6 c6) ∧ w'.cell? ⟨w6.heap.size + 1, 2, none⟩ = some (.int .i64 f2) ∧ w'.cell? ⟨g2, 0, none⟩ = some (.int .i64 (n : Int))) (by kernel_rfl) (by have ka := xa.held; have kb := xb.held; exact ⟨ka.1, ka.2.1, ka.2.2, kb.1, kb.2.1, kb.2.2, hp.c0⟩) (fun hHeldv0 => ?_)
 generalize World.drew ((w6.alloc (.cells #[.bool s1, .slice A4 n4 c4, .int .i64 f1] 25)).alloc (.cells #[.bool s2, .slice A6 n6 c6, .int .i64 f2] 25)) = wd at *
 refine tl 0 ?_
 refine tl 1 ?_
 refine tl 2 ?_
 refine tl 7 ?_
 refine tl 8 ?_
 refine tl 9 ?_
 refine rdy 3 fun K hK => ?_
 go_simp
 refine (rquot_ok (p := n) (up := false) hT N4 N6 O1 O2 hn1 hn2 hy).mono ?_
 rintro en w' ⟨k, s', A7, n7, c7, m', e', rfl, hP, N7, b⟩
 obtain ⟨rfl, rfl, rfl, rfl⟩ := nm_fun Q1.out hP
 clear hP
 replace BB := below_next BB BB.size b (by rfl) (by rfl) (by rfl) (by rfl)
 have G := mv b (by rfl) <| And.intro hT <| And.intro hp <| And.intro r <| And.intro N4 <| And.intro N6 <| And.intro xa <| xb
 clear b hT hp r N4 N6 xa xb
 obtain ⟨hT, hp, r, N4, N6, xa, xb⟩ := G
 refine hK.out _ _ (by have ka := xa.held; have kb := xb.held; exact ⟨ka.1, ka.2.1, ka.2.2, kb.1, kb.2.1, kb.2.2, hp.c0⟩) (fun hHeldv1 => ?_)
 clear hK K hHeldv0
 try simp only [Act.put]
 refine tl 4 ?_
 refine tl 5 ?_
 refine rdy 6 fun K hK => ?_
 go_simp
 refine (must_ok N7).mono ?_
 rintro en w' ⟨A8, n8, c8, rfl, N8, b⟩
 clear N7
 replace BB := below_next BB BB.size b (by rfl) (by rfl) (by rfl) (by rfl)
 have G := mv b (by rfl) <| And.intro hT <| And.intro hp <| And.intro r <| And.intro N4 <| And.intro N6 <| And.intro xa <| xb
 clear b hT hp r N4 N6 xa xb
 obtain ⟨hT, hp, r, N4, N6, xa, xb⟩ := G
 refine hK.out _ _ (by have ka := xa.held; have kb := xb.held; exact ⟨ka.1, ka.2.1, ka.2.2, kb.1, kb.2.1, kb.2.2, hp.c0⟩) (fun hHeldv2 => ?_)
 clear hK K hHeldv1
 try simp only [Act.put]
 refine rdy 10 fun K hK => ?_
 go_simp
 refine (rquot_ok (p := n) (up := true) hT N4 N6 O1 O2 hn1 hn2 hy).mono ?_
 rintro en w' ⟨k, s', A9, n9, c9, m', e', rfl, hP, N9, b⟩
 obtain ⟨rfl, rfl, rfl, rfl⟩ := nm_fun Q2.out hP
 clear hP
 replace BB := below_next BB BB.size b (by rfl) (by rfl) (by rfl) (by rfl)
 have G := mv b (by rfl) <| And.intro hT <| And.intro hp <| And.intro r <| And.intro N4 <| And.intro N6 <| And.intro xa <| And.intro xb <| N8
 clear b hT hp r N4 N6 xa xb N8
 obtain ⟨hT, hp, r, N4, N6, xa, xb, N8⟩ := G
 refine hK.out _ _ (by have ka := xa.held; have kb := xb.held; exact ⟨ka.1, ka.2.1, ka.2.2, kb.1, kb.2.1, kb.2.2, hp.c0⟩) (fun hHeldv3 => ?_)
 clear hK K hHeldv2
 try simp only [Act.put]
 refine tl 11 ?_
 refine tl 12 ?_
 refine rdy 13 fun K hK => ?_
 go_simp
 refine (must_ok N9).mono ?_
 rintro en w' ⟨A10, n10, c10, rfl, N10, b⟩
 clear N9
 replace BB := below_next BB BB.size b (by rfl) (by rfl) (by rfl) (by rfl)
 have G := mv b (by rfl) <| And.intro hT <| And.intro hp <| And.intro r <| And.intro N4 <| And.intro N6 <| And.intro xa <| And.intro xb <| N8
 clear b hT hp r N4 N6 xa xb N8
 obtain ⟨hT, hp, r, N4, N6, xa, xb, N8⟩ := G
 obtain ⟨y0, y1, y2, y3, y4, y5⟩ := r.open
 obtain ⟨z0, z1, z2, z3, z4, z5⟩ := r.held
 refine hK.out _ _ (by have ka := xa.held; have kb := xb.held; exact ⟨ka.1, ka.2.1, ka.2.2, kb.1, kb.2.1, kb.2.2, hp.c0⟩) (fun hHeldv4 => ?_)
 clear hK K hHeldv3
 try simp only [Act.put]
 refine tl 14 ?_
 refine rdy 15 fun K hK => ?_
 go_simp
 refine hK.out _ _ (by have ka := (((((((xa.other nea 0 (.bool s3)).other nea 1 (.slice A8 n8 c8)).other nea 2 (.int .i64 f3)).other nea 3 (.bool s4)).other nea 4 (.slice A10 n10 c10)).other nea 5 (.int .i64 f4))).held; have kb := (((((((xb.other neb 0 (.bool s3)).other neb 1 (.slice A8 n8 c8)).other neb 2 (.int .i64 f3)).other neb 3 (.bool s4)).other neb 4 (.slice A10 n10 c10)).other neb 5 (.int .i64 f4))).held; exact ⟨ka.1, ka.2.1, ka.2.2, kb.1, kb.2.1, kb.2.2, (((((((hp.other ne2 0 (.bool s3)).other ne2 1 (.slice A8 n8 c8)).other ne2 2 (.int .i64 f3)).other ne2 3 (.bool s4)).other ne2 4 (.slice A10 n10 c10)).other ne2 5 (.int .i64 f4))).c0⟩) (fun hHeldv5 => ?_)
 clear hK K hHeldv4
 try simp only [Act.put]
 refine wpAnyH_done (by kernel_rfl) ?_ _
 go_wp2
 have qq := r.put s3 A8 n8 c8 f3 s4 A10 n10 c10 f4
 have hN := N8.rd.put6 r (.bool s3) (.slice A8 n8 c8) (.int .i64 f3) (.bool s4) (.slice A10 n10 c10) (.int .i64 f4)
 have hM := N10.rd.put6 r (.bool s3) (.slice A8 n8 c8) (.int .i64 f3) (.bool s4) (.slice A10 n10 c10) (.int .i64 f4)
 have HB3 := below_put6 (g := w.heap.size) BB (Nat.le_refl _) (.bool s3) (.slice A8 n8 c8) (.int .i64 f3) (.bool s4) (.slice A10 n10 c10) (.int .i64 f4)
 obtain ⟨z0, z1, z2, z3, z4, z5⟩ := qq.held
 exact bodyPost_ret (v := .agg #[.bool s3, .slice A8 n8 c8, .int .i64 f3, .bool s4, .slice A10 n10 c10, .int .i64 f4]) (by simp [results, Tryz.results19, go_sem, z0, z1, z2, z3, z4, z5]) rfl ⟨_, _, _, _, _, _, rfl, hN, hM, HB3⟩
end Go.Proofs.YtdhdebapjlcjdaaGreatDoor
