/-
 Contract of the reference's Lit, at this translation. Condition: the text has at most 100 bytes, at most 300 bits are asked for, or more than may be.
-/
import Derived.Test.YtdhdebapjlcjdaaGreatDoorUVr
import Derived.Test.YtdhdebapjlcjdaaGreatDoorUVn
import Derived.Test.YtdhdebapjlcjdaaGreatDoorUKz
import Derived.Test.YtdhdebapjlcjdaaGreatDoorUIm
import Derived.Test.YtdhdebapjlcjdaaGreatDoorURv
import Derived.Test.YtdhdebapjlcjdaaGreatDoorURr
set_option maxHeartbeats 8000000
set_option maxRecDepth 100000
namespace Go.Proofs.YtdhdebapjlcjdaaGreatDoor
open Go.RowKit

theorem Dbx.put1 {w : World} {g : Nat} {s : Bool} {A : Option Addr} {n c : Nat} {e : Int} (h : Dbx w g s A n c e) (A' : Option Addr) (n' c' : Nat) : Dbx (w.setCell ⟨g, 1, none⟩ (.slice A' n' c')) g s A' n' c' e := by
 have := h.blk
 refine ⟨?_⟩
 simp [World.setCell, Array.getElem?_modify, this]
theorem Dbx.off1 {w : World} {g g' : Nat} {s : Bool} {A : Option Addr} {n c : Nat} {e : Int} (h : Dbx w g s A n c e) (hne : g ≠ g') (u : Value) : Dbx (w.setCell ⟨g', 1, none⟩ u) g s A n c e := ⟨(Below.heap_setCell w ⟨g', 1, none⟩ u g hne).trans h.blk⟩
theorem Ibx.off1 {w : World} {g g' : Nat} {s : Bool} {A : Option Addr} {n c : Nat} {e : Int} {t : Bool} {B : Option Addr} {m d : Nat} {f : Int} (h : Ibx w g s A n c e t B m d f) (hne : g ≠ g') (u : Value) : Ibx (w.setCell ⟨g', 1, none⟩ u) g s A n c e t B m d f := ⟨(Below.heap_setCell w ⟨g', 1, none⟩ u g hne).trans h.blk⟩
theorem Dg.put1 {w : World} {g : Nat} {A : Option Addr} {n c x : Nat} {s0 : Bool} {A0 : Option Addr} {n0 c0 : Nat} {e0 : Int} (h : Dg w A n c x) (hb : Dbx w g s0 A0 n0 c0 e0) (u : Value) : Dg (w.setCell ⟨g, 1, none⟩ u) A n c x := Rd.grown h (grownBy_set _ _ _ _) (Rd.off32 h hb.no32)
theorem scale_lit : ∃ K : Nat, 4194304 ≤ K := ⟨_, Nat.le_refl _⟩
theorem nm_lit {m : Nat} {e : Int} {s' : Bool} {m' : Nat} {e' : Int} (h : Nm false m e 0 s' m' e') : s' = false := by
 rcases h with ⟨_, _, h, _⟩ | ⟨k, q, _, ⟨_, _, h, _⟩ | ⟨_, _, _, h, _⟩ | ⟨_, _, _, h, _⟩⟩ <;> exact h
/-- what is told of a quotient of naturals, where the value is a literal's -/
theorem lit_quot {d : List UInt8} {t : Int} {p : Nat} {x : Iv} {X Y : Nat} {s5 s6 s7 s8 : Bool} {y5 y6 : Nat} {e5 e6 : Int} {k7 k8 : Int} {m7 m8 : Nat} {g7 g8 : Int} (hd : Digs d) (hl : d.length ≤ 60) (h1 : -160 ≤ t) (h2 : t ≤ 100) (hp1 : 1 ≤ p) (hp : p ≤ 2000) (hY : Y ≠ 0) (bX : blen X ≤ 4096) (bY : blen Y ≤ 4096) (hXY : X * 5 ^ (-t).toNat * 2 ^ (-t).toNat = numV d * 5 ^ t.toNat * 2 ^ t.toNat * Y)
  (h : LitQ d t p x) (P5 : PartOf false X 0 false Y 0 p false s5 y5 e5) (P6 : PartOf false X 0 false Y 0 p true s6 y6 e6) (n7 : Nm s5 y5 e5 k7 s7 m7 g7) (n8 : Nm s6 y6 e6 k8 s8 m8 g8) :
  k7 = 0 ∧ k8 = 0 ∧ x = ⟨rwOf s7 m7 g7, rwOf s8 m8 g8⟩ := by
 obtain ⟨K, hK⟩ := scale_lit
 obtain ⟨s1, v1, f1, s2, v2, f2, s3, v3, f3, s4, v4, f4, n1, n2, q1, q2, rfl⟩ := h
 obtain ⟨t1, w1, g1, t2, w2, g2, m1, m2, hv, b1, b2, r1, r2, r3, r4⟩ := lit_norms hd hl h1 h2
 obtain ⟨-, rfl, rfl, rfl⟩ := nm_fun n1 m1
 obtain ⟨-, rfl, rfl, rfl⟩ := nm_fun n2 m2
 clear m1 m2
 have Q7 := P5.2 _ _ _ _ n7
 have Q8 := P6.2 _ _ _ _ n8
 obtain rfl := quot_good Q7 hp bX bY (by omega) (by omega) (by omega) (by omega)
 obtain rfl := quot_good Q8 hp bX bY (by omega) (by omega) (by omega) (by omega)
 obtain rfl := nm_lit n1
 obtain rfl := nm_lit n2
 have A := nm_value (K := K) (by omega) n1
 have B := nm_value (K := K) (by omega) n2
 have heq : vz K false v1 f1 * vz K false Y 0 = vz K false X 0 * vz K false v2 f2 := by
  rw [A, B, vz_pos_eq, vz_pos_eq, vz_pos_eq, vz_pos_eq, ← Int.natCast_mul, ← Int.natCast_mul]
  congr 1
  rw [show ((0 : Int) + (K : Int)).toNat = K by omega]
  have e1 : 2 ^ (t + (K : Int)).toNat * 2 ^ (-t).toNat = 2 ^ K * 2 ^ t.toNat := by
   rw [← Nat.pow_add, ← Nat.pow_add]
   exact congrArg (2 ^ ·) (by omega)
  refine Nat.eq_of_mul_eq_mul_right (pow_pos2 (-t).toNat) ?_
  calc numV d * 5 ^ t.toNat * 2 ^ (t + (K : Int)).toNat * (Y * 2 ^ K) * 2 ^ (-t).toNat = numV d * 5 ^ t.toNat * (2 ^ (t + (K : Int)).toNat * 2 ^ (-t).toNat) * Y * 2 ^ K := by ac_rfl
   _ = numV d * 5 ^ t.toNat * 2 ^ t.toNat * Y * 2 ^ K * 2 ^ K := by rw [e1]; ac_rfl
   _ = X * 2 ^ K * (5 ^ (-t).toNat * 2 ^ K) * 2 ^ (-t).toNat := by rw [← hXY]; ac_rfl
 obtain ⟨rfl, rfl, rfl⟩ := quot_one hK hv hY hp1 hp b1 b2 bX bY ⟨by omega, by omega⟩ ⟨by omega, by omega⟩ ⟨by omega, by omega⟩ ⟨by omega, by omega⟩ heq q1 Q7
 obtain ⟨rfl, rfl, rfl⟩ := quot_one hK hv hY hp1 hp b1 b2 bX bY ⟨by omega, by omega⟩ ⟨by omega, by omega⟩ ⟨by omega, by omega⟩ ⟨by omega, by omega⟩ heq q2 Q8
 exact ⟨rfl, rfl, rfl⟩
theorem ten_blen {i : Nat} (h : i ≤ 200) : blen (10 ^ i) ≤ 672 := by
 obtain ⟨k, hk, hk2⟩ := ten_small h
 exact Nat.le_trans ((blen_le _ _).2 hk2) (by omega)
theorem num_ten {d : List UInt8} {i : Nat} (hd : Digs d) (hl : d.length ≤ 60) (hi : i ≤ 100) : blen (numV d * 10 ^ i) ≤ 672 := by
 refine Nat.le_trans (blen_mono (y := 10 ^ (60 + i)) ?_) (ten_blen (by omega))
 rw [Nat.pow_add]
 exact Nat.mul_le_mul_right _ (Nat.le_trans (Nat.le_of_lt (numV_lt hd)) (Nat.pow_le_pow_right (by omega) hl))
theorem dg_blen {w : World} {A : Option Addr} {n c x b : Nat} (h : Dg w A n c x) (hx : blen x ≤ b) : n ≤ b / 16 + 1 := by
 refine dg_small2 (k := b / 16 + 1) h ?_
 have := (blen_le x b).1 hx
 exact Nat.lt_of_lt_of_le this (Nat.pow_le_pow_right (by omega) (by omega))
theorem rlit_text {w : World} {s : ByteArray} {p : Int} (hs : s.size ≤ 100) (hr : readD s.data.toList = none) : Calls Tryz.prog 7 #[.string s, .int .i64 p] w (TellI 6 Iv.zero w) := by
 have BB := below_alloc w (.cells #[.bool false, .slice none 0 0, .int .i64 0, .bool false, .slice none 0 0, .int .i64 0] 27)
 have r := Ibx.new w false none 0 0 0 false none 0 0 0
 go_enter Tryz.func7, Tryz.ntmps7
 have HR := Lib.hid hr
 clear hr
 have hf := rform_any (w := w.alloc (.cells #[.bool false, .slice none 0 0, .int .i64 0, .bool false, .slice none 0 0, .int .i64 0] 27)) hs
 rw [HR.out] at hf
 first | rw [Option.isSome_none] at hf | rw [Option.isSome_some] at hf
 have HFM := Lib.hid hf
 clear hf
 go_wp2_with fail
 refine HFM.out.mono ?_
 rintro en w1 ⟨rfl, rfl⟩
 clear HFM
 obtain ⟨f0, f1, f2, f3, f4, f5⟩ := r.open
 obtain ⟨z0, z1, z2, z3, z4, z5⟩ := r.held
 go_wp2
 exact bodyPost_ret (v := .tuple #[.agg #[.bool false, .slice none 0 0, .int .i64 0, .bool false, .slice none 0 0, .int .i64 0], .int .i64 6]) (by simp [results, Tryz.results7, go_sem, z0, z1, z2, z3, z4, z5]) rfl ⟨_, _, _, _, _, _, rfl, Rd.nil _ _ _ _ (by omega), Rd.nil _ _ _ _ (by omega), BB⟩
theorem rlit_prec {w : World} {s : ByteArray} {p : Int} {o : List UInt8 × Int} (hs : s.size ≤ 100) (hr : readD s.data.toList = some o) (hp : p < 1 ∨ 2000 < p) : Calls Tryz.prog 7 #[.string s, .int .i64 p] w (TellI 1 Iv.zero w) := by
 have BB := below_alloc w (.cells #[.bool false, .slice none 0 0, .int .i64 0, .bool false, .slice none 0 0, .int .i64 0] 27)
 have r := Ibx.new w false none 0 0 0 false none 0 0 0
 go_enter Tryz.func7, Tryz.ntmps7
 have HR := Lib.hid hr
 clear hr
 have hf := rform_any (w := w.alloc (.cells #[.bool false, .slice none 0 0, .int .i64 0, .bool false, .slice none 0 0, .int .i64 0] 27)) hs
 rw [HR.out] at hf
 first | rw [Option.isSome_none] at hf | rw [Option.isSome_some] at hf
 have HFM := Lib.hid hf
 clear hf
 go_wp2_with fail
 refine HFM.out.mono ?_
 rintro en w1 ⟨rfl, rfl⟩
 clear HFM
 by_cases h1 : p < 1
 ·have d1 : decide (p < 1) = true := decide_eq_true h1
  obtain ⟨f0, f1, f2, f3, f4, f5⟩ := r.open
  obtain ⟨z0, z1, z2, z3, z4, z5⟩ := r.held
  go_wp2
  exact bodyPost_ret (v := .tuple #[.agg #[.bool false, .slice none 0 0, .int .i64 0, .bool false, .slice none 0 0, .int .i64 0], .int .i64 1]) (by simp [results, Tryz.results7, go_sem, z0, z1, z2, z3, z4, z5]) rfl ⟨_, _, _, _, _, _, rfl, Rd.nil _ _ _ _ (by omega), Rd.nil _ _ _ _ (by omega), BB⟩
 have d1 : decide (p < 1) = false := decide_eq_false h1
 have d2 : decide (2000 < p) = true := decide_eq_true (by omega)
 obtain ⟨f0, f1, f2, f3, f4, f5⟩ := r.open
 obtain ⟨z0, z1, z2, z3, z4, z5⟩ := r.held
 go_wp2
 exact bodyPost_ret (v := .tuple #[.agg #[.bool false, .slice none 0 0, .int .i64 0, .bool false, .slice none 0 0, .int .i64 0], .int .i64 1]) (by simp [results, Tryz.results7, go_sem, z0, z1, z2, z3, z4, z5]) rfl ⟨_, _, _, _, _, _, rfl, Rd.nil _ _ _ _ (by omega), Rd.nil _ _ _ _ (by omega), BB⟩
theorem dbx_lit (w : World) (o : Obj) (s : Bool) (A : Option Addr) (n c : Nat) (e : Int) : Dbx ((w.alloc o).alloc (.cells #[.bool s, .slice A n c, .int .i64 e] 58)) (w.heap.size + 1) s A n c e := by
 have := Dbx.new (w.alloc o) s A n c e
 simpa using this
theorem dbx_litb (w : World) (o o2 : Obj) (s : Bool) (A : Option Addr) (n c : Nat) (e : Int) : Dbx (((w.alloc o).alloc o2).alloc (.cells #[.bool s, .slice A n c, .int .i64 e] 58)) (w.heap.size + 2) s A n c e := by
 have := Dbx.new ((w.alloc o).alloc o2) s A n c e
 simpa using this
theorem dg_4096 {w : World} {A : Option Addr} {n c x : Nat} (h : Dg w A n c x) (hx : x < Go.Proofs.YtdhdebapjlcjdaaGreatDoor.W ^ 64) : n ≤ 10000 := by
 have := dg_blen (b := 64 * 64) h ((blen_le _ _).2 (Nat.lt_of_lt_of_eq hx W64_pow))
 omega
theorem lit_up {V T : Nat} : V * 10 ^ T * 5 ^ (-(T : Int)).toNat * 2 ^ (-(T : Int)).toNat = V * 5 ^ (T : Int).toNat * 2 ^ (T : Int).toNat * 1 := by
 rw [show (-(T : Int)).toNat = 0 by omega, Int.toNat_natCast]
 simp only [Nat.pow_zero, Nat.mul_one]
 rw [Nat.mul_assoc, ← Nat.mul_pow]
theorem lit_down {V T : Nat} : V * 5 ^ (-(-(T : Int))).toNat * 2 ^ (-(-(T : Int))).toNat = V * 5 ^ (-(T : Int)).toNat * 2 ^ (-(T : Int)).toNat * 10 ^ T := by
 rw [show (-(T : Int)).toNat = 0 by omega, show (-(-(T : Int))).toNat = T by omega]
 simp only [Nat.pow_zero, Nat.mul_one]
 rw [Nat.mul_assoc, ← Nat.mul_pow]
theorem rlit_up {w : World} {s : ByteArray} {p T : Nat} {d : List UInt8} {x : Iv} (hs : s.size ≤ 100) (hr : readD s.data.toList = some (d, (T : Int))) (hp1 : 1 ≤ p) (hp : p ≤ 300) (hx : LitQ d ((T : Int)) p x) : Calls Tryz.prog 7 #[.string s, .int .i64 (p : Int)] w (TellI 0 x w) := by
 have BB := below_alloc w (.cells #[.bool false, .slice none 0 0, .int .i64 0, .bool false, .slice none 0 0, .int .i64 0] 27)
 have r := Ibx.new w false none 0 0 0 false none 0 0 0
 go_enter Tryz.func7, Tryz.ntmps7
 obtain ⟨hd, hl, hT1, hT2⟩ := read_some hr
 have HR := Lib.hid hr
 clear hr
 have hf := rform_any (w := w.alloc (.cells #[.bool false, .slice none 0 0, .int .i64 0, .bool false, .slice none 0 0, .int .i64 0] 27)) hs
 rw [HR.out] at hf
 first | rw [Option.isSome_none] at hf | rw [Option.isSome_some] at hf
 have HFM := Lib.hid hf
 clear hf
 go_wp2_with fail
 refine HFM.out.mono ?_
 rintro en w1 ⟨rfl, rfl⟩
 clear HFM
 have d1 : decide ((p : Int) < 1) = false := decide_eq_false (by omega)
 have d2 : decide (2000 < (p : Int)) = false := decide_eq_false (by omega)
 have HX := Lib.hid hx
 clear hx
 have dt : decide (0 ≤ (T : Int)) = true := decide_eq_true (by omega)
 go_wp2_with fail
 refine (rvalue_any HR.out).mono ?_
 rintro en w1 ⟨A1, n1, c1, rfl, D1, b⟩
 clear HR
 replace BB := bnx BB b
 replace r := mv b rfl r
 clear b
 have HGL := Lib.hid r.gl
 have l1 := dg_blen (b := 672) D1 (by have := num_ten (i := 0) hd hl (by omega); rwa [Nat.pow_zero, Nat.mul_one] at this)
 have D2 := dg_lit w1 (v := 1) (by omega) (by rw [H_eq]; omega)
 have b := below_alloc w1 (.cells #[.int .u32 1] 59)
 replace BB := bnx BB b
 have G := mv b rfl <| And.intro r <| D1
 clear b r D1
 obtain ⟨r, D1⟩ := G
 have x8 := dbx_lit w1 (.cells #[.int .u32 1] 59) false A1 n1 c1 0
 have b := below_alloc (w1.alloc (.cells #[.int .u32 1] 59)) (.cells #[.bool false, .slice A1 n1 c1, .int .i64 0] 58)
 replace BB := bnx BB b
 have G := mv b rfl (J3 r D1 D2)
 clear b r D1 D2
 obtain ⟨r, D1, D2⟩ := G
 have x9 := dbx_litb w1 (.cells #[.int .u32 1] 59) (.cells #[.bool false, .slice A1 n1 c1, .int .i64 0] 58) false (some ⟨w1.heap.size, 0, none⟩) 1 1 0
 have b := below_alloc ((w1.alloc (.cells #[.int .u32 1] 59)).alloc (.cells #[.bool false, .slice A1 n1 c1, .int .i64 0] 58)) (.cells #[.bool false, .slice (some ⟨w1.heap.size, 0, none⟩) 1 1, .int .i64 0] 58)
 replace BB := bnx BB b
 have G := mv b rfl (J4 r D1 D2 x8)
 clear b r D1 D2 x8
 obtain ⟨r, D1, D2, x8⟩ := G
 go_wp2_with fail
 refine (rten_any (n := T) (by omega)).mono ?_
 rintro en w2 ⟨A3, n3, c3, rfl, D3, b⟩
 replace BB := bnx BB b
 have G := mv b rfl (J5 r D1 D2 x8 x9)
 clear b r D1 D2 x8 x9
 obtain ⟨r, D1, D2, x8, x9⟩ := G
 have l3 := dg_blen (b := 672) D3 (ten_blen (by omega))
 go_wp2_with fail
 refine (rmul_any D1 D3 (by omega) (by omega)).mono ?_
 rintro en w3 ⟨A4, n4, c4, rfl, D4, b⟩
 clear D1 D3
 replace BB := bnx BB b
 have G := mv b rfl (J4 r D2 x8 x9)
 clear b r D2 x8 x9
 obtain ⟨r, D2, x8, x9⟩ := G
 have l4 := dg_blen (b := 672) D4 (num_ten hd hl (by omega))
 obtain ⟨i0, i1, i2⟩ := x8.held
 obtain ⟨j0, j1, j2⟩ := x9.held
 obtain ⟨o0, o1, o2⟩ := x8.open
 obtain ⟨y0, y1, y2⟩ := x9.open
 have X8 := Lib.hid x8
 have X9 := Lib.hid x9
 go_upto_region 10 with fail
 replace x8 := x8.put1 A4 n4 c4
 replace x9 := x9.off1 (g' := w1.heap.size + 1) (by omega) (.slice A4 n4 c4)
 replace r := r.off1 (g' := w1.heap.size + 1) (by have := HGL.out; omega) (.slice A4 n4 c4)
 replace D4 := D4.put1 X8.out (.slice A4 n4 c4)
 replace D2 := D2.put1 X8.out (.slice A4 n4 c4)
 replace BB := Below.setCell BB (p := ⟨w1.heap.size + 1, 1, none⟩) (by have := HGL.out; show w.heap.size ≤ w1.heap.size + 1; omega) (.slice A4 n4 c4)
 clear i0 i1 i2 j0 j1 j2 o0 o1 o2 y0 y1 y2 X8 X9
 generalize w3.setCell ⟨w1.heap.size + 1, 1, none⟩ (.slice A4 n4 c4) = W4 at *
 obtain ⟨i0, i1, i2⟩ := x8.held
 obtain ⟨j0, j1, j2⟩ := x9.held
 clear x8 x9
 go_wp2_with fail
 refine (rparted_any (p := p) (e1 := 0) (e2 := 0) D4 D2 (by omega) (by have := num_ten (i := T) hd hl (by omega); omega) (by exact Nat.le_trans ((blen_le 1 1).2 (by decide)) (by omega)) (by omega) (by omega) (by omega) (by omega) (by omega) (by omega) (by omega) (by omega)).mono ?_
 rintro en w5 ⟨s5, y5, e5, ⟨A5, n5, c5, rfl, D5, b⟩, P5⟩
 have HP5 := Lib.hid P5
 clear P5
 replace BB := bnx BB b
 have G := mv b rfl (J9 r i0 i1 i2 j0 j1 j2 D4 D2)
 clear b r i0 i1 i2 j0 j1 j2 D4 D2
 obtain ⟨r, i0, i1, i2, j0, j1, j2, D4, D2⟩ := G
 have l5 : n5 ≤ 10000 := dg_4096 D5 HP5.out.1.2.1
 go_wp2_with fail
 refine (rwide_any D5 l5 HP5.out.1.1 ⟨HP5.out.1.2.2.1, HP5.out.1.2.2.2⟩).mono ?_
 rintro en w7 ⟨k7, s7, A7, n7, c7, m7, g7, rfl, N7, M7, b⟩
 have HN7 := Lib.hid N7
 clear N7
 clear D5
 replace BB := bnx BB b
 have G := mv b rfl (J9 r i0 i1 i2 j0 j1 j2 D4 D2)
 clear b r i0 i1 i2 j0 j1 j2 D4 D2
 obtain ⟨r, i0, i1, i2, j0, j1, j2, D4, D2⟩ := G
 obtain ⟨u70, u71, u72⟩ := (Box.new w7 s7 A7 n7 c7 g7).held
 have b := below_alloc w7 (.cells #[.bool s7, .slice A7 n7 c7, .int .i64 g7] 25)
 replace BB := bnx BB b
 have G := mv b rfl (J10 r i0 i1 i2 j0 j1 j2 D4 D2 M7)
 clear b r i0 i1 i2 j0 j1 j2 D4 D2 M7
 obtain ⟨r, i0, i1, i2, j0, j1, j2, D4, D2, M7⟩ := G
 go_wp2_with fail
 refine (rparted_any (p := p) (e1 := 0) (e2 := 0) D4 D2 (by omega) (by have := num_ten (i := T) hd hl (by omega); omega) (by exact Nat.le_trans ((blen_le 1 1).2 (by decide)) (by omega)) (by omega) (by omega) (by omega) (by omega) (by omega) (by omega) (by omega) (by omega)).mono ?_
 rintro en w6 ⟨s6, y6, e6, ⟨A6, n6, c6, rfl, D6, b⟩, P6⟩
 have HP6 := Lib.hid P6
 clear P6
 replace BB := bnx BB b
 have G := mv b rfl (J13 r i0 i1 i2 j0 j1 j2 D4 D2 M7 u70 u71 u72)
 clear b r i0 i1 i2 j0 j1 j2 D4 D2 M7 u70 u71 u72
 obtain ⟨r, i0, i1, i2, j0, j1, j2, D4, D2, M7, u70, u71, u72⟩ := G
 have l6 : n6 ≤ 10000 := dg_4096 D6 HP6.out.1.2.1
 go_wp2_with fail
 refine (rwide_any D6 l6 HP6.out.1.1 ⟨HP6.out.1.2.2.1, HP6.out.1.2.2.2⟩).mono ?_
 rintro en w8 ⟨k8, s8, A8, n8, c8, m8, g8, rfl, N8, M8, b⟩
 have HN8 := Lib.hid N8
 clear N8
 clear D6
 replace BB := bnx BB b
 have G := mv b rfl (J13 r i0 i1 i2 j0 j1 j2 D4 D2 M7 u70 u71 u72)
 clear b r i0 i1 i2 j0 j1 j2 D4 D2 M7 u70 u71 u72
 obtain ⟨r, i0, i1, i2, j0, j1, j2, D4, D2, M7, u70, u71, u72⟩ := G
 obtain ⟨u80, u81, u82⟩ := (Box.new w8 s8 A8 n8 c8 g8).held
 have b := below_alloc w8 (.cells #[.bool s8, .slice A8 n8 c8, .int .i64 g8] 25)
 replace BB := bnx BB b
 have G := mv b rfl (J14 r i0 i1 i2 j0 j1 j2 D4 D2 M7 u70 u71 u72 M8)
 clear b r i0 i1 i2 j0 j1 j2 D4 D2 M7 u70 u71 u72 M8
 obtain ⟨r, i0, i1, i2, j0, j1, j2, D4, D2, M7, u70, u71, u72, M8⟩ := G
 obtain ⟨rfl, rfl, hxx⟩ := lit_quot hd hl hT1 hT2 hp1 (by omega) (by omega) (by have := num_ten (i := T) hd hl (by omega); omega) (by exact Nat.le_trans ((blen_le 1 1).2 (by decide)) (by omega)) (by exact lit_up) HX.out HP5.out HP6.out HN7.out HN8.out
 clear HX HP5 HP6 HN7 HN8
 subst hxx
 have h7 := M7.rd
 have h8 := M8.rd
 obtain ⟨f0, f1, f2, f3, f4, f5⟩ := r.open
 obtain ⟨z0, z1, z2, z3, z4, z5⟩ := r.held
 go_wp2
 have qq := r.put s7 A7 n7 c7 g7 s8 A8 n8 c8 g8
 have hN := h7.put6 r (.bool s7) (.slice A7 n7 c7) (.int .i64 g7) (.bool s8) (.slice A8 n8 c8) (.int .i64 g8)
 have hM := h8.put6 r (.bool s7) (.slice A7 n7 c7) (.int .i64 g7) (.bool s8) (.slice A8 n8 c8) (.int .i64 g8)
 have HB3 := below_put6 (g := w.heap.size) BB (by omega) (.bool s7) (.slice A7 n7 c7) (.int .i64 g7) (.bool s8) (.slice A8 n8 c8) (.int .i64 g8)
 obtain ⟨z0, z1, z2, z3, z4, z5⟩ := qq.held
 exact bodyPost_ret (v := .tuple #[.agg #[.bool s7, .slice A7 n7 c7, .int .i64 g7, .bool s8, .slice A8 n8 c8, .int .i64 g8], .int .i64 0]) (by simp [results, Tryz.results7, go_sem, z0, z1, z2, z3, z4, z5]) rfl ⟨_, _, _, _, _, _, rfl, hN, hM, HB3⟩
theorem rlit_down {w : World} {s : ByteArray} {p T : Nat} {d : List UInt8} {x : Iv} (hs : s.size ≤ 100) (hr : readD s.data.toList = some (d, -(T : Int))) (hT0 : 0 < T) (hp1 : 1 ≤ p) (hp : p ≤ 300) (hx : LitQ d (-(T : Int)) p x) : Calls Tryz.prog 7 #[.string s, .int .i64 (p : Int)] w (TellI 0 x w) := by
 have BB := below_alloc w (.cells #[.bool false, .slice none 0 0, .int .i64 0, .bool false, .slice none 0 0, .int .i64 0] 27)
 have r := Ibx.new w false none 0 0 0 false none 0 0 0
 go_enter Tryz.func7, Tryz.ntmps7
 obtain ⟨hd, hl, hT1, hT2⟩ := read_some hr
 have HR := Lib.hid hr
 clear hr
 have hf := rform_any (w := w.alloc (.cells #[.bool false, .slice none 0 0, .int .i64 0, .bool false, .slice none 0 0, .int .i64 0] 27)) hs
 rw [HR.out] at hf
 first | rw [Option.isSome_none] at hf | rw [Option.isSome_some] at hf
 have HFM := Lib.hid hf
 clear hf
 go_wp2_with fail
 refine HFM.out.mono ?_
 rintro en w1 ⟨rfl, rfl⟩
 clear HFM
 have d1 : decide ((p : Int) < 1) = false := decide_eq_false (by omega)
 have d2 : decide (2000 < (p : Int)) = false := decide_eq_false (by omega)
 have HX := Lib.hid hx
 clear hx
 have dt : decide (0 ≤ -(T : Int)) = false := decide_eq_false (by omega)
 have wn : IntKind.i64.wrap (-(-(T : Int))) = (T : Int) := by rw [IntWalk.i64_in _ (by omega)]; omega
 go_wp2_with fail
 refine (rvalue_any HR.out).mono ?_
 rintro en w1 ⟨A1, n1, c1, rfl, D1, b⟩
 clear HR
 replace BB := bnx BB b
 replace r := mv b rfl r
 clear b
 have HGL := Lib.hid r.gl
 have l1 := dg_blen (b := 672) D1 (by have := num_ten (i := 0) hd hl (by omega); rwa [Nat.pow_zero, Nat.mul_one] at this)
 have D2 := dg_lit w1 (v := 1) (by omega) (by rw [H_eq]; omega)
 have b := below_alloc w1 (.cells #[.int .u32 1] 59)
 replace BB := bnx BB b
 have G := mv b rfl <| And.intro r <| D1
 clear b r D1
 obtain ⟨r, D1⟩ := G
 have x8 := dbx_lit w1 (.cells #[.int .u32 1] 59) false A1 n1 c1 0
 have b := below_alloc (w1.alloc (.cells #[.int .u32 1] 59)) (.cells #[.bool false, .slice A1 n1 c1, .int .i64 0] 58)
 replace BB := bnx BB b
 have G := mv b rfl (J3 r D1 D2)
 clear b r D1 D2
 obtain ⟨r, D1, D2⟩ := G
 have x9 := dbx_litb w1 (.cells #[.int .u32 1] 59) (.cells #[.bool false, .slice A1 n1 c1, .int .i64 0] 58) false (some ⟨w1.heap.size, 0, none⟩) 1 1 0
 have b := below_alloc ((w1.alloc (.cells #[.int .u32 1] 59)).alloc (.cells #[.bool false, .slice A1 n1 c1, .int .i64 0] 58)) (.cells #[.bool false, .slice (some ⟨w1.heap.size, 0, none⟩) 1 1, .int .i64 0] 58)
 replace BB := bnx BB b
 have G := mv b rfl (J4 r D1 D2 x8)
 clear b r D1 D2 x8
 obtain ⟨r, D1, D2, x8⟩ := G
 go_wp2_with fail
 refine (rten_any (n := T) (by omega)).mono ?_
 rintro en w2 ⟨A3, n3, c3, rfl, D3, b⟩
 clear D2
 replace BB := bnx BB b
 have G := mv b rfl (J4 r D1 x8 x9)
 clear b r D1 x8 x9
 obtain ⟨r, D1, x8, x9⟩ := G
 have l3 := dg_blen (b := 672) D3 (ten_blen (by omega))
 obtain ⟨i0, i1, i2⟩ := x8.held
 obtain ⟨j0, j1, j2⟩ := x9.held
 obtain ⟨o0, o1, o2⟩ := x8.open
 obtain ⟨y0, y1, y2⟩ := x9.open
 have X8 := Lib.hid x8
 have X9 := Lib.hid x9
 go_upto_region 10 with fail
 replace x9 := x9.put1 A3 n3 c3
 replace x8 := x8.off1 (g' := w1.heap.size + 2) (by omega) (.slice A3 n3 c3)
 replace r := r.off1 (g' := w1.heap.size + 2) (by have := HGL.out; omega) (.slice A3 n3 c3)
 replace D3 := D3.put1 X9.out (.slice A3 n3 c3)
 replace D1 := D1.put1 X9.out (.slice A3 n3 c3)
 replace BB := Below.setCell BB (p := ⟨w1.heap.size + 2, 1, none⟩) (by have := HGL.out; show w.heap.size ≤ w1.heap.size + 2; omega) (.slice A3 n3 c3)
 clear i0 i1 i2 j0 j1 j2 o0 o1 o2 y0 y1 y2 X8 X9
 generalize w2.setCell ⟨w1.heap.size + 2, 1, none⟩ (.slice A3 n3 c3) = W4 at *
 obtain ⟨i0, i1, i2⟩ := x8.held
 obtain ⟨j0, j1, j2⟩ := x9.held
 clear x8 x9
 go_wp2_with fail
 refine (rparted_any (p := p) (e1 := 0) (e2 := 0) D1 D3 (by have := Nat.pow_pos (n := T) (show 0 < 10 by omega); omega) (by have := num_ten (i := 0) hd hl (by omega); rw [Nat.pow_zero, Nat.mul_one] at this; omega) (by have := ten_blen (i := T) (by omega); omega) (by omega) (by omega) (by omega) (by omega) (by omega) (by omega) (by omega) (by omega)).mono ?_
 rintro en w5 ⟨s5, y5, e5, ⟨A5, n5, c5, rfl, D5, b⟩, P5⟩
 have HP5 := Lib.hid P5
 clear P5
 replace BB := bnx BB b
 have G := mv b rfl (J9 r i0 i1 i2 j0 j1 j2 D1 D3)
 clear b r i0 i1 i2 j0 j1 j2 D1 D3
 obtain ⟨r, i0, i1, i2, j0, j1, j2, D1, D3⟩ := G
 have l5 : n5 ≤ 10000 := dg_4096 D5 HP5.out.1.2.1
 go_wp2_with fail
 refine (rwide_any D5 l5 HP5.out.1.1 ⟨HP5.out.1.2.2.1, HP5.out.1.2.2.2⟩).mono ?_
 rintro en w7 ⟨k7, s7, A7, n7, c7, m7, g7, rfl, N7, M7, b⟩
 have HN7 := Lib.hid N7
 clear N7
 clear D5
 replace BB := bnx BB b
 have G := mv b rfl (J9 r i0 i1 i2 j0 j1 j2 D1 D3)
 clear b r i0 i1 i2 j0 j1 j2 D1 D3
 obtain ⟨r, i0, i1, i2, j0, j1, j2, D1, D3⟩ := G
 obtain ⟨u70, u71, u72⟩ := (Box.new w7 s7 A7 n7 c7 g7).held
 have b := below_alloc w7 (.cells #[.bool s7, .slice A7 n7 c7, .int .i64 g7] 25)
 replace BB := bnx BB b
 have G := mv b rfl (J10 r i0 i1 i2 j0 j1 j2 D1 D3 M7)
 clear b r i0 i1 i2 j0 j1 j2 D1 D3 M7
 obtain ⟨r, i0, i1, i2, j0, j1, j2, D1, D3, M7⟩ := G
 go_wp2_with fail
 refine (rparted_any (p := p) (e1 := 0) (e2 := 0) D1 D3 (by have := Nat.pow_pos (n := T) (show 0 < 10 by omega); omega) (by have := num_ten (i := 0) hd hl (by omega); rw [Nat.pow_zero, Nat.mul_one] at this; omega) (by have := ten_blen (i := T) (by omega); omega) (by omega) (by omega) (by omega) (by omega) (by omega) (by omega) (by omega) (by omega)).mono ?_
 rintro en w6 ⟨s6, y6, e6, ⟨A6, n6, c6, rfl, D6, b⟩, P6⟩
 have HP6 := Lib.hid P6
 clear P6
 replace BB := bnx BB b
 have G := mv b rfl (J13 r i0 i1 i2 j0 j1 j2 D1 D3 M7 u70 u71 u72)
 clear b r i0 i1 i2 j0 j1 j2 D1 D3 M7 u70 u71 u72
 obtain ⟨r, i0, i1, i2, j0, j1, j2, D1, D3, M7, u70, u71, u72⟩ := G
 have l6 : n6 ≤ 10000 := dg_4096 D6 HP6.out.1.2.1
 go_wp2_with fail
 refine (rwide_any D6 l6 HP6.out.1.1 ⟨HP6.out.1.2.2.1, HP6.out.1.2.2.2⟩).mono ?_
 rintro en w8 ⟨k8, s8, A8, n8, c8, m8, g8, rfl, N8, M8, b⟩
 have HN8 := Lib.hid N8
 clear N8
 clear D6
 replace BB := bnx BB b
 have G := mv b rfl (J13 r i0 i1 i2 j0 j1 j2 D1 D3 M7 u70 u71 u72)
 clear b r i0 i1 i2 j0 j1 j2 D1 D3 M7 u70 u71 u72
 obtain ⟨r, i0, i1, i2, j0, j1, j2, D1, D3, M7, u70, u71, u72⟩ := G
 obtain ⟨u80, u81, u82⟩ := (Box.new w8 s8 A8 n8 c8 g8).held
 have b := below_alloc w8 (.cells #[.bool s8, .slice A8 n8 c8, .int .i64 g8] 25)
 replace BB := bnx BB b
 have G := mv b rfl (J14 r i0 i1 i2 j0 j1 j2 D1 D3 M7 u70 u71 u72 M8)
 clear b r i0 i1 i2 j0 j1 j2 D1 D3 M7 u70 u71 u72 M8
 obtain ⟨r, i0, i1, i2, j0, j1, j2, D1, D3, M7, u70, u71, u72, M8⟩ := G
 obtain ⟨rfl, rfl, hxx⟩ := lit_quot hd hl hT1 hT2 hp1 (by omega) (by have := Nat.pow_pos (n := T) (show 0 < 10 by omega); omega) (by have := num_ten (i := 0) hd hl (by omega); rw [Nat.pow_zero, Nat.mul_one] at this; omega) (by have := ten_blen (i := T) (by omega); omega) (by exact lit_down) HX.out HP5.out HP6.out HN7.out HN8.out
 clear HX HP5 HP6 HN7 HN8
 subst hxx
 have h7 := M7.rd
 have h8 := M8.rd
 obtain ⟨f0, f1, f2, f3, f4, f5⟩ := r.open
 obtain ⟨z0, z1, z2, z3, z4, z5⟩ := r.held
 go_wp2
 have qq := r.put s7 A7 n7 c7 g7 s8 A8 n8 c8 g8
 have hN := h7.put6 r (.bool s7) (.slice A7 n7 c7) (.int .i64 g7) (.bool s8) (.slice A8 n8 c8) (.int .i64 g8)
 have hM := h8.put6 r (.bool s7) (.slice A7 n7 c7) (.int .i64 g7) (.bool s8) (.slice A8 n8 c8) (.int .i64 g8)
 have HB3 := below_put6 (g := w.heap.size) BB (by omega) (.bool s7) (.slice A7 n7 c7) (.int .i64 g7) (.bool s8) (.slice A8 n8 c8) (.int .i64 g8)
 obtain ⟨z0, z1, z2, z3, z4, z5⟩ := qq.held
 exact bodyPost_ret (v := .tuple #[.agg #[.bool s7, .slice A7 n7 c7, .int .i64 g7, .bool s8, .slice A8 n8 c8, .int .i64 g8], .int .i64 0]) (by simp [results, Tryz.results7, go_sem, z0, z1, z2, z3, z4, z5]) rfl ⟨_, _, _, _, _, _, rfl, hN, hM, HB3⟩
end Go.Proofs.YtdhdebapjlcjdaaGreatDoor
