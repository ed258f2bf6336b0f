/-
 Contract of the reference's Exact, at this translation. Condition: the text has at most 100 bytes.
-/
import Derived.Test.YtdhdebapjlcjdaaGreatDoorUVs
import Derived.Test.YtdhdebapjlcjdaaGreatDoorUKz
set_option maxHeartbeats 8000000
set_option maxRecDepth 100000
namespace Go.Proofs.YtdhdebapjlcjdaaGreatDoor
open Go.RowKit

theorem five_small {i : Nat} (h : i ≤ 200) : blen (5 ^ i) ≤ 672 := Nat.le_trans (blen_mono (Nat.pow_le_pow_left (by omega) i)) (ten_blen h)
theorem fits_blen2 {x b p : Nat} (h : blen x ≤ b) (hb : b ≤ p) : Fits p x := fits_of ((blen_le _ _).1 (Nat.le_trans h hb))
/-- what Exact tells of a literal, where nothing is divided; where it is -/
theorem exp_up {V T : Nat} {d : List UInt8} {k : Int} {s : Bool} {m : Nat} {e : Int} (hV : numV d = V) (hT : T ≤ 100) (h : Nm false (V * 10 ^ T) 0 k s m e) : ExP (some (d, (T : Int))) k s m e := by
 obtain ⟨K, hK⟩ := scale_lit
 unfold ExP
 dsimp only
 rw [show (-(T : Int)).toNat = 0 by omega, Nat.pow_zero, Nat.mod_one, if_pos rfl, Nat.div_one, hV, Int.toNat_natCast]
 refine nm_congr (K := K) (by omega) (by omega) ?_ h
 rw [vz_pos_eq, vz_pos_eq]
 congr 1
 rw [show ((T : Int) + (K : Int)).toNat = T + K by omega, show ((0 : Int) + (K : Int)).toNat = K by omega, Nat.pow_add, show (10 : Nat) = 5 * 2 from rfl, Nat.mul_pow]
 ac_rfl
theorem exp_down {V T : Nat} {d : List UInt8} {k : Int} {s : Bool} {m : Nat} {e : Int} (hV : numV d = V) (h : if V % 5 ^ T = 0 then Nm false (V / 5 ^ T) (-(T : Int)) k s m e else k = 6 ∧ s = false ∧ m = 0 ∧ e = 0) : ExP (some (d, -(T : Int))) k s m e := by
 unfold ExP
 dsimp only
 rw [show (-(-(T : Int))).toNat = T by omega, show (-(T : Int)).toNat = 0 by omega, Nat.pow_zero, Nat.mul_one, hV]
 exact h
theorem rexact_text {w : World} {s : ByteArray} (hs : s.size ≤ 100) (hr : readD s.data.toList = none) : Calls Tryz.prog 9 #[.string s] w (Tells (ExP none) w) := by
 have BB := below_alloc w (.cells #[.bool false, .slice none 0 0, .int .i64 0] 25)
 have r := Box.new w false none 0 0 0
 go_enter Tryz.func9, Tryz.ntmps9
 have HR := Lib.hid hr
 clear hr
 have hf := rform_any (w := w.alloc (.cells #[.bool false, .slice none 0 0, .int .i64 0] 25)) hs
 rw [HR.out] at hf
 first | rw [Option.isSome_none] at hf | rw [Option.isSome_some] at hf
 have HFM := Lib.hid hf
 clear hf
 go_wp2_with fail
 refine HFM.out.mono ?_
 rintro en w1 ⟨rfl, rfl⟩
 clear HFM
 obtain ⟨f0, f1, f2⟩ := r.open
 obtain ⟨z0, z1, z2⟩ := r.held
 go_wp2
 exact bodyPost_ret (v := .tuple #[.agg #[.bool false, .slice none 0 0, .int .i64 0], .int .i64 6]) (by simp [results, Tryz.results9, go_sem, z0, z1, z2]) rfl ⟨_, _, _, _, _, 0, _, rfl, ⟨rfl, rfl, rfl, rfl⟩, nt_nil _, BB⟩
theorem rexact_up {w : World} {s : ByteArray} {T : Nat} {d : List UInt8} (hs : s.size ≤ 100) (hr : readD s.data.toList = some (d, (T : Int))) : Calls Tryz.prog 9 #[.string s] w (Tells (ExP (some (d, (T : Int)))) w) := by
 have BB := below_alloc w (.cells #[.bool false, .slice none 0 0, .int .i64 0] 25)
 have r := Box.new w false none 0 0 0
 go_enter Tryz.func9, Tryz.ntmps9
 obtain ⟨hd, hl, hT1, hT2⟩ := read_some hr
 have HR := Lib.hid hr
 clear hr
 have hf := rform_any (w := w.alloc (.cells #[.bool false, .slice none 0 0, .int .i64 0] 25)) hs
 rw [HR.out] at hf
 first | rw [Option.isSome_none] at hf | rw [Option.isSome_some] at hf
 have HFM := Lib.hid hf
 clear hf
 go_wp2_with fail
 refine HFM.out.mono ?_
 rintro en w1 ⟨rfl, rfl⟩
 clear HFM
 have dt : decide (0 ≤ (T : Int)) = true := decide_eq_true (by omega)
 have hV0 := num_ten (i := 0) hd hl (by omega)
 rw [Nat.pow_zero, Nat.mul_one] at hV0
 have hV1 := num_ten (i := T) hd hl (by omega)
 go_wp2_with fail
 refine (rvalue_any HR.out).mono ?_
 rintro en w1 ⟨A1, n1, c1, rfl, D1, b⟩
 clear HR
 replace BB := bnx BB b
 replace r := mv b rfl r
 clear b
 have l1 := dg_blen (b := 672) D1 hV0
 obtain ⟨V, hV⟩ : ∃ z, numV d = z := ⟨_, rfl⟩
 have HV := Lib.hid hV
 rw [hV] at D1 hV0 hV1
 have H0 := Lib.hid hV0
 have H1 := Lib.hid hV1
 clear hV1
 clear hV hV0
 go_wp2_with fail
 refine (rten_any (n := T) (by omega)).mono ?_
 rintro en w2 ⟨A3, n3, c3, rfl, D3, b⟩
 replace BB := bnx BB b
 have G := mv b rfl <| And.intro r <| D1
 clear b r D1
 obtain ⟨r, D1⟩ := G
 have l3 := dg_blen (b := 672) D3 (ten_blen (by omega))
 go_wp2_with fail
 refine (rmul_any D1 D3 (by omega) (by omega)).mono ?_
 rintro en w3 ⟨A4, n4, c4, rfl, D4, b⟩
 clear D1 D3
 replace BB := bnx BB b
 replace r := mv b rfl r
 clear b
 have l4 := dg_blen (b := 672) D4 H1.out
 go_wp2_with fail
 refine (rwide_any (s := false) (e := 0) D4 (by omega) (fits_blen2 H1.out (by omega)) ⟨by omega, by omega⟩).mono ?_
 rintro en w4 ⟨k5, s5, A5, n5, c5, m5, e5, rfl, N5, M5, b⟩
 have HN := Lib.hid (exp_up HV.out (by omega) N5)
 clear N5
 clear D4
 replace BB := bnx BB b
 replace r := mv b rfl r
 clear b
 obtain ⟨f0, f1, f2⟩ := r.open
 obtain ⟨z0, z1, z2⟩ := r.held
 go_wp2
 have qq := r.put s5 A5 n5 c5 e5
 have hN := M5.put3 r (.bool s5) (.slice A5 n5 c5) (.int .i64 e5)
 have HB3 := below_put3 (g := w.heap.size) BB (by omega) (.bool s5) (.slice A5 n5 c5) (.int .i64 e5)
 obtain ⟨z0, z1, z2⟩ := qq.held
 exact bodyPost_ret (v := .tuple #[.agg #[.bool s5, .slice A5 n5 c5, .int .i64 e5], .int .i64 k5]) (by simp [results, Tryz.results9, go_sem, z0, z1, z2]) rfl ⟨_, _, _, _, _, m5, _, rfl, HN.out, hN, HB3⟩
theorem rexact_down {w : World} {s : ByteArray} {T : Nat} {d : List UInt8} (hs : s.size ≤ 100) (hT0 : 0 < T) (hr : readD s.data.toList = some (d, -(T : Int))) : Calls Tryz.prog 9 #[.string s] w (Tells (ExP (some (d, -(T : Int)))) w) := by
 have BB := below_alloc w (.cells #[.bool false, .slice none 0 0, .int .i64 0] 25)
 have r := Box.new w false none 0 0 0
 go_enter Tryz.func9, Tryz.ntmps9
 obtain ⟨hd, hl, hT1, hT2⟩ := read_some hr
 have HR := Lib.hid hr
 clear hr
 have hf := rform_any (w := w.alloc (.cells #[.bool false, .slice none 0 0, .int .i64 0] 25)) hs
 rw [HR.out] at hf
 first | rw [Option.isSome_none] at hf | rw [Option.isSome_some] at hf
 have HFM := Lib.hid hf
 clear hf
 go_wp2_with fail
 refine HFM.out.mono ?_
 rintro en w1 ⟨rfl, rfl⟩
 clear HFM
 have dt : decide (0 ≤ -(T : Int)) = false := decide_eq_false (by omega)
 have dz : decide (T = 0) = false := decide_eq_false (by omega)
 have hV0 := num_ten (i := 0) hd hl (by omega)
 rw [Nat.pow_zero, Nat.mul_one] at hV0
 go_wp2_with fail
 refine (rvalue_any HR.out).mono ?_
 rintro en w1 ⟨A1, n1, c1, rfl, D1, b⟩
 clear HR
 replace BB := bnx BB b
 replace r := mv b rfl r
 clear b
 have l1 := dg_blen (b := 672) D1 hV0
 obtain ⟨V, hV⟩ : ∃ z, numV d = z := ⟨_, rfl⟩
 have HV := Lib.hid hV
 rw [hV] at D1 hV0
 have H0 := Lib.hid hV0
 clear hV hV0
 have wn : IntKind.i64.wrap (-(-(T : Int))) = (T : Int) := by rw [IntWalk.i64_in _ (by omega)]; omega
 have D2 := dg_lit w1 (v := 1) (by omega) (by rw [H_eq]; omega)
 have b := below_alloc w1 (.cells #[.int .u32 1] 59)
 replace BB := bnx BB b
 have G := mv b rfl <| And.intro r <| D1
 clear b r D1
 obtain ⟨r, D1⟩ := G
 go_wp2
 go_loopg [6, 7] T (fun gk v6 v7 wr => ∃ (i : Nat) (A : Option Addr) (n c : Nat), i + gk = T ∧ v7 = .int .i64 i ∧ v6 = .slice A n c ∧ Dg wr A n c (5 ^ i) ∧ Dg wr A1 n1 c1 V ∧ Box wr w.heap.size false none 0 0 0 ∧ Below w.heap.size w wr)
 case atStart => exact ⟨0, _, _, _, by omega, rfl, rfl, D2, D1, r, BB⟩
 case round =>
  clear D2 D1 r BB
  obtain ⟨i, A2, n2, c2, hg, rfl, rfl, D2, D1, r, BB⟩ := hrel
  have HG := Lib.hid hg
  clear hg
  by_cases hi : i < T
  ·obtain ⟨gq, rfl⟩ : ∃ z, gk = z + 1 := ⟨gk - 1, by have := HG.out; omega⟩
   have l2 := dg_blen (b := 672) D2 (five_small (by omega))
   have D5 := dg_lit wr (v := 5) (by omega) (by rw [H_eq]; omega)
   have b := below_alloc wr (.cells #[.int .u32 5] 59)
   replace BB := bnx BB b
   have G := mv b rfl (J3 D2 D1 r)
   clear b D2 D1 r
   obtain ⟨D2, D1, r⟩ := G
   go_wp2_with fail
   refine (rmul_any D2 D5 (by omega) (by omega)).mono ?_
   rintro en w2 ⟨A3, n3, c3, rfl, D3, b⟩
   clear D2 D5
   replace BB := bnx BB b
   have G := mv b rfl <| And.intro D1 <| r
   clear b D1 r
   obtain ⟨D1, r⟩ := G
   rw [← Nat.pow_succ] at D3
   go_wp2
   go_roundg gq
   case measure => have := HG.out; omega
   case rel => exact ⟨i + 1, A3, n3, c3, by have := HG.out; omega, by go_num, rfl, D3, D1, r, BB⟩
  obtain rfl : i = T := by have := HG.out; omega
  have l2 := dg_blen (b := 672) D2 (five_small (by omega))
  go_wp2_with fail
  refine (rdiv_any D1 D2 (by omega) (by omega) (Nat.pow_pos (by omega))).mono ?_
  rintro en w3 ⟨A3, n3, c3, A4, n4, c4, rfl, D3, D4, b⟩
  clear D1 D2
  replace BB := bnx BB b
  replace r := mv b rfl r
  clear b
  have hl4 := Rd.len D4
  by_cases hr0 : V % 5 ^ i = 0
  ·have h40 : n4 = 0 := by rw [← hl4, hr0]; exact (dig_len_zero H_two).2 rfl
   have dl : decide (0 < (n4 : Int)) = false := decide_eq_false (by omega)
   have dl2 : decide (0 < n4) = false := decide_eq_false (by omega)
   have l3 := dg_blen (b := 672) D3 (Nat.le_trans (blen_mono (Nat.div_le_self _ _)) H0.out)
   have HF2 := Lib.hid (fits_blen2 (p := 2000) (Nat.le_trans (blen_mono (Nat.div_le_self V (5 ^ i))) H0.out) (by omega))
   have HZ := Lib.hid hr0
   clear hr0 hl4
   clear D4
   go_wp2_with fail
   refine (rwide_any (s := false) (e := -(i : Int)) D3 (by omega) HF2.out ⟨by omega, by omega⟩).mono ?_
   rintro en w4 ⟨k5, s5, A5, n5, c5, m5, e5, rfl, N5, M5, b⟩
   have HN := Lib.hid (exp_down (k := k5) (s := s5) (m := m5) (e := e5) HV.out (by rw [if_pos HZ.out]; exact N5))
   clear N5
   clear D3
   replace BB := bnx BB b
   replace r := mv b rfl r
   clear b
   obtain ⟨f0, f1, f2⟩ := r.open
   obtain ⟨z0, z1, z2⟩ := r.held
   go_wp2
   have qq := r.put s5 A5 n5 c5 e5
   have hN := M5.put3 r (.bool s5) (.slice A5 n5 c5) (.int .i64 e5)
   have HB3 := below_put3 (g := w.heap.size) BB (by omega) (.bool s5) (.slice A5 n5 c5) (.int .i64 e5)
   obtain ⟨z0, z1, z2⟩ := qq.held
   exact bodyPost_ret (v := .tuple #[.agg #[.bool s5, .slice A5 n5 c5, .int .i64 e5], .int .i64 k5]) (by simp [results, Tryz.results9, go_sem, z0, z1, z2]) rfl ⟨_, _, _, _, _, m5, _, rfl, HN.out, hN, HB3⟩
  ·have h40 : n4 ≠ 0 := fun h => hr0 ((dig_len_zero H_two).1 (by rw [hl4]; exact h))
   have dl : decide (0 < (n4 : Int)) = true := decide_eq_true (by omega)
   have dl2 : decide (0 < n4) = true := decide_eq_true (by omega)
   have HN := Lib.hid (exp_down (k := 6) (s := false) (m := 0) (e := 0) HV.out (by rw [if_neg hr0]; exact ⟨rfl, rfl, rfl, rfl⟩))
   clear hr0 hl4
   clear D3 D4
   obtain ⟨f0, f1, f2⟩ := r.open
   obtain ⟨z0, z1, z2⟩ := r.held
   go_wp2
   have qq := r.put false none 0 0 0
   skip
   have HB3 := below_put3 (g := w.heap.size) BB (by omega) (.bool false) (.slice none 0 0) (.int .i64 0)
   obtain ⟨z0, z1, z2⟩ := qq.held
   exact bodyPost_ret (v := .tuple #[.agg #[.bool false, .slice none 0 0, .int .i64 0], .int .i64 6]) (by simp [results, Tryz.results9, go_sem, z0, z1, z2]) rfl ⟨_, _, _, _, _, 0, _, rfl, HN.out, nt_nil _, HB3⟩
end Go.Proofs.YtdhdebapjlcjdaaGreatDoor
set_option maxHeartbeats 8000000
set_option maxRecDepth 100000
namespace Go.Proofs.YtdhdebapjlcjdaaGreatDoor
open Go.RowKit

theorem exp_fun {o : Option (List UInt8 × Int)} {k k2 : Int} {s s2 : Bool} {m m2 : Nat} {e e2 : Int} (h : ExP o k s m e) (h' : ExP o k2 s2 m2 e2) : k = k2 ∧ s = s2 ∧ m = m2 ∧ e = e2 := by
 unfold ExP at h h'
 cases o with
 | none =>
  obtain ⟨rfl, rfl, rfl, rfl⟩ := h
  obtain ⟨rfl, rfl, rfl, rfl⟩ := h'
  exact ⟨rfl, rfl, rfl, rfl⟩
 | some o =>
  obtain ⟨d, t⟩ := o
  dsimp only at h h'
  split at h
  ·rename_i hc
   rw [if_pos hc] at h'
   exact nm_fun h h'
  ·rename_i hc
   rw [if_neg hc] at h'
   obtain ⟨rfl, rfl, rfl, rfl⟩ := h
   obtain ⟨rfl, rfl, rfl, rfl⟩ := h'
   exact ⟨rfl, rfl, rfl, rfl⟩
theorem rexact_any {w : World} {s : ByteArray} (hs : s.size ≤ 100) : Calls Tryz.prog 9 #[.string s] w (Tells (ExP (readD s.data.toList)) w) := by
 cases hr : readD s.data.toList with
 | none => exact rexact_text hs hr
 | some o =>
  obtain ⟨d, t⟩ := o
  by_cases ht : 0 ≤ t
  ·obtain ⟨T, rfl⟩ := Int.eq_ofNat_of_zero_le ht
   exact rexact_up hs hr
  ·obtain ⟨T, hT⟩ : ∃ T : Nat, t = -(T : Int) := ⟨(-t).toNat, by omega⟩
   subst hT
   exact rexact_down hs (by omega) hr
theorem litq_fun {d : List UInt8} {t : Int} {p : Nat} {x y : Iv} (h : LitQ d t p x) (h' : LitQ d t p y) : x = y := by
 obtain ⟨s1, v1, f1, s2, v2, f2, s3, v3, f3, s4, v4, f4, n1, n2, q1, q2, rfl⟩ := h
 obtain ⟨t1, w1, g1, t2, w2, g2, t3, w3, g3, t4, w4, g4, m1, m2, k1, k2, rfl⟩ := h'
 obtain ⟨-, rfl, rfl, rfl⟩ := nm_fun n1 m1
 obtain ⟨-, rfl, rfl, rfl⟩ := nm_fun n2 m2
 unfold QuTold at q1 q2 k1 k2
 obtain ⟨-, rfl, rfl, rfl⟩ := nm_fun q1 k1
 obtain ⟨-, rfl, rfl, rfl⟩ := nm_fun q2 k2
 rfl
theorem samei_refl (x : Iv) : sameI x x = true := sameI_iff.2 rfl
/-- both tell the same of a literal -/
theorem lits_same {w : World} {s : ByteArray} {p : Int} (hE : Errs w) (hT : Tab w) (hs : s.size ≤ 80) (hp : p ≤ 300 ∨ 2000 < p) : ∃ k x, (∀ W1 : World, Errs W1 → Tab W1 → Calls Tryz.prog 6 #[.string s, .int .i64 p] W1 (TellI k x W1)) ∧ ∀ W1 : World, Calls Tryz.prog 7 #[.string s, .int .i64 p] W1 (TellI k x W1) := by
 cases hr : readD s.data.toList with
 | none => exact ⟨6, Iv.zero, fun W1 e t => dlit_text e t hr, fun W1 => rlit_text (by omega) hr⟩
 | some o =>
  obtain ⟨d, t⟩ := o
  by_cases hq : p < 1 ∨ 2000 < p
  ·exact ⟨1, Iv.zero, fun W1 e t => dlit_prec e t hr hq, fun W1 => rlit_prec (by omega) hr hq⟩
  ·obtain ⟨q, rfl⟩ : ∃ q : Nat, p = (q : Int) := ⟨p.toNat, by omega⟩
   obtain ⟨x, hx, _⟩ := dlit_ok (p := q) hE hT hr (by omega) (by omega)
   obtain ⟨hd, hl, _, _⟩ := read_some hr
   refine ⟨0, x, fun W1 e t => ?_, fun W1 => ?_⟩
   ·obtain ⟨y, hy, hc⟩ := dlit_ok (p := q) e t hr (by omega) (by omega)
    obtain rfl := litq_fun hy hx
    exact hc
   ·by_cases ht : 0 ≤ t
    ·obtain ⟨T, rfl⟩ := Int.eq_ofNat_of_zero_le ht
     exact rlit_up (by omega) hr (by omega) (by omega) hx
    ·obtain ⟨T, hT⟩ : ∃ T : Nat, t = -(T : Int) := ⟨(-t).toNat, by omega⟩
     subst hT
     exact rlit_down (by omega) hr (by omega) (by omega) (by omega) hx
theorem asks4_any {w : World} {s : ByteArray} {p : Int} (hE : Errs w) (hT : Tab w) (hP : PowT w) : Calls Tryz.prog 3 #[.string s, .int .i64 p] w fun en w' => ToldEnd w en w' := by
 have BB := Below.refl w.heap.size w
 by_cases hs : 80 < s.size
 ·have d1 : decide ((80 : Int) < (s.size : Int)) = true := decide_eq_true (by omega)
  go_enter Tryz.func3, Tryz.ntmps3
  go_wp2_with fail
  refine (told4_any hE hT hP).mono ?_
  rintro en w99 ⟨rfl, b⟩
  replace BB := bnx BB b
  clear b
  go_wp2
  go_ret
  exact ⟨by first | rfl | simp, BB⟩
 have d1 : decide ((80 : Int) < (s.size : Int)) = false := decide_eq_false (by omega)
 by_cases hp : 300 < p ∧ p ≤ 2000
 ·have d2 : decide (300 < p) = true := decide_eq_true hp.1
  have d3 : decide (p ≤ 2000) = true := decide_eq_true hp.2
  go_enter Tryz.func3, Tryz.ntmps3
  go_wp2_with fail
  refine (told4_any hE hT hP).mono ?_
  rintro en w99 ⟨rfl, b⟩
  replace BB := bnx BB b
  clear b
  go_wp2
  go_ret
  exact ⟨by first | rfl | simp, BB⟩
 obtain ⟨k, x, h1, h2⟩ := lits_same (s := s) (p := p) hE hT (by omega) (by omega)
 have C1 := Lib.hid h1
 have C2 := Lib.hid h2
 have C3 := Lib.hid (fun (W1 : World) (e : Errs W1) (t : Tab W1) => exact_any (s := s) e t)
 have C4 := Lib.hid (fun (W1 : World) => rexact_any (w := W1) (s := s) (by omega))
 have C5 := Lib.hid (fun (W1 : World) (e : Errs W1) => form_any (s := s) e)
 have C6 := Lib.hid (fun (W1 : World) => rform_any (w := W1) (s := s) (by omega))
 clear h1 h2
 obtain ⟨o, ho⟩ : ∃ o, o = readD s.data.toList := ⟨_, rfl⟩
 rw [← ho] at C3 C4 C5 C6
 clear ho
 obtain ⟨fb, hfb⟩ : ∃ fb, fb = o.isSome := ⟨_, rfl⟩
 rw [← hfb] at C5 C6
 clear hfb
 have two : (decide (300 < p) = false) ∨ (decide (300 < p) = true ∧ decide (p ≤ 2000) = false) := by
  by_cases h : 300 < p
  ·exact .inr ⟨decide_eq_true h, decide_eq_false fun h2 => hp ⟨h, h2⟩⟩
  ·exact .inl (decide_eq_false h)
 clear hp
 rcases two with d2 | ⟨d2, d3⟩
 ·go_enter Tryz.func3, Tryz.ntmps3
  go_wp2_with fail
  refine (C1.out _ hE hT).mono ?_
  rintro en w1 ⟨A1, n1, c1, B1, m1, d1, rfl, R1, Q1, b⟩
  clear C1
  replace BB := bnx BB b
  have G := mv b rfl (J3 hE hT hP)
  clear b hE hT hP
  obtain ⟨hE, hT, hP⟩ := G
  obtain ⟨i0, i1, i2, i3, i4, i5⟩ := (Ibx.new w1 x.lo.s A1 n1 c1 x.lo.e x.hi.s B1 m1 d1 x.hi.e).held
  have b := below_alloc w1 (.cells #[.bool x.lo.s, .slice A1 n1 c1, .int .i64 x.lo.e, .bool x.hi.s, .slice B1 m1 d1, .int .i64 x.hi.e] 27)
  replace BB := bnx BB b
  have G := mv b rfl (J5 hE hT hP R1 Q1)
  clear b hE hT hP R1 Q1
  obtain ⟨hE, hT, hP, R1, Q1⟩ := G
  go_wp2_with fail
  refine (C2.out _).mono ?_
  rintro en w2 ⟨A2, n2, c2, B2, m2, d2, rfl, R2, Q2, b⟩
  clear C2
  replace BB := bnx BB b
  have G := mv b rfl (J11 hE hT hP R1 Q1 i0 i1 i2 i3 i4 i5)
  clear b hE hT hP R1 Q1 i0 i1 i2 i3 i4 i5
  obtain ⟨hE, hT, hP, R1, Q1, i0, i1, i2, i3, i4, i5⟩ := G
  obtain ⟨j0, j1, j2, j3, j4, j5⟩ := (Ibx.new w2 x.lo.s A2 n2 c2 x.lo.e x.hi.s B2 m2 d2 x.hi.e).held
  have b := below_alloc w2 (.cells #[.bool x.lo.s, .slice A2 n2 c2, .int .i64 x.lo.e, .bool x.hi.s, .slice B2 m2 d2, .int .i64 x.hi.e] 27)
  replace BB := bnx BB b
  have G := mv b rfl (J13 hE hT hP R1 Q1 i0 i1 i2 i3 i4 i5 R2 Q2)
  clear b hE hT hP R1 Q1 i0 i1 i2 i3 i4 i5 R2 Q2
  obtain ⟨hE, hT, hP, R1, Q1, i0, i1, i2, i3, i4, i5, R2, Q2⟩ := G
  go_wp2_with fail
  refine (C3.out _ hE hT).mono ?_
  rintro en w3 ⟨k3, s3, A3, n3, c3, x3, e3, rfl, P3, N3, b⟩
  have HP3 := Lib.hid P3
  clear P3 C3
  replace BB := bnx BB b
  have G := mv b rfl (J19 hE hT hP R1 Q1 i0 i1 i2 i3 i4 i5 R2 Q2 j0 j1 j2 j3 j4 j5)
  clear b hE hT hP R1 Q1 i0 i1 i2 i3 i4 i5 R2 Q2 j0 j1 j2 j3 j4 j5
  obtain ⟨hE, hT, hP, R1, Q1, i0, i1, i2, i3, i4, i5, R2, Q2, j0, j1, j2, j3, j4, j5⟩ := G
  obtain ⟨u0, u1, u2⟩ := (Box.new w3 s3 A3 n3 c3 e3).held
  have b := below_alloc w3 (.cells #[.bool s3, .slice A3 n3 c3, .int .i64 e3] 25)
  replace BB := bnx BB b
  have G := mv b rfl (J20 hE hT hP R1 Q1 i0 i1 i2 i3 i4 i5 R2 Q2 j0 j1 j2 j3 j4 j5 N3)
  clear b hE hT hP R1 Q1 i0 i1 i2 i3 i4 i5 R2 Q2 j0 j1 j2 j3 j4 j5 N3
  obtain ⟨hE, hT, hP, R1, Q1, i0, i1, i2, i3, i4, i5, R2, Q2, j0, j1, j2, j3, j4, j5, N3⟩ := G
  go_wp2_with fail
  refine (C4.out _).mono ?_
  rintro en w4 ⟨k4, s4, A4, n4, c4, x4, e4, rfl, P4, N4, b⟩
  obtain ⟨rfl, rfl, rfl, rfl⟩ := exp_fun HP3.out P4
  clear P4 HP3 C4
  replace BB := bnx BB b
  have G := mv b rfl (J23 hE hT hP R1 Q1 i0 i1 i2 i3 i4 i5 R2 Q2 j0 j1 j2 j3 j4 j5 N3 u0 u1 u2)
  clear b hE hT hP R1 Q1 i0 i1 i2 i3 i4 i5 R2 Q2 j0 j1 j2 j3 j4 j5 N3 u0 u1 u2
  obtain ⟨hE, hT, hP, R1, Q1, i0, i1, i2, i3, i4, i5, R2, Q2, j0, j1, j2, j3, j4, j5, N3, u0, u1, u2⟩ := G
  obtain ⟨v0, v1, v2⟩ := (Box.new w4 s3 A4 n4 c4 e3).held
  have b := below_alloc w4 (.cells #[.bool s3, .slice A4 n4 c4, .int .i64 e3] 25)
  replace BB := bnx BB b
  have G := mv b rfl (J24 hE hT hP R1 Q1 i0 i1 i2 i3 i4 i5 R2 Q2 j0 j1 j2 j3 j4 j5 N3 u0 u1 u2 N4)
  clear b hE hT hP R1 Q1 i0 i1 i2 i3 i4 i5 R2 Q2 j0 j1 j2 j3 j4 j5 N3 u0 u1 u2 N4
  obtain ⟨hE, hT, hP, R1, Q1, i0, i1, i2, i3, i4, i5, R2, Q2, j0, j1, j2, j3, j4, j5, N3, u0, u1, u2, N4⟩ := G
  go_wp2_with fail
  refine (told4_any hE hT hP).mono ?_
  rintro en w5 ⟨rfl, b⟩
  clear hT hP
  replace BB := bnx BB b
  have G := mv b rfl (J25 hE R1 Q1 i0 i1 i2 i3 i4 i5 R2 Q2 j0 j1 j2 j3 j4 j5 N3 u0 u1 u2 N4 v0 v1 v2)
  clear b hE R1 Q1 i0 i1 i2 i3 i4 i5 R2 Q2 j0 j1 j2 j3 j4 j5 N3 u0 u1 u2 N4 v0 v1 v2
  obtain ⟨hE, R1, Q1, i0, i1, i2, i3, i4, i5, R2, Q2, j0, j1, j2, j3, j4, j5, N3, u0, u1, u2, N4, v0, v1, v2⟩ := G
  go_wp2_with fail
  refine (C5.out _ hE).mono ?_
  rintro en w6 ⟨rfl, b⟩
  clear C5
  clear hE
  replace BB := bnx BB b
  have G := mv b rfl (J24 R1 Q1 i0 i1 i2 i3 i4 i5 R2 Q2 j0 j1 j2 j3 j4 j5 N3 u0 u1 u2 N4 v0 v1 v2)
  clear b R1 Q1 i0 i1 i2 i3 i4 i5 R2 Q2 j0 j1 j2 j3 j4 j5 N3 u0 u1 u2 N4 v0 v1 v2
  obtain ⟨R1, Q1, i0, i1, i2, i3, i4, i5, R2, Q2, j0, j1, j2, j3, j4, j5, N3, u0, u1, u2, N4, v0, v1, v2⟩ := G
  go_wp2_with fail
  refine (C6.out _).mono ?_
  rintro en w7 ⟨rfl, rfl⟩
  clear C6
  have S1 := rsamei_any R1 Q1 R2 Q2
  rw [samei_refl] at S1
  go_wp2_with fail
  refine (S1).mono ?_
  rintro en w8 ⟨rfl, b⟩
  clear R1 Q1 R2 Q2
  replace BB := bnx BB b
  have G := mv b rfl (J20 i0 i1 i2 i3 i4 i5 j0 j1 j2 j3 j4 j5 N3 u0 u1 u2 N4 v0 v1 v2)
  clear b i0 i1 i2 i3 i4 i5 j0 j1 j2 j3 j4 j5 N3 u0 u1 u2 N4 v0 v1 v2
  obtain ⟨i0, i1, i2, i3, i4, i5, j0, j1, j2, j3, j4, j5, N3, u0, u1, u2, N4, v0, v1, v2⟩ := G
  go_wp2_with fail
  refine (rsame_self N3 N4).mono ?_
  rintro en w9 ⟨rfl, b⟩
  clear N3 N4
  replace BB := bnx BB b
  have G := mv b rfl (J18 i0 i1 i2 i3 i4 i5 j0 j1 j2 j3 j4 j5 u0 u1 u2 v0 v1 v2)
  clear b i0 i1 i2 i3 i4 i5 j0 j1 j2 j3 j4 j5 u0 u1 u2 v0 v1 v2
  obtain ⟨i0, i1, i2, i3, i4, i5, j0, j1, j2, j3, j4, j5, u0, u1, u2, v0, v1, v2⟩ := G
  go_wp2
  go_ret
  exact ⟨by first | rfl | simp, BB⟩
 ·go_enter Tryz.func3, Tryz.ntmps3
  go_wp2_with fail
  refine (C1.out _ hE hT).mono ?_
  rintro en w1 ⟨A1, n1, c1, B1, m1, d1, rfl, R1, Q1, b⟩
  clear C1
  replace BB := bnx BB b
  have G := mv b rfl (J3 hE hT hP)
  clear b hE hT hP
  obtain ⟨hE, hT, hP⟩ := G
  obtain ⟨i0, i1, i2, i3, i4, i5⟩ := (Ibx.new w1 x.lo.s A1 n1 c1 x.lo.e x.hi.s B1 m1 d1 x.hi.e).held
  have b := below_alloc w1 (.cells #[.bool x.lo.s, .slice A1 n1 c1, .int .i64 x.lo.e, .bool x.hi.s, .slice B1 m1 d1, .int .i64 x.hi.e] 27)
  replace BB := bnx BB b
  have G := mv b rfl (J5 hE hT hP R1 Q1)
  clear b hE hT hP R1 Q1
  obtain ⟨hE, hT, hP, R1, Q1⟩ := G
  go_wp2_with fail
  refine (C2.out _).mono ?_
  rintro en w2 ⟨A2, n2, c2, B2, m2, d2, rfl, R2, Q2, b⟩
  clear C2
  replace BB := bnx BB b
  have G := mv b rfl (J11 hE hT hP R1 Q1 i0 i1 i2 i3 i4 i5)
  clear b hE hT hP R1 Q1 i0 i1 i2 i3 i4 i5
  obtain ⟨hE, hT, hP, R1, Q1, i0, i1, i2, i3, i4, i5⟩ := G
  obtain ⟨j0, j1, j2, j3, j4, j5⟩ := (Ibx.new w2 x.lo.s A2 n2 c2 x.lo.e x.hi.s B2 m2 d2 x.hi.e).held
  have b := below_alloc w2 (.cells #[.bool x.lo.s, .slice A2 n2 c2, .int .i64 x.lo.e, .bool x.hi.s, .slice B2 m2 d2, .int .i64 x.hi.e] 27)
  replace BB := bnx BB b
  have G := mv b rfl (J13 hE hT hP R1 Q1 i0 i1 i2 i3 i4 i5 R2 Q2)
  clear b hE hT hP R1 Q1 i0 i1 i2 i3 i4 i5 R2 Q2
  obtain ⟨hE, hT, hP, R1, Q1, i0, i1, i2, i3, i4, i5, R2, Q2⟩ := G
  go_wp2_with fail
  refine (C3.out _ hE hT).mono ?_
  rintro en w3 ⟨k3, s3, A3, n3, c3, x3, e3, rfl, P3, N3, b⟩
  have HP3 := Lib.hid P3
  clear P3 C3
  replace BB := bnx BB b
  have G := mv b rfl (J19 hE hT hP R1 Q1 i0 i1 i2 i3 i4 i5 R2 Q2 j0 j1 j2 j3 j4 j5)
  clear b hE hT hP R1 Q1 i0 i1 i2 i3 i4 i5 R2 Q2 j0 j1 j2 j3 j4 j5
  obtain ⟨hE, hT, hP, R1, Q1, i0, i1, i2, i3, i4, i5, R2, Q2, j0, j1, j2, j3, j4, j5⟩ := G
  obtain ⟨u0, u1, u2⟩ := (Box.new w3 s3 A3 n3 c3 e3).held
  have b := below_alloc w3 (.cells #[.bool s3, .slice A3 n3 c3, .int .i64 e3] 25)
  replace BB := bnx BB b
  have G := mv b rfl (J20 hE hT hP R1 Q1 i0 i1 i2 i3 i4 i5 R2 Q2 j0 j1 j2 j3 j4 j5 N3)
  clear b hE hT hP R1 Q1 i0 i1 i2 i3 i4 i5 R2 Q2 j0 j1 j2 j3 j4 j5 N3
  obtain ⟨hE, hT, hP, R1, Q1, i0, i1, i2, i3, i4, i5, R2, Q2, j0, j1, j2, j3, j4, j5, N3⟩ := G
  go_wp2_with fail
  refine (C4.out _).mono ?_
  rintro en w4 ⟨k4, s4, A4, n4, c4, x4, e4, rfl, P4, N4, b⟩
  obtain ⟨rfl, rfl, rfl, rfl⟩ := exp_fun HP3.out P4
  clear P4 HP3 C4
  replace BB := bnx BB b
  have G := mv b rfl (J23 hE hT hP R1 Q1 i0 i1 i2 i3 i4 i5 R2 Q2 j0 j1 j2 j3 j4 j5 N3 u0 u1 u2)
  clear b hE hT hP R1 Q1 i0 i1 i2 i3 i4 i5 R2 Q2 j0 j1 j2 j3 j4 j5 N3 u0 u1 u2
  obtain ⟨hE, hT, hP, R1, Q1, i0, i1, i2, i3, i4, i5, R2, Q2, j0, j1, j2, j3, j4, j5, N3, u0, u1, u2⟩ := G
  obtain ⟨v0, v1, v2⟩ := (Box.new w4 s3 A4 n4 c4 e3).held
  have b := below_alloc w4 (.cells #[.bool s3, .slice A4 n4 c4, .int .i64 e3] 25)
  replace BB := bnx BB b
  have G := mv b rfl (J24 hE hT hP R1 Q1 i0 i1 i2 i3 i4 i5 R2 Q2 j0 j1 j2 j3 j4 j5 N3 u0 u1 u2 N4)
  clear b hE hT hP R1 Q1 i0 i1 i2 i3 i4 i5 R2 Q2 j0 j1 j2 j3 j4 j5 N3 u0 u1 u2 N4
  obtain ⟨hE, hT, hP, R1, Q1, i0, i1, i2, i3, i4, i5, R2, Q2, j0, j1, j2, j3, j4, j5, N3, u0, u1, u2, N4⟩ := G
  go_wp2_with fail
  refine (told4_any hE hT hP).mono ?_
  rintro en w5 ⟨rfl, b⟩
  clear hT hP
  replace BB := bnx BB b
  have G := mv b rfl (J25 hE R1 Q1 i0 i1 i2 i3 i4 i5 R2 Q2 j0 j1 j2 j3 j4 j5 N3 u0 u1 u2 N4 v0 v1 v2)
  clear b hE R1 Q1 i0 i1 i2 i3 i4 i5 R2 Q2 j0 j1 j2 j3 j4 j5 N3 u0 u1 u2 N4 v0 v1 v2
  obtain ⟨hE, R1, Q1, i0, i1, i2, i3, i4, i5, R2, Q2, j0, j1, j2, j3, j4, j5, N3, u0, u1, u2, N4, v0, v1, v2⟩ := G
  go_wp2_with fail
  refine (C5.out _ hE).mono ?_
  rintro en w6 ⟨rfl, b⟩
  clear C5
  clear hE
  replace BB := bnx BB b
  have G := mv b rfl (J24 R1 Q1 i0 i1 i2 i3 i4 i5 R2 Q2 j0 j1 j2 j3 j4 j5 N3 u0 u1 u2 N4 v0 v1 v2)
  clear b R1 Q1 i0 i1 i2 i3 i4 i5 R2 Q2 j0 j1 j2 j3 j4 j5 N3 u0 u1 u2 N4 v0 v1 v2
  obtain ⟨R1, Q1, i0, i1, i2, i3, i4, i5, R2, Q2, j0, j1, j2, j3, j4, j5, N3, u0, u1, u2, N4, v0, v1, v2⟩ := G
  go_wp2_with fail
  refine (C6.out _).mono ?_
  rintro en w7 ⟨rfl, rfl⟩
  clear C6
  have S1 := rsamei_any R1 Q1 R2 Q2
  rw [samei_refl] at S1
  go_wp2_with fail
  refine (S1).mono ?_
  rintro en w8 ⟨rfl, b⟩
  clear R1 Q1 R2 Q2
  replace BB := bnx BB b
  have G := mv b rfl (J20 i0 i1 i2 i3 i4 i5 j0 j1 j2 j3 j4 j5 N3 u0 u1 u2 N4 v0 v1 v2)
  clear b i0 i1 i2 i3 i4 i5 j0 j1 j2 j3 j4 j5 N3 u0 u1 u2 N4 v0 v1 v2
  obtain ⟨i0, i1, i2, i3, i4, i5, j0, j1, j2, j3, j4, j5, N3, u0, u1, u2, N4, v0, v1, v2⟩ := G
  go_wp2_with fail
  refine (rsame_self N3 N4).mono ?_
  rintro en w9 ⟨rfl, b⟩
  clear N3 N4
  replace BB := bnx BB b
  have G := mv b rfl (J18 i0 i1 i2 i3 i4 i5 j0 j1 j2 j3 j4 j5 u0 u1 u2 v0 v1 v2)
  clear b i0 i1 i2 i3 i4 i5 j0 j1 j2 j3 j4 j5 u0 u1 u2 v0 v1 v2
  obtain ⟨i0, i1, i2, i3, i4, i5, j0, j1, j2, j3, j4, j5, u0, u1, u2, v0, v1, v2⟩ := G
  go_wp2
  go_ret
  exact ⟨by first | rfl | simp, BB⟩
end Go.Proofs.YtdhdebapjlcjdaaGreatDoor
