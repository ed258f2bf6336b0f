/-
 Known answers of decimals; contract of the statements' own told of layer 4, at this translation: it returns true. Conditions: the two tables, and the two errors of strconv, lie as their texts lay them.
-/
import Derived.Test.YtdhdebapjlcjdaaGreatDoorQKx
import Derived.Test.YtdhdebapjlcjdaaGreatDoorQKj
set_option maxHeartbeats 8000000
set_option maxRecDepth 100000
namespace Go.Proofs.YtdhdebapjlcjdaaGreatDoor
open Go.RowKit

theorem lt_W64 {m : Nat} (h : m < 18446744073709551616) : m < W ^ 64 := Nat.lt_of_lt_of_le (by rw [W_eq]; exact h) (Nat.le_self_pow (by omega) W)
theorem decD_12 : decD 12 = [1, 2] := by rw [decD_pos (by decide), show 12 / 10 = 1 from rfl, decD_pos (by decide), show 1 / 10 = 0 from rfl, decD_zero]; rfl
theorem decD_13 : decD 13 = [1, 3] := by rw [decD_pos (by decide), show 13 / 10 = 1 from rfl, decD_pos (by decide), show 1 / 10 = 0 from rfl, decD_zero]; rfl
theorem val_one : val W [1] = 1 := by rw [val_cons, val_nil, Nat.mul_zero]
theorem text_k (s : Bool) : textK s [1] (-3) 2 = 0 := by
 unfold textK
 rw [if_pos ⟨by cases s <;> decide, by decide, by decide⟩, if_pos (by decide)]
theorem text_q (s up : Bool) : textQ s 1 (-3) 2 up = if (up != s) = true then 13 else 12 := by cases s <;> cases up <;> rfl
theorem text_12 (up : Bool) : textS false [1] (-3) 2 up = if up = true then [48, 46, 49, 51] else [48, 46, 49, 50] := by
 unfold textS textT padT
 rw [text_k, if_pos rfl, val_one, show (2 : Int).toNat = 2 from rfl, text_q]
 cases up
 ·show _ ++ pointT 2 (asc (List.replicate (2 + 1 - (decD 12).length) 0 ++ decD 12)) = _
  rw [decD_12]
  rfl
 ·show _ ++ pointT 2 (asc (List.replicate (2 + 1 - (decD 13).length) 0 ++ decD 13)) = _
  rw [decD_13]
  rfl
theorem text_m13 : textS true [1] (-3) 2 false = [45, 48, 46, 49, 51] := by
 unfold textS textT padT
 rw [text_k, if_pos rfl, val_one, show (2 : Int).toNat = 2 from rfl, text_q]
 show _ ++ pointT 2 (asc (List.replicate (2 + 1 - (decD 13).length) 0 ++ decD 13)) = _
 rw [decD_13]
 rfl
theorem dig_w1 : dig W 1 = [1] := dig_one (by omega) (by rw [W_eq]; omega)
theorem text_e {w : World} {A : Option Addr} {n c : Nat} {up : Bool} (hT : Tab w) (hP : PowT w) (h : Nt w A n c 1) : Calls Tryz.prog 14 #[.agg #[.bool false, .slice A n c, .int .i64 (-3)], .int .i64 2, .bool up] w fun en w' => en = .returned (.tuple #[.string ⟨if up = true then #[48, 46, 49, 51] else #[48, 46, 49, 50]⟩, .int .i64 0]) ∧ Below w.heap.size w w' := by
 have h1 : Rd w .u64 W A n c [1] := by rw [← dig_w1]; exact h.rd
 have := dtext_any (s := false) (e := -3) (N := 2) (up := up) hT hP h1
 rw [text_12, text_k] at this
 cases up <;> exact this
theorem text_m {w : World} {A : Option Addr} {n c : Nat} (hT : Tab w) (hP : PowT w) (h : Nt w A n c 1) : Calls Tryz.prog 14 #[.agg #[.bool true, .slice A n c, .int .i64 (-3)], .int .i64 2, .bool false] w fun en w' => en = .returned (.tuple #[.string ⟨#[45, 48, 46, 49, 51]⟩, .int .i64 0]) ∧ Below w.heap.size w w' := by
 have h1 : Rd w .u64 W A n c [1] := by rw [← dig_w1]; exact h.rd
 have := dtext_any (s := true) (e := -3) (N := 2) (up := false) hT hP h1
 rw [text_m13, text_k] at this
 exact this
theorem okd_e (s : Bool) : OkD s 1 (-3) := .inr ⟨rfl, small64 (by omega), by decide, by decide⟩
theorem exact_125 {w : World} (hE : Errs w) (hT : Tab w) : Calls Tryz.prog 8 #[.string ⟨#[48, 46, 49, 50, 53]⟩] w (ToldIs false 1 (-3) 0 w) :=
 (exact_any hE hT).mono fun _ _ hh => told_is hh fun k1 s1 m1 e1 h => by
  rw [show readD (ByteArray.mk #[48, 46, 49, 50, 53]).data.toList = some ([48, 49, 50, 53], -3) by decide] at h
  unfold ExP at h
  dsimp only at h
  rw [if_pos (by decide), show numV [48, 49, 50, 53] * 5 ^ (-3 : Int).toNat / 5 ^ (-(-3 : Int)).toNat = 1 by decide] at h
  exact nm_fun h (nm_self (okd_e false))
theorem exact_01 {w : World} (hE : Errs w) (hT : Tab w) : Calls Tryz.prog 8 #[.string ⟨#[48, 46, 49]⟩] w (ToldIs false 0 0 6 w) :=
 (exact_any hE hT).mono fun _ _ hh => told_is hh fun k1 s1 m1 e1 h => by
  rw [show readD (ByteArray.mk #[48, 46, 49]).data.toList = some ([48, 49], -1) by decide] at h
  unfold ExP at h
  dsimp only at h
  rwa [if_neg (by decide)] at h
theorem okd_lo : OkD false 209715 (-21) := .inr ⟨rfl, lt_W64 (by decide), by decide, by decide⟩
theorem okd_hi : OkD false 838861 (-23) := .inr ⟨rfl, lt_W64 (by decide), by decide, by decide⟩
theorem quot_tenth {up : Bool} {k : Int} {s : Bool} {m : Nat} {e : Int} (h : QuTold false 1 (-1) false 5 0 20 up k s m e) : if up = true then s = false ∧ m = 838861 ∧ e = -23 else s = false ∧ m = 209715 ∧ e = -21 := by
 have b1 : blen 1 = 1 := blen_eq (k := 0) (by decide) (by decide)
 have b5 : blen 5 = 3 := blen_eq (k := 2) (by decide) (by decide)
 have bq : blen 838860 = 20 := blen_eq (k := 19) (by decide) (by decide)
 have eq : 1 * 2 ^ kUp 20 1 5 / (5 * 2 ^ kDn 20 1 5) = 838860 := by unfold kUp kDn; rw [b1, b5]
 have er : (!decide (1 * 2 ^ kUp 20 1 5 % (5 * 2 ^ kDn 20 1 5) = 0)) = true := by unfold kUp kDn; rw [b1, b5]; rfl
 unfold QuTold at h
 rw [eq, er, bq, b1, b5] at h
 cases up
 ·have e1 : cutR 20 838860 true (false != (false != false)) = 2 ^ 2 * (2 * 104857 + 1) := by unfold cutR; rw [bq]; rfl
  rw [e1] at h
  have := nm_fun h (.inr ⟨2, 104857, rfl, .inr (.inr ⟨lt_W64 (by decide), by decide, rfl, rfl, rfl, rfl⟩)⟩)
  exact ⟨this.2.1, this.2.2.1, this.2.2.2⟩
 ·have e1 : cutR 20 838860 true (true != (false != false)) = 2 ^ 0 * (2 * 419430 + 1) := by unfold cutR; rw [bq]; rfl
  rw [e1] at h
  have := nm_fun h (.inr ⟨0, 419430, rfl, .inr (.inr ⟨lt_W64 (by decide), by decide, rfl, rfl, rfl, rfl⟩)⟩)
  exact ⟨this.2.1, this.2.2.1, this.2.2.2⟩
theorem okd_five : OkD false 5 0 := okd_small rfl (by omega) (by decide) (by decide)
theorem lit_tenth {w : World} (hE : Errs w) (hT : Tab w) : Calls Tryz.prog 6 #[.string ⟨#[48, 46, 49]⟩, .int .i64 20] w fun en w' => ∃ A n c B m d, en = .returned (.tuple #[.agg #[.bool false, .slice A n c, .int .i64 (-21), .bool false, .slice B m d, .int .i64 (-23)], .int .i64 0]) ∧ Nt w' A n c 209715 ∧ Nt w' B m d 838861 ∧ Below w.heap.size w w' := by
 obtain ⟨x, ⟨s1, v1, f1, s2, v2, f2, s3, v3, f3, s4, v4, f4, h1, h2, h3, h4, rfl⟩, hc⟩ := dlit_ok (s := ⟨#[48, 46, 49]⟩) (p := 20) (d := [48, 49]) (t := -1) hE hT (by decide) (by decide) (by decide)
 rw [show numV [48, 49] * 5 ^ (-1 : Int).toNat = 1 by decide] at h1
 rw [show 5 ^ (-(-1 : Int)).toNat = 5 by decide] at h2
 obtain ⟨-, rfl, rfl, rfl⟩ := nm_fun h1 (nm_self (.inr ⟨rfl, small64 (by omega), by decide, by decide⟩ : OkD false 1 (-1)))
 obtain ⟨-, rfl, rfl, rfl⟩ := nm_fun h2 (nm_self okd_five)
 obtain ⟨rfl, rfl, rfl⟩ := quot_tenth h3
 obtain ⟨rfl, rfl, rfl⟩ := quot_tenth h4
 exact hc.mono fun _ _ ⟨A, n, c, B, m, d, e, h1, h2, b⟩ => ⟨A, n, c, B, m, d, e, ⟨h1, lt_W64 (by decide)⟩, ⟨h2, lt_W64 (by decide)⟩, b⟩
theorem cmp_tenth {K : Nat} (hK : 4194304 ≤ K) : cmpV (vz K false 209715 (-21)) (vz K false 838861 (-23)) = -1 := by
 have h1 := vz_up (K := K) (s := false) (m := 209715) (e := -23) (by omega) 2
 have h2 : vz K false (209715 * 2 ^ 2 + 1) (-23) = vz K false (209715 * 2 ^ 2) (-23) + vz K false 1 (-23) := vz_add
 have h3 := (vz_pos (K := K) (s := false) (x := 1) (e := -23) (by omega)).1 rfl
 rw [show (-23 : Int) + ((2 : Nat) : Int) = -21 from rfl] at h1
 rw [show 209715 * 2 ^ 2 + 1 = 838861 from rfl, ← h1] at h2
 rcases cmpV_cases (vz K false 209715 (-21)) (vz K false 838861 (-23)) with ⟨h, _⟩ | ⟨_, h⟩ | ⟨_, h⟩
 ·exact h
 ·omega
 ·omega
theorem form_a {w : World} (hE : Errs w) : Calls Tryz.prog 10 #[.string ⟨#[49, 46, 53, 101, 45, 51]⟩] w (Bools true w) := by
 have := form_any (s := ⟨#[49, 46, 53, 101, 45, 51]⟩) hE
 rwa [show (readD (ByteArray.mk #[49, 46, 53, 101, 45, 51]).data.toList).isSome = true by decide] at this
theorem form_b {w : World} (hE : Errs w) : Calls Tryz.prog 10 #[.string ⟨#[49, 46]⟩] w (Bools false w) := by
 have := form_any (s := ⟨#[49, 46]⟩) hE
 rwa [show (readD (ByteArray.mk #[49, 46]).data.toList).isSome = false by decide] at this
theorem form_c {w : World} (hE : Errs w) : Calls Tryz.prog 10 #[.string ⟨#[46, 53]⟩] w (Bools false w) := by
 have := form_any (s := ⟨#[46, 53]⟩) hE
 rwa [show (readD (ByteArray.mk #[46, 53]).data.toList).isSome = false by decide] at this
theorem form_d {w : World} (hE : Errs w) : Calls Tryz.prog 10 #[.string ⟨#[49, 101, 49, 48, 49]⟩] w (Bools false w) := by
 have := form_any (s := ⟨#[49, 101, 49, 48, 49]⟩) hE
 rwa [show (readD (ByteArray.mk #[49, 101, 49, 48, 49]).data.toList).isSome = false by decide] at this
theorem form_e {w : World} (hE : Errs w) : Calls Tryz.prog 10 #[.string ⟨#[]⟩] w (Bools false w) := by
 have := form_any (s := ⟨#[]⟩) hE
 rwa [show (readD (ByteArray.mk #[]).data.toList).isSome = false by decide] at this
theorem told4_any {w : World} (hE : Errs w) (hT : Tab w) (hP : PowT w) : Calls Tryz.prog 5 #[] w (Bools true w) := by
 have N1 : Nt (w.alloc (.cells #[.int .u64 1] 38)) (some ⟨w.heap.size, 0, none⟩) 1 1 1 := nt_one_at (v := 1) rfl (by omega) (by omega)
 have BB := two_below w (.cells #[.int .u64 1] 38) (.cells #[.bool false, .slice (some ⟨w.heap.size, 0, none⟩) 1 1, .int .i64 (-3)] 25)
 have N0 := N1.below (below_alloc _ (.cells #[.bool false, .slice (some ⟨w.heap.size, 0, none⟩) 1 1, .int .i64 (-3)] 25))
 have x := box_one w (.cells #[.int .u64 1] 38) false (some ⟨w.heap.size, 0, none⟩) 1 1 (-3)
 have E1 := mv BB rfl <| And.intro hE <| And.intro hT hP
 clear hE hT hP N1
 obtain ⟨hE, hT, hP⟩ := E1
 obtain ⟨x0, x1, x2⟩ := x.held
 go_enter Tryz.func5, Tryz.ntmps5
 go_wp2_with fail
 refine (text_e (up := false) hT hP N0).mono ?_
 rintro en v1 ⟨rfl, b⟩
 replace BB := bnx BB b
 have G := mv b rfl (J7 hE hT hP N0 x0 x1 x2)
 clear b hE hT hP N0 x0 x1 x2
 obtain ⟨hE, hT, hP, N0, x0, x1, x2⟩ := G
 go_wp2_with fail
 refine (text_e (up := true) hT hP N0).mono ?_
 rintro en v2 ⟨rfl, b⟩
 replace BB := bnx BB b
 have G := mv b rfl (J7 hE hT hP N0 x0 x1 x2)
 clear b hE hT hP N0 x0 x1 x2
 obtain ⟨hE, hT, hP, N0, x0, x1, x2⟩ := G
 go_wp2_with fail
 refine (dneg_any hT N0 (okd_e false)).mono ?_
 rintro en v3 ⟨A3, n3, c3, rfl, N3, b⟩
 replace BB := bnx BB b
 have G := mv b rfl (J7 hE hT hP N0 x0 x1 x2)
 clear b hE hT hP N0 x0 x1 x2
 obtain ⟨hE, hT, hP, N0, x0, x1, x2⟩ := G
 go_wp2_with fail
 refine (text_m hT hP N3).mono ?_
 rintro en v4 ⟨rfl, b⟩
 replace BB := bnx BB b
 have G := mv b rfl (J8 hE hT hP N0 x0 x1 x2 N3)
 clear b hE hT hP N0 x0 x1 x2 N3
 obtain ⟨hE, hT, hP, N0, x0, x1, x2, N3⟩ := G
 go_wp2_with fail
 refine (exact_125 hE hT).mono ?_
 rintro en v5 ⟨A5, n5, c5, rfl, N5, b⟩
 replace BB := bnx BB b
 have G := mv b rfl (J8 hE hT hP N0 x0 x1 x2 N3)
 clear b hE hT hP N0 x0 x1 x2 N3
 obtain ⟨hE, hT, hP, N0, x0, x1, x2, N3⟩ := G
 obtain ⟨y0, y1, y2⟩ := (Box.new v5 false A5 n5 c5 (-3)).held
 have b := below_alloc v5 (.cells #[.bool false, .slice A5 n5 c5, .int .i64 (-3)] 25)
 replace BB := bnx BB b
 have G := mv b rfl (J9 hE hT hP N0 x0 x1 x2 N3 N5)
 clear b hE hT hP N0 x0 x1 x2 N3 N5
 obtain ⟨hE, hT, hP, N0, x0, x1, x2, N3, N5⟩ := G
 go_wp2_with fail
 refine (exact_01 hE hT).mono ?_
 rintro en v6 ⟨A6, n6, c6, rfl, N6, b⟩
 replace BB := bnx BB b
 have G := mv b rfl (J12 hE hT hP N0 x0 x1 x2 N3 N5 y0 y1 y2)
 clear b hE hT hP N0 x0 x1 x2 N3 N5 y0 y1 y2
 obtain ⟨hE, hT, hP, N0, x0, x1, x2, N3, N5, y0, y1, y2⟩ := G
 obtain ⟨z0, z1, z2⟩ := (Box.new v6 false A6 n6 c6 0).held
 have b := below_alloc v6 (.cells #[.bool false, .slice A6 n6 c6, .int .i64 0] 25)
 replace BB := bnx BB b
 have G := mv b rfl (J13 hE hT hP N0 x0 x1 x2 N3 N5 y0 y1 y2 N6)
 clear b hE hT hP N0 x0 x1 x2 N3 N5 y0 y1 y2 N6
 obtain ⟨hE, hT, hP, N0, x0, x1, x2, N3, N5, y0, y1, y2, N6⟩ := G
 go_wp2_with fail
 refine (lit_tenth hE hT).mono ?_
 rintro en v7 ⟨A7, n7, c7, A8, n8, c8, rfl, N7, N8, b⟩
 replace BB := bnx BB b
 have G := mv b rfl (J16 hE hT hP N0 x0 x1 x2 N3 N5 y0 y1 y2 N6 z0 z1 z2)
 clear b hE hT hP N0 x0 x1 x2 N3 N5 y0 y1 y2 N6 z0 z1 z2
 obtain ⟨hE, hT, hP, N0, x0, x1, x2, N3, N5, y0, y1, y2, N6, z0, z1, z2⟩ := G
 obtain ⟨i0, i1, i2, i3, i4, i5⟩ := (Ibx.new v7 false A7 n7 c7 (-21) false A8 n8 c8 (-23)).held
 have b := below_alloc v7 (.cells #[.bool false, .slice A7 n7 c7, .int .i64 (-21), .bool false, .slice A8 n8 c8, .int .i64 (-23)] 27)
 clear N3 N6 z0 z1 z2
 replace BB := bnx BB b
 have G := mv b rfl (J13 hE hT hP N0 x0 x1 x2 N5 y0 y1 y2 N7 N8)
 clear b hE hT hP N0 x0 x1 x2 N5 y0 y1 y2 N7 N8
 obtain ⟨hE, hT, hP, N0, x0, x1, x2, N5, y0, y1, y2, N7, N8⟩ := G
 go_wp2_with fail
 refine (dsame_self N5 N0).mono ?_
 rintro en v8 ⟨rfl, b⟩
 clear N5 N0 y0 y1 y2 x0 x1 x2
 replace BB := bnx BB b
 have G := mv b rfl (J11 hE hT hP N7 N8 i0 i1 i2 i3 i4 i5)
 clear b hE hT hP N7 N8 i0 i1 i2 i3 i4 i5
 obtain ⟨hE, hT, hP, N7, N8, i0, i1, i2, i3, i4, i5⟩ := G
 go_wp2_with fail
 refine (dcmp_is (K := 4194304) (by decide) hT N7 N8 okd_lo okd_hi (cmp_tenth (by decide))).mono ?_
 rintro en v9 ⟨rfl, b⟩
 clear N7 N8 i0 i1 i2 i3 i4 i5 hT hP
 replace BB := bnx BB b
 replace hE := mv b rfl hE
 clear b
 go_wp2_with fail
 refine (form_a hE).mono ?_
 rintro en u0 ⟨rfl, b⟩
 replace BB := bnx BB b
 replace hE := mv b rfl hE
 clear b
 go_wp2_with fail
 refine (form_b hE).mono ?_
 rintro en u1 ⟨rfl, b⟩
 replace BB := bnx BB b
 replace hE := mv b rfl hE
 clear b
 go_wp2_with fail
 refine (form_c hE).mono ?_
 rintro en u2 ⟨rfl, b⟩
 replace BB := bnx BB b
 replace hE := mv b rfl hE
 clear b
 go_wp2_with fail
 refine (form_d hE).mono ?_
 rintro en u3 ⟨rfl, b⟩
 replace BB := bnx BB b
 replace hE := mv b rfl hE
 clear b
 go_wp2_with fail
 refine (form_e hE).mono ?_
 rintro en u4 ⟨rfl, b⟩
 clear hE
 replace BB := bnx BB b
 clear b
 go_wp2
 go_ret
 exact ⟨by first | rfl | simp, BB⟩
end Go.Proofs.YtdhdebapjlcjdaaGreatDoor
