/-
 Contracts of expo's bounds, next and power, at 1 with 40 bits, at this translation's numbers, at this translation. Condition: the slices read as limbs, the table of math/bits reads as its text lays it.
-/
import Derived.Test.YtldbafifgkobcaaGreatDoorQEd
import Derived.Test.YtldbafifgkobcaaGreatDoorQEc
set_option maxHeartbeats 8000000
set_option maxRecDepth 100000
namespace Go.Proofs.YtldbafifgkobcaaGreatDoor
open Go.RowKit

/-- squared once, rounded -/
def qStep (q : Nat) (s : Nat × Nat) : Nat × Nat := (s.1 * s.1 / 2 ^ q, upN (s.2 * s.2) q)
def qIt (q : Nat) (s : Nat × Nat) : Nat → Nat × Nat
 | 0 => s
 | i + 1 => qStep q (qIt q s i)
def SqC (q : Nat) (s : Nat × Nat) : Prop := s.1 * s.1 < W ^ 64 ∧ s.2 * s.2 < W ^ 64 ∧ s.2 * s.2 ≠ 0 ∧ s.2 * s.2 / 2 ^ q + 1 < W ^ 64
theorem bits_1 {w : World} {A : Option Addr} {n c : Nat} (hT : Tab w) (h : Nt w A n c 1) : Calls Tryz.prog 22 #[.agg #[.bool false, .slice A n c, .int .i64 0]] w (Ints 1 w) := by
 have hb : blen 1 = 1 := blen_eq (k := 0) (by decide) (by decide)
 have := bits_ok hT h okd_1
 rwa [hb] at this

theorem ebounds_1 {w : World} {A1 : Option Addr} {n1 c1 : Nat} {X m3 m4 : Nat} {s3 s4 : Bool} {e3 e4 : Int} (hT : Tab w) (h1 : Nt w A1 n1 c1 1) (hx : 1 * 2 ^ 31 = X) (hs : ∀ j, j < 4 → SumC X X 40 (j + 1) (sIt X X 40 j)) (he : ∀ j, j < 4 → ((sIt X X 40 (j + 1)).2.1 = 1 ↔ j + 1 = 4)) (hf : (sIt X X 40 4).2.2.2 + (sIt X X 40 4).2.1 < W ^ 64) (hq : ∀ j, j < 9 → SqC 40 (qIt 40 ((sIt X X 40 4).2.2.1, (sIt X X 40 4).2.2.2 + (sIt X X 40 4).2.1) j))
  (hn1 : Nm false (qIt 40 ((sIt X X 40 4).2.2.1, (sIt X X 40 4).2.2.2 + (sIt X X 40 4).2.1) 9).1 (-((40 : Nat) : Int)) 0 s3 m3 e3) (hn2 : Nm false (qIt 40 ((sIt X X 40 4).2.2.1, (sIt X X 40 4).2.2.2 + (sIt X X 40 4).2.1) 9).2 (-((40 : Nat) : Int)) 0 s4 m4 e4) :
  Calls Tryz.prog 92 #[.agg #[.bool false, .slice A1 n1 c1, .int .i64 0], .int .i64 40] w (BetIs s3 m3 e3 s4 m4 e4 w) := by
 have BB := two_below w (.cells #[.bool false, .slice A1 n1 c1, .int .i64 0] 24) (.cells #[.bool false, .slice none 0 0, .int .i64 0, .bool false, .slice none 0 0, .int .i64 0] 33)
 have xa := (Box.new w false A1 n1 c1 0).alloc (.cells #[.bool false, .slice none 0 0, .int .i64 0, .bool false, .slice none 0 0, .int .i64 0] 33)
 have r := ibx_one w (.cells #[.bool false, .slice A1 n1 c1, .int .i64 0] 24) false none 0 0 0 false none 0 0 0
 obtain ⟨a0, a1, a2⟩ := xa.held
 have HX := Lib.hid hx
 have HS := Lib.hid (And.intro hs (And.intro he hf))
 have HQ := Lib.hid hq
 have HN := Lib.hid (And.intro hn1 hn2)
 clear hx hs he hf hq hn1 hn2
 have G := mv BB rfl <| And.intro hT <| h1
 clear hT h1
 obtain ⟨hT, h1⟩ := G
 have X0 := xa
 go_enter Tryz.func92, Tryz.ntmps92
 go_wp2_with fail
 have b : Below ((w.alloc (.cells #[.bool false, .slice A1 n1 c1, .int .i64 0] 24)).alloc (.cells #[.bool false, .slice none 0 0, .int .i64 0, .bool false, .slice none 0 0, .int .i64 0] 33)).heap.size ((w.alloc (.cells #[.bool false, .slice A1 n1 c1, .int .i64 0] 24)).alloc (.cells #[.bool false, .slice none 0 0, .int .i64 0, .bool false, .slice none 0 0, .int .i64 0] 33)) (World.drew ((w.alloc (.cells #[.bool false, .slice A1 n1 c1, .int .i64 0] 24)).alloc (.cells #[.bool false, .slice none 0 0, .int .i64 0, .bool false, .slice none 0 0, .int .i64 0] 33))) := below_drewN (Below.refl _ _) 1
 replace BB := bnx BB b
 have G := mv b rfl (J7 hT h1 r X0 a0 a1 a2)
 clear b hT h1 r X0 a0 a1 a2
 obtain ⟨hT, h1, r, X0, a0, a1, a2⟩ := G
 refine wp_region_held_drew (S := fun w' => w'.cell? ⟨w.heap.size, 0, none⟩ = some (.bool false) ∧ w'.cell? ⟨w.heap.size, 1, none⟩ = some (.slice A1 n1 c1) ∧ w'.cell? ⟨w.heap.size, 2, none⟩ = some (.int .i64 0)) (by kernel_rfl) (by exact ⟨a0, a1, a2⟩) (fun hHeldv0 => ?_)
 generalize World.drew ((w.alloc (.cells #[.bool false, .slice A1 n1 c1, .int .i64 0] 24)).alloc (.cells #[.bool false, .slice none 0 0, .int .i64 0, .bool false, .slice none 0 0, .int .i64 0] 33)) = wd at *
 refine tl 0 ?_
 refine tl 2 ?_
 refine tl 3 ?_
 refine rdy 1 fun K hK => ?_
 go_simp
 refine (bits_1 hT h1).mono ?_
 rintro en w' ⟨rfl, b⟩
 replace BB := below_next BB BB.size b (by rfl) (by rfl) (by rfl) (by rfl)
 have G := mv b (by rfl) <| And.intro hT <| And.intro h1 <| And.intro r <| And.intro X0 <| And.intro a0 <| And.intro a1 <| a2
 clear b hT h1 r X0 a0 a1 a2
 obtain ⟨hT, h1, r, X0, a0, a1, a2⟩ := G
 refine hK.out _ _ (by exact ⟨a0, a1, a2⟩) (fun hHeldv1 => ?_)
 clear hK K hHeldv0
 try simp only [Act.put]
 refine tl 4 ?_
 refine tl 5 ?_
 refine tl 6 ?_
 refine tl 7 ?_
 refine wpAnyH_done (by kernel_rfl) ?_ _
 clear hHeldv1
 go_wp2_with fail
 refine (show Calls _ _ _ _ (NearIs X X ((40 : Nat) : Int) _) from by rw [← HX.out]; exact epart_ok (x := 1) (k := 9) (q := 40) (n := 31) (e := 0) (s := false) h1 (by decide) (by decide) (by decide) (by decide) (by decide) (big_W (by decide))).mono ?_
 rintro en w2 ⟨A3, n3, c3, A4, n4, c4, rfl, h3, h4, b⟩
 replace BB := bnx BB b
 have G := mv b rfl (J7 hT h1 r X0 a0 a1 a2)
 clear b hT h1 r X0 a0 a1 a2
 obtain ⟨hT, h1, r, X0, a0, a1, a2⟩ := G
 go_wp2_with fail
 refine (esum_ok (q := 40) (n := 4) hT h3 h4 (by decide) (by decide) (big_W (by decide)) (by decide) (by decide) HS.out.1 HS.out.2.1 HS.out.2.2).mono ?_
 rintro en w3 ⟨A5, n5, c5, A6, n6, c6, rfl, h5, h6, b⟩
 clear h3 h4
 replace BB := bnx BB b
 have G := mv b rfl (J7 hT h1 r X0 a0 a1 a2)
 clear b hT h1 r X0 a0 a1 a2
 obtain ⟨hT, h1, r, X0, a0, a1, a2⟩ := G
 obtain ⟨S0, hS0⟩ : ∃ s : Nat × Nat, s = ((sIt X X 40 4).2.2.1, (sIt X X 40 4).2.2.2 + (sIt X X 40 4).2.1) := ⟨_, rfl⟩
 have HS0 := Lib.hid hS0
 obtain ⟨L0, H0⟩ := S0
 have e1 : L0 = (sIt X X 40 4).2.2.1 := congrArg Prod.fst hS0
 have e2 : H0 = (sIt X X 40 4).2.2.2 + (sIt X X 40 4).2.1 := congrArg Prod.snd hS0
 rw [← e1] at h5
 rw [← e2] at h6
 clear e1 e2 hS0
 have gl := r.gl
 have BW := BB
 clear BB a0 a1 a2
 have p6 := Nrb.new w3 A5 n5 c5 A6 n6 c6 ((40 : Nat) : Int)
 have BB := below_alloc w3 (.cells #[.slice A5 n5 c5, .slice A6 n6 c6, .int .i64 ((40 : Nat) : Int)] 117)
 obtain ⟨k5, k6⟩ := mv BB rfl <| And.intro h5 h6
 go_wp2
 go_loopg [20] 9 (fun gk v20 wr => ∃ (j l h : Nat) (A7 : Option Addr) (n7 c7 : Nat) (A8 : Option Addr) (n8 c8 : Nat), j + gk = 9 ∧ v20 = .int .i64 (j : Int) ∧ Hid (qIt 40 (L0, H0) j = (l, h)) ∧ Nrb wr w3.heap.size A7 n7 c7 A8 n8 c8 ((40 : Nat) : Int) ∧ Nt wr A7 n7 c7 l ∧ Nt wr A8 n8 c8 h ∧ Below w3.heap.size w3 wr)
 case atStart => exact ⟨0, _, _, A5, n5, c5, A6, n6, c6, by omega, rfl, Lib.hid rfl, p6, k5, k6, BB⟩
 case round =>
  clear p6 k5 k6 BB
  obtain ⟨j, l, h, A7, n7, c7, A8, n8, c8, hg, rfl, HI, p6, h7, h8, BB⟩ := hrel
  have HG := Lib.hid hg
  by_cases hj : j < 9
  ·have C : SqC 40 (l, h) := by rw [← HI.out, HS0.out]; exact HQ.out j hj
   have C := Lib.hid C
   have HJ : Hid (qIt 40 (L0, H0) (j + 1) = (l * l / 2 ^ 40, upN (h * h) 40)) := Lib.hid (by show qStep 40 (qIt 40 (L0, H0) j) = _; rw [HI.out]; rfl)
   have d0 : decide ((j : Int) < (9 : Int)) = true := decide_eq_true (by omega)
   clear hg HI
   have t0 := mv BB rfl hT
   obtain ⟨y0, y1, y2⟩ := p6.held
   go_wp2_with fail
   refine (etim_ok t0 h7 h8 h7 h8 C.out.1 C.out.2.1 C.out.2.2.1 C.out.2.2.2 (by decide)).mono ?_
   rintro en u1 ⟨A9, n9, c9, A10, n10, c10, rfl, h9, h10, b⟩
   clear y0 y1 y2 t0 C
   clear h7 h8
   replace BB := bnx BB b
   replace p6 := mv b rfl p6
   clear b
   obtain ⟨l2, hl2⟩ : ∃ z, z = l * l / 2 ^ 40 := ⟨_, rfl⟩
   obtain ⟨h2, hh2⟩ : ∃ z, z = upN (h * h) 40 := ⟨_, rfl⟩
   rw [← hl2, ← hh2] at HJ
   rw [← hl2] at h9
   rw [← hh2] at h10
   clear hl2 hh2
   obtain ⟨f0, f1, f2⟩ := p6.open
   obtain ⟨y0, y1, y2⟩ := p6.held
   have g6l := p6.gl
   go_upto_region 6 with fail
   clear f0 f1 f2 y0 y1 y2
   replace h9 := h9.putN p6 (.slice A9 n9 c9) (.slice A10 n10 c10) (.int .i64 ((40 : Nat) : Int))
   replace h10 := h10.putN p6 (.slice A9 n9 c9) (.slice A10 n10 c10) (.int .i64 ((40 : Nat) : Int))
   replace BB := below_put3 (g := w3.heap.size) BB (by omega) (.slice A9 n9 c9) (.slice A10 n10 c10) (.int .i64 ((40 : Nat) : Int))
   replace p6 := p6.put A9 n9 c9 A10 n10 c10 ((40 : Nat) : Int)
   generalize ((u1.setCell ⟨w3.heap.size, 0, none⟩ (.slice A9 n9 c9)).setCell ⟨w3.heap.size, 1, none⟩ (.slice A10 n10 c10)).setCell ⟨w3.heap.size, 2, none⟩ (.int .i64 ((40 : Nat) : Int)) = u2 at *
   have HG2 : Hid (j + 1 + (gk - 1) = 9) := Lib.hid (by have := HG.out; omega)
   have HG3 : Hid (gk - 1 < gk) := Lib.hid (by have := HG.out; omega)
   clear HG
   go_wp2
   go_roundg (gk - 1)
   case measure => exact HG3.out
   case rel => exact ⟨j + 1, _, _, _, _, _, _, _, _, HG2.out, by first | rfl | go_num | (congr 1 <;> omega), HJ, p6, h9, h10, BB⟩
  obtain rfl : j = 9 := by omega
  have HE : Hid (l = (qIt 40 (L0, H0) 9).1 ∧ h = (qIt 40 (L0, H0) 9).2) := Lib.hid (by rw [HI.out]; exact ⟨rfl, rfl⟩)
  clear hg hj HG HI
  obtain ⟨t0, k1, ya, r⟩ := mv BB rfl <| And.intro hT <| And.intro h1 <| And.intro X0 r
  have BB1 : Below w.heap.size w wr := BW.trans (BB.mono BW.size)
  replace BB := BB1
  clear BB1
  obtain ⟨a0, a1, a2⟩ := ya.held
  obtain ⟨y0, y1, y2⟩ := p6.held
  go_wp2_with fail
  refine (sign_is (z := 1) t0 k1 okd_1 (by decide)).mono ?_
  rintro en u3 ⟨rfl, b⟩
  clear a0 a1 a2 y0 y1 y2 k1 ya
  replace BB := bnx BB b
  have G := mv b rfl (J5 t0 p6 h7 h8 r)
  clear b t0 p6 h7 h8 r
  obtain ⟨t0, p6, h7, h8, r⟩ := G
  obtain ⟨y0, y1, y2⟩ := p6.held
  go_wp2_with fail
  refine (ebet_ok t0 h7 h8 (by decide) (by rw [HE.out.1, HS0.out]; exact HN.out.1) (by rw [HE.out.2, HS0.out]; exact HN.out.2)).mono ?_
  rintro en u4 ⟨A11, n11, c11, A12, n12, c12, rfl, h11, h12, b⟩
  clear y0 y1 y2
  clear t0 p6 h7 h8
  replace BB := bnx BB b
  replace r := mv b rfl r
  clear b
  obtain ⟨f0, f1, f2, f3, f4, f5⟩ := r.open
  obtain ⟨z0, z1, z2, z3, z4, z5⟩ := r.held
  go_wp2
  first | rw [Exit.noGoto_ret] | skip
  have qq := r.put s3 A11 n11 c11 e3 s4 A12 n12 c12 e4
  have hN := h11.put6 r (.bool s3) (.slice A11 n11 c11) (.int .i64 e3) (.bool s4) (.slice A12 n12 c12) (.int .i64 e4)
  have hM := h12.put6 r (.bool s3) (.slice A11 n11 c11) (.int .i64 e3) (.bool s4) (.slice A12 n12 c12) (.int .i64 e4)
  have HB3 := below_put6 (g := w.heap.size + 1) BB (by omega) (.bool s3) (.slice A11 n11 c11) (.int .i64 e3) (.bool s4) (.slice A12 n12 c12) (.int .i64 e4)
  obtain ⟨z0, z1, z2, z3, z4, z5⟩ := qq.held
  exact bodyPost_ret (v := .agg #[.bool s3, .slice A11 n11 c11, .int .i64 e3, .bool s4, .slice A12 n12 c12, .int .i64 e4]) (by simp [results, Tryz.results92, go_sem, z0, z1, z2, z3, z4, z5]) rfl ⟨_, _, _, _, _, _, rfl, hN, hM, HB3⟩

end Go.Proofs.YtldbafifgkobcaaGreatDoor
