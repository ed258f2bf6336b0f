/-
  Contracts of the statements' Few, Row, Env of layer 8, and of the document's Box, at this translation.
-/
import Derived.Test.YtlpeheonbbaffaaGreatDoorQTp
import Derived.Test.YtlpeheonbbaffaaGreatDoorQIv
import Derived.Test.YtlpeheonbbaffaaGreatDoorQTs
set_option maxHeartbeats 8000000
set_option maxRecDepth 100000
namespace Go.Proofs.YtlpeheonbbaffaaGreatDoor
open Go.RowKit
variable {A : Option Addr} {c k n : Nat} {p : Int} {w : World}
def YesIf (P : Prop) (w : World) (en : Ending) (w' : World) : Prop := ∃ b, en = .returned (.bool b) ∧ (b = true → P) ∧ Below w.heap.size w w'
theorem yes_no {P : Prop} {w w' : World} (b : Below w.heap.size w w') : YesIf P w (.returned (.bool false)) w' := ⟨false, rfl, fun h => absurd h (by decide), b⟩
theorem yes_yes {P : Prop} {w w' : World} (h : P) (b : Below w.heap.size w w') : YesIf P w (.returned (.bool true)) w' := ⟨true, rfl, fun _ => h, b⟩
theorem tfew_any {AL : Option Addr} {nL cL : Nat} {AO : Option Addr} {nO cO : Nat} {L : Nat → Ln} (hL : RdL w AL nL cL L) :
  Calls Tryz.prog 25 #[.agg #[.slice AL nL cL, .slice AO nO cO]] w (YesIf (nL ≤ 40 ∧ nO ≤ 12) w) := by
 have BB := below_alloc w (.cells #[.slice AL nL cL, .slice AO nO cO] 35)
 have xt := Blk.new w #[.slice AL nL cL, .slice AO nO cO] 35
 have hL1 := mv BB rfl hL
 have t0 : World.cell? _ ⟨_, 0, none⟩ = some (.slice AL nL cL) := xt.at 0
 have t1 : World.cell? _ ⟨_, 1, none⟩ = some (.slice AO nO cO) := xt.at 1
 clear xt
 by_cases g1 : nL ≤ 40
 ·by_cases g2 : nO ≤ 12
  ·have g3 : ¬ (40 : Int) < (nL : Int) := by omega
   have g4 : ¬ (12 : Int) < (nO : Int) := by omega
   go_enter Tryz.func25, Tryz.ntmps25
   go_wp2
   go_loopg [3] nL (fun q v wr => ∃ i : Nat, i + q = nL ∧ v = .int .i64 i ∧ wr = w.alloc (.cells #[.slice AL nL cL, .slice AO nO cO] 35))
   case atStart => exact ⟨0, by omega, rfl, rfl⟩
   case round =>
    obtain ⟨i, hg, rfl, rfl⟩ := hrel
    have HG := Lib.hid hg
    clear hg
    by_cases hi : i < nL
    ·obtain ⟨g, off, hal, hc⟩ := hL1.at_ (by omega)
     obtain ⟨A1, n1, c1, A2, n2, c2, ⟨r0, r1, r2, r3, r4, r5, r6, r7, r8⟩, q1, q2⟩ := hc i hi
     subst hal
     clear hc
     have hp2 : (i : Int) < nL := by omega
     have hp3 : (0 : Int) ≤ i := by omega
     by_cases h1 : 6 < n1
     ·have k1 : (6 : Int) < (n1 : Int) := by omega
      go_wp2
      exact bodyPost_ret (v := .bool false) (by simp [results, Tryz.results25, go_sem]) rfl (yes_no BB)
     have k1 : ¬ (6 : Int) < (n1 : Int) := by omega
     by_cases h2 : 6 < n2
     ·have k2 : (6 : Int) < (n2 : Int) := by omega
      go_wp2
      exact bodyPost_ret (v := .bool false) (by simp [results, Tryz.results25, go_sem]) rfl (yes_no BB)
     have k2 : ¬ (6 : Int) < (n2 : Int) := by omega
     go_wp2
     go_roundg (gk - 1)
     case measure => have := HG.out; omega
     case rel => exact ⟨i + 1, by have := HG.out; omega, by go_num, rfl⟩
    have hn : i = nL := by have := HG.out; omega
    subst hn
    go_wp2
    exact bodyPost_ret (v := .bool true) (by simp [results, Tryz.results25, go_sem]) rfl (yes_yes (by first | exact ⟨g1, g2⟩ | trivial) BB)
  have g3 : ¬ (40 : Int) < (nL : Int) := by omega
  have g4 : (12 : Int) < (nO : Int) := by omega
  go_enter Tryz.func25, Tryz.ntmps25
  go_wp2
  exact bodyPost_ret (v := .bool false) (by simp [results, Tryz.results25, go_sem]) rfl (yes_no BB)
 have g3 : (40 : Int) < (nL : Int) := by omega
 go_enter Tryz.func25, Tryz.ntmps25
 go_wp2
 exact bodyPost_ret (v := .bool false) (by simp [results, Tryz.results25, go_sem]) rfl (yes_no BB)
theorem trow_any {X : Nat → Iv} (h : RdS w A n c X) :
  Calls Tryz.prog 22 #[.slice A n c] w (YesIf (n ≤ 8) w) := by
 by_cases g1 : n ≤ 8
 ·have g3 : ¬ (8 : Int) < (n : Int) := by omega
  go_enter Tryz.func22, Tryz.ntmps22
  go_wp2
  go_loopg [3] n (fun q v wr => ∃ i : Nat, i + q = n ∧ v = .int .i64 i ∧ wr = w)
  case atStart => exact ⟨0, by omega, rfl, rfl⟩
  case round =>
   obtain ⟨i, hg, rfl, rfl⟩ := hrel
   have HG := Lib.hid hg
   clear hg
   by_cases hi : i < n
   ·obtain ⟨g, off, hal, hc⟩ := h.at_ (by omega)
    obtain ⟨A1, n1, c1, A2, n2, c2, ⟨r0, r1, r2, r3, r4, r5⟩, q1, q2⟩ := hc i hi
    subst hal
    clear hc
    have hp2 : (i : Int) < n := by omega
    have hp3 : (0 : Int) ≤ i := by omega
    by_cases h1 : 6 < n1
    ·have k1 : (6 : Int) < (n1 : Int) := by omega
     go_wp2
     exact bodyPost_ret (v := .bool false) (by simp [results, Tryz.results22, go_sem]) rfl (yes_no (Below.refl _ _))
    have k1 : ¬ (6 : Int) < (n1 : Int) := by omega
    by_cases h2 : 6 < n2
    ·have k2 : (6 : Int) < (n2 : Int) := by omega
     go_wp2
     exact bodyPost_ret (v := .bool false) (by simp [results, Tryz.results22, go_sem]) rfl (yes_no (Below.refl _ _))
    have k2 : ¬ (6 : Int) < (n2 : Int) := by omega
    go_wp2
    go_roundg (gk - 1)
    case measure => have := HG.out; omega
    case rel => exact ⟨i + 1, by have := HG.out; omega, by go_num, rfl⟩
   have hn : i = n := by have := HG.out; omega
   subst hn
   go_wp2
   exact bodyPost_ret (v := .bool true) (by simp [results, Tryz.results22, go_sem]) rfl (yes_yes (by first | exact g1 | trivial) (Below.refl _ _))
 have g3 : (8 : Int) < (n : Int) := by omega
 go_enter Tryz.func22, Tryz.ntmps22
 go_wp2
 exact bodyPost_ret (v := .bool false) (by simp [results, Tryz.results22, go_sem]) rfl (yes_no (Below.refl _ _))
theorem tenv_any {E : En} {A3 : Option Addr} {n3 c3 : Nat} {A4 : Option Addr} {n4 c4 : Nat} {AX : Option Addr} {cX : Nat} {AU : Option Addr} {cU : Nat} {AP : Option Addr} {cP : Nat} (hE : RdE w E A3 n3 c3 A4 n4 c4 AX cX AU cU AP cP) :
  Calls Tryz.prog 26 #[.agg #[.bool E.t.lo.s, .slice A3 n3 c3, .int .i64 E.t.lo.e, .bool E.t.hi.s, .slice A4 n4 c4, .int .i64 E.t.hi.e, .slice AX E.nx cX, .slice AU E.nu cU, .slice AP E.np cP]] w (YesIf True w) := by
 have BB := two_below w (.cells #[.bool E.t.lo.s, .slice A3 n3 c3, .int .i64 E.t.lo.e, .bool E.t.hi.s, .slice A4 n4 c4, .int .i64 E.t.hi.e, .slice AX E.nx cX, .slice AU E.nu cU, .slice AP E.np cP] 55) (.cells #[.bool E.t.lo.s, .slice A3 n3 c3, .int .i64 E.t.lo.e, .bool E.t.hi.s, .slice A4 n4 c4, .int .i64 E.t.hi.e] 29)
 have xe := mv (below_alloc (w.alloc (.cells #[.bool E.t.lo.s, .slice A3 n3 c3, .int .i64 E.t.lo.e, .bool E.t.hi.s, .slice A4 n4 c4, .int .i64 E.t.hi.e, .slice AX E.nx cX, .slice AU E.nu cU, .slice AP E.np cP] 55)) (.cells #[.bool E.t.lo.s, .slice A3 n3 c3, .int .i64 E.t.lo.e, .bool E.t.hi.s, .slice A4 n4 c4, .int .i64 E.t.hi.e] 29)) rfl (Blk.new w #[.bool E.t.lo.s, .slice A3 n3 c3, .int .i64 E.t.lo.e, .bool E.t.hi.s, .slice A4 n4 c4, .int .i64 E.t.hi.e, .slice AX E.nx cX, .slice AU E.nu cU, .slice AP E.np cP] 55)
 have lo1 := mv (below_alloc w (.cells #[.bool E.t.lo.s, .slice A3 n3 c3, .int .i64 E.t.lo.e, .bool E.t.hi.s, .slice A4 n4 c4, .int .i64 E.t.hi.e, .slice AX E.nx cX, .slice AU E.nu cU, .slice AP E.np cP] 55)) rfl hE.lo
 have hi1 := mv (below_alloc w (.cells #[.bool E.t.lo.s, .slice A3 n3 c3, .int .i64 E.t.lo.e, .bool E.t.hi.s, .slice A4 n4 c4, .int .i64 E.t.hi.e, .slice AX E.nx cX, .slice AU E.nu cU, .slice AP E.np cP] 55)) rfl hE.hi
 have hI : Ivs ((w.alloc (.cells #[.bool E.t.lo.s, .slice A3 n3 c3, .int .i64 E.t.lo.e, .bool E.t.hi.s, .slice A4 n4 c4, .int .i64 E.t.hi.e, .slice AX E.nx cX, .slice AU E.nu cU, .slice AP E.np cP] 55)).alloc (.cells #[.bool E.t.lo.s, .slice A3 n3 c3, .int .i64 E.t.lo.e, .bool E.t.hi.s, .slice A4 n4 c4, .int .i64 E.t.hi.e] 29)) (w.heap.size + 1) 0 1 (fun _ => E.t) := by have := ivs_one (w.alloc (.cells #[.bool E.t.lo.s, .slice A3 n3 c3, .int .i64 E.t.lo.e, .bool E.t.hi.s, .slice A4 n4 c4, .int .i64 E.t.hi.e, .slice AX E.nx cX, .slice AU E.nu cU, .slice AP E.np cP] 55)) lo1 hi1; simpa using this
 have hr : RdS ((w.alloc (.cells #[.bool E.t.lo.s, .slice A3 n3 c3, .int .i64 E.t.lo.e, .bool E.t.hi.s, .slice A4 n4 c4, .int .i64 E.t.hi.e, .slice AX E.nx cX, .slice AU E.nu cU, .slice AP E.np cP] 55)).alloc (.cells #[.bool E.t.lo.s, .slice A3 n3 c3, .int .i64 E.t.lo.e, .bool E.t.hi.s, .slice A4 n4 c4, .int .i64 E.t.hi.e] 29)) (some ⟨w.heap.size + 1, 0, none⟩) 1 1 (fun _ => E.t) := ⟨Nat.le_refl 1, by decide, fun _ => ⟨_, _, rfl, hI⟩⟩
 replace hE := mv BB rfl hE
 clear lo1 hi1 hI
 have e0 : World.cell? _ ⟨_, 0, none⟩ = some (.bool E.t.lo.s) := xe.at 0
 have e1 : World.cell? _ ⟨_, 1, none⟩ = some (.slice A3 n3 c3) := xe.at 1
 have e2 : World.cell? _ ⟨_, 2, none⟩ = some (.int .i64 E.t.lo.e) := xe.at 2
 have e3 : World.cell? _ ⟨_, 3, none⟩ = some (.bool E.t.hi.s) := xe.at 3
 have e4 : World.cell? _ ⟨_, 4, none⟩ = some (.slice A4 n4 c4) := xe.at 4
 have e5 : World.cell? _ ⟨_, 5, none⟩ = some (.int .i64 E.t.hi.e) := xe.at 5
 have e6 : World.cell? _ ⟨_, 6, none⟩ = some (.slice AX E.nx cX) := xe.at 6
 have e7 : World.cell? _ ⟨_, 7, none⟩ = some (.slice AU E.nu cU) := xe.at 7
 have e8 : World.cell? _ ⟨_, 8, none⟩ = some (.slice AP E.np cP) := xe.at 8
 clear xe
 go_enter Tryz.func26, Tryz.ntmps26
 go_wp2_with fail
 refine (trow_any hr).mono ?_
 rintro en w2 ⟨b2, rfl, hb2, b⟩
 clear hr
 replace BB := bnx BB b
 have G := mv b rfl (J10 hE e0 e1 e2 e3 e4 e5 e6 e7 e8)
 clear b hE e0 e1 e2 e3 e4 e5 e6 e7 e8
 obtain ⟨hE, e0, e1, e2, e3, e4, e5, e6, e7, e8⟩ := G
 cases b2
 ·go_wp2
  exact bodyPost_ret (v := .bool false) (by simp [results, Tryz.results26, go_sem]) rfl (yes_no BB)
 go_wp2_with fail
 refine (trow_any hE.X).mono ?_
 rintro en wX ⟨bX, rfl, hbX, b⟩
 replace BB := bnx BB b
 have G := mv b rfl (J10 hE e0 e1 e2 e3 e4 e5 e6 e7 e8)
 clear b hE e0 e1 e2 e3 e4 e5 e6 e7 e8
 obtain ⟨hE, e0, e1, e2, e3, e4, e5, e6, e7, e8⟩ := G
 cases bX
 ·go_wp2
  exact bodyPost_ret (v := .bool false) (by simp [results, Tryz.results26, go_sem]) rfl (yes_no BB)
 go_wp2_with fail
 refine (trow_any hE.U).mono ?_
 rintro en wU ⟨bU, rfl, hbU, b⟩
 replace BB := bnx BB b
 have G := mv b rfl (J10 hE e0 e1 e2 e3 e4 e5 e6 e7 e8)
 clear b hE e0 e1 e2 e3 e4 e5 e6 e7 e8
 obtain ⟨hE, e0, e1, e2, e3, e4, e5, e6, e7, e8⟩ := G
 cases bU
 ·go_wp2
  exact bodyPost_ret (v := .bool false) (by simp [results, Tryz.results26, go_sem]) rfl (yes_no BB)
 go_wp2_with fail
 refine (trow_any hE.P).mono ?_
 rintro en wP ⟨bP, rfl, hbP, b⟩
 replace BB := bnx BB b
 have G := mv b rfl (J10 hE e0 e1 e2 e3 e4 e5 e6 e7 e8)
 clear b hE e0 e1 e2 e3 e4 e5 e6 e7 e8
 obtain ⟨hE, e0, e1, e2, e3, e4, e5, e6, e7, e8⟩ := G
 cases bP
 ·go_wp2
  exact bodyPost_ret (v := .bool false) (by simp [results, Tryz.results26, go_sem]) rfl (yes_no BB)
 go_wp2
 exact bodyPost_ret (v := .bool true) (by simp [results, Tryz.results26, go_sem]) rfl (yes_yes trivial BB)
theorem rbox_yes {A B : Option Addr} {n c c' : Nat} {X Y : Nat → Iv} (h : RdS w A n c X) (h' : RdS w B n c' Y) (hs : ∀ i, i < n → sameI (X i) (Y i) = true) :
  Calls Tryz.prog 23 #[.slice A n c, .slice B n c'] w (Bools true w) := by
 have hnm : (n : Int) ≤ 9223372036854775807 := by have := h.cap; have := h.max; omega
 have BB := Below.refl w.heap.size w
 go_enter Tryz.func23, Tryz.ntmps23
 go_wp2
 go_loopg [5] n (fun q v wr => ∃ i : Nat, i + q = n ∧ v = .int .i64 i ∧ Below w.heap.size w wr)
 case atStart => exact ⟨0, by omega, rfl, BB⟩
 case round =>
  obtain ⟨i, hg, rfl, hb⟩ := hrel
  clear BB
  have HG := Lib.hid hg
  clear hg
  by_cases hi : i < n
  ·obtain ⟨g, off, hal, hc⟩ := h.at_ (by omega)
   obtain ⟨A1, n1, c1, A2, n2, c2, ⟨r0, r1, r2, r3, r4, r5⟩, q1, q2⟩ := (hc.next hb rfl) i hi
   subst hal
   clear hc
   obtain ⟨g2, off2, hal, hc⟩ := h'.at_ (by omega)
   obtain ⟨A3, n3, c3, A4, n4, c4, ⟨s0, s1, s2, s3, s4, s5⟩, q3, q4⟩ := (hc.next hb rfl) i hi
   subst hal
   clear hc
   have HS := Lib.hid (hs i hi)
   generalize X i = x at *
   generalize Y i = y at *
   have hp2 : (i : Int) < n := by omega
   have hp3 : (0 : Int) ≤ i := by omega
   have b : Below wr.heap.size wr (World.drew wr) := below_drewN (Below.refl _ _) 1
   have hbd := below_next hb hb.size b rfl rfl rfl rfl
   have G := mv b rfl (J16 q1 q2 q3 q4 r0 r1 r2 r3 r4 r5 s0 s1 s2 s3 s4 s5)
   clear b q1 q2 q3 q4 r0 r1 r2 r3 r4 r5 s0 s1 s2 s3 s4 s5
   obtain ⟨q1, q2, q3, q4, r0, r1, r2, r3, r4, r5, s0, s1, s2, s3, s4, s5⟩ := G
   go_wp2_with fail
   refine wp_region_held_drew (S := fun w' => w'.cell? ⟨g, off + i * 6, none⟩ = some (.bool x.lo.s) ∧ w'.cell? ⟨g, off + i * 6 + 1, none⟩ = some (.slice A1 n1 c1) ∧ w'.cell? ⟨g, off + i * 6 + 2, none⟩ = some (.int .i64 x.lo.e) ∧ w'.cell? ⟨g, off + i * 6 + 3, none⟩ = some (.bool x.hi.s) ∧ w'.cell? ⟨g, off + i * 6 + 4, none⟩ = some (.slice A2 n2 c2) ∧ w'.cell? ⟨g, off + i * 6 + 5, none⟩ = some (.int .i64 x.hi.e) ∧ w'.cell? ⟨g2, off2 + i * 6, none⟩ = some (.bool y.lo.s) ∧ w'.cell? ⟨g2, off2 + i * 6 + 1, none⟩ = some (.slice A3 n3 c3) ∧ w'.cell? ⟨g2, off2 + i * 6 + 2, none⟩ = some (.int .i64 y.lo.e) ∧ w'.cell? ⟨g2, off2 + i * 6 + 3, none⟩ = some (.bool y.hi.s) ∧ w'.cell? ⟨g2, off2 + i * 6 + 4, none⟩ = some (.slice A4 n4 c4) ∧ w'.cell? ⟨g2, off2 + i * 6 + 5, none⟩ = some (.int .i64 y.hi.e)) (by kernel_rfl) (by exact ⟨r0, r1, r2, r3, r4, r5, s0, s1, s2, s3, s4, s5⟩) (fun hHeldv0 => ?_)
   generalize World.drew wr = wd at *
   refine tl 0 ?_
   refine tl 1 ?_
   refine tl 2 ?_
   refine tl 3 ?_
   refine tl 4 ?_
   refine tl 5 ?_
   refine tl 6 ?_
   refine tl 7 ?_
   refine rdy 8 fun K hK => ?_
   go_simp
   refine (rsamei_any (x := x) (y := y) q1 q2 q3 q4).mono ?_
   rintro en w' ⟨rfl, b⟩
   rw [HS.out]
   replace hbd := below_next hbd hbd.size b (by rfl) (by rfl) (by rfl) (by rfl)
   have G := mv b (by rfl) (J12 r0 r1 r2 r3 r4 r5 s0 s1 s2 s3 s4 s5)
   clear b q1 q2 q3 q4 r0 r1 r2 r3 r4 r5 s0 s1 s2 s3 s4 s5
   obtain ⟨r0, r1, r2, r3, r4, r5, s0, s1, s2, s3, s4, s5⟩ := G
   refine hK.out _ _ (by exact ⟨r0, r1, r2, r3, r4, r5, s0, s1, s2, s3, s4, s5⟩) (fun hHeldv1 => ?_)
   clear hK K hHeldv0
   try simp only [Act.put]
   refine tl 9 ?_
   refine wpAnyH_done (by kernel_rfl) ?_ _
   go_wp2
   go_roundg (gk - 1)
   case measure => have := HG.out; omega
   case rel => exact ⟨i + 1, by have := HG.out; omega, by go_num, hbd⟩
  have hn : i = n := by have := HG.out; omega
  subst hn
  go_wp2
  exact bodyPost_ret (v := .bool true) (by simp [results, Tryz.results23, go_sem]) rfl ⟨rfl, hb⟩
set_option maxHeartbeats 8000000
set_option maxRecDepth 100000
theorem cut_is (cut : Int) (n : Nat) (hn : n ≤ 40) : ∃ kk : Nat, wrap64 ((IntKind.u64.wrap cut).tmod ((n : Int) + 1)) = (kk : Int) ∧ kk ≤ n := by
 have h : 0 ≤ IntKind.u64.wrap cut := by
  simp [IntKind.wrap, IntKind.bits, IntKind.signed]
  omega
 obtain ⟨u, hu⟩ := Int.eq_ofNat_of_zero_le h
 have hlt := Nat.mod_lt u (show 0 < n + 1 by omega)
 refine ⟨u % (n + 1), ?_, by omega⟩
 rw [hu, Int.tmod_eq_emod_of_nonneg (by omega), show ((n : Int) + 1) = ((n + 1 : Nat) : Int) by omega, ← Int.natCast_emod]
 generalize u % (n + 1) = m at *
 unfold wrap64
 omega
theorem rdl_take {L : Nat → Ln} (h : RdL w A n c L) (hk : k ≤ n) : RdL w A k c L := ⟨Nat.le_trans hk h.cap, h.max, fun h0 => by
 obtain ⟨g, o, ha, hc⟩ := h.at_ (by omega)
 exact ⟨g, o, ha, fun i hi => hc i (by omega)⟩⟩
theorem rds_take {X : Nat → Iv} (h : RdS w A n c X) (hk : k ≤ n) : RdS w A k c X := ⟨Nat.le_trans hk h.cap, h.max, fun h0 => by
 obtain ⟨g, o, ha, hc⟩ := h.at_ (by omega)
 exact ⟨g, o, ha, fun i hi => hc i (by omega)⟩⟩
theorem lines_cut {S : Sc} {n m m' k : Nat} {L : Nat → Ln} {O O' : Nat → Int} {E : En} {R : List Iv} (h : linesO S ⟨n, L, m, O⟩ E p = .ok R) (hk : k ≤ n) (hm : m' = 0) : linesO S ⟨k, L, m', O'⟩ E p = .ok (R.take k) := by
 obtain ⟨⟨h1, h2, h3, h4⟩, h5⟩ := lines_ok h
 obtain ⟨g1, g2, g3, _⟩ := mayT_iff.1 h3
 have g1 : n ≤ 200 := g1
 have g3 : ∀ i, i < n → mayLn S.K (L i) i E.nx E.nu E.np = true := g3
 rw [lines_yes ⟨h1, h2, mayT_iff.2 ⟨by show k ≤ 200; omega, by show m' ≤ 200; omega, fun i hi => g3 i (by have hi : i < k := hi; omega), fun j hj => by have hj : j < m' := hj; omega⟩, h4⟩]
 exact lin_pre hk h5
theorem eval_ok {S : Sc} {T : Tp} {E : En} {R : List Iv} (h : linesO S T E p = .ok R) : evalO S T E p = .ok (someO R T.O T.m) := by
 unfold evalO
 rw [h]
 rfl
theorem eval_bad {S : Sc} {T : Tp} {E : En} {k : Int} (h : linesO S T E p = .error k) : evalO S T E p = .error k := by
 unfold evalO
 rw [h]
 rfl
theorem some_at {R : List Iv} {O : Nat → Int} {n i : Nat} (hi : i < n) : (someO R O n).getD i Iv.zero = R.getD (O i).toNat Iv.zero := by
 unfold someO
 simp [List.getD_eq_getElem?_getD, hi]
theorem same_self (x : Iv) : sameI x x = true := by
 unfold sameI sameQ sameB
 simp
theorem tapefront_any {E : En} {cut p : Int} {AL : Option Addr} {nL cL : Nat} {AO : Option Addr} {nO cO : Nat} {L : Nat → Ln} {O : Nat → Int} {A3 : Option Addr} {n3 c3 : Nat} {A4 : Option Addr} {n4 c4 : Nat} {AX : Option Addr} {cX : Nat} {AU : Option Addr} {cU : Nat} {AP : Option Addr} {cP : Nat} (hT : Tab w) (hL : RdL w AL nL cL L) (hO : RdZ w AO nO cO O) (hE : RdE w E A3 n3 c3 A4 n4 c4 AX cX AU cU AP cP) :
  Calls Tryz.prog 8 #[.agg #[.slice AL nL cL, .slice AO nO cO], .agg #[.bool E.t.lo.s, .slice A3 n3 c3, .int .i64 E.t.lo.e, .bool E.t.hi.s, .slice A4 n4 c4, .int .i64 E.t.hi.e, .slice AX E.nx cX, .slice AU E.nu cU, .slice AP E.np cP], .int .i64 cut, .int .i64 p] w (Bools true w) := by
 have BB := two_below w (.cells #[.slice AL nL cL, .slice AO nO cO] 35) (.cells #[.bool E.t.lo.s, .slice A3 n3 c3, .int .i64 E.t.lo.e, .bool E.t.hi.s, .slice A4 n4 c4, .int .i64 E.t.hi.e, .slice AX E.nx cX, .slice AU E.nu cU, .slice AP E.np cP] 55)
 have xt := mv (below_alloc (w.alloc (.cells #[.slice AL nL cL, .slice AO nO cO] 35)) (.cells #[.bool E.t.lo.s, .slice A3 n3 c3, .int .i64 E.t.lo.e, .bool E.t.hi.s, .slice A4 n4 c4, .int .i64 E.t.hi.e, .slice AX E.nx cX, .slice AU E.nu cU, .slice AP E.np cP] 55)) rfl (Blk.new w #[.slice AL nL cL, .slice AO nO cO] 35)
 have xe : Blk ((w.alloc (.cells #[.slice AL nL cL, .slice AO nO cO] 35)).alloc (.cells #[.bool E.t.lo.s, .slice A3 n3 c3, .int .i64 E.t.lo.e, .bool E.t.hi.s, .slice A4 n4 c4, .int .i64 E.t.hi.e, .slice AX E.nx cX, .slice AU E.nu cU, .slice AP E.np cP] 55)) (w.heap.size + 1) #[.bool E.t.lo.s, .slice A3 n3 c3, .int .i64 E.t.lo.e, .bool E.t.hi.s, .slice A4 n4 c4, .int .i64 E.t.hi.e, .slice AX E.nx cX, .slice AU E.nu cU, .slice AP E.np cP] 55 := by have := Blk.new (w.alloc (.cells #[.slice AL nL cL, .slice AO nO cO] 35)) #[.bool E.t.lo.s, .slice A3 n3 c3, .int .i64 E.t.lo.e, .bool E.t.hi.s, .slice A4 n4 c4, .int .i64 E.t.hi.e, .slice AX E.nx cX, .slice AU E.nu cU, .slice AP E.np cP] 55; simpa using this
 have G := mv BB rfl (J4 hT hL hO hE)
 clear hT hL hO hE
 obtain ⟨hT, hL, hO, hE⟩ := G
 have t0 : World.cell? _ ⟨_, 0, none⟩ = some (.slice AL nL cL) := xt.at 0
 have t1 : World.cell? _ ⟨_, 1, none⟩ = some (.slice AO nO cO) := xt.at 1
 have e0 : World.cell? _ ⟨_, 0, none⟩ = some (.bool E.t.lo.s) := xe.at 0
 have e1 : World.cell? _ ⟨_, 1, none⟩ = some (.slice A3 n3 c3) := xe.at 1
 have e2 : World.cell? _ ⟨_, 2, none⟩ = some (.int .i64 E.t.lo.e) := xe.at 2
 have e3 : World.cell? _ ⟨_, 3, none⟩ = some (.bool E.t.hi.s) := xe.at 3
 have e4 : World.cell? _ ⟨_, 4, none⟩ = some (.slice A4 n4 c4) := xe.at 4
 have e5 : World.cell? _ ⟨_, 5, none⟩ = some (.int .i64 E.t.hi.e) := xe.at 5
 have e6 : World.cell? _ ⟨_, 6, none⟩ = some (.slice AX E.nx cX) := xe.at 6
 have e7 : World.cell? _ ⟨_, 7, none⟩ = some (.slice AU E.nu cU) := xe.at 7
 have e8 : World.cell? _ ⟨_, 8, none⟩ = some (.slice AP E.np cP) := xe.at 8
 clear xt xe
 obtain ⟨S⟩ := sc_has
 go_enter Tryz.func8, Tryz.ntmps8
 go_wp2_with fail
 refine (tfew_any hL).mono ?_
 rintro en w2 ⟨b2, rfl, hfew, b⟩
 replace BB := bnx BB b
 have G := mv b rfl (J15 hT hL hO hE t0 t1 e0 e1 e2 e3 e4 e5 e6 e7 e8)
 clear b hT hL hO hE t0 t1 e0 e1 e2 e3 e4 e5 e6 e7 e8
 obtain ⟨hT, hL, hO, hE, t0, t1, e0, e1, e2, e3, e4, e5, e6, e7, e8⟩ := G
 cases b2
 ·go_wp2_with fail
  refine (told8_any hT).mono ?_
  rintro en w9 ⟨rfl, b⟩
  replace BB := bnx BB b
  clear b
  go_wp2
  go_ret
  exact ⟨by first | rfl | simp, BB⟩
 obtain ⟨hn40, hm12⟩ := hfew rfl
 clear hfew
 go_wp2_with fail
 refine (tenv_any hE).mono ?_
 rintro en w3 ⟨b3, rfl, _, b⟩
 replace BB := bnx BB b
 have G := mv b rfl (J15 hT hL hO hE t0 t1 e0 e1 e2 e3 e4 e5 e6 e7 e8)
 clear b hT hL hO hE t0 t1 e0 e1 e2 e3 e4 e5 e6 e7 e8
 obtain ⟨hT, hL, hO, hE, t0, t1, e0, e1, e2, e3, e4, e5, e6, e7, e8⟩ := G
 cases b3
 ·go_wp2_with fail
  refine (told8_any hT).mono ?_
  rintro en w9 ⟨rfl, b⟩
  replace BB := bnx BB b
  clear b
  go_wp2
  go_ret
  exact ⟨by first | rfl | simp, BB⟩
 go_wp2_with fail
 generalize wrap64 (8 + wrap64 ((IntKind.u64.wrap p).tmod 73)) = pn
 obtain ⟨o, ho⟩ : ∃ o, o = linesO S ⟨nL, L, nO, O⟩ E pn := ⟨_, rfl⟩
 have HO := Lib.hid ho
 clear ho
 refine (tellr_to HO.out (tlines_any S hT hL hO hE)).mono ?_
 rintro en w4 ⟨va, rfl, hrow, b⟩
 replace BB := bnx BB b
 have G := mv b rfl (J15 hT hL hO hE t0 t1 e0 e1 e2 e3 e4 e5 e6 e7 e8)
 clear b hT hL hO hE t0 t1 e0 e1 e2 e3 e4 e5 e6 e7 e8
 obtain ⟨hT, hL, hO, hE, t0, t1, e0, e1, e2, e3, e4, e5, e6, e7, e8⟩ := G
 cases hoo : o with
 | error k =>
  have hk0 : k ≠ 0 := linesO_cod k (HO.out.symm.trans hoo)
  have HE1 := Lib.hid (eval_bad (HO.out.symm.trans hoo))
  rw [hoo] at hrow
  clear hoo HO
  simp only [oli] at hrow
  simp only [okc]
  obtain ⟨A7, c7, hva, _, _⟩ := hrow.form
  replace hva : va = .slice A7 0 c7 := hva
  subst hva
  clear hrow
  go_wp2_with fail
  refine (tellr_to HE1.out.symm (teval_any S hT hL hO hE)).mono ?_
  rintro en w5 ⟨vb, rfl, hrow, b⟩
  simp only [oli] at hrow
  obtain ⟨A8, c8, hvb, _, _⟩ := hrow.form
  replace hvb : vb = .slice A8 0 c8 := hvb
  subst hvb
  clear hrow
  replace BB := bnx BB b
  have G := mv b rfl (J15 hT hL hO hE t0 t1 e0 e1 e2 e3 e4 e5 e6 e7 e8)
  clear b hT hL hO hE t0 t1 e0 e1 e2 e3 e4 e5 e6 e7 e8
  obtain ⟨hT, hL, hO, hE, t0, t1, e0, e1, e2, e3, e4, e5, e6, e7, e8⟩ := G
  simp only [okc]
  go_wp2_with fail
  refine (told8_any hT).mono ?_
  rintro en w9 ⟨rfl, b⟩
  replace BB := bnx BB b
  clear b
  go_wp2
  go_ret
  exact ⟨by first | rfl | simp, BB⟩
 | ok R =>
  have HLK := Lib.hid (HO.out.symm.trans hoo)
  rw [hoo] at hrow
  clear hoo HO
  simp only [oli] at hrow
  simp only [okc]
  have HLEN := Lib.hid (lin_len (lines_ok HLK.out).2)
  obtain ⟨AV, cV, hva, hV, _⟩ := hrow.form
  clear hrow
  rw [HLEN.out] at hva hV
  subst hva
  go_upto_region 9 with fail
  obtain ⟨kk, hkk, hkn⟩ := cut_is cut nL hn40
  rw [hkk]
  clear hkk
  have hkc : kk ≤ cL := Nat.le_trans hkn hL.cap
  have b : Below w4.heap.size w4 (World.drew w4) := below_drewN (Below.refl _ _) 1
  replace BB := bnx BB b
  have G := mv b rfl (J16 hT hL hO hE t0 t1 e0 e1 e2 e3 e4 e5 e6 e7 e8 hV)
  clear b hT hL hO hE t0 t1 e0 e1 e2 e3 e4 e5 e6 e7 e8 hV
  obtain ⟨hT, hL, hO, hE, t0, t1, e0, e1, e2, e3, e4, e5, e6, e7, e8, hV⟩ := G
  refine wp_region_held_drew (S := fun w' => w'.cell? ⟨w.heap.size, 0, none⟩ = some (.slice AL nL cL) ∧ w'.cell? ⟨w.heap.size, 1, none⟩ = some (.slice AO nO cO) ∧ w'.cell? ⟨w.heap.size + 1, 0, none⟩ = some (.bool E.t.lo.s) ∧ w'.cell? ⟨w.heap.size + 1, 1, none⟩ = some (.slice A3 n3 c3) ∧ w'.cell? ⟨w.heap.size + 1, 2, none⟩ = some (.int .i64 E.t.lo.e) ∧ w'.cell? ⟨w.heap.size + 1, 3, none⟩ = some (.bool E.t.hi.s) ∧ w'.cell? ⟨w.heap.size + 1, 4, none⟩ = some (.slice A4 n4 c4) ∧ w'.cell? ⟨w.heap.size + 1, 5, none⟩ = some (.int .i64 E.t.hi.e) ∧ w'.cell? ⟨w.heap.size + 1, 6, none⟩ = some (.slice AX E.nx cX) ∧ w'.cell? ⟨w.heap.size + 1, 7, none⟩ = some (.slice AU E.nu cU) ∧ w'.cell? ⟨w.heap.size + 1, 8, none⟩ = some (.slice AP E.np cP)) (by kernel_rfl) (by exact ⟨t0, t1, e0, e1, e2, e3, e4, e5, e6, e7, e8⟩) (fun hHeldv0 => ?_)
  generalize World.drew w4 = wd at *
  refine tl 0 ?_
  refine tl 1 ?_
  refine tl 2 ?_
  refine wpAnyH_take (i := 3) (v := ?vv3) rfl (by kernel_rfl) (by kernel_rfl) (by kernel_rfl) (fun _ _ _ h => panic_put (P := Tryz.prog) (fn := Tryz.f8) (R := (Bools true w)) h) (Or.inl ⟨by rfl, ?vy3⟩) (by assumption) ?_
  case vy3 => (intro w hSw; (try dsimp only at hSw); go_simp; repeat rw [if_pos (by omega)]); try with_reducible rfl
  change wpAnyH _ _ _ _ _ _ _ (Act.put _ (some 79) _) _
  simp only [Act.put, List.setIfInBounds_toArray, List.set_cons_zero, List.set_cons_succ]
  refine tl 4 ?_
  refine tl 5 ?_
  refine tl 6 ?_
  refine rdy 7 fun K hK => ?_
  go_simp
  refine (tellr_to (lines_cut (O' := fun _ => 0) HLK.out hkn rfl).symm (tlines_any (O := fun _ => 0) S hT (rdl_take hL hkn) ⟨Nat.le_refl 0, by decide, fun h => absurd rfl h⟩ hE)).mono ?_
  rintro en w5 ⟨vw, rfl, hroww, b⟩
  replace BB := bnx BB b
  have G := mv b (by rfl) (J16 hT hL hO hE t0 t1 e0 e1 e2 e3 e4 e5 e6 e7 e8 hV)
  clear b hT hL hO hE t0 t1 e0 e1 e2 e3 e4 e5 e6 e7 e8 hV
  obtain ⟨hT, hL, hO, hE, t0, t1, e0, e1, e2, e3, e4, e5, e6, e7, e8, hV⟩ := G
  refine hK.out _ _ (by exact ⟨t0, t1, e0, e1, e2, e3, e4, e5, e6, e7, e8⟩) (fun hHeldv1 => ?_)
  clear hK K hHeldv0
  try simp only [Act.put]
  refine tl 8 ?_
  refine tl 9 ?_
  refine tl 10 ?_
  refine tl 11 ?_
  refine tl 12 ?_
  refine wpAnyH_done (by kernel_rfl) ?_ _
  simp only [oli] at hroww
  have hlk : (R.take kk).length = kk := by have h9 : R.length = nL := HLEN.out; rw [List.length_take, h9]; omega
  obtain ⟨AW, cW, hvw, hWW, _⟩ := hroww.form
  rw [hlk] at hvw hWW
  subst hvw
  clear hroww hlk
  go_wp2_with fail
  refine (tellr_to (eval_ok HLK.out).symm (teval_any S hT hL hO hE)).mono ?_
  rintro en w6 ⟨vo, rfl, hrowo, b⟩
  replace BB := bnx BB b
  have G := mv b rfl (J17 hT hL hO hE t0 t1 e0 e1 e2 e3 e4 e5 e6 e7 e8 hV hWW)
  clear b hT hL hO hE t0 t1 e0 e1 e2 e3 e4 e5 e6 e7 e8 hV hWW
  obtain ⟨hT, hL, hO, hE, t0, t1, e0, e1, e2, e3, e4, e5, e6, e7, e8, hV, hWW⟩ := G
  simp only [okc]
  simp only [oli] at hrowo
  obtain ⟨AQ, cQ, hvo, hQQ, _⟩ := hrowo.form
  rw [some_len] at hvo hQQ
  subst hvo
  clear hrowo
  have hVk := rds_take hV hkn
  have HSM := Lib.hid (show ∀ i, i < kk → sameI ((R.take kk).getD i Iv.zero) (R.getD i Iv.zero) = true from fun i hi => by rw [show (R.take kk).getD i Iv.zero = R.getD i Iv.zero by simp [List.getD_eq_getElem?_getD, hi]]; exact same_self _)
  have hkv : kk ≤ cV := Nat.le_trans hkn hV.cap
  go_wp2_with fail
  refine (rbox_yes hWW hVk HSM.out).mono ?_
  rintro en w7 ⟨rfl, b⟩
  clear hVk hWW
  replace BB := bnx BB b
  have G := mv b rfl (J17 hT hL hO hE t0 t1 e0 e1 e2 e3 e4 e5 e6 e7 e8 hV hQQ)
  clear b hT hL hO hE t0 t1 e0 e1 e2 e3 e4 e5 e6 e7 e8 hV hQQ
  obtain ⟨hT, hL, hO, hE, t0, t1, e0, e1, e2, e3, e4, e5, e6, e7, e8, hV, hQQ⟩ := G
  go_wp2
  go_loopg [19] nO (fun q v wr => ∃ i : Nat, i + q = nO ∧ v = .int .i64 i ∧ Below w7.heap.size w7 wr)
  case atStart => exact ⟨0, by omega, rfl, Below.refl _ _⟩
  case round =>
   obtain ⟨i, hg, rfl, hb⟩ := hrel
   have HG := Lib.hid hg
   clear hg
   by_cases hi : i < nO
   ·obtain ⟨gq, oq, haq, hcq⟩ := hQQ.at_ (by omega)
    have hI1 : IvAt w7 gq (oq + i * 6) ((someO R O nO).getD i Iv.zero) := hcq i hi
    obtain ⟨go, oo, hao, hco⟩ := hO.at_ (by omega)
    have u0 := hco i hi
    have hmt : mayT S.K ⟨nL, L, nO, O⟩ E.nx E.nu E.np = true := (lines_ok HLK.out).1.2.2.1
    obtain ⟨z, hz, hzl⟩ := nat_under (n := nL) ((mayT_iff.1 hmt).2.2.2 i hi)
    have HZ := Lib.hid (show O i = (z : Int) from hz)
    rw [HZ.out] at u0
    clear hz hmt hcq hco
    obtain ⟨gv, ov, hav, hcv⟩ := hV.at_ (by omega)
    have hI2 : IvAt w7 gv (ov + z * 6) (R.getD z Iv.zero) := hcv z hzl
    have hxx : (someO R O nO).getD i Iv.zero = R.getD z Iv.zero := by rw [some_at hi, HZ.out, Int.toNat_natCast]
    rw [hxx] at hI1
    clear hxx hcv
    generalize R.getD z Iv.zero = x at *
    subst haq hao hav
    have t1' := mv hb rfl t1
    replace u0 := mv hb rfl u0
    obtain ⟨A5, n5, c5, A6, n6, c6, ⟨r0, r1, r2, r3, r4, r5⟩, q1, q2⟩ := hI1.next hb rfl
    obtain ⟨A7, n7, c7, A8, n8, c8, ⟨s0, s1, s2, s3, s4, s5⟩, q3, q4⟩ := hI2.next hb rfl
    clear hI1 hI2
    have hp2 : (i : Int) < nO := by omega
    have hp3 : (0 : Int) ≤ i := by omega
    have hp4 : (z : Int) < nL := by omega
    have hp5 : (0 : Int) ≤ z := by omega
    have b : Below wr.heap.size wr (World.drew wr) := below_drewN (Below.refl _ _) 1
    replace hb := below_next hb hb.size b rfl rfl rfl rfl
    have G := mv b rfl (J18 q1 q2 q3 q4 r0 r1 r2 r3 r4 r5 t1' u0 s0 s1 s2 s3 s4 s5)
    clear b q1 q2 q3 q4 r0 r1 r2 r3 r4 r5 t1' u0 s0 s1 s2 s3 s4 s5
    obtain ⟨q1, q2, q3, q4, r0, r1, r2, r3, r4, r5, t1', u0, s0, s1, s2, s3, s4, s5⟩ := G
    go_wp2_with fail
    refine wp_region_held_drew (S := fun w' => w'.cell? ⟨gq, oq + i * 6, none⟩ = some (.bool x.lo.s) ∧ w'.cell? ⟨gq, oq + i * 6 + 1, none⟩ = some (.slice A5 n5 c5) ∧ w'.cell? ⟨gq, oq + i * 6 + 2, none⟩ = some (.int .i64 x.lo.e) ∧ w'.cell? ⟨gq, oq + i * 6 + 3, none⟩ = some (.bool x.hi.s) ∧ w'.cell? ⟨gq, oq + i * 6 + 4, none⟩ = some (.slice A6 n6 c6) ∧ w'.cell? ⟨gq, oq + i * 6 + 5, none⟩ = some (.int .i64 x.hi.e) ∧ w'.cell? ⟨w.heap.size, 1, none⟩ = some (.slice (some ⟨go, oo, none⟩) nO cO) ∧ w'.cell? ⟨go, oo + i, none⟩ = some (.int .i64 (z : Int)) ∧ w'.cell? ⟨gv, ov + z * 6, none⟩ = some (.bool x.lo.s) ∧ w'.cell? ⟨gv, ov + z * 6 + 1, none⟩ = some (.slice A7 n7 c7) ∧ w'.cell? ⟨gv, ov + z * 6 + 2, none⟩ = some (.int .i64 x.lo.e) ∧ w'.cell? ⟨gv, ov + z * 6 + 3, none⟩ = some (.bool x.hi.s) ∧ w'.cell? ⟨gv, ov + z * 6 + 4, none⟩ = some (.slice A8 n8 c8) ∧ w'.cell? ⟨gv, ov + z * 6 + 5, none⟩ = some (.int .i64 x.hi.e)) (by kernel_rfl) (by exact ⟨r0, r1, r2, r3, r4, r5, t1', u0, s0, s1, s2, s3, s4, s5⟩) (fun hHeldx0 => ?_)
    generalize World.drew wr = wd at *
    refine tl 0 ?_
    refine tl 1 ?_
    refine tl 2 ?_
    refine tl 3 ?_
    refine tl 4 ?_
    refine tl 5 ?_
    refine tl 6 ?_
    refine tl 7 ?_
    refine tl 8 ?_
    refine tl 9 ?_
    refine tl 10 ?_
    refine tl 11 ?_
    refine rdy 12 fun K hK => ?_
    go_simp
    refine (rsamei_any (x := x) (y := x) q1 q2 q3 q4).mono ?_
    rintro en w' ⟨rfl, b⟩
    rw [same_self]
    clear q1 q2 q3 q4
    replace hb := below_next hb hb.size b (by rfl) (by rfl) (by rfl) (by rfl)
    have G := mv b (by rfl) (J14 r0 r1 r2 r3 r4 r5 t1' u0 s0 s1 s2 s3 s4 s5)
    clear b r0 r1 r2 r3 r4 r5 t1' u0 s0 s1 s2 s3 s4 s5
    obtain ⟨r0, r1, r2, r3, r4, r5, t1', u0, s0, s1, s2, s3, s4, s5⟩ := G
    refine hK.out _ _ (by exact ⟨r0, r1, r2, r3, r4, r5, t1', u0, s0, s1, s2, s3, s4, s5⟩) (fun hHeldx1 => ?_)
    clear hK K hHeldx0
    try simp only [Act.put]
    refine tl 13 ?_
    refine wpAnyH_done (by kernel_rfl) ?_ _
    go_wp2
    go_roundg (gk - 1)
    case measure => have := HG.out; omega
    case rel => exact ⟨i + 1, by have := HG.out; omega, by go_num, hb⟩
   have hn : i = nO := by have := HG.out; omega
   replace hT := mv hb rfl hT
   replace BB := below_next BB BB.size hb rfl rfl rfl rfl
   clear hL hO hE hV hQQ t0 t1 e0 e1 e2 e3 e4 e5 e6 e7 e8
   go_wp2_with fail
   refine (told8_any hT).mono ?_
   rintro en w9 ⟨rfl, b⟩
   replace BB := bnx BB b
   clear b
   go_wp2
   go_ret
   exact ⟨by first | rfl | simp, BB⟩
end Go.Proofs.YtlpeheonbbaffaaGreatDoor
