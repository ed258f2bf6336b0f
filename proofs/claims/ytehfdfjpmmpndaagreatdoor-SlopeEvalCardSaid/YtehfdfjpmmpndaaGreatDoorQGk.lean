/-
  Contracts of the statements' Few, Row, Env of layer 8, and of the document's Box, at this translation.
-/
import Derived.Test.YtehfdfjpmmpndaaGreatDoorQTi
import Derived.Test.YtehfdfjpmmpndaaGreatDoorQIm
import Derived.Test.YtehfdfjpmmpndaaGreatDoorQGj
set_option maxHeartbeats 8000000
set_option maxRecDepth 100000
namespace Go.Proofs.YtehfdfjpmmpndaaGreatDoor
open Go.RowKit
variable {p : Int} {w : World}
def YesIf (P : Prop) (w : World) (en : Ending) (w' : World) : Prop := ∃ b, en = .returned (.bool b) ∧ (b = true → P) ∧ Below w.heap.size w w'
theorem yes_no {P : Prop} {w w' : World} (b : Below w.heap.size w w') : YesIf P w (.returned (.bool false)) w' := ⟨false, rfl, fun h => absurd h (by decide), b⟩
theorem yes_yes {P : Prop} {w w' : World} (h : P) (b : Below w.heap.size w w') : YesIf P w (.returned (.bool true)) w' := ⟨true, rfl, fun _ => h, b⟩
theorem tfew_any {AL : Option Addr} {nL cL : Nat} {AO : Option Addr} {nO cO : Nat} {L : Nat → Ln} (hL : RdL w AL nL cL L) :
  Calls Tryz.prog 6 #[.agg #[.slice AL nL cL, .slice AO nO cO]] w (YesIf (nL ≤ 40 ∧ nO ≤ 12) w) := by
 have BB := below_alloc w (.cells #[.slice AL nL cL, .slice AO nO cO] 25)
 have xt := Blk.new w #[.slice AL nL cL, .slice AO nO cO] 25
 have hL1 := mv BB rfl hL
 have t0 : World.cell? _ ⟨_, 0, none⟩ = some (.slice AL nL cL) := xt.at 0
 have t1 : World.cell? _ ⟨_, 1, none⟩ = some (.slice AO nO cO) := xt.at 1
 clear xt
 by_cases g1 : nL ≤ 40
 ·by_cases g2 : nO ≤ 12
  ·have g3 : ¬ (40 : Int) < (nL : Int) := by omega
   have g4 : ¬ (12 : Int) < (nO : Int) := by omega
   go_enter Tryz.func6, Tryz.ntmps6
   go_wp2
   go_loopg [3] nL (fun q v wr => ∃ i : Nat, i + q = nL ∧ v = .int .i64 i ∧ wr = w.alloc (.cells #[.slice AL nL cL, .slice AO nO cO] 25))
   case atStart => exact ⟨0, by omega, rfl, rfl⟩
   case round =>
    obtain ⟨i, hg, rfl, rfl⟩ := hrel
    have HG := Lib.hid hg
    clear hg
    by_cases hi : i < nL
    ·obtain ⟨g, off, hal, hc⟩ := hL1.at_ (by omega)
     obtain ⟨A1, n1, c1, A2, n2, c2, ⟨r0, r1, r2, r3, r4, r5, r6, r7, r8⟩, q1, q2⟩ := hc i hi
     subst hal
     clear hc
     have hp2 : (i : Int) < nL := by omega
     have hp3 : (0 : Int) ≤ i := by omega
     by_cases h1 : 6 < n1
     ·have k1 : (6 : Int) < (n1 : Int) := by omega
      go_wp2
      exact bodyPost_ret (v := .bool false) (by simp [results, Tryz.results6, go_sem]) rfl (yes_no BB)
     have k1 : ¬ (6 : Int) < (n1 : Int) := by omega
     by_cases h2 : 6 < n2
     ·have k2 : (6 : Int) < (n2 : Int) := by omega
      go_wp2
      exact bodyPost_ret (v := .bool false) (by simp [results, Tryz.results6, go_sem]) rfl (yes_no BB)
     have k2 : ¬ (6 : Int) < (n2 : Int) := by omega
     go_wp2
     go_roundg (gk - 1)
     case measure => have := HG.out; omega
     case rel => exact ⟨i + 1, by have := HG.out; omega, by go_num, rfl⟩
    have hn : i = nL := by have := HG.out; omega
    subst hn
    go_wp2
    exact bodyPost_ret (v := .bool true) (by simp [results, Tryz.results6, go_sem]) rfl (yes_yes (by first | exact ⟨g1, g2⟩ | trivial) BB)
  have g3 : ¬ (40 : Int) < (nL : Int) := by omega
  have g4 : (12 : Int) < (nO : Int) := by omega
  go_enter Tryz.func6, Tryz.ntmps6
  go_wp2
  exact bodyPost_ret (v := .bool false) (by simp [results, Tryz.results6, go_sem]) rfl (yes_no BB)
 have g3 : (40 : Int) < (nL : Int) := by omega
 go_enter Tryz.func6, Tryz.ntmps6
 go_wp2
 exact bodyPost_ret (v := .bool false) (by simp [results, Tryz.results6, go_sem]) rfl (yes_no BB)
theorem trow_any {A : Option Addr} {n c : Nat} {X : Nat → Iv} (h : RdS w A n c X) :
  Calls Tryz.prog 18 #[.slice A n c] w (YesIf (n ≤ 8) w) := by
 by_cases g1 : n ≤ 8
 ·have g3 : ¬ (8 : Int) < (n : Int) := by omega
  go_enter Tryz.func18, Tryz.ntmps18
  go_wp2
  go_loopg [3] n (fun q v wr => ∃ i : Nat, i + q = n ∧ v = .int .i64 i ∧ wr = w)
  case atStart => exact ⟨0, by omega, rfl, rfl⟩
  case round =>
   obtain ⟨i, hg, rfl, rfl⟩ := hrel
   have HG := Lib.hid hg
   clear hg
   by_cases hi : i < n
   ·obtain ⟨g, off, hal, hc⟩ := h.at_ (by omega)
    obtain ⟨A1, n1, c1, A2, n2, c2, ⟨r0, r1, r2, r3, r4, r5⟩, q1, q2⟩ := hc i hi
    subst hal
    clear hc
    have hp2 : (i : Int) < n := by omega
    have hp3 : (0 : Int) ≤ i := by omega
    by_cases h1 : 6 < n1
    ·have k1 : (6 : Int) < (n1 : Int) := by omega
     go_wp2
     exact bodyPost_ret (v := .bool false) (by simp [results, Tryz.results18, go_sem]) rfl (yes_no (Below.refl _ _))
    have k1 : ¬ (6 : Int) < (n1 : Int) := by omega
    by_cases h2 : 6 < n2
    ·have k2 : (6 : Int) < (n2 : Int) := by omega
     go_wp2
     exact bodyPost_ret (v := .bool false) (by simp [results, Tryz.results18, go_sem]) rfl (yes_no (Below.refl _ _))
    have k2 : ¬ (6 : Int) < (n2 : Int) := by omega
    go_wp2
    go_roundg (gk - 1)
    case measure => have := HG.out; omega
    case rel => exact ⟨i + 1, by have := HG.out; omega, by go_num, rfl⟩
   have hn : i = n := by have := HG.out; omega
   subst hn
   go_wp2
   exact bodyPost_ret (v := .bool true) (by simp [results, Tryz.results18, go_sem]) rfl (yes_yes (by first | exact g1 | trivial) (Below.refl _ _))
 have g3 : (8 : Int) < (n : Int) := by omega
 go_enter Tryz.func18, Tryz.ntmps18
 go_wp2
 exact bodyPost_ret (v := .bool false) (by simp [results, Tryz.results18, go_sem]) rfl (yes_no (Below.refl _ _))
theorem tenv_any {E : En} {A3 : Option Addr} {n3 c3 : Nat} {A4 : Option Addr} {n4 c4 : Nat} {AX : Option Addr} {cX : Nat} {AU : Option Addr} {cU : Nat} {AP : Option Addr} {cP : Nat} (hE : RdE w E A3 n3 c3 A4 n4 c4 AX cX AU cU AP cP) :
  Calls Tryz.prog 7 #[.agg #[.bool E.t.lo.s, .slice A3 n3 c3, .int .i64 E.t.lo.e, .bool E.t.hi.s, .slice A4 n4 c4, .int .i64 E.t.hi.e, .slice AX E.nx cX, .slice AU E.nu cU, .slice AP E.np cP]] w (YesIf (E.nx ≤ 8) w) := by
 have BB := two_below w (.cells #[.bool E.t.lo.s, .slice A3 n3 c3, .int .i64 E.t.lo.e, .bool E.t.hi.s, .slice A4 n4 c4, .int .i64 E.t.hi.e, .slice AX E.nx cX, .slice AU E.nu cU, .slice AP E.np cP] 33) (.cells #[.bool E.t.lo.s, .slice A3 n3 c3, .int .i64 E.t.lo.e, .bool E.t.hi.s, .slice A4 n4 c4, .int .i64 E.t.hi.e] 30)
 have xe := mv (below_alloc (w.alloc (.cells #[.bool E.t.lo.s, .slice A3 n3 c3, .int .i64 E.t.lo.e, .bool E.t.hi.s, .slice A4 n4 c4, .int .i64 E.t.hi.e, .slice AX E.nx cX, .slice AU E.nu cU, .slice AP E.np cP] 33)) (.cells #[.bool E.t.lo.s, .slice A3 n3 c3, .int .i64 E.t.lo.e, .bool E.t.hi.s, .slice A4 n4 c4, .int .i64 E.t.hi.e] 30)) rfl (Blk.new w #[.bool E.t.lo.s, .slice A3 n3 c3, .int .i64 E.t.lo.e, .bool E.t.hi.s, .slice A4 n4 c4, .int .i64 E.t.hi.e, .slice AX E.nx cX, .slice AU E.nu cU, .slice AP E.np cP] 33)
 have lo1 := mv (below_alloc w (.cells #[.bool E.t.lo.s, .slice A3 n3 c3, .int .i64 E.t.lo.e, .bool E.t.hi.s, .slice A4 n4 c4, .int .i64 E.t.hi.e, .slice AX E.nx cX, .slice AU E.nu cU, .slice AP E.np cP] 33)) rfl hE.lo
 have hi1 := mv (below_alloc w (.cells #[.bool E.t.lo.s, .slice A3 n3 c3, .int .i64 E.t.lo.e, .bool E.t.hi.s, .slice A4 n4 c4, .int .i64 E.t.hi.e, .slice AX E.nx cX, .slice AU E.nu cU, .slice AP E.np cP] 33)) rfl hE.hi
 have hI : Ivs ((w.alloc (.cells #[.bool E.t.lo.s, .slice A3 n3 c3, .int .i64 E.t.lo.e, .bool E.t.hi.s, .slice A4 n4 c4, .int .i64 E.t.hi.e, .slice AX E.nx cX, .slice AU E.nu cU, .slice AP E.np cP] 33)).alloc (.cells #[.bool E.t.lo.s, .slice A3 n3 c3, .int .i64 E.t.lo.e, .bool E.t.hi.s, .slice A4 n4 c4, .int .i64 E.t.hi.e] 30)) (w.heap.size + 1) 0 1 (fun _ => E.t) := by have := ivs_one (w.alloc (.cells #[.bool E.t.lo.s, .slice A3 n3 c3, .int .i64 E.t.lo.e, .bool E.t.hi.s, .slice A4 n4 c4, .int .i64 E.t.hi.e, .slice AX E.nx cX, .slice AU E.nu cU, .slice AP E.np cP] 33)) lo1 hi1; simpa using this
 have hr : RdS ((w.alloc (.cells #[.bool E.t.lo.s, .slice A3 n3 c3, .int .i64 E.t.lo.e, .bool E.t.hi.s, .slice A4 n4 c4, .int .i64 E.t.hi.e, .slice AX E.nx cX, .slice AU E.nu cU, .slice AP E.np cP] 33)).alloc (.cells #[.bool E.t.lo.s, .slice A3 n3 c3, .int .i64 E.t.lo.e, .bool E.t.hi.s, .slice A4 n4 c4, .int .i64 E.t.hi.e] 30)) (some ⟨w.heap.size + 1, 0, none⟩) 1 1 (fun _ => E.t) := ⟨Nat.le_refl 1, by decide, fun _ => ⟨_, _, rfl, hI⟩⟩
 replace hE := mv BB rfl hE
 clear lo1 hi1 hI
 have e0 : World.cell? _ ⟨_, 0, none⟩ = some (.bool E.t.lo.s) := xe.at 0
 have e1 : World.cell? _ ⟨_, 1, none⟩ = some (.slice A3 n3 c3) := xe.at 1
 have e2 : World.cell? _ ⟨_, 2, none⟩ = some (.int .i64 E.t.lo.e) := xe.at 2
 have e3 : World.cell? _ ⟨_, 3, none⟩ = some (.bool E.t.hi.s) := xe.at 3
 have e4 : World.cell? _ ⟨_, 4, none⟩ = some (.slice A4 n4 c4) := xe.at 4
 have e5 : World.cell? _ ⟨_, 5, none⟩ = some (.int .i64 E.t.hi.e) := xe.at 5
 have e6 : World.cell? _ ⟨_, 6, none⟩ = some (.slice AX E.nx cX) := xe.at 6
 have e7 : World.cell? _ ⟨_, 7, none⟩ = some (.slice AU E.nu cU) := xe.at 7
 have e8 : World.cell? _ ⟨_, 8, none⟩ = some (.slice AP E.np cP) := xe.at 8
 clear xe
 go_enter Tryz.func7, Tryz.ntmps7
 go_wp2_with fail
 refine (trow_any hr).mono ?_
 rintro en w2 ⟨b2, rfl, hb2, b⟩
 clear hr
 replace BB := bnx BB b
 have G := mv b rfl (J10 hE e0 e1 e2 e3 e4 e5 e6 e7 e8)
 clear b hE e0 e1 e2 e3 e4 e5 e6 e7 e8
 obtain ⟨hE, e0, e1, e2, e3, e4, e5, e6, e7, e8⟩ := G
 cases b2
 ·go_wp2
  exact bodyPost_ret (v := .bool false) (by simp [results, Tryz.results7, go_sem]) rfl (yes_no BB)
 go_wp2_with fail
 refine (trow_any hE.X).mono ?_
 rintro en wX ⟨bX, rfl, hbX, b⟩
 replace BB := bnx BB b
 have G := mv b rfl (J10 hE e0 e1 e2 e3 e4 e5 e6 e7 e8)
 clear b hE e0 e1 e2 e3 e4 e5 e6 e7 e8
 obtain ⟨hE, e0, e1, e2, e3, e4, e5, e6, e7, e8⟩ := G
 cases bX
 ·go_wp2
  exact bodyPost_ret (v := .bool false) (by simp [results, Tryz.results7, go_sem]) rfl (yes_no BB)
 go_wp2_with fail
 refine (trow_any hE.U).mono ?_
 rintro en wU ⟨bU, rfl, hbU, b⟩
 replace BB := bnx BB b
 have G := mv b rfl (J10 hE e0 e1 e2 e3 e4 e5 e6 e7 e8)
 clear b hE e0 e1 e2 e3 e4 e5 e6 e7 e8
 obtain ⟨hE, e0, e1, e2, e3, e4, e5, e6, e7, e8⟩ := G
 cases bU
 ·go_wp2
  exact bodyPost_ret (v := .bool false) (by simp [results, Tryz.results7, go_sem]) rfl (yes_no BB)
 go_wp2_with fail
 refine (trow_any hE.P).mono ?_
 rintro en wP ⟨bP, rfl, hbP, b⟩
 replace BB := bnx BB b
 have G := mv b rfl (J10 hE e0 e1 e2 e3 e4 e5 e6 e7 e8)
 clear b hE e0 e1 e2 e3 e4 e5 e6 e7 e8
 obtain ⟨hE, e0, e1, e2, e3, e4, e5, e6, e7, e8⟩ := G
 cases bP
 ·go_wp2
  exact bodyPost_ret (v := .bool false) (by simp [results, Tryz.results7, go_sem]) rfl (yes_no BB)
 go_wp2
 exact bodyPost_ret (v := .bool true) (by simp [results, Tryz.results7, go_sem]) rfl (yes_yes (hbX (by trivial)) BB)
theorem rbox_yes {A B : Option Addr} {n c c' : Nat} {X Y : Nat → Iv} (h : RdS w A n c X) (h' : RdS w B n c' Y) (hs : ∀ i, i < n → sameI (X i) (Y i) = true) :
  Calls Tryz.prog 11 #[.slice A n c, .slice B n c'] w (Bools true w) := by
 have hnm : (n : Int) ≤ 9223372036854775807 := by have := h.cap; have := h.max; omega
 have BB := Below.refl w.heap.size w
 go_enter Tryz.func11, Tryz.ntmps11
 go_wp2
 go_loopg [5] n (fun q v wr => ∃ i : Nat, i + q = n ∧ v = .int .i64 i ∧ Below w.heap.size w wr)
 case atStart => exact ⟨0, by omega, rfl, BB⟩
 case round =>
  obtain ⟨i, hg, rfl, hb⟩ := hrel
  clear BB
  have HG := Lib.hid hg
  clear hg
  by_cases hi : i < n
  ·obtain ⟨g, off, hal, hc⟩ := h.at_ (by omega)
   obtain ⟨A1, n1, c1, A2, n2, c2, ⟨r0, r1, r2, r3, r4, r5⟩, q1, q2⟩ := (hc.next hb rfl) i hi
   subst hal
   clear hc
   obtain ⟨g2, off2, hal, hc⟩ := h'.at_ (by omega)
   obtain ⟨A3, n3, c3, A4, n4, c4, ⟨s0, s1, s2, s3, s4, s5⟩, q3, q4⟩ := (hc.next hb rfl) i hi
   subst hal
   clear hc
   have HS := Lib.hid (hs i hi)
   generalize X i = x at *
   generalize Y i = y at *
   have hp2 : (i : Int) < n := by omega
   have hp3 : (0 : Int) ≤ i := by omega
   have b := drew_b wr
   have hbd := below_next hb hb.size b rfl rfl rfl rfl
   have G := mv b rfl (J16 q1 q2 q3 q4 r0 r1 r2 r3 r4 r5 s0 s1 s2 s3 s4 s5)
   clear b q1 q2 q3 q4 r0 r1 r2 r3 r4 r5 s0 s1 s2 s3 s4 s5
   obtain ⟨q1, q2, q3, q4, r0, r1, r2, r3, r4, r5, s0, s1, s2, s3, s4, s5⟩ := G
   go_wp2_with fail
   generalize hwd : World.drew wr = wd at *
   have HS := J12 r0 r1 r2 r3 r4 r5 s0 s1 s2 s3 s4 s5
   revert HS
   apply rg hwd
   intro hHeldv0
   clear hwd
   refine tl 0 ?_
   refine tl 1 ?_
   refine tl 2 ?_
   refine tl 3 ?_
   refine tl 4 ?_
   refine tl 5 ?_
   refine tl 6 ?_
   refine tl 7 ?_
   refine rdy 8 fun K hK => ?_
   go_simp
   refine (rsamei_any (x := x) (y := y) q1 q2 q3 q4).mono ?_
   rintro en w' ⟨rfl, b⟩
   rw [HS.out]
   replace hbd := below_next hbd hbd.size b (by rfl) (by rfl) (by rfl) (by rfl)
   have G := mv b (by rfl) (J12 r0 r1 r2 r3 r4 r5 s0 s1 s2 s3 s4 s5)
   clear b q1 q2 q3 q4 r0 r1 r2 r3 r4 r5 s0 s1 s2 s3 s4 s5
   obtain ⟨r0, r1, r2, r3, r4, r5, s0, s1, s2, s3, s4, s5⟩ := G
   refine kp hK ⟨r0, r1, r2, r3, r4, r5, s0, s1, s2, s3, s4, s5⟩ fun hHeldv1 => ?_
   clear hK K hHeldv0
   try simp only [Act.put]
   refine tl 9 ?_
   refine wpAnyH_done (by kernel_rfl) ?_ _
   go_wp2
   go_roundg (gk - 1)
   case measure => have := HG.out; omega
   case rel => exact ⟨i + 1, by have := HG.out; omega, by go_num, hbd⟩
  have hn : i = n := by have := HG.out; omega
  subst hn
  go_wp2
  exact bodyPost_ret (v := .bool true) (by simp [results, Tryz.results11, go_sem]) rfl ⟨rfl, hb⟩
set_option maxHeartbeats 8000000
set_option maxRecDepth 100000
theorem grad_len {S : Sc} {T : Tp} {E : En} {V R : List Iv} {D : List (List Iv)} (h : linesO S T E p = .ok V) (h2 : gradO S T E p = .ok (R, D)) : evalO S T E p = .ok R ∧ ∀ i, i < T.m → (D.getD i []).length = E.nx := by
 unfold gradO at h2
 rw [h] at h2
 simp only [thn] at h2
 split at h2
 ·injection h2 with h2
  injection h2 with h3 h4
  subst h3 h4
  refine ⟨by unfold evalO; rw [h]; rfl, fun i hi => ?_⟩
  have hl := (ask_len (namB T.L T.n) E.nx).1
  simp [List.getD_eq_getElem?_getD, hi, hl]
 cases h2
theorem eval_lin {S : Sc} {T : Tp} {E : En} {p k : Int} (h : linesO S T E p = .error k) : evalO S T E p = .error k := by
 unfold evalO
 rw [h]
 rfl
theorem eval_vals {S : Sc} {T : Tp} {E : En} {V : List Iv} (h : linesO S T E p = .ok V) : evalO S T E p = .ok (outsL V T) := by
 unfold evalO
 rw [h]
 rfl
theorem one_self (x : Iv) : sameI x x = true := by
 unfold sameI sameQ sameB
 simp
theorem tellr_is {o o' : Except Int (List Iv)} {f : FuncId} {args : Array Value} (h : o' = o) (hc : Calls Tryz.prog f args w (TellR o' w)) : Calls Tryz.prog f args w (TellR o w) := by subst h; exact hc
theorem slopeeval_any {E : En} {AL : Option Addr} {nL cL : Nat} {AO : Option Addr} {nO cO : Nat} {L : Nat → Ln} {O : Nat → Int} {A3 : Option Addr} {n3 c3 : Nat} {A4 : Option Addr} {n4 c4 : Nat} {AX : Option Addr} {cX : Nat} {AU : Option Addr} {cU : Nat} {AP : Option Addr} {cP : Nat} (hT : Tab w) (hL : RdL w AL nL cL L) (hO : RdZ w AO nO cO O) (hE : RdE w E A3 n3 c3 A4 n4 c4 AX cX AU cU AP cP) :
  Calls Tryz.prog 3 #[.agg #[.slice AL nL cL, .slice AO nO cO], .agg #[.bool E.t.lo.s, .slice A3 n3 c3, .int .i64 E.t.lo.e, .bool E.t.hi.s, .slice A4 n4 c4, .int .i64 E.t.hi.e, .slice AX E.nx cX, .slice AU E.nu cU, .slice AP E.np cP], .int .i64 p] w (Bools true w) := by
 have BB := two_below w (.cells #[.slice AL nL cL, .slice AO nO cO] 25) (.cells #[.bool E.t.lo.s, .slice A3 n3 c3, .int .i64 E.t.lo.e, .bool E.t.hi.s, .slice A4 n4 c4, .int .i64 E.t.hi.e, .slice AX E.nx cX, .slice AU E.nu cU, .slice AP E.np cP] 33)
 have xt := mv (below_alloc (w.alloc (.cells #[.slice AL nL cL, .slice AO nO cO] 25)) (.cells #[.bool E.t.lo.s, .slice A3 n3 c3, .int .i64 E.t.lo.e, .bool E.t.hi.s, .slice A4 n4 c4, .int .i64 E.t.hi.e, .slice AX E.nx cX, .slice AU E.nu cU, .slice AP E.np cP] 33)) rfl (Blk.new w #[.slice AL nL cL, .slice AO nO cO] 25)
 have xe : Blk ((w.alloc (.cells #[.slice AL nL cL, .slice AO nO cO] 25)).alloc (.cells #[.bool E.t.lo.s, .slice A3 n3 c3, .int .i64 E.t.lo.e, .bool E.t.hi.s, .slice A4 n4 c4, .int .i64 E.t.hi.e, .slice AX E.nx cX, .slice AU E.nu cU, .slice AP E.np cP] 33)) (w.heap.size + 1) #[.bool E.t.lo.s, .slice A3 n3 c3, .int .i64 E.t.lo.e, .bool E.t.hi.s, .slice A4 n4 c4, .int .i64 E.t.hi.e, .slice AX E.nx cX, .slice AU E.nu cU, .slice AP E.np cP] 33 := by have := Blk.new (w.alloc (.cells #[.slice AL nL cL, .slice AO nO cO] 25)) #[.bool E.t.lo.s, .slice A3 n3 c3, .int .i64 E.t.lo.e, .bool E.t.hi.s, .slice A4 n4 c4, .int .i64 E.t.hi.e, .slice AX E.nx cX, .slice AU E.nu cU, .slice AP E.np cP] 33; simpa using this
 have G := mv BB rfl (J4 hT hL hO hE)
 clear hT hL hO hE
 obtain ⟨hT, hL, hO, hE⟩ := G
 have t0 : World.cell? _ ⟨_, 0, none⟩ = some (.slice AL nL cL) := xt.at 0
 have t1 : World.cell? _ ⟨_, 1, none⟩ = some (.slice AO nO cO) := xt.at 1
 have e0 : World.cell? _ ⟨_, 0, none⟩ = some (.bool E.t.lo.s) := xe.at 0
 have e1 : World.cell? _ ⟨_, 1, none⟩ = some (.slice A3 n3 c3) := xe.at 1
 have e2 : World.cell? _ ⟨_, 2, none⟩ = some (.int .i64 E.t.lo.e) := xe.at 2
 have e3 : World.cell? _ ⟨_, 3, none⟩ = some (.bool E.t.hi.s) := xe.at 3
 have e4 : World.cell? _ ⟨_, 4, none⟩ = some (.slice A4 n4 c4) := xe.at 4
 have e5 : World.cell? _ ⟨_, 5, none⟩ = some (.int .i64 E.t.hi.e) := xe.at 5
 have e6 : World.cell? _ ⟨_, 6, none⟩ = some (.slice AX E.nx cX) := xe.at 6
 have e7 : World.cell? _ ⟨_, 7, none⟩ = some (.slice AU E.nu cU) := xe.at 7
 have e8 : World.cell? _ ⟨_, 8, none⟩ = some (.slice AP E.np cP) := xe.at 8
 clear xt xe
 obtain ⟨S⟩ := sc_has
 go_enter Tryz.func3, Tryz.ntmps3
 go_wp2_with fail
 refine (tfew_any hL).mono ?_
 rintro en w2 ⟨b2, rfl, _, b⟩
 replace BB := bnx BB b
 have G := mv b rfl (J15 hT hL hO hE t0 t1 e0 e1 e2 e3 e4 e5 e6 e7 e8)
 clear b hT hL hO hE t0 t1 e0 e1 e2 e3 e4 e5 e6 e7 e8
 obtain ⟨hT, hL, hO, hE, t0, t1, e0, e1, e2, e3, e4, e5, e6, e7, e8⟩ := G
 cases b2
 ·go_wp2_with fail
  refine (told10_any hT).mono ?_
  rintro en w99 ⟨rfl, b⟩
  replace BB := bnx BB b
  clear b
  go_wp2
  go_ret
  exact ⟨by first | rfl | simp, BB⟩
 skip
 go_wp2_with fail
 refine (tenv_any hE).mono ?_
 rintro en w3 ⟨b3, rfl, hnx, b⟩
 replace BB := bnx BB b
 have G := mv b rfl (J15 hT hL hO hE t0 t1 e0 e1 e2 e3 e4 e5 e6 e7 e8)
 clear b hT hL hO hE t0 t1 e0 e1 e2 e3 e4 e5 e6 e7 e8
 obtain ⟨hT, hL, hO, hE, t0, t1, e0, e1, e2, e3, e4, e5, e6, e7, e8⟩ := G
 cases b3
 ·go_wp2_with fail
  refine (told10_any hT).mono ?_
  rintro en w99 ⟨rfl, b⟩
  replace BB := bnx BB b
  clear b
  go_wp2
  go_ret
  exact ⟨by first | rfl | simp, BB⟩
 skip
 have hx : E.nx ≤ 900 := by have := hnx rfl; omega
 clear hnx
 go_wp2_with fail
 generalize wrap64 (8 + wrap64 ((IntKind.u64.wrap p).tmod 73)) = pn
 obtain ⟨og, hog⟩ : ∃ o, o = gradO S ⟨nL, L, nO, O⟩ E pn := ⟨_, rfl⟩
 have HG := Lib.hid hog
 clear hog
 refine (gradEnd_to HG.out (sgrad_any S hT hL hO hE hx)).mono ?_
 intro en w4 hge
 cases ho : linesO S ⟨nL, L, nO, O⟩ E pn with
 | error k =>
  have hk0 := linesO_cod k ho
  rw [HG.out, grad_lin ho] at hge
  have HEV := Lib.hid (eval_lin ho)
  clear ho
  obtain ⟨rfl, b⟩ := grad_err hge
  clear hge
  replace BB := bnx BB b
  have G := mv b rfl (J15 hT hL hO hE t0 t1 e0 e1 e2 e3 e4 e5 e6 e7 e8)
  clear b hT hL hO hE t0 t1 e0 e1 e2 e3 e4 e5 e6 e7 e8
  obtain ⟨hT, hL, hO, hE, t0, t1, e0, e1, e2, e3, e4, e5, e6, e7, e8⟩ := G
  go_wp2_with fail
  refine (tellr_is HEV.out (teval_any S hT hL hO hE)).mono ?_
  rintro en w5 ⟨va, rfl, _, b⟩
  replace BB := bnx BB b
  have G := mv b rfl (J15 hT hL hO hE t0 t1 e0 e1 e2 e3 e4 e5 e6 e7 e8)
  clear b hT hL hO hE t0 t1 e0 e1 e2 e3 e4 e5 e6 e7 e8
  obtain ⟨hT, hL, hO, hE, t0, t1, e0, e1, e2, e3, e4, e5, e6, e7, e8⟩ := G
  have hkb : (k != 0) = true := by simp [hk0]
  have hkk : (k == k) = true := by simp
  simp only [okc]
  clear hk0 HEV
  go_wp2_with fail
  refine (told10_any hT).mono ?_
  rintro en w99 ⟨rfl, b⟩
  replace BB := bnx BB b
  clear b
  go_wp2
  go_ret
  exact ⟨by first | rfl | simp, BB⟩
 | ok V =>
  have HEV := Lib.hid (eval_vals ho)
  have HLN := Lib.hid ho
  clear ho
  rcases hge with ⟨R, D, v1, AD, cD, hgr, hRl, hDl, rfl, hr, hd, b⟩ | ⟨k, hgr, hk0, rfl, b⟩
  rotate_left
  ·clear hgr
   replace BB := bnx BB b
   have G := mv b rfl (J15 hT hL hO hE t0 t1 e0 e1 e2 e3 e4 e5 e6 e7 e8)
   clear b hT hL hO hE t0 t1 e0 e1 e2 e3 e4 e5 e6 e7 e8
   obtain ⟨hT, hL, hO, hE, t0, t1, e0, e1, e2, e3, e4, e5, e6, e7, e8⟩ := G
   go_wp2_with fail
   refine (tellr_is HEV.out (teval_any S hT hL hO hE)).mono ?_
   rintro en w5 ⟨va, rfl, _, b⟩
   replace BB := bnx BB b
   have G := mv b rfl (J15 hT hL hO hE t0 t1 e0 e1 e2 e3 e4 e5 e6 e7 e8)
   clear b hT hL hO hE t0 t1 e0 e1 e2 e3 e4 e5 e6 e7 e8
   obtain ⟨hT, hL, hO, hE, t0, t1, e0, e1, e2, e3, e4, e5, e6, e7, e8⟩ := G
   have hkb : (k != 0) = true := by simp [hk0]
   simp only [okc]
   clear hk0 HEV
   go_wp2_with fail
   refine (told10_any hT).mono ?_
   rintro en w99 ⟨rfl, b⟩
   replace BB := bnx BB b
   clear b
   go_wp2
   go_ret
   exact ⟨by first | rfl | simp, BB⟩
  have HGL := Lib.hid (grad_len HLN.out (HG.out.symm.trans hgr))
  have hRV : R = outsL V ⟨nL, L, nO, O⟩ := by have := HGL.out.1.symm.trans HEV.out; injection this
  subst hRV
  have HROW := Lib.hid HGL.out.2
  clear hgr HGL hDl
  obtain ⟨A1, c1, hv1, hR1, _⟩ := hr.form
  rw [hRl] at hv1 hR1
  subst hv1
  clear hr
  replace BB := bnx BB b
  have G := mv b rfl (J15 hT hL hO hE t0 t1 e0 e1 e2 e3 e4 e5 e6 e7 e8)
  clear b hT hL hO hE t0 t1 e0 e1 e2 e3 e4 e5 e6 e7 e8
  obtain ⟨hT, hL, hO, hE, t0, t1, e0, e1, e2, e3, e4, e5, e6, e7, e8⟩ := G
  go_wp2_with fail
  refine (tellr_is HEV.out (teval_any S hT hL hO hE)).mono ?_
  rintro en w5 ⟨vb, rfl, hrow, b⟩
  replace BB := bnx BB b
  have G := mv b rfl (J17 hT hL hO hE t0 t1 e0 e1 e2 e3 e4 e5 e6 e7 e8 hR1 hd)
  clear b hT hL hO hE t0 t1 e0 e1 e2 e3 e4 e5 e6 e7 e8 hR1 hd
  obtain ⟨hT, hL, hO, hE, t0, t1, e0, e1, e2, e3, e4, e5, e6, e7, e8, hR1, hd⟩ := G
  simp only [okc]
  simp only [oli] at hrow
  obtain ⟨A2, c2, hv2, hR2, _⟩ := hrow.form
  rw [hRl] at hv2 hR2
  subst hv2
  clear hrow
  have hnn : ((nO : Int) != (nO : Int)) = false := by simp
  go_wp2_with fail
  refine (rbox_yes hR1 hR2 fun i _ => one_self _).mono ?_
  rintro en w6 ⟨rfl, b⟩
  clear hR1 hR2
  replace BB := bnx BB b
  have G := mv b rfl (J16 hT hL hO hE t0 t1 e0 e1 e2 e3 e4 e5 e6 e7 e8 hd)
  clear b hT hL hO hE t0 t1 e0 e1 e2 e3 e4 e5 e6 e7 e8 hd
  obtain ⟨hT, hL, hO, hE, t0, t1, e0, e1, e2, e3, e4, e5, e6, e7, e8, hd⟩ := G
  have hnm : (nO : Int) ≤ 9223372036854775807 := by have := hO.cap; have := hO.max; omega
  go_wp2
  go_loopg [13] nO (fun q v wr => ∃ i : Nat, i + q = nO ∧ v = .int .i64 i ∧ Below w6.heap.size w6 wr)
  case atStart => exact ⟨0, by omega, rfl, Below.refl _ _⟩
  case round =>
   obtain ⟨i, hg, rfl, hb⟩ := hrel
   have HGG := Lib.hid hg
   clear hg
   have hsz6 : w.heap.size ≤ w6.heap.size := BB.size
   replace BB := BB.trans (hb.mono hsz6)
   have G := mv hb rfl (J16 hT hL hO hE t0 t1 e0 e1 e2 e3 e4 e5 e6 e7 e8 hd)
   clear hT hL hO hE t0 t1 e0 e1 e2 e3 e4 e5 e6 e7 e8 hd
   obtain ⟨hT, hL, hO, hE, t0, t1, e0, e1, e2, e3, e4, e5, e6, e7, e8, hd⟩ := G
   by_cases hi : i < nO
   ·obtain ⟨gd, od, had, hD⟩ := hd.at_ (by omega)
    subst had
    obtain ⟨B, d, hB, _⟩ := hD i hi
    rw [HROW.out i hi] at hB
    clear hD hd
    have hp2 : (i : Int) < nO := by omega
    have hp3 : (0 : Int) ≤ i := by omega
    have hxx : ((E.nx : Int) != (E.nx : Int)) = false := by simp
    have b := drew_b wr
    clear hT hL hO hE t0 t1 e0 e1 e2 e3 e4 e5 e7 e8
    have b9 := b
    replace BB := bnx BB b
    have G := mv b rfl <| And.intro e6 <| hB
    clear b e6 hB
    obtain ⟨e6, hB⟩ := G
    go_wp2_with fail
    refine wp_region_held_drew (S := fun w' => w'.cell? ⟨gd, od + i, none⟩ = some (.slice B E.nx d) ∧ w'.cell? ⟨w.heap.size + 1, 6, none⟩ = some (.slice AX E.nx cX)) (by kernel_rfl) (by exact ⟨hB, e6⟩) (fun hHeldv0 => ?_)
    generalize hwd : World.drew wr = wd at *
    refine tl 0 ?_
    refine tl 1 ?_
    refine tl 2 ?_
    refine tl 3 ?_
    refine tl 4 ?_
    refine tl 5 ?_
    refine tl 6 ?_
    refine tl 7 ?_
    refine tl 8 ?_
    refine wpAnyH_done (by kernel_rfl) ?_ _
    go_wp2
    go_roundg (gk - 1)
    case measure => have := HGG.out; omega
    case rel => exact ⟨i + 1, by have := HGG.out; omega, by go_num, below_next hb hb.size b9 rfl rfl rfl rfl⟩
   have hi2 : i = nO := by have := HGG.out; omega
   subst hi2
   go_wp2_with fail
   refine (told10_any hT).mono ?_
   rintro en w99 ⟨rfl, b⟩
   replace BB := bnx BB b
   clear b
   go_wp2
   go_ret
   exact ⟨by first | rfl | simp, BB⟩
end Go.Proofs.YtehfdfjpmmpndaaGreatDoor
