/-
  Contracts of ival's Meet, at this translation.
-/
import Derived.Test.YtehfdfjpmmpndaaGreatDoorQIg
import Derived.Test.YtehfdfjpmmpndaaGreatDoorCards
import Derived.Test.YtehfdfjpmmpndaaGreatDoorTie
import Derived.Test.YtehfdfjpmmpndaaGreatDoorQRoot
import Derived.WalkKit
import Derived.ProofKit
import Derived.OpenShut
import Derived.Carry
import Derived.Deep.DeepHandedRow
import Derived.Lib.LaidTab
import Derived.Lib.SmallJoins
import Derived.Test.YtehfdfjpmmpndaaGreatDoorQRt
import Derived.Test.YtehfdfjpmmpndaaGreatDoorQRoo
set_option maxHeartbeats 8000000
set_option maxRecDepth 100000
namespace Go.Proofs.YtehfdfjpmmpndaaGreatDoor
open Go.RowKit
variable {A1 A2 : Option Addr} {K c1 c2 g gp m m' n1 n2 p : Nat} {e e' k : Int} {s s' : Bool} {w : World} {x : Iv}
theorem may_len (h : mayI K x = true) : x.lo.l.length ≤ 10000000000000 ∧ x.hi.l.length ≤ 10000000000000 := by
 obtain ⟨h1, h2, _⟩ := mayI_iff.1 h
 have key : ∀ a : Rw, a.may = true → a.l.length ≤ 10000000000000 := fun a ha => by
  have := (mayD_of a.lt ha).1
  unfold mayB at this
  simp only [Bool.and_eq_true, decide_eq_true_eq] at this
  omega
 exact ⟨key _ h1, key _ h2⟩
theorem two_may {x y : Iv} : (∀ i, i < 2 → mayI K (if i = 0 then x else y) = true) ↔ (mayI K x = true ∧ mayI K y = true) := by
 constructor
 ·exact fun h => ⟨h 0 (by omega), h 1 (by omega)⟩
 rintro ⟨h1, h2⟩ i hi
 rcases (show i = 0 ∨ i = 1 by omega) with rfl | rfl
 ·exact h1
 exact h2
theorem one_may : (∀ i, i < 1 → mayI K x = true) ↔ mayI K x = true := ⟨fun h => h 0 (by omega), fun h _ _ => h⟩
theorem up3 (w : World) (o o' o'' : Obj) : (((w.alloc o).alloc o').alloc o'').heap.size = w.heap.size + 3 := by simp
theorem ibx_one (w : World) (o : Obj) (s : Bool) (A : Option Addr) (n c : Nat) (e : Int) (t : Bool) (B : Option Addr) (m d : Nat) (f : Int) : Ibx ((w.alloc o).alloc (.cells #[.bool s, .slice A n c, .int .i64 e, .bool t, .slice B m d, .int .i64 f] 30)) (w.heap.size + 1) s A n c e t B m d f := by
 have := Ibx.new (w.alloc o) s A n c e t B m d f
 simpa using this
theorem rows_one (hg : w.heap.size = g) (h1 : Rd w .u64 YtehfdfjpmmpndaaGreatDoor.W A1 n1 c1 x.lo.l) (h2 : Rd w .u64 YtehfdfjpmmpndaaGreatDoor.W A2 n2 c2 x.hi.l) : Ivs (w.alloc (.cells #[.bool x.lo.s, .slice A1 n1 c1, .int .i64 x.lo.e, .bool x.hi.s, .slice A2 n2 c2, .int .i64 x.hi.e] 30)) g 0 1 (fun _ => x) := by
 subst hg
 exact ivs_one w h1 h2
theorem rows_two (hg : w.heap.size = g) {x y : Iv} {A3 : Option Addr} {n3 c3 : Nat} {A4 : Option Addr} {n4 c4 : Nat} (h1 : Rd w .u64 YtehfdfjpmmpndaaGreatDoor.W A1 n1 c1 x.lo.l) (h2 : Rd w .u64 YtehfdfjpmmpndaaGreatDoor.W A2 n2 c2 x.hi.l) (h3 : Rd w .u64 YtehfdfjpmmpndaaGreatDoor.W A3 n3 c3 y.lo.l) (h4 : Rd w .u64 YtehfdfjpmmpndaaGreatDoor.W A4 n4 c4 y.hi.l) : Ivs (w.alloc (.cells #[.bool x.lo.s, .slice A1 n1 c1, .int .i64 x.lo.e, .bool x.hi.s, .slice A2 n2 c2, .int .i64 x.hi.e, .bool y.lo.s, .slice A3 n3 c3, .int .i64 y.lo.e, .bool y.hi.s, .slice A4 n4 c4, .int .i64 y.hi.e] 30)) g 0 2 (fun i => if i = 0 then x else y) := by
 subst hg
 exact ivs_two w h1 h2 h3 h4
theorem iof_any {a : Rw} (h1 : Rd w .u64 YtehfdfjpmmpndaaGreatDoor.W A1 n1 c1 a.l) (hn : n1 ≤ 10000000000000) :
  Calls Tryz.prog 13 #[.agg #[.bool a.s, .slice A1 n1 c1, .int .i64 a.e]] w (GivI ⟨a, a⟩ w) := by
 have BB := two_below w (.cells #[.bool a.s, .slice A1 n1 c1, .int .i64 a.e] 28) (.cells #[.bool false, .slice none 0 0, .int .i64 0, .bool false, .slice none 0 0, .int .i64 0] 30)
 have xa := (Box.new w a.s A1 n1 c1 a.e).alloc (.cells #[.bool false, .slice none 0 0, .int .i64 0, .bool false, .slice none 0 0, .int .i64 0] 30)
 have r := ibx_one w (.cells #[.bool a.s, .slice A1 n1 c1, .int .i64 a.e] 28) false none 0 0 0 false none 0 0 0
 have hmf := make_func
 have HN := hyd hn
 clear hn
 replace h1 := mv BB rfl h1
 go_enter Tryz.func13, Tryz.ntmps13
 go_wp2_with fail
 refine (ends1_ok (x := ⟨a, a⟩) (fun _ _ => by kernel_rfl) (by rw [h1.len]; exact HN.out) (fun W2 b2 => of1_any (hi := false) (mv b2 rfl h1) (mv b2 rfl xa)) (by rw [h1.len]; exact HN.out) (fun W2 b2 => of1_any (hi := true) (mv b2 rfl h1) (mv b2 rfl xa))).mono ?_
 rintro en w1 ⟨A3, n3, c3, A4, n4, c4, rfl, h3, h4, b⟩
 clear h1 xa
 replace BB := bnx BB b
 replace r := mv b rfl r
 clear b
 replace h3 : Rd w1 .u64 YtehfdfjpmmpndaaGreatDoor.W A3 n3 c3 a.l := h3
 replace h4 : Rd w1 .u64 YtehfdfjpmmpndaaGreatDoor.W A4 n4 c4 a.l := h4
 obtain ⟨f0, f1, f2, f3, f4, f5⟩ := r.open
 obtain ⟨z0, z1, z2, z3, z4, z5⟩ := r.held
 go_wp2
 exact ret6 rfl rfl rfl r h3 h4 BB (by omega) fun _ hN hM HB3 => ⟨_, _, _, _, _, _, rfl, hN, hM, HB3⟩
set_option maxHeartbeats 200000
set_option maxRecDepth 100000
open Go.ChangeShapes Go.WideShapes Go.ChangeAt
theorem own : ownKnob Tryz.prog.godebug = none := by kernel_rfl
theorem gTab : Tryz.prog.globalNamed "math/bits.deBruijn64tab" = some 0 := by kernel_rfl
theorem gTabType : (Tryz.prog.globals[0]?).map (·.type) = some 124 := by kernel_rfl
theorem cellsTab : Tryz.prog.cellsOf 124 = 64 := by kernel_rfl
theorem cellsU8 : Tryz.prog.cellsOf 5 = 1 := by kernel_rfl
theorem laidOut : laidOutB Tryz.prog = true := by kernel_rfl
def tabInts : List Int := Lib.deBruijn64tab.map (fun x : Nat => (x : Int))
theorem tab_of {W : World} (h : Lib.TabIs Tryz.prog W "math/bits.deBruijn64tab" .u8 tabInts) : Tab W := fun j hj => by
 have hl : tabInts.length = Lib.deBruijn64tab.length := by simp [tabInts]
 have := h.cell gTab j (by rw [hl]; exact hj)
 rw [this]
 congr 2
 simp only [tabInts, List.getD_eq_getElem?_getD, List.getElem?_map]
 rw [List.getElem?_eq_getElem hj]
 simp
theorem table {W : World} (h : laidMetH Tryz.prog [("math/bits.deBruijn64tab", Rows.laid_math_bits_deBruijn64tab)] W) : Tab W :=
 tab_of (Lib.tabIs_of_head (rest := []) gTab gTabType Tryz.underlying124 Tryz.underlying5 cellsU8 cellsTab h)
noncomputable def laidWorld (os : Os) : World :=
 { World.holding Tryz.prog os ⟨#[], #[], []⟩ with heap := (World.holding Tryz.prog os ⟨#[], #[], []⟩).heap.modify 0 fun
   | .cells _ t frozen => .cells (tabInts.map (Value.int .u8)).toArray t frozen
   | o => o }
theorem post_true {H : Type} {enc : TypeId × Value → H} {f : Func} {s : ChangeSpec} {W W' : World} {args : Array Value} {ds gs : List (DataW H)} {before pa : List MemPlace}
  (hW : DataW.Whole enc Tryz.prog f.params.toList s.vars false W args.toList ds gs before) (hr : f.resultTypes = #[4]) (hs : (s.fn H (ds ++ gs)).results = [.lit (.bool true)]) (hv : DataW.TrodVars enc Tryz.prog W' (fun b => decide (b < W.heap.size)) s.vars (s.fn H (ds ++ gs)).vars [])
  (hargs : DataW.TrodAll enc Tryz.prog W' 0 (fun b => decide (b < W.heap.size)) true f.params.toList args.toList (s.fn H (ds ++ gs)).args pa) (hb : Below W.heap.size W W') :
  s.post enc Tryz.prog f false true false false W args (.bool true) W' := by
 refine ⟨ds, gs, before, [], pa, [], hW, ?_, hargs, hv, hb.frame _, fun h => by cases h⟩
 rw [hs, hr]
 exact trodAll_cons_mk (shut_bool Tryz.underlying4 _) trodAll_mk0
theorem cells_int : Tryz.prog.cellsOf 3 = 1 := by kernel_rfl
def Rw.of (s : Bool) (m : Nat) (e : Int) : Rw := ⟨s, dig YtehfdfjpmmpndaaGreatDoor.W m, e, (can_dig W_two m).1⟩
theorem Rw.of_may (h : OkD s m e) : (Rw.of s m e).may = true := mayD_ok h
theorem Rw.of_v : (Rw.of s m e).v K = vz K s m e := by
 unfold Rw.of Rw.v
 rw [val_dig W_two]
theorem okd_1 : OkD false 1 0 := okd_small rfl (by omega) (by decide) (by decide)
theorem okd_3 : OkD false 3 0 := okd_small rfl (by omega) (by decide) (by decide)
theorem vz_1 (K m : Nat) : vz K false m 0 = (m : Int) * ((2 ^ K : Nat) : Int) := by
 unfold vz sg
 have e1 : ((0 : Int) + (K : Int)).toNat = K := by omega
 rw [e1, if_neg Bool.false_ne_true, Int.one_mul, Int.natCast_mul]
theorem vz_2 (K m j : Nat) : vz K false m (j : Int) = ((m * 2 ^ j : Nat) : Int) * ((2 ^ K : Nat) : Int) := by
 have h := vz_up (K := K) (s := false) (m := m) (e := 0) (by omega) j
 rw [Int.zero_add] at h
 rw [h, vz_1]
def q1 : Rw := Rw.of false 1 0
def q3 : Rw := Rw.of false 3 0
theorem q3_may : q3.may = true := Rw.of_may okd_3
theorem told_is' {f : FuncId} {args : Array Value} {P : Int → Bool → Nat → Int → Prop} (h : Calls Tryz.prog f args w (Tells P w)) (hP : ∀ k1 s1 m1 e1, P k1 s1 m1 e1 → k1 = k ∧ s1 = s ∧ m1 = m ∧ e1 = e) : Calls Tryz.prog f args w (ToldIs s m e k w) := h.mono fun _ _ h => told_is h hP
structure RdS (w : World) (A : Option Addr) (n c : Nat) (X : Nat → Iv) : Prop where
 cap : n ≤ c
 max : c ≤ 9223372036854775807
 at_ : n ≠ 0 → ∃ b o, A = some ⟨b, o, none⟩ ∧ Ivs w b o n X
theorem Ibx.oth6 {g g' : Nat} {A : Option Addr} {n c : Nat} {t : Bool} {B : Option Addr} {m d : Nat} {f : Int} (h : Ibx w g' s A n c e t B m d f) (hne : g' ≠ g) (u0 u1 u2 u3 u4 u5 : Value) : Ibx ((((((w.setCell ⟨g, 0, none⟩ u0).setCell ⟨g, 1, none⟩ u1).setCell ⟨g, 2, none⟩ u2).setCell ⟨g, 3, none⟩ u3).setCell ⟨g, 4, none⟩ u4).setCell ⟨g, 5, none⟩ u5) g' s A n c e t B m d f := (((((h.other hne 0 u0).other hne 1 u1).other hne 2 u2).other hne 3 u3).other hne 4 u4).other hne 5 u5
def upN (x n : Nat) : Nat := x / 2 ^ n + if x % 2 ^ n = 0 then 0 else 1
theorem low_up {x k n : Nat} (h : IsLow x k) : k < n ↔ x % 2 ^ n ≠ 0 := (isLow_mod h).symm
theorem up_low {x k n : Nat} (h : IsLow x k) (hk : k < n) : upN x n = x / 2 ^ n + 1 := by
 unfold upN
 rw [if_neg ((low_up h).1 hk)]
theorem up_high {x k n : Nat} (h : IsLow x k) (hk : ¬ k < n) : upN x n = x / 2 ^ n := by
 unfold upN
 rw [if_pos (Classical.byContradiction fun h0 => hk ((low_up h).2 h0))]
 rfl
def d64 : Iv := ⟨Rw.of true 1 6, Rw.of false 1 6⟩
theorem okd_64 (s : Bool) : OkD s 1 6 := .inr ⟨rfl, small64 (by omega), by decide, by decide⟩
theorem v_64 (K : Nat) : vz K false 1 6 = 64 * ((2 ^ K : Nat) : Int) ∧ vz K true 1 6 = -(64 * ((2 ^ K : Nat) : Int)) := by
 have h := vz_2 K 1 6
 have e1 : ((1 * 2 ^ 6 : Nat) : Int) = 64 := rfl
 have e2 : ((6 : Nat) : Int) = 6 := rfl
 rw [e1, e2] at h
 have h2 := vz_not K false 1 6
 rw [h] at h2
 exact ⟨h, h2⟩
set_option maxHeartbeats 8000000
set_option maxRecDepth 100000
theorem GivQ.of {w w' : World} {en : Ending} (h : Goods s m e w en w') : GivQ (Rw.of s m e) w en w' := by
 obtain ⟨A, n, c, h1, h2, h3⟩ := h
 exact ⟨A, n, c, h1, h2.rd, h3⟩
theorem round1_lo_ok (hT : Tab w) (h1 : Rd w .u64 YtehfdfjpmmpndaaGreatDoor.W A1 n1 c1 x.lo.l) (xa : Ibx w g x.lo.s A1 n1 c1 x.lo.e x.hi.s A2 n2 c2 x.hi.e) (xp : Cel w gp (p : Int)) (hd : x.lo.may = true) (hp1 : 1 ≤ p) (hp : p ≤ 2000) (hh : RdTold x.lo.s (val YtehfdfjpmmpndaaGreatDoor.W x.lo.l) x.lo.e p false 0 s m e) :
  Calls Tryz.prog 102 #[.bool false, .pointer (some ⟨g, 0, none⟩), .pointer (some ⟨gp, 0, none⟩)] w (GivQ (Rw.of s m e) w) := by
 have BB := below_alloc w (.cells #[.bool false, .slice none 0 0, .int .i64 0] 28)
 have la := xa.gl
 have lp := xp.gl
 have G := mv BB rfl (J4 hT h1 xa xp)
 clear hT h1 xa xp
 obtain ⟨hT, h1, xa, xp⟩ := G
 have r := Box.new w false none 0 0 0
 obtain ⟨a0, a1, a2, a3, a4, a5⟩ := xa.held
 have p0 := xp.c0
 clear xa xp
 obtain ⟨hN, hO, _⟩ := rd_okd h1 hd
 have HO := hyd hO
 have HH := hyd hh
 clear hO hd hh
 go_enter Tryz.func102, Tryz.ntmps102
 go_wp2_with fail
 refine (told_is' (rdown_ok (p := p) hT hN HO.out hp1 hp) (fun _ _ _ _ h => nm_fun h HH.out)).mono ?_
 rintro en w1 ⟨A3, n3, c3, rfl, h3, b⟩
 replace BB := bnx BB b
 have G := mv b rfl (J11 hT h1 r a0 a1 a2 a3 a4 a5 p0 hN)
 clear b hT h1 r a0 a1 a2 a3 a4 a5 p0 hN
 obtain ⟨hT, h1, r, a0, a1, a2, a3, a4, a5, p0, hN⟩ := G
 go_wp2_with fail
 refine (must_ok h3).mono ?_
 rintro en w2 ⟨A5, n5, c5, rfl, h5, b⟩
 clear h3
 replace BB := bnx BB b
 have G := mv b rfl (J11 hT h1 r a0 a1 a2 a3 a4 a5 p0 hN)
 clear b hT h1 r a0 a1 a2 a3 a4 a5 p0 hN
 obtain ⟨hT, h1, r, a0, a1, a2, a3, a4, a5, p0, hN⟩ := G
 obtain ⟨f0, f1, f2⟩ := r.open
 obtain ⟨z0, z1, z2⟩ := r.held
 go_wp2
 exact ret3 rfl rfl rfl r BB (by omega) (h5.put3 r _ _ _) fun hM HB3 => (GivQ.of ⟨_, _, _, rfl, hM, HB3⟩)
theorem round1_lo_no (hT : Tab w) (h1 : Rd w .u64 YtehfdfjpmmpndaaGreatDoor.W A1 n1 c1 x.lo.l) (xa : Ibx w g x.lo.s A1 n1 c1 x.lo.e x.hi.s A2 n2 c2 x.hi.e) (xp : Cel w gp (p : Int)) (hd : x.lo.may = true) (hp1 : 1 ≤ p) (hp : p ≤ 2000) (hh : RdTold x.lo.s (val YtehfdfjpmmpndaaGreatDoor.W x.lo.l) x.lo.e p false k s m e) (hk : k ≠ 0) :
  Calls Tryz.prog 102 #[.bool false, .pointer (some ⟨g, 0, none⟩), .pointer (some ⟨gp, 0, none⟩)] w (Faults k w) := by
 have BB := below_alloc w (.cells #[.bool false, .slice none 0 0, .int .i64 0] 28)
 have la := xa.gl
 have lp := xp.gl
 have G := mv BB rfl (J4 hT h1 xa xp)
 clear hT h1 xa xp
 obtain ⟨hT, h1, xa, xp⟩ := G
 obtain ⟨a0, a1, a2, a3, a4, a5⟩ := xa.held
 have p0 := xp.c0
 clear xa xp
 obtain ⟨hN, hO, _⟩ := rd_okd h1 hd
 have HO := hyd hO
 have HH := hyd hh
 clear hO hd hh
 have HKZ := hyd hk
 clear hk
 go_enter Tryz.func102, Tryz.ntmps102
 go_wp2_with fail
 refine (told_is' (rdown_ok (p := p) hT hN HO.out hp1 hp) (fun _ _ _ _ h => nm_fun h HH.out)).mono ?_
 rintro en w1 ⟨A3, n3, c3, rfl, h3, b⟩
 replace BB := bnx BB b
 have G := mv b rfl (J10 hT h1 a0 a1 a2 a3 a4 a5 p0 hN)
 clear b hT h1 a0 a1 a2 a3 a4 a5 p0 hN
 obtain ⟨hT, h1, a0, a1, a2, a3, a4, a5, p0, hN⟩ := G
 go_wp2_with fail
 refine (must_bad HKZ.out).mono ?_
 rintro en w2 ⟨rfl, b⟩
 replace BB := bnx BB b
 clear b
 go_wp2
 exact ⟨rfl, rfl, BB⟩
theorem round1_hi_ok (hT : Tab w) (h2 : Rd w .u64 YtehfdfjpmmpndaaGreatDoor.W A2 n2 c2 x.hi.l) (xa : Ibx w g x.lo.s A1 n1 c1 x.lo.e x.hi.s A2 n2 c2 x.hi.e) (xp : Cel w gp (p : Int)) (hd : x.hi.may = true) (hp1 : 1 ≤ p) (hp : p ≤ 2000) (hh : RdTold x.hi.s (val YtehfdfjpmmpndaaGreatDoor.W x.hi.l) x.hi.e p true 0 s m e) :
  Calls Tryz.prog 102 #[.bool true, .pointer (some ⟨g, 0, none⟩), .pointer (some ⟨gp, 0, none⟩)] w (GivQ (Rw.of s m e) w) := by
 have BB := below_alloc w (.cells #[.bool false, .slice none 0 0, .int .i64 0] 28)
 have la := xa.gl
 have lp := xp.gl
 have G := mv BB rfl (J4 hT h2 xa xp)
 clear hT h2 xa xp
 obtain ⟨hT, h2, xa, xp⟩ := G
 have r := Box.new w false none 0 0 0
 obtain ⟨a0, a1, a2, a3, a4, a5⟩ := xa.held
 have p0 := xp.c0
 clear xa xp
 obtain ⟨hN, hO, _⟩ := rd_okd h2 hd
 have HO := hyd hO
 have HH := hyd hh
 clear hO hd hh
 go_enter Tryz.func102, Tryz.ntmps102
 go_wp2_with fail
 refine (told_is' (rup_ok (p := p) hT hN HO.out hp1 hp) (fun _ _ _ _ h => nm_fun h HH.out)).mono ?_
 rintro en w1 ⟨A3, n3, c3, rfl, h3, b⟩
 replace BB := bnx BB b
 have G := mv b rfl (J11 hT h2 r a0 a1 a2 a3 a4 a5 p0 hN)
 clear b hT h2 r a0 a1 a2 a3 a4 a5 p0 hN
 obtain ⟨hT, h2, r, a0, a1, a2, a3, a4, a5, p0, hN⟩ := G
 go_wp2_with fail
 refine (must_ok h3).mono ?_
 rintro en w2 ⟨A5, n5, c5, rfl, h5, b⟩
 clear h3
 replace BB := bnx BB b
 have G := mv b rfl (J11 hT h2 r a0 a1 a2 a3 a4 a5 p0 hN)
 clear b hT h2 r a0 a1 a2 a3 a4 a5 p0 hN
 obtain ⟨hT, h2, r, a0, a1, a2, a3, a4, a5, p0, hN⟩ := G
 obtain ⟨f0, f1, f2⟩ := r.open
 obtain ⟨z0, z1, z2⟩ := r.held
 go_wp2
 exact ret3 rfl rfl rfl r BB (by omega) (h5.put3 r _ _ _) fun hM HB3 => (GivQ.of ⟨_, _, _, rfl, hM, HB3⟩)
theorem round1_hi_no (hT : Tab w) (h2 : Rd w .u64 YtehfdfjpmmpndaaGreatDoor.W A2 n2 c2 x.hi.l) (xa : Ibx w g x.lo.s A1 n1 c1 x.lo.e x.hi.s A2 n2 c2 x.hi.e) (xp : Cel w gp (p : Int)) (hd : x.hi.may = true) (hp1 : 1 ≤ p) (hp : p ≤ 2000) (hh : RdTold x.hi.s (val YtehfdfjpmmpndaaGreatDoor.W x.hi.l) x.hi.e p true k s m e) (hk : k ≠ 0) :
  Calls Tryz.prog 102 #[.bool true, .pointer (some ⟨g, 0, none⟩), .pointer (some ⟨gp, 0, none⟩)] w (Faults k w) := by
 have BB := below_alloc w (.cells #[.bool false, .slice none 0 0, .int .i64 0] 28)
 have la := xa.gl
 have lp := xp.gl
 have G := mv BB rfl (J4 hT h2 xa xp)
 clear hT h2 xa xp
 obtain ⟨hT, h2, xa, xp⟩ := G
 obtain ⟨a0, a1, a2, a3, a4, a5⟩ := xa.held
 have p0 := xp.c0
 clear xa xp
 obtain ⟨hN, hO, _⟩ := rd_okd h2 hd
 have HO := hyd hO
 have HH := hyd hh
 clear hO hd hh
 have HKZ := hyd hk
 clear hk
 go_enter Tryz.func102, Tryz.ntmps102
 go_wp2_with fail
 refine (told_is' (rup_ok (p := p) hT hN HO.out hp1 hp) (fun _ _ _ _ h => nm_fun h HH.out)).mono ?_
 rintro en w1 ⟨A3, n3, c3, rfl, h3, b⟩
 replace BB := bnx BB b
 have G := mv b rfl (J10 hT h2 a0 a1 a2 a3 a4 a5 p0 hN)
 clear b hT h2 a0 a1 a2 a3 a4 a5 p0 hN
 obtain ⟨hT, h2, a0, a1, a2, a3, a4, a5, p0, hN⟩ := G
 go_wp2_with fail
 refine (must_bad HKZ.out).mono ?_
 rintro en w2 ⟨rfl, b⟩
 replace BB := bnx BB b
 clear b
 go_wp2
 exact ⟨rfl, rfl, BB⟩
theorem told_len {x : Nat} {u : Bool} (h : RdTold s x e p u k s' m' e') : (Rw.of s' m' e').l.length ≤ 10000000000000 := by
 have hm := (mayD_of (Rw.of s' m' e').lt (Rw.of_may (nm_okd h))).1
 unfold mayB at hm
 simp only [Bool.and_eq_true, decide_eq_true_eq] at hm
 omega
theorem iround_ok (hK : 4194304 ≤ K) (hT : Tab w) (h1 : Rd w .u64 YtehfdfjpmmpndaaGreatDoor.W A1 n1 c1 x.lo.l) (h2 : Rd w .u64 YtehfdfjpmmpndaaGreatDoor.W A2 n2 c2 x.hi.l) (hm : mayI K x = true) (hp1 : 1 ≤ p) (hp : p ≤ 2000) (hl : RdTold x.lo.s (val YtehfdfjpmmpndaaGreatDoor.W x.lo.l) x.lo.e p false 0 s m e) (hh : RdTold x.hi.s (val YtehfdfjpmmpndaaGreatDoor.W x.hi.l) x.hi.e p true 0 s' m' e') :
  Calls Tryz.prog 74 #[.agg #[.bool x.lo.s, .slice A1 n1 c1, .int .i64 x.lo.e, .bool x.hi.s, .slice A2 n2 c2, .int .i64 x.hi.e], .int .i64 (p : Int)] w (TellI 0 ⟨Rw.of s m e, Rw.of s' m' e'⟩ w) := by
 have BB := three_below w (.cells #[.bool x.lo.s, .slice A1 n1 c1, .int .i64 x.lo.e, .bool x.hi.s, .slice A2 n2 c2, .int .i64 x.hi.e] 30) (.cells #[.int .i64 (p : Int)] 3) (.cells #[.bool false, .slice none 0 0, .int .i64 0, .bool false, .slice none 0 0, .int .i64 0] 30)
 have xa := ((Ibx.new w x.lo.s A1 n1 c1 x.lo.e x.hi.s A2 n2 c2 x.hi.e).alloc (.cells #[.int .i64 (p : Int)] 3)).alloc (.cells #[.bool false, .slice none 0 0, .int .i64 0, .bool false, .slice none 0 0, .int .i64 0] 30)
 have xp := (Cel.new1 w (.cells #[.bool x.lo.s, .slice A1 n1 c1, .int .i64 x.lo.e, .bool x.hi.s, .slice A2 n2 c2, .int .i64 x.hi.e] 30) (p : Int)).alloc (.cells #[.bool false, .slice none 0 0, .int .i64 0, .bool false, .slice none 0 0, .int .i64 0] 30)
 have r := ibx_two w (.cells #[.bool x.lo.s, .slice A1 n1 c1, .int .i64 x.lo.e, .bool x.hi.s, .slice A2 n2 c2, .int .i64 x.hi.e] 30) (.cells #[.int .i64 (p : Int)] 3) false none 0 0 0 false none 0 0 0
 have hmf := make_func
 obtain ⟨a0, a1, a2, a3, a4, a5⟩ := xa.held
 have G := mv BB rfl (J3 hT h1 h2)
 clear hT h1 h2
 obtain ⟨hT, h1, h2⟩ := G
 have rw1 := rows_one (up3 w (.cells #[.bool x.lo.s, .slice A1 n1 c1, .int .i64 x.lo.e, .bool x.hi.s, .slice A2 n2 c2, .int .i64 x.hi.e] 30) (.cells #[.int .i64 (p : Int)] 3) (.cells #[.bool false, .slice none 0 0, .int .i64 0, .bool false, .slice none 0 0, .int .i64 0] 30)) h1 h2
 have b := below_alloc (((w.alloc (.cells #[.bool x.lo.s, .slice A1 n1 c1, .int .i64 x.lo.e, .bool x.hi.s, .slice A2 n2 c2, .int .i64 x.hi.e] 30)).alloc (.cells #[.int .i64 (p : Int)] 3)).alloc (.cells #[.bool false, .slice none 0 0, .int .i64 0, .bool false, .slice none 0 0, .int .i64 0] 30)) (.cells #[.bool x.lo.s, .slice A1 n1 c1, .int .i64 x.lo.e, .bool x.hi.s, .slice A2 n2 c2, .int .i64 x.hi.e] 30)
 replace BB := bnx BB b
 have G := mv b rfl (J6 hT h1 h2 r xa xp)
 clear b hT h1 h2 r xa xp
 obtain ⟨hT, h1, h2, r, xa, xp⟩ := G
 go_enter Tryz.func74, Tryz.ntmps74
 go_wp2_with fail
 refine (asked_ok (x := ⟨Rw.of s m e, Rw.of s' m' e'⟩) hK hT rw1 (by omega) (one_may.2 hm) (fun W2 b2 => ends2_ok (x := ⟨Rw.of s m e, Rw.of s' m' e'⟩) (fun _ _ => by kernel_rfl) (told_len hl) (fun W3 b3 => round1_lo_ok (mv (b2.trans (b3.mono b2.size)) rfl hT) (mv (b2.trans (b3.mono b2.size)) rfl h1) (mv (b2.trans (b3.mono b2.size)) rfl xa) (mv (b2.trans (b3.mono b2.size)) rfl xp) (mayI_iff.1 hm).1 hp1 hp hl) (told_len hh) (fun W3 b3 => round1_hi_ok (mv (b2.trans (b3.mono b2.size)) rfl hT) (mv (b2.trans (b3.mono b2.size)) rfl h2) (mv (b2.trans (b3.mono b2.size)) rfl xa) (mv (b2.trans (b3.mono b2.size)) rfl xp) (mayI_iff.1 hm).2.1 hp1 hp hh))).mono ?_
 rintro en w5 ⟨A5, n5, c5, A6, n6, c6, rfl, h5, h6, b⟩
 clear hT h1 h2 xa xp rw1
 replace BB := bnx BB b
 replace r := mv b rfl r
 clear b
 obtain ⟨f0, f1, f2, f3, f4, f5⟩ := r.open
 obtain ⟨z0, z1, z2, z3, z4, z5⟩ := r.held
 go_wp2
 exact ret6t rfl rfl rfl rfl r h5 h6 BB (by omega) fun _ hN hM HB3 => ⟨_, _, _, _, _, _, rfl, hN, hM, HB3⟩
theorem iround_lo (hK : 4194304 ≤ K) (hT : Tab w) (h1 : Rd w .u64 YtehfdfjpmmpndaaGreatDoor.W A1 n1 c1 x.lo.l) (h2 : Rd w .u64 YtehfdfjpmmpndaaGreatDoor.W A2 n2 c2 x.hi.l) (hm : mayI K x = true) (hp1 : 1 ≤ p) (hp : p ≤ 2000) (hl : RdTold x.lo.s (val YtehfdfjpmmpndaaGreatDoor.W x.lo.l) x.lo.e p false k s m e) (hk : k ≠ 0) :
  Calls Tryz.prog 74 #[.agg #[.bool x.lo.s, .slice A1 n1 c1, .int .i64 x.lo.e, .bool x.hi.s, .slice A2 n2 c2, .int .i64 x.hi.e], .int .i64 (p : Int)] w (TellI k Iv.zero w) := by
 have BB := three_below w (.cells #[.bool x.lo.s, .slice A1 n1 c1, .int .i64 x.lo.e, .bool x.hi.s, .slice A2 n2 c2, .int .i64 x.hi.e] 30) (.cells #[.int .i64 (p : Int)] 3) (.cells #[.bool false, .slice none 0 0, .int .i64 0, .bool false, .slice none 0 0, .int .i64 0] 30)
 have xa := ((Ibx.new w x.lo.s A1 n1 c1 x.lo.e x.hi.s A2 n2 c2 x.hi.e).alloc (.cells #[.int .i64 (p : Int)] 3)).alloc (.cells #[.bool false, .slice none 0 0, .int .i64 0, .bool false, .slice none 0 0, .int .i64 0] 30)
 have xp := (Cel.new1 w (.cells #[.bool x.lo.s, .slice A1 n1 c1, .int .i64 x.lo.e, .bool x.hi.s, .slice A2 n2 c2, .int .i64 x.hi.e] 30) (p : Int)).alloc (.cells #[.bool false, .slice none 0 0, .int .i64 0, .bool false, .slice none 0 0, .int .i64 0] 30)
 have r := ibx_two w (.cells #[.bool x.lo.s, .slice A1 n1 c1, .int .i64 x.lo.e, .bool x.hi.s, .slice A2 n2 c2, .int .i64 x.hi.e] 30) (.cells #[.int .i64 (p : Int)] 3) false none 0 0 0 false none 0 0 0
 have hmf := make_func
 obtain ⟨a0, a1, a2, a3, a4, a5⟩ := xa.held
 have G := mv BB rfl (J3 hT h1 h2)
 clear hT h1 h2
 obtain ⟨hT, h1, h2⟩ := G
 have rw1 := rows_one (up3 w (.cells #[.bool x.lo.s, .slice A1 n1 c1, .int .i64 x.lo.e, .bool x.hi.s, .slice A2 n2 c2, .int .i64 x.hi.e] 30) (.cells #[.int .i64 (p : Int)] 3) (.cells #[.bool false, .slice none 0 0, .int .i64 0, .bool false, .slice none 0 0, .int .i64 0] 30)) h1 h2
 have b := below_alloc (((w.alloc (.cells #[.bool x.lo.s, .slice A1 n1 c1, .int .i64 x.lo.e, .bool x.hi.s, .slice A2 n2 c2, .int .i64 x.hi.e] 30)).alloc (.cells #[.int .i64 (p : Int)] 3)).alloc (.cells #[.bool false, .slice none 0 0, .int .i64 0, .bool false, .slice none 0 0, .int .i64 0] 30)) (.cells #[.bool x.lo.s, .slice A1 n1 c1, .int .i64 x.lo.e, .bool x.hi.s, .slice A2 n2 c2, .int .i64 x.hi.e] 30)
 replace BB := bnx BB b
 have G := mv b rfl (J6 hT h1 h2 r xa xp)
 clear b hT h1 h2 r xa xp
 obtain ⟨hT, h1, h2, r, xa, xp⟩ := G
 obtain ⟨q, hq⟩ : ∃ q, q = Iv.zero := ⟨_, rfl⟩
 rw [← hq]
 have HQ := hyd hq
 clear hq
 go_enter Tryz.func74, Tryz.ntmps74
 go_wp2_with fail
 refine (asked_fault (e := k) hK hT rw1 (by omega) (one_may.2 hm) (fun W2 b2 => ends2_lo (fun _ _ => by kernel_rfl) (fun W3 b3 => round1_lo_no (mv (b2.trans (b3.mono b2.size)) rfl hT) (mv (b2.trans (b3.mono b2.size)) rfl h1) (mv (b2.trans (b3.mono b2.size)) rfl xa) (mv (b2.trans (b3.mono b2.size)) rfl xp) (mayI_iff.1 hm).1 hp1 hp hl hk))).mono ?_
 rw [← HQ.out]
 rintro en w5 ⟨A5, n5, c5, A6, n6, c6, rfl, h5, h6, b⟩
 clear hT h1 h2 xa xp rw1
 replace BB := bnx BB b
 replace r := mv b rfl r
 clear b
 obtain ⟨f0, f1, f2, f3, f4, f5⟩ := r.open
 obtain ⟨z0, z1, z2, z3, z4, z5⟩ := r.held
 go_wp2
 exact ret6t rfl rfl rfl rfl r h5 h6 BB (by omega) fun _ hN hM HB3 => ⟨_, _, _, _, _, _, rfl, hN, hM, HB3⟩
theorem iround_hi (hK : 4194304 ≤ K) (hT : Tab w) (h1 : Rd w .u64 YtehfdfjpmmpndaaGreatDoor.W A1 n1 c1 x.lo.l) (h2 : Rd w .u64 YtehfdfjpmmpndaaGreatDoor.W A2 n2 c2 x.hi.l) (hm : mayI K x = true) (hp1 : 1 ≤ p) (hp : p ≤ 2000) (hl : RdTold x.lo.s (val YtehfdfjpmmpndaaGreatDoor.W x.lo.l) x.lo.e p false 0 s m e) (hh : RdTold x.hi.s (val YtehfdfjpmmpndaaGreatDoor.W x.hi.l) x.hi.e p true k s' m' e') (hk : k ≠ 0) :
  Calls Tryz.prog 74 #[.agg #[.bool x.lo.s, .slice A1 n1 c1, .int .i64 x.lo.e, .bool x.hi.s, .slice A2 n2 c2, .int .i64 x.hi.e], .int .i64 (p : Int)] w (TellI k Iv.zero w) := by
 have BB := three_below w (.cells #[.bool x.lo.s, .slice A1 n1 c1, .int .i64 x.lo.e, .bool x.hi.s, .slice A2 n2 c2, .int .i64 x.hi.e] 30) (.cells #[.int .i64 (p : Int)] 3) (.cells #[.bool false, .slice none 0 0, .int .i64 0, .bool false, .slice none 0 0, .int .i64 0] 30)
 have xa := ((Ibx.new w x.lo.s A1 n1 c1 x.lo.e x.hi.s A2 n2 c2 x.hi.e).alloc (.cells #[.int .i64 (p : Int)] 3)).alloc (.cells #[.bool false, .slice none 0 0, .int .i64 0, .bool false, .slice none 0 0, .int .i64 0] 30)
 have xp := (Cel.new1 w (.cells #[.bool x.lo.s, .slice A1 n1 c1, .int .i64 x.lo.e, .bool x.hi.s, .slice A2 n2 c2, .int .i64 x.hi.e] 30) (p : Int)).alloc (.cells #[.bool false, .slice none 0 0, .int .i64 0, .bool false, .slice none 0 0, .int .i64 0] 30)
 have r := ibx_two w (.cells #[.bool x.lo.s, .slice A1 n1 c1, .int .i64 x.lo.e, .bool x.hi.s, .slice A2 n2 c2, .int .i64 x.hi.e] 30) (.cells #[.int .i64 (p : Int)] 3) false none 0 0 0 false none 0 0 0
 have hmf := make_func
 obtain ⟨a0, a1, a2, a3, a4, a5⟩ := xa.held
 have G := mv BB rfl (J3 hT h1 h2)
 clear hT h1 h2
 obtain ⟨hT, h1, h2⟩ := G
 have rw1 := rows_one (up3 w (.cells #[.bool x.lo.s, .slice A1 n1 c1, .int .i64 x.lo.e, .bool x.hi.s, .slice A2 n2 c2, .int .i64 x.hi.e] 30) (.cells #[.int .i64 (p : Int)] 3) (.cells #[.bool false, .slice none 0 0, .int .i64 0, .bool false, .slice none 0 0, .int .i64 0] 30)) h1 h2
 have b := below_alloc (((w.alloc (.cells #[.bool x.lo.s, .slice A1 n1 c1, .int .i64 x.lo.e, .bool x.hi.s, .slice A2 n2 c2, .int .i64 x.hi.e] 30)).alloc (.cells #[.int .i64 (p : Int)] 3)).alloc (.cells #[.bool false, .slice none 0 0, .int .i64 0, .bool false, .slice none 0 0, .int .i64 0] 30)) (.cells #[.bool x.lo.s, .slice A1 n1 c1, .int .i64 x.lo.e, .bool x.hi.s, .slice A2 n2 c2, .int .i64 x.hi.e] 30)
 replace BB := bnx BB b
 have G := mv b rfl (J6 hT h1 h2 r xa xp)
 clear b hT h1 h2 r xa xp
 obtain ⟨hT, h1, h2, r, xa, xp⟩ := G
 obtain ⟨q, hq⟩ : ∃ q, q = Iv.zero := ⟨_, rfl⟩
 rw [← hq]
 have HQ := hyd hq
 clear hq
 go_enter Tryz.func74, Tryz.ntmps74
 go_wp2_with fail
 refine (asked_fault (e := k) hK hT rw1 (by omega) (one_may.2 hm) (fun W2 b2 => ends2_hi (x := ⟨Rw.of s m e, Rw.zero⟩) (fun _ _ => by kernel_rfl) (told_len hl) (fun W3 b3 => round1_lo_ok (mv (b2.trans (b3.mono b2.size)) rfl hT) (mv (b2.trans (b3.mono b2.size)) rfl h1) (mv (b2.trans (b3.mono b2.size)) rfl xa) (mv (b2.trans (b3.mono b2.size)) rfl xp) (mayI_iff.1 hm).1 hp1 hp hl) (fun W3 b3 => round1_hi_no (mv (b2.trans (b3.mono b2.size)) rfl hT) (mv (b2.trans (b3.mono b2.size)) rfl h2) (mv (b2.trans (b3.mono b2.size)) rfl xa) (mv (b2.trans (b3.mono b2.size)) rfl xp) (mayI_iff.1 hm).2.1 hp1 hp hh hk))).mono ?_
 rw [← HQ.out]
 rintro en w5 ⟨A5, n5, c5, A6, n6, c6, rfl, h5, h6, b⟩
 clear hT h1 h2 xa xp rw1
 replace BB := bnx BB b
 replace r := mv b rfl r
 clear b
 obtain ⟨f0, f1, f2, f3, f4, f5⟩ := r.open
 obtain ⟨z0, z1, z2, z3, z4, z5⟩ := r.held
 go_wp2
 exact ret6t rfl rfl rfl rfl r h5 h6 BB (by omega) fun _ hN hM HB3 => ⟨_, _, _, _, _, _, rfl, hN, hM, HB3⟩
end Go.Proofs.YtehfdfjpmmpndaaGreatDoor
