/-
 Contracts of ival's Round, at this translation. Condition: the slices read as limbs, the table of math/bits reads as its text lays it.
-/
import Derived.Test.YteagjlcmgiknmaaGreatDoorQEb
set_option maxHeartbeats 8000000
set_option maxRecDepth 100000
namespace Go.Proofs.YteagjlcmgiknmaaGreatDoor
open Go.RowKit

theorem GivQ.of {s : Bool} {m : Nat} {e : Int} {w w' : World} {en : Ending} (h : Goods s m e w en w') : GivQ (Rw.of s m e) w en w' := by
 obtain ⟨A, n, c, h1, h2, h3⟩ := h
 exact ⟨A, n, c, h1, h2.rd, h3⟩

theorem round1_lo_ok {w : World} {x : Iv} {g gp p : Nat} {A1 : Option Addr} {n1 c1 : Nat} {A2 : Option Addr} {n2 c2 : Nat} {s : Bool} {m : Nat} {e : Int} (hT : Tab w) (h1 : Rd w .u64 Go.Proofs.YteagjlcmgiknmaaGreatDoor.W A1 n1 c1 x.lo.l) (xa : Ibx w g x.lo.s A1 n1 c1 x.lo.e x.hi.s A2 n2 c2 x.hi.e) (xp : Cel w gp (p : Int)) (hd : x.lo.may = true) (hp1 : 1 ≤ p) (hp : p ≤ 2000) (hh : RdTold x.lo.s (val Go.Proofs.YteagjlcmgiknmaaGreatDoor.W x.lo.l) x.lo.e p false 0 s m e) :
  Calls Tryz.prog 75 #[.bool false, .pointer (some ⟨g, 0, none⟩), .pointer (some ⟨gp, 0, none⟩)] w (GivQ (Rw.of s m e) w) := by
 have BB := below_alloc w (.cells #[.bool false, .slice none 0 0, .int .i64 0] 25)
 have la := xa.gl
 have lp := xp.gl
 have G := mv BB rfl (J4 hT h1 xa xp)
 clear hT h1 xa xp
 obtain ⟨hT, h1, xa, xp⟩ := G
 have r := Box.new w false none 0 0 0
 obtain ⟨a0, a1, a2, a3, a4, a5⟩ := xa.held
 have p0 := xp.c0
 clear xa xp
 obtain ⟨hN, hO, _⟩ := rd_okd h1 hd
 have HO := Lib.hid hO
 have HH := Lib.hid hh
 clear hO hd hh
 go_enter Tryz.func75, Tryz.ntmps75
 go_wp2_with fail
 refine (told_is' (rdown_ok (p := p) hT hN HO.out hp1 hp) (fun _ _ _ _ h => nm_fun h HH.out)).mono ?_
 rintro en w1 ⟨A3, n3, c3, rfl, h3, b⟩
 replace BB := bnx BB b
 have G := mv b rfl (J11 hT h1 r a0 a1 a2 a3 a4 a5 p0 hN)
 clear b hT h1 r a0 a1 a2 a3 a4 a5 p0 hN
 obtain ⟨hT, h1, r, a0, a1, a2, a3, a4, a5, p0, hN⟩ := G
 go_wp2_with fail
 refine (must_ok h3).mono ?_
 rintro en w2 ⟨A5, n5, c5, rfl, h5, b⟩
 clear h3
 replace BB := bnx BB b
 have G := mv b rfl (J11 hT h1 r a0 a1 a2 a3 a4 a5 p0 hN)
 clear b hT h1 r a0 a1 a2 a3 a4 a5 p0 hN
 obtain ⟨hT, h1, r, a0, a1, a2, a3, a4, a5, p0, hN⟩ := G
 obtain ⟨f0, f1, f2⟩ := r.open
 obtain ⟨z0, z1, z2⟩ := r.held
 go_wp2
 have qq := r.put s A5 n5 c5 e
 have hM := h5.put3 r (.bool s) (.slice A5 n5 c5) (.int .i64 e)
 have HB3 := below_put3 (g := w.heap.size) BB (by omega) (.bool s) (.slice A5 n5 c5) (.int .i64 e)
 obtain ⟨z0, z1, z2⟩ := qq.held
 exact bodyPost_ret (v := .agg #[.bool s, .slice A5 n5 c5, .int .i64 e]) (by simp [results, Tryz.results75, go_sem, z0, z1, z2]) rfl (GivQ.of ⟨_, _, _, rfl, hM, HB3⟩)

theorem round1_lo_no {w : World} {x : Iv} {g gp p : Nat} {A1 : Option Addr} {n1 c1 : Nat} {A2 : Option Addr} {n2 c2 : Nat} {s : Bool} {m : Nat} {e k : Int} (hT : Tab w) (h1 : Rd w .u64 Go.Proofs.YteagjlcmgiknmaaGreatDoor.W A1 n1 c1 x.lo.l) (xa : Ibx w g x.lo.s A1 n1 c1 x.lo.e x.hi.s A2 n2 c2 x.hi.e) (xp : Cel w gp (p : Int)) (hd : x.lo.may = true) (hp1 : 1 ≤ p) (hp : p ≤ 2000) (hh : RdTold x.lo.s (val Go.Proofs.YteagjlcmgiknmaaGreatDoor.W x.lo.l) x.lo.e p false k s m e) (hk : k ≠ 0) :
  Calls Tryz.prog 75 #[.bool false, .pointer (some ⟨g, 0, none⟩), .pointer (some ⟨gp, 0, none⟩)] w (Faults k w) := by
 have BB := below_alloc w (.cells #[.bool false, .slice none 0 0, .int .i64 0] 25)
 have la := xa.gl
 have lp := xp.gl
 have G := mv BB rfl (J4 hT h1 xa xp)
 clear hT h1 xa xp
 obtain ⟨hT, h1, xa, xp⟩ := G
 obtain ⟨a0, a1, a2, a3, a4, a5⟩ := xa.held
 have p0 := xp.c0
 clear xa xp
 obtain ⟨hN, hO, _⟩ := rd_okd h1 hd
 have HO := Lib.hid hO
 have HH := Lib.hid hh
 clear hO hd hh
 have HKZ := Lib.hid hk
 clear hk
 go_enter Tryz.func75, Tryz.ntmps75
 go_wp2_with fail
 refine (told_is' (rdown_ok (p := p) hT hN HO.out hp1 hp) (fun _ _ _ _ h => nm_fun h HH.out)).mono ?_
 rintro en w1 ⟨A3, n3, c3, rfl, h3, b⟩
 replace BB := bnx BB b
 have G := mv b rfl (J10 hT h1 a0 a1 a2 a3 a4 a5 p0 hN)
 clear b hT h1 a0 a1 a2 a3 a4 a5 p0 hN
 obtain ⟨hT, h1, a0, a1, a2, a3, a4, a5, p0, hN⟩ := G
 go_wp2_with fail
 refine (must_bad HKZ.out).mono ?_
 rintro en w2 ⟨rfl, b⟩
 replace BB := bnx BB b
 clear b
 go_wp2
 exact ⟨rfl, rfl, BB⟩

theorem round1_hi_ok {w : World} {x : Iv} {g gp p : Nat} {A1 : Option Addr} {n1 c1 : Nat} {A2 : Option Addr} {n2 c2 : Nat} {s : Bool} {m : Nat} {e : Int} (hT : Tab w) (h2 : Rd w .u64 Go.Proofs.YteagjlcmgiknmaaGreatDoor.W A2 n2 c2 x.hi.l) (xa : Ibx w g x.lo.s A1 n1 c1 x.lo.e x.hi.s A2 n2 c2 x.hi.e) (xp : Cel w gp (p : Int)) (hd : x.hi.may = true) (hp1 : 1 ≤ p) (hp : p ≤ 2000) (hh : RdTold x.hi.s (val Go.Proofs.YteagjlcmgiknmaaGreatDoor.W x.hi.l) x.hi.e p true 0 s m e) :
  Calls Tryz.prog 75 #[.bool true, .pointer (some ⟨g, 0, none⟩), .pointer (some ⟨gp, 0, none⟩)] w (GivQ (Rw.of s m e) w) := by
 have BB := below_alloc w (.cells #[.bool false, .slice none 0 0, .int .i64 0] 25)
 have la := xa.gl
 have lp := xp.gl
 have G := mv BB rfl (J4 hT h2 xa xp)
 clear hT h2 xa xp
 obtain ⟨hT, h2, xa, xp⟩ := G
 have r := Box.new w false none 0 0 0
 obtain ⟨a0, a1, a2, a3, a4, a5⟩ := xa.held
 have p0 := xp.c0
 clear xa xp
 obtain ⟨hN, hO, _⟩ := rd_okd h2 hd
 have HO := Lib.hid hO
 have HH := Lib.hid hh
 clear hO hd hh
 go_enter Tryz.func75, Tryz.ntmps75
 go_wp2_with fail
 refine (told_is' (rup_ok (p := p) hT hN HO.out hp1 hp) (fun _ _ _ _ h => nm_fun h HH.out)).mono ?_
 rintro en w1 ⟨A3, n3, c3, rfl, h3, b⟩
 replace BB := bnx BB b
 have G := mv b rfl (J11 hT h2 r a0 a1 a2 a3 a4 a5 p0 hN)
 clear b hT h2 r a0 a1 a2 a3 a4 a5 p0 hN
 obtain ⟨hT, h2, r, a0, a1, a2, a3, a4, a5, p0, hN⟩ := G
 go_wp2_with fail
 refine (must_ok h3).mono ?_
 rintro en w2 ⟨A5, n5, c5, rfl, h5, b⟩
 clear h3
 replace BB := bnx BB b
 have G := mv b rfl (J11 hT h2 r a0 a1 a2 a3 a4 a5 p0 hN)
 clear b hT h2 r a0 a1 a2 a3 a4 a5 p0 hN
 obtain ⟨hT, h2, r, a0, a1, a2, a3, a4, a5, p0, hN⟩ := G
 obtain ⟨f0, f1, f2⟩ := r.open
 obtain ⟨z0, z1, z2⟩ := r.held
 go_wp2
 have qq := r.put s A5 n5 c5 e
 have hM := h5.put3 r (.bool s) (.slice A5 n5 c5) (.int .i64 e)
 have HB3 := below_put3 (g := w.heap.size) BB (by omega) (.bool s) (.slice A5 n5 c5) (.int .i64 e)
 obtain ⟨z0, z1, z2⟩ := qq.held
 exact bodyPost_ret (v := .agg #[.bool s, .slice A5 n5 c5, .int .i64 e]) (by simp [results, Tryz.results75, go_sem, z0, z1, z2]) rfl (GivQ.of ⟨_, _, _, rfl, hM, HB3⟩)

theorem round1_hi_no {w : World} {x : Iv} {g gp p : Nat} {A1 : Option Addr} {n1 c1 : Nat} {A2 : Option Addr} {n2 c2 : Nat} {s : Bool} {m : Nat} {e k : Int} (hT : Tab w) (h2 : Rd w .u64 Go.Proofs.YteagjlcmgiknmaaGreatDoor.W A2 n2 c2 x.hi.l) (xa : Ibx w g x.lo.s A1 n1 c1 x.lo.e x.hi.s A2 n2 c2 x.hi.e) (xp : Cel w gp (p : Int)) (hd : x.hi.may = true) (hp1 : 1 ≤ p) (hp : p ≤ 2000) (hh : RdTold x.hi.s (val Go.Proofs.YteagjlcmgiknmaaGreatDoor.W x.hi.l) x.hi.e p true k s m e) (hk : k ≠ 0) :
  Calls Tryz.prog 75 #[.bool true, .pointer (some ⟨g, 0, none⟩), .pointer (some ⟨gp, 0, none⟩)] w (Faults k w) := by
 have BB := below_alloc w (.cells #[.bool false, .slice none 0 0, .int .i64 0] 25)
 have la := xa.gl
 have lp := xp.gl
 have G := mv BB rfl (J4 hT h2 xa xp)
 clear hT h2 xa xp
 obtain ⟨hT, h2, xa, xp⟩ := G
 obtain ⟨a0, a1, a2, a3, a4, a5⟩ := xa.held
 have p0 := xp.c0
 clear xa xp
 obtain ⟨hN, hO, _⟩ := rd_okd h2 hd
 have HO := Lib.hid hO
 have HH := Lib.hid hh
 clear hO hd hh
 have HKZ := Lib.hid hk
 clear hk
 go_enter Tryz.func75, Tryz.ntmps75
 go_wp2_with fail
 refine (told_is' (rup_ok (p := p) hT hN HO.out hp1 hp) (fun _ _ _ _ h => nm_fun h HH.out)).mono ?_
 rintro en w1 ⟨A3, n3, c3, rfl, h3, b⟩
 replace BB := bnx BB b
 have G := mv b rfl (J10 hT h2 a0 a1 a2 a3 a4 a5 p0 hN)
 clear b hT h2 a0 a1 a2 a3 a4 a5 p0 hN
 obtain ⟨hT, h2, a0, a1, a2, a3, a4, a5, p0, hN⟩ := G
 go_wp2_with fail
 refine (must_bad HKZ.out).mono ?_
 rintro en w2 ⟨rfl, b⟩
 replace BB := bnx BB b
 clear b
 go_wp2
 exact ⟨rfl, rfl, BB⟩

theorem told_len {s : Bool} {x : Nat} {e : Int} {p : Nat} {u : Bool} {k : Int} {s' : Bool} {m' : Nat} {e' : Int} (h : RdTold s x e p u k s' m' e') : (Rw.of s' m' e').l.length ≤ 10000000000000 := by
 have hm := (mayD_of (Rw.of s' m' e').lt (Rw.of_may (nm_okd h))).1
 unfold mayB at hm
 simp only [Bool.and_eq_true, decide_eq_true_eq] at hm
 omega

theorem iround_ok {w : World} {K p : Nat} {x : Iv} {A1 : Option Addr} {n1 c1 : Nat} {A2 : Option Addr} {n2 c2 : Nat} {s s' : Bool} {m m' : Nat} {e e' : Int} (hK : 4194304 ≤ K) (hT : Tab w) (h1 : Rd w .u64 Go.Proofs.YteagjlcmgiknmaaGreatDoor.W A1 n1 c1 x.lo.l) (h2 : Rd w .u64 Go.Proofs.YteagjlcmgiknmaaGreatDoor.W A2 n2 c2 x.hi.l) (hm : mayI K x = true) (hp1 : 1 ≤ p) (hp : p ≤ 2000) (hl : RdTold x.lo.s (val Go.Proofs.YteagjlcmgiknmaaGreatDoor.W x.lo.l) x.lo.e p false 0 s m e) (hh : RdTold x.hi.s (val Go.Proofs.YteagjlcmgiknmaaGreatDoor.W x.hi.l) x.hi.e p true 0 s' m' e') :
  Calls Tryz.prog 47 #[.agg #[.bool x.lo.s, .slice A1 n1 c1, .int .i64 x.lo.e, .bool x.hi.s, .slice A2 n2 c2, .int .i64 x.hi.e], .int .i64 (p : Int)] w (TellI 0 ⟨Rw.of s m e, Rw.of s' m' e'⟩ w) := by
 have BB := three_below w (.cells #[.bool x.lo.s, .slice A1 n1 c1, .int .i64 x.lo.e, .bool x.hi.s, .slice A2 n2 c2, .int .i64 x.hi.e] 29) (.cells #[.int .i64 (p : Int)] 3) (.cells #[.bool false, .slice none 0 0, .int .i64 0, .bool false, .slice none 0 0, .int .i64 0] 29)
 have xa := ((Ibx.new w x.lo.s A1 n1 c1 x.lo.e x.hi.s A2 n2 c2 x.hi.e).alloc (.cells #[.int .i64 (p : Int)] 3)).alloc (.cells #[.bool false, .slice none 0 0, .int .i64 0, .bool false, .slice none 0 0, .int .i64 0] 29)
 have xp := (Cel.new1 w (.cells #[.bool x.lo.s, .slice A1 n1 c1, .int .i64 x.lo.e, .bool x.hi.s, .slice A2 n2 c2, .int .i64 x.hi.e] 29) (p : Int)).alloc (.cells #[.bool false, .slice none 0 0, .int .i64 0, .bool false, .slice none 0 0, .int .i64 0] 29)
 have r := ibx_two w (.cells #[.bool x.lo.s, .slice A1 n1 c1, .int .i64 x.lo.e, .bool x.hi.s, .slice A2 n2 c2, .int .i64 x.hi.e] 29) (.cells #[.int .i64 (p : Int)] 3) false none 0 0 0 false none 0 0 0
 have hmf := make_func
 obtain ⟨a0, a1, a2, a3, a4, a5⟩ := xa.held
 have G := mv BB rfl (J3 hT h1 h2)
 clear hT h1 h2
 obtain ⟨hT, h1, h2⟩ := G
 have rw1 := rows_one (up3 w (.cells #[.bool x.lo.s, .slice A1 n1 c1, .int .i64 x.lo.e, .bool x.hi.s, .slice A2 n2 c2, .int .i64 x.hi.e] 29) (.cells #[.int .i64 (p : Int)] 3) (.cells #[.bool false, .slice none 0 0, .int .i64 0, .bool false, .slice none 0 0, .int .i64 0] 29)) h1 h2
 have b := below_alloc (((w.alloc (.cells #[.bool x.lo.s, .slice A1 n1 c1, .int .i64 x.lo.e, .bool x.hi.s, .slice A2 n2 c2, .int .i64 x.hi.e] 29)).alloc (.cells #[.int .i64 (p : Int)] 3)).alloc (.cells #[.bool false, .slice none 0 0, .int .i64 0, .bool false, .slice none 0 0, .int .i64 0] 29)) (.cells #[.bool x.lo.s, .slice A1 n1 c1, .int .i64 x.lo.e, .bool x.hi.s, .slice A2 n2 c2, .int .i64 x.hi.e] 29)
 replace BB := bnx BB b
 have G := mv b rfl (J6 hT h1 h2 r xa xp)
 clear b hT h1 h2 r xa xp
 obtain ⟨hT, h1, h2, r, xa, xp⟩ := G
 go_enter Tryz.func47, Tryz.ntmps47
 go_wp2_with fail
 refine (asked_ok (x := ⟨Rw.of s m e, Rw.of s' m' e'⟩) hK hT rw1 (by omega) (one_may.2 hm) (fun W2 b2 => ends2_ok (x := ⟨Rw.of s m e, Rw.of s' m' e'⟩) (fun _ _ => by kernel_rfl) (told_len hl) (fun W3 b3 => round1_lo_ok (mv (b2.trans (b3.mono b2.size)) rfl hT) (mv (b2.trans (b3.mono b2.size)) rfl h1) (mv (b2.trans (b3.mono b2.size)) rfl xa) (mv (b2.trans (b3.mono b2.size)) rfl xp) (mayI_iff.1 hm).1 hp1 hp hl) (told_len hh) (fun W3 b3 => round1_hi_ok (mv (b2.trans (b3.mono b2.size)) rfl hT) (mv (b2.trans (b3.mono b2.size)) rfl h2) (mv (b2.trans (b3.mono b2.size)) rfl xa) (mv (b2.trans (b3.mono b2.size)) rfl xp) (mayI_iff.1 hm).2.1 hp1 hp hh))).mono ?_
 rintro en w5 ⟨A5, n5, c5, A6, n6, c6, rfl, h5, h6, b⟩
 clear hT h1 h2 xa xp rw1
 replace BB := bnx BB b
 replace r := mv b rfl r
 clear b
 obtain ⟨f0, f1, f2, f3, f4, f5⟩ := r.open
 obtain ⟨z0, z1, z2, z3, z4, z5⟩ := r.held
 go_wp2
 have qq := r.put (Rw.of s m e).s A5 n5 c5 (Rw.of s m e).e (Rw.of s' m' e').s A6 n6 c6 (Rw.of s' m' e').e
 have hN := h5.put6 r (.bool (Rw.of s m e).s) (.slice A5 n5 c5) (.int .i64 (Rw.of s m e).e) (.bool (Rw.of s' m' e').s) (.slice A6 n6 c6) (.int .i64 (Rw.of s' m' e').e)
 have hM := h6.put6 r (.bool (Rw.of s m e).s) (.slice A5 n5 c5) (.int .i64 (Rw.of s m e).e) (.bool (Rw.of s' m' e').s) (.slice A6 n6 c6) (.int .i64 (Rw.of s' m' e').e)
 have HB3 := below_put6 (g := w.heap.size + 2) BB (by omega) (.bool (Rw.of s m e).s) (.slice A5 n5 c5) (.int .i64 (Rw.of s m e).e) (.bool (Rw.of s' m' e').s) (.slice A6 n6 c6) (.int .i64 (Rw.of s' m' e').e)
 obtain ⟨z0, z1, z2, z3, z4, z5⟩ := qq.held
 exact bodyPost_ret (v := .tuple #[.agg #[.bool (Rw.of s m e).s, .slice A5 n5 c5, .int .i64 (Rw.of s m e).e, .bool (Rw.of s' m' e').s, .slice A6 n6 c6, .int .i64 (Rw.of s' m' e').e], .int .i64 0]) (by simp [results, Tryz.results47, go_sem, z0, z1, z2, z3, z4, z5]) rfl ⟨_, _, _, _, _, _, rfl, hN, hM, HB3⟩

theorem iround_lo {w : World} {K p : Nat} {x : Iv} {A1 : Option Addr} {n1 c1 : Nat} {A2 : Option Addr} {n2 c2 : Nat} {k : Int} {s : Bool} {m : Nat} {e : Int} (hK : 4194304 ≤ K) (hT : Tab w) (h1 : Rd w .u64 Go.Proofs.YteagjlcmgiknmaaGreatDoor.W A1 n1 c1 x.lo.l) (h2 : Rd w .u64 Go.Proofs.YteagjlcmgiknmaaGreatDoor.W A2 n2 c2 x.hi.l) (hm : mayI K x = true) (hp1 : 1 ≤ p) (hp : p ≤ 2000) (hl : RdTold x.lo.s (val Go.Proofs.YteagjlcmgiknmaaGreatDoor.W x.lo.l) x.lo.e p false k s m e) (hk : k ≠ 0) :
  Calls Tryz.prog 47 #[.agg #[.bool x.lo.s, .slice A1 n1 c1, .int .i64 x.lo.e, .bool x.hi.s, .slice A2 n2 c2, .int .i64 x.hi.e], .int .i64 (p : Int)] w (TellI k Iv.zero w) := by
 have BB := three_below w (.cells #[.bool x.lo.s, .slice A1 n1 c1, .int .i64 x.lo.e, .bool x.hi.s, .slice A2 n2 c2, .int .i64 x.hi.e] 29) (.cells #[.int .i64 (p : Int)] 3) (.cells #[.bool false, .slice none 0 0, .int .i64 0, .bool false, .slice none 0 0, .int .i64 0] 29)
 have xa := ((Ibx.new w x.lo.s A1 n1 c1 x.lo.e x.hi.s A2 n2 c2 x.hi.e).alloc (.cells #[.int .i64 (p : Int)] 3)).alloc (.cells #[.bool false, .slice none 0 0, .int .i64 0, .bool false, .slice none 0 0, .int .i64 0] 29)
 have xp := (Cel.new1 w (.cells #[.bool x.lo.s, .slice A1 n1 c1, .int .i64 x.lo.e, .bool x.hi.s, .slice A2 n2 c2, .int .i64 x.hi.e] 29) (p : Int)).alloc (.cells #[.bool false, .slice none 0 0, .int .i64 0, .bool false, .slice none 0 0, .int .i64 0] 29)
 have r := ibx_two w (.cells #[.bool x.lo.s, .slice A1 n1 c1, .int .i64 x.lo.e, .bool x.hi.s, .slice A2 n2 c2, .int .i64 x.hi.e] 29) (.cells #[.int .i64 (p : Int)] 3) false none 0 0 0 false none 0 0 0
 have hmf := make_func
 obtain ⟨a0, a1, a2, a3, a4, a5⟩ := xa.held
 have G := mv BB rfl (J3 hT h1 h2)
 clear hT h1 h2
 obtain ⟨hT, h1, h2⟩ := G
 have rw1 := rows_one (up3 w (.cells #[.bool x.lo.s, .slice A1 n1 c1, .int .i64 x.lo.e, .bool x.hi.s, .slice A2 n2 c2, .int .i64 x.hi.e] 29) (.cells #[.int .i64 (p : Int)] 3) (.cells #[.bool false, .slice none 0 0, .int .i64 0, .bool false, .slice none 0 0, .int .i64 0] 29)) h1 h2
 have b := below_alloc (((w.alloc (.cells #[.bool x.lo.s, .slice A1 n1 c1, .int .i64 x.lo.e, .bool x.hi.s, .slice A2 n2 c2, .int .i64 x.hi.e] 29)).alloc (.cells #[.int .i64 (p : Int)] 3)).alloc (.cells #[.bool false, .slice none 0 0, .int .i64 0, .bool false, .slice none 0 0, .int .i64 0] 29)) (.cells #[.bool x.lo.s, .slice A1 n1 c1, .int .i64 x.lo.e, .bool x.hi.s, .slice A2 n2 c2, .int .i64 x.hi.e] 29)
 replace BB := bnx BB b
 have G := mv b rfl (J6 hT h1 h2 r xa xp)
 clear b hT h1 h2 r xa xp
 obtain ⟨hT, h1, h2, r, xa, xp⟩ := G
 obtain ⟨q, hq⟩ : ∃ q, q = Iv.zero := ⟨_, rfl⟩
 rw [← hq]
 have HQ := Lib.hid hq
 clear hq
 go_enter Tryz.func47, Tryz.ntmps47
 go_wp2_with fail
 refine (asked_fault (e := k) hK hT rw1 (by omega) (one_may.2 hm) (fun W2 b2 => ends2_lo (fun _ _ => by kernel_rfl) (fun W3 b3 => round1_lo_no (mv (b2.trans (b3.mono b2.size)) rfl hT) (mv (b2.trans (b3.mono b2.size)) rfl h1) (mv (b2.trans (b3.mono b2.size)) rfl xa) (mv (b2.trans (b3.mono b2.size)) rfl xp) (mayI_iff.1 hm).1 hp1 hp hl hk))).mono ?_
 rw [← HQ.out]
 rintro en w5 ⟨A5, n5, c5, A6, n6, c6, rfl, h5, h6, b⟩
 clear hT h1 h2 xa xp rw1
 replace BB := bnx BB b
 replace r := mv b rfl r
 clear b
 obtain ⟨f0, f1, f2, f3, f4, f5⟩ := r.open
 obtain ⟨z0, z1, z2, z3, z4, z5⟩ := r.held
 go_wp2
 have qq := r.put q.lo.s A5 n5 c5 q.lo.e q.hi.s A6 n6 c6 q.hi.e
 have hN := h5.put6 r (.bool q.lo.s) (.slice A5 n5 c5) (.int .i64 q.lo.e) (.bool q.hi.s) (.slice A6 n6 c6) (.int .i64 q.hi.e)
 have hM := h6.put6 r (.bool q.lo.s) (.slice A5 n5 c5) (.int .i64 q.lo.e) (.bool q.hi.s) (.slice A6 n6 c6) (.int .i64 q.hi.e)
 have HB3 := below_put6 (g := w.heap.size + 2) BB (by omega) (.bool q.lo.s) (.slice A5 n5 c5) (.int .i64 q.lo.e) (.bool q.hi.s) (.slice A6 n6 c6) (.int .i64 q.hi.e)
 obtain ⟨z0, z1, z2, z3, z4, z5⟩ := qq.held
 exact bodyPost_ret (v := .tuple #[.agg #[.bool q.lo.s, .slice A5 n5 c5, .int .i64 q.lo.e, .bool q.hi.s, .slice A6 n6 c6, .int .i64 q.hi.e], .int .i64 k]) (by simp [results, Tryz.results47, go_sem, z0, z1, z2, z3, z4, z5]) rfl ⟨_, _, _, _, _, _, rfl, hN, hM, HB3⟩

theorem iround_hi {w : World} {K p : Nat} {x : Iv} {A1 : Option Addr} {n1 c1 : Nat} {A2 : Option Addr} {n2 c2 : Nat} {k : Int} {s s' : Bool} {m m' : Nat} {e e' : Int} (hK : 4194304 ≤ K) (hT : Tab w) (h1 : Rd w .u64 Go.Proofs.YteagjlcmgiknmaaGreatDoor.W A1 n1 c1 x.lo.l) (h2 : Rd w .u64 Go.Proofs.YteagjlcmgiknmaaGreatDoor.W A2 n2 c2 x.hi.l) (hm : mayI K x = true) (hp1 : 1 ≤ p) (hp : p ≤ 2000) (hl : RdTold x.lo.s (val Go.Proofs.YteagjlcmgiknmaaGreatDoor.W x.lo.l) x.lo.e p false 0 s m e) (hh : RdTold x.hi.s (val Go.Proofs.YteagjlcmgiknmaaGreatDoor.W x.hi.l) x.hi.e p true k s' m' e') (hk : k ≠ 0) :
  Calls Tryz.prog 47 #[.agg #[.bool x.lo.s, .slice A1 n1 c1, .int .i64 x.lo.e, .bool x.hi.s, .slice A2 n2 c2, .int .i64 x.hi.e], .int .i64 (p : Int)] w (TellI k Iv.zero w) := by
 have BB := three_below w (.cells #[.bool x.lo.s, .slice A1 n1 c1, .int .i64 x.lo.e, .bool x.hi.s, .slice A2 n2 c2, .int .i64 x.hi.e] 29) (.cells #[.int .i64 (p : Int)] 3) (.cells #[.bool false, .slice none 0 0, .int .i64 0, .bool false, .slice none 0 0, .int .i64 0] 29)
 have xa := ((Ibx.new w x.lo.s A1 n1 c1 x.lo.e x.hi.s A2 n2 c2 x.hi.e).alloc (.cells #[.int .i64 (p : Int)] 3)).alloc (.cells #[.bool false, .slice none 0 0, .int .i64 0, .bool false, .slice none 0 0, .int .i64 0] 29)
 have xp := (Cel.new1 w (.cells #[.bool x.lo.s, .slice A1 n1 c1, .int .i64 x.lo.e, .bool x.hi.s, .slice A2 n2 c2, .int .i64 x.hi.e] 29) (p : Int)).alloc (.cells #[.bool false, .slice none 0 0, .int .i64 0, .bool false, .slice none 0 0, .int .i64 0] 29)
 have r := ibx_two w (.cells #[.bool x.lo.s, .slice A1 n1 c1, .int .i64 x.lo.e, .bool x.hi.s, .slice A2 n2 c2, .int .i64 x.hi.e] 29) (.cells #[.int .i64 (p : Int)] 3) false none 0 0 0 false none 0 0 0
 have hmf := make_func
 obtain ⟨a0, a1, a2, a3, a4, a5⟩ := xa.held
 have G := mv BB rfl (J3 hT h1 h2)
 clear hT h1 h2
 obtain ⟨hT, h1, h2⟩ := G
 have rw1 := rows_one (up3 w (.cells #[.bool x.lo.s, .slice A1 n1 c1, .int .i64 x.lo.e, .bool x.hi.s, .slice A2 n2 c2, .int .i64 x.hi.e] 29) (.cells #[.int .i64 (p : Int)] 3) (.cells #[.bool false, .slice none 0 0, .int .i64 0, .bool false, .slice none 0 0, .int .i64 0] 29)) h1 h2
 have b := below_alloc (((w.alloc (.cells #[.bool x.lo.s, .slice A1 n1 c1, .int .i64 x.lo.e, .bool x.hi.s, .slice A2 n2 c2, .int .i64 x.hi.e] 29)).alloc (.cells #[.int .i64 (p : Int)] 3)).alloc (.cells #[.bool false, .slice none 0 0, .int .i64 0, .bool false, .slice none 0 0, .int .i64 0] 29)) (.cells #[.bool x.lo.s, .slice A1 n1 c1, .int .i64 x.lo.e, .bool x.hi.s, .slice A2 n2 c2, .int .i64 x.hi.e] 29)
 replace BB := bnx BB b
 have G := mv b rfl (J6 hT h1 h2 r xa xp)
 clear b hT h1 h2 r xa xp
 obtain ⟨hT, h1, h2, r, xa, xp⟩ := G
 obtain ⟨q, hq⟩ : ∃ q, q = Iv.zero := ⟨_, rfl⟩
 rw [← hq]
 have HQ := Lib.hid hq
 clear hq
 go_enter Tryz.func47, Tryz.ntmps47
 go_wp2_with fail
 refine (asked_fault (e := k) hK hT rw1 (by omega) (one_may.2 hm) (fun W2 b2 => ends2_hi (x := ⟨Rw.of s m e, Rw.zero⟩) (fun _ _ => by kernel_rfl) (told_len hl) (fun W3 b3 => round1_lo_ok (mv (b2.trans (b3.mono b2.size)) rfl hT) (mv (b2.trans (b3.mono b2.size)) rfl h1) (mv (b2.trans (b3.mono b2.size)) rfl xa) (mv (b2.trans (b3.mono b2.size)) rfl xp) (mayI_iff.1 hm).1 hp1 hp hl) (fun W3 b3 => round1_hi_no (mv (b2.trans (b3.mono b2.size)) rfl hT) (mv (b2.trans (b3.mono b2.size)) rfl h2) (mv (b2.trans (b3.mono b2.size)) rfl xa) (mv (b2.trans (b3.mono b2.size)) rfl xp) (mayI_iff.1 hm).2.1 hp1 hp hh hk))).mono ?_
 rw [← HQ.out]
 rintro en w5 ⟨A5, n5, c5, A6, n6, c6, rfl, h5, h6, b⟩
 clear hT h1 h2 xa xp rw1
 replace BB := bnx BB b
 replace r := mv b rfl r
 clear b
 obtain ⟨f0, f1, f2, f3, f4, f5⟩ := r.open
 obtain ⟨z0, z1, z2, z3, z4, z5⟩ := r.held
 go_wp2
 have qq := r.put q.lo.s A5 n5 c5 q.lo.e q.hi.s A6 n6 c6 q.hi.e
 have hN := h5.put6 r (.bool q.lo.s) (.slice A5 n5 c5) (.int .i64 q.lo.e) (.bool q.hi.s) (.slice A6 n6 c6) (.int .i64 q.hi.e)
 have hM := h6.put6 r (.bool q.lo.s) (.slice A5 n5 c5) (.int .i64 q.lo.e) (.bool q.hi.s) (.slice A6 n6 c6) (.int .i64 q.hi.e)
 have HB3 := below_put6 (g := w.heap.size + 2) BB (by omega) (.bool q.lo.s) (.slice A5 n5 c5) (.int .i64 q.lo.e) (.bool q.hi.s) (.slice A6 n6 c6) (.int .i64 q.hi.e)
 obtain ⟨z0, z1, z2, z3, z4, z5⟩ := qq.held
 exact bodyPost_ret (v := .tuple #[.agg #[.bool q.lo.s, .slice A5 n5 c5, .int .i64 q.lo.e, .bool q.hi.s, .slice A6 n6 c6, .int .i64 q.hi.e], .int .i64 k]) (by simp [results, Tryz.results47, go_sem, z0, z1, z2, z3, z4, z5]) rfl ⟨_, _, _, _, _, _, rfl, hN, hM, HB3⟩

end Go.Proofs.YteagjlcmgiknmaaGreatDoor
